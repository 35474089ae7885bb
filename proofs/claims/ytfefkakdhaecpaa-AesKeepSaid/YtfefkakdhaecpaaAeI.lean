/-
  The contract of aes' substituted.
  Conditions: the cipher's table is S.
-/
import Derived.Test.YtfefkakdhaecpaaAeH
namespace Go.Proofs.Ytfefkakdhaecpaa.Ae
open Go.RowKit By
set_option linter.unusedVariables false
set_option linter.unusedSimpArgs false

set_option maxRecDepth 100000 in
set_option maxHeartbeats 2000000 in
theorem substituted_c (b : Nat) (f : Nat → Nat) (w : World) (C : Ay w b 0 256 sbox) (hf : ∀ i, i < 16 → f i < 256) :
    Calls Try.prog 28 #[.pointer (some ⟨b, 0, none⟩), .agg (ac f 16).toArray] w fun e w' => e = .returned (.agg (ac (mv f) 16).toArray) ∧ Below w.heap.size w w' := by
  have WS := Lib.hid (balloc (balloc (balloc (brefl w) (.cells (ac f 16).toArray 38)) (.cells #[.int .u8 0, .int .u8 0, .int .u8 0, .int .u8 0, .int .u8 0, .int .u8 0, .int .u8 0, .int .u8 0, .int .u8 0, .int .u8 0, .int .u8 0, .int .u8 0, .int .u8 0, .int .u8 0, .int .u8 0, .int .u8 0] 38)) (.cells #[.int .u8 0, .int .u8 0, .int .u8 0, .int .u8 0, .int .u8 0, .int .u8 0, .int .u8 0, .int .u8 0, .int .u8 0, .int .u8 0, .int .u8 0, .int .u8 0, .int .u8 0, .int .u8 0, .int .u8 0, .int .u8 0] 38))
  have A0 := Lib.hid (((Ay.newC w 16 f 38 hf).below (balloc (brefl _) (.cells #[.int .u8 0, .int .u8 0, .int .u8 0, .int .u8 0, .int .u8 0, .int .u8 0, .int .u8 0, .int .u8 0, .int .u8 0, .int .u8 0, .int .u8 0, .int .u8 0, .int .u8 0, .int .u8 0, .int .u8 0, .int .u8 0] 38))).below (balloc (brefl _) (.cells #[.int .u8 0, .int .u8 0, .int .u8 0, .int .u8 0, .int .u8 0, .int .u8 0, .int .u8 0, .int .u8 0, .int .u8 0, .int .u8 0, .int .u8 0, .int .u8 0, .int .u8 0, .int .u8 0, .int .u8 0, .int .u8 0] 38)))
  have R0 := Lib.hid ((Ay.new0 (w.alloc (.cells (ac f 16).toArray 38)) 16 38).below (balloc (brefl _) (.cells #[.int .u8 0, .int .u8 0, .int .u8 0, .int .u8 0, .int .u8 0, .int .u8 0, .int .u8 0, .int .u8 0, .int .u8 0, .int .u8 0, .int .u8 0, .int .u8 0, .int .u8 0, .int .u8 0, .int .u8 0, .int .u8 0] 38)))
  have N0 := Lib.hid (Ay.new0 ((w.alloc (.cells (ac f 16).toArray 38)).alloc (.cells #[.int .u8 0, .int .u8 0, .int .u8 0, .int .u8 0, .int .u8 0, .int .u8 0, .int .u8 0, .int .u8 0, .int .u8 0, .int .u8 0, .int .u8 0, .int .u8 0, .int .u8 0, .int .u8 0, .int .u8 0, .int .u8 0] 38)) 16 38)
  rw [sz_alloc] at R0
  rw [sz_alloc, sz_alloc] at N0
  replace R0 : Hid (Ay (((w.alloc (.cells (ac f 16).toArray 38)).alloc (.cells #[.int .u8 0, .int .u8 0, .int .u8 0, .int .u8 0, .int .u8 0, .int .u8 0, .int .u8 0, .int .u8 0, .int .u8 0, .int .u8 0, .int .u8 0, .int .u8 0, .int .u8 0, .int .u8 0, .int .u8 0, .int .u8 0] 38)).alloc (.cells #[.int .u8 0, .int .u8 0, .int .u8 0, .int .u8 0, .int .u8 0, .int .u8 0, .int .u8 0, .int .u8 0, .int .u8 0, .int .u8 0, .int .u8 0, .int .u8 0, .int .u8 0, .int .u8 0, .int .u8 0, .int .u8 0] 38)) (w.heap.size + 1) 0 16 (fun _ => 0)) := R0
  replace N0 : Hid (Ay (((w.alloc (.cells (ac f 16).toArray 38)).alloc (.cells #[.int .u8 0, .int .u8 0, .int .u8 0, .int .u8 0, .int .u8 0, .int .u8 0, .int .u8 0, .int .u8 0, .int .u8 0, .int .u8 0, .int .u8 0, .int .u8 0, .int .u8 0, .int .u8 0, .int .u8 0, .int .u8 0] 38)).alloc (.cells #[.int .u8 0, .int .u8 0, .int .u8 0, .int .u8 0, .int .u8 0, .int .u8 0, .int .u8 0, .int .u8 0, .int .u8 0, .int .u8 0, .int .u8 0, .int .u8 0, .int .u8 0, .int .u8 0, .int .u8 0, .int .u8 0] 38)) (w.heap.size + 1 + 1) 0 16 (fun _ => 0)) := N0
  have C0 := Lib.hid (C.below WS.out)
  have CL := C.1
  have HF := Lib.hid hf
  clear hf C
  go_enter Try.func28, Try.ntmps28
  go_wp2_with fail
  generalize (((w.alloc (.cells (ac f 16).toArray 38)).alloc (.cells #[.int .u8 0, .int .u8 0, .int .u8 0, .int .u8 0, .int .u8 0, .int .u8 0, .int .u8 0, .int .u8 0, .int .u8 0, .int .u8 0, .int .u8 0, .int .u8 0, .int .u8 0, .int .u8 0, .int .u8 0, .int .u8 0] 38)).alloc (.cells #[.int .u8 0, .int .u8 0, .int .u8 0, .int .u8 0, .int .u8 0, .int .u8 0, .int .u8 0, .int .u8 0, .int .u8 0, .int .u8 0, .int .u8 0, .int .u8 0, .int .u8 0, .int .u8 0, .int .u8 0, .int .u8 0] 38)) = W0 at *
  go_loopw [8] (fun i wr => ∃ k : Nat, k ≤ 16 ∧ i = .int .i64 k ∧ Ay wr w.heap.size 0 16 f ∧ Ay wr (w.heap.size + 1) 0 16 (fun _ => 0) ∧ Ay wr (w.heap.size + 1 + 1) 0 16 (fun i => if i < k then mv f i else 0) ∧ Ay wr b 0 256 sbox ∧ Below w.heap.size W0 wr) (fun i _ => 16 - (intOf i).toNat)
  case atStart => exact ⟨0, by omega, rfl, A0.out, R0.out, N0.out.eq (by simp), C0.out, Below.refl _ _⟩
  case round =>
    obtain ⟨k, hk, rfl, ar, rr, nr, cr, hb⟩ := hrel
    rename World => wr
    have AR := Lib.hid ar
    have RR := Lib.hid rr
    have NR := Lib.hid nr
    have CR := Lib.hid cr
    have BB := Lib.hid hb
    clear ar rr nr cr hb
    by_cases c : k < 16
    · have e0 : decide ((k : Int) < 16) = true := by rw [decide_eq_true_iff]; omega
      have ql : (k + 4 * (k % 4)) % 16 < 16 := by omega
      have ME : Hid (mv f k = sbox (f ((k + 4 * (k % 4)) % 16))) := by
        show sbox (f (k % 4 + 4 * ((k / 4 + k % 4) % 4))) = _
        rw [show k % 4 + 4 * ((k / 4 + k % 4) % 4) = (k + 4 * (k % 4)) % 16 from by omega]
      obtain ⟨a1, a2⟩ := AR.out.at ql
      have VL := HF.out _ ql
      obtain ⟨s1, s2⟩ := CR.out.at VL
      obtain ⟨n1, n2⟩ := NR.out.at c
      have ZL := sbox_lt (f ((k + 4 * (k % 4)) % 16))
      have ST := Lib.hid (NR.out.set0 k (sbox (f ((k + 4 * (k % 4)) % 16))) c ZL)
      have d1 : (k : Int).tmod 4 = ((k % 4 : Nat) : Int) := by rw [Int.tmod_eq_emod_of_nonneg (by omega)]; omega
      have d2 : ((k : Int) + 4 * ((k % 4 : Nat) : Int)).tmod 16 = (((k + 4 * (k % 4)) % 16 : Nat) : Int) := by rw [Int.tmod_eq_emod_of_nonneg (by omega)]; omega
      have r1 : k % 4 ≤ 3 := by omega
      simp only [Nat.lt_irrefl, if_false] at n1
      generalize sbox (f ((k + 4 * (k % 4)) % 16)) = z at *
      generalize f ((k + 4 * (k % 4)) % 16) = x at *
      generalize (k + 4 * (k % 4)) % 16 = q at *
      generalize k % 4 = r at *
      have k0 : (0 : Int) ≤ (k : Int) := by omega
      have k1 : (k : Int) < 16 := by omega
      have q1 : (q : Int) < 16 := by omega
      have x1 : (x : Int) < 256 := by omega
      go_wp2_with fail
      go_region
      go_wp2_with fail
      go_roundw
      case rel => exact ⟨k + 1, by omega, by go_num, (AR.out.other (by omega) k _).below (bdrew1 _ _), (RR.out.other (by omega) k _).below (bdrew1 _ _), (ST.out.below (bdrew1 _ _)).eq (fun i hi => by unfold up; by_cases e : i = k <;> by_cases e' : i < k <;> simp [e, e', ME.out] <;> omega), (CR.out.other (by omega) k _).below (bdrew1 _ _), (BB.out.setCell (by show w.heap.size ≤ w.heap.size + 1 + 1; omega) _).trans (bdrew1 _ _)⟩
      case measure => simp [intOf]; omega
    · have e0 : decide ((k : Int) < 16) = false := by rw [decide_eq_false_iff_not]; omega
      obtain rfl : k = 16 := by omega
      have AW := Lib.hid (NR.out.eq (g' := mv f) (fun i hi => by simp [hi]))
      have VL : ∀ i, i < 16 → mv f i < 256 := AW.out.2.1
      have FI := Lib.hid (Ay.mk_cells (g := mv f) RR.out.1 RR.out.there VL)
      have FB := Lib.hid (belowCells (B := w.heap.size) (w.heap.size + 1) (by omega) (ac (mv f) 16) 0 wr (WS.out.trans BB.out))
      have SE := run_store_ac (P := Try.prog) RR.out.there (mv f)
      go_wp2_with (refine wpList_load_mid rfl 38 _ rfl _ 0 rfl (ac (mv f) 16) _ AW.out.range Try.underlying38 rfl (by rw [ac_len]; exact info_blk) ?_)
      refine bodyPost_ret (v := .agg (ac (mv f) 16).toArray) (results_cell_mid rfl _ _ (w.heap.size + 1) _ _ rfl FI.out.range Try.underlying38 rfl (by rw [ac_len]; exact info_blk)) rfl ⟨rfl, FB.out⟩
end Go.Proofs.Ytfefkakdhaecpaa.Ae
