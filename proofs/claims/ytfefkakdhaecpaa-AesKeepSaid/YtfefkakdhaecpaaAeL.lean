/-
  The contract of aes' shifted.
  Conditions: none.
-/
import Derived.Test.YtfefkakdhaecpaaAeH
namespace Go.Proofs.Ytfefkakdhaecpaa.Ae
open Go.RowKit By
set_option linter.unusedVariables false
set_option linter.unusedSimpArgs false

/-- what falls out of byte k on. -/
def cy (f : Nat → Nat) (k : Nat) : Nat := if k = 16 then 0 else f k / 128
def sh (f : Nat → Nat) (j : Nat) : Nat := (f j * 2 % 256) ||| cy f (j + 1)
theorem cy_lt {f : Nat → Nat} (hf : ∀ i, i < 16 → f i < 256) (k : Nat) (hk : k ≤ 16) : cy f k < 2 := by
  unfold cy
  split
  · omega
  · have := hf k (by omega); omega
theorem sh_lt {f : Nat → Nat} (hf : ∀ i, i < 16 → f i < 256) (j : Nat) (hj : j < 16) : sh f j < 256 :=
  Nat.or_lt_two_pow (n := 8) (by omega) (by have := cy_lt hf (j + 1) (by omega); omega)
theorem sh_dbl (f : Nat → Nat) : ∀ i, i < 16 → (if i = 15 ∧ 128 ≤ f 0 then sh f 15 ^^^ 135 else sh f i) = dbl f i := by
  intro i hi
  unfold dbl
  by_cases c : i < 15
  · rw [if_neg (by omega), if_pos c]
    unfold sh cy
    rw [if_neg (by omega)]
  · obtain rfl : i = 15 := by omega
    rw [if_neg c]
    have e : sh f 15 = f 15 * 2 % 256 := by unfold sh cy; simp
    by_cases c0 : 128 ≤ f 0
    · rw [if_pos ⟨rfl, c0⟩, if_pos c0, e]
    · rw [if_neg (fun h => c0 h.2), if_neg c0, e]

set_option maxRecDepth 100000 in
set_option maxHeartbeats 4000000 in
theorem shifted_c (f : Nat → Nat) (w : World) (hf : ∀ i, i < 16 → f i < 256) :
    Calls Try.prog 34 #[.agg (ac f 16).toArray] w fun e w' => e = .returned (.agg (ac (dbl f) 16).toArray) ∧ Below w.heap.size w w' := by
  have WS := Lib.hid (balloc (balloc (brefl w) (.cells (ac f 16).toArray 38)) (.cells #[.int .u8 0, .int .u8 0, .int .u8 0, .int .u8 0, .int .u8 0, .int .u8 0, .int .u8 0, .int .u8 0, .int .u8 0, .int .u8 0, .int .u8 0, .int .u8 0, .int .u8 0, .int .u8 0, .int .u8 0, .int .u8 0] 38))
  have A0 := Lib.hid ((Ay.newC w 16 f 38 hf).below (balloc (brefl _) (.cells #[.int .u8 0, .int .u8 0, .int .u8 0, .int .u8 0, .int .u8 0, .int .u8 0, .int .u8 0, .int .u8 0, .int .u8 0, .int .u8 0, .int .u8 0, .int .u8 0, .int .u8 0, .int .u8 0, .int .u8 0, .int .u8 0] 38)))
  have R0 := Lib.hid (Ay.new0 (w.alloc (.cells (ac f 16).toArray 38)) 16 38)
  rw [sz_alloc] at R0
  replace R0 : Hid (Ay ((w.alloc (.cells (ac f 16).toArray 38)).alloc (.cells #[.int .u8 0, .int .u8 0, .int .u8 0, .int .u8 0, .int .u8 0, .int .u8 0, .int .u8 0, .int .u8 0, .int .u8 0, .int .u8 0, .int .u8 0, .int .u8 0, .int .u8 0, .int .u8 0, .int .u8 0, .int .u8 0] 38)) (w.heap.size + 1) 0 16 (fun _ => 0)) := R0
  have HF := Lib.hid hf
  clear hf
  go_enter Try.func34, Try.ntmps34
  go_wp2_with fail
  generalize ((w.alloc (.cells (ac f 16).toArray 38)).alloc (.cells #[.int .u8 0, .int .u8 0, .int .u8 0, .int .u8 0, .int .u8 0, .int .u8 0, .int .u8 0, .int .u8 0, .int .u8 0, .int .u8 0, .int .u8 0, .int .u8 0, .int .u8 0, .int .u8 0, .int .u8 0, .int .u8 0] 38)) = W0 at *
  go_loopw [3, 4] (fun cr i wr => ∃ (k : Nat) (z : Int), k ≤ 16 ∧ z = (k : Int) - 1 ∧ i = .int .i64 z ∧ cr = .int .u8 (cy f k) ∧ Ay wr w.heap.size 0 16 (fun j => if j < k then f j else sh f j) ∧ Ay wr (w.heap.size + 1) 0 16 (fun _ => 0) ∧ Below w.heap.size W0 wr) (fun _ i _ => (intOf i + 1).toNat)
  case atStart => exact ⟨16, 15, by omega, by omega, rfl, rfl, A0.out.eq (fun i hi => by simp [hi]), R0.out, Below.refl _ _⟩
  case round =>
    obtain ⟨k, z, hk, hz, rfl, rfl, ar, rr, hb⟩ := hrel
    rename World => wr
    have AR := Lib.hid ar
    have RR := Lib.hid rr
    have BB := Lib.hid hb
    clear ar rr hb
    by_cases c : 0 < k
    · obtain ⟨j, rfl⟩ : ∃ j, k = j + 1 := ⟨k - 1, by omega⟩
      obtain rfl : z = (j : Int) := by omega
      clear hz
      have e0 : decide ((0 : Int) ≤ (j : Int)) = true := by rw [decide_eq_true_iff]; omega
      obtain ⟨a0, b0⟩ := AR.out.at (i := j) (by omega)
      rw [if_pos (by omega)] at a0
      have l0 := HF.out j (by omega)
      have CL := cy_lt HF.out (j + 1) hk
      have OR := or8 (f j * 2 % 256) (cy f (j + 1)) (by omega) (by omega)
      have SL := sh_lt HF.out j (by omega)
      have SE : Hid ((f j * 2 % 256) ||| cy f (j + 1) = sh f j) := rfl
      have CE : Hid (cy f j = f j / 128) := Lib.hid (by unfold cy; rw [if_neg (by omega)])
      rw [SE.out, show ((f j * 2 % 256 : Nat) : Int) = (f j : Int) * 2 % 256 from by omega] at OR
      have ST := Lib.hid (AR.out.set0 j (sh f j) (by omega) SL)
      have STE : Hid (∀ i, i < 16 → up (fun i => if i < j + 1 then f i else sh f i) j (sh f j) i = if i < j then f i else sh f i) := Lib.hid (fun i hi => by
        unfold up
        by_cases e : i = j
        · subst e; simp
        · by_cases e' : i < j
          · rw [if_neg e, if_pos e']
            show (if i < j + 1 then f i else sh f i) = _
            rw [if_pos (by omega)]
          · rw [if_neg e, if_neg e']
            show (if i < j + 1 then f i else sh f i) = _
            rw [if_neg (by omega)])
      have ST2 := Lib.hid (ST.out.eq STE.out)
      clear ST STE SE
      generalize sh f j = s at *
      generalize f j = x at *
      generalize cy f (j + 1) = y at *
      have k0 : (0 : Int) ≤ (j : Int) := by omega
      have k1 : (j : Int) < 16 := by omega
      have x1 : (x : Int) < 256 := by omega
      go_wp2_with fail
      go_region
      go_wp2_with fail
      go_roundw
      case rel => exact ⟨j, (j : Int) - 1, by omega, rfl, by go_num, by rw [show ((cy f j : Nat) : Int) = (x : Int) / 128 from by rw [CE.out]; omega], ST2.out.below (bdrew1 _ _), (RR.out.other (by omega) j _).below (bdrew1 _ _), (BB.out.setCell (Nat.le_refl _) _).trans (bdrew1 _ _)⟩
      case measure => simp [intOf] <;> omega
    · obtain rfl : k = 0 := by omega
      have l0 := HF.out 0 (by omega)
      have l15 := HF.out 15 (by omega)
      have e0 : decide ((0 : Int) ≤ z) = false := by rw [decide_eq_false_iff_not]; omega
      clear hz
      have CE : cy f 0 = f 0 / 128 := rfl
      rw [CE]
      by_cases c0 : 128 ≤ f 0
      · have e1 : f 0 / 128 = 1 := by omega
        rw [e1, show ((1 : Nat) : Int) = 1 from rfl]
        obtain ⟨a0, b0⟩ := AR.out.at (i := 15) (by omega)
        rw [if_neg (by omega)] at a0
        have XO := xor8 (sh f 15) 135 (sh_lt HF.out 15 (by omega)) (by omega)
        rw [show ((135 : Nat) : Int) = 135 from rfl] at XO
        have AS := Lib.hid (AR.out.set0 15 (sh f 15 ^^^ 135) (by omega) (lt_xor8 (sh_lt HF.out 15 (by omega)) (by omega)))
        have AW := Lib.hid (AS.out.eq (g' := dbl f) (fun i hi => by rw [← sh_dbl f i hi]; unfold up; by_cases e : i = 15 <;> simp [e, c0]))
        have RW := Lib.hid (RR.out.other (b' := w.heap.size) (by omega) 15 (.int .u8 ((sh f 15 ^^^ 135 : Nat) : Int)))
        have BW := Lib.hid (BB.out.setCell (p := ⟨w.heap.size, 15, none⟩) (Nat.le_refl _) (.int .u8 ((sh f 15 ^^^ 135 : Nat) : Int)))
        clear AS
        generalize sh f 15 ^^^ 135 = zz at *
        generalize sh f 15 = x at *
        have VL : ∀ i, i < 16 → dbl f i < 256 := AW.out.2.1
        have FI := Lib.hid (Ay.mk_cells (g := dbl f) RW.out.1 RW.out.there VL)
        have FB := Lib.hid (belowCells (B := w.heap.size) (w.heap.size + 1) (by omega) (ac (dbl f) 16) 0 _ (WS.out.trans BW.out))
        have SE := run_store_ac (P := Try.prog) RW.out.there (dbl f)
        go_wp2_with (refine wpList_load_mid rfl 38 _ rfl _ 0 rfl (ac (dbl f) 16) _ AW.out.range Try.underlying38 rfl (by rw [ac_len]; exact info_blk) ?_)
        refine bodyPost_ret (v := .agg (ac (dbl f) 16).toArray) (results_cell_mid rfl _ _ (w.heap.size + 1) _ _ rfl FI.out.range Try.underlying38 rfl (by rw [ac_len]; exact info_blk)) rfl ⟨rfl, FB.out⟩
      · have e1 : f 0 / 128 = 0 := by omega
        rw [e1, show ((0 : Nat) : Int) = 0 from rfl]
        have AW := Lib.hid (AR.out.eq (g' := dbl f) (fun i hi => by
          show (if i < 0 then f i else sh f i) = _
          rw [if_neg (by omega), ← sh_dbl f i hi, if_neg (fun h => c0 h.2)]))
        have VL : ∀ i, i < 16 → dbl f i < 256 := AW.out.2.1
        have FI := Lib.hid (Ay.mk_cells (g := dbl f) RR.out.1 RR.out.there VL)
        have FB := Lib.hid (belowCells (B := w.heap.size) (w.heap.size + 1) (by omega) (ac (dbl f) 16) 0 _ (WS.out.trans BB.out))
        have SE := run_store_ac (P := Try.prog) RR.out.there (dbl f)
        go_wp2_with (refine wpList_load_mid rfl 38 _ rfl _ 0 rfl (ac (dbl f) 16) _ AW.out.range Try.underlying38 rfl (by rw [ac_len]; exact info_blk) ?_)
        refine bodyPost_ret (v := .agg (ac (dbl f) 16).toArray) (results_cell_mid rfl _ _ (w.heap.size + 1) _ _ rfl FI.out.range Try.underlying38 rfl (by rw [ac_len]; exact info_blk)) rfl ⟨rfl, FB.out⟩
end Go.Proofs.Ytfefkakdhaecpaa.Ae
