/-
  The contracts of hash.MD5 and hash.SHA256.
  Conditions: the tables read as the program's text lays them; no more than 2^47 - 4096 bytes.
-/
import Derived.Test.YtenlbjnoiamfiaaDoorHsS
namespace Go.Proofs.YtenlbjnoiamfiaaDoor.Hs
open Go.RowKit
set_option linter.unusedVariables false
set_option linter.unusedSimpArgs false

theorem mk_run (c : Nat) (hc : c ≤ 281474976710656) (w : World) : (Instr.makeSlice 22 (.int .i64 0) (.int .i64 (c : Int))).run Tryd.prog w = .ok (.slice (some ⟨w.heap.size, 0, none⟩) 0 c) (w.alloc (.cells (madeCells #[.int .u8 0] c) 5)) := by
  obtain ⟨i, hi, hz, hs, hby⟩ := info_parts info_u8
  have h := run_make (P := Tryd.prog) w 22 5 i (.int .u8 0) Tryd.underlying22 hi hz .i64 .i64 0 c (Int.le_refl _) (by omega) (by rw [hby]; omega) (by omega)
  rw [hs, Nat.mul_one] at h
  exact h
theorem mk_own' (w : World) (base : Nat) (hb : base ≤ w.heap.size) (c : Nat) (hc : c ≤ 281474976710656) : Own (w.alloc (.cells (madeCells #[.int .u8 0] c) 5)) base (.slice (some ⟨w.heap.size, 0, none⟩) 0 c) [] :=
  ⟨rfl, .inr ⟨w.heap.size, c, _, rfl, hb, heap_alloc_new w _, Nat.zero_le _, by unfold maxLen; omega, by rw [size_madeCells, Nat.mul_one], by simp [cl]⟩⟩
set_option maxHeartbeats 400000 in
theorem md5Start_c (w : World) : Calls Tryd.prog 17 #[] w fun e w' => e = .returned (.agg #[.int .u32 md0.a, .int .u32 md0.b, .int .u32 md0.c, .int .u32 md0.d]) ∧ Below w.heap.size w w' := by
  go_enter Tryd.func17, Tryd.ntmps17
  go_wp2_with fail
  refine bodyPost_ret (v := .agg #[.int .u32 md0.a, .int .u32 md0.b, .int .u32 md0.c, .int .u32 md0.d]) (by simp [results, Tryd.results17, go_sem, md0]) rfl ⟨rfl, balloc (brefl w) _⟩
theorem idx4_0 (s : S4) (w : World) : (Instr.index 30 (.agg #[.int .u32 s.a, .int .u32 s.b, .int .u32 s.c, .int .u32 s.d]) (.int .i64 0)).run Tryd.prog w = .ok (.int .u32 s.a) w := by kernel_rfl
theorem idx4_1 (s : S4) (w : World) : (Instr.index 30 (.agg #[.int .u32 s.a, .int .u32 s.b, .int .u32 s.c, .int .u32 s.d]) (.int .i64 1)).run Tryd.prog w = .ok (.int .u32 s.b) w := by kernel_rfl
theorem idx4_2 (s : S4) (w : World) : (Instr.index 30 (.agg #[.int .u32 s.a, .int .u32 s.b, .int .u32 s.c, .int .u32 s.d]) (.int .i64 2)).run Tryd.prog w = .ok (.int .u32 s.c) w := by kernel_rfl
theorem idx4_3 (s : S4) (w : World) : (Instr.index 30 (.agg #[.int .u32 s.a, .int .u32 s.b, .int .u32 s.c, .int .u32 s.d]) (.int .i64 3)).run Tryd.prog w = .ok (.int .u32 s.d) w := by kernel_rfl
theorem idx4 (s : S4) (k : Nat) (hk : k < 4) (w : World) : (Instr.index 30 (.agg #[.int .u32 s.a, .int .u32 s.b, .int .u32 s.c, .int .u32 s.d]) (.int .i64 (k : Int))).run Tryd.prog w = .ok (.int .u32 (s.at k)) w := by
  match k, hk with
  | 0, _ => exact idx4_0 s w
  | 1, _ => exact idx4_1 s w
  | 2, _ => exact idx4_2 s w
  | 3, _ => exact idx4_3 s w
theorem at_lt {s : S4} (h : s.ok) (k : Nat) (hk : k < 4) : s.at k < 4294967296 := by
  match k, hk with
  | 0, _ => exact h.1
  | 1, _ => exact h.2.1
  | 2, _ => exact h.2.2.1
  | 3, _ => exact h.2.2.2
set_option maxRecDepth 100000 in
set_option maxHeartbeats 4000000 in
theorem MD5_c (b off n cap : Nat) (f : Nat → Nat) (w : World) (G : Gl w) (hn : n ≤ 140737488351232) (hc : n ≤ cap) (hcap : cap ≤ 9223372036854775807) (B : Bs w b off n f) :
    Calls Tryd.prog 9 #[.slice (some ⟨b, off, none⟩) n cap] w fun e w' => (∃ v, e = .returned v ∧ Own w' w.heap.size v (md5 f n)) ∧ Below w.heap.size w w' := by
  have SP := Lib.hid (md5_split f n)
  have hf := Lib.hid B.2.1
  have HB := Lib.hid B
  have HG := Lib.hid G
  have KO := Lib.hid (mdGo_ok (F := f) md0_ok (n / 64))
  clear B G
  go_enter Tryd.func9, Tryd.ntmps9
  go_wp2_with fail
  refine (md5Start_c _).mono ?_
  rintro e w1 ⟨rfl, hb⟩
  have B1 := Lib.hid hb
  clear hb
  go_wp2_with fail
  refine (md5Blocks_c md0 b off n cap f w1 (HG.out.below B1.out) md0_ok (HB.out.below B1.out) hn hc hcap).mono ?_
  rintro e w2 ⟨rfl, hb⟩
  have B2 := Lib.hid (bstep B1.out hb)
  clear hb
  unfold S4.v
  go_wp2_with fail
  have W3 := Lib.hid (balloc (brefl w2) (.cells #[.int .u32 (mdGo f md0 (n / 64)).a, .int .u32 (mdGo f md0 (n / 64)).b, .int .u32 (mdGo f md0 (n / 64)).c, .int .u32 (mdGo f md0 (n / 64)).d] 30))
  have S3 := Lib.hid (Sw.new w2 (mdGo f md0 (n / 64)) 30)
  have SZ := Lib.hid B2.out.size
  generalize mdGo f md0 (n / 64) = sv at *
  generalize w2.alloc (.cells #[.int .u32 sv.a, .int .u32 sv.b, .int .u32 sv.c, .int .u32 sv.d] 30) = w3 at *
  have B3 := Lib.hid (bstep B2.out W3.out)
  clear W3
  have LT : w2.heap.size < w3.heap.size := S3.out.1
  have KW : Hid (∀ x : World, Below w3.heap.size w3 x → w2.heap.size < w3.heap.size) := Lib.hid fun _ _ => LT
  refine (bitCount_c _ n cap _ hn).mono ?_
  rintro e w' ⟨rfl, rfl⟩
  have k1 : (0 : Int) ≤ (n : Int) := by omega
  have k2 : (n : Int) ≤ 140737488351232 := by omega
  go_wp2_with fail
  refine (unfinished_c b off n cap f _ hn hc hcap (HB.out.below B3.out)).mono ?_
  rintro e w4 ⟨⟨v, rfl, own⟩, hb⟩
  have O4 := Lib.hid own
  have B4 := Lib.hid hb
  have S4 := Lib.hid (S3.out.below hb)
  clear own hb S3
  have EL := ends_len f n
  have ZZ := zz_at n
  go_wp2_with fail
  rw [show 8 * (n : Int) % 4294967296 = ((8 * n % 4294967296 : Nat) : Int) from by omega]
  refine (appLow_c O4.out (8 * n % 4294967296) (Nat.mod_lt _ (by omega)) B4.out.size (by omega)).mono ?_
  rintro e w5 ⟨⟨v5, rfl, own⟩, hb, hs⟩
  have O5 := Lib.hid own
  have S5 := Lib.hid (S4.out.belowB LT hb)
  have B5 := Lib.hid (B4.out.trans hb)
  clear own hb hs S4 O4
  have EL5 : (ends f n ++ wb true (8 * n % 4294967296) 4).length = n % 64 + 1 + zz n + 4 := by rw [List.length_append, wb_len, EL]
  go_wp2_with fail
  rw [show 8 * (n : Int) / 4294967296 = ((8 * n / 4294967296 % 4294967296 : Nat) : Int) from by omega]
  refine (appLow_c O5.out (8 * n / 4294967296 % 4294967296) (Nat.mod_lt _ (by omega)) B5.out.size (by rw [EL5]; omega)).mono ?_
  rintro e w6 ⟨⟨v6, rfl, own⟩, hb, hs⟩
  rw [List.append_assoc, bits_low] at own
  have S6 := Lib.hid (S5.out.belowB LT hb)
  have B6 := Lib.hid (B5.out.trans hb)
  have ENL := en_len true f n
  obtain ⟨ge, ce, rfl, hge, hbe, hce, hce2⟩ := Own.bsC (l := en true f n) own (by rw [ENL]; omega) (en_byte hf.out)
  have BE := Lib.hid hbe
  have HCE := Lib.hid hce
  clear own hb hs S5 O5 hbe hce EL5
  obtain ⟨s1, s2, s3, s4, s5, s6, s7, s8, s9⟩ := S6.out
  go_wp2_with fail
  rw [ENL] at BE
  rw [ENL] at HCE
  have GE := Lib.hid ((HG.out.below B3.out).below B6.out)
  refine (md5Blocks_c sv ge 0 (n % 64 + 1 + zz n + 8) ce (fun i => (en true f n).getD i 0) w6 GE.out KO.out BE.out (by omega) HCE.out hce2).mono ?_
  rintro e w7 ⟨rfl, hb⟩
  have RO := Lib.hid (mdGo_ok (F := fun i => (en true f n).getD i 0) KO.out ((n % 64 + 1 + zz n + 8) / 64))
  generalize mdGo (fun i => (en true f n).getD i 0) sv ((n % 64 + 1 + zz n + 8) / 64) = rv at *
  have S7 := Lib.hid (S6.out.below hb)
  have B7 := Lib.hid (B6.out.trans (hb.mono (B6.out.size)))
  clear s1 s2 s3 s4 s5 s6 s7 s8 s9 hb BE HCE GE S6 hce2
  obtain ⟨s1, s2, s3, s4, s5, s6, s7, s8, s9⟩ := S7.out
  have MK := mk_run 16 (by omega)
  rw [show ((16 : Nat) : Int) = 16 from rfl] at MK
  unfold S4.v
  have BZ := Lib.hid (((((B3.out.trans (B7.out.mono B3.out.size)).setCell (p := ⟨w2.heap.size, 0, none⟩) SZ.out (.int .u32 rv.a)).setCell (p := ⟨w2.heap.size, 1, none⟩) SZ.out (.int .u32 rv.b)).setCell (p := ⟨w2.heap.size, 2, none⟩) SZ.out (.int .u32 rv.c)).setCell (p := ⟨w2.heap.size, 3, none⟩) SZ.out (.int .u32 rv.d))
  have HZ : ((((w7.setCell ⟨w2.heap.size, 0, none⟩ (.int .u32 rv.a)).setCell ⟨w2.heap.size, 1, none⟩ (.int .u32 rv.b)).setCell ⟨w2.heap.size, 2, none⟩ (.int .u32 rv.c)).setCell ⟨w2.heap.size, 3, none⟩ (.int .u32 rv.d)).heap.size = w7.heap.size := by simp [World.setCell]
  go_wp2_with fail
  clear s1 s2 s3 s4 s5 s6 s7 s8 s9
  generalize (((w7.setCell ⟨w2.heap.size, 0, none⟩ (.int .u32 rv.a)).setCell ⟨w2.heap.size, 1, none⟩ (.int .u32 rv.b)).setCell ⟨w2.heap.size, 2, none⟩ (.int .u32 rv.c)).setCell ⟨w2.heap.size, 3, none⟩ (.int .u32 rv.d) = w8 at *
  rw [← HZ]
  have BY := Lib.hid (balloc BZ.out (.cells (madeCells #[.int .u8 0] 16) 5))
  have OW := Lib.hid (mk_own' w8 w.heap.size BZ.out.size 16 (by omega))
  clear MK HZ
  generalize w8.alloc (.cells (madeCells #[.int .u8 0] 16) 5) = w9 at *
  go_loopw [6, 29] (fun v i wr => ∃ k : Nat, k ≤ 4 ∧ i = .int .i64 k ∧ Own wr w.heap.size v (ob true rv.at k) ∧ Below w.heap.size w wr) (fun _ i _ => 4 - (intOf i).toNat)
  case atStart => exact ⟨0, by omega, rfl, OW.out, BY.out⟩
  case round =>
    obtain ⟨k, hk, rfl, own, hb⟩ := hrel
    rename World => wr
    by_cases c : k < 4
    · have e0 : decide ((k : Int) < 4) = true := by rw [decide_eq_true_iff]; omega
      have IX := idx4 rv k c
      have OL := ob_len true rv.at k
      have AC := Lib.hid (appLow_c own (rv.at k) (at_lt RO.out k c) hb.size (by omega))
      have HB0 := Lib.hid hb
      clear own hb OL
      go_wp2_with fail
      refine AC.out.mono ?_
      rintro e wx ⟨⟨vx, rfl, own⟩, hb, hs⟩
      have OX := Lib.hid own
      have BX := Lib.hid (HB0.out.trans hb)
      clear own hb hs
      go_wp2_with fail
      go_roundw
      case rel => exact ⟨k + 1, by omega, by go_num, OX.out, BX.out⟩
      case measure => simp [intOf]; omega
    · have e0 : decide ((k : Int) < 4) = false := by rw [decide_eq_false_iff_not]; omega
      obtain rfl : k = 4 := by omega
      have OX := Lib.hid own
      have BX := Lib.hid hb
      clear own hb
      go_wp2_with fail
      go_ret
      exact ⟨⟨_, rfl, by rw [SP.out]; exact OX.out⟩, BX.out⟩
end Go.Proofs.YtenlbjnoiamfiaaDoor.Hs
