/-
  radio.Code of any line; radio.Pulse of a known span; sundiallaw13.awake.
  Conditions: none but Code's.
-/
import Derived.Test.YtoecgabdjpgleaaGreatDoorRdB
import Derived.Test.YtoecgabdjpgleaaGreatDoorRdE
namespace Go.Proofs.YtoecgabdjpgleaaGreatDoor.Rd
open Go.RowKit Cv Lp
set_option linter.unusedVariables false
set_option linter.unusedSimpArgs false

theorem Code_c (s : ByteArray) (w : World) (hs : s.size ≤ 1099511627776) :
    Calls Tryz.prog 8 #[.string s] w fun e w' => e = cdE (Wd.spR s) ∧ Below w.heap.size w w' := by
  cases h : Wd.spR s with
  | inl k =>
    have := code_err (w := w) hs (by rw [h]; rfl) (by rw [h]; rfl)
    rwa [h] at this
  | inr L =>
    have H : Calls Tryz.prog 8 #[.string s] w fun e w' => e = cdE (Wd.spR s) ∧ Below w.heap.size w w' := by
      by_cases c : L.length = 4
      · exact code_4 hs h c
      · by_cases c2 : L.length = 5
        · exact code_5 hs h c2
        · exact code_len hs h (fun q => q.elim c c2)
    rwa [h] at H

theorem okS_known : Fx.okS 1048575 1048577 := ⟨by decide, by decide, by decide⟩
theorem okP_known : Fx.okP 1048575 1 1048576 := ⟨⟨by decide, by decide⟩, ⟨by decide, by decide⟩, ⟨by decide, by decide⟩⟩
theorem prt_known : Fx.prt 1048575 1 1048576 true = 1 := by decide
set_option maxRecDepth 100000 in
set_option maxHeartbeats 2000000 in
theorem pulse_known (w : World) :
    Calls Tryz.prog 12 #[.agg #[.int .i64 1048575, .int .i64 1048577]] w fun e w' => e = .returned (.tuple #[.int .i64 1048576, .int .i64 0]) ∧ Below w.heap.size w w' := by
  have CK := Lib.hid (fun w => Fx.Check_ok 1048575 1048577 w okS_known)
  have PT := Lib.hid (fun w => Fx.Part_ok 1048575 1 1048576 true w okP_known)
  rw [prt_known] at PT
  have S0 := Lib.hid (show (w.alloc (.cells #[.int .i64 1048575, .int .i64 1048577] 38)).cell? ⟨w.heap.size, 0, none⟩ = some (.int .i64 1048575) ∧ (w.alloc (.cells #[.int .i64 1048575, .int .i64 1048577] 38)).cell? ⟨w.heap.size, 1, none⟩ = some (.int .i64 1048577) from ⟨by simp [go_sem], by simp [go_sem]⟩)
  go_enter Tryz.func12, Tryz.ntmps12
  go_wp2_with fail
  refine (CK.out _).mono ?_
  rintro e w1 ⟨rfl, hb⟩
  have c0 := (hb.cell (p := ⟨w.heap.size, 0, none⟩) (by simp)).trans S0.out.1
  have c1 := (hb.cell (p := ⟨w.heap.size, 1, none⟩) (by simp)).trans S0.out.2
  have z1 : w.heap.size < w1.heap.size := Nat.lt_of_lt_of_le (by simp) hb.size
  have B1 := Lib.hid (bstep (balloc (brefl w) _) hb)
  clear hb S0 CK
  go_wp2_with fail
  refine (PT.out _).mono ?_
  rintro e w2 ⟨rfl, hd⟩
  have hb := Fx.Drawn.below hd
  have g1 := (hb.cell (p := ⟨w.heap.size, 1, none⟩) z1).trans c1
  have B2 := Lib.hid (bstep B1.out hb)
  clear hb hd c0 c1 PT
  go_wp2_with fail
  go_ret2
  exact ⟨rfl, B2.out⟩

def kText : ByteArray := ⟨#[84, 32, 50, 48, 50, 54, 32, 51, 49, 57, 32, 49, 50, 48, 48, 48, 48]⟩
def kCode : List Wd.W3 := [⟨⟨#[84]⟩, 0, false⟩, ⟨⟨#[50, 48, 50, 54]⟩, 2, false⟩, ⟨⟨#[51, 49, 57]⟩, 7, false⟩, ⟨⟨#[49, 50, 48, 48, 48, 48]⟩, 11, false⟩]
set_option maxRecDepth 100000 in
theorem spR_code : Wd.spR kText = .inr kCode := by kernel_rfl
set_option maxRecDepth 100000 in
theorem cd_known : cdE (.inr kCode) = .returned (.tuple #[.int .i64 4198218124492800, .int .i64 0]) := by
  rw [cd_yes (by decide +kernel) (by decide +kernel), show timeC kCode = 4198218124492800 by decide +kernel]
theorem srt_id {L : List Int} (h : L.Pairwise (· ≤ ·)) : srt L = L :=
  List.Perm.eq_of_pairwise (fun a b _ _ h1 h2 => Int.le_antisymm h1 h2) (srt_up L) h (srt_perm L)
theorem srt_known : srt [5, 100, 6, 7] = [5, 6, 7, 100] := by
  rw [srt_eq (List.isPerm_iff.1 (show List.isPerm [5, 100, 6, 7] [5, 6, 7, 100] = true by decide)), srt_id (by simp)]
theorem md_known : mdE [5, 100, 6, 7] = .returned (.tuple #[.int .i64 6, .int .i64 95, .int .i64 0]) := by
  simp only [mdE, mid, wid, lw, hg, sa, srt_known]
  rfl
theorem ts_lit (w : World) (a b c d : Int) (t : TypeId) : Ts (w.alloc (.cells #[.int .i64 a, .int .i64 b, .int .i64 c, .int .i64 d] t)) (.slice (some ⟨w.heap.size, 0, none⟩) 4 4) [a, b, c, d] := by
  refine ⟨_, 4, rfl, by simp, by omega, fun _ => ⟨w.heap.size, 0, rfl, by simp, fun j x hj => ?_⟩⟩
  match j, hj with
  | 0, hj => simp at hj; subst hj; simp [go_sem]
  | 1, hj => simp at hj; subst hj; simp [go_sem]
  | 2, hj => simp at hj; subst hj; simp [go_sem]
  | 3, hj => simp at hj; subst hj; simp [go_sem]
  | j + 4, hj => simp at hj
set_option maxRecDepth 100000 in
set_option maxHeartbeats 2000000 in
theorem awake13_c (w : World) :
    Calls Tryz.prog 5 #[] w fun e w' => e = .returned (.bool true) ∧ Below w.heap.size w w' := by
  have CC := Lib.hid (fun w => Code_c kText w (by decide))
  rw [spR_code, cd_known] at CC
  unfold kText at CC
  have MC := Lib.hid (fun (w : World) => Middle_some (ts_lit w 5 100 6 7 23) (by simp) (by simp) (fun x hx => by simp at hx; omega))
  rw [md_known] at MC
  have PC := Lib.hid pulse_known
  go_enter Tryz.func5, Tryz.ntmps5
  go_wp2_with fail
  refine (CC.out _).mono ?_
  rintro e w1 ⟨rfl, hb⟩
  have B1 := Lib.hid hb
  clear hb CC
  go_wp2_with fail
  refine (MC.out _).mono ?_
  rintro e w2 ⟨rfl, hb⟩
  have B2 := Lib.hid (bstep (balloc B1.out _) hb)
  clear hb MC
  go_wp2_with fail
  refine (PC.out _).mono ?_
  rintro e w3 ⟨rfl, hb⟩
  have B3 := Lib.hid (bstep B2.out hb)
  clear hb PC
  go_wp2_with fail
  go_ret
  exact ⟨rfl, B3.out⟩
end Go.Proofs.YtoecgabdjpgleaaGreatDoor.Rd
