/-
  sundiallaw14.awake.
  Conditions: none.
-/
import Derived.Test.YtmlnmldcjbhhjaaFlH
namespace Go.Proofs.Ytmlnmldcjbhhjaa.Fl
open Go.RowKit Go.ChangeShapes Go.WideShapes Go.ChangeAt Go.Joins
set_option linter.unusedVariables false
set_option linter.unusedSimpArgs false

def kA : Sm := ⟨5, 20, 1, 100⟩
def kB : Sm := ⟨9, 10, 1, 200⟩
theorem kA_ok : okSm kA := by decide
theorem kB_ok : okSm kB := by decide
theorem k_all (now : Int) (h : 200 ≤ now) : ∀ s ∈ [kB, kA], okSm s ∧ s.at' ≤ now := by
  intro s hs
  simp at hs
  rcases hs with rfl | rfl
  · exact ⟨kB_ok, h⟩
  · exact ⟨kA_ok, by show (100 : Int) ≤ now; omega⟩
theorem k_best : SV (aged 1000000200 1000 (best 1000000200 1000 [kB, kA])) = .agg #[.int .i64 9, .int .i64 10, .int .i64 1000001, .int .i64 200] := by kernel_rfl
theorem k_jit : jit 200 0 [kB, kA] = 4 := by decide +kernel
theorem k_spr : spr 200 0 [kB, kA] = 5 := by
  unfold spr
  rw [show dss 200 0 [kB, kA] = [6, 11] by decide +kernel, srt_id (by simp)]
  decide +kernel
set_option maxRecDepth 100000 in
set_option maxHeartbeats 2000000 in
theorem awake14_c (w : World) :
    Calls Try.prog 5 #[] w fun e w' => e = .returned (.bool true) ∧ Below w.heap.size w w' := by
  have NW := Lib.hid (New_c w)
  have A1 := Lib.hid (fun (w' : World) (h : Fm w' w.heap.size []) => Add_ok h kA kA_ok (fun t ht => by simp at ht))
  have A2 := Lib.hid (fun (w' : World) (h : Fm w' w.heap.size [kA]) => Add_ok h kB kB_ok (fun t ht => by simp at ht; subst ht; decide))
  have BE := Lib.hid (fun (w' : World) (h : Fm w' w.heap.size [kB, kA]) => Best_c h (by simp) 1000000200 1000 (k_all _ (by omega)) (by unfold okN; omega))
  have JI := Lib.hid (fun (w' : World) (h : Fm w' w.heap.size [kB, kA]) => Jitter_c h (by simp) 200 0 (k_all _ (by omega)) (by unfold okN; omega))
  rw [k_best] at BE
  rw [k_jit, k_spr] at JI
  replace A1 : Hid (∀ w', Fm w' w.heap.size [] → Calls Try.prog 7 #[.pointer (some ⟨w.heap.size, 0, none⟩), .agg #[.int .i64 5, .int .i64 20, .int .i64 1, .int .i64 100]] w' fun e w'' => e = .returned (.int .i64 0) ∧ Fm w'' w.heap.size [kA] ∧ Tu (Td w.heap.size) w' w'') := A1
  replace A2 : Hid (∀ w', Fm w' w.heap.size [kA] → Calls Try.prog 7 #[.pointer (some ⟨w.heap.size, 0, none⟩), .agg #[.int .i64 9, .int .i64 10, .int .i64 1, .int .i64 200]] w' fun e w'' => e = .returned (.int .i64 0) ∧ Fm w'' w.heap.size [kB, kA] ∧ Tu (Td w.heap.size) w' w'') := A2
  go_enter Try.func5, Try.ntmps5
  go_wp2_with fail
  refine NW.out.mono ?_
  rintro e w1 ⟨rfl, h1, hb⟩
  have B1 := Lib.hid hb
  have F1 := Lib.hid h1
  clear hb h1 NW
  go_wp2_with fail
  refine (A1.out _ F1.out).mono ?_
  rintro e w2 ⟨rfl, h1, hb⟩
  have B2 := Lib.hid (B1.out.trans (hb.below (fun i q => Nat.le_of_eq q.symm) B1.out.size))
  have F2 := Lib.hid h1
  clear hb h1 F1
  go_wp2_with fail
  refine (A2.out _ F2.out).mono ?_
  rintro e w3 ⟨rfl, h1, hb⟩
  have B3 := Lib.hid (B2.out.trans (hb.below (fun i q => Nat.le_of_eq q.symm) B2.out.size))
  have F3 := Lib.hid h1
  clear hb h1 F2
  go_wp2_with fail
  refine (BE.out _ F3.out).mono ?_
  rintro e w4 ⟨rfl, hb⟩
  have B4 := Lib.hid (balloc (bstep B3.out hb) (.cells #[.int .i64 9, .int .i64 10, .int .i64 1000001, .int .i64 200] 30))
  have F4 := Lib.hid ((F3.out.below hb).below (balloc (brefl _) (.cells #[.int .i64 9, .int .i64 10, .int .i64 1000001, .int .i64 200] 30)))
  have N4 := Lib.hid (new4 w4 9 10 1000001 200 30)
  clear hb F3
  go_wp2_with fail
  refine (JI.out _ F4.out).mono ?_
  rintro e w5 ⟨rfl, hb⟩
  have B5 := Lib.hid (bstep B4.out hb)
  obtain ⟨x0, x1, x2, x3⟩ := blk4 N4.out hb
  clear hb F4
  go_wp2_with fail
  go_ret
  exact ⟨rfl, B5.out⟩
end Go.Proofs.Ytmlnmldcjbhhjaa.Fl
