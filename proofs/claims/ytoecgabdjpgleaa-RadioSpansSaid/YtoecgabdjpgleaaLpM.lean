/-
  The contracts of leap.UTC where it answers an error, and of leap.Warn.
  Conditions: none.
-/
import Derived.Test.YtoecgabdjpgleaaLpL
namespace Go.Proofs.Ytoecgabdjpgleaa.Lp
open Go.RowKit Go.ChangeShapes Go.WideShapes Go.ChangeAt Go.Joins Cv
set_option linter.unusedVariables false
set_option linter.unusedSimpArgs false

theorem UTC_range {w : World} {v : Value} {n : Nat} {a o : Nat → Int} {e u : Int} (A : Cs w v n a o) (h : Tb n a o e) (h0 : ¬ (0 ≤ u ∧ u ≤ 288230376151711744)) :
    Calls Try.prog 8 #[lv v e, .int .i64 u] w fun x w' => x = .returned (.tuple #[.int .i64 0, .bool false, .int .i64 2]) ∧ Below w.heap.size w w' := by
  have CC := Lib.hid (fun w (A : Cs w v n a o) => checkCall_range A h h0)
  have A0 := Lib.hid A
  clear A
  unfold lv at *
  go_enter Try.func8, Try.ntmps8
  go_wp2_with fail
  refine (CC.out _ (A0.out.below (balloc (brefl w) _))).mono ?_
  rintro x w1 ⟨rfl, hb⟩
  have B1 := Lib.hid (bstep (balloc (brefl w) _) hb)
  clear hb
  go_wp2_with fail
  go_ret3
  exact ⟨rfl, B1.out⟩
theorem UTC_shape {w : World} {v : Value} {n : Nat} {a o : Nat → Int} {e u : Int} (A : Cs w v n a o) (h : ¬ Tb n a o e) :
    Calls Try.prog 8 #[lv v e, .int .i64 u] w fun x w' => x = .returned (.tuple #[.int .i64 0, .bool false, .int .i64 3]) ∧ Below w.heap.size w w' := by
  have CC := Lib.hid (fun w (A : Cs w v n a o) => checkCall_shape (t := u) A h)
  have A0 := Lib.hid A
  clear A
  unfold lv at *
  go_enter Try.func8, Try.ntmps8
  go_wp2_with fail
  refine (CC.out _ (A0.out.below (balloc (brefl w) _))).mono ?_
  rintro x w1 ⟨rfl, hb⟩
  have B1 := Lib.hid (bstep (balloc (brefl w) _) hb)
  clear hb
  go_wp2_with fail
  go_ret3
  exact ⟨rfl, B1.out⟩

/-- what Warn answers. -/
def WP (n : Nat) (a o : Nat → Int) (u : Int) (x : Ending) : Prop := ∃ v, WV n a o u v ∧ x = .returned (.tuple #[.int .i64 v, .int .i64 0])

end Go.Proofs.Ytoecgabdjpgleaa.Lp
