/-
  Rows of words: what a call owns, what it reads; the contract of sundialref07.Same.
-/
import Derived.Test.YtoecgabdjpgleaaGreatDoorWdF
import Derived.Test.YtoecgabdjpgleaaGreatDoorWa
namespace Go.Proofs.YtoecgabdjpgleaaGreatDoor.Wd
open Go.ChangeShapes Go.WideShapes Go.ChangeAt Go.RowKit Go.Joins By
set_option linter.unusedVariables false
set_option linter.unusedSimpArgs false

def w0 : W3 := ⟨⟨#[]⟩, 0, false⟩
def eqW (x y : W3) : Bool := x.t.toList == y.t.toList && x.c == y.c && x.q == y.q
def sm (L M : List W3) : Bool := decide (L.length = M.length) && (List.range L.length).all fun i => eqW (L.getD i w0) (M.getD i w0)
theorem w_at (L : List W3) (i : Nat) (h : i < L.length) : L[i]? = some (L.getD i w0) := by
  rw [List.getD_eq_getElem?_getD, List.getElem?_eq_getElem h]
  rfl
theorem sm_no {L M : List W3} {k : Nat} (h : k < L.length) (e : eqW (L.getD k w0) (M.getD k w0) = false) : sm L M = false := by
  cases h' : sm L M with
  | false => rfl
  | true =>
    simp only [sm, Bool.and_eq_true, List.all_eq_true, List.mem_range] at h'
    rw [h'.2 k h] at e; cases e
theorem sm_yes {L M : List W3} (hl : L.length = M.length) (h : ∀ i, i < L.length → eqW (L.getD i w0) (M.getD i w0) = true) : sm L M = true := by
  simp only [sm, Bool.and_eq_true, List.all_eq_true, List.mem_range, decide_eq_true_eq]
  exact ⟨hl, h⟩

end Go.Proofs.YtoecgabdjpgleaaGreatDoor.Wd
