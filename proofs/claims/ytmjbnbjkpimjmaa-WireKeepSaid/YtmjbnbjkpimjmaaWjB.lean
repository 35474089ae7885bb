/-
  Fields and ends in bytes, piece by piece.
  Conditions: none.
-/
import Derived.Test.YtmjbnbjkpimjmaaWjA
namespace Go.Proofs.Ytmjbnbjkpimjmaa.Wi
open Go.RowKit Go.ChangeShapes Go.WideShapes Go.ChangeAt Go.Joins By
set_option linter.unusedVariables false
set_option linter.unusedSimpArgs false

theorem okF_at {n : Nat} : ∀ {L : List Fd} {k : Nat}, okF n L = true → k < L.length → 0 ≤ (L.getD k f0).1 ∧ (L.getD k f0).1 ≤ 65535
  | [], k, h, hk => absurd hk (Nat.not_lt_zero _)
  | f :: r, 0, h, hk => (okF_cut h).2.1
  | f :: r, k + 1, h, hk => by
    have := okF_at (k := k) (okF_cut h).1 (by simpa using hk)
    simpa using this
theorem fes_app : ∀ (a b : List Fd), fes (a ++ b) = fes a ++ fes b
  | [], b => rfl
  | f :: r, b => by rw [List.cons_append, fes, fes, fes_app r b, List.append_assoc]
theorem fes_take_succ {L : List Fd} {k : Nat} (h : k < L.length) : fes (L.take (k + 1)) = fes (L.take k) ++ fe (L.getD k f0) := by
  rw [List.take_add_one, fes_app, List.getElem?_eq_getElem h, List.getD_eq_getElem?_getD, List.getElem?_eq_getElem h]
  simp [fes]
theorem fes_take_len (n : Nat) (L : List Fd) (k : Nat) : (fes (L.take k)).length ≤ tot n L := by
  have h : fes L = fes (L.take k) ++ fes (L.drop k) := by rw [← fes_app, List.take_append_drop]
  have := congrArg List.length h
  rw [List.length_append, fes_len L] at this
  rw [tot_add]
  omega
theorem te_eq {p : Pk} {n : Nat} (h : tl p = some n) : te p = (if p.auth = 0 then p.dig else pt p.key 4 ++ p.dig) := by
  unfold te
  by_cases c : p.auth = 0
  · rw [if_pos c, if_pos c]
    unfold tl at h
    rw [if_pos c] at h
    split at h
    · rename_i d
      exact (List.length_eq_zero_iff.1 d.2).symm
    · cases h
  · rw [if_neg c, if_neg c]
theorem dig_len {p : Pk} {n : Nat} (h : tl p = some n) : p.dig.length ≤ 20 := by
  unfold tl at h
  repeat' split at h
  all_goals first | (cases h; omega) | cases h
end Go.Proofs.Ytmjbnbjkpimjmaa.Wi
