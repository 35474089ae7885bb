/-
  Rows of strings of the call's own; the contract of disk.Names.
  Conditions: none.
-/
import Derived.Test.YtkjolaoajbdomaaDoorDkG
namespace Go.Proofs.YtkjolaoajbdomaaDoor.Dk
open Go.RowKit Go.ChangeShapes Go.WideShapes Go.ChangeAt Go.Joins Go.Maps Go.Sort By Ct
set_option linter.unusedVariables false
set_option linter.unusedSimpArgs false

/-- strings as cells. -/
def sc (l : List (List UInt8)) : List Value := l.map fun x => .string (st x)
theorem sc_len (l : List (List UInt8)) : (sc l).length = l.length := by simp [sc]
theorem sc_enc (l : List (List UInt8)) : l.map encStr = sc l := rfl
/-- v is a row of strings of the call's own. -/
def OwnS (w : World) (base : Nat) (v : Value) (l : List (List UInt8)) : Prop := w.ownsRow base 9 1 v l.length (sc l)
theorem OwnS.nil (w : World) (base : Nat) : OwnS w base (.slice none 0 0) [] := World.ownsRow_nil w base _ 1
theorem ownS_form {w : World} {base : Nat} {v : Value} {l : List (List UInt8)} (h : OwnS w base v l) : ∃ a cap, v = .slice a l.length cap := by
  rcases h.2 with ⟨hv, h0⟩ | ⟨g, cap, cur, hv, _⟩
  · exact ⟨none, 0, by rw [hv, h0]⟩
  · exact ⟨_, cap, hv⟩
theorem ownS_at {w : World} {base : Nat} {v : Value} {l : List (List UInt8)} (h : OwnS w base v l) (hl : 0 < l.length) : ∃ g cap, v = .slice (some ⟨g, 0, none⟩) l.length cap ∧ base ≤ g ∧ g < w.heap.size ∧ l.length ≤ cap ∧ cap ≤ maxLen ∧ ∀ (i : Nat) (x : List UInt8), l[i]? = some x → w.cell? ⟨g, i, none⟩ = some (.string (st x)) ∧ w.frozen? ⟨g, i, none⟩ = false := by
  rcases h.2 with ⟨hv, h0⟩ | ⟨g, cap, cur, hv, hb, hh, hc, hm, hcs, ht⟩
  · omega
  · subst hv
    refine ⟨g, cap, rfl, hb, (Array.getElem?_eq_some_iff.1 hh).1, hc, hm, fun i x hx => ⟨?_, frozen_of_row w g i cur _ hh⟩⟩
    have hi : i < l.length := (List.getElem?_eq_some_iff.1 hx).1
    have := World.ownsRow.cellAt h i (by omega)
    rw [this]
    simp [sc, hx]
/-- a name is written in its own place. -/
theorem ownS_same {w : World} {base g cap : Nat} {l : List (List UInt8)} (h : OwnS w base (.slice (some ⟨g, 0, none⟩) l.length cap) l) {i : Nat} {x : List UInt8} (hx : l[i]? = some x) : OwnS (w.setCell ⟨g, i, none⟩ (.string (st x))) base (.slice (some ⟨g, 0, none⟩) l.length cap) l := by
  refine ⟨h.1, ?_⟩
  rcases h.2 with ⟨hv, h0⟩ | ⟨g', cap', cur, hv, hb, hh, hc, hm, hcs, ht⟩
  · cases hv
  · simp only [Value.slice.injEq, Option.some.injEq, Addr.mk.injEq, and_true, true_and] at hv
    obtain ⟨rfl, rfl⟩ := hv
    have hi : i < l.length := (List.getElem?_eq_some_iff.1 hx).1
    refine .inr ⟨g, cap, cur.setIfInBounds i (.string (st x)), rfl, hb, heap_setCell_same w g i cur _ _ hh, hc, hm, by simpa using hcs, ?_⟩
    rw [← ht]
    apply List.ext_getElem?
    intro j
    rw [List.getElem?_take, List.getElem?_take]
    split
    · rw [Array.toList_setIfInBounds, List.getElem?_set]
      split
      · rename_i q
        subst q
        have e : (sc l)[i]? = some (.string (st x)) := by simp [sc, hx]
        rw [← ht, List.getElem?_take, if_pos (by omega)] at e
        split
        · exact e.symm
        · rename_i q2
          rw [List.getElem?_eq_none (by omega)] at e
          cases e
      · rfl
    · rfl
end Go.Proofs.YtkjolaoajbdomaaDoor.Dk
