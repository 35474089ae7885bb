/-
  Bytes that are written one by one.
  Conditions: none.
-/
import Derived.Test.YtmjbnbjkpimjmaaWiZ
namespace Go.Proofs.Ytmjbnbjkpimjmaa.Wi
open Go.RowKit Go.ChangeShapes Go.WideShapes Go.ChangeAt Go.Joins By
set_option linter.unusedVariables false
set_option linter.unusedSimpArgs false

def upd (g : Nat → Nat) (k x : Nat) : Nat → Nat := fun i => if i = k then x else g i
theorem upd_lt {g : Nat → Nat} {k x : Nat} (h : ∀ i, g i < 256) (hx : x < 256) : ∀ i, upd g k x i < 256 := fun i => by
  unfold upd; split
  · exact hx
  · exact h i
theorem upd_ne {g : Nat → Nat} {k x i : Nat} (h : i ≠ k) : upd g k x i = g i := if_neg h
theorem upd_eq {g : Nat → Nat} {k x : Nat} : upd g k x k = x := if_pos rfl
theorem wr_set {w : World} {b o n : Nat} {g : Nat → Nat} (h : Wr w b o n g) (k x : Nat) (hk : k < n) (hx : x < 256) : Wr (w.setCell ⟨b, o + k, none⟩ (.int .u8 (x : Int))) b o n (upd g k x) := by
  refine ⟨by simpa [World.setCell] using h.1, fun i hi => ?_, fun i hi => ?_⟩
  · unfold upd; split
    · exact hx
    · exact h.2.1 i hi
  · refine ⟨?_, by rw [World.frozen?_setCell]; exact (h.2.2 i hi).2⟩
    unfold upd
    by_cases e : i = k
    · subst e
      rw [World.cell?_setCell_same _ _ _ (h.2.2 i hi).1, if_pos rfl]
    · rw [World.cell?_setCell_other _ _ _ _ (fun q => e (by simp at q <;> omega)), if_neg e]
      exact (h.2.2 i hi).1
theorem wr_set0 {w : World} {b n : Nat} {g : Nat → Nat} (h : Wr w b 0 n g) (k x : Nat) (hk : k < n) (hx : x < 256) : Wr (w.setCell ⟨b, k, none⟩ (.int .u8 (x : Int))) b 0 n (upd g k x) := by
  have := wr_set h k x hk hx
  rwa [Nat.zero_add] at this
theorem wr_at {w : World} {b n : Nat} {g : Nat → Nat} (h : Wr w b 0 n g) {i : Nat} (hi : i < n) : w.cell? ⟨b, i, none⟩ = some (.int .u8 (g i)) ∧ w.frozen? ⟨b, i, none⟩ = false := by
  have := h.2.2 i hi
  rwa [Nat.zero_add] at this
theorem wr_other {w : World} {b o n : Nat} {g : Nat → Nat} (h : Wr w b o n g) {b' : Nat} (hb : b ≠ b') (i : Nat) (v : Value) : Wr (w.setCell ⟨b', i, none⟩ v) b o n g :=
  ⟨by simpa [World.setCell] using h.1, h.2.1, fun j hj => ⟨(World.cell?_setCell_other _ _ _ _ (fun q => hb (by simpa using (congrArg Addr.block q).symm))).trans (h.2.2 j hj).1, by rw [World.frozen?_setCell]; exact (h.2.2 j hj).2⟩⟩
theorem wr_sb {w : World} {b n cap : Nat} {g : Nat → Nat} (h : Wr w b 0 n g) (hg : ∀ i, g i < 256) (hc : n ≤ cap) (hc2 : cap ≤ 9223372036854775807) : Sb w (.slice (some ⟨b, 0, none⟩) n cap) n g :=
  ⟨_, cap, rfl, hc, hc2, hg, fun _ => ⟨b, 0, rfl, ay_bs h hg⟩, fun e => by cases e⟩
/-- a slice of the call's own that is not nil, to be written. -/
theorem own_wr {w : World} {base : Nat} {v : Value} {f : Nat → Nat} {n : Nat} (h : By.Own w base v (bl f n)) (hv : v ≠ .slice none 0 0) (hf : ∀ i, f i < 256) : ∃ g cap, v = .slice (some ⟨g, 0, none⟩) n cap ∧ base ≤ g ∧ Wr w g 0 n f ∧ n ≤ cap ∧ cap ≤ 9223372036854775807 := by
  rcases h.2 with ⟨h0, _⟩ | ⟨g, cap, cur, e, hb, hh, hc, hm, hcs, ht⟩
  · exact absurd h0 hv
  · rw [bl_len] at e hc ht
    refine ⟨g, cap, e, hb, ⟨(Array.getElem?_eq_some_iff.1 hh).1, fun i _ => hf i, fun i hi => ?_⟩, hc, by unfold maxLen at hm; omega⟩
    rw [cell_of_row w g (0 + i) cur _ (0, 0) hh]
    refine ⟨?_, frozen_of_row w g _ cur _ hh⟩
    have e2 : (cl (bl f n))[i]? = some (.int .u8 ((f i : Nat) : Int)) := by simp [cl, bl, hi]
    rw [← ht, Nat.mul_one, List.getElem?_take, if_pos hi] at e2
    rw [Nat.zero_add]
    simpa using e2
theorem below_set {B : Nat} {w w' : World} (h : Below B w w') {b : Nat} (hb : B ≤ b) (i : Nat) (v : Value) : Below B w (w'.setCell ⟨b, i, none⟩ v) := h.setCell (p := ⟨b, i, none⟩) hb v
end Go.Proofs.Ytmjbnbjkpimjmaa.Wi
