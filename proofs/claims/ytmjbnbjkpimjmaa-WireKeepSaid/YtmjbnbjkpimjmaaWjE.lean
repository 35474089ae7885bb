/-
  Rows of fields with bodies of the call's own.
  Conditions: none.
-/
import Derived.Test.YtmjbnbjkpimjmaaWjD
namespace Go.Proofs.Ytmjbnbjkpimjmaa.Wi
open Go.RowKit Go.ChangeShapes Go.WideShapes Go.ChangeAt Go.Joins By
set_option linter.unusedVariables false
set_option linter.unusedSimpArgs false

/-- a row of fields of the call's own, with bodies of the call's own. -/
def Rowd (w : World) (base : Nat) (fv : Value) (row : List (Int × Value)) (L : List Fd) : Prop :=
  row.length = L.length ∧ OwnF w base fv row ∧ ∀ j, j < L.length → (row.getD j (0, .slice none 0 0)).1 = (L.getD j f0).1 ∧ By.Own w base (row.getD j (0, .slice none 0 0)).2 (L.getD j f0).2
theorem Rowd.nil (w : World) (base : Nat) : Rowd w base (.slice none 0 0) [] [] := ⟨rfl, OwnF.nil _ _, fun j h => absurd h (by simp)⟩
theorem Rowd.keep {w w' : World} {base : Nat} {fv : Value} {row : List (Int × Value)} {L : List Fd} (h : Rowd w base fv row L) (hk : ∀ g, base ≤ g → g < w.heap.size → w'.heap[g]? = w.heap[g]?) : Rowd w' base fv row L :=
  ⟨h.1, ⟨row_keep h.2.1.1 fun g hg => hk g (h.2.1.1.lt g hg).1 (h.2.1.1.lt g hg).2, h.2.1.2⟩, fun j hj => ⟨(h.2.2 j hj).1, row_keep (h.2.2 j hj).2 fun g hg => hk g ((h.2.2 j hj).2.lt g hg).1 ((h.2.2 j hj).2.lt g hg).2⟩⟩
theorem Rowd.below {w w' : World} {base : Nat} {fv : Value} {row : List (Int × Value)} {L : List Fd} (h : Rowd w base fv row L) (k : Below w.heap.size w w') : Rowd w' base fv row L := h.keep fun g _ hg => k.block g hg
theorem Rowd.set {w : World} {base : Nat} {fv : Value} {row : List (Int × Value)} {L : List Fd} (h : Rowd w base fv row L) {b : Nat} (hb : b < base) (i : Nat) (x : Value) : Rowd (w.setCell ⟨b, i, none⟩ x) base fv row L := h.keep fun g hg _ => set_other (by omega)
theorem Rowd.le {w : World} {base base' : Nat} {fv : Value} {row : List (Int × Value)} {L : List Fd} (h : Rowd w base fv row L) (hb : base' ≤ base) : Rowd w base' fv row L :=
  ⟨h.1, ⟨row_le h.2.1.1 hb, h.2.1.2⟩, fun j hj => ⟨(h.2.2 j hj).1, row_le (h.2.2 j hj).2 hb⟩⟩
theorem getD_snoc {α : Type} (l : List α) (x d : α) : (l ++ [x]).getD l.length d = x := by simp [List.getD_eq_getElem?_getD]
theorem getD_app {α : Type} (l k : List α) (d : α) {j : Nat} (h : j < l.length) : (l ++ k).getD j d = l.getD j d := by
  rw [List.getD_eq_getElem?_getD, List.getElem?_append_left h, ← List.getD_eq_getElem?_getD]
theorem types_ne : 5 ≠ 51 := by decide
theorem Rowd.snoc {w w' : World} {base : Nat} {fv fv' : Value} {row : List (Int × Value)} {L : List Fd} (h : Rowd w base fv row L) {x : Int} {vb : Value} {bd : List Nat} (hb : By.Own w base vb bd) (o : OwnF w' base fv' (row ++ [(x, vb)])) (G : Gr w fv w' fv') : Rowd w' base fv' (row ++ [(x, vb)]) (L ++ [(x, bd)]) := by
  refine ⟨by simp [h.1], o, fun j hj => ?_⟩
  by_cases c : j < L.length
  · rw [getD_app _ _ _ c, getD_app _ _ _ (by rw [h.1]; exact c)]
    exact ⟨(h.2.2 j c).1, row_gr (h.2.2 j c).2 G (rows_ne (h.2.2 j c).2 h.2.1.1 types_ne)⟩
  · obtain rfl : j = L.length := by simp at hj; omega
    rw [getD_snoc, ← h.1, getD_snoc]
    exact ⟨rfl, row_gr hb G (rows_ne hb h.2.1.1 types_ne)⟩
theorem own_form {w : World} {base : Nat} {v : Value} {l : List Nat} (h : By.Own w base v l) : ∃ a cap, v = .slice a l.length cap := by
  rcases h.2 with ⟨hv, h0⟩ | ⟨g, cap, cur, hv, _⟩
  · exact ⟨none, 0, by rw [hv, h0]⟩
  · exact ⟨_, cap, hv⟩
theorem ownF_form {w : World} {base : Nat} {v : Value} {l : List (Int × Value)} (h : OwnF w base v l) : ∃ a cap, v = .slice a l.length cap := by
  rcases h.1.2 with ⟨hv, h0⟩ | ⟨g, cap, cur, hv, _⟩
  · exact ⟨none, 0, by rw [hv, h0]⟩
  · exact ⟨_, cap, hv⟩
theorem ownP_cell {w : World} {base : Nat} {v : Value} {l : List Value} (h : OwnP w base v l) {j : Nat} (hj : j < l.length) : ∃ g cap, v = .slice (some ⟨g, 0, none⟩) l.length cap ∧ g < w.heap.size ∧ w.cell? ⟨g, j, none⟩ = l[j]? := by
  rcases h.1.2 with ⟨hv, h0⟩ | ⟨g, cap, cur, hv, hb, hh, _⟩
  · omega
  · subst hv
    exact ⟨g, cap, rfl, (Array.getElem?_eq_some_iff.1 hh).1, h.1.cellAt j (by omega)⟩
theorem ownF_cell {w : World} {base : Nat} {v : Value} {l : List (Int × Value)} (h : OwnF w base v l) : ∃ a cap, v = .slice a l.length cap ∧ l.length ≤ cap ∧ cap ≤ 9223372036854775807 ∧ (0 < l.length → ∃ g, a = some ⟨g, 0, none⟩ ∧ g < w.heap.size ∧ ∀ j, j < l.length → w.cell? ⟨g, j * 2, none⟩ = some (.int .i64 (l.getD j (0, .slice none 0 0)).1) ∧ w.cell? ⟨g, j * 2 + 1, none⟩ = some (l.getD j (0, .slice none 0 0)).2) := by
  rcases h.1.2 with ⟨hv, h0⟩ | ⟨g, cap, cur, hv, hb, hh, hc, hm, _⟩
  · exact ⟨none, 0, by rw [hv, h0], by omega, by omega, fun h => by omega⟩
  · subst hv
    refine ⟨_, cap, rfl, hc, by unfold maxLen at hm; omega, fun _ => ⟨g, rfl, (Array.getElem?_eq_some_iff.1 hh).1, fun j hj => ?_⟩⟩
    have e := fcs_at l j _ (List.getElem?_eq_getElem hj)
    rw [List.getD_eq_getElem?_getD, List.getElem?_eq_getElem hj, Option.getD_some]
    exact ⟨(h.1.cellAt (j * 2) (by omega)).trans e.1, (h.1.cellAt (j * 2 + 1) (by omega)).trans e.2⟩
/-- such a row as fields in memory. -/
theorem Rowd.fs {w : World} {base : Nat} {fv : Value} {row : List (Int × Value)} {L : List Fd} (h : Rowd w base fv row L) (hb : ∀ x ∈ L, x.2.length ≤ 140737488351232 ∧ ∀ y ∈ x.2, y < 256) : Fs w fv L (fun j => (row.getD j (0, .slice none 0 0)).2) := by
  obtain ⟨a, cap, e, h1, h2, h3⟩ := ownF_cell h.2.1
  rw [h.1] at e h1 h3
  refine ⟨a, cap, e, h1, h2, fun hn => ?_, fun j hj => ?_⟩
  · obtain ⟨g, ea, hg, hc⟩ := h3 hn
    refine ⟨g, 0, ea, hg, fun j hj => ?_⟩
    obtain ⟨c1, c2⟩ := hc j hj
    rw [(h.2.2 j hj).1] at c1
    rw [Nat.zero_add]
    exact ⟨c1, c2⟩
  · have hm : L.getD j f0 ∈ L := by
      rw [List.getD_eq_getElem?_getD, List.getElem?_eq_getElem hj, Option.getD_some]
      exact List.getElem_mem hj
    exact out_sl (own_out (h.2.2 j hj).2 (hb _ hm).2) (hb _ hm).1
end Go.Proofs.Ytmjbnbjkpimjmaa.Wi
