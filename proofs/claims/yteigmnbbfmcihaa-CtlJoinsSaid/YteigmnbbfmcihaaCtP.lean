/-
  Pieces whose data is written.
  Conditions: none.
-/
import Derived.Test.YteigmnbbfmcihaaCtO
namespace Go.Proofs.Yteigmnbbfmcihaa.Ct
open Go.RowKit Go.ChangeShapes Go.WideShapes Go.ChangeAt Go.Joins By
set_option linter.unusedVariables false
set_option linter.unusedSimpArgs false

theorem own_set {w : World} {base g m c : Nat} {l : List Nat} (h : Own w base (.slice (some ⟨g, 0, none⟩) m c) l) (k x : Nat) : Own (w.setCell ⟨g, k, none⟩ (.int .u8 (x : Int))) base (.slice (some ⟨g, 0, none⟩) m c) (l.set k x) := by
  rcases h.2 with ⟨h0, _⟩ | ⟨g', cap, cur, hv, hb, hh, hc, hm, hcs, ht⟩
  · cases h0
  · simp only [Value.slice.injEq, Option.some.injEq, Addr.mk.injEq, and_true, true_and] at hv
    obtain ⟨rfl, e2, rfl⟩ := hv
    refine ⟨by simp [cl], .inr ⟨g, c, cur.setIfInBounds k (.int .u8 (x : Int)), by simpa using e2, hb, ?_, by simpa using hc, hm, by simpa using hcs, ?_⟩⟩
    · simp [World.setCell, Array.getElem?_modify, hh]
    · rw [Array.toList_setIfInBounds, List.take_set, List.length_set, ht]
      simp [cl, List.map_set]
theorem own_open {w : World} {base : Nat} {v : Value} {l : List Nat} (h : Own w base v l) : ∃ a c, v = .slice a l.length c ∧ l.length ≤ c ∧ c ≤ 9223372036854775807 ∧ (0 < l.length → ∃ g, a = some ⟨g, 0, none⟩ ∧ base ≤ g ∧ g < w.heap.size ∧ v.ownBlock = some g ∧ ∀ k, k < l.length → w.cell? ⟨g, k, none⟩ = some (.int .u8 (l.getD k 0 : Nat)) ∧ w.frozen? ⟨g, k, none⟩ = false) := by
  rcases h.2 with ⟨hv, h0⟩ | ⟨g, cap, cur, hv, hb, hh, hc, hm, hcs, ht⟩
  · exact ⟨none, 0, by rw [hv, h0], by omega, by omega, fun h => by omega⟩
  · refine ⟨_, cap, hv, hc, by unfold maxLen at hm; omega, fun _ => ⟨g, rfl, hb, (Array.getElem?_eq_some_iff.1 hh).1, by rw [hv]; rfl, fun i hi => ?_⟩⟩
    rw [cell_of_row w g i cur _ (0, 0) hh]
    refine ⟨?_, frozen_of_row w g _ cur _ hh⟩
    have e : (cl l)[i]? = some (.int .u8 ((l.getD i 0 : Nat) : Int)) := by
      simp [cl, List.getD_eq_getElem?_getD, hi]
    rw [← ht, Nat.mul_one, List.getElem?_take, if_pos hi] at e
    simpa using e
def d0 : Fr × Value := (fr0, .slice none 0 0)
theorem ownR_cell {w : World} {base : Nat} {v : Value} {l : List (Fr × Value)} (h : OwnR w base v l) : ∃ a cap, v = .slice a l.length cap ∧ l.length ≤ cap ∧ cap ≤ 9223372036854775807 ∧ (0 < l.length → ∃ g, a = some ⟨g, 0, none⟩ ∧ g < w.heap.size ∧ ∀ j, j < l.length → w.cell? ⟨g, j * 10 + 9, none⟩ = some (l.getD j d0).2) := by
  rcases h.1.2 with ⟨hv, h0⟩ | ⟨g, cap, cur, hv, hb, hh, hc, hm, _⟩
  · exact ⟨none, 0, by rw [hv, h0], by omega, by omega, fun h => by omega⟩
  · subst hv
    refine ⟨_, cap, rfl, hc, by unfold maxLen at hm; omega, fun _ => ⟨g, rfl, (Array.getElem?_eq_some_iff.1 hh).1, fun j hj => ?_⟩⟩
    have e := rcs_at l j _ (List.getElem?_eq_getElem hj) 9 (by omega)
    rw [List.getD_eq_getElem?_getD, List.getElem?_eq_getElem hj, Option.getD_some]
    exact (h.1.cellAt (j * 10 + 9) (by omega)).trans e
/-- pieces j that A tells: bytes k of them that P tells are j. -/
structure St (w2 : World) (v : Value) (row : List (Fr × Value)) (A : Nat → Prop) (P : Nat → Nat → Prop) (z : World) : Prop where
  frame : Below w2.heap.size w2 z
  rows : OwnR z w2.heap.size v row
  body : ∀ j, j < row.length → A j → ∃ l : List Nat, l.length = (row.getD j d0).1.dat.length ∧ Own z w2.heap.size (row.getD j d0).2 l ∧ ∀ k, k < l.length → P j k → l.getD k 0 = j
theorem St.imp {w2 : World} {v : Value} {row : List (Fr × Value)} {A B : Nat → Prop} {P Q : Nat → Nat → Prop} {z : World} (h : St w2 v row A P z) (h1 : ∀ j, B j → A j) (h2 : ∀ j k, j < row.length → k < (row.getD j d0).1.dat.length → B j → Q j k → P j k) : St w2 v row B Q z :=
  ⟨h.frame, h.rows, fun j hj hb => by obtain ⟨l, e1, e2, e3⟩ := h.body j hj (h1 j hb); exact ⟨l, e1, e2, fun k hk hq => e3 k hk (h2 j k hj (by omega) hb hq)⟩⟩
theorem dj_at {row : List (Fr × Value)} (h : row.Pairwise Dj) {i j : Nat} (hi : i < row.length) (hj : j < row.length) (ne : i ≠ j) {g : Nat} (e : (row.getD i d0).2.ownBlock = some g) : (row.getD j d0).2.ownBlock ≠ some g := by
  rw [List.getD_eq_getElem?_getD, List.getElem?_eq_getElem hi, Option.getD_some] at e
  rw [List.getD_eq_getElem?_getD, List.getElem?_eq_getElem hj, Option.getD_some]
  have hp := List.pairwise_iff_getElem.1 h
  rcases Nat.lt_or_gt_of_ne ne with c | c
  · exact hp i j hi hj c g e
  · intro q
    exact hp j i hj hi c g q e
theorem St.put {w2 : World} {v : Value} {row : List (Fr × Value)} {A : Nat → Prop} {P : Nat → Nat → Prop} {z : World} (h : St w2 v row A P z) (hp : row.Pairwise Dj) {i k g c m : Nat} (hi : i < row.length) (e : (row.getD i d0).2 = .slice (some ⟨g, 0, none⟩) m c) (hg : w2.heap.size ≤ g) (hA : A i) :
    St w2 v row A (fun j k' => P j k' ∧ (j = i → k' ≠ k) ∨ (j = i ∧ k' = k)) (z.setCell ⟨g, k, none⟩ (.int .u8 (i : Int))) := by
  have eb : (row.getD i d0).2.ownBlock = some g := by rw [e]; rfl
  obtain ⟨li, el, ol, _⟩ := h.body i hi hA
  refine ⟨below_set h.frame hg _ _, ⟨row_set h.rows.1 (fun q => rows_ne ol h.rows.1 types_ne g eb q) _ _, h.rows.2⟩, fun j hj ha => ?_⟩
  obtain ⟨l, e1, e2, e3⟩ := h.body j hj ha
  by_cases c : j = i
  · subst c
    rw [e] at e2 ⊢
    refine ⟨l.set k j, by simpa using e1, own_set e2 k j, fun k' hk' hq => ?_⟩
    rw [List.length_set] at hk'
    by_cases q : k' = k
    · subst q
      simp [List.getD_eq_getElem?_getD, hk']
    · rcases hq with ⟨hq, _⟩ | ⟨_, hq⟩
      · have := e3 k' hk' hq
        rw [List.getD_eq_getElem?_getD, List.getElem?_set_ne (Ne.symm q), ← List.getD_eq_getElem?_getD]
        exact this
      · exact absurd hq q
  · refine ⟨l, e1, row_set e2 (dj_at hp hi hj (Ne.symm c) eb) _ _, fun k' hk' hq => ?_⟩
    rcases hq with ⟨hq, _⟩ | ⟨hq, _⟩
    · exact e3 k' hk' hq
    · exact absurd hq c
/-- an append onto piece i, and a byte that is written into what it answers. -/
theorem St.grow {w2 z z' : World} {v v' : Value} {row : List (Fr × Value)} {i g k x : Nat} (h : St w2 v row (fun j => i ≤ j) (fun _ _ => True) z) (hp : row.Pairwise Dj) (hi : i < row.length) (G : Gr z (row.getD i d0).2 z' v') (B : Below w2.heap.size z z') (hg : v'.ownBlock = some g) (hg2 : w2.heap.size ≤ g) :
    St w2 v row (fun j => i + 1 ≤ j) (fun _ _ => True) (z'.setCell ⟨g, k, none⟩ (.int .u8 (x : Int))) := by
  obtain ⟨li, el, ol, _⟩ := h.body i hi (Nat.le_refl _)
  have hn : ∀ b, b < z.heap.size → (row.getD i d0).2.ownBlock ≠ some b → g ≠ b := fun b hb hv e => G.not hb hv (by rw [hg, e])
  have r1 : ∀ q, v.ownBlock = some q → (row.getD i d0).2.ownBlock ≠ some q := fun q e e' => rows_ne ol h.rows.1 types_ne q e' e
  refine ⟨below_set (h.frame.trans B) hg2 _ _, ⟨row_set (row_gr h.rows.1 G r1) (fun q => hn g (h.rows.1.lt g q).2 (r1 g q) rfl) _ _, h.rows.2⟩, fun j hj ha => ?_⟩
  obtain ⟨l, e1, e2, e3⟩ := h.body j hj (by omega)
  have r2 : ∀ q, (row.getD j d0).2.ownBlock = some q → (row.getD i d0).2.ownBlock ≠ some q := fun q e => dj_at hp hj hi (by omega) e
  exact ⟨l, e1, row_set (row_gr e2 G r2) (fun q => hn g (e2.lt g q).2 (r2 g q) rfl) _ _, e3⟩
theorem cp_len {f : Fr} {n : Nat} {g : Nat → Nat} : (cp f n g).length ≤ 141 := by
  unfold cp
  split
  · rename_i h
    have : n ≤ 65535 := by
      unfold ce at h
      by_cases c : okFr f = true
      · rw [if_pos c] at h
        by_cases c2 : n ≤ 65535
        · exact c2
        · rw [if_neg c2] at h; cases h
      · rw [if_neg c] at h; cases h
    simpa using npc_le this
  · simp
theorem cp_dat {f : Fr} {n : Nat} {g : Nat → Nat} : ∀ x ∈ cp f n g, x.dat.length ≤ 468 := by
  intro x hx
  unfold cp at hx
  split at hx
  · obtain ⟨i, _, rfl⟩ := List.mem_map.1 hx
    show (bl _ _).length ≤ 468
    rw [bl_len]
    omega
  · cases hx
theorem row_dat {f : Fr} {n : Nat} {g : Nat → Nat} {row : List (Fr × Value)} (h : row.map Prod.fst = cp f n g) {j : Nat} (hj : j < row.length) : (row.getD j d0).1.dat.length ≤ 468 := by
  have hm : row.getD j d0 ∈ row := by
    rw [List.getD_eq_getElem?_getD, List.getElem?_eq_getElem hj, Option.getD_some]
    exact List.getElem_mem hj
  exact cp_dat (f := f) (n := n) (g := g) _ (by rw [← h]; exact List.mem_map.2 ⟨_, hm, rfl⟩)
theorem St.start {w2 z : World} {v : Value} {row : List (Fr × Value)} (h : Rowf z w2.heap.size v row) (B : Below w2.heap.size w2 z) : St w2 v row (fun _ => True) (fun _ _ => False) z :=
  ⟨B, h.1, fun j hj _ => ⟨(row.getD j d0).1.dat, rfl, h.2 _ (by
    rw [List.getD_eq_getElem?_getD, List.getElem?_eq_getElem hj, Option.getD_some]
    exact List.getElem_mem hj), fun _ _ h => h.elim⟩⟩
end Go.Proofs.Yteigmnbbfmcihaa.Ct
