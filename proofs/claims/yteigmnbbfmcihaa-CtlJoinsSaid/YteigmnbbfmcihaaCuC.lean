/-
  Parts of a row of frames that comes in, appended to a row of the call's own.
  Conditions: none.
-/
import Derived.Test.YteigmnbbfmcihaaCuB
namespace Go.Proofs.Yteigmnbbfmcihaa.Ct
open Go.RowKit Go.ChangeShapes Go.WideShapes Go.ChangeAt Go.Joins By
set_option linter.unusedVariables false
set_option linter.unusedSimpArgs false

theorem rcs_take : ∀ (t : Nat) (L : List (Fr × Value)), rcs (L.take t) = (rcs L).take (t * 10)
  | 0, L => by simp [rcs]
  | t + 1, [] => by simp [rcs]
  | t + 1, x :: r => by
    have ih := rcs_take t r
    have e : rcs (x :: r) = fvs x.1 x.2 ++ rcs r := rfl
    have e2 : rcs ((x :: r).take (t + 1)) = fvs x.1 x.2 ++ rcs (r.take t) := rfl
    rw [e, e2, ih, List.take_append, fvs_len, show (t + 1) * 10 - 10 = t * 10 by omega, List.take_of_length_le (l := fvs x.1 x.2) (by rw [fvs_len]; omega)]
theorem rcs_drop : ∀ (t : Nat) (L : List (Fr × Value)), rcs (L.drop t) = (rcs L).drop (t * 10)
  | 0, L => by simp
  | t + 1, [] => by simp [rcs]
  | t + 1, x :: r => by
    have ih := rcs_drop t r
    have e : rcs (x :: r) = fvs x.1 x.2 ++ rcs r := rfl
    rw [List.drop_succ_cons, ih, e, List.drop_append, fvs_len, show (t + 1) * 10 - 10 = t * 10 by omega, List.drop_of_length_le (l := fvs x.1 x.2) (by rw [fvs_len]; omega), List.nil_append]
/-- frames out of memory, appended. -/
theorem appS {w : World} {base : Nat} {v : Value} {l : List (Fr × Value)} (h : OwnR w base v l) (M : List (Fr × Value)) (ad : Addr) (c : Nat) (hc : ∀ j u, (rcs M)[j]? = some u → w.cell? (ad.add j) = some u) (one : ∀ u ∈ rcs M, u.oneCell' = true)
    (hb : base ≤ w.heap.size) (hn : l.length + M.length ≤ 1000) (ty : TypeId) :
    ∃ v' w', (Builtin.append_ #[37, 37] ty #[v, .slice (some ad) M.length c]).run Try.prog w = .ok v' w' ∧ OwnR w' base v' (l ++ M) ∧ Below base w w' ∧ Gr w v w' v' := by
  obtain ⟨i, hi, hz, hs, hby⟩ := info3 info_fr3
  obtain ⟨v', w', hr, ho, hg, _, hob⟩ := run_append_own_at (P := Try.prog) w base 37 ty 24 i (.agg (fvs fr0 (.slice none 0 0)).toArray) 10 80 Try.underlying37 hi hz hs hby rfl (by decide) v l.length (rcs l) h.1 ad M.length c (rcs M) (rcs_len M) hc one (by unfold maxLen; omega) (by omega) hb
  refine ⟨v', w', hr, ⟨by rw [rcs_app, List.length_append]; exact ho, fun u hu => ?_⟩, (Below.refl base w).grown hg hb (fun k hk => (h.1.lt k hk).1), gr_of hg hob⟩
  rw [rcs_app] at hu
  rcases List.mem_append.1 hu with q | q
  · exact h.2 u q
  · exact one u q
/-- the cells of a row's beginning and of its end. -/
theorem take_cells {w : World} {b off : Nat} {L : List (Fr × Value)} (h : ∀ j u, (rcs L)[j]? = some u → w.cell? ⟨b, off + j, none⟩ = some u) (t : Nat) : ∀ j u, (rcs (L.take t))[j]? = some u → w.cell? ((⟨b, off, none⟩ : Addr).add j) = some u := by
  intro j u hj
  rw [rcs_take, List.getElem?_take] at hj
  split at hj
  · rw [add_plain]; exact h j u hj
  · cases hj
theorem drop_cells {w : World} {b off : Nat} {L : List (Fr × Value)} (h : ∀ j u, (rcs L)[j]? = some u → w.cell? ⟨b, off + j, none⟩ = some u) (t : Nat) : ∀ j u, (rcs (L.drop t))[j]? = some u → w.cell? ((⟨b, off + t * 10, none⟩ : Addr).add j) = some u := by
  intro j u hj
  rw [rcs_drop, List.getElem?_drop] at hj
  rw [add_plain, show off + t * 10 + j = off + (t * 10 + j) by omega]
  exact h _ u hj
/-- the frames M lie in block g, which may be written. -/
def Cr (w : World) (g : Nat) (M : List (Fr × Value)) : Prop := g < w.heap.size ∧ ∀ j x, M[j]? = some x → ∀ k, k < 10 → w.cell? ⟨g, j * 10 + k, none⟩ = (fvs x.1 x.2)[k]? ∧ w.frozen? ⟨g, j * 10 + k, none⟩ = false
theorem cr_own {w : World} {base : Nat} {v : Value} {M : List (Fr × Value)} (h : OwnR w base v M) (hl : 0 < M.length) : ∃ g c, v = .slice (some ⟨g, 0, none⟩) M.length c ∧ base ≤ g ∧ M.length ≤ c ∧ c ≤ maxLen ∧ Cr w g M := by
  rcases h.1.2 with ⟨hv, h0⟩ | ⟨g, cap, cur, hv, hb, hh, hc, hm, hcs, ht⟩
  · omega
  · subst hv
    refine ⟨g, cap, rfl, hb, hc, hm, (Array.getElem?_eq_some_iff.1 hh).1, fun j x hx k hk => ⟨?_, frozen_of_row w g _ cur _ hh⟩⟩
    have hj := (List.getElem?_eq_some_iff.1 hx).1
    rw [← rcs_at M j x hx k hk, ← ht, List.getElem?_take, if_pos (by omega)]
    simp only [World.cell?, hh]
    simp
theorem Cr.below {w w' : World} {g : Nat} {M : List (Fr × Value)} (h : Cr w g M) (q : Below w.heap.size w w') : Cr w' g M :=
  ⟨Nat.lt_of_lt_of_le h.1 q.size, fun j x hx k hk => ⟨(q.cell (p := ⟨g, j * 10 + k, none⟩) h.1).trans (h.2 j x hx k hk).1, (q.frozen (p := ⟨g, j * 10 + k, none⟩) h.1).trans (h.2 j x hx k hk).2⟩⟩
theorem Cr.range {w : World} {g : Nat} {M : List (Fr × Value)} (h : Cr w g M) {j : Nat} {x : Fr × Value} (hx : M[j]? = some x) : w.rangeAt g (0 + j * 10) (fvs x.1 x.2) := fun i v hi => by
  have hi' : i < 10 := by have := (List.getElem?_eq_some_iff.1 hi).1; rwa [fvs_len] at this
  rw [Nat.zero_add, (h.2 j x hx i hi').1]
  exact hi
theorem Cr.there {w : World} {g : Nat} {M : List (Fr × Value)} (h : Cr w g M) {j : Nat} (hj : j < M.length) : ∀ k, k < 10 → (w.cell? ⟨g, j * 10 + k, none⟩).isSome = true ∧ w.frozen? ⟨g, j * 10 + k, none⟩ = false := fun k hk => by
  have q := h.2 j _ (List.getElem?_eq_getElem hj) k hk
  refine ⟨?_, q.2⟩
  rw [q.1, List.getElem?_eq_getElem (by rw [fvs_len]; exact hk)]
  rfl
theorem size_sets (b : Nat) : ∀ (vs : List Value) (o : Nat) (w : World), (w.setCells b o vs).heap.size = w.heap.size
  | [], _, _ => rfl
  | v :: r, o, w => by rw [World.setCells, size_sets b r]; simp [World.setCell]
theorem Cr.set {w : World} {g : Nat} {M : List (Fr × Value)} (h : Cr w g M) {j : Nat} (hj : j < M.length) (x : Fr) (y : Value) : Cr (w.setCells g (0 + j * 10) (fvs x y)) g (M.set j (x, y)) := by
  rw [Nat.zero_add]
  refine ⟨by rw [size_sets]; exact h.1, fun i z hz k hk => ⟨?_, by rw [World.frozen?_setCells]; exact (h.there (by have := (List.getElem?_eq_some_iff.1 hz).1; rw [List.length_set] at this; exact this) k hk).2⟩⟩
  rw [List.getElem?_set] at hz
  by_cases c : j = i
  · subst c
    rw [if_pos rfl, if_pos hj] at hz
    cases hz
    have th : ∀ q, q < (fvs x y).length → (w.cell? ⟨g, j * 10 + q, none⟩).isSome = true := fun q hq => (h.there hj q (by rw [fvs_len] at hq; exact hq)).1
    have hk' : k < (fvs x y).length := by rw [fvs_len]; exact hk
    rw [World.cell?_setCells_in g (fvs x y) (j * 10) w th k hk', List.getElem?_eq_getElem hk']
  · rw [if_neg c] at hz
    rw [World.cell?_setCells_out g (fvs x y) (j * 10) w ⟨g, i * 10 + k, none⟩ (fun _ _ => by rw [fvs_len]; show i * 10 + k < j * 10 ∨ j * 10 + 10 ≤ i * 10 + k; omega)]
    exact (h.2 i z hz k hk).1
theorem Cr.cells {w : World} {g : Nat} {M : List (Fr × Value)} (h : Cr w g M) : ∀ j u, (rcs M)[j]? = some u → w.cell? ⟨g, 0 + j, none⟩ = some u :=
  Fl.cells (L := M) (fun j hj k hk => by
    have e := List.getElem?_eq_getElem hj
    rw [List.getD_eq_getElem?_getD, e, Option.getD_some, Nat.zero_add]
    exact (h.2 j _ e k hk).1)
theorem Cr.fl {w : World} {g c : Nat} {M : List (Fr × Value)} (h : Cr w g M) (hc : M.length ≤ c) (hm : c ≤ maxLen) (hd : ∀ x ∈ M, Sl w x.2 x.1.dat) : Fl w (.slice (some ⟨g, 0, none⟩) M.length c) M :=
  ⟨_, c, rfl, hc, (by unfold maxLen at hm; omega), fun hp => ⟨g, 0, rfl, h.1, fun j hj k hk => by
    have e := List.getElem?_eq_getElem hj
    rw [List.getD_eq_getElem?_getD, e, Option.getD_some, Nat.zero_add]
    exact (h.2 j _ e k hk).1⟩, hd⟩
/-- swapped as far as i from either end. -/
def Sw (R M : List (Fr × Value)) (i : Nat) : Prop := M.length = R.length ∧ ∀ j, j < R.length → M[j]? = R[if j < i ∨ R.length - i ≤ j then R.length - 1 - j else j]?
theorem Sw.start (R : List (Fr × Value)) : Sw R R 0 := ⟨rfl, fun j hj => by rw [if_neg (by omega)]⟩
theorem Sw.step {R M : List (Fr × Value)} {i : Nat} (h : Sw R M i) (hi : i < R.length / 2) {x y : Fr × Value} (hx : M[i]? = some x) (hy : M[R.length - 1 - i]? = some y) : Sw R ((M.set i y).set (R.length - 1 - i) x) (i + 1) := by
  refine ⟨by rw [List.length_set, List.length_set]; exact h.1, fun j hj => ?_⟩
  rw [h.2 i (by omega), if_neg (by omega)] at hx
  rw [h.2 _ (by omega), if_neg (by omega)] at hy
  rw [List.getElem?_set, List.getElem?_set, List.length_set, h.1]
  by_cases c : R.length - 1 - i = j
  · rw [if_pos c, if_pos (by omega), if_pos (by omega), ← hx]
    congr 1; omega
  · rw [if_neg c]
    by_cases d : i = j
    · rw [if_pos d, if_pos (by omega), if_pos (by omega), ← hy]
      congr 1; omega
    · rw [if_neg d, h.2 j hj]
      by_cases e : j < i ∨ R.length - i ≤ j
      · rw [if_pos e, if_pos (by omega)]
      · rw [if_neg e, if_neg (by omega)]
theorem Sw.done {R M : List (Fr × Value)} {i : Nat} (h : Sw R M i) (hi : ¬ i < R.length / 2) (hi2 : i ≤ R.length / 2) : M.Perm R := by
  have e : M = R.reverse := by
    apply List.ext_getElem?
    intro j
    by_cases c : j < R.length
    · rw [h.2 j c, List.getElem?_reverse c]
      by_cases d : j < i ∨ R.length - i ≤ j
      · rw [if_pos d]
      · rw [if_neg d]
        congr 1; omega
    · rw [List.getElem?_eq_none (by rw [h.1]; omega), List.getElem?_eq_none (by rw [List.length_reverse]; omega)]
  rw [e]
  exact List.reverse_perm R
end Go.Proofs.Yteigmnbbfmcihaa.Ct
