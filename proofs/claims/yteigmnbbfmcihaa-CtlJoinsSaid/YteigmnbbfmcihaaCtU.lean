/-
  A row of frames, cloned.
  Conditions: none.
-/
import Derived.Test.YteigmnbbfmcihaaCtT
namespace Go.Proofs.Yteigmnbbfmcihaa.Ct
open Go.RowKit Go.ChangeShapes Go.WideShapes Go.ChangeAt Go.Joins By
set_option linter.unusedVariables false
set_option linter.unusedSimpArgs false

theorem ownR0 (w : World) (base : Nat) (hb : base ≤ w.heap.size) : OwnR (w.alloc (.cells #[] 24)) base (.slice (some ⟨w.heap.size, 0, none⟩) 0 0) [] :=
  ⟨⟨rfl, .inr ⟨w.heap.size, 0, _, rfl, hb, heap_alloc_new w _, Nat.le_refl _, by unfold maxLen; omega, rfl, rfl⟩⟩, fun u h => (by cases h)⟩
theorem rcs_len : ∀ L : List (Fr × Value), (rcs L).length = L.length * 10
  | [] => rfl
  | x :: r => by
    show (fvs x.1 x.2 ++ rcs r).length = _
    rw [List.length_append, rcs_len r, fvs_len, List.length_cons]
    omega
theorem rcs_one (L : List (Fr × Value)) (h : ∀ x ∈ L, x.2.oneCell' = true) : ∀ u ∈ rcs L, u.oneCell' = true := by
  intro u hu
  obtain ⟨x, hx, hu⟩ := List.mem_flatMap.1 hu
  exact fvs_one x.1 x.2 (h x hx) u hu
/-- cell by cell. -/
theorem Fl.cells {w : World} {b off : Nat} {L : List (Fr × Value)} (B : ∀ j, j < L.length → ∀ k, k < 10 → w.cell? ⟨b, off + j * 10 + k, none⟩ = (fvs (L.getD j d0).1 (L.getD j d0).2)[k]?) : ∀ i u, (rcs L)[i]? = some u → w.cell? ⟨b, off + i, none⟩ = some u := by
  intro i u h
  have hi : i < L.length * 10 := by rw [← rcs_len]; exact (List.getElem?_eq_some_iff.1 h).1
  have hj : i / 10 < L.length := by omega
  have e := rcs_at L (i / 10) _ (List.getElem?_eq_getElem hj) (i % 10) (by omega)
  rw [show i / 10 * 10 + i % 10 = i by omega, h] at e
  have q := B (i / 10) hj (i % 10) (by omega)
  rw [List.getD_eq_getElem?_getD, List.getElem?_eq_getElem hj, Option.getD_some, ← e, show off + i / 10 * 10 + i % 10 = off + i by omega] at q
  exact q
theorem nil_frs (w : World) (a : Option Addr) (n c n' c' : Nat) : (binOp .eql 37 (.slice a n c) (.slice none n' c')).run Try.prog w = .ok (.bool a.isNone) w := Lib.run_eql_slice_nil w _ _ a n c n' c' Try.underlying37
set_option maxRecDepth 100000 in
set_option maxHeartbeats 4000000 in
theorem CloneF_c {w : World} {v : Value} {L : List (Fr × Value)} (F : Fl w v L) (hn : L.length ≤ 1000) : Calls Try.prog 33 #[v] w fun e w' => (∃ u, e = .returned u ∧ OwnR w' w.heap.size u L) ∧ Below w.heap.size w w' := by
  have one : ∀ u ∈ rcs L, u.oneCell' = true := rcs_one L fun x hx => by
    obtain ⟨_, _, _, _, _, _, h⟩ := F
    obtain ⟨a', c', e⟩ := (h x hx).form
    rw [e]
    rfl
  obtain ⟨a, cap, rfl, hc, hc2, hB, hS⟩ := F
  cases a with
  | none =>
    have h0 : L.length = 0 := Nat.eq_zero_of_not_pos fun hp => by obtain ⟨b, off, e, _⟩ := hB hp; cases e
    have e0 : L = [] := List.eq_nil_of_length_eq_zero h0
    subst e0
    simp only [List.length_nil]
    have EQ : (binOp .eql 37 (.slice none 0 cap) (.slice none 0 0)).run Try.prog w = .ok (.bool true) w := nil_frs w none 0 cap 0 0
    clear hB hS one
    go_enter Try.func33, Try.ntmps33
    go_wp2_with fail
    go_ret
    exact ⟨⟨_, rfl, OwnR.nil _ _⟩, brefl w⟩
  | some ad =>
    obtain ⟨i, hi, hz, hs, hby⟩ := info3 info_fr3
    have BA := balloc (brefl w) (.cells #[] 24)
    have hcell : ∀ j u, (rcs L)[j]? = some u → (w.alloc (.cells #[] 24)).cell? (ad.add j) = some u := by
      intro j u hj
      have hp : 0 < L.length := Nat.pos_of_ne_zero fun h => by
        have := (List.getElem?_eq_some_iff.1 hj).1
        rw [rcs_len, h] at this
        omega
      obtain ⟨b, off, e, hb, B⟩ := hB hp
      cases e
      rw [add_plain, BA.cell hb]
      exact Fl.cells B j u hj
    obtain ⟨v', w', hr, ho, hg, _, hob⟩ := run_append_own_at (P := Try.prog) (w.alloc (.cells #[] 24)) w.heap.size 37 37 24 i (.agg (fvs fr0 (.slice none 0 0)).toArray) 10 80 Try.underlying37 hi hz hs hby rfl (by decide) _ 0 [] (ownR0 w w.heap.size (Nat.le_refl _)).1 ad L.length cap (rcs L) (rcs_len L) hcell one (by unfold maxLen; omega) (by omega) (by simp)
    rw [Nat.zero_add, List.nil_append] at ho
    have O2 : Hid (OwnR w' w.heap.size v' L) := Lib.hid ⟨ho, one⟩
    have BB := Lib.hid (BA.grown hg (by simp) (fun k hk => ((ownR0 w w.heap.size (Nat.le_refl _)).1.lt k hk).1))
    have EQ : (binOp .eql 37 (.slice (some ad) L.length cap) (.slice none 0 0)).run Try.prog w = .ok (.bool false) w := nil_frs w (some ad) L.length cap 0 0
    clear hB hS one hcell ho hg hob BA
    go_enter Try.func33, Try.ntmps33
    go_wp2_with (first | (at_builtin; refine wpList_append_eq rfl _ _ 37 rfl _ _ v' w' rfl rfl hr ?_))
    go_ret
    exact ⟨⟨_, rfl, O2.out⟩, BB.out⟩
end Go.Proofs.Yteigmnbbfmcihaa.Ct
