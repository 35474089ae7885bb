/-
  Times sorted.
  Conditions: none.
-/
import Derived.Test.YtmlnmldcjbhhjaaShelfT
import Derived.Test.YtmlnmldcjbhhjaaFlA
import Derived.Shelf.SortM.Plain
import Derived.Sort.OwnSortedInts
namespace Go.Proofs.Ytmlnmldcjbhhjaa.Fl
open Go.RowKit Go.ChangeShapes Go.WideShapes Go.ChangeAt Go.Joins Go.Shelf
set_option linter.unusedVariables false
set_option linter.unusedSimpArgs false

def srt (L : List Int) : List Int := L.mergeSort fun x y => decide (x ≤ y)
theorem srt_perm (L : List Int) : (srt L).Perm L := List.mergeSort_perm L _
theorem srt_len (L : List Int) : (srt L).length = L.length := (srt_perm L).length_eq
theorem srt_up (L : List Int) : (srt L).Pairwise (· ≤ ·) := by
  have h := List.pairwise_mergeSort (le := fun x y : Int => decide (x ≤ y)) (by intro a b c; simp; omega) (by intro a b; simp; omega) L
  exact h.imp fun h => by simpa using h
theorem srt_eq {L K : List Int} (h : L.Perm K) : srt L = srt K :=
  List.Perm.eq_of_pairwise (fun a b _ _ h1 h2 => Int.le_antisymm h1 h2) (srt_up L) (srt_up K) ((srt_perm L).trans (h.trans (srt_perm K).symm))
theorem getD_of {L : List Int} {j : Nat} (h : j < L.length) : L[j]? = some (L.getD j 0) := by
  rw [List.getD_eq_getElem?_getD, List.getElem?_eq_getElem h]; rfl
theorem sort_c {w : World} {base : Nat} {v : Value} {L : List Int} (h : OwnT w base v L) (hp : 0 < L.length) (hs : L.length < 4611686018427387904) :
    Calls Try.prog 26 #[v] w fun e w' => e = .returned (.tuple #[]) ∧ OwnT w' base v (srt L) ∧ (base ≤ w.heap.size → Below base w w') := by
  obtain ⟨h1, h2⟩ := h
  rcases h2 with ⟨rfl, h0⟩ | ⟨g, cap, cur, rfl, hb, hh, hc, hm, hs1, ht⟩
  · omega
  have hg : g < w.heap.size := (Array.getElem?_eq_some_iff.1 hh).1
  rw [Nat.mul_one] at ht
  have hH : Go.Sort.Holds (Value.int .i64) w g 0 L.toArray := holds_of_blockI hh ht
  refine (AnyM.slices_Sort_int sortT g 0 cap L w hH hg hs).mono ?_
  rintro e w' ⟨rfl, n, os, rfl⟩
  refine ⟨rfl, ?_, fun hbs => ?_⟩
  · have q := ownsRow_sortedI (n := n) (os := os) (ss := L) (ts := srt L) (srt_len L) hb hh hc hm hs1
    unfold OwnT
    rw [srt_len]
    exact q
  · exact (Below.refl base w).grown (grownBy_sortedI (n := n) (os := os) _) hbs (fun k hk => by simp at hk; omega)
theorem srt_id {L : List Int} (h : L.Pairwise (· ≤ ·)) : srt L = L :=
  List.Perm.eq_of_pairwise (fun a b _ _ h1 h2 => Int.le_antisymm h1 h2) (srt_up L) h (srt_perm L)
end Go.Proofs.Ytmlnmldcjbhhjaa.Fl
