/-
  Rows of times sorted: the middle lies among them, does not hang on their order, and is near a time as long as fewer than half of them are off.
  Conditions: none.
-/
import Derived.Test.YtoecgabdjpgleaaGreatDoorProg
namespace Go.Proofs.YtoecgabdjpgleaaGreatDoor.Rd
set_option linter.unusedVariables false
set_option linter.unusedSimpArgs false

def srt (L : List Int) : List Int := L.mergeSort fun x y => decide (x ≤ y)
theorem srt_perm (L : List Int) : (srt L).Perm L := List.mergeSort_perm L _
theorem srt_len (L : List Int) : (srt L).length = L.length := (srt_perm L).length_eq
theorem srt_up (L : List Int) : (srt L).Pairwise (· ≤ ·) := by
  have h := List.pairwise_mergeSort (le := fun x y : Int => decide (x ≤ y)) (by intro a b c; simp; omega) (by intro a b; simp; omega) L
  exact h.imp fun h => by simpa using h
theorem srt_eq {L K : List Int} (h : L.Perm K) : srt L = srt K :=
  List.Perm.eq_of_pairwise (fun a b _ _ h1 h2 => Int.le_antisymm h1 h2) (srt_up L) (srt_up K) ((srt_perm L).trans (h.trans (srt_perm K).symm))
def sa (L : List Int) (j : Nat) : Int := (srt L).getD j 0
theorem sa_le (L : List Int) {i j : Nat} (h : i ≤ j) (hj : j < L.length) : sa L i ≤ sa L j := by
  unfold sa
  have hi' : i < (srt L).length := by rw [srt_len]; omega
  have hj' : j < (srt L).length := by rw [srt_len]; omega
  simp only [List.getD_eq_getElem?_getD, List.getElem?_eq_getElem hi', List.getElem?_eq_getElem hj', Option.getD_some]
  rcases Nat.lt_or_eq_of_le h with h | h
  · exact List.pairwise_iff_getElem.1 (srt_up L) i j hi' hj' h
  · subst h; exact Int.le_refl _
theorem sa_mem (L : List Int) {j : Nat} (hj : j < L.length) : sa L j ∈ L := by
  have hj' : j < (srt L).length := by rw [srt_len]; omega
  have e : sa L j = (srt L)[j] := by unfold sa; simp only [List.getD_eq_getElem?_getD, List.getElem?_eq_getElem hj', Option.getD_some]
  rw [e]
  exact (srt_perm L).mem_iff.1 (List.getElem_mem hj')
theorem sa_of (L : List Int) {x : Int} (h : x ∈ L) : ∃ j, j < L.length ∧ x = sa L j := by
  obtain ⟨j, hj, e⟩ := List.getElem_of_mem ((srt_perm L).mem_iff.2 h)
  refine ⟨j, by rw [← srt_len]; exact hj, ?_⟩
  unfold sa
  simp only [List.getD_eq_getElem?_getD, List.getElem?_eq_getElem hj, Option.getD_some]
  exact e.symm
/-- the lower and the upper one in the middle; the middle; how far the last is from the first. -/
def lw (L : List Int) : Int := sa L ((L.length - 1) / 2)
def hg (L : List Int) : Int := sa L (L.length / 2)
def mid (L : List Int) : Int := lw L + (hg L - lw L) / 2
def wid (L : List Int) : Int := sa L (L.length - 1) - sa L 0
theorem lw_hg (L : List Int) (h : 0 < L.length) : lw L ≤ hg L := sa_le L (by omega) (by omega)
theorem mid_in (L : List Int) (h : 0 < L.length) : lw L ≤ mid L ∧ mid L ≤ hg L := by
  have := lw_hg L h
  unfold mid
  omega
/-- the least and the greatest so far; how many of the first are off. -/
def lo (L : List Int) : Nat → Int
  | 0 => L.getD 0 0
  | k + 1 => min (lo L k) (L.getD k 0)
def hi (L : List Int) : Nat → Int
  | 0 => L.getD 0 0
  | k + 1 => max (hi L k) (L.getD k 0)
def off (p : Int → Bool) (L : List Int) (k : Nat) : Nat := ((L.take k).filter p).length
theorem off_succ (p : Int → Bool) (L : List Int) {k : Nat} {x : Int} (h : L[k]? = some x) : off p L (k + 1) = off p L k + if p x then 1 else 0 := by
  obtain ⟨h1, h2⟩ := List.getElem?_eq_some_iff.1 h
  unfold off
  rw [List.take_succ_eq_append_getElem h1, h2, List.filter_append, List.length_append]
  congr 1
  by_cases c : p x <;> simp [c]
theorem off_le (p : Int → Bool) (L : List Int) (k : Nat) : off p L k ≤ k := by
  unfold off
  exact Nat.le_trans (List.length_filter_le _ _) (by rw [List.length_take]; omega)
theorem getD_at (L : List Int) {k : Nat} {x : Int} (h : L[k]? = some x) : L.getD k 0 = x := by rw [List.getD_eq_getElem?_getD, h]; rfl
theorem lo_le (L : List Int) : ∀ k, k ≤ L.length → (∀ j, j < k → lo L k ≤ L.getD j 0) ∧ (0 < L.length → lo L k ∈ L)
  | 0, _ => ⟨fun j hj => by omega, fun h => by unfold lo; rw [List.getD_eq_getElem?_getD, List.getElem?_eq_getElem h]; exact List.getElem_mem h⟩
  | k + 1, hk => by
    have ih := lo_le L k (by omega)
    refine ⟨fun j hj => ?_, fun h => ?_⟩
    · unfold lo
      rcases Nat.lt_or_eq_of_le (Nat.le_of_lt_succ hj) with c | c
      · have := ih.1 j c; omega
      · subst c; omega
    · have m := ih.2 h
      have g : L.getD k 0 ∈ L := by rw [List.getD_eq_getElem?_getD, List.getElem?_eq_getElem (by omega : k < L.length)]; exact List.getElem_mem _
      unfold lo
      rcases Int.le_total (lo L k) (L.getD k 0) with c | c
      · rw [Int.min_eq_left c]; exact m
      · rw [Int.min_eq_right c]; exact g
theorem hi_ge (L : List Int) : ∀ k, k ≤ L.length → (∀ j, j < k → L.getD j 0 ≤ hi L k) ∧ (0 < L.length → hi L k ∈ L)
  | 0, _ => ⟨fun j hj => by omega, fun h => by unfold hi; rw [List.getD_eq_getElem?_getD, List.getElem?_eq_getElem h]; exact List.getElem_mem h⟩
  | k + 1, hk => by
    have ih := hi_ge L k (by omega)
    refine ⟨fun j hj => ?_, fun h => ?_⟩
    · unfold hi
      rcases Nat.lt_or_eq_of_le (Nat.le_of_lt_succ hj) with c | c
      · have := ih.1 j c; omega
      · subst c; omega
    · have m := ih.2 h
      have g : L.getD k 0 ∈ L := by rw [List.getD_eq_getElem?_getD, List.getElem?_eq_getElem (by omega : k < L.length)]; exact List.getElem_mem _
      unfold hi
      rcases Int.le_total (hi L k) (L.getD k 0) with c | c
      · rw [Int.max_eq_right c]; exact g
      · rw [Int.max_eq_left c]; exact m
theorem mem_getD (L : List Int) {x : Int} (h : x ∈ L) : ∃ j, j < L.length ∧ L.getD j 0 = x := by
  obtain ⟨j, hj, e⟩ := List.getElem_of_mem h
  exact ⟨j, hj, by rw [List.getD_eq_getElem?_getD, List.getElem?_eq_getElem hj]; exact e⟩
theorem lo_all (L : List Int) (h : 0 < L.length) : lo L L.length = sa L 0 := by
  obtain ⟨h1, h2⟩ := lo_le L L.length (Nat.le_refl _)
  obtain ⟨j, hj, e⟩ := sa_of L (h2 h)
  have a := sa_le L (Nat.zero_le j) hj
  obtain ⟨i, hi, e2⟩ := mem_getD L (sa_mem L h)
  have b := h1 i hi
  omega
theorem hi_all (L : List Int) (h : 0 < L.length) : hi L L.length = sa L (L.length - 1) := by
  obtain ⟨h1, h2⟩ := hi_ge L L.length (Nat.le_refl _)
  obtain ⟨j, hj, e⟩ := sa_of L (h2 h)
  have a := sa_le L (i := j) (j := L.length - 1) (by omega) (by omega)
  obtain ⟨i, hi, e2⟩ := mem_getD L (sa_mem L (j := L.length - 1) (by omega))
  have b := h1 i hi
  omega
theorem off_all (p : Int → Bool) (L : List Int) : off p L L.length = ((srt L).filter p).length := by
  unfold off
  rw [List.take_length]
  exact ((srt_perm L).filter p).length_eq.symm
theorem filt_ge (p : Int → Bool) (L : List Int) (a b : Nat) (hb : b ≤ L.length) (h : ∀ j, a ≤ j → j < b → p (L.getD j 0) = true) : b - a ≤ (L.filter p).length := by
  have e : L = L.take a ++ ((L.drop a).take (b - a) ++ (L.drop a).drop (b - a)) := by rw [List.take_append_drop, List.take_append_drop]
  have f : ((L.drop a).take (b - a)).filter p = (L.drop a).take (b - a) := by
    rw [List.filter_eq_self]
    intro x hx
    obtain ⟨j, hj, e⟩ := List.getElem_of_mem hx
    rw [List.length_take, List.length_drop] at hj
    have q := h (a + j) (by omega) (by omega)
    rw [List.getElem_take, List.getElem_drop] at e
    rw [List.getD_eq_getElem?_getD, List.getElem?_eq_getElem (by omega : a + j < L.length)] at q
    rw [← e]
    exact q
  rw [e, List.filter_append, List.filter_append, f]
  simp only [List.length_append, List.length_take, List.length_drop]
  omega
/-- as long as fewer than half of them are off, the middle is not. -/
theorem near_mid (L : List Int) (t e : Int) (h : 0 < L.length) (hf : 2 * off (fun x => !(decide (x - t ≤ e) && decide (t - x ≤ e))) L L.length < L.length) : mid L - t ≤ e ∧ t - mid L ≤ e := by
  rw [off_all] at hf
  have m := mid_in L h
  have l := srt_len L
  constructor
  · apply Decidable.byContradiction
    intro c
    have q := filt_ge (fun x => !(decide (x - t ≤ e) && decide (t - x ≤ e))) (srt L) (L.length / 2) L.length (by omega) (fun j h1 h2 => by
      have := sa_le L h1 h2
      unfold hg at m
      unfold sa at *
      have q : ¬ ((srt L).getD j 0 - t ≤ e) := by omega
      show (!(decide ((srt L).getD j 0 - t ≤ e) && _)) = true
      rw [decide_eq_false q]
      rfl)
    omega
  · apply Decidable.byContradiction
    intro c
    have q := filt_ge (fun x => !(decide (x - t ≤ e) && decide (t - x ≤ e))) (srt L) 0 ((L.length - 1) / 2 + 1) (by omega) (fun j h1 h2 => by
      have := sa_le L (i := j) (j := (L.length - 1) / 2) (by omega) (by omega)
      unfold lw at m
      unfold sa at *
      have q : ¬ (t - (srt L).getD j 0 ≤ e) := by omega
      show (!(_ && decide (t - (srt L).getD j 0 ≤ e))) = true
      rw [decide_eq_false q, Bool.and_false]
      rfl)
    omega
theorem rot_perm (L : List Int) (t : Nat) : (L.drop t ++ L.take t).Perm L := by
  have := @List.perm_append_comm Int (L.drop t) (L.take t)
  rwa [List.take_append_drop] at this
theorem mid_eq {L K : List Int} (h : L.Perm K) : mid L = mid K ∧ wid L = wid K := by
  unfold mid wid lw hg sa
  rw [srt_eq h, h.length_eq]
  exact ⟨rfl, rfl⟩
end Go.Proofs.YtoecgabdjpgleaaGreatDoor.Rd
