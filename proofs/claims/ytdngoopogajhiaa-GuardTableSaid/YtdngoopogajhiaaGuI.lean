/-
  The table of hosts is the sixteen addresses that were seen last, each once.
  Conditions: none.
-/
import Derived.Test.YtdngoopogajhiaaGuP
namespace Go.Proofs.Ytdngoopogajhiaa.Gu
set_option linter.unusedVariables false
set_option linter.unusedSimpArgs false

/-- each once, the first of each kept. -/
def dd : List Int → List Int
  | [] => []
  | x :: t => x :: (dd t).filter fun y => decide (y ≠ x)
theorem dd_cons (x : Int) (t : List Int) : dd (x :: t) = x :: (dd t).filter fun y => decide (y ≠ x) := rfl
theorem dd_nodup : ∀ l : List Int, (dd l).Nodup
  | [] => List.nodup_nil
  | x :: t => by
    unfold dd
    refine List.nodup_cons.2 ⟨fun h => ?_, (dd_nodup t).filter _⟩
    have := (List.mem_filter.1 h).2
    simp at this
/-- as the law gathers what it wants. -/
def wst (W : List Int) (x : Int) : List Int := if x ∈ W ∨ 16 ≤ W.length then W else W ++ [x]
theorem wst_fold : ∀ (l W : List Int), W.length ≤ 16 → l.foldl wst W = (W ++ (dd l).filter fun y => decide (y ∉ W)).take 16
  | [], W, h => by simp [dd, List.take_of_length_le h]
  | x :: t, W, h => by
    rw [List.foldl_cons]
    by_cases c : x ∈ W
    · have e : wst W x = W := by unfold wst; rw [if_pos (.inl c)]
      rw [e, wst_fold t W h]
      rw [dd_cons, List.filter_cons_of_neg (by simpa using c), List.filter_filter]
      congr 2
      refine List.filter_congr fun y _ => ?_
      by_cases d : y ∈ W
      · simp [d]
      · have : y ≠ x := fun e => d (e ▸ c)
        simp [d, this]
    · by_cases k : 16 ≤ W.length
      · have e : wst W x = W := by unfold wst; rw [if_pos (.inr k)]
        rw [e, wst_fold t W h, List.take_append_of_le_length k, List.take_append_of_le_length k]
      · have e : wst W x = W ++ [x] := by unfold wst; rw [if_neg (by intro z; rcases z with z | z; exact c z; exact k z)]
        rw [e, wst_fold t (W ++ [x]) (by simp; omega)]
        rw [dd_cons, List.filter_cons_of_pos (by simpa using c), List.filter_filter, List.append_assoc, List.singleton_append]
        congr 3
        refine List.filter_congr fun y _ => ?_
        by_cases d : y ∈ W <;> by_cases f : y = x <;> simp [d, f]
theorem take_filter (a : Int) : ∀ (T : List Int) (n : Nat), T.Nodup → ((T.take (n + 1)).filter fun y => decide (y ≠ a)).take n = (T.filter fun y => decide (y ≠ a)).take n
  | [], n, _ => by simp
  | y :: r, n, h => by
    obtain ⟨h1, h2⟩ := List.nodup_cons.1 h
    rw [List.take_succ_cons]
    by_cases c : y = a
    · rw [List.filter_cons_of_neg (by simpa using c), List.filter_cons_of_neg (by simpa using c)]
      have all : ∀ l : List Int, (∀ z ∈ l, z ∈ r) → l.filter (fun y => decide (y ≠ a)) = l := fun l hl => List.filter_eq_self.2 fun z hz => by
        have : z ≠ a := fun e => h1 (c ▸ e ▸ hl z hz)
        simpa using this
      rw [all _ (fun z hz => List.mem_of_mem_take hz), all _ (fun z hz => hz), List.take_take, Nat.min_self]
    · rw [List.filter_cons_of_pos (by simpa using c), List.filter_cons_of_pos (by simpa using c)]
      cases n with
      | zero => simp
      | succ n => rw [List.take_succ_cons, List.take_succ_cons, take_filter a r n h2]
theorem see_addrs {a raw : Int} {H : List Ho} {l : List Int} (h : H.map Ho.addr = (dd l).take 16) : (seeH a raw H).map Ho.addr = (dd (a :: l)).take 16 := by
  have e : ∀ H : List Ho, (rest a H).map Ho.addr = (H.map Ho.addr).filter fun y => decide (y ≠ a) := fun H => by
    unfold rest
    induction H with
    | nil => rfl
    | cons x r ih =>
      by_cases c : x.addr = a
      · rw [List.filter_cons_of_neg (by simpa using c), List.map_cons, List.filter_cons_of_neg (by simpa using c), ih]
      · rw [List.filter_cons_of_pos (by simpa using c), List.map_cons, List.map_cons, List.filter_cons_of_pos (by simpa using c), ih]
  unfold seeH dd
  rw [List.map_cons, List.map_take, e, h, take_filter a (dd l) 15 (dd_nodup l), List.take_succ_cons]
  rfl
/-- what the law wants is what the guard has. -/
theorem want_addrs {H : List Ho} {l : List Int} (h : H.map Ho.addr = (dd l).take 16) : l.foldl wst [] = H.map Ho.addr := by
  rw [h, wst_fold l [] (by simp)]
  congr 1
  rw [List.nil_append]
  exact List.filter_eq_self.2 fun y _ => by simp
end Go.Proofs.Ytdngoopogajhiaa.Gu
