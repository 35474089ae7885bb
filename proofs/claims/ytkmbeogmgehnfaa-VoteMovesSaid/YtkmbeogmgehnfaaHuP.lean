/-
  Spans and how many of them hold a time: the least and the greatest time that enough of them hold.
  Conditions: none.
-/
import Derived.Test.YtkmbeogmgehnfaaProg
namespace Go.Proofs.Ytkmbeogmgehnfaa.Hu
set_option linter.unusedVariables false
set_option linter.unusedSimpArgs false

/-- a span. -/
structure Sn where
  lo : Int
  hi : Int
instance : Inhabited Sn := ⟨⟨0, 0⟩⟩
def okN (s : Sn) : Prop := s.lo ≤ s.hi ∧ -2305843009213693952 ≤ s.lo ∧ s.hi ≤ 2305843009213693952
instance (s : Sn) : Decidable (okN s) := by unfold okN; infer_instance
def has (t : Int) (s : Sn) : Bool := decide (s.lo ≤ t) && decide (t ≤ s.hi)
theorem has_iff {t : Int} {s : Sn} : has t s = true ↔ s.lo ≤ t ∧ t ≤ s.hi := by simp [has]
def cnt (L : List Sn) (t : Int) : Nat := L.countP (has t)
theorem cnt_le (L : List Sn) (t : Int) : cnt L t ≤ L.length := List.countP_le_length
/-- enough of them hold it. -/
def Enough (L : List Sn) (f : Nat) (t : Int) : Prop := L.length ≤ cnt L t + f
instance (L : List Sn) (f : Nat) (t : Int) : Decidable (Enough L f t) := by unfold Enough; infer_instance
theorem exists_max {α : Type} (g : α → Int) : ∀ (l : List α), l ≠ [] → ∃ x ∈ l, ∀ y ∈ l, g y ≤ g x
  | [], h => absurd rfl h
  | [x], _ => ⟨x, by simp, fun y hy => by simp at hy; subst hy; exact Int.le_refl _⟩
  | x :: z :: r, _ => by
    obtain ⟨m, hm, hM⟩ := exists_max g (z :: r) (by simp)
    by_cases c : g x ≤ g m
    · exact ⟨m, List.mem_cons_of_mem _ hm, fun y hy => by
        rcases List.mem_cons.1 hy with rfl | hy
        · exact c
        · exact hM y hy⟩
    · exact ⟨x, by simp, fun y hy => by
        rcases List.mem_cons.1 hy with rfl | hy
        · exact Int.le_refl _
        · have := hM y hy; omega⟩
theorem cnt_mono {L : List Sn} {t u : Int} (h : ∀ s ∈ L, has t s = true → has u s = true) : cnt L t ≤ cnt L u := by
  unfold cnt
  exact List.countP_mono_left h
/-- a time that enough hold has a beginning at it or below that enough hold. -/
theorem low_of {L : List Sn} {f : Nat} {t : Int} (hf : f < L.length) (h : Enough L f t) : ∃ s ∈ L, s.lo ≤ t ∧ Enough L f s.lo := by
  have hp : 0 < cnt L t := by unfold Enough at h; omega
  have hne : L.filter (has t) ≠ [] := by
    intro e
    unfold cnt at hp
    rw [List.countP_eq_length_filter, e] at hp
    simp at hp
  obtain ⟨s, hs, hM⟩ := exists_max (fun s : Sn => s.lo) (L.filter (has t)) hne
  rw [List.mem_filter] at hs
  obtain ⟨hs1, hs2⟩ := hs
  rw [has_iff] at hs2
  refine ⟨s, hs1, hs2.1, ?_⟩
  have := cnt_mono (L := L) (t := t) (u := s.lo) (fun x hx hh => by
    have := hM x (List.mem_filter.2 ⟨hx, hh⟩)
    rw [has_iff] at hh ⊢
    omega)
  unfold Enough at *
  omega
theorem high_of {L : List Sn} {f : Nat} {t : Int} (hf : f < L.length) (h : Enough L f t) : ∃ s ∈ L, t ≤ s.hi ∧ Enough L f s.hi := by
  have hp : 0 < cnt L t := by unfold Enough at h; omega
  have hne : L.filter (has t) ≠ [] := by
    intro e
    unfold cnt at hp
    rw [List.countP_eq_length_filter, e] at hp
    simp at hp
  obtain ⟨s, hs, hM⟩ := exists_max (fun s : Sn => -s.hi) (L.filter (has t)) hne
  rw [List.mem_filter] at hs
  obtain ⟨hs1, hs2⟩ := hs
  rw [has_iff] at hs2
  refine ⟨s, hs1, hs2.2, ?_⟩
  have := cnt_mono (L := L) (t := t) (u := s.hi) (fun x hx hh => by
    have := hM x (List.mem_filter.2 ⟨hx, hh⟩)
    rw [has_iff] at hh ⊢
    omega)
  unfold Enough at *
  omega
/-- m is the least and M the greatest time that enough hold. -/
def Hull (L : List Sn) (f : Nat) (m M : Int) : Prop := Enough L f m ∧ Enough L f M ∧ ∀ t, Enough L f t → m ≤ t ∧ t ≤ M
theorem Hull.one {L : List Sn} {f : Nat} {m M m' M' : Int} (h : Hull L f m M) (k : Hull L f m' M') : m = m' ∧ M = M' := by
  obtain ⟨h1, h2, h3⟩ := h
  obtain ⟨k1, k2, k3⟩ := k
  have a := h3 m' k1
  have b := h3 M' k2
  have c := k3 m h1
  have d := k3 M h2
  omega
theorem Hull.le {L : List Sn} {f : Nat} {m M : Int} (h : Hull L f m M) : m ≤ M := (h.2.2 m h.1).2
/-- by the ends alone: the least beginning and the greatest end that enough hold. -/
theorem hull_ends {L : List Sn} {f : Nat} {m M : Int} (hf : f < L.length) (h1 : Enough L f m) (h2 : Enough L f M) (h3 : ∀ s ∈ L, Enough L f s.lo → m ≤ s.lo) (h4 : ∀ s ∈ L, Enough L f s.hi → s.hi ≤ M) : Hull L f m M :=
  ⟨h1, h2, fun t ht => by
    obtain ⟨s, hs, a, b⟩ := low_of hf ht
    obtain ⟨s', hs', a', b'⟩ := high_of hf ht
    have := h3 s hs b
    have := h4 s' hs' b'
    omega⟩
/-- there is a hull where any time is held enough. -/
theorem hull_some {L : List Sn} {f : Nat} {t : Int} (hf : f < L.length) (h : Enough L f t) : ∃ m M, Hull L f m M := by
  obtain ⟨s, hs, a, b⟩ := low_of hf h
  obtain ⟨s', hs', a', b'⟩ := high_of hf h
  obtain ⟨x, hx, hX⟩ := exists_max (fun s : Sn => -s.lo) (L.filter fun s => decide (Enough L f s.lo)) (fun e => by
    have : s ∈ L.filter fun s => decide (Enough L f s.lo) := List.mem_filter.2 ⟨hs, decide_eq_true b⟩
    rw [e] at this; simp at this)
  obtain ⟨y, hy, hY⟩ := exists_max (fun s : Sn => s.hi) (L.filter fun s => decide (Enough L f s.hi)) (fun e => by
    have : s' ∈ L.filter fun s => decide (Enough L f s.hi) := List.mem_filter.2 ⟨hs', decide_eq_true b'⟩
    rw [e] at this; simp at this)
  refine ⟨x.lo, y.hi, hull_ends hf (of_decide_eq_true (List.mem_filter.1 hx).2) (of_decide_eq_true (List.mem_filter.1 hy).2) (fun z hz q => ?_) (fun z hz q => hY z (List.mem_filter.2 ⟨hz, decide_eq_true q⟩))⟩
  have := hX z (List.mem_filter.2 ⟨hz, decide_eq_true q⟩)
  omega
/-- no beginning is held enough: no time is. -/
theorem none_of_lows {L : List Sn} {f : Nat} (hf : f < L.length) (h : ∀ s ∈ L, ¬ Enough L f s.lo) (t : Int) : ¬ Enough L f t := fun q => by
  obtain ⟨s, hs, _, b⟩ := low_of hf q
  exact h s hs b
/-- what is held enough lies within Far. -/
theorem enough_far {L : List Sn} {f : Nat} {t : Int} (hL : ∀ s ∈ L, okN s) (hf : f < L.length) (h : Enough L f t) : -2305843009213693952 ≤ t ∧ t ≤ 2305843009213693952 := by
  obtain ⟨s, hs, a, _⟩ := low_of hf h
  obtain ⟨s', hs', a', _⟩ := high_of hf h
  have := (hL s hs).2.1
  have := (hL s' hs').2.2
  omega
/-- a greater budget. -/
theorem Enough.more {L : List Sn} {f g : Nat} {t : Int} (h : Enough L f t) (hg : f ≤ g) : Enough L g t := by unfold Enough at *; omega
theorem hull_grows {L : List Sn} {f g : Nat} {m M m' M' : Int} (h : Hull L f m M) (k : Hull L g m' M') (hg : f ≤ g) : m' ≤ m ∧ M ≤ M' :=
  ⟨(k.2.2 m (h.1.more hg)).1, (k.2.2 M (h.2.1.more hg)).2⟩
theorem cnt_app (L K : List Sn) (t : Int) : cnt (L ++ K) t = cnt L t + cnt K t := List.countP_append
theorem cnt_one (s : Sn) (t : Int) : cnt [s] t = if has t s = true then 1 else 0 := by
  unfold cnt
  rw [List.countP_cons, List.countP_nil, Nat.zero_add]
theorem cnt_cons (s : Sn) (L : List Sn) (t : Int) : cnt (s :: L) t = cnt L t + if has t s = true then 1 else 0 := by
  unfold cnt
  rw [List.countP_cons]
/-- the hull itself as one more. -/
theorem hull_same {L : List Sn} {f : Nat} {m M : Int} (h : Hull L f m M) : Hull (L ++ [⟨m, M⟩]) f m M := by
  have le := h.le
  have i1 : has m ⟨m, M⟩ = true := has_iff.2 ⟨Int.le_refl _, le⟩
  have i2 : has M ⟨m, M⟩ = true := has_iff.2 ⟨le, Int.le_refl _⟩
  obtain ⟨h1, h2, h3⟩ := h
  refine ⟨?_, ?_, fun t ht => h3 t ?_⟩
  · unfold Enough at *; rw [cnt_app, cnt_one, if_pos i1, List.length_append, List.length_singleton]; omega
  · unfold Enough at *; rw [cnt_app, cnt_one, if_pos i2, List.length_append, List.length_singleton]; omega
  · unfold Enough at *; rw [cnt_app, cnt_one, List.length_append, List.length_singleton] at ht; split at ht <;> omega
/-- a span that holds the whole hull as one more, ahead. -/
theorem hull_wide {L : List Sn} {f : Nat} {m M : Int} (h : Hull L f m M) {s : Sn} (h1 : s.lo ≤ m) (h2 : M ≤ s.hi) : Hull (s :: L) f m M := by
  have le := h.le
  have i1 : has m s = true := has_iff.2 ⟨h1, by omega⟩
  have i2 : has M s = true := has_iff.2 ⟨by omega, h2⟩
  obtain ⟨k1, k2, k3⟩ := h
  refine ⟨?_, ?_, fun t ht => k3 t ?_⟩
  · unfold Enough at *; rw [cnt_cons, if_pos i1, List.length_cons]; omega
  · unfold Enough at *; rw [cnt_cons, if_pos i2, List.length_cons]; omega
  · unfold Enough at *; rw [cnt_cons, List.length_cons] at ht; split at ht <;> omega
/-- in whatever order. -/
theorem enough_perm {L K : List Sn} (h : L.Perm K) (f : Nat) (t : Int) : Enough L f t ↔ Enough K f t := by
  unfold Enough cnt
  rw [h.countP_eq, h.length_eq]
theorem hull_perm {L K : List Sn} (h : L.Perm K) {f : Nat} {m M : Int} (k : Hull L f m M) : Hull K f m M :=
  ⟨(enough_perm h f m).1 k.1, (enough_perm h f M).1 k.2.1, fun t ht => k.2.2 t ((enough_perm h f t).2 ht)⟩
/-- moved. -/
def mv (d : Int) (s : Sn) : Sn := ⟨s.lo + d, s.hi + d⟩
theorem cnt_mv (d : Int) (L : List Sn) (t : Int) : cnt (L.map (mv d)) t = cnt L (t - d) := by
  unfold cnt
  rw [List.countP_map]
  congr 1
  funext s
  show has t (mv d s) = has (t - d) s
  apply Bool.eq_iff_iff.2
  rw [has_iff, has_iff]
  show s.lo + d ≤ t ∧ t ≤ s.hi + d ↔ _
  omega
theorem enough_mv (d : Int) (L : List Sn) (f : Nat) (t : Int) : Enough (L.map (mv d)) f t ↔ Enough L f (t - d) := by
  unfold Enough
  rw [cnt_mv, List.length_map]
theorem hull_mv {L : List Sn} {f : Nat} {m M : Int} (h : Hull L f m M) (d : Int) : Hull (L.map (mv d)) f (m + d) (M + d) :=
  ⟨(enough_mv d L f _).2 (by rw [Int.add_sub_cancel]; exact h.1), (enough_mv d L f _).2 (by rw [Int.add_sub_cancel]; exact h.2.1), fun t ht => by
    have := h.2.2 _ ((enough_mv d L f t).1 ht)
    omega⟩
/-- turned. -/
theorem turn_perm (L : List Sn) (r : Nat) : (L.drop r ++ L.take r).Perm L := by
  have := @List.perm_append_comm Sn (L.drop r) (L.take r)
  rwa [List.take_append_drop] at this
/-- the places of those that have no time in common with s. -/
def apart (s : Sn) (L : List Sn) (k : Nat) : List Nat := (List.range k).filter fun i => decide ((L.getD i default).hi < s.lo ∨ s.hi < (L.getD i default).lo)
theorem apart_succ (s : Sn) (L : List Sn) (k : Nat) : apart s L (k + 1) = apart s L k ++ if (L.getD k default).hi < s.lo ∨ s.hi < (L.getD k default).lo then [k] else [] := by
  unfold apart
  rw [List.range_succ, List.filter_append]
  congr 1
  by_cases c : (L.getD k default).hi < s.lo ∨ s.hi < (L.getD k default).lo
  · rw [if_pos c, List.filter_cons_of_pos (by simpa using c)]; rfl
  · rw [if_neg c, List.filter_cons_of_neg (by simpa using c)]; rfl
end Go.Proofs.Ytkmbeogmgehnfaa.Hu
