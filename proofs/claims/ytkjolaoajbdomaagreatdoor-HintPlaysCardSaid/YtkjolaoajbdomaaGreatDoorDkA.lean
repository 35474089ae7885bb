/-
  A disk as its files and its power, in numbers; what each call makes of it.
  Conditions: none.
-/
import Derived.Sort.KeysCollected
import Derived.Test.YtkjolaoajbdomaaGreatDoorProg
namespace Go.Proofs.YtkjolaoajbdomaaGreatDoor.Dk
open Go Go.Maps
set_option linter.unusedVariables false
set_option linter.unusedSimpArgs false

/-- a disk: its files, in the order in which they were written; whether its power is out; how many changes come ahead of the cut (below 0: none is to come); how far that one comes. -/
structure Dk where
  fs : List (List UInt8 × List Nat)
  out : Bool
  left : Int
  keep : Int
def okc (b : UInt8) : Bool := (decide (97 ≤ b.toNat) && decide (b.toNat ≤ 122)) || (decide (48 ≤ b.toNat) && decide (b.toNat ≤ 57)) || decide (b.toNat = 46)
def okN (s : List UInt8) : Bool := decide (0 < s.length) && decide (s.length ≤ 32) && s.all okc
def gone (l : List (List UInt8 × List Nat)) (n : List UInt8) : List (List UInt8 × List Nat) := l.filter fun p => !(p.1 == n)
def put (l : List (List UInt8 × List Nat)) (n : List UInt8) (d : List Nat) : List (List UInt8 × List Nat) := gone l n ++ [(n, d)]
def get : List (List UInt8 × List Nat) → List UInt8 → Option (List Nat)
  | [], _ => none
  | p :: r, n => if p.1 = n then some p.2 else get r n
def new : Dk := ⟨[], false, -1, 0⟩
/-- a change is made: is it the one at which the power goes out? -/
def chg (s : Dk) : Dk := if s.left < 0 then s else { s with left := s.left - 1, out := decide (s.left - 1 < 0) }
def writeE (s : Dk) (n : List UInt8) (k : Nat) : Int := if s.out = true then 50 else if okN n = false then 4 else if 65536 < k then 21 else if (chg s).out = true then 50 else 0
def writeS (s : Dk) (n : List UInt8) (d : List Nat) : Dk := if s.out = true then s else if okN n = false then s else if 65536 < d.length then s else
  if (chg s).out = true then (if 0 ≤ s.keep then { chg s with fs := put s.fs n (d.take s.keep.toNat) } else chg s) else { chg s with fs := put s.fs n d }
/-- a Rename or a Remove is done. -/
def done (s : Dk) : Bool := !(chg s).out || decide (0 < s.keep)
def renameE (s : Dk) (a b : List UInt8) : Int := if s.out = true then 50 else if okN a = false ∨ okN b = false then 4 else if get s.fs a = none then 5 else if (chg s).out = true then 50 else 0
def renameS (s : Dk) (a b : List UInt8) : Dk := if s.out = true then s else if okN a = false ∨ okN b = false then s else match get s.fs a with
  | none => s
  | some d => if done s = true then { chg s with fs := put (gone s.fs a) b d } else chg s
def removeE (s : Dk) (a : List UInt8) : Int := if s.out = true then 50 else if okN a = false then 4 else if get s.fs a = none then 5 else if (chg s).out = true then 50 else 0
def removeS (s : Dk) (a : List UInt8) : Dk := if s.out = true then s else if okN a = false then s else match get s.fs a with
  | none => s
  | some _ => if done s = true then { chg s with fs := gone s.fs a } else chg s
def readE (s : Dk) (a : List UInt8) : Int := if s.out = true then 50 else if okN a = false then 4 else if get s.fs a = none then 5 else 0
def readD (s : Dk) (a : List UInt8) : List Nat := if s.out = true then [] else if okN a = false then [] else (get s.fs a).getD []
def names (s : Dk) : List (List UInt8) := if s.out = true then [] else (s.fs.map (·.1)).mergeSort leB
def cutE (n : Int) : Int := if n < 0 then 2 else 0
def cutS (s : Dk) (n k : Int) : Dk := if n < 0 then s else if s.out = true then s else { s with left := n, keep := k }
def restart (s : Dk) : Dk := { s with out := false, left := -1 }
/-- what holds of each disk: no two files of one name, each name is a file's, each file's bytes are bytes and no more than 65536; no cut is to come while the power is out. -/
structure Wf (s : Dk) : Prop where
  nodup : (s.fs.map (·.1)).Nodup
  name : ∀ p ∈ s.fs, okN p.1 = true
  data : ∀ p ∈ s.fs, (∀ x ∈ p.2, x < 256) ∧ p.2.length ≤ 65536
  lo : -1 ≤ s.left
  hi : s.left ≤ 9223372036854775807
  off : s.out = true → s.left = -1
  klo : -9223372036854775808 ≤ s.keep
  khi : s.keep ≤ 9223372036854775807

theorem okN_le {n : List UInt8} (h : okN n = true) : 0 < n.length ∧ n.length ≤ 32 := by
  unfold okN at h
  simp only [Bool.and_eq_true, decide_eq_true_eq] at h
  exact h.1
theorem get_gone_same : ∀ (l : List (List UInt8 × List Nat)) (n : List UInt8), get (gone l n) n = none
  | [], _ => rfl
  | p :: r, n => by
    unfold gone
    rw [List.filter_cons]
    by_cases e : p.1 = n
    · rw [if_neg (by simp [e])]
      exact get_gone_same r n
    · rw [if_pos (by simp [e]), get, if_neg e]
      exact get_gone_same r n
theorem get_gone_other {n m : List UInt8} (h : m ≠ n) : ∀ (l : List (List UInt8 × List Nat)), get (gone l n) m = get l m
  | [] => rfl
  | p :: r => by
    unfold gone
    rw [List.filter_cons]
    by_cases e : p.1 = n
    · rw [if_neg (by simp [e]), get, if_neg (fun q => h (q.symm.trans e))]
      exact get_gone_other h r
    · rw [if_pos (by simp [e]), get, get]
      by_cases q : p.1 = m
      · rw [if_pos q, if_pos q]
      · rw [if_neg q, if_neg q]
        exact get_gone_other h r
theorem get_app : ∀ (l : List (List UInt8 × List Nat)) (n m : List UInt8) (d : List Nat), get (l ++ [(n, d)]) m = match get l m with | some x => some x | none => if n = m then some d else none
  | [], n, m, d => by simp [get]
  | p :: r, n, m, d => by
    rw [List.cons_append, get, get]
    by_cases q : p.1 = m
    · rw [if_pos q, if_pos q]
    · rw [if_neg q, if_neg q]
      exact get_app r n m d
theorem get_put_same (l : List (List UInt8 × List Nat)) (n : List UInt8) (d : List Nat) : get (put l n d) n = some d := by
  unfold put
  rw [get_app, get_gone_same]
  simp
theorem get_put_other (l : List (List UInt8 × List Nat)) {n m : List UInt8} (h : m ≠ n) (d : List Nat) : get (put l n d) m = get l m := by
  unfold put
  rw [get_app, get_gone_other h]
  cases get l m with
  | none => simp [Ne.symm h]
  | some x => rfl
theorem get_none {l : List (List UInt8 × List Nat)} {n : List UInt8} : get l n = none ↔ n ∉ l.map (·.1) := by
  induction l with
  | nil => simp [get]
  | cons p r ih =>
    rw [get]
    by_cases q : p.1 = n
    · rw [if_pos q]; simp [q]
    · rw [if_neg q, ih]; simp [Ne.symm q]
theorem get_mem {l : List (List UInt8 × List Nat)} {n : List UInt8} {d : List Nat} (h : get l n = some d) : (n, d) ∈ l := by
  induction l with
  | nil => simp [get] at h
  | cons p r ih =>
    rw [get] at h
    by_cases q : p.1 = n
    · rw [if_pos q] at h
      cases h
      rw [← q]
      simp
    · rw [if_neg q] at h
      exact List.mem_cons_of_mem _ (ih h)
theorem gone_mem {l : List (List UInt8 × List Nat)} {n : List UInt8} {p : List UInt8 × List Nat} (h : p ∈ gone l n) : p ∈ l ∧ p.1 ≠ n := by
  unfold gone at h
  have := List.mem_filter.1 h
  refine ⟨this.1, fun e => ?_⟩
  simp [e] at this
theorem gone_nodup {l : List (List UInt8 × List Nat)} (n : List UInt8) (h : (l.map (·.1)).Nodup) : ((gone l n).map (·.1)).Nodup := by
  unfold gone
  exact h.sublist (List.filter_sublist.map _)
theorem put_mem {l : List (List UInt8 × List Nat)} {n : List UInt8} {d : List Nat} {p : List UInt8 × List Nat} (h : p ∈ put l n d) : p ∈ l ∨ p = (n, d) := by
  unfold put at h
  rcases List.mem_append.1 h with h | h
  · exact .inl (gone_mem h).1
  · exact .inr (by simpa using h)
theorem put_nodup {l : List (List UInt8 × List Nat)} (n : List UInt8) (d : List Nat) (h : (l.map (·.1)).Nodup) : ((put l n d).map (·.1)).Nodup := by
  unfold put
  rw [List.map_append, List.nodup_append]
  refine ⟨gone_nodup n h, by simp, fun a ha b hb e => ?_⟩
  simp at hb
  obtain ⟨p, hp, rfl⟩ := List.mem_map.1 ha
  exact (gone_mem hp).2 (e.trans hb)
theorem gone_len (l : List (List UInt8 × List Nat)) (n : List UInt8) : (gone l n).length ≤ l.length := List.length_filter_le _ _
theorem put_len (l : List (List UInt8 × List Nat)) (n : List UInt8) (d : List Nat) : (put l n d).length ≤ l.length + 1 := by
  unfold put
  rw [List.length_append]
  have := gone_len l n
  simp
  exact this
theorem chg_fs (s : Dk) : (chg s).fs = s.fs := by unfold chg; split <;> rfl
theorem chg_keep (s : Dk) : (chg s).keep = s.keep := by unfold chg; split <;> rfl
theorem wf_chg {s : Dk} (h : Wf s) (ho : s.out = false) : Wf (chg s) := by
  unfold chg
  split
  · exact h
  · rename_i c
    refine ⟨h.nodup, h.name, h.data, ?_, ?_, fun q => ?_, h.klo, h.khi⟩
    · show -1 ≤ s.left - 1
      omega
    · show s.left - 1 ≤ _
      have := h.hi
      omega
    · simp only [decide_eq_true_eq] at q
      show s.left - 1 = -1
      omega
theorem wf_put {s : Dk} (h : Wf s) {n : List UInt8} {d : List Nat} (hn : okN n = true) (h8 : ∀ x ∈ d, x < 256) (hl : d.length ≤ 65536) {l : List (List UInt8 × List Nat)} (hm : ∀ p ∈ l, p ∈ s.fs) (hd : (l.map (·.1)).Nodup) : Wf { s with fs := put l n d } :=
  ⟨put_nodup n d hd, fun p hp => by rcases put_mem hp with q | rfl; exact h.name p (hm p q); exact hn,
    fun p hp => by rcases put_mem hp with q | rfl; exact h.data p (hm p q); exact ⟨h8, hl⟩, h.lo, h.hi, h.off, h.klo, h.khi⟩
theorem wf_write {s : Dk} (h : Wf s) {n : List UInt8} {d : List Nat} (h8 : ∀ x ∈ d, x < 256) : Wf (writeS s n d) := by
  unfold writeS
  by_cases c1 : s.out = true
  · rw [if_pos c1]; exact h
  rw [if_neg c1]
  by_cases c2 : okN n = false
  · rw [if_pos c2]; exact h
  rw [if_neg c2]
  by_cases c3 : 65536 < d.length
  · rw [if_pos c3]; exact h
  rw [if_neg c3]
  have hc := wf_chg h (by simpa using c1)
  have hf := chg_fs s
  split
  · split
    · exact wf_put hc (by simpa using c2) (fun x hx => h8 x (List.mem_of_mem_take hx)) (by rw [List.length_take]; omega) (fun p hp => by rw [hf]; exact hp) h.nodup
    · exact hc
  · exact wf_put hc (by simpa using c2) h8 (by omega) (fun p hp => by rw [hf]; exact hp) h.nodup
theorem wf_rename {s : Dk} (h : Wf s) (a b : List UInt8) : Wf (renameS s a b) := by
  unfold renameS
  by_cases c1 : s.out = true
  · rw [if_pos c1]; exact h
  rw [if_neg c1]
  by_cases c2 : okN a = false ∨ okN b = false
  · rw [if_pos c2]; exact h
  rw [if_neg c2]
  have hc := wf_chg h (by simpa using c1)
  have hf := chg_fs s
  cases c3 : get s.fs a with
  | none => exact h
  | some d =>
    have hd := h.data _ (get_mem c3)
    simp only
    split
    · exact wf_put hc (by simp only [not_or, Bool.not_eq_false] at c2; exact c2.2) hd.1 hd.2 (fun p hp => by rw [hf]; exact (gone_mem hp).1) (gone_nodup a h.nodup)
    · exact hc
theorem wf_remove {s : Dk} (h : Wf s) (a : List UInt8) : Wf (removeS s a) := by
  unfold removeS
  by_cases c1 : s.out = true
  · rw [if_pos c1]; exact h
  rw [if_neg c1]
  by_cases c2 : okN a = false
  · rw [if_pos c2]; exact h
  rw [if_neg c2]
  have hc := wf_chg h (by simpa using c1)
  have hf := chg_fs s
  cases c3 : get s.fs a with
  | none => exact h
  | some d =>
    simp only
    split
    · exact ⟨gone_nodup a h.nodup, fun p hp => h.name p (gone_mem hp).1, fun p hp => h.data p (gone_mem hp).1, hc.lo, hc.hi, hc.off, hc.klo, hc.khi⟩
    · exact hc
theorem wf_new : Wf new := ⟨by simp [new], by simp [new], by simp [new], by decide, by decide, by simp [new], by decide, by decide⟩
theorem wf_cut {s : Dk} (h : Wf s) {n k : Int} (hn : n ≤ 9223372036854775807) (k1 : -9223372036854775808 ≤ k) (k2 : k ≤ 9223372036854775807) : Wf (cutS s n k) := by
  unfold cutS
  split
  · exact h
  · split
    · exact h
    · rename_i c1 c2
      refine ⟨h.nodup, h.name, h.data, ?_, hn, fun q => absurd q c2, k1, k2⟩
      show -1 ≤ n
      omega
theorem wf_restart {s : Dk} (h : Wf s) : Wf (restart s) := ⟨h.nodup, h.name, h.data, (by show (-1 : Int) ≤ -1; omega), (by show (-1 : Int) ≤ _; omega), fun q => (by cases q), h.klo, h.khi⟩
theorem len_write (s : Dk) (n : List UInt8) (d : List Nat) : (writeS s n d).fs.length ≤ s.fs.length + 1 := by
  unfold writeS
  have hf := chg_fs s
  have p1 := put_len s.fs n (d.take s.keep.toNat)
  have p2 := put_len s.fs n d
  repeat' split
  all_goals first | omega | (rw [hf]; omega) | exact p1 | exact p2
theorem len_rename (s : Dk) (a b : List UInt8) : (renameS s a b).fs.length ≤ s.fs.length + 1 := by
  unfold renameS
  have hf := chg_fs s
  repeat' split
  all_goals first | omega | (rw [hf]; omega) | skip
  rename_i d _ _
  have p1 := put_len (gone s.fs a) b d
  have p2 := gone_len s.fs a
  show (put (gone s.fs a) b d).length ≤ _
  omega
theorem len_remove (s : Dk) (a : List UInt8) : (removeS s a).fs.length ≤ s.fs.length + 1 := by
  unfold removeS
  have hf := chg_fs s
  have p2 := gone_len s.fs a
  repeat' split
  all_goals first | omega | (rw [hf]; omega) | skip
  show (gone s.fs a).length ≤ _
  omega
end Go.Proofs.YtkjolaoajbdomaaGreatDoor.Dk
