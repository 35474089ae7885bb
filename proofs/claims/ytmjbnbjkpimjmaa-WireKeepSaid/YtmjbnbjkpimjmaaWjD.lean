/-
  The fields of a packet by their places; what the end is.
  Conditions: none.
-/
import Derived.Test.YtmjbnbjkpimjmaaWiN
namespace Go.Proofs.Ytmjbnbjkpimjmaa.Wi
open Go.RowKit Go.ChangeShapes Go.WideShapes Go.ChangeAt Go.Joins By
set_option linter.unusedVariables false
set_option linter.unusedSimpArgs false

/-- the fields' places and lengths from a on. -/
def cutp (f : Nat → Nat) (n : Nat) : Nat → Nat → Option (List (Nat × Nat) × Nat)
  | 0, a => if n - a ≤ 24 then some ([], a) else none
  | r + 1, a => if n - a ≤ 24 then some ([], a) else
      if 16 ≤ gt f (a + 2) 2 ∧ gt f (a + 2) 2 % 4 = 0 ∧ gt f (a + 2) 2 ≤ n - a then
        (cutp f n r (a + gt f (a + 2) 2)).map fun x => ((a, gt f (a + 2) 2) :: x.1, x.2)
      else none
/-- a field at its place. -/
def fdAt (f : Nat → Nat) (y : Nat × Nat) : Fd := (((gt f y.1 2 : Nat) : Int), bl (fun i => f (y.1 + 4 + i)) (y.2 - 4))
theorem cut_p (f : Nat → Nat) (n : Nat) : ∀ r a, cut f n r a = (cutp f n r a).map fun x => (x.1.map (fdAt f), x.2)
  | 0, a => by rw [cut, cutp]; split <;> rfl
  | r + 1, a => by
    rw [cut, cutp]
    split
    · rfl
    · split
      · rw [cut_p f n r]
        cases cutp f n r (a + gt f (a + 2) 2) with
        | none => rfl
        | some x => rfl
      · rfl
/-- what the places are. -/
theorem cutp_in {f : Nat → Nat} {n : Nat} : ∀ (r a : Nat) (l : List (Nat × Nat)) (e : Nat), cutp f n r a = some (l, e) → a ≤ n → a ≤ e ∧ e ≤ n ∧ n - e ≤ 24 ∧ l.length ≤ r ∧ ∀ y ∈ l, a ≤ y.1 ∧ 16 ≤ y.2 ∧ y.1 + y.2 ≤ n
  | 0, a, l, e, h, ha => by
    rw [cutp] at h
    split at h
    · cases h
      rename_i h2
      exact ⟨Nat.le_refl _, ha, h2, Nat.le_refl _, fun y hy => by cases hy⟩
    · cases h
  | r + 1, a, l, e, h, ha => by
    rw [cutp] at h
    split at h
    · cases h
      rename_i h2
      exact ⟨Nat.le_refl _, ha, h2, Nat.zero_le _, fun y hy => by cases hy⟩
    · split at h
      · rename_i h3
        generalize gt f (a + 2) 2 = g at h h3
        cases hc : cutp f n r (a + g) with
        | none => rw [hc] at h; cases h
        | some x =>
          obtain ⟨l2, e2⟩ := x
          rw [hc] at h
          simp only [Option.map_some, Option.some.injEq, Prod.mk.injEq] at h
          obtain ⟨rfl, rfl⟩ := h
          obtain ⟨i1, i2, i3, i4, i5⟩ := cutp_in r (a + g) l2 e2 hc (by omega)
          refine ⟨by omega, i2, i3, by simpa using i4, fun y hy => ?_⟩
          rcases List.mem_cons.1 hy with rfl | hy
          · exact ⟨Nat.le_refl _, h3.1, by show a + g ≤ n; omega⟩
          · have := i5 y hy
            exact ⟨by omega, this.2⟩
      · cases h
theorem fin_ab (f : Nat → Nat) (n a : Nat) : fin f n a = if ab (fun i => f (a + i)) (n - a) = true then some (if n - a = 0 then (0, 0, []) else if n - a = 4 then (1, 0, []) else (2, gt f a 4, bl (fun i => f (a + 4 + i)) (n - (a + 4)))) else none := by
  unfold fin ab
  rw [gt_shift, show a + 0 = a from rfl]
  by_cases c0 : n - a = 0
  · rw [if_pos c0, if_pos c0, if_pos rfl, if_pos c0]
  · rw [if_neg c0, if_neg c0]
    by_cases c1 : n - a = 4
    · rw [if_pos c1]
      by_cases c2 : gt f a 4 = 0
      · rw [if_pos ⟨c1, c2⟩, decide_eq_true c2, if_pos rfl, if_neg c0, if_pos c1]
      · rw [if_neg (fun h => c2 h.2), if_neg (show ¬ (n - a = 20 ∨ n - a = 24) by omega), decide_eq_false c2, if_neg (by decide)]
    · rw [if_neg (fun h => c1 h.1), if_neg c1]
      by_cases c2 : n - a = 20 ∨ n - a = 24
      · rw [if_pos c2, decide_eq_true c2, if_pos rfl, if_neg c0, if_neg c1]
      · rw [if_neg c2, decide_eq_false c2, if_neg (by decide)]
theorem au_eq {m : Nat} {g : Nat → Nat} (h : ab g m = true) : au m = (if m = 0 then 0 else if m = 4 then 1 else 2) := by
  unfold ab at h
  unfold au
  by_cases c0 : m = 0
  · rw [if_pos c0, if_pos c0]
  · rw [if_neg c0] at h ⊢
    rw [if_neg c0]
    by_cases c1 : m = 4
    · rw [if_pos c1, if_pos c1]
    · rw [if_neg c1] at h ⊢
      rw [if_neg c1, if_pos (by simpa using h)]
/-- the packet, place by place. -/
def pkAt (f : Nat → Nat) (n : Nat) (l : List (Nat × Nat)) (a : Nat) : Pk := { hd f with fs := l.map (fdAt f), auth := au (n - a), key := if au (n - a) = 2 then gt f a 4 else 0, dig := if au (n - a) = 2 then bl (fun i => f (a + 4 + i)) (n - (a + 4)) else [] }
theorem dec_p {f : Nat → Nat} {n : Nat} (h1 : ¬ (n < 48 ∨ n % 4 ≠ 0)) (h2 : ¬ 1024 < n) (h3 : btw (hd f).ver 1 4 = true) : dec f n = match cutp f n 8 48 with
    | none => bad 23
    | some x => if ab (fun i => f (x.2 + i)) (n - x.2) = true then ⟨0, pkAt f n x.1 x.2, x.2⟩ else bad 23 := by
  unfold dec
  rw [if_neg h1, if_neg h2, if_neg (by rw [h3]; decide), cut_p]
  cases hc : cutp f n 8 48 with
  | none => rfl
  | some x =>
    obtain ⟨l, a⟩ := x
    simp only [Option.map_some]
    rw [fin_ab]
    by_cases c : ab (fun i => f (a + i)) (n - a) = true
    · rw [if_pos c, if_pos c]
      simp only
      unfold pkAt
      rw [au_eq c]
      by_cases c0 : n - a = 0
      · rw [if_pos c0, if_pos c0, if_neg (by decide), if_neg (by decide)]
      · rw [if_neg c0, if_neg c0]
        by_cases c1 : n - a = 4
        · rw [if_pos c1, if_pos c1, if_neg (by decide), if_neg (by decide)]
        · rw [if_neg c1, if_neg c1, if_pos rfl, if_pos rfl]
    · rw [if_neg c, if_neg c]
/-- the slices of the fields. -/
def vsl (B o cap : Nat) (l : List (Nat × Nat)) : List Value := l.map fun y => .slice (some ⟨B, o + y.1, none⟩) y.2 (cap - y.1)
theorem vsl_snoc (B o cap : Nat) (l : List (Nat × Nat)) (y : Nat × Nat) : vsl B o cap (l ++ [y]) = vsl B o cap l ++ [.slice (some ⟨B, o + y.1, none⟩) y.2 (cap - y.1)] := by simp [vsl]
theorem vsl_len (B o cap : Nat) (l : List (Nat × Nat)) : (vsl B o cap l).length = l.length := by simp [vsl]
end Go.Proofs.Ytmjbnbjkpimjmaa.Wi
