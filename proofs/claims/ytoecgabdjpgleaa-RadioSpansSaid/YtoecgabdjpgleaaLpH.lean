/-
  The first of a month by its clockface; a right table, decided change by change.
  Conditions: none.
-/
import Derived.Test.YtoecgabdjpgleaaCvZ
import Derived.Test.YtoecgabdjpgleaaLa
namespace Go.Proofs.Ytoecgabdjpgleaa.Lp
open Cv
set_option linter.unusedVariables false

theorem day_two (t : Int) : t / 1048576 / 86400 = t / 90596966400 := by omega
theorem mo_face {t y m d : Int} (h0 : 0 ≤ t) (hd : isDay (t / 1048576 / 86400) y m d) :
    mo t ↔ (d = 1 ∧ t / 1048576 % 86400 / 3600 = 0 ∧ t / 1048576 % 86400 % 3600 / 60 = 0 ∧ t / 1048576 % 86400 % 60 = 0 ∧ t % 1048576 = 0) := by
  rw [day_two] at hd
  constructor
  · rintro ⟨_, h1, y', m', hd'⟩
    have e := (isDay_one hd hd').2.2
    refine ⟨e, ?_⟩
    omega
  · rintro ⟨e, h1, h2, h3, h4⟩
    subst e
    refine ⟨h0, by omega, y, m, hd⟩
/-- a right table: its changes, and its end. -/
def Tb (n : Nat) (a o : Nat → Int) (e : Int) : Prop := Rt n a o ∧ 0 ≤ e ∧ e ≤ 10485759998951424 ∧ e % 1048576 = 0
/-- a change that may stand in a table. -/
def ch1 (x y : Int) : Prop := mo x ∧ x ≤ 10485759998951424 ∧ 0 ≤ y ∧ y ≤ 200
/-- .. behind another. -/
def ch2 (x y x' y' : Int) : Prop := x < x' ∧ (y' = y + 1 ∨ y' = y - 1)
theorem rt_iff {n : Nat} {a o : Nat → Int} : Rt n a o ↔ 0 < n ∧ ∀ i, i < n → ch1 (a i) (o i) ∧ (0 < i → ch2 (a (i - 1)) (o (i - 1)) (a i) (o i)) := by
  constructor
  · intro h
    refine ⟨h.pos, fun i hi => ⟨⟨h.mo i hi, h.le i hi, h.ob i hi⟩, fun i0 => ?_⟩⟩
    obtain ⟨j, rfl⟩ : ∃ j, i = j + 1 := ⟨i - 1, by omega⟩
    exact ⟨h.up j hi, h.st j hi⟩
  · rintro ⟨h0, h⟩
    exact ⟨h0, fun i hi => (h i hi).1.1, fun i hi => (h i hi).1.2.1, fun i hi => (h i hi).1.2.2, fun i hi => ((h (i + 1) hi).2 (by omega)).1, fun i hi => ((h (i + 1) hi).2 (by omega)).2⟩
/-- no right table, by one change. -/
theorem rt_no {n : Nat} {a o : Nat → Int} {i : Nat} (hi : i < n) (k : ¬ ch1 (a i) (o i) ∨ (0 < i ∧ ¬ ch2 (a (i - 1)) (o (i - 1)) (a i) (o i))) : ¬ Rt n a o := fun h => by
  have := (rt_iff.1 h).2 i hi
  rcases k with k | k
  · exact k this.1
  · exact k.2 (this.2 k.1)
/-- what is gone through so far: the offset at u, by the changes 1 .. k. -/
structure Sf (a o : Nat → Int) (u : Int) (k : Nat) (off : Int) : Prop where
  off : off = o (ixF a o u k)
  no : ∀ j, j < k → ¬ (o (j + 1) = o j + 1 ∧ pt a o (j + 1) - 1048576 ≤ u ∧ u < pt a o (j + 1))
theorem Sf.start (a o : Nat → Int) (u : Int) : Sf a o u 0 (o 0) := ⟨rfl, fun j hj => absurd hj (Nat.not_lt_zero _)⟩
theorem Sf.next {a o : Nat → Int} {u : Int} {k : Nat} {off : Int} (h : Sf a o u k off) (hn : ¬ (o (k + 1) = o k + 1 ∧ pt a o (k + 1) - 1048576 ≤ u ∧ u < pt a o (k + 1))) : Sf a o u (k + 1) (if pt a o (k + 1) ≤ u then o (k + 1) else off) :=
  ⟨by rw [ixF_step a o u k, h.off], fun j hj => by
    by_cases e : j = k
    · subst e; exact hn
    · exact h.no j (by omega)⟩
theorem Sf.done {n : Nat} {a o : Nat → Int} (h : Rt n a o) {u off : Int} (s : Sf a o u (n - 1) off) : inl n a o u = false ∧ ut n a o u = u - off * 1048576 := by
  have := h.inl_no (u := u) fun j hj => s.no j (by omega)
  refine ⟨this.1, ?_⟩
  rw [ut, this.2, s.off]
  rfl
end Go.Proofs.Ytoecgabdjpgleaa.Lp
