/-
  The arithmetic of the calendar: leap years, lengths of months, the number of a day; dates rise as their numbers do, and no two have one number.
  Conditions: none.
-/
import Derived.WalkKit
namespace Go.Proofs.YtoecgabdjpgleaaGreatDoor.Cv

/-- a leap year. -/
def leap (y : Int) : Bool := decide (y % 4 = 0 ∧ (y % 100 ≠ 0 ∨ y % 400 = 0))
/-- the length of a month. -/
def len (y m : Int) : Int := if m = 4 ∨ m = 6 ∨ m = 9 ∨ m = 11 then 30 else if m = 2 then (if leap y = true then 29 else 28) else 31
/-- a year's length. -/
def yl (y : Int) : Int := if leap y = true then 366 else 365
/-- the number of January 1st. -/
def ny (y : Int) : Int := 365 * (y - 1900) + ((y - 1) / 4 - (y - 1) / 100 + (y - 1) / 400 - 460)
/-- the days of a year's first k months. -/
def ms (y : Int) : Nat → Int
  | 0 => 0
  | k + 1 => ms y k + len y (k + 1)
/-- a date. -/
def ok (y m d : Int) : Prop := 1900 ≤ y ∧ y ≤ 9999 ∧ 1 ≤ m ∧ m ≤ 12 ∧ 1 ≤ d ∧ d ≤ len y m
/-- its number. -/
def num (y m d : Int) : Int := ny y + ms y (m - 1).toNat + d - 1

theorem ms_succ (y : Int) (k : Nat) : ms y (k + 1) = ms y k + len y (k + 1) := rfl
theorem len_bd (y m : Int) : 28 ≤ len y m ∧ len y m ≤ 31 := by unfold len; repeat' split <;> omega
theorem yl_bd (y : Int) : 365 ≤ yl y ∧ yl y ≤ 366 := by unfold yl; split <;> omega
theorem ny_first : ny 1900 = 0 := by decide
theorem ny_succ (y : Int) : ny (y + 1) = ny y + yl y := by
  unfold ny yl leap
  by_cases h : y % 4 = 0 ∧ (y % 100 ≠ 0 ∨ y % 400 = 0)
  · rw [if_pos (decide_eq_true h)]; omega
  · rw [if_neg (by rw [decide_eq_true_iff]; exact h)]; omega
theorem ny_le {a b : Int} (h : a ≤ b) : ny a ≤ ny b := by unfold ny; omega
theorem ny_bd {y : Int} (h : 1900 ≤ y) (h' : y ≤ 10000) : 365 * (y - 1900) ≤ ny y ∧ ny y ≤ 2958464 := by unfold ny; omega
theorem ms_twelve (y : Int) : ms y 12 = yl y := by
  simp only [ms, len, yl]
  by_cases h : leap y = true
  · simp [h]
  · simp [h]
theorem ms_le (y : Int) {j k : Nat} (h : j ≤ k) : ms y j ≤ ms y k := by
  induction h with
  | refl => exact Int.le_refl _
  | @step n _ ih => rw [ms_succ]; have := len_bd y ((n : Int) + 1); omega
theorem ms_nn (y : Int) (k : Nat) : 0 ≤ ms y k := ms_le y (Nat.zero_le k)
theorem ms_bd (y : Int) {k : Nat} (h : k ≤ 12) : 0 ≤ ms y k ∧ ms y k ≤ 366 := ⟨ms_nn y k, by have := ms_le y h; rw [ms_twelve] at this; have := yl_bd y; omega⟩
theorem ms_month {y m d : Int} (h1 : 1 ≤ m) (h : d ≤ len y m) : ms y (m - 1).toNat + d ≤ ms y m.toNat := by
  obtain ⟨k, rfl⟩ : ∃ k : Nat, m = k + 1 := ⟨(m - 1).toNat, by omega⟩
  rw [show ((k : Int) + 1 - 1).toNat = k from by omega, show ((k : Int) + 1).toNat = k + 1 from by omega, ms_succ]
  omega
/-- the number of a day lies in its year. -/
theorem num_in {y m d : Int} (h : ok y m d) : ny y ≤ num y m d ∧ num y m d < ny (y + 1) := by
  obtain ⟨h1, h2, h3, h4, h5, h6⟩ := h
  have a := ms_nn y (m - 1).toNat
  have b := ms_month h3 h6
  have c := ms_le y (show m.toNat ≤ 12 by omega)
  rw [ms_twelve] at c
  rw [ny_succ]
  unfold num
  omega
theorem num_bd {y m d : Int} (h : ok y m d) : 0 ≤ num y m d ∧ num y m d ≤ 2958463 := by
  have a := num_in h
  have b := ny_bd h.1 (by have := h.2.1; omega)
  have c := ny_bd (y := y + 1) (by have := h.1; omega) (by have := h.2.1; omega)
  have := h.1
  omega
/-- ahead of. -/
def lt (y m d y' m' d' : Int) : Prop := y < y' ∨ y = y' ∧ (m < m' ∨ m = m' ∧ d < d')
theorem num_lt {y m d y' m' d' : Int} (h : ok y m d) (h' : ok y' m' d') (k : lt y m d y' m' d') : num y m d < num y' m' d' := by
  rcases k with k | ⟨rfl, k⟩
  · have a := num_in h
    have b := num_in h'
    have := ny_le (show y + 1 ≤ y' by omega)
    omega
  · obtain ⟨_, _, a1, a2, a3, a4⟩ := h
    obtain ⟨_, _, b1, b2, b3, b4⟩ := h'
    unfold num
    rcases k with k | ⟨rfl, k⟩
    · have := ms_month a1 a4
      have := ms_le y (show m.toNat ≤ (m' - 1).toNat by omega)
      omega
    · omega
theorem lt_total (y m d y' m' d' : Int) : lt y m d y' m' d' ∨ (y = y' ∧ m = m' ∧ d = d') ∨ lt y' m' d' y m d := by unfold lt; omega
theorem lt_irrefl {y m d y' m' d' : Int} (h : lt y m d y' m' d') (h' : lt y' m' d' y m d) : False := by unfold lt at *; omega
theorem num_inj {y m d y' m' d' : Int} (h : ok y m d) (h' : ok y' m' d') (e : num y m d = num y' m' d') : y = y' ∧ m = m' ∧ d = d' := by
  rcases lt_total y m d y' m' d' with k | k | k
  · have := num_lt h h' k; omega
  · exact k
  · have := num_lt h' h k; omega
theorem num_lt_iff {y m d y' m' d' : Int} (h : ok y m d) (h' : ok y' m' d') : num y m d < num y' m' d' ↔ lt y m d y' m' d' := by
  constructor
  · intro e
    rcases lt_total y m d y' m' d' with k | ⟨rfl, rfl, rfl⟩ | k
    · exact k
    · omega
    · have := num_lt h' h k; omega
  · exact num_lt h h'
/-- Day: the date whose number is n. -/
def isDay (n y m d : Int) : Prop := ok y m d ∧ num y m d = n
theorem isDay_one {n y m d y' m' d' : Int} (h : isDay n y m d) (h' : isDay n y' m' d') : y = y' ∧ m = m' ∧ d = d' := num_inj h.1 h'.1 (h.2.trans h'.2.symm)
/-- the month that the walk by months ends at. -/
theorem day_of {n y : Int} {k : Nat} {l : Int} (h1 : 1900 ≤ y) (h2 : y ≤ 9999) (hk : k < 12) (hl : 0 ≤ l) (hl' : l < len y (k + 1)) (hn : n = ny y + ms y k + l) : isDay n y (k + 1) (l + 1) := by
  refine ⟨⟨h1, h2, by omega, by omega, by omega, by omega⟩, ?_⟩
  unfold num
  rw [show ((k : Int) + 1 - 1).toNat = k from by omega]
  omega
/-- the walk by months goes on within the year. -/
theorem month_on {y l n : Int} {k : Nat} (hk : k < 12) (hn : n = ny y + ms y k + l) (hy : n < ny (y + 1)) (hl : len y (k + 1) ≤ l) : k + 1 < 12 ∧ n = ny y + ms y (k + 1) + (l - len y (k + 1)) := by
  have e := ms_succ y k
  constructor
  · by_cases c : k = 11
    · subst c
      have t := ms_twelve y
      rw [ny_succ] at hy
      rw [show (12 : Nat) = 11 + 1 from rfl, e] at t
      omega
    · omega
  · omega
end Go.Proofs.YtoecgabdjpgleaaGreatDoor.Cv
