/-
  Every number has its day; Day says just that.
  Conditions: none.
-/
import Derived.Test.YtoecgabdjpgleaaGreatDoorCvC
namespace Go.Proofs.YtoecgabdjpgleaaGreatDoor.Cv
open Go.RowKit Go.Lib
set_option linter.unusedVariables false
set_option linter.unusedSimpArgs false

theorem next_a {n y m d : Int} (h : isDay n y m d) (c : d < len y m) : isDay (n + 1) y m (d + 1) := by
  obtain ⟨⟨h1, h2, h3, h4, h5, h6⟩, e⟩ := h
  exact ⟨⟨h1, h2, h3, h4, by omega, by omega⟩, by unfold num at *; omega⟩
theorem next_b {n y m d : Int} (h : isDay n y m d) (c : d = len y m) (hm : m ≠ 12) : isDay (n + 1) y (m + 1) 1 := by
  obtain ⟨⟨h1, h2, h3, h4, h5, h6⟩, e⟩ := h
  have := len_bd y (m + 1)
  refine ⟨⟨h1, h2, by omega, by omega, by omega, by omega⟩, ?_⟩
  obtain ⟨k, rfl⟩ : ∃ k : Nat, m = k + 1 := ⟨(m - 1).toNat, by omega⟩
  unfold num at *
  rw [show ((k : Int) + 1 + 1 - 1).toNat = k + 1 from by omega, ms_succ]
  rw [show ((k : Int) + 1 - 1).toNat = k from by omega] at e
  omega
theorem next_c {n y m d : Int} (h : isDay n y m d) (c : d = len y m) (hm : m = 12) (hn : n ≤ 2958462) : isDay (n + 1) (y + 1) 1 1 := by
  obtain ⟨⟨h1, h2, h3, h4, h5, h6⟩, e⟩ := h
  subst hm
  have e2 : n + 1 = ny (y + 1) := by
    rw [ny_succ, ← ms_twelve, show (12 : Nat) = 11 + 1 from rfl, ms_succ]
    unfold num at e
    rw [show ((12 : Int) - 1).toNat = 11 from rfl] at e
    rw [c] at e
    rw [← e]
    simp
    omega
  have y9 : y + 1 ≤ 9999 := year_in (n := n + 1) (by omega) (by omega)
  have l1 := len_bd (y + 1) 1
  exact ⟨⟨by omega, y9, by omega, by omega, by omega, by omega⟩, by unfold num; simp [ms]; omega⟩
theorem day_exN : ∀ n : Nat, n ≤ 2958463 → ∃ y m d, isDay n y m d
  | 0, _ => ⟨1900, 1, 1, by unfold isDay ok; decide⟩
  | n + 1, h => by
    obtain ⟨y, m, d, hd⟩ := day_exN n (by omega)
    have hl := hd.1.2.2.2.2.2
    by_cases c : d < len y m
    · exact ⟨_, _, _, by simpa using next_a hd c⟩
    · by_cases hm : m = 12
      · exact ⟨_, _, _, by simpa using next_c hd (by omega) hm (by omega)⟩
      · exact ⟨_, _, _, by simpa using next_b hd (by omega) hm⟩
theorem day_ex {n : Int} (h : 0 ≤ n) (h' : n ≤ 2958463) : ∃ y m d, isDay n y m d := by
  have := day_exN n.toNat (by omega)
  rwa [show ((n.toNat : Nat) : Int) = n from by omega] at this

theorem Day_is {n y m d : Int} (h : isDay n y m d) (w : World) :
    Calls Tryz.prog 55 #[.int .i64 n] w fun e w' => e = .returned (.tuple #[.agg #[.int .i64 y, .int .i64 m, .int .i64 d], .int .i64 0]) ∧ Below w.heap.size w w' := by
  have b := num_bd h.1
  rw [h.2] at b
  refine (Day_ok n w b.1 b.2).mono ?_
  rintro e w' ⟨⟨y', m', d', hd, rfl⟩, hb⟩
  obtain ⟨rfl, rfl, rfl⟩ := isDay_one h hd
  exact ⟨rfl, hb⟩
end Go.Proofs.YtoecgabdjpgleaaGreatDoor.Cv
