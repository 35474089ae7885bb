/-
  Contracts of the smallest functions of layer 1 (fix.isTime, fix.boundedSum, sundialref01.Is, sundialref01.Bound): each returns just the number or the Bool that is said, and leaves the world as it is.
  Conditions: integers are of their kinds; a time that boundedSum takes lies within Far.
-/
import Derived.Test.YtppflfodkhhfhaaChecked
import Derived.WalkKit
import Derived.WalkLawsBesides
namespace Go.Proofs.Ytppflfodkhhfhaa.Fx
open Go.RowKit

/-- 'is a time': from -Far to Far. -/
def isT (t : Int) : Bool := decide (-2305843009213693952 ≤ t ∧ t ≤ 2305843009213693952)
/-- brought into bounds. -/
def bnd (t : Int) : Int := if t < -2305843009213693952 then -2305843009213693952 else if 2305843009213693952 < t then 2305843009213693952 else t

theorem isT_true {t : Int} (h : -2305843009213693952 ≤ t ∧ t ≤ 2305843009213693952) : isT t = true := decide_eq_true h
theorem isT_iff {t : Int} : isT t = true ↔ (-2305843009213693952 ≤ t ∧ t ≤ 2305843009213693952) := decide_eq_true_iff
theorem isT_false {t : Int} (h : ¬ (-2305843009213693952 ≤ t ∧ t ≤ 2305843009213693952)) : isT t = false := decide_eq_false h

theorem isTime_c (t : Int) (w : World) : Calls Try.prog 27 #[.int .i64 t] w fun e w' => e = .returned (.bool (isT t)) ∧ w = w' := by
  by_cases h1 : -2305843009213693952 ≤ t
  · by_cases h2 : t ≤ 2305843009213693952
    · rw [isT_true ⟨h1, h2⟩]
      go_enter Try.func27, Try.ntmps27
      go_wp2
      go_ret
      exact ⟨rfl, rfl⟩
    · rw [isT_false (fun h => h2 h.2)]
      go_enter Try.func27, Try.ntmps27
      go_wp2
      go_ret
      exact ⟨rfl, rfl⟩
  · rw [isT_false (fun h => h1 h.1)]
    go_enter Try.func27, Try.ntmps27
    go_wp2
    go_ret
    exact ⟨rfl, rfl⟩

theorem Is_c (t : Int) (w : World) : Calls Try.prog 22 #[.int .i64 t] w fun e w' => e = .returned (.bool (isT t)) ∧ w = w' := by
  by_cases h1 : -2305843009213693952 ≤ t
  · by_cases h2 : t ≤ 2305843009213693952
    · rw [isT_true ⟨h1, h2⟩]
      go_enter Try.func22, Try.ntmps22
      go_wp2
      go_ret
      exact ⟨rfl, rfl⟩
    · rw [isT_false (fun h => h2 h.2)]
      go_enter Try.func22, Try.ntmps22
      go_wp2
      go_ret
      exact ⟨rfl, rfl⟩
  · rw [isT_false (fun h => h1 h.1)]
    go_enter Try.func22, Try.ntmps22
    go_wp2
    go_ret
    exact ⟨rfl, rfl⟩

theorem ret_int {k : IntKind} {a b : Int} (h : a = b) : Ending.returned (.int k a) = .returned (.int k b) := by rw [h]

theorem bnd_lo {t : Int} (h : t < -2305843009213693952) : bnd t = -2305843009213693952 := by unfold bnd; rw [if_pos h]
theorem bnd_hi {t : Int} (h : 2305843009213693952 < t) : bnd t = 2305843009213693952 := by unfold bnd; rw [if_neg (by omega), if_pos h]
theorem bnd_in {t : Int} (h1 : -2305843009213693952 ≤ t) (h2 : t ≤ 2305843009213693952) : bnd t = t := by unfold bnd; rw [if_neg (by omega), if_neg (by omega)]

end Go.Proofs.Ytppflfodkhhfhaa.Fx
