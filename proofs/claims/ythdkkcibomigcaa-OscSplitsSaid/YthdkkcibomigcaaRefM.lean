/-
  Contracts of the document's answer for layer 1 over spans: sundialref01.Meet, Cover, Shift, for every argument.
  Conditions: none but that the arguments are of their kinds.
-/
import Derived.Test.YthdkkcibomigcaaFxM
import Derived.Test.YthdkkcibomigcaaRefB
namespace Go.Proofs.Ythdkkcibomigcaa.Fx
open Go.RowKit

theorem rCheck_okx (lo hi : Int) (w : World) (h : okS lo hi) :
    Calls Try.prog 21 #[.agg #[.int .i64 lo, .int .i64 hi]] w fun e w' => e = .returned (.int .i64 0) ∧ w' = w.alloc (.cells #[.int .i64 lo, .int .i64 hi] 34) := by
  obtain ⟨h1, h2, h3⟩ := h
  have e1 : decide (hi < lo) = false := by rw [decide_eq_false_iff_not]; omega
  go_enter Try.func21, Try.ntmps21
  go_wp2_with fail
  refine (Is_yes _ _ (by omega) (by omega)).mono ?_
  rintro e w' ⟨rfl, rfl⟩
  go_wp2_with fail
  refine (Is_yes _ _ (by omega) (by omega)).mono ?_
  rintro e w' ⟨rfl, rfl⟩
  go_wp2_with fail
  go_ret
  exact ⟨rfl, rfl⟩


theorem rCheck_badx (lo hi : Int) (w : World) (h : ¬ okS lo hi) :
    Calls Try.prog 21 #[.agg #[.int .i64 lo, .int .i64 hi]] w fun e w' => e = .returned (.int .i64 3) ∧ w' = w.alloc (.cells #[.int .i64 lo, .int .i64 hi] 34) := by
  unfold okS at h
  by_cases c1 : -2305843009213693952 ≤ lo ∧ lo ≤ 2305843009213693952
  · obtain ⟨a1, a2⟩ := c1
    by_cases c2 : -2305843009213693952 ≤ hi ∧ hi ≤ 2305843009213693952
    · obtain ⟨b1, b2⟩ := c2
      have e0 : hi < lo := by omega
      have e1 : decide (hi < lo) = true := decide_eq_true e0
      clear h
      go_enter Try.func21, Try.ntmps21
      go_wp2_with fail
      refine (Is_yes _ _ (by omega) (by omega)).mono ?_
      rintro e w' ⟨rfl, rfl⟩
      go_wp2_with fail
      refine (Is_yes _ _ (by omega) (by omega)).mono ?_
      rintro e w' ⟨rfl, rfl⟩
      go_wp2_with fail
      go_ret
      exact ⟨rfl, rfl⟩
    · have c3 : hi < -2305843009213693952 ∨ 2305843009213693952 < hi := by omega
      clear h c2
      go_enter Try.func21, Try.ntmps21
      go_wp2_with fail
      refine (Is_yes _ _ (by omega) (by omega)).mono ?_
      rintro e w' ⟨rfl, rfl⟩
      go_wp2_with fail
      refine (Is_no _ _ (by omega)).mono ?_
      rintro e w' ⟨rfl, rfl⟩
      go_wp2_with fail
      go_ret
      exact ⟨rfl, rfl⟩
  · have c3 : lo < -2305843009213693952 ∨ 2305843009213693952 < lo := by omega
    clear h c1
    go_enter Try.func21, Try.ntmps21
    go_wp2_with fail
    refine (Is_no _ _ (by omega)).mono ?_
    rintro e w' ⟨rfl, rfl⟩
    go_wp2_with fail
    go_ret
    exact ⟨rfl, rfl⟩

end Go.Proofs.Ythdkkcibomigcaa.Fx
