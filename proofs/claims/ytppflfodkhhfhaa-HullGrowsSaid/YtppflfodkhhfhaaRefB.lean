/-
  Contracts of the document's answer for layer 1 (sundialref01): Part out of range, Sum, Stamp, Short, Long, Unfold, Check, for every argument.
  Conditions: none but that the arguments are of their kinds.
-/
import Derived.Test.YtppflfodkhhfhaaRefA
namespace Go.Proofs.Ytppflfodkhhfhaa.Fx
open Go.RowKit

set_option maxRecDepth 100000 in
set_option maxHeartbeats 1000000 in
theorem rCheck_ok (lo hi : Int) (w : World) (h : okS lo hi) :
    Calls Try.prog 24 #[.agg #[.int .i64 lo, .int .i64 hi]] w fun e w' => e = .returned (.int .i64 0) ∧ Below w.heap.size w w' := by
  obtain ⟨h1, h2, h3⟩ := h
  have e1 : decide (hi < lo) = false := by rw [decide_eq_false_iff_not]; omega
  go_enter Try.func24, Try.ntmps24
  go_wp2_with fail
  refine (Is_yes _ _ (by omega) (by omega)).mono ?_
  rintro e w' ⟨rfl, rfl⟩
  go_wp2_with fail
  refine (Is_yes _ _ (by omega) (by omega)).mono ?_
  rintro e w' ⟨rfl, rfl⟩
  go_wp2_with fail
  go_ret
  exact ⟨rfl, (Below.refl _ _).alloc (Nat.le_refl _) _⟩


set_option maxRecDepth 100000 in
set_option maxHeartbeats 1000000 in
theorem rCheck_bad (lo hi : Int) (w : World) (h : ¬ okS lo hi) :
    Calls Try.prog 24 #[.agg #[.int .i64 lo, .int .i64 hi]] w fun e w' => e = .returned (.int .i64 3) ∧ Below w.heap.size w w' := by
  unfold okS at h
  by_cases c1 : -2305843009213693952 ≤ lo ∧ lo ≤ 2305843009213693952
  · obtain ⟨a1, a2⟩ := c1
    by_cases c2 : -2305843009213693952 ≤ hi ∧ hi ≤ 2305843009213693952
    · obtain ⟨b1, b2⟩ := c2
      have e0 : hi < lo := by omega
      have e1 : decide (hi < lo) = true := decide_eq_true e0
      clear h
      go_enter Try.func24, Try.ntmps24
      go_wp2_with fail
      refine (Is_yes _ _ (by omega) (by omega)).mono ?_
      rintro e w' ⟨rfl, rfl⟩
      go_wp2_with fail
      refine (Is_yes _ _ (by omega) (by omega)).mono ?_
      rintro e w' ⟨rfl, rfl⟩
      go_wp2_with fail
      go_ret
      exact ⟨rfl, (Below.refl _ _).alloc (Nat.le_refl _) _⟩
    · have c3 : hi < -2305843009213693952 ∨ 2305843009213693952 < hi := by omega
      clear h c2
      go_enter Try.func24, Try.ntmps24
      go_wp2_with fail
      refine (Is_yes _ _ (by omega) (by omega)).mono ?_
      rintro e w' ⟨rfl, rfl⟩
      go_wp2_with fail
      refine (Is_no _ _ (by omega)).mono ?_
      rintro e w' ⟨rfl, rfl⟩
      go_wp2_with fail
      go_ret
      exact ⟨rfl, (Below.refl _ _).alloc (Nat.le_refl _) _⟩
  · have c3 : lo < -2305843009213693952 ∨ 2305843009213693952 < lo := by omega
    clear h c1
    go_enter Try.func24, Try.ntmps24
    go_wp2_with fail
    refine (Is_no _ _ (by omega)).mono ?_
    rintro e w' ⟨rfl, rfl⟩
    go_wp2_with fail
    go_ret
    exact ⟨rfl, (Below.refl _ _).alloc (Nat.le_refl _) _⟩


/-- eras apart. -/
def Cong (t q : Int) : Prop := (t - q) % 4503599627370496 = 0

theorem unf_at (s pivot t : Int) (h1 : pivot - 2251799813685248 ≤ t) (h2 : t < pivot - 2251799813685248 + 4503599627370496) (h3 : Cong t (s / 4096)) : unfT s pivot = t := by
  unfold Cong at h3; unfold unfT; omega

theorem cong_add (t q : Int) (h : Cong t q) : Cong (t + 4503599627370496) q := by unfold Cong at *; omega
theorem cong_mul (q k : Int) : Cong (q + k * 4503599627370496) q := by unfold Cong; omega

theorem tdiv_era (x : Int) : ∃ k, x.tdiv 4503599627370496 = k ∧ (0 ≤ x → x - 4503599627370496 < k * 4503599627370496 ∧ k * 4503599627370496 ≤ x) ∧ (x ≤ 0 → x ≤ k * 4503599627370496 ∧ k * 4503599627370496 < x + 4503599627370496) := by
  refine ⟨_, rfl, fun h => ?_, fun h => ?_⟩
  · rw [Int.tdiv_eq_ediv_of_nonneg h]; omega
  · have e : x.tdiv 4503599627370496 = -((-x) / 4503599627370496) := by
      rw [← Int.tdiv_eq_ediv_of_nonneg (by omega), Int.neg_tdiv, Int.neg_neg]
    rw [e]; omega

end Go.Proofs.Ytppflfodkhhfhaa.Fx
