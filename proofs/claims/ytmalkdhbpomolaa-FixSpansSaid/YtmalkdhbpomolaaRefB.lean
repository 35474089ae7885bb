/-
  Contracts of the document's answer for layer 1 (sundialref01): Part out of range, Sum, Stamp, Short, Long, Unfold, Check, for every argument.
  Conditions: none but that the arguments are of their kinds.
-/
import Derived.Test.YtmalkdhbpomolaaRefA
namespace Go.Proofs.Ytmalkdhbpomolaa.Fx
open Go.RowKit

set_option maxRecDepth 100000 in
set_option maxHeartbeats 1000000 in
theorem rPart_bad (a num den : Int) (up : Bool) (w : World) (h : ¬ okP a num den) :
    Calls Try.prog 13 #[.int .i64 a, .int .i64 num, .int .i64 den, .bool up] w fun e w' => e = .returned (.tuple #[.int .i64 0, .int .i64 2]) ∧ w = w' := by
  unfold okP at h
  by_cases c1 : -2305843009213693952 ≤ a ∧ a ≤ 2305843009213693952
  · obtain ⟨a1, a2⟩ := c1
    by_cases c2 : num < 0
    · have e2 : decide (num < 0) = true := decide_eq_true c2
      clear h
      go_enter Try.func13, Try.ntmps13
      go_wp2_with fail
      refine (Is_yes _ _ (by omega) (by omega)).mono ?_
      rintro e w' ⟨rfl, rfl⟩
      go_wp2_with fail
      go_ret2
      exact ⟨rfl, rfl⟩
    · have e2 : decide (num < 0) = false := decide_eq_false c2
      by_cases c3 : 2147483648 < num
      · have e3 : decide (2147483648 < num) = true := decide_eq_true c3
        clear h
        go_enter Try.func13, Try.ntmps13
        go_wp2_with fail
        refine (Is_yes _ _ (by omega) (by omega)).mono ?_
        rintro e w' ⟨rfl, rfl⟩
        go_wp2_with fail
        go_ret2
        exact ⟨rfl, rfl⟩
      · have e3 : decide (2147483648 < num) = false := decide_eq_false c3
        by_cases c4 : den < 1
        · have e4 : decide (den < 1) = true := decide_eq_true c4
          clear h
          go_enter Try.func13, Try.ntmps13
          go_wp2_with fail
          refine (Is_yes _ _ (by omega) (by omega)).mono ?_
          rintro e w' ⟨rfl, rfl⟩
          go_wp2_with fail
          go_ret2
          exact ⟨rfl, rfl⟩
        · have e4 : decide (den < 1) = false := decide_eq_false c4
          have c5 : 2147483648 < den := by omega
          have e5 : decide (2147483648 < den) = true := decide_eq_true c5
          clear h
          go_enter Try.func13, Try.ntmps13
          go_wp2_with fail
          refine (Is_yes _ _ (by omega) (by omega)).mono ?_
          rintro e w' ⟨rfl, rfl⟩
          go_wp2_with fail
          go_ret2
          exact ⟨rfl, rfl⟩
  · have c2 : a < -2305843009213693952 ∨ 2305843009213693952 < a := by omega
    clear h c1
    go_enter Try.func13, Try.ntmps13
    go_wp2_with fail
    refine (Is_no _ _ (by omega)).mono ?_
    rintro e w' ⟨rfl, rfl⟩
    go_wp2_with fail
    go_ret2
    exact ⟨rfl, rfl⟩

theorem rSum_ok (a b : Int) (w : World) (h1 : -2305843009213693952 ≤ a ∧ a ≤ 2305843009213693952) (h2 : -2305843009213693952 ≤ b ∧ b ≤ 2305843009213693952) :
    Calls Try.prog 11 #[.int .i64 a, .int .i64 b] w fun e w' => e = .returned (.tuple #[.int .i64 (bnd (a + b)), .int .i64 0]) ∧ w = w' := by
  go_enter Try.func11, Try.ntmps11
  go_wp2_with fail
  refine (Is_yes _ _ (by omega) (by omega)).mono ?_
  rintro e w' ⟨rfl, rfl⟩
  go_wp2_with fail
  refine (Is_yes _ _ (by omega) (by omega)).mono ?_
  rintro e w' ⟨rfl, rfl⟩
  go_wp2_with fail
  refine (Bound_c _ _).mono ?_
  rintro e w' ⟨rfl, rfl⟩
  go_wp2_with fail
  go_ret2
  exact ⟨rfl, rfl⟩


theorem rSum_bad (a b : Int) (w : World) (h : ¬ ((-2305843009213693952 ≤ a ∧ a ≤ 2305843009213693952) ∧ (-2305843009213693952 ≤ b ∧ b ≤ 2305843009213693952))) :
    Calls Try.prog 11 #[.int .i64 a, .int .i64 b] w fun e w' => e = .returned (.tuple #[.int .i64 0, .int .i64 2]) ∧ w = w' := by
  by_cases c1 : -2305843009213693952 ≤ a ∧ a ≤ 2305843009213693952
  · have c2 : b < -2305843009213693952 ∨ 2305843009213693952 < b := by omega
    obtain ⟨a1, a2⟩ := c1
    clear h
    go_enter Try.func11, Try.ntmps11
    go_wp2_with fail
    refine (Is_yes _ _ (by omega) (by omega)).mono ?_
    rintro e w' ⟨rfl, rfl⟩
    go_wp2_with fail
    refine (Is_no _ _ (by omega)).mono ?_
    rintro e w' ⟨rfl, rfl⟩
    go_wp2_with fail
    go_ret2
    exact ⟨rfl, rfl⟩
  · have c2 : a < -2305843009213693952 ∨ 2305843009213693952 < a := by omega
    clear h c1
    go_enter Try.func11, Try.ntmps11
    go_wp2_with fail
    refine (Is_no _ _ (by omega)).mono ?_
    rintro e w' ⟨rfl, rfl⟩
    go_wp2_with fail
    go_ret2
    exact ⟨rfl, rfl⟩


theorem rShort_bad (d : Int) (w : World) (h : d < -2305843009213693952 ∨ 2305843009213693952 < d) :
    Calls Try.prog 19 #[.int .i64 d] w fun e w' => e = .returned (.tuple #[.int .u32 0, .int .i64 2]) ∧ w = w' := by
  go_enter Try.func19, Try.ntmps19
  go_wp2_with fail
  refine (Is_no _ _ h).mono ?_
  rintro e w' ⟨rfl, rfl⟩
  go_wp2_with fail
  go_ret2
  exact ⟨rfl, rfl⟩


theorem rLong_c (x : Int) (w : World) (h1 : 0 ≤ x) (h2 : x ≤ 4294967295) :
    Calls Try.prog 21 #[.int .u32 x] w fun e w' => e = .returned (.int .i64 (16 * x)) ∧ w = w' := by
  go_enter Try.func21, Try.ntmps21
  go_wp2_with fail
  go_ret
  exact ⟨rfl, rfl⟩


set_option maxRecDepth 100000 in
theorem rStamp_ok (t : Int) (w : World) (h1 : -2305843009213693952 ≤ t) (h2 : t ≤ 2305843009213693952) :
    Calls Try.prog 15 #[.int .i64 t] w fun e w' => e = .returned (.tuple #[.int .u64 (stampF t), .int .i64 0]) ∧ w = w' := by
  have S := stamp_wrap t
  go_enter Try.func15, Try.ntmps15
  go_wp2_with fail
  refine (Is_yes _ _ (by omega) (by omega)).mono ?_
  rintro e w' ⟨rfl, rfl⟩
  go_wp2_with fail
  go_ret2
  exact ⟨rfl, rfl⟩


theorem rStamp_bad (t : Int) (w : World) (h : t < -2305843009213693952 ∨ 2305843009213693952 < t) :
    Calls Try.prog 15 #[.int .i64 t] w fun e w' => e = .returned (.tuple #[.int .u64 0, .int .i64 2]) ∧ w = w' := by
  go_enter Try.func15, Try.ntmps15
  go_wp2_with fail
  refine (Is_no _ _ h).mono ?_
  rintro e w' ⟨rfl, rfl⟩
  go_wp2_with fail
  go_ret2
  exact ⟨rfl, rfl⟩


set_option maxRecDepth 100000 in
set_option maxHeartbeats 1000000 in
theorem rCheck_ok (lo hi : Int) (w : World) (h : okS lo hi) :
    Calls Try.prog 29 #[.agg #[.int .i64 lo, .int .i64 hi]] w fun e w' => e = .returned (.int .i64 0) ∧ Below w.heap.size w w' := by
  obtain ⟨h1, h2, h3⟩ := h
  have e1 : decide (hi < lo) = false := by rw [decide_eq_false_iff_not]; omega
  go_enter Try.func29, Try.ntmps29
  go_wp2_with fail
  refine (Is_yes _ _ (by omega) (by omega)).mono ?_
  rintro e w' ⟨rfl, rfl⟩
  go_wp2_with fail
  refine (Is_yes _ _ (by omega) (by omega)).mono ?_
  rintro e w' ⟨rfl, rfl⟩
  go_wp2_with fail
  go_ret
  exact ⟨rfl, (Below.refl _ _).alloc (Nat.le_refl _) _⟩


set_option maxRecDepth 100000 in
set_option maxHeartbeats 1000000 in
theorem rCheck_bad (lo hi : Int) (w : World) (h : ¬ okS lo hi) :
    Calls Try.prog 29 #[.agg #[.int .i64 lo, .int .i64 hi]] w fun e w' => e = .returned (.int .i64 3) ∧ Below w.heap.size w w' := by
  unfold okS at h
  by_cases c1 : -2305843009213693952 ≤ lo ∧ lo ≤ 2305843009213693952
  · obtain ⟨a1, a2⟩ := c1
    by_cases c2 : -2305843009213693952 ≤ hi ∧ hi ≤ 2305843009213693952
    · obtain ⟨b1, b2⟩ := c2
      have e0 : hi < lo := by omega
      have e1 : decide (hi < lo) = true := decide_eq_true e0
      clear h
      go_enter Try.func29, Try.ntmps29
      go_wp2_with fail
      refine (Is_yes _ _ (by omega) (by omega)).mono ?_
      rintro e w' ⟨rfl, rfl⟩
      go_wp2_with fail
      refine (Is_yes _ _ (by omega) (by omega)).mono ?_
      rintro e w' ⟨rfl, rfl⟩
      go_wp2_with fail
      go_ret
      exact ⟨rfl, (Below.refl _ _).alloc (Nat.le_refl _) _⟩
    · have c3 : hi < -2305843009213693952 ∨ 2305843009213693952 < hi := by omega
      clear h c2
      go_enter Try.func29, Try.ntmps29
      go_wp2_with fail
      refine (Is_yes _ _ (by omega) (by omega)).mono ?_
      rintro e w' ⟨rfl, rfl⟩
      go_wp2_with fail
      refine (Is_no _ _ (by omega)).mono ?_
      rintro e w' ⟨rfl, rfl⟩
      go_wp2_with fail
      go_ret
      exact ⟨rfl, (Below.refl _ _).alloc (Nat.le_refl _) _⟩
  · have c3 : lo < -2305843009213693952 ∨ 2305843009213693952 < lo := by omega
    clear h c1
    go_enter Try.func29, Try.ntmps29
    go_wp2_with fail
    refine (Is_no _ _ (by omega)).mono ?_
    rintro e w' ⟨rfl, rfl⟩
    go_wp2_with fail
    go_ret
    exact ⟨rfl, (Below.refl _ _).alloc (Nat.le_refl _) _⟩


set_option maxRecDepth 100000 in
set_option maxHeartbeats 1000000 in
theorem rUnfold_bad (s pivot : Int) (w : World) (h : pivot < -2301339409586323456 ∨ 2301339409586323456 < pivot) :
    Calls Try.prog 17 #[.int .u64 s, .int .i64 pivot] w fun e w' => e = .returned (.tuple #[.agg #[.int .i64 0, .int .i64 0], .int .i64 2]) ∧ Below w.heap.size w w' := by
  by_cases c : pivot < -2301339409586323456
  · have g1 : decide (pivot < -2301339409586323456) = true := decide_eq_true c
    clear h
    go_enter Try.func17, Try.ntmps17
    go_wp2_with fail
    exact bodyPost_ret (v := .tuple #[.agg #[.int .i64 0, .int .i64 0], .int .i64 2]) (by simp [results, Try.results17, go_sem]) rfl ⟨rfl, (Below.refl _ _).alloc (Nat.le_refl _) _⟩
  · have g1 : decide (pivot < -2301339409586323456) = false := decide_eq_false c
    have c2 : 2301339409586323456 < pivot := by omega
    have g2 : decide (2301339409586323456 < pivot) = true := decide_eq_true c2
    clear h
    go_enter Try.func17, Try.ntmps17
    go_wp2_with fail
    exact bodyPost_ret (v := .tuple #[.agg #[.int .i64 0, .int .i64 0], .int .i64 2]) (by simp [results, Try.results17, go_sem]) rfl ⟨rfl, (Below.refl _ _).alloc (Nat.le_refl _) _⟩

set_option maxRecDepth 100000 in
theorem rShort_ok (d : Int) (w : World) (h1 : -2305843009213693952 ≤ d) (h2 : d ≤ 2305843009213693952) :
    Calls Try.prog 19 #[.int .i64 d] w fun e w' => e = .returned (.tuple #[.int .u32 (shortF d), .int .i64 0]) ∧ w = w' := by
  by_cases c : d ≤ 0
  · have e : shortF d = 0 := by unfold shortF; (repeat' split) <;> omega
    rw [e]
    clear e
    go_enter Try.func19, Try.ntmps19
    go_wp2_with fail
    refine (Is_yes _ _ (by omega) (by omega)).mono ?_
    rintro e w' ⟨rfl, rfl⟩
    go_wp2_with fail
    go_ret2
    exact ⟨rfl, rfl⟩
  · have S : shortF d = min ((d + 15) / 16) 4294967295 := by unfold shortF; rw [if_neg (by omega)]; split <;> omega
    have SS := Lib.hid S
    clear S
    go_enter Try.func19, Try.ntmps19
    go_wp2_with fail
    refine (Is_yes _ _ (by omega) (by omega)).mono ?_
    rintro e w' ⟨rfl, rfl⟩
    go_wp2_with fail
    rw [SS.out]
    go_ret2
    exact ⟨rfl, rfl⟩

/-- eras apart. -/
def Cong (t q : Int) : Prop := (t - q) % 4503599627370496 = 0

theorem unf_at (s pivot t : Int) (h1 : pivot - 2251799813685248 ≤ t) (h2 : t < pivot - 2251799813685248 + 4503599627370496) (h3 : Cong t (s / 4096)) : unfT s pivot = t := by
  unfold Cong at h3; unfold unfT; omega

theorem cong_add (t q : Int) (h : Cong t q) : Cong (t + 4503599627370496) q := by unfold Cong at *; omega
theorem cong_mul (q k : Int) : Cong (q + k * 4503599627370496) q := by unfold Cong; omega

theorem tdiv_era (x : Int) : ∃ k, x.tdiv 4503599627370496 = k ∧ (0 ≤ x → x - 4503599627370496 < k * 4503599627370496 ∧ k * 4503599627370496 ≤ x) ∧ (x ≤ 0 → x ≤ k * 4503599627370496 ∧ k * 4503599627370496 < x + 4503599627370496) := by
  refine ⟨_, rfl, fun h => ?_, fun h => ?_⟩
  · rw [Int.tdiv_eq_ediv_of_nonneg h]; omega
  · have e : x.tdiv 4503599627370496 = -((-x) / 4503599627370496) := by
      rw [← Int.tdiv_eq_ediv_of_nonneg (by omega), Int.neg_tdiv, Int.neg_neg]
    rw [e]; omega

set_option maxRecDepth 100000 in
set_option maxHeartbeats 1000000 in
theorem rUnfold_ok (s pivot : Int) (w : World) (hs : 0 ≤ s) (hs' : s ≤ 18446744073709551615) (h1 : -2301339409586323456 ≤ pivot) (h2 : pivot ≤ 2301339409586323456) :
    Calls Try.prog 17 #[.int .u64 s, .int .i64 pivot] w fun e w' => e = .returned (.tuple #[.agg #[.int .i64 (unfT s pivot), .int .i64 (unfHi s (unfT s pivot))], .int .i64 0]) ∧ Below w.heap.size w w' := by
  have g1 : decide (pivot < -2301339409586323456) = false := by rw [decide_eq_false_iff_not]; omega
  have g2 : decide (2301339409586323456 < pivot) = false := by rw [decide_eq_false_iff_not]; omega
  have U := Lib.hid (unf_at s pivot)
  obtain ⟨k, ek, k1, k2⟩ := tdiv_era (pivot - 2251799813685248 - s / 4096)
  have kk : pivot - 2251799813685248 - 4503599627370496 < s / 4096 + k * 4503599627370496 ∧ s / 4096 + k * 4503599627370496 < pivot - 2251799813685248 + 4503599627370496 := by omega
  have kc := cong_mul (s / 4096) k
  clear k1 k2
  obtain ⟨kk1, kk2⟩ := kk
  go_enter Try.func17, Try.ntmps17
  go_wp2_with fail
  go_loop [7] (fun v => ∃ t : Int, pivot - 2251799813685248 - 4503599627370496 < t ∧ t < pivot - 2251799813685248 + 4503599627370496 ∧ Cong t (s / 4096) ∧ v = .int .i64 t) (fun v => (pivot + 4503599627370496 - intOf v).toNat)
  case atStart => exact ⟨_, kk1, kk2, kc, rfl⟩
  case round =>
    obtain ⟨t, t1, t2, tc, rfl⟩ := hrel
    clear kk1 kk2 kc ek
    by_cases c : t < pivot - 2251799813685248
    · go_wp2_with fail
      refine ⟨⟨t + 4503599627370496, by omega, by omega, cong_add t _ tc, rfl⟩, ?_⟩
      simp [intOf]; omega
    · have e1 : decide (t < pivot - 2251799813685248) = false := decide_eq_false c
      have V := Lib.hid (U.out t (by omega) t2 tc)
      clear U tc
      by_cases c5 : s % 4096 = 0
      · have e5 : (s % 4096 == 0) = true := by simp [c5]
        have e6 : unfHi s t = t := by unfold unfHi; rw [if_pos c5]
        have E6 := Lib.hid e6
        clear e6 c5
        go_wp2_with fail
        refine wp_loop_rounds 1 ?_
        rw [rounds_succ]
        go_wp2_with fail
        rw [V.out, E6.out]
        exact bodyPost_ret (v := .tuple #[.agg #[.int .i64 t, .int .i64 t], .int .i64 0]) (by simp [results, Try.results17, go_sem]) rfl ⟨rfl, (Below.refl _ _).alloc (Nat.le_refl _) _⟩
      · have e5 : (s % 4096 == 0) = false := by simp [c5]
        have e6 : unfHi s t = t + 1 := by unfold unfHi; rw [if_neg c5]
        have E6 := Lib.hid e6
        clear e6 c5
        go_wp2_with fail
        refine wp_loop_rounds 1 ?_
        rw [rounds_succ]
        go_wp2_with fail
        rw [V.out, E6.out]
        exact bodyPost_ret (v := .tuple #[.agg #[.int .i64 t, .int .i64 (t + 1)], .int .i64 0]) (by simp [results, Try.results17, go_sem]) rfl ⟨rfl, (Below.refl _ _).alloc (Nat.le_refl _) _⟩
end Go.Proofs.Ytmalkdhbpomolaa.Fx
