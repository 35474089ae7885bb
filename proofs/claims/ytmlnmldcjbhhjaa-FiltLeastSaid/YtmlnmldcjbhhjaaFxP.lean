/-
  Contracts of fix.sizeOfPart and fix.Part: what a fraction of a time is, for every argument.
  Conditions: sizeOfPart: size at most Far, num at most 2^31, den from 1 to 2^31; Part: none but that the arguments are of their kinds.
-/
import Derived.Test.YtmlnmldcjbhhjaaFxA
import Derived.Test.YtmlnmldcjbhhjaaDivW
namespace Go.Proofs.Ytmlnmldcjbhhjaa.Fx
open Go.RowKit

theorem isTime_yes (t : Int) (w : World) (h1 : -2305843009213693952 ≤ t) (h2 : t ≤ 2305843009213693952) : Calls Try.prog 28 #[.int .i64 t] w fun e w' => e = .returned (.bool true) ∧ w = w' := by
  have h := isTime_c t w
  rw [isT_true ⟨h1, h2⟩] at h
  exact h
theorem isTime_no (t : Int) (w : World) (h1 : t < -2305843009213693952 ∨ 2305843009213693952 < t) : Calls Try.prog 28 #[.int .i64 t] w fun e w' => e = .returned (.bool false) ∧ w = w' := by
  have h := isTime_c t w
  rw [isT_false (by omega)] at h
  exact h

/-- x / den, rounded, at most Far. -/
def szp (x den : Nat) (up : Bool) : Nat :=
  if 2305843009213693952 ≤ x / den then 2305843009213693952 else if up = true ∧ x % den ≠ 0 then x / den + 1 else x / den

theorem szp_le (x den : Nat) (up : Bool) : szp x den up ≤ 2305843009213693952 := by
  unfold szp
  (repeat' split) <;> omega

theorem words_of (x : Nat) : x / 18446744073709551616 * 18446744073709551616 + x % 18446744073709551616 = x := by
  rw [Nat.div_add_mod']

theorem big_quo (x den : Nat) (hd : 0 < den) (h : den ≤ x / 18446744073709551616) : 2305843009213693952 ≤ x / den := by
  rw [Nat.le_div_iff_mul_le hd]
  omega

theorem szp_far (x den : Nat) (up : Bool) (h : 2305843009213693952 ≤ x / den) : szp x den up = 2305843009213693952 := by
  unfold szp; rw [if_pos h]
theorem szp_up (x den : Nat) (h : x / den < 2305843009213693952) (h2 : x % den ≠ 0) : szp x den true = x / den + 1 := by
  unfold szp; rw [if_neg (by omega), if_pos ⟨rfl, h2⟩]
theorem szp_even (x den : Nat) (up : Bool) (h : x / den < 2305843009213693952) (h2 : x % den = 0) : szp x den up = x / den := by
  unfold szp; rw [if_neg (by omega), if_neg (fun h => h.2 h2)]
theorem szp_down (x den : Nat) (h : x / den < 2305843009213693952) : szp x den false = x / den := by
  unfold szp; rw [if_neg (by omega), if_neg (by simp)]

theorem far_yes (q : Nat) (h : 2305843009213693952 ≤ q) : decide ((2305843009213693952 : Int) ≤ (q : Int)) = true := by rw [decide_eq_true_iff]; omega
theorem far_no (q : Nat) (h : ¬ 2305843009213693952 ≤ q) : decide ((2305843009213693952 : Int) ≤ (q : Int)) = false := by rw [decide_eq_false_iff_not]; omega

set_option maxRecDepth 100000 in
set_option maxHeartbeats 1000000 in
theorem sizeOfPart_c (size num den : Nat) (up : Bool) (w : World) (h1 : size ≤ 2305843009213693952) (h2 : num ≤ 2147483648) (h3 : 0 < den) (h4 : den ≤ 2147483648) :
    Calls Try.prog 29 #[.int .u64 size, .int .u64 num, .int .u64 den, .bool up] w fun e w' => e = .returned (.int .i64 ((szp (size * num) den up : Nat) : Int)) ∧ Drawn w w' := by
  have hx : size * num ≤ 2305843009213693952 * 2147483648 := Nat.mul_le_mul h1 h2
  have H := Try.bits_Mul64 size num (by omega) (by omega) w
  obtain ⟨x, ex⟩ : ∃ x, size * num = x := ⟨_, rfl⟩
  rw [ex] at H hx ⊢
  clear ex
  have hh : x / 18446744073709551616 ≤ 268435456 := by omega
  have hl : x % 18446744073709551616 < 18446744073709551616 := by omega
  have hw := words_of x
  by_cases c1 : den ≤ x / 18446744073709551616
  · have c2 := szp_far x den up (big_quo x den h3 c1)
    rw [c2]
    clear c2
    generalize x / 18446744073709551616 = hi at *
    generalize x % 18446744073709551616 = lo at *
    have HH := Lib.hid H
    clear H hw
    go_enter Try.func29, Try.ntmps29
    go_wp2_with fail
    refine HH.out.mono ?_
    rintro e w' ⟨rfl, rfl⟩
    go_wp2_with fail
    go_ret
    exact ⟨rfl, Drawn.refl _⟩
  · have D := fun w => Div64_c (x / 18446744073709551616) (x % 18446744073709551616) den w (by omega) h4 hl
    rw [hw] at D
    generalize x / 18446744073709551616 = hi at *
    generalize x % 18446744073709551616 = lo at *
    have DD := Lib.hid D
    have HH := Lib.hid H
    clear H D hw hx
    have hr : x % den < den := Nat.mod_lt _ h3
    have S1 := szp_far x den up
    have S2 := szp_up x den
    have S3 := szp_even x den up
    have S4 := szp_down x den
    generalize szp x den = f at *
    generalize x / den = q at *
    generalize x % den = r at *
    have S := Lib.hid (And.intro S1 (And.intro S2 (And.intro S3 S4)))
    clear S1 S2 S3 S4
    by_cases c2 : 2305843009213693952 ≤ q
    · have e2 : decide ((2305843009213693952 : Int) ≤ (q : Int)) = true := far_yes q c2
      rw [S.out.1 c2]
      go_enter Try.func29, Try.ntmps29
      go_wp2_with fail
      refine HH.out.mono ?_
      rintro e w' ⟨rfl, rfl⟩
      go_wp2_with fail
      refine (DD.out _).mono ?_
      rintro e w1 ⟨rfl, n, rfl⟩
      go_wp2_with fail
      go_ret
      exact ⟨rfl, n, rfl⟩
    · have e2 : decide ((2305843009213693952 : Int) ≤ (q : Int)) = false := far_no q c2
      have c3 : q < 2305843009213693952 := by omega
      by_cases c4 : r = 0
      · rw [S.out.2.2.1 c3 c4]
        have e4 : ((r : Int) != 0) = false := by simp; omega
        have C3 := Lib.hid c4
        clear c4
        cases up
        all_goals
          go_enter Try.func29, Try.ntmps29
          go_wp2_with fail
          refine HH.out.mono ?_
          rintro e w' ⟨rfl, rfl⟩
          go_wp2_with fail
          refine (DD.out _).mono ?_
          rintro e w1 ⟨rfl, n, rfl⟩
          go_wp2_with fail
          go_ret
          exact ⟨rfl, n, rfl⟩
      · have e4 : ((r : Int) != 0) = true := by simp; omega
        cases up
        · rw [S.out.2.2.2 c3]
          go_enter Try.func29, Try.ntmps29
          go_wp2_with fail
          refine HH.out.mono ?_
          rintro e w' ⟨rfl, rfl⟩
          go_wp2_with fail
          refine (DD.out _).mono ?_
          rintro e w1 ⟨rfl, n, rfl⟩
          go_wp2_with fail
          go_ret
          exact ⟨rfl, n, rfl⟩
        · rw [S.out.2.1 c3 c4]
          go_enter Try.func29, Try.ntmps29
          go_wp2_with fail
          refine HH.out.mono ?_
          rintro e w' ⟨rfl, rfl⟩
          go_wp2_with fail
          refine (DD.out _).mono ?_
          rintro e w1 ⟨rfl, n, rfl⟩
          go_wp2_with fail
          go_ret
          exact ⟨ret_int (by omega), n, rfl⟩

/-- a * num / den, rounded, within bounds. -/
def prt (a num den : Int) (up : Bool) : Int :=
  if a < 0 then -((szp ((-a).toNat * num.toNat) den.toNat (!up) : Nat) : Int) else ((szp (a.toNat * num.toNat) den.toNat up : Nat) : Int)

def okP (a num den : Int) : Prop := (-2305843009213693952 ≤ a ∧ a ≤ 2305843009213693952) ∧ (0 ≤ num ∧ num ≤ 2147483648) ∧ (1 ≤ den ∧ den ≤ 2147483648)

theorem prt_pos (n m d : Nat) (up : Bool) : prt (n : Int) (m : Int) (d : Int) up = ((szp (n * m) d up : Nat) : Int) := by
  unfold prt; rw [if_neg (by omega)]; simp only [Int.toNat_natCast]
theorem prt_neg (n m d : Nat) (up : Bool) (h : 0 < n) : prt (-(n : Int)) (m : Int) (d : Int) up = -((szp (n * m) d (!up) : Nat) : Int) := by
  unfold prt; rw [if_pos (by omega), Int.neg_neg]; simp only [Int.toNat_natCast]

theorem prt_range (a num den : Int) (up : Bool) : -2305843009213693952 ≤ prt a num den up ∧ prt a num den up ≤ 2305843009213693952 := by
  unfold prt
  have h1 := szp_le ((-a).toNat * num.toNat) den.toNat (!up)
  have h2 := szp_le (a.toNat * num.toNat) den.toNat up
  split <;> omega

theorem ret_pair {k : IntKind} {a b : Int} {v : Value} (h : a = b) : Ending.returned (.tuple #[.int k a, v]) = .returned (.tuple #[.int k b, v]) := by rw [h]

set_option maxRecDepth 100000 in
set_option maxHeartbeats 1000000 in
theorem Part_ok (a num den : Int) (up : Bool) (w : World) (h : okP a num den) :
    Calls Try.prog 25 #[.int .i64 a, .int .i64 num, .int .i64 den, .bool up] w fun e w' => e = .returned (.tuple #[.int .i64 (prt a num den up), .int .i64 0]) ∧ Drawn w w' := by
  obtain ⟨⟨a1, a2⟩, ⟨n1, n2⟩, ⟨d1, d2⟩⟩ := h
  obtain ⟨m, rfl⟩ := Int.eq_ofNat_of_zero_le n1
  obtain ⟨d, rfl⟩ := Int.eq_ofNat_of_zero_le (show 0 ≤ den by omega)
  by_cases c : a < 0
  · obtain ⟨n, hn⟩ := Int.eq_ofNat_of_zero_le (show 0 ≤ -a by omega)
    obtain rfl : a = -(n : Int) := by omega
    clear hn
    have S := szp_le (n * m) d (!up)
    rw [prt_neg n m d up (by omega)]
    have P := fun w => sizeOfPart_c n m d (!up) w (by omega) (by omega) (by omega) (by omega)
    generalize szp (n * m) d = f at *
    have PP := Lib.hid P
    clear P
    go_enter Try.func25, Try.ntmps25
    go_wp2_with fail
    refine (isTime_yes _ _ (by omega) (by omega)).mono ?_
    rintro e w' ⟨rfl, rfl⟩
    go_wp2_with fail
    refine (PP.out _).mono ?_
    rintro e w1 ⟨rfl, n, rfl⟩
    go_wp2_with fail
    go_ret2
    exact ⟨rfl, n, rfl⟩
  · obtain ⟨n, rfl⟩ := Int.eq_ofNat_of_zero_le (show 0 ≤ a by omega)
    have S := szp_le (n * m) d up
    rw [prt_pos n m d up]
    have P := fun w => sizeOfPart_c n m d up w (by omega) (by omega) (by omega) (by omega)
    generalize szp (n * m) d = f at *
    have PP := Lib.hid P
    clear P
    go_enter Try.func25, Try.ntmps25
    go_wp2_with fail
    refine (isTime_yes _ _ (by omega) (by omega)).mono ?_
    rintro e w' ⟨rfl, rfl⟩
    go_wp2_with fail
    refine (PP.out _).mono ?_
    rintro e w1 ⟨rfl, n, rfl⟩
    go_wp2_with fail
    go_ret2
    exact ⟨rfl, n, rfl⟩

set_option maxRecDepth 100000 in
set_option maxHeartbeats 1000000 in
theorem Part_bad (a num den : Int) (up : Bool) (w : World) (h : ¬ okP a num den) :
    Calls Try.prog 25 #[.int .i64 a, .int .i64 num, .int .i64 den, .bool up] w fun e w' => e = .returned (.tuple #[.int .i64 0, .int .i64 2]) ∧ w = w' := by
  unfold okP at h
  by_cases c1 : -2305843009213693952 ≤ a ∧ a ≤ 2305843009213693952
  · obtain ⟨a1, a2⟩ := c1
    by_cases c2 : num < 0
    · have e2 : decide (num < 0) = true := decide_eq_true c2
      clear h
      go_enter Try.func25, Try.ntmps25
      go_wp2_with fail
      refine (isTime_yes _ _ (by omega) (by omega)).mono ?_
      rintro e w' ⟨rfl, rfl⟩
      go_wp2_with fail
      go_ret2
      exact ⟨rfl, rfl⟩
    · have e2 : decide (num < 0) = false := decide_eq_false c2
      by_cases c3 : 2147483648 < num
      · have e3 : decide (2147483648 < num) = true := decide_eq_true c3
        clear h
        go_enter Try.func25, Try.ntmps25
        go_wp2_with fail
        refine (isTime_yes _ _ (by omega) (by omega)).mono ?_
        rintro e w' ⟨rfl, rfl⟩
        go_wp2_with fail
        go_ret2
        exact ⟨rfl, rfl⟩
      · have e3 : decide (2147483648 < num) = false := decide_eq_false c3
        by_cases c4 : den < 1
        · have e4 : decide (den < 1) = true := decide_eq_true c4
          clear h
          go_enter Try.func25, Try.ntmps25
          go_wp2_with fail
          refine (isTime_yes _ _ (by omega) (by omega)).mono ?_
          rintro e w' ⟨rfl, rfl⟩
          go_wp2_with fail
          go_ret2
          exact ⟨rfl, rfl⟩
        · have e4 : decide (den < 1) = false := decide_eq_false c4
          have c5 : 2147483648 < den := by omega
          have e5 : decide (2147483648 < den) = true := decide_eq_true c5
          clear h
          go_enter Try.func25, Try.ntmps25
          go_wp2_with fail
          refine (isTime_yes _ _ (by omega) (by omega)).mono ?_
          rintro e w' ⟨rfl, rfl⟩
          go_wp2_with fail
          go_ret2
          exact ⟨rfl, rfl⟩
  · have c2 : a < -2305843009213693952 ∨ 2305843009213693952 < a := by omega
    clear h c1
    go_enter Try.func25, Try.ntmps25
    go_wp2_with fail
    refine (isTime_no _ _ (by omega)).mono ?_
    rintro e w' ⟨rfl, rfl⟩
    go_wp2_with fail
    go_ret2
    exact ⟨rfl, rfl⟩
end Go.Proofs.Ytmlnmldcjbhhjaa.Fx
