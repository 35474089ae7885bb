/-
  Contracts of the document's answer for layer 1 (sundialref01): wide, Part, Sum, Stamp, Short, Long, for every argument.
  Conditions: wide: a below 2^62, num at most 2^31, den from 1 to 2^31; the others: none but that the arguments are of their kinds.
-/
import Derived.Test.YtmalkdhbpomolaaFxS
namespace Go.Proofs.Ytmalkdhbpomolaa.Fx
open Go.RowKit

theorem wide_step (A num den b C : Nat) (hd : 0 < den) :
    min (min (2 * min (A * num / den) C) C + (2 * (A * num % den) + b * num) / den) C = min ((2 * A + b) * num / den) C ∧
    (2 * (A * num % den) + b * num) % den = (2 * A + b) * num % den := by
  have e : (2 * A + b) * num = den * (2 * (A * num / den)) + (2 * (A * num % den) + b * num) := by
    have h := Nat.div_add_mod (A * num) den
    have h2 : (2 * A + b) * num = 2 * (A * num) + b * num := by rw [Nat.add_mul, Nat.mul_assoc]
    have h3 : den * (2 * (A * num / den)) = 2 * (den * (A * num / den)) := Nat.mul_left_comm _ _ _
    rw [h2, h3]
    omega
  rw [e, Nat.mul_add_div hd, Nat.mul_add_mod]
  refine ⟨?_, rfl⟩
  generalize A * num / den = Q
  generalize (2 * (A * num % den) + b * num) / den = t
  omega

theorem half_bit (a j : Nat) : a / 2 ^ j = 2 * (a / 2 ^ (j + 1)) + a / 2 ^ j % 2 := by
  rw [Nat.pow_succ, ← Nat.div_div_eq_div_mul]
  omega

theorem quo_small (x den : Nat) (h : x < 8589934592) : x / den < 8589934592 := Nat.lt_of_le_of_lt (Nat.div_le_self _ _) h

theorem val_u64 {a b : Int} (h : a = b) : Value.int IntKind.u64 a = Value.int IntKind.u64 b := by rw [h]

set_option maxRecDepth 100000 in
set_option maxHeartbeats 2000000 in
theorem wide_c (a num den : Nat) (w : World) (ha : a ≤ 2305843009213693952) (hn : num ≤ 2147483648) (hd : 0 < den) (hd' : den ≤ 2147483648) :
    Calls Try.prog 36 #[.int .u64 a, .int .u64 num, .int .u64 den] w fun e w' => e = .returned (.tuple #[.int .u64 ((min (a * num / den) 4611686018427387904 : Nat) : Int), .bool (decide (0 < a * num % den))]) ∧ w = w' := by
  have d0 : ((den : Int) == 0) = false := by simp; omega
  go_enter Try.func36, Try.ntmps36
  go_wp2_with fail
  go_loop [8, 9, 10] (fun q r i => ∃ k : Nat, k ≤ 62 ∧ i = .int .i64 ((k : Int) - 1) ∧ q = .int .u64 ((min (a / 2 ^ k * num / den) 4611686018427387904 : Nat) : Int) ∧ r = .int .u64 ((a / 2 ^ k * num % den : Nat) : Int)) (fun _ _ i => (intOf i + 1).toNat)
  case atStart =>
    have e : a / 2 ^ 62 = 0 := Nat.div_eq_of_lt (by omega)
    exact ⟨62, by omega, rfl, by rw [e]; simp, by rw [e]; simp⟩
  case round =>
    obtain ⟨k, hk, rfl, rfl, rfl⟩ := hrel
    rcases k with _ | j
    · rw [Nat.pow_zero, Nat.div_one]
      obtain ⟨r, er⟩ : ∃ r, a * num % den = r := ⟨_, rfl⟩
      obtain ⟨q, eq⟩ : ∃ q, min (a * num / den) 4611686018427387904 = q := ⟨_, rfl⟩
      rw [er, eq]
      have E := Lib.hid (And.intro er eq)
      clear er eq
      go_wp2_with fail
      go_ret2
      refine ⟨?_, rfl⟩
      rw [E.out.1, E.out.2]
      rfl
    · have eb := half_bit a j
      have hb2 : a / 2 ^ j % 2 < 2 := Nat.mod_lt _ (by omega)
      obtain ⟨st1, st2⟩ := wide_step (a / 2 ^ (j + 1)) num den (a / 2 ^ j % 2) 4611686018427387904 hd
      rw [← eb] at st1 st2
      have hr : a / 2 ^ (j + 1) * num % den < den := Nat.mod_lt _ hd
      have hq : min (a / 2 ^ (j + 1) * num / den) 4611686018427387904 ≤ 4611686018427387904 := Nat.min_le_right _ _
      have hbit : bits .and .u64 ((a : Int) / 2 ^ j) 1 = ((a / 2 ^ j % 2 : Nat) : Int) := by
        have c : ((a : Int) / 2 ^ j) = ((a / 2 ^ j : Nat) : Int) := by simp
        rw [c, and_one_u64 _ (by omega) (by have := Nat.div_le_self a (2 ^ j); omega)]
        omega
      generalize a / 2 ^ j % 2 = b at *
      generalize a / 2 ^ (j + 1) * num % den = r at *
      generalize min (a / 2 ^ (j + 1) * num / den) 4611686018427387904 = q at *
      have ei : (((j + 1 : Nat) : Int) - 1) = (j : Int) := by omega
      rw [ei]
      have hb3 : b = 0 ∨ b = 1 := by omega
      clear eb hb2 ei
      rcases hb3 with rfl | rfl
      · rw [Nat.zero_mul, Nat.add_zero] at st1 st2
        have t1 := quo_small (2 * r) den (by omega)
        have t2 : 2 * r % den < den := Nat.mod_lt _ hd
        obtain ⟨t, et⟩ : ∃ t, 2 * r / den = t := ⟨_, rfl⟩
        obtain ⟨r', er⟩ : ∃ r', 2 * r % den = r' := ⟨_, rfl⟩
        rw [et] at st1 t1
        rw [er] at st2 t2
        have f1 : (2 * (r : Int)) / (den : Int) = (t : Int) := by rw [← et]; exact (Int.natCast_ediv (2 * r) den).symm
        have f2 : (2 * (r : Int)) % (den : Int) = (r' : Int) := by rw [← er]; exact (Int.natCast_emod (2 * r) den).symm
        have ST := Lib.hid (And.intro st1 st2)
        clear et er st1 st2
        go_wp2_with fail
        refine ⟨⟨j, by omega, rfl, val_u64 ?_, val_u64 ?_⟩, ?_⟩
        · rw [← ST.out.1]; omega
        · rw [← ST.out.2]; exact f2
        · simp [intOf]
      · rw [Nat.one_mul] at st1 st2
        have t1 := quo_small (2 * r + num) den (by omega)
        have t2 : (2 * r + num) % den < den := Nat.mod_lt _ hd
        obtain ⟨t, et⟩ : ∃ t, (2 * r + num) / den = t := ⟨_, rfl⟩
        obtain ⟨r', er⟩ : ∃ r', (2 * r + num) % den = r' := ⟨_, rfl⟩
        rw [et] at st1 t1
        rw [er] at st2 t2
        have f1 : (2 * (r : Int) + (num : Int)) / (den : Int) = (t : Int) := by rw [← et]; exact (Int.natCast_ediv (2 * r + num) den).symm
        have f2 : (2 * (r : Int) + (num : Int)) % (den : Int) = (r' : Int) := by rw [← er]; exact (Int.natCast_emod (2 * r + num) den).symm
        have ST := Lib.hid (And.intro st1 st2)
        clear et er st1 st2
        go_wp2_with fail
        refine ⟨⟨j, by omega, rfl, val_u64 ?_, val_u64 ?_⟩, ?_⟩
        · rw [← ST.out.1]; omega
        · rw [← ST.out.2]; exact f2
        · simp [intOf]

theorem Is_yes (t : Int) (w : World) (h1 : -2305843009213693952 ≤ t) (h2 : t ≤ 2305843009213693952) : Calls Try.prog 33 #[.int .i64 t] w fun e w' => e = .returned (.bool true) ∧ w = w' := by
  have h := Is_c t w
  rw [isT_true ⟨h1, h2⟩] at h
  exact h
theorem Is_no (t : Int) (w : World) (h1 : t < -2305843009213693952 ∨ 2305843009213693952 < t) : Calls Try.prog 33 #[.int .i64 t] w fun e w' => e = .returned (.bool false) ∧ w = w' := by
  have h := Is_c t w
  rw [isT_false (by omega)] at h
  exact h

/-- the rest, if it counts. -/
def one (b : Bool) : Int := if b = true then 1 else 0

theorem one_true : one true = 1 := rfl
theorem one_false : one false = 0 := rfl

theorem bnd_cap (Q : Nat) (k : Int) (r : Nat) (h0 : 0 ≤ k) (h1 : k ≤ 1) (hr : (r : Int) = (Q : Int) + k) : bnd (((min Q 4611686018427387904 : Nat) : Int) + k) = ((if 2305843009213693952 ≤ Q then 2305843009213693952 else r : Nat) : Int) := by
  unfold bnd
  by_cases c : 2305843009213693952 ≤ Q
  · rw [if_pos c]
    (repeat' split) <;> omega
  · rw [if_neg c]
    (repeat' split) <;> omega

theorem szp_bnd (x d : Nat) (up : Bool) : bnd (((min (x / d) 4611686018427387904 : Nat) : Int) + one (decide (0 < x % d) && up)) = ((szp x d up : Nat) : Int) := by
  unfold szp
  generalize x / d = Q
  generalize x % d = R
  by_cases c : up = true ∧ R ≠ 0
  · have e : (decide (0 < R) && up) = true := by rw [c.1, Bool.and_true]; exact decide_eq_true (by omega)
    rw [e, one_true, if_pos c]
    exact bnd_cap Q 1 (Q + 1) (by omega) (by omega) (by omega)
  · have e : (decide (0 < R) && up) = false := by
      cases up
      · exact Bool.and_false _
      · rw [Bool.and_true, decide_eq_false_iff_not]
        intro h
        exact c ⟨rfl, by omega⟩
    rw [e, one_false, if_neg c]
    exact bnd_cap Q 0 Q (by omega) (by omega) (by omega)

theorem bnd_neg (t : Int) : bnd (-t) = -bnd t := by
  unfold bnd
  (repeat' split) <;> omega

set_option maxRecDepth 100000 in
set_option maxHeartbeats 2000000 in
theorem rPart_ok (a num den : Int) (up : Bool) (w : World) (h : okP a num den) :
    Calls Try.prog 13 #[.int .i64 a, .int .i64 num, .int .i64 den, .bool up] w fun e w' => e = .returned (.tuple #[.int .i64 (prt a num den up), .int .i64 0]) ∧ w = w' := by
  obtain ⟨⟨a1, a2⟩, ⟨n1, n2⟩, ⟨d1, d2⟩⟩ := h
  obtain ⟨m, rfl⟩ := Int.eq_ofNat_of_zero_le n1
  obtain ⟨d, rfl⟩ := Int.eq_ofNat_of_zero_le (show 0 ≤ den by omega)
  by_cases c : a < 0
  · obtain ⟨n, hn⟩ := Int.eq_ofNat_of_zero_le (show 0 ≤ -a by omega)
    obtain rfl : a = -(n : Int) := by omega
    clear hn
    rw [prt_neg n m d up (by omega), ← szp_bnd, ← bnd_neg]
    have P := fun w => wide_c n m d w (by omega) (by omega) (by omega) (by omega)
    have hq : min (n * m / d) 4611686018427387904 ≤ 4611686018427387904 := Nat.min_le_right _ _
    generalize min (n * m / d) 4611686018427387904 = q at *
    generalize decide (0 < n * m % d) = rs at *
    have PP := Lib.hid P
    clear P
    have p0 : decide ((0 : Int) < -(n : Int)) = false := by rw [decide_eq_false_iff_not]; omega
    cases rs <;> cases up
    all_goals
      simp only [Bool.false_and, Bool.true_and, Bool.not_true, Bool.not_false, one, if_true, Bool.false_eq_true, if_false, Int.add_zero]
      go_enter Try.func13, Try.ntmps13
      go_wp2_with fail
      refine (Is_yes _ _ (by omega) (by omega)).mono ?_
      rintro e w' ⟨rfl, rfl⟩
      go_wp2_with fail
      refine (PP.out _).mono ?_
      rintro e w1 ⟨rfl, rfl⟩
      go_wp2_with fail
      refine (Bound_c _ _).mono ?_
      rintro e w1 ⟨rfl, rfl⟩
      go_wp2_with fail
      go_ret2
      exact ⟨rfl, rfl⟩
  · obtain ⟨n, rfl⟩ := Int.eq_ofNat_of_zero_le (show 0 ≤ a by omega)
    rw [prt_pos n m d up, ← szp_bnd]
    have P := fun w => wide_c n m d w (by omega) (by omega) (by omega) (by omega)
    have hq : min (n * m / d) 4611686018427387904 ≤ 4611686018427387904 := Nat.min_le_right _ _
    have hz : n = 0 → decide (0 < n * m % d) = false := by
      rintro rfl
      simp
    generalize min (n * m / d) 4611686018427387904 = q at *
    generalize decide (0 < n * m % d) = rs at *
    have PP := Lib.hid P
    clear P
    rcases rs with _ | _
    · clear hz
      cases up
      all_goals
        simp only [Bool.false_and, one, Bool.false_eq_true, if_false, Int.add_zero]
        go_enter Try.func13, Try.ntmps13
        go_wp2_with fail
        refine (Is_yes _ _ (by omega) (by omega)).mono ?_
        rintro e w' ⟨rfl, rfl⟩
        go_wp2_with fail
        refine (PP.out _).mono ?_
        rintro e w1 ⟨rfl, rfl⟩
        go_wp2_with fail
        refine (Bound_c _ _).mono ?_
        rintro e w1 ⟨rfl, rfl⟩
        go_wp2_with fail
        go_ret2
        exact ⟨rfl, rfl⟩
    · have hp : 0 < n := by
        rcases Nat.eq_zero_or_pos n with h | h
        · exact absurd (hz h) (by decide)
        · exact h
      have p0 : decide (0 < n) = true := decide_eq_true hp
      clear hz
      cases up
      all_goals
        simp only [Bool.true_and, Bool.and_true, one, if_true, Bool.false_eq_true, if_false, Int.add_zero]
        go_enter Try.func13, Try.ntmps13
        go_wp2_with fail
        refine (Is_yes _ _ (by omega) (by omega)).mono ?_
        rintro e w' ⟨rfl, rfl⟩
        go_wp2_with fail
        refine (PP.out _).mono ?_
        rintro e w1 ⟨rfl, rfl⟩
        go_wp2_with fail
        refine (Bound_c _ _).mono ?_
        rintro e w1 ⟨rfl, rfl⟩
        go_wp2_with fail
        go_ret2
        exact ⟨rfl, rfl⟩
end Go.Proofs.Ytmalkdhbpomolaa.Fx
