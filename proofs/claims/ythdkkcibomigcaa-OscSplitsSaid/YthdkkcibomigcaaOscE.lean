/-
  The contracts of osc.Elapsed and sundialref02.Elapsed: what a count says of the time that went by.
  Conditions: the arguments are of their kinds.
-/
import Derived.Test.YthdkkcibomigcaaOscD
namespace Go.Proofs.Ythdkkcibomigcaa.Fx
open Go.RowKit

/-- LOW. -/
def lowN (d rho : Int) : Int := max (d - 1) 0 * 1000000 / (1000000 + rho)
/-- HIGH. -/
def highN (d rho : Int) : Int := if 0 < (d + 1) * 1000000 % (1000000 - rho) then (d + 1) * 1000000 / (1000000 - rho) + 1 else (d + 1) * 1000000 / (1000000 - rho)
/-- what Elapsed answers. -/
def elLo (d rho : Int) : Int := if 1099511627776 < d then 0 else lowN d rho
def elHi (d rho : Int) : Int := if 1099511627776 < d then 2305843009213693952 else highN d rho

theorem szp_small (x den : Nat) (up : Bool) (h : x / den < 2305843009213693952) : szp x den up = if up = true ∧ x % den ≠ 0 then x / den + 1 else x / den := by
  unfold szp; rw [if_neg (by omega)]

theorem low_bd {d rho : Int} (hr : 0 ≤ rho) : 0 ≤ lowN d rho ∧ lowN d rho ≤ max (d - 1) 0 := by
  unfold lowN
  refine ⟨Int.ediv_nonneg (by omega) (by omega), ?_⟩
  refine Int.ediv_le_of_le_mul (by omega) ?_
  exact Int.mul_le_mul_of_nonneg_left (by omega) (by omega)

theorem high_bd {d rho : Int} (hd : 0 ≤ d) (hr : 0 ≤ rho) (hr' : rho ≤ 1000) : d + 1 ≤ highN d rho ∧ highN d rho ≤ 2 * (d + 1) + 1 := by
  have a : (d + 1) * 1000000 / (1000000 - rho) ≤ 2 * (d + 1) := by
    refine Int.ediv_le_of_le_mul (by omega) ?_
    have := Int.mul_le_mul_of_nonneg_left (show (999000 : Int) ≤ 1000000 - rho by omega) (show 0 ≤ 2 * (d + 1) by omega)
    omega
  have b : d + 1 ≤ (d + 1) * 1000000 / (1000000 - rho) := by
    refine (Int.le_ediv_iff_mul_le (by omega)).2 ?_
    exact Int.mul_le_mul_of_nonneg_left (by omega) (by omega)
  unfold highN
  split <;> omega

theorem prt_low {d rho : Int} (hd : 0 ≤ d) (hd' : d ≤ 1099511627776) (hr : 0 ≤ rho) (hr' : rho ≤ 1000) : max (prt (d - 1) 1000000 (1000000 + rho) false) 0 = lowN d rho := by
  obtain ⟨R, rfl⟩ := Int.eq_ofNat_of_zero_le hr
  by_cases c : d = 0
  · subst c
    have e := prt_neg 1 1000000 (1000000 + R) false (by omega)
    have e1 : (0 : Int) - 1 = -((1 : Nat) : Int) := by omega
    have e2 : (1000000 : Int) + (R : Int) = ((1000000 + R : Nat) : Int) := by omega
    have e3 : (1000000 : Int) = ((1000000 : Nat) : Int) := by omega
    have e4 : prt (0 - 1) 1000000 (1000000 + (R : Int)) false = prt (-((1 : Nat) : Int)) ((1000000 : Nat) : Int) ((1000000 + R : Nat) : Int) false := by rw [e2, e1]; rfl
    rw [e4, e]
    have l := (low_bd (d := 0) (rho := (R : Int)) (by omega))
    omega
  · obtain ⟨D, hD⟩ := Int.eq_ofNat_of_zero_le (show 0 ≤ d - 1 by omega)
    have e := prt_pos D 1000000 (1000000 + R) false
    have e2 : (1000000 : Int) + (R : Int) = ((1000000 + R : Nat) : Int) := by omega
    have q : D * 1000000 / (1000000 + R) ≤ D := by
      refine Nat.div_le_of_le_mul ?_
      rw [Nat.mul_comm]
      exact Nat.mul_le_mul_right _ (by omega)
    rw [szp_down _ _ (by omega)] at e
    have e4 : prt (d - 1) 1000000 (1000000 + (R : Int)) false = ((D * 1000000 / (1000000 + R) : Nat) : Int) := by rw [hD, e2]; exact e
    rw [e4]
    unfold lowN
    have e5 : max (d - 1) 0 = (D : Int) := by omega
    rw [e5, e2]
    have e6 : (D : Int) * 1000000 / ((1000000 + R : Nat) : Int) = ((D * 1000000 / (1000000 + R) : Nat) : Int) := by
      rw [Int.natCast_ediv, Int.natCast_mul]; rfl
    rw [e6]
    generalize D * 1000000 / (1000000 + R) = a
    omega

theorem prt_high {d rho : Int} (hd : 0 ≤ d) (hd' : d ≤ 1099511627776) (hr : 0 ≤ rho) (hr' : rho ≤ 1000) : prt (d + 1) 1000000 (1000000 - rho) true = highN d rho := by
  obtain ⟨D, hD⟩ := Int.eq_ofNat_of_zero_le (show 0 ≤ d + 1 by omega)
  obtain ⟨M, hM⟩ := Int.eq_ofNat_of_zero_le (show 0 ≤ 1000000 - rho by omega)
  have e := prt_pos D 1000000 M true
  have q : D * 1000000 / M ≤ 2 * D := by
    refine Nat.div_le_of_le_mul ?_
    have := Nat.mul_le_mul_right (2 * D) (show 999000 ≤ M by omega)
    omega
  rw [szp_small _ _ _ (by omega)] at e
  have e4 : prt (d + 1) 1000000 (1000000 - rho) true = ((if true = true ∧ D * 1000000 % M ≠ 0 then D * 1000000 / M + 1 else D * 1000000 / M : Nat) : Int) := by rw [hD, hM]; exact e
  rw [e4]
  unfold highN
  rw [hD, hM]
  have f1 : (D : Int) * 1000000 / (M : Int) = ((D * 1000000 / M : Nat) : Int) := by rw [Int.natCast_ediv, Int.natCast_mul]; rfl
  have f2 : (D : Int) * 1000000 % (M : Int) = ((D * 1000000 % M : Nat) : Int) := by rw [Int.natCast_emod, Int.natCast_mul]; rfl
  rw [f1, f2]
  generalize D * 1000000 / M = a
  generalize D * 1000000 % M = b
  by_cases c : b = 0
  · rw [if_neg (fun h => h.2 c), if_neg (by omega)]
  · rw [if_pos ⟨rfl, c⟩, if_pos (by omega)]; omega

theorem ret_three {a b a' b' : Int} {v : Value} (h : a = a') (h2 : b = b') : Ending.returned (.tuple #[.int .i64 a, .int .i64 b, v]) = .returned (.tuple #[.int .i64 a', .int .i64 b', v]) := by rw [h, h2]

set_option maxRecDepth 100000 in
set_option maxHeartbeats 1000000 in
theorem Elapsed_ok (d rho : Int) (w : World) (hd : 0 ≤ d) (hr : 0 ≤ rho) (hr' : rho ≤ 1000) :
    Calls Try.prog 12 #[.int .i64 d, .int .i64 rho] w fun e w' => e = .returned (.tuple #[.int .i64 (elLo d rho), .int .i64 (elHi d rho), .int .i64 0]) ∧ Below w.heap.size w w' := by
  have e1 : decide (d < 0) = false := by rw [decide_eq_false_iff_not]; omega
  have e2 : decide (rho < 0) = false := by rw [decide_eq_false_iff_not]; omega
  have e3 : decide (1000 < rho) = false := by rw [decide_eq_false_iff_not]; omega
  by_cases c : 1099511627776 < d
  · have e4 : decide (1099511627776 < d) = true := decide_eq_true c
    have V : Hid (elLo d rho = 0 ∧ elHi d rho = 2305843009213693952) := by show _ ∧ _; unfold elLo elHi; rw [if_pos c, if_pos c]; exact ⟨rfl, rfl⟩
    go_enter Try.func12, Try.ntmps12
    go_wp2_with fail
    rw [V.out.1, V.out.2]
    go_ret3
    exact ⟨rfl, brefl w⟩
  · have e4 : decide (1099511627776 < d) = false := decide_eq_false c
    have pl := prt_low hd (by omega) hr hr'
    have ph := prt_high hd (by omega) hr hr'
    have bl := prt_range (d - 1) 1000000 (1000000 + rho) false
    have V : Hid (elLo d rho = max (prt (d - 1) 1000000 (1000000 + rho) false) 0 ∧ elHi d rho = prt (d + 1) 1000000 (1000000 - rho) true) := by show _ ∧ _; unfold elLo elHi; rw [if_neg c, if_neg c, pl, ph]; exact ⟨rfl, rfl⟩
    clear pl ph
    go_enter Try.func12, Try.ntmps12
    go_wp2_with fail
    refine (Part_ok _ _ _ _ _ (by unfold okP; omega)).mono ?_
    rintro e w1 ⟨rfl, n1, rfl⟩
    go_wp2_with fail
    refine (Part_ok _ _ _ _ _ (by unfold okP; omega)).mono ?_
    rintro e w1 ⟨rfl, n2, rfl⟩
    go_wp2_with fail
    rw [V.out.1, V.out.2]
    go_ret3
    exact ⟨rfl, bdrew (brefl w) (n1 + n2)⟩

set_option maxRecDepth 100000 in
theorem Elapsed_bad (d rho : Int) (w : World) (h : ¬ (0 ≤ d ∧ 0 ≤ rho ∧ rho ≤ 1000)) :
    Calls Try.prog 12 #[.int .i64 d, .int .i64 rho] w fun e w' => e = .returned (.tuple #[.int .i64 0, .int .i64 0, .int .i64 2]) ∧ Below w.heap.size w w' := by
  by_cases c1 : d < 0
  · have e1 : decide (d < 0) = true := decide_eq_true c1
    clear h
    go_enter Try.func12, Try.ntmps12
    go_wp2_with fail
    go_ret3
    exact ⟨rfl, brefl w⟩
  · have e1 : decide (d < 0) = false := decide_eq_false c1
    by_cases c2 : rho < 0
    · have e2 : decide (rho < 0) = true := decide_eq_true c2
      clear h
      go_enter Try.func12, Try.ntmps12
      go_wp2_with fail
      go_ret3
      exact ⟨rfl, brefl w⟩
    · have e2 : decide (rho < 0) = false := decide_eq_false c2
      have c3 : 1000 < rho := by omega
      have e3 : decide (1000 < rho) = true := decide_eq_true c3
      clear h
      go_enter Try.func12, Try.ntmps12
      go_wp2_with fail
      go_ret3
      exact ⟨rfl, brefl w⟩

set_option maxRecDepth 100000 in
theorem rElapsed_bad (d rho : Int) (w : World) (h : ¬ (0 ≤ d ∧ 0 ≤ rho ∧ rho ≤ 1000)) :
    Calls Try.prog 13 #[.int .i64 d, .int .i64 rho] w fun e w' => e = .returned (.tuple #[.int .i64 0, .int .i64 0, .int .i64 2]) ∧ Below w.heap.size w w' := by
  by_cases c1 : d < 0
  · have e1 : decide (d < 0) = true := decide_eq_true c1
    clear h
    go_enter Try.func13, Try.ntmps13
    go_wp2_with fail
    go_ret3
    exact ⟨rfl, brefl w⟩
  · have e1 : decide (d < 0) = false := decide_eq_false c1
    by_cases c2 : rho < 0
    · have e2 : decide (rho < 0) = true := decide_eq_true c2
      clear h
      go_enter Try.func13, Try.ntmps13
      go_wp2_with fail
      go_ret3
      exact ⟨rfl, brefl w⟩
    · have e2 : decide (rho < 0) = false := decide_eq_false c2
      have c3 : 1000 < rho := by omega
      have e3 : decide (1000 < rho) = true := decide_eq_true c3
      clear h
      go_enter Try.func13, Try.ntmps13
      go_wp2_with fail
      go_ret3
      exact ⟨rfl, brefl w⟩

set_option maxRecDepth 100000 in
set_option maxHeartbeats 1000000 in
theorem rElapsed_ok (d rho : Int) (w : World) (hd : 0 ≤ d) (hr : 0 ≤ rho) (hr' : rho ≤ 1000) :
    Calls Try.prog 13 #[.int .i64 d, .int .i64 rho] w fun e w' => e = .returned (.tuple #[.int .i64 (elLo d rho), .int .i64 (elHi d rho), .int .i64 0]) ∧ Below w.heap.size w w' := by
  have e1 : decide (d < 0) = false := by rw [decide_eq_false_iff_not]; omega
  have e2 : decide (rho < 0) = false := by rw [decide_eq_false_iff_not]; omega
  have e3 : decide (1000 < rho) = false := by rw [decide_eq_false_iff_not]; omega
  by_cases c : 1099511627776 < d
  · have e4 : decide (1099511627776 < d) = true := decide_eq_true c
    have V : Hid (elLo d rho = 0 ∧ elHi d rho = 2305843009213693952) := by show _ ∧ _; unfold elLo elHi; rw [if_pos c, if_pos c]; exact ⟨rfl, rfl⟩
    go_enter Try.func13, Try.ntmps13
    go_wp2_with fail
    rw [V.out.1, V.out.2]
    go_ret3
    exact ⟨rfl, brefl w⟩
  · have e4 : decide (1099511627776 < d) = false := decide_eq_false c
    have z1 : (1000000 + rho == 0) = false := by simp; omega
    have z2 : (1000000 - rho == 0) = false := by simp; omega
    have bl := low_bd (d := d) hr
    have bh := high_bd hd hr hr'
    have vl : elLo d rho = lowN d rho := by unfold elLo; rw [if_neg c]
    have vh : elHi d rho = highN d rho := by unfold elHi; rw [if_neg c]
    rw [vl, vh]
    unfold lowN at *
    unfold highN at *
    clear vl vh
    obtain ⟨u, eu⟩ : ∃ u, max (d - 1) 0 = u := ⟨_, rfl⟩
    have u1 : 0 ≤ u ∧ u ≤ 1099511627776 := by omega
    obtain ⟨u1, u2⟩ := u1
    rw [eu] at bl ⊢
    obtain ⟨q, eq⟩ : ∃ q, u * 1000000 / (1000000 + rho) = q := ⟨_, rfl⟩
    rw [eq] at bl ⊢
    obtain ⟨p, ep⟩ : ∃ p, (d + 1) * 1000000 / (1000000 - rho) = p := ⟨_, rfl⟩
    have hrm := Int.emod_nonneg ((d + 1) * 1000000) (show 1000000 - rho ≠ 0 by omega)
    obtain ⟨r, er⟩ : ∃ r, (d + 1) * 1000000 % (1000000 - rho) = r := ⟨_, rfl⟩
    rw [ep, er] at bh ⊢
    rw [er] at hrm
    have p1 : -1099511627776 ≤ p ∧ p ≤ 3298534883328 := by
      obtain ⟨b1, b2⟩ := bh
      revert b1 b2; split <;> intros <;> omega
    obtain ⟨p1, p2⟩ := p1
    obtain ⟨q1, q2⟩ := bl
    clear bh
    by_cases c3 : 0 < r
    · have e5 : decide (0 < r) = true := decide_eq_true c3
      rw [if_pos c3]
      go_enter Try.func13, Try.ntmps13
      go_wp2_with fail
      go_ret3
      exact ⟨rfl, brefl w⟩
    · have e5 : decide (0 < r) = false := decide_eq_false c3
      rw [if_neg c3]
      go_enter Try.func13, Try.ntmps13
      go_wp2_with fail
      go_ret3
      exact ⟨rfl, brefl w⟩
end Go.Proofs.Ythdkkcibomigcaa.Fx
