/-
  Contracts of fix.sizeOfPart and fix.Part: what a fraction of a time is, for every argument.
  Conditions: sizeOfPart: size at most Far, num at most 2^31, den from 1 to 2^31; Part: none but that the arguments are of their kinds.
-/
import Derived.Test.YtppflfodkhhfhaaFxA
import Derived.Test.YtppflfodkhhfhaaDivW
namespace Go.Proofs.Ytppflfodkhhfhaa.Fx
open Go.RowKit

theorem isTime_yes (t : Int) (w : World) (h1 : -2305843009213693952 ≤ t) (h2 : t ≤ 2305843009213693952) : Calls Try.prog 27 #[.int .i64 t] w fun e w' => e = .returned (.bool true) ∧ w = w' := by
  have h := isTime_c t w
  rw [isT_true ⟨h1, h2⟩] at h
  exact h
theorem isTime_no (t : Int) (w : World) (h1 : t < -2305843009213693952 ∨ 2305843009213693952 < t) : Calls Try.prog 27 #[.int .i64 t] w fun e w' => e = .returned (.bool false) ∧ w = w' := by
  have h := isTime_c t w
  rw [isT_false (by omega)] at h
  exact h

/-- x / den, rounded, at most Far. -/
def szp (x den : Nat) (up : Bool) : Nat :=
  if 2305843009213693952 ≤ x / den then 2305843009213693952 else if up = true ∧ x % den ≠ 0 then x / den + 1 else x / den

theorem szp_le (x den : Nat) (up : Bool) : szp x den up ≤ 2305843009213693952 := by
  unfold szp
  (repeat' split) <;> omega

theorem words_of (x : Nat) : x / 18446744073709551616 * 18446744073709551616 + x % 18446744073709551616 = x := by
  rw [Nat.div_add_mod']

theorem big_quo (x den : Nat) (hd : 0 < den) (h : den ≤ x / 18446744073709551616) : 2305843009213693952 ≤ x / den := by
  rw [Nat.le_div_iff_mul_le hd]
  omega

theorem szp_far (x den : Nat) (up : Bool) (h : 2305843009213693952 ≤ x / den) : szp x den up = 2305843009213693952 := by
  unfold szp; rw [if_pos h]
theorem szp_up (x den : Nat) (h : x / den < 2305843009213693952) (h2 : x % den ≠ 0) : szp x den true = x / den + 1 := by
  unfold szp; rw [if_neg (by omega), if_pos ⟨rfl, h2⟩]
theorem szp_even (x den : Nat) (up : Bool) (h : x / den < 2305843009213693952) (h2 : x % den = 0) : szp x den up = x / den := by
  unfold szp; rw [if_neg (by omega), if_neg (fun h => h.2 h2)]
theorem szp_down (x den : Nat) (h : x / den < 2305843009213693952) : szp x den false = x / den := by
  unfold szp; rw [if_neg (by omega), if_neg (by simp)]

theorem far_yes (q : Nat) (h : 2305843009213693952 ≤ q) : decide ((2305843009213693952 : Int) ≤ (q : Int)) = true := by rw [decide_eq_true_iff]; omega
theorem far_no (q : Nat) (h : ¬ 2305843009213693952 ≤ q) : decide ((2305843009213693952 : Int) ≤ (q : Int)) = false := by rw [decide_eq_false_iff_not]; omega

/-- a * num / den, rounded, within bounds. -/
def prt (a num den : Int) (up : Bool) : Int :=
  if a < 0 then -((szp ((-a).toNat * num.toNat) den.toNat (!up) : Nat) : Int) else ((szp (a.toNat * num.toNat) den.toNat up : Nat) : Int)

def okP (a num den : Int) : Prop := (-2305843009213693952 ≤ a ∧ a ≤ 2305843009213693952) ∧ (0 ≤ num ∧ num ≤ 2147483648) ∧ (1 ≤ den ∧ den ≤ 2147483648)

theorem prt_pos (n m d : Nat) (up : Bool) : prt (n : Int) (m : Int) (d : Int) up = ((szp (n * m) d up : Nat) : Int) := by
  unfold prt; rw [if_neg (by omega)]; simp only [Int.toNat_natCast]
theorem prt_neg (n m d : Nat) (up : Bool) (h : 0 < n) : prt (-(n : Int)) (m : Int) (d : Int) up = -((szp (n * m) d (!up) : Nat) : Int) := by
  unfold prt; rw [if_pos (by omega), Int.neg_neg]; simp only [Int.toNat_natCast]

theorem prt_range (a num den : Int) (up : Bool) : -2305843009213693952 ≤ prt a num den up ∧ prt a num den up ≤ 2305843009213693952 := by
  unfold prt
  have h1 := szp_le ((-a).toNat * num.toNat) den.toNat (!up)
  have h2 := szp_le (a.toNat * num.toNat) den.toNat up
  split <;> omega

theorem ret_pair {k : IntKind} {a b : Int} {v : Value} (h : a = b) : Ending.returned (.tuple #[.int k a, v]) = .returned (.tuple #[.int k b, v]) := by rw [h]

end Go.Proofs.Ytppflfodkhhfhaa.Fx
