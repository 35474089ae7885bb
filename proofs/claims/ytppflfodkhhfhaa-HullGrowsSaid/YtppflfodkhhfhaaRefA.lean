/-
  Contracts of the document's answer for layer 1 (sundialref01): wide, Part, Sum, Stamp, Short, Long, for every argument.
  Conditions: wide: a below 2^62, num at most 2^31, den from 1 to 2^31; the others: none but that the arguments are of their kinds.
-/
import Derived.Test.YtppflfodkhhfhaaFxS
namespace Go.Proofs.Ytppflfodkhhfhaa.Fx
open Go.RowKit

theorem wide_step (A num den b C : Nat) (hd : 0 < den) :
    min (min (2 * min (A * num / den) C) C + (2 * (A * num % den) + b * num) / den) C = min ((2 * A + b) * num / den) C ∧
    (2 * (A * num % den) + b * num) % den = (2 * A + b) * num % den := by
  have e : (2 * A + b) * num = den * (2 * (A * num / den)) + (2 * (A * num % den) + b * num) := by
    have h := Nat.div_add_mod (A * num) den
    have h2 : (2 * A + b) * num = 2 * (A * num) + b * num := by rw [Nat.add_mul, Nat.mul_assoc]
    have h3 : den * (2 * (A * num / den)) = 2 * (den * (A * num / den)) := Nat.mul_left_comm _ _ _
    rw [h2, h3]
    omega
  rw [e, Nat.mul_add_div hd, Nat.mul_add_mod]
  refine ⟨?_, rfl⟩
  generalize A * num / den = Q
  generalize (2 * (A * num % den) + b * num) / den = t
  omega

theorem half_bit (a j : Nat) : a / 2 ^ j = 2 * (a / 2 ^ (j + 1)) + a / 2 ^ j % 2 := by
  rw [Nat.pow_succ, ← Nat.div_div_eq_div_mul]
  omega

theorem quo_small (x den : Nat) (h : x < 8589934592) : x / den < 8589934592 := Nat.lt_of_le_of_lt (Nat.div_le_self _ _) h

theorem val_u64 {a b : Int} (h : a = b) : Value.int IntKind.u64 a = Value.int IntKind.u64 b := by rw [h]

theorem Is_yes (t : Int) (w : World) (h1 : -2305843009213693952 ≤ t) (h2 : t ≤ 2305843009213693952) : Calls Try.prog 22 #[.int .i64 t] w fun e w' => e = .returned (.bool true) ∧ w = w' := by
  have h := Is_c t w
  rw [isT_true ⟨h1, h2⟩] at h
  exact h
theorem Is_no (t : Int) (w : World) (h1 : t < -2305843009213693952 ∨ 2305843009213693952 < t) : Calls Try.prog 22 #[.int .i64 t] w fun e w' => e = .returned (.bool false) ∧ w = w' := by
  have h := Is_c t w
  rw [isT_false (by omega)] at h
  exact h

/-- the rest, if it counts. -/
def one (b : Bool) : Int := if b = true then 1 else 0

theorem one_true : one true = 1 := rfl
theorem one_false : one false = 0 := rfl

theorem bnd_cap (Q : Nat) (k : Int) (r : Nat) (h0 : 0 ≤ k) (h1 : k ≤ 1) (hr : (r : Int) = (Q : Int) + k) : bnd (((min Q 4611686018427387904 : Nat) : Int) + k) = ((if 2305843009213693952 ≤ Q then 2305843009213693952 else r : Nat) : Int) := by
  unfold bnd
  by_cases c : 2305843009213693952 ≤ Q
  · rw [if_pos c]
    (repeat' split) <;> omega
  · rw [if_neg c]
    (repeat' split) <;> omega

theorem szp_bnd (x d : Nat) (up : Bool) : bnd (((min (x / d) 4611686018427387904 : Nat) : Int) + one (decide (0 < x % d) && up)) = ((szp x d up : Nat) : Int) := by
  unfold szp
  generalize x / d = Q
  generalize x % d = R
  by_cases c : up = true ∧ R ≠ 0
  · have e : (decide (0 < R) && up) = true := by rw [c.1, Bool.and_true]; exact decide_eq_true (by omega)
    rw [e, one_true, if_pos c]
    exact bnd_cap Q 1 (Q + 1) (by omega) (by omega) (by omega)
  · have e : (decide (0 < R) && up) = false := by
      cases up
      · exact Bool.and_false _
      · rw [Bool.and_true, decide_eq_false_iff_not]
        intro h
        exact c ⟨rfl, by omega⟩
    rw [e, one_false, if_neg c]
    exact bnd_cap Q 0 Q (by omega) (by omega) (by omega)

theorem bnd_neg (t : Int) : bnd (-t) = -bnd t := by
  unfold bnd
  (repeat' split) <;> omega

end Go.Proofs.Ytppflfodkhhfhaa.Fx
