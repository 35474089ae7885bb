/-
  Words of 32 bits: what the bitwise operators make of them, in numbers and in bits; or of what does not overlap is a sum; and the contracts of sundialref04.left, right and mdStep.
  Conditions: the arguments are of their kinds.
-/
import Derived.Test.YtenlbjnoiamfiaaDoorProg
import Derived.WalkKit
import Derived.WalkLawsBesides
import Derived.Lib.Hide
import Derived.BigQuiet
namespace Go.Proofs.YtenlbjnoiamfiaaDoor.Hs
open Go.RowKit
set_option linter.unusedVariables false
set_option linter.unusedSimpArgs false

theorem wrap32 (n : Nat) (h : n < 4294967296) : IntKind.u32.wrap (n : Int) = n := by
  simp only [IntKind.wrap, IntKind.bits, IntKind.signed]
  simp
  omega
theorem of32 (a : Nat) (h : a < 4294967296) : (BitVec.ofInt 32 (a : Int)).toNat = a := by
  rw [BitVec.toNat_ofInt]
  simp
  omega
theorem or_nat (a b : Nat) (ha : a < 4294967296) (hb : b < 4294967296) : bits BinOp.or IntKind.u32 (a : Int) (b : Int) = ((a ||| b : Nat) : Int) := by
  have h : a ||| b < 4294967296 := Nat.or_lt_two_pow (n := 32) ha hb
  show IntKind.u32.wrap (((BitVec.ofInt 32 (a : Int)) ||| (BitVec.ofInt 32 (b : Int))).toNat : Int) = _
  rw [BitVec.toNat_or, of32 a ha, of32 b hb, wrap32 _ h]
theorem and_nat (a b : Nat) (ha : a < 4294967296) (hb : b < 4294967296) : bits BinOp.and IntKind.u32 (a : Int) (b : Int) = ((a &&& b : Nat) : Int) := by
  have h : a &&& b < 4294967296 := Nat.lt_of_le_of_lt Nat.and_le_left ha
  show IntKind.u32.wrap (((BitVec.ofInt 32 (a : Int)) &&& (BitVec.ofInt 32 (b : Int))).toNat : Int) = _
  rw [BitVec.toNat_and, of32 a ha, of32 b hb, wrap32 _ h]
theorem xor_nat (a b : Nat) (ha : a < 4294967296) (hb : b < 4294967296) : bits BinOp.xor IntKind.u32 (a : Int) (b : Int) = ((a ^^^ b : Nat) : Int) := by
  have h : a ^^^ b < 4294967296 := Nat.xor_lt_two_pow (n := 32) ha hb
  show IntKind.u32.wrap (((BitVec.ofInt 32 (a : Int)) ^^^ (BitVec.ofInt 32 (b : Int))).toNat : Int) = _
  rw [BitVec.toNat_xor, of32 a ha, of32 b hb, wrap32 _ h]
theorem max32 : IntKind.u32.max = ((4294967295 : Nat) : Int) := by decide
/-- a multiple of 2^k, or what is less than 2^k: their sum. -/
theorem or_add (k q r : Nat) (h : r < 2 ^ k) (hs : 2 ^ k * q + r < 4294967296) : bits BinOp.or IntKind.u32 ((2 ^ k * q : Nat) : Int) (r : Int) = ((2 ^ k * q + r : Nat) : Int) := by
  rw [or_nat _ _ (by omega) (by omega), Nat.two_pow_add_eq_or_of_lt h]
theorem or_add' (k q r : Nat) (h : r < 2 ^ k) (hs : 2 ^ k * q + r < 4294967296) : bits BinOp.or IntKind.u32 (r : Int) ((2 ^ k * q : Nat) : Int) = ((2 ^ k * q + r : Nat) : Int) := by
  rw [or_nat _ _ (by omega) (by omega), Nat.or_comm, Nat.two_pow_add_eq_or_of_lt h]

/-- a word. -/
def isW (x : Int) : Prop := 0 ≤ x ∧ x < 4294967296
theorem isW.nat {x : Int} (h : isW x) : ∃ n : Nat, n < 4294967296 ∧ x = n := ⟨x.toNat, by have := h.1; have := h.2; omega, by have := h.1; omega⟩
/-- rotated to the left by n, from 1 to 31. -/
def rol (x n : Nat) : Nat := x * 2 ^ n % 4294967296 + x / 2 ^ (32 - n)
theorem rol_or (x n : Nat) (hx : x < 4294967296) (h1 : 1 ≤ n) (h2 : n ≤ 31) :
    bits BinOp.or IntKind.u32 ((x * 2 ^ n % 4294967296 : Nat) : Int) ((x / 2 ^ (32 - n) : Nat) : Int) = (rol x n : Int) ∧ rol x n < 4294967296 := by
  have e : (4294967296 : Nat) = 2 ^ n * 2 ^ (32 - n) := by rw [← Nat.pow_add, show n + (32 - n) = 32 from by omega]
  have m : x * 2 ^ n % 4294967296 = 2 ^ n * (x % 2 ^ (32 - n)) := by rw [e, Nat.mul_comm x, Nat.mul_mod_mul_left]
  have r : x / 2 ^ (32 - n) < 2 ^ n := Nat.div_lt_of_lt_mul (by rw [Nat.mul_comm, ← e]; exact hx)
  have q : x % 2 ^ (32 - n) < 2 ^ (32 - n) := Nat.mod_lt _ (Nat.pow_pos (by omega))
  have s : 2 ^ n * (x % 2 ^ (32 - n)) + x / 2 ^ (32 - n) < 4294967296 := by
    have : 2 ^ n * (x % 2 ^ (32 - n) + 1) ≤ 2 ^ n * 2 ^ (32 - n) := Nat.mul_le_mul_left _ q
    rw [← e, Nat.mul_add] at this
    omega
  unfold rol
  rw [m]
  exact ⟨or_add n _ _ r s, s⟩
end Go.Proofs.YtenlbjnoiamfiaaDoor.Hs
