/-
  Words of 32 bits: what the bitwise operators make of them, in numbers and in bits; or of what does not overlap is a sum; and the contracts of sundialref04.left, right and mdStep.
  Conditions: the arguments are of their kinds.
  The contracts of sundialref04.left, right and mdStep.
  Conditions: the arguments are of their kinds; rotations go from 1 to 31.
  Bytes that lie in memory, and the contract of sundialref04.word: four bytes from a place on, as a word.
  Conditions: the four bytes are there.
  A byte appended to a slice of the call's own; the contract of sundialref04.pad: bytes padded to blocks.
  Conditions: no more than 2^47 - 4096 bytes.
  The contract of sundialref04.pad: bytes padded to blocks, in a slice of the call's own.
  Conditions: no more than 2^47 - 4096 bytes.
-/
import Derived.Test.YtkjolaoajbdomaaGreatDoorProg
import Derived.WalkKit
import Derived.WalkLawsBesides
import Derived.Lib.Hide
import Derived.BigQuiet
import Derived.Maps.AppendAt
import Derived.Laws.OwnMore
import Derived.OwnWalk
import Derived.Deep.Upon
import Derived.KernelRfl
namespace Go.Proofs.YtkjolaoajbdomaaGreatDoor.Hs
open Go.RowKit
set_option linter.unusedVariables false
set_option linter.unusedSimpArgs false

theorem wrap32 (n : Nat) (h : n < 4294967296) : IntKind.u32.wrap (n : Int) = n := by
  simp only [IntKind.wrap, IntKind.bits, IntKind.signed]
  simp
  omega
theorem of32 (a : Nat) (h : a < 4294967296) : (BitVec.ofInt 32 (a : Int)).toNat = a := by
  rw [BitVec.toNat_ofInt]
  simp
  omega
theorem or_nat (a b : Nat) (ha : a < 4294967296) (hb : b < 4294967296) : bits BinOp.or IntKind.u32 (a : Int) (b : Int) = ((a ||| b : Nat) : Int) := by
  have h : a ||| b < 4294967296 := Nat.or_lt_two_pow (n := 32) ha hb
  show IntKind.u32.wrap (((BitVec.ofInt 32 (a : Int)) ||| (BitVec.ofInt 32 (b : Int))).toNat : Int) = _
  rw [BitVec.toNat_or, of32 a ha, of32 b hb, wrap32 _ h]
theorem and_nat (a b : Nat) (ha : a < 4294967296) (hb : b < 4294967296) : bits BinOp.and IntKind.u32 (a : Int) (b : Int) = ((a &&& b : Nat) : Int) := by
  have h : a &&& b < 4294967296 := Nat.lt_of_le_of_lt Nat.and_le_left ha
  show IntKind.u32.wrap (((BitVec.ofInt 32 (a : Int)) &&& (BitVec.ofInt 32 (b : Int))).toNat : Int) = _
  rw [BitVec.toNat_and, of32 a ha, of32 b hb, wrap32 _ h]
theorem xor_nat (a b : Nat) (ha : a < 4294967296) (hb : b < 4294967296) : bits BinOp.xor IntKind.u32 (a : Int) (b : Int) = ((a ^^^ b : Nat) : Int) := by
  have h : a ^^^ b < 4294967296 := Nat.xor_lt_two_pow (n := 32) ha hb
  show IntKind.u32.wrap (((BitVec.ofInt 32 (a : Int)) ^^^ (BitVec.ofInt 32 (b : Int))).toNat : Int) = _
  rw [BitVec.toNat_xor, of32 a ha, of32 b hb, wrap32 _ h]
theorem max32 : IntKind.u32.max = ((4294967295 : Nat) : Int) := by decide
/-- a multiple of 2^k, or what is less than 2^k: their sum. -/
theorem or_add (k q r : Nat) (h : r < 2 ^ k) (hs : 2 ^ k * q + r < 4294967296) : bits BinOp.or IntKind.u32 ((2 ^ k * q : Nat) : Int) (r : Int) = ((2 ^ k * q + r : Nat) : Int) := by
  rw [or_nat _ _ (by omega) (by omega), Nat.two_pow_add_eq_or_of_lt h]
theorem or_add' (k q r : Nat) (h : r < 2 ^ k) (hs : 2 ^ k * q + r < 4294967296) : bits BinOp.or IntKind.u32 (r : Int) ((2 ^ k * q : Nat) : Int) = ((2 ^ k * q + r : Nat) : Int) := by
  rw [or_nat _ _ (by omega) (by omega), Nat.or_comm, Nat.two_pow_add_eq_or_of_lt h]

/-- a word. -/
def isW (x : Int) : Prop := 0 ≤ x ∧ x < 4294967296
theorem isW.nat {x : Int} (h : isW x) : ∃ n : Nat, n < 4294967296 ∧ x = n := ⟨x.toNat, by have := h.1; have := h.2; omega, by have := h.1; omega⟩
/-- rotated to the left by n, from 1 to 31. -/
def rol (x n : Nat) : Nat := x * 2 ^ n % 4294967296 + x / 2 ^ (32 - n)
theorem rol_or (x n : Nat) (hx : x < 4294967296) (h1 : 1 ≤ n) (h2 : n ≤ 31) :
    bits BinOp.or IntKind.u32 ((x * 2 ^ n % 4294967296 : Nat) : Int) ((x / 2 ^ (32 - n) : Nat) : Int) = (rol x n : Int) ∧ rol x n < 4294967296 := by
  have e : (4294967296 : Nat) = 2 ^ n * 2 ^ (32 - n) := by rw [← Nat.pow_add, show n + (32 - n) = 32 from by omega]
  have m : x * 2 ^ n % 4294967296 = 2 ^ n * (x % 2 ^ (32 - n)) := by rw [e, Nat.mul_comm x, Nat.mul_mod_mul_left]
  have r : x / 2 ^ (32 - n) < 2 ^ n := Nat.div_lt_of_lt_mul (by rw [Nat.mul_comm, ← e]; exact hx)
  have q : x % 2 ^ (32 - n) < 2 ^ (32 - n) := Nat.mod_lt _ (Nat.pow_pos (by omega))
  have s : 2 ^ n * (x % 2 ^ (32 - n)) + x / 2 ^ (32 - n) < 4294967296 := by
    have : 2 ^ n * (x % 2 ^ (32 - n) + 1) ≤ 2 ^ n * 2 ^ (32 - n) := Nat.mul_le_mul_left _ q
    rw [← e, Nat.mul_add] at this
    omega
  unfold rol
  rw [m]
  exact ⟨or_add n _ _ r s, s⟩
end Go.Proofs.YtkjolaoajbdomaaGreatDoor.Hs
namespace Go.Proofs.YtkjolaoajbdomaaGreatDoor.Hs
open Go.RowKit
set_option linter.unusedVariables false
set_option linter.unusedSimpArgs false

theorem or_comm32 (a b : Nat) (ha : a < 4294967296) (hb : b < 4294967296) : bits BinOp.or IntKind.u32 (a : Int) (b : Int) = bits BinOp.or IntKind.u32 (b : Int) (a : Int) := by
  rw [or_nat a b ha hb, or_nat b a hb ha, Nat.or_comm]
theorem ret_w {a b : Int} (h : a = b) : Ending.returned (.int .u32 a) = .returned (.int .u32 b) := by rw [h]

theorem rleft_c (x n : Nat) (w : World) (hx : x < 4294967296) (h1 : 1 ≤ n) (h2 : n ≤ 31) :
    Calls Tryz.prog 62 #[.int .u32 x, .int .i64 n] w fun e w' => e = .returned (.int .u32 (rol x n)) ∧ w' = w := by
  have R := Lib.hid (rol_or x n hx h1 h2)
  have k1 : (0 : Int) ≤ (n : Int) := by omega
  have k2 : (n : Int) ≤ 31 := by omega
  have k3 : (0 : Int) ≤ (x : Int) := by omega
  have k4 : (x : Int) < 4294967296 := by omega
  go_enter Tryz.func62, Tryz.ntmps62
  go_wp2
  go_ret
  refine ⟨ret_w ?_, rfl⟩
  rw [← R.out.1]
  simp
/-- rotated to the right. -/
def ror (x n : Nat) : Nat := rol x (32 - n)
/-- MD5's F and g. -/
def mF (i b c d : Nat) : Nat := if i < 16 then (b &&& c) ||| ((4294967295 ^^^ b) &&& d) else if i < 32 then (d &&& b) ||| ((4294967295 ^^^ d) &&& c) else if i < 48 then b ^^^ c ^^^ d else c ^^^ (b ||| (4294967295 ^^^ d))
def mG (i : Nat) : Nat := if i < 16 then i else if i < 32 then (5 * i + 1) % 16 else if i < 48 then (3 * i + 5) % 16 else 7 * i % 16
theorem lt_and {a b : Nat} (h : a < 4294967296) : a &&& b < 4294967296 := Nat.lt_of_le_of_lt Nat.and_le_left h
theorem lt_or {a b : Nat} (h : a < 4294967296) (h' : b < 4294967296) : a ||| b < 4294967296 := Nat.or_lt_two_pow (n := 32) h h'
theorem lt_xor {a b : Nat} (h : a < 4294967296) (h' : b < 4294967296) : a ^^^ b < 4294967296 := Nat.xor_lt_two_pow (n := 32) h h'
theorem mF_lt (i : Nat) {b c d : Nat} (hb : b < 4294967296) (hc : c < 4294967296) (hd : d < 4294967296) : mF i b c d < 4294967296 := by
  have M : 4294967295 < 4294967296 := by omega
  unfold mF
  split
  · exact lt_or (lt_and hb) (lt_and (lt_xor M hb))
  · split
    · exact lt_or (lt_and hd) (lt_and (lt_xor M hd))
    · split
      · exact lt_xor (lt_xor hb hc) hd
      · exact lt_xor hc (lt_or hb (lt_xor M hd))
theorem mG_lt (i : Nat) : mG i < 16 := by unfold mG; (repeat' split) <;> omega

theorem step_eqs (b c d : Nat) (hb : b < 4294967296) (hc : c < 4294967296) (hd : d < 4294967296) :
    bits BinOp.or IntKind.u32 (bits BinOp.and IntKind.u32 (b : Int) (c : Int)) (bits BinOp.and IntKind.u32 (bits BinOp.xor IntKind.u32 IntKind.u32.max (b : Int)) (d : Int)) = (((b &&& c) ||| ((4294967295 ^^^ b) &&& d) : Nat) : Int)
    ∧ bits BinOp.xor IntKind.u32 (bits BinOp.xor IntKind.u32 (b : Int) (c : Int)) (d : Int) = ((b ^^^ c ^^^ d : Nat) : Int)
    ∧ bits BinOp.xor IntKind.u32 (c : Int) (bits BinOp.or IntKind.u32 (b : Int) (bits BinOp.xor IntKind.u32 IntKind.u32.max (d : Int))) = ((c ^^^ (b ||| (4294967295 ^^^ d)) : Nat) : Int) := by
  have M : 4294967295 < 4294967296 := by omega
  rw [max32, and_nat b c hb hc, xor_nat _ b M hb, xor_nat _ d M hd, and_nat _ d (lt_xor M hb) hd, or_nat _ _ (lt_and hb) (lt_and (lt_xor M hb)), xor_nat b c hb hc, xor_nat _ d (lt_xor hb hc) hd, or_nat b _ hb (lt_xor M hd), xor_nat c _ hc (lt_or hb (lt_xor M hd))]
  exact ⟨rfl, rfl, rfl⟩
theorem ret_wi {a b p q : Int} (h : a = b) (h' : p = q) : Ending.returned (.tuple #[.int .u32 a, .int .i64 p]) = .returned (.tuple #[.int .u32 b, .int .i64 q]) := by rw [h, h']

set_option maxRecDepth 100000 in
set_option maxHeartbeats 1000000 in
theorem rmdStep_c (i b c d : Nat) (w : World) (hi : i ≤ 63) (hb : b < 4294967296) (hc : c < 4294967296) (hd : d < 4294967296) :
    Calls Tryz.prog 60 #[.int .i64 i, .int .u32 b, .int .u32 c, .int .u32 d] w fun e w' => e = .returned (.tuple #[.int .u32 (mF i b c d), .int .i64 (mG i)]) ∧ w' = w := by
  have E := Lib.hid (step_eqs b c d hb hc hd)
  have E2 := Lib.hid (step_eqs d b c hd hb hc)
  have F : Hid (mF i b c d = if i < 16 then (b &&& c) ||| ((4294967295 ^^^ b) &&& d) else if i < 32 then (d &&& b) ||| ((4294967295 ^^^ d) &&& c) else if i < 48 then b ^^^ c ^^^ d else c ^^^ (b ||| (4294967295 ^^^ d))) := rfl
  have G : Hid (mG i = if i < 16 then i else if i < 32 then (5 * i + 1) % 16 else if i < 48 then (3 * i + 5) % 16 else 7 * i % 16) := rfl
  have k1 : (0 : Int) ≤ (i : Int) := by omega
  have k2 : (i : Int) ≤ 63 := by omega
  have s0 : IntKind.u32.signed = false := rfl
  have q0 : (i : Int).tdiv 16 = (i : Int) / 16 := Int.tdiv_eq_ediv_of_nonneg k1
  have q1 : (5 * (i : Int) + 1).tmod 16 = (5 * (i : Int) + 1) % 16 := Int.tmod_eq_emod_of_nonneg (by omega)
  have q2 : (3 * (i : Int) + 5).tmod 16 = (3 * (i : Int) + 5) % 16 := Int.tmod_eq_emod_of_nonneg (by omega)
  have q3 : (7 * (i : Int)).tmod 16 = (7 * (i : Int)) % 16 := Int.tmod_eq_emod_of_nonneg (by omega)
  by_cases c0 : i < 16
  · have t0 : ((i : Int) / 16 == 0) = true := by simp; omega
    go_enter Tryz.func60, Tryz.ntmps60
    go_wp2_with fail
    go_ret2
    exact ⟨ret_wi (by rw [F.out, if_pos c0, E.out.1]) (by rw [G.out, if_pos c0]), rfl⟩
  · have t0 : ((i : Int) / 16 == 0) = false := by simp; omega
    by_cases c1 : i < 32
    · have t1 : ((i : Int) / 16 == 1) = true := by simp; omega
      go_enter Tryz.func60, Tryz.ntmps60
      go_wp2_with fail
      go_ret2
      exact ⟨ret_wi (by rw [F.out, if_neg c0, if_pos c1, E2.out.1]) (by rw [G.out, if_neg c0, if_pos c1]; omega), rfl⟩
    · have t1 : ((i : Int) / 16 == 1) = false := by simp; omega
      by_cases c2 : i < 48
      · have t2 : ((i : Int) / 16 == 2) = true := by simp; omega
        go_enter Tryz.func60, Tryz.ntmps60
        go_wp2_with fail
        go_ret2
        exact ⟨ret_wi (by rw [F.out, if_neg c0, if_neg c1, if_pos c2, E.out.2.1]) (by rw [G.out, if_neg c0, if_neg c1, if_pos c2]; omega), rfl⟩
      · have t2 : ((i : Int) / 16 == 2) = false := by simp; omega
        go_enter Tryz.func60, Tryz.ntmps60
        go_wp2_with fail
        go_ret2
        exact ⟨ret_wi (by rw [F.out, if_neg c0, if_neg c1, if_neg c2, E.out.2.2]) (by rw [G.out, if_neg c0, if_neg c1, if_neg c2]; omega), rfl⟩
end Go.Proofs.YtkjolaoajbdomaaGreatDoor.Hs
namespace Go.Proofs.YtkjolaoajbdomaaGreatDoor.Hs
open Go.RowKit
set_option linter.unusedVariables false
set_option linter.unusedSimpArgs false

/-- n bytes begin at b, off: byte i is f i. -/
def Bs (w : World) (b off n : Nat) (f : Nat → Nat) : Prop :=
  b < w.heap.size ∧ (∀ i, f i < 256) ∧ ∀ i, i < n → w.cell? ⟨b, off + i, none⟩ = some (.int .u8 (f i))
theorem Bs.below {w w' : World} {b off n : Nat} {f : Nat → Nat} (h : Bs w b off n f) (k : Below w.heap.size w w') : Bs w' b off n f :=
  ⟨Nat.lt_of_lt_of_le h.1 k.size, h.2.1, fun i hi => (k.cell (p := ⟨b, off + i, none⟩) h.1).trans (h.2.2 i hi)⟩

/-- the first k of four bytes, as far as they make the word. -/
def wl (f : Nat → Nat) (at' : Nat) : Nat → Nat
  | 0 => 0
  | k + 1 => wl f at' k + f (at' + k) * 2 ^ (8 * k)
def wh (f : Nat → Nat) (at' : Nat) : Nat → Nat
  | 0 => 0
  | k + 1 => wh f at' k + f (at' + k) * 2 ^ (24 - 8 * k)
def wrd (low : Bool) (f : Nat → Nat) (at' : Nat) : Nat := if low then wl f at' 4 else wh f at' 4
theorem wl_lt (f : Nat → Nat) (hf : ∀ i, f i < 256) (at' : Nat) : ∀ k, wl f at' k < 2 ^ (8 * k)
  | 0 => by simp [wl]
  | k + 1 => by
    have a := wl_lt f hf at' k
    have b := hf (at' + k)
    have c : f (at' + k) * 2 ^ (8 * k) ≤ 255 * 2 ^ (8 * k) := Nat.mul_le_mul_right _ (by omega)
    simp only [wl]
    rw [show 8 * (k + 1) = 8 * k + 8 from by omega, Nat.pow_add]
    omega
theorem wh_mul (f : Nat → Nat) (at' : Nat) : ∀ k, k ≤ 4 → ∃ q, wh f at' k = 2 ^ (32 - 8 * k) * q
  | 0, _ => ⟨0, by simp [wh]⟩
  | k + 1, h => by
    obtain ⟨q, e⟩ := wh_mul f at' k (by omega)
    refine ⟨2 ^ 8 * q + f (at' + k), ?_⟩
    simp only [wh]
    rw [e, Nat.mul_add, ← Nat.mul_assoc, ← Nat.pow_add, show 32 - 8 * (k + 1) + 8 = 32 - 8 * k from by omega, Nat.mul_comm (f _), show 32 - 8 * (k + 1) = 24 - 8 * k from by omega]
theorem wh_lt (f : Nat → Nat) (hf : ∀ i, f i < 256) (at' : Nat) : ∀ k, k ≤ 4 → wh f at' k + 2 ^ (32 - 8 * k) ≤ 4294967296
  | 0, _ => by simp [wh]
  | k + 1, h => by
    have a := wh_lt f hf at' k (by omega)
    have b := hf (at' + k)
    have c : f (at' + k) * 2 ^ (24 - 8 * k) ≤ 255 * 2 ^ (24 - 8 * k) := Nat.mul_le_mul_right _ (by omega)
    simp only [wh]
    rw [show 32 - 8 * k = (24 - 8 * k) + 8 from by omega, Nat.pow_add] at a
    rw [show 32 - 8 * (k + 1) = 24 - 8 * k from by omega]
    omega
theorem wrd_lt (low : Bool) (f : Nat → Nat) (hf : ∀ i, f i < 256) (at' : Nat) : wrd low f at' < 4294967296 := by
  have a := wl_lt f hf at' 4
  have b := wh_lt f hf at' 4 (by omega)
  unfold wrd
  split <;> simp at * <;> omega
theorem low_step (f : Nat → Nat) (hf : ∀ i, f i < 256) (at' k : Nat) (hk : k < 4) :
    bits BinOp.or IntKind.u32 (wl f at' k : Int) ((f (at' + k) : Int) * 2 ^ (8 * k) % 4294967296) = (wl f at' (k + 1) : Int) := by
  have a := wl_lt f hf at' k
  have b := wl_lt f hf at' (k + 1)
  have b' : wl f at' (k + 1) < 4294967296 := Nat.lt_of_lt_of_le b (by rw [show (4294967296 : Nat) = 2 ^ 32 from rfl]; exact Nat.pow_le_pow_right (by omega) (by omega))
  simp only [wl] at b' ⊢
  have e : (f (at' + k) : Int) * 2 ^ (8 * k) % 4294967296 = ((2 ^ (8 * k) * f (at' + k) : Nat) : Int) := by
    rw [Nat.mul_comm (2 ^ (8 * k))]
    have : f (at' + k) * 2 ^ (8 * k) < 4294967296 := by omega
    rw [show (f (at' + k) : Int) * 2 ^ (8 * k) = ((f (at' + k) * 2 ^ (8 * k) : Nat) : Int) from by simp]
    omega
  rw [e, or_add' (8 * k) (f (at' + k)) (wl f at' k) a (by rw [Nat.mul_comm]; omega), Nat.mul_comm, Nat.add_comm]
theorem high_step (f : Nat → Nat) (hf : ∀ i, f i < 256) (at' k : Nat) (hk : k < 4) :
    bits BinOp.or IntKind.u32 (wh f at' k : Int) ((f (at' + k) : Int) * 2 ^ (24 - 8 * k) % 4294967296) = (wh f at' (k + 1) : Int) := by
  obtain ⟨q, eq⟩ := wh_mul f at' k (by omega)
  have a := wh_lt f hf at' k (by omega)
  have b := hf (at' + k)
  have c : f (at' + k) * 2 ^ (24 - 8 * k) < 2 ^ (32 - 8 * k) := by
    rw [show 32 - 8 * k = 8 + (24 - 8 * k) from by omega, Nat.pow_add]
    exact Nat.mul_lt_mul_of_pos_right b (Nat.pow_pos (by omega))
  have e : (f (at' + k) : Int) * 2 ^ (24 - 8 * k) % 4294967296 = ((f (at' + k) * 2 ^ (24 - 8 * k) : Nat) : Int) := by
    rw [show (f (at' + k) : Int) * 2 ^ (24 - 8 * k) = ((f (at' + k) * 2 ^ (24 - 8 * k) : Nat) : Int) from by simp]
    omega
  simp only [wh]
  rw [e, eq] at *
  rw [or_add (32 - 8 * k) q _ c (by omega)]

set_option maxRecDepth 100000 in
set_option maxHeartbeats 1000000 in
theorem rword_low (b off n cap at' : Nat) (f : Nat → Nat) (w : World) (B : Bs w b off n f) (h : at' + 4 ≤ n) (hn : n ≤ 9223372036854775807) :
    Calls Tryz.prog 61 #[.slice (some ⟨b, off, none⟩) n cap, .int .i64 at', .bool true] w fun e w' => e = .returned (.int .u32 (wrd true f at')) ∧ w' = w := by
  have HB := Lib.hid B
  clear B
  have n1 : (at' : Int) + 4 ≤ (n : Int) := by omega
  have n2 : (n : Int) ≤ 9223372036854775807 := by omega
  go_enter Tryz.func61, Tryz.ntmps61
  go_wp2_with fail
  go_loop [7, 8] (fun s i => ∃ k : Nat, k ≤ 4 ∧ i = .int .i64 k ∧ s = .int .u32 (wl f at' k)) (fun _ i => 4 - (intOf i).toNat)
  case atStart => exact ⟨0, by omega, rfl, rfl⟩
  case round =>
    obtain ⟨k, hk, rfl, rfl⟩ := hrel
    by_cases c : k < 4
    · have e0 : decide ((k : Int) < 4) = true := by rw [decide_eq_true_iff]; omega
      have S := Lib.hid (low_step f HB.out.2.1 at' k c)
      have g := HB.out.2.2 (at' + k) (by omega)
      have g0 := HB.out.2.1 (at' + k)
      have k0 : (0 : Int) ≤ (k : Int) := by omega
      have k3 : (k : Int) ≤ 3 := by omega
      have x0 : (f (at' + k) : Int) < 256 := by omega
      have x1 : (0 : Int) ≤ (f (at' + k) : Int) := by omega
      go_wp2_with fail
      go_round
      case rel => exact ⟨k + 1, by omega, by go_num, by rw [← S.out]⟩
      case measure => simp [intOf]; omega
    · have e0 : decide ((k : Int) < 4) = false := by rw [decide_eq_false_iff_not]; omega
      obtain rfl : k = 4 := by omega
      go_wp2_with fail
      go_ret
      exact ⟨rfl, rfl⟩

set_option maxRecDepth 100000 in
set_option maxHeartbeats 1000000 in
theorem rword_high (b off n cap at' : Nat) (f : Nat → Nat) (w : World) (B : Bs w b off n f) (h : at' + 4 ≤ n) (hn : n ≤ 9223372036854775807) :
    Calls Tryz.prog 61 #[.slice (some ⟨b, off, none⟩) n cap, .int .i64 at', .bool false] w fun e w' => e = .returned (.int .u32 (wrd false f at')) ∧ w' = w := by
  have HB := Lib.hid B
  clear B
  have n1 : (at' : Int) + 4 ≤ (n : Int) := by omega
  have n2 : (n : Int) ≤ 9223372036854775807 := by omega
  go_enter Tryz.func61, Tryz.ntmps61
  go_wp2_with fail
  go_loop [7, 8] (fun s i => ∃ k : Nat, k ≤ 4 ∧ i = .int .i64 k ∧ s = .int .u32 (wh f at' k)) (fun _ i => 4 - (intOf i).toNat)
  case atStart => exact ⟨0, by omega, rfl, rfl⟩
  case round =>
    obtain ⟨k, hk, rfl, rfl⟩ := hrel
    by_cases c : k < 4
    · have e0 : decide ((k : Int) < 4) = true := by rw [decide_eq_true_iff]; omega
      have S := Lib.hid (high_step f HB.out.2.1 at' k c)
      have g := HB.out.2.2 (at' + k) (by omega)
      have g0 := HB.out.2.1 (at' + k)
      have k0 : (0 : Int) ≤ (k : Int) := by omega
      have k3 : (k : Int) ≤ 3 := by omega
      have x0 : (f (at' + k) : Int) < 256 := by omega
      have x1 : (0 : Int) ≤ (f (at' + k) : Int) := by omega
      go_wp2_with fail
      go_round
      case rel => exact ⟨k + 1, by omega, by go_num, by rw [← S.out]⟩
      case measure => simp [intOf]; omega
    · have e0 : decide ((k : Int) < 4) = false := by rw [decide_eq_false_iff_not]; omega
      obtain rfl : k = 4 := by omega
      go_wp2_with fail
      go_ret
      exact ⟨rfl, rfl⟩
end Go.Proofs.YtkjolaoajbdomaaGreatDoor.Hs
namespace Go.Proofs.YtkjolaoajbdomaaGreatDoor.Hs
open Go.RowKit
set_option linter.unusedVariables false
set_option linter.unusedSimpArgs false

/-- an append whose outcome is known. -/
theorem wpList_append_eq {P : Program} {w : World} {ops : Array Oper} {rest : List Oper} {o : Oper} {a : Act} {Q : Exit → Act → World → Prop} (hgd : o.guard = none) (s x : Operand) (t : TypeId)
    (ho : o.op = .call { callee := .builtin .append, args := #[s, x], argTypes := #[t, t] }) (v xv v' : Value) (w' : World) (hs : a.eval s = v) (hx : a.eval x = xv)
    (hr : (Builtin.append_ #[t, t] o.type #[v, xv]).run P w = .ok v' w') (h : wpList P ops Q rest (a.put o.dst v') w') : wpList P ops Q (o :: rest) a w := by
  refine wpList_plain hgd fun K hK => ?_
  unfold Oper.wp execOp
  simp only [ho, resolve, invoke, builtin, Sem.run_bind, Sem.run_pure, Result.andThen_ok, List.map_toArray, List.map_cons, List.map_nil, hs, hx, hr]
  exact hK _ _ h
theorem info_u8 : (Tryz.prog.info? 5).map (fun i => (i.zero, i.size, i.bytes)) = some (some (.int .u8 0), 1, 1) := by kernel_rfl
/-- bytes as cells. -/
def cl (l : List Nat) : List Value := l.map fun (x : Nat) => Value.int .u8 (x : Int)
theorem cl_len (l : List Nat) : (cl l).length = l.length := by simp [cl]
theorem cl_app (l k : List Nat) : cl (l ++ k) = cl l ++ cl k := by simp [cl]
theorem cl_one (l : List Nat) : ∀ u ∈ cl l, u.oneCell' = true := by
  intro u hu
  simp only [cl, List.mem_map] at hu
  obtain ⟨x, _, rfl⟩ := hu
  rfl
/-- v is a slice of the call's own that holds just these bytes. -/
def Own (w : World) (base : Nat) (v : Value) (l : List Nat) : Prop := w.ownsRow base 5 1 v l.length (cl l)
theorem Own.block {w : World} {base : Nat} {v : Value} {l : List Nat} (h : Own w base v l) : ∀ k, v.ownBlock = some k → base ≤ k := by
  intro k hk
  rcases h.2 with ⟨rfl, _⟩ | ⟨g, cap, cur, rfl, hb, _⟩
  · simp [Value.ownBlock] at hk
  · simp [Value.ownBlock] at hk
    omega
theorem Own.form {w : World} {base : Nat} {v : Value} {l : List Nat} (h : Own w base v l) (hl : 0 < l.length) : ∃ g cap, v = .slice (some ⟨g, 0, none⟩) l.length cap ∧ base ≤ g ∧ g < w.heap.size ∧ l.length ≤ cap := by
  rcases h.2 with ⟨_, h0⟩ | ⟨g, cap, cur, hv, hb, hh, hc, _⟩
  · omega
  · exact ⟨g, cap, hv, hb, (Array.getElem?_eq_some_iff.1 hh).1, hc⟩

/-- append of one byte that the statement lays. -/
theorem app1 {w : World} {base : Nat} {v : Value} {l : List Nat} (h : Own w base v l) (x : Nat) (hb : base ≤ w.heap.size) (hn : l.length + 1 ≤ 140737488355328) (ty : TypeId) :
    ∃ v' w', (Builtin.append_ #[28, 28] ty #[v, .slice (some ⟨w.heap.size, 0, none⟩) 1 1]).run Tryz.prog (w.alloc (.cells #[.int .u8 (x : Int)] 5)) = .ok v' w' ∧ Own w' base v' (l ++ [x]) ∧ Below base w w' ∧ w.heap.size ≤ w'.heap.size := by
  obtain ⟨i, hi, hz, hs, hby⟩ := info_parts info_u8
  obtain ⟨v', w', hr, ho, hg, _, _⟩ := run_append_own_at (P := Tryz.prog) (w.alloc (.cells #[.int .u8 (x : Int)] 5)) base 28 ty 5 i (.int .u8 0) 1 1 Tryz.underlying28 hi hz hs hby rfl (by decide) v l.length (cl l) (World.ownsRow.alloc h _) ⟨w.heap.size, 0, none⟩ 1 1 (cl [x]) rfl
    (by intro j u hj; cases j with | zero => (simp [cl] at hj; subst hj; simp [Addr.add, go_sem]) | succ j => simp [cl] at hj) (cl_one _) (by unfold maxLen; omega) (by omega) (by simp; omega)
  have hB : Below base w (w.alloc (.cells #[.int .u8 (x : Int)] 5)) := (Below.refl base w).alloc hb _
  have hB2 := hB.grown hg (by simp; omega) h.block
  refine ⟨v', w', hr, ?_, hB2, hB2.size⟩
  unfold Own
  rw [cl_app, List.length_append]
  exact ho
/-- the first n bytes. -/
def bl (f : Nat → Nat) (n : Nat) : List Nat := (List.range n).map f
theorem bl_len (f : Nat → Nat) (n : Nat) : (bl f n).length = n := by simp [bl]
/-- append of bytes that lie in memory. -/
theorem appB {w : World} {base : Nat} {v : Value} {l : List Nat} (h : Own w base v l) {b off n : Nat} {f : Nat → Nat} (B : Bs w b off n f) (cap : Nat) (hb : base ≤ w.heap.size) (hn : l.length + n ≤ 140737488355328) (ty : TypeId) :
    ∃ v' w', (Builtin.append_ #[28, 28] ty #[v, .slice (some ⟨b, off, none⟩) n cap]).run Tryz.prog w = .ok v' w' ∧ Own w' base v' (l ++ bl f n) ∧ Below base w w' ∧ w.heap.size ≤ w'.heap.size := by
  obtain ⟨i, hi, hz, hs, hby⟩ := info_parts info_u8
  obtain ⟨v', w', hr, ho, hg, _, _⟩ := run_append_own_at (P := Tryz.prog) w base 28 ty 5 i (.int .u8 0) 1 1 Tryz.underlying28 hi hz hs hby rfl (by decide) v l.length (cl l) h ⟨b, off, none⟩ n cap (cl (bl f n)) (by rw [cl_len, bl_len]; omega)
    (by
      intro j u hj
      have hj' : j < n := by have := (List.getElem?_eq_some_iff.1 hj).1; rw [cl_len, bl_len] at this; exact this
      have e := B.2.2 j hj'
      have : u = .int .u8 (f j : Int) := by simpa [cl, bl, hj'] using hj.symm
      rw [this]
      cases j <;> simpa [Addr.add] using e) (cl_one _) (by unfold maxLen; omega) (by omega) hb
  have hB2 := (Below.refl base w).grown hg hb h.block
  refine ⟨v', w', hr, ?_, hB2, hB2.size⟩
  unfold Own
  rw [cl_app, List.length_append, bl_len]
  exact ho
theorem Own.nil (w : World) (base : Nat) : Own w base (.slice none 0 0) [] := World.ownsRow_nil w base _ 1

/-- how many bytes 0 padding takes. -/
def zz (n : Nat) : Nat := (119 - n % 64) % 64
theorem zz_at (n : Nat) : (n + 1 + zz n) % 64 = 56 ∧ zz n ≤ 63 := by unfold zz; omega
theorem zz_ahead {n k : Nat} (h : k < zz n) : (n + 1 + k) % 64 ≠ 56 := by unfold zz at h; omega
/-- the number of bits, byte i. -/
def lbAt (low : Bool) (n i : Nat) : Nat := n * 8 / 2 ^ (if low then 8 * i else 56 - 8 * i) % 256
def lb (low : Bool) (n : Nat) (k : Nat) : List Nat := (List.range k).map (lbAt low n)
theorem lb_succ (low : Bool) (n k : Nat) : lb low n (k + 1) = lb low n k ++ [lbAt low n k] := by simp [lb, List.range_succ]
theorem lb_len (low : Bool) (n k : Nat) : (lb low n k).length = k := by simp [lb]
/-- padded. -/
def pd (low : Bool) (f : Nat → Nat) (n : Nat) : List Nat := bl f n ++ [128] ++ List.replicate (zz n) 0 ++ lb low n 8
theorem pd_len (low : Bool) (f : Nat → Nat) (n : Nat) : (pd low f n).length = n + 1 + zz n + 8 := by simp [pd, bl_len, lb_len]; omega
theorem plen (f : Nat → Nat) (n k : Nat) : (bl f n ++ [128] ++ List.replicate k 0).length = n + 1 + k := by simp only [List.length_append, bl_len, List.length_replicate, List.length_cons, List.length_nil]
def sl : Value → Nat
  | .slice _ l _ => l
  | _ => 0
theorem bstepB {B : Nat} {a b c : World} (h : Below B a b) (k : Below B b c) : Below B a c := h.trans k
end Go.Proofs.YtkjolaoajbdomaaGreatDoor.Hs
namespace Go.Proofs.YtkjolaoajbdomaaGreatDoor.Hs
open Go.RowKit
set_option linter.unusedVariables false
set_option linter.unusedSimpArgs false

set_option maxRecDepth 100000 in
set_option maxHeartbeats 2000000 in
theorem rpad_low (a : Option Addr) (n cap : Nat) (f : Nat → Nat) (w : World) (hn : n ≤ 140737488351296)
    (HA : Hid (∀ ty, ∃ v' w', (Builtin.append_ #[28, 28] ty #[.slice none 0 0, .slice a n cap]).run Tryz.prog w = .ok v' w' ∧ Own w' w.heap.size v' (bl f n) ∧ Below w.heap.size w w' ∧ w.heap.size ≤ w'.heap.size)) :
    Calls Tryz.prog 58 #[.slice a n cap, .bool true] w fun e w' => (∃ v, e = .returned v ∧ Own w' w.heap.size v (pd true f n)) ∧ Below w.heap.size w w' := by
  obtain ⟨v1, w1, r1, o1, b1, s1⟩ := HA.out 28
  obtain ⟨v2, w2, r2, o2, b2, s2⟩ := app1 o1 128 s1 (by rw [bl_len]; omega) 28
  have O2 := Lib.hid o2
  have B2 := Lib.hid (bstepB b1 b2)
  have S2 := Lib.hid (Nat.le_trans s1 s2)
  have Z := Lib.hid (zz_at n)
  clear HA o1 b1 s1 o2 b2 s2
  have n1 : (n : Int) ≤ 140737488351296 := by omega
  rw [show ((128 : Nat) : Int) = 128 from rfl] at r2
  go_enter Tryz.func58, Tryz.ntmps58
  go_wp2_with (first | (at_builtin; refine wpList_append_eq rfl _ _ 28 rfl _ _ v1 w1 rfl rfl r1 ?_) | (at_builtin; refine wpList_append_eq rfl _ _ 28 rfl _ _ v2 w2 rfl rfl r2 ?_))
  clear r1 r2
  go_loopw [5] (fun v wr => ∃ k : Nat, k ≤ zz n ∧ Own wr w.heap.size v (bl f n ++ [128] ++ List.replicate k 0) ∧ Below w.heap.size w wr ∧ w.heap.size ≤ wr.heap.size) (fun v _ => n + 1 + zz n - sl v)
  case atStart => exact ⟨0, Nat.zero_le _, by simpa using O2.out, B2.out, S2.out⟩
  case round =>
    obtain ⟨k, hk, ho, hb, hs⟩ := hrel
    have le : (bl f n ++ [128] ++ List.replicate k 0).length = n + 1 + k := plen f n k
    have kz : k ≤ 63 := Nat.le_trans hk Z.out.2
    obtain ⟨v3, w3, r3, o3, b3, s3⟩ := app1 ho 0 hs (by rw [le]; omega) 28
    obtain ⟨g, cp, rfl, g1, g2, g3⟩ := ho.form (by rw [le]; omega)
    rw [le] at r3 g3 ho
    rw [le]
    have O3 : Hid (Own w3 w.heap.size v3 (bl f n ++ [128] ++ List.replicate (k + 1) 0)) := Lib.hid (by rw [List.replicate_succ']; simpa using o3)
    have HO := Lib.hid ho
    have HB := Lib.hid hb
    have B3 := Lib.hid (bstepB hb b3)
    have S3 := Lib.hid (Nat.le_trans hs s3)
    have HS := Lib.hid hs
    clear o3 b3 s3 ho hb hs
    have q : ((n : Int) + 1 + (k : Int)).tmod 64 = (((n + 1 + k) % 64 : Nat) : Int) := by rw [Int.tmod_eq_emod_of_nonneg (by omega)]; omega
    have k1 : (k : Int) ≤ 63 := by omega
    by_cases c : k < zz n
    · have t : ((((n + 1 + k) % 64 : Nat) : Int) != 56) = true := by have := zz_ahead c; simp; omega
      rw [show ((0 : Nat) : Int) = 0 from rfl] at r3
      have LV : Hid (sl v3 = n + 1 + (k + 1)) := Lib.hid (by obtain ⟨g', c', e', _⟩ := O3.out.form (by rw [plen]; omega); rw [e', plen]; rfl)
      go_wp2_with (first | (at_builtin; refine wpList_append_eq rfl _ _ 28 rfl _ _ v3 w3 rfl rfl r3 ?_))
      go_roundw
      case rel => exact ⟨k + 1, by omega, O3.out, B3.out, S3.out⟩
      case measure => rw [LV.out]; simp [sl]; omega
    · obtain rfl : k = zz n := by omega
      have t : ((n : Int) + 1 + (zz n : Int)).tmod 64 = 56 := by have := Z.out.1; rw [Int.tmod_eq_emod_of_nonneg (by omega)]; omega
      clear q
      clear r3 O3 B3 S3
      go_wp2_with fail
      clear t
      go_loopw [5, 7] (fun v i w5 => ∃ k : Nat, k ≤ 8 ∧ i = .int .i64 k ∧ Own w5 w.heap.size v (bl f n ++ [128] ++ List.replicate (zz n) 0 ++ lb true n k) ∧ Below w.heap.size w w5 ∧ w.heap.size ≤ w5.heap.size) (fun _ i _ => 8 - (intOf i).toNat)
      case atStart => exact ⟨0, by omega, rfl, by rw [show lb true n 0 = [] from rfl, List.append_nil]; exact HO.out, HB.out, HS.out⟩
      case round =>
        clear HO HB HS
        obtain ⟨k, hk, rfl, ho, hb, hs⟩ := hrel
        by_cases c : k < 8
        · have e0 : decide ((k : Int) < 8) = true := by rw [decide_eq_true_iff]; omega
          have le : (bl f n ++ [128] ++ List.replicate (zz n) 0 ++ lb true n k).length = n + 1 + zz n + k := by rw [List.length_append, plen, lb_len]
          obtain ⟨v4, w4, r4, o4, b4, s4⟩ := app1 ho (lbAt true n k) hs (by rw [le]; omega) 28
          rw [List.append_assoc, ← lb_succ] at o4
          have O4 := Lib.hid o4
          have B4 := Lib.hid (bstepB hb b4)
          have S4 := Lib.hid (Nat.le_trans hs s4)
          clear o4 b4 s4 ho hb hs
          have e4 : ((lbAt true n k : Nat) : Int) = (n : Int) * 8 / 2 ^ (8 * k) % 256 := by unfold lbAt; simp
          rw [e4] at r4
          have k0 : (0 : Int) ≤ (k : Int) := by omega
          have k7 : (k : Int) ≤ 7 := by omega
          have n0 : (0 : Int) ≤ (n : Int) := by omega
          go_wp2_with (first | (at_builtin; refine wpList_append_eq rfl _ _ 28 rfl _ _ v4 w4 rfl rfl r4 ?_))
          go_roundw
          case rel => exact ⟨k + 1, by omega, by go_num, O4.out, B4.out, S4.out⟩
          case measure => simp [intOf]; omega
        · have e0 : decide ((k : Int) < 8) = false := by rw [decide_eq_false_iff_not]; omega
          obtain rfl : k = 8 := by omega
          have HO := Lib.hid ho
          have HB := Lib.hid hb
          clear ho hb hs
          go_wp2_with fail
          go_ret
          exact ⟨⟨_, rfl, HO.out⟩, HB.out⟩

set_option maxRecDepth 100000 in
set_option maxHeartbeats 2000000 in
theorem rpad_high (a : Option Addr) (n cap : Nat) (f : Nat → Nat) (w : World) (hn : n ≤ 140737488351296)
    (HA : Hid (∀ ty, ∃ v' w', (Builtin.append_ #[28, 28] ty #[.slice none 0 0, .slice a n cap]).run Tryz.prog w = .ok v' w' ∧ Own w' w.heap.size v' (bl f n) ∧ Below w.heap.size w w' ∧ w.heap.size ≤ w'.heap.size)) :
    Calls Tryz.prog 58 #[.slice a n cap, .bool false] w fun e w' => (∃ v, e = .returned v ∧ Own w' w.heap.size v (pd false f n)) ∧ Below w.heap.size w w' := by
  obtain ⟨v1, w1, r1, o1, b1, s1⟩ := HA.out 28
  obtain ⟨v2, w2, r2, o2, b2, s2⟩ := app1 o1 128 s1 (by rw [bl_len]; omega) 28
  have O2 := Lib.hid o2
  have B2 := Lib.hid (bstepB b1 b2)
  have S2 := Lib.hid (Nat.le_trans s1 s2)
  have Z := Lib.hid (zz_at n)
  clear HA o1 b1 s1 o2 b2 s2
  have n1 : (n : Int) ≤ 140737488351296 := by omega
  rw [show ((128 : Nat) : Int) = 128 from rfl] at r2
  go_enter Tryz.func58, Tryz.ntmps58
  go_wp2_with (first | (at_builtin; refine wpList_append_eq rfl _ _ 28 rfl _ _ v1 w1 rfl rfl r1 ?_) | (at_builtin; refine wpList_append_eq rfl _ _ 28 rfl _ _ v2 w2 rfl rfl r2 ?_))
  clear r1 r2
  go_loopw [5] (fun v wr => ∃ k : Nat, k ≤ zz n ∧ Own wr w.heap.size v (bl f n ++ [128] ++ List.replicate k 0) ∧ Below w.heap.size w wr ∧ w.heap.size ≤ wr.heap.size) (fun v _ => n + 1 + zz n - sl v)
  case atStart => exact ⟨0, Nat.zero_le _, by simpa using O2.out, B2.out, S2.out⟩
  case round =>
    obtain ⟨k, hk, ho, hb, hs⟩ := hrel
    have le : (bl f n ++ [128] ++ List.replicate k 0).length = n + 1 + k := plen f n k
    have kz : k ≤ 63 := Nat.le_trans hk Z.out.2
    obtain ⟨v3, w3, r3, o3, b3, s3⟩ := app1 ho 0 hs (by rw [le]; omega) 28
    obtain ⟨g, cp, rfl, g1, g2, g3⟩ := ho.form (by rw [le]; omega)
    rw [le] at r3 g3 ho
    rw [le]
    have O3 : Hid (Own w3 w.heap.size v3 (bl f n ++ [128] ++ List.replicate (k + 1) 0)) := Lib.hid (by rw [List.replicate_succ']; simpa using o3)
    have HO := Lib.hid ho
    have HB := Lib.hid hb
    have B3 := Lib.hid (bstepB hb b3)
    have S3 := Lib.hid (Nat.le_trans hs s3)
    have HS := Lib.hid hs
    clear o3 b3 s3 ho hb hs
    have q : ((n : Int) + 1 + (k : Int)).tmod 64 = (((n + 1 + k) % 64 : Nat) : Int) := by rw [Int.tmod_eq_emod_of_nonneg (by omega)]; omega
    have k1 : (k : Int) ≤ 63 := by omega
    by_cases c : k < zz n
    · have t : ((((n + 1 + k) % 64 : Nat) : Int) != 56) = true := by have := zz_ahead c; simp; omega
      rw [show ((0 : Nat) : Int) = 0 from rfl] at r3
      have LV : Hid (sl v3 = n + 1 + (k + 1)) := Lib.hid (by obtain ⟨g', c', e', _⟩ := O3.out.form (by rw [plen]; omega); rw [e', plen]; rfl)
      go_wp2_with (first | (at_builtin; refine wpList_append_eq rfl _ _ 28 rfl _ _ v3 w3 rfl rfl r3 ?_))
      go_roundw
      case rel => exact ⟨k + 1, by omega, O3.out, B3.out, S3.out⟩
      case measure => rw [LV.out]; simp [sl]; omega
    · obtain rfl : k = zz n := by omega
      have t : ((n : Int) + 1 + (zz n : Int)).tmod 64 = 56 := by have := Z.out.1; rw [Int.tmod_eq_emod_of_nonneg (by omega)]; omega
      clear q
      clear r3 O3 B3 S3
      go_wp2_with fail
      clear t
      go_loopw [5, 7] (fun v i w5 => ∃ k : Nat, k ≤ 8 ∧ i = .int .i64 k ∧ Own w5 w.heap.size v (bl f n ++ [128] ++ List.replicate (zz n) 0 ++ lb false n k) ∧ Below w.heap.size w w5 ∧ w.heap.size ≤ w5.heap.size) (fun _ i _ => 8 - (intOf i).toNat)
      case atStart => exact ⟨0, by omega, rfl, by rw [show lb false n 0 = [] from rfl, List.append_nil]; exact HO.out, HB.out, HS.out⟩
      case round =>
        clear HO HB HS
        obtain ⟨k, hk, rfl, ho, hb, hs⟩ := hrel
        by_cases c : k < 8
        · have e0 : decide ((k : Int) < 8) = true := by rw [decide_eq_true_iff]; omega
          have le : (bl f n ++ [128] ++ List.replicate (zz n) 0 ++ lb false n k).length = n + 1 + zz n + k := by rw [List.length_append, plen, lb_len]
          obtain ⟨v4, w4, r4, o4, b4, s4⟩ := app1 ho (lbAt false n k) hs (by rw [le]; omega) 28
          rw [List.append_assoc, ← lb_succ] at o4
          have O4 := Lib.hid o4
          have B4 := Lib.hid (bstepB hb b4)
          have S4 := Lib.hid (Nat.le_trans hs s4)
          clear o4 b4 s4 ho hb hs
          have e4 : ((lbAt false n k : Nat) : Int) = (n : Int) * 8 / 2 ^ (56 - 8 * k) % 256 := by unfold lbAt; simp
          rw [e4] at r4
          have k0 : (0 : Int) ≤ (k : Int) := by omega
          have k7 : (k : Int) ≤ 7 := by omega
          have n0 : (0 : Int) ≤ (n : Int) := by omega
          go_wp2_with (first | (at_builtin; refine wpList_append_eq rfl _ _ 28 rfl _ _ v4 w4 rfl rfl r4 ?_))
          go_roundw
          case rel => exact ⟨k + 1, by omega, by go_num, O4.out, B4.out, S4.out⟩
          case measure => simp [intOf]; omega
        · have e0 : decide ((k : Int) < 8) = false := by rw [decide_eq_false_iff_not]; omega
          obtain rfl : k = 8 := by omega
          have HO := Lib.hid ho
          have HB := Lib.hid hb
          clear ho hb hs
          go_wp2_with fail
          go_ret
          exact ⟨⟨_, rfl, HO.out⟩, HB.out⟩
end Go.Proofs.YtkjolaoajbdomaaGreatDoor.Hs
