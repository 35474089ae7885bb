/-
  The contracts of sundialref04.left, right and mdStep.
  Conditions: the arguments are of their kinds; rotations go from 1 to 31.
-/
import Derived.Test.YtenlbjnoiamfiaaDoorHsA
namespace Go.Proofs.YtenlbjnoiamfiaaDoor.Hs
open Go.RowKit
set_option linter.unusedVariables false
set_option linter.unusedSimpArgs false

theorem or_comm32 (a b : Nat) (ha : a < 4294967296) (hb : b < 4294967296) : bits BinOp.or IntKind.u32 (a : Int) (b : Int) = bits BinOp.or IntKind.u32 (b : Int) (a : Int) := by
  rw [or_nat a b ha hb, or_nat b a hb ha, Nat.or_comm]
theorem ret_w {a b : Int} (h : a = b) : Ending.returned (.int .u32 a) = .returned (.int .u32 b) := by rw [h]

theorem rleft_c (x n : Nat) (w : World) (hx : x < 4294967296) (h1 : 1 ≤ n) (h2 : n ≤ 31) :
    Calls Tryd.prog 25 #[.int .u32 x, .int .i64 n] w fun e w' => e = .returned (.int .u32 (rol x n)) ∧ w' = w := by
  have R := Lib.hid (rol_or x n hx h1 h2)
  have k1 : (0 : Int) ≤ (n : Int) := by omega
  have k2 : (n : Int) ≤ 31 := by omega
  have k3 : (0 : Int) ≤ (x : Int) := by omega
  have k4 : (x : Int) < 4294967296 := by omega
  go_enter Tryd.func25, Tryd.ntmps25
  go_wp2
  go_ret
  refine ⟨ret_w ?_, rfl⟩
  rw [← R.out.1]
  simp
/-- rotated to the right. -/
def ror (x n : Nat) : Nat := rol x (32 - n)
theorem rright_c (x n : Nat) (w : World) (hx : x < 4294967296) (h1 : 1 ≤ n) (h2 : n ≤ 31) :
    Calls Tryd.prog 32 #[.int .u32 x, .int .i64 n] w fun e w' => e = .returned (.int .u32 (ror x n)) ∧ w' = w := by
  have R := Lib.hid (rol_or x (32 - n) hx (by omega) (by omega))
  have C := Lib.hid (or_comm32 (x * 2 ^ (32 - n) % 4294967296) (x / 2 ^ n) (Nat.mod_lt _ (by omega)) (Nat.lt_of_le_of_lt (Nat.div_le_self _ _) hx))
  have k1 : (0 : Int) ≤ (n : Int) := by omega
  have k2 : (n : Int) ≤ 31 := by omega
  have k3 : (0 : Int) ≤ (x : Int) := by omega
  have k4 : (x : Int) < 4294967296 := by omega
  go_enter Tryd.func32, Tryd.ntmps32
  go_wp2
  go_ret
  refine ⟨ret_w ?_, rfl⟩
  unfold ror
  rw [← R.out.1, show 32 - (32 - n) = n from by omega, C.out]
  simp

/-- MD5's F and g. -/
def mF (i b c d : Nat) : Nat := if i < 16 then (b &&& c) ||| ((4294967295 ^^^ b) &&& d) else if i < 32 then (d &&& b) ||| ((4294967295 ^^^ d) &&& c) else if i < 48 then b ^^^ c ^^^ d else c ^^^ (b ||| (4294967295 ^^^ d))
def mG (i : Nat) : Nat := if i < 16 then i else if i < 32 then (5 * i + 1) % 16 else if i < 48 then (3 * i + 5) % 16 else 7 * i % 16
theorem lt_and {a b : Nat} (h : a < 4294967296) : a &&& b < 4294967296 := Nat.lt_of_le_of_lt Nat.and_le_left h
theorem lt_or {a b : Nat} (h : a < 4294967296) (h' : b < 4294967296) : a ||| b < 4294967296 := Nat.or_lt_two_pow (n := 32) h h'
theorem lt_xor {a b : Nat} (h : a < 4294967296) (h' : b < 4294967296) : a ^^^ b < 4294967296 := Nat.xor_lt_two_pow (n := 32) h h'
theorem mF_lt (i : Nat) {b c d : Nat} (hb : b < 4294967296) (hc : c < 4294967296) (hd : d < 4294967296) : mF i b c d < 4294967296 := by
  have M : 4294967295 < 4294967296 := by omega
  unfold mF
  split
  · exact lt_or (lt_and hb) (lt_and (lt_xor M hb))
  · split
    · exact lt_or (lt_and hd) (lt_and (lt_xor M hd))
    · split
      · exact lt_xor (lt_xor hb hc) hd
      · exact lt_xor hc (lt_or hb (lt_xor M hd))
theorem mG_lt (i : Nat) : mG i < 16 := by unfold mG; (repeat' split) <;> omega

theorem step_eqs (b c d : Nat) (hb : b < 4294967296) (hc : c < 4294967296) (hd : d < 4294967296) :
    bits BinOp.or IntKind.u32 (bits BinOp.and IntKind.u32 (b : Int) (c : Int)) (bits BinOp.and IntKind.u32 (bits BinOp.xor IntKind.u32 IntKind.u32.max (b : Int)) (d : Int)) = (((b &&& c) ||| ((4294967295 ^^^ b) &&& d) : Nat) : Int)
    ∧ bits BinOp.xor IntKind.u32 (bits BinOp.xor IntKind.u32 (b : Int) (c : Int)) (d : Int) = ((b ^^^ c ^^^ d : Nat) : Int)
    ∧ bits BinOp.xor IntKind.u32 (c : Int) (bits BinOp.or IntKind.u32 (b : Int) (bits BinOp.xor IntKind.u32 IntKind.u32.max (d : Int))) = ((c ^^^ (b ||| (4294967295 ^^^ d)) : Nat) : Int) := by
  have M : 4294967295 < 4294967296 := by omega
  rw [max32, and_nat b c hb hc, xor_nat _ b M hb, xor_nat _ d M hd, and_nat _ d (lt_xor M hb) hd, or_nat _ _ (lt_and hb) (lt_and (lt_xor M hb)), xor_nat b c hb hc, xor_nat _ d (lt_xor hb hc) hd, or_nat b _ hb (lt_xor M hd), xor_nat c _ hc (lt_or hb (lt_xor M hd))]
  exact ⟨rfl, rfl, rfl⟩
theorem ret_wi {a b p q : Int} (h : a = b) (h' : p = q) : Ending.returned (.tuple #[.int .u32 a, .int .i64 p]) = .returned (.tuple #[.int .u32 b, .int .i64 q]) := by rw [h, h']

set_option maxRecDepth 100000 in
set_option maxHeartbeats 1000000 in
theorem rmdStep_c (i b c d : Nat) (w : World) (hi : i ≤ 63) (hb : b < 4294967296) (hc : c < 4294967296) (hd : d < 4294967296) :
    Calls Tryd.prog 23 #[.int .i64 i, .int .u32 b, .int .u32 c, .int .u32 d] w fun e w' => e = .returned (.tuple #[.int .u32 (mF i b c d), .int .i64 (mG i)]) ∧ w' = w := by
  have E := Lib.hid (step_eqs b c d hb hc hd)
  have E2 := Lib.hid (step_eqs d b c hd hb hc)
  have F : Hid (mF i b c d = if i < 16 then (b &&& c) ||| ((4294967295 ^^^ b) &&& d) else if i < 32 then (d &&& b) ||| ((4294967295 ^^^ d) &&& c) else if i < 48 then b ^^^ c ^^^ d else c ^^^ (b ||| (4294967295 ^^^ d))) := rfl
  have G : Hid (mG i = if i < 16 then i else if i < 32 then (5 * i + 1) % 16 else if i < 48 then (3 * i + 5) % 16 else 7 * i % 16) := rfl
  have k1 : (0 : Int) ≤ (i : Int) := by omega
  have k2 : (i : Int) ≤ 63 := by omega
  have s0 : IntKind.u32.signed = false := rfl
  have q0 : (i : Int).tdiv 16 = (i : Int) / 16 := Int.tdiv_eq_ediv_of_nonneg k1
  have q1 : (5 * (i : Int) + 1).tmod 16 = (5 * (i : Int) + 1) % 16 := Int.tmod_eq_emod_of_nonneg (by omega)
  have q2 : (3 * (i : Int) + 5).tmod 16 = (3 * (i : Int) + 5) % 16 := Int.tmod_eq_emod_of_nonneg (by omega)
  have q3 : (7 * (i : Int)).tmod 16 = (7 * (i : Int)) % 16 := Int.tmod_eq_emod_of_nonneg (by omega)
  by_cases c0 : i < 16
  · have t0 : ((i : Int) / 16 == 0) = true := by simp; omega
    go_enter Tryd.func23, Tryd.ntmps23
    go_wp2_with fail
    go_ret2
    exact ⟨ret_wi (by rw [F.out, if_pos c0, E.out.1]) (by rw [G.out, if_pos c0]), rfl⟩
  · have t0 : ((i : Int) / 16 == 0) = false := by simp; omega
    by_cases c1 : i < 32
    · have t1 : ((i : Int) / 16 == 1) = true := by simp; omega
      go_enter Tryd.func23, Tryd.ntmps23
      go_wp2_with fail
      go_ret2
      exact ⟨ret_wi (by rw [F.out, if_neg c0, if_pos c1, E2.out.1]) (by rw [G.out, if_neg c0, if_pos c1]; omega), rfl⟩
    · have t1 : ((i : Int) / 16 == 1) = false := by simp; omega
      by_cases c2 : i < 48
      · have t2 : ((i : Int) / 16 == 2) = true := by simp; omega
        go_enter Tryd.func23, Tryd.ntmps23
        go_wp2_with fail
        go_ret2
        exact ⟨ret_wi (by rw [F.out, if_neg c0, if_neg c1, if_pos c2, E.out.2.1]) (by rw [G.out, if_neg c0, if_neg c1, if_pos c2]; omega), rfl⟩
      · have t2 : ((i : Int) / 16 == 2) = false := by simp; omega
        go_enter Tryd.func23, Tryd.ntmps23
        go_wp2_with fail
        go_ret2
        exact ⟨ret_wi (by rw [F.out, if_neg c0, if_neg c1, if_neg c2, E.out.2.2]) (by rw [G.out, if_neg c0, if_neg c1, if_neg c2]; omega), rfl⟩
end Go.Proofs.YtenlbjnoiamfiaaDoor.Hs
