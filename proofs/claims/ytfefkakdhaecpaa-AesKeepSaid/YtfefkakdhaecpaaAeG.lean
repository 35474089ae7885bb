/-
  The contracts of aes.double, bits.RotateLeft8, aes.scattered and aes.substitutes.
  Conditions: the arguments are bytes.
-/
import Derived.Test.YtfefkakdhaecpaaAeF
namespace Go.Proofs.Ytfefkakdhaecpaa.Ae
open Go.RowKit By
set_option linter.unusedVariables false
set_option linter.unusedSimpArgs false

theorem double_c (x : Nat) (w : World) (hx : x < 256) :
    Calls Try.prog 27 #[.int .u8 x] w fun e w' => e = .returned (.int .u8 (xt x)) ∧ w' = w := by
  have XT : Hid (xt x = if 128 ≤ x then (x * 2 % 256) ^^^ 27 else x * 2) := rfl
  have k0 : (0 : Int) ≤ (x : Int) := by omega
  have k1 : (x : Int) < 256 := by omega
  by_cases c : 128 ≤ x
  · have e : (x : Int) / 128 = 1 := by omega
    have XO := xor8 (x * 2 % 256) 27 (by omega) (by omega)
    rw [show ((27 : Nat) : Int) = 27 from rfl, show ((x * 2 % 256 : Nat) : Int) = (x : Int) * 2 % 256 from by omega] at XO
    go_enter Try.func27, Try.ntmps27
    go_wp2_with fail
    go_ret
    exact ⟨by rw [XT.out, if_pos c]; rfl, rfl⟩
  · have e : (x : Int) / 128 = 0 := by omega
    have e2 : (x : Int) * 2 % 256 = (x : Int) * 2 := by omega
    have XO := xor8 (x * 2) 0 (by omega) (by omega)
    rw [show ((0 : Nat) : Int) = 0 from rfl, show ((x * 2 : Nat) : Int) = (x : Int) * 2 from by omega, Nat.xor_zero] at XO
    go_enter Try.func27, Try.ntmps27
    go_wp2_with fail
    go_ret
    exact ⟨by rw [XT.out, if_neg c]; simp, rfl⟩

/-- turned to the left by n bits. -/
def rl (x n : Nat) : Nat := (x * 2 ^ n % 256) ||| (x / 2 ^ (8 - n))
theorem rl_lt {x : Nat} (n : Nat) (hx : x < 256) : rl x n < 256 :=
  Nat.or_lt_two_pow (n := 8) (by omega) (Nat.lt_of_le_of_lt (Nat.div_le_self _ _) hx)
theorem rotl8_c (x n : Nat) (w : World) (hx : x < 256) (h1 : 1 ≤ n) (h2 : n ≤ 4) :
    Calls Try.prog 37 #[.int .u8 x, .int .i64 n] w fun e w' => e = .returned (.int .u8 (rl x n)) ∧ w' = w := by
  have k0 : (0 : Int) ≤ (x : Int) := by omega
  have k1 : (x : Int) < 256 := by omega
  have O := or8 (x * 2 ^ n % 256) (x / 2 ^ (8 - n)) (by omega) (Nat.lt_of_le_of_lt (Nat.div_le_self _ _) hx)
  have h : n = 1 ∨ n = 2 ∨ n = 3 ∨ n = 4 := by omega
  rcases h with rfl | rfl | rfl | rfl
  · have A : bits BinOp.and IntKind.u64 1 7 = 1 := by decide
    rw [show ((x * 2 ^ 1 % 256 : Nat) : Int) = (x : Int) * 2 % 256 from by omega, show ((x / 2 ^ (8 - 1) : Nat) : Int) = (x : Int) / 128 from by omega] at O
    go_enter Try.func37, Try.ntmps37
    go_wp2_with fail
    go_ret
    exact ⟨rfl, rfl⟩
  · have A : bits BinOp.and IntKind.u64 2 7 = 2 := by decide
    rw [show ((x * 2 ^ 2 % 256 : Nat) : Int) = (x : Int) * 4 % 256 from by omega, show ((x / 2 ^ (8 - 2) : Nat) : Int) = (x : Int) / 64 from by omega] at O
    go_enter Try.func37, Try.ntmps37
    go_wp2_with fail
    go_ret
    exact ⟨rfl, rfl⟩
  · have A : bits BinOp.and IntKind.u64 3 7 = 3 := by decide
    rw [show ((x * 2 ^ 3 % 256 : Nat) : Int) = (x : Int) * 8 % 256 from by omega, show ((x / 2 ^ (8 - 3) : Nat) : Int) = (x : Int) / 32 from by omega] at O
    go_enter Try.func37, Try.ntmps37
    go_wp2_with fail
    go_ret
    exact ⟨rfl, rfl⟩
  · have A : bits BinOp.and IntKind.u64 4 7 = 4 := by decide
    rw [show ((x * 2 ^ 4 % 256 : Nat) : Int) = (x : Int) * 16 % 256 from by omega, show ((x / 2 ^ (8 - 4) : Nat) : Int) = (x : Int) / 16 from by omega] at O
    go_enter Try.func37, Try.ntmps37
    go_wp2_with fail
    go_ret
    exact ⟨rfl, rfl⟩

/-- S of the byte whose inverse is v. -/
def sc (v : Nat) : Nat := v ^^^ rl v 1 ^^^ rl v 2 ^^^ rl v 3 ^^^ rl v 4 ^^^ 99
theorem sc_lt {v : Nat} (h : v < 256) : sc v < 256 :=
  lt_xor8 (lt_xor8 (lt_xor8 (lt_xor8 (lt_xor8 h (rl_lt 1 h)) (rl_lt 2 h)) (rl_lt 3 h)) (rl_lt 4 h)) (by omega)
theorem scattered_c (v : Nat) (w : World) (hv : v < 256) :
    Calls Try.prog 35 #[.int .u8 v] w fun e w' => e = .returned (.int .u8 (sc v)) ∧ w' = w := by
  have R := Lib.hid (fun n w (h1 : 1 ≤ n) (h2 : n ≤ 4) => rotl8_c v n w hv h1 h2)
  have l1 := rl_lt 1 hv
  have l2 := rl_lt 2 hv
  have l3 := rl_lt 3 hv
  have l4 := rl_lt 4 hv
  have X1 := xor8 v (rl v 1) hv l1
  have X2 := xor8 _ (rl v 2) (lt_xor8 hv l1) l2
  have X3 := xor8 _ (rl v 3) (lt_xor8 (lt_xor8 hv l1) l2) l3
  have X4 := xor8 _ (rl v 4) (lt_xor8 (lt_xor8 (lt_xor8 hv l1) l2) l3) l4
  have X5 := xor8 _ 99 (lt_xor8 (lt_xor8 (lt_xor8 (lt_xor8 hv l1) l2) l3) l4) (by omega)
  rw [show ((99 : Nat) : Int) = 99 from rfl] at X5
  have SE : Hid (sc v = v ^^^ rl v 1 ^^^ rl v 2 ^^^ rl v 3 ^^^ rl v 4 ^^^ 99) := rfl
  generalize v ^^^ rl v 1 ^^^ rl v 2 ^^^ rl v 3 ^^^ rl v 4 ^^^ 99 = z5 at *
  generalize v ^^^ rl v 1 ^^^ rl v 2 ^^^ rl v 3 ^^^ rl v 4 = z4 at *
  generalize v ^^^ rl v 1 ^^^ rl v 2 ^^^ rl v 3 = z3 at *
  generalize v ^^^ rl v 1 ^^^ rl v 2 = z2 at *
  generalize v ^^^ rl v 1 = z1 at *
  go_enter Try.func35, Try.ntmps35
  go_wp2_with fail
  refine (R.out 1 _ (by omega) (by omega)).mono ?_
  rintro e w1 ⟨rfl, rfl⟩
  go_wp2_with fail
  refine (R.out 2 _ (by omega) (by omega)).mono ?_
  rintro e w2 ⟨rfl, rfl⟩
  go_wp2_with fail
  refine (R.out 3 _ (by omega) (by omega)).mono ?_
  rintro e w3 ⟨rfl, rfl⟩
  go_wp2_with fail
  refine (R.out 4 _ (by omega) (by omega)).mono ?_
  rintro e w4 ⟨rfl, rfl⟩
  go_wp2_with fail
  go_ret
  exact ⟨by rw [SE.out]; rfl, rfl⟩

/-- the powers of 3. -/
def p3 : Nat → Nat
  | 0 => 1
  | i + 1 => p3 i ^^^ xt (p3 i)
theorem p3_lt : ∀ i, p3 i < 256
  | 0 => by simp [p3]
  | i + 1 => lt_xor8 (p3_lt i) (xt_lt (p3_lt i))
/-- the table of S, as far as k powers are in it. -/
def tS : Nat → Nat → Nat
  | 0 => up (fun _ => 0) 0 (sc 0)
  | k + 1 => up (tS k) (p3 k) (sc (p3 ((255 - k) % 255)))
set_option maxRecDepth 100000 in
theorem tS_sbox : ∀ i, i < 256 → tS 255 i = sbox i := by decide +kernel
end Go.Proofs.Ytfefkakdhaecpaa.Ae
