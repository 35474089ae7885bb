/-
  S of a byte in numbers; the contract of sundialref05.sub.
  Conditions: the argument is a byte.
-/
import Derived.Test.YtfefkakdhaecpaaAeA
namespace Go.Proofs.Ytfefkakdhaecpaa.Ae
open Go.RowKit By
set_option linter.unusedVariables false
set_option linter.unusedSimpArgs false

theorem and64_1 (a : Nat) (ha : a < 256) : bits BinOp.and IntKind.i64 (a : Int) 1 = ((a % 2 : Nat) : Int) := by
  have e : (BitVec.ofInt 64 (a : Int) &&& BitVec.ofInt 64 1).toNat = a % 2 := by
    rw [BitVec.toNat_and, BitVec.toNat_ofInt, BitVec.toNat_ofInt]
    have h : ((1 : Int) % ((2 ^ 64 : Nat) : Int)).toNat = 2 ^ 1 - 1 := by decide
    rw [h, Nat.and_two_pow_sub_one_eq_mod]
    omega
  show IntKind.i64.wrap ((BitVec.ofInt 64 (a : Int) &&& BitVec.ofInt 64 1).toNat : Int) = _
  rw [e]
  exact wrap_in (by omega) (by omega)
theorem xor64_01 (a b : Nat) (ha : a < 2) (hb : b < 2) : bits BinOp.xor IntKind.i64 (a : Int) (b : Int) = (((a + b) % 2 : Nat) : Int) := by
  have h1 : a = 0 ∨ a = 1 := by omega
  have h2 : b = 0 ∨ b = 1 := by omega
  rcases h1 with rfl | rfl <;> rcases h2 with rfl | rfl <;> decide
def kk (j : Nat) : Nat := [0, 4, 5, 6, 7].getD j 0
theorem kk_lt : ∀ j, j < 5 → kk j < 8 := by decide
/-- bit i of S, with j of the five bits taken in. -/
def sx (v i : Nat) : Nat → Nat
  | 0 => 99 / 2 ^ i % 2
  | j + 1 => (sx v i j + v / 2 ^ ((i + kk j) % 8) % 2) % 2
def so (v : Nat) : Nat → Nat
  | 0 => 0
  | i + 1 => so v i + sx v i 5 * 2 ^ i
/-- S. -/
def sbox (b : Nat) : Nat := so (inv b) 8
theorem sx_lt (v i : Nat) : ∀ j, sx v i j < 2
  | 0 => by simp only [sx]; omega
  | j + 1 => by simp only [sx]; omega
theorem so_lt (v : Nat) : ∀ i, so v i < 2 ^ i
  | 0 => by simp [so]
  | i + 1 => by
    have a := so_lt v i
    have b := sx_lt v i 5
    have c : sx v i 5 * 2 ^ i ≤ 1 * 2 ^ i := Nat.mul_le_mul_right _ (by omega)
    simp only [so]
    rw [Nat.pow_succ]
    omega
theorem sbox_lt (b : Nat) : sbox b < 256 := so_lt (inv b) 8
theorem so_or (o bt i : Nat) (hi : i < 8) (ho : o < 2 ^ i) (hb : bt < 2) : bits BinOp.or IntKind.u8 (o : Int) ((bt * 2 ^ i : Nat) : Int) = ((o + bt * 2 ^ i : Nat) : Int) := by
  have p : 2 ^ i ≤ 2 ^ 7 := Nat.pow_le_pow_right (by omega) (by omega)
  have c : bt * 2 ^ i ≤ 1 * 2 ^ i := Nat.mul_le_mul_right _ (by omega)
  rw [or8 _ _ (by omega) (by omega)]
  congr 1
  rw [Nat.or_comm, Nat.mul_comm bt, ← Nat.two_pow_add_eq_or_of_lt ho]
  omega
theorem kk_cells (w : World) (j : Nat) (hj : j < 5) : (w.alloc (.cells #[.int .i64 0, .int .i64 4, .int .i64 5, .int .i64 6, .int .i64 7] 3)).cell? ⟨w.heap.size, j, none⟩ = some (.int .i64 (kk j)) := by
  rw [World.cell?_alloc_mark w _ _ (0, 0) j]
  match j, hj with
  | 0, _ => rfl
  | 1, _ => rfl
  | 2, _ => rfl
  | 3, _ => rfl
  | 4, _ => rfl

set_option maxRecDepth 100000 in
set_option maxHeartbeats 4000000 in
theorem rsub_c (b : Nat) (w : World) (hb : b < 256) :
    Calls Try.prog 32 #[.int .u8 b] w fun e w' => e = .returned (.int .u8 (sbox b)) ∧ Below w.heap.size w w' := by
  have IV := Lib.hid (rinverse_c b w hb)
  have SE : Hid (sbox b = so (inv b) 8) := rfl
  have VL : inv b < 256 := iS_lt hb 8
  go_enter Try.func32, Try.ntmps32
  go_wp2_with fail
  refine IV.out.mono ?_
  rintro e w' ⟨rfl, rfl⟩
  generalize inv b = v at *
  go_wp2_with fail
  go_loopw [4, 5] (fun o i wr => ∃ k : Nat, k ≤ 8 ∧ i = .int .i64 k ∧ o = .int .u8 (so v k) ∧ Below w'.heap.size w' wr) (fun _ i _ => 8 - (intOf i).toNat)
  case atStart => exact ⟨0, by omega, rfl, rfl, Below.refl _ _⟩
  case round =>
    obtain ⟨k, hk, rfl, rfl, hb0⟩ := hrel
    rename World => wr
    have HB := Lib.hid hb0
    clear hb0
    by_cases c : k < 8
    · have e0 : decide ((k : Int) < 8) = true := by rw [decide_eq_true_iff]; omega
      have NO : Hid (so v (k + 1) = so v k + sx v k 5 * 2 ^ k) := rfl
      have AN := and64_1 (99 / 2 ^ k) (Nat.lt_of_le_of_lt (Nat.div_le_self _ _) (by omega))
      rw [show ((99 / 2 ^ k : Nat) : Int) = (99 : Int) / 2 ^ k from by simp, show 99 / 2 ^ k % 2 = sx v k 0 from rfl] at AN
      have k0 : (0 : Int) ≤ (k : Int) := by omega
      have k7 : (k : Int) ≤ 7 := by omega
      go_wp2_with fail
      clear AN
      go_loop [6, 21] (fun bt x => ∃ j : Nat, j ≤ 5 ∧ x = .int .i64 j ∧ bt = .int .i64 (sx v k j)) (fun _ x => 5 - (intOf x).toNat)
      case atStart => exact ⟨0, by omega, rfl, rfl⟩
      case round =>
        obtain ⟨j, hj, rfl, rfl⟩ := hrel
        by_cases cj : j < 5
        · have e1 : decide ((j : Int) < 5) = true := by rw [decide_eq_true_iff]; omega
          have KC := kk_cells wr j cj
          have KL := kk_lt j cj
          have NX : Hid (sx v k (j + 1) = (sx v k j + v / 2 ^ ((k + kk j) % 8) % 2) % 2) := rfl
          have SL := sx_lt v k j
          generalize kk j = q at *
          have T8 : ((k : Int) + (q : Int)).tmod 8 = (((k + q) % 8 : Nat) : Int) := by rw [Int.tmod_eq_emod_of_nonneg (by omega)]; omega
          have sl : (k + q) % 8 ≤ 7 := by omega
          generalize (k + q) % 8 = s at *
          have A1 := and8_1 (v / 2 ^ s) (Nat.lt_of_le_of_lt (Nat.div_le_self _ _) VL)
          have XO := xor64_01 (sx v k j) (v / 2 ^ s % 2) SL (by omega)
          have hbit : v / 2 ^ s % 2 < 2 := by omega
          rw [show ((v / 2 ^ s : Nat) : Int) = (v : Int) / 2 ^ s from by simp] at A1
          generalize v / 2 ^ s % 2 = bt at *
          have HNX := Lib.hid NX.out
          clear NX
          rw [← HNX.out] at XO
          generalize sx v k j = y at *
          have j0 : (0 : Int) ≤ (j : Int) := by omega
          have j1 : (j : Int) ≤ 4 := by omega
          have q0 : (q : Int) < 8 := by omega
          have s0 : (0 : Int) ≤ (s : Int) := by omega
          have s1 : (s : Int) ≤ 7 := by omega
          have b0 : (bt : Int) < 2 := by omega
          go_wp2_with fail
          go_round
          case rel => exact ⟨j + 1, by omega, by go_num, rfl⟩
          case measure => simp [intOf]; omega
        · have e1 : decide ((j : Int) < 5) = false := by rw [decide_eq_false_iff_not]; omega
          obtain rfl : j = 5 := by omega
          have SL := sx_lt v k 5
          have OR := so_or (so v k) (sx v k 5) k c (so_lt v k) SL
          rw [← NO.out] at OR
          have HB1 := Lib.hid (bstep HB.out (balloc (brefl wr) (.cells #[.int .i64 0, .int .i64 4, .int .i64 5, .int .i64 6, .int .i64 7] 3)))
          have p : 2 ^ k ≤ 2 ^ 7 := Nat.pow_le_pow_right (by omega) (by omega)
          have M : ((sx v k 5 : Nat) : Int) * 2 ^ k % 256 = ((sx v k 5 * 2 ^ k : Nat) : Int) := by
            have c1 : sx v k 5 * 2 ^ k ≤ 1 * 2 ^ k := Nat.mul_le_mul_right _ (by omega)
            rw [show ((sx v k 5 : Nat) : Int) * 2 ^ k = ((sx v k 5 * 2 ^ k : Nat) : Int) from by simp]
            omega
          clear p NO
          generalize sx v k 5 * 2 ^ k = z at *
          generalize sx v k 5 = y at *
          have y0 : (y : Int) < 2 := by omega
          go_wp2_with fail
          exact ⟨⟨k + 1, by omega, by go_num, rfl, HB1.out⟩, by simp [intOf]; omega⟩
    · have e0 : decide ((k : Int) < 8) = false := by rw [decide_eq_false_iff_not]; omega
      obtain rfl : k = 8 := by omega
      go_wp2_with fail
      go_ret
      exact ⟨by rw [SE.out]; rfl, HB.out⟩
end Go.Proofs.Ytfefkakdhaecpaa.Ae
