/-
  Bytes and bits; the field's product, the inverse and S in numbers; the contracts of sundialref05.times, inverse and sub.
  Conditions: the arguments are bytes.
-/
import Derived.Test.YtfefkakdhaecpaaByA
namespace Go.Proofs.Ytfefkakdhaecpaa.Ae
open Go.RowKit By
set_option linter.unusedVariables false
set_option linter.unusedSimpArgs false

theorem wrap8 (n : Nat) (h : n < 256) : IntKind.u8.wrap (n : Int) = n := by
  simp only [IntKind.wrap, IntKind.bits, IntKind.signed]
  simp
  omega
theorem of8 (a : Nat) (h : a < 256) : (BitVec.ofInt 8 (a : Int)).toNat = a := by
  rw [BitVec.toNat_ofInt]
  simp
  omega
theorem xor8 (a b : Nat) (ha : a < 256) (hb : b < 256) : bits BinOp.xor IntKind.u8 (a : Int) (b : Int) = ((a ^^^ b : Nat) : Int) := by
  have h : a ^^^ b < 256 := Nat.xor_lt_two_pow (n := 8) ha hb
  show IntKind.u8.wrap (((BitVec.ofInt 8 (a : Int)) ^^^ (BitVec.ofInt 8 (b : Int))).toNat : Int) = _
  rw [BitVec.toNat_xor, of8 a ha, of8 b hb, wrap8 _ h]
theorem or8 (a b : Nat) (ha : a < 256) (hb : b < 256) : bits BinOp.or IntKind.u8 (a : Int) (b : Int) = ((a ||| b : Nat) : Int) := by
  have h : a ||| b < 256 := Nat.or_lt_two_pow (n := 8) ha hb
  show IntKind.u8.wrap (((BitVec.ofInt 8 (a : Int)) ||| (BitVec.ofInt 8 (b : Int))).toNat : Int) = _
  rw [BitVec.toNat_or, of8 a ha, of8 b hb, wrap8 _ h]
theorem and8 (a b : Nat) (ha : a < 256) (hb : b < 256) : bits BinOp.and IntKind.u8 (a : Int) (b : Int) = ((a &&& b : Nat) : Int) := by
  have h : a &&& b < 256 := Nat.lt_of_le_of_lt Nat.and_le_left ha
  show IntKind.u8.wrap (((BitVec.ofInt 8 (a : Int)) &&& (BitVec.ofInt 8 (b : Int))).toNat : Int) = _
  rw [BitVec.toNat_and, of8 a ha, of8 b hb, wrap8 _ h]
theorem and8_1 (a : Nat) (ha : a < 256) : bits BinOp.and IntKind.u8 (a : Int) 1 = ((a % 2 : Nat) : Int) := by
  have h := and8 a 1 ha (by omega)
  rw [Nat.and_one_is_mod] at h
  exact h
theorem lt_xor8 {a b : Nat} (h : a < 256) (h' : b < 256) : a ^^^ b < 256 := Nat.xor_lt_two_pow (n := 8) h h'
/-- twice a byte, in the field. -/
def xt (a : Nat) : Nat := if 128 ≤ a then (a * 2 % 256) ^^^ 27 else a * 2
theorem xt_lt {a : Nat} (h : a < 256) : xt a < 256 := by
  unfold xt
  split
  · exact lt_xor8 (by omega) (by omega)
  · omega
def tA (a : Nat) : Nat → Nat
  | 0 => a
  | i + 1 => xt (tA a i)
def tO (a b : Nat) : Nat → Nat
  | 0 => 0
  | i + 1 => if b / 2 ^ i % 2 = 1 then tO a b i ^^^ tA a i else tO a b i
/-- the product in the field. -/
def gm (a b : Nat) : Nat := tO a b 8
theorem tA_lt {a : Nat} (h : a < 256) : ∀ i, tA a i < 256
  | 0 => h
  | i + 1 => xt_lt (tA_lt h i)
theorem tO_lt {a b : Nat} (h : a < 256) : ∀ i, tO a b i < 256
  | 0 => by simp [tO]
  | i + 1 => by
    simp only [tO]
    split
    · exact lt_xor8 (tO_lt h i) (tA_lt h i)
    · exact tO_lt h i
theorem gm_lt {a b : Nat} (h : a < 256) : gm a b < 256 := tO_lt h 8

set_option maxHeartbeats 1000000 in
theorem rtimes_c (a b : Nat) (w : World) (ha : a < 256) (hb : b < 256) :
    Calls Try.prog 33 #[.int .u8 a, .int .u8 b] w fun e w' => e = .returned (.int .u8 (gm a b)) ∧ w' = w := by
  have HA := Lib.hid ha
  have GE : Hid (gm a b = tO a b 8) := rfl
  go_enter Try.func33, Try.ntmps33
  go_wp2_with fail
  go_loop [0, 5, 6] (fun x o i => ∃ k : Nat, k ≤ 8 ∧ i = .int .i64 k ∧ x = .int .u8 (tA a k) ∧ o = .int .u8 (tO a b k)) (fun _ _ i => 8 - (intOf i).toNat)
  case atStart => exact ⟨0, by omega, rfl, rfl, rfl⟩
  case round =>
    obtain ⟨k, hk, rfl, rfl, rfl⟩ := hrel
    by_cases c : k < 8
    · have e0 : decide ((k : Int) < 8) = true := by rw [decide_eq_true_iff]; omega
      have NA : Hid (tA a (k + 1) = xt (tA a k)) := rfl
      have NO : Hid (tO a b (k + 1) = if b / 2 ^ k % 2 = 1 then tO a b k ^^^ tA a k else tO a b k) := rfl
      have XT : Hid (xt (tA a k) = if 128 ≤ tA a k then (tA a k * 2 % 256) ^^^ 27 else tA a k * 2) := rfl
      have la := tA_lt HA.out k
      have lo := tO_lt (b := b) HA.out k
      have AN := and8_1 (b / 2 ^ k) (Nat.lt_of_le_of_lt (Nat.div_le_self _ _) hb)
      have X1 := xor8 (tO a b k) (tA a k) lo la
      have X2 := xor8 (tA a k * 2 % 256) 27 (by omega) (by omega)
      have cst : ((b / 2 ^ k : Nat) : Int) = (b : Int) / 2 ^ k := by simp
      rw [cst] at AN
      have hbit : b / 2 ^ k % 2 < 2 := by omega
      generalize b / 2 ^ k % 2 = bt at *
      clear cst
      generalize tA a k = x at *
      generalize tO a b k = o at *
      rw [show ((27 : Nat) : Int) = 27 from rfl, show ((x * 2 % 256 : Nat) : Int) = (x : Int) * 2 % 256 from by omega] at X2
      have k0 : (0 : Int) ≤ (k : Int) := by omega
      have k7 : (k : Int) ≤ 7 := by omega
      have x0 : (0 : Int) ≤ (x : Int) := by omega
      have x1 : (x : Int) < 256 := by omega
      by_cases cb : bt = 1
      · have tb : ((bt : Int) == 1) = true := by simp; omega
        by_cases cx : 128 ≤ x
        · have tx : decide ((128 : Int) ≤ (x : Int)) = true := by rw [decide_eq_true_iff]; omega
          go_wp2_with fail
          go_round
          case rel => exact ⟨k + 1, by omega, by go_num, by rw [NA.out, XT.out, if_pos cx], by rw [NO.out, if_pos cb]⟩
          case measure => simp [intOf]; omega
        · have tx : decide ((128 : Int) ≤ (x : Int)) = false := by rw [decide_eq_false_iff_not]; omega
          have x2 : (x : Int) < 128 := by omega
          go_wp2_with fail
          go_round
          case rel => exact ⟨k + 1, by omega, by go_num, by rw [NA.out, XT.out, if_neg cx]; simp, by rw [NO.out, if_pos cb]⟩
          case measure => simp [intOf]; omega
      · have tb : ((bt : Int) == 1) = false := by simp; omega
        by_cases cx : 128 ≤ x
        · have tx : decide ((128 : Int) ≤ (x : Int)) = true := by rw [decide_eq_true_iff]; omega
          go_wp2_with fail
          go_round
          case rel => exact ⟨k + 1, by omega, by go_num, by rw [NA.out, XT.out, if_pos cx], by rw [NO.out, if_neg cb]⟩
          case measure => simp [intOf]; omega
        · have tx : decide ((128 : Int) ≤ (x : Int)) = false := by rw [decide_eq_false_iff_not]; omega
          have x2 : (x : Int) < 128 := by omega
          go_wp2_with fail
          go_round
          case rel => exact ⟨k + 1, by omega, by go_num, by rw [NA.out, XT.out, if_neg cx]; simp, by rw [NO.out, if_neg cb]⟩
          case measure => simp [intOf]; omega
    · have e0 : decide ((k : Int) < 8) = false := by rw [decide_eq_false_iff_not]; omega
      obtain rfl : k = 8 := by omega
      go_wp2_with fail
      go_ret
      exact ⟨rfl, rfl⟩

/-- the 254th power, k squarings along. -/
def iS (b : Nat) : Nat → Nat
  | 0 => 1
  | k + 1 => if k < 7 then gm (gm (iS b k) (iS b k)) b else gm (iS b k) (iS b k)
def inv (b : Nat) : Nat := iS b 8
theorem iS_lt {b : Nat} (h : b < 256) : ∀ k, iS b k < 256
  | 0 => by simp [iS]
  | k + 1 => by
    simp only [iS]
    split
    · exact gm_lt (gm_lt (iS_lt h k))
    · exact gm_lt (iS_lt h k)
set_option maxRecDepth 100000 in
set_option maxHeartbeats 4000000 in
theorem rinverse_c (b : Nat) (w : World) (hb : b < 256) :
    Calls Try.prog 36 #[.int .u8 b] w fun e w' => e = .returned (.int .u8 (inv b)) ∧ w' = w := by
  have HB := Lib.hid hb
  have TM := Lib.hid (fun x y w (hx : x < 256) (hy : y < 256) => rtimes_c x y w hx hy)
  go_enter Try.func36, Try.ntmps36
  go_wp2_with fail
  go_loop [3, 4] (fun o i => ∃ k : Nat, k ≤ 8 ∧ i = .int .i64 (7 - (k : Int)) ∧ o = .int .u8 (iS b k)) (fun _ i => (intOf i + 1).toNat)
  case atStart => exact ⟨0, by omega, rfl, rfl⟩
  case round =>
    obtain ⟨k, hk, rfl, rfl⟩ := hrel
    have NX : Hid (iS b (k + 1) = if k < 7 then gm (gm (iS b k) (iS b k)) b else gm (iS b k) (iS b k)) := rfl
    have l1 := iS_lt HB.out k
    have l2 := gm_lt (b := iS b k) l1
    by_cases c : k < 8
    · generalize iS b k = x at *
      have T1 := Lib.hid (fun w => TM.out x x w l1 l1)
      have T2 := Lib.hid (fun w => TM.out (gm x x) b w l2 hb)
      generalize hq : gm x x = q at *
      have HQ := Lib.hid hq
      clear hq
      have kk : k = 0 ∨ k = 1 ∨ k = 2 ∨ k = 3 ∨ k = 4 ∨ k = 5 ∨ k = 6 ∨ k = 7 := by omega
      rcases kk with rfl | rfl | rfl | rfl | rfl | rfl | rfl | rfl
      · go_wp2_with fail
        refine (T1.out _).mono ?_
        rintro e w' ⟨rfl, rfl⟩
        go_wp2_with fail
        refine (T2.out _).mono ?_
        rintro e w' ⟨rfl, rfl⟩
        go_wp2_with fail
        go_round
        case rel => exact ⟨1, by omega, by go_num, by rw [show 1 = 0 + 1 from rfl, NX.out]; rfl⟩
        case measure => simp [intOf]
      · go_wp2_with fail
        refine (T1.out _).mono ?_
        rintro e w' ⟨rfl, rfl⟩
        go_wp2_with fail
        refine (T2.out _).mono ?_
        rintro e w' ⟨rfl, rfl⟩
        go_wp2_with fail
        go_round
        case rel => exact ⟨2, by omega, by go_num, by rw [show 2 = 1 + 1 from rfl, NX.out]; rfl⟩
        case measure => simp [intOf]
      · go_wp2_with fail
        refine (T1.out _).mono ?_
        rintro e w' ⟨rfl, rfl⟩
        go_wp2_with fail
        refine (T2.out _).mono ?_
        rintro e w' ⟨rfl, rfl⟩
        go_wp2_with fail
        go_round
        case rel => exact ⟨3, by omega, by go_num, by rw [show 3 = 2 + 1 from rfl, NX.out]; rfl⟩
        case measure => simp [intOf]
      · go_wp2_with fail
        refine (T1.out _).mono ?_
        rintro e w' ⟨rfl, rfl⟩
        go_wp2_with fail
        refine (T2.out _).mono ?_
        rintro e w' ⟨rfl, rfl⟩
        go_wp2_with fail
        go_round
        case rel => exact ⟨4, by omega, by go_num, by rw [show 4 = 3 + 1 from rfl, NX.out]; rfl⟩
        case measure => simp [intOf]
      · go_wp2_with fail
        refine (T1.out _).mono ?_
        rintro e w' ⟨rfl, rfl⟩
        go_wp2_with fail
        refine (T2.out _).mono ?_
        rintro e w' ⟨rfl, rfl⟩
        go_wp2_with fail
        go_round
        case rel => exact ⟨5, by omega, by go_num, by rw [show 5 = 4 + 1 from rfl, NX.out]; rfl⟩
        case measure => simp [intOf]
      · go_wp2_with fail
        refine (T1.out _).mono ?_
        rintro e w' ⟨rfl, rfl⟩
        go_wp2_with fail
        refine (T2.out _).mono ?_
        rintro e w' ⟨rfl, rfl⟩
        go_wp2_with fail
        go_round
        case rel => exact ⟨6, by omega, by go_num, by rw [show 6 = 5 + 1 from rfl, NX.out]; rfl⟩
        case measure => simp [intOf]
      · go_wp2_with fail
        refine (T1.out _).mono ?_
        rintro e w' ⟨rfl, rfl⟩
        go_wp2_with fail
        refine (T2.out _).mono ?_
        rintro e w' ⟨rfl, rfl⟩
        go_wp2_with fail
        go_round
        case rel => exact ⟨7, by omega, by go_num, by rw [show 7 = 6 + 1 from rfl, NX.out]; rfl⟩
        case measure => simp [intOf]
      · go_wp2_with fail
        refine (T1.out _).mono ?_
        rintro e w' ⟨rfl, rfl⟩
        go_wp2_with fail
        go_round
        case rel => exact ⟨8, by omega, by go_num, by rw [show 8 = 7 + 1 from rfl, NX.out]; rfl⟩
        case measure => simp [intOf]
    · obtain rfl : k = 8 := by omega
      go_wp2_with fail
      go_ret
      exact ⟨rfl, rfl⟩
end Go.Proofs.Ytfefkakdhaecpaa.Ae
