/-
  The sum of a NMEA line's body, as two digits: radio.sumOf, isBody, isSum; sundialref13.Sum and hex.
  Conditions: the bodies have no more than 2^62 bytes.
-/
import Derived.Test.YtoecgabdjpgleaaGreatDoorRdF
import Derived.Test.YtoecgabdjpgleaaGreatDoorWa
import Derived.Test.YtoecgabdjpgleaaGreatDoorWf
import Derived.Test.YtoecgabdjpgleaaGreatDoorShelfX
import Derived.Deep.RegionLaw
namespace Go.Proofs.YtoecgabdjpgleaaGreatDoor.Rd
open Go.RowKit Cv By
set_option linter.unusedVariables false
set_option linter.unusedSimpArgs false

theorem of8 (a : Nat) (h : a < 256) : (BitVec.ofInt 8 (a : Int)).toNat = a := by
  rw [BitVec.toNat_ofInt]
  simp
  omega
theorem wrap8 (n : Nat) (h : n < 256) : IntKind.u8.wrap (n : Int) = n := by
  simp only [IntKind.wrap, IntKind.bits, IntKind.signed]
  simp
  omega
theorem xor8 (a b : Nat) (ha : a < 256) (hb : b < 256) : bits BinOp.xor IntKind.u8 (a : Int) (b : Int) = ((a ^^^ b : Nat) : Int) := by
  have h : a ^^^ b < 256 := Nat.xor_lt_two_pow (n := 8) ha hb
  show IntKind.u8.wrap (((BitVec.ofInt 8 (a : Int)) ^^^ (BitVec.ofInt 8 (b : Int))).toNat : Int) = _
  rw [BitVec.toNat_xor, of8 a ha, of8 b hb, wrap8 _ h]
theorem and15 (x : Nat) (hx : x < 256) : bits BinOp.and IntKind.u8 (x : Int) 15 = ((x % 16 : Nat) : Int) := by
  have e : (BitVec.ofInt 8 (x : Int) &&& BitVec.ofInt 8 15).toNat = x % 16 := by
    rw [BitVec.toNat_and, BitVec.toNat_ofInt, BitVec.toNat_ofInt]
    have h : ((15 : Int) % ((2 ^ 8 : Nat) : Int)).toNat = 2 ^ 4 - 1 := by decide
    rw [h, Nat.and_two_pow_sub_one_eq_mod]
    omega
  show IntKind.u8.wrap ((BitVec.ofInt 8 (x : Int) &&& BitVec.ofInt 8 15).toNat : Int) = _
  rw [e]
  simp only [IntKind.wrap, IntKind.bits, IntKind.signed]
  simp
  omega
/-- a digit of the base sixteen, as its byte (capital letters). -/
def cg (k : Nat) : Nat := if k < 10 then 48 + k else 55 + k
theorem cg_lt {k : Nat} (h : k < 16) : cg k < 256 := by unfold cg; split <;> omega
theorem cix_0 (w : World) : (Instr.index 9 (.string ⟨#[48, 49, 50, 51, 52, 53, 54, 55, 56, 57, 65, 66, 67, 68, 69, 70]⟩) (.int .u8 0)).run Tryz.prog w = .ok (.int .u8 48) w := by kernel_rfl
theorem cix_1 (w : World) : (Instr.index 9 (.string ⟨#[48, 49, 50, 51, 52, 53, 54, 55, 56, 57, 65, 66, 67, 68, 69, 70]⟩) (.int .u8 1)).run Tryz.prog w = .ok (.int .u8 49) w := by kernel_rfl
theorem cix_2 (w : World) : (Instr.index 9 (.string ⟨#[48, 49, 50, 51, 52, 53, 54, 55, 56, 57, 65, 66, 67, 68, 69, 70]⟩) (.int .u8 2)).run Tryz.prog w = .ok (.int .u8 50) w := by kernel_rfl
theorem cix_3 (w : World) : (Instr.index 9 (.string ⟨#[48, 49, 50, 51, 52, 53, 54, 55, 56, 57, 65, 66, 67, 68, 69, 70]⟩) (.int .u8 3)).run Tryz.prog w = .ok (.int .u8 51) w := by kernel_rfl
theorem cix_4 (w : World) : (Instr.index 9 (.string ⟨#[48, 49, 50, 51, 52, 53, 54, 55, 56, 57, 65, 66, 67, 68, 69, 70]⟩) (.int .u8 4)).run Tryz.prog w = .ok (.int .u8 52) w := by kernel_rfl
theorem cix_5 (w : World) : (Instr.index 9 (.string ⟨#[48, 49, 50, 51, 52, 53, 54, 55, 56, 57, 65, 66, 67, 68, 69, 70]⟩) (.int .u8 5)).run Tryz.prog w = .ok (.int .u8 53) w := by kernel_rfl
theorem cix_6 (w : World) : (Instr.index 9 (.string ⟨#[48, 49, 50, 51, 52, 53, 54, 55, 56, 57, 65, 66, 67, 68, 69, 70]⟩) (.int .u8 6)).run Tryz.prog w = .ok (.int .u8 54) w := by kernel_rfl
theorem cix_7 (w : World) : (Instr.index 9 (.string ⟨#[48, 49, 50, 51, 52, 53, 54, 55, 56, 57, 65, 66, 67, 68, 69, 70]⟩) (.int .u8 7)).run Tryz.prog w = .ok (.int .u8 55) w := by kernel_rfl
theorem cix_8 (w : World) : (Instr.index 9 (.string ⟨#[48, 49, 50, 51, 52, 53, 54, 55, 56, 57, 65, 66, 67, 68, 69, 70]⟩) (.int .u8 8)).run Tryz.prog w = .ok (.int .u8 56) w := by kernel_rfl
theorem cix_9 (w : World) : (Instr.index 9 (.string ⟨#[48, 49, 50, 51, 52, 53, 54, 55, 56, 57, 65, 66, 67, 68, 69, 70]⟩) (.int .u8 9)).run Tryz.prog w = .ok (.int .u8 57) w := by kernel_rfl
theorem cix_10 (w : World) : (Instr.index 9 (.string ⟨#[48, 49, 50, 51, 52, 53, 54, 55, 56, 57, 65, 66, 67, 68, 69, 70]⟩) (.int .u8 10)).run Tryz.prog w = .ok (.int .u8 65) w := by kernel_rfl
theorem cix_11 (w : World) : (Instr.index 9 (.string ⟨#[48, 49, 50, 51, 52, 53, 54, 55, 56, 57, 65, 66, 67, 68, 69, 70]⟩) (.int .u8 11)).run Tryz.prog w = .ok (.int .u8 66) w := by kernel_rfl
theorem cix_12 (w : World) : (Instr.index 9 (.string ⟨#[48, 49, 50, 51, 52, 53, 54, 55, 56, 57, 65, 66, 67, 68, 69, 70]⟩) (.int .u8 12)).run Tryz.prog w = .ok (.int .u8 67) w := by kernel_rfl
theorem cix_13 (w : World) : (Instr.index 9 (.string ⟨#[48, 49, 50, 51, 52, 53, 54, 55, 56, 57, 65, 66, 67, 68, 69, 70]⟩) (.int .u8 13)).run Tryz.prog w = .ok (.int .u8 68) w := by kernel_rfl
theorem cix_14 (w : World) : (Instr.index 9 (.string ⟨#[48, 49, 50, 51, 52, 53, 54, 55, 56, 57, 65, 66, 67, 68, 69, 70]⟩) (.int .u8 14)).run Tryz.prog w = .ok (.int .u8 69) w := by kernel_rfl
theorem cix_15 (w : World) : (Instr.index 9 (.string ⟨#[48, 49, 50, 51, 52, 53, 54, 55, 56, 57, 65, 66, 67, 68, 69, 70]⟩) (.int .u8 15)).run Tryz.prog w = .ok (.int .u8 70) w := by kernel_rfl
theorem cix (k : Nat) (hk : k < 16) (w : World) : (Instr.index 9 (.string ⟨#[48, 49, 50, 51, 52, 53, 54, 55, 56, 57, 65, 66, 67, 68, 69, 70]⟩) (.int .u8 (k : Int))).run Tryz.prog w = .ok (.int .u8 ((cg k : Nat) : Int)) w := by
  match k, hk with
  | 0, _ => exact cix_0 w
  | 1, _ => exact cix_1 w
  | 2, _ => exact cix_2 w
  | 3, _ => exact cix_3 w
  | 4, _ => exact cix_4 w
  | 5, _ => exact cix_5 w
  | 6, _ => exact cix_6 w
  | 7, _ => exact cix_7 w
  | 8, _ => exact cix_8 w
  | 9, _ => exact cix_9 w
  | 10, _ => exact cix_10 w
  | 11, _ => exact cix_11 w
  | 12, _ => exact cix_12 w
  | 13, _ => exact cix_13 w
  | 14, _ => exact cix_14 w
  | 15, _ => exact cix_15 w
  | _ + 16, h => exact absurd h (by omega)

/-- the xor of the first k bytes. -/
def xs (s : ByteArray) : Nat → Nat
  | 0 => 0
  | k + 1 => xs s k ^^^ Wd.gn s k
theorem xs_lt (s : ByteArray) : ∀ k, xs s k < 256
  | 0 => by simp [xs]
  | k + 1 => Nat.xor_lt_two_pow (n := 8) (xs_lt s k) (Wd.gn_lt s k)
/-- two digits. -/
def dd (x : Nat) : ByteArray := bs8 [cg (x / 16), cg (x % 16)]
def sumT (s : ByteArray) : ByteArray := dd (xs s s.size)
theorem own_two (w : World) (a b : Nat) : Own (w.alloc (.cells #[.int .u8 (a : Int), .int .u8 (b : Int)] 5)) w.heap.size (.slice (some ⟨w.heap.size, 0, none⟩) 2 2) [a, b] :=
  ⟨rfl, .inr ⟨w.heap.size, 2, _, rfl, Nat.le_refl _, heap_alloc_new w _, by simp, by unfold maxLen; omega, rfl, rfl⟩⟩
theorem conv_two (w w' : World) (a b : Nat) (ha : a < 256) (hb : b < 256) (k : Below (w.heap.size + 1) (w.alloc (.cells #[.int .u8 (a : Int), .int .u8 (b : Int)] 5)) w') : (convert 31 9 (.slice (some ⟨w.heap.size, 0, none⟩) 2 2)).run Tryz.prog w' = .ok (.string (bs8 [a, b])) w' :=
  (own_two w a b).conv (by simp) (by intro x hx; simp at hx; omega) (by simpa using k)

set_option maxRecDepth 100000 in
set_option maxHeartbeats 4000000 in
theorem sumOf_c (s : ByteArray) (w : World) (hs : s.size ≤ 4611686018427387904) :
    Calls Tryz.prog 44 #[.string s] w fun e w' => e = .returned (.string (sumT s)) ∧ Below w.heap.size w w' := by
  obtain ⟨r, HR⟩ : ∃ r, Hid (sumT s = r) := ⟨_, Lib.hid rfl⟩
  rw [HR.out]
  go_enter Tryz.func44, Tryz.ntmps44
  go_wp2_with fail
  go_loopw [3, 7] (fun v i wr => ∃ k : Nat, k ≤ s.size ∧ i = .int .i64 k ∧ v = .int .u8 (xs s k : Nat) ∧ wr = w) (fun _ i _ => s.size - (intOf i).toNat)
  case atStart => exact ⟨0, Nat.zero_le _, rfl, rfl, rfl⟩
  case round =>
    obtain ⟨k, hk, rfl, rfl, rfl⟩ := hrel
    by_cases c : k < s.size
    · have e0 : decide ((k : Int) < (s.size : Int)) = true := by rw [decide_eq_true_iff]; omega
      have ga := Wd.gn_at s k c
      have gl := Wd.gn_lt s k
      have xl := xs_lt s k
      have X1 := xor8 (xs s k) (Wd.gn s k) xl gl
      have VS : Hid (xs s (k + 1) = xs s k ^^^ Wd.gn s k) := Lib.hid rfl
      generalize xs s k = V at *
      generalize Wd.gn s k = x at *
      go_wp2_with fail
      go_roundw
      case rel => exact ⟨k + 1, by omega, by go_num, by rw [VS.out], trivial⟩
      case measure => simp [intOf]; omega
    · have e0 : decide ((k : Int) < (s.size : Int)) = false := by rw [decide_eq_false_iff_not]; omega
      have ek : k = s.size := by omega
      have RF : Hid (r = bs8 [cg (xs s k / 16), cg (xs s k % 16)]) := Lib.hid (by rw [← HR.out, ek]; rfl)
      have xl := xs_lt s k
      clear ek HR
      have I1 := cix (xs s k / 16) (by omega)
      have I2 := cix (xs s k % 16) (by omega)
      have c1 := cg_lt (k := xs s k / 16) (by omega)
      have c2 := cg_lt (k := xs s k % 16) (by omega)
      have A1 := and15 (xs s k) xl
      generalize xs s k = x at *
      have CV : (convert 31 9 (.slice (some ⟨wr.heap.size, 0, none⟩) 2 2)).run Tryz.prog (wr.alloc (.cells #[.int .u8 ((cg (x / 16) : Nat) : Int), .int .u8 ((cg (x % 16) : Nat) : Int)] 5)).drew = .ok (.string (bs8 [cg (x / 16), cg (x % 16)])) (wr.alloc (.cells #[.int .u8 ((cg (x / 16) : Nat) : Int), .int .u8 ((cg (x % 16) : Nat) : Int)] 5)).drew :=
        conv_two wr _ (cg (x / 16)) (cg (x % 16)) c1 c2 (Below.refl _ _).drew
      rw [show ((x / 16 : Nat) : Int) = (x : Int) / 16 from by omega] at I1
      rw [show ((x % 16 : Nat) : Int) = (x : Int) % 16 from by omega] at I2 A1
      have x0 : (0 : Int) ≤ (x : Int) := by omega
      have x1 : (x : Int) < 256 := by omega
      have D1 : IntKind.u8.wrap ((x : Int) / 16) = (x : Int) / 16 := by rw [show (x : Int) / 16 = ((x / 16 : Nat) : Int) by omega]; exact wrap8 _ (by omega)
      have D2 : (x : Int).tmod 16 = (x : Int) % 16 := Int.tmod_eq_emod_of_nonneg x0
      generalize cg (x / 16) = a1 at *
      generalize cg (x % 16) = a2 at *
      generalize bs8 [a1, a2] = R at *
      go_wp2_with fail
      go_region_law (fail)
      all_goals
        go_wp2_with fail
        refine bodyPost_ret (v := .string R) ?_ ?_ ?_
        · first | rfl | simp [results, Tryz.results44, Act.put, go_sem]
        · rfl
        · exact ⟨by rw [RF.out], Cv.bdrew (Cv.balloc (Cv.brefl _) _) 1⟩

set_option maxRecDepth 100000 in
set_option maxHeartbeats 4000000 in
theorem rSum_c (s : ByteArray) (w : World) (hs : s.size ≤ 4611686018427387904) :
    Calls Tryz.prog 10 #[.string s] w fun e w' => e = .returned (.string (sumT s)) ∧ Below w.heap.size w w' := by
  obtain ⟨r, HR⟩ : ∃ r, Hid (sumT s = r) := ⟨_, Lib.hid rfl⟩
  rw [HR.out]
  go_enter Tryz.func10, Tryz.ntmps10
  go_wp2_with fail
  go_loopw [3, 4] (fun v i wr => ∃ k : Nat, k ≤ s.size ∧ i = .int .i64 k ∧ v = .int .u8 (xs s k : Nat) ∧ wr = w) (fun _ i _ => s.size - (intOf i).toNat)
  case atStart => exact ⟨0, Nat.zero_le _, rfl, rfl, rfl⟩
  case round =>
    obtain ⟨k, hk, rfl, rfl, rfl⟩ := hrel
    by_cases c : k < s.size
    · have e0 : decide ((k : Int) < (s.size : Int)) = true := by rw [decide_eq_true_iff]; omega
      have ga := Wd.gn_at s k c
      have gl := Wd.gn_lt s k
      have xl := xs_lt s k
      have X1 := xor8 (xs s k) (Wd.gn s k) xl gl
      have VS : Hid (xs s (k + 1) = xs s k ^^^ Wd.gn s k) := Lib.hid rfl
      generalize xs s k = V at *
      generalize Wd.gn s k = x at *
      go_wp2_with fail
      go_roundw
      case rel => exact ⟨k + 1, by omega, by go_num, by rw [VS.out], trivial⟩
      case measure => simp [intOf]; omega
    · have e0 : decide ((k : Int) < (s.size : Int)) = false := by rw [decide_eq_false_iff_not]; omega
      have ek : k = s.size := by omega
      have RF : Hid (r = bs8 [cg (xs s k / 16), cg (xs s k % 16)]) := Lib.hid (by rw [← HR.out, ek]; rfl)
      have xl := xs_lt s k
      clear ek HR
      have I1 := cix (xs s k / 16) (by omega)
      have I2 := cix (xs s k % 16) (by omega)
      have c1 := cg_lt (k := xs s k / 16) (by omega)
      have c2 := cg_lt (k := xs s k % 16) (by omega)
      have A1 := and15 (xs s k) xl
      generalize xs s k = x at *
      have CV : (convert 31 9 (.slice (some ⟨wr.heap.size, 0, none⟩) 2 2)).run Tryz.prog (wr.alloc (.cells #[.int .u8 ((cg (x / 16) : Nat) : Int), .int .u8 ((cg (x % 16) : Nat) : Int)] 5)).drew = .ok (.string (bs8 [cg (x / 16), cg (x % 16)])) (wr.alloc (.cells #[.int .u8 ((cg (x / 16) : Nat) : Int), .int .u8 ((cg (x % 16) : Nat) : Int)] 5)).drew :=
        conv_two wr _ (cg (x / 16)) (cg (x % 16)) c1 c2 (Below.refl _ _).drew
      rw [show ((x / 16 : Nat) : Int) = (x : Int) / 16 from by omega] at I1
      rw [show ((x % 16 : Nat) : Int) = (x : Int) % 16 from by omega] at I2 A1
      have x0 : (0 : Int) ≤ (x : Int) := by omega
      have x1 : (x : Int) < 256 := by omega
      have D1 : IntKind.u8.wrap ((x : Int) / 16) = (x : Int) / 16 := by rw [show (x : Int) / 16 = ((x / 16 : Nat) : Int) by omega]; exact wrap8 _ (by omega)
      have D2 : (x : Int).tmod 16 = (x : Int) % 16 := Int.tmod_eq_emod_of_nonneg x0
      generalize cg (x / 16) = a1 at *
      generalize cg (x % 16) = a2 at *
      generalize bs8 [a1, a2] = R at *
      go_wp2_with fail
      go_region_law (fail)
      all_goals
        go_wp2_with fail
        refine bodyPost_ret (v := .string R) ?_ ?_ ?_
        · first | rfl | simp [results, Tryz.results10, Act.put, go_sem]
        · rfl
        · exact ⟨by rw [RF.out], Cv.bdrew (Cv.balloc (Cv.brefl _) _) 1⟩
end Go.Proofs.YtoecgabdjpgleaaGreatDoor.Rd
