/-
  The contract of sundialref04.Hex.
  Conditions: no more than 2^40 bytes.
-/
import Derived.Test.YtkjolaoajbdomaaGreatDoorHsZ
import Derived.Deep.RegionHeld3
namespace Go.Proofs.YtkjolaoajbdomaaGreatDoor.Hs
open Go.RowKit
set_option linter.unusedVariables false
set_option linter.unusedSimpArgs false

theorem u8_div (x : Nat) (hx : x < 256) : IntKind.u8.wrap ((x : Int) / 16) = ((x / 16 : Nat) : Int) := by
  simp only [IntKind.wrap, IntKind.bits, IntKind.signed]
  simp
  omega
theorem u8_mod (x : Nat) (hx : x < 256) : IntKind.u8.wrap ((x : Int) % 16) = ((x % 16 : Nat) : Int) := by
  simp only [IntKind.wrap, IntKind.bits, IntKind.signed]
  simp
  omega
theorem bdr2 {a b : World} (h : Below a.heap.size a b) : Below a.heap.size a b.drew := h.drew

set_option maxRecDepth 100000 in
set_option maxHeartbeats 4000000 in
theorem rHex_c (a : Option Addr) (n cap : Nat) (f : Nat → Nat) (w : World) (hn : n ≤ 1099511627776) (hf : ∀ i, f i < 256) (HA : Hid (0 < n → ∃ b off, a = some ⟨b, off, none⟩ ∧ Bs w b off n f)) :
    Calls Tryz.prog 47 #[.slice a n cap] w fun e w' => e = .returned (.string (bs8 (hxL f n))) ∧ Below w.heap.size w w' := by
  have HF := Lib.hid hf
  clear hf
  have k0 : (0 : Int) ≤ (n : Int) := by omega
  have k1 : (n : Int) ≤ 1099511627776 := by omega
  go_enter Tryz.func47, Tryz.ntmps47
  go_wp2_with fail
  go_loopw [4, 5] (fun v i wr => ∃ k : Nat, k ≤ n ∧ i = .int .i64 k ∧ Own wr w.heap.size v (hxL f k) ∧ Below w.heap.size w wr) (fun _ i _ => n - (intOf i).toNat)
  case atStart => exact ⟨0, by omega, rfl, Own.nil _ _, Below.refl _ _⟩
  case round =>
    obtain ⟨k, hk, rfl, own, hb⟩ := hrel
    rename World => wr
    have HL := hxL_len f k
    by_cases c : k < n
    · have e0 : decide ((k : Int) < (n : Int)) = true := by rw [decide_eq_true_iff]; omega
      obtain ⟨b, off, rfl, B⟩ := HA.out (by omega)
      have g := (B.below hb).2.2 k c
      have gl := (B.below hb).1
      have xl := HF.out k
      obtain ⟨v2, w2, hr, ho, hb2, hs2⟩ := appL (w := wr.drew) (World.ownsRow.drew own) [dg (f k / 16), dg (f k % 16)] (by simp) hb.size (by rw [HL]; simp; omega) 28
      have HR : Hid ((Builtin.append_ #[28, 28] 28 #[_, .slice (some ⟨wr.heap.size, 0, none⟩) 2 2]).run Tryz.prog (wr.drew.alloc (.cells #[.int .u8 ((dg (f k / 16) : Nat) : Int), .int .u8 ((dg (f k % 16) : Nat) : Int)] 5)) = .ok v2 w2) := Lib.hid hr
      have HO : Hid (Own w2 w.heap.size v2 (hxL f (k + 1))) := Lib.hid ho
      have HB2 := Lib.hid ((hb.trans (bdrew1 _ _)).trans hb2)
      have HC2 : Hid (w2.cell? ⟨b, off + k, none⟩ = some (.int .u8 (f k : Int))) := Lib.hid ((hb2.cell (p := ⟨b, off + k, none⟩) B.1).trans g)
      clear hr ho hb2 hs2 own hb B HL
      have I1 := hix (f k / 16) (by omega)
      have I2 := hix (f k % 16) (by omega)
      have D1 := u8_div (f k) xl
      have D2 := u8_mod (f k) xl
      generalize f k = x at *
      have x0 : (0 : Int) ≤ (x : Int) := by omega
      have x1 : (x : Int) < 256 := by omega
      have c0 : (0 : Int) ≤ (k : Int) := by omega
      have c1 : (k : Int) < (n : Int) := by omega
      have TM : (x : Int).tmod 16 = ((x % 16 : Nat) : Int) := by rw [Int.tmod_eq_emod_of_nonneg (by omega)]; omega
      have I3 := I2
      rw [show ((x % 16 : Nat) : Int) = (x : Int) % 16 from by omega] at I3
      generalize x / 16 = xa at *
      generalize x % 16 = xb at *
      go_wp2_with fail
      have KP : Hid (∀ w' : World, Below wr.heap.size wr w' → w'.cell? ⟨b, off + k, none⟩ = some (.int .u8 (x : Int))) := Lib.hid fun w' D => (D.cell (p := ⟨b, off + k, none⟩) gl).trans g
      go_region_held3 (fun w' => w'.cell? ⟨b, off + k, none⟩ = some (.int .u8 (x : Int)))
        (first | exact HC2.out | (refine KP.out _ ?_; repeat (first | exact brefl _ | refine balloc ?_ _ | refine bdr2 ?_)))
        (first | (refine step_append_eq rfl (.tmp 12) (.tmp 27) 28 rfl _ _ v2 w2 rfl rfl HR.out ?_))
      all_goals
        go_wp2_with fail
        go_roundw
        case rel => exact ⟨k + 1, by omega, by go_num, HO.out, HB2.out⟩
        case measure => simp [intOf]; omega
    · have e0 : decide ((k : Int) < (n : Int)) = false := by rw [decide_eq_false_iff_not]; omega
      obtain rfl : k = n := by omega
      have HB0 := Lib.hid hb
      by_cases k0 : 0 < k
      · have C := own.conv (by rw [HL]; omega) (hxL_byte HF.out k) (brefl _)
        clear own hb
        go_wp2_with fail
        go_ret
        exact ⟨rfl, HB0.out⟩
      · obtain rfl : k = 0 := by omega
        have C : ∀ p c, (convert 28 9 (.slice p 0 c)).run Tryz.prog wr = .ok (.string (bs8 [])) wr := fun p c => conv_zero wr p c
        rcases own.2 with ⟨rfl, _⟩ | ⟨g, cp, cur, rfl, _⟩
        all_goals
          clear own hb
          go_wp2_with fail
          go_ret
          exact ⟨rfl, HB0.out⟩
end Go.Proofs.YtkjolaoajbdomaaGreatDoor.Hs
