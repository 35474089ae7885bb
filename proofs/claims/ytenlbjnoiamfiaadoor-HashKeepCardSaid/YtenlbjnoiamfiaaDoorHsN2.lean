/-
  Digits of the base sixteen and what they say; the contract of sundiallaw04.value; a text in the base sixteen, place by place.
  Conditions: none.
-/
import Derived.Test.YtenlbjnoiamfiaaDoorHsZ
namespace Go.Proofs.YtenlbjnoiamfiaaDoor.Hs
open Go.ChangeShapes Go.WideShapes Go.ChangeAt Go.RowKit Go.Joins
set_option linter.unusedVariables false
set_option linter.unusedSimpArgs false

theorem val_0 (w : World) : Calls Tryd.prog 15 #[.int .u8 48] w fun e w' => e = .returned (.int .i64 0) ∧ w' = w := by
  go_enter Tryd.func15, Tryd.ntmps15
  go_wp2_with fail
  go_ret
  exact ⟨rfl, rfl⟩
theorem val_1 (w : World) : Calls Tryd.prog 15 #[.int .u8 49] w fun e w' => e = .returned (.int .i64 1) ∧ w' = w := by
  go_enter Tryd.func15, Tryd.ntmps15
  go_wp2_with fail
  go_ret
  exact ⟨rfl, rfl⟩
theorem val_2 (w : World) : Calls Tryd.prog 15 #[.int .u8 50] w fun e w' => e = .returned (.int .i64 2) ∧ w' = w := by
  go_enter Tryd.func15, Tryd.ntmps15
  go_wp2_with fail
  go_ret
  exact ⟨rfl, rfl⟩
theorem val_3 (w : World) : Calls Tryd.prog 15 #[.int .u8 51] w fun e w' => e = .returned (.int .i64 3) ∧ w' = w := by
  go_enter Tryd.func15, Tryd.ntmps15
  go_wp2_with fail
  go_ret
  exact ⟨rfl, rfl⟩
theorem val_4 (w : World) : Calls Tryd.prog 15 #[.int .u8 52] w fun e w' => e = .returned (.int .i64 4) ∧ w' = w := by
  go_enter Tryd.func15, Tryd.ntmps15
  go_wp2_with fail
  go_ret
  exact ⟨rfl, rfl⟩
theorem val_5 (w : World) : Calls Tryd.prog 15 #[.int .u8 53] w fun e w' => e = .returned (.int .i64 5) ∧ w' = w := by
  go_enter Tryd.func15, Tryd.ntmps15
  go_wp2_with fail
  go_ret
  exact ⟨rfl, rfl⟩
theorem val_6 (w : World) : Calls Tryd.prog 15 #[.int .u8 54] w fun e w' => e = .returned (.int .i64 6) ∧ w' = w := by
  go_enter Tryd.func15, Tryd.ntmps15
  go_wp2_with fail
  go_ret
  exact ⟨rfl, rfl⟩
theorem val_7 (w : World) : Calls Tryd.prog 15 #[.int .u8 55] w fun e w' => e = .returned (.int .i64 7) ∧ w' = w := by
  go_enter Tryd.func15, Tryd.ntmps15
  go_wp2_with fail
  go_ret
  exact ⟨rfl, rfl⟩
theorem val_8 (w : World) : Calls Tryd.prog 15 #[.int .u8 56] w fun e w' => e = .returned (.int .i64 8) ∧ w' = w := by
  go_enter Tryd.func15, Tryd.ntmps15
  go_wp2_with fail
  go_ret
  exact ⟨rfl, rfl⟩
theorem val_9 (w : World) : Calls Tryd.prog 15 #[.int .u8 57] w fun e w' => e = .returned (.int .i64 9) ∧ w' = w := by
  go_enter Tryd.func15, Tryd.ntmps15
  go_wp2_with fail
  go_ret
  exact ⟨rfl, rfl⟩
theorem val_10 (w : World) : Calls Tryd.prog 15 #[.int .u8 97] w fun e w' => e = .returned (.int .i64 10) ∧ w' = w := by
  go_enter Tryd.func15, Tryd.ntmps15
  go_wp2_with fail
  go_ret
  exact ⟨rfl, rfl⟩
theorem val_11 (w : World) : Calls Tryd.prog 15 #[.int .u8 98] w fun e w' => e = .returned (.int .i64 11) ∧ w' = w := by
  go_enter Tryd.func15, Tryd.ntmps15
  go_wp2_with fail
  go_ret
  exact ⟨rfl, rfl⟩
theorem val_12 (w : World) : Calls Tryd.prog 15 #[.int .u8 99] w fun e w' => e = .returned (.int .i64 12) ∧ w' = w := by
  go_enter Tryd.func15, Tryd.ntmps15
  go_wp2_with fail
  go_ret
  exact ⟨rfl, rfl⟩
theorem val_13 (w : World) : Calls Tryd.prog 15 #[.int .u8 100] w fun e w' => e = .returned (.int .i64 13) ∧ w' = w := by
  go_enter Tryd.func15, Tryd.ntmps15
  go_wp2_with fail
  go_ret
  exact ⟨rfl, rfl⟩
theorem val_14 (w : World) : Calls Tryd.prog 15 #[.int .u8 101] w fun e w' => e = .returned (.int .i64 14) ∧ w' = w := by
  go_enter Tryd.func15, Tryd.ntmps15
  go_wp2_with fail
  go_ret
  exact ⟨rfl, rfl⟩
theorem val_15 (w : World) : Calls Tryd.prog 15 #[.int .u8 102] w fun e w' => e = .returned (.int .i64 15) ∧ w' = w := by
  go_enter Tryd.func15, Tryd.ntmps15
  go_wp2_with fail
  go_ret
  exact ⟨rfl, rfl⟩
theorem value_c (d : Nat) (hd : d < 16) (w : World) : Calls Tryd.prog 15 #[.int .u8 ((dg d : Nat) : Int)] w fun e w' => e = .returned (.int .i64 (d : Int)) ∧ w' = w := by
  match d, hd with
  | 0, _ => exact val_0 w
  | 1, _ => exact val_1 w
  | 2, _ => exact val_2 w
  | 3, _ => exact val_3 w
  | 4, _ => exact val_4 w
  | 5, _ => exact val_5 w
  | 6, _ => exact val_6 w
  | 7, _ => exact val_7 w
  | 8, _ => exact val_8 w
  | 9, _ => exact val_9 w
  | 10, _ => exact val_10 w
  | 11, _ => exact val_11 w
  | 12, _ => exact val_12 w
  | 13, _ => exact val_13 w
  | 14, _ => exact val_14 w
  | 15, _ => exact val_15 w
  | _ + 16, h => exact absurd h (by omega)
theorem bs8_size (l : List Nat) : (bs8 l).size = l.length := by simp [bs8, ByteArray.size]
theorem hxL_get (f : Nat → Nat) (k : Nat) : ∀ n, k < n → (hxL f n)[2 * k]? = some (dg (f k / 16)) ∧ (hxL f n)[2 * k + 1]? = some (dg (f k % 16))
  | 0, h => absurd h (by omega)
  | n + 1, h => by
    have hl := hxL_len f n
    simp only [hxL]
    by_cases c : k < n
    · have ih := hxL_get f k n c
      rw [List.getElem?_append_left (by omega), List.getElem?_append_left (by omega)]
      exact ih
    · obtain rfl : k = n := by omega
      rw [List.getElem?_append_right (by omega), List.getElem?_append_right (by omega), hl]
      simp
theorem idx_bs8 (l : List Nat) (j x : Nat) (hx : l[j]? = some x) (hb : x < 256) (w : World) : (Instr.index 9 (.string (bs8 l)) (.int .i64 (j : Int))).run Tryd.prog w = .ok (.int .u8 (x : Int)) w := by
  have hj : j < l.length := (List.getElem?_eq_some_iff.1 hx).1
  have hs := bs8_size l
  rw [run_index_string w _ _ _ _ Tryd.underlying9]
  rw [dif_pos (by rw [hs]; omega)]
  have e : (bs8 l)[(j : Int).toNat]'(by rw [hs]; omega) = UInt8.ofNat x := by
    have := (List.getElem?_eq_some_iff.1 hx).2
    simp only [Int.toNat_natCast]
    show (bs8 l).data[j]'_ = _
    simp [bs8, this]
  rw [e]
  simp
  omega
end Go.Proofs.YtenlbjnoiamfiaaDoor.Hs
