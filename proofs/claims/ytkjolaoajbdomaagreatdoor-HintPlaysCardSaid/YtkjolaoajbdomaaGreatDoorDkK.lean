/-
  The document's disk: Name, find, change, New, Cut, Restart.
  Conditions: none.
-/
import Derived.Test.YtkjolaoajbdomaaGreatDoorDkD
namespace Go.Proofs.YtkjolaoajbdomaaGreatDoor.Dk
open Go.RowKit Go.ChangeShapes Go.WideShapes Go.ChangeAt Go.Joins Go.Maps By Ct
set_option linter.unusedVariables false
set_option linter.unusedSimpArgs false

theorem gb_lt (s : ByteArray) (i : Nat) : gb s i < 256 := by
  unfold gb
  exact (s.data.toList.getD i 0).toNat_lt
set_option maxRecDepth 100000 in
set_option maxHeartbeats 8000000 in
theorem rName_c (s : ByteArray) (w : World) (hs : s.size ≤ 9223372036854775807) : Calls Tryz.prog 36 #[.string s] w fun e w' => e = .returned (.bool (okN s.data.toList)) ∧ w' = w := by
  obtain ⟨R, HR⟩ : ∃ R, Hid (R = okN s.data.toList) := ⟨_, Lib.hid rfl⟩
  rw [← HR.out]
  go_enter Tryz.func36, Tryz.ntmps36
  go_wp2_with fail
  go_loopw [3] (fun i wr => ∃ k : Nat, k ≤ s.size ∧ i = .int .i64 k ∧ (∀ j, j < k → okb (gb s j) = true) ∧ wr = w) (fun i _ => s.size - (intOf i).toNat)
  case atStart => exact ⟨0, Nat.zero_le _, rfl, fun j hj => absurd hj (Nat.not_lt_zero _), rfl⟩
  case round =>
    obtain ⟨k, hk, rfl, hno, rfl⟩ := hrel
    have NO := Lib.hid hno
    clear hno
    by_cases c : k < s.size
    · have e0 : decide ((k : Int) < (s.size : Int)) = true := by rw [decide_eq_true_iff]; omega
      have ga := gb_at s k c
      have gl := gb_lt s k
      have HD : Hid (okb (gb s k) = ((decide (97 ≤ gb s k) && decide (gb s k ≤ 122)) || (decide (48 ≤ gb s k) && decide (gb s k ≤ 57)) || decide (gb s k = 46))) := Lib.hid rfl
      have NX : Hid (okb (gb s k) = true → ∀ j, j < k + 1 → okb (gb s j) = true) := Lib.hid (fun h j hj => by
        by_cases e : j = k
        · subst e; exact h
        · exact NO.out j (by omega))
      have NB : Hid (okb (gb s k) = false → R = false) := Lib.hid (fun h => by rw [HR.out]; exact okN_not c h)
      generalize hx : gb s k = x at *
      clear hx
      by_cases d1 : 97 ≤ x
      · have t1 : decide (97 ≤ (x : Int)) = true := by rw [decide_eq_true_iff]; omega
        by_cases d2 : x ≤ 122
        · have t2 : decide ((x : Int) ≤ 122) = true := by rw [decide_eq_true_iff]; omega
          have NY := Lib.hid (NX.out (by rw [HD.out]; simp; omega))
          go_wp2_with fail
          go_roundw
          case rel => exact ⟨k + 1, by omega, by go_num, NY.out, trivial⟩
          case measure => simp [intOf]; omega
        · have t2 : decide ((x : Int) ≤ 122) = false := by rw [decide_eq_false_iff_not]; omega
          have t3 : decide (48 ≤ (x : Int)) = true := by rw [decide_eq_true_iff]; omega
          have t4 : decide ((x : Int) ≤ 57) = false := by rw [decide_eq_false_iff_not]; omega
          have t5 : ((x : Int) == 46) = false := by simp; omega
          have RF := Lib.hid (NB.out (by rw [HD.out]; simp; omega))
          go_wp2_with fail
          go_ret
          exact ⟨by rw [RF.out]; rfl, rfl⟩
      · have t1 : decide (97 ≤ (x : Int)) = false := by rw [decide_eq_false_iff_not]; omega
        by_cases d3 : 48 ≤ x
        · have t3 : decide (48 ≤ (x : Int)) = true := by rw [decide_eq_true_iff]; omega
          by_cases d4 : x ≤ 57
          · have t4 : decide ((x : Int) ≤ 57) = true := by rw [decide_eq_true_iff]; omega
            have NY := Lib.hid (NX.out (by rw [HD.out]; simp; omega))
            go_wp2_with fail
            go_roundw
            case rel => exact ⟨k + 1, by omega, by go_num, NY.out, trivial⟩
            case measure => simp [intOf]; omega
          · have t4 : decide ((x : Int) ≤ 57) = false := by rw [decide_eq_false_iff_not]; omega
            have t5 : ((x : Int) == 46) = false := by simp; omega
            have RF := Lib.hid (NB.out (by rw [HD.out]; simp; omega))
            go_wp2_with fail
            go_ret
            exact ⟨by rw [RF.out]; rfl, rfl⟩
        · have t3 : decide (48 ≤ (x : Int)) = false := by rw [decide_eq_false_iff_not]; omega
          by_cases d5 : x = 46
          · have t5 : ((x : Int) == 46) = true := by simp; omega
            have NY := Lib.hid (NX.out (by rw [HD.out]; simp; omega))
            go_wp2_with fail
            go_roundw
            case rel => exact ⟨k + 1, by omega, by go_num, NY.out, trivial⟩
            case measure => simp [intOf]; omega
          · have t5 : ((x : Int) == 46) = false := by simp; omega
            have RF := Lib.hid (NB.out (by rw [HD.out]; simp; omega))
            go_wp2_with fail
            go_ret
            exact ⟨by rw [RF.out]; rfl, rfl⟩
    · have e0 : decide ((k : Int) < (s.size : Int)) = false := by rw [decide_eq_false_iff_not]; omega
      have NA : Hid (∀ i, i < s.size → okb (gb s i) = true) := Lib.hid fun i hi => NO.out i (by omega)
      clear NO
      by_cases z : 1 ≤ s.size
      · have e1 : decide (1 ≤ (s.size : Int)) = true := by rw [decide_eq_true_iff]; omega
        by_cases z2 : s.size ≤ 32
        · have e2 : decide ((s.size : Int) ≤ 32) = true := by rw [decide_eq_true_iff]; omega
          have RF : Hid (R = true) := Lib.hid (by rw [HR.out]; exact okN_of z z2 NA.out)
          go_wp2_with fail
          go_ret
          exact ⟨by rw [RF.out]; rfl, rfl⟩
        · have e2 : decide ((s.size : Int) ≤ 32) = false := by rw [decide_eq_false_iff_not]; omega
          have RF : Hid (R = false) := Lib.hid (by rw [HR.out]; exact okN_size (.inr (by omega)))
          go_wp2_with fail
          go_ret
          exact ⟨by rw [RF.out]; rfl, rfl⟩
      · have e1 : decide (1 ≤ (s.size : Int)) = false := by rw [decide_eq_false_iff_not]; omega
        have RF : Hid (R = false) := Lib.hid (by rw [HR.out]; exact okN_size (.inl (by omega)))
        go_wp2_with fail
        go_ret
        exact ⟨by rw [RF.out]; rfl, rfl⟩
end Go.Proofs.YtkjolaoajbdomaaGreatDoor.Dk
