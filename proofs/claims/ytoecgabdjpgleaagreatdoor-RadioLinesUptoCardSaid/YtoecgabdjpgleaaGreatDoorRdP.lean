/-
  The document's readers of digits: sundialref13.number, clock, hex.
  Conditions: none.
-/
import Derived.Test.YtoecgabdjpgleaaGreatDoorRdO
namespace Go.Proofs.YtoecgabdjpgleaaGreatDoor.Rd
open Go.RowKit Cv
set_option linter.unusedVariables false
set_option linter.unusedSimpArgs false

set_option maxRecDepth 100000 in
set_option maxHeartbeats 2000000 in
theorem rnumber_c (s : ByteArray) (n : Nat) (hn : n ≤ 6) (w : World) :
    Calls Tryz.prog 30 #[.string s, .int .i64 n] w fun e w' => e = .returned (.int .i64 (nm s n)) ∧ w' = w := by
  obtain ⟨r, HR⟩ : ∃ r, Hid (r = nm s n) := ⟨_, Lib.hid rfl⟩
  rw [← HR.out]
  by_cases c0 : s.size = n
  · have e0 : ((s.size : Int) == (n : Int)) = true := by simp [c0]
    have e1 : (!((s.size : Int) == (n : Int))) = false := by rw [e0]; rfl
    have hsn : s.size ≤ 6 := by omega
    subst c0
    go_enter Tryz.func30, Tryz.ntmps30
    go_wp2_with fail
    go_loopw [5, 6] (fun v i wr => ∃ k : Nat, k ≤ s.size ∧ i = .int .i64 k ∧ v = .int .i64 (Wd.va s k : Nat) ∧ (∀ j, j < k → Wd.dig (Wd.gn s j) = true) ∧ wr = w) (fun _ i _ => s.size - (intOf i).toNat)
    case atStart => exact ⟨0, Nat.zero_le _, rfl, rfl, fun j hj => absurd hj (Nat.not_lt_zero _), rfl⟩
    case round =>
      obtain ⟨k, hk, rfl, rfl, hno, rfl⟩ := hrel
      have NO := Lib.hid hno
      have vl := va_lt6 hsn hk hno
      clear hno
      by_cases c : k < s.size
      · have e0 : decide ((k : Int) < (s.size : Int)) = true := by rw [decide_eq_true_iff]; omega
        have ga := Wd.gn_at s k c
        have gl := Wd.gn_lt s k
        have HD : Hid (Wd.dig (Wd.gn s k) = (decide (48 ≤ Wd.gn s k) && decide (Wd.gn s k ≤ 57))) := Lib.hid rfl
        have NX : Hid (Wd.dig (Wd.gn s k) = true → ∀ j, j < k + 1 → Wd.dig (Wd.gn s j) = true) := Lib.hid (fun h j hj => by
          by_cases e : j = k
          · subst e; exact h
          · exact NO.out j (by omega))
        have NB : Hid (Wd.dig (Wd.gn s k) = false → r = -1) := Lib.hid (fun h => by rw [HR.out]; exact nm_dig (alld_no c h))
        have VS : Hid (Wd.va s (k + 1) = 10 * Wd.va s k + (Wd.gn s k - 48)) := Lib.hid rfl
        generalize Wd.va s k = V at *
        generalize hx : Wd.gn s k = x at *
        clear hx
        by_cases d1 : x < 48
        · have e1 : decide ((x : Int) < 48) = true := by rw [decide_eq_true_iff]; omega
          have RF := NB.out (by rw [HD.out, decide_eq_false (show ¬ 48 ≤ x by omega)]; rfl)
          go_wp2_with fail
          go_ret
          exact ⟨by first | rfl | (rw [RF]; rfl), rfl⟩
        · have e1 : decide ((x : Int) < 48) = false := by rw [decide_eq_false_iff_not]; omega
          by_cases d2 : 57 < x
          · have e2 : decide (57 < (x : Int)) = true := by rw [decide_eq_true_iff]; omega
            have RF := NB.out (by rw [HD.out, decide_eq_false (show ¬ x ≤ 57 by omega), Bool.and_false])
            go_wp2_with fail
            go_ret
            exact ⟨by first | rfl | (rw [RF]; rfl), rfl⟩
          · have e2 : decide (57 < (x : Int)) = false := by rw [decide_eq_false_iff_not]; omega
            have NY := Lib.hid (NX.out (by rw [HD.out, decide_eq_true (show 48 ≤ x by omega), decide_eq_true (show x ≤ 57 by omega)]; rfl))
            go_wp2_with fail
            go_roundw
            case rel => exact ⟨k + 1, by omega, by go_num, by rw [VS.out]; go_num, NY.out, trivial⟩
            case measure => simp [intOf]; omega
      · have e0 : decide ((k : Int) < (s.size : Int)) = false := by rw [decide_eq_false_iff_not]; omega
        have ek : k = s.size := by omega
        have RF : Hid (r = (Wd.va s k : Int)) := Lib.hid (by rw [HR.out, nm_yes rfl (alld_yes (fun i hi => NO.out i (by omega))), ek])
        clear ek
        generalize Wd.va s k = V at *
        go_wp2_with fail
        go_ret
        exact ⟨by rw [RF.out]; rfl, rfl⟩
  · have RF := HR.out.trans (nm_len c0)
    have e1 : ((s.size : Int) != (n : Int)) = true := by simp; omega
    go_enter Tryz.func30, Tryz.ntmps30
    go_wp2_with fail
    go_ret
    exact ⟨by first | rfl | (rw [RF]; rfl), rfl⟩

/-- what the document's clock answers. -/
def rckE (x : Int) : Ending := .returned (.tuple #[.int .i64 (if 0 ≤ x then x / 10000 else 0), .int .i64 (if 0 ≤ x then x / 100 % 100 else 0), .int .i64 (if 0 ≤ x then x % 100 else 0), .bool (decide (0 ≤ x))])
set_option maxRecDepth 100000 in
theorem rclock_c (s : ByteArray) (w : World) :
    Calls Tryz.prog 31 #[.string s] w fun e w' => e = rckE (nm s 6) ∧ w' = w := by
  have DC := Lib.hid (fun w => rnumber_c s 6 (Nat.le_refl _) w)
  have bd := nm_bd s 6
  have bd2 : nm s 6 < 1000000 := by omega
  generalize nm s 6 = x at *
  by_cases c : 0 ≤ x
  · have HE : Hid (rckE x = .returned (.tuple #[.int .i64 (x / 10000), .int .i64 (x / 100 % 100), .int .i64 (x % 100), .bool true])) := Lib.hid (by rw [rckE, if_pos c, if_pos c, if_pos c, decide_eq_true c])
    have e0 : decide (x < 0) = false := decide_eq_false (by omega)
    have t1 : x.tdiv 10000 = x / 10000 := Int.tdiv_eq_ediv_of_nonneg c
    have t2 : x.tdiv 100 = x / 100 := Int.tdiv_eq_ediv_of_nonneg c
    have t3 : x.tmod 100 = x % 100 := Int.tmod_eq_emod_of_nonneg c
    have t4 : (x / 100).tmod 100 = x / 100 % 100 := Int.tmod_eq_emod_of_nonneg (by omega)
    rw [HE.out]
    go_enter Tryz.func31, Tryz.ntmps31
    go_wp2_with fail
    refine (DC.out _).mono ?_
    rintro e w' ⟨rfl, rfl⟩
    go_wp2_with fail
    exact bodyPost_ret (v := .tuple #[.int .i64 (x / 10000), .int .i64 (x / 100 % 100), .int .i64 (x % 100), .bool true]) (by simp [results, Tryz.results31, go_sem]) rfl ⟨rfl, rfl⟩
  · have HE : Hid (rckE x = .returned (.tuple #[.int .i64 0, .int .i64 0, .int .i64 0, .bool false])) := Lib.hid (by rw [rckE, if_neg c, if_neg c, if_neg c, decide_eq_false c])
    have e0 : decide (x < 0) = true := decide_eq_true (by omega)
    rw [HE.out]
    go_enter Tryz.func31, Tryz.ntmps31
    go_wp2_with fail
    refine (DC.out _).mono ?_
    rintro e w' ⟨rfl, rfl⟩
    go_wp2_with fail
    exact bodyPost_ret (v := .tuple #[.int .i64 0, .int .i64 0, .int .i64 0, .bool false]) (by simp [results, Tryz.results31, go_sem]) rfl ⟨rfl, rfl⟩
set_option maxRecDepth 100000 in
theorem hex_c (x : Nat) (h : x < 256) (w : World) :
    Calls Tryz.prog 49 #[.int .u8 (x : Int)] w fun e w' => e = .returned (.bool (hxd x)) ∧ w' = w := by
  by_cases a : 48 ≤ x ∧ x ≤ 57
  · have HE : Hid (hxd x = true) := Lib.hid (by rw [hxd, decide_eq_true a]; rfl)
    have e1 : decide (48 ≤ (x : Int)) = true := decide_eq_true (by omega)
    have e2 : decide ((x : Int) ≤ 57) = true := decide_eq_true (by omega)
    have e3 : decide (48 ≤ x) = true := decide_eq_true (by omega)
    have e4 : decide (x ≤ 57) = true := decide_eq_true (by omega)
    rw [HE.out]
    go_enter Tryz.func49, Tryz.ntmps49
    go_wp2_with fail
    go_ret
    exact ⟨rfl, rfl⟩
  · by_cases b : 65 ≤ x ∧ x ≤ 70
    · have HE : Hid (hxd x = true) := Lib.hid (by rw [hxd, decide_eq_true b, Bool.or_true])
      have e1 : decide (48 ≤ (x : Int)) = true := decide_eq_true (by omega)
      have e2 : decide ((x : Int) ≤ 57) = false := decide_eq_false (by omega)
      have e3 : decide (48 ≤ x) = true := decide_eq_true (by omega)
      have e4 : decide (x ≤ 57) = false := decide_eq_false (by omega)
      have e5 : decide (65 ≤ (x : Int)) = true := decide_eq_true (by omega)
      have e6 : decide ((x : Int) ≤ 70) = true := decide_eq_true (by omega)
      have e7 : decide (65 ≤ x) = true := decide_eq_true (by omega)
      have e8 : decide (x ≤ 70) = true := decide_eq_true (by omega)
      rw [HE.out]
      go_enter Tryz.func49, Tryz.ntmps49
      go_wp2_with fail
      go_ret
      exact ⟨rfl, rfl⟩
    · have HE : Hid (hxd x = false) := Lib.hid (by rw [hxd, decide_eq_false a, decide_eq_false b]; rfl)
      rw [HE.out]
      by_cases c : 48 ≤ x
      · have e1 : decide (48 ≤ (x : Int)) = true := decide_eq_true (by omega)
        have e2 : decide ((x : Int) ≤ 57) = false := decide_eq_false (by omega)
        have e3 : decide (48 ≤ x) = true := decide_eq_true (by omega)
        have e4 : decide (x ≤ 57) = false := decide_eq_false (by omega)
        by_cases d : 65 ≤ x
        · have e5 : decide (65 ≤ (x : Int)) = true := decide_eq_true (by omega)
          have e6 : decide ((x : Int) ≤ 70) = false := decide_eq_false (by omega)
          have e7 : decide (65 ≤ x) = true := decide_eq_true (by omega)
          have e8 : decide (x ≤ 70) = false := decide_eq_false (by omega)
          go_enter Tryz.func49, Tryz.ntmps49
          go_wp2_with fail
          go_ret
          exact ⟨rfl, rfl⟩
        · have e5 : decide (65 ≤ (x : Int)) = false := decide_eq_false (by omega)
          have e7 : decide (65 ≤ x) = false := decide_eq_false (by omega)
          go_enter Tryz.func49, Tryz.ntmps49
          go_wp2_with fail
          go_ret
          exact ⟨rfl, rfl⟩
      · have e1 : decide (48 ≤ (x : Int)) = false := decide_eq_false (by omega)
        have e3 : decide (48 ≤ x) = false := decide_eq_false (by omega)
        have e5 : decide (65 ≤ (x : Int)) = false := decide_eq_false (by omega)
        have e7 : decide (65 ≤ x) = false := decide_eq_false (by omega)
        go_enter Tryz.func49, Tryz.ntmps49
        go_wp2_with fail
        go_ret
        exact ⟨rfl, rfl⟩
end Go.Proofs.YtoecgabdjpgleaaGreatDoor.Rd
