/-
  The contracts of radio.digits, pairs, tell and dateOf.
  Conditions: none.
-/
import Derived.Test.YtoecgabdjpgleaaGreatDoorCvF
import Derived.Test.YtoecgabdjpgleaaGreatDoorCvZ
import Derived.Test.YtoecgabdjpgleaaGreatDoorWa
import Derived.Deep.RegionHeld3
import Derived.BigRegion
import Derived.BigQuiet
namespace Go.Proofs.YtoecgabdjpgleaaGreatDoor.Rd
open Go.RowKit Cv
set_option linter.unusedVariables false
set_option linter.unusedSimpArgs false

/-- all are digits. -/
def alld (s : ByteArray) : Bool := (List.range s.size).all fun i => Wd.dig (Wd.gn s i)
theorem alld_no {s : ByteArray} {k : Nat} (h : k < s.size) (hd : Wd.dig (Wd.gn s k) = false) : alld s = false := by
  cases h' : alld s with
  | false => rfl
  | true =>
    simp only [alld, List.all_eq_true, List.mem_range] at h'
    rw [h' k h] at hd; cases hd
theorem alld_yes {s : ByteArray} (h : ∀ i, i < s.size → Wd.dig (Wd.gn s i) = true) : alld s = true := by
  simp only [alld, List.all_eq_true, List.mem_range]; exact h
theorem alld_at {s : ByteArray} (h : alld s = true) : ∀ i, i < s.size → Wd.dig (Wd.gn s i) = true := by
  simpa only [alld, List.all_eq_true, List.mem_range] using h
/-- so many digits, as a number; else -1. -/
def nm (s : ByteArray) (n : Nat) : Int := if s.size = n ∧ alld s = true then (Wd.va s n : Int) else -1
theorem nm_yes {s : ByteArray} {n : Nat} (h : s.size = n) (h2 : alld s = true) : nm s n = (Wd.va s n : Int) := if_pos ⟨h, h2⟩
theorem nm_len {s : ByteArray} {n : Nat} (h : s.size ≠ n) : nm s n = -1 := if_neg fun q => h q.1
theorem nm_dig {s : ByteArray} {n : Nat} (h : alld s = false) : nm s n = -1 := if_neg fun q => by rw [h] at q; exact absurd q.2 (by decide)
theorem nm_bd (s : ByteArray) (n : Nat) : -1 ≤ nm s n ∧ nm s n < 10 ^ n := by
  unfold nm
  by_cases h : s.size = n ∧ alld s = true
  · rw [if_pos h]
    have := Wd.va_lt (s := s) n (fun i hi => alld_at h.2 i (by omega))
    have e : ((10 ^ n : Nat) : Int) = (10 : Int) ^ n := by push_cast; rfl
    omega
  · rw [if_neg h]
    have : (0 : Int) < 10 ^ n := Int.pow_pos (by omega)
    omega
theorem va_lt6 {s : ByteArray} {k n : Nat} (hn : n ≤ 6) (hk : k ≤ n) (h : ∀ i, i < k → Wd.dig (Wd.gn s i) = true) : Wd.va s k < 1000000 := by
  have a := Wd.va_lt k h
  have b : 10 ^ k ≤ 10 ^ 6 := Nat.pow_le_pow_right (by omega) (by omega)
  have c : (10 : Nat) ^ 6 = 1000000 := by decide
  omega
/-- what digits answers. -/
def dgE (x : Int) : Ending := .returned (.tuple #[.int .i64 (if 0 ≤ x then x else 0), .bool (decide (0 ≤ x))])

set_option maxRecDepth 100000 in
set_option maxHeartbeats 2000000 in
theorem digits_c (s : ByteArray) (n : Nat) (hn : n ≤ 6) (w : World) :
    Calls Tryz.prog 26 #[.string s, .int .i64 n] w fun e w' => e = dgE (nm s n) ∧ w' = w := by
  obtain ⟨r, HR⟩ : ∃ r, Hid (r = nm s n) := ⟨_, Lib.hid rfl⟩
  rw [← HR.out]
  have NO0 : Hid (r = -1 → dgE r = .returned (.tuple #[.int .i64 0, .bool false])) := Lib.hid fun h => by rw [h]; rfl
  by_cases c0 : s.size = n
  · have e0 : ((s.size : Int) == (n : Int)) = true := by simp [c0]
    have e1 : (!((s.size : Int) == (n : Int))) = false := by rw [e0]; rfl
    have CN := Lib.hid c0
    have hsn : s.size ≤ 6 := by omega
    clear c0
    go_enter Tryz.func26, Tryz.ntmps26
    go_wp2_with fail
    go_loopw [6, 14] (fun v i wr => ∃ k : Nat, k ≤ s.size ∧ i = .int .i64 k ∧ v = .int .i64 (Wd.va s k : Nat) ∧ (∀ j, j < k → Wd.dig (Wd.gn s j) = true) ∧ wr = w) (fun _ i _ => s.size - (intOf i).toNat)
    case atStart => exact ⟨0, Nat.zero_le _, rfl, rfl, fun j hj => absurd hj (Nat.not_lt_zero _), rfl⟩
    case round =>
      obtain ⟨k, hk, rfl, rfl, hno, rfl⟩ := hrel
      have NO := Lib.hid hno
      have vl := va_lt6 hsn hk hno
      clear hno
      by_cases c : k < s.size
      · have e0 : decide ((k : Int) < (s.size : Int)) = true := by rw [decide_eq_true_iff]; omega
        have ga := Wd.gn_at s k c
        have gl := Wd.gn_lt s k
        have HD : Hid (Wd.dig (Wd.gn s k) = (decide (48 ≤ Wd.gn s k) && decide (Wd.gn s k ≤ 57))) := Lib.hid rfl
        have NX : Hid (Wd.dig (Wd.gn s k) = true → ∀ j, j < k + 1 → Wd.dig (Wd.gn s j) = true) := Lib.hid (fun h j hj => by
          by_cases e : j = k
          · subst e; exact h
          · exact NO.out j (by omega))
        have NB : Hid (Wd.dig (Wd.gn s k) = false → r = -1) := Lib.hid (fun h => by rw [HR.out]; exact nm_dig (alld_no c h))
        have VS : Hid (Wd.va s (k + 1) = 10 * Wd.va s k + (Wd.gn s k - 48)) := Lib.hid rfl
        generalize Wd.va s k = V at *
        generalize hx : Wd.gn s k = x at *
        clear hx
        by_cases d1 : x < 48
        · have e1 : decide ((x : Int) < 48) = true := by rw [decide_eq_true_iff]; omega
          have RF := NB.out (by rw [HD.out, decide_eq_false (show ¬ 48 ≤ x by omega)]; rfl)
          go_wp2_with fail
          go_ret2
          exact ⟨by rw [NO0.out RF]; rfl, rfl⟩
        · have e1 : decide ((x : Int) < 48) = false := by rw [decide_eq_false_iff_not]; omega
          by_cases d2 : 57 < x
          · have e2 : decide (57 < (x : Int)) = true := by rw [decide_eq_true_iff]; omega
            have RF := NB.out (by rw [HD.out, decide_eq_false (show ¬ x ≤ 57 by omega), Bool.and_false])
            go_wp2_with fail
            go_ret2
            exact ⟨by rw [NO0.out RF]; rfl, rfl⟩
          · have e2 : decide (57 < (x : Int)) = false := by rw [decide_eq_false_iff_not]; omega
            have NY := Lib.hid (NX.out (by rw [HD.out, decide_eq_true (show 48 ≤ x by omega), decide_eq_true (show x ≤ 57 by omega)]; rfl))
            go_wp2_with fail
            go_roundw
            case rel => exact ⟨k + 1, by omega, by go_num, by rw [VS.out]; go_num, NY.out, trivial⟩
            case measure => simp [intOf]; omega
      · have e0 : decide ((k : Int) < (s.size : Int)) = false := by rw [decide_eq_false_iff_not]; omega
        have ek : k = s.size := by omega
        have RF : Hid (r = (Wd.va s k : Int)) := Lib.hid (by rw [HR.out, nm_yes CN.out (alld_yes (fun i hi => NO.out i (by omega))), ek, CN.out])
        clear ek
        generalize Wd.va s k = V at *
        go_wp2_with fail
        go_ret2
        exact ⟨by rw [RF.out, dgE, if_pos (by omega), decide_eq_true (by omega)]; rfl, rfl⟩
  · have RF := HR.out.trans (nm_len c0)
    have e1 : ((s.size : Int) != (n : Int)) = true := by simp; omega
    go_enter Tryz.func26, Tryz.ntmps26
    go_wp2_with fail
    go_ret2
    exact ⟨by rw [NO0.out RF]; rfl, rfl⟩

/-- three numbers of two digits each. -/
def pr3 (n : Int) : Value := .agg #[.int .i64 (n / 10000), .int .i64 (n / 100 % 100), .int .i64 (n % 100)]
def prE (x : Int) : Ending := .returned (.tuple #[pr3 (if 0 ≤ x then x else 0), .bool (decide (0 ≤ x))])
set_option maxRecDepth 100000 in
set_option maxHeartbeats 2000000 in
theorem pairs_c (s : ByteArray) (w : World) :
    Calls Tryz.prog 17 #[.string s] w fun e w' => e = prE (nm s 6) ∧ Below w.heap.size w w' := by
  have DC := Lib.hid (fun w => digits_c s 6 (Nat.le_refl _) w)
  have bd := nm_bd s 6
  have bd2 : nm s 6 < 1000000 := by omega
  generalize nm s 6 = x at *
  have HE : Hid (prE x = .returned (.tuple #[pr3 (if 0 ≤ x then x else 0), .bool (decide (0 ≤ x))])) := Lib.hid rfl
  have DE : Hid (dgE x = .returned (.tuple #[.int .i64 (if 0 ≤ x then x else 0), .bool (decide (0 ≤ x))])) := Lib.hid rfl
  rw [HE.out]
  clear HE
  generalize decide (0 ≤ x) = r at *
  have b0 : 0 ≤ (if 0 ≤ x then x else 0) ∧ (if 0 ≤ x then x else 0) < 1000000 := by split <;> omega
  generalize (if 0 ≤ x then x else 0) = n at *
  obtain ⟨n0, n1⟩ := b0
  have t1 : n.tdiv 10000 = n / 10000 := Int.tdiv_eq_ediv_of_nonneg n0
  have t2 : n.tdiv 100 = n / 100 := Int.tdiv_eq_ediv_of_nonneg n0
  have t3 : n.tmod 100 = n % 100 := Int.tmod_eq_emod_of_nonneg n0
  have t4 : (n / 100).tmod 100 = n / 100 % 100 := Int.tmod_eq_emod_of_nonneg (by omega)
  clear bd bd2
  go_enter Tryz.func17, Tryz.ntmps17
  go_wp2_with fail
  refine (DC.out _).mono ?_
  rintro e w1 ⟨rfl, rfl⟩
  rw [DE.out]
  go_wp2_with fail
  exact bodyPost_ret (v := .tuple #[pr3 n, .bool r]) (by simp [results, Tryz.results17, go_sem, pr3]) rfl ⟨rfl, by repeat (first | exact brefl _ | refine balloc ?_ _ | refine bdrew ?_ _ | refine Below.setCell ?_ (by first | (simp; done) | (simp; omega)) _)⟩

/-- what tell answers of a date's number and a time of the day. -/
def tlE (o : Bool) (N H M S T : Int) : Ending := .returned (.tuple #[.int .i64 (if o = true then Cv.tell N H M S T else 0), .int .i64 (if o = true then 0 else 5)])
set_option maxRecDepth 100000 in
set_option maxHeartbeats 2000000 in
theorem tell_c (y m d H M S T : Int) (w : World) (o : Bool) (ho : o = true ↔ (ok y m d ∧ tod H M S T)) :
    Calls Tryz.prog 18 #[.agg #[.int .i64 y, .int .i64 m, .int .i64 d], .agg #[.int .i64 H, .int .i64 M, .int .i64 S], .int .i64 T] w fun e w' => e = tlE o (num y m d) H M S T ∧ Below w.heap.size w w' := by
  cases o with
  | true =>
    obtain ⟨h1, h2⟩ := ho.1 rfl
    have TC := Lib.hid (fun w => Tell_ok y m d H M S T w h1 h2)
    have HE : Hid (tlE true (num y m d) H M S T = .returned (.tuple #[.int .i64 (Cv.tell (num y m d) H M S T), .int .i64 0])) := Lib.hid rfl
    rw [HE.out]
    clear h1 h2 ho HE
    generalize Cv.tell (num y m d) H M S T = Z at *
    go_enter Tryz.func18, Tryz.ntmps18
    go_wp2_with fail
    refine (TC.out _).mono ?_
    rintro e w1 ⟨rfl, hb⟩
    have B1 := Lib.hid (bstep (balloc (balloc (brefl w) _) _) hb)
    clear hb TC
    go_wp2_with fail
    go_ret2
    exact ⟨rfl, B1.out⟩
  | false =>
    have TC : Hid (∀ w, Calls Tryz.prog 48 #[.agg #[.int .i64 y, .int .i64 m, .int .i64 d, .int .i64 H, .int .i64 M, .int .i64 S, .int .i64 T]] w fun e w' => e = .returned (.tuple #[.int .i64 0, .int .i64 3]) ∧ Below w.heap.size w w') := Lib.hid fun w => by
      by_cases h1 : ok y m d
      · exact Tell_tod y m d H M S T w h1 fun q => absurd (ho.2 ⟨h1, q⟩) (by decide)
      · exact Tell_shape y m d H M S T w h1
    clear ho
    go_enter Tryz.func18, Tryz.ntmps18
    go_wp2_with fail
    refine (TC.out _).mono ?_
    rintro e w1 ⟨rfl, hb⟩
    have B1 := Lib.hid (bstep (balloc (balloc (brefl w) _) _) hb)
    clear hb TC
    go_wp2_with fail
    go_ret2
    exact ⟨rfl, B1.out⟩

/-- the year has so many days. -/
def dq (y d : Int) : Bool := decide (1900 ≤ y ∧ y ≤ 9999 ∧ 1 ≤ d ∧ ny y + d - 1 < ny (y + 1))
theorem ok_new {y : Int} : ok y 1 1 ↔ 1900 ≤ y ∧ y ≤ 9999 := by
  have l := len_bd y 1
  unfold ok
  omega
theorem num_new (y : Int) : num y 1 1 = ny y := by
  unfold num
  rw [show ((1 : Int) - 1).toNat = 0 from rfl]
  simp [ms]
theorem dq_year {y d y' m' d' : Int} (h1 : 1900 ≤ y) (h2 : y ≤ 9999) (hd : isDay (ny y + d - 1) y' m' d') (h0 : 0 ≤ d) : dq y d = (y' == y) := by
  have q := num_in hd.1
  rw [hd.2] at q
  rw [Bool.eq_iff_iff, dq, decide_eq_true_iff, beq_iff_eq]
  constructor
  · rintro ⟨_, _, h3, h4⟩
    by_cases c : y' < y
    · have := ny_le (show y' + 1 ≤ y by omega); omega
    · by_cases c2 : y < y'
      · have := ny_le (show y + 1 ≤ y' by omega); omega
      · omega
  · rintro rfl
    exact ⟨h1, h2, by omega, q.2⟩
theorem dq_out {y d : Int} (h1 : 1900 ≤ y) (h2 : y ≤ 9999) (h : ¬ (0 ≤ ny y + d - 1 ∧ ny y + d - 1 ≤ 2958463)) : dq y d = false := by
  have a := ny_bd h1 (by omega)
  have b := ny_bd (y := y + 1) (by omega) (by omega)
  rw [dq, decide_eq_false_iff_not]
  omega
/-- what dateOf answers. -/
def dtP (y d : Int) (e : Ending) : Prop := ∃ a b c, e = .returned (.tuple #[.agg #[.int .i64 a, .int .i64 b, .int .i64 c], .bool (dq y d)]) ∧ (dq y d = true → isDay (ny y + d - 1) a b c)
set_option maxRecDepth 100000 in
set_option maxHeartbeats 4000000 in
theorem dateOf_c (y d : Int) (w : World) (y0 : 0 ≤ y) (y1 : y ≤ 9999) (d0 : 0 ≤ d) (d1 : d ≤ 999) :
    Calls Tryz.prog 28 #[.int .i64 y, .int .i64 d] w fun e w' => dtP y d e ∧ Below w.heap.size w w' := by
  by_cases h : 1900 ≤ y
  · have NC := Lib.hid (fun w => Number_ok y 1 1 w (ok_new.2 ⟨h, y1⟩))
    rw [num_new] at NC
    have nb := ny_bd h (by omega)
    by_cases hn : 0 ≤ ny y + d - 1 ∧ ny y + d - 1 ≤ 2958463
    · obtain ⟨a, b, c, hd⟩ := day_ex hn.1 hn.2
      have DC := Lib.hid (fun w => Day_is hd w)
      have DQ := Lib.hid (dq_year h y1 hd d0)
      have HD := Lib.hid hd
      have PE : Hid (∀ e, e = .returned (.tuple #[.agg #[.int .i64 a, .int .i64 b, .int .i64 c], .bool (a == y)]) → dtP y d e) := Lib.hid fun e he => ⟨a, b, c, by rw [he, DQ.out], fun _ => HD.out⟩
      generalize dtP y d = P at *
      clear HD DQ hd
      generalize ny y = N at *
      have w1 : N + d - 1 = N + d - 1 := rfl
      go_enter Tryz.func28, Tryz.ntmps28
      go_wp2_with fail
      refine (NC.out _).mono ?_
      rintro e w1 ⟨rfl, hb⟩
      have A1 := Lib.hid ((Dt.new w 0 0 0).below hb)
      have B1 := Lib.hid (bstep (balloc (brefl w) _) hb)
      clear hb NC
      go_wp2_with fail
      refine (DC.out _).mono ?_
      rintro e w2 ⟨rfl, hb⟩
      have A2 := Lib.hid (A1.out.below hb)
      have B2 := Lib.hid (bstep B1.out hb)
      clear hb DC A1
      obtain ⟨a1, a2, a3, a4, a5, a6, a7⟩ := A2.out
      clear A2
      go_wp2_with fail
      go_region
      all_goals (go_wp2_with fail)
      all_goals (exact bodyPost_ret (v := .tuple #[.agg #[.int .i64 a, .int .i64 b, .int .i64 c], .bool (a == y)]) (by simp [results, Tryz.results28, go_sem, a1, a2, a3, a4, a5, a6, a7]) rfl ⟨PE.out _ rfl, by repeat (first | exact B2.out | exact brefl _ | refine balloc ?_ _ | refine bdrew ?_ _ | refine Below.setCell ?_ (by first | (simp; done) | (simp; omega)) _)⟩)
    · have DC := Lib.hid (fun w => Day_bad _ w hn)
      have DQ := Lib.hid (dq_out h y1 hn)
      have PE : Hid (∀ e, e = .returned (.tuple #[.agg #[.int .i64 0, .int .i64 0, .int .i64 0], .bool false]) → dtP y d e) := Lib.hid fun e he => ⟨0, 0, 0, by rw [he, DQ.out], fun q => by rw [DQ.out] at q; cases q⟩
      generalize dtP y d = P at *
      clear DQ hn
      generalize ny y = N at *
      go_enter Tryz.func28, Tryz.ntmps28
      go_wp2_with fail
      refine (NC.out _).mono ?_
      rintro e w1 ⟨rfl, hb⟩
      have A1 := Lib.hid ((Dt.new w 0 0 0).below hb)
      have B1 := Lib.hid (bstep (balloc (brefl w) _) hb)
      clear hb NC
      go_wp2_with fail
      refine (DC.out _).mono ?_
      rintro e w2 ⟨rfl, hb⟩
      have A2 := Lib.hid (A1.out.below hb)
      have B2 := Lib.hid (bstep B1.out hb)
      clear hb DC A1
      obtain ⟨a1, a2, a3, a4, a5, a6, a7⟩ := A2.out
      clear A2
      go_wp2_with fail
      go_region
      all_goals (go_wp2_with fail)
      all_goals (exact bodyPost_ret (v := .tuple #[.agg #[.int .i64 0, .int .i64 0, .int .i64 0], .bool false]) (by simp [results, Tryz.results28, go_sem, a1, a2, a3, a4, a5, a6, a7]) rfl ⟨PE.out _ rfl, by repeat (first | exact B2.out | exact brefl _ | refine balloc ?_ _ | refine bdrew ?_ _ | refine Below.setCell ?_ (by first | (simp; done) | (simp; omega)) _)⟩)
  · have NC := Lib.hid (fun w => Number_bad y 1 1 w (fun q => h (ok_new.1 q).1))
    have DQ : dq y d = false := by rw [dq, decide_eq_false_iff_not]; omega
    have PE : Hid (∀ e, e = .returned (.tuple #[.agg #[.int .i64 0, .int .i64 0, .int .i64 0], .bool false]) → dtP y d e) := Lib.hid fun e he => ⟨0, 0, 0, by rw [he, DQ], fun q => by rw [DQ] at q; cases q⟩
    generalize dtP y d = P at *
    clear DQ
    go_enter Tryz.func28, Tryz.ntmps28
    go_wp2_with fail
    refine (NC.out _).mono ?_
    rintro e w1 ⟨rfl, hb⟩
    have A1 := Lib.hid ((Dt.new w 0 0 0).below hb)
    have B1 := Lib.hid (bstep (balloc (brefl w) _) hb)
    obtain ⟨a1, a2, a3, a4, a5, a6, a7⟩ := A1.out
    clear hb NC A1
    go_wp2_with fail
    exact bodyPost_ret (v := .tuple #[.agg #[.int .i64 0, .int .i64 0, .int .i64 0], .bool false]) (by simp [results, Tryz.results28, go_sem, a1, a2, a3, a4, a5, a6, a7]) rfl ⟨PE.out _ rfl, by repeat (first | exact B1.out | exact brefl _ | refine balloc ?_ _ | refine bdrew ?_ _ | refine Below.setCell ?_ (by first | (simp; done) | (simp; omega)) _)⟩
end Go.Proofs.YtoecgabdjpgleaaGreatDoor.Rd
