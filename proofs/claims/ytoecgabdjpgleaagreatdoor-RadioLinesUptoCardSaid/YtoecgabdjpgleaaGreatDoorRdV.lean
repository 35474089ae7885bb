/-
  The document's time of a body's fields: sundialref13.told.
  Conditions: the field of the clock has no more than 2^61 bytes.
-/
import Derived.Test.YtoecgabdjpgleaaGreatDoorRdU
namespace Go.Proofs.YtoecgabdjpgleaaGreatDoor.Rd
open Go.RowKit Cv
set_option linter.unusedVariables false
set_option linter.unusedSimpArgs false

def tdE (f0 f1 f2 f9 : ByteArray) : Ending := .returned (.tuple #[.int .i64 (if isTF f0 f1 f2 f9 = true then tmF f1 f9 else 0), .bool (isTF f0 f1 f2 f9)])
theorem pw_bd {X : Int} {a j : Nat} (h : 0 ≤ X) (k : X < (10 : Int) ^ a) (hj : a + j ≤ 6) : 0 ≤ X * 10 ^ j ∧ X * 10 ^ j < 1000000 := by
  have p : (0 : Int) < 10 ^ j := Int.pow_pos (by decide)
  refine ⟨Int.mul_nonneg h (Int.le_of_lt p), ?_⟩
  have h1 : X * 10 ^ j < 10 ^ a * 10 ^ j := Int.mul_lt_mul_of_pos_right k p
  rw [← Int.pow_add] at h1
  have h2 : (10 : Nat) ^ (a + j) ≤ 10 ^ 6 := Nat.pow_le_pow_right (by decide) hj
  have h3 : ((10 : Int) ^ (a + j)) ≤ 10 ^ 6 := by exact_mod_cast h2
  omega
/-- what the document's Tell answers. -/
theorem rtell_c (y m d H M S T : Int) (w : World) (o : Bool) (ho : o = true ↔ (ok y m d ∧ tod H M S T)) :
    Calls Tryz.prog 34 #[.agg #[.int .i64 y, .int .i64 m, .int .i64 d, .int .i64 H, .int .i64 M, .int .i64 S, .int .i64 T]] w fun e w' => (∃ z : Int, e = .returned (.tuple #[.int .i64 (if o = true then Cv.tell (num y m d) H M S T else 0), .int .i64 z]) ∧ (z == 0) = o) ∧ Below w.heap.size w w' := by
  cases o with
  | true =>
    obtain ⟨h, k⟩ := ho.1 rfl
    refine (rTell_ok y m d H M S T w h k).mono ?_
    rintro e w' ⟨rfl, hb⟩
    exact ⟨⟨0, rfl, rfl⟩, hb⟩
  | false =>
    by_cases h : ok y m d
    · have k : ¬ tod H M S T := fun k => by have := ho.2 ⟨h, k⟩; cases this
      refine (rTell_tod y m d H M S T w h k).mono ?_
      rintro e w' ⟨rfl, hb⟩
      exact ⟨⟨_, rfl, rfl⟩, hb⟩
    · refine (rTell_shape y m d H M S T w h).mono ?_
      rintro e w' ⟨rfl, hb⟩
      exact ⟨⟨_, rfl, rfl⟩, hb⟩
/-- the ticks, told of the whole field. -/
theorem tk_is {s : ByteArray} (h : 6 ≤ s.size) : tkN s = if s.size = 6 then 0 else if Wd.gn s 6 = 46 ∧ 8 ≤ s.size ∧ s.size ≤ 13 ∧ 0 ≤ nm (s.extract 7 s.size) (s.size - 7) then nm (s.extract 7 s.size) (s.size - 7) * 10 ^ (13 - s.size) * 1048576 / 1000000 else -1 := by
  have hz := size_ext s 6 s.size (Nat.le_refl _)
  unfold tkN tkR
  rw [hz]
  by_cases c : s.size = 6
  · rw [if_pos (by omega), if_pos c]
  · rw [if_neg (by omega), if_neg c, gn_ext (by omega), ext_ext s 6 s.size 1 (s.size - 6) (by omega), show 6 + 1 = 7 by omega, show 6 + (s.size - 6) = s.size by omega, show s.size - 6 - 1 = s.size - 7 by omega, show 7 - (s.size - 6) = 13 - s.size by omega, show 6 + 0 = 6 by omega]
    by_cases d : Wd.gn s 6 = 46 ∧ 8 ≤ s.size ∧ s.size ≤ 13 ∧ 0 ≤ nm (s.extract 7 s.size) (s.size - 7)
    · rw [if_pos d, if_pos ⟨d.1, by omega, by omega, d.2.2.2⟩]
    · rw [if_neg d, if_neg (fun q => d ⟨q.1, by omega, by omega, q.2.2.2⟩)]
set_option maxRecDepth 100000 in
theorem told_short {w : World} {v : Value} {R : List ByteArray} (st : St w v R) (h : R.length < 10) :
    Calls Tryz.prog 21 #[v] w fun e w' => e = .returned (.tuple #[.int .i64 0, .bool false]) ∧ Below w.heap.size w w' := by
  obtain ⟨bb, cap, rfl, c1, c2, c3, c4⟩ := st
  have e0 : decide ((R.length : Int) < 10) = true := decide_eq_true (by omega)
  clear c4
  generalize R.length = n at *
  go_enter Tryz.func21, Tryz.ntmps21
  go_wp2_with fail
  go_ret2
  exact ⟨rfl, brefl w⟩
set_option maxRecDepth 100000 in
set_option maxHeartbeats 2000000 in
theorem told_c {w : World} {v : Value} {R : List ByteArray} {f0 f1 f2 f9 : ByteArray} (st : St w v R) (h : 10 ≤ R.length) (r0 : R[0]? = some f0) (r1 : R[1]? = some f1) (r2 : R[2]? = some f2) (r9 : R[9]? = some f9) (hs : f1.size ≤ 1048576) :
    Calls Tryz.prog 21 #[v] w fun e w' => e = tdE f0 f1 f2 f9 ∧ Below w.heap.size w w' := by
  have NO : Hid (isTF f0 f1 f2 f9 = false → tdE f0 f1 f2 f9 = .returned (.tuple #[.int .i64 0, .bool false])) := Lib.hid fun h => by rw [tdE, h]; rfl
  have YE : Hid (isTF f0 f1 f2 f9 = true → tdE f0 f1 f2 f9 = .returned (.tuple #[.int .i64 (tmF f1 f9), .bool true])) := Lib.hid fun h => by rw [tdE, h]; rfl
  have IT : Hid (isTF f0 f1 f2 f9 = isTF f0 f1 f2 f9) := Lib.hid rfl
  have TM : Hid (tmF f1 f9 = tmF f1 f9) := Lib.hid rfl
  obtain ⟨bb, cap, rfl, c1, c2, c3, c4⟩ := st
  have k0 := c4 0 _ r0
  have k1 := c4 1 _ r1
  have k2 := c4 2 _ r2
  have k9 := c4 9 _ r9
  clear r0 r1 r2 r9 c4 c3
  generalize R.length = n at *
  have e0 : decide ((n : Int) < 10) = false := decide_eq_false (by omega)
  have i0 : (0 : Int) < (n : Int) := by omega
  have i1 : (1 : Int) < (n : Int) := by omega
  have i2 : (2 : Int) < (n : Int) := by omega
  have i9 : (9 : Int) < (n : Int) := by omega
  generalize hE : tdE f0 f1 f2 f9 = E at *
  generalize hI : isTF f0 f1 f2 f9 = it at *
  generalize hT : tmF f1 f9 = tb at *
  rw [← hI] at IT
  rw [← hT] at TM
  replace IT : Hid (it = isTF f0 f1 f2 f9) := Lib.hid hI.symm
  replace TM : Hid (tb = tmF f1 f9) := Lib.hid hT.symm
  clear hE hI hT
  unfold isTF kd at IT
  unfold tmF at TM
  by_cases c0 : f0.size = 5
  · rw [decide_eq_true c0] at IT
    have e1 : ((f0.size : Int) != 5) = false := by simp; omega
    have j0 : (2 : Int) ≤ (f0.size : Int) := by omega
    clear c0
    cases hR : ((f0.extract 2 f0.size).toList == [82, 77, 67]) with
    | false =>
      rw [hR] at IT
      have N := Lib.hid (NO.out (by rw [IT.out]; rfl))
      go_enter Tryz.func21, Tryz.ntmps21
      go_wp2_with fail
      go_ret2
      exact ⟨N.out.symm, brefl w⟩
    | true =>
      rw [hR] at IT
      cases hA : (f2.toList == [65]) with
      | false =>
        rw [hA] at IT
        have N := Lib.hid (NO.out (by rw [IT.out]; rfl))
        go_enter Tryz.func21, Tryz.ntmps21
        go_wp2_with fail
        go_ret2
        exact ⟨N.out.symm, brefl w⟩
      | true =>
        rw [hA] at IT
        by_cases c6 : 6 ≤ f1.size
        · rw [decide_eq_true c6] at IT
          simp only [Bool.true_and] at IT
          have e2 : decide ((f1.size : Int) < 6) = false := decide_eq_false (by omega)
          have j1 : (6 : Int) ≤ (f1.size : Int) := by omega
          have CL := Lib.hid (fun w => rclock_c (f1.extract 0 6) w)
          have hb1 := nm_bd (f1.extract 0 6) 6
          rw [show nm (f1.extract 0 6) 6 = hmN f1 from rfl] at hb1 CL
          replace hb1 : -1 ≤ hmN f1 ∧ hmN f1 ≤ 999999 := by omega
          have hx := size_ext f1 7 f1.size (Nat.le_refl _)
          have TK : Hid (tkN f1 = if f1.size = 6 then 0 else if Wd.gn f1 6 = 46 ∧ 8 ≤ f1.size ∧ f1.size ≤ 13 ∧ 0 ≤ nm (f1.extract 7 f1.size) (f1.size - 7) then nm (f1.extract 7 f1.size) (f1.size - 7) * 10 ^ (13 - f1.size) * 1048576 / 1000000 else -1) := Lib.hid (tk_is c6)
          generalize hmN f1 = c at *
          generalize tkN f1 = tk at *
          unfold rckE at CL
          obtain ⟨rc, hrc⟩ : ∃ r, decide (0 ≤ c) = r := ⟨_, rfl⟩
          obtain ⟨z1, hz1⟩ : ∃ z, (if 0 ≤ c then c / 10000 else 0) = z := ⟨_, rfl⟩
          obtain ⟨z2, hz2⟩ : ∃ z, (if 0 ≤ c then c / 100 % 100 else 0) = z := ⟨_, rfl⟩
          obtain ⟨z3, hz3⟩ : ∃ z, (if 0 ≤ c then c % 100 else 0) = z := ⟨_, rfl⟩
          have ZC : Hid (rc = true → z1 = c / 10000 ∧ z2 = c / 100 % 100 ∧ z3 = c % 100) := Lib.hid fun q => by
            have q' : 0 ≤ c := of_decide_eq_true (hrc.trans q)
            exact ⟨by rw [← hz1, if_pos q'], by rw [← hz2, if_pos q'], by rw [← hz3, if_pos q']⟩
          simp only [hrc, hz1, hz2, hz3] at CL IT
          clear hrc hz1 hz2 hz3
          by_cases s6 : f1.size = 6
          · have e3 : decide (6 < (f1.size : Int)) = false := decide_eq_false (by omega)
            obtain rfl : tk = 0 := by rw [TK.out, if_pos s6]
            clear TK s6 hx
            go_enter Tryz.func21, Tryz.ntmps21
            go_wp2_with fail
            refine (CL.out _).mono ?_
            rintro e w' ⟨rfl, rfl⟩
            clear CL
            have CL9 := Lib.hid (fun w => rclock_c f9 w)
            unfold rckE at CL9
            have hb2 := nm_bd f9 6
            rw [show nm f9 6 = dtN f9 from rfl] at hb2 CL9
            replace hb2 : -1 ≤ dtN f9 ∧ dtN f9 ≤ 999999 := by omega
            generalize dtN f9 = d at *
            obtain ⟨rd, hrd⟩ : ∃ r, decide (0 ≤ d) = r := ⟨_, rfl⟩
            obtain ⟨y1, hy1⟩ : ∃ z, (if 0 ≤ d then d % 100 else 0) = z := ⟨_, rfl⟩
            obtain ⟨y2, hy2⟩ : ∃ z, (if 0 ≤ d then d / 100 % 100 else 0) = z := ⟨_, rfl⟩
            obtain ⟨y3, hy3⟩ : ∃ z, (if 0 ≤ d then d / 10000 else 0) = z := ⟨_, rfl⟩
            have ZD : Hid (rd = true → y1 = d % 100 ∧ y2 = d / 100 % 100 ∧ y3 = d / 10000 ∧ 0 ≤ d) := Lib.hid fun q => by
              have q' : 0 ≤ d := of_decide_eq_true (hrd.trans q)
              exact ⟨by rw [← hy1, if_pos q'], by rw [← hy2, if_pos q'], by rw [← hy3, if_pos q'], q'⟩
            simp only [hrd, hy1, hy2, hy3] at CL9 IT
            clear hrd hy1 hy2 hy3
            cases rc with
            | false =>
              have N := Lib.hid (NO.out (by rw [IT.out]; simp))
              go_wp2_with fail
              refine (CL9.out _).mono ?_
              rintro e w' ⟨rfl, rfl⟩
              go_wp2_with fail
              go_ret2
              exact ⟨N.out.symm, brefl _⟩
            | true =>
              cases rd with
              | false =>
                have N := Lib.hid (NO.out (by rw [IT.out]; simp))
                go_wp2_with fail
                refine (CL9.out _).mono ?_
                rintro e w' ⟨rfl, rfl⟩
                go_wp2_with fail
                go_ret2
                exact ⟨N.out.symm, brefl _⟩
              | true =>
                obtain ⟨rfl, rfl, rfl⟩ := ZC.out rfl
                obtain ⟨rfl, rfl, rfl, d0⟩ := ZD.out rfl
                have TL := Lib.hid (fun w => rtell_c (yr (d % 100)) (d / 100 % 100) (d / 10000) (c / 10000) (c / 100 % 100) (c % 100) 0 w _ (decide_eq_true_iff (p := ok (yr (d % 100)) (d / 100 % 100) (d / 10000) ∧ tod (c / 10000) (c / 100 % 100) (c % 100) 0)))
                rw [TM.out] at YE
                clear TM
                generalize decide (ok (yr (d % 100)) (d / 100 % 100) (d / 10000) ∧ tod (c / 10000) (c / 100 % 100) (c % 100) 0) = o at *
                generalize Cv.tell (num (yr (d % 100)) (d / 100 % 100) (d / 10000)) (c / 10000) (c / 100 % 100) (c % 100) 0 = Z at *
                have HE : Hid (E = .returned (.tuple #[.int .i64 (if o = true then Z else 0), .bool o])) := Lib.hid (by
                  cases o with
                  | true => exact YE.out (by rw [IT.out]; simp)
                  | false => exact NO.out (by rw [IT.out]; simp))
                generalize (if o = true then Z else 0) = r1 at *
                clear YE NO IT
                have YR : Hid (yr (d % 100) = if 80 ≤ d % 100 then 1900 + d % 100 else 2000 + d % 100) := Lib.hid rfl
                have yb : 0 ≤ d % 100 ∧ d % 100 ≤ 99 := by omega
                generalize yr (d % 100) = Y at *
                generalize d % 100 = yy at *
                generalize d / 100 % 100 = mo at *
                generalize d / 10000 = da at *
                generalize c / 10000 = H at *
                generalize c / 100 % 100 = M at *
                generalize c % 100 = S at *
                by_cases y80 : yy < 80
                · have f1 : decide (yy + 1900 < 1980) = true := decide_eq_true (by omega)
                  obtain rfl : Y = yy + 1900 + 100 := by rw [YR.out, if_neg (by omega)]; omega
                  clear YR
                  go_wp2_with fail
                  refine (CL9.out _).mono ?_
                  rintro e w' ⟨rfl, rfl⟩
                  go_wp2_with fail
                  refine (TL.out _).mono ?_
                  rintro e w4 ⟨⟨z, rfl, hz⟩, hb⟩
                  go_wp2_with fail
                  go_ret2
                  exact ⟨HE.out.symm, hb⟩
                · have f1 : decide (yy + 1900 < 1980) = false := decide_eq_false (by omega)
                  obtain rfl : Y = yy + 1900 := by rw [YR.out, if_pos (by omega)]; omega
                  clear YR
                  go_wp2_with fail
                  refine (CL9.out _).mono ?_
                  rintro e w' ⟨rfl, rfl⟩
                  go_wp2_with fail
                  refine (TL.out _).mono ?_
                  rintro e w4 ⟨⟨z, rfl, hz⟩, hb⟩
                  go_wp2_with fail
                  go_ret2
                  exact ⟨HE.out.symm, hb⟩
          · have e3 : decide (6 < (f1.size : Int)) = true := decide_eq_true (by omega)
            rw [if_neg s6] at TK
            have p6 : 6 < f1.size := by omega
            have q6 := Wd.gn_at f1 6 p6
            have u6 : (6 : Int) < (f1.size : Int) := by omega
            have hx1 : Hid (f1.extract 7 f1.size = f1.extract 7 f1.size) := Lib.hid rfl
            have l6 := Wd.gn_lt f1 6
            have RN := Lib.hid (fun (q : f1.size - 7 ≤ 6) (w : World) => rnumber_c (f1.extract 7 f1.size) (f1.size - 7) q w)
            have xb := nm_bd (f1.extract 7 f1.size) (f1.size - 7)
            generalize hq : Wd.gn f1 6 = x6 at *
            clear hq
            have NBAD : Hid (¬ (x6 = 46 ∧ 8 ≤ f1.size ∧ f1.size ≤ 13 ∧ 0 ≤ nm (f1.extract 7 f1.size) (f1.size - 7)) → E = .returned (.tuple #[.int .i64 0, .bool false])) := Lib.hid fun q => NO.out (by
              rw [IT.out, TK.out, if_neg q]
              simp)
            by_cases v1 : x6 = 46
            · have e4 : ((x6 : Int) == 46) = true := by simp; omega
              by_cases v2 : 8 ≤ f1.size
              · have e5 : decide (1 ≤ (f1.size : Int) - 7) = true := decide_eq_true (by omega)
                by_cases v3 : f1.size ≤ 13
                · have e6 : decide ((f1.size : Int) - 7 ≤ 6) = true := decide_eq_true (by omega)
                  have RN2 := Lib.hid (RN.out (by omega))
                  rw [show ((f1.size - 7 : Nat) : Int) = (f1.size : Int) - 7 by omega] at RN2
                  have xb2 : nm (f1.extract 7 f1.size) (f1.size - 7) < (10 : Int) ^ (f1.size - 7) := by exact_mod_cast xb.2
                  have u7 : (7 : Int) ≤ (f1.size : Int) := by omega
                  clear RN
                  generalize nm (f1.extract 7 f1.size) (f1.size - 7) = X at *
                  by_cases v4 : 0 ≤ X
                  · have e7 : decide (X < 0) = false := decide_eq_false (by omega)
                    rw [if_pos ⟨v1, v2, v3, v4⟩] at TK
                    clear NBAD
                    go_enter Tryz.func21, Tryz.ntmps21
                    go_wp2_with fail
                    refine (CL.out _).mono ?_
                    rintro e w' ⟨rfl, rfl⟩
                    clear CL
                    go_wp2_with fail
                    refine (RN2.out _).mono ?_
                    rintro e w' ⟨rfl, rfl⟩
                    clear RN2
                    go_wp2_with fail
                    rename World => wz
                    clear e4 e5 e6 e7 q6 l6 hx hx1
                    go_loopw [10, 11] (fun xv iv wr => ∃ j : Nat, f1.size - 7 + j ≤ 6 ∧ iv = .int .i64 ((f1.size : Int) - 7 + (j : Nat)) ∧ xv = .int .i64 (X * 10 ^ j) ∧ wr = wz) (fun _ iv _ => (6 - intOf iv).toNat)
                    case atStart => exact ⟨0, by omega, by simp, by simp, rfl⟩
                    case round =>
                      obtain ⟨j, hj, rfl, rfl, rfl⟩ := hrel
                      have pb := pw_bd v4 xb2 hj
                      by_cases c8 : f1.size - 7 + j < 6
                      · have e8 : decide ((f1.size : Int) - 7 + (j : Int) < 6) = true := decide_eq_true (by omega)
                        have VS : Hid (X * 10 ^ (j + 1) = 10 * (X * 10 ^ j)) := Lib.hid (by rw [Int.pow_succ, ← Int.mul_assoc, Int.mul_comm])
                        generalize X * 10 ^ j = V at *
                        go_wp2_with fail
                        go_roundw
                        case rel => exact ⟨j + 1, by omega, by go_num, by rw [VS.out], trivial⟩
                        case measure => simp [intOf]; omega
                      · have e8 : decide ((f1.size : Int) - 7 + (j : Int) < 6) = false := decide_eq_false (by omega)
                        have ej : 13 - f1.size = j := by omega
                        rw [ej] at TK
                        clear xb xb2 ej hj c8
                        generalize X * 10 ^ j = V at *
                        have t1 : (V * 1048576).tdiv 1000000 = tk := by rw [TK.out]; exact Int.tdiv_eq_ediv_of_nonneg (by omega)
                        have t0 : 0 ≤ tk := by rw [TK.out]; omega
                        have t2 : tk < 1048576 := by rw [TK.out]; omega
                        clear TK
                        have CL9 := Lib.hid (fun w => rclock_c f9 w)
                        unfold rckE at CL9
                        have hb2 := nm_bd f9 6
                        rw [show nm f9 6 = dtN f9 from rfl] at hb2 CL9
                        replace hb2 : -1 ≤ dtN f9 ∧ dtN f9 ≤ 999999 := by omega
                        generalize dtN f9 = d at *
                        obtain ⟨rd, hrd⟩ : ∃ r, decide (0 ≤ d) = r := ⟨_, rfl⟩
                        obtain ⟨y1, hy1⟩ : ∃ z, (if 0 ≤ d then d % 100 else 0) = z := ⟨_, rfl⟩
                        obtain ⟨y2, hy2⟩ : ∃ z, (if 0 ≤ d then d / 100 % 100 else 0) = z := ⟨_, rfl⟩
                        obtain ⟨y3, hy3⟩ : ∃ z, (if 0 ≤ d then d / 10000 else 0) = z := ⟨_, rfl⟩
                        have ZD : Hid (rd = true → y1 = d % 100 ∧ y2 = d / 100 % 100 ∧ y3 = d / 10000 ∧ 0 ≤ d) := Lib.hid fun q => by
                          have q' : 0 ≤ d := of_decide_eq_true (hrd.trans q)
                          exact ⟨by rw [← hy1, if_pos q'], by rw [← hy2, if_pos q'], by rw [← hy3, if_pos q'], q'⟩
                        simp only [hrd, hy1, hy2, hy3] at CL9 IT
                        clear hrd hy1 hy2 hy3
                        cases rc with
                        | false =>
                          have N := Lib.hid (NO.out (by rw [IT.out]; simp))
                          go_wp2_with fail
                          refine (CL9.out _).mono ?_
                          rintro e w' ⟨rfl, rfl⟩
                          go_wp2_with fail
                          go_ret2
                          exact ⟨N.out.symm, brefl _⟩
                        | true =>
                          cases rd with
                          | false =>
                            have N := Lib.hid (NO.out (by rw [IT.out]; simp))
                            go_wp2_with fail
                            refine (CL9.out _).mono ?_
                            rintro e w' ⟨rfl, rfl⟩
                            go_wp2_with fail
                            go_ret2
                            exact ⟨N.out.symm, brefl _⟩
                          | true =>
                            obtain ⟨rfl, rfl, rfl⟩ := ZC.out rfl
                            obtain ⟨rfl, rfl, rfl, d0⟩ := ZD.out rfl
                            have TL := Lib.hid (fun w => rtell_c (yr (d % 100)) (d / 100 % 100) (d / 10000) (c / 10000) (c / 100 % 100) (c % 100) tk w _ (decide_eq_true_iff (p := ok (yr (d % 100)) (d / 100 % 100) (d / 10000) ∧ tod (c / 10000) (c / 100 % 100) (c % 100) tk)))
                            rw [TM.out] at YE
                            clear TM
                            generalize decide (ok (yr (d % 100)) (d / 100 % 100) (d / 10000) ∧ tod (c / 10000) (c / 100 % 100) (c % 100) tk) = o at *
                            generalize Cv.tell (num (yr (d % 100)) (d / 100 % 100) (d / 10000)) (c / 10000) (c / 100 % 100) (c % 100) tk = Z at *
                            have HE : Hid (E = .returned (.tuple #[.int .i64 (if o = true then Z else 0), .bool o])) := Lib.hid (by
                              cases o with
                              | true => exact YE.out (by rw [IT.out]; simp [t0])
                              | false => exact NO.out (by rw [IT.out]; simp))
                            generalize (if o = true then Z else 0) = r1 at *
                            clear YE NO IT
                            have YR : Hid (yr (d % 100) = if 80 ≤ d % 100 then 1900 + d % 100 else 2000 + d % 100) := Lib.hid rfl
                            have yb : 0 ≤ d % 100 ∧ d % 100 ≤ 99 := by omega
                            generalize yr (d % 100) = Y at *
                            generalize d % 100 = yy at *
                            generalize d / 100 % 100 = mo at *
                            generalize d / 10000 = da at *
                            generalize c / 10000 = H at *
                            generalize c / 100 % 100 = M at *
                            generalize c % 100 = S at *
                            by_cases y80 : yy < 80
                            · have f1 : decide (yy + 1900 < 1980) = true := decide_eq_true (by omega)
                              obtain rfl : Y = yy + 1900 + 100 := by rw [YR.out, if_neg (by omega)]; omega
                              clear YR
                              go_wp2_with fail
                              refine (CL9.out _).mono ?_
                              rintro e w' ⟨rfl, rfl⟩
                              go_wp2_with fail
                              refine (TL.out _).mono ?_
                              rintro e w4 ⟨⟨z, rfl, hz⟩, hb⟩
                              go_wp2_with fail
                              go_ret2
                              exact ⟨HE.out.symm, hb⟩
                            · have f1 : decide (yy + 1900 < 1980) = false := decide_eq_false (by omega)
                              obtain rfl : Y = yy + 1900 := by rw [YR.out, if_pos (by omega)]; omega
                              clear YR
                              go_wp2_with fail
                              refine (CL9.out _).mono ?_
                              rintro e w' ⟨rfl, rfl⟩
                              go_wp2_with fail
                              refine (TL.out _).mono ?_
                              rintro e w4 ⟨⟨z, rfl, hz⟩, hb⟩
                              go_wp2_with fail
                              go_ret2
                              exact ⟨HE.out.symm, hb⟩
                  · have e7 : decide (X < 0) = true := decide_eq_true (by omega)
                    have N := Lib.hid (NBAD.out fun q => v4 q.2.2.2)
                    go_enter Tryz.func21, Tryz.ntmps21
                    go_wp2_with fail
                    refine (CL.out _).mono ?_
                    rintro e w' ⟨rfl, rfl⟩
                    go_wp2_with fail
                    refine (RN2.out _).mono ?_
                    rintro e w' ⟨rfl, rfl⟩
                    go_wp2_with fail
                    go_ret2
                    exact ⟨N.out.symm, brefl _⟩
                · have e6 : decide ((f1.size : Int) - 7 ≤ 6) = false := decide_eq_false (by omega)
                  have N := Lib.hid (NBAD.out fun q => v3 q.2.2.1)
                  go_enter Tryz.func21, Tryz.ntmps21
                  go_wp2_with fail
                  refine (CL.out _).mono ?_
                  rintro e w' ⟨rfl, rfl⟩
                  go_wp2_with fail
                  go_ret2
                  exact ⟨N.out.symm, brefl _⟩
              · have e5 : decide (1 ≤ (f1.size : Int) - 7) = false := decide_eq_false (by omega)
                have N := Lib.hid (NBAD.out fun q => v2 q.2.1)
                go_enter Tryz.func21, Tryz.ntmps21
                go_wp2_with fail
                refine (CL.out _).mono ?_
                rintro e w' ⟨rfl, rfl⟩
                go_wp2_with fail
                go_ret2
                exact ⟨N.out.symm, brefl _⟩
            · have e4 : ((x6 : Int) == 46) = false := by simp; omega
              have N := Lib.hid (NBAD.out fun q => v1 q.1)
              go_enter Tryz.func21, Tryz.ntmps21
              go_wp2_with fail
              refine (CL.out _).mono ?_
              rintro e w' ⟨rfl, rfl⟩
              go_wp2_with fail
              go_ret2
              exact ⟨N.out.symm, brefl _⟩
        · have e2 : decide ((f1.size : Int) < 6) = true := decide_eq_true (by omega)
          rw [decide_eq_false c6] at IT
          have N := Lib.hid (NO.out (by rw [IT.out]; rfl))
          go_enter Tryz.func21, Tryz.ntmps21
          go_wp2_with fail
          go_ret2
          exact ⟨N.out.symm, brefl w⟩
  · rw [decide_eq_false c0] at IT
    have e1 : ((f0.size : Int) != 5) = true := by simp; omega
    have N := Lib.hid (NO.out (by rw [IT.out]; rfl))
    go_enter Tryz.func21, Tryz.ntmps21
    go_wp2_with fail
    go_ret2
    exact ⟨N.out.symm, brefl w⟩
end Go.Proofs.YtoecgabdjpgleaaGreatDoor.Rd
