/-
  The document's answer of a code line: sundialref13.Code.
  Conditions: the line has no more than 2^40 bytes; the laid tables of unicode/utf8.
-/
import Derived.Test.YtoecgabdjpgleaaGreatDoorRdV
import Derived.Test.YtoecgabdjpgleaaGreatDoorRdF
import Derived.Test.YtoecgabdjpgleaaGreatDoorWdH
import Derived.Test.YtoecgabdjpgleaaGreatDoorWpR
namespace Go.Proofs.YtoecgabdjpgleaaGreatDoor.Rd
open Go.RowKit Cv
set_option linter.unusedVariables false
set_option linter.unusedSimpArgs false

theorem num_end (y : Int) : num y 12 31 = ny (y + 1) - 1 := by
  have h1 := ms_twelve y
  have h2 : ms y 12 = ms y 11 + len y 12 := ms_succ y 11
  have h3 : len y 12 = 31 := by simp [len]
  rw [ny_succ]
  unfold num
  rw [show ((12 : Int) - 1).toNat = 11 from rfl]
  omega
theorem ok_end {y : Int} : ok y 12 31 ↔ 1900 ≤ y ∧ y ≤ 9999 := by
  have h3 : len y 12 = 31 := by simp [len]
  unfold ok
  omega
theorem rcode_err {s : ByteArray} {ch : Int} {w : World} (T : Lib.Utf8Tabs 3 4 w) (hs : s.size ≤ 1099511627776) (h : Wd.spR s = .inl ch) :
    Calls Tryz.prog 9 #[.string s] w fun e w' => e = .returned (.tuple #[.int .i64 0, .int .i64 4]) ∧ Below w.heap.size w w' := by
  have SC := Lib.hid (Wd.rSplit_c s w T hs)
  obtain ⟨c0, c1⟩ := (Wd.sp_same s).1 ch h
  rw [c1] at SC
  generalize (Wd.spl (Wd.chars s)).1 = L at *
  have e0 : decide (0 ≤ ch) = true := decide_eq_true c0
  clear h c1 T
  go_enter Tryz.func9, Tryz.ntmps9
  go_wp2_with fail
  refine SC.out.mono ?_
  rintro e w1 ⟨v, rfl, own, hb⟩
  go_wp2_with fail
  go_ret2
  exact ⟨rfl, hb⟩
theorem rcode_len {s : ByteArray} {L : List Wd.W3} {w : World} (T : Lib.Utf8Tabs 3 4 w) (hs : s.size ≤ 1099511627776) (h : Wd.spR s = .inr L) (hn : ¬ (L.length = 4 ∨ L.length = 5)) :
    Calls Tryz.prog 9 #[.string s] w fun e w' => e = .returned (.tuple #[.int .i64 0, .int .i64 4]) ∧ Below w.heap.size w w' := by
  have SC := Lib.hid (Wd.rSplit_c s w T hs)
  rw [(Wd.sp_same s).2 L h] at SC
  simp only at SC
  clear h T
  go_enter Tryz.func9, Tryz.ntmps9
  go_wp2_with fail
  refine SC.out.mono ?_
  rintro e w1 ⟨v, rfl, own, hb⟩
  obtain ⟨a, cap, rfl, m1, m2, m3⟩ := own.rw
  clear own m3 SC
  generalize L.length = n at *
  by_cases c : n < 4
  · have e1 : decide ((n : Int) < 4) = true := decide_eq_true (by omega)
    have e2 : decide (n < 4) = true := decide_eq_true (by omega)
    go_wp2_with fail
    go_ret2
    exact ⟨rfl, hb⟩
  · have e1 : decide ((n : Int) < 4) = false := decide_eq_false (by omega)
    have e2 : decide (n < 4) = false := decide_eq_false (by omega)
    have e3 : decide (5 < (n : Int)) = true := decide_eq_true (by omega)
    have e4 : decide (5 < n) = true := decide_eq_true (by omega)
    go_wp2_with fail
    go_ret2
    exact ⟨rfl, hb⟩

set_option maxRecDepth 100000 in
set_option maxHeartbeats 4000000 in
theorem rcode_4 {s : ByteArray} {L : List Wd.W3} {w : World} (T : Lib.Utf8Tabs 3 4 w) (hs : s.size ≤ 1099511627776) (h : Wd.spR s = .inr L) (hn : L.length = 4) :
    Calls Tryz.prog 9 #[.string s] w fun e w' => e = cdE (Wd.spR s) ∧ Below w.heap.size w w' := by
  have SC := Lib.hid (Wd.rSplit_c s w T hs)
  rw [(Wd.sp_same s).2 L h] at SC
  rw [h]
  simp only at SC
  have CE : Hid (∀ w b off n cap, Wd.Rw w (.slice (some ⟨b, off, none⟩) n cap) L → w.cell? ⟨b, off, none⟩ = some (.string (tx L 0)) ∧ w.cell? ⟨b, off + 3, none⟩ = some (.string (tx L 1)) ∧ w.cell? ⟨b, off + 6, none⟩ = some (.string (tx L 2)) ∧ w.cell? ⟨b, off + 9, none⟩ = some (.string (tx L 3))) := Lib.hid fun w b off n cap q => ⟨rw_at q (j := 0) (by omega), rw_at q (j := 1) (by omega), rw_at q (j := 2) (by omega), rw_at q (j := 3) (by omega)⟩
  have IC : Hid (isCode L = (!anyq L && ((tx L 0).toList == [84]) && decide (0 ≤ nm (tx L 1) 4) && decide (0 ≤ nm (tx L 2) 3) && decide (0 ≤ nm (tx L 3) 6) && decide (0 ≤ (0 : Int)))) := Lib.hid (by
    unfold isCode cQ cY cD cC
    rw [hn]
    rfl)
  have TC : Hid (tellsC L = (dq (nm (tx L 1) 4) (nm (tx L 2) 3) && !((0 : Int) == 9) && decide (tod (nm (tx L 3) 6 / 10000) (nm (tx L 3) 6 / 100 % 100) (nm (tx L 3) 6 % 100) 0))) := Lib.hid (by
    unfold tellsC cQ cY cD cC
    rw [hn]
    rfl)
  have TM : Hid (timeC L = Cv.tell (ny (nm (tx L 1) 4) + nm (tx L 2) 3 - 1) (nm (tx L 3) 6 / 10000) (nm (tx L 3) 6 / 100 % 100) (nm (tx L 3) 6 % 100) 0) := Lib.hid rfl
  have NO : Hid (isCode L = false → cdE (.inr L) = .returned (.tuple #[.int .i64 0, .int .i64 4])) := Lib.hid cd_no
  have NN : Hid (isCode L = true → tellsC L = false → cdE (.inr L) = .returned (.tuple #[.int .i64 0, .int .i64 5])) := Lib.hid cd_none
  have YY : Hid (isCode L = true → tellsC L = true → cdE (.inr L) = .returned (.tuple #[.int .i64 (timeC L), .int .i64 0])) := Lib.hid cd_yes
  have AY := Lib.hid (fun (k : Nat) (x : Wd.W3) (h : L[k]? = some x) (q : x.q = true) => anyq_hit h q)
  have AN := Lib.hid (fun (h : ∀ (j : Nat) (x : Wd.W3), L[j]? = some x → x.q = false) => anyq_miss h)
  generalize hP : cdE (.inr L) = P at *
  have D1 := Lib.hid (fun w => rnumber_c (tx L 1) 4 (by omega) w)
  have D2 := Lib.hid (fun w => rnumber_c (tx L 2) 3 (by omega) w)
  have D3 := Lib.hid (fun w => rclock_c (tx L 3) w)
  have y1 := nm_bd (tx L 1) 4
  have d1 := nm_bd (tx L 2) 3
  have c1 := nm_bd (tx L 3) 6
  generalize nm (tx L 1) 4 = y at *
  generalize nm (tx L 2) 3 = d at *
  generalize nm (tx L 3) 6 = c at *
  generalize tx L 0 = t0 at *
  generalize tx L 1 = t1 at *
  generalize tx L 2 = t2 at *
  generalize tx L 3 = t3 at *
  replace y1 : -1 ≤ y ∧ y ≤ 9999 := by omega
  replace d1 : -1 ≤ d ∧ d ≤ 999 := by omega
  replace c1 : -1 ≤ c ∧ c ≤ 999999 := by omega
  clear h hs hP T
  go_enter Tryz.func9, Tryz.ntmps9
  go_wp2_with fail
  refine SC.out.mono ?_
  rintro e w1 ⟨v, rfl, own, hb⟩
  have B1 := Lib.hid hb
  have R1 := own.rw
  clear hb own SC
  obtain ⟨a, cap, rfl, m1, m2, m3⟩ := id R1
  obtain ⟨b, off, rfl, hbl, m4⟩ := m3 (by omega)
  have QC : Hid (∀ (j : Nat) (x : Wd.W3), L[j]? = some x → w1.cell? ⟨b, off + j * 3 + 2, none⟩ = some (.bool x.q)) := Lib.hid fun j x hj => (m4 j x hj).2.2
  rw [hn] at R1 m1 ⊢
  have HN := Lib.hid hn
  obtain ⟨c0, c3, c6, c9⟩ := CE.out _ _ _ _ _ R1
  clear m3 m4 hn R1 CE
  cases T0 : (t0.toList == [84]) with
  | false =>
    rw [T0] at IC
    go_wp2_with fail
    go_ret2
    exact ⟨(NO.out (by rw [IC.out]; simp)).symm, B1.out⟩
  | true =>
    rw [T0] at IC
    go_wp2_with fail
    go_loopw [6] (fun iv wr => ∃ k : Nat, k ≤ 4 ∧ iv = .int .i64 k ∧ (∀ (j : Nat) (x : Wd.W3), j < k → L[j]? = some x → x.q = false) ∧ wr = w1) (fun iv _ => 4 - (intOf iv).toNat)
    case atStart => exact ⟨0, Nat.zero_le _, rfl, fun j x hj => absurd hj (Nat.not_lt_zero _), rfl⟩
    case round =>
      obtain ⟨k, hk, rfl, hno, rfl⟩ := hrel
      have NQ := Lib.hid hno
      clear hno
      by_cases ck : k < 4
      · have f0 : decide ((k : Int) < 4) = true := decide_eq_true (by omega)
        have f1 : (k : Int) < 4 := by omega
        have f2 : (0 : Int) ≤ (k : Int) := by omega
        obtain ⟨x, hx⟩ : ∃ x, L[k]? = some x := ⟨_, List.getElem?_eq_getElem (by rw [HN.out]; exact ck)⟩
        have cq := QC.out k x hx
        have QQ := Lib.hid (AY.out k x hx)
        have NX : Hid (x.q = false → ∀ (j : Nat) (z : Wd.W3), j < k + 1 → L[j]? = some z → z.q = false) := Lib.hid fun q j z hj hz => by
          by_cases e : j = k
          · subst e; rw [hx] at hz; cases hz; exact q
          · exact NQ.out j z (by omega) hz
        clear NQ hx
        obtain ⟨xt, xc, xq⟩ := x
        simp only at cq QQ NX
        cases xq with
        | true =>
          have N := Lib.hid (NO.out (by rw [IC.out, QQ.out rfl]; rfl))
          go_wp2_with fail
          go_ret2
          exact ⟨N.out.symm, B1.out⟩
        | false =>
          have NY := Lib.hid (NX.out rfl)
          go_wp2_with fail
          go_roundw
          case rel => exact ⟨k + 1, by omega, by go_num, NY.out, trivial⟩
          case measure => simp [intOf]; omega
      · have f0 : decide ((k : Int) < 4) = false := decide_eq_false (by omega)
        have AQ := Lib.hid (AN.out fun j x hj => NQ.out j x (by have := (List.getElem?_eq_some_iff.1 hj).1; rw [HN.out] at this; omega) hj)
        rw [AQ.out] at IC
        clear AQ NQ AN AY QC ck
        simp only [Bool.not_false, Bool.true_and] at IC
        unfold rckE at D3
        obtain ⟨rc, hrc⟩ : ∃ r, decide (0 ≤ c) = r := ⟨_, rfl⟩
        obtain ⟨z1, hz1⟩ : ∃ z, (if 0 ≤ c then c / 10000 else 0) = z := ⟨_, rfl⟩
        obtain ⟨z2, hz2⟩ : ∃ z, (if 0 ≤ c then c / 100 % 100 else 0) = z := ⟨_, rfl⟩
        obtain ⟨z3, hz3⟩ : ∃ z, (if 0 ≤ c then c % 100 else 0) = z := ⟨_, rfl⟩
        have ZC : Hid (rc = true → z1 = c / 10000 ∧ z2 = c / 100 % 100 ∧ z3 = c % 100) := Lib.hid fun q => by
          have q' : 0 ≤ c := of_decide_eq_true (hrc.trans q)
          exact ⟨by rw [← hz1, if_pos q'], by rw [← hz2, if_pos q'], by rw [← hz3, if_pos q']⟩
        simp only [hrc, hz1, hz2, hz3] at D3 IC
        clear hrc hz1 hz2 hz3
        by_cases y0 : 0 ≤ y
        · have g1 : decide (y < 0) = false := decide_eq_false (by omega)
          by_cases d0 : 0 ≤ d
          · have g2 : decide (d < 0) = false := decide_eq_false (by omega)
            cases rc with
            | false =>
              have N := Lib.hid (NO.out (by rw [IC.out]; simp))
              go_wp2_with fail
              refine (D1.out _).mono ?_
              rintro e w' ⟨rfl, rfl⟩
              go_wp2_with fail
              refine (D2.out _).mono ?_
              rintro e w' ⟨rfl, rfl⟩
              go_wp2_with fail
              refine (D3.out _).mono ?_
              rintro e w' ⟨rfl, rfl⟩
              go_wp2_with fail
              go_ret2
              exact ⟨N.out.symm, B1.out⟩
            | true =>
              have IS := Lib.hid (show isCode L = true by rw [IC.out, decide_eq_true y0, decide_eq_true d0]; rfl)
              obtain ⟨rfl, rfl, rfl⟩ := ZC.out rfl
              by_cases yo : 1900 ≤ y
              · have NA := Lib.hid (fun w => rNumber_ok y 1 1 w (ok_new.2 ⟨yo, by omega⟩))
                have NZ := Lib.hid (fun w => rNumber_ok y 12 31 w (ok_end.2 ⟨yo, by omega⟩))
                rw [num_new] at NA
                rw [num_end] at NZ
                have nb := ny_bd yo (by omega)
                have nb2 := ny_bd (y := y + 1) (by omega) (by omega)
                have DQ : Hid (dq y d = decide (1900 ≤ y ∧ y ≤ 9999 ∧ 1 ≤ d ∧ ny y + d - 1 < ny (y + 1))) := Lib.hid rfl
                have DD := Lib.hid (fun (h1 : 0 ≤ ny y + d - 1) (h2 : ny y + d - 1 ≤ 2958463) w => rDay_ok (ny y + d - 1) w h1 h2)
                generalize dq y d = Q at *
                generalize ny y = A at *
                generalize ny (y + 1) = Z at *
                by_cases dd1 : 1 ≤ d
                · have g5 : decide (d < 1) = false := decide_eq_false (by omega)
                  by_cases dl : A + d - 1 < Z
                  · have g6 : decide (Z - 1 < A + d - 1) = false := decide_eq_false (by omega)
                    have DE := Lib.hid (DD.out (by omega) (by omega))
                    have TQ : Hid (tellsC L = decide (tod (c / 10000) (c / 100 % 100) (c % 100) 0)) := Lib.hid (by
                      rw [TC.out, DQ.out, decide_eq_true (show 1900 ≤ y ∧ y ≤ 9999 ∧ 1 ≤ d ∧ A + d - 1 < Z by omega)]
                      simp)
                    have TL := Lib.hid (fun (a b e : Int) (h : ok a b e) (w : World) => rtell_c a b e (c / 10000) (c / 100 % 100) (c % 100) 0 w (decide (tod (c / 10000) (c / 100 % 100) (c % 100) 0)) (by rw [decide_eq_true_iff]; exact ⟨fun k => ⟨h, k⟩, fun k => k.2⟩))
                    clear TC DQ DD
                    generalize decide (tod (c / 10000) (c / 100 % 100) (c % 100) 0) = o at *
                    go_wp2_with fail
                    refine (D1.out _).mono ?_
                    rintro e w' ⟨rfl, rfl⟩
                    go_wp2_with fail
                    refine (D2.out _).mono ?_
                    rintro e w' ⟨rfl, rfl⟩
                    go_wp2_with fail
                    refine (D3.out _).mono ?_
                    rintro e w' ⟨rfl, rfl⟩
                    go_wp2_with fail
                    refine (NA.out _).mono ?_
                    rintro e w3 ⟨rfl, hb⟩
                    have B2 := Lib.hid (bstep B1.out hb)
                    clear hb NA
                    go_wp2_with fail
                    refine (NZ.out _).mono ?_
                    rintro e w4 ⟨rfl, hb⟩
                    have B3 := Lib.hid (bstep B2.out hb)
                    clear hb NZ B2
                    go_wp2_with fail
                    refine (DE.out _).mono ?_
                    rintro e w5 ⟨⟨da, db, dc, hd, rfl⟩, hb⟩
                    have B4 := Lib.hid (balloc (bstep B3.out hb) (.cells #[.int .i64 da, .int .i64 db, .int .i64 dc] 51))
                    have TL2 := Lib.hid (TL.out da db dc hd.1)
                    rw [hd.2] at TL2
                    clear hb TL B3 hd DE
                    go_wp2_with fail
                    refine (TL2.out _).mono ?_
                    rintro e w6 ⟨⟨z, rfl, hz⟩, hb⟩
                    have B5 := Lib.hid (bstep B4.out hb)
                    clear hb TL2 B4
                    cases o with
                    | true =>
                      have N := Lib.hid (YY.out IS.out TQ.out)
                      rw [TM.out] at N
                      have hz2 : (z != 0) = false := by rw [bne, hz]; rfl
                      simp only [if_true]
                      generalize Cv.tell (A + d - 1) (c / 10000) (c / 100 % 100) (c % 100) 0 = V at *
                      go_wp2_with fail
                      go_ret2
                      exact ⟨N.out.symm, B5.out⟩
                    | false =>
                      have N := Lib.hid (NN.out IS.out TQ.out)
                      have hz2 : (z != 0) = true := by rw [bne, hz]; rfl
                      go_wp2_with fail
                      go_ret2
                      exact ⟨N.out.symm, B5.out⟩
                  · have g6 : decide (Z - 1 < A + d - 1) = true := decide_eq_true (by omega)
                    have N := Lib.hid (NN.out IS.out (by rw [TC.out, DQ.out, decide_eq_false (fun q => dl q.2.2.2)]; simp))
                    go_wp2_with fail
                    refine (D1.out _).mono ?_
                    rintro e w' ⟨rfl, rfl⟩
                    go_wp2_with fail
                    refine (D2.out _).mono ?_
                    rintro e w' ⟨rfl, rfl⟩
                    go_wp2_with fail
                    refine (D3.out _).mono ?_
                    rintro e w' ⟨rfl, rfl⟩
                    go_wp2_with fail
                    refine (NA.out _).mono ?_
                    rintro e w3 ⟨rfl, hb⟩
                    have B2 := Lib.hid (bstep B1.out hb)
                    clear hb NA
                    go_wp2_with fail
                    refine (NZ.out _).mono ?_
                    rintro e w4 ⟨rfl, hb⟩
                    have B3 := Lib.hid (bstep B2.out hb)
                    clear hb NZ B2
                    go_wp2_with fail
                    go_ret2
                    exact ⟨N.out.symm, B3.out⟩
                · have g5 : decide (d < 1) = true := decide_eq_true (by omega)
                  have N := Lib.hid (NN.out IS.out (by rw [TC.out, DQ.out, decide_eq_false (fun q => dd1 q.2.2.1)]; simp))
                  go_wp2_with fail
                  refine (D1.out _).mono ?_
                  rintro e w' ⟨rfl, rfl⟩
                  go_wp2_with fail
                  refine (D2.out _).mono ?_
                  rintro e w' ⟨rfl, rfl⟩
                  go_wp2_with fail
                  refine (D3.out _).mono ?_
                  rintro e w' ⟨rfl, rfl⟩
                  go_wp2_with fail
                  refine (NA.out _).mono ?_
                  rintro e w3 ⟨rfl, hb⟩
                  have B2 := Lib.hid (bstep B1.out hb)
                  clear hb NA
                  go_wp2_with fail
                  refine (NZ.out _).mono ?_
                  rintro e w4 ⟨rfl, hb⟩
                  have B3 := Lib.hid (bstep B2.out hb)
                  clear hb NZ B2
                  go_wp2_with fail
                  go_ret2
                  exact ⟨N.out.symm, B3.out⟩
              · have NA := Lib.hid (fun w => rNumber_bad y 1 1 w (fun q => yo (ok_new.1 q).1))
                have NZ := Lib.hid (fun w => rNumber_bad y 12 31 w (fun q => yo (ok_end.1 q).1))
                have DQ : dq y d = false := by rw [dq, decide_eq_false_iff_not]; omega
                have N := Lib.hid (NN.out IS.out (by rw [TC.out, DQ]; simp))
                go_wp2_with fail
                refine (D1.out _).mono ?_
                rintro e w' ⟨rfl, rfl⟩
                go_wp2_with fail
                refine (D2.out _).mono ?_
                rintro e w' ⟨rfl, rfl⟩
                go_wp2_with fail
                refine (D3.out _).mono ?_
                rintro e w' ⟨rfl, rfl⟩
                go_wp2_with fail
                refine (NA.out _).mono ?_
                rintro e w3 ⟨rfl, hb⟩
                have B2 := Lib.hid (bstep B1.out hb)
                clear hb NA
                go_wp2_with fail
                refine (NZ.out _).mono ?_
                rintro e w4 ⟨rfl, hb⟩
                have B3 := Lib.hid (bstep B2.out hb)
                clear hb NZ B2
                go_wp2_with fail
                go_ret2
                exact ⟨N.out.symm, B3.out⟩
          · have g2 : decide (d < 0) = true := decide_eq_true (by omega)
            have N := Lib.hid (NO.out (by rw [IC.out, decide_eq_false d0]; simp))
            go_wp2_with fail
            refine (D1.out _).mono ?_
            rintro e w' ⟨rfl, rfl⟩
            go_wp2_with fail
            refine (D2.out _).mono ?_
            rintro e w' ⟨rfl, rfl⟩
            go_wp2_with fail
            refine (D3.out _).mono ?_
            rintro e w' ⟨rfl, rfl⟩
            go_wp2_with fail
            go_ret2
            exact ⟨N.out.symm, B1.out⟩
        · have g1 : decide (y < 0) = true := decide_eq_true (by omega)
          have N := Lib.hid (NO.out (by rw [IC.out, decide_eq_false y0]; simp))
          go_wp2_with fail
          refine (D1.out _).mono ?_
          rintro e w' ⟨rfl, rfl⟩
          go_wp2_with fail
          refine (D2.out _).mono ?_
          rintro e w' ⟨rfl, rfl⟩
          go_wp2_with fail
          refine (D3.out _).mono ?_
          rintro e w' ⟨rfl, rfl⟩
          go_wp2_with fail
          go_ret2
          exact ⟨N.out.symm, B1.out⟩

set_option maxRecDepth 100000 in
set_option maxHeartbeats 4000000 in
theorem rcode_5 {s : ByteArray} {L : List Wd.W3} {w : World} (T : Lib.Utf8Tabs 3 4 w) (hs : s.size ≤ 1099511627776) (h : Wd.spR s = .inr L) (hn : L.length = 5) :
    Calls Tryz.prog 9 #[.string s] w fun e w' => e = cdE (Wd.spR s) ∧ Below w.heap.size w w' := by
  have SC := Lib.hid (Wd.rSplit_c s w T hs)
  rw [(Wd.sp_same s).2 L h] at SC
  rw [h]
  simp only at SC
  have CE : Hid (∀ w b off n cap, Wd.Rw w (.slice (some ⟨b, off, none⟩) n cap) L → w.cell? ⟨b, off, none⟩ = some (.string (tx L 0)) ∧ w.cell? ⟨b, off + 3, none⟩ = some (.string (tx L 1)) ∧ w.cell? ⟨b, off + 6, none⟩ = some (.string (tx L 2)) ∧ w.cell? ⟨b, off + 9, none⟩ = some (.string (tx L 3)) ∧ w.cell? ⟨b, off + 12, none⟩ = some (.string (tx L 4))) := Lib.hid fun w b off n cap q => ⟨rw_at q (j := 0) (by omega), rw_at q (j := 1) (by omega), rw_at q (j := 2) (by omega), rw_at q (j := 3) (by omega), rw_at q (j := 4) (by omega)⟩
  have IC : Hid (isCode L = (!anyq L && ((tx L 0).toList == [84]) && decide (0 ≤ nm (tx L 1) 4) && decide (0 ≤ nm (tx L 2) 3) && decide (0 ≤ nm (tx L 3) 6) && decide (0 ≤ nm (tx L 4) 1))) := Lib.hid (by
    unfold isCode cQ cY cD cC
    rw [hn]
    rfl)
  have TC : Hid (tellsC L = (dq (nm (tx L 1) 4) (nm (tx L 2) 3) && !(nm (tx L 4) 1 == 9) && decide (tod (nm (tx L 3) 6 / 10000) (nm (tx L 3) 6 / 100 % 100) (nm (tx L 3) 6 % 100) 0))) := Lib.hid (by
    unfold tellsC cQ cY cD cC
    rw [hn]
    rfl)
  have TM : Hid (timeC L = Cv.tell (ny (nm (tx L 1) 4) + nm (tx L 2) 3 - 1) (nm (tx L 3) 6 / 10000) (nm (tx L 3) 6 / 100 % 100) (nm (tx L 3) 6 % 100) 0) := Lib.hid rfl
  have NO : Hid (isCode L = false → cdE (.inr L) = .returned (.tuple #[.int .i64 0, .int .i64 4])) := Lib.hid cd_no
  have NN : Hid (isCode L = true → tellsC L = false → cdE (.inr L) = .returned (.tuple #[.int .i64 0, .int .i64 5])) := Lib.hid cd_none
  have YY : Hid (isCode L = true → tellsC L = true → cdE (.inr L) = .returned (.tuple #[.int .i64 (timeC L), .int .i64 0])) := Lib.hid cd_yes
  have AY := Lib.hid (fun (k : Nat) (x : Wd.W3) (h : L[k]? = some x) (q : x.q = true) => anyq_hit h q)
  have AN := Lib.hid (fun (h : ∀ (j : Nat) (x : Wd.W3), L[j]? = some x → x.q = false) => anyq_miss h)
  generalize hP : cdE (.inr L) = P at *
  have D1 := Lib.hid (fun w => rnumber_c (tx L 1) 4 (by omega) w)
  have D2 := Lib.hid (fun w => rnumber_c (tx L 2) 3 (by omega) w)
  have D3 := Lib.hid (fun w => rclock_c (tx L 3) w)
  have D4 := Lib.hid (fun w => rnumber_c (tx L 4) 1 (by omega) w)
  have q1 := nm_bd (tx L 4) 1
  generalize nm (tx L 4) 1 = qv at *
  generalize tx L 4 = t4 at *
  have y1 := nm_bd (tx L 1) 4
  have d1 := nm_bd (tx L 2) 3
  have c1 := nm_bd (tx L 3) 6
  generalize nm (tx L 1) 4 = y at *
  generalize nm (tx L 2) 3 = d at *
  generalize nm (tx L 3) 6 = c at *
  generalize tx L 0 = t0 at *
  generalize tx L 1 = t1 at *
  generalize tx L 2 = t2 at *
  generalize tx L 3 = t3 at *
  replace y1 : -1 ≤ y ∧ y ≤ 9999 := by omega
  replace d1 : -1 ≤ d ∧ d ≤ 999 := by omega
  replace c1 : -1 ≤ c ∧ c ≤ 999999 := by omega
  clear h hs hP T
  go_enter Tryz.func9, Tryz.ntmps9
  go_wp2_with fail
  refine SC.out.mono ?_
  rintro e w1 ⟨v, rfl, own, hb⟩
  have B1 := Lib.hid hb
  have R1 := own.rw
  clear hb own SC
  obtain ⟨a, cap, rfl, m1, m2, m3⟩ := id R1
  obtain ⟨b, off, rfl, hbl, m4⟩ := m3 (by omega)
  have QC : Hid (∀ (j : Nat) (x : Wd.W3), L[j]? = some x → w1.cell? ⟨b, off + j * 3 + 2, none⟩ = some (.bool x.q)) := Lib.hid fun j x hj => (m4 j x hj).2.2
  rw [hn] at R1 m1 ⊢
  have HN := Lib.hid hn
  obtain ⟨c0, c3, c6, c9, c12⟩ := CE.out _ _ _ _ _ R1
  clear m3 m4 hn R1 CE
  cases T0 : (t0.toList == [84]) with
  | false =>
    rw [T0] at IC
    go_wp2_with fail
    go_ret2
    exact ⟨(NO.out (by rw [IC.out]; simp)).symm, B1.out⟩
  | true =>
    rw [T0] at IC
    go_wp2_with fail
    go_loopw [6] (fun iv wr => ∃ k : Nat, k ≤ 5 ∧ iv = .int .i64 k ∧ (∀ (j : Nat) (x : Wd.W3), j < k → L[j]? = some x → x.q = false) ∧ wr = w1) (fun iv _ => 5 - (intOf iv).toNat)
    case atStart => exact ⟨0, Nat.zero_le _, rfl, fun j x hj => absurd hj (Nat.not_lt_zero _), rfl⟩
    case round =>
      obtain ⟨k, hk, rfl, hno, rfl⟩ := hrel
      have NQ := Lib.hid hno
      clear hno
      by_cases ck : k < 5
      · have f0 : decide ((k : Int) < 5) = true := decide_eq_true (by omega)
        have f1 : (k : Int) < 5 := by omega
        have f2 : (0 : Int) ≤ (k : Int) := by omega
        obtain ⟨x, hx⟩ : ∃ x, L[k]? = some x := ⟨_, List.getElem?_eq_getElem (by rw [HN.out]; exact ck)⟩
        have cq := QC.out k x hx
        have QQ := Lib.hid (AY.out k x hx)
        have NX : Hid (x.q = false → ∀ (j : Nat) (z : Wd.W3), j < k + 1 → L[j]? = some z → z.q = false) := Lib.hid fun q j z hj hz => by
          by_cases e : j = k
          · subst e; rw [hx] at hz; cases hz; exact q
          · exact NQ.out j z (by omega) hz
        clear NQ hx
        obtain ⟨xt, xc, xq⟩ := x
        simp only at cq QQ NX
        cases xq with
        | true =>
          have N := Lib.hid (NO.out (by rw [IC.out, QQ.out rfl]; rfl))
          go_wp2_with fail
          go_ret2
          exact ⟨N.out.symm, B1.out⟩
        | false =>
          have NY := Lib.hid (NX.out rfl)
          go_wp2_with fail
          go_roundw
          case rel => exact ⟨k + 1, by omega, by go_num, NY.out, trivial⟩
          case measure => simp [intOf]; omega
      · have f0 : decide ((k : Int) < 5) = false := decide_eq_false (by omega)
        have AQ := Lib.hid (AN.out fun j x hj => NQ.out j x (by have := (List.getElem?_eq_some_iff.1 hj).1; rw [HN.out] at this; omega) hj)
        rw [AQ.out] at IC
        clear AQ NQ AN AY QC ck
        simp only [Bool.not_false, Bool.true_and] at IC
        unfold rckE at D3
        obtain ⟨rc, hrc⟩ : ∃ r, decide (0 ≤ c) = r := ⟨_, rfl⟩
        obtain ⟨z1, hz1⟩ : ∃ z, (if 0 ≤ c then c / 10000 else 0) = z := ⟨_, rfl⟩
        obtain ⟨z2, hz2⟩ : ∃ z, (if 0 ≤ c then c / 100 % 100 else 0) = z := ⟨_, rfl⟩
        obtain ⟨z3, hz3⟩ : ∃ z, (if 0 ≤ c then c % 100 else 0) = z := ⟨_, rfl⟩
        have ZC : Hid (rc = true → z1 = c / 10000 ∧ z2 = c / 100 % 100 ∧ z3 = c % 100) := Lib.hid fun q => by
          have q' : 0 ≤ c := of_decide_eq_true (hrc.trans q)
          exact ⟨by rw [← hz1, if_pos q'], by rw [← hz2, if_pos q'], by rw [← hz3, if_pos q']⟩
        simp only [hrc, hz1, hz2, hz3] at D3 IC
        clear hrc hz1 hz2 hz3
        by_cases y0 : 0 ≤ y
        · have g1 : decide (y < 0) = false := decide_eq_false (by omega)
          by_cases d0 : 0 ≤ d
          · have g2 : decide (d < 0) = false := decide_eq_false (by omega)
            cases rc with
            | false =>
              have N := Lib.hid (NO.out (by rw [IC.out]; simp))
              go_wp2_with fail
              refine (D1.out _).mono ?_
              rintro e w' ⟨rfl, rfl⟩
              go_wp2_with fail
              refine (D2.out _).mono ?_
              rintro e w' ⟨rfl, rfl⟩
              go_wp2_with fail
              refine (D3.out _).mono ?_
              rintro e w' ⟨rfl, rfl⟩
              go_wp2_with fail
              refine (D4.out _).mono ?_
              rintro e w' ⟨rfl, rfl⟩
              go_wp2_with fail
              go_ret2
              exact ⟨N.out.symm, B1.out⟩
            | true =>
              by_cases q0 : 0 ≤ qv
              · have g4 : decide (qv < 0) = false := decide_eq_false (by omega)
                have IS := Lib.hid (show isCode L = true by rw [IC.out, decide_eq_true y0, decide_eq_true d0, decide_eq_true q0]; rfl)
                obtain ⟨rfl, rfl, rfl⟩ := ZC.out rfl
                by_cases yo : 1900 ≤ y
                · have NA := Lib.hid (fun w => rNumber_ok y 1 1 w (ok_new.2 ⟨yo, by omega⟩))
                  have NZ := Lib.hid (fun w => rNumber_ok y 12 31 w (ok_end.2 ⟨yo, by omega⟩))
                  rw [num_new] at NA
                  rw [num_end] at NZ
                  have nb := ny_bd yo (by omega)
                  have nb2 := ny_bd (y := y + 1) (by omega) (by omega)
                  have DQ : Hid (dq y d = decide (1900 ≤ y ∧ y ≤ 9999 ∧ 1 ≤ d ∧ ny y + d - 1 < ny (y + 1))) := Lib.hid rfl
                  have DD := Lib.hid (fun (h1 : 0 ≤ ny y + d - 1) (h2 : ny y + d - 1 ≤ 2958463) w => rDay_ok (ny y + d - 1) w h1 h2)
                  generalize dq y d = Q at *
                  generalize ny y = A at *
                  generalize ny (y + 1) = Z at *
                  by_cases dd1 : 1 ≤ d
                  · have g5 : decide (d < 1) = false := decide_eq_false (by omega)
                    by_cases dl : A + d - 1 < Z
                    · have g6 : decide (Z - 1 < A + d - 1) = false := decide_eq_false (by omega)
                      by_cases q9 : qv = 9
                      · have N := Lib.hid (NN.out IS.out (by rw [TC.out, q9]; simp))
                        have g7 : (qv == 9) = true := by simp; omega
                        go_wp2_with fail
                        refine (D1.out _).mono ?_
                        rintro e w' ⟨rfl, rfl⟩
                        go_wp2_with fail
                        refine (D2.out _).mono ?_
                        rintro e w' ⟨rfl, rfl⟩
                        go_wp2_with fail
                        refine (D3.out _).mono ?_
                        rintro e w' ⟨rfl, rfl⟩
                        go_wp2_with fail
                        refine (D4.out _).mono ?_
                        rintro e w' ⟨rfl, rfl⟩
                        go_wp2_with fail
                        refine (NA.out _).mono ?_
                        rintro e w3 ⟨rfl, hb⟩
                        have B2 := Lib.hid (bstep B1.out hb)
                        clear hb NA
                        go_wp2_with fail
                        refine (NZ.out _).mono ?_
                        rintro e w4 ⟨rfl, hb⟩
                        have B3 := Lib.hid (bstep B2.out hb)
                        clear hb NZ B2
                        go_wp2_with fail
                        go_ret2
                        exact ⟨N.out.symm, B3.out⟩
                      · have g7 : (qv == 9) = false := by simp; omega
                        have DE := Lib.hid (DD.out (by omega) (by omega))
                        have TQ : Hid (tellsC L = decide (tod (c / 10000) (c / 100 % 100) (c % 100) 0)) := Lib.hid (by
                          rw [TC.out, DQ.out, decide_eq_true (show 1900 ≤ y ∧ y ≤ 9999 ∧ 1 ≤ d ∧ A + d - 1 < Z by omega), beq_eq_false_iff_ne.2 q9]
                          simp)
                        have TL := Lib.hid (fun (a b e : Int) (h : ok a b e) (w : World) => rtell_c a b e (c / 10000) (c / 100 % 100) (c % 100) 0 w (decide (tod (c / 10000) (c / 100 % 100) (c % 100) 0)) (by rw [decide_eq_true_iff]; exact ⟨fun k => ⟨h, k⟩, fun k => k.2⟩))
                        clear TC DQ DD
                        generalize decide (tod (c / 10000) (c / 100 % 100) (c % 100) 0) = o at *
                        go_wp2_with fail
                        refine (D1.out _).mono ?_
                        rintro e w' ⟨rfl, rfl⟩
                        go_wp2_with fail
                        refine (D2.out _).mono ?_
                        rintro e w' ⟨rfl, rfl⟩
                        go_wp2_with fail
                        refine (D3.out _).mono ?_
                        rintro e w' ⟨rfl, rfl⟩
                        go_wp2_with fail
                        refine (D4.out _).mono ?_
                        rintro e w' ⟨rfl, rfl⟩
                        go_wp2_with fail
                        refine (NA.out _).mono ?_
                        rintro e w3 ⟨rfl, hb⟩
                        have B2 := Lib.hid (bstep B1.out hb)
                        clear hb NA
                        go_wp2_with fail
                        refine (NZ.out _).mono ?_
                        rintro e w4 ⟨rfl, hb⟩
                        have B3 := Lib.hid (bstep B2.out hb)
                        clear hb NZ B2
                        go_wp2_with fail
                        refine (DE.out _).mono ?_
                        rintro e w5 ⟨⟨da, db, dc, hd, rfl⟩, hb⟩
                        have B4 := Lib.hid (balloc (bstep B3.out hb) (.cells #[.int .i64 da, .int .i64 db, .int .i64 dc] 51))
                        have TL2 := Lib.hid (TL.out da db dc hd.1)
                        rw [hd.2] at TL2
                        clear hb TL B3 hd DE
                        go_wp2_with fail
                        refine (TL2.out _).mono ?_
                        rintro e w6 ⟨⟨z, rfl, hz⟩, hb⟩
                        have B5 := Lib.hid (bstep B4.out hb)
                        clear hb TL2 B4
                        cases o with
                        | true =>
                          have N := Lib.hid (YY.out IS.out TQ.out)
                          rw [TM.out] at N
                          have hz2 : (z != 0) = false := by rw [bne, hz]; rfl
                          simp only [if_true]
                          generalize Cv.tell (A + d - 1) (c / 10000) (c / 100 % 100) (c % 100) 0 = V at *
                          go_wp2_with fail
                          go_ret2
                          exact ⟨N.out.symm, B5.out⟩
                        | false =>
                          have N := Lib.hid (NN.out IS.out TQ.out)
                          have hz2 : (z != 0) = true := by rw [bne, hz]; rfl
                          go_wp2_with fail
                          go_ret2
                          exact ⟨N.out.symm, B5.out⟩
                    · have g6 : decide (Z - 1 < A + d - 1) = true := decide_eq_true (by omega)
                      have N := Lib.hid (NN.out IS.out (by rw [TC.out, DQ.out, decide_eq_false (fun q => dl q.2.2.2)]; simp))
                      go_wp2_with fail
                      refine (D1.out _).mono ?_
                      rintro e w' ⟨rfl, rfl⟩
                      go_wp2_with fail
                      refine (D2.out _).mono ?_
                      rintro e w' ⟨rfl, rfl⟩
                      go_wp2_with fail
                      refine (D3.out _).mono ?_
                      rintro e w' ⟨rfl, rfl⟩
                      go_wp2_with fail
                      refine (D4.out _).mono ?_
                      rintro e w' ⟨rfl, rfl⟩
                      go_wp2_with fail
                      refine (NA.out _).mono ?_
                      rintro e w3 ⟨rfl, hb⟩
                      have B2 := Lib.hid (bstep B1.out hb)
                      clear hb NA
                      go_wp2_with fail
                      refine (NZ.out _).mono ?_
                      rintro e w4 ⟨rfl, hb⟩
                      have B3 := Lib.hid (bstep B2.out hb)
                      clear hb NZ B2
                      go_wp2_with fail
                      go_ret2
                      exact ⟨N.out.symm, B3.out⟩
                  · have g5 : decide (d < 1) = true := decide_eq_true (by omega)
                    have N := Lib.hid (NN.out IS.out (by rw [TC.out, DQ.out, decide_eq_false (fun q => dd1 q.2.2.1)]; simp))
                    go_wp2_with fail
                    refine (D1.out _).mono ?_
                    rintro e w' ⟨rfl, rfl⟩
                    go_wp2_with fail
                    refine (D2.out _).mono ?_
                    rintro e w' ⟨rfl, rfl⟩
                    go_wp2_with fail
                    refine (D3.out _).mono ?_
                    rintro e w' ⟨rfl, rfl⟩
                    go_wp2_with fail
                    refine (D4.out _).mono ?_
                    rintro e w' ⟨rfl, rfl⟩
                    go_wp2_with fail
                    refine (NA.out _).mono ?_
                    rintro e w3 ⟨rfl, hb⟩
                    have B2 := Lib.hid (bstep B1.out hb)
                    clear hb NA
                    go_wp2_with fail
                    refine (NZ.out _).mono ?_
                    rintro e w4 ⟨rfl, hb⟩
                    have B3 := Lib.hid (bstep B2.out hb)
                    clear hb NZ B2
                    go_wp2_with fail
                    go_ret2
                    exact ⟨N.out.symm, B3.out⟩
                · have NA := Lib.hid (fun w => rNumber_bad y 1 1 w (fun q => yo (ok_new.1 q).1))
                  have NZ := Lib.hid (fun w => rNumber_bad y 12 31 w (fun q => yo (ok_end.1 q).1))
                  have DQ : dq y d = false := by rw [dq, decide_eq_false_iff_not]; omega
                  have N := Lib.hid (NN.out IS.out (by rw [TC.out, DQ]; simp))
                  go_wp2_with fail
                  refine (D1.out _).mono ?_
                  rintro e w' ⟨rfl, rfl⟩
                  go_wp2_with fail
                  refine (D2.out _).mono ?_
                  rintro e w' ⟨rfl, rfl⟩
                  go_wp2_with fail
                  refine (D3.out _).mono ?_
                  rintro e w' ⟨rfl, rfl⟩
                  go_wp2_with fail
                  refine (D4.out _).mono ?_
                  rintro e w' ⟨rfl, rfl⟩
                  go_wp2_with fail
                  refine (NA.out _).mono ?_
                  rintro e w3 ⟨rfl, hb⟩
                  have B2 := Lib.hid (bstep B1.out hb)
                  clear hb NA
                  go_wp2_with fail
                  refine (NZ.out _).mono ?_
                  rintro e w4 ⟨rfl, hb⟩
                  have B3 := Lib.hid (bstep B2.out hb)
                  clear hb NZ B2
                  go_wp2_with fail
                  go_ret2
                  exact ⟨N.out.symm, B3.out⟩
              · have g4 : decide (qv < 0) = true := decide_eq_true (by omega)
                have N := Lib.hid (NO.out (by rw [IC.out, decide_eq_false q0]; simp))
                go_wp2_with fail
                refine (D1.out _).mono ?_
                rintro e w' ⟨rfl, rfl⟩
                go_wp2_with fail
                refine (D2.out _).mono ?_
                rintro e w' ⟨rfl, rfl⟩
                go_wp2_with fail
                refine (D3.out _).mono ?_
                rintro e w' ⟨rfl, rfl⟩
                go_wp2_with fail
                refine (D4.out _).mono ?_
                rintro e w' ⟨rfl, rfl⟩
                go_wp2_with fail
                go_ret2
                exact ⟨N.out.symm, B1.out⟩
          · have g2 : decide (d < 0) = true := decide_eq_true (by omega)
            have N := Lib.hid (NO.out (by rw [IC.out, decide_eq_false d0]; simp))
            go_wp2_with fail
            refine (D1.out _).mono ?_
            rintro e w' ⟨rfl, rfl⟩
            go_wp2_with fail
            refine (D2.out _).mono ?_
            rintro e w' ⟨rfl, rfl⟩
            go_wp2_with fail
            refine (D3.out _).mono ?_
            rintro e w' ⟨rfl, rfl⟩
            go_wp2_with fail
            refine (D4.out _).mono ?_
            rintro e w' ⟨rfl, rfl⟩
            go_wp2_with fail
            go_ret2
            exact ⟨N.out.symm, B1.out⟩
        · have g1 : decide (y < 0) = true := decide_eq_true (by omega)
          have N := Lib.hid (NO.out (by rw [IC.out, decide_eq_false y0]; simp))
          go_wp2_with fail
          refine (D1.out _).mono ?_
          rintro e w' ⟨rfl, rfl⟩
          go_wp2_with fail
          refine (D2.out _).mono ?_
          rintro e w' ⟨rfl, rfl⟩
          go_wp2_with fail
          refine (D3.out _).mono ?_
          rintro e w' ⟨rfl, rfl⟩
          go_wp2_with fail
          refine (D4.out _).mono ?_
          rintro e w' ⟨rfl, rfl⟩
          go_wp2_with fail
          go_ret2
          exact ⟨N.out.symm, B1.out⟩

theorem rCode_c (s : ByteArray) (w : World) (T : Lib.Utf8Tabs 3 4 w) (hs : s.size ≤ 1099511627776) :
    Calls Tryz.prog 9 #[.string s] w fun e w' => e = cdE (Wd.spR s) ∧ Below w.heap.size w w' := by
  cases h : Wd.spR s with
  | inl ch => exact rcode_err T hs h
  | inr L =>
    by_cases h4 : L.length = 4
    · have := rcode_4 T hs h h4; rwa [h] at this
    · by_cases h5 : L.length = 5
      · have := rcode_5 T hs h h5; rwa [h] at this
      · have := rcode_len T hs h (fun q => q.elim h4 h5)
        rwa [← cd_no (by rw [isCode, decide_eq_false h4, decide_eq_false h5]; rfl)] at this
end Go.Proofs.YtoecgabdjpgleaaGreatDoor.Rd
