/-
  The document's answer of a NMEA line: sundialref13.NMEA.
  Conditions: the line has no more than 2^20 bytes.
-/
import Derived.Test.YtoecgabdjpgleaaGreatDoorRdV
namespace Go.Proofs.YtoecgabdjpgleaaGreatDoor.Rd
open Go.RowKit Cv
set_option linter.unusedVariables false
set_option linter.unusedSimpArgs false

set_option maxRecDepth 100000 in
set_option maxHeartbeats 2000000 in
theorem rNMEA_c (s : ByteArray) (w : World) (hs : s.size ≤ 1048576) :
    Calls Tryz.prog 7 #[.string s] w fun e w' => e = nmE s ∧ Below w.heap.size w w' := by
  have BC := Lib.hid (fun w => rbody_c s w (by omega))
  unfold nmE
  unfold rbE at BC
  by_cases h : okL s
  · rw [if_pos h]
    simp only [if_pos h] at BC
    have bs : (bodyL s).size ≤ 1048576 := Nat.le_trans (size_le _ _ _) hs
    by_cases k : sumL s = sumT (bodyL s)
    · rw [if_pos k]
      simp only [decide_eq_true k.symm] at BC
      clear h k
      generalize bodyL s = b at *
      have FC := Lib.hid (fun w => rfields_c b w bs)
      have NO : Hid (isT b = false → bdN b = .returned (.tuple #[.int .i64 0, .int .i64 5])) := Lib.hid fun h => by rw [bdN, h]; rfl
      have YE : Hid (isT b = true → bdN b = .returned (.tuple #[.int .i64 (tm b), .int .i64 0])) := Lib.hid fun h => by rw [bdN, h]; rfl
      have IT : Hid (isT b = (decide (fs b 9 ≤ b.size) && isTF (fd b 0) (fd b 1) (fd b 2) (fd b 9))) := Lib.hid rfl
      have TM : Hid (tm b = tmF (fd b 1) (fd b 9)) := Lib.hid rfl
      have TD := Lib.hid (fun (w : World) (v : Value) (R : List ByteArray) (st : St w v R) (sp : SpF b R) (q : 10 ≤ R.length) => told_c st q (sp.at_ 0 (by omega)) (sp.at_ 1 (by omega)) (sp.at_ 2 (by omega)) (sp.at_ 9 (by omega)) (Nat.le_trans (fd_size b 1) bs))
      have TS := Lib.hid (fun (w : World) (v : Value) (R : List ByteArray) (st : St w v R) (q : R.length < 10) => told_short st q)
      have TN : Hid (∀ R, SpF b R → (10 ≤ R.length ↔ fs b 9 ≤ b.size)) := Lib.hid fun R q => q.ten
      unfold tdE at TD
      generalize isTF (fd b 0) (fd b 1) (fd b 2) (fd b 9) = q at *
      generalize tmF (fd b 1) (fd b 9) = t at *
      generalize bdN b = E at *
      generalize tm b = tb at *
      generalize isT b = it at *
      go_enter Tryz.func7, Tryz.ntmps7
      go_wp2_with fail
      refine (BC.out _).mono ?_
      rintro e w1 ⟨rfl, hb⟩
      have B1 := Lib.hid hb
      clear hb BC
      go_wp2_with fail
      refine (FC.out _).mono ?_
      rintro e w2 ⟨⟨v, R, rfl, st, sp⟩, hb⟩
      have B2 := Lib.hid (bstep B1.out hb)
      have tn := TN.out R sp
      by_cases t10 : 10 ≤ R.length
      · have T2 := Lib.hid (TD.out w2 v R st sp t10)
        rw [decide_eq_true (tn.1 t10), Bool.true_and] at IT
        clear hb FC st sp TD TS TN tn t10
        cases q with
        | false =>
          have N := Lib.hid (NO.out IT.out)
          simp only [Bool.false_eq_true, if_false] at T2
          go_wp2_with fail
          refine T2.out.mono ?_
          rintro e w3 ⟨rfl, hb⟩
          go_wp2_with fail
          go_ret2
          exact ⟨N.out.symm, bstep B2.out hb⟩
        | true =>
          have Y := Lib.hid (YE.out IT.out)
          rw [TM.out] at Y
          simp only [if_true] at T2
          go_wp2_with fail
          refine T2.out.mono ?_
          rintro e w3 ⟨rfl, hb⟩
          go_wp2_with fail
          go_ret2
          exact ⟨Y.out.symm, bstep B2.out hb⟩
      · have T2 := Lib.hid (TS.out w2 v R st (by omega))
        have N := Lib.hid (NO.out (by rw [IT.out, decide_eq_false (fun z => t10 (tn.2 z))]; rfl))
        clear hb FC st sp TD TS TN tn t10
        go_wp2_with fail
        refine T2.out.mono ?_
        rintro e w3 ⟨rfl, hb⟩
        go_wp2_with fail
        go_ret2
        exact ⟨N.out.symm, bstep B2.out hb⟩
    · rw [if_neg k]
      simp only [show decide (sumT (bodyL s) = sumL s) = false from decide_eq_false (fun q => k q.symm)] at BC
      clear h k
      generalize bodyL s = b at *
      go_enter Tryz.func7, Tryz.ntmps7
      go_wp2_with fail
      refine (BC.out _).mono ?_
      rintro e w1 ⟨rfl, hb⟩
      go_wp2_with fail
      go_ret2
      exact ⟨rfl, hb⟩
  · rw [if_neg h]
    simp only [if_neg h] at BC
    clear h
    go_enter Tryz.func7, Tryz.ntmps7
    go_wp2_with fail
    refine (BC.out _).mono ?_
    rintro e w1 ⟨rfl, hb⟩
    go_wp2_with fail
    go_ret2
    exact ⟨rfl, hb⟩
end Go.Proofs.YtoecgabdjpgleaaGreatDoor.Rd
