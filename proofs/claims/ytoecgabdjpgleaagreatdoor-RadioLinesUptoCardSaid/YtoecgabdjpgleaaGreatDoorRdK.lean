/-
  The contract of radio.bodyOf.
  Conditions: the line has no more than 2^61 bytes.
-/
import Derived.Test.YtoecgabdjpgleaaGreatDoorRdJ
namespace Go.Proofs.YtoecgabdjpgleaaGreatDoor.Rd
open Go.RowKit Cv
set_option linter.unusedVariables false
set_option linter.unusedSimpArgs false

theorem toL (s : ByteArray) : s.toList = s.data.toList := Lib.toList_data s
theorem eqB (a b : ByteArray) : (a.toList == b.toList) = decide (a = b) := by
  by_cases h : a = b
  · subst h; simp
  · rw [decide_eq_false h, beq_eq_false_iff_ne]
    intro e
    apply h
    rw [toL, toL] at e
    exact ByteArray.ext (Array.toList_inj.1 e)
theorem bd_no {s : ByteArray} (h : ¬ okL s) : bdE s = .returned (.tuple #[.string ⟨#[]⟩, .int .i64 4]) := by
  unfold bdE
  rw [if_neg h, if_neg h]
theorem bd_yes {s : ByteArray} (h : okL s) : bdE s = .returned (.tuple #[.string (if sumL s = sumT (bodyL s) then bodyL s else ⟨#[]⟩), .int .i64 (if sumL s = sumT (bodyL s) then 0 else 31)]) := by
  unfold bdE
  rw [if_pos h, if_pos h]
theorem size_le (s : ByteArray) (a b : Nat) : (s.extract a b).size ≤ s.size := by
  rw [ByteArray.size_extract]
  omega
set_option maxRecDepth 100000 in
set_option maxHeartbeats 4000000 in
theorem bodyOf_c (s : ByteArray) (w : World) (hs : s.size ≤ 2305843009213693952) :
    Calls Tryz.prog 13 #[.string s] w fun e w' => e = bdE s ∧ Below w.heap.size w w' := by
  have CP := Lib.hid (fun w => Tryz.strings_CutPrefix s ⟨#[36]⟩ w)
  simp only [pre_cut, pre_has] at CP
  have NB : Hid (¬ okL s → bdE s = .returned (.tuple #[.string ⟨#[]⟩, .int .i64 4])) := Lib.hid bd_no
  have IF := Lib.hid (okL_iff s)
  cases H : (decide (0 < s.size) && decide (Wd.gn s 0 = 36)) with
  | false =>
    have CC := Lib.hid (fun w => Wd.Cut_c s 42 w (by omega))
    have NO := NB.out (fun q => by
      have := IF.out.1 q
      rw [decide_eq_true this.1, decide_eq_true this.2.1] at H
      cases H)
    rw [NO]
    rw [show (decide (0 < s.size) && decide (Wd.gn s 0 = (36 : UInt8).toNat)) = false from H] at CP
    simp only [if_neg (show ¬ (false = true) by decide)] at CP
    clear NO NB IF H
    generalize Wd.cutA s 42 = ca at *
    generalize Wd.cutB s 42 = cb at *
    generalize Wd.cutF s 42 = cf at *
    go_enter Tryz.func13, Tryz.ntmps13
    go_wp2_with fail
    refine (CP.out _).mono ?_
    rintro e w' ⟨rfl, rfl⟩
    go_wp2_with fail
    refine (CC.out _).mono ?_
    rintro e w1 ⟨rfl, hb⟩
    have B1 := Lib.hid hb
    clear hb
    go_wp2_with fail
    go_ret2
    exact ⟨rfl, B1.out⟩
  | true =>
    rw [show (decide (0 < s.size) && decide (Wd.gn s 0 = (36 : UInt8).toNat)) = true from H] at CP
    simp only [if_true] at CP
    rw [Bool.and_eq_true, decide_eq_true_iff, decide_eq_true_iff] at H
    have tsz := size_le s 1 s.size
    have CC := Lib.hid (fun w => Wd.Cut_c (s.extract 1 s.size) 42 w (by omega))
    have ts := size_ext s 1 s.size (Nat.le_refl _)
    have BD := Lib.hid (fun w => isBody_c (Wd.cutA (s.extract 1 s.size) 42) w (by unfold Wd.cutA; have := size_le (s.extract 1 s.size) 0 (Wd.di (s.extract 1 s.size) 42); omega))
    have IS := Lib.hid (fun w => isSum_c (Wd.cutB (s.extract 1 s.size) 42) w)
    have SO := Lib.hid (fun w => sumOf_c (Wd.cutA (s.extract 1 s.size) 42) w (by unfold Wd.cutA; have := size_le (s.extract 1 s.size) 0 (Wd.di (s.extract 1 s.size) 42); omega))
    have IF2 : Hid (okL s ↔ (Wd.cutF (s.extract 1 s.size) 42 = true ∧ bdy (Wd.cutA (s.extract 1 s.size) 42) = true ∧ iss (Wd.cutB (s.extract 1 s.size) 42) = true)) := Lib.hid (by
      have q := okL_iff s
      unfold Wd.cutA Wd.cutB Wd.cutF
      rw [decide_eq_true_iff, ts]
      rw [ts] at q
      generalize bdy ((s.extract 1 s.size).extract 0 (Wd.di (s.extract 1 s.size) 42)) = b1 at *
      generalize iss ((s.extract 1 s.size).extract (Wd.di (s.extract 1 s.size) 42 + 1) (s.size - 1)) = b2 at *
      exact q.trans ⟨fun q => ⟨q.2.2.1, q.2.2.2.1, q.2.2.2.2⟩, fun q => ⟨H.1, H.2, q.1, q.2.1, q.2.2⟩⟩)
    have YB : Hid (okL s → bdE s = .returned (.tuple #[.string (if Wd.cutB (s.extract 1 s.size) 42 = sumT (Wd.cutA (s.extract 1 s.size) 42) then Wd.cutA (s.extract 1 s.size) 42 else ⟨#[]⟩), .int .i64 (if Wd.cutB (s.extract 1 s.size) 42 = sumT (Wd.cutA (s.extract 1 s.size) 42) then 0 else 31)])) := Lib.hid fun q => by
      have n4 := q.1
      have ea : Wd.cutA (s.extract 1 s.size) 42 = bodyL s := by
        rw [Wd.cutA, okL_q q, bodyL, ext_ext _ _ _ _ _ (by omega), show 1 + 0 = 1 by omega, show 1 + (s.size - 4) = s.size - 3 by omega]
      have eb : Wd.cutB (s.extract 1 s.size) 42 = sumL s := by
        rw [Wd.cutB, okL_q q, sumL, ext_ext _ _ _ _ _ (by omega), ts, show 1 + (s.size - 4 + 1) = s.size - 2 by omega, show 1 + (s.size - 1) = s.size by omega]
      rw [ea, eb]
      exact bd_yes q
    clear IF ts tsz H
    generalize Wd.cutA (s.extract 1 s.size) 42 = ca at *
    generalize Wd.cutB (s.extract 1 s.size) 42 = cb at *
    generalize Wd.cutF (s.extract 1 s.size) 42 = cf at *
    generalize s.extract 1 s.size = t at *
    generalize bdE s = E at *
    have EQ := eqB cb (sumT ca)
    have EI : Hid (∀ x : ByteArray, (if cb = sumT ca then x else ⟨#[]⟩) = if decide (cb = sumT ca) = true then x else ⟨#[]⟩) := Lib.hid fun x => by by_cases q : cb = sumT ca <;> simp [q]
    have EJ : Hid ((if cb = sumT ca then (0 : Int) else 31) = if decide (cb = sumT ca) = true then 0 else 31) := Lib.hid (by by_cases q : cb = sumT ca <;> simp [q])
    rw [EI.out, EJ.out] at YB
    clear EI EJ
    generalize decide (cb = sumT ca) = eq at *
    generalize sumT ca = sc at *
    generalize okL s = OK at *
    cases cf with
    | false =>
      have NO := Lib.hid (NB.out fun q => by have := (IF2.out.1 q).1; cases this)
      go_enter Tryz.func13, Tryz.ntmps13
      go_wp2_with fail
      refine (CP.out _).mono ?_
      rintro e w' ⟨rfl, rfl⟩
      go_wp2_with fail
      refine (CC.out _).mono ?_
      rintro e w1 ⟨rfl, hb⟩
      have B1 := Lib.hid hb
      clear hb
      go_wp2_with fail
      go_ret2
      exact ⟨NO.out.symm, B1.out⟩
    | true =>
      go_enter Tryz.func13, Tryz.ntmps13
      go_wp2_with fail
      refine (CP.out _).mono ?_
      rintro e w' ⟨rfl, rfl⟩
      go_wp2_with fail
      refine (CC.out _).mono ?_
      rintro e w1 ⟨rfl, hb⟩
      have B1 := Lib.hid hb
      clear hb
      go_wp2_with fail
      refine (BD.out _).mono ?_
      rintro e w' ⟨rfl, rfl⟩
      cases hbd : bdy ca with
      | false =>
        have NO := Lib.hid (NB.out fun q => by have := (IF2.out.1 q).2.1; rw [hbd] at this; cases this)
        go_wp2_with fail
        go_ret2
        exact ⟨NO.out.symm, B1.out⟩
      | true =>
        go_wp2_with fail
        refine (IS.out _).mono ?_
        rintro e w' ⟨rfl, rfl⟩
        cases his : iss cb with
        | false =>
          have NO := Lib.hid (NB.out fun q => by have := (IF2.out.1 q).2.2; rw [his] at this; cases this)
          go_wp2_with fail
          go_ret2
          exact ⟨NO.out.symm, B1.out⟩
        | true =>
          have YE := Lib.hid (YB.out (IF2.out.2 (by simp [his, hbd])))
          go_wp2_with fail
          refine (SO.out _).mono ?_
          rintro e w2 ⟨rfl, hb⟩
          have B2 := Lib.hid (bstep B1.out hb)
          clear hb
          cases eq with
          | false =>
            go_wp2_with fail
            go_ret2
            exact ⟨YE.out.symm, B2.out⟩
          | true =>
            go_wp2_with fail
            go_ret2
            exact ⟨YE.out.symm, B2.out⟩
end Go.Proofs.YtoecgabdjpgleaaGreatDoor.Rd
