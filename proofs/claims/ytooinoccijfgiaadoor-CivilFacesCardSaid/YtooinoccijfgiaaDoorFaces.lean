/-
  CivilFaces: every time has its clockface, and every clockface shows its time. The law returns true for every input, and the input reads as it did.
  Conditions: the library's three tables that the row lists read as the program's text lays them (the card ties them).
-/
import Derived.Test.YtooinoccijfgiaaDoorRows
import Derived.Test.YtooinoccijfgiaaDoorCards
import Derived.Test.YtooinoccijfgiaaDoorTie
import Derived.Test.YtooinoccijfgiaaDoorCvX
import Derived.SevenTiedAt
namespace Go.Proofs.YtooinoccijfgiaaDoor.civilFaces
open Go.ChangeShapes Go.WideShapes Go.ChangeAt Go.RowKit Go.Joins Cv
set_option linter.unusedVariables false
set_option linter.unusedSimpArgs false

set_option maxRecDepth 100000 in
set_option maxHeartbeats 4000000 in
theorem walk_gen (t y m d H M S T : Int) (w : World) (TT : Tab w) (f0 f1 f2 f3 f4 f5 f6 fe x xe : Int)
    (S1 : Hid (∀ w, Calls Tryd.prog 23 #[.int .i64 t] w fun e w' => e = .returned (.tuple #[.agg #[.int .i64 f0, .int .i64 f1, .int .i64 f2, .int .i64 f3, .int .i64 f4, .int .i64 f5, .int .i64 f6], .int .i64 fe]) ∧ Below w.heap.size w w')) (S2 : Hid (∀ w, Calls Tryd.prog 24 #[.int .i64 t] w fun e w' => e = .returned (.tuple #[.agg #[.int .i64 f0, .int .i64 f1, .int .i64 f2, .int .i64 f3, .int .i64 f4, .int .i64 f5, .int .i64 f6], .int .i64 fe]) ∧ Below w.heap.size w w'))
    (T1 : Hid (∀ w, Calls Tryd.prog 25 #[.agg #[.int .i64 y, .int .i64 m, .int .i64 d, .int .i64 H, .int .i64 M, .int .i64 S, .int .i64 T]] w fun e w' => e = .returned (.tuple #[.int .i64 x, .int .i64 xe]) ∧ Below w.heap.size w w')) (T2 : Hid (∀ w, Calls Tryd.prog 26 #[.agg #[.int .i64 y, .int .i64 m, .int .i64 d, .int .i64 H, .int .i64 M, .int .i64 S, .int .i64 T]] w fun e w' => e = .returned (.tuple #[.int .i64 x, .int .i64 xe]) ∧ Below w.heap.size w w')) :
    Calls Tryd.prog 5 #[.int .i64 t, .agg #[.int .i64 y, .int .i64 m, .int .i64 d, .int .i64 H, .int .i64 M, .int .i64 S, .int .i64 T]] w fun e w' => e = .returned (.bool true) ∧ Below w.heap.size w w' := by
  have HT := Lib.hid (TT.below (balloc (brefl w) (.cells #[.int .i64 y, .int .i64 m, .int .i64 d, .int .i64 H, .int .i64 M, .int .i64 S, .int .i64 T] 47)))
  clear TT
  go_enter Tryd.func5, Tryd.ntmps5
  go_wp2_with fail
  refine (awake_c _ HT.out).mono ?_
  rintro e w1 ⟨rfl, hb⟩
  have A := Lib.hid ((Fc.new w y m d H M S T).below hb)
  have HB := Lib.hid (bstep (balloc (brefl w) _) hb)
  clear hb HT
  go_wp2_with fail
  refine (S1.out _).mono ?_
  rintro e w2 ⟨rfl, hb⟩
  replace A := Lib.hid (A.out.below hb)
  replace HB := Lib.hid (bstep HB.out hb)
  clear hb
  go_wp2_with fail
  refine (S2.out _).mono ?_
  rintro e w3 ⟨rfl, hb⟩
  replace A := Lib.hid ((A.out.alloc (.cells #[.int .i64 f0, .int .i64 f1, .int .i64 f2, .int .i64 f3, .int .i64 f4, .int .i64 f5, .int .i64 f6] 47)).below hb)
  have B := Lib.hid ((Fc.new w2 f0 f1 f2 f3 f4 f5 f6).below hb)
  replace HB := Lib.hid (bstep (balloc HB.out (.cells #[.int .i64 f0, .int .i64 f1, .int .i64 f2, .int .i64 f3, .int .i64 f4, .int .i64 f5, .int .i64 f6] 47)) hb)
  clear hb
  obtain ⟨a0, a1, a2, a3, a4, a5, a6, a7⟩ := A.out
  go_wp2_with fail
  clear a0 a1 a2 a3 a4 a5 a6 a7
  refine (T1.out _).mono ?_
  rintro e w4 ⟨rfl, hb⟩
  replace A := Lib.hid ((A.out.alloc (.cells #[.int .i64 f0, .int .i64 f1, .int .i64 f2, .int .i64 f3, .int .i64 f4, .int .i64 f5, .int .i64 f6] 47)).below hb)
  replace B := Lib.hid ((B.out.alloc (.cells #[.int .i64 f0, .int .i64 f1, .int .i64 f2, .int .i64 f3, .int .i64 f4, .int .i64 f5, .int .i64 f6] 47)).below hb)
  have C := Lib.hid ((Fc.new w3 f0 f1 f2 f3 f4 f5 f6).below hb)
  replace HB := Lib.hid (bstep (balloc HB.out (.cells #[.int .i64 f0, .int .i64 f1, .int .i64 f2, .int .i64 f3, .int .i64 f4, .int .i64 f5, .int .i64 f6] 47)) hb)
  clear hb
  obtain ⟨a0, a1, a2, a3, a4, a5, a6, a7⟩ := A.out
  go_wp2_with fail
  clear a0 a1 a2 a3 a4 a5 a6 a7 A
  refine (T2.out _).mono ?_
  rintro e w5 ⟨rfl, hb⟩
  replace B := Lib.hid (B.out.below hb)
  replace C := Lib.hid (C.out.below hb)
  replace HB := Lib.hid (bstep HB.out hb)
  clear hb
  obtain ⟨b0, b1, b2, b3, b4, b5, b6, b7⟩ := B.out
  obtain ⟨c0, c1, c2, c3, c4, c5, c6, c7⟩ := C.out
  go_wp2_with fail
  go_ret
  exact ⟨rfl, HB.out⟩

theorem shows (t : Int) (h : t ≤ 9223372036854775807) : ∃ f0 f1 f2 f3 f4 f5 f6 fe : Int, (∀ w, Calls Tryd.prog 23 #[.int .i64 t] w fun e w' => e = .returned (.tuple #[.agg #[.int .i64 f0, .int .i64 f1, .int .i64 f2, .int .i64 f3, .int .i64 f4, .int .i64 f5, .int .i64 f6], .int .i64 fe]) ∧ Below w.heap.size w w') ∧ (∀ w, Calls Tryd.prog 24 #[.int .i64 t] w fun e w' => e = .returned (.tuple #[.agg #[.int .i64 f0, .int .i64 f1, .int .i64 f2, .int .i64 f3, .int .i64 f4, .int .i64 f5, .int .i64 f6], .int .i64 fe]) ∧ Below w.heap.size w w') := by
  by_cases c1 : t < 0
  · exact ⟨0, 0, 0, 0, 0, 0, 0, 2, fun w => Show_neg t w c1, fun w => rShow_neg t w c1⟩
  · by_cases c2 : 268027863603609600 ≤ t
    · exact ⟨0, 0, 0, 0, 0, 0, 0, 2, fun w => Show_far t w c2 h, fun w => rShow_far t w c2 h⟩
    · obtain ⟨y, m, d, hd⟩ := day_ex (n := t / 1048576 / 86400) (by omega) (by omega)
      exact ⟨y, m, d, _, _, _, _, 0, Show_is (by omega) (by omega) hd, rShow_is (by omega) (by omega) hd⟩
theorem tells (y m d H M S T : Int) : ∃ x xe : Int, (∀ w, Calls Tryd.prog 25 #[.agg #[.int .i64 y, .int .i64 m, .int .i64 d, .int .i64 H, .int .i64 M, .int .i64 S, .int .i64 T]] w fun e w' => e = .returned (.tuple #[.int .i64 x, .int .i64 xe]) ∧ Below w.heap.size w w') ∧ (∀ w, Calls Tryd.prog 26 #[.agg #[.int .i64 y, .int .i64 m, .int .i64 d, .int .i64 H, .int .i64 M, .int .i64 S, .int .i64 T]] w fun e w' => e = .returned (.tuple #[.int .i64 x, .int .i64 xe]) ∧ Below w.heap.size w w') := by
  by_cases c1 : ok y m d
  · by_cases c2 : tod H M S T
    · exact ⟨_, 0, fun w => Tell_ok y m d H M S T w c1 c2, fun w => rTell_ok y m d H M S T w c1 c2⟩
    · exact ⟨0, 3, fun w => Tell_tod y m d H M S T w c1 c2, fun w => rTell_tod y m d H M S T w c1 c2⟩
  · exact ⟨0, 3, fun w => Tell_shape y m d H M S T w c1, fun w => rTell_shape y m d H M S T w c1⟩

theorem walk (t y m d H M S T : Int) (w : World) (TT : Tab w) (wt : (Lit.int .i64 t).wf = true) :
    Calls Tryd.prog 5 #[.int .i64 t, .agg #[.int .i64 y, .int .i64 m, .int .i64 d, .int .i64 H, .int .i64 M, .int .i64 S, .int .i64 T]] w fun e w' => e = .returned (.bool true) ∧ Below w.heap.size w w' := by
  obtain ⟨f0, f1, f2, f3, f4, f5, f6, fe, S1, S2⟩ := shows t (bounds_i64 wt).2
  obtain ⟨x, xe, T1, T2⟩ := tells y m d H M S T
  exact walk_gen t y m d H M S T w TT f0 f1 f2 f3 f4 f5 f6 fe x xe S1 S2 T1 T2

set_option maxRecDepth 100000 in
theorem lifted (os : Os) (started : os.Started) (H : Type) (enc : TypeId × Value → H) :
    ReturnsInHanded {} Tryd.checked os 5 .any (fun w args => (Rows.civilFacesSpec.pre enc Tryd.prog Tryd.f5 [] false w args ∧ laidMetH Tryd.prog Rows.civilDaysRow.laid w) ∧ sizedMet enc Tryd.prog Tryd.f5 (OpenSpec.ofChange Rows.civilFacesSpec) false w args)
      (Rows.civilFacesSpec.post enc Tryd.prog Tryd.f5 false true false false) := by
  refine returnsInHanded_of_change_and (C := Tryd.checked) (X := fun w _ => laidMetH Tryd.prog Rows.civilDaysRow.laid w) (fun _ _ _ hh h => h.of_heap hh) own started (by kernel_rfl) Tryd.func5
    (ChangeSpec.witness_shaped (enc := enc) (C := Tryd.checked) (os := os) (X := fun w _ => laidMetH Tryd.prog Rows.civilDaysRow.laid w) false (World.doorLaid Tryd.prog 24 os) #[.int .i64 0, .agg #[.int .i64 0, .int .i64 0, .int .i64 0, .int .i64 0, .int .i64 0, .int .i64 0, .int .i64 0]] 8 rfl (World.shaped_of_RefB (by kernel_rfl) (by kernel_rfl)) (by kernel_rfl) (by kernel_rfl) (by kernel_rfl) (door_met os _)) ?_
  intro W base args ds gs before hval0 hW _ _ hL _
  have hval : ∀ (j : Nat) t v, Tryd.f5.params[j]? = some t → args[j]? = some v → Value.okWide Tryd.prog W .any base t v := hval0
  have hW' := hW
  obtain ⟨p, q, hA0, hV, rfl, hfz, hnd⟩ := hW
  have hA : DataW.TrodAll enc Tryd.prog W 0 (fun _ => true) true Tryd.f5.params.toList args.toList ds p := hA0
  rw [Tryd.params5] at hA hval
  obtain ⟨v0, vs0, d0, ds0, p0, q0, hargs, rfl, rfl, h0, r0⟩ := trodAll_cons hA
  obtain ⟨v1, vs1, d1, ds1, p1, q1, rfl, rfl, rfl, h1, r1⟩ := trodAll_cons r0
  obtain ⟨rfl, rfl, rfl⟩ := trodAll_nil r1
  obtain rfl : args = #[v0, v1] := by cases args; simp_all
  obtain ⟨rfl, rfl⟩ := trodVars_none hV
  have h1k := h1
  have hlt1 : ∀ x ∈ p1, x.block < W.heap.size := fun x hx => by have := hW'.lt x (by simp [hx]); simpa using this
  obtain ⟨a0, rfl, rfl, rfl, w0⟩ := open_int Tryd.underlying45 (hval 0 45 v0 rfl rfl) h0
  obtain ⟨y1, m1, x1, H1, M1, S1, T1, rfl⟩ := open_face (hval 1 47 v1 rfl rfl) h1
  clear hA0 hval0
  simp only [List.append_nil] at hW'
  refine (walk a0 y1 m1 x1 H1 M1 S1 T1 W (tab_of_laid hL) w0).mono fun e W' ⟨he, hg⟩ => ?_
  subst he
  exact ⟨_, rfl, _, _, _, [], _, [], hW', trodAll_cons_mk (shut_bool Tryd.underlying4 _) trodAll_mk0,
    (trodAll_cons_mk (shut_int Tryd.underlying45 w0) (trodAll_cons_mk (Below.trod laidOut (by kernel_rfl) (of_decide_eq_true (by kernel_rfl)) h1k hg hlt1) trodAll_mk0)), rfl, hg.frame _, fun h => nomatch h⟩

theorem over : Rows.CivilFacesSaid :=
  OpenClaim.holds_of_wide 5 Tryd.f5 rfl rfl rfl rfl rfl rfl rfl ⟨rfl, rfl, rfl, rfl, rfl⟩ rfl rfl rfl rfl rfl (by kernel_rfl) Tryd.func5 (by kernel_rfl)
    (of_decide_eq_true (by kernel_rfl)) (by unfold Func.isWrapper; first | (rw [if_pos (by decide +kernel)]; kernel_rfl) | (rw [if_neg (by decide +kernel)]; exact ⟨rfl, rfl⟩))
    (fun os started H enc _ => lifted os started H enc)

theorem proved : Rows.CivilFacesCardSaid :=
  Claim7.holds_tied_plain_at .later [] [.data, .data, .data] true Rows.civilFacesCard.stood.harness false
    over (fun _ h => by cases h) (by kernel_rfl) (fun _ h => by cases h) civilFaces_row_tie rfl ⟨rfl, rfl⟩ (by kernel_rfl) rfl
    (fun f fn hf hfn => by
      obtain rfl : f = 5 := Option.some.inj ((show Tryd.prog.funcNamed Rows.civilFacesRow.func = some 5 by kernel_rfl).symm.trans hf) |>.symm
      obtain rfl : fn = Tryd.f5 := (Option.some.inj (Tryd.func5.symm.trans hfn)).symm
      exact ⟨by kernel_rfl, fun j t ht => by
        rw [Tryd.params5] at ht
        have hm : t ∈ [45, 47] := by simpa using Array.mem_of_getElem? ht
        have hall : ([45, 47].all fun u => !Tryd.prog.wantsStandIn u) = true := by kernel_rfl
        exact (show Tryd.prog.wantsStandIn t = false by simpa using List.all_eq_true.1 hall t hm)⟩)
    (by kernel_rfl)
end Go.Proofs.YtooinoccijfgiaaDoor.civilFaces
