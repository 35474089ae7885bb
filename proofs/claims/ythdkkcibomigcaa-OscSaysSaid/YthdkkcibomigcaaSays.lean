/-
  OscSays: what a count says of the time that went by is just the document's bounds: the law returns true for every input, and the input reads as it did.
  Conditions: none.
-/
import Derived.Test.YthdkkcibomigcaaRows
import Derived.Test.YthdkkcibomigcaaOscG
import Derived.ProofKit
import Derived.OpenShut
import Derived.Lib.SmallJoins
import Derived.Deep.RegionHeld3
namespace Go.Proofs.Ythdkkcibomigcaa.oscSays
open Go.ChangeShapes Go.WideShapes Go.ChangeAt Go.RowKit Go.Joins Fx
set_option linter.unusedVariables false

theorem own : ownKnob Try.prog.godebug = none := by kernel_rfl

set_option maxRecDepth 100000 in
set_option maxHeartbeats 4000000 in
theorem walk_yy (lo hi d rho : Int) (w : World) (S : Hid (okS lo hi)) (D : Hid ((0 ≤ d ∧ 0 ≤ rho ∧ rho ≤ 1000))) :
    Calls Try.prog 4 #[.agg #[.int .i64 lo, .int .i64 hi], .int .i64 d, .int .i64 rho] w fun e w' => e = .returned (.bool true) ∧ Below w.heap.size w w' := by
  go_enter Try.func4, Try.ntmps4
  go_wp2_with fail
  refine (awake2_c _).mono ?_
  rintro e w1 ⟨rfl, hb⟩
  have A := Lib.hid ((Sq.new w lo hi).below hb)
  have HB := Lib.hid (bstep (balloc (brefl w) _) hb)
  clear hb
  go_wp2_with fail
  refine (Elapsed_ok _ _ _ D.out.1 D.out.2.1 D.out.2.2).mono ?_
  rintro e w2 ⟨rfl, hb⟩
  have A2 := Lib.hid (A.out.below hb)
  have HB2 := Lib.hid (bstep HB.out hb)
  clear hb A HB
  go_wp2_with fail
  refine (rElapsed_ok _ _ _ D.out.1 D.out.2.1 D.out.2.2).mono ?_
  rintro e w3 ⟨rfl, hb⟩
  have A3 := Lib.hid (A2.out.below hb)
  have HB3 := Lib.hid (bstep HB2.out hb)
  clear hb A2 HB2
  obtain ⟨a1, a2, a3, a4, a5⟩ := A3.out
  go_wp2_with fail
  clear a1 a2 a3 a4 a5
  refine (Age_ok _ _ _ _ _ S.out D.out.1 D.out.2.1 D.out.2.2).mono ?_
  rintro e w4 ⟨rfl, hb⟩
  have A4 := Lib.hid ((A3.out.below hb).alloc (.cells #[.int .i64 (shl lo (elLo d rho)), .int .i64 (shh hi (elHi d rho))] 34))
  have HB4 := Lib.hid (balloc (bstep HB3.out hb) (.cells #[.int .i64 (shl lo (elLo d rho)), .int .i64 (shh hi (elHi d rho))] 34))
  clear hb A3 HB3
  obtain ⟨a1, a2, a3, a4, a5⟩ := A4.out
  go_wp2_with fail
  clear a1 a2 a3 a4 a5
  refine (rAge_ok _ _ _ _ _ S.out D.out.1 D.out.2.1 D.out.2.2).mono ?_
  rintro e w5 ⟨rfl, hb⟩
  have B5 := Lib.hid ((Sq.new w4 (shl lo (elLo d rho)) (shh hi (elHi d rho))).below hb)
  have HB5 := Lib.hid (bstep HB4.out hb)
  clear hb A4 HB4
  obtain ⟨a1, a2, a3, a4, a5⟩ := B5.out
  go_wp2_with fail
  go_ret
  exact ⟨rfl, balloc HB5.out _⟩

set_option maxRecDepth 100000 in
set_option maxHeartbeats 4000000 in
theorem walk_yn (lo hi d rho : Int) (w : World) (S : Hid (okS lo hi)) (D : Hid (¬ (0 ≤ d ∧ 0 ≤ rho ∧ rho ≤ 1000))) :
    Calls Try.prog 4 #[.agg #[.int .i64 lo, .int .i64 hi], .int .i64 d, .int .i64 rho] w fun e w' => e = .returned (.bool true) ∧ Below w.heap.size w w' := by
  go_enter Try.func4, Try.ntmps4
  go_wp2_with fail
  refine (awake2_c _).mono ?_
  rintro e w1 ⟨rfl, hb⟩
  have A := Lib.hid ((Sq.new w lo hi).below hb)
  have HB := Lib.hid (bstep (balloc (brefl w) _) hb)
  clear hb
  go_wp2_with fail
  refine (Elapsed_bad _ _ _ D.out).mono ?_
  rintro e w2 ⟨rfl, hb⟩
  have A2 := Lib.hid (A.out.below hb)
  have HB2 := Lib.hid (bstep HB.out hb)
  clear hb A HB
  go_wp2_with fail
  refine (rElapsed_bad _ _ _ D.out).mono ?_
  rintro e w3 ⟨rfl, hb⟩
  have A3 := Lib.hid (A2.out.below hb)
  have HB3 := Lib.hid (bstep HB2.out hb)
  clear hb A2 HB2
  obtain ⟨a1, a2, a3, a4, a5⟩ := A3.out
  go_wp2_with fail
  clear a1 a2 a3 a4 a5
  refine (Age_range _ _ _ _ _ S.out D.out).mono ?_
  rintro e w4 ⟨rfl, hb⟩
  have A4 := Lib.hid ((A3.out.below hb).alloc (.cells #[.int .i64 0, .int .i64 0] 34))
  have HB4 := Lib.hid (balloc (bstep HB3.out hb) (.cells #[.int .i64 0, .int .i64 0] 34))
  clear hb A3 HB3
  obtain ⟨a1, a2, a3, a4, a5⟩ := A4.out
  go_wp2_with fail
  clear a1 a2 a3 a4 a5
  refine (rAge_range _ _ _ _ _ S.out D.out).mono ?_
  rintro e w5 ⟨rfl, hb⟩
  have B5 := Lib.hid ((Sq.new w4 0 0).below hb)
  have HB5 := Lib.hid (bstep HB4.out hb)
  clear hb A4 HB4
  obtain ⟨a1, a2, a3, a4, a5⟩ := B5.out
  go_wp2_with fail
  go_ret
  exact ⟨rfl, balloc HB5.out _⟩

set_option maxRecDepth 100000 in
set_option maxHeartbeats 4000000 in
theorem walk_ny (lo hi d rho : Int) (w : World) (S : Hid (¬ okS lo hi)) (D : Hid ((0 ≤ d ∧ 0 ≤ rho ∧ rho ≤ 1000))) :
    Calls Try.prog 4 #[.agg #[.int .i64 lo, .int .i64 hi], .int .i64 d, .int .i64 rho] w fun e w' => e = .returned (.bool true) ∧ Below w.heap.size w w' := by
  go_enter Try.func4, Try.ntmps4
  go_wp2_with fail
  refine (awake2_c _).mono ?_
  rintro e w1 ⟨rfl, hb⟩
  have A := Lib.hid ((Sq.new w lo hi).below hb)
  have HB := Lib.hid (bstep (balloc (brefl w) _) hb)
  clear hb
  go_wp2_with fail
  refine (Elapsed_ok _ _ _ D.out.1 D.out.2.1 D.out.2.2).mono ?_
  rintro e w2 ⟨rfl, hb⟩
  have A2 := Lib.hid (A.out.below hb)
  have HB2 := Lib.hid (bstep HB.out hb)
  clear hb A HB
  go_wp2_with fail
  refine (rElapsed_ok _ _ _ D.out.1 D.out.2.1 D.out.2.2).mono ?_
  rintro e w3 ⟨rfl, hb⟩
  have A3 := Lib.hid (A2.out.below hb)
  have HB3 := Lib.hid (bstep HB2.out hb)
  clear hb A2 HB2
  obtain ⟨a1, a2, a3, a4, a5⟩ := A3.out
  go_wp2_with fail
  clear a1 a2 a3 a4 a5
  refine (Age_shape _ _ _ _ _ S.out).mono ?_
  rintro e w4 ⟨rfl, hb⟩
  have A4 := Lib.hid ((A3.out.below hb).alloc (.cells #[.int .i64 0, .int .i64 0] 34))
  have HB4 := Lib.hid (balloc (bstep HB3.out hb) (.cells #[.int .i64 0, .int .i64 0] 34))
  clear hb A3 HB3
  obtain ⟨a1, a2, a3, a4, a5⟩ := A4.out
  go_wp2_with fail
  clear a1 a2 a3 a4 a5
  refine (rAge_shape _ _ _ _ _ S.out).mono ?_
  rintro e w5 ⟨rfl, hb⟩
  have B5 := Lib.hid ((Sq.new w4 0 0).below hb)
  have HB5 := Lib.hid (bstep HB4.out hb)
  clear hb A4 HB4
  obtain ⟨a1, a2, a3, a4, a5⟩ := B5.out
  go_wp2_with fail
  go_ret
  exact ⟨rfl, balloc HB5.out _⟩

set_option maxRecDepth 100000 in
set_option maxHeartbeats 4000000 in
theorem walk_nn (lo hi d rho : Int) (w : World) (S : Hid (¬ okS lo hi)) (D : Hid (¬ (0 ≤ d ∧ 0 ≤ rho ∧ rho ≤ 1000))) :
    Calls Try.prog 4 #[.agg #[.int .i64 lo, .int .i64 hi], .int .i64 d, .int .i64 rho] w fun e w' => e = .returned (.bool true) ∧ Below w.heap.size w w' := by
  go_enter Try.func4, Try.ntmps4
  go_wp2_with fail
  refine (awake2_c _).mono ?_
  rintro e w1 ⟨rfl, hb⟩
  have A := Lib.hid ((Sq.new w lo hi).below hb)
  have HB := Lib.hid (bstep (balloc (brefl w) _) hb)
  clear hb
  go_wp2_with fail
  refine (Elapsed_bad _ _ _ D.out).mono ?_
  rintro e w2 ⟨rfl, hb⟩
  have A2 := Lib.hid (A.out.below hb)
  have HB2 := Lib.hid (bstep HB.out hb)
  clear hb A HB
  go_wp2_with fail
  refine (rElapsed_bad _ _ _ D.out).mono ?_
  rintro e w3 ⟨rfl, hb⟩
  have A3 := Lib.hid (A2.out.below hb)
  have HB3 := Lib.hid (bstep HB2.out hb)
  clear hb A2 HB2
  obtain ⟨a1, a2, a3, a4, a5⟩ := A3.out
  go_wp2_with fail
  clear a1 a2 a3 a4 a5
  refine (Age_shape _ _ _ _ _ S.out).mono ?_
  rintro e w4 ⟨rfl, hb⟩
  have A4 := Lib.hid ((A3.out.below hb).alloc (.cells #[.int .i64 0, .int .i64 0] 34))
  have HB4 := Lib.hid (balloc (bstep HB3.out hb) (.cells #[.int .i64 0, .int .i64 0] 34))
  clear hb A3 HB3
  obtain ⟨a1, a2, a3, a4, a5⟩ := A4.out
  go_wp2_with fail
  clear a1 a2 a3 a4 a5
  refine (rAge_shape _ _ _ _ _ S.out).mono ?_
  rintro e w5 ⟨rfl, hb⟩
  have B5 := Lib.hid ((Sq.new w4 0 0).below hb)
  have HB5 := Lib.hid (bstep HB4.out hb)
  clear hb A4 HB4
  obtain ⟨a1, a2, a3, a4, a5⟩ := B5.out
  go_wp2_with fail
  go_ret
  exact ⟨rfl, balloc HB5.out _⟩

theorem walk (a0l a0h a1 a2 : Int) (w0l : (Lit.int .i64 a0l).wf = true) (w0h : (Lit.int .i64 a0h).wf = true) (w1 : (Lit.int .i64 a1).wf = true) (w2 : (Lit.int .i64 a2).wf = true) (w : World) :
    Calls Try.prog 4 #[.agg #[.int .i64 a0l, .int .i64 a0h], .int .i64 a1, .int .i64 a2] w fun e w' => e = .returned (.bool true) ∧ Below w.heap.size w w' := by
  by_cases c1 : okS a0l a0h <;> by_cases c2 : 0 ≤ a1 ∧ 0 ≤ a2 ∧ a2 ≤ 1000
  · exact walk_yy _ _ _ _ w c1 c2
  · exact walk_yn _ _ _ _ w c1 c2
  · exact walk_ny _ _ _ _ w c1 c2
  · exact walk_nn _ _ _ _ w c1 c2

set_option maxRecDepth 100000 in
theorem lifted (os : Os) (started : os.Started) (H : Type) (enc : TypeId × Value → H) :
    ReturnsInHanded {} Try.checked os 4 .any (Rows.oscSaysSpec.pre6 enc Try.prog Try.f4 Rows.oscSaysRow.domain false) (Rows.oscSaysSpec.post enc Try.prog Try.f4 false true false false) := by
  refine returnsInHanded_of_change (C := Try.checked) own started (by kernel_rfl) Try.func4
    (ChangeSpec.witness6 (enc := enc) (C := Try.checked) false ⟨#[], #[.agg #[.int .i64 0, .int .i64 0], .int .i64 0, .int .i64 0], []⟩ 8 (by kernel_rfl) (by kernel_rfl) (by kernel_rfl) (by kernel_rfl)) ?_
  intro W base args ds gs before hval0 hW hcnd _
  have hval : ∀ (j : Nat) t v, Try.f4.params[j]? = some t → args[j]? = some v → Value.okWide Try.prog W .any base t v := hval0
  have hW' := hW
  obtain ⟨p, q, hA0, hV, rfl, hfz, hnd⟩ := hW
  have hA : DataW.TrodAll enc Try.prog W 0 (fun _ => true) true Try.f4.params.toList args.toList ds p := hA0
  rw [Try.params4] at hA hval
  obtain ⟨v0, vs0, d0, ds0, p0, q0, hargs, rfl, rfl, h0, r0⟩ := trodAll_cons hA
  obtain ⟨v1, vs1, d1, ds1, p1, q1, rfl, rfl, rfl, h1, r1⟩ := trodAll_cons r0
  obtain ⟨v2, vs2, d2, ds2, p2, q2, rfl, rfl, rfl, h2, r2⟩ := trodAll_cons r1
  obtain ⟨rfl, rfl, rfl⟩ := trodAll_nil r2
  obtain rfl : args = #[v0, v1, v2] := by cases args; simp_all
  obtain ⟨rfl, rfl⟩ := trodVars_none hV
  obtain ⟨c0l, c0h, y0l, y0h, m0, rfl, rfl, rfl, hy0l, hy0h⟩ := open_agg2 Try.underlying34 (by kernel_rfl) (by kernel_rfl) (hval 0 34 v0 rfl rfl) h0
  obtain ⟨a0l, e0l, z0l, w0l⟩ := DataW.trod_int Try.underlying23 hy0l
  simp at e0l
  subst e0l z0l
  obtain ⟨a0h, e0h, z0h, w0h⟩ := DataW.trod_int Try.underlying23 hy0h
  simp at e0h
  subst e0h z0h
  obtain ⟨a1, rfl, rfl, rfl, w1⟩ := open_int Try.underlying23 (hval 1 23 v1 rfl rfl) h1
  obtain ⟨a2, rfl, rfl, rfl, w2⟩ := open_int Try.underlying3 (hval 2 3 v2 rfl rfl) h2
  clear hA0 hval0
  simp only [List.append_nil] at hW'
  refine (walk a0l a0h a1 a2 w0l w0h w1 w2 W).mono fun e W' ⟨he, hg⟩ => ?_
  subst he
  exact ⟨_, rfl, _, _, _, [], [], [], hW', trodAll_cons_mk (shut_bool Try.underlying4 _) trodAll_mk0,
    (trodAll_cons_mk (shut_agg2 (y0 := (.lit (.int .i64 a0l), [])) (y1 := (.lit (.int .i64 a0h), [])) Try.underlying34 (by kernel_rfl) (by kernel_rfl) ⟨1, by simp [DataW.trod, Try.underlying23, w0l]⟩ ⟨1, by simp [DataW.trod, Try.underlying23, w0h]⟩) (trodAll_cons_mk (shut_int Try.underlying23 w1) (trodAll_cons_mk (shut_int Try.underlying3 w2) trodAll_mk0))), rfl, hg.frame _, fun h => nomatch h⟩

theorem over : Rows.oscSaysRow.holds Try.pinned (OpenSpec.ofChange Rows.oscSaysSpec) :=
  OpenClaim.holds_of_wide 4 Try.f4 rfl rfl rfl rfl rfl rfl rfl ⟨rfl, rfl, rfl, rfl, rfl⟩ rfl rfl rfl rfl rfl (by kernel_rfl) Try.func4 (by kernel_rfl)
    (of_decide_eq_true (by kernel_rfl)) (by unfold Func.isWrapper; first | (rw [if_pos (by decide +kernel)]; kernel_rfl) | (rw [if_neg (by decide +kernel)]; exact ⟨rfl, rfl⟩))
    (fun os started H enc _ => lifted os started H enc)

theorem proved : Rows.OscSaysSaid :=
  over
end Go.Proofs.Ythdkkcibomigcaa.oscSays
