/-
  FixBack: a stamp near its time is unfolded back to just that time, and the short form never says less than the duration: the law returns true for every input, and the input reads as it did.
  Conditions: none.
-/
import Derived.Test.YtmalkdhbpomolaaRows
import Derived.Test.YtmalkdhbpomolaaFxW
import Derived.ProofKit
import Derived.OpenShut
namespace Go.Proofs.Ytmalkdhbpomolaa.fixBack
open Go.ChangeShapes Go.WideShapes Go.ChangeAt Go.RowKit Fx
set_option linter.unusedVariables false

theorem own : ownKnob Try.prog.godebug = none := by kernel_rfl

theorem back (t p : Int) (h1 : -2251799813685248 < p) (h2 : p < 2251799813685248) : unfT (stampF t) (t - p) = t ∧ unfHi (stampF t) t = t := by
  unfold unfT unfHi stampF
  refine ⟨by omega, ?_⟩
  rw [if_pos (by omega)]

theorem near (d : Int) (h1 : 0 ≤ d) (h2 : d < 34359738368) : 0 ≤ shortF d ∧ shortF d ≤ 4294967295 ∧ d ≤ 16 * shortF d ∧ 16 * shortF d < d + 16 := by
  unfold shortF
  rw [if_neg (by omega), if_neg (by omega)]
  omega

theorem stamp_bd (t : Int) : 0 ≤ stampF t ∧ stampF t ≤ 18446744073709551615 := by unfold stampF; omega

theorem tmod_bd (x m : Int) (h : 0 < m) : -m < x.tmod m ∧ x.tmod m < m := by
  have := Int.tmod_lt_of_pos x h
  have h2 := Int.lt_tmod_of_pos x h
  omega

set_option maxRecDepth 100000 in
set_option maxHeartbeats 1000000 in
theorem walk (a0 : Int) (a1 : Int) (w0 : (Lit.int .i64 a0).wf = true) (w1 : (Lit.int .i64 a1).wf = true) (w : World) :
    Calls Try.prog 6 #[.int .i64 a0, .int .i64 a1] w fun e w' => e = .returned (.bool true) ∧ Below w.heap.size w w' := by
  clear w0 w1
  by_cases c1 : a0 < -1152921504606846976
  · have g1 : decide (a0 < -1152921504606846976) = true := decide_eq_true c1
    go_enter Try.func6, Try.ntmps6
    go_wp2_with fail
    refine (awake_c _).mono ?_
    rintro e wa ⟨rfl, hb⟩
    go_wp2_with fail
    go_ret
    exact ⟨rfl, hb⟩
  have g1 : decide (a0 < -1152921504606846976) = false := decide_eq_false c1
  by_cases c2 : 1152921504606846976 < a0
  · have g2 : decide (1152921504606846976 < a0) = true := decide_eq_true c2
    go_enter Try.func6, Try.ntmps6
    go_wp2_with fail
    refine (awake_c _).mono ?_
    rintro e wa ⟨rfl, hb⟩
    go_wp2_with fail
    go_ret
    exact ⟨rfl, hb⟩
  have g2 : decide (1152921504606846976 < a0) = false := decide_eq_false c2
  obtain ⟨p1, p2⟩ := tmod_bd a1 2251799813685248 (by omega)
  obtain ⟨q1, q2⟩ := tmod_bd a0 34359738368 (by omega)
  obtain ⟨p, hp⟩ : ∃ p, a1.tmod 2251799813685248 = p := ⟨_, rfl⟩
  obtain ⟨q, hq⟩ : ∃ q, a0.tmod 34359738368 = q := ⟨_, rfl⟩
  rw [hp] at p1 p2
  rw [hq] at q1 q2
  obtain ⟨b1, b2⟩ := back a0 p p1 p2
  obtain ⟨s1, s2⟩ := stamp_bd a0
  have B1 := Lib.hid b1
  have B2 := Lib.hid b2
  clear b1 b2
  by_cases c3 : q < 0
  · obtain ⟨n1, n2, n3, n4⟩ := near (-q) (by omega) (by omega)
    go_enter Try.func6, Try.ntmps6
    go_wp2_with fail
    refine (awake_c _).mono ?_
    rintro e wa ⟨rfl, hb⟩
    go_wp2_with fail
    refine (Stamp_ok _ _ (by omega) (by omega)).mono ?_
    rintro e w1 ⟨rfl, rfl⟩
    go_wp2_with fail
    refine (Unfold_ok _ _ _ s1 s2 (by omega) (by omega)).mono ?_
    rintro e w1 ⟨rfl, hb1⟩
    rw [B1.out, B2.out]
    go_wp2_with fail
    refine (Short_ok _ _ (by omega) (by omega)).mono ?_
    rintro e w1 ⟨rfl, rfl⟩
    go_wp2_with fail
    refine (Long_c _ _ n1 n2).mono ?_
    rintro e w1 ⟨rfl, rfl⟩
    go_wp2_with fail
    go_ret
    exact ⟨rfl, balloc (bstep hb hb1) _⟩
  · obtain ⟨n1, n2, n3, n4⟩ := near q (by omega) (by omega)
    go_enter Try.func6, Try.ntmps6
    go_wp2_with fail
    refine (awake_c _).mono ?_
    rintro e wa ⟨rfl, hb⟩
    go_wp2_with fail
    refine (Stamp_ok _ _ (by omega) (by omega)).mono ?_
    rintro e w1 ⟨rfl, rfl⟩
    go_wp2_with fail
    refine (Unfold_ok _ _ _ s1 s2 (by omega) (by omega)).mono ?_
    rintro e w1 ⟨rfl, hb1⟩
    rw [B1.out, B2.out]
    go_wp2_with fail
    refine (Short_ok _ _ (by omega) (by omega)).mono ?_
    rintro e w1 ⟨rfl, rfl⟩
    go_wp2_with fail
    refine (Long_c _ _ n1 n2).mono ?_
    rintro e w1 ⟨rfl, rfl⟩
    go_wp2_with fail
    go_ret
    exact ⟨rfl, balloc (bstep hb hb1) _⟩

set_option maxRecDepth 100000 in
theorem lifted (os : Os) (started : os.Started) (H : Type) (enc : TypeId × Value → H) :
    ReturnsInHanded {} Try.checked os 6 .any (Rows.fixBackSpec.pre6 enc Try.prog Try.f6 Rows.fixBackRow.domain false) (Rows.fixBackSpec.post enc Try.prog Try.f6 false true false false) := by
  refine returnsInHanded_of_change (C := Try.checked) own started (by kernel_rfl) Try.func6
    (ChangeSpec.witness6 (enc := enc) (C := Try.checked) false ⟨#[], #[.int .i64 0, .int .i64 0], []⟩ 8 (by kernel_rfl) (by kernel_rfl) (by kernel_rfl) (by kernel_rfl)) ?_
  intro W base args ds gs before hval0 hW hcnd _
  have hval : ∀ (j : Nat) t v, Try.f6.params[j]? = some t → args[j]? = some v → Value.okWide Try.prog W .any base t v := hval0
  have hW' := hW
  obtain ⟨p, q, hA0, hV, rfl, hfz, hnd⟩ := hW
  have hA : DataW.TrodAll enc Try.prog W 0 (fun _ => true) true Try.f6.params.toList args.toList ds p := hA0
  rw [Try.params6] at hA hval
  obtain ⟨v0, vs0, d0, ds0, p0, q0, hargs, rfl, rfl, h0, r0⟩ := trodAll_cons hA
  obtain ⟨v1, vs1, d1, ds1, p1, q1, rfl, rfl, rfl, h1, r1⟩ := trodAll_cons r0
  obtain ⟨rfl, rfl, rfl⟩ := trodAll_nil r1
  obtain rfl : args = #[v0, v1] := by cases args; simp_all
  obtain ⟨rfl, rfl⟩ := trodVars_none hV
  obtain ⟨a0, rfl, rfl, rfl, w0⟩ := open_int Try.underlying22 (hval 0 22 v0 rfl rfl) h0
  obtain ⟨a1, rfl, rfl, rfl, w1⟩ := open_int Try.underlying22 (hval 1 22 v1 rfl rfl) h1
  clear hA0 hval0
  simp only [List.append_nil] at hW'
  refine (walk a0 a1 w0 w1 W).mono fun e W' ⟨he, hg⟩ => ?_
  subst he
  exact ⟨_, rfl, _, _, _, [], [], [], hW', trodAll_cons_mk (shut_bool Try.underlying4 _) trodAll_mk0,
    (trodAll_cons_mk (shut_int Try.underlying22 w0) (trodAll_cons_mk (shut_int Try.underlying22 w1) trodAll_mk0)), rfl, hg.frame _, fun h => nomatch h⟩

theorem over : Rows.fixBackRow.holds Try.pinned (OpenSpec.ofChange Rows.fixBackSpec) :=
  OpenClaim.holds_of_wide 6 Try.f6 rfl rfl rfl rfl rfl rfl rfl ⟨rfl, rfl, rfl, rfl, rfl⟩ rfl rfl rfl rfl rfl (by kernel_rfl) Try.func6 (by kernel_rfl)
    (of_decide_eq_true (by kernel_rfl)) (by unfold Func.isWrapper; first | (rw [if_pos (by decide +kernel)]; kernel_rfl) | (rw [if_neg (by decide +kernel)]; exact ⟨rfl, rfl⟩))
    (fun os started H enc _ => lifted os started H enc)

theorem proved : Rows.FixBackSaid :=
  over
end Go.Proofs.Ytmalkdhbpomolaa.fixBack
