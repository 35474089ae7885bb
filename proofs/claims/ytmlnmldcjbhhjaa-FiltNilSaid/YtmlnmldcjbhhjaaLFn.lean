/-
  FiltNil: A filter that isn't there answers an error to everything, and two filters have nothing to do with one another. The law returns true for every input, and the input reads as it did.
  Conditions: none.
-/
import Derived.Test.YtmlnmldcjbhhjaaRows
import Derived.Test.YtmlnmldcjbhhjaaFlK
import Derived.SizedLaws
import Derived.Lib.SmallJoins
namespace Go.Proofs.Ytmlnmldcjbhhjaa.filtNil
open Go.ChangeShapes Go.WideShapes Go.ChangeAt Go.RowKit Go.Joins Fl
set_option linter.unusedVariables false
set_option linter.unusedSimpArgs false

theorem own : ownKnob Try.prog.godebug = none := by kernel_rfl
theorem laidOut : laidOutB Try.prog = true := by kernel_rfl

set_option maxRecDepth 100000 in
set_option maxHeartbeats 4000000 in
theorem walk (s : Sm) (now ppm : Int) (w : World) (_ : i64S s) (_ : Lit.wf (.int .i64 now) = true) (_ : Lit.wf (.int .i64 ppm) = true) :
    Calls Try.prog 4 #[SV s, .int .i64 now, .int .i64 ppm] w fun e w' => e = .returned (.bool true) ∧ Below w.heap.size w w' := by
  have AW := Lib.hid awake14_c
  have BN := Lib.hid (fun w => Best_no (p := none) (now := now) (ppm := ppm) (k := 1) (w := w) rfl (fun w' _ => refusal_nil now ppm w'))
  have JN := Lib.hid (fun w => Jitter_no (p := none) (now := now) (ppm := ppm) (k := 1) (w := w) rfl (refusal_nil now ppm w))
  have AN := Lib.hid (fun w => Add_nil s w)
  have CN := Lib.hid Count_nil
  have LN := Lib.hid Clear_nil
  have NW := Lib.hid New_c
  have AO := Lib.hid (fun (w : World) b (h : Fm w b []) (hs : okSm s) => Add_ok h s hs (fun t ht => by simp at ht))
  have AB := Lib.hid (fun (w : World) b (hs : ¬ okSm s) => Add_shape s b w hs)
  have CO := Lib.hid (fun (w : World) b L (h : Fm w b L) => Count_c h)
  have LC := Lib.hid (fun (w : World) b L (h : Fm w b L) => Clear_c h)
  have KS : Hid ((s :: ([] : List Sm)).take 8 = [s]) := Lib.hid rfl
  have L0 : Hid ((([] : List Sm).length : Int) = 0) := Lib.hid rfl
  have L1 : Hid (∀ s : Sm, ([s].length : Int) = 1) := Lib.hid fun _ => rfl
  by_cases ok : okSm s
  all_goals have HOK := Lib.hid ok
  all_goals clear ok
  all_goals obtain ⟨a, b, c, d⟩ := s
  all_goals replace AN : Hid (∀ w, Calls Try.prog 7 #[.pointer none, .agg #[.int .i64 a, .int .i64 b, .int .i64 c, .int .i64 d]] w fun e w' => e = .returned (.int .i64 1) ∧ Below w.heap.size w w') := AN
  all_goals replace BN : Hid (∀ w, Calls Try.prog 9 #[.pointer none, .int .i64 now, .int .i64 ppm] w fun e w' => e = .returned (.tuple #[.agg #[.int .i64 0, .int .i64 0, .int .i64 0, .int .i64 0], .int .i64 1]) ∧ Below w.heap.size w w') := BN
  all_goals show Calls Try.prog 4 #[.agg #[.int .i64 a, .int .i64 b, .int .i64 c, .int .i64 d], .int .i64 now, .int .i64 ppm] w _
  · have N0 := Lib.hid (new4 w a b c d 30)
    have B0 := Lib.hid (balloc (brefl w) (.cells #[.int .i64 a, .int .i64 b, .int .i64 c, .int .i64 d] 30))
    go_enter Try.func4, Try.ntmps4
    go_wp2_with fail
    refine (AW.out _).mono ?_
    rintro e w1 ⟨rfl, hb⟩
    have B1 := Lib.hid (bstep B0.out hb)
    have N1 := Lib.hid (N0.out.below hb)
    clear hb B0 N0
    go_wp2_with fail
    refine (BN.out _).mono ?_
    rintro e w2 ⟨rfl, hb⟩
    have hb2 := balloc hb (.cells #[.int .i64 0, .int .i64 0, .int .i64 0, .int .i64 0] 30)
    have B2 := Lib.hid (bstep B1.out hb2)
    have N2 := Lib.hid (N1.out.below hb2)
    have M2 := Lib.hid (new4 w2 0 0 0 0 30)
    clear hb hb2 N1
    go_wp2_with fail
    refine (JN.out _).mono ?_
    rintro e w3 ⟨rfl, hb⟩
    have B3 := Lib.hid (bstep B2.out hb)
    have N3 := Lib.hid (N2.out.below hb)
    have M3 := Lib.hid (M2.out.below hb)
    clear hb N2 M2
    obtain ⟨x0, x1, x2, x3⟩ := blk4 N3.out (brefl w3)
    go_wp2_with fail
    refine (AN.out _).mono ?_
    rintro e w4 ⟨rfl, hb⟩
    have B4 := Lib.hid (bstep B3.out hb)
    have N4 := Lib.hid (N3.out.below hb)
    have M4 := Lib.hid (M3.out.below hb)
    clear hb N3 M3 x0 x1 x2 x3
    obtain ⟨x0, x1, x2, x3⟩ := blk4 M4.out (brefl w4)
    go_wp2_with fail
    refine (CN.out _).mono ?_
    rintro e w5 ⟨rfl, rfl⟩
    go_wp2_with fail
    refine (LN.out _).mono ?_
    rintro e w5 ⟨rfl, rfl⟩
    go_wp2_with fail
    refine (NW.out _).mono ?_
    rintro e w6 ⟨rfl, h1, hb⟩
    have B6 := Lib.hid (bstep B4.out hb)
    have N6 := Lib.hid (N4.out.below hb)
    have F6 := Lib.hid h1
    have G6 : Hid (w.heap.size ≤ w5.heap.size) := Lib.hid B4.out.size
    clear h1 hb N4 M4 x0 x1 x2 x3
    go_wp2_with fail
    refine (NW.out _).mono ?_
    rintro e w7 ⟨rfl, h1, hb⟩
    have B7 := Lib.hid (bstep B6.out hb)
    have N7 := Lib.hid (N6.out.below hb)
    have F7 := Lib.hid (F6.out.below hb)
    have G7 := Lib.hid h1
    have ne7 : Hid (w5.heap.size ≠ w6.heap.size) := Lib.hid (Nat.ne_of_lt F6.out.lt)
    have le7 : Hid (w.heap.size ≤ w5.heap.size) := G6
    clear h1 hb N6
    obtain ⟨x0, x1, x2, x3⟩ := blk4 N7.out (brefl w7)
    go_wp2_with fail
    refine (AO.out _ _ F7.out HOK.out).mono ?_
    rintro e w8 ⟨rfl, h1, hT⟩
    replace h1 : Fm w8 w5.heap.size [⟨a, b, c, d⟩] := h1
    have F8 := Lib.hid h1
    have B8 := Lib.hid (B7.out.trans (hT.below (fun i q => Nat.le_trans le7.out (Nat.le_of_eq q.symm)) B7.out.size))
    have G8 := Lib.hid (G7.out.keep (hT.block _ G7.out.lt (fun q => ne7.out q.symm)) hT.size)
    clear h1 hT
    clear x0 x1 x2 x3
    go_wp2_with fail
    refine (CO.out _ _ _ F8.out).mono ?_
    rintro e w9 ⟨rfl, rfl⟩
    rw [L1.out]
    go_wp2_with fail
    refine (CO.out _ _ _ G8.out).mono ?_
    rintro e w9 ⟨rfl, rfl⟩
    rw [L0.out]
    go_wp2_with fail
    refine (LC.out _ _ _ F8.out).mono ?_
    rintro e w9 ⟨rfl, h1, hT⟩
    have F9 := Lib.hid h1
    have B9 := Lib.hid (B8.out.trans (hT.below (fun i q => Nat.le_trans le7.out (Nat.le_of_eq q.symm)) B8.out.size))
    clear h1 hT
    go_wp2_with fail
    refine (CO.out _ _ _ F9.out).mono ?_
    rintro e w10 ⟨rfl, rfl⟩
    rw [L0.out]
    go_wp2_with fail
    go_ret
    exact ⟨rfl, B9.out⟩
  · have N0 := Lib.hid (new4 w a b c d 30)
    have B0 := Lib.hid (balloc (brefl w) (.cells #[.int .i64 a, .int .i64 b, .int .i64 c, .int .i64 d] 30))
    go_enter Try.func4, Try.ntmps4
    go_wp2_with fail
    refine (AW.out _).mono ?_
    rintro e w1 ⟨rfl, hb⟩
    have B1 := Lib.hid (bstep B0.out hb)
    have N1 := Lib.hid (N0.out.below hb)
    clear hb B0 N0
    go_wp2_with fail
    refine (BN.out _).mono ?_
    rintro e w2 ⟨rfl, hb⟩
    have hb2 := balloc hb (.cells #[.int .i64 0, .int .i64 0, .int .i64 0, .int .i64 0] 30)
    have B2 := Lib.hid (bstep B1.out hb2)
    have N2 := Lib.hid (N1.out.below hb2)
    have M2 := Lib.hid (new4 w2 0 0 0 0 30)
    clear hb hb2 N1
    go_wp2_with fail
    refine (JN.out _).mono ?_
    rintro e w3 ⟨rfl, hb⟩
    have B3 := Lib.hid (bstep B2.out hb)
    have N3 := Lib.hid (N2.out.below hb)
    have M3 := Lib.hid (M2.out.below hb)
    clear hb N2 M2
    obtain ⟨x0, x1, x2, x3⟩ := blk4 N3.out (brefl w3)
    go_wp2_with fail
    refine (AN.out _).mono ?_
    rintro e w4 ⟨rfl, hb⟩
    have B4 := Lib.hid (bstep B3.out hb)
    have N4 := Lib.hid (N3.out.below hb)
    have M4 := Lib.hid (M3.out.below hb)
    clear hb N3 M3 x0 x1 x2 x3
    obtain ⟨x0, x1, x2, x3⟩ := blk4 M4.out (brefl w4)
    go_wp2_with fail
    refine (CN.out _).mono ?_
    rintro e w5 ⟨rfl, rfl⟩
    go_wp2_with fail
    refine (LN.out _).mono ?_
    rintro e w5 ⟨rfl, rfl⟩
    go_wp2_with fail
    refine (NW.out _).mono ?_
    rintro e w6 ⟨rfl, h1, hb⟩
    have B6 := Lib.hid (bstep B4.out hb)
    have N6 := Lib.hid (N4.out.below hb)
    have F6 := Lib.hid h1
    have G6 : Hid (w.heap.size ≤ w5.heap.size) := Lib.hid B4.out.size
    clear h1 hb N4 M4 x0 x1 x2 x3
    go_wp2_with fail
    refine (NW.out _).mono ?_
    rintro e w7 ⟨rfl, h1, hb⟩
    have B7 := Lib.hid (bstep B6.out hb)
    have N7 := Lib.hid (N6.out.below hb)
    have F7 := Lib.hid (F6.out.below hb)
    have G7 := Lib.hid h1
    have ne7 : Hid (w5.heap.size ≠ w6.heap.size) := Lib.hid (Nat.ne_of_lt F6.out.lt)
    have le7 : Hid (w.heap.size ≤ w5.heap.size) := G6
    clear h1 hb N6
    obtain ⟨x0, x1, x2, x3⟩ := blk4 N7.out (brefl w7)
    go_wp2_with fail
    refine (AB.out _ _ HOK.out).mono ?_
    rintro e w8 ⟨rfl, hb⟩
    have F8 := Lib.hid (F7.out.below hb)
    have B8 := Lib.hid (bstep B7.out hb)
    have G8 := Lib.hid (G7.out.below hb)
    clear hb
    clear x0 x1 x2 x3
    go_wp2_with fail
    refine (CO.out _ _ _ F8.out).mono ?_
    rintro e w9 ⟨rfl, rfl⟩
    rw [L0.out]
    go_wp2_with fail
    refine (CO.out _ _ _ G8.out).mono ?_
    rintro e w9 ⟨rfl, rfl⟩
    rw [L0.out]
    go_wp2_with fail
    refine (LC.out _ _ _ F8.out).mono ?_
    rintro e w9 ⟨rfl, h1, hT⟩
    have F9 := Lib.hid h1
    have B9 := Lib.hid (B8.out.trans (hT.below (fun i q => Nat.le_trans le7.out (Nat.le_of_eq q.symm)) B8.out.size))
    clear h1 hT
    go_wp2_with fail
    refine (CO.out _ _ _ F9.out).mono ?_
    rintro e w10 ⟨rfl, rfl⟩
    rw [L0.out]
    go_wp2_with fail
    go_ret
    exact ⟨rfl, B9.out⟩
set_option maxRecDepth 100000 in
theorem lifted (os : Os) (started : os.Started) (H : Type) (enc : TypeId × Value → H) :
    ReturnsInHanded {} Try.checked os 4 .any (Rows.filtNilSpec.pre6 enc Try.prog Try.f4 Rows.filtNilRow.domain false) (Rows.filtNilSpec.post enc Try.prog Try.f4 false true false false) := by
  refine returnsInHanded_of_change_sized (C := Try.checked) own started (by kernel_rfl) Try.func4
    (ChangeSpec.witness6 (enc := enc) (C := Try.checked) false ⟨#[], #[.agg #[.int .i64 0, .int .i64 0, .int .i64 0, .int .i64 0], .int .i64 0, .int .i64 0], []⟩ 8 (by kernel_rfl) (by kernel_rfl) (by kernel_rfl) (by kernel_rfl)) ?_
  intro W base args ds gs before hval0 hW hcnd hsz0 _
  have hsz : (DataW.weightsEach Try.prog (Try.f4.params.toList ++ Rows.filtNilSpec.plain.varTypes Try.prog) (ds ++ gs)).all (· ≤ reachBytes) = true := hsz0
  have hval : ∀ (j : Nat) t v, Try.f4.params[j]? = some t → args[j]? = some v → Value.okWide Try.prog W .any base t v := hval0
  have hW' := hW
  obtain ⟨p, q, hA0, hV, rfl, hfz, hnd⟩ := hW
  have hA : DataW.TrodAll enc Try.prog W 0 (fun _ => true) true Try.f4.params.toList args.toList ds p := hA0
  rw [Try.params4] at hA hval hsz
  obtain ⟨v0, vs0, d0, ds0, p0, q0, hargs, rfl, rfl, h0, r0⟩ := trodAll_cons hA
  obtain ⟨v1, vs1, d1, ds1, p1, q1, rfl, rfl, rfl, h1, r1⟩ := trodAll_cons r0
  obtain ⟨v2, vs2, d2, ds2, p2, q2, rfl, rfl, rfl, h2, r2⟩ := trodAll_cons r1
  obtain ⟨rfl, rfl, rfl⟩ := trodAll_nil r2
  obtain rfl : args = #[v0, v1, v2] := by cases args; simp_all
  obtain ⟨rfl, rfl⟩ := trodVars_none hV
  have h0k := h0
  have hlt0 : ∀ x ∈ p0, x.block < W.heap.size := fun x hx => by have := hW'.lt x (by simp [hx]); simpa using this
  have h1k := h1
  have hlt1 : ∀ x ∈ p1, x.block < W.heap.size := fun x hx => by have := hW'.lt x (by simp [hx]); simpa using this
  have h2k := h2
  have hlt2 : ∀ x ∈ p2, x.block < W.heap.size := fun x hx => by have := hW'.lt x (by simp [hx]); simpa using this
  obtain ⟨s0, rfl, g0⟩ := open_sm (hval 0 30 v0 rfl rfl) h0
  obtain ⟨z1, rfl, _, _, g1⟩ := open_int Try.underlying23 (hval 1 23 v1 rfl rfl) h1
  obtain ⟨z2, rfl, _, _, g2⟩ := open_int Try.underlying3 (hval 2 3 v2 rfl rfl) h2
  clear hA0 hval0
  simp only [List.append_nil] at hW'
  refine (walk s0 z1 z2 W g0 g1 g2).mono fun e W' ⟨he, hg⟩ => ?_
  subst he
  exact ⟨_, rfl, _, _, _, [], _, [], hW', trodAll_cons_mk (shut_bool Try.underlying4 _) trodAll_mk0,
    (trodAll_cons_mk (Below.trod laidOut (by kernel_rfl) (of_decide_eq_true (by kernel_rfl)) h0k hg hlt0) (trodAll_cons_mk (Below.trod laidOut (by kernel_rfl) (of_decide_eq_true (by kernel_rfl)) h1k hg hlt1) (trodAll_cons_mk (Below.trod laidOut (by kernel_rfl) (of_decide_eq_true (by kernel_rfl)) h2k hg hlt2) trodAll_mk0))), rfl, hg.frame _, fun h => nomatch h⟩

theorem over : Rows.filtNilRow.holds Try.pinned (OpenSpec.ofChange Rows.filtNilSpec) :=
  OpenClaim.holds_of_wide 4 Try.f4 rfl rfl rfl rfl rfl rfl rfl ⟨rfl, rfl, rfl, rfl, rfl⟩ rfl rfl rfl rfl rfl (by kernel_rfl) Try.func4 (by kernel_rfl)
    (of_decide_eq_true (by kernel_rfl)) (by unfold Func.isWrapper; first | (rw [if_pos (by decide +kernel)]; kernel_rfl) | (rw [if_neg (by decide +kernel)]; exact ⟨rfl, rfl⟩))
    (fun os started H enc _ => lifted os started H enc)

theorem proved : Rows.FiltNilSaid :=
  over
end Go.Proofs.Ytmlnmldcjbhhjaa.filtNil
