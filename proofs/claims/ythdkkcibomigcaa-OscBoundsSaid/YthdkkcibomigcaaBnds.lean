/-
  OscBounds: however an oscillator drifts within its bound, the true time that went by lies within what its count says: the law returns true for every input, and the input reads as it did.
  Conditions: none.
-/
import Derived.Test.YthdkkcibomigcaaRows
import Derived.Test.YthdkkcibomigcaaOscH
namespace Go.Proofs.Ythdkkcibomigcaa.oscBounds
open Go.ChangeShapes Go.WideShapes Go.ChangeAt Go.RowKit Fx
set_option linter.unusedVariables false

theorem own : ownKnob Try.prog.godebug = none := by kernel_rfl

set_option maxRecDepth 100000 in
set_option maxHeartbeats 2000000 in
theorem walk_early (a : Option Addr) (n cap : Nat) (X Y : Nat → Int) (rho p q : Int) (w : World) (h : WayS w a n X Y) (P : ¬ (okW n X Y ∧ 0 ≤ rho ∧ rho ≤ 1000)) :
    Calls Try.prog 5 #[.slice a n cap, .int .i64 rho, .int .i64 p, .int .i64 q] w fun e w' => e = .returned (.bool true) ∧ Below w.heap.size w w' := by
  have L := Lib.hid h
  clear h
  by_cases c : okW n X Y
  · by_cases c1 : rho < 0
    · have e1 : decide (rho < 0) = true := decide_eq_true c1
      have C := Lib.hid c
      clear P c
      go_enter Try.func5, Try.ntmps5
      go_wp2_with fail
      refine (awake2_c _).mono ?_
      rintro e w1 ⟨rfl, hb⟩
      have HB := Lib.hid hb
      clear hb
      go_wp2_with fail
      refine (Check_s a n cap X Y _ (L.out.below HB.out)).mono ?_
      rintro e w2 ⟨ho, hb⟩
      obtain ⟨_, rfl⟩ := ho.resolve_right (fun g => absurd C.out g.1)
      have HB2 := Lib.hid (bstep HB.out hb)
      clear hb HB ho
      go_wp2_with fail
      go_ret
      exact ⟨rfl, HB2.out⟩
    · have e1 : decide (rho < 0) = false := decide_eq_false c1
      have c2 : 1000 < rho := by
        by_cases c3 : 1000 < rho
        · exact c3
        · exact absurd ⟨c, by omega, by omega⟩ P
      have e2 : decide (1000 < rho) = true := decide_eq_true c2
      have C := Lib.hid c
      clear P c
      go_enter Try.func5, Try.ntmps5
      go_wp2_with fail
      refine (awake2_c _).mono ?_
      rintro e w1 ⟨rfl, hb⟩
      have HB := Lib.hid hb
      clear hb
      go_wp2_with fail
      refine (Check_s a n cap X Y _ (L.out.below HB.out)).mono ?_
      rintro e w2 ⟨ho, hb⟩
      obtain ⟨_, rfl⟩ := ho.resolve_right (fun g => absurd C.out g.1)
      have HB2 := Lib.hid (bstep HB.out hb)
      clear hb HB ho
      go_wp2_with fail
      go_ret
      exact ⟨rfl, HB2.out⟩
  · have C := Lib.hid c
    clear P c
    go_enter Try.func5, Try.ntmps5
    go_wp2_with fail
    refine (awake2_c _).mono ?_
    rintro e w1 ⟨rfl, hb⟩
    have HB := Lib.hid hb
    clear hb
    go_wp2_with fail
    refine (Check_s a n cap X Y _ (L.out.below HB.out)).mono ?_
    rintro e w2 ⟨ho, hb⟩
    obtain ⟨_, rfl⟩ := ho.resolve_left (fun g => absurd g.1 C.out)
    have HB2 := Lib.hid (bstep HB.out hb)
    clear hb HB ho
    go_wp2_with fail
    go_ret
    exact ⟨rfl, HB2.out⟩

set_option maxRecDepth 100000 in
set_option maxHeartbeats 4000000 in
theorem walk_main (a : Option Addr) (n cap : Nat) (X Y : Nat → Int) (rho p q : Int) (w : World) (h : WayS w a n X Y) (hok : okW n X Y) (hr : 0 ≤ rho) (hr' : rho ≤ 1000) :
    Calls Try.prog 5 #[.slice a n cap, .int .i64 rho, .int .i64 p, .int .i64 q] w fun e w' => e = .returned (.bool true) ∧ Below w.heap.size w w' := by
  have L := Lib.hid h
  have C := Lib.hid hok
  have hn := h.1
  have e1 : decide (rho < 0) = false := by rw [decide_eq_false_iff_not]; omega
  have e2 : decide (1000 < rho) = false := by rw [decide_eq_false_iff_not]; omega
  clear h hok
  go_enter Try.func5, Try.ntmps5
  go_wp2_with fail
  refine (awake2_c _).mono ?_
  rintro e w1 ⟨rfl, hb⟩
  have HB := Lib.hid hb
  clear hb
  go_wp2_with fail
  refine (Check_s a n cap X Y _ (L.out.below HB.out)).mono ?_
  rintro e w2 ⟨ho, hb⟩
  obtain ⟨_, rfl⟩ := ho.resolve_right (fun g => absurd C.out g.1)
  have HB2 := Lib.hid (bstep HB.out hb)
  clear hb HB ho
  go_wp2_with fail
  go_loopw [9, 10] (fun s i wr => ∃ k : Nat, k ≤ n ∧ i = .int .i64 k ∧ s = .int .i64 (sumTo X k) ∧ slow k Y rho ∧ Below w.heap.size w wr) (fun _ i _ => n - (intOf i).toNat)
  case atStart => exact ⟨0, Nat.zero_le _, rfl, rfl, slow_zero Y rho, HB2.out⟩
  case round =>
    obtain ⟨k, hk, rfl, rfl, hsl, hb⟩ := hrel
    have B := sumTo_bd C.out k hk
    have HS := Lib.hid hsl
    have HB3 := Lib.hid hb
    clear hsl hb HB2
    obtain ⟨B1, B2⟩ := B
    by_cases c : k < n
    · have e0 : decide ((k : Int) < (n : Int)) = true := by rw [decide_eq_true_iff]; omega
      obtain ⟨b, off, rfl, lg⟩ := (L.out.below HB3.out).2 (by omega)
      obtain ⟨g1, g2⟩ := lg.2 k c
      clear lg
      obtain ⟨r1, r2, r3, r4⟩ := (C.out k c).1
      have S := Lib.hid (sumTo_succ X k)
      have O := Lib.hid (slow_succ HS.out)
      generalize sumTo X k = s at *
      generalize X k = x at *
      generalize Y k = y at *
      by_cases c1 : rho < y
      · have f1 : decide (rho < y) = true := decide_eq_true c1
        go_wp2_with fail
        go_ret
        exact ⟨rfl, HB3.out⟩
      · have f1 : decide (rho < y) = false := decide_eq_false c1
        by_cases c2 : y < -rho
        · have f2 : decide (y < -rho) = true := decide_eq_true c2
          go_wp2_with fail
          go_ret
          exact ⟨rfl, HB3.out⟩
        · have f2 : decide (y < -rho) = false := decide_eq_false c2
          have O2 : Hid (slow (k + 1) Y rho) := O.out (by omega) (by omega)
          clear O
          go_wp2_with fail
          go_roundw
          case rel => exact ⟨k + 1, by omega, by go_num, by rw [S.out], O2.out, HB3.out⟩
          case measure => simp [intOf]; omega
    · have e0 : decide ((k : Int) < (n : Int)) = false := by rw [decide_eq_false_iff_not]; omega
      obtain rfl : k = n := by omega
      have M := Lib.hid (fun a b => bounds_main (rho := rho) (a := a) (b := b) C.out HS.out hr hr')
      obtain ⟨s, es⟩ : ∃ s, sumTo X k = s := ⟨_, rfl⟩
      rw [es] at B1 B2 ⊢
      have ES := Lib.hid es
      clear es
      go_wp2_with fail
      refine (into_c _ _ _ (by omega) (by omega)).mono ?_
      rintro e w3 ⟨⟨u, u1, u2, rfl⟩, rfl⟩
      go_wp2_with fail
      refine (into_c _ _ _ (by omega) (by omega)).mono ?_
      rintro e w3 ⟨⟨v, v1, v2, rfl⟩, rfl⟩
      by_cases c3 : v < u
      · have f3 : decide (v < u) = true := decide_eq_true c3
        obtain ⟨x, y, lo, hi, x1, x2, x3, x4, x5, x6, x7, x8, x9, xa, xb⟩ := M.out v u v1 (by omega) (by rw [ES.out]; omega)
        have X1 := Lib.hid (And.intro x1 (And.intro x2 (And.intro x3 x4)))
        clear x1 x2 x3 x4
        have y1 : decide (y < x) = false := by rw [decide_eq_false_iff_not]; omega
        have y2 : decide (lo ≤ u - v) = true := decide_eq_true x8
        have y3 : decide (u - v ≤ hi) = true := decide_eq_true x9
        have y4 : decide (shl v lo ≤ u) = true := decide_eq_true xa
        have y5 : decide (u ≤ shh v hi) = true := decide_eq_true xb
        go_wp2_with fail
        refine (Raw_s a k cap X Y v _ (L.out.below HB3.out) C.out (by omega) (by rw [ES.out]; omega)).mono ?_
        rintro e w4 ⟨rfl, hb⟩
        rw [X1.out.1]
        have HB4 := Lib.hid (bstep HB3.out hb)
        clear hb HB3
        go_wp2_with fail
        refine (Raw_s a k cap X Y u _ (L.out.below HB4.out) C.out (by omega) (by rw [ES.out]; omega)).mono ?_
        rintro e w5 ⟨rfl, hb⟩
        rw [X1.out.2.1]
        have HB5 := Lib.hid (bstep HB4.out hb)
        clear hb HB4
        go_wp2_with fail
        refine (Elapsed_ok _ _ _ (by omega) hr hr').mono ?_
        rintro e w6 ⟨rfl, hb⟩
        rw [X1.out.2.2.1, X1.out.2.2.2]
        have HB6 := Lib.hid (bstep HB5.out hb)
        clear hb HB5
        go_wp2_with fail
        refine (Age_ok _ _ _ _ _ (by unfold okS; omega) (by omega) hr hr').mono ?_
        rintro e w7 ⟨rfl, hb⟩
        rw [X1.out.2.2.1, X1.out.2.2.2]
        have HB7 := Lib.hid (bstep HB6.out hb)
        clear hb HB6
        go_wp2_with fail
        go_ret
        exact ⟨rfl, balloc HB7.out _⟩
      · have f3 : decide (v < u) = false := decide_eq_false c3
        obtain ⟨x, y, lo, hi, x1, x2, x3, x4, x5, x6, x7, x8, x9, xa, xb⟩ := M.out u v u1 (by omega) (by rw [ES.out]; omega)
        have X1 := Lib.hid (And.intro x1 (And.intro x2 (And.intro x3 x4)))
        clear x1 x2 x3 x4
        have y1 : decide (y < x) = false := by rw [decide_eq_false_iff_not]; omega
        have y2 : decide (lo ≤ v - u) = true := decide_eq_true x8
        have y3 : decide (v - u ≤ hi) = true := decide_eq_true x9
        have y4 : decide (shl u lo ≤ v) = true := decide_eq_true xa
        have y5 : decide (v ≤ shh u hi) = true := decide_eq_true xb
        go_wp2_with fail
        refine (Raw_s a k cap X Y u _ (L.out.below HB3.out) C.out (by omega) (by rw [ES.out]; omega)).mono ?_
        rintro e w4 ⟨rfl, hb⟩
        rw [X1.out.1]
        have HB4 := Lib.hid (bstep HB3.out hb)
        clear hb HB3
        go_wp2_with fail
        refine (Raw_s a k cap X Y v _ (L.out.below HB4.out) C.out (by omega) (by rw [ES.out]; omega)).mono ?_
        rintro e w5 ⟨rfl, hb⟩
        rw [X1.out.2.1]
        have HB5 := Lib.hid (bstep HB4.out hb)
        clear hb HB4
        go_wp2_with fail
        refine (Elapsed_ok _ _ _ (by omega) hr hr').mono ?_
        rintro e w6 ⟨rfl, hb⟩
        rw [X1.out.2.2.1, X1.out.2.2.2]
        have HB6 := Lib.hid (bstep HB5.out hb)
        clear hb HB5
        go_wp2_with fail
        refine (Age_ok _ _ _ _ _ (by unfold okS; omega) (by omega) hr hr').mono ?_
        rintro e w7 ⟨rfl, hb⟩
        rw [X1.out.2.2.1, X1.out.2.2.2]
        have HB7 := Lib.hid (bstep HB6.out hb)
        clear hb HB6
        go_wp2_with fail
        go_ret
        exact ⟨rfl, balloc HB7.out _⟩

theorem walk (v0 : Value) (n0 : Nat) (X0 Y0 : Nat → Int) (a1 a2 a3 : Int) (w1 : (Lit.int .i64 a1).wf = true) (w2 : (Lit.int .i64 a2).wf = true) (w3 : (Lit.int .i64 a3).wf = true) (w : World) (g0 : WayAt w v0 n0 X0 Y0) :
    Calls Try.prog 5 #[v0, .int .i64 a1, .int .i64 a2, .int .i64 a3] w fun e w' => e = .returned (.bool true) ∧ Below w.heap.size w w' := by
  obtain ⟨a, cap, rfl, _, h⟩ := g0.split
  by_cases c : okW n0 X0 Y0 ∧ 0 ≤ a1 ∧ a1 ≤ 1000
  · exact walk_main a n0 cap X0 Y0 a1 a2 a3 w h c.1 c.2.1 c.2.2
  · exact walk_early a n0 cap X0 Y0 a1 a2 a3 w h c

set_option maxRecDepth 100000 in
theorem lifted (os : Os) (started : os.Started) (H : Type) (enc : TypeId × Value → H) :
    ReturnsInHanded {} Try.checked os 5 .any (Rows.oscBoundsSpec.pre6 enc Try.prog Try.f5 Rows.oscBoundsRow.domain false) (Rows.oscBoundsSpec.post enc Try.prog Try.f5 false true false false) := by
  refine returnsInHanded_of_change (C := Try.checked) own started (by kernel_rfl) Try.func5
    (ChangeSpec.witness6 (enc := enc) (C := Try.checked) false ⟨#[], #[.slice none 0 0, .int .i64 0, .int .i64 0, .int .i64 0], []⟩ 8 (by kernel_rfl) (by kernel_rfl) (by kernel_rfl) (by kernel_rfl)) ?_
  intro W base args ds gs before hval0 hW hcnd _
  have hval : ∀ (j : Nat) t v, Try.f5.params[j]? = some t → args[j]? = some v → Value.okWide Try.prog W .any base t v := hval0
  have hW' := hW
  obtain ⟨p, q, hA0, hV, rfl, hfz, hnd⟩ := hW
  have hA : DataW.TrodAll enc Try.prog W 0 (fun _ => true) true Try.f5.params.toList args.toList ds p := hA0
  rw [Try.params5] at hA hval
  obtain ⟨v0, vs0, d0, ds0, p0, q0, hargs, rfl, rfl, h0, r0⟩ := trodAll_cons hA
  obtain ⟨v1, vs1, d1, ds1, p1, q1, rfl, rfl, rfl, h1, r1⟩ := trodAll_cons r0
  obtain ⟨v2, vs2, d2, ds2, p2, q2, rfl, rfl, rfl, h2, r2⟩ := trodAll_cons r1
  obtain ⟨v3, vs3, d3, ds3, p3, q3, rfl, rfl, rfl, h3, r3⟩ := trodAll_cons r2
  obtain ⟨rfl, rfl, rfl⟩ := trodAll_nil r3
  obtain rfl : args = #[v0, v1, v2, v3] := by cases args; simp_all
  obtain ⟨rfl, rfl⟩ := trodVars_none hV
  have h0k := h0
  have hlt0 : ∀ x ∈ p0, x.block < W.heap.size := fun x hx => by have := hW'.lt x (by simp [hx]); simpa using this
  obtain ⟨n0, X0, Y0, g0⟩ := open_way (hval 0 22 v0 rfl rfl) h0
  obtain ⟨a1, rfl, rfl, rfl, w1⟩ := open_int Try.underlying3 (hval 1 3 v1 rfl rfl) h1
  obtain ⟨a2, rfl, rfl, rfl, w2⟩ := open_int Try.underlying23 (hval 2 23 v2 rfl rfl) h2
  obtain ⟨a3, rfl, rfl, rfl, w3⟩ := open_int Try.underlying23 (hval 3 23 v3 rfl rfl) h3
  clear hA0 hval0
  simp only [List.append_nil] at hW'
  refine (walk v0 n0 X0 Y0 a1 a2 a3 w1 w2 w3 W g0).mono fun e W' ⟨he, hg⟩ => ?_
  subst he
  exact ⟨_, rfl, _, _, _, [], _, [], hW', trodAll_cons_mk (shut_bool Try.underlying4 _) trodAll_mk0,
    (trodAll_cons_mk (Below.trod laidOut (by kernel_rfl) (of_decide_eq_true (by kernel_rfl)) h0k hg hlt0) (trodAll_cons_mk (shut_int Try.underlying3 w1) (trodAll_cons_mk (shut_int Try.underlying23 w2) (trodAll_cons_mk (shut_int Try.underlying23 w3) trodAll_mk0)))), rfl, hg.frame _, fun h => nomatch h⟩

theorem over : Rows.oscBoundsRow.holds Try.pinned (OpenSpec.ofChange Rows.oscBoundsSpec) :=
  OpenClaim.holds_of_wide 5 Try.f5 rfl rfl rfl rfl rfl rfl rfl ⟨rfl, rfl, rfl, rfl, rfl⟩ rfl rfl rfl rfl rfl (by kernel_rfl) Try.func5 (by kernel_rfl)
    (of_decide_eq_true (by kernel_rfl)) (by unfold Func.isWrapper; first | (rw [if_pos (by decide +kernel)]; kernel_rfl) | (rw [if_neg (by decide +kernel)]; exact ⟨rfl, rfl⟩))
    (fun os started H enc _ => lifted os started H enc)

theorem proved : Rows.OscBoundsSaid :=
  over
end Go.Proofs.Ythdkkcibomigcaa.oscBounds
