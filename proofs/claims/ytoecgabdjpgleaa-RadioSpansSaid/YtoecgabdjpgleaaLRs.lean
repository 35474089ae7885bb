/-
  RadioSpans: The span of a reading holds every even time that shows it, and all that is within the bound of one. The law returns true for every input, and the input reads as it did.
  Conditions: none.
-/
import Derived.Test.YtoecgabdjpgleaaRows
import Derived.Test.YtoecgabdjpgleaaRdH
import Derived.ChangeMaps5
import Derived.Carry
import Derived.Lib.SmallJoins
namespace Go.Proofs.Ytoecgabdjpgleaa.radioSpans
open Go.ChangeShapes Go.WideShapes Go.ChangeAt Go.RowKit Go.Joins Cv Lp Rd
set_option linter.unusedVariables false
set_option linter.unusedSimpArgs false

theorem own : ownKnob Try.prog.godebug = none := by kernel_rfl
theorem laidOut : laidOutB Try.prog = true := by kernel_rfl

theorem pick_e (d : Int) : ∃ r s : Int, d.tmod 1000000 = r ∧ -1000000 < r ∧ r < 1000000 ∧ (r + 1000000) % 1000000 = s ∧ 0 ≤ s ∧ s < 1000000 :=
  ⟨_, _, rfl, Int.lt_tmod_of_pos d (by omega), Int.tmod_lt_of_pos d (by omega), rfl, Int.emod_nonneg _ (by omega), Int.emod_lt_of_pos _ (by omega)⟩
theorem pick_b (d k : Int) (h : 0 < k) : ∃ r : Int, d.tmod k = r ∧ -k < r ∧ r < k :=
  ⟨_, rfl, Int.lt_tmod_of_pos d h, Int.tmod_lt_of_pos d h⟩

set_option maxRecDepth 100000 in
set_option maxHeartbeats 4000000 in
theorem walk_range (vs : Value) (e : Int) (n : Nat) (a o : Nat → Int) (u bd d : Int) (w : World) (C : Cs w vs n a o) (h : Tb n a o e) (h0 : ¬ (0 ≤ u ∧ u ≤ 288230376151711744)) :
    Calls Try.prog 4 #[lv vs e, .int .i64 u, .int .i64 bd, .int .i64 d] w fun x w' => x = .returned (.bool true) ∧ Below w.heap.size w w' := by
  have CK := Lib.hid (fun w (A : Cs w vs n a o) => UTC_range A h h0)
  have A0 := Lib.hid C
  clear C
  unfold lv at *
  go_enter Try.func4, Try.ntmps4
  go_wp2_with fail
  refine (awake13_c _).mono ?_
  rintro x w1 ⟨rfl, hb⟩
  have q0 := hb.cell (p := ⟨w.heap.size, 0, none⟩) (by simp)
  have q1 := hb.cell (p := ⟨w.heap.size, 1, none⟩) (by simp)
  simp [go_sem] at q0 q1
  have B1 := Lib.hid (bstep (balloc (brefl w) _) hb)
  clear hb
  go_wp2_with fail
  refine (CK.out _ (A0.out.below B1.out)).mono ?_
  rintro x w2 ⟨rfl, hb⟩
  have B2 := Lib.hid (bstep B1.out hb)
  clear hb
  go_wp2_with fail
  go_ret
  exact ⟨rfl, B2.out⟩

set_option maxRecDepth 100000 in
set_option maxHeartbeats 4000000 in
theorem walk_shape (vs : Value) (e : Int) (n : Nat) (a o : Nat → Int) (u bd d : Int) (w : World) (C : Cs w vs n a o) (h : ¬ Tb n a o e) :
    Calls Try.prog 4 #[lv vs e, .int .i64 u, .int .i64 bd, .int .i64 d] w fun x w' => x = .returned (.bool true) ∧ Below w.heap.size w w' := by
  have CK := Lib.hid (fun w (A : Cs w vs n a o) => UTC_shape (u := u) A h)
  have A0 := Lib.hid C
  clear C
  unfold lv at *
  go_enter Try.func4, Try.ntmps4
  go_wp2_with fail
  refine (awake13_c _).mono ?_
  rintro x w1 ⟨rfl, hb⟩
  have q0 := hb.cell (p := ⟨w.heap.size, 0, none⟩) (by simp)
  have q1 := hb.cell (p := ⟨w.heap.size, 1, none⟩) (by simp)
  simp [go_sem] at q0 q1
  have B1 := Lib.hid (bstep (balloc (brefl w) _) hb)
  clear hb
  go_wp2_with fail
  refine (CK.out _ (A0.out.below B1.out)).mono ?_
  rintro x w2 ⟨rfl, hb⟩
  have B2 := Lib.hid (bstep B1.out hb)
  clear hb
  go_wp2_with fail
  go_ret
  exact ⟨rfl, B2.out⟩

set_option maxRecDepth 100000 in
set_option maxHeartbeats 8000000 in
theorem walk_yes (vs : Value) (e : Int) (n : Nat) (a o : Nat → Int) (u bd0 d0 : Int) (w : World) (C : Cs w vs n a o) (h : Tb n a o e) (h0 : 0 ≤ u) (h1 : u ≤ 288230376151711744) :
    Calls Try.prog 4 #[lv vs e, .int .i64 u, .int .i64 bd0, .int .i64 d0] w fun x w' => x = .returned (.bool true) ∧ Below w.heap.size w w' := by
  have UU := Lib.hid (fun w (A : Cs w vs n a o) => UTC_ok (u := u) A h h0 h1)
  have A0 := Lib.hid C
  have nle := h.1.n_le
  have SP := sp_of h.1 u
  have ub := h.1.ofs_bd u
  have ut1 : ut n a o u ≤ u := by unfold ut; omega
  have ut2 : u - 209715200 ≤ ut n a o u := by unfold ut; omega
  obtain ⟨br, bd, eB1, eB2, eB3, eB4, eB5, eB6⟩ := pick_e bd0
  obtain ⟨d, eD1, eD2, eD3⟩ := pick_b d0 (bd + 1) (by omega)
  have SO : Hid (0 ≤ ut n a o u → ∀ w (A : Cs w vs n a o), Calls Try.prog 9 #[lv vs e, .int .i64 (ut n a o u), .int .i64 bd] w fun x w' => x = snE (evs n a o (ut n a o u) n) bd ∧ Below w.heap.size w w') := Lib.hid fun q w A => Span_ok A h q (by omega) eB5 (by omega) SP.pos (by have := SP.len; omega) (fun j hj => by
    have m := (h.1.ev (ut n a o u)).at_ _ (show (evs n a o (ut n a o u) n).getD j 0 ∈ evs n a o (ut n a o u) n by rw [List.getD_eq_getElem?_getD, List.getElem?_eq_getElem hj]; exact List.getElem_mem hj)
    exact m.2)
  obtain ⟨s1, s2, s3, s4, s5, s6, s7⟩ := SP
  unfold snE at SO
  generalize evs n a o (ut n a o u) n = L at *
  generalize ut n a o u = t at *
  generalize L.getD 0 0 = x0 at *
  generalize L.getD (L.length - 1) 0 = xq at *
  generalize inl n a o u = I at *
  obtain ⟨ad, cap, rfl, c1, c2, c3, c4⟩ := C
  clear h c3 c4 ub s7
  unfold lv at *
  go_enter Try.func4, Try.ntmps4
  go_wp2_with fail
  refine (awake13_c _).mono ?_
  rintro x w1 ⟨rfl, hb⟩
  have q0 := hb.cell (p := ⟨w.heap.size, 0, none⟩) (by simp)
  have q1 := hb.cell (p := ⟨w.heap.size, 1, none⟩) (by simp)
  simp [go_sem] at q0 q1
  have z1 : w.heap.size < w1.heap.size := Nat.lt_of_lt_of_le (by simp) hb.size
  have B1 := Lib.hid (bstep (balloc (brefl w) _) hb)
  clear hb
  go_wp2_with fail
  (with_reducible refine (UU.out _ (A0.out.below B1.out)).mono ?_)
  rintro x w2 ⟨rfl, hb⟩
  have g0 := (hb.cell (p := ⟨w.heap.size, 0, none⟩) z1).trans q0
  have g1 := (hb.cell (p := ⟨w.heap.size, 1, none⟩) z1).trans q1
  have z2 : w.heap.size < w2.heap.size := Nat.lt_of_lt_of_le z1 hb.size
  have B2 := Lib.hid (bstep B1.out hb)
  clear hb q0 q1 UU
  by_cases t0 : t < 0
  · have f0 : decide (t < 0) = true := decide_eq_true t0
    go_wp2_with fail
    go_ret
    exact ⟨rfl, B2.out⟩
  · have f0 : decide (t < 0) = false := decide_eq_false t0
    have SK := Lib.hid (SO.out (by omega))
    clear SO
    go_wp2_with fail
    rw [eB4]
    (with_reducible refine (SK.out _ (A0.out.below B2.out)).mono ?_)
    rintro x w3 ⟨rfl, hb⟩
    have k0 := (hb.cell (p := ⟨w.heap.size, 0, none⟩) z2).trans g0
    have k1 := (hb.cell (p := ⟨w.heap.size, 1, none⟩) z2).trans g1
    have z3 : w.heap.size < w3.heap.size := Nat.lt_of_lt_of_le z2 hb.size
    have B3 := Lib.hid (balloc (bstep B2.out hb) (.cells #[.int .i64 (x0 - bd), .int .i64 (xq + bd)] 36))
    have kz : ¬ bd + 1 = 0 := by omega
    have e1 : decide (x0 - bd ≤ u + d) = true := decide_eq_true (by omega)
    have e2 : decide (u + d ≤ xq + bd) = true := decide_eq_true (by omega)
    have e3 : decide (xq + bd - (x0 - bd) ≤ 2 * bd + (n : Int) * 1048576) = true := decide_eq_true (by omega)
    clear hb g0 g1 SK A0
    go_wp2_with fail
    go_ret
    exact ⟨rfl, B3.out⟩
theorem walk (vs : Value) (e : Int) (n : Nat) (a o : Nat → Int) (u bd d : Int) (we : I64 e) (wu : (Lit.int .i64 u).wf = true) (wb : (Lit.int .i64 bd).wf = true) (wd : (Lit.int .i64 d).wf = true) (w : World) (C : Cs w vs n a o) :
    Calls Try.prog 4 #[lv vs e, .int .i64 u, .int .i64 bd, .int .i64 d] w fun x w' => x = .returned (.bool true) ∧ Below w.heap.size w w' := by
  by_cases h : Tb n a o e
  · by_cases k : 0 ≤ u ∧ u ≤ 288230376151711744
    · exact walk_yes vs e n a o u bd d w C h k.1 k.2
    · exact walk_range vs e n a o u bd d w C h k
  · exact walk_shape vs e n a o u bd d w C h

set_option maxRecDepth 100000 in
theorem lifted (os : Os) (started : os.Started) (H : Type) (enc : TypeId × Value → H) :
    ReturnsInHanded {} Try.checked os 4 .any (Rows.radioSpansSpec.pre6 enc Try.prog Try.f4 Rows.radioSpansRow.domain false) (Rows.radioSpansSpec.post enc Try.prog Try.f4 false true false false) := by
  refine returnsInHanded_of_change (C := Try.checked) own started (by kernel_rfl) Try.func4
    (ChangeSpec.witness6 (enc := enc) (C := Try.checked) false ⟨#[], #[.agg #[.slice none 0 0, .int .i64 0], .int .i64 0, .int .i64 0, .int .i64 0], []⟩ 8 (by kernel_rfl) (by kernel_rfl) (by kernel_rfl) (by kernel_rfl)) ?_
  intro W base args ds gs before hval0 hW hcnd _
  have hval : ∀ (j : Nat) t v, Try.f4.params[j]? = some t → args[j]? = some v → Value.okWide Try.prog W .any base t v := hval0
  have hW' := hW
  obtain ⟨p, q, hA0, hV, rfl, hfz, hnd⟩ := hW
  have hA : DataW.TrodAll enc Try.prog W 0 (fun _ => true) true Try.f4.params.toList args.toList ds p := hA0
  rw [Try.params4] at hA hval
  obtain ⟨v0, vs0, d0, ds0, p0, q0, hargs, rfl, rfl, h0, r0⟩ := trodAll_cons hA
  obtain ⟨v1, vs1, d1, ds1, p1, q1, rfl, rfl, rfl, h1, r1⟩ := trodAll_cons r0
  obtain ⟨v2, vs2, d2, ds2, p2, q2, rfl, rfl, rfl, h2, r2⟩ := trodAll_cons r1
  obtain ⟨v3, vs3, d3, ds3, p3, q3, rfl, rfl, rfl, h3, r3⟩ := trodAll_cons r2
  obtain ⟨rfl, rfl, rfl⟩ := trodAll_nil r3
  obtain rfl : args = #[v0, v1, v2, v3] := by cases args; simp_all
  obtain ⟨rfl, rfl⟩ := trodVars_none hV
  have h0k := h0
  have hlt0 : ∀ x ∈ p0, x.block < W.heap.size := fun x hx => by have := hW'.lt x (by simp [hx]); simpa using this
  obtain ⟨vs0', e0, n0, x0, y0, rfl, g0, i0⟩ := open_leaps (hval 0 32 v0 rfl rfl) h0
  obtain ⟨a1, rfl, rfl, rfl, w1⟩ := open_int Try.underlying23 (hval 1 23 v1 rfl rfl) h1
  obtain ⟨a2, rfl, rfl, rfl, w2⟩ := open_int Try.underlying23 (hval 2 23 v2 rfl rfl) h2
  obtain ⟨a3, rfl, rfl, rfl, w3⟩ := open_int Try.underlying23 (hval 3 23 v3 rfl rfl) h3
  clear hA0 hval0
  simp only [List.append_nil] at hW'
  refine (walk vs0' e0 n0 x0 y0 a1 a2 a3 i0 w1 w2 w3 W g0).mono fun e W' ⟨he, hg⟩ => ?_
  subst he
  exact ⟨_, rfl, _, _, _, [], _, [], hW', trodAll_cons_mk (shut_bool Try.underlying4 _) trodAll_mk0,
    (trodAll_cons_mk (Below.trod laidOut (by kernel_rfl) (of_decide_eq_true (by kernel_rfl)) h0k hg hlt0) (trodAll_cons_mk (shut_int Try.underlying23 w1) (trodAll_cons_mk (shut_int Try.underlying23 w2) (trodAll_cons_mk (shut_int Try.underlying23 w3) trodAll_mk0)))), rfl, hg.frame _, fun h => nomatch h⟩

theorem over : Rows.radioSpansRow.holds Try.pinned (OpenSpec.ofChange Rows.radioSpansSpec) :=
  OpenClaim.holds_of_wide 4 Try.f4 rfl rfl rfl rfl rfl rfl rfl ⟨rfl, rfl, rfl, rfl, rfl⟩ rfl rfl rfl rfl rfl (by kernel_rfl) Try.func4 (by kernel_rfl)
    (of_decide_eq_true (by kernel_rfl)) (by unfold Func.isWrapper; first | (rw [if_pos (by decide +kernel)]; kernel_rfl) | (rw [if_neg (by decide +kernel)]; exact ⟨rfl, rfl⟩))
    (fun os started H enc _ => lifted os started H enc)

theorem proved : Rows.RadioSpansSaid :=
  over
end Go.Proofs.Ytoecgabdjpgleaa.radioSpans
