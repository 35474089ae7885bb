/-
  LeapWarned: A leap second is warned of for the day ahead of it and for itself, and not behind it. The law returns true for every input, and the input reads as it did.
  Conditions: none.
-/
import Derived.Test.YtmehknhajoemgaaRows
import Derived.Test.YtmehknhajoemgaaLpO
import Derived.ChangeMaps5
import Derived.Carry
import Derived.Lib.SmallJoins
namespace Go.Proofs.Ytmehknhajoemgaa.leapWarned
open Go.ChangeShapes Go.WideShapes Go.ChangeAt Go.RowKit Go.Joins Cv Lp
set_option linter.unusedVariables false
set_option linter.unusedSimpArgs false

theorem own : ownKnob Try.prog.godebug = none := by kernel_rfl
theorem laidOut : laidOutB Try.prog = true := by kernel_rfl

/-- some number from 1 to m. -/
theorem pick_ix (z : Int) (m : Nat) (hm : 0 < m) (hm2 : m ≤ 5000) : ∃ (r s : Int) (j : Nat), z.tmod (m : Int) = r ∧ IntKind.i64.wrap (r + (m : Int)) = s ∧ s.tmod (m : Int) = (j : Int) ∧ j < m ∧ IntKind.i64.wrap (1 + (j : Int)) = (j : Int) + 1 := by
  have h1 : -(m : Int) < z.tmod m := Int.lt_tmod_of_pos z (by omega)
  have h2 : z.tmod m < m := Int.tmod_lt_of_pos z (by omega)
  obtain ⟨r, hr⟩ : ∃ r, z.tmod (m : Int) = r := ⟨_, rfl⟩
  rw [hr] at h1 h2
  have hs : IntKind.i64.wrap (r + (m : Int)) = r + m := IntWalk.i64_in _ (by omega)
  have h3 : (r + (m : Int)).tmod m = (r + m) % m := Int.tmod_eq_emod_of_nonneg (by omega)
  have h4 : 0 ≤ (r + (m : Int)) % m := Int.emod_nonneg _ (by omega)
  have h5 : (r + (m : Int)) % m < m := Int.emod_lt_of_pos _ (by omega)
  refine ⟨r, r + m, ((r + (m : Int)) % m).toNat, hr, hs, by rw [h3]; omega, by omega, by rw [IntWalk.i64_in _ (by omega)]; omega⟩
theorem pick_d (d : Int) : ∃ r s : Int, d.tmod 90595917824 = r ∧ -90595917824 < r ∧ r < 90595917824 ∧ r % 90595917824 = s ∧ 0 ≤ s ∧ s < 90595917824 :=
  ⟨_, _, rfl, Int.lt_tmod_of_pos d (by omega), Int.tmod_lt_of_pos d (by omega), rfl, Int.emod_nonneg _ (by omega), Int.emod_lt_of_pos _ (by omega)⟩

set_option maxRecDepth 100000 in
set_option maxHeartbeats 4000000 in
theorem walk_no (vs : Value) (e : Int) (n : Nat) (a o : Nat → Int) (z d : Int) (w : World) (C : Cs w vs n a o) (h : ¬ Tb n a o e) :
    Calls Try.prog 4 #[lv vs e, .int .i64 z, .int .i64 d] w fun x w' => x = .returned (.bool true) ∧ Below w.heap.size w w' := by
  have CK := Lib.hid (fun w (A : Cs w vs n a o) => Check_c (e := e) A)
  have A0 := Lib.hid C
  have H := Lib.hid h
  clear C h
  unfold lv at *
  go_enter Try.func4, Try.ntmps4
  go_wp2_with fail
  refine (awake8_c _).mono ?_
  rintro x w1 ⟨rfl, hb⟩
  have q0 := hb.cell (p := ⟨w.heap.size, 0, none⟩) (by simp)
  have q1 := hb.cell (p := ⟨w.heap.size, 1, none⟩) (by simp)
  simp [go_sem] at q0 q1
  have B1 := Lib.hid (bstep (balloc (brefl w) _) hb)
  clear hb
  go_wp2_with fail
  refine (CK.out _ (A0.out.below B1.out)).mono ?_
  rintro x w2 ⟨hc, hb⟩
  obtain ⟨_, rfl⟩ := hc.resolve_left (fun g => H.out g.1)
  have B2 := Lib.hid (bstep B1.out hb)
  clear hb hc
  go_wp2_with fail
  go_ret
  exact ⟨rfl, B2.out⟩

set_option maxRecDepth 100000 in
set_option maxHeartbeats 8000000 in
theorem walk_yes (vs : Value) (e : Int) (n : Nat) (a o : Nat → Int) (z d : Int) (w : World) (C : Cs w vs n a o) (h : Tb n a o e) :
    Calls Try.prog 4 #[lv vs e, .int .i64 z, .int .i64 d] w fun x w' => x = .returned (.bool true) ∧ Below w.heap.size w w' := by
  have CK := Lib.hid (fun w (A : Cs w vs n a o) => Check_c (e := e) A)
  have WN := Lib.hid (fun w (A : Cs w vs n a o) u h0 h1 h2 => Warn_ok (u := u) A h h0 h1 h2)
  have A0 := Lib.hid C
  have H := Lib.hid h
  have nle := h.1.n_le
  have pos := h.1.pos
  obtain ⟨ad, cap, rfl, a1, a2, a3, a4⟩ := C
  obtain ⟨b, off, rfl, hbl, hK⟩ := a4 (by omega)
  have HK0 := Lib.hid hK
  clear h a3 a4 hK
  unfold lv at *
  go_enter Try.func4, Try.ntmps4
  go_wp2_with fail
  refine (awake8_c _).mono ?_
  rintro x w1 ⟨rfl, hb⟩
  have q0 := hb.cell (p := ⟨w.heap.size, 0, none⟩) (by simp)
  have q1 := hb.cell (p := ⟨w.heap.size, 1, none⟩) (by simp)
  simp [go_sem] at q0 q1
  have z1 : w.heap.size < w1.heap.size := Nat.lt_of_lt_of_le (by simp) hb.size
  have B1 := Lib.hid (bstep (balloc (brefl w) _) hb)
  clear hb
  go_wp2_with fail
  refine (CK.out _ (A0.out.below B1.out)).mono ?_
  rintro x w2 ⟨hc, hb⟩
  obtain ⟨_, rfl⟩ := hc.resolve_right (fun g => g.1 H.out)
  have q0' := (hb.cell (p := ⟨w.heap.size, 0, none⟩) z1).trans q0
  have q1' := (hb.cell (p := ⟨w.heap.size, 1, none⟩) z1).trans q1
  have z2 : w.heap.size < w2.heap.size := Nat.lt_of_lt_of_le z1 hb.size
  have B2 := Lib.hid (bstep B1.out hb)
  clear hb hc q0 q1
  by_cases n2 : n < 2
  · have e0 : decide ((n : Int) < 2) = true := decide_eq_true (by omega)
    go_wp2_with fail
    go_ret
    exact ⟨rfl, B2.out⟩
  · have e0 : decide ((n : Int) < 2) = false := decide_eq_false (by omega)
    obtain ⟨r, s, j, W1, W2, W3, jm, W4⟩ := pick_ix z (n - 1) (by omega) (by omega)
    have W0 : IntKind.i64.wrap ((n : Int) - 1) = ((n - 1 : Nat) : Int) := by rw [IntWalk.i64_in _ (by omega)]; omega
    have M0 : (((n - 1 : Nat) : Int) == 0) = false := by simp; omega
    have M1 : ¬ (((n - 1 : Nat) : Int) = 0) := by omega
    have M2 : 0 < ((n - 1 : Nat) : Int) := by omega
    have jn : j + 1 < n := by omega
    generalize ((n - 1 : Nat) : Int) = M at *
    go_wp2_with fail
    go_quiet (fail)
    clear W0 W1 W2 W3 W4 M0 M1 M2 jm
    have D := bdrew (brefl w2) nq
    have B3 := Lib.hid (bdrew B2.out nq)
    have g0 := (D.cell (p := ⟨w.heap.size, 0, none⟩) z2).trans q0'
    have g1 := (D.cell (p := ⟨w.heap.size, 1, none⟩) z2).trans q1'
    have x1 := (B3.out.cell (p := ⟨b, _, none⟩) hbl).trans (HK0.out (j + 1) jn).1
    have x2 := (B3.out.cell (p := ⟨b, _, none⟩) hbl).trans (HK0.out (j + 1) jn).2
    have y2 := (B3.out.cell (p := ⟨b, _, none⟩) hbl).trans (HK0.out j (by omega)).2
    have z3 : w.heap.size < (w2.drewN nq).heap.size := Nat.lt_of_lt_of_le z2 D.size
    clear D q0' q1'
    generalize w2.drewN nq = w3 at *
    have l1 : (j : Int) + 1 < (n : Int) := by omega
    have l2 : (0 : Int) ≤ (j : Int) + 1 := by omega
    have l3 : ((j : Int) + 1).toNat = j + 1 := by omega
    have al := H.out.1.le (j + 1) jn
    have a0 : 0 ≤ a (j + 1) := (H.out.1.mo (j + 1) jn).1
    have ag : 2536715059200 ≤ a (j + 1) := by have := (H.out.1.mo j (by omega)).1; have := H.out.1.a_lt (i := j) (j := j + 1) (by omega) jn; omega
    have ob := H.out.1.ob (j + 1) jn
    have big : decide (144115188075855872 < a (j + 1)) = false := decide_eq_false (by omega)
    by_cases ce : e ≤ a (j + 1)
    · have e1 : decide (e ≤ a (j + 1)) = true := decide_eq_true ce
      clear ob ag
      generalize a (j + 1) = ak at *
      generalize o (j + 1) = ok at *
      go_wp2_with fail
      go_ret
      exact ⟨rfl, balloc B3.out _⟩
    · have e1 : decide (e ≤ a (j + 1)) = false := decide_eq_false ce
      obtain ⟨dr, ds, D1, d1, d2, D2, d3, d4⟩ := pick_d d
      have ho : ∃ p : Int, o (j + 1) * 1048576 = p ∧ 0 ≤ p ∧ p ≤ 209715200 := ⟨_, rfl, by omega, by omega⟩
      obtain ⟨p, hp, p0, p1⟩ := ho
      have PT : pt a o (j + 1) = a (j + 1) + p := by unfold pt; rw [hp]
      have WD := H.out.1.wat_day jn (d := ds) d3 (by omega)
      have WB := H.out.1.wat_behind jn (Nat.succ_pos j)
      have UP := H.out.1.ut_pt jn (Nat.succ_pos j)
      rw [PT] at WD WB UP
      have CW : Hid (∀ w (A : Cs w (.slice (some ⟨b, off, none⟩) n cap) n a o), Calls Try.prog 9 #[.agg #[.slice (some ⟨b, off, none⟩) n cap, .int .i64 e], .int .i64 (a (j + 1) + p - 1 - ds)] w fun x w' => x = .returned (.tuple #[.int .i64 (if o j < o (j + 1) then 1 else 2), .int .i64 0]) ∧ Below w.heap.size w w') := Lib.hid fun w A => (WN.out w A _ (by omega) (by omega) (by have := WD.2; omega)).mono fun x w' hh => by
        obtain ⟨⟨v, hv, hx⟩, hB⟩ := hh
        have := H.out.1.WV_one hv (.inr ⟨j + 1, WD.1, rfl⟩)
        rw [this] at hx
        exact ⟨hx, hB⟩
      have CE : Hid (∀ w (A : Cs w (.slice (some ⟨b, off, none⟩) n cap) n a o), Calls Try.prog 9 #[.agg #[.slice (some ⟨b, off, none⟩) n cap, .int .i64 e], .int .i64 (a (j + 1) + p)] w fun x w' => x = .returned (.tuple #[.int .i64 0, .int .i64 0]) ∧ Below w.heap.size w w') := Lib.hid fun w A => (WN.out w A _ (by omega) (by omega) (by omega)).mono fun x w' hh => by
        obtain ⟨⟨v, hv, hx⟩, hB⟩ := hh
        have := H.out.1.WV_one hv (.inl ⟨rfl, WB⟩)
        rw [this] at hx
        exact ⟨hx, hB⟩
      clear WD WB UP PT WN ob ce
      generalize o j = oj at *
      generalize a (j + 1) = ak at *
      generalize o (j + 1) = ok at *
      by_cases ck : oj < ok
      · have ew : decide (oj < ok) = true := decide_eq_true ck
        rw [if_pos ck] at CW
        clear ck
        go_wp2_with fail
        (with_reducible refine (CW.out _ (A0.out.below (balloc B3.out _))).mono ?_)
        rintro x w4 ⟨rfl, hb⟩
        have r0 := (hb.cell (p := ⟨w.heap.size, 0, none⟩) (by show w.heap.size < _; simp; omega)).trans ((cell_alloc_old (by show w.heap.size < _; omega)).trans g0)
        have r1 := (hb.cell (p := ⟨w.heap.size, 1, none⟩) (by show w.heap.size < _; simp; omega)).trans ((cell_alloc_old (by show w.heap.size < _; omega)).trans g1)
        have s0 := hb.cell (p := ⟨w3.heap.size, 0, none⟩) (by simp)
        have s1 := hb.cell (p := ⟨w3.heap.size, 1, none⟩) (by simp)
        simp [go_sem] at s0 s1
        have t2 := (hb.cell (p := ⟨b, off + j * 2 + 1, none⟩) (by show b < _; have := B3.out.size; simp; omega)).trans ((cell_alloc_old (by show b < _; have := B3.out.size; omega)).trans y2)
        have z4 : w3.heap.size < w4.heap.size := Nat.lt_of_lt_of_le (by simp) hb.size
        have B4 := Lib.hid (bstep (balloc B3.out _) hb)
        clear hb g0 g1 x1 x2 y2 CW
        go_wp2_with fail
        (with_reducible refine (CE.out _ (A0.out.below B4.out)).mono ?_)
        rintro x w5 ⟨rfl, hb⟩
        have u0 := (hb.cell (p := ⟨w.heap.size, 0, none⟩) (by show w.heap.size < _; omega)).trans r0
        have u2 := (hb.cell (p := ⟨w3.heap.size, 1, none⟩) (by show w3.heap.size < _; omega)).trans s1
        have u3 := (hb.cell (p := ⟨b, off + j * 2 + 1, none⟩) (by show b < _; have := B3.out.size; omega)).trans t2
        have B5 := Lib.hid (bstep B4.out hb)
        have l4 : IntKind.i64.wrap (j : Int) = (j : Int) := IntWalk.i64_in _ (by omega)
        have l5 : (j : Int) < (n : Int) := by omega
        have l6 : (0 : Int) ≤ (j : Int) := by omega
        clear hb r0 r1 s0 s1 t2 CE B4
        go_wp2_with fail
        go_quiet (fail)
        go_wp2_with fail
        go_ret
        exact ⟨rfl, bdrew B5.out _⟩
      · have ew : decide (oj < ok) = false := decide_eq_false ck
        rw [if_neg ck] at CW
        clear ck
        go_wp2_with fail
        (with_reducible refine (CW.out _ (A0.out.below (balloc B3.out _))).mono ?_)
        rintro x w4 ⟨rfl, hb⟩
        have r0 := (hb.cell (p := ⟨w.heap.size, 0, none⟩) (by show w.heap.size < _; simp; omega)).trans ((cell_alloc_old (by show w.heap.size < _; omega)).trans g0)
        have r1 := (hb.cell (p := ⟨w.heap.size, 1, none⟩) (by show w.heap.size < _; simp; omega)).trans ((cell_alloc_old (by show w.heap.size < _; omega)).trans g1)
        have s0 := hb.cell (p := ⟨w3.heap.size, 0, none⟩) (by simp)
        have s1 := hb.cell (p := ⟨w3.heap.size, 1, none⟩) (by simp)
        simp [go_sem] at s0 s1
        have t2 := (hb.cell (p := ⟨b, off + j * 2 + 1, none⟩) (by show b < _; have := B3.out.size; simp; omega)).trans ((cell_alloc_old (by show b < _; have := B3.out.size; omega)).trans y2)
        have z4 : w3.heap.size < w4.heap.size := Nat.lt_of_lt_of_le (by simp) hb.size
        have B4 := Lib.hid (bstep (balloc B3.out _) hb)
        clear hb g0 g1 x1 x2 y2 CW
        go_wp2_with fail
        (with_reducible refine (CE.out _ (A0.out.below B4.out)).mono ?_)
        rintro x w5 ⟨rfl, hb⟩
        have u0 := (hb.cell (p := ⟨w.heap.size, 0, none⟩) (by show w.heap.size < _; omega)).trans r0
        have u2 := (hb.cell (p := ⟨w3.heap.size, 1, none⟩) (by show w3.heap.size < _; omega)).trans s1
        have u3 := (hb.cell (p := ⟨b, off + j * 2 + 1, none⟩) (by show b < _; have := B3.out.size; omega)).trans t2
        have B5 := Lib.hid (bstep B4.out hb)
        have l4 : IntKind.i64.wrap (j : Int) = (j : Int) := IntWalk.i64_in _ (by omega)
        have l5 : (j : Int) < (n : Int) := by omega
        have l6 : (0 : Int) ≤ (j : Int) := by omega
        clear hb r0 r1 s0 s1 t2 CE B4
        go_wp2_with fail
        go_quiet (fail)
        go_wp2_with fail
        go_ret
        exact ⟨rfl, bdrew B5.out _⟩

theorem walk (vs : Value) (e : Int) (n : Nat) (a o : Nat → Int) (z d : Int) (we : I64 e) (wz : (Lit.int .i64 z).wf = true) (wd : (Lit.int .i64 d).wf = true) (w : World) (C : Cs w vs n a o) :
    Calls Try.prog 4 #[lv vs e, .int .i64 z, .int .i64 d] w fun x w' => x = .returned (.bool true) ∧ Below w.heap.size w w' := by
  by_cases h : Tb n a o e
  · exact walk_yes vs e n a o z d w C h
  · exact walk_no vs e n a o z d w C h

set_option maxRecDepth 100000 in
theorem lifted (os : Os) (started : os.Started) (H : Type) (enc : TypeId × Value → H) :
    ReturnsInHanded {} Try.checked os 4 .any (Rows.leapWarnedSpec.pre6 enc Try.prog Try.f4 Rows.leapWarnedRow.domain false) (Rows.leapWarnedSpec.post enc Try.prog Try.f4 false true false false) := by
  refine returnsInHanded_of_change (C := Try.checked) own started (by kernel_rfl) Try.func4
    (ChangeSpec.witness6 (enc := enc) (C := Try.checked) false ⟨#[], #[.agg #[.slice none 0 0, .int .i64 0], .int .i64 0, .int .i64 0], []⟩ 8 (by kernel_rfl) (by kernel_rfl) (by kernel_rfl) (by kernel_rfl)) ?_
  intro W base args ds gs before hval0 hW hcnd _
  have hval : ∀ (j : Nat) t v, Try.f4.params[j]? = some t → args[j]? = some v → Value.okWide Try.prog W .any base t v := hval0
  have hW' := hW
  obtain ⟨p, q, hA0, hV, rfl, hfz, hnd⟩ := hW
  have hA : DataW.TrodAll enc Try.prog W 0 (fun _ => true) true Try.f4.params.toList args.toList ds p := hA0
  rw [Try.params4] at hA hval
  obtain ⟨v0, vs0, d0, ds0, p0, q0, hargs, rfl, rfl, h0, r0⟩ := trodAll_cons hA
  obtain ⟨v1, vs1, d1, ds1, p1, q1, rfl, rfl, rfl, h1, r1⟩ := trodAll_cons r0
  obtain ⟨v2, vs2, d2, ds2, p2, q2, rfl, rfl, rfl, h2, r2⟩ := trodAll_cons r1
  obtain ⟨rfl, rfl, rfl⟩ := trodAll_nil r2
  obtain rfl : args = #[v0, v1, v2] := by cases args; simp_all
  obtain ⟨rfl, rfl⟩ := trodVars_none hV
  have h0k := h0
  have hlt0 : ∀ x ∈ p0, x.block < W.heap.size := fun x hx => by have := hW'.lt x (by simp [hx]); simpa using this
  obtain ⟨vs0', e0, n0, x0, y0, rfl, g0, i0⟩ := open_leaps (hval 0 25 v0 rfl rfl) h0
  obtain ⟨a1, rfl, rfl, rfl, w1⟩ := open_int Try.underlying3 (hval 1 3 v1 rfl rfl) h1
  obtain ⟨a2, rfl, rfl, rfl, w2⟩ := open_int Try.underlying23 (hval 2 23 v2 rfl rfl) h2
  clear hA0 hval0
  simp only [List.append_nil] at hW'
  refine (walk vs0' e0 n0 x0 y0 a1 a2 i0 w1 w2 W g0).mono fun e W' ⟨he, hg⟩ => ?_
  subst he
  exact ⟨_, rfl, _, _, _, [], _, [], hW', trodAll_cons_mk (shut_bool Try.underlying4 _) trodAll_mk0,
    (trodAll_cons_mk (Below.trod laidOut (by kernel_rfl) (of_decide_eq_true (by kernel_rfl)) h0k hg hlt0) (trodAll_cons_mk (shut_int Try.underlying3 w1) (trodAll_cons_mk (shut_int Try.underlying23 w2) trodAll_mk0))), rfl, hg.frame _, fun h => nomatch h⟩

theorem over : Rows.leapWarnedRow.holds Try.pinned (OpenSpec.ofChange Rows.leapWarnedSpec) :=
  OpenClaim.holds_of_wide 4 Try.f4 rfl rfl rfl rfl rfl rfl rfl ⟨rfl, rfl, rfl, rfl, rfl⟩ rfl rfl rfl rfl rfl (by kernel_rfl) Try.func4 (by kernel_rfl)
    (of_decide_eq_true (by kernel_rfl)) (by unfold Func.isWrapper; first | (rw [if_pos (by decide +kernel)]; kernel_rfl) | (rw [if_neg (by decide +kernel)]; exact ⟨rfl, rfl⟩))
    (fun os started H enc _ => lifted os started H enc)

theorem proved : Rows.LeapWarnedSaid :=
  over
end Go.Proofs.Ytmehknhajoemgaa.leapWarned
