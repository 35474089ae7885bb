/-
  WordsParts: Seconds are their whole part and their fraction, and rise as what they say. The law returns true for every input, and the inputs read as they did.
  Conditions: none.
-/
import Derived.Test.YthlmjfjkjjoimaaRows
import Derived.Test.YthlmjfjkjjoimaaWpN
import Derived.ChangeMaps5
import Derived.Carry
import Derived.Laws.RangeAny
import Derived.Lib.SmallJoins
namespace Go.Proofs.Ythlmjfjkjjoimaa.wordsParts
open Go.ChangeShapes Go.WideShapes Go.ChangeAt Go.RowKit Go.Joins Wd By
set_option linter.unusedVariables false
set_option linter.unusedSimpArgs false

theorem own : ownKnob Try.prog.godebug = none := by kernel_rfl
theorem laidOut : laidOutB Try.prog = true := by kernel_rfl
def dot : ByteArray := ⟨#[46]⟩
def dash : ByteArray := ⟨#[45]⟩
/-- digits of a whole part, of a fraction. -/
structure Pt (W M : Nat) (a t : ByteArray) : Prop where
  w : Ds W a 5
  t6 : t.size = 6
  td : ∀ i, i < 6 → dig (gn t i) = true
  tv : va t 6 = M
theorem no46 {x : Nat} (h : dig x = true) : x ≠ 46 ∧ x ≠ 45 := by
  simp [dig] at h
  omega
theorem neg_no {s : ByteArray} (h : gn s 0 ≠ 45) : neg s = false ∧ bod s = s := by
  have e : neg s = false := by rw [neg, decide_eq_false h, Bool.and_false]
  exact ⟨e, by rw [bod, e]; rfl⟩
theorem Pt.dp {W M : Nat} {a t : ByteArray} (P : Pt W M a t) : dp (a ++ dot ++ t) (a ++ dot ++ t).size = a.size ∧ a.size < (a ++ dot ++ t).size := by
  have sz : (a ++ dot ++ t).size = a.size + 1 + t.size := by rw [ByteArray.size_append, ByteArray.size_append]; rfl
  have g : gn (a ++ dot ++ t) a.size = 46 := by
    rw [gn_left (by rw [ByteArray.size_append]; show a.size < a.size + 1; omega)]
    have := gn_right a dot 0
    rw [Nat.add_zero] at this
    rw [this]
    rfl
  refine ⟨dp_hit g (fun j hj => ?_) _ (by omega), by omega⟩
  rw [gn_left (by rw [ByteArray.size_append]; omega), gn_left hj]
  exact (no46 (P.w.dig j hj)).1
theorem Pt.wp {W M : Nat} {a t : ByteArray} (P : Pt W M a t) : wp (a ++ dot ++ t) = a ∧ fp (a ++ dot ++ t) = t := by
  refine ⟨?_, ?_⟩
  · rw [Wd.wp, P.dp.1, ByteArray.append_assoc]
    exact ext_left _ _
  · rw [Wd.fp, P.dp.1]
    have e := ext_right (a ++ dot) t
    rw [show (a ++ dot).size = a.size + 1 from by rw [ByteArray.size_append]; rfl] at e
    exact e
theorem Pt.mi {W M : Nat} {a t : ByteArray} (P : Pt W M a t) : okU (a ++ dot ++ t) = true ∧ mi (a ++ dot ++ t) = W * 1000000 + M := by
  have D := P.dp
  have hd : dgs t = true := by rw [dgs_all (fun i hi => P.td i (by rw [P.t6] at hi; exact hi)), decide_eq_true (show 0 < t.size by rw [P.t6]; omega)]
  refine ⟨?_, ?_⟩
  · rw [okU, P.wp.1, P.wp.2, P.w.wn (by omega), hd, decide_eq_true (show t.size ≤ 6 by rw [P.t6]; omega)]
    simp
  · rw [Wd.mi, P.wp.1, P.wp.2, P.w.val, D.1, if_pos D.2, fr_va t.size (by rw [P.t6]; omega) (fun i hi => P.td i (by rw [P.t6] at hi; exact hi)), P.t6, P.tv]
    simp
theorem Pt.pos {W M : Nat} {a t : ByteArray} (P : Pt W M a t) : okS (a ++ dot ++ t) = true ∧ tk (a ++ dot ++ t) = ((W * 1000000 + M : Nat) : Int) * 1048576 / 1000000 := by
  have g0 : gn (a ++ dot ++ t) 0 ≠ 45 := by
    rw [gn_left (by rw [ByteArray.size_append]; have := P.w.pos; omega), gn_left P.w.pos]
    exact (no46 (P.w.dig 0 P.w.pos)).2
  obtain ⟨e1, e2⟩ := neg_no g0
  rw [okS, tk, e1, e2, P.mi.1, P.mi.2]
  exact ⟨rfl, rfl⟩
theorem Pt.min {W M : Nat} {a t : ByteArray} (P : Pt W M a t) : okS (dash ++ a ++ dot ++ t) = true ∧ tk (dash ++ a ++ dot ++ t) = -((W * 1000000 + M : Nat) : Int) * 1048576 / 1000000 := by
  have e : dash ++ a ++ dot ++ t = dash ++ (a ++ dot ++ t) := by
    apply list_ba
    simp
  rw [e]
  have sz : (dash ++ (a ++ dot ++ t)).size = 1 + (a ++ dot ++ t).size := by rw [ByteArray.size_append]; rfl
  have g0 : gn (dash ++ (a ++ dot ++ t)) 0 = 45 := by
    rw [gn_left (show 0 < dash.size from by decide)]
    rfl
  have e1 : neg (dash ++ (a ++ dot ++ t)) = true := by rw [neg, g0, decide_eq_true (show 0 < (dash ++ (a ++ dot ++ t)).size by omega)]; rfl
  have e2 : bod (dash ++ (a ++ dot ++ t)) = a ++ dot ++ t := by
    rw [bod, if_pos e1]
    exact ext_right dash _
  rw [okS, tk, e1, e2, P.mi.1, P.mi.2]
  exact ⟨rfl, by rw [if_pos rfl]⟩
theorem whole_ok {W : Nat} {a : ByteArray} (D : Ds W a 5) : okS a = true ∧ tk a = (W : Int) * 1048576 := by
  obtain ⟨e1, e2⟩ := neg_no (no46 (D.dig 0 D.pos)).2
  have dm : dp a a.size = a.size := dp_miss a.size (fun j hj => (no46 (D.dig j hj)).1)
  have ew : Wd.wp a = a := by rw [Wd.wp, dm, ext_all]
  have ok : okU a = true := by
    rw [okU, ew, D.wn (by omega), dm, decide_eq_false (Nat.lt_irrefl _)]
    rfl
  have em : Wd.mi a = W * 1000000 := by
    rw [Wd.mi, ew, dm, if_neg (Nat.lt_irrefl _), D.val, Nat.add_zero]
  rw [okS, tk, e1, e2, ok, em]
  refine ⟨rfl, ?_⟩
  rw [if_neg (by decide)]
  omega
theorem frac {M : Nat} (hM : M < 1000000) : (dsF 6 (1000000 + M)).size = 7 ∧ ∀ W a, Ds W a 5 → Pt W M a ((dsF 6 (1000000 + M)).extract 1 (dsF 6 (1000000 + M)).size) := by
  have D := ds_spec 6 (1000000 + M) (by omega)
  have s7 : (dsF 6 (1000000 + M)).size = 7 := by
    have h1 := D.most
    have h2 := D.size_ge (k := 6) (by omega)
    omega
  refine ⟨s7, fun W a Da => ?_⟩
  generalize dsF 6 (1000000 + M) = R at *
  have gx : ∀ i, i < 6 → gn (R.extract 1 R.size) i = gn R (i + 1) := fun i hi => by rw [gn_ext (by omega), Nat.add_comm]
  have sx : (R.extract 1 R.size).size = 6 := by rw [ByteArray.size_extract]; omega
  refine ⟨Da, sx, fun i hi => by rw [gx i hi]; exact D.dig (i + 1) (by omega), ?_⟩
  have v := va_head R (R.extract 1 R.size) 6 gx
  have v7 := D.val
  rw [s7] at v7
  rw [v7] at v
  have l := va_lt (s := R.extract 1 R.size) 6 (fun i hi => by rw [gx i hi]; exact D.dig (i + 1) (by omega))
  have d0 := D.dig 0 D.pos
  simp [dig] at d0
  have e : (10 : Nat) ^ 6 = 1000000 := by decide
  rw [e] at v l
  have : gn R 0 - 48 ≤ 9 := by omega
  generalize gn R 0 - 48 = x at *
  generalize va (R.extract 1 R.size) 6 = y at *
  have : x = 1 := by omega
  omega
theorem rem_of (x : Int) (m : Nat) (hm : 0 < m) (hm' : m ≤ 1000000) : ∃ r : Nat, r < m ∧ (x.tmod m + m).tmod m = (r : Int) ∧ -(m : Int) < x.tmod m ∧ x.tmod m < m := by
  have h1 : -(m : Int) < x.tmod m := Int.lt_tmod_of_pos x (by omega)
  have h2 : x.tmod m < m := Int.tmod_lt_of_pos x (by omega)
  have h3 : (x.tmod m + m).tmod m = (x.tmod m + m) % m := Int.tmod_eq_emod_of_nonneg (by omega)
  have h4 : 0 ≤ (x.tmod m + m) % m := Int.emod_nonneg _ (by omega)
  have h5 : (x.tmod m + m) % m < m := Int.emod_lt_of_pos _ (by omega)
  exact ⟨((x.tmod m + m) % m).toNat, by omega, by rw [h3]; omega, h1, h2⟩

theorem arZ (w m q r : Int) (e : m * 1048576 = 1000000 * q + r) (h0 : 0 ≤ r) (h1 : r < 1000000) : (w * 1000000 + m) * 1048576 / 1000000 = w * 1048576 + q := by omega
theorem arN (w m q r : Int) (e : m * 1048576 = 1000000 * q + r) (h0 : 0 < r) (h1 : r < 1000000) : -(w * 1000000 + m) * 1048576 / 1000000 = -(w * 1048576 + q) - 1 := by omega
theorem ar0 (w m q r : Int) (e : m * 1048576 = 1000000 * q + r) (h0 : r = 0) : -(w * 1000000 + m) * 1048576 / 1000000 = -(w * 1048576 + q) := by omega
theorem pushW (W M : Nat) : ((W * 1000000 + M : Nat) : Int) = (W : Int) * 1000000 + (M : Int) := by
  rw [Int.natCast_add, Int.natCast_mul]
  rfl
theorem arith (W M : Nat) (hW : W < 100000) (hM : M < 1000000) : ∃ A C Q : Int, ((W * 1000000 + M : Nat) : Int) * 1048576 / 1000000 = A ∧ -((W * 1000000 + M : Nat) : Int) * 1048576 / 1000000 = C ∧
    Hid (A - (W : Int) * 1048576 = Q ∧ (0 ≤ A ∧ A < 200000000000) ∧ (-200000000000 < C ∧ C ≤ 0) ∧ (0 ≤ Q ∧ Q ≤ 1048576) ∧ decide (0 ≤ Q) = true ∧ decide (Q * 1000000 ≤ (M : Int) * 1048576) = true ∧ decide ((M : Int) * 1048576 < Q * 1000000 + 1000000) = true ∧
      (((C == -A) = true ∧ (Q * 1000000 == (M : Int) * 1048576) = true) ∨ ((C == -A) = false ∧ (C == -A - 1) = true ∧ (Q * 1000000 != (M : Int) * 1048576) = true))) := by
  rw [pushW]
  have w0 : 0 ≤ (W : Int) := by omega
  have w1 : (W : Int) < 100000 := by omega
  have m0 : 0 ≤ (M : Int) := by omega
  have m1 : (M : Int) < 1000000 := by omega
  clear hW hM
  generalize (W : Int) = w at *
  generalize (M : Int) = m at *
  obtain ⟨q, r, e, r0, r1⟩ : ∃ q r : Int, m * 1048576 = 1000000 * q + r ∧ 0 ≤ r ∧ r < 1000000 := ⟨m * 1048576 / 1000000, m * 1048576 % 1000000, by omega, by omega, by omega⟩
  have q0 : 0 ≤ q := by omega
  have q1 : q ≤ 1048576 := by omega
  have c1 := arZ w m q r e r0 r1
  by_cases h : r = 0
  · have c2 := ar0 w m q r e h
    refine ⟨_, _, q, c1, c2, Lib.hid ⟨by omega, ⟨by omega, by omega⟩, ⟨by omega, by omega⟩, ⟨q0, q1⟩, decide_eq_true q0, decide_eq_true (by omega), decide_eq_true (by omega), .inl ⟨beq_iff_eq.2 rfl, beq_iff_eq.2 (by omega)⟩⟩⟩
  · have c2 := arN w m q r e (by omega) r1
    refine ⟨_, _, q, c1, c2, Lib.hid ⟨by omega, ⟨by omega, by omega⟩, ⟨by omega, by omega⟩, ⟨q0, q1⟩, decide_eq_true q0, decide_eq_true (by omega), decide_eq_true (by omega), .inr ⟨beq_eq_false_iff_ne.2 (by omega), beq_iff_eq.2 rfl, bne_iff_ne.2 (by omega)⟩⟩⟩

set_option maxRecDepth 100000 in
set_option maxHeartbeats 4000000 in
theorem walk (x y : Int) (wx : Lit.wf (.int .i64 x)) (wy : Lit.wf (.int .i64 y)) (w : World) :
    Calls Try.prog 5 #[.int .i64 x, .int .i64 y] w fun e w' => e = .returned (.bool true) ∧ Below w.heap.size w w' := by
  obtain ⟨W, hW, eW, x1, x2⟩ := rem_of x 100000 (by omega) (by omega)
  obtain ⟨M, hM, eM, y1, y2⟩ := rem_of y 1000000 (by omega) (by omega)
  have DW := ds_spec 4 W (by omega)
  obtain ⟨s7, PF⟩ := frac hM
  have PT := PF W _ DW
  have LW := fun w => Lib.hid (ldig_c 4 W (by omega) (by omega) w)
  have LR := fun w => Lib.hid (ldig_c 6 (1000000 + M) (by omega) (by omega) w)
  have pM : ((1000000 + M : Nat) : Int) = 1000000 + (M : Int) := by rw [Int.natCast_add]; rfl
  rw [pM] at LR
  clear pM
  have aw := DW.most
  have t6 := PT.t6
  have pv := PT.pos
  have mv := PT.min
  have wv := whole_ok DW
  have nv : wn (dsF 4 W) = true ∧ va (dsF 4 W) (dsF 4 W).size = W := ⟨DW.wn (by omega), DW.val⟩
  generalize dsF 4 W = a at *
  generalize dsF 6 (1000000 + M) = R at *
  have TX : Hid (R.extract 1 R.size = R.extract 1 R.size) := Lib.hid rfl
  have SA := fun w => Lib.hid (Seconds_c (a ++ dot ++ R.extract 1 R.size) w (by rw [ByteArray.size_append, ByteArray.size_append]; show a.size + 1 + _ ≤ _; omega))
  have SB := fun w => Lib.hid (Seconds_c a w (by omega))
  have SC := fun w => Lib.hid (Seconds_c (dash ++ a ++ dot ++ R.extract 1 R.size) w (by rw [ByteArray.size_append, ByteArray.size_append, ByteArray.size_append]; show 1 + a.size + 1 + _ ≤ _; omega))
  have NC := fun w => Lib.hid (Number_c a w (by omega))
  rw [pv.1, pv.2] at SA
  rw [wv.1, wv.2] at SB
  rw [mv.1, mv.2] at SC
  rw [nv.1, nv.2] at NC
  simp only [if_true] at SA SB SC NC
  rw [s7] at SA SC
  unfold dot at SA SC
  unfold dash at SC
  clear pv mv wv nv PT PF DW
  obtain ⟨A, C, Q, hA, hC, HEND⟩ := arith W M hW hM
  rw [hA] at SA
  rw [hC] at SC
  clear hA hC
  rw [s7] at t6
  have sT : (R.extract 1 7).size = 6 := t6
  have r1 : (1 : Int) ≤ (R.size : Int) := by omega
  have z46 : (⟨#[46]⟩ : ByteArray).size = 1 := rfl
  have z45 : (⟨#[45]⟩ : ByteArray).size = 1 := rfl
  have mx : ((x.tmod 100000 + 100000).tmod 100000) = (W : Int) := eW
  have my : ((y.tmod 1000000 + 1000000).tmod 1000000) = (M : Int) := eM
  have x1' : -100000 < x.tmod 100000 := x1
  have x2' : x.tmod 100000 < 100000 := x2
  have y1' : -1000000 < y.tmod 1000000 := y1
  have y2' : y.tmod 1000000 < 1000000 := y2
  clear eW eM x1 x2 y1 y2
  go_enter Try.func5, Try.ntmps5
  go_wp2_with fail
  refine (awake7_c _).mono ?_
  rintro e w1 ⟨rfl, hb⟩
  have B1 := Lib.hid hb
  clear hb
  go_wp2_with fail
  refine (LW w1).out.mono ?_
  rintro e w2 ⟨rfl, hb⟩
  have B2 := Lib.hid (B1.out.trans (hb.mono B1.out.size))
  clear hb LW
  clear mx my x1' x2' y1' y2'
  go_wp2_with fail
  refine (LR w2).out.mono ?_
  rintro e w3 ⟨rfl, hb⟩
  have B3 := Lib.hid (B2.out.trans (hb.mono B2.out.size))
  clear hb LR
  go_wp2_with fail

  refine (SA w3).out.mono ?_
  rintro e w4 ⟨rfl, hb⟩
  have B4 := Lib.hid (B3.out.trans (hb.mono B3.out.size))
  clear hb
  go_wp2_with fail
  refine (SB w4).out.mono ?_
  rintro e w5 ⟨rfl, hb⟩
  have B5 := Lib.hid (B4.out.trans (hb.mono B4.out.size))
  clear hb
  go_wp2_with fail
  refine (SC w5).out.mono ?_
  rintro e w6 ⟨rfl, hb⟩
  have B6 := Lib.hid (B5.out.trans (hb.mono B5.out.size))
  clear hb
  go_wp2_with fail
  refine (NC w6).out.mono ?_
  rintro e w7 ⟨rfl, hb⟩
  have B7 := Lib.hid (B6.out.trans (hb.mono B6.out.size))
  clear hb
  obtain ⟨eA, ⟨a1, a2⟩, ⟨c1, c2⟩, ⟨q1, q2⟩, t1, t2, t3, KK⟩ := HEND.out
  rcases KK with ⟨t4, t5⟩ | ⟨t4, t5, t6⟩
  · go_wp2_with fail
    go_ret
    exact ⟨rfl, B7.out⟩
  · go_wp2_with fail
    go_ret
    exact ⟨rfl, B7.out⟩

set_option maxRecDepth 100000 in
theorem lifted (os : Os) (started : os.Started) (H : Type) (enc : TypeId × Value → H) :
    ReturnsInHanded {} Try.checked os 5 .any (Rows.wordsPartsSpec.pre6 enc Try.prog Try.f5 Rows.wordsPartsRow.domain false) (Rows.wordsPartsSpec.post enc Try.prog Try.f5 false true false false) := by
  refine returnsInHanded_of_change (C := Try.checked) own started (by kernel_rfl) Try.func5
    (ChangeSpec.witness6 (enc := enc) (C := Try.checked) false ⟨#[], #[.int .i64 0, .int .i64 0], []⟩ 8 (by kernel_rfl) (by kernel_rfl) (by kernel_rfl) (by kernel_rfl)) ?_
  intro W base args ds gs before hval0 hW hcnd _
  have hval : ∀ (j : Nat) t v, Try.f5.params[j]? = some t → args[j]? = some v → Value.okWide Try.prog W .any base t v := hval0
  have hW' := hW
  obtain ⟨p, q, hA0, hV, rfl, hfz, hnd⟩ := hW
  have hA : DataW.TrodAll enc Try.prog W 0 (fun _ => true) true Try.f5.params.toList args.toList ds p := hA0
  rw [Try.params5] at hA hval
  obtain ⟨v0, vs0, d0, ds0, p0, q0, hargs, rfl, rfl, h0, r0⟩ := trodAll_cons hA
  obtain ⟨v1, vs1, d1, ds1, p1, q1, rfl, rfl, rfl, h1, r1⟩ := trodAll_cons r0
  obtain ⟨rfl, rfl, rfl⟩ := trodAll_nil r1
  obtain rfl : args = #[v0, v1] := by cases args; simp_all
  obtain ⟨rfl, rfl⟩ := trodVars_none hV
  obtain ⟨a0, rfl, rfl, rfl, w0⟩ := open_int Try.underlying3 (hval 0 3 v0 rfl rfl) h0
  obtain ⟨a1, rfl, rfl, rfl, w1⟩ := open_int Try.underlying3 (hval 1 3 v1 rfl rfl) h1
  clear hA0 hval0
  simp only [List.append_nil] at hW'
  refine (walk a0 a1 w0 w1 W ).mono fun e W' ⟨he, hg⟩ => ?_
  subst he
  exact ⟨_, rfl, _, _, _, [], _, [], hW', trodAll_cons_mk (shut_bool Try.underlying4 _) trodAll_mk0,
    (trodAll_cons_mk (shut_int Try.underlying3 w0) (trodAll_cons_mk (shut_int Try.underlying3 w1) trodAll_mk0)), rfl, hg.frame _, fun h => nomatch h⟩

theorem over : Rows.wordsPartsRow.holds Try.pinned (OpenSpec.ofChange Rows.wordsPartsSpec) :=
  OpenClaim.holds_of_wide 5 Try.f5 rfl rfl rfl rfl rfl rfl rfl ⟨rfl, rfl, rfl, rfl, rfl⟩ rfl rfl rfl rfl rfl (by kernel_rfl) Try.func5 (by kernel_rfl)
    (of_decide_eq_true (by kernel_rfl)) (by unfold Func.isWrapper; first | (rw [if_pos (by decide +kernel)]; kernel_rfl) | (rw [if_neg (by decide +kernel)]; exact ⟨rfl, rfl⟩))
    (fun os started H enc _ => lifted os started H enc)

theorem proved : Rows.WordsPartsSaid :=
  over
end Go.Proofs.Ythlmjfjkjjoimaa.wordsParts
