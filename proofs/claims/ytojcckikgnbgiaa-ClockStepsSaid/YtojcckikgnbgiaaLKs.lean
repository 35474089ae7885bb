/-
  ClockSteps: An unset clock takes any offset at once, a set one only when it has stood for three hundred seconds. The law returns true for every input, and the input reads as it did.
  Conditions: none.
-/
import Derived.Test.YtojcckikgnbgiaaRows
import Derived.Test.YtojcckikgnbgiaaCkC
import Derived.Test.YtojcckikgnbgiaaCkZ
import Derived.SizedLaws
import Derived.Lib.SmallJoins
namespace Go.Proofs.Ytojcckikgnbgiaa.clockSteps
open Go.ChangeShapes Go.WideShapes Go.ChangeAt Go.RowKit Go.Joins Fl Ck
set_option linter.unusedVariables false
set_option linter.unusedSimpArgs false

theorem own : ownKnob Try.prog.godebug = none := by kernel_rfl
theorem laidOut : laidOutB Try.prog = true := by kernel_rfl

theorem xx00 {d : Int} (h : 0 ≤ d) : xx 0 0 d = 0 := by
  unfold xx gg slw
  rw [if_neg (by omega), Int.mul_zero, Int.min_eq_right (by omega)]
  rfl
theorem rd0 {b a l s st r : Int} (h : a ≤ r) (h' : r - a ≤ 1099511627776) : rdO ⟨b, a, 0, l, s, 0, st⟩ r ∧ rdV ⟨b, a, 0, l, s, 0, st⟩ r = b + (r - a) := by
  refine ⟨⟨h, h'⟩, ?_⟩
  show b + (r - a) + xx 0 0 (r - a) = _
  rw [xx00 (by omega), Int.add_zero]
theorem re0 {b a l s st r x : Int} (h : a ≤ r) (h' : r - a ≤ 1099511627776) (e : b + (r - a) = x) : rdE ⟨b, a, 0, l, s, 0, st⟩ r = .returned (.tuple #[.int .i64 x, .int .i64 0]) := by
  obtain ⟨p, q⟩ := rd0 (b := b) (l := l) (s := s) (st := st) h h'
  unfold rdE rdA
  rw [if_pos p, q, e]
theorem u1 {b r o : Int} (h : 0 ≤ r ∧ r ≤ 1099511627776) (ho : -68719476736 ≤ o ∧ o ≤ 68719476736) (hb : -1152921504606846976 ≤ b + r + o ∧ b + r + o ≤ 1152921504606846976) : Ck.upd (new 0 b 0) r o = (⟨b + r + o, r, 0, r, 0, 0, 1⟩, 1, 0) := by
  obtain ⟨p, q⟩ := rd0 (b := b) (a := 0) (l := 0) (s := 0) (st := 0) (r := r) h.1 (by omega)
  unfold Ck.upd new
  rw [if_neg (fun z => z p), if_neg (by omega), if_pos rfl, q]
  unfold stp bnd
  simp only
  rw [show min (max (b + (r - 0) + o) (-2305843009213693952)) 2305843009213693952 = b + r + o by omega]
theorem u2 {b a l s r o : Int} (h : a ≤ r) (h' : r - a ≤ 1099511627776) (ho : 134218 ≤ o ∧ o ≤ 68719476736) : Ck.upd ⟨b, a, 0, l, s, 0, 1⟩ r o = (⟨b, a, 0, l, r, 0, 2⟩, 2, 0) := by
  obtain ⟨p, q⟩ := rd0 (b := b) (l := l) (s := s) (st := 1) h h'
  unfold Ck.upd
  rw [if_neg (fun z => z p), if_neg (by omega), if_neg (show ¬ (1 : Int) = 0 by decide), if_neg (by omega), if_pos rfl]
theorem u3 {b a l s r o : Int} (h : a ≤ r) (h' : r - a ≤ 1099511627776) (ho : 134218 ≤ o ∧ o ≤ 68719476736) (hs : r - s < 314572800) : Ck.upd ⟨b, a, 0, l, s, 0, 2⟩ r o = (⟨b, a, 0, l, s, 0, 2⟩, 2, 0) := by
  obtain ⟨p, q⟩ := rd0 (b := b) (l := l) (s := s) (st := 2) h h'
  unfold Ck.upd
  rw [if_neg (fun z => z p), if_neg (by omega), if_neg (show ¬ (2 : Int) = 0 by decide), if_neg (by omega), if_neg (show ¬ (2 : Int) = 1 by decide), if_pos hs]
theorem u4 {b a l s r o x : Int} (h : a ≤ r) (h' : r - a ≤ 1099511627776) (ho : 134218 ≤ o ∧ o ≤ 68719476736) (hs : ¬ r - s < 314572800) (e : b + (r - a) + o = x) (hx : -1152921504606846976 ≤ x ∧ x ≤ 1152921504606846976) : Ck.upd ⟨b, a, 0, l, s, 0, 2⟩ r o = (⟨x, r, 0, r, s, 0, 1⟩, 1, 0) := by
  obtain ⟨p, q⟩ := rd0 (b := b) (l := l) (s := s) (st := 2) h h'
  unfold Ck.upd
  rw [if_neg (fun z => z p), if_neg (by omega), if_neg (show ¬ (2 : Int) = 0 by decide), if_neg (by omega), if_neg (show ¬ (2 : Int) = 1 by decide), if_neg hs, q]
  unfold stp bnd
  simp only
  rw [e, show min (max x (-2305843009213693952)) 2305843009213693952 = x by omega]
theorem rem_in (x M : Int) (h : 0 < M) (hM : M ≤ 1152921504606846976) : ∃ q r, x.tmod M = q ∧ IntKind.i64.wrap q = q ∧ IntKind.i64.wrap (q + M) = q + M ∧ (q + M).tmod M = r ∧ IntKind.i64.wrap r = r ∧ 0 ≤ r ∧ r < M ∧ -M < q ∧ q < M := by
  have a1 := Int.tmod_lt_of_pos x h
  have a2 := Int.lt_tmod_of_pos x h
  have b1 := Int.tmod_nonneg M (show 0 ≤ x.tmod M + M by omega)
  have b2 := Int.tmod_lt_of_pos (x.tmod M + M) h
  exact ⟨_, _, rfl, wrap_in (by omega) (by omega), wrap_in (by omega) (by omega), rfl, wrap_in (by omega) (by omega), b1, b2, by omega, by omega⟩
set_option maxRecDepth 100000 in
set_option maxHeartbeats 8000000 in
theorem walk {K : World → Addr → (Nat → Prop) → Clk → Prop} (pc : PC K) (oo bb ww : Int) (w : World) (g0 : Lit.wf (.int .i64 oo) = true) (g1 : Lit.wf (.int .i64 bb) = true) (g2 : Lit.wf (.int .i64 ww) = true) :
    Calls Try.prog 5 #[.int .i64 oo, .int .i64 bb, .int .i64 ww] w fun e w' => e = .returned (.bool true) ∧ Below w.heap.size w w' := by
  have AW := Lib.hid (awake17_c pc)
  have e0 : newE 0 1125899906842624 0 = 0 := by decide
  obtain ⟨o, _, ho, ho2, _, _, _, _, _, o1, o2⟩ := rem_in oo 68719476736 (by decide) (by decide)
  obtain ⟨qb, rb, hb1, hb2, hb3, hb4, hb5, b1, b2, _, _⟩ := rem_in bb 1073741824 (by decide) (by decide)
  obtain ⟨qw, t, hw1, hw2, hw3, hw4, hw5, t1, t2, _, _⟩ := rem_in ww 629145600 (by decide) (by decide)
  obtain ⟨big, hbig⟩ : ∃ x, 134218 + rb = x := ⟨_, rfl⟩
  have wbig : IntKind.i64.wrap big = big := wrap_in (by omega) (by omega)
  obtain ⟨at', hat⟩ : ∃ x, 5243880 + t = x := ⟨_, rfl⟩
  have wat : IntKind.i64.wrap at' = at' := wrap_in (by omega) (by omega)
  obtain ⟨x1, hx1⟩ : ∃ x, 1125899906843624 + o = x := ⟨_, rfl⟩
  have wx1 : IntKind.i64.wrap x1 = x1 := wrap_in (by omega) (by omega)
  obtain ⟨was, hwas⟩ : ∃ x, x1 + (at' - 1000) = x := ⟨_, rfl⟩
  obtain ⟨now, hnow⟩ : ∃ x, was + big = x := ⟨_, rfl⟩
  have wnow : IntKind.i64.wrap now = now := wrap_in (by omega) (by omega)
  have i0 := new_in e0
  have q1 : Ck.upd (new 0 1125899906842624 0) 1000 o = (⟨x1, 1000, 0, 1000, 0, 0, 1⟩, 1, 0) := by rw [u1 (by omega) (by omega) (by omega), show (1125899906842624 : Int) + 1000 + o = x1 by omega]
  have i1 := i0.upd (by decide) 1000 o
  rw [q1] at i1
  have q2 : Ck.upd ⟨x1, 1000, 0, 1000, 0, 0, 1⟩ 5243880 big = (⟨x1, 1000, 0, 1000, 5243880, 0, 2⟩, 2, 0) := u2 (by omega) (by omega) (by omega)
  have i2 := i1.upd (by decide) 5243880 big
  rw [q2] at i2
  have PN := Lib.hid (fun w => pc.new w 0 1125899906842624 0 e0)
  have R0 := Lib.hid (fun w a X (h : K w a X (new 0 1125899906842624 0)) => pc.read w a X _ 0 1000 h (by decide) i0 (by decide))
  have U1 := Lib.hid (fun w a X (h : K w a X (new 0 1125899906842624 0)) => pc.upd w a X _ 0 1000 o h (by decide) i0 (by decide) (by omega))
  have R1 := Lib.hid (fun w a X (h : K w a X ⟨x1, 1000, 0, 1000, 0, 0, 1⟩) => pc.read w a X _ 1 1000 h (by decide) i1 (by decide))
  have S1 := Lib.hid (fun w a X (h : K w a X ⟨x1, 1000, 0, 1000, 0, 0, 1⟩) => pc.spik w a X _ 1 h i1)
  have U2 := Lib.hid (fun w a X (h : K w a X ⟨x1, 1000, 0, 1000, 0, 0, 1⟩) => pc.upd w a X _ 1 5243880 big h (by decide) i1 (by decide) (by omega))
  have S2 := Lib.hid (fun w a X (h : K w a X ⟨x1, 1000, 0, 1000, 5243880, 0, 2⟩) => pc.spik w a X _ 2 h i2)
  have R2 := Lib.hid (fun w a X (h : K w a X ⟨x1, 1000, 0, 1000, 5243880, 0, 2⟩) => pc.read w a X _ 2 at' h (by decide) i2 (by omega))
  have U3 := Lib.hid (fun w a X (h : K w a X ⟨x1, 1000, 0, 1000, 5243880, 0, 2⟩) => pc.upd w a X _ 2 at' big h (by decide) i2 (by omega) (by omega))
  have KP := Lib.hid (fun w w' a X c (h : K w a X c) (q : Below w.heap.size w w') => pc.keep w w' a X (fun _ => False) c h (tu_below q) (fun _ _ z => z))
  have XL := Lib.hid (fun w a X c (h : K w a X c) => pc.size w a X c h)
  have r0 : rdE (new 0 1125899906842624 0) 1000 = .returned (.tuple #[.int .i64 1125899906843624, .int .i64 0]) := by rfl
  have r1 : rdE ⟨x1, 1000, 0, 1000, 0, 0, 1⟩ 1000 = .returned (.tuple #[.int .i64 x1, .int .i64 0]) := re0 (by omega) (by omega) (by omega)
  have r2 : rdE ⟨x1, 1000, 0, 1000, 5243880, 0, 2⟩ at' = .returned (.tuple #[.int .i64 was, .int .i64 0]) := re0 (by omega) (by omega) hwas
  unfold udE at U1 U2 U3
  rw [q1] at U1
  rw [q2] at U2
  rw [r0] at R0
  rw [r1] at R1
  rw [r2] at R2
  simp only at U1 U2 S1 S2
  by_cases c : t < 314572800
  · have d := decide_eq_true c
    have q3 : Ck.upd ⟨x1, 1000, 0, 1000, 5243880, 0, 2⟩ at' big = (⟨x1, 1000, 0, 1000, 5243880, 0, 2⟩, 2, 0) := u3 (by omega) (by omega) (by omega) (by omega)
    have R3 := R2
    have S3 := S2
    rw [q3] at U3
    simp only at U3
    clear pc e0 i0 i1 i2 q1 q2 q3 r0 r1 r2 g0 g1 g2 hwas XL
    go_enter Try.func5, Try.ntmps5
    go_wp2_with fail
    refine (AW.out _).mono ?_
    rintro e w1 ⟨rfl, hb⟩
    have B1 := Lib.hid hb
    clear hb AW
    go_wp2_with fail
    refine (PN.out _).mono ?_
    rintro e w2 ⟨⟨a, X2, rfl, hk, hx⟩, hb⟩
    have B2 := Lib.hid (bstep B1.out hb)
    have K2 := Lib.hid hk
    have XN : Hid (∀ i, X2 i → w.heap.size ≤ i) := Lib.hid (fun i hi => by have := hx i hi; have := B1.out.size; omega)
    clear hb hk hx B1 PN
    go_wp2_with fail
    refine (R0.out _ _ _ K2.out).mono ?_
    rintro e w3 ⟨rfl, hb⟩
    have B3 := Lib.hid (bstep B2.out hb)
    have K3 := Lib.hid (KP.out _ _ _ _ _ K2.out hb)
    clear hb B2 K2
    go_wp2_with fail
    refine (U1.out _ _ _ K3.out).mono ?_
    rintro e w4 ⟨⟨rfl, X4, hk, hx⟩, ht⟩
    have hbx := ht.below XN.out (B3.out.size)
    have B4 : Hid (Below w.heap.size w w4) := Lib.hid (B3.out.trans hbx)
    have XM : Hid (∀ i, X4 i → w.heap.size ≤ i) := Lib.hid (fun i hi => by rcases hx i hi with q | q; exact XN.out i q; have := B3.out.size; omega)
    clear XN
    have XN := XM
    have K4 := Lib.hid hk
    clear hk hx ht hbx B3 K3 XM
    go_wp2_with fail
    refine (R1.out _ _ _ K4.out).mono ?_
    rintro e w5 ⟨rfl, hb⟩
    have B5 := Lib.hid (bstep B4.out hb)
    have K5 := Lib.hid (KP.out _ _ _ _ _ K4.out hb)
    clear hb B4 K4
    go_wp2_with fail
    refine (S1.out _ _ _ K5.out).mono ?_
    rintro e w6 ⟨rfl, hb⟩
    have B6 := Lib.hid (bstep B5.out hb)
    have K6 := Lib.hid (KP.out _ _ _ _ _ K5.out hb)
    clear hb B5 K5
    go_wp2_with fail
    refine (U2.out _ _ _ K6.out).mono ?_
    rintro e w7 ⟨⟨rfl, X7, hk, hx⟩, ht⟩
    have hbx := ht.below XN.out (B6.out.size)
    have B7 : Hid (Below w.heap.size w w7) := Lib.hid (B6.out.trans hbx)
    have XM : Hid (∀ i, X7 i → w.heap.size ≤ i) := Lib.hid (fun i hi => by rcases hx i hi with q | q; exact XN.out i q; have := B6.out.size; omega)
    clear XN
    have XN := XM
    have K7 := Lib.hid hk
    clear hk hx ht hbx B6 K6 XM
    go_wp2_with fail
    refine (S2.out _ _ _ K7.out).mono ?_
    rintro e w8 ⟨rfl, hb⟩
    have B8 := Lib.hid (bstep B7.out hb)
    have K8 := Lib.hid (KP.out _ _ _ _ _ K7.out hb)
    clear hb B7 K7
    go_wp2_with fail
    refine (R2.out _ _ _ K8.out).mono ?_
    rintro e w9 ⟨rfl, hb⟩
    have B9 := Lib.hid (bstep B8.out hb)
    have K9 := Lib.hid (KP.out _ _ _ _ _ K8.out hb)
    clear hb B8 K8
    go_wp2_with fail
    refine (U3.out _ _ _ K9.out).mono ?_
    rintro e w10 ⟨⟨rfl, X10, hk, hx⟩, ht⟩
    have hbx := ht.below XN.out (B9.out.size)
    have B10 : Hid (Below w.heap.size w w10) := Lib.hid (B9.out.trans hbx)
    have XM : Hid (∀ i, X10 i → w.heap.size ≤ i) := Lib.hid (fun i hi => by rcases hx i hi with q | q; exact XN.out i q; have := B9.out.size; omega)
    clear XN
    have XN := XM
    have K10 := Lib.hid hk
    clear hk hx ht hbx B9 K9 XM
    go_wp2_with fail
    refine (R3.out _ _ _ K10.out).mono ?_
    rintro e w11 ⟨rfl, hb⟩
    have B11 := Lib.hid (bstep B10.out hb)
    have K11 := Lib.hid (KP.out _ _ _ _ _ K10.out hb)
    clear hb B10 K10
    go_wp2_with fail
    refine (S3.out _ _ _ K11.out).mono ?_
    rintro e w12 ⟨rfl, hb⟩
    have B12 := Lib.hid (bstep B11.out hb)
    have K12 := Lib.hid (KP.out _ _ _ _ _ K11.out hb)
    clear hb B11 K11
    go_wp2_with fail
    go_ret
    exact ⟨rfl, B12.out⟩
  · have d := decide_eq_false c
    have q3 : Ck.upd ⟨x1, 1000, 0, 1000, 5243880, 0, 2⟩ at' big = (⟨now, at', 0, at', 5243880, 0, 1⟩, 1, 0) := u4 (by omega) (by omega) (by omega) (by omega) (by omega) (by omega)
    have i3 := i2.upd (by decide) at' big
    rw [q3] at i3
    have R3 := Lib.hid (fun w a X (h : K w a X ⟨now, at', 0, at', 5243880, 0, 1⟩) => pc.read w a X _ 3 at' h (by decide) i3 (by omega))
    have S3 := Lib.hid (fun w a X (h : K w a X ⟨now, at', 0, at', 5243880, 0, 1⟩) => pc.spik w a X _ 3 h i3)
    rw [show rdE ⟨now, at', 0, at', 5243880, 0, 1⟩ at' = .returned (.tuple #[.int .i64 now, .int .i64 0]) from re0 (by omega) (by omega) (by omega)] at R3
    simp only at S3
    rw [q3] at U3
    simp only at U3
    clear pc e0 i0 i1 i2 q1 q2 q3 r0 r1 r2 g0 g1 g2 hwas XL
    go_enter Try.func5, Try.ntmps5
    go_wp2_with fail
    refine (AW.out _).mono ?_
    rintro e w1 ⟨rfl, hb⟩
    have B1 := Lib.hid hb
    clear hb AW
    go_wp2_with fail
    refine (PN.out _).mono ?_
    rintro e w2 ⟨⟨a, X2, rfl, hk, hx⟩, hb⟩
    have B2 := Lib.hid (bstep B1.out hb)
    have K2 := Lib.hid hk
    have XN : Hid (∀ i, X2 i → w.heap.size ≤ i) := Lib.hid (fun i hi => by have := hx i hi; have := B1.out.size; omega)
    clear hb hk hx B1 PN
    go_wp2_with fail
    refine (R0.out _ _ _ K2.out).mono ?_
    rintro e w3 ⟨rfl, hb⟩
    have B3 := Lib.hid (bstep B2.out hb)
    have K3 := Lib.hid (KP.out _ _ _ _ _ K2.out hb)
    clear hb B2 K2
    go_wp2_with fail
    refine (U1.out _ _ _ K3.out).mono ?_
    rintro e w4 ⟨⟨rfl, X4, hk, hx⟩, ht⟩
    have hbx := ht.below XN.out (B3.out.size)
    have B4 : Hid (Below w.heap.size w w4) := Lib.hid (B3.out.trans hbx)
    have XM : Hid (∀ i, X4 i → w.heap.size ≤ i) := Lib.hid (fun i hi => by rcases hx i hi with q | q; exact XN.out i q; have := B3.out.size; omega)
    clear XN
    have XN := XM
    have K4 := Lib.hid hk
    clear hk hx ht hbx B3 K3 XM
    go_wp2_with fail
    refine (R1.out _ _ _ K4.out).mono ?_
    rintro e w5 ⟨rfl, hb⟩
    have B5 := Lib.hid (bstep B4.out hb)
    have K5 := Lib.hid (KP.out _ _ _ _ _ K4.out hb)
    clear hb B4 K4
    go_wp2_with fail
    refine (S1.out _ _ _ K5.out).mono ?_
    rintro e w6 ⟨rfl, hb⟩
    have B6 := Lib.hid (bstep B5.out hb)
    have K6 := Lib.hid (KP.out _ _ _ _ _ K5.out hb)
    clear hb B5 K5
    go_wp2_with fail
    refine (U2.out _ _ _ K6.out).mono ?_
    rintro e w7 ⟨⟨rfl, X7, hk, hx⟩, ht⟩
    have hbx := ht.below XN.out (B6.out.size)
    have B7 : Hid (Below w.heap.size w w7) := Lib.hid (B6.out.trans hbx)
    have XM : Hid (∀ i, X7 i → w.heap.size ≤ i) := Lib.hid (fun i hi => by rcases hx i hi with q | q; exact XN.out i q; have := B6.out.size; omega)
    clear XN
    have XN := XM
    have K7 := Lib.hid hk
    clear hk hx ht hbx B6 K6 XM
    go_wp2_with fail
    refine (S2.out _ _ _ K7.out).mono ?_
    rintro e w8 ⟨rfl, hb⟩
    have B8 := Lib.hid (bstep B7.out hb)
    have K8 := Lib.hid (KP.out _ _ _ _ _ K7.out hb)
    clear hb B7 K7
    go_wp2_with fail
    refine (R2.out _ _ _ K8.out).mono ?_
    rintro e w9 ⟨rfl, hb⟩
    have B9 := Lib.hid (bstep B8.out hb)
    have K9 := Lib.hid (KP.out _ _ _ _ _ K8.out hb)
    clear hb B8 K8
    go_wp2_with fail
    refine (U3.out _ _ _ K9.out).mono ?_
    rintro e w10 ⟨⟨rfl, X10, hk, hx⟩, ht⟩
    have hbx := ht.below XN.out (B9.out.size)
    have B10 : Hid (Below w.heap.size w w10) := Lib.hid (B9.out.trans hbx)
    have XM : Hid (∀ i, X10 i → w.heap.size ≤ i) := Lib.hid (fun i hi => by rcases hx i hi with q | q; exact XN.out i q; have := B9.out.size; omega)
    clear XN
    have XN := XM
    have K10 := Lib.hid hk
    clear hk hx ht hbx B9 K9 XM
    go_wp2_with fail
    refine (R3.out _ _ _ K10.out).mono ?_
    rintro e w11 ⟨rfl, hb⟩
    have B11 := Lib.hid (bstep B10.out hb)
    have K11 := Lib.hid (KP.out _ _ _ _ _ K10.out hb)
    clear hb B10 K10
    go_wp2_with fail
    refine (S3.out _ _ _ K11.out).mono ?_
    rintro e w12 ⟨rfl, hb⟩
    have B12 := Lib.hid (bstep B11.out hb)
    have K12 := Lib.hid (KP.out _ _ _ _ _ K11.out hb)
    clear hb B11 K11
    go_wp2_with fail
    go_ret
    exact ⟨rfl, B12.out⟩
set_option maxRecDepth 100000 in
theorem lifted (os : Os) (started : os.Started) (H : Type) (enc : TypeId × Value → H) :
    ReturnsInHanded {} Try.checked os 5 .any (Rows.clockStepsSpec.pre6 enc Try.prog Try.f5 Rows.clockStepsRow.domain false) (Rows.clockStepsSpec.post enc Try.prog Try.f5 false true false false) := by
  refine returnsInHanded_of_change_sized (C := Try.checked) own started (by kernel_rfl) Try.func5
    (ChangeSpec.witness6 (enc := enc) (C := Try.checked) false ⟨#[], #[.int .i64 0, .int .i64 0, .int .i64 0], []⟩ 8 (by kernel_rfl) (by kernel_rfl) (by kernel_rfl) (by kernel_rfl)) ?_
  intro W base args ds gs before hval0 hW hcnd hsz0 _
  have hsz : (DataW.weightsEach Try.prog (Try.f5.params.toList ++ Rows.clockStepsSpec.plain.varTypes Try.prog) (ds ++ gs)).all (· ≤ reachBytes) = true := hsz0
  have hval : ∀ (j : Nat) t v, Try.f5.params[j]? = some t → args[j]? = some v → Value.okWide Try.prog W .any base t v := hval0
  have hW' := hW
  obtain ⟨p, q, hA0, hV, rfl, hfz, hnd⟩ := hW
  have hA : DataW.TrodAll enc Try.prog W 0 (fun _ => true) true Try.f5.params.toList args.toList ds p := hA0
  rw [Try.params5] at hA hval hsz
  obtain ⟨v0, vs0, d0, ds0, p0, q0, hargs, rfl, rfl, h0, r0⟩ := trodAll_cons hA
  obtain ⟨v1, vs1, d1, ds1, p1, q1, rfl, rfl, rfl, h1, r1⟩ := trodAll_cons r0
  obtain ⟨v2, vs2, d2, ds2, p2, q2, rfl, rfl, rfl, h2, r2⟩ := trodAll_cons r1
  obtain ⟨rfl, rfl, rfl⟩ := trodAll_nil r2
  obtain rfl : args = #[v0, v1, v2] := by cases args; simp_all
  obtain ⟨rfl, rfl⟩ := trodVars_none hV
  have h0k := h0
  have hlt0 : ∀ x ∈ p0, x.block < W.heap.size := fun x hx => by have := hW'.lt x (by simp [hx]); simpa using this
  have h1k := h1
  have hlt1 : ∀ x ∈ p1, x.block < W.heap.size := fun x hx => by have := hW'.lt x (by simp [hx]); simpa using this
  have h2k := h2
  have hlt2 : ∀ x ∈ p2, x.block < W.heap.size := fun x hx => by have := hW'.lt x (by simp [hx]); simpa using this
  obtain ⟨z0, rfl, _, _, g0⟩ := open_int Try.underlying22 (hval 0 22 v0 rfl rfl) h0
  obtain ⟨z1, rfl, _, _, g1⟩ := open_int Try.underlying22 (hval 1 22 v1 rfl rfl) h1
  obtain ⟨z2, rfl, _, _, g2⟩ := open_int Try.underlying22 (hval 2 22 v2 rfl rfl) h2
  clear hA0 hval0
  simp only [List.append_nil] at hW'
  refine (walk pc z0 z1 z2 W g0 g1 g2).mono fun e W' ⟨he, hg⟩ => ?_
  subst he
  exact ⟨_, rfl, _, _, _, [], _, [], hW', trodAll_cons_mk (shut_bool Try.underlying4 _) trodAll_mk0,
    (trodAll_cons_mk (Below.trod laidOut (by kernel_rfl) (of_decide_eq_true (by kernel_rfl)) h0k hg hlt0) (trodAll_cons_mk (Below.trod laidOut (by kernel_rfl) (of_decide_eq_true (by kernel_rfl)) h1k hg hlt1) (trodAll_cons_mk (Below.trod laidOut (by kernel_rfl) (of_decide_eq_true (by kernel_rfl)) h2k hg hlt2) trodAll_mk0))), rfl, hg.frame _, fun h => nomatch h⟩

theorem over : Rows.clockStepsRow.holds Try.pinned (OpenSpec.ofChange Rows.clockStepsSpec) :=
  OpenClaim.holds_of_wide 5 Try.f5 rfl rfl rfl rfl rfl rfl rfl ⟨rfl, rfl, rfl, rfl, rfl⟩ rfl rfl rfl rfl rfl (by kernel_rfl) Try.func5 (by kernel_rfl)
    (of_decide_eq_true (by kernel_rfl)) (by unfold Func.isWrapper; first | (rw [if_pos (by decide +kernel)]; kernel_rfl) | (rw [if_neg (by decide +kernel)]; exact ⟨rfl, rfl⟩))
    (fun os started H enc _ => lifted os started H enc)

theorem proved : Rows.ClockStepsSaid :=
  over
end Go.Proofs.Ytojcckikgnbgiaa.clockSteps
