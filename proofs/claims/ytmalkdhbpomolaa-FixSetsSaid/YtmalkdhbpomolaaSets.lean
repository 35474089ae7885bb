/-
  FixSets: Meet and Cover agree with what times a span has: the law returns true for every input, and the input reads as it did.
  Conditions: none.
-/
import Derived.Test.YtmalkdhbpomolaaRows
import Derived.Test.YtmalkdhbpomolaaFxW
import Derived.Test.YtmalkdhbpomolaaFxM
import Derived.Test.YtmalkdhbpomolaaSpan
import Derived.ProofKit
import Derived.OpenShut
import Derived.Lib.SmallJoins
namespace Go.Proofs.Ytmalkdhbpomolaa.fixSets
open Go.ChangeShapes Go.WideShapes Go.ChangeAt Go.RowKit Go.Joins Fx
set_option linter.unusedVariables false

theorem own : ownKnob Try.prog.godebug = none := by kernel_rfl

theorem bnd_mono (a b : Int) (h : a ≤ b) : bnd a ≤ bnd b := by
  unfold bnd
  (repeat' split) <;> omega
theorem bnd_rng (a : Int) : -2305843009213693952 ≤ bnd a ∧ bnd a ≤ 2305843009213693952 := by
  unfold bnd
  (repeat' split) <;> omega
theorem shift_has (al ah t d : Int) (h1 : al ≤ t) (h2 : t ≤ ah) : shl al d ≤ bnd (t + d) ∧ bnd (t + d) ≤ shh ah d := by
  have r := bnd_rng (t + d)
  have m1 := bnd_mono (al + d) (t + d) (by omega)
  have m2 := bnd_mono (t + d) (ah + d) (by omega)
  unfold shl shh
  (repeat' split) <;> omega

set_option maxRecDepth 100000 in
set_option maxHeartbeats 4000000 in
theorem walk_yy_ok (al ah bl bh t d : Int) (w : World) (A : Hid (okS al ah)) (B : Hid (okS bl bh)) (ha : Hid (al ≤ t ∧ t ≤ ah)) (hbb : Hid (bl ≤ t ∧ t ≤ bh)) (M : Hid (max al bl ≤ min ah bh)) :
    Calls Try.prog 8 #[.agg #[.int .i64 al, .int .i64 ah], .agg #[.int .i64 bl, .int .i64 bh], .int .i64 t, .int .i64 d] w fun e w' => e = .returned (.bool true) ∧ Below w.heap.size w w' := by
  have Cc : Hid (okS (min al bl) (max ah bh)) := by have a := A.out; have b := B.out; unfold Hid okS at *; omega
  go_enter Try.func8, Try.ntmps8
  go_wp2_with fail
  have hb : Below w.heap.size w ((w.alloc (.cells #[.int .i64 al, .int .i64 ah] 39)).alloc (.cells #[.int .i64 bl, .int .i64 bh] 39)) := balloc (balloc (brefl w) _) _
  have Sa := (Sp.new w al ah).alloc (.cells #[.int .i64 bl, .int .i64 bh] 39)
  have Sb := Sp.new1 w (.cells #[.int .i64 al, .int .i64 ah] 39) bl bh
  refine (awake_c _).mono ?_
  rintro e w1 ⟨rfl, hb1⟩
  replace Sa := Sa.below hb1
  replace Sb := Sb.below hb1
  obtain ⟨za, ca0, ca1⟩ := id Sa
  obtain ⟨zb, cb0, cb1⟩ := id Sb
  replace hb := bstep hb hb1
  clear hb1
  go_wp2_with fail
  refine (Check_ok _ _ _ A.out).mono ?_
  rintro e w2 ⟨rfl, hb2⟩
  replace Sa := Sa.below hb2
  replace Sb := Sb.below hb2
  clear za ca0 ca1 zb cb0 cb1
  obtain ⟨za, ca0, ca1⟩ := id Sa
  obtain ⟨zb, cb0, cb1⟩ := id Sb
  replace hb := bstep hb hb2
  clear hb2
  go_wp2_with fail
  refine (Check_ok _ _ _ B.out).mono ?_
  rintro e w3 ⟨rfl, hb3⟩
  replace Sa := Sa.below hb3
  replace Sb := Sb.below hb3
  clear za ca0 ca1 zb cb0 cb1
  obtain ⟨za, ca0, ca1⟩ := id Sa
  obtain ⟨zb, cb0, cb1⟩ := id Sb
  replace hb := bstep hb hb3
  clear hb3
  go_wp2_with fail
  refine (Meet_ok _ _ _ _ _ A.out B.out M.out).mono ?_
  rintro e w4 ⟨rfl, hb4⟩
  replace Sa := Sa.below hb4
  replace Sb := Sb.below hb4
  clear za ca0 ca1 zb cb0 cb1
  obtain ⟨za, ca0, ca1⟩ := id Sa
  obtain ⟨zb, cb0, cb1⟩ := id Sb
  replace hb := bstep hb hb4
  clear hb4
  go_wp2_with fail
  refine (Cover_ok _ _ _ _ _ A.out B.out).mono ?_
  rintro e w5 ⟨rfl, hb5⟩
  replace Sa := (Sa.alloc (.cells #[.int .i64 (max al bl), .int .i64 (min ah bh)] 39)).below hb5
  replace Sb := (Sb.alloc (.cells #[.int .i64 (max al bl), .int .i64 (min ah bh)] 39)).below hb5
  have Sm := (Sp.new w4 (max al bl) (min ah bh)).below hb5
  clear za ca0 ca1 zb cb0 cb1
  obtain ⟨za, ca0, ca1⟩ := id Sa
  obtain ⟨zb, cb0, cb1⟩ := id Sb
  obtain ⟨zm, cm0, cm1⟩ := id Sm
  replace hb := bstep (balloc hb (.cells #[.int .i64 (max al bl), .int .i64 (min ah bh)] 39)) hb5
  clear hb5
  go_wp2_with fail
  refine (has_yes _ _ _ _ ha.out).mono ?_
  rintro e w6 ⟨rfl, hb6⟩
  replace Sa := (Sa.alloc (.cells #[.int .i64 (min al bl), .int .i64 (max ah bh)] 39)).below hb6
  replace Sb := (Sb.alloc (.cells #[.int .i64 (min al bl), .int .i64 (max ah bh)] 39)).below hb6
  replace Sm := (Sm.alloc (.cells #[.int .i64 (min al bl), .int .i64 (max ah bh)] 39)).below hb6
  have Sc := (Sp.new w5 (min al bl) (max ah bh)).below hb6
  clear za ca0 ca1 zb cb0 cb1 zm cm0 cm1
  obtain ⟨za, ca0, ca1⟩ := id Sa
  obtain ⟨zb, cb0, cb1⟩ := id Sb
  obtain ⟨zm, cm0, cm1⟩ := id Sm
  obtain ⟨zc, cc0, cc1⟩ := id Sc
  replace hb := bstep (balloc hb (.cells #[.int .i64 (min al bl), .int .i64 (max ah bh)] 39)) hb6
  clear hb6
  go_wp2_with fail
  refine (has_yes _ _ _ _ hbb.out).mono ?_
  rintro e w7 ⟨rfl, hb7⟩
  replace Sa := Sa.below hb7
  replace Sb := Sb.below hb7
  replace Sm := Sm.below hb7
  replace Sc := Sc.below hb7
  clear za ca0 ca1 zb cb0 cb1 zm cm0 cm1 zc cc0 cc1
  obtain ⟨za, ca0, ca1⟩ := id Sa
  obtain ⟨zb, cb0, cb1⟩ := id Sb
  obtain ⟨zm, cm0, cm1⟩ := id Sm
  obtain ⟨zc, cc0, cc1⟩ := id Sc
  replace hb := bstep hb hb7
  clear hb7
  go_wp2_with fail
  refine (has_yes _ _ _ _ ha.out).mono ?_
  rintro e w8 ⟨rfl, hb8⟩
  replace Sa := Sa.below hb8
  replace Sb := Sb.below hb8
  replace Sm := Sm.below hb8
  replace Sc := Sc.below hb8
  clear za ca0 ca1 zb cb0 cb1 zm cm0 cm1 zc cc0 cc1
  obtain ⟨za, ca0, ca1⟩ := id Sa
  obtain ⟨zb, cb0, cb1⟩ := id Sb
  obtain ⟨zm, cm0, cm1⟩ := id Sm
  obtain ⟨zc, cc0, cc1⟩ := id Sc
  replace hb := bstep hb hb8
  clear hb8
  go_wp2_with fail
  refine (has_yes _ _ _ _ (by have := ha.out; omega)).mono ?_
  rintro e w9 ⟨rfl, hb9⟩
  replace Sa := Sa.below hb9
  replace Sb := Sb.below hb9
  replace Sm := Sm.below hb9
  replace Sc := Sc.below hb9
  clear za ca0 ca1 zb cb0 cb1 zm cm0 cm1 zc cc0 cc1
  obtain ⟨za, ca0, ca1⟩ := id Sa
  obtain ⟨zb, cb0, cb1⟩ := id Sb
  obtain ⟨zm, cm0, cm1⟩ := id Sm
  obtain ⟨zc, cc0, cc1⟩ := id Sc
  replace hb := bstep hb hb9
  clear hb9
  go_wp2_with fail
  refine (has_yes _ _ _ _ (by have := ha.out; have := hbb.out; omega)).mono ?_
  rintro e w10 ⟨rfl, hb10⟩
  replace Sa := Sa.below hb10
  replace Sb := Sb.below hb10
  replace Sm := Sm.below hb10
  replace Sc := Sc.below hb10
  clear za ca0 ca1 zb cb0 cb1 zm cm0 cm1 zc cc0 cc1
  obtain ⟨za, ca0, ca1⟩ := id Sa
  obtain ⟨zb, cb0, cb1⟩ := id Sb
  obtain ⟨zm, cm0, cm1⟩ := id Sm
  obtain ⟨zc, cc0, cc1⟩ := id Sc
  replace hb := bstep hb hb10
  clear hb10
  go_wp2_with fail
  refine (Meet_ok _ _ _ _ _ B.out A.out (by have := M.out; omega)).mono ?_
  rintro e w11 ⟨rfl, hb11⟩
  replace Sa := Sa.below hb11
  replace Sb := Sb.below hb11
  replace Sm := Sm.below hb11
  replace Sc := Sc.below hb11
  clear za ca0 ca1 zb cb0 cb1 zm cm0 cm1 zc cc0 cc1
  obtain ⟨za, ca0, ca1⟩ := id Sa
  obtain ⟨zb, cb0, cb1⟩ := id Sb
  obtain ⟨zm, cm0, cm1⟩ := id Sm
  obtain ⟨zc, cc0, cc1⟩ := id Sc
  replace hb := bstep hb hb11
  clear hb11
  go_wp2_with fail
  refine (Cover_ok _ _ _ _ _ B.out A.out).mono ?_
  rintro e w12 ⟨rfl, hb12⟩
  replace Sa := (Sa.alloc (.cells #[.int .i64 (max bl al), .int .i64 (min bh ah)] 39)).below hb12
  replace Sb := (Sb.alloc (.cells #[.int .i64 (max bl al), .int .i64 (min bh ah)] 39)).below hb12
  replace Sm := (Sm.alloc (.cells #[.int .i64 (max bl al), .int .i64 (min bh ah)] 39)).below hb12
  replace Sc := (Sc.alloc (.cells #[.int .i64 (max bl al), .int .i64 (min bh ah)] 39)).below hb12
  have Sn := (Sp.new w11 (max bl al) (min bh ah)).below hb12
  clear za ca0 ca1 zb cb0 cb1 zm cm0 cm1 zc cc0 cc1
  obtain ⟨za, ca0, ca1⟩ := id Sa
  obtain ⟨zb, cb0, cb1⟩ := id Sb
  obtain ⟨zm, cm0, cm1⟩ := id Sm
  obtain ⟨zc, cc0, cc1⟩ := id Sc
  obtain ⟨zn, cn0, cn1⟩ := id Sn
  replace hb := bstep (balloc hb (.cells #[.int .i64 (max bl al), .int .i64 (min bh ah)] 39)) hb12
  clear hb12
  go_wp2_with fail
  have q1 : (max bl al) = (max al bl) := Int.max_comm _ _
  have q2 : (min bh ah) = (min ah bh) := Int.min_comm _ _
  have q3 : (min bl al) = (min al bl) := Int.min_comm _ _
  have q4 : (max bh ah) = (max ah bh) := Int.max_comm _ _
  have q5 : max al (min al bl) = al := by omega
  have q6 : min ah (max ah bh) = ah := by omega
  refine (Meet_ok _ _ _ _ _ A.out Cc.out (by have := A.out; unfold okS at this; omega)).mono ?_
  rintro e w13 ⟨rfl, hb13⟩
  replace Sa := (Sa.alloc (.cells #[.int .i64 (min bl al), .int .i64 (max bh ah)] 39)).below hb13
  replace Sb := (Sb.alloc (.cells #[.int .i64 (min bl al), .int .i64 (max bh ah)] 39)).below hb13
  replace Sm := (Sm.alloc (.cells #[.int .i64 (min bl al), .int .i64 (max bh ah)] 39)).below hb13
  replace Sc := (Sc.alloc (.cells #[.int .i64 (min bl al), .int .i64 (max bh ah)] 39)).below hb13
  replace Sn := (Sn.alloc (.cells #[.int .i64 (min bl al), .int .i64 (max bh ah)] 39)).below hb13
  have Sk := (Sp.new w12 (min bl al) (max bh ah)).below hb13
  clear za ca0 ca1 zb cb0 cb1 zm cm0 cm1 zc cc0 cc1 zn cn0 cn1
  obtain ⟨za, ca0, ca1⟩ := id Sa
  obtain ⟨zb, cb0, cb1⟩ := id Sb
  obtain ⟨zm, cm0, cm1⟩ := id Sm
  obtain ⟨zc, cc0, cc1⟩ := id Sc
  obtain ⟨zn, cn0, cn1⟩ := id Sn
  obtain ⟨zk, ck0, ck1⟩ := id Sk
  replace hb := bstep (balloc hb (.cells #[.int .i64 (min bl al), .int .i64 (max bh ah)] 39)) hb13
  clear hb13
  go_wp2_with fail
  by_cases d1 : d < -2305843009213693952
  · have g1 : decide (d < -2305843009213693952) = true := decide_eq_true d1
    refine (Shift_range _ _ _ _ A.out (by omega)).mono ?_
    rintro e w14 ⟨rfl, hb14⟩
    replace Sa := (Sa.alloc (.cells #[.int .i64 (al), .int .i64 (ah)] 39)).below hb14
    replace Sb := (Sb.alloc (.cells #[.int .i64 (al), .int .i64 (ah)] 39)).below hb14
    replace Sm := (Sm.alloc (.cells #[.int .i64 (al), .int .i64 (ah)] 39)).below hb14
    replace Sc := (Sc.alloc (.cells #[.int .i64 (al), .int .i64 (ah)] 39)).below hb14
    replace Sn := (Sn.alloc (.cells #[.int .i64 (al), .int .i64 (ah)] 39)).below hb14
    replace Sk := (Sk.alloc (.cells #[.int .i64 (al), .int .i64 (ah)] 39)).below hb14
    have So := (Sp.new w13 (al) (ah)).below hb14
    clear za ca0 ca1 zb cb0 cb1 zm cm0 cm1 zc cc0 cc1 zn cn0 cn1 zk ck0 ck1
    obtain ⟨za, ca0, ca1⟩ := id Sa
    obtain ⟨zb, cb0, cb1⟩ := id Sb
    obtain ⟨zm, cm0, cm1⟩ := id Sm
    obtain ⟨zc, cc0, cc1⟩ := id Sc
    obtain ⟨zn, cn0, cn1⟩ := id Sn
    obtain ⟨zk, ck0, ck1⟩ := id Sk
    obtain ⟨zo, co0, co1⟩ := id So
    replace hb := bstep (balloc hb (.cells #[.int .i64 (al), .int .i64 (ah)] 39)) hb14
    clear hb14
    go_wp2_with fail
    go_ret
    exact ⟨rfl, balloc hb _⟩
  have g1 : decide (d < -2305843009213693952) = false := decide_eq_false d1
  by_cases d2 : 2305843009213693952 < d
  · have g2 : decide (2305843009213693952 < d) = true := decide_eq_true d2
    refine (Shift_range _ _ _ _ A.out (by omega)).mono ?_
    rintro e w14 ⟨rfl, hb14⟩
    replace Sa := (Sa.alloc (.cells #[.int .i64 (al), .int .i64 (ah)] 39)).below hb14
    replace Sb := (Sb.alloc (.cells #[.int .i64 (al), .int .i64 (ah)] 39)).below hb14
    replace Sm := (Sm.alloc (.cells #[.int .i64 (al), .int .i64 (ah)] 39)).below hb14
    replace Sc := (Sc.alloc (.cells #[.int .i64 (al), .int .i64 (ah)] 39)).below hb14
    replace Sn := (Sn.alloc (.cells #[.int .i64 (al), .int .i64 (ah)] 39)).below hb14
    replace Sk := (Sk.alloc (.cells #[.int .i64 (al), .int .i64 (ah)] 39)).below hb14
    have So := (Sp.new w13 (al) (ah)).below hb14
    clear za ca0 ca1 zb cb0 cb1 zm cm0 cm1 zc cc0 cc1 zn cn0 cn1 zk ck0 ck1
    obtain ⟨za, ca0, ca1⟩ := id Sa
    obtain ⟨zb, cb0, cb1⟩ := id Sb
    obtain ⟨zm, cm0, cm1⟩ := id Sm
    obtain ⟨zc, cc0, cc1⟩ := id Sc
    obtain ⟨zn, cn0, cn1⟩ := id Sn
    obtain ⟨zk, ck0, ck1⟩ := id Sk
    obtain ⟨zo, co0, co1⟩ := id So
    replace hb := bstep (balloc hb (.cells #[.int .i64 (al), .int .i64 (ah)] 39)) hb14
    clear hb14
    go_wp2_with fail
    go_ret
    exact ⟨rfl, balloc hb _⟩
  have g2 : decide (2305843009213693952 < d) = false := decide_eq_false d2
  refine (Shift_ok _ _ _ _ A.out (by omega) (by omega)).mono ?_
  rintro e w14 ⟨rfl, hb14⟩
  replace Sa := (Sa.alloc (.cells #[.int .i64 (al), .int .i64 (ah)] 39)).below hb14
  replace Sb := (Sb.alloc (.cells #[.int .i64 (al), .int .i64 (ah)] 39)).below hb14
  replace Sm := (Sm.alloc (.cells #[.int .i64 (al), .int .i64 (ah)] 39)).below hb14
  replace Sc := (Sc.alloc (.cells #[.int .i64 (al), .int .i64 (ah)] 39)).below hb14
  replace Sn := (Sn.alloc (.cells #[.int .i64 (al), .int .i64 (ah)] 39)).below hb14
  replace Sk := (Sk.alloc (.cells #[.int .i64 (al), .int .i64 (ah)] 39)).below hb14
  have So := (Sp.new w13 (al) (ah)).below hb14
  clear za ca0 ca1 zb cb0 cb1 zm cm0 cm1 zc cc0 cc1 zn cn0 cn1 zk ck0 ck1
  obtain ⟨za, ca0, ca1⟩ := id Sa
  obtain ⟨zb, cb0, cb1⟩ := id Sb
  obtain ⟨zm, cm0, cm1⟩ := id Sm
  obtain ⟨zc, cc0, cc1⟩ := id Sc
  obtain ⟨zn, cn0, cn1⟩ := id Sn
  obtain ⟨zk, ck0, ck1⟩ := id Sk
  obtain ⟨zo, co0, co1⟩ := id So
  replace hb := bstep (balloc hb (.cells #[.int .i64 (al), .int .i64 (ah)] 39)) hb14
  clear hb14
  go_wp2_with fail
  refine (Sum_ok _ _ _ (by have a := A.out; have b := ha.out; unfold okS at a; omega) (by omega)).mono ?_
  rintro e w' ⟨rfl, rfl⟩
  go_wp2_with fail
  refine (has_yes _ _ _ _ ha.out).mono ?_
  rintro e w16 ⟨rfl, hb16⟩
  replace Sa := (Sa.alloc (.cells #[.int .i64 (shl al d), .int .i64 (shh ah d)] 39)).below hb16
  replace Sb := (Sb.alloc (.cells #[.int .i64 (shl al d), .int .i64 (shh ah d)] 39)).below hb16
  replace Sm := (Sm.alloc (.cells #[.int .i64 (shl al d), .int .i64 (shh ah d)] 39)).below hb16
  replace Sc := (Sc.alloc (.cells #[.int .i64 (shl al d), .int .i64 (shh ah d)] 39)).below hb16
  replace Sn := (Sn.alloc (.cells #[.int .i64 (shl al d), .int .i64 (shh ah d)] 39)).below hb16
  replace Sk := (Sk.alloc (.cells #[.int .i64 (shl al d), .int .i64 (shh ah d)] 39)).below hb16
  replace So := (So.alloc (.cells #[.int .i64 (shl al d), .int .i64 (shh ah d)] 39)).below hb16
  have Ss := (Sp.new w14 (shl al d) (shh ah d)).below hb16
  clear za ca0 ca1 zb cb0 cb1 zm cm0 cm1 zc cc0 cc1 zn cn0 cn1 zk ck0 ck1 zo co0 co1
  obtain ⟨za, ca0, ca1⟩ := id Sa
  obtain ⟨zb, cb0, cb1⟩ := id Sb
  obtain ⟨zm, cm0, cm1⟩ := id Sm
  obtain ⟨zc, cc0, cc1⟩ := id Sc
  obtain ⟨zn, cn0, cn1⟩ := id Sn
  obtain ⟨zk, ck0, ck1⟩ := id Sk
  obtain ⟨zo, co0, co1⟩ := id So
  obtain ⟨zs, cs0, cs1⟩ := id Ss
  replace hb := bstep (balloc hb (.cells #[.int .i64 (shl al d), .int .i64 (shh ah d)] 39)) hb16
  clear hb16
  go_wp2_with fail
  refine (has_yes _ _ _ _ (shift_has _ _ _ _ ha.out.1 ha.out.2)).mono ?_
  rintro e w17 ⟨rfl, hb17⟩
  replace Sa := Sa.below hb17
  replace Sb := Sb.below hb17
  replace Sm := Sm.below hb17
  replace Sc := Sc.below hb17
  replace Sn := Sn.below hb17
  replace Sk := Sk.below hb17
  replace So := So.below hb17
  replace Ss := Ss.below hb17
  clear za ca0 ca1 zb cb0 cb1 zm cm0 cm1 zc cc0 cc1 zn cn0 cn1 zk ck0 ck1 zo co0 co1 zs cs0 cs1
  obtain ⟨za, ca0, ca1⟩ := id Sa
  obtain ⟨zb, cb0, cb1⟩ := id Sb
  obtain ⟨zm, cm0, cm1⟩ := id Sm
  obtain ⟨zc, cc0, cc1⟩ := id Sc
  obtain ⟨zn, cn0, cn1⟩ := id Sn
  obtain ⟨zk, ck0, ck1⟩ := id Sk
  obtain ⟨zo, co0, co1⟩ := id So
  obtain ⟨zs, cs0, cs1⟩ := id Ss
  replace hb := bstep hb hb17
  clear hb17
  go_wp2_with fail
  go_ret
  exact ⟨rfl, hb⟩

set_option maxRecDepth 100000 in
set_option maxHeartbeats 4000000 in
theorem walk_yn_ok (al ah bl bh t d : Int) (w : World) (A : Hid (okS al ah)) (B : Hid (okS bl bh)) (ha : Hid (al ≤ t ∧ t ≤ ah)) (hbb : Hid (¬ (bl ≤ t ∧ t ≤ bh))) (M : Hid (max al bl ≤ min ah bh)) :
    Calls Try.prog 8 #[.agg #[.int .i64 al, .int .i64 ah], .agg #[.int .i64 bl, .int .i64 bh], .int .i64 t, .int .i64 d] w fun e w' => e = .returned (.bool true) ∧ Below w.heap.size w w' := by
  have Cc : Hid (okS (min al bl) (max ah bh)) := by have a := A.out; have b := B.out; unfold Hid okS at *; omega
  go_enter Try.func8, Try.ntmps8
  go_wp2_with fail
  have hb : Below w.heap.size w ((w.alloc (.cells #[.int .i64 al, .int .i64 ah] 39)).alloc (.cells #[.int .i64 bl, .int .i64 bh] 39)) := balloc (balloc (brefl w) _) _
  have Sa := (Sp.new w al ah).alloc (.cells #[.int .i64 bl, .int .i64 bh] 39)
  have Sb := Sp.new1 w (.cells #[.int .i64 al, .int .i64 ah] 39) bl bh
  refine (awake_c _).mono ?_
  rintro e w1 ⟨rfl, hb1⟩
  replace Sa := Sa.below hb1
  replace Sb := Sb.below hb1
  obtain ⟨za, ca0, ca1⟩ := id Sa
  obtain ⟨zb, cb0, cb1⟩ := id Sb
  replace hb := bstep hb hb1
  clear hb1
  go_wp2_with fail
  refine (Check_ok _ _ _ A.out).mono ?_
  rintro e w2 ⟨rfl, hb2⟩
  replace Sa := Sa.below hb2
  replace Sb := Sb.below hb2
  clear za ca0 ca1 zb cb0 cb1
  obtain ⟨za, ca0, ca1⟩ := id Sa
  obtain ⟨zb, cb0, cb1⟩ := id Sb
  replace hb := bstep hb hb2
  clear hb2
  go_wp2_with fail
  refine (Check_ok _ _ _ B.out).mono ?_
  rintro e w3 ⟨rfl, hb3⟩
  replace Sa := Sa.below hb3
  replace Sb := Sb.below hb3
  clear za ca0 ca1 zb cb0 cb1
  obtain ⟨za, ca0, ca1⟩ := id Sa
  obtain ⟨zb, cb0, cb1⟩ := id Sb
  replace hb := bstep hb hb3
  clear hb3
  go_wp2_with fail
  refine (Meet_ok _ _ _ _ _ A.out B.out M.out).mono ?_
  rintro e w4 ⟨rfl, hb4⟩
  replace Sa := Sa.below hb4
  replace Sb := Sb.below hb4
  clear za ca0 ca1 zb cb0 cb1
  obtain ⟨za, ca0, ca1⟩ := id Sa
  obtain ⟨zb, cb0, cb1⟩ := id Sb
  replace hb := bstep hb hb4
  clear hb4
  go_wp2_with fail
  refine (Cover_ok _ _ _ _ _ A.out B.out).mono ?_
  rintro e w5 ⟨rfl, hb5⟩
  replace Sa := (Sa.alloc (.cells #[.int .i64 (max al bl), .int .i64 (min ah bh)] 39)).below hb5
  replace Sb := (Sb.alloc (.cells #[.int .i64 (max al bl), .int .i64 (min ah bh)] 39)).below hb5
  have Sm := (Sp.new w4 (max al bl) (min ah bh)).below hb5
  clear za ca0 ca1 zb cb0 cb1
  obtain ⟨za, ca0, ca1⟩ := id Sa
  obtain ⟨zb, cb0, cb1⟩ := id Sb
  obtain ⟨zm, cm0, cm1⟩ := id Sm
  replace hb := bstep (balloc hb (.cells #[.int .i64 (max al bl), .int .i64 (min ah bh)] 39)) hb5
  clear hb5
  go_wp2_with fail
  refine (has_yes _ _ _ _ ha.out).mono ?_
  rintro e w6 ⟨rfl, hb6⟩
  replace Sa := (Sa.alloc (.cells #[.int .i64 (min al bl), .int .i64 (max ah bh)] 39)).below hb6
  replace Sb := (Sb.alloc (.cells #[.int .i64 (min al bl), .int .i64 (max ah bh)] 39)).below hb6
  replace Sm := (Sm.alloc (.cells #[.int .i64 (min al bl), .int .i64 (max ah bh)] 39)).below hb6
  have Sc := (Sp.new w5 (min al bl) (max ah bh)).below hb6
  clear za ca0 ca1 zb cb0 cb1 zm cm0 cm1
  obtain ⟨za, ca0, ca1⟩ := id Sa
  obtain ⟨zb, cb0, cb1⟩ := id Sb
  obtain ⟨zm, cm0, cm1⟩ := id Sm
  obtain ⟨zc, cc0, cc1⟩ := id Sc
  replace hb := bstep (balloc hb (.cells #[.int .i64 (min al bl), .int .i64 (max ah bh)] 39)) hb6
  clear hb6
  go_wp2_with fail
  refine (has_no _ _ _ _ hbb.out).mono ?_
  rintro e w7 ⟨rfl, hb7⟩
  replace Sa := Sa.below hb7
  replace Sb := Sb.below hb7
  replace Sm := Sm.below hb7
  replace Sc := Sc.below hb7
  clear za ca0 ca1 zb cb0 cb1 zm cm0 cm1 zc cc0 cc1
  obtain ⟨za, ca0, ca1⟩ := id Sa
  obtain ⟨zb, cb0, cb1⟩ := id Sb
  obtain ⟨zm, cm0, cm1⟩ := id Sm
  obtain ⟨zc, cc0, cc1⟩ := id Sc
  replace hb := bstep hb hb7
  clear hb7
  go_wp2_with fail
  refine (has_yes _ _ _ _ ha.out).mono ?_
  rintro e w8 ⟨rfl, hb8⟩
  replace Sa := Sa.below hb8
  replace Sb := Sb.below hb8
  replace Sm := Sm.below hb8
  replace Sc := Sc.below hb8
  clear za ca0 ca1 zb cb0 cb1 zm cm0 cm1 zc cc0 cc1
  obtain ⟨za, ca0, ca1⟩ := id Sa
  obtain ⟨zb, cb0, cb1⟩ := id Sb
  obtain ⟨zm, cm0, cm1⟩ := id Sm
  obtain ⟨zc, cc0, cc1⟩ := id Sc
  replace hb := bstep hb hb8
  clear hb8
  go_wp2_with fail
  refine (has_yes _ _ _ _ (by have := ha.out; omega)).mono ?_
  rintro e w9 ⟨rfl, hb9⟩
  replace Sa := Sa.below hb9
  replace Sb := Sb.below hb9
  replace Sm := Sm.below hb9
  replace Sc := Sc.below hb9
  clear za ca0 ca1 zb cb0 cb1 zm cm0 cm1 zc cc0 cc1
  obtain ⟨za, ca0, ca1⟩ := id Sa
  obtain ⟨zb, cb0, cb1⟩ := id Sb
  obtain ⟨zm, cm0, cm1⟩ := id Sm
  obtain ⟨zc, cc0, cc1⟩ := id Sc
  replace hb := bstep hb hb9
  clear hb9
  go_wp2_with fail
  refine (has_no _ _ _ _ (by have := ha.out; have := hbb.out; omega)).mono ?_
  rintro e w10 ⟨rfl, hb10⟩
  replace Sa := Sa.below hb10
  replace Sb := Sb.below hb10
  replace Sm := Sm.below hb10
  replace Sc := Sc.below hb10
  clear za ca0 ca1 zb cb0 cb1 zm cm0 cm1 zc cc0 cc1
  obtain ⟨za, ca0, ca1⟩ := id Sa
  obtain ⟨zb, cb0, cb1⟩ := id Sb
  obtain ⟨zm, cm0, cm1⟩ := id Sm
  obtain ⟨zc, cc0, cc1⟩ := id Sc
  replace hb := bstep hb hb10
  clear hb10
  go_wp2_with fail
  refine (Meet_ok _ _ _ _ _ B.out A.out (by have := M.out; omega)).mono ?_
  rintro e w11 ⟨rfl, hb11⟩
  replace Sa := Sa.below hb11
  replace Sb := Sb.below hb11
  replace Sm := Sm.below hb11
  replace Sc := Sc.below hb11
  clear za ca0 ca1 zb cb0 cb1 zm cm0 cm1 zc cc0 cc1
  obtain ⟨za, ca0, ca1⟩ := id Sa
  obtain ⟨zb, cb0, cb1⟩ := id Sb
  obtain ⟨zm, cm0, cm1⟩ := id Sm
  obtain ⟨zc, cc0, cc1⟩ := id Sc
  replace hb := bstep hb hb11
  clear hb11
  go_wp2_with fail
  refine (Cover_ok _ _ _ _ _ B.out A.out).mono ?_
  rintro e w12 ⟨rfl, hb12⟩
  replace Sa := (Sa.alloc (.cells #[.int .i64 (max bl al), .int .i64 (min bh ah)] 39)).below hb12
  replace Sb := (Sb.alloc (.cells #[.int .i64 (max bl al), .int .i64 (min bh ah)] 39)).below hb12
  replace Sm := (Sm.alloc (.cells #[.int .i64 (max bl al), .int .i64 (min bh ah)] 39)).below hb12
  replace Sc := (Sc.alloc (.cells #[.int .i64 (max bl al), .int .i64 (min bh ah)] 39)).below hb12
  have Sn := (Sp.new w11 (max bl al) (min bh ah)).below hb12
  clear za ca0 ca1 zb cb0 cb1 zm cm0 cm1 zc cc0 cc1
  obtain ⟨za, ca0, ca1⟩ := id Sa
  obtain ⟨zb, cb0, cb1⟩ := id Sb
  obtain ⟨zm, cm0, cm1⟩ := id Sm
  obtain ⟨zc, cc0, cc1⟩ := id Sc
  obtain ⟨zn, cn0, cn1⟩ := id Sn
  replace hb := bstep (balloc hb (.cells #[.int .i64 (max bl al), .int .i64 (min bh ah)] 39)) hb12
  clear hb12
  go_wp2_with fail
  have q1 : (max bl al) = (max al bl) := Int.max_comm _ _
  have q2 : (min bh ah) = (min ah bh) := Int.min_comm _ _
  have q3 : (min bl al) = (min al bl) := Int.min_comm _ _
  have q4 : (max bh ah) = (max ah bh) := Int.max_comm _ _
  have q5 : max al (min al bl) = al := by omega
  have q6 : min ah (max ah bh) = ah := by omega
  refine (Meet_ok _ _ _ _ _ A.out Cc.out (by have := A.out; unfold okS at this; omega)).mono ?_
  rintro e w13 ⟨rfl, hb13⟩
  replace Sa := (Sa.alloc (.cells #[.int .i64 (min bl al), .int .i64 (max bh ah)] 39)).below hb13
  replace Sb := (Sb.alloc (.cells #[.int .i64 (min bl al), .int .i64 (max bh ah)] 39)).below hb13
  replace Sm := (Sm.alloc (.cells #[.int .i64 (min bl al), .int .i64 (max bh ah)] 39)).below hb13
  replace Sc := (Sc.alloc (.cells #[.int .i64 (min bl al), .int .i64 (max bh ah)] 39)).below hb13
  replace Sn := (Sn.alloc (.cells #[.int .i64 (min bl al), .int .i64 (max bh ah)] 39)).below hb13
  have Sk := (Sp.new w12 (min bl al) (max bh ah)).below hb13
  clear za ca0 ca1 zb cb0 cb1 zm cm0 cm1 zc cc0 cc1 zn cn0 cn1
  obtain ⟨za, ca0, ca1⟩ := id Sa
  obtain ⟨zb, cb0, cb1⟩ := id Sb
  obtain ⟨zm, cm0, cm1⟩ := id Sm
  obtain ⟨zc, cc0, cc1⟩ := id Sc
  obtain ⟨zn, cn0, cn1⟩ := id Sn
  obtain ⟨zk, ck0, ck1⟩ := id Sk
  replace hb := bstep (balloc hb (.cells #[.int .i64 (min bl al), .int .i64 (max bh ah)] 39)) hb13
  clear hb13
  go_wp2_with fail
  by_cases d1 : d < -2305843009213693952
  · have g1 : decide (d < -2305843009213693952) = true := decide_eq_true d1
    refine (Shift_range _ _ _ _ A.out (by omega)).mono ?_
    rintro e w14 ⟨rfl, hb14⟩
    replace Sa := (Sa.alloc (.cells #[.int .i64 (al), .int .i64 (ah)] 39)).below hb14
    replace Sb := (Sb.alloc (.cells #[.int .i64 (al), .int .i64 (ah)] 39)).below hb14
    replace Sm := (Sm.alloc (.cells #[.int .i64 (al), .int .i64 (ah)] 39)).below hb14
    replace Sc := (Sc.alloc (.cells #[.int .i64 (al), .int .i64 (ah)] 39)).below hb14
    replace Sn := (Sn.alloc (.cells #[.int .i64 (al), .int .i64 (ah)] 39)).below hb14
    replace Sk := (Sk.alloc (.cells #[.int .i64 (al), .int .i64 (ah)] 39)).below hb14
    have So := (Sp.new w13 (al) (ah)).below hb14
    clear za ca0 ca1 zb cb0 cb1 zm cm0 cm1 zc cc0 cc1 zn cn0 cn1 zk ck0 ck1
    obtain ⟨za, ca0, ca1⟩ := id Sa
    obtain ⟨zb, cb0, cb1⟩ := id Sb
    obtain ⟨zm, cm0, cm1⟩ := id Sm
    obtain ⟨zc, cc0, cc1⟩ := id Sc
    obtain ⟨zn, cn0, cn1⟩ := id Sn
    obtain ⟨zk, ck0, ck1⟩ := id Sk
    obtain ⟨zo, co0, co1⟩ := id So
    replace hb := bstep (balloc hb (.cells #[.int .i64 (al), .int .i64 (ah)] 39)) hb14
    clear hb14
    go_wp2_with fail
    go_ret
    exact ⟨rfl, balloc hb _⟩
  have g1 : decide (d < -2305843009213693952) = false := decide_eq_false d1
  by_cases d2 : 2305843009213693952 < d
  · have g2 : decide (2305843009213693952 < d) = true := decide_eq_true d2
    refine (Shift_range _ _ _ _ A.out (by omega)).mono ?_
    rintro e w14 ⟨rfl, hb14⟩
    replace Sa := (Sa.alloc (.cells #[.int .i64 (al), .int .i64 (ah)] 39)).below hb14
    replace Sb := (Sb.alloc (.cells #[.int .i64 (al), .int .i64 (ah)] 39)).below hb14
    replace Sm := (Sm.alloc (.cells #[.int .i64 (al), .int .i64 (ah)] 39)).below hb14
    replace Sc := (Sc.alloc (.cells #[.int .i64 (al), .int .i64 (ah)] 39)).below hb14
    replace Sn := (Sn.alloc (.cells #[.int .i64 (al), .int .i64 (ah)] 39)).below hb14
    replace Sk := (Sk.alloc (.cells #[.int .i64 (al), .int .i64 (ah)] 39)).below hb14
    have So := (Sp.new w13 (al) (ah)).below hb14
    clear za ca0 ca1 zb cb0 cb1 zm cm0 cm1 zc cc0 cc1 zn cn0 cn1 zk ck0 ck1
    obtain ⟨za, ca0, ca1⟩ := id Sa
    obtain ⟨zb, cb0, cb1⟩ := id Sb
    obtain ⟨zm, cm0, cm1⟩ := id Sm
    obtain ⟨zc, cc0, cc1⟩ := id Sc
    obtain ⟨zn, cn0, cn1⟩ := id Sn
    obtain ⟨zk, ck0, ck1⟩ := id Sk
    obtain ⟨zo, co0, co1⟩ := id So
    replace hb := bstep (balloc hb (.cells #[.int .i64 (al), .int .i64 (ah)] 39)) hb14
    clear hb14
    go_wp2_with fail
    go_ret
    exact ⟨rfl, balloc hb _⟩
  have g2 : decide (2305843009213693952 < d) = false := decide_eq_false d2
  refine (Shift_ok _ _ _ _ A.out (by omega) (by omega)).mono ?_
  rintro e w14 ⟨rfl, hb14⟩
  replace Sa := (Sa.alloc (.cells #[.int .i64 (al), .int .i64 (ah)] 39)).below hb14
  replace Sb := (Sb.alloc (.cells #[.int .i64 (al), .int .i64 (ah)] 39)).below hb14
  replace Sm := (Sm.alloc (.cells #[.int .i64 (al), .int .i64 (ah)] 39)).below hb14
  replace Sc := (Sc.alloc (.cells #[.int .i64 (al), .int .i64 (ah)] 39)).below hb14
  replace Sn := (Sn.alloc (.cells #[.int .i64 (al), .int .i64 (ah)] 39)).below hb14
  replace Sk := (Sk.alloc (.cells #[.int .i64 (al), .int .i64 (ah)] 39)).below hb14
  have So := (Sp.new w13 (al) (ah)).below hb14
  clear za ca0 ca1 zb cb0 cb1 zm cm0 cm1 zc cc0 cc1 zn cn0 cn1 zk ck0 ck1
  obtain ⟨za, ca0, ca1⟩ := id Sa
  obtain ⟨zb, cb0, cb1⟩ := id Sb
  obtain ⟨zm, cm0, cm1⟩ := id Sm
  obtain ⟨zc, cc0, cc1⟩ := id Sc
  obtain ⟨zn, cn0, cn1⟩ := id Sn
  obtain ⟨zk, ck0, ck1⟩ := id Sk
  obtain ⟨zo, co0, co1⟩ := id So
  replace hb := bstep (balloc hb (.cells #[.int .i64 (al), .int .i64 (ah)] 39)) hb14
  clear hb14
  go_wp2_with fail
  refine (Sum_ok _ _ _ (by have a := A.out; have b := ha.out; unfold okS at a; omega) (by omega)).mono ?_
  rintro e w' ⟨rfl, rfl⟩
  go_wp2_with fail
  refine (has_yes _ _ _ _ ha.out).mono ?_
  rintro e w16 ⟨rfl, hb16⟩
  replace Sa := (Sa.alloc (.cells #[.int .i64 (shl al d), .int .i64 (shh ah d)] 39)).below hb16
  replace Sb := (Sb.alloc (.cells #[.int .i64 (shl al d), .int .i64 (shh ah d)] 39)).below hb16
  replace Sm := (Sm.alloc (.cells #[.int .i64 (shl al d), .int .i64 (shh ah d)] 39)).below hb16
  replace Sc := (Sc.alloc (.cells #[.int .i64 (shl al d), .int .i64 (shh ah d)] 39)).below hb16
  replace Sn := (Sn.alloc (.cells #[.int .i64 (shl al d), .int .i64 (shh ah d)] 39)).below hb16
  replace Sk := (Sk.alloc (.cells #[.int .i64 (shl al d), .int .i64 (shh ah d)] 39)).below hb16
  replace So := (So.alloc (.cells #[.int .i64 (shl al d), .int .i64 (shh ah d)] 39)).below hb16
  have Ss := (Sp.new w14 (shl al d) (shh ah d)).below hb16
  clear za ca0 ca1 zb cb0 cb1 zm cm0 cm1 zc cc0 cc1 zn cn0 cn1 zk ck0 ck1 zo co0 co1
  obtain ⟨za, ca0, ca1⟩ := id Sa
  obtain ⟨zb, cb0, cb1⟩ := id Sb
  obtain ⟨zm, cm0, cm1⟩ := id Sm
  obtain ⟨zc, cc0, cc1⟩ := id Sc
  obtain ⟨zn, cn0, cn1⟩ := id Sn
  obtain ⟨zk, ck0, ck1⟩ := id Sk
  obtain ⟨zo, co0, co1⟩ := id So
  obtain ⟨zs, cs0, cs1⟩ := id Ss
  replace hb := bstep (balloc hb (.cells #[.int .i64 (shl al d), .int .i64 (shh ah d)] 39)) hb16
  clear hb16
  go_wp2_with fail
  refine (has_yes _ _ _ _ (shift_has _ _ _ _ ha.out.1 ha.out.2)).mono ?_
  rintro e w17 ⟨rfl, hb17⟩
  replace Sa := Sa.below hb17
  replace Sb := Sb.below hb17
  replace Sm := Sm.below hb17
  replace Sc := Sc.below hb17
  replace Sn := Sn.below hb17
  replace Sk := Sk.below hb17
  replace So := So.below hb17
  replace Ss := Ss.below hb17
  clear za ca0 ca1 zb cb0 cb1 zm cm0 cm1 zc cc0 cc1 zn cn0 cn1 zk ck0 ck1 zo co0 co1 zs cs0 cs1
  obtain ⟨za, ca0, ca1⟩ := id Sa
  obtain ⟨zb, cb0, cb1⟩ := id Sb
  obtain ⟨zm, cm0, cm1⟩ := id Sm
  obtain ⟨zc, cc0, cc1⟩ := id Sc
  obtain ⟨zn, cn0, cn1⟩ := id Sn
  obtain ⟨zk, ck0, ck1⟩ := id Sk
  obtain ⟨zo, co0, co1⟩ := id So
  obtain ⟨zs, cs0, cs1⟩ := id Ss
  replace hb := bstep hb hb17
  clear hb17
  go_wp2_with fail
  go_ret
  exact ⟨rfl, hb⟩

set_option maxRecDepth 100000 in
set_option maxHeartbeats 4000000 in
theorem walk_yn_none (al ah bl bh t d : Int) (w : World) (A : Hid (okS al ah)) (B : Hid (okS bl bh)) (ha : Hid (al ≤ t ∧ t ≤ ah)) (hbb : Hid (¬ (bl ≤ t ∧ t ≤ bh))) (M : Hid (min ah bh < max al bl)) :
    Calls Try.prog 8 #[.agg #[.int .i64 al, .int .i64 ah], .agg #[.int .i64 bl, .int .i64 bh], .int .i64 t, .int .i64 d] w fun e w' => e = .returned (.bool true) ∧ Below w.heap.size w w' := by
  have Cc : Hid (okS (min al bl) (max ah bh)) := by have a := A.out; have b := B.out; unfold Hid okS at *; omega
  go_enter Try.func8, Try.ntmps8
  go_wp2_with fail
  have hb : Below w.heap.size w ((w.alloc (.cells #[.int .i64 al, .int .i64 ah] 39)).alloc (.cells #[.int .i64 bl, .int .i64 bh] 39)) := balloc (balloc (brefl w) _) _
  have Sa := (Sp.new w al ah).alloc (.cells #[.int .i64 bl, .int .i64 bh] 39)
  have Sb := Sp.new1 w (.cells #[.int .i64 al, .int .i64 ah] 39) bl bh
  refine (awake_c _).mono ?_
  rintro e w1 ⟨rfl, hb1⟩
  replace Sa := Sa.below hb1
  replace Sb := Sb.below hb1
  obtain ⟨za, ca0, ca1⟩ := id Sa
  obtain ⟨zb, cb0, cb1⟩ := id Sb
  replace hb := bstep hb hb1
  clear hb1
  go_wp2_with fail
  refine (Check_ok _ _ _ A.out).mono ?_
  rintro e w2 ⟨rfl, hb2⟩
  replace Sa := Sa.below hb2
  replace Sb := Sb.below hb2
  clear za ca0 ca1 zb cb0 cb1
  obtain ⟨za, ca0, ca1⟩ := id Sa
  obtain ⟨zb, cb0, cb1⟩ := id Sb
  replace hb := bstep hb hb2
  clear hb2
  go_wp2_with fail
  refine (Check_ok _ _ _ B.out).mono ?_
  rintro e w3 ⟨rfl, hb3⟩
  replace Sa := Sa.below hb3
  replace Sb := Sb.below hb3
  clear za ca0 ca1 zb cb0 cb1
  obtain ⟨za, ca0, ca1⟩ := id Sa
  obtain ⟨zb, cb0, cb1⟩ := id Sb
  replace hb := bstep hb hb3
  clear hb3
  go_wp2_with fail
  refine (Meet_none _ _ _ _ _ A.out B.out M.out).mono ?_
  rintro e w4 ⟨rfl, hb4⟩
  replace Sa := Sa.below hb4
  replace Sb := Sb.below hb4
  clear za ca0 ca1 zb cb0 cb1
  obtain ⟨za, ca0, ca1⟩ := id Sa
  obtain ⟨zb, cb0, cb1⟩ := id Sb
  replace hb := bstep hb hb4
  clear hb4
  go_wp2_with fail
  refine (Cover_ok _ _ _ _ _ A.out B.out).mono ?_
  rintro e w5 ⟨rfl, hb5⟩
  replace Sa := (Sa.alloc (.cells #[.int .i64 (0), .int .i64 (0)] 39)).below hb5
  replace Sb := (Sb.alloc (.cells #[.int .i64 (0), .int .i64 (0)] 39)).below hb5
  have Sm := (Sp.new w4 (0) (0)).below hb5
  clear za ca0 ca1 zb cb0 cb1
  obtain ⟨za, ca0, ca1⟩ := id Sa
  obtain ⟨zb, cb0, cb1⟩ := id Sb
  obtain ⟨zm, cm0, cm1⟩ := id Sm
  replace hb := bstep (balloc hb (.cells #[.int .i64 (0), .int .i64 (0)] 39)) hb5
  clear hb5
  go_wp2_with fail
  refine (has_yes _ _ _ _ ha.out).mono ?_
  rintro e w6 ⟨rfl, hb6⟩
  replace Sa := (Sa.alloc (.cells #[.int .i64 (min al bl), .int .i64 (max ah bh)] 39)).below hb6
  replace Sb := (Sb.alloc (.cells #[.int .i64 (min al bl), .int .i64 (max ah bh)] 39)).below hb6
  replace Sm := (Sm.alloc (.cells #[.int .i64 (min al bl), .int .i64 (max ah bh)] 39)).below hb6
  have Sc := (Sp.new w5 (min al bl) (max ah bh)).below hb6
  clear za ca0 ca1 zb cb0 cb1 zm cm0 cm1
  obtain ⟨za, ca0, ca1⟩ := id Sa
  obtain ⟨zb, cb0, cb1⟩ := id Sb
  obtain ⟨zm, cm0, cm1⟩ := id Sm
  obtain ⟨zc, cc0, cc1⟩ := id Sc
  replace hb := bstep (balloc hb (.cells #[.int .i64 (min al bl), .int .i64 (max ah bh)] 39)) hb6
  clear hb6
  go_wp2_with fail
  refine (has_no _ _ _ _ hbb.out).mono ?_
  rintro e w7 ⟨rfl, hb7⟩
  replace Sa := Sa.below hb7
  replace Sb := Sb.below hb7
  replace Sm := Sm.below hb7
  replace Sc := Sc.below hb7
  clear za ca0 ca1 zb cb0 cb1 zm cm0 cm1 zc cc0 cc1
  obtain ⟨za, ca0, ca1⟩ := id Sa
  obtain ⟨zb, cb0, cb1⟩ := id Sb
  obtain ⟨zm, cm0, cm1⟩ := id Sm
  obtain ⟨zc, cc0, cc1⟩ := id Sc
  replace hb := bstep hb hb7
  clear hb7
  go_wp2_with fail
  refine (has_yes _ _ _ _ ha.out).mono ?_
  rintro e w8 ⟨rfl, hb8⟩
  replace Sa := Sa.below hb8
  replace Sb := Sb.below hb8
  replace Sm := Sm.below hb8
  replace Sc := Sc.below hb8
  clear za ca0 ca1 zb cb0 cb1 zm cm0 cm1 zc cc0 cc1
  obtain ⟨za, ca0, ca1⟩ := id Sa
  obtain ⟨zb, cb0, cb1⟩ := id Sb
  obtain ⟨zm, cm0, cm1⟩ := id Sm
  obtain ⟨zc, cc0, cc1⟩ := id Sc
  replace hb := bstep hb hb8
  clear hb8
  go_wp2_with fail
  refine (has_yes _ _ _ _ (by have := ha.out; omega)).mono ?_
  rintro e w9 ⟨rfl, hb9⟩
  replace Sa := Sa.below hb9
  replace Sb := Sb.below hb9
  replace Sm := Sm.below hb9
  replace Sc := Sc.below hb9
  clear za ca0 ca1 zb cb0 cb1 zm cm0 cm1 zc cc0 cc1
  obtain ⟨za, ca0, ca1⟩ := id Sa
  obtain ⟨zb, cb0, cb1⟩ := id Sb
  obtain ⟨zm, cm0, cm1⟩ := id Sm
  obtain ⟨zc, cc0, cc1⟩ := id Sc
  replace hb := bstep hb hb9
  clear hb9
  go_wp2_with fail
  refine (Meet_none _ _ _ _ _ B.out A.out (by have := M.out; omega)).mono ?_
  rintro e w10 ⟨rfl, hb10⟩
  replace Sa := Sa.below hb10
  replace Sb := Sb.below hb10
  replace Sm := Sm.below hb10
  replace Sc := Sc.below hb10
  clear za ca0 ca1 zb cb0 cb1 zm cm0 cm1 zc cc0 cc1
  obtain ⟨za, ca0, ca1⟩ := id Sa
  obtain ⟨zb, cb0, cb1⟩ := id Sb
  obtain ⟨zm, cm0, cm1⟩ := id Sm
  obtain ⟨zc, cc0, cc1⟩ := id Sc
  replace hb := bstep hb hb10
  clear hb10
  go_wp2_with fail
  refine (Cover_ok _ _ _ _ _ B.out A.out).mono ?_
  rintro e w11 ⟨rfl, hb11⟩
  replace Sa := (Sa.alloc (.cells #[.int .i64 (0), .int .i64 (0)] 39)).below hb11
  replace Sb := (Sb.alloc (.cells #[.int .i64 (0), .int .i64 (0)] 39)).below hb11
  replace Sm := (Sm.alloc (.cells #[.int .i64 (0), .int .i64 (0)] 39)).below hb11
  replace Sc := (Sc.alloc (.cells #[.int .i64 (0), .int .i64 (0)] 39)).below hb11
  have Sn := (Sp.new w10 (0) (0)).below hb11
  clear za ca0 ca1 zb cb0 cb1 zm cm0 cm1 zc cc0 cc1
  obtain ⟨za, ca0, ca1⟩ := id Sa
  obtain ⟨zb, cb0, cb1⟩ := id Sb
  obtain ⟨zm, cm0, cm1⟩ := id Sm
  obtain ⟨zc, cc0, cc1⟩ := id Sc
  obtain ⟨zn, cn0, cn1⟩ := id Sn
  replace hb := bstep (balloc hb (.cells #[.int .i64 (0), .int .i64 (0)] 39)) hb11
  clear hb11
  go_wp2_with fail
  have q1 : (max bl al) = (max al bl) := Int.max_comm _ _
  have q2 : (min bh ah) = (min ah bh) := Int.min_comm _ _
  have q3 : (min bl al) = (min al bl) := Int.min_comm _ _
  have q4 : (max bh ah) = (max ah bh) := Int.max_comm _ _
  have q5 : max al (min al bl) = al := by omega
  have q6 : min ah (max ah bh) = ah := by omega
  refine (Meet_ok _ _ _ _ _ A.out Cc.out (by have := A.out; unfold okS at this; omega)).mono ?_
  rintro e w12 ⟨rfl, hb12⟩
  replace Sa := (Sa.alloc (.cells #[.int .i64 (min bl al), .int .i64 (max bh ah)] 39)).below hb12
  replace Sb := (Sb.alloc (.cells #[.int .i64 (min bl al), .int .i64 (max bh ah)] 39)).below hb12
  replace Sm := (Sm.alloc (.cells #[.int .i64 (min bl al), .int .i64 (max bh ah)] 39)).below hb12
  replace Sc := (Sc.alloc (.cells #[.int .i64 (min bl al), .int .i64 (max bh ah)] 39)).below hb12
  replace Sn := (Sn.alloc (.cells #[.int .i64 (min bl al), .int .i64 (max bh ah)] 39)).below hb12
  have Sk := (Sp.new w11 (min bl al) (max bh ah)).below hb12
  clear za ca0 ca1 zb cb0 cb1 zm cm0 cm1 zc cc0 cc1 zn cn0 cn1
  obtain ⟨za, ca0, ca1⟩ := id Sa
  obtain ⟨zb, cb0, cb1⟩ := id Sb
  obtain ⟨zm, cm0, cm1⟩ := id Sm
  obtain ⟨zc, cc0, cc1⟩ := id Sc
  obtain ⟨zn, cn0, cn1⟩ := id Sn
  obtain ⟨zk, ck0, ck1⟩ := id Sk
  replace hb := bstep (balloc hb (.cells #[.int .i64 (min bl al), .int .i64 (max bh ah)] 39)) hb12
  clear hb12
  go_wp2_with fail
  by_cases d1 : d < -2305843009213693952
  · have g1 : decide (d < -2305843009213693952) = true := decide_eq_true d1
    refine (Shift_range _ _ _ _ A.out (by omega)).mono ?_
    rintro e w13 ⟨rfl, hb13⟩
    replace Sa := (Sa.alloc (.cells #[.int .i64 (al), .int .i64 (ah)] 39)).below hb13
    replace Sb := (Sb.alloc (.cells #[.int .i64 (al), .int .i64 (ah)] 39)).below hb13
    replace Sm := (Sm.alloc (.cells #[.int .i64 (al), .int .i64 (ah)] 39)).below hb13
    replace Sc := (Sc.alloc (.cells #[.int .i64 (al), .int .i64 (ah)] 39)).below hb13
    replace Sn := (Sn.alloc (.cells #[.int .i64 (al), .int .i64 (ah)] 39)).below hb13
    replace Sk := (Sk.alloc (.cells #[.int .i64 (al), .int .i64 (ah)] 39)).below hb13
    have So := (Sp.new w12 (al) (ah)).below hb13
    clear za ca0 ca1 zb cb0 cb1 zm cm0 cm1 zc cc0 cc1 zn cn0 cn1 zk ck0 ck1
    obtain ⟨za, ca0, ca1⟩ := id Sa
    obtain ⟨zb, cb0, cb1⟩ := id Sb
    obtain ⟨zm, cm0, cm1⟩ := id Sm
    obtain ⟨zc, cc0, cc1⟩ := id Sc
    obtain ⟨zn, cn0, cn1⟩ := id Sn
    obtain ⟨zk, ck0, ck1⟩ := id Sk
    obtain ⟨zo, co0, co1⟩ := id So
    replace hb := bstep (balloc hb (.cells #[.int .i64 (al), .int .i64 (ah)] 39)) hb13
    clear hb13
    go_wp2_with fail
    go_ret
    exact ⟨rfl, balloc hb _⟩
  have g1 : decide (d < -2305843009213693952) = false := decide_eq_false d1
  by_cases d2 : 2305843009213693952 < d
  · have g2 : decide (2305843009213693952 < d) = true := decide_eq_true d2
    refine (Shift_range _ _ _ _ A.out (by omega)).mono ?_
    rintro e w13 ⟨rfl, hb13⟩
    replace Sa := (Sa.alloc (.cells #[.int .i64 (al), .int .i64 (ah)] 39)).below hb13
    replace Sb := (Sb.alloc (.cells #[.int .i64 (al), .int .i64 (ah)] 39)).below hb13
    replace Sm := (Sm.alloc (.cells #[.int .i64 (al), .int .i64 (ah)] 39)).below hb13
    replace Sc := (Sc.alloc (.cells #[.int .i64 (al), .int .i64 (ah)] 39)).below hb13
    replace Sn := (Sn.alloc (.cells #[.int .i64 (al), .int .i64 (ah)] 39)).below hb13
    replace Sk := (Sk.alloc (.cells #[.int .i64 (al), .int .i64 (ah)] 39)).below hb13
    have So := (Sp.new w12 (al) (ah)).below hb13
    clear za ca0 ca1 zb cb0 cb1 zm cm0 cm1 zc cc0 cc1 zn cn0 cn1 zk ck0 ck1
    obtain ⟨za, ca0, ca1⟩ := id Sa
    obtain ⟨zb, cb0, cb1⟩ := id Sb
    obtain ⟨zm, cm0, cm1⟩ := id Sm
    obtain ⟨zc, cc0, cc1⟩ := id Sc
    obtain ⟨zn, cn0, cn1⟩ := id Sn
    obtain ⟨zk, ck0, ck1⟩ := id Sk
    obtain ⟨zo, co0, co1⟩ := id So
    replace hb := bstep (balloc hb (.cells #[.int .i64 (al), .int .i64 (ah)] 39)) hb13
    clear hb13
    go_wp2_with fail
    go_ret
    exact ⟨rfl, balloc hb _⟩
  have g2 : decide (2305843009213693952 < d) = false := decide_eq_false d2
  refine (Shift_ok _ _ _ _ A.out (by omega) (by omega)).mono ?_
  rintro e w13 ⟨rfl, hb13⟩
  replace Sa := (Sa.alloc (.cells #[.int .i64 (al), .int .i64 (ah)] 39)).below hb13
  replace Sb := (Sb.alloc (.cells #[.int .i64 (al), .int .i64 (ah)] 39)).below hb13
  replace Sm := (Sm.alloc (.cells #[.int .i64 (al), .int .i64 (ah)] 39)).below hb13
  replace Sc := (Sc.alloc (.cells #[.int .i64 (al), .int .i64 (ah)] 39)).below hb13
  replace Sn := (Sn.alloc (.cells #[.int .i64 (al), .int .i64 (ah)] 39)).below hb13
  replace Sk := (Sk.alloc (.cells #[.int .i64 (al), .int .i64 (ah)] 39)).below hb13
  have So := (Sp.new w12 (al) (ah)).below hb13
  clear za ca0 ca1 zb cb0 cb1 zm cm0 cm1 zc cc0 cc1 zn cn0 cn1 zk ck0 ck1
  obtain ⟨za, ca0, ca1⟩ := id Sa
  obtain ⟨zb, cb0, cb1⟩ := id Sb
  obtain ⟨zm, cm0, cm1⟩ := id Sm
  obtain ⟨zc, cc0, cc1⟩ := id Sc
  obtain ⟨zn, cn0, cn1⟩ := id Sn
  obtain ⟨zk, ck0, ck1⟩ := id Sk
  obtain ⟨zo, co0, co1⟩ := id So
  replace hb := bstep (balloc hb (.cells #[.int .i64 (al), .int .i64 (ah)] 39)) hb13
  clear hb13
  go_wp2_with fail
  refine (Sum_ok _ _ _ (by have a := A.out; have b := ha.out; unfold okS at a; omega) (by omega)).mono ?_
  rintro e w' ⟨rfl, rfl⟩
  go_wp2_with fail
  refine (has_yes _ _ _ _ ha.out).mono ?_
  rintro e w15 ⟨rfl, hb15⟩
  replace Sa := (Sa.alloc (.cells #[.int .i64 (shl al d), .int .i64 (shh ah d)] 39)).below hb15
  replace Sb := (Sb.alloc (.cells #[.int .i64 (shl al d), .int .i64 (shh ah d)] 39)).below hb15
  replace Sm := (Sm.alloc (.cells #[.int .i64 (shl al d), .int .i64 (shh ah d)] 39)).below hb15
  replace Sc := (Sc.alloc (.cells #[.int .i64 (shl al d), .int .i64 (shh ah d)] 39)).below hb15
  replace Sn := (Sn.alloc (.cells #[.int .i64 (shl al d), .int .i64 (shh ah d)] 39)).below hb15
  replace Sk := (Sk.alloc (.cells #[.int .i64 (shl al d), .int .i64 (shh ah d)] 39)).below hb15
  replace So := (So.alloc (.cells #[.int .i64 (shl al d), .int .i64 (shh ah d)] 39)).below hb15
  have Ss := (Sp.new w13 (shl al d) (shh ah d)).below hb15
  clear za ca0 ca1 zb cb0 cb1 zm cm0 cm1 zc cc0 cc1 zn cn0 cn1 zk ck0 ck1 zo co0 co1
  obtain ⟨za, ca0, ca1⟩ := id Sa
  obtain ⟨zb, cb0, cb1⟩ := id Sb
  obtain ⟨zm, cm0, cm1⟩ := id Sm
  obtain ⟨zc, cc0, cc1⟩ := id Sc
  obtain ⟨zn, cn0, cn1⟩ := id Sn
  obtain ⟨zk, ck0, ck1⟩ := id Sk
  obtain ⟨zo, co0, co1⟩ := id So
  obtain ⟨zs, cs0, cs1⟩ := id Ss
  replace hb := bstep (balloc hb (.cells #[.int .i64 (shl al d), .int .i64 (shh ah d)] 39)) hb15
  clear hb15
  go_wp2_with fail
  refine (has_yes _ _ _ _ (shift_has _ _ _ _ ha.out.1 ha.out.2)).mono ?_
  rintro e w16 ⟨rfl, hb16⟩
  replace Sa := Sa.below hb16
  replace Sb := Sb.below hb16
  replace Sm := Sm.below hb16
  replace Sc := Sc.below hb16
  replace Sn := Sn.below hb16
  replace Sk := Sk.below hb16
  replace So := So.below hb16
  replace Ss := Ss.below hb16
  clear za ca0 ca1 zb cb0 cb1 zm cm0 cm1 zc cc0 cc1 zn cn0 cn1 zk ck0 ck1 zo co0 co1 zs cs0 cs1
  obtain ⟨za, ca0, ca1⟩ := id Sa
  obtain ⟨zb, cb0, cb1⟩ := id Sb
  obtain ⟨zm, cm0, cm1⟩ := id Sm
  obtain ⟨zc, cc0, cc1⟩ := id Sc
  obtain ⟨zn, cn0, cn1⟩ := id Sn
  obtain ⟨zk, ck0, ck1⟩ := id Sk
  obtain ⟨zo, co0, co1⟩ := id So
  obtain ⟨zs, cs0, cs1⟩ := id Ss
  replace hb := bstep hb hb16
  clear hb16
  go_wp2_with fail
  go_ret
  exact ⟨rfl, hb⟩

set_option maxRecDepth 100000 in
set_option maxHeartbeats 4000000 in
theorem walk_ny_ok (al ah bl bh t d : Int) (w : World) (A : Hid (okS al ah)) (B : Hid (okS bl bh)) (ha : Hid (¬ (al ≤ t ∧ t ≤ ah))) (hbb : Hid (bl ≤ t ∧ t ≤ bh)) (M : Hid (max al bl ≤ min ah bh)) :
    Calls Try.prog 8 #[.agg #[.int .i64 al, .int .i64 ah], .agg #[.int .i64 bl, .int .i64 bh], .int .i64 t, .int .i64 d] w fun e w' => e = .returned (.bool true) ∧ Below w.heap.size w w' := by
  have Cc : Hid (okS (min al bl) (max ah bh)) := by have a := A.out; have b := B.out; unfold Hid okS at *; omega
  go_enter Try.func8, Try.ntmps8
  go_wp2_with fail
  have hb : Below w.heap.size w ((w.alloc (.cells #[.int .i64 al, .int .i64 ah] 39)).alloc (.cells #[.int .i64 bl, .int .i64 bh] 39)) := balloc (balloc (brefl w) _) _
  have Sa := (Sp.new w al ah).alloc (.cells #[.int .i64 bl, .int .i64 bh] 39)
  have Sb := Sp.new1 w (.cells #[.int .i64 al, .int .i64 ah] 39) bl bh
  refine (awake_c _).mono ?_
  rintro e w1 ⟨rfl, hb1⟩
  replace Sa := Sa.below hb1
  replace Sb := Sb.below hb1
  obtain ⟨za, ca0, ca1⟩ := id Sa
  obtain ⟨zb, cb0, cb1⟩ := id Sb
  replace hb := bstep hb hb1
  clear hb1
  go_wp2_with fail
  refine (Check_ok _ _ _ A.out).mono ?_
  rintro e w2 ⟨rfl, hb2⟩
  replace Sa := Sa.below hb2
  replace Sb := Sb.below hb2
  clear za ca0 ca1 zb cb0 cb1
  obtain ⟨za, ca0, ca1⟩ := id Sa
  obtain ⟨zb, cb0, cb1⟩ := id Sb
  replace hb := bstep hb hb2
  clear hb2
  go_wp2_with fail
  refine (Check_ok _ _ _ B.out).mono ?_
  rintro e w3 ⟨rfl, hb3⟩
  replace Sa := Sa.below hb3
  replace Sb := Sb.below hb3
  clear za ca0 ca1 zb cb0 cb1
  obtain ⟨za, ca0, ca1⟩ := id Sa
  obtain ⟨zb, cb0, cb1⟩ := id Sb
  replace hb := bstep hb hb3
  clear hb3
  go_wp2_with fail
  refine (Meet_ok _ _ _ _ _ A.out B.out M.out).mono ?_
  rintro e w4 ⟨rfl, hb4⟩
  replace Sa := Sa.below hb4
  replace Sb := Sb.below hb4
  clear za ca0 ca1 zb cb0 cb1
  obtain ⟨za, ca0, ca1⟩ := id Sa
  obtain ⟨zb, cb0, cb1⟩ := id Sb
  replace hb := bstep hb hb4
  clear hb4
  go_wp2_with fail
  refine (Cover_ok _ _ _ _ _ A.out B.out).mono ?_
  rintro e w5 ⟨rfl, hb5⟩
  replace Sa := (Sa.alloc (.cells #[.int .i64 (max al bl), .int .i64 (min ah bh)] 39)).below hb5
  replace Sb := (Sb.alloc (.cells #[.int .i64 (max al bl), .int .i64 (min ah bh)] 39)).below hb5
  have Sm := (Sp.new w4 (max al bl) (min ah bh)).below hb5
  clear za ca0 ca1 zb cb0 cb1
  obtain ⟨za, ca0, ca1⟩ := id Sa
  obtain ⟨zb, cb0, cb1⟩ := id Sb
  obtain ⟨zm, cm0, cm1⟩ := id Sm
  replace hb := bstep (balloc hb (.cells #[.int .i64 (max al bl), .int .i64 (min ah bh)] 39)) hb5
  clear hb5
  go_wp2_with fail
  refine (has_no _ _ _ _ ha.out).mono ?_
  rintro e w6 ⟨rfl, hb6⟩
  replace Sa := (Sa.alloc (.cells #[.int .i64 (min al bl), .int .i64 (max ah bh)] 39)).below hb6
  replace Sb := (Sb.alloc (.cells #[.int .i64 (min al bl), .int .i64 (max ah bh)] 39)).below hb6
  replace Sm := (Sm.alloc (.cells #[.int .i64 (min al bl), .int .i64 (max ah bh)] 39)).below hb6
  have Sc := (Sp.new w5 (min al bl) (max ah bh)).below hb6
  clear za ca0 ca1 zb cb0 cb1 zm cm0 cm1
  obtain ⟨za, ca0, ca1⟩ := id Sa
  obtain ⟨zb, cb0, cb1⟩ := id Sb
  obtain ⟨zm, cm0, cm1⟩ := id Sm
  obtain ⟨zc, cc0, cc1⟩ := id Sc
  replace hb := bstep (balloc hb (.cells #[.int .i64 (min al bl), .int .i64 (max ah bh)] 39)) hb6
  clear hb6
  go_wp2_with fail
  refine (has_no _ _ _ _ ha.out).mono ?_
  rintro e w7 ⟨rfl, hb7⟩
  replace Sa := Sa.below hb7
  replace Sb := Sb.below hb7
  replace Sm := Sm.below hb7
  replace Sc := Sc.below hb7
  clear za ca0 ca1 zb cb0 cb1 zm cm0 cm1 zc cc0 cc1
  obtain ⟨za, ca0, ca1⟩ := id Sa
  obtain ⟨zb, cb0, cb1⟩ := id Sb
  obtain ⟨zm, cm0, cm1⟩ := id Sm
  obtain ⟨zc, cc0, cc1⟩ := id Sc
  replace hb := bstep hb hb7
  clear hb7
  go_wp2_with fail
  refine (has_yes _ _ _ _ hbb.out).mono ?_
  rintro e w8 ⟨rfl, hb8⟩
  replace Sa := Sa.below hb8
  replace Sb := Sb.below hb8
  replace Sm := Sm.below hb8
  replace Sc := Sc.below hb8
  clear za ca0 ca1 zb cb0 cb1 zm cm0 cm1 zc cc0 cc1
  obtain ⟨za, ca0, ca1⟩ := id Sa
  obtain ⟨zb, cb0, cb1⟩ := id Sb
  obtain ⟨zm, cm0, cm1⟩ := id Sm
  obtain ⟨zc, cc0, cc1⟩ := id Sc
  replace hb := bstep hb hb8
  clear hb8
  go_wp2_with fail
  refine (has_yes _ _ _ _ (by have := hbb.out; omega)).mono ?_
  rintro e w9 ⟨rfl, hb9⟩
  replace Sa := Sa.below hb9
  replace Sb := Sb.below hb9
  replace Sm := Sm.below hb9
  replace Sc := Sc.below hb9
  clear za ca0 ca1 zb cb0 cb1 zm cm0 cm1 zc cc0 cc1
  obtain ⟨za, ca0, ca1⟩ := id Sa
  obtain ⟨zb, cb0, cb1⟩ := id Sb
  obtain ⟨zm, cm0, cm1⟩ := id Sm
  obtain ⟨zc, cc0, cc1⟩ := id Sc
  replace hb := bstep hb hb9
  clear hb9
  go_wp2_with fail
  refine (has_no _ _ _ _ (by have := ha.out; have := hbb.out; omega)).mono ?_
  rintro e w10 ⟨rfl, hb10⟩
  replace Sa := Sa.below hb10
  replace Sb := Sb.below hb10
  replace Sm := Sm.below hb10
  replace Sc := Sc.below hb10
  clear za ca0 ca1 zb cb0 cb1 zm cm0 cm1 zc cc0 cc1
  obtain ⟨za, ca0, ca1⟩ := id Sa
  obtain ⟨zb, cb0, cb1⟩ := id Sb
  obtain ⟨zm, cm0, cm1⟩ := id Sm
  obtain ⟨zc, cc0, cc1⟩ := id Sc
  replace hb := bstep hb hb10
  clear hb10
  go_wp2_with fail
  refine (Meet_ok _ _ _ _ _ B.out A.out (by have := M.out; omega)).mono ?_
  rintro e w11 ⟨rfl, hb11⟩
  replace Sa := Sa.below hb11
  replace Sb := Sb.below hb11
  replace Sm := Sm.below hb11
  replace Sc := Sc.below hb11
  clear za ca0 ca1 zb cb0 cb1 zm cm0 cm1 zc cc0 cc1
  obtain ⟨za, ca0, ca1⟩ := id Sa
  obtain ⟨zb, cb0, cb1⟩ := id Sb
  obtain ⟨zm, cm0, cm1⟩ := id Sm
  obtain ⟨zc, cc0, cc1⟩ := id Sc
  replace hb := bstep hb hb11
  clear hb11
  go_wp2_with fail
  refine (Cover_ok _ _ _ _ _ B.out A.out).mono ?_
  rintro e w12 ⟨rfl, hb12⟩
  replace Sa := (Sa.alloc (.cells #[.int .i64 (max bl al), .int .i64 (min bh ah)] 39)).below hb12
  replace Sb := (Sb.alloc (.cells #[.int .i64 (max bl al), .int .i64 (min bh ah)] 39)).below hb12
  replace Sm := (Sm.alloc (.cells #[.int .i64 (max bl al), .int .i64 (min bh ah)] 39)).below hb12
  replace Sc := (Sc.alloc (.cells #[.int .i64 (max bl al), .int .i64 (min bh ah)] 39)).below hb12
  have Sn := (Sp.new w11 (max bl al) (min bh ah)).below hb12
  clear za ca0 ca1 zb cb0 cb1 zm cm0 cm1 zc cc0 cc1
  obtain ⟨za, ca0, ca1⟩ := id Sa
  obtain ⟨zb, cb0, cb1⟩ := id Sb
  obtain ⟨zm, cm0, cm1⟩ := id Sm
  obtain ⟨zc, cc0, cc1⟩ := id Sc
  obtain ⟨zn, cn0, cn1⟩ := id Sn
  replace hb := bstep (balloc hb (.cells #[.int .i64 (max bl al), .int .i64 (min bh ah)] 39)) hb12
  clear hb12
  go_wp2_with fail
  have q1 : (max bl al) = (max al bl) := Int.max_comm _ _
  have q2 : (min bh ah) = (min ah bh) := Int.min_comm _ _
  have q3 : (min bl al) = (min al bl) := Int.min_comm _ _
  have q4 : (max bh ah) = (max ah bh) := Int.max_comm _ _
  have q5 : max al (min al bl) = al := by omega
  have q6 : min ah (max ah bh) = ah := by omega
  refine (Meet_ok _ _ _ _ _ A.out Cc.out (by have := A.out; unfold okS at this; omega)).mono ?_
  rintro e w13 ⟨rfl, hb13⟩
  replace Sa := (Sa.alloc (.cells #[.int .i64 (min bl al), .int .i64 (max bh ah)] 39)).below hb13
  replace Sb := (Sb.alloc (.cells #[.int .i64 (min bl al), .int .i64 (max bh ah)] 39)).below hb13
  replace Sm := (Sm.alloc (.cells #[.int .i64 (min bl al), .int .i64 (max bh ah)] 39)).below hb13
  replace Sc := (Sc.alloc (.cells #[.int .i64 (min bl al), .int .i64 (max bh ah)] 39)).below hb13
  replace Sn := (Sn.alloc (.cells #[.int .i64 (min bl al), .int .i64 (max bh ah)] 39)).below hb13
  have Sk := (Sp.new w12 (min bl al) (max bh ah)).below hb13
  clear za ca0 ca1 zb cb0 cb1 zm cm0 cm1 zc cc0 cc1 zn cn0 cn1
  obtain ⟨za, ca0, ca1⟩ := id Sa
  obtain ⟨zb, cb0, cb1⟩ := id Sb
  obtain ⟨zm, cm0, cm1⟩ := id Sm
  obtain ⟨zc, cc0, cc1⟩ := id Sc
  obtain ⟨zn, cn0, cn1⟩ := id Sn
  obtain ⟨zk, ck0, ck1⟩ := id Sk
  replace hb := bstep (balloc hb (.cells #[.int .i64 (min bl al), .int .i64 (max bh ah)] 39)) hb13
  clear hb13
  go_wp2_with fail
  by_cases d1 : d < -2305843009213693952
  · have g1 : decide (d < -2305843009213693952) = true := decide_eq_true d1
    refine (Shift_range _ _ _ _ A.out (by omega)).mono ?_
    rintro e w14 ⟨rfl, hb14⟩
    replace Sa := (Sa.alloc (.cells #[.int .i64 (al), .int .i64 (ah)] 39)).below hb14
    replace Sb := (Sb.alloc (.cells #[.int .i64 (al), .int .i64 (ah)] 39)).below hb14
    replace Sm := (Sm.alloc (.cells #[.int .i64 (al), .int .i64 (ah)] 39)).below hb14
    replace Sc := (Sc.alloc (.cells #[.int .i64 (al), .int .i64 (ah)] 39)).below hb14
    replace Sn := (Sn.alloc (.cells #[.int .i64 (al), .int .i64 (ah)] 39)).below hb14
    replace Sk := (Sk.alloc (.cells #[.int .i64 (al), .int .i64 (ah)] 39)).below hb14
    have So := (Sp.new w13 (al) (ah)).below hb14
    clear za ca0 ca1 zb cb0 cb1 zm cm0 cm1 zc cc0 cc1 zn cn0 cn1 zk ck0 ck1
    obtain ⟨za, ca0, ca1⟩ := id Sa
    obtain ⟨zb, cb0, cb1⟩ := id Sb
    obtain ⟨zm, cm0, cm1⟩ := id Sm
    obtain ⟨zc, cc0, cc1⟩ := id Sc
    obtain ⟨zn, cn0, cn1⟩ := id Sn
    obtain ⟨zk, ck0, ck1⟩ := id Sk
    obtain ⟨zo, co0, co1⟩ := id So
    replace hb := bstep (balloc hb (.cells #[.int .i64 (al), .int .i64 (ah)] 39)) hb14
    clear hb14
    go_wp2_with fail
    go_ret
    exact ⟨rfl, balloc hb _⟩
  have g1 : decide (d < -2305843009213693952) = false := decide_eq_false d1
  by_cases d2 : 2305843009213693952 < d
  · have g2 : decide (2305843009213693952 < d) = true := decide_eq_true d2
    refine (Shift_range _ _ _ _ A.out (by omega)).mono ?_
    rintro e w14 ⟨rfl, hb14⟩
    replace Sa := (Sa.alloc (.cells #[.int .i64 (al), .int .i64 (ah)] 39)).below hb14
    replace Sb := (Sb.alloc (.cells #[.int .i64 (al), .int .i64 (ah)] 39)).below hb14
    replace Sm := (Sm.alloc (.cells #[.int .i64 (al), .int .i64 (ah)] 39)).below hb14
    replace Sc := (Sc.alloc (.cells #[.int .i64 (al), .int .i64 (ah)] 39)).below hb14
    replace Sn := (Sn.alloc (.cells #[.int .i64 (al), .int .i64 (ah)] 39)).below hb14
    replace Sk := (Sk.alloc (.cells #[.int .i64 (al), .int .i64 (ah)] 39)).below hb14
    have So := (Sp.new w13 (al) (ah)).below hb14
    clear za ca0 ca1 zb cb0 cb1 zm cm0 cm1 zc cc0 cc1 zn cn0 cn1 zk ck0 ck1
    obtain ⟨za, ca0, ca1⟩ := id Sa
    obtain ⟨zb, cb0, cb1⟩ := id Sb
    obtain ⟨zm, cm0, cm1⟩ := id Sm
    obtain ⟨zc, cc0, cc1⟩ := id Sc
    obtain ⟨zn, cn0, cn1⟩ := id Sn
    obtain ⟨zk, ck0, ck1⟩ := id Sk
    obtain ⟨zo, co0, co1⟩ := id So
    replace hb := bstep (balloc hb (.cells #[.int .i64 (al), .int .i64 (ah)] 39)) hb14
    clear hb14
    go_wp2_with fail
    go_ret
    exact ⟨rfl, balloc hb _⟩
  have g2 : decide (2305843009213693952 < d) = false := decide_eq_false d2
  by_cases t1 : -2305843009213693952 ≤ t ∧ t ≤ 2305843009213693952
  · obtain ⟨t1, t2⟩ := t1
    refine (Shift_ok _ _ _ _ A.out (by omega) (by omega)).mono ?_
    rintro e w14 ⟨rfl, hb14⟩
    replace Sa := (Sa.alloc (.cells #[.int .i64 (al), .int .i64 (ah)] 39)).below hb14
    replace Sb := (Sb.alloc (.cells #[.int .i64 (al), .int .i64 (ah)] 39)).below hb14
    replace Sm := (Sm.alloc (.cells #[.int .i64 (al), .int .i64 (ah)] 39)).below hb14
    replace Sc := (Sc.alloc (.cells #[.int .i64 (al), .int .i64 (ah)] 39)).below hb14
    replace Sn := (Sn.alloc (.cells #[.int .i64 (al), .int .i64 (ah)] 39)).below hb14
    replace Sk := (Sk.alloc (.cells #[.int .i64 (al), .int .i64 (ah)] 39)).below hb14
    have So := (Sp.new w13 (al) (ah)).below hb14
    clear za ca0 ca1 zb cb0 cb1 zm cm0 cm1 zc cc0 cc1 zn cn0 cn1 zk ck0 ck1
    obtain ⟨za, ca0, ca1⟩ := id Sa
    obtain ⟨zb, cb0, cb1⟩ := id Sb
    obtain ⟨zm, cm0, cm1⟩ := id Sm
    obtain ⟨zc, cc0, cc1⟩ := id Sc
    obtain ⟨zn, cn0, cn1⟩ := id Sn
    obtain ⟨zk, ck0, ck1⟩ := id Sk
    obtain ⟨zo, co0, co1⟩ := id So
    replace hb := bstep (balloc hb (.cells #[.int .i64 (al), .int .i64 (ah)] 39)) hb14
    clear hb14
    go_wp2_with fail
    refine (Sum_ok _ _ _ (by omega) (by omega)).mono ?_
    rintro e w' ⟨rfl, rfl⟩
    go_wp2_with fail
    refine (has_no _ _ _ _ ha.out).mono ?_
    rintro e w16 ⟨rfl, hb16⟩
    replace Sa := (Sa.alloc (.cells #[.int .i64 (shl al d), .int .i64 (shh ah d)] 39)).below hb16
    replace Sb := (Sb.alloc (.cells #[.int .i64 (shl al d), .int .i64 (shh ah d)] 39)).below hb16
    replace Sm := (Sm.alloc (.cells #[.int .i64 (shl al d), .int .i64 (shh ah d)] 39)).below hb16
    replace Sc := (Sc.alloc (.cells #[.int .i64 (shl al d), .int .i64 (shh ah d)] 39)).below hb16
    replace Sn := (Sn.alloc (.cells #[.int .i64 (shl al d), .int .i64 (shh ah d)] 39)).below hb16
    replace Sk := (Sk.alloc (.cells #[.int .i64 (shl al d), .int .i64 (shh ah d)] 39)).below hb16
    replace So := (So.alloc (.cells #[.int .i64 (shl al d), .int .i64 (shh ah d)] 39)).below hb16
    have Ss := (Sp.new w14 (shl al d) (shh ah d)).below hb16
    clear za ca0 ca1 zb cb0 cb1 zm cm0 cm1 zc cc0 cc1 zn cn0 cn1 zk ck0 ck1 zo co0 co1
    obtain ⟨za, ca0, ca1⟩ := id Sa
    obtain ⟨zb, cb0, cb1⟩ := id Sb
    obtain ⟨zm, cm0, cm1⟩ := id Sm
    obtain ⟨zc, cc0, cc1⟩ := id Sc
    obtain ⟨zn, cn0, cn1⟩ := id Sn
    obtain ⟨zk, ck0, ck1⟩ := id Sk
    obtain ⟨zo, co0, co1⟩ := id So
    obtain ⟨zs, cs0, cs1⟩ := id Ss
    replace hb := bstep (balloc hb (.cells #[.int .i64 (shl al d), .int .i64 (shh ah d)] 39)) hb16
    clear hb16
    go_wp2_with fail
    go_ret
    exact ⟨rfl, hb⟩
  · refine (Shift_ok _ _ _ _ A.out (by omega) (by omega)).mono ?_
    rintro e w14 ⟨rfl, hb14⟩
    replace Sa := (Sa.alloc (.cells #[.int .i64 (al), .int .i64 (ah)] 39)).below hb14
    replace Sb := (Sb.alloc (.cells #[.int .i64 (al), .int .i64 (ah)] 39)).below hb14
    replace Sm := (Sm.alloc (.cells #[.int .i64 (al), .int .i64 (ah)] 39)).below hb14
    replace Sc := (Sc.alloc (.cells #[.int .i64 (al), .int .i64 (ah)] 39)).below hb14
    replace Sn := (Sn.alloc (.cells #[.int .i64 (al), .int .i64 (ah)] 39)).below hb14
    replace Sk := (Sk.alloc (.cells #[.int .i64 (al), .int .i64 (ah)] 39)).below hb14
    have So := (Sp.new w13 (al) (ah)).below hb14
    clear za ca0 ca1 zb cb0 cb1 zm cm0 cm1 zc cc0 cc1 zn cn0 cn1 zk ck0 ck1
    obtain ⟨za, ca0, ca1⟩ := id Sa
    obtain ⟨zb, cb0, cb1⟩ := id Sb
    obtain ⟨zm, cm0, cm1⟩ := id Sm
    obtain ⟨zc, cc0, cc1⟩ := id Sc
    obtain ⟨zn, cn0, cn1⟩ := id Sn
    obtain ⟨zk, ck0, ck1⟩ := id Sk
    obtain ⟨zo, co0, co1⟩ := id So
    replace hb := bstep (balloc hb (.cells #[.int .i64 (al), .int .i64 (ah)] 39)) hb14
    clear hb14
    go_wp2_with fail
    refine (Sum_bad _ _ _ (by omega)).mono ?_
    rintro e w' ⟨rfl, rfl⟩
    go_wp2_with fail
    go_ret
    exact ⟨rfl, balloc hb _⟩

set_option maxRecDepth 100000 in
set_option maxHeartbeats 4000000 in
theorem walk_ny_none (al ah bl bh t d : Int) (w : World) (A : Hid (okS al ah)) (B : Hid (okS bl bh)) (ha : Hid (¬ (al ≤ t ∧ t ≤ ah))) (hbb : Hid (bl ≤ t ∧ t ≤ bh)) (M : Hid (min ah bh < max al bl)) :
    Calls Try.prog 8 #[.agg #[.int .i64 al, .int .i64 ah], .agg #[.int .i64 bl, .int .i64 bh], .int .i64 t, .int .i64 d] w fun e w' => e = .returned (.bool true) ∧ Below w.heap.size w w' := by
  have Cc : Hid (okS (min al bl) (max ah bh)) := by have a := A.out; have b := B.out; unfold Hid okS at *; omega
  go_enter Try.func8, Try.ntmps8
  go_wp2_with fail
  have hb : Below w.heap.size w ((w.alloc (.cells #[.int .i64 al, .int .i64 ah] 39)).alloc (.cells #[.int .i64 bl, .int .i64 bh] 39)) := balloc (balloc (brefl w) _) _
  have Sa := (Sp.new w al ah).alloc (.cells #[.int .i64 bl, .int .i64 bh] 39)
  have Sb := Sp.new1 w (.cells #[.int .i64 al, .int .i64 ah] 39) bl bh
  refine (awake_c _).mono ?_
  rintro e w1 ⟨rfl, hb1⟩
  replace Sa := Sa.below hb1
  replace Sb := Sb.below hb1
  obtain ⟨za, ca0, ca1⟩ := id Sa
  obtain ⟨zb, cb0, cb1⟩ := id Sb
  replace hb := bstep hb hb1
  clear hb1
  go_wp2_with fail
  refine (Check_ok _ _ _ A.out).mono ?_
  rintro e w2 ⟨rfl, hb2⟩
  replace Sa := Sa.below hb2
  replace Sb := Sb.below hb2
  clear za ca0 ca1 zb cb0 cb1
  obtain ⟨za, ca0, ca1⟩ := id Sa
  obtain ⟨zb, cb0, cb1⟩ := id Sb
  replace hb := bstep hb hb2
  clear hb2
  go_wp2_with fail
  refine (Check_ok _ _ _ B.out).mono ?_
  rintro e w3 ⟨rfl, hb3⟩
  replace Sa := Sa.below hb3
  replace Sb := Sb.below hb3
  clear za ca0 ca1 zb cb0 cb1
  obtain ⟨za, ca0, ca1⟩ := id Sa
  obtain ⟨zb, cb0, cb1⟩ := id Sb
  replace hb := bstep hb hb3
  clear hb3
  go_wp2_with fail
  refine (Meet_none _ _ _ _ _ A.out B.out M.out).mono ?_
  rintro e w4 ⟨rfl, hb4⟩
  replace Sa := Sa.below hb4
  replace Sb := Sb.below hb4
  clear za ca0 ca1 zb cb0 cb1
  obtain ⟨za, ca0, ca1⟩ := id Sa
  obtain ⟨zb, cb0, cb1⟩ := id Sb
  replace hb := bstep hb hb4
  clear hb4
  go_wp2_with fail
  refine (Cover_ok _ _ _ _ _ A.out B.out).mono ?_
  rintro e w5 ⟨rfl, hb5⟩
  replace Sa := (Sa.alloc (.cells #[.int .i64 (0), .int .i64 (0)] 39)).below hb5
  replace Sb := (Sb.alloc (.cells #[.int .i64 (0), .int .i64 (0)] 39)).below hb5
  have Sm := (Sp.new w4 (0) (0)).below hb5
  clear za ca0 ca1 zb cb0 cb1
  obtain ⟨za, ca0, ca1⟩ := id Sa
  obtain ⟨zb, cb0, cb1⟩ := id Sb
  obtain ⟨zm, cm0, cm1⟩ := id Sm
  replace hb := bstep (balloc hb (.cells #[.int .i64 (0), .int .i64 (0)] 39)) hb5
  clear hb5
  go_wp2_with fail
  refine (has_no _ _ _ _ ha.out).mono ?_
  rintro e w6 ⟨rfl, hb6⟩
  replace Sa := (Sa.alloc (.cells #[.int .i64 (min al bl), .int .i64 (max ah bh)] 39)).below hb6
  replace Sb := (Sb.alloc (.cells #[.int .i64 (min al bl), .int .i64 (max ah bh)] 39)).below hb6
  replace Sm := (Sm.alloc (.cells #[.int .i64 (min al bl), .int .i64 (max ah bh)] 39)).below hb6
  have Sc := (Sp.new w5 (min al bl) (max ah bh)).below hb6
  clear za ca0 ca1 zb cb0 cb1 zm cm0 cm1
  obtain ⟨za, ca0, ca1⟩ := id Sa
  obtain ⟨zb, cb0, cb1⟩ := id Sb
  obtain ⟨zm, cm0, cm1⟩ := id Sm
  obtain ⟨zc, cc0, cc1⟩ := id Sc
  replace hb := bstep (balloc hb (.cells #[.int .i64 (min al bl), .int .i64 (max ah bh)] 39)) hb6
  clear hb6
  go_wp2_with fail
  refine (has_no _ _ _ _ ha.out).mono ?_
  rintro e w7 ⟨rfl, hb7⟩
  replace Sa := Sa.below hb7
  replace Sb := Sb.below hb7
  replace Sm := Sm.below hb7
  replace Sc := Sc.below hb7
  clear za ca0 ca1 zb cb0 cb1 zm cm0 cm1 zc cc0 cc1
  obtain ⟨za, ca0, ca1⟩ := id Sa
  obtain ⟨zb, cb0, cb1⟩ := id Sb
  obtain ⟨zm, cm0, cm1⟩ := id Sm
  obtain ⟨zc, cc0, cc1⟩ := id Sc
  replace hb := bstep hb hb7
  clear hb7
  go_wp2_with fail
  refine (has_yes _ _ _ _ hbb.out).mono ?_
  rintro e w8 ⟨rfl, hb8⟩
  replace Sa := Sa.below hb8
  replace Sb := Sb.below hb8
  replace Sm := Sm.below hb8
  replace Sc := Sc.below hb8
  clear za ca0 ca1 zb cb0 cb1 zm cm0 cm1 zc cc0 cc1
  obtain ⟨za, ca0, ca1⟩ := id Sa
  obtain ⟨zb, cb0, cb1⟩ := id Sb
  obtain ⟨zm, cm0, cm1⟩ := id Sm
  obtain ⟨zc, cc0, cc1⟩ := id Sc
  replace hb := bstep hb hb8
  clear hb8
  go_wp2_with fail
  refine (has_yes _ _ _ _ (by have := hbb.out; omega)).mono ?_
  rintro e w9 ⟨rfl, hb9⟩
  replace Sa := Sa.below hb9
  replace Sb := Sb.below hb9
  replace Sm := Sm.below hb9
  replace Sc := Sc.below hb9
  clear za ca0 ca1 zb cb0 cb1 zm cm0 cm1 zc cc0 cc1
  obtain ⟨za, ca0, ca1⟩ := id Sa
  obtain ⟨zb, cb0, cb1⟩ := id Sb
  obtain ⟨zm, cm0, cm1⟩ := id Sm
  obtain ⟨zc, cc0, cc1⟩ := id Sc
  replace hb := bstep hb hb9
  clear hb9
  go_wp2_with fail
  refine (Meet_none _ _ _ _ _ B.out A.out (by have := M.out; omega)).mono ?_
  rintro e w10 ⟨rfl, hb10⟩
  replace Sa := Sa.below hb10
  replace Sb := Sb.below hb10
  replace Sm := Sm.below hb10
  replace Sc := Sc.below hb10
  clear za ca0 ca1 zb cb0 cb1 zm cm0 cm1 zc cc0 cc1
  obtain ⟨za, ca0, ca1⟩ := id Sa
  obtain ⟨zb, cb0, cb1⟩ := id Sb
  obtain ⟨zm, cm0, cm1⟩ := id Sm
  obtain ⟨zc, cc0, cc1⟩ := id Sc
  replace hb := bstep hb hb10
  clear hb10
  go_wp2_with fail
  refine (Cover_ok _ _ _ _ _ B.out A.out).mono ?_
  rintro e w11 ⟨rfl, hb11⟩
  replace Sa := (Sa.alloc (.cells #[.int .i64 (0), .int .i64 (0)] 39)).below hb11
  replace Sb := (Sb.alloc (.cells #[.int .i64 (0), .int .i64 (0)] 39)).below hb11
  replace Sm := (Sm.alloc (.cells #[.int .i64 (0), .int .i64 (0)] 39)).below hb11
  replace Sc := (Sc.alloc (.cells #[.int .i64 (0), .int .i64 (0)] 39)).below hb11
  have Sn := (Sp.new w10 (0) (0)).below hb11
  clear za ca0 ca1 zb cb0 cb1 zm cm0 cm1 zc cc0 cc1
  obtain ⟨za, ca0, ca1⟩ := id Sa
  obtain ⟨zb, cb0, cb1⟩ := id Sb
  obtain ⟨zm, cm0, cm1⟩ := id Sm
  obtain ⟨zc, cc0, cc1⟩ := id Sc
  obtain ⟨zn, cn0, cn1⟩ := id Sn
  replace hb := bstep (balloc hb (.cells #[.int .i64 (0), .int .i64 (0)] 39)) hb11
  clear hb11
  go_wp2_with fail
  have q1 : (max bl al) = (max al bl) := Int.max_comm _ _
  have q2 : (min bh ah) = (min ah bh) := Int.min_comm _ _
  have q3 : (min bl al) = (min al bl) := Int.min_comm _ _
  have q4 : (max bh ah) = (max ah bh) := Int.max_comm _ _
  have q5 : max al (min al bl) = al := by omega
  have q6 : min ah (max ah bh) = ah := by omega
  refine (Meet_ok _ _ _ _ _ A.out Cc.out (by have := A.out; unfold okS at this; omega)).mono ?_
  rintro e w12 ⟨rfl, hb12⟩
  replace Sa := (Sa.alloc (.cells #[.int .i64 (min bl al), .int .i64 (max bh ah)] 39)).below hb12
  replace Sb := (Sb.alloc (.cells #[.int .i64 (min bl al), .int .i64 (max bh ah)] 39)).below hb12
  replace Sm := (Sm.alloc (.cells #[.int .i64 (min bl al), .int .i64 (max bh ah)] 39)).below hb12
  replace Sc := (Sc.alloc (.cells #[.int .i64 (min bl al), .int .i64 (max bh ah)] 39)).below hb12
  replace Sn := (Sn.alloc (.cells #[.int .i64 (min bl al), .int .i64 (max bh ah)] 39)).below hb12
  have Sk := (Sp.new w11 (min bl al) (max bh ah)).below hb12
  clear za ca0 ca1 zb cb0 cb1 zm cm0 cm1 zc cc0 cc1 zn cn0 cn1
  obtain ⟨za, ca0, ca1⟩ := id Sa
  obtain ⟨zb, cb0, cb1⟩ := id Sb
  obtain ⟨zm, cm0, cm1⟩ := id Sm
  obtain ⟨zc, cc0, cc1⟩ := id Sc
  obtain ⟨zn, cn0, cn1⟩ := id Sn
  obtain ⟨zk, ck0, ck1⟩ := id Sk
  replace hb := bstep (balloc hb (.cells #[.int .i64 (min bl al), .int .i64 (max bh ah)] 39)) hb12
  clear hb12
  go_wp2_with fail
  by_cases d1 : d < -2305843009213693952
  · have g1 : decide (d < -2305843009213693952) = true := decide_eq_true d1
    refine (Shift_range _ _ _ _ A.out (by omega)).mono ?_
    rintro e w13 ⟨rfl, hb13⟩
    replace Sa := (Sa.alloc (.cells #[.int .i64 (al), .int .i64 (ah)] 39)).below hb13
    replace Sb := (Sb.alloc (.cells #[.int .i64 (al), .int .i64 (ah)] 39)).below hb13
    replace Sm := (Sm.alloc (.cells #[.int .i64 (al), .int .i64 (ah)] 39)).below hb13
    replace Sc := (Sc.alloc (.cells #[.int .i64 (al), .int .i64 (ah)] 39)).below hb13
    replace Sn := (Sn.alloc (.cells #[.int .i64 (al), .int .i64 (ah)] 39)).below hb13
    replace Sk := (Sk.alloc (.cells #[.int .i64 (al), .int .i64 (ah)] 39)).below hb13
    have So := (Sp.new w12 (al) (ah)).below hb13
    clear za ca0 ca1 zb cb0 cb1 zm cm0 cm1 zc cc0 cc1 zn cn0 cn1 zk ck0 ck1
    obtain ⟨za, ca0, ca1⟩ := id Sa
    obtain ⟨zb, cb0, cb1⟩ := id Sb
    obtain ⟨zm, cm0, cm1⟩ := id Sm
    obtain ⟨zc, cc0, cc1⟩ := id Sc
    obtain ⟨zn, cn0, cn1⟩ := id Sn
    obtain ⟨zk, ck0, ck1⟩ := id Sk
    obtain ⟨zo, co0, co1⟩ := id So
    replace hb := bstep (balloc hb (.cells #[.int .i64 (al), .int .i64 (ah)] 39)) hb13
    clear hb13
    go_wp2_with fail
    go_ret
    exact ⟨rfl, balloc hb _⟩
  have g1 : decide (d < -2305843009213693952) = false := decide_eq_false d1
  by_cases d2 : 2305843009213693952 < d
  · have g2 : decide (2305843009213693952 < d) = true := decide_eq_true d2
    refine (Shift_range _ _ _ _ A.out (by omega)).mono ?_
    rintro e w13 ⟨rfl, hb13⟩
    replace Sa := (Sa.alloc (.cells #[.int .i64 (al), .int .i64 (ah)] 39)).below hb13
    replace Sb := (Sb.alloc (.cells #[.int .i64 (al), .int .i64 (ah)] 39)).below hb13
    replace Sm := (Sm.alloc (.cells #[.int .i64 (al), .int .i64 (ah)] 39)).below hb13
    replace Sc := (Sc.alloc (.cells #[.int .i64 (al), .int .i64 (ah)] 39)).below hb13
    replace Sn := (Sn.alloc (.cells #[.int .i64 (al), .int .i64 (ah)] 39)).below hb13
    replace Sk := (Sk.alloc (.cells #[.int .i64 (al), .int .i64 (ah)] 39)).below hb13
    have So := (Sp.new w12 (al) (ah)).below hb13
    clear za ca0 ca1 zb cb0 cb1 zm cm0 cm1 zc cc0 cc1 zn cn0 cn1 zk ck0 ck1
    obtain ⟨za, ca0, ca1⟩ := id Sa
    obtain ⟨zb, cb0, cb1⟩ := id Sb
    obtain ⟨zm, cm0, cm1⟩ := id Sm
    obtain ⟨zc, cc0, cc1⟩ := id Sc
    obtain ⟨zn, cn0, cn1⟩ := id Sn
    obtain ⟨zk, ck0, ck1⟩ := id Sk
    obtain ⟨zo, co0, co1⟩ := id So
    replace hb := bstep (balloc hb (.cells #[.int .i64 (al), .int .i64 (ah)] 39)) hb13
    clear hb13
    go_wp2_with fail
    go_ret
    exact ⟨rfl, balloc hb _⟩
  have g2 : decide (2305843009213693952 < d) = false := decide_eq_false d2
  by_cases t1 : -2305843009213693952 ≤ t ∧ t ≤ 2305843009213693952
  · obtain ⟨t1, t2⟩ := t1
    refine (Shift_ok _ _ _ _ A.out (by omega) (by omega)).mono ?_
    rintro e w13 ⟨rfl, hb13⟩
    replace Sa := (Sa.alloc (.cells #[.int .i64 (al), .int .i64 (ah)] 39)).below hb13
    replace Sb := (Sb.alloc (.cells #[.int .i64 (al), .int .i64 (ah)] 39)).below hb13
    replace Sm := (Sm.alloc (.cells #[.int .i64 (al), .int .i64 (ah)] 39)).below hb13
    replace Sc := (Sc.alloc (.cells #[.int .i64 (al), .int .i64 (ah)] 39)).below hb13
    replace Sn := (Sn.alloc (.cells #[.int .i64 (al), .int .i64 (ah)] 39)).below hb13
    replace Sk := (Sk.alloc (.cells #[.int .i64 (al), .int .i64 (ah)] 39)).below hb13
    have So := (Sp.new w12 (al) (ah)).below hb13
    clear za ca0 ca1 zb cb0 cb1 zm cm0 cm1 zc cc0 cc1 zn cn0 cn1 zk ck0 ck1
    obtain ⟨za, ca0, ca1⟩ := id Sa
    obtain ⟨zb, cb0, cb1⟩ := id Sb
    obtain ⟨zm, cm0, cm1⟩ := id Sm
    obtain ⟨zc, cc0, cc1⟩ := id Sc
    obtain ⟨zn, cn0, cn1⟩ := id Sn
    obtain ⟨zk, ck0, ck1⟩ := id Sk
    obtain ⟨zo, co0, co1⟩ := id So
    replace hb := bstep (balloc hb (.cells #[.int .i64 (al), .int .i64 (ah)] 39)) hb13
    clear hb13
    go_wp2_with fail
    refine (Sum_ok _ _ _ (by omega) (by omega)).mono ?_
    rintro e w' ⟨rfl, rfl⟩
    go_wp2_with fail
    refine (has_no _ _ _ _ ha.out).mono ?_
    rintro e w15 ⟨rfl, hb15⟩
    replace Sa := (Sa.alloc (.cells #[.int .i64 (shl al d), .int .i64 (shh ah d)] 39)).below hb15
    replace Sb := (Sb.alloc (.cells #[.int .i64 (shl al d), .int .i64 (shh ah d)] 39)).below hb15
    replace Sm := (Sm.alloc (.cells #[.int .i64 (shl al d), .int .i64 (shh ah d)] 39)).below hb15
    replace Sc := (Sc.alloc (.cells #[.int .i64 (shl al d), .int .i64 (shh ah d)] 39)).below hb15
    replace Sn := (Sn.alloc (.cells #[.int .i64 (shl al d), .int .i64 (shh ah d)] 39)).below hb15
    replace Sk := (Sk.alloc (.cells #[.int .i64 (shl al d), .int .i64 (shh ah d)] 39)).below hb15
    replace So := (So.alloc (.cells #[.int .i64 (shl al d), .int .i64 (shh ah d)] 39)).below hb15
    have Ss := (Sp.new w13 (shl al d) (shh ah d)).below hb15
    clear za ca0 ca1 zb cb0 cb1 zm cm0 cm1 zc cc0 cc1 zn cn0 cn1 zk ck0 ck1 zo co0 co1
    obtain ⟨za, ca0, ca1⟩ := id Sa
    obtain ⟨zb, cb0, cb1⟩ := id Sb
    obtain ⟨zm, cm0, cm1⟩ := id Sm
    obtain ⟨zc, cc0, cc1⟩ := id Sc
    obtain ⟨zn, cn0, cn1⟩ := id Sn
    obtain ⟨zk, ck0, ck1⟩ := id Sk
    obtain ⟨zo, co0, co1⟩ := id So
    obtain ⟨zs, cs0, cs1⟩ := id Ss
    replace hb := bstep (balloc hb (.cells #[.int .i64 (shl al d), .int .i64 (shh ah d)] 39)) hb15
    clear hb15
    go_wp2_with fail
    go_ret
    exact ⟨rfl, hb⟩
  · refine (Shift_ok _ _ _ _ A.out (by omega) (by omega)).mono ?_
    rintro e w13 ⟨rfl, hb13⟩
    replace Sa := (Sa.alloc (.cells #[.int .i64 (al), .int .i64 (ah)] 39)).below hb13
    replace Sb := (Sb.alloc (.cells #[.int .i64 (al), .int .i64 (ah)] 39)).below hb13
    replace Sm := (Sm.alloc (.cells #[.int .i64 (al), .int .i64 (ah)] 39)).below hb13
    replace Sc := (Sc.alloc (.cells #[.int .i64 (al), .int .i64 (ah)] 39)).below hb13
    replace Sn := (Sn.alloc (.cells #[.int .i64 (al), .int .i64 (ah)] 39)).below hb13
    replace Sk := (Sk.alloc (.cells #[.int .i64 (al), .int .i64 (ah)] 39)).below hb13
    have So := (Sp.new w12 (al) (ah)).below hb13
    clear za ca0 ca1 zb cb0 cb1 zm cm0 cm1 zc cc0 cc1 zn cn0 cn1 zk ck0 ck1
    obtain ⟨za, ca0, ca1⟩ := id Sa
    obtain ⟨zb, cb0, cb1⟩ := id Sb
    obtain ⟨zm, cm0, cm1⟩ := id Sm
    obtain ⟨zc, cc0, cc1⟩ := id Sc
    obtain ⟨zn, cn0, cn1⟩ := id Sn
    obtain ⟨zk, ck0, ck1⟩ := id Sk
    obtain ⟨zo, co0, co1⟩ := id So
    replace hb := bstep (balloc hb (.cells #[.int .i64 (al), .int .i64 (ah)] 39)) hb13
    clear hb13
    go_wp2_with fail
    refine (Sum_bad _ _ _ (by omega)).mono ?_
    rintro e w' ⟨rfl, rfl⟩
    go_wp2_with fail
    go_ret
    exact ⟨rfl, balloc hb _⟩

set_option maxRecDepth 100000 in
set_option maxHeartbeats 4000000 in
theorem walk_nn_ok (al ah bl bh t d : Int) (w : World) (A : Hid (okS al ah)) (B : Hid (okS bl bh)) (ha : Hid (¬ (al ≤ t ∧ t ≤ ah))) (hbb : Hid (¬ (bl ≤ t ∧ t ≤ bh))) (M : Hid (max al bl ≤ min ah bh)) :
    Calls Try.prog 8 #[.agg #[.int .i64 al, .int .i64 ah], .agg #[.int .i64 bl, .int .i64 bh], .int .i64 t, .int .i64 d] w fun e w' => e = .returned (.bool true) ∧ Below w.heap.size w w' := by
  have Cc : Hid (okS (min al bl) (max ah bh)) := by have a := A.out; have b := B.out; unfold Hid okS at *; omega
  go_enter Try.func8, Try.ntmps8
  go_wp2_with fail
  have hb : Below w.heap.size w ((w.alloc (.cells #[.int .i64 al, .int .i64 ah] 39)).alloc (.cells #[.int .i64 bl, .int .i64 bh] 39)) := balloc (balloc (brefl w) _) _
  have Sa := (Sp.new w al ah).alloc (.cells #[.int .i64 bl, .int .i64 bh] 39)
  have Sb := Sp.new1 w (.cells #[.int .i64 al, .int .i64 ah] 39) bl bh
  refine (awake_c _).mono ?_
  rintro e w1 ⟨rfl, hb1⟩
  replace Sa := Sa.below hb1
  replace Sb := Sb.below hb1
  obtain ⟨za, ca0, ca1⟩ := id Sa
  obtain ⟨zb, cb0, cb1⟩ := id Sb
  replace hb := bstep hb hb1
  clear hb1
  go_wp2_with fail
  refine (Check_ok _ _ _ A.out).mono ?_
  rintro e w2 ⟨rfl, hb2⟩
  replace Sa := Sa.below hb2
  replace Sb := Sb.below hb2
  clear za ca0 ca1 zb cb0 cb1
  obtain ⟨za, ca0, ca1⟩ := id Sa
  obtain ⟨zb, cb0, cb1⟩ := id Sb
  replace hb := bstep hb hb2
  clear hb2
  go_wp2_with fail
  refine (Check_ok _ _ _ B.out).mono ?_
  rintro e w3 ⟨rfl, hb3⟩
  replace Sa := Sa.below hb3
  replace Sb := Sb.below hb3
  clear za ca0 ca1 zb cb0 cb1
  obtain ⟨za, ca0, ca1⟩ := id Sa
  obtain ⟨zb, cb0, cb1⟩ := id Sb
  replace hb := bstep hb hb3
  clear hb3
  go_wp2_with fail
  refine (Meet_ok _ _ _ _ _ A.out B.out M.out).mono ?_
  rintro e w4 ⟨rfl, hb4⟩
  replace Sa := Sa.below hb4
  replace Sb := Sb.below hb4
  clear za ca0 ca1 zb cb0 cb1
  obtain ⟨za, ca0, ca1⟩ := id Sa
  obtain ⟨zb, cb0, cb1⟩ := id Sb
  replace hb := bstep hb hb4
  clear hb4
  go_wp2_with fail
  refine (Cover_ok _ _ _ _ _ A.out B.out).mono ?_
  rintro e w5 ⟨rfl, hb5⟩
  replace Sa := (Sa.alloc (.cells #[.int .i64 (max al bl), .int .i64 (min ah bh)] 39)).below hb5
  replace Sb := (Sb.alloc (.cells #[.int .i64 (max al bl), .int .i64 (min ah bh)] 39)).below hb5
  have Sm := (Sp.new w4 (max al bl) (min ah bh)).below hb5
  clear za ca0 ca1 zb cb0 cb1
  obtain ⟨za, ca0, ca1⟩ := id Sa
  obtain ⟨zb, cb0, cb1⟩ := id Sb
  obtain ⟨zm, cm0, cm1⟩ := id Sm
  replace hb := bstep (balloc hb (.cells #[.int .i64 (max al bl), .int .i64 (min ah bh)] 39)) hb5
  clear hb5
  go_wp2_with fail
  refine (has_no _ _ _ _ ha.out).mono ?_
  rintro e w6 ⟨rfl, hb6⟩
  replace Sa := (Sa.alloc (.cells #[.int .i64 (min al bl), .int .i64 (max ah bh)] 39)).below hb6
  replace Sb := (Sb.alloc (.cells #[.int .i64 (min al bl), .int .i64 (max ah bh)] 39)).below hb6
  replace Sm := (Sm.alloc (.cells #[.int .i64 (min al bl), .int .i64 (max ah bh)] 39)).below hb6
  have Sc := (Sp.new w5 (min al bl) (max ah bh)).below hb6
  clear za ca0 ca1 zb cb0 cb1 zm cm0 cm1
  obtain ⟨za, ca0, ca1⟩ := id Sa
  obtain ⟨zb, cb0, cb1⟩ := id Sb
  obtain ⟨zm, cm0, cm1⟩ := id Sm
  obtain ⟨zc, cc0, cc1⟩ := id Sc
  replace hb := bstep (balloc hb (.cells #[.int .i64 (min al bl), .int .i64 (max ah bh)] 39)) hb6
  clear hb6
  go_wp2_with fail
  refine (has_no _ _ _ _ ha.out).mono ?_
  rintro e w7 ⟨rfl, hb7⟩
  replace Sa := Sa.below hb7
  replace Sb := Sb.below hb7
  replace Sm := Sm.below hb7
  replace Sc := Sc.below hb7
  clear za ca0 ca1 zb cb0 cb1 zm cm0 cm1 zc cc0 cc1
  obtain ⟨za, ca0, ca1⟩ := id Sa
  obtain ⟨zb, cb0, cb1⟩ := id Sb
  obtain ⟨zm, cm0, cm1⟩ := id Sm
  obtain ⟨zc, cc0, cc1⟩ := id Sc
  replace hb := bstep hb hb7
  clear hb7
  go_wp2_with fail
  refine (has_no _ _ _ _ hbb.out).mono ?_
  rintro e w8 ⟨rfl, hb8⟩
  replace Sa := Sa.below hb8
  replace Sb := Sb.below hb8
  replace Sm := Sm.below hb8
  replace Sc := Sc.below hb8
  clear za ca0 ca1 zb cb0 cb1 zm cm0 cm1 zc cc0 cc1
  obtain ⟨za, ca0, ca1⟩ := id Sa
  obtain ⟨zb, cb0, cb1⟩ := id Sb
  obtain ⟨zm, cm0, cm1⟩ := id Sm
  obtain ⟨zc, cc0, cc1⟩ := id Sc
  replace hb := bstep hb hb8
  clear hb8
  go_wp2_with fail
  refine (has_no _ _ _ _ (by have := ha.out; have := hbb.out; omega)).mono ?_
  rintro e w9 ⟨rfl, hb9⟩
  replace Sa := Sa.below hb9
  replace Sb := Sb.below hb9
  replace Sm := Sm.below hb9
  replace Sc := Sc.below hb9
  clear za ca0 ca1 zb cb0 cb1 zm cm0 cm1 zc cc0 cc1
  obtain ⟨za, ca0, ca1⟩ := id Sa
  obtain ⟨zb, cb0, cb1⟩ := id Sb
  obtain ⟨zm, cm0, cm1⟩ := id Sm
  obtain ⟨zc, cc0, cc1⟩ := id Sc
  replace hb := bstep hb hb9
  clear hb9
  go_wp2_with fail
  refine (Meet_ok _ _ _ _ _ B.out A.out (by have := M.out; omega)).mono ?_
  rintro e w10 ⟨rfl, hb10⟩
  replace Sa := Sa.below hb10
  replace Sb := Sb.below hb10
  replace Sm := Sm.below hb10
  replace Sc := Sc.below hb10
  clear za ca0 ca1 zb cb0 cb1 zm cm0 cm1 zc cc0 cc1
  obtain ⟨za, ca0, ca1⟩ := id Sa
  obtain ⟨zb, cb0, cb1⟩ := id Sb
  obtain ⟨zm, cm0, cm1⟩ := id Sm
  obtain ⟨zc, cc0, cc1⟩ := id Sc
  replace hb := bstep hb hb10
  clear hb10
  go_wp2_with fail
  refine (Cover_ok _ _ _ _ _ B.out A.out).mono ?_
  rintro e w11 ⟨rfl, hb11⟩
  replace Sa := (Sa.alloc (.cells #[.int .i64 (max bl al), .int .i64 (min bh ah)] 39)).below hb11
  replace Sb := (Sb.alloc (.cells #[.int .i64 (max bl al), .int .i64 (min bh ah)] 39)).below hb11
  replace Sm := (Sm.alloc (.cells #[.int .i64 (max bl al), .int .i64 (min bh ah)] 39)).below hb11
  replace Sc := (Sc.alloc (.cells #[.int .i64 (max bl al), .int .i64 (min bh ah)] 39)).below hb11
  have Sn := (Sp.new w10 (max bl al) (min bh ah)).below hb11
  clear za ca0 ca1 zb cb0 cb1 zm cm0 cm1 zc cc0 cc1
  obtain ⟨za, ca0, ca1⟩ := id Sa
  obtain ⟨zb, cb0, cb1⟩ := id Sb
  obtain ⟨zm, cm0, cm1⟩ := id Sm
  obtain ⟨zc, cc0, cc1⟩ := id Sc
  obtain ⟨zn, cn0, cn1⟩ := id Sn
  replace hb := bstep (balloc hb (.cells #[.int .i64 (max bl al), .int .i64 (min bh ah)] 39)) hb11
  clear hb11
  go_wp2_with fail
  have q1 : (max bl al) = (max al bl) := Int.max_comm _ _
  have q2 : (min bh ah) = (min ah bh) := Int.min_comm _ _
  have q3 : (min bl al) = (min al bl) := Int.min_comm _ _
  have q4 : (max bh ah) = (max ah bh) := Int.max_comm _ _
  have q5 : max al (min al bl) = al := by omega
  have q6 : min ah (max ah bh) = ah := by omega
  refine (Meet_ok _ _ _ _ _ A.out Cc.out (by have := A.out; unfold okS at this; omega)).mono ?_
  rintro e w12 ⟨rfl, hb12⟩
  replace Sa := (Sa.alloc (.cells #[.int .i64 (min bl al), .int .i64 (max bh ah)] 39)).below hb12
  replace Sb := (Sb.alloc (.cells #[.int .i64 (min bl al), .int .i64 (max bh ah)] 39)).below hb12
  replace Sm := (Sm.alloc (.cells #[.int .i64 (min bl al), .int .i64 (max bh ah)] 39)).below hb12
  replace Sc := (Sc.alloc (.cells #[.int .i64 (min bl al), .int .i64 (max bh ah)] 39)).below hb12
  replace Sn := (Sn.alloc (.cells #[.int .i64 (min bl al), .int .i64 (max bh ah)] 39)).below hb12
  have Sk := (Sp.new w11 (min bl al) (max bh ah)).below hb12
  clear za ca0 ca1 zb cb0 cb1 zm cm0 cm1 zc cc0 cc1 zn cn0 cn1
  obtain ⟨za, ca0, ca1⟩ := id Sa
  obtain ⟨zb, cb0, cb1⟩ := id Sb
  obtain ⟨zm, cm0, cm1⟩ := id Sm
  obtain ⟨zc, cc0, cc1⟩ := id Sc
  obtain ⟨zn, cn0, cn1⟩ := id Sn
  obtain ⟨zk, ck0, ck1⟩ := id Sk
  replace hb := bstep (balloc hb (.cells #[.int .i64 (min bl al), .int .i64 (max bh ah)] 39)) hb12
  clear hb12
  go_wp2_with fail
  by_cases d1 : d < -2305843009213693952
  · have g1 : decide (d < -2305843009213693952) = true := decide_eq_true d1
    refine (Shift_range _ _ _ _ A.out (by omega)).mono ?_
    rintro e w13 ⟨rfl, hb13⟩
    replace Sa := (Sa.alloc (.cells #[.int .i64 (al), .int .i64 (ah)] 39)).below hb13
    replace Sb := (Sb.alloc (.cells #[.int .i64 (al), .int .i64 (ah)] 39)).below hb13
    replace Sm := (Sm.alloc (.cells #[.int .i64 (al), .int .i64 (ah)] 39)).below hb13
    replace Sc := (Sc.alloc (.cells #[.int .i64 (al), .int .i64 (ah)] 39)).below hb13
    replace Sn := (Sn.alloc (.cells #[.int .i64 (al), .int .i64 (ah)] 39)).below hb13
    replace Sk := (Sk.alloc (.cells #[.int .i64 (al), .int .i64 (ah)] 39)).below hb13
    have So := (Sp.new w12 (al) (ah)).below hb13
    clear za ca0 ca1 zb cb0 cb1 zm cm0 cm1 zc cc0 cc1 zn cn0 cn1 zk ck0 ck1
    obtain ⟨za, ca0, ca1⟩ := id Sa
    obtain ⟨zb, cb0, cb1⟩ := id Sb
    obtain ⟨zm, cm0, cm1⟩ := id Sm
    obtain ⟨zc, cc0, cc1⟩ := id Sc
    obtain ⟨zn, cn0, cn1⟩ := id Sn
    obtain ⟨zk, ck0, ck1⟩ := id Sk
    obtain ⟨zo, co0, co1⟩ := id So
    replace hb := bstep (balloc hb (.cells #[.int .i64 (al), .int .i64 (ah)] 39)) hb13
    clear hb13
    go_wp2_with fail
    go_ret
    exact ⟨rfl, balloc hb _⟩
  have g1 : decide (d < -2305843009213693952) = false := decide_eq_false d1
  by_cases d2 : 2305843009213693952 < d
  · have g2 : decide (2305843009213693952 < d) = true := decide_eq_true d2
    refine (Shift_range _ _ _ _ A.out (by omega)).mono ?_
    rintro e w13 ⟨rfl, hb13⟩
    replace Sa := (Sa.alloc (.cells #[.int .i64 (al), .int .i64 (ah)] 39)).below hb13
    replace Sb := (Sb.alloc (.cells #[.int .i64 (al), .int .i64 (ah)] 39)).below hb13
    replace Sm := (Sm.alloc (.cells #[.int .i64 (al), .int .i64 (ah)] 39)).below hb13
    replace Sc := (Sc.alloc (.cells #[.int .i64 (al), .int .i64 (ah)] 39)).below hb13
    replace Sn := (Sn.alloc (.cells #[.int .i64 (al), .int .i64 (ah)] 39)).below hb13
    replace Sk := (Sk.alloc (.cells #[.int .i64 (al), .int .i64 (ah)] 39)).below hb13
    have So := (Sp.new w12 (al) (ah)).below hb13
    clear za ca0 ca1 zb cb0 cb1 zm cm0 cm1 zc cc0 cc1 zn cn0 cn1 zk ck0 ck1
    obtain ⟨za, ca0, ca1⟩ := id Sa
    obtain ⟨zb, cb0, cb1⟩ := id Sb
    obtain ⟨zm, cm0, cm1⟩ := id Sm
    obtain ⟨zc, cc0, cc1⟩ := id Sc
    obtain ⟨zn, cn0, cn1⟩ := id Sn
    obtain ⟨zk, ck0, ck1⟩ := id Sk
    obtain ⟨zo, co0, co1⟩ := id So
    replace hb := bstep (balloc hb (.cells #[.int .i64 (al), .int .i64 (ah)] 39)) hb13
    clear hb13
    go_wp2_with fail
    go_ret
    exact ⟨rfl, balloc hb _⟩
  have g2 : decide (2305843009213693952 < d) = false := decide_eq_false d2
  by_cases t1 : -2305843009213693952 ≤ t ∧ t ≤ 2305843009213693952
  · obtain ⟨t1, t2⟩ := t1
    refine (Shift_ok _ _ _ _ A.out (by omega) (by omega)).mono ?_
    rintro e w13 ⟨rfl, hb13⟩
    replace Sa := (Sa.alloc (.cells #[.int .i64 (al), .int .i64 (ah)] 39)).below hb13
    replace Sb := (Sb.alloc (.cells #[.int .i64 (al), .int .i64 (ah)] 39)).below hb13
    replace Sm := (Sm.alloc (.cells #[.int .i64 (al), .int .i64 (ah)] 39)).below hb13
    replace Sc := (Sc.alloc (.cells #[.int .i64 (al), .int .i64 (ah)] 39)).below hb13
    replace Sn := (Sn.alloc (.cells #[.int .i64 (al), .int .i64 (ah)] 39)).below hb13
    replace Sk := (Sk.alloc (.cells #[.int .i64 (al), .int .i64 (ah)] 39)).below hb13
    have So := (Sp.new w12 (al) (ah)).below hb13
    clear za ca0 ca1 zb cb0 cb1 zm cm0 cm1 zc cc0 cc1 zn cn0 cn1 zk ck0 ck1
    obtain ⟨za, ca0, ca1⟩ := id Sa
    obtain ⟨zb, cb0, cb1⟩ := id Sb
    obtain ⟨zm, cm0, cm1⟩ := id Sm
    obtain ⟨zc, cc0, cc1⟩ := id Sc
    obtain ⟨zn, cn0, cn1⟩ := id Sn
    obtain ⟨zk, ck0, ck1⟩ := id Sk
    obtain ⟨zo, co0, co1⟩ := id So
    replace hb := bstep (balloc hb (.cells #[.int .i64 (al), .int .i64 (ah)] 39)) hb13
    clear hb13
    go_wp2_with fail
    refine (Sum_ok _ _ _ (by omega) (by omega)).mono ?_
    rintro e w' ⟨rfl, rfl⟩
    go_wp2_with fail
    refine (has_no _ _ _ _ ha.out).mono ?_
    rintro e w15 ⟨rfl, hb15⟩
    replace Sa := (Sa.alloc (.cells #[.int .i64 (shl al d), .int .i64 (shh ah d)] 39)).below hb15
    replace Sb := (Sb.alloc (.cells #[.int .i64 (shl al d), .int .i64 (shh ah d)] 39)).below hb15
    replace Sm := (Sm.alloc (.cells #[.int .i64 (shl al d), .int .i64 (shh ah d)] 39)).below hb15
    replace Sc := (Sc.alloc (.cells #[.int .i64 (shl al d), .int .i64 (shh ah d)] 39)).below hb15
    replace Sn := (Sn.alloc (.cells #[.int .i64 (shl al d), .int .i64 (shh ah d)] 39)).below hb15
    replace Sk := (Sk.alloc (.cells #[.int .i64 (shl al d), .int .i64 (shh ah d)] 39)).below hb15
    replace So := (So.alloc (.cells #[.int .i64 (shl al d), .int .i64 (shh ah d)] 39)).below hb15
    have Ss := (Sp.new w13 (shl al d) (shh ah d)).below hb15
    clear za ca0 ca1 zb cb0 cb1 zm cm0 cm1 zc cc0 cc1 zn cn0 cn1 zk ck0 ck1 zo co0 co1
    obtain ⟨za, ca0, ca1⟩ := id Sa
    obtain ⟨zb, cb0, cb1⟩ := id Sb
    obtain ⟨zm, cm0, cm1⟩ := id Sm
    obtain ⟨zc, cc0, cc1⟩ := id Sc
    obtain ⟨zn, cn0, cn1⟩ := id Sn
    obtain ⟨zk, ck0, ck1⟩ := id Sk
    obtain ⟨zo, co0, co1⟩ := id So
    obtain ⟨zs, cs0, cs1⟩ := id Ss
    replace hb := bstep (balloc hb (.cells #[.int .i64 (shl al d), .int .i64 (shh ah d)] 39)) hb15
    clear hb15
    go_wp2_with fail
    go_ret
    exact ⟨rfl, hb⟩
  · refine (Shift_ok _ _ _ _ A.out (by omega) (by omega)).mono ?_
    rintro e w13 ⟨rfl, hb13⟩
    replace Sa := (Sa.alloc (.cells #[.int .i64 (al), .int .i64 (ah)] 39)).below hb13
    replace Sb := (Sb.alloc (.cells #[.int .i64 (al), .int .i64 (ah)] 39)).below hb13
    replace Sm := (Sm.alloc (.cells #[.int .i64 (al), .int .i64 (ah)] 39)).below hb13
    replace Sc := (Sc.alloc (.cells #[.int .i64 (al), .int .i64 (ah)] 39)).below hb13
    replace Sn := (Sn.alloc (.cells #[.int .i64 (al), .int .i64 (ah)] 39)).below hb13
    replace Sk := (Sk.alloc (.cells #[.int .i64 (al), .int .i64 (ah)] 39)).below hb13
    have So := (Sp.new w12 (al) (ah)).below hb13
    clear za ca0 ca1 zb cb0 cb1 zm cm0 cm1 zc cc0 cc1 zn cn0 cn1 zk ck0 ck1
    obtain ⟨za, ca0, ca1⟩ := id Sa
    obtain ⟨zb, cb0, cb1⟩ := id Sb
    obtain ⟨zm, cm0, cm1⟩ := id Sm
    obtain ⟨zc, cc0, cc1⟩ := id Sc
    obtain ⟨zn, cn0, cn1⟩ := id Sn
    obtain ⟨zk, ck0, ck1⟩ := id Sk
    obtain ⟨zo, co0, co1⟩ := id So
    replace hb := bstep (balloc hb (.cells #[.int .i64 (al), .int .i64 (ah)] 39)) hb13
    clear hb13
    go_wp2_with fail
    refine (Sum_bad _ _ _ (by omega)).mono ?_
    rintro e w' ⟨rfl, rfl⟩
    go_wp2_with fail
    go_ret
    exact ⟨rfl, balloc hb _⟩

set_option maxRecDepth 100000 in
set_option maxHeartbeats 4000000 in
theorem walk_nn_none (al ah bl bh t d : Int) (w : World) (A : Hid (okS al ah)) (B : Hid (okS bl bh)) (ha : Hid (¬ (al ≤ t ∧ t ≤ ah))) (hbb : Hid (¬ (bl ≤ t ∧ t ≤ bh))) (M : Hid (min ah bh < max al bl)) :
    Calls Try.prog 8 #[.agg #[.int .i64 al, .int .i64 ah], .agg #[.int .i64 bl, .int .i64 bh], .int .i64 t, .int .i64 d] w fun e w' => e = .returned (.bool true) ∧ Below w.heap.size w w' := by
  have Cc : Hid (okS (min al bl) (max ah bh)) := by have a := A.out; have b := B.out; unfold Hid okS at *; omega
  go_enter Try.func8, Try.ntmps8
  go_wp2_with fail
  have hb : Below w.heap.size w ((w.alloc (.cells #[.int .i64 al, .int .i64 ah] 39)).alloc (.cells #[.int .i64 bl, .int .i64 bh] 39)) := balloc (balloc (brefl w) _) _
  have Sa := (Sp.new w al ah).alloc (.cells #[.int .i64 bl, .int .i64 bh] 39)
  have Sb := Sp.new1 w (.cells #[.int .i64 al, .int .i64 ah] 39) bl bh
  refine (awake_c _).mono ?_
  rintro e w1 ⟨rfl, hb1⟩
  replace Sa := Sa.below hb1
  replace Sb := Sb.below hb1
  obtain ⟨za, ca0, ca1⟩ := id Sa
  obtain ⟨zb, cb0, cb1⟩ := id Sb
  replace hb := bstep hb hb1
  clear hb1
  go_wp2_with fail
  refine (Check_ok _ _ _ A.out).mono ?_
  rintro e w2 ⟨rfl, hb2⟩
  replace Sa := Sa.below hb2
  replace Sb := Sb.below hb2
  clear za ca0 ca1 zb cb0 cb1
  obtain ⟨za, ca0, ca1⟩ := id Sa
  obtain ⟨zb, cb0, cb1⟩ := id Sb
  replace hb := bstep hb hb2
  clear hb2
  go_wp2_with fail
  refine (Check_ok _ _ _ B.out).mono ?_
  rintro e w3 ⟨rfl, hb3⟩
  replace Sa := Sa.below hb3
  replace Sb := Sb.below hb3
  clear za ca0 ca1 zb cb0 cb1
  obtain ⟨za, ca0, ca1⟩ := id Sa
  obtain ⟨zb, cb0, cb1⟩ := id Sb
  replace hb := bstep hb hb3
  clear hb3
  go_wp2_with fail
  refine (Meet_none _ _ _ _ _ A.out B.out M.out).mono ?_
  rintro e w4 ⟨rfl, hb4⟩
  replace Sa := Sa.below hb4
  replace Sb := Sb.below hb4
  clear za ca0 ca1 zb cb0 cb1
  obtain ⟨za, ca0, ca1⟩ := id Sa
  obtain ⟨zb, cb0, cb1⟩ := id Sb
  replace hb := bstep hb hb4
  clear hb4
  go_wp2_with fail
  refine (Cover_ok _ _ _ _ _ A.out B.out).mono ?_
  rintro e w5 ⟨rfl, hb5⟩
  replace Sa := (Sa.alloc (.cells #[.int .i64 (0), .int .i64 (0)] 39)).below hb5
  replace Sb := (Sb.alloc (.cells #[.int .i64 (0), .int .i64 (0)] 39)).below hb5
  have Sm := (Sp.new w4 (0) (0)).below hb5
  clear za ca0 ca1 zb cb0 cb1
  obtain ⟨za, ca0, ca1⟩ := id Sa
  obtain ⟨zb, cb0, cb1⟩ := id Sb
  obtain ⟨zm, cm0, cm1⟩ := id Sm
  replace hb := bstep (balloc hb (.cells #[.int .i64 (0), .int .i64 (0)] 39)) hb5
  clear hb5
  go_wp2_with fail
  refine (has_no _ _ _ _ ha.out).mono ?_
  rintro e w6 ⟨rfl, hb6⟩
  replace Sa := (Sa.alloc (.cells #[.int .i64 (min al bl), .int .i64 (max ah bh)] 39)).below hb6
  replace Sb := (Sb.alloc (.cells #[.int .i64 (min al bl), .int .i64 (max ah bh)] 39)).below hb6
  replace Sm := (Sm.alloc (.cells #[.int .i64 (min al bl), .int .i64 (max ah bh)] 39)).below hb6
  have Sc := (Sp.new w5 (min al bl) (max ah bh)).below hb6
  clear za ca0 ca1 zb cb0 cb1 zm cm0 cm1
  obtain ⟨za, ca0, ca1⟩ := id Sa
  obtain ⟨zb, cb0, cb1⟩ := id Sb
  obtain ⟨zm, cm0, cm1⟩ := id Sm
  obtain ⟨zc, cc0, cc1⟩ := id Sc
  replace hb := bstep (balloc hb (.cells #[.int .i64 (min al bl), .int .i64 (max ah bh)] 39)) hb6
  clear hb6
  go_wp2_with fail
  refine (has_no _ _ _ _ ha.out).mono ?_
  rintro e w7 ⟨rfl, hb7⟩
  replace Sa := Sa.below hb7
  replace Sb := Sb.below hb7
  replace Sm := Sm.below hb7
  replace Sc := Sc.below hb7
  clear za ca0 ca1 zb cb0 cb1 zm cm0 cm1 zc cc0 cc1
  obtain ⟨za, ca0, ca1⟩ := id Sa
  obtain ⟨zb, cb0, cb1⟩ := id Sb
  obtain ⟨zm, cm0, cm1⟩ := id Sm
  obtain ⟨zc, cc0, cc1⟩ := id Sc
  replace hb := bstep hb hb7
  clear hb7
  go_wp2_with fail
  refine (has_no _ _ _ _ hbb.out).mono ?_
  rintro e w8 ⟨rfl, hb8⟩
  replace Sa := Sa.below hb8
  replace Sb := Sb.below hb8
  replace Sm := Sm.below hb8
  replace Sc := Sc.below hb8
  clear za ca0 ca1 zb cb0 cb1 zm cm0 cm1 zc cc0 cc1
  obtain ⟨za, ca0, ca1⟩ := id Sa
  obtain ⟨zb, cb0, cb1⟩ := id Sb
  obtain ⟨zm, cm0, cm1⟩ := id Sm
  obtain ⟨zc, cc0, cc1⟩ := id Sc
  replace hb := bstep hb hb8
  clear hb8
  go_wp2_with fail
  refine (Meet_none _ _ _ _ _ B.out A.out (by have := M.out; omega)).mono ?_
  rintro e w9 ⟨rfl, hb9⟩
  replace Sa := Sa.below hb9
  replace Sb := Sb.below hb9
  replace Sm := Sm.below hb9
  replace Sc := Sc.below hb9
  clear za ca0 ca1 zb cb0 cb1 zm cm0 cm1 zc cc0 cc1
  obtain ⟨za, ca0, ca1⟩ := id Sa
  obtain ⟨zb, cb0, cb1⟩ := id Sb
  obtain ⟨zm, cm0, cm1⟩ := id Sm
  obtain ⟨zc, cc0, cc1⟩ := id Sc
  replace hb := bstep hb hb9
  clear hb9
  go_wp2_with fail
  refine (Cover_ok _ _ _ _ _ B.out A.out).mono ?_
  rintro e w10 ⟨rfl, hb10⟩
  replace Sa := (Sa.alloc (.cells #[.int .i64 (0), .int .i64 (0)] 39)).below hb10
  replace Sb := (Sb.alloc (.cells #[.int .i64 (0), .int .i64 (0)] 39)).below hb10
  replace Sm := (Sm.alloc (.cells #[.int .i64 (0), .int .i64 (0)] 39)).below hb10
  replace Sc := (Sc.alloc (.cells #[.int .i64 (0), .int .i64 (0)] 39)).below hb10
  have Sn := (Sp.new w9 (0) (0)).below hb10
  clear za ca0 ca1 zb cb0 cb1 zm cm0 cm1 zc cc0 cc1
  obtain ⟨za, ca0, ca1⟩ := id Sa
  obtain ⟨zb, cb0, cb1⟩ := id Sb
  obtain ⟨zm, cm0, cm1⟩ := id Sm
  obtain ⟨zc, cc0, cc1⟩ := id Sc
  obtain ⟨zn, cn0, cn1⟩ := id Sn
  replace hb := bstep (balloc hb (.cells #[.int .i64 (0), .int .i64 (0)] 39)) hb10
  clear hb10
  go_wp2_with fail
  have q1 : (max bl al) = (max al bl) := Int.max_comm _ _
  have q2 : (min bh ah) = (min ah bh) := Int.min_comm _ _
  have q3 : (min bl al) = (min al bl) := Int.min_comm _ _
  have q4 : (max bh ah) = (max ah bh) := Int.max_comm _ _
  have q5 : max al (min al bl) = al := by omega
  have q6 : min ah (max ah bh) = ah := by omega
  refine (Meet_ok _ _ _ _ _ A.out Cc.out (by have := A.out; unfold okS at this; omega)).mono ?_
  rintro e w11 ⟨rfl, hb11⟩
  replace Sa := (Sa.alloc (.cells #[.int .i64 (min bl al), .int .i64 (max bh ah)] 39)).below hb11
  replace Sb := (Sb.alloc (.cells #[.int .i64 (min bl al), .int .i64 (max bh ah)] 39)).below hb11
  replace Sm := (Sm.alloc (.cells #[.int .i64 (min bl al), .int .i64 (max bh ah)] 39)).below hb11
  replace Sc := (Sc.alloc (.cells #[.int .i64 (min bl al), .int .i64 (max bh ah)] 39)).below hb11
  replace Sn := (Sn.alloc (.cells #[.int .i64 (min bl al), .int .i64 (max bh ah)] 39)).below hb11
  have Sk := (Sp.new w10 (min bl al) (max bh ah)).below hb11
  clear za ca0 ca1 zb cb0 cb1 zm cm0 cm1 zc cc0 cc1 zn cn0 cn1
  obtain ⟨za, ca0, ca1⟩ := id Sa
  obtain ⟨zb, cb0, cb1⟩ := id Sb
  obtain ⟨zm, cm0, cm1⟩ := id Sm
  obtain ⟨zc, cc0, cc1⟩ := id Sc
  obtain ⟨zn, cn0, cn1⟩ := id Sn
  obtain ⟨zk, ck0, ck1⟩ := id Sk
  replace hb := bstep (balloc hb (.cells #[.int .i64 (min bl al), .int .i64 (max bh ah)] 39)) hb11
  clear hb11
  go_wp2_with fail
  by_cases d1 : d < -2305843009213693952
  · have g1 : decide (d < -2305843009213693952) = true := decide_eq_true d1
    refine (Shift_range _ _ _ _ A.out (by omega)).mono ?_
    rintro e w12 ⟨rfl, hb12⟩
    replace Sa := (Sa.alloc (.cells #[.int .i64 (al), .int .i64 (ah)] 39)).below hb12
    replace Sb := (Sb.alloc (.cells #[.int .i64 (al), .int .i64 (ah)] 39)).below hb12
    replace Sm := (Sm.alloc (.cells #[.int .i64 (al), .int .i64 (ah)] 39)).below hb12
    replace Sc := (Sc.alloc (.cells #[.int .i64 (al), .int .i64 (ah)] 39)).below hb12
    replace Sn := (Sn.alloc (.cells #[.int .i64 (al), .int .i64 (ah)] 39)).below hb12
    replace Sk := (Sk.alloc (.cells #[.int .i64 (al), .int .i64 (ah)] 39)).below hb12
    have So := (Sp.new w11 (al) (ah)).below hb12
    clear za ca0 ca1 zb cb0 cb1 zm cm0 cm1 zc cc0 cc1 zn cn0 cn1 zk ck0 ck1
    obtain ⟨za, ca0, ca1⟩ := id Sa
    obtain ⟨zb, cb0, cb1⟩ := id Sb
    obtain ⟨zm, cm0, cm1⟩ := id Sm
    obtain ⟨zc, cc0, cc1⟩ := id Sc
    obtain ⟨zn, cn0, cn1⟩ := id Sn
    obtain ⟨zk, ck0, ck1⟩ := id Sk
    obtain ⟨zo, co0, co1⟩ := id So
    replace hb := bstep (balloc hb (.cells #[.int .i64 (al), .int .i64 (ah)] 39)) hb12
    clear hb12
    go_wp2_with fail
    go_ret
    exact ⟨rfl, balloc hb _⟩
  have g1 : decide (d < -2305843009213693952) = false := decide_eq_false d1
  by_cases d2 : 2305843009213693952 < d
  · have g2 : decide (2305843009213693952 < d) = true := decide_eq_true d2
    refine (Shift_range _ _ _ _ A.out (by omega)).mono ?_
    rintro e w12 ⟨rfl, hb12⟩
    replace Sa := (Sa.alloc (.cells #[.int .i64 (al), .int .i64 (ah)] 39)).below hb12
    replace Sb := (Sb.alloc (.cells #[.int .i64 (al), .int .i64 (ah)] 39)).below hb12
    replace Sm := (Sm.alloc (.cells #[.int .i64 (al), .int .i64 (ah)] 39)).below hb12
    replace Sc := (Sc.alloc (.cells #[.int .i64 (al), .int .i64 (ah)] 39)).below hb12
    replace Sn := (Sn.alloc (.cells #[.int .i64 (al), .int .i64 (ah)] 39)).below hb12
    replace Sk := (Sk.alloc (.cells #[.int .i64 (al), .int .i64 (ah)] 39)).below hb12
    have So := (Sp.new w11 (al) (ah)).below hb12
    clear za ca0 ca1 zb cb0 cb1 zm cm0 cm1 zc cc0 cc1 zn cn0 cn1 zk ck0 ck1
    obtain ⟨za, ca0, ca1⟩ := id Sa
    obtain ⟨zb, cb0, cb1⟩ := id Sb
    obtain ⟨zm, cm0, cm1⟩ := id Sm
    obtain ⟨zc, cc0, cc1⟩ := id Sc
    obtain ⟨zn, cn0, cn1⟩ := id Sn
    obtain ⟨zk, ck0, ck1⟩ := id Sk
    obtain ⟨zo, co0, co1⟩ := id So
    replace hb := bstep (balloc hb (.cells #[.int .i64 (al), .int .i64 (ah)] 39)) hb12
    clear hb12
    go_wp2_with fail
    go_ret
    exact ⟨rfl, balloc hb _⟩
  have g2 : decide (2305843009213693952 < d) = false := decide_eq_false d2
  by_cases t1 : -2305843009213693952 ≤ t ∧ t ≤ 2305843009213693952
  · obtain ⟨t1, t2⟩ := t1
    refine (Shift_ok _ _ _ _ A.out (by omega) (by omega)).mono ?_
    rintro e w12 ⟨rfl, hb12⟩
    replace Sa := (Sa.alloc (.cells #[.int .i64 (al), .int .i64 (ah)] 39)).below hb12
    replace Sb := (Sb.alloc (.cells #[.int .i64 (al), .int .i64 (ah)] 39)).below hb12
    replace Sm := (Sm.alloc (.cells #[.int .i64 (al), .int .i64 (ah)] 39)).below hb12
    replace Sc := (Sc.alloc (.cells #[.int .i64 (al), .int .i64 (ah)] 39)).below hb12
    replace Sn := (Sn.alloc (.cells #[.int .i64 (al), .int .i64 (ah)] 39)).below hb12
    replace Sk := (Sk.alloc (.cells #[.int .i64 (al), .int .i64 (ah)] 39)).below hb12
    have So := (Sp.new w11 (al) (ah)).below hb12
    clear za ca0 ca1 zb cb0 cb1 zm cm0 cm1 zc cc0 cc1 zn cn0 cn1 zk ck0 ck1
    obtain ⟨za, ca0, ca1⟩ := id Sa
    obtain ⟨zb, cb0, cb1⟩ := id Sb
    obtain ⟨zm, cm0, cm1⟩ := id Sm
    obtain ⟨zc, cc0, cc1⟩ := id Sc
    obtain ⟨zn, cn0, cn1⟩ := id Sn
    obtain ⟨zk, ck0, ck1⟩ := id Sk
    obtain ⟨zo, co0, co1⟩ := id So
    replace hb := bstep (balloc hb (.cells #[.int .i64 (al), .int .i64 (ah)] 39)) hb12
    clear hb12
    go_wp2_with fail
    refine (Sum_ok _ _ _ (by omega) (by omega)).mono ?_
    rintro e w' ⟨rfl, rfl⟩
    go_wp2_with fail
    refine (has_no _ _ _ _ ha.out).mono ?_
    rintro e w14 ⟨rfl, hb14⟩
    replace Sa := (Sa.alloc (.cells #[.int .i64 (shl al d), .int .i64 (shh ah d)] 39)).below hb14
    replace Sb := (Sb.alloc (.cells #[.int .i64 (shl al d), .int .i64 (shh ah d)] 39)).below hb14
    replace Sm := (Sm.alloc (.cells #[.int .i64 (shl al d), .int .i64 (shh ah d)] 39)).below hb14
    replace Sc := (Sc.alloc (.cells #[.int .i64 (shl al d), .int .i64 (shh ah d)] 39)).below hb14
    replace Sn := (Sn.alloc (.cells #[.int .i64 (shl al d), .int .i64 (shh ah d)] 39)).below hb14
    replace Sk := (Sk.alloc (.cells #[.int .i64 (shl al d), .int .i64 (shh ah d)] 39)).below hb14
    replace So := (So.alloc (.cells #[.int .i64 (shl al d), .int .i64 (shh ah d)] 39)).below hb14
    have Ss := (Sp.new w12 (shl al d) (shh ah d)).below hb14
    clear za ca0 ca1 zb cb0 cb1 zm cm0 cm1 zc cc0 cc1 zn cn0 cn1 zk ck0 ck1 zo co0 co1
    obtain ⟨za, ca0, ca1⟩ := id Sa
    obtain ⟨zb, cb0, cb1⟩ := id Sb
    obtain ⟨zm, cm0, cm1⟩ := id Sm
    obtain ⟨zc, cc0, cc1⟩ := id Sc
    obtain ⟨zn, cn0, cn1⟩ := id Sn
    obtain ⟨zk, ck0, ck1⟩ := id Sk
    obtain ⟨zo, co0, co1⟩ := id So
    obtain ⟨zs, cs0, cs1⟩ := id Ss
    replace hb := bstep (balloc hb (.cells #[.int .i64 (shl al d), .int .i64 (shh ah d)] 39)) hb14
    clear hb14
    go_wp2_with fail
    go_ret
    exact ⟨rfl, hb⟩
  · refine (Shift_ok _ _ _ _ A.out (by omega) (by omega)).mono ?_
    rintro e w12 ⟨rfl, hb12⟩
    replace Sa := (Sa.alloc (.cells #[.int .i64 (al), .int .i64 (ah)] 39)).below hb12
    replace Sb := (Sb.alloc (.cells #[.int .i64 (al), .int .i64 (ah)] 39)).below hb12
    replace Sm := (Sm.alloc (.cells #[.int .i64 (al), .int .i64 (ah)] 39)).below hb12
    replace Sc := (Sc.alloc (.cells #[.int .i64 (al), .int .i64 (ah)] 39)).below hb12
    replace Sn := (Sn.alloc (.cells #[.int .i64 (al), .int .i64 (ah)] 39)).below hb12
    replace Sk := (Sk.alloc (.cells #[.int .i64 (al), .int .i64 (ah)] 39)).below hb12
    have So := (Sp.new w11 (al) (ah)).below hb12
    clear za ca0 ca1 zb cb0 cb1 zm cm0 cm1 zc cc0 cc1 zn cn0 cn1 zk ck0 ck1
    obtain ⟨za, ca0, ca1⟩ := id Sa
    obtain ⟨zb, cb0, cb1⟩ := id Sb
    obtain ⟨zm, cm0, cm1⟩ := id Sm
    obtain ⟨zc, cc0, cc1⟩ := id Sc
    obtain ⟨zn, cn0, cn1⟩ := id Sn
    obtain ⟨zk, ck0, ck1⟩ := id Sk
    obtain ⟨zo, co0, co1⟩ := id So
    replace hb := bstep (balloc hb (.cells #[.int .i64 (al), .int .i64 (ah)] 39)) hb12
    clear hb12
    go_wp2_with fail
    refine (Sum_bad _ _ _ (by omega)).mono ?_
    rintro e w' ⟨rfl, rfl⟩
    go_wp2_with fail
    go_ret
    exact ⟨rfl, balloc hb _⟩

set_option maxRecDepth 100000 in
set_option maxHeartbeats 4000000 in
theorem walk_bad_a (al ah bl bh t d : Int) (w : World) (A : Hid (¬ okS al ah)) :
    Calls Try.prog 8 #[.agg #[.int .i64 al, .int .i64 ah], .agg #[.int .i64 bl, .int .i64 bh], .int .i64 t, .int .i64 d] w fun e w' => e = .returned (.bool true) ∧ Below w.heap.size w w' := by
  go_enter Try.func8, Try.ntmps8
  go_wp2_with fail
  have hb : Below w.heap.size w ((w.alloc (.cells #[.int .i64 al, .int .i64 ah] 39)).alloc (.cells #[.int .i64 bl, .int .i64 bh] 39)) := balloc (balloc (brefl w) _) _
  have Sa := (Sp.new w al ah).alloc (.cells #[.int .i64 bl, .int .i64 bh] 39)
  have Sb := Sp.new1 w (.cells #[.int .i64 al, .int .i64 ah] 39) bl bh
  refine (awake_c _).mono ?_
  rintro e w1 ⟨rfl, hb1⟩
  replace Sa := Sa.below hb1
  replace Sb := Sb.below hb1
  obtain ⟨za, ca0, ca1⟩ := id Sa
  obtain ⟨zb, cb0, cb1⟩ := id Sb
  replace hb := bstep hb hb1
  clear hb1
  go_wp2_with fail
  refine (Check_bad _ _ _ A.out).mono ?_
  rintro e w2 ⟨rfl, hb2⟩
  replace Sa := Sa.below hb2
  replace Sb := Sb.below hb2
  clear za ca0 ca1 zb cb0 cb1
  obtain ⟨za, ca0, ca1⟩ := id Sa
  obtain ⟨zb, cb0, cb1⟩ := id Sb
  replace hb := bstep hb hb2
  clear hb2
  go_wp2_with fail
  refine (Meet_shape _ _ _ _ _ (fun h => A.out h.1)).mono ?_
  rintro e w3 ⟨rfl, hb3⟩
  replace Sa := Sa.below hb3
  replace Sb := Sb.below hb3
  clear za ca0 ca1 zb cb0 cb1
  obtain ⟨za, ca0, ca1⟩ := id Sa
  obtain ⟨zb, cb0, cb1⟩ := id Sb
  replace hb := bstep hb hb3
  clear hb3
  go_wp2_with fail
  refine (Cover_shape _ _ _ _ _ (fun h => A.out h.1)).mono ?_
  rintro e w4 ⟨rfl, hb4⟩
  replace Sa := (Sa.alloc (.cells #[.int .i64 (0), .int .i64 (0)] 39)).below hb4
  replace Sb := (Sb.alloc (.cells #[.int .i64 (0), .int .i64 (0)] 39)).below hb4
  have Sm := (Sp.new w3 (0) (0)).below hb4
  clear za ca0 ca1 zb cb0 cb1
  obtain ⟨za, ca0, ca1⟩ := id Sa
  obtain ⟨zb, cb0, cb1⟩ := id Sb
  obtain ⟨zm, cm0, cm1⟩ := id Sm
  replace hb := bstep (balloc hb (.cells #[.int .i64 (0), .int .i64 (0)] 39)) hb4
  clear hb4
  go_wp2_with fail
  go_ret
  exact ⟨rfl, balloc hb _⟩

set_option maxRecDepth 100000 in
set_option maxHeartbeats 4000000 in
theorem walk_bad_b (al ah bl bh t d : Int) (w : World) (A : Hid (okS al ah)) (B : Hid (¬ okS bl bh)) :
    Calls Try.prog 8 #[.agg #[.int .i64 al, .int .i64 ah], .agg #[.int .i64 bl, .int .i64 bh], .int .i64 t, .int .i64 d] w fun e w' => e = .returned (.bool true) ∧ Below w.heap.size w w' := by
  go_enter Try.func8, Try.ntmps8
  go_wp2_with fail
  have hb : Below w.heap.size w ((w.alloc (.cells #[.int .i64 al, .int .i64 ah] 39)).alloc (.cells #[.int .i64 bl, .int .i64 bh] 39)) := balloc (balloc (brefl w) _) _
  have Sa := (Sp.new w al ah).alloc (.cells #[.int .i64 bl, .int .i64 bh] 39)
  have Sb := Sp.new1 w (.cells #[.int .i64 al, .int .i64 ah] 39) bl bh
  refine (awake_c _).mono ?_
  rintro e w1 ⟨rfl, hb1⟩
  replace Sa := Sa.below hb1
  replace Sb := Sb.below hb1
  obtain ⟨za, ca0, ca1⟩ := id Sa
  obtain ⟨zb, cb0, cb1⟩ := id Sb
  replace hb := bstep hb hb1
  clear hb1
  go_wp2_with fail
  refine (Check_ok _ _ _ A.out).mono ?_
  rintro e w2 ⟨rfl, hb2⟩
  replace Sa := Sa.below hb2
  replace Sb := Sb.below hb2
  clear za ca0 ca1 zb cb0 cb1
  obtain ⟨za, ca0, ca1⟩ := id Sa
  obtain ⟨zb, cb0, cb1⟩ := id Sb
  replace hb := bstep hb hb2
  clear hb2
  go_wp2_with fail
  refine (Check_bad _ _ _ B.out).mono ?_
  rintro e w3 ⟨rfl, hb3⟩
  replace Sa := Sa.below hb3
  replace Sb := Sb.below hb3
  clear za ca0 ca1 zb cb0 cb1
  obtain ⟨za, ca0, ca1⟩ := id Sa
  obtain ⟨zb, cb0, cb1⟩ := id Sb
  replace hb := bstep hb hb3
  clear hb3
  go_wp2_with fail
  refine (Meet_shape _ _ _ _ _ (fun h => B.out h.2)).mono ?_
  rintro e w4 ⟨rfl, hb4⟩
  replace Sa := Sa.below hb4
  replace Sb := Sb.below hb4
  clear za ca0 ca1 zb cb0 cb1
  obtain ⟨za, ca0, ca1⟩ := id Sa
  obtain ⟨zb, cb0, cb1⟩ := id Sb
  replace hb := bstep hb hb4
  clear hb4
  go_wp2_with fail
  refine (Cover_shape _ _ _ _ _ (fun h => B.out h.2)).mono ?_
  rintro e w5 ⟨rfl, hb5⟩
  replace Sa := (Sa.alloc (.cells #[.int .i64 (0), .int .i64 (0)] 39)).below hb5
  replace Sb := (Sb.alloc (.cells #[.int .i64 (0), .int .i64 (0)] 39)).below hb5
  have Sm := (Sp.new w4 (0) (0)).below hb5
  clear za ca0 ca1 zb cb0 cb1
  obtain ⟨za, ca0, ca1⟩ := id Sa
  obtain ⟨zb, cb0, cb1⟩ := id Sb
  obtain ⟨zm, cm0, cm1⟩ := id Sm
  replace hb := bstep (balloc hb (.cells #[.int .i64 (0), .int .i64 (0)] 39)) hb5
  clear hb5
  go_wp2_with fail
  go_ret
  exact ⟨rfl, balloc hb _⟩

theorem walk (al ah bl bh t d : Int) (w0l : (Lit.int .i64 al).wf = true) (w0h : (Lit.int .i64 ah).wf = true) (w1l : (Lit.int .i64 bl).wf = true) (w1h : (Lit.int .i64 bh).wf = true) (w2 : (Lit.int .i64 t).wf = true) (w3 : (Lit.int .i64 d).wf = true) (w : World) :
    Calls Try.prog 8 #[.agg #[.int .i64 al, .int .i64 ah], .agg #[.int .i64 bl, .int .i64 bh], .int .i64 t, .int .i64 d] w fun e w' => e = .returned (.bool true) ∧ Below w.heap.size w w' := by
  by_cases A : okS al ah
  · by_cases B : okS bl bh
    · by_cases ha : al ≤ t ∧ t ≤ ah <;> by_cases hb : bl ≤ t ∧ t ≤ bh <;> by_cases M : max al bl ≤ min ah bh
      · exact walk_yy_ok al ah bl bh t d w A B ha hb M
      · exact absurd M (by omega)
      · exact walk_yn_ok al ah bl bh t d w A B ha hb M
      · exact walk_yn_none al ah bl bh t d w A B ha hb (show _ < _ by omega)
      · exact walk_ny_ok al ah bl bh t d w A B ha hb M
      · exact walk_ny_none al ah bl bh t d w A B ha hb (show _ < _ by omega)
      · exact walk_nn_ok al ah bl bh t d w A B ha hb M
      · exact walk_nn_none al ah bl bh t d w A B ha hb (show _ < _ by omega)
    · exact walk_bad_b al ah bl bh t d w A B
  · exact walk_bad_a al ah bl bh t d w A

set_option maxRecDepth 100000 in
theorem lifted (os : Os) (started : os.Started) (H : Type) (enc : TypeId × Value → H) :
    ReturnsInHanded {} Try.checked os 8 .any (Rows.fixSetsSpec.pre6 enc Try.prog Try.f8 Rows.fixSetsRow.domain false) (Rows.fixSetsSpec.post enc Try.prog Try.f8 false true false false) := by
  refine returnsInHanded_of_change (C := Try.checked) own started (by kernel_rfl) Try.func8
    (ChangeSpec.witness6 (enc := enc) (C := Try.checked) false ⟨#[], #[.agg #[.int .i64 0, .int .i64 0], .agg #[.int .i64 0, .int .i64 0], .int .i64 0, .int .i64 0], []⟩ 8 (by kernel_rfl) (by kernel_rfl) (by kernel_rfl) (by kernel_rfl)) ?_
  intro W base args ds gs before hval0 hW hcnd _
  have hval : ∀ (j : Nat) t v, Try.f8.params[j]? = some t → args[j]? = some v → Value.okWide Try.prog W .any base t v := hval0
  have hW' := hW
  obtain ⟨p, q, hA0, hV, rfl, hfz, hnd⟩ := hW
  have hA : DataW.TrodAll enc Try.prog W 0 (fun _ => true) true Try.f8.params.toList args.toList ds p := hA0
  rw [Try.params8] at hA hval
  obtain ⟨v0, vs0, d0, ds0, p0, q0, hargs, rfl, rfl, h0, r0⟩ := trodAll_cons hA
  obtain ⟨v1, vs1, d1, ds1, p1, q1, rfl, rfl, rfl, h1, r1⟩ := trodAll_cons r0
  obtain ⟨v2, vs2, d2, ds2, p2, q2, rfl, rfl, rfl, h2, r2⟩ := trodAll_cons r1
  obtain ⟨v3, vs3, d3, ds3, p3, q3, rfl, rfl, rfl, h3, r3⟩ := trodAll_cons r2
  obtain ⟨rfl, rfl, rfl⟩ := trodAll_nil r3
  obtain rfl : args = #[v0, v1, v2, v3] := by cases args; simp_all
  obtain ⟨rfl, rfl⟩ := trodVars_none hV
  obtain ⟨c0l, c0h, y0l, y0h, m0, rfl, rfl, rfl, hy0l, hy0h⟩ := open_agg2 Try.underlying39 (by kernel_rfl) (by kernel_rfl) (hval 0 39 v0 rfl rfl) h0
  obtain ⟨a0l, e0l, z0l, w0l⟩ := DataW.trod_int Try.underlying22 hy0l
  simp at e0l
  subst e0l z0l
  obtain ⟨a0h, e0h, z0h, w0h⟩ := DataW.trod_int Try.underlying22 hy0h
  simp at e0h
  subst e0h z0h
  obtain ⟨c1l, c1h, y1l, y1h, m1, rfl, rfl, rfl, hy1l, hy1h⟩ := open_agg2 Try.underlying39 (by kernel_rfl) (by kernel_rfl) (hval 1 39 v1 rfl rfl) h1
  obtain ⟨a1l, e1l, z1l, w1l⟩ := DataW.trod_int Try.underlying22 hy1l
  simp at e1l
  subst e1l z1l
  obtain ⟨a1h, e1h, z1h, w1h⟩ := DataW.trod_int Try.underlying22 hy1h
  simp at e1h
  subst e1h z1h
  obtain ⟨a2, rfl, rfl, rfl, w2⟩ := open_int Try.underlying22 (hval 2 22 v2 rfl rfl) h2
  obtain ⟨a3, rfl, rfl, rfl, w3⟩ := open_int Try.underlying22 (hval 3 22 v3 rfl rfl) h3
  clear hA0 hval0
  simp only [List.append_nil] at hW'
  refine (walk a0l a0h a1l a1h a2 a3 w0l w0h w1l w1h w2 w3 W).mono fun e W' ⟨he, hg⟩ => ?_
  subst he
  exact ⟨_, rfl, _, _, _, [], [], [], hW', trodAll_cons_mk (shut_bool Try.underlying4 _) trodAll_mk0,
    (trodAll_cons_mk (shut_agg2 (y0 := (.lit (.int .i64 a0l), [])) (y1 := (.lit (.int .i64 a0h), [])) Try.underlying39 (by kernel_rfl) (by kernel_rfl) ⟨1, by simp [DataW.trod, Try.underlying22, w0l]⟩ ⟨1, by simp [DataW.trod, Try.underlying22, w0h]⟩) (trodAll_cons_mk (shut_agg2 (y0 := (.lit (.int .i64 a1l), [])) (y1 := (.lit (.int .i64 a1h), [])) Try.underlying39 (by kernel_rfl) (by kernel_rfl) ⟨1, by simp [DataW.trod, Try.underlying22, w1l]⟩ ⟨1, by simp [DataW.trod, Try.underlying22, w1h]⟩) (trodAll_cons_mk (shut_int Try.underlying22 w2) (trodAll_cons_mk (shut_int Try.underlying22 w3) trodAll_mk0)))), rfl, hg.frame _, fun h => nomatch h⟩

theorem over : Rows.fixSetsRow.holds Try.pinned (OpenSpec.ofChange Rows.fixSetsSpec) :=
  OpenClaim.holds_of_wide 8 Try.f8 rfl rfl rfl rfl rfl rfl rfl ⟨rfl, rfl, rfl, rfl, rfl⟩ rfl rfl rfl rfl rfl (by kernel_rfl) Try.func8 (by kernel_rfl)
    (of_decide_eq_true (by kernel_rfl)) (by unfold Func.isWrapper; first | (rw [if_pos (by decide +kernel)]; kernel_rfl) | (rw [if_neg (by decide +kernel)]; exact ⟨rfl, rfl⟩))
    (fun os started H enc _ => lifted os started H enc)

theorem proved : Rows.FixSetsSaid :=
  over
end Go.Proofs.Ytmalkdhbpomolaa.fixSets
