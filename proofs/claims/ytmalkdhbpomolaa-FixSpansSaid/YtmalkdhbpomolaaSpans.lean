/-
  FixSpans: spans are cut, covered and moved as sets of times are: the law returns true for every input, and the input reads as it did.
  Conditions: none.
-/
import Derived.Test.YtmalkdhbpomolaaRows
import Derived.Test.YtmalkdhbpomolaaFxW
import Derived.Test.YtmalkdhbpomolaaRefM
import Derived.Test.YtmalkdhbpomolaaSpan
import Derived.ProofKit
import Derived.OpenShut
import Derived.Lib.SmallJoins
import Derived.Deep.RegionHeld3
namespace Go.Proofs.Ytmalkdhbpomolaa.fixSpans
open Go.ChangeShapes Go.WideShapes Go.ChangeAt Go.RowKit Go.Joins Fx
set_option linter.unusedVariables false

theorem own : ownKnob Try.prog.godebug = none := by kernel_rfl

set_option maxRecDepth 100000 in
set_option maxHeartbeats 4000000 in
theorem walk_yy_ok_ok (al ah bl bh d : Int) (w : World) (A : Hid (okS al ah)) (B : Hid (okS bl bh)) (M : Hid (max al bl ≤ min ah bh)) (D : Hid (-2305843009213693952 ≤ d ∧ d ≤ 2305843009213693952)) :
    Calls Try.prog 5 #[.agg #[.int .i64 al, .int .i64 ah], .agg #[.int .i64 bl, .int .i64 bh], .int .i64 d] w fun e w' => e = .returned (.bool true) ∧ Below w.heap.size w w' := by
  go_enter Try.func5, Try.ntmps5
  go_wp2_with fail
  have hb : Below w.heap.size w ((w.alloc (.cells #[.int .i64 al, .int .i64 ah] 39)).alloc (.cells #[.int .i64 bl, .int .i64 bh] 39)) := balloc (balloc (brefl w) _) _
  have Sa := (Sp.new w al ah).alloc (.cells #[.int .i64 bl, .int .i64 bh] 39)
  have Sb := Sp.new1 w (.cells #[.int .i64 al, .int .i64 ah] 39) bl bh
  refine (awake_c _).mono ?_
  rintro e w1 ⟨rfl, hb1⟩
  replace Sa := Sa.below hb1
  replace Sb := Sb.below hb1
  obtain ⟨za, ca0, ca1⟩ := id Sa
  obtain ⟨zb, cb0, cb1⟩ := id Sb
  replace hb := bstep hb hb1
  clear hb1
  go_wp2_with fail
  refine (Meet_ok _ _ _ _ _ A.out B.out M.out).mono ?_
  rintro e w2 ⟨rfl, hb2⟩
  replace Sa := Sa.below hb2
  replace Sb := Sb.below hb2
  clear za ca0 ca1 zb cb0 cb1
  obtain ⟨za, ca0, ca1⟩ := id Sa
  obtain ⟨zb, cb0, cb1⟩ := id Sb
  replace hb := bstep hb hb2
  clear hb2
  go_wp2_with fail
  refine (rMeet_ok _ _ _ _ _ A.out B.out M.out).mono ?_
  rintro e w3 ⟨rfl, hb3⟩
  replace Sa := (Sa.alloc (.cells #[.int .i64 (max al bl), .int .i64 (min ah bh)] 39)).below hb3
  replace Sb := (Sb.alloc (.cells #[.int .i64 (max al bl), .int .i64 (min ah bh)] 39)).below hb3
  have Sm := (Sp.new w2 (max al bl) (min ah bh)).below hb3
  clear za ca0 ca1 zb cb0 cb1
  obtain ⟨za, ca0, ca1⟩ := id Sa
  obtain ⟨zb, cb0, cb1⟩ := id Sb
  obtain ⟨zm, cm0, cm1⟩ := id Sm
  replace hb := bstep (balloc hb (.cells #[.int .i64 (max al bl), .int .i64 (min ah bh)] 39)) hb3
  clear hb3
  go_wp2_with fail
  refine (Cover_ok _ _ _ _ _ A.out B.out).mono ?_
  rintro e w4 ⟨rfl, hb4⟩
  replace Sa := (Sa.alloc (.cells #[.int .i64 (max al bl), .int .i64 (min ah bh)] 39)).below hb4
  replace Sb := (Sb.alloc (.cells #[.int .i64 (max al bl), .int .i64 (min ah bh)] 39)).below hb4
  replace Sm := (Sm.alloc (.cells #[.int .i64 (max al bl), .int .i64 (min ah bh)] 39)).below hb4
  have Sn := (Sp.new w3 (max al bl) (min ah bh)).below hb4
  clear za ca0 ca1 zb cb0 cb1 zm cm0 cm1
  obtain ⟨za, ca0, ca1⟩ := id Sa
  obtain ⟨zb, cb0, cb1⟩ := id Sb
  obtain ⟨zm, cm0, cm1⟩ := id Sm
  obtain ⟨zn, cn0, cn1⟩ := id Sn
  replace hb := bstep (balloc hb (.cells #[.int .i64 (max al bl), .int .i64 (min ah bh)] 39)) hb4
  clear hb4
  go_wp2_with fail
  refine (rCover_ok _ _ _ _ _ A.out B.out).mono ?_
  rintro e w5 ⟨rfl, hb5⟩
  replace Sa := (Sa.alloc (.cells #[.int .i64 (min al bl), .int .i64 (max ah bh)] 39)).below hb5
  replace Sb := (Sb.alloc (.cells #[.int .i64 (min al bl), .int .i64 (max ah bh)] 39)).below hb5
  replace Sm := (Sm.alloc (.cells #[.int .i64 (min al bl), .int .i64 (max ah bh)] 39)).below hb5
  replace Sn := (Sn.alloc (.cells #[.int .i64 (min al bl), .int .i64 (max ah bh)] 39)).below hb5
  have Sc := (Sp.new w4 (min al bl) (max ah bh)).below hb5
  clear za ca0 ca1 zb cb0 cb1 zm cm0 cm1 zn cn0 cn1
  obtain ⟨za, ca0, ca1⟩ := id Sa
  obtain ⟨zb, cb0, cb1⟩ := id Sb
  obtain ⟨zm, cm0, cm1⟩ := id Sm
  obtain ⟨zn, cn0, cn1⟩ := id Sn
  obtain ⟨zc, cc0, cc1⟩ := id Sc
  replace hb := bstep (balloc hb (.cells #[.int .i64 (min al bl), .int .i64 (max ah bh)] 39)) hb5
  clear hb5
  go_wp2_with fail
  refine (Shift_ok _ _ _ _ A.out D.out.1 D.out.2).mono ?_
  rintro e w6 ⟨rfl, hb6⟩
  replace Sa := (Sa.alloc (.cells #[.int .i64 (min al bl), .int .i64 (max ah bh)] 39)).below hb6
  replace Sb := (Sb.alloc (.cells #[.int .i64 (min al bl), .int .i64 (max ah bh)] 39)).below hb6
  replace Sm := (Sm.alloc (.cells #[.int .i64 (min al bl), .int .i64 (max ah bh)] 39)).below hb6
  replace Sn := (Sn.alloc (.cells #[.int .i64 (min al bl), .int .i64 (max ah bh)] 39)).below hb6
  replace Sc := (Sc.alloc (.cells #[.int .i64 (min al bl), .int .i64 (max ah bh)] 39)).below hb6
  have Sk := (Sp.new w5 (min al bl) (max ah bh)).below hb6
  clear za ca0 ca1 zb cb0 cb1 zm cm0 cm1 zn cn0 cn1 zc cc0 cc1
  obtain ⟨za, ca0, ca1⟩ := id Sa
  obtain ⟨zb, cb0, cb1⟩ := id Sb
  obtain ⟨zm, cm0, cm1⟩ := id Sm
  obtain ⟨zn, cn0, cn1⟩ := id Sn
  obtain ⟨zc, cc0, cc1⟩ := id Sc
  obtain ⟨zk, ck0, ck1⟩ := id Sk
  replace hb := bstep (balloc hb (.cells #[.int .i64 (min al bl), .int .i64 (max ah bh)] 39)) hb6
  clear hb6
  go_wp2_with fail
  refine (rShift_ok _ _ _ _ A.out D.out.1 D.out.2).mono ?_
  rintro e w7 ⟨rfl, hb7⟩
  replace Sa := (Sa.alloc (.cells #[.int .i64 (shl al d), .int .i64 (shh ah d)] 39)).below hb7
  replace Sb := (Sb.alloc (.cells #[.int .i64 (shl al d), .int .i64 (shh ah d)] 39)).below hb7
  replace Sm := (Sm.alloc (.cells #[.int .i64 (shl al d), .int .i64 (shh ah d)] 39)).below hb7
  replace Sn := (Sn.alloc (.cells #[.int .i64 (shl al d), .int .i64 (shh ah d)] 39)).below hb7
  replace Sc := (Sc.alloc (.cells #[.int .i64 (shl al d), .int .i64 (shh ah d)] 39)).below hb7
  replace Sk := (Sk.alloc (.cells #[.int .i64 (shl al d), .int .i64 (shh ah d)] 39)).below hb7
  have Ss := (Sp.new w6 (shl al d) (shh ah d)).below hb7
  clear za ca0 ca1 zb cb0 cb1 zm cm0 cm1 zn cn0 cn1 zc cc0 cc1 zk ck0 ck1
  obtain ⟨za, ca0, ca1⟩ := id Sa
  obtain ⟨zb, cb0, cb1⟩ := id Sb
  obtain ⟨zm, cm0, cm1⟩ := id Sm
  obtain ⟨zn, cn0, cn1⟩ := id Sn
  obtain ⟨zc, cc0, cc1⟩ := id Sc
  obtain ⟨zk, ck0, ck1⟩ := id Sk
  obtain ⟨zs, cs0, cs1⟩ := id Ss
  replace hb := bstep (balloc hb (.cells #[.int .i64 (shl al d), .int .i64 (shh ah d)] 39)) hb7
  clear hb7
  go_wp2_with fail
  clear za ca0 ca1 zb cb0 cb1 zm cm0 cm1 zn cn0 cn1 zc cc0 cc1 zk ck0 ck1 zs cs0 cs1
  replace Sa := Sa.alloc (.cells #[.int .i64 (shl al d), .int .i64 (shh ah d)] 39)
  replace Sb := Sb.alloc (.cells #[.int .i64 (shl al d), .int .i64 (shh ah d)] 39)
  replace Sm := Sm.alloc (.cells #[.int .i64 (shl al d), .int .i64 (shh ah d)] 39)
  replace Sn := Sn.alloc (.cells #[.int .i64 (shl al d), .int .i64 (shh ah d)] 39)
  replace Sc := Sc.alloc (.cells #[.int .i64 (shl al d), .int .i64 (shh ah d)] 39)
  replace Sk := Sk.alloc (.cells #[.int .i64 (shl al d), .int .i64 (shh ah d)] 39)
  replace Ss := Ss.alloc (.cells #[.int .i64 (shl al d), .int .i64 (shh ah d)] 39)
  have St := Sp.new w7 (shl al d) (shh ah d)
  replace hb := balloc hb (.cells #[.int .i64 (shl al d), .int .i64 (shh ah d)] 39)
  generalize w7.alloc (.cells #[.int .i64 (shl al d), .int .i64 (shh ah d)] 39) = W at *
  obtain ⟨za, ca0, ca1⟩ := id Sa
  obtain ⟨zb, cb0, cb1⟩ := id Sb
  obtain ⟨zm, cm0, cm1⟩ := id Sm
  obtain ⟨zn, cn0, cn1⟩ := id Sn
  obtain ⟨zc, cc0, cc1⟩ := id Sc
  obtain ⟨zk, ck0, ck1⟩ := id Sk
  obtain ⟨zs, cs0, cs1⟩ := id Ss
  obtain ⟨zt, ct0, ct1⟩ := id St
  clear Sa Sb Sm Sn Sc Sk Ss St
  go_region_held3 (fun w' => w'.cell? ⟨w.heap.size, 0, none⟩ = some (.int .i64 (al)) ∧ w'.cell? ⟨w.heap.size, 1, none⟩ = some (.int .i64 (ah)) ∧ w'.cell? ⟨w2.heap.size, 0, none⟩ = some (.int .i64 (max al bl)) ∧ w'.cell? ⟨w2.heap.size, 1, none⟩ = some (.int .i64 (min ah bh)) ∧ w'.cell? ⟨w3.heap.size, 0, none⟩ = some (.int .i64 (max al bl)) ∧ w'.cell? ⟨w3.heap.size, 1, none⟩ = some (.int .i64 (min ah bh)) ∧ w'.cell? ⟨w4.heap.size, 0, none⟩ = some (.int .i64 (min al bl)) ∧ w'.cell? ⟨w4.heap.size, 1, none⟩ = some (.int .i64 (max ah bh)) ∧ w'.cell? ⟨w5.heap.size, 0, none⟩ = some (.int .i64 (min al bl)) ∧ w'.cell? ⟨w5.heap.size, 1, none⟩ = some (.int .i64 (max ah bh)) ∧ w'.cell? ⟨w6.heap.size, 0, none⟩ = some (.int .i64 (shl al d)) ∧ w'.cell? ⟨w6.heap.size, 1, none⟩ = some (.int .i64 (shh ah d)) ∧ w'.cell? ⟨w7.heap.size, 0, none⟩ = some (.int .i64 (shl al d)) ∧ w'.cell? ⟨w7.heap.size, 1, none⟩ = some (.int .i64 (shh ah d))) (go_keep)
    (first | (go_at_call 28; refine (Check_okx _ _ _ A.out).mono ?_; rintro e w' ⟨rfl, rfl⟩) | (go_at_call 29; refine (rCheck_okx _ _ _ A.out).mono ?_; rintro e w' ⟨rfl, rfl⟩))
  all_goals
    go_wp2_with fail
    go_ret
    exact ⟨rfl, by repeat (first | exact hb | refine balloc ?_ _ | exact bdrew hb 1 | apply Below.drew)⟩

set_option maxRecDepth 100000 in
set_option maxHeartbeats 4000000 in
theorem walk_yy_ok_rng (al ah bl bh d : Int) (w : World) (A : Hid (okS al ah)) (B : Hid (okS bl bh)) (M : Hid (max al bl ≤ min ah bh)) (D : Hid (d < -2305843009213693952 ∨ 2305843009213693952 < d)) :
    Calls Try.prog 5 #[.agg #[.int .i64 al, .int .i64 ah], .agg #[.int .i64 bl, .int .i64 bh], .int .i64 d] w fun e w' => e = .returned (.bool true) ∧ Below w.heap.size w w' := by
  go_enter Try.func5, Try.ntmps5
  go_wp2_with fail
  have hb : Below w.heap.size w ((w.alloc (.cells #[.int .i64 al, .int .i64 ah] 39)).alloc (.cells #[.int .i64 bl, .int .i64 bh] 39)) := balloc (balloc (brefl w) _) _
  have Sa := (Sp.new w al ah).alloc (.cells #[.int .i64 bl, .int .i64 bh] 39)
  have Sb := Sp.new1 w (.cells #[.int .i64 al, .int .i64 ah] 39) bl bh
  refine (awake_c _).mono ?_
  rintro e w1 ⟨rfl, hb1⟩
  replace Sa := Sa.below hb1
  replace Sb := Sb.below hb1
  obtain ⟨za, ca0, ca1⟩ := id Sa
  obtain ⟨zb, cb0, cb1⟩ := id Sb
  replace hb := bstep hb hb1
  clear hb1
  go_wp2_with fail
  refine (Meet_ok _ _ _ _ _ A.out B.out M.out).mono ?_
  rintro e w2 ⟨rfl, hb2⟩
  replace Sa := Sa.below hb2
  replace Sb := Sb.below hb2
  clear za ca0 ca1 zb cb0 cb1
  obtain ⟨za, ca0, ca1⟩ := id Sa
  obtain ⟨zb, cb0, cb1⟩ := id Sb
  replace hb := bstep hb hb2
  clear hb2
  go_wp2_with fail
  refine (rMeet_ok _ _ _ _ _ A.out B.out M.out).mono ?_
  rintro e w3 ⟨rfl, hb3⟩
  replace Sa := (Sa.alloc (.cells #[.int .i64 (max al bl), .int .i64 (min ah bh)] 39)).below hb3
  replace Sb := (Sb.alloc (.cells #[.int .i64 (max al bl), .int .i64 (min ah bh)] 39)).below hb3
  have Sm := (Sp.new w2 (max al bl) (min ah bh)).below hb3
  clear za ca0 ca1 zb cb0 cb1
  obtain ⟨za, ca0, ca1⟩ := id Sa
  obtain ⟨zb, cb0, cb1⟩ := id Sb
  obtain ⟨zm, cm0, cm1⟩ := id Sm
  replace hb := bstep (balloc hb (.cells #[.int .i64 (max al bl), .int .i64 (min ah bh)] 39)) hb3
  clear hb3
  go_wp2_with fail
  refine (Cover_ok _ _ _ _ _ A.out B.out).mono ?_
  rintro e w4 ⟨rfl, hb4⟩
  replace Sa := (Sa.alloc (.cells #[.int .i64 (max al bl), .int .i64 (min ah bh)] 39)).below hb4
  replace Sb := (Sb.alloc (.cells #[.int .i64 (max al bl), .int .i64 (min ah bh)] 39)).below hb4
  replace Sm := (Sm.alloc (.cells #[.int .i64 (max al bl), .int .i64 (min ah bh)] 39)).below hb4
  have Sn := (Sp.new w3 (max al bl) (min ah bh)).below hb4
  clear za ca0 ca1 zb cb0 cb1 zm cm0 cm1
  obtain ⟨za, ca0, ca1⟩ := id Sa
  obtain ⟨zb, cb0, cb1⟩ := id Sb
  obtain ⟨zm, cm0, cm1⟩ := id Sm
  obtain ⟨zn, cn0, cn1⟩ := id Sn
  replace hb := bstep (balloc hb (.cells #[.int .i64 (max al bl), .int .i64 (min ah bh)] 39)) hb4
  clear hb4
  go_wp2_with fail
  refine (rCover_ok _ _ _ _ _ A.out B.out).mono ?_
  rintro e w5 ⟨rfl, hb5⟩
  replace Sa := (Sa.alloc (.cells #[.int .i64 (min al bl), .int .i64 (max ah bh)] 39)).below hb5
  replace Sb := (Sb.alloc (.cells #[.int .i64 (min al bl), .int .i64 (max ah bh)] 39)).below hb5
  replace Sm := (Sm.alloc (.cells #[.int .i64 (min al bl), .int .i64 (max ah bh)] 39)).below hb5
  replace Sn := (Sn.alloc (.cells #[.int .i64 (min al bl), .int .i64 (max ah bh)] 39)).below hb5
  have Sc := (Sp.new w4 (min al bl) (max ah bh)).below hb5
  clear za ca0 ca1 zb cb0 cb1 zm cm0 cm1 zn cn0 cn1
  obtain ⟨za, ca0, ca1⟩ := id Sa
  obtain ⟨zb, cb0, cb1⟩ := id Sb
  obtain ⟨zm, cm0, cm1⟩ := id Sm
  obtain ⟨zn, cn0, cn1⟩ := id Sn
  obtain ⟨zc, cc0, cc1⟩ := id Sc
  replace hb := bstep (balloc hb (.cells #[.int .i64 (min al bl), .int .i64 (max ah bh)] 39)) hb5
  clear hb5
  go_wp2_with fail
  refine (Shift_range _ _ _ _ A.out D.out).mono ?_
  rintro e w6 ⟨rfl, hb6⟩
  replace Sa := (Sa.alloc (.cells #[.int .i64 (min al bl), .int .i64 (max ah bh)] 39)).below hb6
  replace Sb := (Sb.alloc (.cells #[.int .i64 (min al bl), .int .i64 (max ah bh)] 39)).below hb6
  replace Sm := (Sm.alloc (.cells #[.int .i64 (min al bl), .int .i64 (max ah bh)] 39)).below hb6
  replace Sn := (Sn.alloc (.cells #[.int .i64 (min al bl), .int .i64 (max ah bh)] 39)).below hb6
  replace Sc := (Sc.alloc (.cells #[.int .i64 (min al bl), .int .i64 (max ah bh)] 39)).below hb6
  have Sk := (Sp.new w5 (min al bl) (max ah bh)).below hb6
  clear za ca0 ca1 zb cb0 cb1 zm cm0 cm1 zn cn0 cn1 zc cc0 cc1
  obtain ⟨za, ca0, ca1⟩ := id Sa
  obtain ⟨zb, cb0, cb1⟩ := id Sb
  obtain ⟨zm, cm0, cm1⟩ := id Sm
  obtain ⟨zn, cn0, cn1⟩ := id Sn
  obtain ⟨zc, cc0, cc1⟩ := id Sc
  obtain ⟨zk, ck0, ck1⟩ := id Sk
  replace hb := bstep (balloc hb (.cells #[.int .i64 (min al bl), .int .i64 (max ah bh)] 39)) hb6
  clear hb6
  go_wp2_with fail
  refine (rShift_range _ _ _ _ A.out D.out).mono ?_
  rintro e w7 ⟨rfl, hb7⟩
  replace Sa := (Sa.alloc (.cells #[.int .i64 (0), .int .i64 (0)] 39)).below hb7
  replace Sb := (Sb.alloc (.cells #[.int .i64 (0), .int .i64 (0)] 39)).below hb7
  replace Sm := (Sm.alloc (.cells #[.int .i64 (0), .int .i64 (0)] 39)).below hb7
  replace Sn := (Sn.alloc (.cells #[.int .i64 (0), .int .i64 (0)] 39)).below hb7
  replace Sc := (Sc.alloc (.cells #[.int .i64 (0), .int .i64 (0)] 39)).below hb7
  replace Sk := (Sk.alloc (.cells #[.int .i64 (0), .int .i64 (0)] 39)).below hb7
  have Ss := (Sp.new w6 (0) (0)).below hb7
  clear za ca0 ca1 zb cb0 cb1 zm cm0 cm1 zn cn0 cn1 zc cc0 cc1 zk ck0 ck1
  obtain ⟨za, ca0, ca1⟩ := id Sa
  obtain ⟨zb, cb0, cb1⟩ := id Sb
  obtain ⟨zm, cm0, cm1⟩ := id Sm
  obtain ⟨zn, cn0, cn1⟩ := id Sn
  obtain ⟨zc, cc0, cc1⟩ := id Sc
  obtain ⟨zk, ck0, ck1⟩ := id Sk
  obtain ⟨zs, cs0, cs1⟩ := id Ss
  replace hb := bstep (balloc hb (.cells #[.int .i64 (0), .int .i64 (0)] 39)) hb7
  clear hb7
  go_wp2_with fail
  clear za ca0 ca1 zb cb0 cb1 zm cm0 cm1 zn cn0 cn1 zc cc0 cc1 zk ck0 ck1 zs cs0 cs1
  replace Sa := Sa.alloc (.cells #[.int .i64 (0), .int .i64 (0)] 39)
  replace Sb := Sb.alloc (.cells #[.int .i64 (0), .int .i64 (0)] 39)
  replace Sm := Sm.alloc (.cells #[.int .i64 (0), .int .i64 (0)] 39)
  replace Sn := Sn.alloc (.cells #[.int .i64 (0), .int .i64 (0)] 39)
  replace Sc := Sc.alloc (.cells #[.int .i64 (0), .int .i64 (0)] 39)
  replace Sk := Sk.alloc (.cells #[.int .i64 (0), .int .i64 (0)] 39)
  replace Ss := Ss.alloc (.cells #[.int .i64 (0), .int .i64 (0)] 39)
  have St := Sp.new w7 (0) (0)
  replace hb := balloc hb (.cells #[.int .i64 (0), .int .i64 (0)] 39)
  generalize w7.alloc (.cells #[.int .i64 (0), .int .i64 (0)] 39) = W at *
  obtain ⟨za, ca0, ca1⟩ := id Sa
  obtain ⟨zb, cb0, cb1⟩ := id Sb
  obtain ⟨zm, cm0, cm1⟩ := id Sm
  obtain ⟨zn, cn0, cn1⟩ := id Sn
  obtain ⟨zc, cc0, cc1⟩ := id Sc
  obtain ⟨zk, ck0, ck1⟩ := id Sk
  obtain ⟨zs, cs0, cs1⟩ := id Ss
  obtain ⟨zt, ct0, ct1⟩ := id St
  clear Sa Sb Sm Sn Sc Sk Ss St
  go_region_held3 (fun w' => w'.cell? ⟨w.heap.size, 0, none⟩ = some (.int .i64 (al)) ∧ w'.cell? ⟨w.heap.size, 1, none⟩ = some (.int .i64 (ah)) ∧ w'.cell? ⟨w2.heap.size, 0, none⟩ = some (.int .i64 (max al bl)) ∧ w'.cell? ⟨w2.heap.size, 1, none⟩ = some (.int .i64 (min ah bh)) ∧ w'.cell? ⟨w3.heap.size, 0, none⟩ = some (.int .i64 (max al bl)) ∧ w'.cell? ⟨w3.heap.size, 1, none⟩ = some (.int .i64 (min ah bh)) ∧ w'.cell? ⟨w4.heap.size, 0, none⟩ = some (.int .i64 (min al bl)) ∧ w'.cell? ⟨w4.heap.size, 1, none⟩ = some (.int .i64 (max ah bh)) ∧ w'.cell? ⟨w5.heap.size, 0, none⟩ = some (.int .i64 (min al bl)) ∧ w'.cell? ⟨w5.heap.size, 1, none⟩ = some (.int .i64 (max ah bh)) ∧ w'.cell? ⟨w6.heap.size, 0, none⟩ = some (.int .i64 (0)) ∧ w'.cell? ⟨w6.heap.size, 1, none⟩ = some (.int .i64 (0)) ∧ w'.cell? ⟨w7.heap.size, 0, none⟩ = some (.int .i64 (0)) ∧ w'.cell? ⟨w7.heap.size, 1, none⟩ = some (.int .i64 (0))) (go_keep)
    (first | (go_at_call 28; refine (Check_okx _ _ _ A.out).mono ?_; rintro e w' ⟨rfl, rfl⟩) | (go_at_call 29; refine (rCheck_okx _ _ _ A.out).mono ?_; rintro e w' ⟨rfl, rfl⟩))
  all_goals
    go_wp2_with fail
    go_ret
    exact ⟨rfl, by repeat (first | exact hb | refine balloc ?_ _ | exact bdrew hb 1 | apply Below.drew)⟩

set_option maxRecDepth 100000 in
set_option maxHeartbeats 4000000 in
theorem walk_yy_none_ok (al ah bl bh d : Int) (w : World) (A : Hid (okS al ah)) (B : Hid (okS bl bh)) (M : Hid (min ah bh < max al bl)) (D : Hid (-2305843009213693952 ≤ d ∧ d ≤ 2305843009213693952)) :
    Calls Try.prog 5 #[.agg #[.int .i64 al, .int .i64 ah], .agg #[.int .i64 bl, .int .i64 bh], .int .i64 d] w fun e w' => e = .returned (.bool true) ∧ Below w.heap.size w w' := by
  go_enter Try.func5, Try.ntmps5
  go_wp2_with fail
  have hb : Below w.heap.size w ((w.alloc (.cells #[.int .i64 al, .int .i64 ah] 39)).alloc (.cells #[.int .i64 bl, .int .i64 bh] 39)) := balloc (balloc (brefl w) _) _
  have Sa := (Sp.new w al ah).alloc (.cells #[.int .i64 bl, .int .i64 bh] 39)
  have Sb := Sp.new1 w (.cells #[.int .i64 al, .int .i64 ah] 39) bl bh
  refine (awake_c _).mono ?_
  rintro e w1 ⟨rfl, hb1⟩
  replace Sa := Sa.below hb1
  replace Sb := Sb.below hb1
  obtain ⟨za, ca0, ca1⟩ := id Sa
  obtain ⟨zb, cb0, cb1⟩ := id Sb
  replace hb := bstep hb hb1
  clear hb1
  go_wp2_with fail
  refine (Meet_none _ _ _ _ _ A.out B.out M.out).mono ?_
  rintro e w2 ⟨rfl, hb2⟩
  replace Sa := Sa.below hb2
  replace Sb := Sb.below hb2
  clear za ca0 ca1 zb cb0 cb1
  obtain ⟨za, ca0, ca1⟩ := id Sa
  obtain ⟨zb, cb0, cb1⟩ := id Sb
  replace hb := bstep hb hb2
  clear hb2
  go_wp2_with fail
  refine (rMeet_none _ _ _ _ _ A.out B.out M.out).mono ?_
  rintro e w3 ⟨rfl, hb3⟩
  replace Sa := (Sa.alloc (.cells #[.int .i64 (0), .int .i64 (0)] 39)).below hb3
  replace Sb := (Sb.alloc (.cells #[.int .i64 (0), .int .i64 (0)] 39)).below hb3
  have Sm := (Sp.new w2 (0) (0)).below hb3
  clear za ca0 ca1 zb cb0 cb1
  obtain ⟨za, ca0, ca1⟩ := id Sa
  obtain ⟨zb, cb0, cb1⟩ := id Sb
  obtain ⟨zm, cm0, cm1⟩ := id Sm
  replace hb := bstep (balloc hb (.cells #[.int .i64 (0), .int .i64 (0)] 39)) hb3
  clear hb3
  go_wp2_with fail
  refine (Cover_ok _ _ _ _ _ A.out B.out).mono ?_
  rintro e w4 ⟨rfl, hb4⟩
  replace Sa := (Sa.alloc (.cells #[.int .i64 (0), .int .i64 (0)] 39)).below hb4
  replace Sb := (Sb.alloc (.cells #[.int .i64 (0), .int .i64 (0)] 39)).below hb4
  replace Sm := (Sm.alloc (.cells #[.int .i64 (0), .int .i64 (0)] 39)).below hb4
  have Sn := (Sp.new w3 (0) (0)).below hb4
  clear za ca0 ca1 zb cb0 cb1 zm cm0 cm1
  obtain ⟨za, ca0, ca1⟩ := id Sa
  obtain ⟨zb, cb0, cb1⟩ := id Sb
  obtain ⟨zm, cm0, cm1⟩ := id Sm
  obtain ⟨zn, cn0, cn1⟩ := id Sn
  replace hb := bstep (balloc hb (.cells #[.int .i64 (0), .int .i64 (0)] 39)) hb4
  clear hb4
  go_wp2_with fail
  refine (rCover_ok _ _ _ _ _ A.out B.out).mono ?_
  rintro e w5 ⟨rfl, hb5⟩
  replace Sa := (Sa.alloc (.cells #[.int .i64 (min al bl), .int .i64 (max ah bh)] 39)).below hb5
  replace Sb := (Sb.alloc (.cells #[.int .i64 (min al bl), .int .i64 (max ah bh)] 39)).below hb5
  replace Sm := (Sm.alloc (.cells #[.int .i64 (min al bl), .int .i64 (max ah bh)] 39)).below hb5
  replace Sn := (Sn.alloc (.cells #[.int .i64 (min al bl), .int .i64 (max ah bh)] 39)).below hb5
  have Sc := (Sp.new w4 (min al bl) (max ah bh)).below hb5
  clear za ca0 ca1 zb cb0 cb1 zm cm0 cm1 zn cn0 cn1
  obtain ⟨za, ca0, ca1⟩ := id Sa
  obtain ⟨zb, cb0, cb1⟩ := id Sb
  obtain ⟨zm, cm0, cm1⟩ := id Sm
  obtain ⟨zn, cn0, cn1⟩ := id Sn
  obtain ⟨zc, cc0, cc1⟩ := id Sc
  replace hb := bstep (balloc hb (.cells #[.int .i64 (min al bl), .int .i64 (max ah bh)] 39)) hb5
  clear hb5
  go_wp2_with fail
  refine (Shift_ok _ _ _ _ A.out D.out.1 D.out.2).mono ?_
  rintro e w6 ⟨rfl, hb6⟩
  replace Sa := (Sa.alloc (.cells #[.int .i64 (min al bl), .int .i64 (max ah bh)] 39)).below hb6
  replace Sb := (Sb.alloc (.cells #[.int .i64 (min al bl), .int .i64 (max ah bh)] 39)).below hb6
  replace Sm := (Sm.alloc (.cells #[.int .i64 (min al bl), .int .i64 (max ah bh)] 39)).below hb6
  replace Sn := (Sn.alloc (.cells #[.int .i64 (min al bl), .int .i64 (max ah bh)] 39)).below hb6
  replace Sc := (Sc.alloc (.cells #[.int .i64 (min al bl), .int .i64 (max ah bh)] 39)).below hb6
  have Sk := (Sp.new w5 (min al bl) (max ah bh)).below hb6
  clear za ca0 ca1 zb cb0 cb1 zm cm0 cm1 zn cn0 cn1 zc cc0 cc1
  obtain ⟨za, ca0, ca1⟩ := id Sa
  obtain ⟨zb, cb0, cb1⟩ := id Sb
  obtain ⟨zm, cm0, cm1⟩ := id Sm
  obtain ⟨zn, cn0, cn1⟩ := id Sn
  obtain ⟨zc, cc0, cc1⟩ := id Sc
  obtain ⟨zk, ck0, ck1⟩ := id Sk
  replace hb := bstep (balloc hb (.cells #[.int .i64 (min al bl), .int .i64 (max ah bh)] 39)) hb6
  clear hb6
  go_wp2_with fail
  refine (rShift_ok _ _ _ _ A.out D.out.1 D.out.2).mono ?_
  rintro e w7 ⟨rfl, hb7⟩
  replace Sa := (Sa.alloc (.cells #[.int .i64 (shl al d), .int .i64 (shh ah d)] 39)).below hb7
  replace Sb := (Sb.alloc (.cells #[.int .i64 (shl al d), .int .i64 (shh ah d)] 39)).below hb7
  replace Sm := (Sm.alloc (.cells #[.int .i64 (shl al d), .int .i64 (shh ah d)] 39)).below hb7
  replace Sn := (Sn.alloc (.cells #[.int .i64 (shl al d), .int .i64 (shh ah d)] 39)).below hb7
  replace Sc := (Sc.alloc (.cells #[.int .i64 (shl al d), .int .i64 (shh ah d)] 39)).below hb7
  replace Sk := (Sk.alloc (.cells #[.int .i64 (shl al d), .int .i64 (shh ah d)] 39)).below hb7
  have Ss := (Sp.new w6 (shl al d) (shh ah d)).below hb7
  clear za ca0 ca1 zb cb0 cb1 zm cm0 cm1 zn cn0 cn1 zc cc0 cc1 zk ck0 ck1
  obtain ⟨za, ca0, ca1⟩ := id Sa
  obtain ⟨zb, cb0, cb1⟩ := id Sb
  obtain ⟨zm, cm0, cm1⟩ := id Sm
  obtain ⟨zn, cn0, cn1⟩ := id Sn
  obtain ⟨zc, cc0, cc1⟩ := id Sc
  obtain ⟨zk, ck0, ck1⟩ := id Sk
  obtain ⟨zs, cs0, cs1⟩ := id Ss
  replace hb := bstep (balloc hb (.cells #[.int .i64 (shl al d), .int .i64 (shh ah d)] 39)) hb7
  clear hb7
  go_wp2_with fail
  clear za ca0 ca1 zb cb0 cb1 zm cm0 cm1 zn cn0 cn1 zc cc0 cc1 zk ck0 ck1 zs cs0 cs1
  replace Sa := Sa.alloc (.cells #[.int .i64 (shl al d), .int .i64 (shh ah d)] 39)
  replace Sb := Sb.alloc (.cells #[.int .i64 (shl al d), .int .i64 (shh ah d)] 39)
  replace Sm := Sm.alloc (.cells #[.int .i64 (shl al d), .int .i64 (shh ah d)] 39)
  replace Sn := Sn.alloc (.cells #[.int .i64 (shl al d), .int .i64 (shh ah d)] 39)
  replace Sc := Sc.alloc (.cells #[.int .i64 (shl al d), .int .i64 (shh ah d)] 39)
  replace Sk := Sk.alloc (.cells #[.int .i64 (shl al d), .int .i64 (shh ah d)] 39)
  replace Ss := Ss.alloc (.cells #[.int .i64 (shl al d), .int .i64 (shh ah d)] 39)
  have St := Sp.new w7 (shl al d) (shh ah d)
  replace hb := balloc hb (.cells #[.int .i64 (shl al d), .int .i64 (shh ah d)] 39)
  generalize w7.alloc (.cells #[.int .i64 (shl al d), .int .i64 (shh ah d)] 39) = W at *
  obtain ⟨za, ca0, ca1⟩ := id Sa
  obtain ⟨zb, cb0, cb1⟩ := id Sb
  obtain ⟨zm, cm0, cm1⟩ := id Sm
  obtain ⟨zn, cn0, cn1⟩ := id Sn
  obtain ⟨zc, cc0, cc1⟩ := id Sc
  obtain ⟨zk, ck0, ck1⟩ := id Sk
  obtain ⟨zs, cs0, cs1⟩ := id Ss
  obtain ⟨zt, ct0, ct1⟩ := id St
  clear Sa Sb Sm Sn Sc Sk Ss St
  go_region_held3 (fun w' => w'.cell? ⟨w.heap.size, 0, none⟩ = some (.int .i64 (al)) ∧ w'.cell? ⟨w.heap.size, 1, none⟩ = some (.int .i64 (ah)) ∧ w'.cell? ⟨w2.heap.size, 0, none⟩ = some (.int .i64 (0)) ∧ w'.cell? ⟨w2.heap.size, 1, none⟩ = some (.int .i64 (0)) ∧ w'.cell? ⟨w3.heap.size, 0, none⟩ = some (.int .i64 (0)) ∧ w'.cell? ⟨w3.heap.size, 1, none⟩ = some (.int .i64 (0)) ∧ w'.cell? ⟨w4.heap.size, 0, none⟩ = some (.int .i64 (min al bl)) ∧ w'.cell? ⟨w4.heap.size, 1, none⟩ = some (.int .i64 (max ah bh)) ∧ w'.cell? ⟨w5.heap.size, 0, none⟩ = some (.int .i64 (min al bl)) ∧ w'.cell? ⟨w5.heap.size, 1, none⟩ = some (.int .i64 (max ah bh)) ∧ w'.cell? ⟨w6.heap.size, 0, none⟩ = some (.int .i64 (shl al d)) ∧ w'.cell? ⟨w6.heap.size, 1, none⟩ = some (.int .i64 (shh ah d)) ∧ w'.cell? ⟨w7.heap.size, 0, none⟩ = some (.int .i64 (shl al d)) ∧ w'.cell? ⟨w7.heap.size, 1, none⟩ = some (.int .i64 (shh ah d))) (go_keep)
    (first | (go_at_call 28; refine (Check_okx _ _ _ A.out).mono ?_; rintro e w' ⟨rfl, rfl⟩) | (go_at_call 29; refine (rCheck_okx _ _ _ A.out).mono ?_; rintro e w' ⟨rfl, rfl⟩))
  all_goals
    go_wp2_with fail
    go_ret
    exact ⟨rfl, by repeat (first | exact hb | refine balloc ?_ _ | exact bdrew hb 1 | apply Below.drew)⟩

set_option maxRecDepth 100000 in
set_option maxHeartbeats 4000000 in
theorem walk_yy_none_rng (al ah bl bh d : Int) (w : World) (A : Hid (okS al ah)) (B : Hid (okS bl bh)) (M : Hid (min ah bh < max al bl)) (D : Hid (d < -2305843009213693952 ∨ 2305843009213693952 < d)) :
    Calls Try.prog 5 #[.agg #[.int .i64 al, .int .i64 ah], .agg #[.int .i64 bl, .int .i64 bh], .int .i64 d] w fun e w' => e = .returned (.bool true) ∧ Below w.heap.size w w' := by
  go_enter Try.func5, Try.ntmps5
  go_wp2_with fail
  have hb : Below w.heap.size w ((w.alloc (.cells #[.int .i64 al, .int .i64 ah] 39)).alloc (.cells #[.int .i64 bl, .int .i64 bh] 39)) := balloc (balloc (brefl w) _) _
  have Sa := (Sp.new w al ah).alloc (.cells #[.int .i64 bl, .int .i64 bh] 39)
  have Sb := Sp.new1 w (.cells #[.int .i64 al, .int .i64 ah] 39) bl bh
  refine (awake_c _).mono ?_
  rintro e w1 ⟨rfl, hb1⟩
  replace Sa := Sa.below hb1
  replace Sb := Sb.below hb1
  obtain ⟨za, ca0, ca1⟩ := id Sa
  obtain ⟨zb, cb0, cb1⟩ := id Sb
  replace hb := bstep hb hb1
  clear hb1
  go_wp2_with fail
  refine (Meet_none _ _ _ _ _ A.out B.out M.out).mono ?_
  rintro e w2 ⟨rfl, hb2⟩
  replace Sa := Sa.below hb2
  replace Sb := Sb.below hb2
  clear za ca0 ca1 zb cb0 cb1
  obtain ⟨za, ca0, ca1⟩ := id Sa
  obtain ⟨zb, cb0, cb1⟩ := id Sb
  replace hb := bstep hb hb2
  clear hb2
  go_wp2_with fail
  refine (rMeet_none _ _ _ _ _ A.out B.out M.out).mono ?_
  rintro e w3 ⟨rfl, hb3⟩
  replace Sa := (Sa.alloc (.cells #[.int .i64 (0), .int .i64 (0)] 39)).below hb3
  replace Sb := (Sb.alloc (.cells #[.int .i64 (0), .int .i64 (0)] 39)).below hb3
  have Sm := (Sp.new w2 (0) (0)).below hb3
  clear za ca0 ca1 zb cb0 cb1
  obtain ⟨za, ca0, ca1⟩ := id Sa
  obtain ⟨zb, cb0, cb1⟩ := id Sb
  obtain ⟨zm, cm0, cm1⟩ := id Sm
  replace hb := bstep (balloc hb (.cells #[.int .i64 (0), .int .i64 (0)] 39)) hb3
  clear hb3
  go_wp2_with fail
  refine (Cover_ok _ _ _ _ _ A.out B.out).mono ?_
  rintro e w4 ⟨rfl, hb4⟩
  replace Sa := (Sa.alloc (.cells #[.int .i64 (0), .int .i64 (0)] 39)).below hb4
  replace Sb := (Sb.alloc (.cells #[.int .i64 (0), .int .i64 (0)] 39)).below hb4
  replace Sm := (Sm.alloc (.cells #[.int .i64 (0), .int .i64 (0)] 39)).below hb4
  have Sn := (Sp.new w3 (0) (0)).below hb4
  clear za ca0 ca1 zb cb0 cb1 zm cm0 cm1
  obtain ⟨za, ca0, ca1⟩ := id Sa
  obtain ⟨zb, cb0, cb1⟩ := id Sb
  obtain ⟨zm, cm0, cm1⟩ := id Sm
  obtain ⟨zn, cn0, cn1⟩ := id Sn
  replace hb := bstep (balloc hb (.cells #[.int .i64 (0), .int .i64 (0)] 39)) hb4
  clear hb4
  go_wp2_with fail
  refine (rCover_ok _ _ _ _ _ A.out B.out).mono ?_
  rintro e w5 ⟨rfl, hb5⟩
  replace Sa := (Sa.alloc (.cells #[.int .i64 (min al bl), .int .i64 (max ah bh)] 39)).below hb5
  replace Sb := (Sb.alloc (.cells #[.int .i64 (min al bl), .int .i64 (max ah bh)] 39)).below hb5
  replace Sm := (Sm.alloc (.cells #[.int .i64 (min al bl), .int .i64 (max ah bh)] 39)).below hb5
  replace Sn := (Sn.alloc (.cells #[.int .i64 (min al bl), .int .i64 (max ah bh)] 39)).below hb5
  have Sc := (Sp.new w4 (min al bl) (max ah bh)).below hb5
  clear za ca0 ca1 zb cb0 cb1 zm cm0 cm1 zn cn0 cn1
  obtain ⟨za, ca0, ca1⟩ := id Sa
  obtain ⟨zb, cb0, cb1⟩ := id Sb
  obtain ⟨zm, cm0, cm1⟩ := id Sm
  obtain ⟨zn, cn0, cn1⟩ := id Sn
  obtain ⟨zc, cc0, cc1⟩ := id Sc
  replace hb := bstep (balloc hb (.cells #[.int .i64 (min al bl), .int .i64 (max ah bh)] 39)) hb5
  clear hb5
  go_wp2_with fail
  refine (Shift_range _ _ _ _ A.out D.out).mono ?_
  rintro e w6 ⟨rfl, hb6⟩
  replace Sa := (Sa.alloc (.cells #[.int .i64 (min al bl), .int .i64 (max ah bh)] 39)).below hb6
  replace Sb := (Sb.alloc (.cells #[.int .i64 (min al bl), .int .i64 (max ah bh)] 39)).below hb6
  replace Sm := (Sm.alloc (.cells #[.int .i64 (min al bl), .int .i64 (max ah bh)] 39)).below hb6
  replace Sn := (Sn.alloc (.cells #[.int .i64 (min al bl), .int .i64 (max ah bh)] 39)).below hb6
  replace Sc := (Sc.alloc (.cells #[.int .i64 (min al bl), .int .i64 (max ah bh)] 39)).below hb6
  have Sk := (Sp.new w5 (min al bl) (max ah bh)).below hb6
  clear za ca0 ca1 zb cb0 cb1 zm cm0 cm1 zn cn0 cn1 zc cc0 cc1
  obtain ⟨za, ca0, ca1⟩ := id Sa
  obtain ⟨zb, cb0, cb1⟩ := id Sb
  obtain ⟨zm, cm0, cm1⟩ := id Sm
  obtain ⟨zn, cn0, cn1⟩ := id Sn
  obtain ⟨zc, cc0, cc1⟩ := id Sc
  obtain ⟨zk, ck0, ck1⟩ := id Sk
  replace hb := bstep (balloc hb (.cells #[.int .i64 (min al bl), .int .i64 (max ah bh)] 39)) hb6
  clear hb6
  go_wp2_with fail
  refine (rShift_range _ _ _ _ A.out D.out).mono ?_
  rintro e w7 ⟨rfl, hb7⟩
  replace Sa := (Sa.alloc (.cells #[.int .i64 (0), .int .i64 (0)] 39)).below hb7
  replace Sb := (Sb.alloc (.cells #[.int .i64 (0), .int .i64 (0)] 39)).below hb7
  replace Sm := (Sm.alloc (.cells #[.int .i64 (0), .int .i64 (0)] 39)).below hb7
  replace Sn := (Sn.alloc (.cells #[.int .i64 (0), .int .i64 (0)] 39)).below hb7
  replace Sc := (Sc.alloc (.cells #[.int .i64 (0), .int .i64 (0)] 39)).below hb7
  replace Sk := (Sk.alloc (.cells #[.int .i64 (0), .int .i64 (0)] 39)).below hb7
  have Ss := (Sp.new w6 (0) (0)).below hb7
  clear za ca0 ca1 zb cb0 cb1 zm cm0 cm1 zn cn0 cn1 zc cc0 cc1 zk ck0 ck1
  obtain ⟨za, ca0, ca1⟩ := id Sa
  obtain ⟨zb, cb0, cb1⟩ := id Sb
  obtain ⟨zm, cm0, cm1⟩ := id Sm
  obtain ⟨zn, cn0, cn1⟩ := id Sn
  obtain ⟨zc, cc0, cc1⟩ := id Sc
  obtain ⟨zk, ck0, ck1⟩ := id Sk
  obtain ⟨zs, cs0, cs1⟩ := id Ss
  replace hb := bstep (balloc hb (.cells #[.int .i64 (0), .int .i64 (0)] 39)) hb7
  clear hb7
  go_wp2_with fail
  clear za ca0 ca1 zb cb0 cb1 zm cm0 cm1 zn cn0 cn1 zc cc0 cc1 zk ck0 ck1 zs cs0 cs1
  replace Sa := Sa.alloc (.cells #[.int .i64 (0), .int .i64 (0)] 39)
  replace Sb := Sb.alloc (.cells #[.int .i64 (0), .int .i64 (0)] 39)
  replace Sm := Sm.alloc (.cells #[.int .i64 (0), .int .i64 (0)] 39)
  replace Sn := Sn.alloc (.cells #[.int .i64 (0), .int .i64 (0)] 39)
  replace Sc := Sc.alloc (.cells #[.int .i64 (0), .int .i64 (0)] 39)
  replace Sk := Sk.alloc (.cells #[.int .i64 (0), .int .i64 (0)] 39)
  replace Ss := Ss.alloc (.cells #[.int .i64 (0), .int .i64 (0)] 39)
  have St := Sp.new w7 (0) (0)
  replace hb := balloc hb (.cells #[.int .i64 (0), .int .i64 (0)] 39)
  generalize w7.alloc (.cells #[.int .i64 (0), .int .i64 (0)] 39) = W at *
  obtain ⟨za, ca0, ca1⟩ := id Sa
  obtain ⟨zb, cb0, cb1⟩ := id Sb
  obtain ⟨zm, cm0, cm1⟩ := id Sm
  obtain ⟨zn, cn0, cn1⟩ := id Sn
  obtain ⟨zc, cc0, cc1⟩ := id Sc
  obtain ⟨zk, ck0, ck1⟩ := id Sk
  obtain ⟨zs, cs0, cs1⟩ := id Ss
  obtain ⟨zt, ct0, ct1⟩ := id St
  clear Sa Sb Sm Sn Sc Sk Ss St
  go_region_held3 (fun w' => w'.cell? ⟨w.heap.size, 0, none⟩ = some (.int .i64 (al)) ∧ w'.cell? ⟨w.heap.size, 1, none⟩ = some (.int .i64 (ah)) ∧ w'.cell? ⟨w2.heap.size, 0, none⟩ = some (.int .i64 (0)) ∧ w'.cell? ⟨w2.heap.size, 1, none⟩ = some (.int .i64 (0)) ∧ w'.cell? ⟨w3.heap.size, 0, none⟩ = some (.int .i64 (0)) ∧ w'.cell? ⟨w3.heap.size, 1, none⟩ = some (.int .i64 (0)) ∧ w'.cell? ⟨w4.heap.size, 0, none⟩ = some (.int .i64 (min al bl)) ∧ w'.cell? ⟨w4.heap.size, 1, none⟩ = some (.int .i64 (max ah bh)) ∧ w'.cell? ⟨w5.heap.size, 0, none⟩ = some (.int .i64 (min al bl)) ∧ w'.cell? ⟨w5.heap.size, 1, none⟩ = some (.int .i64 (max ah bh)) ∧ w'.cell? ⟨w6.heap.size, 0, none⟩ = some (.int .i64 (0)) ∧ w'.cell? ⟨w6.heap.size, 1, none⟩ = some (.int .i64 (0)) ∧ w'.cell? ⟨w7.heap.size, 0, none⟩ = some (.int .i64 (0)) ∧ w'.cell? ⟨w7.heap.size, 1, none⟩ = some (.int .i64 (0))) (go_keep)
    (first | (go_at_call 28; refine (Check_okx _ _ _ A.out).mono ?_; rintro e w' ⟨rfl, rfl⟩) | (go_at_call 29; refine (rCheck_okx _ _ _ A.out).mono ?_; rintro e w' ⟨rfl, rfl⟩))
  all_goals
    go_wp2_with fail
    go_ret
    exact ⟨rfl, by repeat (first | exact hb | refine balloc ?_ _ | exact bdrew hb 1 | apply Below.drew)⟩

set_option maxRecDepth 100000 in
set_option maxHeartbeats 4000000 in
theorem walk_yn_no_ok (al ah bl bh d : Int) (w : World) (A : Hid (okS al ah)) (B : Hid (¬ okS bl bh)) (D : Hid (-2305843009213693952 ≤ d ∧ d ≤ 2305843009213693952)) :
    Calls Try.prog 5 #[.agg #[.int .i64 al, .int .i64 ah], .agg #[.int .i64 bl, .int .i64 bh], .int .i64 d] w fun e w' => e = .returned (.bool true) ∧ Below w.heap.size w w' := by
  go_enter Try.func5, Try.ntmps5
  go_wp2_with fail
  have hb : Below w.heap.size w ((w.alloc (.cells #[.int .i64 al, .int .i64 ah] 39)).alloc (.cells #[.int .i64 bl, .int .i64 bh] 39)) := balloc (balloc (brefl w) _) _
  have Sa := (Sp.new w al ah).alloc (.cells #[.int .i64 bl, .int .i64 bh] 39)
  have Sb := Sp.new1 w (.cells #[.int .i64 al, .int .i64 ah] 39) bl bh
  refine (awake_c _).mono ?_
  rintro e w1 ⟨rfl, hb1⟩
  replace Sa := Sa.below hb1
  replace Sb := Sb.below hb1
  obtain ⟨za, ca0, ca1⟩ := id Sa
  obtain ⟨zb, cb0, cb1⟩ := id Sb
  replace hb := bstep hb hb1
  clear hb1
  go_wp2_with fail
  refine (Meet_shape _ _ _ _ _ (fun h => B.out h.2)).mono ?_
  rintro e w2 ⟨rfl, hb2⟩
  replace Sa := Sa.below hb2
  replace Sb := Sb.below hb2
  clear za ca0 ca1 zb cb0 cb1
  obtain ⟨za, ca0, ca1⟩ := id Sa
  obtain ⟨zb, cb0, cb1⟩ := id Sb
  replace hb := bstep hb hb2
  clear hb2
  go_wp2_with fail
  refine (rMeet_shape _ _ _ _ _ (fun h => B.out h.2)).mono ?_
  rintro e w3 ⟨rfl, hb3⟩
  replace Sa := (Sa.alloc (.cells #[.int .i64 (0), .int .i64 (0)] 39)).below hb3
  replace Sb := (Sb.alloc (.cells #[.int .i64 (0), .int .i64 (0)] 39)).below hb3
  have Sm := (Sp.new w2 (0) (0)).below hb3
  clear za ca0 ca1 zb cb0 cb1
  obtain ⟨za, ca0, ca1⟩ := id Sa
  obtain ⟨zb, cb0, cb1⟩ := id Sb
  obtain ⟨zm, cm0, cm1⟩ := id Sm
  replace hb := bstep (balloc hb (.cells #[.int .i64 (0), .int .i64 (0)] 39)) hb3
  clear hb3
  go_wp2_with fail
  refine (Cover_shape _ _ _ _ _ (fun h => B.out h.2)).mono ?_
  rintro e w4 ⟨rfl, hb4⟩
  replace Sa := (Sa.alloc (.cells #[.int .i64 (0), .int .i64 (0)] 39)).below hb4
  replace Sb := (Sb.alloc (.cells #[.int .i64 (0), .int .i64 (0)] 39)).below hb4
  replace Sm := (Sm.alloc (.cells #[.int .i64 (0), .int .i64 (0)] 39)).below hb4
  have Sn := (Sp.new w3 (0) (0)).below hb4
  clear za ca0 ca1 zb cb0 cb1 zm cm0 cm1
  obtain ⟨za, ca0, ca1⟩ := id Sa
  obtain ⟨zb, cb0, cb1⟩ := id Sb
  obtain ⟨zm, cm0, cm1⟩ := id Sm
  obtain ⟨zn, cn0, cn1⟩ := id Sn
  replace hb := bstep (balloc hb (.cells #[.int .i64 (0), .int .i64 (0)] 39)) hb4
  clear hb4
  go_wp2_with fail
  refine (rCover_shape _ _ _ _ _ (fun h => B.out h.2)).mono ?_
  rintro e w5 ⟨rfl, hb5⟩
  replace Sa := (Sa.alloc (.cells #[.int .i64 (0), .int .i64 (0)] 39)).below hb5
  replace Sb := (Sb.alloc (.cells #[.int .i64 (0), .int .i64 (0)] 39)).below hb5
  replace Sm := (Sm.alloc (.cells #[.int .i64 (0), .int .i64 (0)] 39)).below hb5
  replace Sn := (Sn.alloc (.cells #[.int .i64 (0), .int .i64 (0)] 39)).below hb5
  have Sc := (Sp.new w4 (0) (0)).below hb5
  clear za ca0 ca1 zb cb0 cb1 zm cm0 cm1 zn cn0 cn1
  obtain ⟨za, ca0, ca1⟩ := id Sa
  obtain ⟨zb, cb0, cb1⟩ := id Sb
  obtain ⟨zm, cm0, cm1⟩ := id Sm
  obtain ⟨zn, cn0, cn1⟩ := id Sn
  obtain ⟨zc, cc0, cc1⟩ := id Sc
  replace hb := bstep (balloc hb (.cells #[.int .i64 (0), .int .i64 (0)] 39)) hb5
  clear hb5
  go_wp2_with fail
  refine (Shift_ok _ _ _ _ A.out D.out.1 D.out.2).mono ?_
  rintro e w6 ⟨rfl, hb6⟩
  replace Sa := (Sa.alloc (.cells #[.int .i64 (0), .int .i64 (0)] 39)).below hb6
  replace Sb := (Sb.alloc (.cells #[.int .i64 (0), .int .i64 (0)] 39)).below hb6
  replace Sm := (Sm.alloc (.cells #[.int .i64 (0), .int .i64 (0)] 39)).below hb6
  replace Sn := (Sn.alloc (.cells #[.int .i64 (0), .int .i64 (0)] 39)).below hb6
  replace Sc := (Sc.alloc (.cells #[.int .i64 (0), .int .i64 (0)] 39)).below hb6
  have Sk := (Sp.new w5 (0) (0)).below hb6
  clear za ca0 ca1 zb cb0 cb1 zm cm0 cm1 zn cn0 cn1 zc cc0 cc1
  obtain ⟨za, ca0, ca1⟩ := id Sa
  obtain ⟨zb, cb0, cb1⟩ := id Sb
  obtain ⟨zm, cm0, cm1⟩ := id Sm
  obtain ⟨zn, cn0, cn1⟩ := id Sn
  obtain ⟨zc, cc0, cc1⟩ := id Sc
  obtain ⟨zk, ck0, ck1⟩ := id Sk
  replace hb := bstep (balloc hb (.cells #[.int .i64 (0), .int .i64 (0)] 39)) hb6
  clear hb6
  go_wp2_with fail
  refine (rShift_ok _ _ _ _ A.out D.out.1 D.out.2).mono ?_
  rintro e w7 ⟨rfl, hb7⟩
  replace Sa := (Sa.alloc (.cells #[.int .i64 (shl al d), .int .i64 (shh ah d)] 39)).below hb7
  replace Sb := (Sb.alloc (.cells #[.int .i64 (shl al d), .int .i64 (shh ah d)] 39)).below hb7
  replace Sm := (Sm.alloc (.cells #[.int .i64 (shl al d), .int .i64 (shh ah d)] 39)).below hb7
  replace Sn := (Sn.alloc (.cells #[.int .i64 (shl al d), .int .i64 (shh ah d)] 39)).below hb7
  replace Sc := (Sc.alloc (.cells #[.int .i64 (shl al d), .int .i64 (shh ah d)] 39)).below hb7
  replace Sk := (Sk.alloc (.cells #[.int .i64 (shl al d), .int .i64 (shh ah d)] 39)).below hb7
  have Ss := (Sp.new w6 (shl al d) (shh ah d)).below hb7
  clear za ca0 ca1 zb cb0 cb1 zm cm0 cm1 zn cn0 cn1 zc cc0 cc1 zk ck0 ck1
  obtain ⟨za, ca0, ca1⟩ := id Sa
  obtain ⟨zb, cb0, cb1⟩ := id Sb
  obtain ⟨zm, cm0, cm1⟩ := id Sm
  obtain ⟨zn, cn0, cn1⟩ := id Sn
  obtain ⟨zc, cc0, cc1⟩ := id Sc
  obtain ⟨zk, ck0, ck1⟩ := id Sk
  obtain ⟨zs, cs0, cs1⟩ := id Ss
  replace hb := bstep (balloc hb (.cells #[.int .i64 (shl al d), .int .i64 (shh ah d)] 39)) hb7
  clear hb7
  go_wp2_with fail
  clear za ca0 ca1 zb cb0 cb1 zm cm0 cm1 zn cn0 cn1 zc cc0 cc1 zk ck0 ck1 zs cs0 cs1
  replace Sa := Sa.alloc (.cells #[.int .i64 (shl al d), .int .i64 (shh ah d)] 39)
  replace Sb := Sb.alloc (.cells #[.int .i64 (shl al d), .int .i64 (shh ah d)] 39)
  replace Sm := Sm.alloc (.cells #[.int .i64 (shl al d), .int .i64 (shh ah d)] 39)
  replace Sn := Sn.alloc (.cells #[.int .i64 (shl al d), .int .i64 (shh ah d)] 39)
  replace Sc := Sc.alloc (.cells #[.int .i64 (shl al d), .int .i64 (shh ah d)] 39)
  replace Sk := Sk.alloc (.cells #[.int .i64 (shl al d), .int .i64 (shh ah d)] 39)
  replace Ss := Ss.alloc (.cells #[.int .i64 (shl al d), .int .i64 (shh ah d)] 39)
  have St := Sp.new w7 (shl al d) (shh ah d)
  replace hb := balloc hb (.cells #[.int .i64 (shl al d), .int .i64 (shh ah d)] 39)
  generalize w7.alloc (.cells #[.int .i64 (shl al d), .int .i64 (shh ah d)] 39) = W at *
  obtain ⟨za, ca0, ca1⟩ := id Sa
  obtain ⟨zb, cb0, cb1⟩ := id Sb
  obtain ⟨zm, cm0, cm1⟩ := id Sm
  obtain ⟨zn, cn0, cn1⟩ := id Sn
  obtain ⟨zc, cc0, cc1⟩ := id Sc
  obtain ⟨zk, ck0, ck1⟩ := id Sk
  obtain ⟨zs, cs0, cs1⟩ := id Ss
  obtain ⟨zt, ct0, ct1⟩ := id St
  clear Sa Sb Sm Sn Sc Sk Ss St
  go_region_held3 (fun w' => w'.cell? ⟨w.heap.size, 0, none⟩ = some (.int .i64 (al)) ∧ w'.cell? ⟨w.heap.size, 1, none⟩ = some (.int .i64 (ah)) ∧ w'.cell? ⟨w2.heap.size, 0, none⟩ = some (.int .i64 (0)) ∧ w'.cell? ⟨w2.heap.size, 1, none⟩ = some (.int .i64 (0)) ∧ w'.cell? ⟨w3.heap.size, 0, none⟩ = some (.int .i64 (0)) ∧ w'.cell? ⟨w3.heap.size, 1, none⟩ = some (.int .i64 (0)) ∧ w'.cell? ⟨w4.heap.size, 0, none⟩ = some (.int .i64 (0)) ∧ w'.cell? ⟨w4.heap.size, 1, none⟩ = some (.int .i64 (0)) ∧ w'.cell? ⟨w5.heap.size, 0, none⟩ = some (.int .i64 (0)) ∧ w'.cell? ⟨w5.heap.size, 1, none⟩ = some (.int .i64 (0)) ∧ w'.cell? ⟨w6.heap.size, 0, none⟩ = some (.int .i64 (shl al d)) ∧ w'.cell? ⟨w6.heap.size, 1, none⟩ = some (.int .i64 (shh ah d)) ∧ w'.cell? ⟨w7.heap.size, 0, none⟩ = some (.int .i64 (shl al d)) ∧ w'.cell? ⟨w7.heap.size, 1, none⟩ = some (.int .i64 (shh ah d))) (go_keep)
    (first | (go_at_call 28; refine (Check_okx _ _ _ A.out).mono ?_; rintro e w' ⟨rfl, rfl⟩) | (go_at_call 29; refine (rCheck_okx _ _ _ A.out).mono ?_; rintro e w' ⟨rfl, rfl⟩))
  all_goals
    go_wp2_with fail
    go_ret
    exact ⟨rfl, by repeat (first | exact hb | refine balloc ?_ _ | exact bdrew hb 1 | apply Below.drew)⟩

set_option maxRecDepth 100000 in
set_option maxHeartbeats 4000000 in
theorem walk_yn_no_rng (al ah bl bh d : Int) (w : World) (A : Hid (okS al ah)) (B : Hid (¬ okS bl bh)) (D : Hid (d < -2305843009213693952 ∨ 2305843009213693952 < d)) :
    Calls Try.prog 5 #[.agg #[.int .i64 al, .int .i64 ah], .agg #[.int .i64 bl, .int .i64 bh], .int .i64 d] w fun e w' => e = .returned (.bool true) ∧ Below w.heap.size w w' := by
  go_enter Try.func5, Try.ntmps5
  go_wp2_with fail
  have hb : Below w.heap.size w ((w.alloc (.cells #[.int .i64 al, .int .i64 ah] 39)).alloc (.cells #[.int .i64 bl, .int .i64 bh] 39)) := balloc (balloc (brefl w) _) _
  have Sa := (Sp.new w al ah).alloc (.cells #[.int .i64 bl, .int .i64 bh] 39)
  have Sb := Sp.new1 w (.cells #[.int .i64 al, .int .i64 ah] 39) bl bh
  refine (awake_c _).mono ?_
  rintro e w1 ⟨rfl, hb1⟩
  replace Sa := Sa.below hb1
  replace Sb := Sb.below hb1
  obtain ⟨za, ca0, ca1⟩ := id Sa
  obtain ⟨zb, cb0, cb1⟩ := id Sb
  replace hb := bstep hb hb1
  clear hb1
  go_wp2_with fail
  refine (Meet_shape _ _ _ _ _ (fun h => B.out h.2)).mono ?_
  rintro e w2 ⟨rfl, hb2⟩
  replace Sa := Sa.below hb2
  replace Sb := Sb.below hb2
  clear za ca0 ca1 zb cb0 cb1
  obtain ⟨za, ca0, ca1⟩ := id Sa
  obtain ⟨zb, cb0, cb1⟩ := id Sb
  replace hb := bstep hb hb2
  clear hb2
  go_wp2_with fail
  refine (rMeet_shape _ _ _ _ _ (fun h => B.out h.2)).mono ?_
  rintro e w3 ⟨rfl, hb3⟩
  replace Sa := (Sa.alloc (.cells #[.int .i64 (0), .int .i64 (0)] 39)).below hb3
  replace Sb := (Sb.alloc (.cells #[.int .i64 (0), .int .i64 (0)] 39)).below hb3
  have Sm := (Sp.new w2 (0) (0)).below hb3
  clear za ca0 ca1 zb cb0 cb1
  obtain ⟨za, ca0, ca1⟩ := id Sa
  obtain ⟨zb, cb0, cb1⟩ := id Sb
  obtain ⟨zm, cm0, cm1⟩ := id Sm
  replace hb := bstep (balloc hb (.cells #[.int .i64 (0), .int .i64 (0)] 39)) hb3
  clear hb3
  go_wp2_with fail
  refine (Cover_shape _ _ _ _ _ (fun h => B.out h.2)).mono ?_
  rintro e w4 ⟨rfl, hb4⟩
  replace Sa := (Sa.alloc (.cells #[.int .i64 (0), .int .i64 (0)] 39)).below hb4
  replace Sb := (Sb.alloc (.cells #[.int .i64 (0), .int .i64 (0)] 39)).below hb4
  replace Sm := (Sm.alloc (.cells #[.int .i64 (0), .int .i64 (0)] 39)).below hb4
  have Sn := (Sp.new w3 (0) (0)).below hb4
  clear za ca0 ca1 zb cb0 cb1 zm cm0 cm1
  obtain ⟨za, ca0, ca1⟩ := id Sa
  obtain ⟨zb, cb0, cb1⟩ := id Sb
  obtain ⟨zm, cm0, cm1⟩ := id Sm
  obtain ⟨zn, cn0, cn1⟩ := id Sn
  replace hb := bstep (balloc hb (.cells #[.int .i64 (0), .int .i64 (0)] 39)) hb4
  clear hb4
  go_wp2_with fail
  refine (rCover_shape _ _ _ _ _ (fun h => B.out h.2)).mono ?_
  rintro e w5 ⟨rfl, hb5⟩
  replace Sa := (Sa.alloc (.cells #[.int .i64 (0), .int .i64 (0)] 39)).below hb5
  replace Sb := (Sb.alloc (.cells #[.int .i64 (0), .int .i64 (0)] 39)).below hb5
  replace Sm := (Sm.alloc (.cells #[.int .i64 (0), .int .i64 (0)] 39)).below hb5
  replace Sn := (Sn.alloc (.cells #[.int .i64 (0), .int .i64 (0)] 39)).below hb5
  have Sc := (Sp.new w4 (0) (0)).below hb5
  clear za ca0 ca1 zb cb0 cb1 zm cm0 cm1 zn cn0 cn1
  obtain ⟨za, ca0, ca1⟩ := id Sa
  obtain ⟨zb, cb0, cb1⟩ := id Sb
  obtain ⟨zm, cm0, cm1⟩ := id Sm
  obtain ⟨zn, cn0, cn1⟩ := id Sn
  obtain ⟨zc, cc0, cc1⟩ := id Sc
  replace hb := bstep (balloc hb (.cells #[.int .i64 (0), .int .i64 (0)] 39)) hb5
  clear hb5
  go_wp2_with fail
  refine (Shift_range _ _ _ _ A.out D.out).mono ?_
  rintro e w6 ⟨rfl, hb6⟩
  replace Sa := (Sa.alloc (.cells #[.int .i64 (0), .int .i64 (0)] 39)).below hb6
  replace Sb := (Sb.alloc (.cells #[.int .i64 (0), .int .i64 (0)] 39)).below hb6
  replace Sm := (Sm.alloc (.cells #[.int .i64 (0), .int .i64 (0)] 39)).below hb6
  replace Sn := (Sn.alloc (.cells #[.int .i64 (0), .int .i64 (0)] 39)).below hb6
  replace Sc := (Sc.alloc (.cells #[.int .i64 (0), .int .i64 (0)] 39)).below hb6
  have Sk := (Sp.new w5 (0) (0)).below hb6
  clear za ca0 ca1 zb cb0 cb1 zm cm0 cm1 zn cn0 cn1 zc cc0 cc1
  obtain ⟨za, ca0, ca1⟩ := id Sa
  obtain ⟨zb, cb0, cb1⟩ := id Sb
  obtain ⟨zm, cm0, cm1⟩ := id Sm
  obtain ⟨zn, cn0, cn1⟩ := id Sn
  obtain ⟨zc, cc0, cc1⟩ := id Sc
  obtain ⟨zk, ck0, ck1⟩ := id Sk
  replace hb := bstep (balloc hb (.cells #[.int .i64 (0), .int .i64 (0)] 39)) hb6
  clear hb6
  go_wp2_with fail
  refine (rShift_range _ _ _ _ A.out D.out).mono ?_
  rintro e w7 ⟨rfl, hb7⟩
  replace Sa := (Sa.alloc (.cells #[.int .i64 (0), .int .i64 (0)] 39)).below hb7
  replace Sb := (Sb.alloc (.cells #[.int .i64 (0), .int .i64 (0)] 39)).below hb7
  replace Sm := (Sm.alloc (.cells #[.int .i64 (0), .int .i64 (0)] 39)).below hb7
  replace Sn := (Sn.alloc (.cells #[.int .i64 (0), .int .i64 (0)] 39)).below hb7
  replace Sc := (Sc.alloc (.cells #[.int .i64 (0), .int .i64 (0)] 39)).below hb7
  replace Sk := (Sk.alloc (.cells #[.int .i64 (0), .int .i64 (0)] 39)).below hb7
  have Ss := (Sp.new w6 (0) (0)).below hb7
  clear za ca0 ca1 zb cb0 cb1 zm cm0 cm1 zn cn0 cn1 zc cc0 cc1 zk ck0 ck1
  obtain ⟨za, ca0, ca1⟩ := id Sa
  obtain ⟨zb, cb0, cb1⟩ := id Sb
  obtain ⟨zm, cm0, cm1⟩ := id Sm
  obtain ⟨zn, cn0, cn1⟩ := id Sn
  obtain ⟨zc, cc0, cc1⟩ := id Sc
  obtain ⟨zk, ck0, ck1⟩ := id Sk
  obtain ⟨zs, cs0, cs1⟩ := id Ss
  replace hb := bstep (balloc hb (.cells #[.int .i64 (0), .int .i64 (0)] 39)) hb7
  clear hb7
  go_wp2_with fail
  clear za ca0 ca1 zb cb0 cb1 zm cm0 cm1 zn cn0 cn1 zc cc0 cc1 zk ck0 ck1 zs cs0 cs1
  replace Sa := Sa.alloc (.cells #[.int .i64 (0), .int .i64 (0)] 39)
  replace Sb := Sb.alloc (.cells #[.int .i64 (0), .int .i64 (0)] 39)
  replace Sm := Sm.alloc (.cells #[.int .i64 (0), .int .i64 (0)] 39)
  replace Sn := Sn.alloc (.cells #[.int .i64 (0), .int .i64 (0)] 39)
  replace Sc := Sc.alloc (.cells #[.int .i64 (0), .int .i64 (0)] 39)
  replace Sk := Sk.alloc (.cells #[.int .i64 (0), .int .i64 (0)] 39)
  replace Ss := Ss.alloc (.cells #[.int .i64 (0), .int .i64 (0)] 39)
  have St := Sp.new w7 (0) (0)
  replace hb := balloc hb (.cells #[.int .i64 (0), .int .i64 (0)] 39)
  generalize w7.alloc (.cells #[.int .i64 (0), .int .i64 (0)] 39) = W at *
  obtain ⟨za, ca0, ca1⟩ := id Sa
  obtain ⟨zb, cb0, cb1⟩ := id Sb
  obtain ⟨zm, cm0, cm1⟩ := id Sm
  obtain ⟨zn, cn0, cn1⟩ := id Sn
  obtain ⟨zc, cc0, cc1⟩ := id Sc
  obtain ⟨zk, ck0, ck1⟩ := id Sk
  obtain ⟨zs, cs0, cs1⟩ := id Ss
  obtain ⟨zt, ct0, ct1⟩ := id St
  clear Sa Sb Sm Sn Sc Sk Ss St
  go_region_held3 (fun w' => w'.cell? ⟨w.heap.size, 0, none⟩ = some (.int .i64 (al)) ∧ w'.cell? ⟨w.heap.size, 1, none⟩ = some (.int .i64 (ah)) ∧ w'.cell? ⟨w2.heap.size, 0, none⟩ = some (.int .i64 (0)) ∧ w'.cell? ⟨w2.heap.size, 1, none⟩ = some (.int .i64 (0)) ∧ w'.cell? ⟨w3.heap.size, 0, none⟩ = some (.int .i64 (0)) ∧ w'.cell? ⟨w3.heap.size, 1, none⟩ = some (.int .i64 (0)) ∧ w'.cell? ⟨w4.heap.size, 0, none⟩ = some (.int .i64 (0)) ∧ w'.cell? ⟨w4.heap.size, 1, none⟩ = some (.int .i64 (0)) ∧ w'.cell? ⟨w5.heap.size, 0, none⟩ = some (.int .i64 (0)) ∧ w'.cell? ⟨w5.heap.size, 1, none⟩ = some (.int .i64 (0)) ∧ w'.cell? ⟨w6.heap.size, 0, none⟩ = some (.int .i64 (0)) ∧ w'.cell? ⟨w6.heap.size, 1, none⟩ = some (.int .i64 (0)) ∧ w'.cell? ⟨w7.heap.size, 0, none⟩ = some (.int .i64 (0)) ∧ w'.cell? ⟨w7.heap.size, 1, none⟩ = some (.int .i64 (0))) (go_keep)
    (first | (go_at_call 28; refine (Check_okx _ _ _ A.out).mono ?_; rintro e w' ⟨rfl, rfl⟩) | (go_at_call 29; refine (rCheck_okx _ _ _ A.out).mono ?_; rintro e w' ⟨rfl, rfl⟩))
  all_goals
    go_wp2_with fail
    go_ret
    exact ⟨rfl, by repeat (first | exact hb | refine balloc ?_ _ | exact bdrew hb 1 | apply Below.drew)⟩

set_option maxRecDepth 100000 in
set_option maxHeartbeats 4000000 in
theorem walk_nn_no_no (al ah bl bh d : Int) (w : World) (A : Hid (¬ okS al ah)) :
    Calls Try.prog 5 #[.agg #[.int .i64 al, .int .i64 ah], .agg #[.int .i64 bl, .int .i64 bh], .int .i64 d] w fun e w' => e = .returned (.bool true) ∧ Below w.heap.size w w' := by
  go_enter Try.func5, Try.ntmps5
  go_wp2_with fail
  have hb : Below w.heap.size w ((w.alloc (.cells #[.int .i64 al, .int .i64 ah] 39)).alloc (.cells #[.int .i64 bl, .int .i64 bh] 39)) := balloc (balloc (brefl w) _) _
  have Sa := (Sp.new w al ah).alloc (.cells #[.int .i64 bl, .int .i64 bh] 39)
  have Sb := Sp.new1 w (.cells #[.int .i64 al, .int .i64 ah] 39) bl bh
  refine (awake_c _).mono ?_
  rintro e w1 ⟨rfl, hb1⟩
  replace Sa := Sa.below hb1
  replace Sb := Sb.below hb1
  obtain ⟨za, ca0, ca1⟩ := id Sa
  obtain ⟨zb, cb0, cb1⟩ := id Sb
  replace hb := bstep hb hb1
  clear hb1
  go_wp2_with fail
  refine (Meet_shape _ _ _ _ _ (fun h => A.out h.1)).mono ?_
  rintro e w2 ⟨rfl, hb2⟩
  replace Sa := Sa.below hb2
  replace Sb := Sb.below hb2
  clear za ca0 ca1 zb cb0 cb1
  obtain ⟨za, ca0, ca1⟩ := id Sa
  obtain ⟨zb, cb0, cb1⟩ := id Sb
  replace hb := bstep hb hb2
  clear hb2
  go_wp2_with fail
  refine (rMeet_shape _ _ _ _ _ (fun h => A.out h.1)).mono ?_
  rintro e w3 ⟨rfl, hb3⟩
  replace Sa := (Sa.alloc (.cells #[.int .i64 (0), .int .i64 (0)] 39)).below hb3
  replace Sb := (Sb.alloc (.cells #[.int .i64 (0), .int .i64 (0)] 39)).below hb3
  have Sm := (Sp.new w2 (0) (0)).below hb3
  clear za ca0 ca1 zb cb0 cb1
  obtain ⟨za, ca0, ca1⟩ := id Sa
  obtain ⟨zb, cb0, cb1⟩ := id Sb
  obtain ⟨zm, cm0, cm1⟩ := id Sm
  replace hb := bstep (balloc hb (.cells #[.int .i64 (0), .int .i64 (0)] 39)) hb3
  clear hb3
  go_wp2_with fail
  refine (Cover_shape _ _ _ _ _ (fun h => A.out h.1)).mono ?_
  rintro e w4 ⟨rfl, hb4⟩
  replace Sa := (Sa.alloc (.cells #[.int .i64 (0), .int .i64 (0)] 39)).below hb4
  replace Sb := (Sb.alloc (.cells #[.int .i64 (0), .int .i64 (0)] 39)).below hb4
  replace Sm := (Sm.alloc (.cells #[.int .i64 (0), .int .i64 (0)] 39)).below hb4
  have Sn := (Sp.new w3 (0) (0)).below hb4
  clear za ca0 ca1 zb cb0 cb1 zm cm0 cm1
  obtain ⟨za, ca0, ca1⟩ := id Sa
  obtain ⟨zb, cb0, cb1⟩ := id Sb
  obtain ⟨zm, cm0, cm1⟩ := id Sm
  obtain ⟨zn, cn0, cn1⟩ := id Sn
  replace hb := bstep (balloc hb (.cells #[.int .i64 (0), .int .i64 (0)] 39)) hb4
  clear hb4
  go_wp2_with fail
  refine (rCover_shape _ _ _ _ _ (fun h => A.out h.1)).mono ?_
  rintro e w5 ⟨rfl, hb5⟩
  replace Sa := (Sa.alloc (.cells #[.int .i64 (0), .int .i64 (0)] 39)).below hb5
  replace Sb := (Sb.alloc (.cells #[.int .i64 (0), .int .i64 (0)] 39)).below hb5
  replace Sm := (Sm.alloc (.cells #[.int .i64 (0), .int .i64 (0)] 39)).below hb5
  replace Sn := (Sn.alloc (.cells #[.int .i64 (0), .int .i64 (0)] 39)).below hb5
  have Sc := (Sp.new w4 (0) (0)).below hb5
  clear za ca0 ca1 zb cb0 cb1 zm cm0 cm1 zn cn0 cn1
  obtain ⟨za, ca0, ca1⟩ := id Sa
  obtain ⟨zb, cb0, cb1⟩ := id Sb
  obtain ⟨zm, cm0, cm1⟩ := id Sm
  obtain ⟨zn, cn0, cn1⟩ := id Sn
  obtain ⟨zc, cc0, cc1⟩ := id Sc
  replace hb := bstep (balloc hb (.cells #[.int .i64 (0), .int .i64 (0)] 39)) hb5
  clear hb5
  go_wp2_with fail
  refine (Shift_shape _ _ _ _ A.out).mono ?_
  rintro e w6 ⟨rfl, hb6⟩
  replace Sa := (Sa.alloc (.cells #[.int .i64 (0), .int .i64 (0)] 39)).below hb6
  replace Sb := (Sb.alloc (.cells #[.int .i64 (0), .int .i64 (0)] 39)).below hb6
  replace Sm := (Sm.alloc (.cells #[.int .i64 (0), .int .i64 (0)] 39)).below hb6
  replace Sn := (Sn.alloc (.cells #[.int .i64 (0), .int .i64 (0)] 39)).below hb6
  replace Sc := (Sc.alloc (.cells #[.int .i64 (0), .int .i64 (0)] 39)).below hb6
  have Sk := (Sp.new w5 (0) (0)).below hb6
  clear za ca0 ca1 zb cb0 cb1 zm cm0 cm1 zn cn0 cn1 zc cc0 cc1
  obtain ⟨za, ca0, ca1⟩ := id Sa
  obtain ⟨zb, cb0, cb1⟩ := id Sb
  obtain ⟨zm, cm0, cm1⟩ := id Sm
  obtain ⟨zn, cn0, cn1⟩ := id Sn
  obtain ⟨zc, cc0, cc1⟩ := id Sc
  obtain ⟨zk, ck0, ck1⟩ := id Sk
  replace hb := bstep (balloc hb (.cells #[.int .i64 (0), .int .i64 (0)] 39)) hb6
  clear hb6
  go_wp2_with fail
  refine (rShift_shape _ _ _ _ A.out).mono ?_
  rintro e w7 ⟨rfl, hb7⟩
  replace Sa := (Sa.alloc (.cells #[.int .i64 (0), .int .i64 (0)] 39)).below hb7
  replace Sb := (Sb.alloc (.cells #[.int .i64 (0), .int .i64 (0)] 39)).below hb7
  replace Sm := (Sm.alloc (.cells #[.int .i64 (0), .int .i64 (0)] 39)).below hb7
  replace Sn := (Sn.alloc (.cells #[.int .i64 (0), .int .i64 (0)] 39)).below hb7
  replace Sc := (Sc.alloc (.cells #[.int .i64 (0), .int .i64 (0)] 39)).below hb7
  replace Sk := (Sk.alloc (.cells #[.int .i64 (0), .int .i64 (0)] 39)).below hb7
  have Ss := (Sp.new w6 (0) (0)).below hb7
  clear za ca0 ca1 zb cb0 cb1 zm cm0 cm1 zn cn0 cn1 zc cc0 cc1 zk ck0 ck1
  obtain ⟨za, ca0, ca1⟩ := id Sa
  obtain ⟨zb, cb0, cb1⟩ := id Sb
  obtain ⟨zm, cm0, cm1⟩ := id Sm
  obtain ⟨zn, cn0, cn1⟩ := id Sn
  obtain ⟨zc, cc0, cc1⟩ := id Sc
  obtain ⟨zk, ck0, ck1⟩ := id Sk
  obtain ⟨zs, cs0, cs1⟩ := id Ss
  replace hb := bstep (balloc hb (.cells #[.int .i64 (0), .int .i64 (0)] 39)) hb7
  clear hb7
  go_wp2_with fail
  clear za ca0 ca1 zb cb0 cb1 zm cm0 cm1 zn cn0 cn1 zc cc0 cc1 zk ck0 ck1 zs cs0 cs1
  replace Sa := Sa.alloc (.cells #[.int .i64 (0), .int .i64 (0)] 39)
  replace Sb := Sb.alloc (.cells #[.int .i64 (0), .int .i64 (0)] 39)
  replace Sm := Sm.alloc (.cells #[.int .i64 (0), .int .i64 (0)] 39)
  replace Sn := Sn.alloc (.cells #[.int .i64 (0), .int .i64 (0)] 39)
  replace Sc := Sc.alloc (.cells #[.int .i64 (0), .int .i64 (0)] 39)
  replace Sk := Sk.alloc (.cells #[.int .i64 (0), .int .i64 (0)] 39)
  replace Ss := Ss.alloc (.cells #[.int .i64 (0), .int .i64 (0)] 39)
  have St := Sp.new w7 (0) (0)
  replace hb := balloc hb (.cells #[.int .i64 (0), .int .i64 (0)] 39)
  generalize w7.alloc (.cells #[.int .i64 (0), .int .i64 (0)] 39) = W at *
  obtain ⟨za, ca0, ca1⟩ := id Sa
  obtain ⟨zb, cb0, cb1⟩ := id Sb
  obtain ⟨zm, cm0, cm1⟩ := id Sm
  obtain ⟨zn, cn0, cn1⟩ := id Sn
  obtain ⟨zc, cc0, cc1⟩ := id Sc
  obtain ⟨zk, ck0, ck1⟩ := id Sk
  obtain ⟨zs, cs0, cs1⟩ := id Ss
  obtain ⟨zt, ct0, ct1⟩ := id St
  clear Sa Sb Sm Sn Sc Sk Ss St
  go_region_held3 (fun w' => w'.cell? ⟨w.heap.size, 0, none⟩ = some (.int .i64 (al)) ∧ w'.cell? ⟨w.heap.size, 1, none⟩ = some (.int .i64 (ah)) ∧ w'.cell? ⟨w2.heap.size, 0, none⟩ = some (.int .i64 (0)) ∧ w'.cell? ⟨w2.heap.size, 1, none⟩ = some (.int .i64 (0)) ∧ w'.cell? ⟨w3.heap.size, 0, none⟩ = some (.int .i64 (0)) ∧ w'.cell? ⟨w3.heap.size, 1, none⟩ = some (.int .i64 (0)) ∧ w'.cell? ⟨w4.heap.size, 0, none⟩ = some (.int .i64 (0)) ∧ w'.cell? ⟨w4.heap.size, 1, none⟩ = some (.int .i64 (0)) ∧ w'.cell? ⟨w5.heap.size, 0, none⟩ = some (.int .i64 (0)) ∧ w'.cell? ⟨w5.heap.size, 1, none⟩ = some (.int .i64 (0)) ∧ w'.cell? ⟨w6.heap.size, 0, none⟩ = some (.int .i64 (0)) ∧ w'.cell? ⟨w6.heap.size, 1, none⟩ = some (.int .i64 (0)) ∧ w'.cell? ⟨w7.heap.size, 0, none⟩ = some (.int .i64 (0)) ∧ w'.cell? ⟨w7.heap.size, 1, none⟩ = some (.int .i64 (0))) (go_keep)
    (first | (go_at_call 28; refine (Check_badx _ _ _ A.out).mono ?_; rintro e w' ⟨rfl, rfl⟩) | (go_at_call 29; refine (rCheck_badx _ _ _ A.out).mono ?_; rintro e w' ⟨rfl, rfl⟩))
  all_goals
    go_wp2_with fail
    go_ret
    exact ⟨rfl, by repeat (first | exact hb | refine balloc ?_ _ | exact bdrew hb 1 | apply Below.drew)⟩

theorem walk (al ah bl bh d : Int) (w0l : (Lit.int .i64 al).wf = true) (w0h : (Lit.int .i64 ah).wf = true) (w1l : (Lit.int .i64 bl).wf = true) (w1h : (Lit.int .i64 bh).wf = true) (w2 : (Lit.int .i64 d).wf = true) (w : World) :
    Calls Try.prog 5 #[.agg #[.int .i64 al, .int .i64 ah], .agg #[.int .i64 bl, .int .i64 bh], .int .i64 d] w fun e w' => e = .returned (.bool true) ∧ Below w.heap.size w w' := by
  by_cases A : okS al ah
  · by_cases D : -2305843009213693952 ≤ d ∧ d ≤ 2305843009213693952
    · by_cases B : okS bl bh
      · by_cases M : max al bl ≤ min ah bh
        · exact walk_yy_ok_ok al ah bl bh d w A B M D
        · exact walk_yy_none_ok al ah bl bh d w A B (show _ < _ by omega) D
      · exact walk_yn_no_ok al ah bl bh d w A B D
    · have D' : d < -2305843009213693952 ∨ 2305843009213693952 < d := by omega
      by_cases B : okS bl bh
      · by_cases M : max al bl ≤ min ah bh
        · exact walk_yy_ok_rng al ah bl bh d w A B M D'
        · exact walk_yy_none_rng al ah bl bh d w A B (show _ < _ by omega) D'
      · exact walk_yn_no_rng al ah bl bh d w A B D'
  · exact walk_nn_no_no al ah bl bh d w A

set_option maxRecDepth 100000 in
theorem lifted (os : Os) (started : os.Started) (H : Type) (enc : TypeId × Value → H) :
    ReturnsInHanded {} Try.checked os 5 .any (Rows.fixSpansSpec.pre6 enc Try.prog Try.f5 Rows.fixSpansRow.domain false) (Rows.fixSpansSpec.post enc Try.prog Try.f5 false true false false) := by
  refine returnsInHanded_of_change (C := Try.checked) own started (by kernel_rfl) Try.func5
    (ChangeSpec.witness6 (enc := enc) (C := Try.checked) false ⟨#[], #[.agg #[.int .i64 0, .int .i64 0], .agg #[.int .i64 0, .int .i64 0], .int .i64 0], []⟩ 8 (by kernel_rfl) (by kernel_rfl) (by kernel_rfl) (by kernel_rfl)) ?_
  intro W base args ds gs before hval0 hW hcnd _
  have hval : ∀ (j : Nat) t v, Try.f5.params[j]? = some t → args[j]? = some v → Value.okWide Try.prog W .any base t v := hval0
  have hW' := hW
  obtain ⟨p, q, hA0, hV, rfl, hfz, hnd⟩ := hW
  have hA : DataW.TrodAll enc Try.prog W 0 (fun _ => true) true Try.f5.params.toList args.toList ds p := hA0
  rw [Try.params5] at hA hval
  obtain ⟨v0, vs0, d0, ds0, p0, q0, hargs, rfl, rfl, h0, r0⟩ := trodAll_cons hA
  obtain ⟨v1, vs1, d1, ds1, p1, q1, rfl, rfl, rfl, h1, r1⟩ := trodAll_cons r0
  obtain ⟨v2, vs2, d2, ds2, p2, q2, rfl, rfl, rfl, h2, r2⟩ := trodAll_cons r1
  obtain ⟨rfl, rfl, rfl⟩ := trodAll_nil r2
  obtain rfl : args = #[v0, v1, v2] := by cases args; simp_all
  obtain ⟨rfl, rfl⟩ := trodVars_none hV
  obtain ⟨c0l, c0h, y0l, y0h, m0, rfl, rfl, rfl, hy0l, hy0h⟩ := open_agg2 Try.underlying39 (by kernel_rfl) (by kernel_rfl) (hval 0 39 v0 rfl rfl) h0
  obtain ⟨a0l, e0l, z0l, w0l⟩ := DataW.trod_int Try.underlying22 hy0l
  simp at e0l
  subst e0l z0l
  obtain ⟨a0h, e0h, z0h, w0h⟩ := DataW.trod_int Try.underlying22 hy0h
  simp at e0h
  subst e0h z0h
  obtain ⟨c1l, c1h, y1l, y1h, m1, rfl, rfl, rfl, hy1l, hy1h⟩ := open_agg2 Try.underlying39 (by kernel_rfl) (by kernel_rfl) (hval 1 39 v1 rfl rfl) h1
  obtain ⟨a1l, e1l, z1l, w1l⟩ := DataW.trod_int Try.underlying22 hy1l
  simp at e1l
  subst e1l z1l
  obtain ⟨a1h, e1h, z1h, w1h⟩ := DataW.trod_int Try.underlying22 hy1h
  simp at e1h
  subst e1h z1h
  obtain ⟨a2, rfl, rfl, rfl, w2⟩ := open_int Try.underlying22 (hval 2 22 v2 rfl rfl) h2
  clear hA0 hval0
  simp only [List.append_nil] at hW'
  refine (walk a0l a0h a1l a1h a2 w0l w0h w1l w1h w2 W).mono fun e W' ⟨he, hg⟩ => ?_
  subst he
  exact ⟨_, rfl, _, _, _, [], [], [], hW', trodAll_cons_mk (shut_bool Try.underlying4 _) trodAll_mk0,
    (trodAll_cons_mk (shut_agg2 (y0 := (.lit (.int .i64 a0l), [])) (y1 := (.lit (.int .i64 a0h), [])) Try.underlying39 (by kernel_rfl) (by kernel_rfl) ⟨1, by simp [DataW.trod, Try.underlying22, w0l]⟩ ⟨1, by simp [DataW.trod, Try.underlying22, w0h]⟩) (trodAll_cons_mk (shut_agg2 (y0 := (.lit (.int .i64 a1l), [])) (y1 := (.lit (.int .i64 a1h), [])) Try.underlying39 (by kernel_rfl) (by kernel_rfl) ⟨1, by simp [DataW.trod, Try.underlying22, w1l]⟩ ⟨1, by simp [DataW.trod, Try.underlying22, w1h]⟩) (trodAll_cons_mk (shut_int Try.underlying22 w2) trodAll_mk0))), rfl, hg.frame _, fun h => nomatch h⟩

theorem over : Rows.fixSpansRow.holds Try.pinned (OpenSpec.ofChange Rows.fixSpansSpec) :=
  OpenClaim.holds_of_wide 5 Try.f5 rfl rfl rfl rfl rfl rfl rfl ⟨rfl, rfl, rfl, rfl, rfl⟩ rfl rfl rfl rfl rfl (by kernel_rfl) Try.func5 (by kernel_rfl)
    (of_decide_eq_true (by kernel_rfl)) (by unfold Func.isWrapper; first | (rw [if_pos (by decide +kernel)]; kernel_rfl) | (rw [if_neg (by decide +kernel)]; exact ⟨rfl, rfl⟩))
    (fun os started H enc _ => lifted os started H enc)

theorem proved : Rows.FixSpansSaid :=
  over
end Go.Proofs.Ytmalkdhbpomolaa.fixSpans
