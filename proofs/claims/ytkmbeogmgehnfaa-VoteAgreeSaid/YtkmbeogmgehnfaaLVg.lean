/-
  VoteAgree: Sources that all hold one time all survive the intersection. The law returns true for every input, and the input reads as it did.
  Conditions: none.
-/
import Derived.Test.YtkmbeogmgehnfaaRows
import Derived.Test.YtkmbeogmgehnfaaVoJ
import Derived.Test.YtkmbeogmgehnfaaVoZ
import Derived.SizedLaws
import Derived.BigRegion
import Derived.Deep.CutRange
import Derived.Lib.SmallJoins
namespace Go.Proofs.Ytkmbeogmgehnfaa.voteAgree
open Go.ChangeShapes Go.WideShapes Go.ChangeAt Go.RowKit Go.Joins Fl Hu Vo
set_option linter.unusedVariables false
set_option linter.unusedSimpArgs false

theorem own : ownKnob Try.prog.godebug = none := by kernel_rfl
theorem laidOut : laidOutB Try.prog = true := by kernel_rfl

theorem wrap64_in {a : Int} (h : -9223372036854775808 ≤ a) (h' : a ≤ 9223372036854775807) : wrap64 a = a := by unfold wrap64; omega
theorem rmap_more {α : Type} {L : List α} {k : Nat} {x : α} (h : L[k]? = some x) {β : Type} (g : α → β) : (L.take (k + 1)).map g = (L.take k).map g ++ [g x] := by rw [take_more h, List.map_append]; rfl
set_option maxRecDepth 100000 in
set_option maxHeartbeats 16000000 in
theorem walk (pc : PC) (v : Value) (L : List Cd) (tt : Int) (w : World) (g0 : Cs w v L ∧ (∀ c ∈ L, i64C c) ∧ L.length * 32 ≤ 140737488351232) (g1 : Lit.wf (.int .i64 tt) = true) :
    Calls Try.prog 5 #[v, .int .i64 tt] w fun e w' => e = .returned (.bool true) ∧ Below w.heap.size w w' := by
  obtain ⟨hC, hI, hN⟩ := g0
  have hN' : L.length ≤ 8796093022208 := by omega
  have tb := bounds_i64 g1
  have AW := Lib.hid (awake16_c pc)
  have PI := Lib.hid (fun w' v' M (h : Cs w' v' M) (hl : M.length ≤ 8796093022208) => pc.inter w' v' M h hl)
  have HS := Lib.hid hC
  have HI := Lib.hid hI
  obtain ⟨va, cap, rfl, c1, c2, _⟩ := hC
  obtain ⟨m, hm⟩ : ∃ m, L.length = m := ⟨_, rfl⟩
  have HM := Lib.hid hm
  rw [hm] at HS c1 hN hN' ⊢
  have m0 : (0 : Int) ≤ (m : Int) := by omega
  have m1 : (m : Int) ≤ 8796093022208 := by omega
  have m2 : (m : Int) ≤ (cap : Int) := by omega
  have m3 : (cap : Int) ≤ 9223372036854775807 := by omega
  obtain ⟨t, ht⟩ : ∃ t, tt.tmod 1000000 = t := ⟨_, rfl⟩
  have t1 : t < 1000000 := by rw [← ht]; exact Int.tmod_lt_of_pos tt (by decide)
  have t2 : -1000000 < t := by
    have := Int.lt_tmod_of_pos tt (show (0 : Int) < 1000000 by decide)
    omega
  have wt' : IntKind.i64.wrap t = t := wrap_in (by omega) (by omega)
  clear pc g1 hm hI
  by_cases z : m = 0
  · subst z
    go_enter Try.func5, Try.ntmps5
    go_wp2_with fail
    refine (AW.out _).mono ?_
    rintro e w1 ⟨rfl, hb⟩
    have B1 := Lib.hid hb
    clear hb AW
    go_wp2_with fail
    go_ret
    exact ⟨rfl, B1.out⟩
  have mz : ((m : Int) == 0) = false := by rw [beq_eq_false_iff_ne]; omega
  by_cases big : 32 < m
  · have d1 : decide ((32 : Int) < (m : Int)) = true := decide_eq_true (by omega)
    have d2 : decide (32 < m) = true := decide_eq_true big
    go_enter Try.func5, Try.ntmps5
    go_wp2_with fail
    refine (AW.out _).mono ?_
    rintro e w1 ⟨rfl, hb⟩
    have B1 := Lib.hid hb
    clear hb AW
    go_wp2_with fail
    go_ret
    exact ⟨rfl, B1.out⟩
  have d1 : decide ((32 : Int) < (m : Int)) = false := decide_eq_false (by omega)
  have d2 : decide (32 < m) = false := decide_eq_false big
  go_enter Try.func5, Try.ntmps5
  go_wp2_with fail
  refine (AW.out _).mono ?_
  rintro e w1 ⟨rfl, hb⟩
  have B1 := Lib.hid hb
  clear hb AW
  go_wp2_with fail
  clear ht
  go_loopw [5, 6, 7, 8, 9] (fun ov lv hv iv _ wr => ∃ (k : Nat) (lo hi : Int), k ≤ m ∧ iv = .int .i64 (k : Nat) ∧ lv = .int .i64 lo ∧ hv = .int .i64 hi ∧ lo ≤ t ∧ t ≤ hi ∧ (∀ c ∈ (L.take k).map (agC t), c.off - c.dist ≤ lo ∧ hi ≤ c.off + c.dist) ∧ OwnC wr w.heap.size ov ((L.take k).map (agC t)) ∧ Below w.heap.size w wr) (fun _ _ _ iv _ _ => m - (intOf iv).toNat)
  case atStart => exact ⟨0, _, _, by omega, rfl, rfl, rfl, by omega, by omega, by simp, OwnC.nil _ _, B1.out⟩
  case round =>
    obtain ⟨k, lo, hi, hk, rfl, rfl, rfl, tl, th, hin, ho, hb⟩ := hrel
    rename World => wr
    have HO := Lib.hid ho
    have HB := Lib.hid hb
    have IN := Lib.hid hin
    clear ho hb hin B1
    by_cases c : k < m
    · have e1 : decide ((k : Int) < (m : Int)) = true := decide_eq_true (by omega)
      have e2 : decide (k < m) = true := decide_eq_true c
      have k1 : (k : Int) < (m : Int) := by omega
      have k0 : (0 : Int) ≤ (k : Int) := by omega
      have wk : IntKind.i64.wrap ((k : Int) + 1) = (k : Int) + 1 := wrap_in (by omega) (by omega)
      obtain ⟨x, hx⟩ : ∃ x, L[k]? = some x := ⟨_, List.getElem?_eq_getElem (by rw [HM.out]; exact c)⟩
      have RM := Lib.hid (rmap_more hx (agC t))
      have LEN : Hid (((L.take k).map (agC t)).length = k) := Lib.hid (by rw [List.length_map, List.length_take, HM.out]; omega)
      have AI := (agC_in t t2 t1 x).2
      obtain ⟨b, off, rfl, y0, y1, y2, y3⟩ := (HS.out.below HB.out).at hx
      have IX := Lib.hid (HI.out x (List.mem_of_getElem? hx))
      have KP : Hid (∀ W, Below wr.heap.size wr W → W.cell? ⟨b, off + k * 4 + 1, none⟩ = some (.int .i64 x.dist)) := Lib.hid fun W q => by
        obtain ⟨_, _, ea, _, z1, _⟩ := (HS.out.below (bstep HB.out q)).at hx
        cases ea
        exact z1
      clear hx
      obtain ⟨xo, xd, xj, xs⟩ := x
      simp only at y0 y1 y2 y3 KP
      have a1 := tmod_k xo
      have a2 := tmod_k xd
      have a3 := tmod_r xd
      obtain ⟨o, ho⟩ : ∃ o, xo.tmod 1000 = o := ⟨_, rfl⟩
      obtain ⟨q, hq⟩ : ∃ o, xd.tmod 1000 = o := ⟨_, rfl⟩
      rw [ho] at a1
      rw [hq] at a2 a3
      obtain ⟨r, hr⟩ : ∃ r, (q + 1000).tmod 1000 = r := ⟨_, rfl⟩
      rw [hr] at a3
      obtain ⟨co, hco⟩ : ∃ c, t + o = c := ⟨_, rfl⟩
      obtain ⟨md, hmd⟩ : ∃ c, max (co - t) (t - co) = c := ⟨_, rfl⟩
      obtain ⟨cdi, hcd⟩ : ∃ c, md + r = c := ⟨_, rfl⟩
      have AE : Hid (agC t ⟨xo, xd, xj, xs⟩ = ⟨co, cdi, 0, 1⟩) := Lib.hid (by unfold agC; simp only; rw [ho, hq, hr, hco, hmd, hcd])
      rw [AE.out] at RM AI
      simp only at AI
      have w1' : IntKind.i64.wrap o = o := wrap_in (by omega) (by omega)
      have w2' : IntKind.i64.wrap co = co := wrap_in (by omega) (by omega)
      have w3' : IntKind.i64.wrap (co - t) = co - t := wrap_in (by omega) (by omega)
      have w4' : IntKind.i64.wrap (t - co) = t - co := wrap_in (by omega) (by omega)
      have w5' : IntKind.i64.wrap q = q := wrap_in (by omega) (by omega)
      have w6' : IntKind.i64.wrap (q + 1000) = q + 1000 := wrap_in (by omega) (by omega)
      have w7' : IntKind.i64.wrap r = r := wrap_in (by omega) (by omega)
      have w8' : IntKind.i64.wrap cdi = cdi := wrap_in (by omega) (by omega)
      obtain ⟨bl, hbl⟩ : ∃ c, co - cdi = c := ⟨_, rfl⟩
      obtain ⟨bh, hbh⟩ : ∃ c, co + cdi = c := ⟨_, rfl⟩
      rw [hbl, hbh] at AI
      have w9' : IntKind.i64.wrap bl = bl := wrap_in (by omega) (by omega)
      have w0' : IntKind.i64.wrap bh = bh := wrap_in (by omega) (by omega)
      have NX := Lib.hid (new4 wr co 0 0 1 44)
      have hba := balloc (brefl wr) (.cells #[.int .i64 co, .int .i64 0, .int .i64 0, .int .i64 1] 44)
      have KA := Lib.hid (KP.out _ hba)
      have BA := Lib.hid (bstep HB.out hba)
      have OA := Lib.hid (HO.out.below hba)
      obtain ⟨nb, hnb⟩ : ∃ n, wr.heap.size = n := ⟨_, rfl⟩
      have NB : Hid (w.heap.size ≤ nb) := Lib.hid (by rw [← hnb]; exact HB.out.size)
      have OB : Hid (∀ z, z = nb → ∀ vv l, OwnC wr w.heap.size vv l → vv.ownBlock ≠ some z) := Lib.hid fun z hz vv l hl e => by have := (hl.lt _ e).2; omega
      have OBX := Lib.hid (OB.out nb rfl _ _ HO.out)
      rw [hnb] at NX
      obtain ⟨oa, oc, eov⟩ := HO.out.form
      rw [LEN.out] at eov
      subst eov
      clear hba KP HO OB
      go_upto_region 13 with fail
      try rw [hnb]
      clear hnb y0 y1 y2 y3
      generalize wr.alloc (.cells #[.int .i64 co, .int .i64 0, .int .i64 0, .int .i64 1] 44) = wa at *
      obtain ⟨z0, z1, z2, z3⟩ := blk4 NX.out (brefl wa)
      obtain ⟨s0, s1, s2, s3⟩ := blk4 NX.out (brefl wa).drew
      have f1 := (NX.out.2 1 _ rfl).2
      have f2 := ((NX.out.below (brefl wa).drew).2 1 _ rfl).2
      have y1 := KA.out
      have y1d : wa.drew.cell? ⟨b, off + k * 4 + 1, none⟩ = some (.int .i64 xd) := by simpa using y1
      have B5 : Hid (Below w.heap.size w (wa.setCell ⟨nb, 1, none⟩ (.int .i64 cdi)).drew) := Lib.hid (bstep (below_set BA.out NB.out 1 (.int .i64 cdi)) (brefl _).drew)
      have N5 : Hid (Blk (wa.setCell ⟨nb, 1, none⟩ (.int .i64 cdi)).drew nb [.int .i64 co, .int .i64 cdi, .int .i64 0, .int .i64 1]) := Lib.hid ((blk_set NX.out 1 (.int .i64 cdi)).below (brefl _).drew)
      have O5 : Hid (OwnC (wa.setCell ⟨nb, 1, none⟩ (.int .i64 cdi)).drew w.heap.size (.slice oa k oc) ((L.take k).map (agC t))) := Lib.hid (OwnC.below (ownsRow_setCell_other OA.out (a := ⟨nb, 1, none⟩) OBX.out (.int .i64 cdi)) (brefl _).drew)
      have HBL := Lib.hid hbl
      have HBH := Lib.hid hbh
      have HCO := Lib.hid hco
      have x3 : wrap64 (co - t) = co - t := wrap64_in (by omega) (by omega)
      have x4 : wrap64 (t - co) = t - co := wrap64_in (by omega) (by omega)
      have x5 : wrap64 q = q := wrap64_in (by omega) (by omega)
      have x6 : wrap64 (q + 1000) = q + 1000 := wrap64_in (by omega) (by omega)
      have x7 : wrap64 r = r := wrap64_in (by omega) (by omega)
      have x8 : wrap64 cdi = cdi := wrap64_in (by omega) (by omega)
      have XBL : Hid (wrap64 bl = bl) := Lib.hid (wrap64_in (by omega) (by omega))
      have XBH : Hid (wrap64 bh = bh) := Lib.hid (wrap64_in (by omega) (by omega))
      clear hbl hbh ho
      go_cut [] from 25 to 76 (fun wx => wx = (wa.setCell ⟨nb, 1, none⟩ (.int .i64 cdi)).drew)
      case first =>
        rcases Int.lt_or_le (co - t) (t - co) with cq | cq
        · have dq := decide_eq_true cq
          have e : max (co - t) (t - co) = t - co := Int.max_eq_right (by omega)
          rw [e] at hmd
          have hc2 : t - co + r = cdi := by omega
          have hc3 : wrap64 (t - co + r) = cdi := by rw [hc2]; exact x8
          clear hmd hcd hco hc2
          go_region
          go_wp2_with fail
          go_meet
          rfl
        · have dq : decide (co - t < t - co) = false := decide_eq_false (by omega)
          have e : max (co - t) (t - co) = co - t := Int.max_eq_left cq
          rw [e] at hmd
          have hc2 : co - t + r = cdi := by omega
          have hc3 : wrap64 (co - t + r) = cdi := by rw [hc2]; exact x8
          clear hmd hcd hco hc2
          go_region
          go_wp2_with fail
          go_meet
          rfl
      obtain rfl := hcut
      clear hco hq hr x3 x4 x5 x6 x7 x8
      have wA : IntKind.i64.wrap (co - cdi) = bl := by rw [HBL.out]; exact w9'
      have wB : IntKind.i64.wrap (co + cdi) = bh := by rw [HBH.out]; exact w0'
      have wC : wrap64 (co - cdi) = bl := by rw [HBL.out]; exact XBL.out
      have wD : wrap64 (co + cdi) = bh := by rw [HBH.out]; exact XBH.out
      generalize (wa.setCell ⟨nb, 1, none⟩ (.int .i64 cdi)).drew = w5 at *
      clear z0 z1 z2 z3 s0 s1 s2 s3 f1 f2 y1 y1d BA NX OA KA hmd hcd
      obtain ⟨z0, z1, z2, z3⟩ := blk4 N5.out (brefl w5)
      obtain ⟨ov', w6, hr6, o6, b6⟩ := appC O5.out ⟨co, cdi, 0, 1⟩ B5.out.size (by rw [LEN.out]; omega) 22
      rw [← RM.out] at o6
      replace hr6 : (Builtin.append_ #[22, 22] 22 #[.slice oa k oc, .slice (some ⟨w5.heap.size, 0, none⟩) 1 1]).run Try.prog (w5.alloc (.cells #[.int .i64 co, .int .i64 cdi, .int .i64 0, .int .i64 1] 44)) = .ok ov' w6 := hr6
      have R6 := Lib.hid hr6
      have O6 := Lib.hid o6
      have B6 := Lib.hid (B5.out.trans b6)
      clear hr6 o6 b6
      have NI := Lib.hid (fun lo' hi' (P : lo ≤ lo' ∧ hi' ≤ hi ∧ bl ≤ lo' ∧ hi' ≤ bh) => show ∀ c ∈ (L.take (k + 1)).map (agC t), c.off - c.dist ≤ lo' ∧ hi' ≤ c.off + c.dist from by
        rw [RM.out]
        intro c hc
        rcases List.mem_append.1 hc with hc | hc
        · have := IN.out c hc
          exact ⟨by omega, by omega⟩
        · rw [List.mem_singleton.1 hc]
          have p1 := HBL.out
          have p2 := HBH.out
          exact ⟨by show co - cdi ≤ _; omega, by show _ ≤ co + cdi; omega⟩)
      rcases Int.lt_or_le lo bl with cm | cm
      · have dm := decide_eq_true cm
        rcases Int.lt_or_le bh hi with cx | cx
        · have dx := decide_eq_true cx
          have NZ := Lib.hid (NI.out bl bh ⟨by omega, by omega, by omega, by omega⟩)
          go_wp2_with (first | (at_builtin; refine wpList_append_eqL rfl _ _ 22 rfl _ _ ov' w6 rfl rfl R6.out ?_))
          exact ⟨⟨k + 1, bl, bh, by omega, by go_num, by first | rfl | exact congrArg (Value.int .i64) (by omega), by first | rfl | exact congrArg (Value.int .i64) (by omega), by omega, by omega, NZ.out, O6.out, B6.out⟩, by simp [intOf]; omega⟩
        · have dx : decide (bh < hi) = false := decide_eq_false (by omega)
          have NZ := Lib.hid (NI.out bl hi ⟨by omega, by omega, by omega, by omega⟩)
          go_wp2_with (first | (at_builtin; refine wpList_append_eqL rfl _ _ 22 rfl _ _ ov' w6 rfl rfl R6.out ?_))
          exact ⟨⟨k + 1, bl, hi, by omega, by go_num, by first | rfl | exact congrArg (Value.int .i64) (by omega), by first | rfl | exact congrArg (Value.int .i64) (by omega), by omega, by omega, NZ.out, O6.out, B6.out⟩, by simp [intOf]; omega⟩
      · have dm : decide (lo < bl) = false := decide_eq_false (by omega)
        rcases Int.lt_or_le bh hi with cx | cx
        · have dx := decide_eq_true cx
          have NZ := Lib.hid (NI.out lo bh ⟨by omega, by omega, by omega, by omega⟩)
          go_wp2_with (first | (at_builtin; refine wpList_append_eqL rfl _ _ 22 rfl _ _ ov' w6 rfl rfl R6.out ?_))
          exact ⟨⟨k + 1, lo, bh, by omega, by go_num, by first | rfl | exact congrArg (Value.int .i64) (by omega), by first | rfl | exact congrArg (Value.int .i64) (by omega), by omega, by omega, NZ.out, O6.out, B6.out⟩, by simp [intOf]; omega⟩
        · have dx : decide (bh < hi) = false := decide_eq_false (by omega)
          have NZ := Lib.hid (NI.out lo hi ⟨by omega, by omega, by omega, by omega⟩)
          go_wp2_with (first | (at_builtin; refine wpList_append_eqL rfl _ _ 22 rfl _ _ ov' w6 rfl rfl R6.out ?_))
          exact ⟨⟨k + 1, lo, hi, by omega, by go_num, by first | rfl | exact congrArg (Value.int .i64) (by omega), by first | rfl | exact congrArg (Value.int .i64) (by omega), by omega, by omega, NZ.out, O6.out, B6.out⟩, by simp [intOf]; omega⟩
    · have e1 : decide ((k : Int) < (m : Int)) = false := decide_eq_false (by omega)
      have e2 : decide (k < m) = false := decide_eq_false c
      obtain rfl : k = m := by omega
      obtain ⟨M, hM⟩ : ∃ M, (L.take k).map (agC t) = M := ⟨_, rfl⟩
      have ML : M.length = k := by rw [← hM, List.length_map, List.length_take, HM.out]; omega
      have HML := Lib.hid ML
      have OKM : Hid (okL M) := Lib.hid ⟨fun c hc => by
        rw [← hM] at hc
        obtain ⟨x, _, rfl⟩ := List.mem_map.1 hc
        exact (agC_in t t2 t1 x).1, by rw [ML]; omega⟩
      have ALL : Hid (∀ c ∈ M, (c.off - c.dist ≤ t ∧ t ≤ c.off + c.dist) ∧ c.off - c.dist ≤ lo ∧ hi ≤ c.off + c.dist) := Lib.hid fun c hc => by
        rw [← hM] at hc
        have p := IN.out c hc
        obtain ⟨x, _, rfl⟩ := List.mem_map.1 hc
        exact ⟨(agC_in t t2 t1 x).2, p⟩
      have AG := Lib.hid (fun a b (h : IsI M a b) => agree ALL.out tl th h)
      have MS := HO.out.cs
      rw [hM] at MS
      obtain ⟨oa, oc, eov⟩ := HO.out.form
      rw [hM, ML] at eov
      subst eov
      have P1 := Lib.hid (PI.out wr _ M MS (by rw [ML]; omega))
      unfold IP at P1
      rcases inA_cases M with ⟨nk, hA⟩ | ⟨_, hA⟩ | ⟨ia, ib, _, IS, hA⟩
      · exact absurd OKM.out nk
      · rw [hA] at P1
        replace P1 : Hid (Calls Try.prog 8 #[.slice oa k oc] wr fun e w'' => (∃ v', e = .returned (.tuple #[.agg #[.int .i64 0, .int .i64 0], v', .int .i64 5]) ∧ OwnI w'' wr.heap.size v' (ints [])) ∧ Below wr.heap.size wr w'') := P1
        clear hM ML hA MS
        go_wp2_with fail
        refine P1.out.mono ?_
        rintro e w7 ⟨⟨tv, rfl, oq⟩, hb⟩
        have B7 := Lib.hid (balloc (bstep HB.out hb) (.cells #[.int .i64 0, .int .i64 0] 27))
        clear hb oq P1
        go_wp2_with fail
        go_ret
        exact ⟨rfl, B7.out⟩
      · obtain ⟨q1, q2, q3, q4, q5⟩ := AG.out ia ib IS
        rw [hA] at P1
        replace P1 : Hid (Calls Try.prog 8 #[.slice oa k oc] wr fun e w'' => (∃ v', e = .returned (.tuple #[.agg #[.int .i64 ia, .int .i64 ib], v', .int .i64 0]) ∧ OwnI w'' wr.heap.size v' (ints (tru M ia ib M.length))) ∧ Below wr.heap.size wr w'') := P1
        rw [HML.out] at q5
        have Q5 : Hid ((ints (tru M ia ib M.length)).length = k) := Lib.hid (by rw [ints_len, HML.out]; exact q5)
        have g1 := decide_eq_true q1
        have g2 := decide_eq_true q2
        have g3 := decide_eq_true q3
        have g4 := decide_eq_true q4
        clear hM ML hA MS IS q5
        go_wp2_with fail
        refine P1.out.mono ?_
        rintro e w7 ⟨⟨tv, rfl, oq⟩, hb⟩
        have B7 := Lib.hid (balloc (bstep HB.out hb) (.cells #[.int .i64 ia, .int .i64 ib] 27))
        obtain ⟨ta, tc, etv⟩ := oq.form
        rw [Q5.out] at etv
        subst etv
        have N7 := Lib.hid (new2 w7 ia ib 27)
        obtain ⟨z0, z1⟩ := blk2 N7.out (brefl _)
        clear hb oq P1 Q5
        go_wp2_with fail
        go_ret
        exact ⟨rfl, B7.out⟩
set_option maxRecDepth 100000 in
theorem lifted (os : Os) (started : os.Started) (H : Type) (enc : TypeId × Value → H) :
    ReturnsInHanded {} Try.checked os 5 .any (Rows.voteAgreeSpec.pre6 enc Try.prog Try.f5 Rows.voteAgreeRow.domain false) (Rows.voteAgreeSpec.post enc Try.prog Try.f5 false true false false) := by
  refine returnsInHanded_of_change_sized (C := Try.checked) own started (by kernel_rfl) Try.func5
    (ChangeSpec.witness6 (enc := enc) (C := Try.checked) false ⟨#[], #[.slice none 0 0, .int .i64 0], []⟩ 8 (by kernel_rfl) (by kernel_rfl) (by kernel_rfl) (by kernel_rfl)) ?_
  intro W base args ds gs before hval0 hW hcnd hsz0 _
  have hsz : (DataW.weightsEach Try.prog (Try.f5.params.toList ++ Rows.voteAgreeSpec.plain.varTypes Try.prog) (ds ++ gs)).all (· ≤ reachBytes) = true := hsz0
  have hval : ∀ (j : Nat) t v, Try.f5.params[j]? = some t → args[j]? = some v → Value.okWide Try.prog W .any base t v := hval0
  have hW' := hW
  obtain ⟨p, q, hA0, hV, rfl, hfz, hnd⟩ := hW
  have hA : DataW.TrodAll enc Try.prog W 0 (fun _ => true) true Try.f5.params.toList args.toList ds p := hA0
  rw [Try.params5] at hA hval hsz
  obtain ⟨v0, vs0, d0, ds0, p0, q0, hargs, rfl, rfl, h0, r0⟩ := trodAll_cons hA
  obtain ⟨v1, vs1, d1, ds1, p1, q1, rfl, rfl, rfl, h1, r1⟩ := trodAll_cons r0
  obtain ⟨rfl, rfl, rfl⟩ := trodAll_nil r1
  obtain rfl : args = #[v0, v1] := by cases args; simp_all
  obtain ⟨rfl, rfl⟩ := trodVars_none hV
  have h0k := h0
  have hlt0 : ∀ x ∈ p0, x.block < W.heap.size := fun x hx => by have := hW'.lt x (by simp [hx]); simpa using this
  have hb0 : ∀ es sp, d0 = .slice es sp → (es.length + sp.length) * Try.prog.bytesOf 44 ≤ reachBytes := by
    intro es sp he
    exact sized_slice hsz (j := 0) (t := 22) (e := 44) rfl (by rw [he]; rfl) Try.underlying22
  have h1k := h1
  have hlt1 : ∀ x ∈ p1, x.block < W.heap.size := fun x hx => by have := hW'.lt x (by simp [hx]); simpa using this
  obtain ⟨L0, g0⟩ := open_cds (hval 0 22 v0 rfl rfl) h0 hb0
  obtain ⟨z1, rfl, _, _, g1⟩ := open_int Try.underlying25 (hval 1 25 v1 rfl rfl) h1
  clear hA0 hval0
  simp only [List.append_nil] at hW'
  refine (walk pc v0 L0 z1 W g0 g1).mono fun e W' ⟨he, hg⟩ => ?_
  subst he
  exact ⟨_, rfl, _, _, _, [], _, [], hW', trodAll_cons_mk (shut_bool Try.underlying4 _) trodAll_mk0,
    (trodAll_cons_mk (Below.trod laidOut (by kernel_rfl) (of_decide_eq_true (by kernel_rfl)) h0k hg hlt0) (trodAll_cons_mk (Below.trod laidOut (by kernel_rfl) (of_decide_eq_true (by kernel_rfl)) h1k hg hlt1) trodAll_mk0)), rfl, hg.frame _, fun h => nomatch h⟩

theorem over : Rows.voteAgreeRow.holds Try.pinned (OpenSpec.ofChange Rows.voteAgreeSpec) :=
  OpenClaim.holds_of_wide 5 Try.f5 rfl rfl rfl rfl rfl rfl rfl ⟨rfl, rfl, rfl, rfl, rfl⟩ rfl rfl rfl rfl rfl (by kernel_rfl) Try.func5 (by kernel_rfl)
    (of_decide_eq_true (by kernel_rfl)) (by unfold Func.isWrapper; first | (rw [if_pos (by decide +kernel)]; kernel_rfl) | (rw [if_neg (by decide +kernel)]; exact ⟨rfl, rfl⟩))
    (fun os started H enc _ => lifted os started H enc)

theorem proved : Rows.VoteAgreeSaid :=
  over
end Go.Proofs.Ytkmbeogmgehnfaa.voteAgree
