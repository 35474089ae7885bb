/-
  The document's guard sees a host.
  Conditions: none but that the guard lies in memory and is in order.
-/
import Derived.Test.YtdngoopogajhiaaGuA
import Derived.Deep.RegionHeld3
namespace Go.Proofs.Ytdngoopogajhiaa.Gu
open Go.RowKit Go.ChangeShapes Go.WideShapes Go.ChangeAt Go.Joins Fl
set_option linter.unusedVariables false
set_option linter.unusedSimpArgs false

theorem info_seen : (Try.prog.info? 74).map (fun i => (i.zero, i.size, i.bytes)) = some (some (.agg (hvs ⟨0, 0, 0, 0⟩).toArray), 4, 32) := by kernel_rfl
theorem appH {w : World} {base : Nat} {v : Value} {l : List Ho} (h : Gn.Own 74 hvs 4 w base v l) (x : Ho) (hb : base ≤ w.heap.size) (hn : l.length ≤ 100) (ty : TypeId) :
    ∃ v' w', (Builtin.append_ #[51, 51] ty #[v, .slice (some ⟨w.heap.size, 0, none⟩) 1 1]).run Try.prog (w.alloc (.cells #[.int .u32 x.addr, .int .i64 x.last, .int .i64 x.count, .int .i64 x.score] 74)) = .ok v' w' ∧ Gn.Own 74 hvs 4 w' base v' (l ++ [x]) ∧ Below base w w' ∧ (∀ j, j < w.heap.size → v.ownBlock ≠ some j → w'.heap[j]? = w.heap[j]?) ∧ (∀ j, v'.ownBlock = some j → v.ownBlock = some j ∨ w.heap.size ≤ j) :=
  Gn.app okh Try.underlying51 info_seen rfl h x hb (by omega) (by unfold maxLen; omega) ty
theorem step_append_eqH {P : Program} {w : World} {ops : Array Oper} {o : Oper} {a : Act} {K : Act → World → Prop} {Q : Exit → Act → World → Prop} {E : Prop} (hgd : o.guard = none) (s x : Operand) (t : TypeId)
    (ho : o.op = .call { callee := .builtin .append, args := #[s, x], argTypes := #[t, t] }) (v xv v' : Value) (w' : World) (hs : a.eval s = v) (hx : a.eval x = xv)
    (hr : (Builtin.append_ #[t, t] o.type #[v, xv]).run P w = .ok v' w') (h : K (a.put o.dst v') w') :
    if Region.wanted o (yielded ops a.tmps) = true then Oper.wp P o a w K Q else E := by
  have hw : Region.wanted o (yielded ops a.tmps) = true := by simp [Region.wanted, hgd]
  rw [if_pos hw]
  unfold Oper.wp execOp
  simp only [ho, resolve, invoke, builtin, Sem.run_bind, Sem.run_pure, Result.andThen_ok, List.map_toArray, List.map_cons, List.map_nil, hs, hx, hr]
  exact h
theorem own_len {w : World} {base : Nat} {l : List Ho} (a : Option Addr) (n c : Nat) (h : Gn.Own 74 hvs 4 w base (.slice a n c) l) : n = l.length := by
  obtain ⟨_, _, e⟩ := h.form
  simp only [Value.slice.injEq] at e
  exact e.2.1
theorem own1 (w : World) (x : Ho) : Gn.Own 74 hvs 4 (w.alloc (.cells #[.int .u32 x.addr, .int .i64 x.last, .int .i64 x.count, .int .i64 x.score] 74)) w.heap.size (.slice (some ⟨w.heap.size, 0, none⟩) 1 1) [x] :=
  ⟨rfl, .inr ⟨w.heap.size, 1, #[.int .u32 x.addr, .int .i64 x.last, .int .i64 x.count, .int .i64 x.score], rfl, Nat.le_refl _, by show (w.heap.push _)[w.heap.size]? = _; simp, Nat.le_refl _, by decide, rfl, rfl⟩⟩
theorem tu_ext {X : Nat → Prop} {a b c : World} {n : Nat} (h : Tu X a b) (k : Below n b c) (hn : a.heap.size ≤ n) : Tu X a c :=
  ⟨k.os.trans h.os, k.tape.trans h.tape, k.output.trans h.output, Nat.le_trans h.size k.size, fun i hi hx => (k.block i (Nat.lt_of_lt_of_le hi hn)).trans (h.block i hi hx)⟩
theorem hst_eta (a raw : Int) (H : List Ho) : ∃ c s, hst a raw H = ⟨a, raw, c, s⟩ := by
  obtain ⟨p, q⟩ := hst_form a raw H
  refine ⟨(hst a raw H).count, (hst a raw H).score, ?_⟩
  generalize hst a raw H = h at *
  obtain ⟨h1, h2, h3, h4⟩ := h
  simp only at p q
  rw [p, q]
set_option maxRecDepth 100000 in
set_option maxHeartbeats 16000000 in
theorem rSee_c {w : World} {b k : Nat} {Z : Nat → Prop} {G : Gd} (h : DG w b Z G) (hk : k ≤ 100000) (hi : In k G) (a : Int) (ha : 0 ≤ a ∧ a ≤ 4294967295) (raw : Int) (hr : G.last ≤ raw ∧ raw ≤ 288230376151711744) :
    Calls Try.prog 23 #[.pointer (some ⟨b, 0, none⟩), .int .u32 a, .int .i64 raw] w fun e w' => (e = .returned (.bool (fast a raw G.hosts)) ∧ ∃ Z', DG w' b Z' ⟨G.rules, seeH a raw G.hosts, G.last⟩ ∧ ∀ i, Z' i → Z i ∨ w.heap.size ≤ i) ∧ Tu (Td b) w w' := by
  obtain ⟨rv, hv, h1, h2, h3, h4, h5, h6, h7⟩ := h
  obtain ⟨_, _, hl, hO, _, l0, l1⟩ := hi
  have bl := h1.1
  have HB := Lib.hid h1
  have HS := Lib.hid h4
  have HR := Lib.hid h3
  have ZR : Hid (∀ g, rv.ownBlock = some g → Z g) := Lib.hid (fun g hg => (h5 g hg).1)
  have RNB : Hid (∀ g, rv.ownBlock = some g → g ≠ b) := Lib.hid (fun g hg => (h5 g hg).2)
  have ZB := Lib.hid h2
  have ZL := Lib.hid h7
  have OH := Lib.hid hO
  have HI := Lib.hid (fun j => hst_in (a := a) (raw := raw) hr.1 (by omega) (H := G.hosts.take j) (fun x hx => hO x (List.mem_of_mem_take hx)))
  clear h1 h3 h5 h6 hO
  generalize G.hosts = H at *
  generalize G.rules = R at *
  generalize G.last = gl at *
  obtain ⟨ha', hc, rfl, c1, c2, _⟩ := h4
  obtain ⟨m, hm⟩ : ∃ m, H.length = m := ⟨_, rfl⟩
  have HM := Lib.hid hm
  have TK : Hid (H.take m = H) := Lib.hid (List.take_of_length_le (Nat.le_of_eq hm))
  rw [hm] at HS HB c1 hl
  have m0 : (0 : Int) ≤ (m : Int) := by omega
  have m1 : (m : Int) ≤ 16 := by omega
  have m2 : (m : Int) ≤ (hc : Int) := by omega
  have m3 : (hc : Int) ≤ 9223372036854775807 := by omega
  have N0 := Lib.hid (Blk.new' w #[.int .u32 a, .int .i64 raw, .int .i64 1, .int .i64 8388608] 74)
  have B0 := Lib.hid (balloc (brefl w) (.cells #[.int .u32 a, .int .i64 raw, .int .i64 1, .int .i64 8388608] 74))
  clear hm
  go_enter Try.func23, Try.ntmps23
  go_wp2_with fail
  go_loopw [8, 9] (fun ov iv wr => ∃ j : Nat, j ≤ m ∧ iv = .int .i64 (j : Nat) ∧ Gn.Own 74 hvs 4 wr (w.heap.size + 1) ov (rest a (H.take j)) ∧ Blk wr w.heap.size (hvs (hst a raw (H.take j))) ∧ Below w.heap.size w wr) (fun _ iv _ => m - (intOf iv).toNat)
  case atStart => exact ⟨0, by omega, rfl, Gn.Own.nil _ _, N0.out, B0.out⟩
  case round =>
    obtain ⟨j, hj, rfl, ho, hn, hb⟩ := hrel
    rename World => wr
    have OR := Lib.hid ho
    have NR := Lib.hid hn
    have BR := Lib.hid hb
    have z1 := ((HB.out.below BR.out).2 1 _ rfl).1
    clear ho hn hb N0 B0
    by_cases c : j < m
    · have e1 : decide ((j : Int) < (m : Int)) = true := decide_eq_true (by omega)
      have e2 : decide (j < m) = true := decide_eq_true c
      have k1 : (j : Int) < (m : Int) := by omega
      have k0 : (0 : Int) ≤ (j : Int) := by omega
      have wk : IntKind.i64.wrap ((j : Int) + 1) = (j : Int) + 1 := wrap_in (by omega) (by omega)
      obtain ⟨x, hx⟩ : ∃ x, H[j]? = some x := ⟨_, List.getElem?_eq_getElem (by rw [HM.out]; exact c)⟩
      have ox := OH.out x (List.mem_of_getElem? hx)
      have HX := Lib.hid hx
      obtain ⟨bb, off, rfl, _, hR⟩ := (HS.out.below BR.out).at hx
      have y0 := hR 0 _ rfl
      have y1 := hR 1 _ rfl
      have y2 := hR 2 _ rfl
      have y3 := hR 3 _ rfl
      rw [Nat.add_zero] at y0
      have SN := Lib.hid (hst_snoc (a := a) (raw := raw) hx)
      have RY := Lib.hid (rest_yes (a := a) hx)
      have RN := Lib.hid (rest_no (a := a) hx)
      have rl := Nat.le_trans (rest_len a (H.take j)) (by rw [List.length_take]; exact Nat.min_le_left _ _)
      obtain ⟨gc, gs, hg⟩ := hst_eta a raw (H.take j)
      have gi := HI.out j
      clear hx hR
      obtain ⟨xa, xl, xc, xs⟩ := x
      unfold okH at ox
      simp only at y0 y1 y2 y3 ox
      rw [hg] at NR SN gi
      simp only at gi
      clear hg
      have NA := Lib.hid (Blk.new' wr #[.int .u32 xa, .int .i64 xl, .int .i64 xc, .int .i64 xs] 74)
      have hb2 := balloc (brefl wr) (.cells #[.int .u32 xa, .int .i64 xl, .int .i64 xc, .int .i64 xs] 74)
      have BA := Lib.hid (bstep BR.out hb2)
      have NB := Lib.hid (NR.out.below hb2)
      have OB := Lib.hid (OR.out.below hb2)
      obtain ⟨oa, oc, eov⟩ := OR.out.form
      subst eov
      clear hb2 OR NR
      go_upto_region 7 with fail
      generalize wr.alloc (.cells #[.int .u32 xa, .int .i64 xl, .int .i64 xc, .int .i64 xs] 74) = wa at *
      have x0 := (NA.out.2 0 _ rfl).1
      have x1 := (NA.out.2 1 _ rfl).1
      have x2 := (NA.out.2 2 _ rfl).1
      have x3 := (NA.out.2 3 _ rfl).1
      have u2 := NB.out.2 2 _ rfl
      have u3 := NB.out.2 3 _ rfl
      obtain ⟨u2c, u2f⟩ := u2
      obtain ⟨u3c, u3f⟩ := u3
      clear y0 y1 y2 y3 z1
      by_cases q : xa = a
      · subst q
        have eb : (xa == xa) = true := by simp
        have w1 : IntKind.i64.wrap (xc + 1) = xc + 1 := wrap_in (by omega) (by omega)
        have w2 : IntKind.i64.wrap (raw - xl) = raw - xl := wrap_in (by omega) (by omega)
        have w3 : IntKind.i64.wrap (xs - (raw - xl)) = xs - (raw - xl) := wrap_in (by omega) (by omega)
        obtain ⟨p, hp⟩ : ∃ p, max (xs - (raw - xl)) 0 = p := ⟨_, rfl⟩
        have w4 : IntKind.i64.wrap (p + 8388608) = p + 8388608 := wrap_in (by omega) (by omega)
        have w5 : IntKind.i64.wrap (0 + 8388608) = 0 + 8388608 := by decide
        have NX : Hid (hst xa raw (H.take (j + 1)) = ⟨xa, raw, xc + 1, p + 8388608⟩) := Lib.hid (by rw [SN.out]; unfold hs1; rw [if_pos rfl, ← hp])
        have BN := Lib.hid (blk_set (blk_set NB.out 2 (.int .i64 (xc + 1))) 3 (.int .i64 (p + 8388608)))
        have BW := Lib.hid (below_set (below_set BA.out (Nat.le_refl w.heap.size) 2 (.int .i64 (xc + 1))) (Nat.le_refl w.heap.size) 3 (.int .i64 (p + 8388608)))
        have OO : Hid (Gn.Own 74 hvs 4 ((wa.setCell ⟨w.heap.size, 2, none⟩ (.int .i64 (xc + 1))).setCell ⟨w.heap.size, 3, none⟩ (.int .i64 (p + 8388608))) (w.heap.size + 1) (.slice oa (rest xa (H.take j)).length oc) (rest xa (H.take (j + 1)))) := Lib.hid (by
          rw [RN.out rfl]
          exact OB.out.keep fun g hg hb _ => (set_other (by omega)).trans (set_other (by omega)))
        rcases Int.lt_or_le (xs - (raw - xl)) 0 with mm | mm
        · have d1 := decide_eq_true mm
          obtain rfl : p = 0 := by omega
          clear hp
          go_wp2_with fail
          all_goals exact ⟨⟨j + 1, by omega, by go_num, OO.out, by rw [NX.out]; exact BN.out, BW.out⟩, by simp [intOf]; omega⟩
        · have d1 : decide (xs - (raw - xl) < 0) = false := decide_eq_false (by omega)
          have hp2 : xs - (raw - xl) = p := by omega
          have mx : max p 0 = p := by omega
          have d2 : decide (p < 0) = false := decide_eq_false (by omega)
          rw [hp2] at w3
          clear hp
          go_wp2_with fail
          all_goals exact ⟨⟨j + 1, by omega, by go_num, OO.out, by rw [NX.out]; exact BN.out, BW.out⟩, by simp [intOf]; omega⟩
      · have eb : (xa == a) = false := by simpa using q
        have NX : Hid (hst a raw (H.take (j + 1)) = ⟨a, raw, gc, gs⟩) := Lib.hid (by rw [SN.out]; unfold hs1; rw [if_neg q])
        obtain ⟨v', w7, hr7, o7, b7, _⟩ := appH OB.out ⟨xa, xl, xc, xs⟩ NB.out.1 (by omega) 51
        rw [← RY.out q] at o7
        have R7 := Lib.hid hr7
        have O7 := Lib.hid o7
        have N7 : Hid (Blk w7 w.heap.size (hvs (hst a raw (H.take (j + 1))))) := Lib.hid (by rw [NX.out]; exact NB.out.belowB (Nat.lt_succ_self _) b7)
        have B7 := Lib.hid (BA.out.trans (b7.mono (Nat.le_succ _)))
        clear hr7 o7 b7 u2c u2f u3c u3f
        go_wp2_with (first | (at_builtin; refine wpList_append_eqL rfl _ _ 51 rfl _ _ v' w7 rfl rfl R7.out ?_))
        exact ⟨⟨j + 1, by omega, by go_num, O7.out, N7.out, B7.out⟩, by simp [intOf]; omega⟩
    · have e1 : decide ((j : Int) < (m : Int)) = false := decide_eq_false (by omega)
      have e2 : decide (j < m) = false := decide_eq_false c
      obtain rfl : j = m := by omega
      rw [TK.out] at OR NR
      have gi := HI.out j
      rw [TK.out] at gi
      obtain ⟨gc, gs, hg⟩ := hst_eta a raw H
      rw [hg] at NR gi
      simp only at gi
      have FR : Hid (frt a raw H = ⟨a, raw, gc, min gs 33554432⟩) := Lib.hid (by unfold frt; rw [hg])
      have FA : Hid (fast a raw H = decide (33554432 < gs)) := Lib.hid (by unfold fast; rw [hg])
      obtain ⟨oa, oc, eov⟩ := OR.out.form
      subst eov
      have RB : Hid (∀ g, (Value.slice oa (rest a H).length oc).ownBlock = some g → w.heap.size < g ∧ g < wr.heap.size) := Lib.hid fun g hg => by
        have := OR.out.block g hg
        exact ⟨by omega, this.2⟩
      have RS := Lib.hid (OR.out.ss okh)
      have RM := Lib.hid (rest_len a H)
      have u2 := NR.out.2 0 _ rfl
      obtain ⟨n0, _⟩ := NR.out.2 0 _ rfl
      obtain ⟨n1, _⟩ := NR.out.2 1 _ rfl
      obtain ⟨n2, _⟩ := NR.out.2 2 _ rfl
      obtain ⟨n3, n3f⟩ := NR.out.2 3 _ rfl
      obtain ⟨_, zf⟩ := (HB.out.below BR.out).2 1 _ rfl
      have SH : Hid (seeH a raw H = frt a raw H :: (rest a H).take 15) := Lib.hid rfl
      have MB : Hid (w.heap.size < wr.heap.size) := Lib.hid NR.out.1
      clear hg OR u2
      generalize rest a H = RH at *
      obtain ⟨rl, hrl⟩ : ∃ n, RH.length = n := ⟨_, rfl⟩
      have RLL := Lib.hid hrl
      rw [hrl] at RB RS ⊢
      have rl1 : rl ≤ 16 := by have := RM.out; have := HM.out; omega
      clear hrl
      rcases Int.lt_or_le 33554432 gs with mm | mm
      · have d1 : decide (33554432 < gs) = true := decide_eq_true mm
        have mn : min gs 33554432 = 33554432 := by omega
        have d2 : decide (gs < 33554432) = false := decide_eq_false (by omega)
        rw [mn] at FR
        rw [d1] at FA
        have NS := Lib.hid (blk_set NR.out 3 (.int .i64 33554432))
        have W1 := Lib.hid (below_set BR.out (Nat.le_refl w.heap.size) 3 (.int .i64 33554432))
        have HB1 : Hid (Blk (wr.setCell ⟨w.heap.size, 3, none⟩ (.int .i64 33554432)) b [rv, .slice ha' j hc, .int .i64 gl]) := Lib.hid (blk_other (HB.out.below BR.out) (Nat.ne_of_lt bl) 3 _)
        have RS1 : Hid (Gn.Ss hvs 4 (wr.setCell ⟨w.heap.size, 3, none⟩ (.int .i64 33554432)) (.slice oa rl oc) RH) := Lib.hid (ss_keep RS.out (fun g hg _ => set_other (by have := (RB.out g hg).1; omega)) (by simp))
        have zz : (wr.setCell ⟨w.heap.size, 3, none⟩ (.int .i64 33554432)).heap.size = wr.heap.size := by simp
        have hfs : w.heap.size ≠ b := Nat.ne_of_gt bl
        clear NR
        go_upto_region 13 with fail
        generalize wr.setCell ⟨w.heap.size, 3, none⟩ (.int .i64 33554432) = w2 at *
        have O3 := Lib.hid (own1 w2 ⟨a, raw, gc, 33554432⟩)
        have hb3 := balloc (brefl w2) (.cells #[.int .u32 a, .int .i64 raw, .int .i64 gc, .int .i64 33554432] 74)
        have HB3 := Lib.hid (HB1.out.below hb3)
        have RS3 := Lib.hid (RS1.out.below hb3)
        have B3 := Lib.hid (bstep W1.out hb3)
        have n0' := (NS.out.2 0 _ rfl).1
        have n1' := (NS.out.2 1 _ rfl).1
        have n2' := (NS.out.2 2 _ rfl).1
        have n3' := (NS.out.2 3 _ rfl).1
        have b3 := HB3.out.2 1 _ rfl
        obtain ⟨b3c, b3f⟩ := b3
        obtain ⟨nb, hnb⟩ : ∃ z, w2.heap.size = z := ⟨_, rfl⟩
        have bnb : Hid (b < nb) := Lib.hid (by rw [← hnb, zz]; have := MB.out; omega)
        have RB3 : Hid (∀ g, (Value.slice oa rl oc).ownBlock = some g → b < g ∧ g < nb) := Lib.hid fun g hg => by
          have := RB.out g hg
          exact ⟨by omega, by omega⟩
        have NBS : Hid (nb ≤ (w2.alloc (.cells #[.int .u32 a, .int .i64 raw, .int .i64 gc, .int .i64 33554432] 74)).heap.size) := Lib.hid (by rw [← hnb]; exact hb3.size)
        have WNB : Hid (w.heap.size ≤ nb) := Lib.hid (by rw [← hnb]; exact W1.out.size)
        rw [hnb] at O3
        clear hb3 HB1 RS1 W1 NS BR zz RB n0 n1 n2 n3 n3f zf z1
        go_upto_region 14 with fail
        try rw [hnb]
        clear hnb n0' n1' n2' n3' b3c b3f
        generalize w2.alloc (.cells #[.int .u32 a, .int .i64 raw, .int .i64 gc, .int .i64 33554432] 74) = w3 at *
        go_wp2_with fail
        go_loopw [12] (fun iv wx => ∃ (q : Nat) (hv' : Value), q ≤ rl ∧ q ≤ 15 ∧ iv = .int .i64 (q : Nat) ∧ Blk wx b [rv, hv', .int .i64 gl] ∧ Gn.Own 74 hvs 4 wx nb hv' (⟨a, raw, gc, 33554432⟩ :: RH.take q) ∧ Gn.Ss hvs 4 wx (.slice oa rl oc) RH ∧ Tu (Td b) w wx ∧ nb ≤ wx.heap.size) (fun iv _ => rl - (intOf iv).toNat)
        case atStart =>
          exact ⟨0, _, by omega, by omega, rfl, blk_set HB3.out 1 _, O3.out.keep (fun g _ hg _ => set_other (by have := bnb.out; omega)), ss_keep RS3.out (fun g hg _ => set_other (by have := RB3.out g hg; omega)) (by simp), (tu_below B3.out).set 1 _, by have := NBS.out; simpa using this⟩
        case round =>
          obtain ⟨q, hv', hq, hq5, rfl, hbx, hox, hsx, htx, hnx⟩ := hrel
          rename World => wx
          have HX := Lib.hid hbx
          have OX := Lib.hid hox
          have SX := Lib.hid hsx
          have TX := Lib.hid htx
          clear hbx hox hsx htx HB3 O3 RS3 B3 NBS
          obtain ⟨pa, pc, epv⟩ := OX.out.form
          subst epv
          by_cases c5 : q < rl
          · have f1 : decide ((q : Int) < (rl : Int)) = true := decide_eq_true (by omega)
            have f2 : decide (q < rl) = true := decide_eq_true c5
            by_cases c6 : q < 15
            · have f3 : decide ((q : Int) < 15) = true := decide_eq_true (by omega)
              have f4 : decide (q < 15) = true := decide_eq_true c6
              have q1 : (q : Int) < (rl : Int) := by omega
              have q0 : (0 : Int) ≤ (q : Int) := by omega
              have wq : IntKind.i64.wrap ((q : Int) + 1) = (q : Int) + 1 := wrap_in (by omega) (by omega)
              obtain ⟨x, hx⟩ : ∃ x, RH[q]? = some x := ⟨_, List.getElem?_eq_getElem (by rw [RLL.out]; exact c5)⟩
              have TKN : Hid (RH.take (q + 1) = RH.take q ++ [x]) := Lib.hid (take_snoc hx)
              obtain ⟨rlc, hrlc1, hrlc2⟩ : ∃ z : Nat, rl ≤ z ∧ z ≤ oc := by
                obtain ⟨_, cap', e, p1, _, _⟩ := SX.out
                simp only [Value.slice.injEq] at e
                exact ⟨rl, Nat.le_refl _, by omega⟩
              have oc1 : (rl : Int) ≤ (oc : Int) := by omega
              have oc2 : (oc : Int) ≤ 9223372036854775807 := by
                obtain ⟨_, cap', e, _, p2, _⟩ := SX.out
                simp only [Value.slice.injEq] at e
                omega
              obtain ⟨ob, oo, eoa, _, hR⟩ := SX.out.at hx
              subst eoa
              have rbo := RB3.out ob rfl
              have CC : Hid (∀ W, Below nb wx W → W.cell? ⟨ob, oo + q * 4, none⟩ = some (.int .u32 x.addr) ∧ W.cell? ⟨ob, oo + q * 4 + 1, none⟩ = some (.int .i64 x.last) ∧ W.cell? ⟨ob, oo + q * 4 + 2, none⟩ = some (.int .i64 x.count) ∧ W.cell? ⟨ob, oo + q * 4 + 3, none⟩ = some (.int .i64 x.score) ∧ W.cell? ⟨b, 1, none⟩ = some (.slice pa (⟨a, raw, gc, 33554432⟩ :: RH.take q).length pc) ∧ W.frozen? ⟨b, 1, none⟩ = false) := Lib.hid fun W k => by
                have hb := (HX.out.belowB bnb.out k).2 1 _ rfl
                exact ⟨(k.cell (p := ⟨ob, _, none⟩) rbo.2).trans (hR 0 _ rfl), (k.cell (p := ⟨ob, _, none⟩) rbo.2).trans (hR 1 _ rfl), (k.cell (p := ⟨ob, _, none⟩) rbo.2).trans (hR 2 _ rfl), (k.cell (p := ⟨ob, _, none⟩) rbo.2).trans (hR 3 _ rfl), hb.1, hb.2⟩
              clear hx hR
              obtain ⟨xa, xl, xc, xs⟩ := x
              simp only at CC
              obtain ⟨v', w7, r7, o7, b7, _, _⟩ := appH (w := wx.drew) (OX.out.below (brefl wx).drew) ⟨xa, xl, xc, xs⟩ hnx (by rw [List.length_cons, List.length_take]; omega) 51
              obtain ⟨p7, c7, ev7⟩ := o7.form
              obtain ⟨l7, hl7⟩ : ∃ n, ((((⟨a, raw, gc, 33554432⟩ : Ho) :: RH.take q) ++ [(⟨xa, xl, xc, xs⟩ : Ho)]).length) = n := ⟨_, rfl⟩
              rw [hl7] at ev7
              subst ev7
              clear hl7
              have R7 := Lib.hid r7
              have k0 : Below nb wx wx.drew := (Below.refl nb wx).drew
              have k1 : Below nb wx (wx.drew.alloc (.cells #[.int .u32 xa, .int .i64 xl, .int .i64 xc, .int .i64 xs] 74)) := k0.alloc hnx _
              have k7 : Below nb wx w7 := k0.trans b7
              have H7 : Hid (Blk (w7.setCell ⟨b, 1, none⟩ (.slice p7 l7 c7)) b [rv, (.slice p7 l7 c7), .int .i64 gl] ∧ Gn.Own 74 hvs 4 (w7.setCell ⟨b, 1, none⟩ (.slice p7 l7 c7)) nb (.slice p7 l7 c7) (⟨a, raw, gc, 33554432⟩ :: RH.take (q + 1)) ∧ Gn.Ss hvs 4 (w7.setCell ⟨b, 1, none⟩ (.slice p7 l7 c7)) (.slice (some ⟨ob, oo, none⟩) rl oc) RH ∧ Tu (Td b) w (w7.setCell ⟨b, 1, none⟩ (.slice p7 l7 c7)) ∧ nb ≤ (w7.setCell ⟨b, 1, none⟩ (.slice p7 l7 c7)).heap.size) := Lib.hid ⟨blk_set (HX.out.belowB bnb.out k7) 1 _, by rw [TKN.out]; exact o7.keep (fun g _ hg _ => set_other (by have := bnb.out; omega)), ss_keep SX.out (fun g hg _ => (set_other (by have := RB3.out g hg; omega)).trans (k7.block g (RB3.out g hg).2)) (by simpa using k7.size), (tu_ext TX.out k7 WNB.out).set 1 _, by have := k7.size; simp; omega⟩
              obtain ⟨s0, s1, s2, s3, s4, _⟩ := CC.out _ k0
              obtain ⟨t0, t1, t2, t3, t4, _⟩ := CC.out _ k1
              obtain ⟨v0, v1, v2, v3, u4, u5⟩ := CC.out _ k7
              obtain ⟨pn, hpn⟩ : ∃ n, ((⟨a, raw, gc, 33554432⟩ : Ho) :: RH.take q).length = n := ⟨_, rfl⟩
              have bx1 : b < wx.heap.size := HX.out.1
              have bx2 : ¬ b = wx.heap.size := Nat.ne_of_lt bx1
              have bx3 : ¬ wx.heap.size = b := Nat.ne_of_gt bx1
              obtain ⟨_, _, _, _, r4, _⟩ := CC.out _ (Below.refl nb wx)
              clear r7 o7 b7 k0 k1 k7 CC HX OX SX TX
              rw [hpn] at R7 s4 t4 u4 r4
              clear hpn
              go_upto_region 17 with fail
              have vv : (w7.setCell ⟨b, 1, none⟩ (.slice p7 l7 c7)).cell? ⟨ob, oo + q * 4, none⟩ = some (.int .u32 xa) ∧ (w7.setCell ⟨b, 1, none⟩ (.slice p7 l7 c7)).cell? ⟨ob, oo + q * 4 + 1, none⟩ = some (.int .i64 xl) ∧ (w7.setCell ⟨b, 1, none⟩ (.slice p7 l7 c7)).cell? ⟨ob, oo + q * 4 + 2, none⟩ = some (.int .i64 xc) ∧ (w7.setCell ⟨b, 1, none⟩ (.slice p7 l7 c7)).cell? ⟨ob, oo + q * 4 + 3, none⟩ = some (.int .i64 xs) := by
                have e : (w7.setCell ⟨b, 1, none⟩ (.slice p7 l7 c7)).heap[ob]? = w7.heap[ob]? := set_other (by omega)
                exact ⟨(World.cell?_of_block (a := ⟨ob, _, none⟩) e).trans v0, (World.cell?_of_block (a := ⟨ob, _, none⟩) e).trans v1, (World.cell?_of_block (a := ⟨ob, _, none⟩) e).trans v2, (World.cell?_of_block (a := ⟨ob, _, none⟩) e).trans v3⟩
              obtain ⟨va0, va1, va2, va3⟩ := vv
              refine wp_region_held_drew (S := fun W => W.cell? ⟨ob, oo + q * 4, none⟩ = some (.int .u32 xa) ∧ W.cell? ⟨ob, oo + q * 4 + 1, none⟩ = some (.int .i64 xl) ∧ W.cell? ⟨ob, oo + q * 4 + 2, none⟩ = some (.int .i64 xc) ∧ W.cell? ⟨ob, oo + q * 4 + 3, none⟩ = some (.int .i64 xs)) (by kernel_rfl) ⟨s0, s1, s2, s3⟩ (fun hHeld => ?_)
              refine wpAnyH_take (i := 0) (v := ?_) rfl (by kernel_rfl) (by kernel_rfl) (by kernel_rfl) (fun _ _ _ h => h) (Or.inl ⟨by rfl, ?_⟩) hHeld ?_
              rotate_left
              · (intro w hSw; obtain ⟨g0, g1, g2, g3⟩ := hSw; go_simp; try with_reducible rfl)
              (try simp only [Act.put, List.setIfInBounds_toArray, List.set_cons_zero, List.set_cons_succ])
              refine wpAnyH_take (i := 1) (v := ?_) rfl (by kernel_rfl) (by kernel_rfl) (by kernel_rfl) (fun _ _ _ h => h) (Or.inl ⟨by rfl, ?_⟩) hHeld ?_
              rotate_left
              · (intro w hSw; obtain ⟨g0, g1, g2, g3⟩ := hSw; go_simp; try with_reducible rfl)
              (try simp only [Act.put, List.setIfInBounds_toArray, List.set_cons_zero, List.set_cons_succ])
              refine wpAnyH_take (i := 2) (v := ?_) rfl (by kernel_rfl) (by kernel_rfl) (by kernel_rfl) (fun _ _ _ h => h) (Or.inl ⟨by rfl, ?_⟩) hHeld ?_
              rotate_left
              · (intro w hSw; obtain ⟨g0, g1, g2, g3⟩ := hSw; go_simp; try with_reducible rfl)
              (try simp only [Act.put, List.setIfInBounds_toArray, List.set_cons_zero, List.set_cons_succ])
              refine wpAnyH_take (i := 3) (v := ?_) rfl (by kernel_rfl) (by kernel_rfl) (by kernel_rfl) (fun _ _ _ h => h) (Or.inl ⟨by rfl, ?_⟩) hHeld ?_
              rotate_left
              · (intro w hSw; obtain ⟨g0, g1, g2, g3⟩ := hSw; go_simp; try with_reducible rfl)
              (try simp only [Act.put, List.setIfInBounds_toArray, List.set_cons_zero, List.set_cons_succ])
              refine wpAnyH_take (i := 5) (v := ?_) rfl (by kernel_rfl) (by kernel_rfl) (by kernel_rfl) (fun _ _ _ h => h) (Or.inl ⟨by rfl, ?_⟩) hHeld ?_
              rotate_left
              · (intro w hSw; obtain ⟨g0, g1, g2, g3⟩ := hSw; go_simp; try with_reducible rfl)
              (try simp only [Act.put, List.setIfInBounds_toArray, List.set_cons_zero, List.set_cons_succ])
              refine wpAnyH_take (i := 6) (v := ?_) rfl (by kernel_rfl) (by kernel_rfl) (by kernel_rfl) (fun _ _ _ h => h) (Or.inl ⟨by rfl, ?_⟩) hHeld ?_
              rotate_left
              · (intro w hSw; obtain ⟨g0, g1, g2, g3⟩ := hSw; go_simp; try with_reducible rfl)
              (try simp only [Act.put, List.setIfInBounds_toArray, List.set_cons_zero, List.set_cons_succ])
              refine wpAnyH_take (i := 7) (v := ?_) rfl (by kernel_rfl) (by kernel_rfl) (by kernel_rfl) (fun _ _ _ h => h) (Or.inl ⟨by rfl, ?_⟩) hHeld ?_
              rotate_left
              · (intro w hSw; obtain ⟨g0, g1, g2, g3⟩ := hSw; go_simp; try with_reducible rfl)
              (try simp only [Act.put, List.setIfInBounds_toArray, List.set_cons_zero, List.set_cons_succ])
              refine wpAnyH_take (i := 8) (v := ?_) rfl (by kernel_rfl) (by kernel_rfl) (by kernel_rfl) (fun _ _ _ h => h) (Or.inl ⟨by rfl, ?_⟩) hHeld ?_
              rotate_left
              · (intro w hSw; obtain ⟨g0, g1, g2, g3⟩ := hSw; go_simp; try with_reducible rfl)
              (try simp only [Act.put, List.setIfInBounds_toArray, List.set_cons_zero, List.set_cons_succ])
              refine wpAnyH_ready (rs := [4, 9]) (by kernel_rfl) (by simp) (AllReadyH.cons rfl (fun K hK => ?_) (AllReadyH.cons rfl (fun K hK => ?_) AllReadyH.nil))
              · go_simp
                refine hK.out _ _ (by first | exact ⟨s0, s1, s2, s3⟩ | exact ⟨t0, t1, t2, t3⟩ | exact ⟨v0, v1, v2, v3⟩ | exact ⟨va0, va1, va2, va3⟩) (fun hHeld => ?_)
                clear hK K
                (try simp only [Act.put, List.setIfInBounds_toArray, List.set_cons_zero, List.set_cons_succ])
                refine wpAnyH_ready (rs := [9]) (by kernel_rfl) (by simp) (AllReadyH.cons rfl (fun K hK => ?_) AllReadyH.nil)
                · go_simp
                  refine hK.out _ _ (by first | exact ⟨s0, s1, s2, s3⟩ | exact ⟨t0, t1, t2, t3⟩ | exact ⟨v0, v1, v2, v3⟩ | exact ⟨va0, va1, va2, va3⟩) (fun hHeld => ?_)
                  clear hK K
                  (try simp only [Act.put, List.setIfInBounds_toArray, List.set_cons_zero, List.set_cons_succ])
                  refine wpAnyH_ready (rs := [10]) (by kernel_rfl) (by simp) (AllReadyH.cons rfl (fun K hK => ?_) AllReadyH.nil)
                  · refine step_append_eqH (by rfl) (.tmp 80) (.tmp 85) _ (by rfl) (.slice pa pn pc) (.slice (some ⟨wx.heap.size, 0, none⟩) 1 1) (.slice p7 l7 c7) w7 (by rfl) (by rfl) R7.out ?_
                    refine hK.out _ _ (by first | exact ⟨s0, s1, s2, s3⟩ | exact ⟨t0, t1, t2, t3⟩ | exact ⟨v0, v1, v2, v3⟩ | exact ⟨va0, va1, va2, va3⟩) (fun hHeld => ?_)
                    clear hK K
                    (try simp only [Act.put, List.setIfInBounds_toArray, List.set_cons_zero, List.set_cons_succ])
                    refine wpAnyH_take (i := 11) (v := ?_) rfl (by kernel_rfl) (by kernel_rfl) (by kernel_rfl) (fun _ _ _ h => h) (Or.inl ⟨by rfl, ?_⟩) hHeld ?_
                    rotate_left
                    · (intro w hSw; obtain ⟨g0, g1, g2, g3⟩ := hSw; go_simp; try with_reducible rfl)
                    (try simp only [Act.put, List.setIfInBounds_toArray, List.set_cons_zero, List.set_cons_succ])
                    refine wpAnyH_take (i := 12) (v := ?_) rfl (by kernel_rfl) (by kernel_rfl) (by kernel_rfl) (fun _ _ _ h => h) (Or.inl ⟨by rfl, ?_⟩) hHeld ?_
                    rotate_left
                    · (intro w hSw; obtain ⟨g0, g1, g2, g3⟩ := hSw; go_simp; try with_reducible rfl)
                    (try simp only [Act.put, List.setIfInBounds_toArray, List.set_cons_zero, List.set_cons_succ])
                    refine wpAnyH_ready (rs := [13]) (by kernel_rfl) (by simp) (AllReadyH.cons rfl (fun K hK => ?_) AllReadyH.nil)
                    · go_simp
                      refine hK.out _ _ (by first | exact ⟨s0, s1, s2, s3⟩ | exact ⟨t0, t1, t2, t3⟩ | exact ⟨v0, v1, v2, v3⟩ | exact ⟨va0, va1, va2, va3⟩) (fun hHeld => ?_)
                      clear hK K
                      (try simp only [Act.put, List.setIfInBounds_toArray, List.set_cons_zero, List.set_cons_succ])
                      refine wpAnyH_done (by kernel_rfl) ?_ _
                      go_wp2_with fail
                      exact ⟨⟨q + 1, (.slice p7 l7 c7), by omega, by omega, by go_num, H7.out.1, H7.out.2.1, H7.out.2.2.1, H7.out.2.2.2.1, H7.out.2.2.2.2⟩, by simp [intOf]; omega⟩
              · go_simp
                refine hK.out _ _ (by first | exact ⟨s0, s1, s2, s3⟩ | exact ⟨t0, t1, t2, t3⟩ | exact ⟨v0, v1, v2, v3⟩ | exact ⟨va0, va1, va2, va3⟩) (fun hHeld => ?_)
                clear hK K
                (try simp only [Act.put, List.setIfInBounds_toArray, List.set_cons_zero, List.set_cons_succ])
                refine wpAnyH_ready (rs := [4]) (by kernel_rfl) (by simp) (AllReadyH.cons rfl (fun K hK => ?_) AllReadyH.nil)
                · go_simp
                  refine hK.out _ _ (by first | exact ⟨s0, s1, s2, s3⟩ | exact ⟨t0, t1, t2, t3⟩ | exact ⟨v0, v1, v2, v3⟩ | exact ⟨va0, va1, va2, va3⟩) (fun hHeld => ?_)
                  clear hK K
                  (try simp only [Act.put, List.setIfInBounds_toArray, List.set_cons_zero, List.set_cons_succ])
                  refine wpAnyH_ready (rs := [10]) (by kernel_rfl) (by simp) (AllReadyH.cons rfl (fun K hK => ?_) AllReadyH.nil)
                  · refine step_append_eqH (by rfl) (.tmp 80) (.tmp 85) _ (by rfl) (.slice pa pn pc) (.slice (some ⟨wx.heap.size, 0, none⟩) 1 1) (.slice p7 l7 c7) w7 (by rfl) (by rfl) R7.out ?_
                    refine hK.out _ _ (by first | exact ⟨s0, s1, s2, s3⟩ | exact ⟨t0, t1, t2, t3⟩ | exact ⟨v0, v1, v2, v3⟩ | exact ⟨va0, va1, va2, va3⟩) (fun hHeld => ?_)
                    clear hK K
                    (try simp only [Act.put, List.setIfInBounds_toArray, List.set_cons_zero, List.set_cons_succ])
                    refine wpAnyH_take (i := 11) (v := ?_) rfl (by kernel_rfl) (by kernel_rfl) (by kernel_rfl) (fun _ _ _ h => h) (Or.inl ⟨by rfl, ?_⟩) hHeld ?_
                    rotate_left
                    · (intro w hSw; obtain ⟨g0, g1, g2, g3⟩ := hSw; go_simp; try with_reducible rfl)
                    (try simp only [Act.put, List.setIfInBounds_toArray, List.set_cons_zero, List.set_cons_succ])
                    refine wpAnyH_take (i := 12) (v := ?_) rfl (by kernel_rfl) (by kernel_rfl) (by kernel_rfl) (fun _ _ _ h => h) (Or.inl ⟨by rfl, ?_⟩) hHeld ?_
                    rotate_left
                    · (intro w hSw; obtain ⟨g0, g1, g2, g3⟩ := hSw; go_simp; try with_reducible rfl)
                    (try simp only [Act.put, List.setIfInBounds_toArray, List.set_cons_zero, List.set_cons_succ])
                    refine wpAnyH_ready (rs := [13]) (by kernel_rfl) (by simp) (AllReadyH.cons rfl (fun K hK => ?_) AllReadyH.nil)
                    · go_simp
                      refine hK.out _ _ (by first | exact ⟨s0, s1, s2, s3⟩ | exact ⟨t0, t1, t2, t3⟩ | exact ⟨v0, v1, v2, v3⟩ | exact ⟨va0, va1, va2, va3⟩) (fun hHeld => ?_)
                      clear hK K
                      (try simp only [Act.put, List.setIfInBounds_toArray, List.set_cons_zero, List.set_cons_succ])
                      refine wpAnyH_done (by kernel_rfl) ?_ _
                      go_wp2_with fail
                      exact ⟨⟨q + 1, (.slice p7 l7 c7), by omega, by omega, by go_num, H7.out.1, H7.out.2.1, H7.out.2.2.1, H7.out.2.2.2.1, H7.out.2.2.2.2⟩, by simp [intOf]; omega⟩
            · have f3 : decide ((q : Int) < 15) = false := decide_eq_false (by omega)
              have f4 : decide (q < 15) = false := decide_eq_false c6
              obtain rfl : q = 15 := by omega
              have TKE : Hid (RH.take 15 = RH.take 15) := Lib.hid (rfl)
              have GXX : Hid (DG wx b (fun i => i = b ∨ rv.ownBlock = some i ∨ (Value.slice pa (⟨a, raw, gc, 33554432⟩ :: RH.take 15).length pc).ownBlock = some i) ⟨R, ⟨a, raw, gc, 33554432⟩ :: RH.take 15, gl⟩) := Lib.hid ⟨rv, _, HX.out, .inl rfl, ss_keep HR.out (fun g hg hl => TX.out.block g hl (fun e => RNB.out g hg e)) TX.out.size, by rw [← TKE.out]; exact OX.out.ss okh, fun g hg => ⟨.inr (.inl hg), RNB.out g hg⟩, fun g hg => ⟨.inr (.inr hg), fun e => by have := (OX.out.block g hg).1; have := bnb.out; omega⟩, fun i hi => by
                rcases hi with rfl | hi | hi
                · exact HX.out.1
                · exact Nat.lt_of_lt_of_le (ZL.out i (ZR.out i hi)) TX.out.size
                · exact (OX.out.block i hi).2⟩
              have ZZ : Hid (∀ i, (i = b ∨ rv.ownBlock = some i ∨ (Value.slice pa (⟨a, raw, gc, 33554432⟩ :: RH.take 15).length pc).ownBlock = some i) → Z i ∨ w.heap.size ≤ i) := Lib.hid fun i hi => by
                rcases hi with rfl | hi | hi
                · exact .inl ZB.out
                · exact .inl (ZR.out i hi)
                · exact .inr (Nat.le_trans WNB.out (OX.out.block i hi).1)
              go_wp2_with fail
              go_ret
              exact ⟨⟨by rw [FA.out]; rfl, _, by rw [SH.out, FR.out]; exact GXX.out, ZZ.out⟩, TX.out⟩
          · have f1 : decide ((q : Int) < (rl : Int)) = false := decide_eq_false (by omega)
            have f2 : decide (q < rl) = false := decide_eq_false c5
            obtain rfl : q = rl := by omega
            have TKE : Hid (RH.take q = RH.take 15) := Lib.hid (by rw [List.take_of_length_le (Nat.le_of_eq RLL.out), List.take_of_length_le (by rw [RLL.out]; omega)])
            have GXX : Hid (DG wx b (fun i => i = b ∨ rv.ownBlock = some i ∨ (Value.slice pa (⟨a, raw, gc, 33554432⟩ :: RH.take q).length pc).ownBlock = some i) ⟨R, ⟨a, raw, gc, 33554432⟩ :: RH.take 15, gl⟩) := Lib.hid ⟨rv, _, HX.out, .inl rfl, ss_keep HR.out (fun g hg hl => TX.out.block g hl (fun e => RNB.out g hg e)) TX.out.size, by rw [← TKE.out]; exact OX.out.ss okh, fun g hg => ⟨.inr (.inl hg), RNB.out g hg⟩, fun g hg => ⟨.inr (.inr hg), fun e => by have := (OX.out.block g hg).1; have := bnb.out; omega⟩, fun i hi => by
              rcases hi with rfl | hi | hi
              · exact HX.out.1
              · exact Nat.lt_of_lt_of_le (ZL.out i (ZR.out i hi)) TX.out.size
              · exact (OX.out.block i hi).2⟩
            have ZZ : Hid (∀ i, (i = b ∨ rv.ownBlock = some i ∨ (Value.slice pa (⟨a, raw, gc, 33554432⟩ :: RH.take q).length pc).ownBlock = some i) → Z i ∨ w.heap.size ≤ i) := Lib.hid fun i hi => by
              rcases hi with rfl | hi | hi
              · exact .inl ZB.out
              · exact .inl (ZR.out i hi)
              · exact .inr (Nat.le_trans WNB.out (OX.out.block i hi).1)
            go_wp2_with fail
            go_ret
            exact ⟨⟨by rw [FA.out]; rfl, _, by rw [SH.out, FR.out]; exact GXX.out, ZZ.out⟩, TX.out⟩
      · have d1 : decide (33554432 < gs) = false := decide_eq_false (by omega)
        have mn : min gs 33554432 = gs := by omega
        have d2 : max gs gs = gs := by omega
        rw [mn] at FR
        rw [d1] at FA
        have NS := Lib.hid (blk_set NR.out 3 (.int .i64 gs))
        have W1 := Lib.hid (below_set BR.out (Nat.le_refl w.heap.size) 3 (.int .i64 gs))
        have HB1 : Hid (Blk (wr.setCell ⟨w.heap.size, 3, none⟩ (.int .i64 gs)) b [rv, .slice ha' j hc, .int .i64 gl]) := Lib.hid (blk_other (HB.out.below BR.out) (Nat.ne_of_lt bl) 3 _)
        have RS1 : Hid (Gn.Ss hvs 4 (wr.setCell ⟨w.heap.size, 3, none⟩ (.int .i64 gs)) (.slice oa rl oc) RH) := Lib.hid (ss_keep RS.out (fun g hg _ => set_other (by have := (RB.out g hg).1; omega)) (by simp))
        have zz : (wr.setCell ⟨w.heap.size, 3, none⟩ (.int .i64 gs)).heap.size = wr.heap.size := by simp
        have hfs : w.heap.size ≠ b := Nat.ne_of_gt bl
        clear NR
        go_upto_region 13 with fail
        generalize wr.setCell ⟨w.heap.size, 3, none⟩ (.int .i64 gs) = w2 at *
        have O3 := Lib.hid (own1 w2 ⟨a, raw, gc, gs⟩)
        have hb3 := balloc (brefl w2) (.cells #[.int .u32 a, .int .i64 raw, .int .i64 gc, .int .i64 gs] 74)
        have HB3 := Lib.hid (HB1.out.below hb3)
        have RS3 := Lib.hid (RS1.out.below hb3)
        have B3 := Lib.hid (bstep W1.out hb3)
        have n0' := (NS.out.2 0 _ rfl).1
        have n1' := (NS.out.2 1 _ rfl).1
        have n2' := (NS.out.2 2 _ rfl).1
        have n3' := (NS.out.2 3 _ rfl).1
        have b3 := HB3.out.2 1 _ rfl
        obtain ⟨b3c, b3f⟩ := b3
        obtain ⟨nb, hnb⟩ : ∃ z, w2.heap.size = z := ⟨_, rfl⟩
        have bnb : Hid (b < nb) := Lib.hid (by rw [← hnb, zz]; have := MB.out; omega)
        have RB3 : Hid (∀ g, (Value.slice oa rl oc).ownBlock = some g → b < g ∧ g < nb) := Lib.hid fun g hg => by
          have := RB.out g hg
          exact ⟨by omega, by omega⟩
        have NBS : Hid (nb ≤ (w2.alloc (.cells #[.int .u32 a, .int .i64 raw, .int .i64 gc, .int .i64 gs] 74)).heap.size) := Lib.hid (by rw [← hnb]; exact hb3.size)
        have WNB : Hid (w.heap.size ≤ nb) := Lib.hid (by rw [← hnb]; exact W1.out.size)
        rw [hnb] at O3
        clear hb3 HB1 RS1 W1 NS BR zz RB n0 n1 n2 n3 n3f zf z1
        go_upto_region 14 with fail
        try rw [hnb]
        clear hnb n0' n1' n2' n3' b3c b3f
        generalize w2.alloc (.cells #[.int .u32 a, .int .i64 raw, .int .i64 gc, .int .i64 gs] 74) = w3 at *
        go_wp2_with fail
        go_loopw [12] (fun iv wx => ∃ (q : Nat) (hv' : Value), q ≤ rl ∧ q ≤ 15 ∧ iv = .int .i64 (q : Nat) ∧ Blk wx b [rv, hv', .int .i64 gl] ∧ Gn.Own 74 hvs 4 wx nb hv' (⟨a, raw, gc, gs⟩ :: RH.take q) ∧ Gn.Ss hvs 4 wx (.slice oa rl oc) RH ∧ Tu (Td b) w wx ∧ nb ≤ wx.heap.size) (fun iv _ => rl - (intOf iv).toNat)
        case atStart =>
          exact ⟨0, _, by omega, by omega, rfl, blk_set HB3.out 1 _, O3.out.keep (fun g _ hg _ => set_other (by have := bnb.out; omega)), ss_keep RS3.out (fun g hg _ => set_other (by have := RB3.out g hg; omega)) (by simp), (tu_below B3.out).set 1 _, by have := NBS.out; simpa using this⟩
        case round =>
          obtain ⟨q, hv', hq, hq5, rfl, hbx, hox, hsx, htx, hnx⟩ := hrel
          rename World => wx
          have HX := Lib.hid hbx
          have OX := Lib.hid hox
          have SX := Lib.hid hsx
          have TX := Lib.hid htx
          clear hbx hox hsx htx HB3 O3 RS3 B3 NBS
          obtain ⟨pa, pc, epv⟩ := OX.out.form
          subst epv
          by_cases c5 : q < rl
          · have f1 : decide ((q : Int) < (rl : Int)) = true := decide_eq_true (by omega)
            have f2 : decide (q < rl) = true := decide_eq_true c5
            by_cases c6 : q < 15
            · have f3 : decide ((q : Int) < 15) = true := decide_eq_true (by omega)
              have f4 : decide (q < 15) = true := decide_eq_true c6
              have q1 : (q : Int) < (rl : Int) := by omega
              have q0 : (0 : Int) ≤ (q : Int) := by omega
              have wq : IntKind.i64.wrap ((q : Int) + 1) = (q : Int) + 1 := wrap_in (by omega) (by omega)
              obtain ⟨x, hx⟩ : ∃ x, RH[q]? = some x := ⟨_, List.getElem?_eq_getElem (by rw [RLL.out]; exact c5)⟩
              have TKN : Hid (RH.take (q + 1) = RH.take q ++ [x]) := Lib.hid (take_snoc hx)
              obtain ⟨rlc, hrlc1, hrlc2⟩ : ∃ z : Nat, rl ≤ z ∧ z ≤ oc := by
                obtain ⟨_, cap', e, p1, _, _⟩ := SX.out
                simp only [Value.slice.injEq] at e
                exact ⟨rl, Nat.le_refl _, by omega⟩
              have oc1 : (rl : Int) ≤ (oc : Int) := by omega
              have oc2 : (oc : Int) ≤ 9223372036854775807 := by
                obtain ⟨_, cap', e, _, p2, _⟩ := SX.out
                simp only [Value.slice.injEq] at e
                omega
              obtain ⟨ob, oo, eoa, _, hR⟩ := SX.out.at hx
              subst eoa
              have rbo := RB3.out ob rfl
              have CC : Hid (∀ W, Below nb wx W → W.cell? ⟨ob, oo + q * 4, none⟩ = some (.int .u32 x.addr) ∧ W.cell? ⟨ob, oo + q * 4 + 1, none⟩ = some (.int .i64 x.last) ∧ W.cell? ⟨ob, oo + q * 4 + 2, none⟩ = some (.int .i64 x.count) ∧ W.cell? ⟨ob, oo + q * 4 + 3, none⟩ = some (.int .i64 x.score) ∧ W.cell? ⟨b, 1, none⟩ = some (.slice pa (⟨a, raw, gc, gs⟩ :: RH.take q).length pc) ∧ W.frozen? ⟨b, 1, none⟩ = false) := Lib.hid fun W k => by
                have hb := (HX.out.belowB bnb.out k).2 1 _ rfl
                exact ⟨(k.cell (p := ⟨ob, _, none⟩) rbo.2).trans (hR 0 _ rfl), (k.cell (p := ⟨ob, _, none⟩) rbo.2).trans (hR 1 _ rfl), (k.cell (p := ⟨ob, _, none⟩) rbo.2).trans (hR 2 _ rfl), (k.cell (p := ⟨ob, _, none⟩) rbo.2).trans (hR 3 _ rfl), hb.1, hb.2⟩
              clear hx hR
              obtain ⟨xa, xl, xc, xs⟩ := x
              simp only at CC
              obtain ⟨v', w7, r7, o7, b7, _, _⟩ := appH (w := wx.drew) (OX.out.below (brefl wx).drew) ⟨xa, xl, xc, xs⟩ hnx (by rw [List.length_cons, List.length_take]; omega) 51
              obtain ⟨p7, c7, ev7⟩ := o7.form
              obtain ⟨l7, hl7⟩ : ∃ n, ((((⟨a, raw, gc, gs⟩ : Ho) :: RH.take q) ++ [(⟨xa, xl, xc, xs⟩ : Ho)]).length) = n := ⟨_, rfl⟩
              rw [hl7] at ev7
              subst ev7
              clear hl7
              have R7 := Lib.hid r7
              have k0 : Below nb wx wx.drew := (Below.refl nb wx).drew
              have k1 : Below nb wx (wx.drew.alloc (.cells #[.int .u32 xa, .int .i64 xl, .int .i64 xc, .int .i64 xs] 74)) := k0.alloc hnx _
              have k7 : Below nb wx w7 := k0.trans b7
              have H7 : Hid (Blk (w7.setCell ⟨b, 1, none⟩ (.slice p7 l7 c7)) b [rv, (.slice p7 l7 c7), .int .i64 gl] ∧ Gn.Own 74 hvs 4 (w7.setCell ⟨b, 1, none⟩ (.slice p7 l7 c7)) nb (.slice p7 l7 c7) (⟨a, raw, gc, gs⟩ :: RH.take (q + 1)) ∧ Gn.Ss hvs 4 (w7.setCell ⟨b, 1, none⟩ (.slice p7 l7 c7)) (.slice (some ⟨ob, oo, none⟩) rl oc) RH ∧ Tu (Td b) w (w7.setCell ⟨b, 1, none⟩ (.slice p7 l7 c7)) ∧ nb ≤ (w7.setCell ⟨b, 1, none⟩ (.slice p7 l7 c7)).heap.size) := Lib.hid ⟨blk_set (HX.out.belowB bnb.out k7) 1 _, by rw [TKN.out]; exact o7.keep (fun g _ hg _ => set_other (by have := bnb.out; omega)), ss_keep SX.out (fun g hg _ => (set_other (by have := RB3.out g hg; omega)).trans (k7.block g (RB3.out g hg).2)) (by simpa using k7.size), (tu_ext TX.out k7 WNB.out).set 1 _, by have := k7.size; simp; omega⟩
              obtain ⟨s0, s1, s2, s3, s4, _⟩ := CC.out _ k0
              obtain ⟨t0, t1, t2, t3, t4, _⟩ := CC.out _ k1
              obtain ⟨v0, v1, v2, v3, u4, u5⟩ := CC.out _ k7
              obtain ⟨pn, hpn⟩ : ∃ n, ((⟨a, raw, gc, gs⟩ : Ho) :: RH.take q).length = n := ⟨_, rfl⟩
              have bx1 : b < wx.heap.size := HX.out.1
              have bx2 : ¬ b = wx.heap.size := Nat.ne_of_lt bx1
              have bx3 : ¬ wx.heap.size = b := Nat.ne_of_gt bx1
              obtain ⟨_, _, _, _, r4, _⟩ := CC.out _ (Below.refl nb wx)
              clear r7 o7 b7 k0 k1 k7 CC HX OX SX TX
              rw [hpn] at R7 s4 t4 u4 r4
              clear hpn
              go_upto_region 17 with fail
              have vv : (w7.setCell ⟨b, 1, none⟩ (.slice p7 l7 c7)).cell? ⟨ob, oo + q * 4, none⟩ = some (.int .u32 xa) ∧ (w7.setCell ⟨b, 1, none⟩ (.slice p7 l7 c7)).cell? ⟨ob, oo + q * 4 + 1, none⟩ = some (.int .i64 xl) ∧ (w7.setCell ⟨b, 1, none⟩ (.slice p7 l7 c7)).cell? ⟨ob, oo + q * 4 + 2, none⟩ = some (.int .i64 xc) ∧ (w7.setCell ⟨b, 1, none⟩ (.slice p7 l7 c7)).cell? ⟨ob, oo + q * 4 + 3, none⟩ = some (.int .i64 xs) := by
                have e : (w7.setCell ⟨b, 1, none⟩ (.slice p7 l7 c7)).heap[ob]? = w7.heap[ob]? := set_other (by omega)
                exact ⟨(World.cell?_of_block (a := ⟨ob, _, none⟩) e).trans v0, (World.cell?_of_block (a := ⟨ob, _, none⟩) e).trans v1, (World.cell?_of_block (a := ⟨ob, _, none⟩) e).trans v2, (World.cell?_of_block (a := ⟨ob, _, none⟩) e).trans v3⟩
              obtain ⟨va0, va1, va2, va3⟩ := vv
              refine wp_region_held_drew (S := fun W => W.cell? ⟨ob, oo + q * 4, none⟩ = some (.int .u32 xa) ∧ W.cell? ⟨ob, oo + q * 4 + 1, none⟩ = some (.int .i64 xl) ∧ W.cell? ⟨ob, oo + q * 4 + 2, none⟩ = some (.int .i64 xc) ∧ W.cell? ⟨ob, oo + q * 4 + 3, none⟩ = some (.int .i64 xs)) (by kernel_rfl) ⟨s0, s1, s2, s3⟩ (fun hHeld => ?_)
              refine wpAnyH_take (i := 0) (v := ?_) rfl (by kernel_rfl) (by kernel_rfl) (by kernel_rfl) (fun _ _ _ h => h) (Or.inl ⟨by rfl, ?_⟩) hHeld ?_
              rotate_left
              · (intro w hSw; obtain ⟨g0, g1, g2, g3⟩ := hSw; go_simp; try with_reducible rfl)
              (try simp only [Act.put, List.setIfInBounds_toArray, List.set_cons_zero, List.set_cons_succ])
              refine wpAnyH_take (i := 1) (v := ?_) rfl (by kernel_rfl) (by kernel_rfl) (by kernel_rfl) (fun _ _ _ h => h) (Or.inl ⟨by rfl, ?_⟩) hHeld ?_
              rotate_left
              · (intro w hSw; obtain ⟨g0, g1, g2, g3⟩ := hSw; go_simp; try with_reducible rfl)
              (try simp only [Act.put, List.setIfInBounds_toArray, List.set_cons_zero, List.set_cons_succ])
              refine wpAnyH_take (i := 2) (v := ?_) rfl (by kernel_rfl) (by kernel_rfl) (by kernel_rfl) (fun _ _ _ h => h) (Or.inl ⟨by rfl, ?_⟩) hHeld ?_
              rotate_left
              · (intro w hSw; obtain ⟨g0, g1, g2, g3⟩ := hSw; go_simp; try with_reducible rfl)
              (try simp only [Act.put, List.setIfInBounds_toArray, List.set_cons_zero, List.set_cons_succ])
              refine wpAnyH_take (i := 3) (v := ?_) rfl (by kernel_rfl) (by kernel_rfl) (by kernel_rfl) (fun _ _ _ h => h) (Or.inl ⟨by rfl, ?_⟩) hHeld ?_
              rotate_left
              · (intro w hSw; obtain ⟨g0, g1, g2, g3⟩ := hSw; go_simp; try with_reducible rfl)
              (try simp only [Act.put, List.setIfInBounds_toArray, List.set_cons_zero, List.set_cons_succ])
              refine wpAnyH_take (i := 5) (v := ?_) rfl (by kernel_rfl) (by kernel_rfl) (by kernel_rfl) (fun _ _ _ h => h) (Or.inl ⟨by rfl, ?_⟩) hHeld ?_
              rotate_left
              · (intro w hSw; obtain ⟨g0, g1, g2, g3⟩ := hSw; go_simp; try with_reducible rfl)
              (try simp only [Act.put, List.setIfInBounds_toArray, List.set_cons_zero, List.set_cons_succ])
              refine wpAnyH_take (i := 6) (v := ?_) rfl (by kernel_rfl) (by kernel_rfl) (by kernel_rfl) (fun _ _ _ h => h) (Or.inl ⟨by rfl, ?_⟩) hHeld ?_
              rotate_left
              · (intro w hSw; obtain ⟨g0, g1, g2, g3⟩ := hSw; go_simp; try with_reducible rfl)
              (try simp only [Act.put, List.setIfInBounds_toArray, List.set_cons_zero, List.set_cons_succ])
              refine wpAnyH_take (i := 7) (v := ?_) rfl (by kernel_rfl) (by kernel_rfl) (by kernel_rfl) (fun _ _ _ h => h) (Or.inl ⟨by rfl, ?_⟩) hHeld ?_
              rotate_left
              · (intro w hSw; obtain ⟨g0, g1, g2, g3⟩ := hSw; go_simp; try with_reducible rfl)
              (try simp only [Act.put, List.setIfInBounds_toArray, List.set_cons_zero, List.set_cons_succ])
              refine wpAnyH_take (i := 8) (v := ?_) rfl (by kernel_rfl) (by kernel_rfl) (by kernel_rfl) (fun _ _ _ h => h) (Or.inl ⟨by rfl, ?_⟩) hHeld ?_
              rotate_left
              · (intro w hSw; obtain ⟨g0, g1, g2, g3⟩ := hSw; go_simp; try with_reducible rfl)
              (try simp only [Act.put, List.setIfInBounds_toArray, List.set_cons_zero, List.set_cons_succ])
              refine wpAnyH_ready (rs := [4, 9]) (by kernel_rfl) (by simp) (AllReadyH.cons rfl (fun K hK => ?_) (AllReadyH.cons rfl (fun K hK => ?_) AllReadyH.nil))
              · go_simp
                refine hK.out _ _ (by first | exact ⟨s0, s1, s2, s3⟩ | exact ⟨t0, t1, t2, t3⟩ | exact ⟨v0, v1, v2, v3⟩ | exact ⟨va0, va1, va2, va3⟩) (fun hHeld => ?_)
                clear hK K
                (try simp only [Act.put, List.setIfInBounds_toArray, List.set_cons_zero, List.set_cons_succ])
                refine wpAnyH_ready (rs := [9]) (by kernel_rfl) (by simp) (AllReadyH.cons rfl (fun K hK => ?_) AllReadyH.nil)
                · go_simp
                  refine hK.out _ _ (by first | exact ⟨s0, s1, s2, s3⟩ | exact ⟨t0, t1, t2, t3⟩ | exact ⟨v0, v1, v2, v3⟩ | exact ⟨va0, va1, va2, va3⟩) (fun hHeld => ?_)
                  clear hK K
                  (try simp only [Act.put, List.setIfInBounds_toArray, List.set_cons_zero, List.set_cons_succ])
                  refine wpAnyH_ready (rs := [10]) (by kernel_rfl) (by simp) (AllReadyH.cons rfl (fun K hK => ?_) AllReadyH.nil)
                  · refine step_append_eqH (by rfl) (.tmp 80) (.tmp 85) _ (by rfl) (.slice pa pn pc) (.slice (some ⟨wx.heap.size, 0, none⟩) 1 1) (.slice p7 l7 c7) w7 (by rfl) (by rfl) R7.out ?_
                    refine hK.out _ _ (by first | exact ⟨s0, s1, s2, s3⟩ | exact ⟨t0, t1, t2, t3⟩ | exact ⟨v0, v1, v2, v3⟩ | exact ⟨va0, va1, va2, va3⟩) (fun hHeld => ?_)
                    clear hK K
                    (try simp only [Act.put, List.setIfInBounds_toArray, List.set_cons_zero, List.set_cons_succ])
                    refine wpAnyH_take (i := 11) (v := ?_) rfl (by kernel_rfl) (by kernel_rfl) (by kernel_rfl) (fun _ _ _ h => h) (Or.inl ⟨by rfl, ?_⟩) hHeld ?_
                    rotate_left
                    · (intro w hSw; obtain ⟨g0, g1, g2, g3⟩ := hSw; go_simp; try with_reducible rfl)
                    (try simp only [Act.put, List.setIfInBounds_toArray, List.set_cons_zero, List.set_cons_succ])
                    refine wpAnyH_take (i := 12) (v := ?_) rfl (by kernel_rfl) (by kernel_rfl) (by kernel_rfl) (fun _ _ _ h => h) (Or.inl ⟨by rfl, ?_⟩) hHeld ?_
                    rotate_left
                    · (intro w hSw; obtain ⟨g0, g1, g2, g3⟩ := hSw; go_simp; try with_reducible rfl)
                    (try simp only [Act.put, List.setIfInBounds_toArray, List.set_cons_zero, List.set_cons_succ])
                    refine wpAnyH_ready (rs := [13]) (by kernel_rfl) (by simp) (AllReadyH.cons rfl (fun K hK => ?_) AllReadyH.nil)
                    · go_simp
                      refine hK.out _ _ (by first | exact ⟨s0, s1, s2, s3⟩ | exact ⟨t0, t1, t2, t3⟩ | exact ⟨v0, v1, v2, v3⟩ | exact ⟨va0, va1, va2, va3⟩) (fun hHeld => ?_)
                      clear hK K
                      (try simp only [Act.put, List.setIfInBounds_toArray, List.set_cons_zero, List.set_cons_succ])
                      refine wpAnyH_done (by kernel_rfl) ?_ _
                      go_wp2_with fail
                      exact ⟨⟨q + 1, (.slice p7 l7 c7), by omega, by omega, by go_num, H7.out.1, H7.out.2.1, H7.out.2.2.1, H7.out.2.2.2.1, H7.out.2.2.2.2⟩, by simp [intOf]; omega⟩
              · go_simp
                refine hK.out _ _ (by first | exact ⟨s0, s1, s2, s3⟩ | exact ⟨t0, t1, t2, t3⟩ | exact ⟨v0, v1, v2, v3⟩ | exact ⟨va0, va1, va2, va3⟩) (fun hHeld => ?_)
                clear hK K
                (try simp only [Act.put, List.setIfInBounds_toArray, List.set_cons_zero, List.set_cons_succ])
                refine wpAnyH_ready (rs := [4]) (by kernel_rfl) (by simp) (AllReadyH.cons rfl (fun K hK => ?_) AllReadyH.nil)
                · go_simp
                  refine hK.out _ _ (by first | exact ⟨s0, s1, s2, s3⟩ | exact ⟨t0, t1, t2, t3⟩ | exact ⟨v0, v1, v2, v3⟩ | exact ⟨va0, va1, va2, va3⟩) (fun hHeld => ?_)
                  clear hK K
                  (try simp only [Act.put, List.setIfInBounds_toArray, List.set_cons_zero, List.set_cons_succ])
                  refine wpAnyH_ready (rs := [10]) (by kernel_rfl) (by simp) (AllReadyH.cons rfl (fun K hK => ?_) AllReadyH.nil)
                  · refine step_append_eqH (by rfl) (.tmp 80) (.tmp 85) _ (by rfl) (.slice pa pn pc) (.slice (some ⟨wx.heap.size, 0, none⟩) 1 1) (.slice p7 l7 c7) w7 (by rfl) (by rfl) R7.out ?_
                    refine hK.out _ _ (by first | exact ⟨s0, s1, s2, s3⟩ | exact ⟨t0, t1, t2, t3⟩ | exact ⟨v0, v1, v2, v3⟩ | exact ⟨va0, va1, va2, va3⟩) (fun hHeld => ?_)
                    clear hK K
                    (try simp only [Act.put, List.setIfInBounds_toArray, List.set_cons_zero, List.set_cons_succ])
                    refine wpAnyH_take (i := 11) (v := ?_) rfl (by kernel_rfl) (by kernel_rfl) (by kernel_rfl) (fun _ _ _ h => h) (Or.inl ⟨by rfl, ?_⟩) hHeld ?_
                    rotate_left
                    · (intro w hSw; obtain ⟨g0, g1, g2, g3⟩ := hSw; go_simp; try with_reducible rfl)
                    (try simp only [Act.put, List.setIfInBounds_toArray, List.set_cons_zero, List.set_cons_succ])
                    refine wpAnyH_take (i := 12) (v := ?_) rfl (by kernel_rfl) (by kernel_rfl) (by kernel_rfl) (fun _ _ _ h => h) (Or.inl ⟨by rfl, ?_⟩) hHeld ?_
                    rotate_left
                    · (intro w hSw; obtain ⟨g0, g1, g2, g3⟩ := hSw; go_simp; try with_reducible rfl)
                    (try simp only [Act.put, List.setIfInBounds_toArray, List.set_cons_zero, List.set_cons_succ])
                    refine wpAnyH_ready (rs := [13]) (by kernel_rfl) (by simp) (AllReadyH.cons rfl (fun K hK => ?_) AllReadyH.nil)
                    · go_simp
                      refine hK.out _ _ (by first | exact ⟨s0, s1, s2, s3⟩ | exact ⟨t0, t1, t2, t3⟩ | exact ⟨v0, v1, v2, v3⟩ | exact ⟨va0, va1, va2, va3⟩) (fun hHeld => ?_)
                      clear hK K
                      (try simp only [Act.put, List.setIfInBounds_toArray, List.set_cons_zero, List.set_cons_succ])
                      refine wpAnyH_done (by kernel_rfl) ?_ _
                      go_wp2_with fail
                      exact ⟨⟨q + 1, (.slice p7 l7 c7), by omega, by omega, by go_num, H7.out.1, H7.out.2.1, H7.out.2.2.1, H7.out.2.2.2.1, H7.out.2.2.2.2⟩, by simp [intOf]; omega⟩
            · have f3 : decide ((q : Int) < 15) = false := decide_eq_false (by omega)
              have f4 : decide (q < 15) = false := decide_eq_false c6
              obtain rfl : q = 15 := by omega
              have TKE : Hid (RH.take 15 = RH.take 15) := Lib.hid (rfl)
              have GXX : Hid (DG wx b (fun i => i = b ∨ rv.ownBlock = some i ∨ (Value.slice pa (⟨a, raw, gc, gs⟩ :: RH.take 15).length pc).ownBlock = some i) ⟨R, ⟨a, raw, gc, gs⟩ :: RH.take 15, gl⟩) := Lib.hid ⟨rv, _, HX.out, .inl rfl, ss_keep HR.out (fun g hg hl => TX.out.block g hl (fun e => RNB.out g hg e)) TX.out.size, by rw [← TKE.out]; exact OX.out.ss okh, fun g hg => ⟨.inr (.inl hg), RNB.out g hg⟩, fun g hg => ⟨.inr (.inr hg), fun e => by have := (OX.out.block g hg).1; have := bnb.out; omega⟩, fun i hi => by
                rcases hi with rfl | hi | hi
                · exact HX.out.1
                · exact Nat.lt_of_lt_of_le (ZL.out i (ZR.out i hi)) TX.out.size
                · exact (OX.out.block i hi).2⟩
              have ZZ : Hid (∀ i, (i = b ∨ rv.ownBlock = some i ∨ (Value.slice pa (⟨a, raw, gc, gs⟩ :: RH.take 15).length pc).ownBlock = some i) → Z i ∨ w.heap.size ≤ i) := Lib.hid fun i hi => by
                rcases hi with rfl | hi | hi
                · exact .inl ZB.out
                · exact .inl (ZR.out i hi)
                · exact .inr (Nat.le_trans WNB.out (OX.out.block i hi).1)
              go_wp2_with fail
              go_ret
              exact ⟨⟨by rw [FA.out]; rfl, _, by rw [SH.out, FR.out]; exact GXX.out, ZZ.out⟩, TX.out⟩
          · have f1 : decide ((q : Int) < (rl : Int)) = false := decide_eq_false (by omega)
            have f2 : decide (q < rl) = false := decide_eq_false c5
            obtain rfl : q = rl := by omega
            have TKE : Hid (RH.take q = RH.take 15) := Lib.hid (by rw [List.take_of_length_le (Nat.le_of_eq RLL.out), List.take_of_length_le (by rw [RLL.out]; omega)])
            have GXX : Hid (DG wx b (fun i => i = b ∨ rv.ownBlock = some i ∨ (Value.slice pa (⟨a, raw, gc, gs⟩ :: RH.take q).length pc).ownBlock = some i) ⟨R, ⟨a, raw, gc, gs⟩ :: RH.take 15, gl⟩) := Lib.hid ⟨rv, _, HX.out, .inl rfl, ss_keep HR.out (fun g hg hl => TX.out.block g hl (fun e => RNB.out g hg e)) TX.out.size, by rw [← TKE.out]; exact OX.out.ss okh, fun g hg => ⟨.inr (.inl hg), RNB.out g hg⟩, fun g hg => ⟨.inr (.inr hg), fun e => by have := (OX.out.block g hg).1; have := bnb.out; omega⟩, fun i hi => by
              rcases hi with rfl | hi | hi
              · exact HX.out.1
              · exact Nat.lt_of_lt_of_le (ZL.out i (ZR.out i hi)) TX.out.size
              · exact (OX.out.block i hi).2⟩
            have ZZ : Hid (∀ i, (i = b ∨ rv.ownBlock = some i ∨ (Value.slice pa (⟨a, raw, gc, gs⟩ :: RH.take q).length pc).ownBlock = some i) → Z i ∨ w.heap.size ≤ i) := Lib.hid fun i hi => by
              rcases hi with rfl | hi | hi
              · exact .inl ZB.out
              · exact .inl (ZR.out i hi)
              · exact .inr (Nat.le_trans WNB.out (OX.out.block i hi).1)
            go_wp2_with fail
            go_ret
            exact ⟨⟨by rw [FA.out]; rfl, _, by rw [SH.out, FR.out]; exact GXX.out, ZZ.out⟩, TX.out⟩
end Go.Proofs.Ytdngoopogajhiaa.Gu
