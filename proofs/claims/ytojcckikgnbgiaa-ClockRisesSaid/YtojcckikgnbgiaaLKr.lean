/-
  ClockRises: Between two steps what a clock reads never falls, and keeps near the raw count. The law returns true for every input, and the input reads as it did.
  Conditions: none.
-/
import Derived.Test.YtojcckikgnbgiaaRows
import Derived.Test.YtojcckikgnbgiaaCkD
import Derived.Test.YtojcckikgnbgiaaCkE
import Derived.Test.YtojcckikgnbgiaaCkZ
import Derived.SizedLaws
import Derived.Lib.SmallJoins
namespace Go.Proofs.Ytojcckikgnbgiaa.clockRises
open Go.ChangeShapes Go.WideShapes Go.ChangeAt Go.RowKit Go.Joins Fl Ck
set_option linter.unusedVariables false
set_option linter.unusedSimpArgs false

theorem own : ownKnob Try.prog.godebug = none := by kernel_rfl
theorem laidOut : laidOutB Try.prog = true := by kernel_rfl

theorem rem_in (x M : Int) (h : 0 < M) (hM : M ≤ 1152921504606846976) : ∃ q r, x.tmod M = q ∧ IntKind.i64.wrap q = q ∧ IntKind.i64.wrap (q + M) = q + M ∧ (q + M).tmod M = r ∧ IntKind.i64.wrap r = r ∧ 0 ≤ r ∧ r < M ∧ -M < q ∧ q < M := by
  have a1 := Int.tmod_lt_of_pos x h
  have a2 := Int.lt_tmod_of_pos x h
  have b1 := Int.tmod_nonneg M (show 0 ≤ x.tmod M + M by omega)
  have b2 := Int.tmod_lt_of_pos (x.tmod M + M) h
  exact ⟨_, _, rfl, wrap_in (by omega) (by omega), wrap_in (by omega) (by omega), rfl, wrap_in (by omega) (by omega), b1, b2, by omega, by omega⟩
theorem re_ok {c : Clk} {r : Int} (h : rdO c r) : rdE c r = .returned (.tuple #[.int .i64 (rdV c r), .int .i64 0]) := by unfold rdE rdA; rw [if_pos h]
theorem re_no {c : Clk} {r : Int} (h : ¬ rdO c r) : rdE c r = .returned (.tuple #[.int .i64 0, .int .i64 2]) := by unfold rdE rdA; rw [if_neg h]
/-- what an update leaves to be read. -/
theorem upd_read {c : Clk} {r o : Int} (h : rdO c r) (ho : -68719476736 ≤ o ∧ o ≤ 68719476736) : (upd c r o).2.2 = 0 ∧ rdO (upd c r o).1 r ∧ ((upd c r o).2.1 ≠ 1 → rdV (upd c r o).1 r = rdV c r) ∧ ((upd c r o).2.1 = 0 ∨ (upd c r o).2.1 = 1 ∨ (upd c r o).2.1 = 2) := by
  have q := h
  unfold rdO at q
  have self : ∀ b p l s f t : Int, rdO ⟨b, r, p, l, s, f, t⟩ r := fun b p l s f t => ⟨Int.le_refl _, by simp⟩
  unfold upd
  rw [if_neg (fun z => z h), if_neg (by omega)]
  by_cases c1 : c.state = 0
  · rw [if_pos c1]
    exact ⟨rfl, self .., fun z => absurd rfl z, .inr (.inl rfl)⟩
  · rw [if_neg c1]
    by_cases c2 : -134217 ≤ o ∧ o ≤ 134217
    · rw [if_pos c2]
      refine ⟨rfl, self .., fun _ => ?_, .inl rfl⟩
      show rdV c r + (r - r) + xx _ _ (r - r) = rdV c r
      rw [Int.sub_self, xx_zero, Int.add_zero, Int.add_zero]
    · rw [if_neg c2]
      by_cases c3 : c.state = 1
      · rw [if_pos c3]
        exact ⟨rfl, h, fun _ => rfl, .inr (.inr rfl)⟩
      · rw [if_neg c3]
        by_cases c4 : r - c.since < 314572800
        · rw [if_pos c4]
          exact ⟨rfl, h, fun _ => rfl, .inr (.inr rfl)⟩
        · rw [if_neg c4]
          exact ⟨rfl, self .., fun z => absurd rfl z, .inr (.inl rfl)⟩
theorem rd_rise {k : Nat} {c : Clk} (h : In k c) {r r' : Int} (q : c.at' ≤ r) (q' : r ≤ r') : rdV c r ≤ rdV c r' := by
  have := xx_rise (p := c.phase) h.1 (show 0 ≤ r - c.at' by omega) (show r - c.at' ≤ r' - c.at' by omega)
  unfold rdV
  omega
theorem rd_one {k : Nat} {c : Clk} (h : In k c) {r : Int} (q : c.at' ≤ r) : rdV c (r + 1) ≤ rdV c r + 2 := by
  have := xx_one (p := c.phase) h.1 (show 0 ≤ r - c.at' by omega)
  unfold rdV
  rw [show r + 1 - c.at' = r - c.at' + 1 by omega]
  omega
theorem rd_near {k : Nat} {c : Clk} (h : In k c) {r a : Int} (q : c.at' ≤ r) (ha : 0 ≤ a) : -(a / 1000 + 2) ≤ rdV c (r + a) - rdV c r - a ∧ rdV c (r + a) - rdV c r - a ≤ a / 1000 + 2 := by
  have := xx_near (p := c.phase) h.1 (show 0 ≤ r - c.at' by omega) ha
  unfold rdV
  rw [show r + a - c.at' = r - c.at' + a by omega]
  omega
set_option maxRecDepth 100000 in
set_option maxHeartbeats 16000000 in
theorem walk {K : World → Addr → (Nat → Prop) → Clk → Prop} (pc : PC K) (ff : Int) (v : Value) (L : List Ac) (aa bb : Int) (w : World) (g0 : Lit.wf (.int .i64 ff) = true) (g1 : As w v L ∧ (∀ s ∈ L, i64A s) ∧ L.length * 24 ≤ 140737488351232) (g2 : Lit.wf (.int .i64 aa) = true) (g3 : Lit.wf (.int .i64 bb) = true) :
    Calls Try.prog 4 #[.int .i64 ff, v, .int .i64 aa, .int .i64 bb] w fun e w' => e = .returned (.bool true) ∧ Below w.heap.size w w' := by
  have AW := Lib.hid (awake17_c pc)
  obtain ⟨f, _, hf1, hf2, _, _, _, _, _, f1, f2⟩ := rem_in ff 500001 (by decide) (by decide)
  obtain ⟨qa, ra, ha1, ha2, ha3, ha4, ha5, a1, a2, _, _⟩ := rem_in aa 1099511627776 (by decide) (by decide)
  obtain ⟨qb, rb, hb1, hb2, hb3, hb4, hb5, b1, b2, _, _⟩ := rem_in bb 1099511627776 (by decide) (by decide)
  have ne : newE 0 1099511627776 f = 0 := by unfold newE; rw [if_pos ⟨by decide, by decide, by omega, by omega⟩]
  have PN := Lib.hid (fun w => pc.new w 0 1099511627776 f ne)
  have I0 := Lib.hid (new_in ne)
  obtain ⟨hA, hV, hN⟩ := g1
  have HS := Lib.hid hA
  obtain ⟨a, cap, rfl, c1, c2, _⟩ := hA
  obtain ⟨m, hm⟩ : ∃ m, L.length = m := ⟨_, rfl⟩
  have HM := Lib.hid hm
  rw [hm] at HS c1 hN ⊢
  have m0 : (0 : Int) ≤ (m : Int) := by omega
  have m1 : (m : Int) ≤ 5864062014806 := by omega
  have m2 : (m : Int) ≤ (cap : Int) := by omega
  have m3 : (cap : Int) ≤ 9223372036854775807 := by omega
  have PR := Lib.hid pc.read
  have PU := Lib.hid pc.upd
  have PK := Lib.hid (fun (w w' : World) (a : Addr) (X : Nat → Prop) (c : Clk) (h : K w a X c) (q : Below w.heap.size w w') => pc.keep w w' a X (fun _ => False) c h (tu_below q) (fun _ _ z => z))
  clear pc hV hm ne g0 g2 g3
  go_enter Try.func4, Try.ntmps4
  go_wp2_with fail
  refine (AW.out _).mono ?_
  rintro e w1 ⟨rfl, hb⟩
  have B1 := Lib.hid hb
  clear hb AW
  go_wp2_with fail
  refine (PN.out _).mono ?_
  rintro e w2 ⟨⟨pa, X0, rfl, hk, hx⟩, hb⟩
  have B2 := Lib.hid (bstep B1.out hb)
  have K2 := Lib.hid hk
  have X2 : Hid (∀ i, X0 i → w.heap.size ≤ i) := Lib.hid fun i hi => Nat.le_trans B1.out.size (hx i hi)
  clear hb hk hx PN B1
  go_wp2_with fail
  go_loopw [11, 12, 13, 14] (fun rv lv av iv wr => ∃ (k : Nat) (r l t : Int) (X : Nat → Prop) (c : Clk), k ≤ m ∧ k ≤ 60 ∧ iv = .int .i64 (k : Nat) ∧ rv = .int .i64 r ∧ lv = .int .i64 l ∧ av = .int .i64 t ∧ (c.at' ≤ r ∧ r ≤ 17179869184 * (k : Int)) ∧ (t = 0 ∨ (t = 1 ∧ l = rdV c r)) ∧ K wr pa X c ∧ In k c ∧ (∀ i, X i → w.heap.size ≤ i) ∧ Below w.heap.size w wr) (fun _ _ _ iv _ => m - (intOf iv).toNat)
  case atStart => exact ⟨0, 0, 0, 0, X0, _, by omega, by omega, rfl, rfl, rfl, rfl, ⟨by show (0 : Int) ≤ 0; omega, by omega⟩, .inl rfl, K2.out, I0.out, X2.out, B2.out⟩
  case round =>
    obtain ⟨k, r, l, t, X, c, hk, hk5, rfl, rfl, rfl, rfl, hr, ht, hK, hI, hX, hb⟩ := hrel
    rename World => wr
    have KR := Lib.hid hK
    have IR := Lib.hid hI
    have XR := Lib.hid hX
    have HB := Lib.hid hb
    have HT := Lib.hid ht
    have at0 : 0 ≤ c.at' := hI.2.2.1.1
    clear hK hI hX hb ht K2 X2 B2 I0
    have e5 : ∀ x : Int, 0 ≤ x → x.tdiv 1000 = x / 1000 := fun x hx => Int.tdiv_eq_ediv_of_nonneg hx
    by_cases c0 : k < m
    · have e1 : decide ((k : Int) < (m : Int)) = true := decide_eq_true (by omega)
      have e2 : decide (k < m) = true := decide_eq_true c0
      by_cases c5 : k < 60
      · have e3 : decide ((k : Int) < 60) = true := decide_eq_true (by omega)
        have e4 : decide (k < 60) = true := decide_eq_true c5
        clear e5
        have k1 : (k : Int) < (m : Int) := by omega
        have k0 : (0 : Int) ≤ (k : Int) := by omega
        have wk : IntKind.i64.wrap ((k : Int) + 1) = (k : Int) + 1 := wrap_in (by omega) (by omega)
        obtain ⟨x, hx⟩ : ∃ x, L[k]? = some x := ⟨_, List.getElem?_eq_getElem (by rw [HM.out]; exact c0)⟩
        have HX := Lib.hid hx
        obtain ⟨b, off, rfl, y0, y1, y2⟩ := (HS.out.below HB.out).at hx
        have YC : Hid (∀ W, Below w.heap.size w W → W.cell? ⟨b, off + k * 3 + 2, none⟩ = some (.int .i64 x.off)) := Lib.hid fun W q => by
          obtain ⟨_, _, ea, _, _, y2⟩ := (HS.out.below q).at HX.out
          cases ea
          exact y2
        clear hx
        obtain ⟨xr, xm, xo⟩ := x
        simp only at y0 y1 y2 YC
        obtain ⟨qm, rm, hm1, hm2, hm3, hm4, hm5, mm1, mm2, _, _⟩ := rem_in xm 17179869184 (by decide) (by decide)
        obtain ⟨o, _, ho1, ho2, _, _, _, _, _, o1, o2⟩ := rem_in xo 68719476736 (by decide) (by decide)
        obtain ⟨rq, hrq⟩ : ∃ z, r + rm = z := ⟨_, rfl⟩
        have wq : IntKind.i64.wrap rq = rq := wrap_in (by omega) (by omega)
        have od : rdO c rq := ⟨by omega, by omega⟩
        have UR := upd_read od (o := o) ⟨by omega, by omega⟩
        have UI := Lib.hid (In.upd (by omega) IR.out rq o)
        have R1 := PR.out wr pa X c k rq KR.out (by omega) IR.out ⟨by omega, by omega⟩
        rw [re_ok od] at R1
        replace R1 := Lib.hid R1
        have U1 := Lib.hid (fun W (q : Below wr.heap.size wr W) => PU.out W pa X c k rq o (PK.out _ W _ _ _ KR.out q) (by omega) IR.out ⟨by omega, by omega⟩ ⟨by omega, by omega⟩)
        unfold udE at U1
        rw [UR.1] at U1
        have R2 := Lib.hid (fun W X' (hK : K W pa X' (Ck.upd c rq o).1) => PR.out W pa X' _ (k + 1) rq hK (by omega) UI.out ⟨by omega, by omega⟩)
        rw [re_ok UR.2.1] at R2
        have NF : Hid (t = 1 → ¬ rdV c rq < l) := Lib.hid fun q => by
          rcases HT.out with z | ⟨_, e⟩
          · omega
          · have := rd_rise IR.out hr.1 (show r ≤ rq by omega)
            omega
        have T01 : Hid (t = 0 ∨ t = 1) := Lib.hid (HT.out.imp id (fun q => q.1))
        have RNG : Hid ((Ck.upd c rq o).1.at' ≤ rq ∧ rq ≤ 17179869184 * ((k + 1 : Nat) : Int)) := Lib.hid ⟨UR.2.1.1, by omega⟩
        have EQ := Lib.hid UR.2.2.1
        have MV := Lib.hid UR.2.2.2
        obtain ⟨v1, hv1⟩ : ∃ z, rdV c rq = z := ⟨_, rfl⟩
        obtain ⟨v2, hv2⟩ : ∃ z, rdV (Ck.upd c rq o).1 rq = z := ⟨_, rfl⟩
        have HV2 := Lib.hid hv2
        rw [hv1] at R1 NF EQ
        rw [hv2] at R2 EQ
        generalize (Ck.upd c rq o).2.1 = mv at *
        generalize (Ck.upd c rq o).1 = c' at *
        clear UR od hv1 hv2 HT at0 hr
        have hrq2 : IntKind.i64.wrap (r + rm) = rq := by rw [hrq]; exact wq
        clear hrq
        go_wp2_with fail
        refine R1.out.mono ?_
        rintro e w3 ⟨rfl, hb⟩
        have q3 := Lib.hid hb
        clear hb R1
        have B3 := Lib.hid (bstep HB.out q3.out)
        have YY := YC.out _ B3.out
        clear y0 y1 y2
        rcases T01.out with rfl | rfl
        · go_wp2_with fail
          refine (U1.out _ q3.out).mono ?_
          rintro e w4 ⟨⟨rfl, X', hk', hx'⟩, ht⟩
          have K4 := Lib.hid hk'
          have B4 : Hid (Below w.heap.size w w4) := Lib.hid (B3.out.trans (ht.below (fun i hi => XR.out i hi) B3.out.size))
          have X4 : Hid (∀ i, X' i → w.heap.size ≤ i) := Lib.hid fun i hi => by
            rcases hx' i hi with q | q
            · exact XR.out i q
            · have := B3.out.size
              omega
          clear ht hk' hx' U1 YY B3 q3
          go_wp2_with fail
          refine (R2.out _ _ K4.out).mono ?_
          rintro e w5 ⟨rfl, hb⟩
          have K5 := Lib.hid (PK.out _ _ _ _ _ K4.out hb)
          have B5 := Lib.hid (bstep B4.out hb)
          clear hb K4 B4 R2
          by_cases mq : mv = 1
          · subst mq
            go_wp2_with fail
            exact ⟨⟨k + 1, rq, v2, 1, X', c', by omega, by omega, by go_num, rfl, rfl, rfl, RNG.out, .inr ⟨rfl, HV2.out.symm⟩, K5.out, UI.out, X4.out, B5.out⟩, by simp [intOf]; omega⟩
          · have mb : (mv != 1) = true := by simpa using mq
            obtain rfl := EQ.out mq
            go_wp2_with fail
            exact ⟨⟨k + 1, rq, _, 1, X', c', by omega, by omega, by go_num, rfl, rfl, rfl, RNG.out, .inr ⟨rfl, HV2.out.symm⟩, K5.out, UI.out, X4.out, B5.out⟩, by simp [intOf]; omega⟩
        · have nf : decide (v1 < l) = false := decide_eq_false (by have := NF.out rfl; omega)
          go_wp2_with fail
          refine (U1.out _ q3.out).mono ?_
          rintro e w4 ⟨⟨rfl, X', hk', hx'⟩, ht⟩
          have K4 := Lib.hid hk'
          have B4 : Hid (Below w.heap.size w w4) := Lib.hid (B3.out.trans (ht.below (fun i hi => XR.out i hi) B3.out.size))
          have X4 : Hid (∀ i, X' i → w.heap.size ≤ i) := Lib.hid fun i hi => by
            rcases hx' i hi with q | q
            · exact XR.out i q
            · have := B3.out.size
              omega
          clear ht hk' hx' U1 YY B3 q3
          go_wp2_with fail
          refine (R2.out _ _ K4.out).mono ?_
          rintro e w5 ⟨rfl, hb⟩
          have K5 := Lib.hid (PK.out _ _ _ _ _ K4.out hb)
          have B5 := Lib.hid (bstep B4.out hb)
          clear hb K4 B4 R2
          by_cases mq : mv = 1
          · subst mq
            go_wp2_with fail
            exact ⟨⟨k + 1, rq, v2, 1, X', c', by omega, by omega, by go_num, rfl, rfl, rfl, RNG.out, .inr ⟨rfl, HV2.out.symm⟩, K5.out, UI.out, X4.out, B5.out⟩, by simp [intOf]; omega⟩
          · have mb : (mv != 1) = true := by simpa using mq
            obtain rfl := EQ.out mq
            go_wp2_with fail
            exact ⟨⟨k + 1, rq, _, 1, X', c', by omega, by omega, by go_num, rfl, rfl, rfl, RNG.out, .inr ⟨rfl, HV2.out.symm⟩, K5.out, UI.out, X4.out, B5.out⟩, by simp [intOf]; omega⟩
      · have e3 : decide ((k : Int) < 60) = false := decide_eq_false (by omega)
        have e4 : decide (k < 60) = false := decide_eq_false c5
        by_cases sw : rb < ra
        · have sw1 := decide_eq_true sw
          obtain ⟨sa, hsa⟩ : ∃ z, r + rb = z := ⟨_, rfl⟩
          obtain ⟨sb, hsb⟩ : ∃ z, r + ra = z := ⟨_, rfl⟩
          obtain ⟨sc, hsc⟩ : ∃ z, sa + 1 = z := ⟨_, rfl⟩
          have wsa : IntKind.i64.wrap (r + rb) = sa := by rw [hsa]; exact wrap_in (by omega) (by omega)
          have wsb : IntKind.i64.wrap (r + ra) = sb := by rw [hsb]; exact wrap_in (by omega) (by omega)
          have wsc : IntKind.i64.wrap (sa + 1) = sc := by rw [hsc]; exact wrap_in (by omega) (by omega)
          have P1 := Lib.hid (fun W (q : Below wr.heap.size wr W) => PR.out W pa X c k sa (PK.out _ W _ _ _ KR.out q) (by omega) IR.out ⟨by omega, by omega⟩)
          have P2 := Lib.hid (fun W (q : Below wr.heap.size wr W) => PR.out W pa X c k sb (PK.out _ W _ _ _ KR.out q) (by omega) IR.out ⟨by omega, by omega⟩)
          have P3 := Lib.hid (fun W (q : Below wr.heap.size wr W) => PR.out W pa X c k sc (PK.out _ W _ _ _ KR.out q) (by omega) IR.out ⟨by omega, by omega⟩)
          have P4 := Lib.hid (fun W (q : Below wr.heap.size wr W) => PR.out W pa X c k r (PK.out _ W _ _ _ KR.out q) (by omega) IR.out ⟨by omega, by omega⟩)
          have OD4 : Hid (rdO c r) := Lib.hid ⟨hr.1, by omega⟩
          clear KR
          by_cases od1 : rdO c sa
          · by_cases od2 : rdO c sb
            · have E1 : rdE c sa = .returned (.tuple #[.int .i64 (rdV c sa), .int .i64 0]) := re_ok od1
              have E2 : rdE c sb = .returned (.tuple #[.int .i64 (rdV c sb), .int .i64 0]) := re_ok od2
              have E4 : rdE c r = .returned (.tuple #[.int .i64 (rdV c r), .int .i64 0]) := re_ok OD4.out
              have i1 := IR.out.read od1
              have i4 := IR.out.read OD4.out
              have up := rd_rise IR.out (show c.at' ≤ sa by omega) (show sa ≤ sb by omega)
              have nr := rd_near IR.out hr.1 (show 0 ≤ rb by omega)
              rw [hsa] at nr
              have q3 : rdO c sc → rdV c sa ≤ rdV c sc ∧ rdV c sc ≤ rdV c sa + 2 := fun _ => ⟨rd_rise IR.out (show c.at' ≤ sa by omega) (show sa ≤ sc by omega), by rw [← hsc]; exact rd_one IR.out (by omega)⟩
              rw [E1] at P1
              rw [E2] at P2
              rw [E4] at P4
              have u1 := decide_eq_false (show ¬ rdV c sb < rdV c sa by omega)
              obtain ⟨off, hoff⟩ : ∃ z, rdV c sa - rdV c r - rb = z := ⟨_, rfl⟩
              rw [hoff] at nr
              have ad : rb.tdiv 1000 = rb / 1000 := e5 rb (by omega)
              obtain ⟨da, hda⟩ : ∃ z, rb / 1000 = z := ⟨_, rfl⟩
              have da0 : 0 ≤ da := hda ▸ Int.ediv_nonneg (by omega) (by decide)
              have da1 : da ≤ rb := hda ▸ Int.ediv_le_self _ (by omega)
              rw [hda] at ad nr
              have wo1 : IntKind.i64.wrap (rdV c sa - rdV c r) = rdV c sa - rdV c r := wrap_in (by omega) (by omega)
              have wo2 : IntKind.i64.wrap (rdV c sa - rdV c r - rb) = off := by rw [hoff]; exact wrap_in (by omega) (by omega)
              have wo3 : IntKind.i64.wrap (-off) = -off := wrap_in (by omega) (by omega)
              have wda : IntKind.i64.wrap da = da := wrap_in (by omega) (by omega)
              have wdb : IntKind.i64.wrap (da + 2) = da + 2 := wrap_in (by omega) (by omega)
              have wv2 : IntKind.i64.wrap (rdV c sa + 2) = rdV c sa + 2 := wrap_in (by omega) (by omega)
              have mx1 := decide_eq_true (show off ≤ da + 2 by omega)
              have mx2 := decide_eq_true (show -off ≤ da + 2 by omega)
              have mx3 := decide_eq_true (show max off (-off) ≤ da + 2 by omega)
              clear E1 E2 E4 i1 i4 up nr hda e5 OD4
              by_cases od3 : rdO c sc
              · obtain ⟨l1, l2⟩ := q3 od3
                have E3 : rdE c sc = .returned (.tuple #[.int .i64 (rdV c sc), .int .i64 0]) := re_ok od3
                rw [E3] at P3
                have u2 := decide_eq_true l1
                have u3 := decide_eq_true l2
                clear E3 q3 od1 od2 od3
                generalize rdV c sa = v1 at *
                generalize rdV c sb = v2 at *
                generalize rdV c sc = v3 at *
                generalize rdV c r = v4 at *
                clear hoff hsa hsb hsc
                go_wp2_with fail
                refine (P1.out _ (brefl wr)).mono ?_
                rintro e w3 ⟨rfl, hb⟩
                have r1 := Lib.hid hb
                clear hb P1
                go_wp2_with fail
                refine (P2.out _ r1.out).mono ?_
                rintro e w4 ⟨rfl, hb⟩
                have r2 := Lib.hid (bstep r1.out hb)
                clear hb P2 r1
                go_wp2_with fail
                refine (P3.out _ r2.out).mono ?_
                rintro e w5 ⟨rfl, hb⟩
                have r3 := Lib.hid (bstep r2.out hb)
                have B3 := Lib.hid (bstep HB.out r3.out)
                clear hb P3 r2
                go_wp2_with fail
                refine (P4.out _ r3.out).mono ?_
                rintro e w6 ⟨rfl, hb⟩
                have B4 := Lib.hid (bstep B3.out hb)
                clear hb P4 r3 B3
                rcases Int.lt_or_le off (-off) with mm | mm
                · have mm1 := decide_eq_true mm
                  go_wp2_with fail
                  all_goals
                    go_ret
                    exact ⟨rfl, B4.out⟩
                · have mm1 : decide (off < -off) = false := decide_eq_false (by omega)
                  go_wp2_with fail
                  all_goals
                    go_ret
                    exact ⟨rfl, B4.out⟩
              · have E3 : rdE c sc = .returned (.tuple #[.int .i64 0, .int .i64 2]) := re_no od3
                rw [E3] at P3
                clear E3 q3 od1 od2 od3
                generalize rdV c sa = v1 at *
                generalize rdV c sb = v2 at *
                generalize rdV c r = v4 at *
                clear hoff hsa hsb hsc
                go_wp2_with fail
                refine (P1.out _ (brefl wr)).mono ?_
                rintro e w3 ⟨rfl, hb⟩
                have r1 := Lib.hid hb
                clear hb P1
                go_wp2_with fail
                refine (P2.out _ r1.out).mono ?_
                rintro e w4 ⟨rfl, hb⟩
                have r2 := Lib.hid (bstep r1.out hb)
                clear hb P2 r1
                go_wp2_with fail
                refine (P3.out _ r2.out).mono ?_
                rintro e w5 ⟨rfl, hb⟩
                have r3 := Lib.hid (bstep r2.out hb)
                have B3 := Lib.hid (bstep HB.out r3.out)
                clear hb P3 r2
                go_wp2_with fail
                refine (P4.out _ r3.out).mono ?_
                rintro e w6 ⟨rfl, hb⟩
                have B4 := Lib.hid (bstep B3.out hb)
                clear hb P4 r3 B3
                rcases Int.lt_or_le off (-off) with mm | mm
                · have mm1 := decide_eq_true mm
                  go_wp2_with fail
                  all_goals
                    go_ret
                    exact ⟨rfl, B4.out⟩
                · have mm1 : decide (off < -off) = false := decide_eq_false (by omega)
                  go_wp2_with fail
                  all_goals
                    go_ret
                    exact ⟨rfl, B4.out⟩
            · clear hsa hsb hsc
              have E1 : rdE c sa = .returned (.tuple #[.int .i64 (rdV c sa), .int .i64 0]) := re_ok od1
              have E2 : rdE c sb = .returned (.tuple #[.int .i64 0, .int .i64 2]) := re_no od2
              unfold rdE at P3
              rw [E1] at P1
              rw [E2] at P2
              generalize rdV c sa = v1 at *
              generalize (rdA c sc).1 = v3 at *
              generalize (rdA c sc).2 = e3v at *
              clear E1 E2 OD4
              go_wp2_with fail
              refine (P1.out _ (brefl wr)).mono ?_
              rintro e w3 ⟨rfl, hb⟩
              have r1 := Lib.hid hb
              clear hb P1
              go_wp2_with fail
              refine (P2.out _ r1.out).mono ?_
              rintro e w4 ⟨rfl, hb⟩
              have r2 := Lib.hid (bstep r1.out hb)
              clear hb P2 r1
              go_wp2_with fail
              refine (P3.out _ r2.out).mono ?_
              rintro e w5 ⟨rfl, hb⟩
              have r3 := Lib.hid (bstep r2.out hb)
              have B3 := Lib.hid (bstep HB.out r3.out)
              clear hb P3 r2
              go_wp2_with fail
              go_ret
              exact ⟨rfl, B3.out⟩
          · clear hsa hsb hsc
            have E1 : rdE c sa = .returned (.tuple #[.int .i64 0, .int .i64 2]) := re_no od1
            unfold rdE at P2 P3
            rw [E1] at P1
            generalize (rdA c sb).1 = v2 at *
            generalize (rdA c sb).2 = e2v at *
            generalize (rdA c sc).1 = v3 at *
            generalize (rdA c sc).2 = e3v at *
            clear E1 OD4
            go_wp2_with fail
            refine (P1.out _ (brefl wr)).mono ?_
            rintro e w3 ⟨rfl, hb⟩
            have r1 := Lib.hid hb
            clear hb P1
            go_wp2_with fail
            refine (P2.out _ r1.out).mono ?_
            rintro e w4 ⟨rfl, hb⟩
            have r2 := Lib.hid (bstep r1.out hb)
            clear hb P2 r1
            go_wp2_with fail
            refine (P3.out _ r2.out).mono ?_
            rintro e w5 ⟨rfl, hb⟩
            have r3 := Lib.hid (bstep r2.out hb)
            have B3 := Lib.hid (bstep HB.out r3.out)
            clear hb P3 r2
            go_wp2_with fail
            go_ret
            exact ⟨rfl, B3.out⟩
        · have sw1 := decide_eq_false sw
          obtain ⟨sa, hsa⟩ : ∃ z, r + ra = z := ⟨_, rfl⟩
          obtain ⟨sb, hsb⟩ : ∃ z, r + rb = z := ⟨_, rfl⟩
          obtain ⟨sc, hsc⟩ : ∃ z, sa + 1 = z := ⟨_, rfl⟩
          have wsa : IntKind.i64.wrap (r + ra) = sa := by rw [hsa]; exact wrap_in (by omega) (by omega)
          have wsb : IntKind.i64.wrap (r + rb) = sb := by rw [hsb]; exact wrap_in (by omega) (by omega)
          have wsc : IntKind.i64.wrap (sa + 1) = sc := by rw [hsc]; exact wrap_in (by omega) (by omega)
          have P1 := Lib.hid (fun W (q : Below wr.heap.size wr W) => PR.out W pa X c k sa (PK.out _ W _ _ _ KR.out q) (by omega) IR.out ⟨by omega, by omega⟩)
          have P2 := Lib.hid (fun W (q : Below wr.heap.size wr W) => PR.out W pa X c k sb (PK.out _ W _ _ _ KR.out q) (by omega) IR.out ⟨by omega, by omega⟩)
          have P3 := Lib.hid (fun W (q : Below wr.heap.size wr W) => PR.out W pa X c k sc (PK.out _ W _ _ _ KR.out q) (by omega) IR.out ⟨by omega, by omega⟩)
          have P4 := Lib.hid (fun W (q : Below wr.heap.size wr W) => PR.out W pa X c k r (PK.out _ W _ _ _ KR.out q) (by omega) IR.out ⟨by omega, by omega⟩)
          have OD4 : Hid (rdO c r) := Lib.hid ⟨hr.1, by omega⟩
          clear KR
          by_cases od1 : rdO c sa
          · by_cases od2 : rdO c sb
            · have E1 : rdE c sa = .returned (.tuple #[.int .i64 (rdV c sa), .int .i64 0]) := re_ok od1
              have E2 : rdE c sb = .returned (.tuple #[.int .i64 (rdV c sb), .int .i64 0]) := re_ok od2
              have E4 : rdE c r = .returned (.tuple #[.int .i64 (rdV c r), .int .i64 0]) := re_ok OD4.out
              have i1 := IR.out.read od1
              have i4 := IR.out.read OD4.out
              have up := rd_rise IR.out (show c.at' ≤ sa by omega) (show sa ≤ sb by omega)
              have nr := rd_near IR.out hr.1 (show 0 ≤ ra by omega)
              rw [hsa] at nr
              have q3 : rdO c sc → rdV c sa ≤ rdV c sc ∧ rdV c sc ≤ rdV c sa + 2 := fun _ => ⟨rd_rise IR.out (show c.at' ≤ sa by omega) (show sa ≤ sc by omega), by rw [← hsc]; exact rd_one IR.out (by omega)⟩
              rw [E1] at P1
              rw [E2] at P2
              rw [E4] at P4
              have u1 := decide_eq_false (show ¬ rdV c sb < rdV c sa by omega)
              obtain ⟨off, hoff⟩ : ∃ z, rdV c sa - rdV c r - ra = z := ⟨_, rfl⟩
              rw [hoff] at nr
              have ad : ra.tdiv 1000 = ra / 1000 := e5 ra (by omega)
              obtain ⟨da, hda⟩ : ∃ z, ra / 1000 = z := ⟨_, rfl⟩
              have da0 : 0 ≤ da := hda ▸ Int.ediv_nonneg (by omega) (by decide)
              have da1 : da ≤ ra := hda ▸ Int.ediv_le_self _ (by omega)
              rw [hda] at ad nr
              have wo1 : IntKind.i64.wrap (rdV c sa - rdV c r) = rdV c sa - rdV c r := wrap_in (by omega) (by omega)
              have wo2 : IntKind.i64.wrap (rdV c sa - rdV c r - ra) = off := by rw [hoff]; exact wrap_in (by omega) (by omega)
              have wo3 : IntKind.i64.wrap (-off) = -off := wrap_in (by omega) (by omega)
              have wda : IntKind.i64.wrap da = da := wrap_in (by omega) (by omega)
              have wdb : IntKind.i64.wrap (da + 2) = da + 2 := wrap_in (by omega) (by omega)
              have wv2 : IntKind.i64.wrap (rdV c sa + 2) = rdV c sa + 2 := wrap_in (by omega) (by omega)
              have mx1 := decide_eq_true (show off ≤ da + 2 by omega)
              have mx2 := decide_eq_true (show -off ≤ da + 2 by omega)
              have mx3 := decide_eq_true (show max off (-off) ≤ da + 2 by omega)
              clear E1 E2 E4 i1 i4 up nr hda e5 OD4
              by_cases od3 : rdO c sc
              · obtain ⟨l1, l2⟩ := q3 od3
                have E3 : rdE c sc = .returned (.tuple #[.int .i64 (rdV c sc), .int .i64 0]) := re_ok od3
                rw [E3] at P3
                have u2 := decide_eq_true l1
                have u3 := decide_eq_true l2
                clear E3 q3 od1 od2 od3
                generalize rdV c sa = v1 at *
                generalize rdV c sb = v2 at *
                generalize rdV c sc = v3 at *
                generalize rdV c r = v4 at *
                clear hoff hsa hsb hsc
                go_wp2_with fail
                refine (P1.out _ (brefl wr)).mono ?_
                rintro e w3 ⟨rfl, hb⟩
                have r1 := Lib.hid hb
                clear hb P1
                go_wp2_with fail
                refine (P2.out _ r1.out).mono ?_
                rintro e w4 ⟨rfl, hb⟩
                have r2 := Lib.hid (bstep r1.out hb)
                clear hb P2 r1
                go_wp2_with fail
                refine (P3.out _ r2.out).mono ?_
                rintro e w5 ⟨rfl, hb⟩
                have r3 := Lib.hid (bstep r2.out hb)
                have B3 := Lib.hid (bstep HB.out r3.out)
                clear hb P3 r2
                go_wp2_with fail
                refine (P4.out _ r3.out).mono ?_
                rintro e w6 ⟨rfl, hb⟩
                have B4 := Lib.hid (bstep B3.out hb)
                clear hb P4 r3 B3
                rcases Int.lt_or_le off (-off) with mm | mm
                · have mm1 := decide_eq_true mm
                  go_wp2_with fail
                  all_goals
                    go_ret
                    exact ⟨rfl, B4.out⟩
                · have mm1 : decide (off < -off) = false := decide_eq_false (by omega)
                  go_wp2_with fail
                  all_goals
                    go_ret
                    exact ⟨rfl, B4.out⟩
              · have E3 : rdE c sc = .returned (.tuple #[.int .i64 0, .int .i64 2]) := re_no od3
                rw [E3] at P3
                clear E3 q3 od1 od2 od3
                generalize rdV c sa = v1 at *
                generalize rdV c sb = v2 at *
                generalize rdV c r = v4 at *
                clear hoff hsa hsb hsc
                go_wp2_with fail
                refine (P1.out _ (brefl wr)).mono ?_
                rintro e w3 ⟨rfl, hb⟩
                have r1 := Lib.hid hb
                clear hb P1
                go_wp2_with fail
                refine (P2.out _ r1.out).mono ?_
                rintro e w4 ⟨rfl, hb⟩
                have r2 := Lib.hid (bstep r1.out hb)
                clear hb P2 r1
                go_wp2_with fail
                refine (P3.out _ r2.out).mono ?_
                rintro e w5 ⟨rfl, hb⟩
                have r3 := Lib.hid (bstep r2.out hb)
                have B3 := Lib.hid (bstep HB.out r3.out)
                clear hb P3 r2
                go_wp2_with fail
                refine (P4.out _ r3.out).mono ?_
                rintro e w6 ⟨rfl, hb⟩
                have B4 := Lib.hid (bstep B3.out hb)
                clear hb P4 r3 B3
                rcases Int.lt_or_le off (-off) with mm | mm
                · have mm1 := decide_eq_true mm
                  go_wp2_with fail
                  all_goals
                    go_ret
                    exact ⟨rfl, B4.out⟩
                · have mm1 : decide (off < -off) = false := decide_eq_false (by omega)
                  go_wp2_with fail
                  all_goals
                    go_ret
                    exact ⟨rfl, B4.out⟩
            · clear hsa hsb hsc
              have E1 : rdE c sa = .returned (.tuple #[.int .i64 (rdV c sa), .int .i64 0]) := re_ok od1
              have E2 : rdE c sb = .returned (.tuple #[.int .i64 0, .int .i64 2]) := re_no od2
              unfold rdE at P3
              rw [E1] at P1
              rw [E2] at P2
              generalize rdV c sa = v1 at *
              generalize (rdA c sc).1 = v3 at *
              generalize (rdA c sc).2 = e3v at *
              clear E1 E2 OD4
              go_wp2_with fail
              refine (P1.out _ (brefl wr)).mono ?_
              rintro e w3 ⟨rfl, hb⟩
              have r1 := Lib.hid hb
              clear hb P1
              go_wp2_with fail
              refine (P2.out _ r1.out).mono ?_
              rintro e w4 ⟨rfl, hb⟩
              have r2 := Lib.hid (bstep r1.out hb)
              clear hb P2 r1
              go_wp2_with fail
              refine (P3.out _ r2.out).mono ?_
              rintro e w5 ⟨rfl, hb⟩
              have r3 := Lib.hid (bstep r2.out hb)
              have B3 := Lib.hid (bstep HB.out r3.out)
              clear hb P3 r2
              go_wp2_with fail
              go_ret
              exact ⟨rfl, B3.out⟩
          · clear hsa hsb hsc
            have E1 : rdE c sa = .returned (.tuple #[.int .i64 0, .int .i64 2]) := re_no od1
            unfold rdE at P2 P3
            rw [E1] at P1
            generalize (rdA c sb).1 = v2 at *
            generalize (rdA c sb).2 = e2v at *
            generalize (rdA c sc).1 = v3 at *
            generalize (rdA c sc).2 = e3v at *
            clear E1 OD4
            go_wp2_with fail
            refine (P1.out _ (brefl wr)).mono ?_
            rintro e w3 ⟨rfl, hb⟩
            have r1 := Lib.hid hb
            clear hb P1
            go_wp2_with fail
            refine (P2.out _ r1.out).mono ?_
            rintro e w4 ⟨rfl, hb⟩
            have r2 := Lib.hid (bstep r1.out hb)
            clear hb P2 r1
            go_wp2_with fail
            refine (P3.out _ r2.out).mono ?_
            rintro e w5 ⟨rfl, hb⟩
            have r3 := Lib.hid (bstep r2.out hb)
            have B3 := Lib.hid (bstep HB.out r3.out)
            clear hb P3 r2
            go_wp2_with fail
            go_ret
            exact ⟨rfl, B3.out⟩
    · have e1 : decide ((k : Int) < (m : Int)) = false := decide_eq_false (by omega)
      have e2 : decide (k < m) = false := decide_eq_false c0
      by_cases sw : rb < ra
      · have sw1 := decide_eq_true sw
        obtain ⟨sa, hsa⟩ : ∃ z, r + rb = z := ⟨_, rfl⟩
        obtain ⟨sb, hsb⟩ : ∃ z, r + ra = z := ⟨_, rfl⟩
        obtain ⟨sc, hsc⟩ : ∃ z, sa + 1 = z := ⟨_, rfl⟩
        have wsa : IntKind.i64.wrap (r + rb) = sa := by rw [hsa]; exact wrap_in (by omega) (by omega)
        have wsb : IntKind.i64.wrap (r + ra) = sb := by rw [hsb]; exact wrap_in (by omega) (by omega)
        have wsc : IntKind.i64.wrap (sa + 1) = sc := by rw [hsc]; exact wrap_in (by omega) (by omega)
        have P1 := Lib.hid (fun W (q : Below wr.heap.size wr W) => PR.out W pa X c k sa (PK.out _ W _ _ _ KR.out q) (by omega) IR.out ⟨by omega, by omega⟩)
        have P2 := Lib.hid (fun W (q : Below wr.heap.size wr W) => PR.out W pa X c k sb (PK.out _ W _ _ _ KR.out q) (by omega) IR.out ⟨by omega, by omega⟩)
        have P3 := Lib.hid (fun W (q : Below wr.heap.size wr W) => PR.out W pa X c k sc (PK.out _ W _ _ _ KR.out q) (by omega) IR.out ⟨by omega, by omega⟩)
        have P4 := Lib.hid (fun W (q : Below wr.heap.size wr W) => PR.out W pa X c k r (PK.out _ W _ _ _ KR.out q) (by omega) IR.out ⟨by omega, by omega⟩)
        have OD4 : Hid (rdO c r) := Lib.hid ⟨hr.1, by omega⟩
        clear KR
        by_cases od1 : rdO c sa
        · by_cases od2 : rdO c sb
          · have E1 : rdE c sa = .returned (.tuple #[.int .i64 (rdV c sa), .int .i64 0]) := re_ok od1
            have E2 : rdE c sb = .returned (.tuple #[.int .i64 (rdV c sb), .int .i64 0]) := re_ok od2
            have E4 : rdE c r = .returned (.tuple #[.int .i64 (rdV c r), .int .i64 0]) := re_ok OD4.out
            have i1 := IR.out.read od1
            have i4 := IR.out.read OD4.out
            have up := rd_rise IR.out (show c.at' ≤ sa by omega) (show sa ≤ sb by omega)
            have nr := rd_near IR.out hr.1 (show 0 ≤ rb by omega)
            rw [hsa] at nr
            have q3 : rdO c sc → rdV c sa ≤ rdV c sc ∧ rdV c sc ≤ rdV c sa + 2 := fun _ => ⟨rd_rise IR.out (show c.at' ≤ sa by omega) (show sa ≤ sc by omega), by rw [← hsc]; exact rd_one IR.out (by omega)⟩
            rw [E1] at P1
            rw [E2] at P2
            rw [E4] at P4
            have u1 := decide_eq_false (show ¬ rdV c sb < rdV c sa by omega)
            obtain ⟨off, hoff⟩ : ∃ z, rdV c sa - rdV c r - rb = z := ⟨_, rfl⟩
            rw [hoff] at nr
            have ad : rb.tdiv 1000 = rb / 1000 := e5 rb (by omega)
            obtain ⟨da, hda⟩ : ∃ z, rb / 1000 = z := ⟨_, rfl⟩
            have da0 : 0 ≤ da := hda ▸ Int.ediv_nonneg (by omega) (by decide)
            have da1 : da ≤ rb := hda ▸ Int.ediv_le_self _ (by omega)
            rw [hda] at ad nr
            have wo1 : IntKind.i64.wrap (rdV c sa - rdV c r) = rdV c sa - rdV c r := wrap_in (by omega) (by omega)
            have wo2 : IntKind.i64.wrap (rdV c sa - rdV c r - rb) = off := by rw [hoff]; exact wrap_in (by omega) (by omega)
            have wo3 : IntKind.i64.wrap (-off) = -off := wrap_in (by omega) (by omega)
            have wda : IntKind.i64.wrap da = da := wrap_in (by omega) (by omega)
            have wdb : IntKind.i64.wrap (da + 2) = da + 2 := wrap_in (by omega) (by omega)
            have wv2 : IntKind.i64.wrap (rdV c sa + 2) = rdV c sa + 2 := wrap_in (by omega) (by omega)
            have mx1 := decide_eq_true (show off ≤ da + 2 by omega)
            have mx2 := decide_eq_true (show -off ≤ da + 2 by omega)
            have mx3 := decide_eq_true (show max off (-off) ≤ da + 2 by omega)
            clear E1 E2 E4 i1 i4 up nr hda e5 OD4
            by_cases od3 : rdO c sc
            · obtain ⟨l1, l2⟩ := q3 od3
              have E3 : rdE c sc = .returned (.tuple #[.int .i64 (rdV c sc), .int .i64 0]) := re_ok od3
              rw [E3] at P3
              have u2 := decide_eq_true l1
              have u3 := decide_eq_true l2
              clear E3 q3 od1 od2 od3
              generalize rdV c sa = v1 at *
              generalize rdV c sb = v2 at *
              generalize rdV c sc = v3 at *
              generalize rdV c r = v4 at *
              clear hoff hsa hsb hsc
              go_wp2_with fail
              refine (P1.out _ (brefl wr)).mono ?_
              rintro e w3 ⟨rfl, hb⟩
              have r1 := Lib.hid hb
              clear hb P1
              go_wp2_with fail
              refine (P2.out _ r1.out).mono ?_
              rintro e w4 ⟨rfl, hb⟩
              have r2 := Lib.hid (bstep r1.out hb)
              clear hb P2 r1
              go_wp2_with fail
              refine (P3.out _ r2.out).mono ?_
              rintro e w5 ⟨rfl, hb⟩
              have r3 := Lib.hid (bstep r2.out hb)
              have B3 := Lib.hid (bstep HB.out r3.out)
              clear hb P3 r2
              go_wp2_with fail
              refine (P4.out _ r3.out).mono ?_
              rintro e w6 ⟨rfl, hb⟩
              have B4 := Lib.hid (bstep B3.out hb)
              clear hb P4 r3 B3
              rcases Int.lt_or_le off (-off) with mm | mm
              · have mm1 := decide_eq_true mm
                go_wp2_with fail
                all_goals
                  go_ret
                  exact ⟨rfl, B4.out⟩
              · have mm1 : decide (off < -off) = false := decide_eq_false (by omega)
                go_wp2_with fail
                all_goals
                  go_ret
                  exact ⟨rfl, B4.out⟩
            · have E3 : rdE c sc = .returned (.tuple #[.int .i64 0, .int .i64 2]) := re_no od3
              rw [E3] at P3
              clear E3 q3 od1 od2 od3
              generalize rdV c sa = v1 at *
              generalize rdV c sb = v2 at *
              generalize rdV c r = v4 at *
              clear hoff hsa hsb hsc
              go_wp2_with fail
              refine (P1.out _ (brefl wr)).mono ?_
              rintro e w3 ⟨rfl, hb⟩
              have r1 := Lib.hid hb
              clear hb P1
              go_wp2_with fail
              refine (P2.out _ r1.out).mono ?_
              rintro e w4 ⟨rfl, hb⟩
              have r2 := Lib.hid (bstep r1.out hb)
              clear hb P2 r1
              go_wp2_with fail
              refine (P3.out _ r2.out).mono ?_
              rintro e w5 ⟨rfl, hb⟩
              have r3 := Lib.hid (bstep r2.out hb)
              have B3 := Lib.hid (bstep HB.out r3.out)
              clear hb P3 r2
              go_wp2_with fail
              refine (P4.out _ r3.out).mono ?_
              rintro e w6 ⟨rfl, hb⟩
              have B4 := Lib.hid (bstep B3.out hb)
              clear hb P4 r3 B3
              rcases Int.lt_or_le off (-off) with mm | mm
              · have mm1 := decide_eq_true mm
                go_wp2_with fail
                all_goals
                  go_ret
                  exact ⟨rfl, B4.out⟩
              · have mm1 : decide (off < -off) = false := decide_eq_false (by omega)
                go_wp2_with fail
                all_goals
                  go_ret
                  exact ⟨rfl, B4.out⟩
          · clear hsa hsb hsc
            have E1 : rdE c sa = .returned (.tuple #[.int .i64 (rdV c sa), .int .i64 0]) := re_ok od1
            have E2 : rdE c sb = .returned (.tuple #[.int .i64 0, .int .i64 2]) := re_no od2
            unfold rdE at P3
            rw [E1] at P1
            rw [E2] at P2
            generalize rdV c sa = v1 at *
            generalize (rdA c sc).1 = v3 at *
            generalize (rdA c sc).2 = e3v at *
            clear E1 E2 OD4
            go_wp2_with fail
            refine (P1.out _ (brefl wr)).mono ?_
            rintro e w3 ⟨rfl, hb⟩
            have r1 := Lib.hid hb
            clear hb P1
            go_wp2_with fail
            refine (P2.out _ r1.out).mono ?_
            rintro e w4 ⟨rfl, hb⟩
            have r2 := Lib.hid (bstep r1.out hb)
            clear hb P2 r1
            go_wp2_with fail
            refine (P3.out _ r2.out).mono ?_
            rintro e w5 ⟨rfl, hb⟩
            have r3 := Lib.hid (bstep r2.out hb)
            have B3 := Lib.hid (bstep HB.out r3.out)
            clear hb P3 r2
            go_wp2_with fail
            go_ret
            exact ⟨rfl, B3.out⟩
        · clear hsa hsb hsc
          have E1 : rdE c sa = .returned (.tuple #[.int .i64 0, .int .i64 2]) := re_no od1
          unfold rdE at P2 P3
          rw [E1] at P1
          generalize (rdA c sb).1 = v2 at *
          generalize (rdA c sb).2 = e2v at *
          generalize (rdA c sc).1 = v3 at *
          generalize (rdA c sc).2 = e3v at *
          clear E1 OD4
          go_wp2_with fail
          refine (P1.out _ (brefl wr)).mono ?_
          rintro e w3 ⟨rfl, hb⟩
          have r1 := Lib.hid hb
          clear hb P1
          go_wp2_with fail
          refine (P2.out _ r1.out).mono ?_
          rintro e w4 ⟨rfl, hb⟩
          have r2 := Lib.hid (bstep r1.out hb)
          clear hb P2 r1
          go_wp2_with fail
          refine (P3.out _ r2.out).mono ?_
          rintro e w5 ⟨rfl, hb⟩
          have r3 := Lib.hid (bstep r2.out hb)
          have B3 := Lib.hid (bstep HB.out r3.out)
          clear hb P3 r2
          go_wp2_with fail
          go_ret
          exact ⟨rfl, B3.out⟩
      · have sw1 := decide_eq_false sw
        obtain ⟨sa, hsa⟩ : ∃ z, r + ra = z := ⟨_, rfl⟩
        obtain ⟨sb, hsb⟩ : ∃ z, r + rb = z := ⟨_, rfl⟩
        obtain ⟨sc, hsc⟩ : ∃ z, sa + 1 = z := ⟨_, rfl⟩
        have wsa : IntKind.i64.wrap (r + ra) = sa := by rw [hsa]; exact wrap_in (by omega) (by omega)
        have wsb : IntKind.i64.wrap (r + rb) = sb := by rw [hsb]; exact wrap_in (by omega) (by omega)
        have wsc : IntKind.i64.wrap (sa + 1) = sc := by rw [hsc]; exact wrap_in (by omega) (by omega)
        have P1 := Lib.hid (fun W (q : Below wr.heap.size wr W) => PR.out W pa X c k sa (PK.out _ W _ _ _ KR.out q) (by omega) IR.out ⟨by omega, by omega⟩)
        have P2 := Lib.hid (fun W (q : Below wr.heap.size wr W) => PR.out W pa X c k sb (PK.out _ W _ _ _ KR.out q) (by omega) IR.out ⟨by omega, by omega⟩)
        have P3 := Lib.hid (fun W (q : Below wr.heap.size wr W) => PR.out W pa X c k sc (PK.out _ W _ _ _ KR.out q) (by omega) IR.out ⟨by omega, by omega⟩)
        have P4 := Lib.hid (fun W (q : Below wr.heap.size wr W) => PR.out W pa X c k r (PK.out _ W _ _ _ KR.out q) (by omega) IR.out ⟨by omega, by omega⟩)
        have OD4 : Hid (rdO c r) := Lib.hid ⟨hr.1, by omega⟩
        clear KR
        by_cases od1 : rdO c sa
        · by_cases od2 : rdO c sb
          · have E1 : rdE c sa = .returned (.tuple #[.int .i64 (rdV c sa), .int .i64 0]) := re_ok od1
            have E2 : rdE c sb = .returned (.tuple #[.int .i64 (rdV c sb), .int .i64 0]) := re_ok od2
            have E4 : rdE c r = .returned (.tuple #[.int .i64 (rdV c r), .int .i64 0]) := re_ok OD4.out
            have i1 := IR.out.read od1
            have i4 := IR.out.read OD4.out
            have up := rd_rise IR.out (show c.at' ≤ sa by omega) (show sa ≤ sb by omega)
            have nr := rd_near IR.out hr.1 (show 0 ≤ ra by omega)
            rw [hsa] at nr
            have q3 : rdO c sc → rdV c sa ≤ rdV c sc ∧ rdV c sc ≤ rdV c sa + 2 := fun _ => ⟨rd_rise IR.out (show c.at' ≤ sa by omega) (show sa ≤ sc by omega), by rw [← hsc]; exact rd_one IR.out (by omega)⟩
            rw [E1] at P1
            rw [E2] at P2
            rw [E4] at P4
            have u1 := decide_eq_false (show ¬ rdV c sb < rdV c sa by omega)
            obtain ⟨off, hoff⟩ : ∃ z, rdV c sa - rdV c r - ra = z := ⟨_, rfl⟩
            rw [hoff] at nr
            have ad : ra.tdiv 1000 = ra / 1000 := e5 ra (by omega)
            obtain ⟨da, hda⟩ : ∃ z, ra / 1000 = z := ⟨_, rfl⟩
            have da0 : 0 ≤ da := hda ▸ Int.ediv_nonneg (by omega) (by decide)
            have da1 : da ≤ ra := hda ▸ Int.ediv_le_self _ (by omega)
            rw [hda] at ad nr
            have wo1 : IntKind.i64.wrap (rdV c sa - rdV c r) = rdV c sa - rdV c r := wrap_in (by omega) (by omega)
            have wo2 : IntKind.i64.wrap (rdV c sa - rdV c r - ra) = off := by rw [hoff]; exact wrap_in (by omega) (by omega)
            have wo3 : IntKind.i64.wrap (-off) = -off := wrap_in (by omega) (by omega)
            have wda : IntKind.i64.wrap da = da := wrap_in (by omega) (by omega)
            have wdb : IntKind.i64.wrap (da + 2) = da + 2 := wrap_in (by omega) (by omega)
            have wv2 : IntKind.i64.wrap (rdV c sa + 2) = rdV c sa + 2 := wrap_in (by omega) (by omega)
            have mx1 := decide_eq_true (show off ≤ da + 2 by omega)
            have mx2 := decide_eq_true (show -off ≤ da + 2 by omega)
            have mx3 := decide_eq_true (show max off (-off) ≤ da + 2 by omega)
            clear E1 E2 E4 i1 i4 up nr hda e5 OD4
            by_cases od3 : rdO c sc
            · obtain ⟨l1, l2⟩ := q3 od3
              have E3 : rdE c sc = .returned (.tuple #[.int .i64 (rdV c sc), .int .i64 0]) := re_ok od3
              rw [E3] at P3
              have u2 := decide_eq_true l1
              have u3 := decide_eq_true l2
              clear E3 q3 od1 od2 od3
              generalize rdV c sa = v1 at *
              generalize rdV c sb = v2 at *
              generalize rdV c sc = v3 at *
              generalize rdV c r = v4 at *
              clear hoff hsa hsb hsc
              go_wp2_with fail
              refine (P1.out _ (brefl wr)).mono ?_
              rintro e w3 ⟨rfl, hb⟩
              have r1 := Lib.hid hb
              clear hb P1
              go_wp2_with fail
              refine (P2.out _ r1.out).mono ?_
              rintro e w4 ⟨rfl, hb⟩
              have r2 := Lib.hid (bstep r1.out hb)
              clear hb P2 r1
              go_wp2_with fail
              refine (P3.out _ r2.out).mono ?_
              rintro e w5 ⟨rfl, hb⟩
              have r3 := Lib.hid (bstep r2.out hb)
              have B3 := Lib.hid (bstep HB.out r3.out)
              clear hb P3 r2
              go_wp2_with fail
              refine (P4.out _ r3.out).mono ?_
              rintro e w6 ⟨rfl, hb⟩
              have B4 := Lib.hid (bstep B3.out hb)
              clear hb P4 r3 B3
              rcases Int.lt_or_le off (-off) with mm | mm
              · have mm1 := decide_eq_true mm
                go_wp2_with fail
                all_goals
                  go_ret
                  exact ⟨rfl, B4.out⟩
              · have mm1 : decide (off < -off) = false := decide_eq_false (by omega)
                go_wp2_with fail
                all_goals
                  go_ret
                  exact ⟨rfl, B4.out⟩
            · have E3 : rdE c sc = .returned (.tuple #[.int .i64 0, .int .i64 2]) := re_no od3
              rw [E3] at P3
              clear E3 q3 od1 od2 od3
              generalize rdV c sa = v1 at *
              generalize rdV c sb = v2 at *
              generalize rdV c r = v4 at *
              clear hoff hsa hsb hsc
              go_wp2_with fail
              refine (P1.out _ (brefl wr)).mono ?_
              rintro e w3 ⟨rfl, hb⟩
              have r1 := Lib.hid hb
              clear hb P1
              go_wp2_with fail
              refine (P2.out _ r1.out).mono ?_
              rintro e w4 ⟨rfl, hb⟩
              have r2 := Lib.hid (bstep r1.out hb)
              clear hb P2 r1
              go_wp2_with fail
              refine (P3.out _ r2.out).mono ?_
              rintro e w5 ⟨rfl, hb⟩
              have r3 := Lib.hid (bstep r2.out hb)
              have B3 := Lib.hid (bstep HB.out r3.out)
              clear hb P3 r2
              go_wp2_with fail
              refine (P4.out _ r3.out).mono ?_
              rintro e w6 ⟨rfl, hb⟩
              have B4 := Lib.hid (bstep B3.out hb)
              clear hb P4 r3 B3
              rcases Int.lt_or_le off (-off) with mm | mm
              · have mm1 := decide_eq_true mm
                go_wp2_with fail
                all_goals
                  go_ret
                  exact ⟨rfl, B4.out⟩
              · have mm1 : decide (off < -off) = false := decide_eq_false (by omega)
                go_wp2_with fail
                all_goals
                  go_ret
                  exact ⟨rfl, B4.out⟩
          · clear hsa hsb hsc
            have E1 : rdE c sa = .returned (.tuple #[.int .i64 (rdV c sa), .int .i64 0]) := re_ok od1
            have E2 : rdE c sb = .returned (.tuple #[.int .i64 0, .int .i64 2]) := re_no od2
            unfold rdE at P3
            rw [E1] at P1
            rw [E2] at P2
            generalize rdV c sa = v1 at *
            generalize (rdA c sc).1 = v3 at *
            generalize (rdA c sc).2 = e3v at *
            clear E1 E2 OD4
            go_wp2_with fail
            refine (P1.out _ (brefl wr)).mono ?_
            rintro e w3 ⟨rfl, hb⟩
            have r1 := Lib.hid hb
            clear hb P1
            go_wp2_with fail
            refine (P2.out _ r1.out).mono ?_
            rintro e w4 ⟨rfl, hb⟩
            have r2 := Lib.hid (bstep r1.out hb)
            clear hb P2 r1
            go_wp2_with fail
            refine (P3.out _ r2.out).mono ?_
            rintro e w5 ⟨rfl, hb⟩
            have r3 := Lib.hid (bstep r2.out hb)
            have B3 := Lib.hid (bstep HB.out r3.out)
            clear hb P3 r2
            go_wp2_with fail
            go_ret
            exact ⟨rfl, B3.out⟩
        · clear hsa hsb hsc
          have E1 : rdE c sa = .returned (.tuple #[.int .i64 0, .int .i64 2]) := re_no od1
          unfold rdE at P2 P3
          rw [E1] at P1
          generalize (rdA c sb).1 = v2 at *
          generalize (rdA c sb).2 = e2v at *
          generalize (rdA c sc).1 = v3 at *
          generalize (rdA c sc).2 = e3v at *
          clear E1 OD4
          go_wp2_with fail
          refine (P1.out _ (brefl wr)).mono ?_
          rintro e w3 ⟨rfl, hb⟩
          have r1 := Lib.hid hb
          clear hb P1
          go_wp2_with fail
          refine (P2.out _ r1.out).mono ?_
          rintro e w4 ⟨rfl, hb⟩
          have r2 := Lib.hid (bstep r1.out hb)
          clear hb P2 r1
          go_wp2_with fail
          refine (P3.out _ r2.out).mono ?_
          rintro e w5 ⟨rfl, hb⟩
          have r3 := Lib.hid (bstep r2.out hb)
          have B3 := Lib.hid (bstep HB.out r3.out)
          clear hb P3 r2
          go_wp2_with fail
          go_ret
          exact ⟨rfl, B3.out⟩
set_option maxRecDepth 100000 in
theorem lifted (os : Os) (started : os.Started) (H : Type) (enc : TypeId × Value → H) :
    ReturnsInHanded {} Try.checked os 4 .any (Rows.clockRisesSpec.pre6 enc Try.prog Try.f4 Rows.clockRisesRow.domain false) (Rows.clockRisesSpec.post enc Try.prog Try.f4 false true false false) := by
  refine returnsInHanded_of_change_sized (C := Try.checked) own started (by kernel_rfl) Try.func4
    (ChangeSpec.witness6 (enc := enc) (C := Try.checked) false ⟨#[], #[.int .i64 0, .slice none 0 0, .int .i64 0, .int .i64 0], []⟩ 8 (by kernel_rfl) (by kernel_rfl) (by kernel_rfl) (by kernel_rfl)) ?_
  intro W base args ds gs before hval0 hW hcnd hsz0 _
  have hsz : (DataW.weightsEach Try.prog (Try.f4.params.toList ++ Rows.clockRisesSpec.plain.varTypes Try.prog) (ds ++ gs)).all (· ≤ reachBytes) = true := hsz0
  have hval : ∀ (j : Nat) t v, Try.f4.params[j]? = some t → args[j]? = some v → Value.okWide Try.prog W .any base t v := hval0
  have hW' := hW
  obtain ⟨p, q, hA0, hV, rfl, hfz, hnd⟩ := hW
  have hA : DataW.TrodAll enc Try.prog W 0 (fun _ => true) true Try.f4.params.toList args.toList ds p := hA0
  rw [Try.params4] at hA hval hsz
  obtain ⟨v0, vs0, d0, ds0, p0, q0, hargs, rfl, rfl, h0, r0⟩ := trodAll_cons hA
  obtain ⟨v1, vs1, d1, ds1, p1, q1, rfl, rfl, rfl, h1, r1⟩ := trodAll_cons r0
  obtain ⟨v2, vs2, d2, ds2, p2, q2, rfl, rfl, rfl, h2, r2⟩ := trodAll_cons r1
  obtain ⟨v3, vs3, d3, ds3, p3, q3, rfl, rfl, rfl, h3, r3⟩ := trodAll_cons r2
  obtain ⟨rfl, rfl, rfl⟩ := trodAll_nil r3
  obtain rfl : args = #[v0, v1, v2, v3] := by cases args; simp_all
  obtain ⟨rfl, rfl⟩ := trodVars_none hV
  have h0k := h0
  have hlt0 : ∀ x ∈ p0, x.block < W.heap.size := fun x hx => by have := hW'.lt x (by simp [hx]); simpa using this
  have h1k := h1
  have hlt1 : ∀ x ∈ p1, x.block < W.heap.size := fun x hx => by have := hW'.lt x (by simp [hx]); simpa using this
  have hb1 : ∀ es sp, d1 = .slice es sp → (es.length + sp.length) * Try.prog.bytesOf 33 ≤ reachBytes := by
    intro es sp he
    exact sized_slice hsz (j := 1) (t := 23) (e := 33) rfl (by rw [he]; rfl) Try.underlying23
  have h2k := h2
  have hlt2 : ∀ x ∈ p2, x.block < W.heap.size := fun x hx => by have := hW'.lt x (by simp [hx]); simpa using this
  have h3k := h3
  have hlt3 : ∀ x ∈ p3, x.block < W.heap.size := fun x hx => by have := hW'.lt x (by simp [hx]); simpa using this
  obtain ⟨z0, rfl, _, _, g0⟩ := open_int Try.underlying3 (hval 0 3 v0 rfl rfl) h0
  obtain ⟨L1, g1⟩ := open_acts (hval 1 23 v1 rfl rfl) h1 hb1
  obtain ⟨z2, rfl, _, _, g2⟩ := open_int Try.underlying22 (hval 2 22 v2 rfl rfl) h2
  obtain ⟨z3, rfl, _, _, g3⟩ := open_int Try.underlying22 (hval 3 22 v3 rfl rfl) h3
  clear hA0 hval0
  simp only [List.append_nil] at hW'
  refine (walk pc z0 v1 L1 z2 z3 W g0 g1 g2 g3).mono fun e W' ⟨he, hg⟩ => ?_
  subst he
  exact ⟨_, rfl, _, _, _, [], _, [], hW', trodAll_cons_mk (shut_bool Try.underlying4 _) trodAll_mk0,
    (trodAll_cons_mk (Below.trod laidOut (by kernel_rfl) (of_decide_eq_true (by kernel_rfl)) h0k hg hlt0) (trodAll_cons_mk (Below.trod laidOut (by kernel_rfl) (of_decide_eq_true (by kernel_rfl)) h1k hg hlt1) (trodAll_cons_mk (Below.trod laidOut (by kernel_rfl) (of_decide_eq_true (by kernel_rfl)) h2k hg hlt2) (trodAll_cons_mk (Below.trod laidOut (by kernel_rfl) (of_decide_eq_true (by kernel_rfl)) h3k hg hlt3) trodAll_mk0)))), rfl, hg.frame _, fun h => nomatch h⟩

theorem over : Rows.clockRisesRow.holds Try.pinned (OpenSpec.ofChange Rows.clockRisesSpec) :=
  OpenClaim.holds_of_wide 4 Try.f4 rfl rfl rfl rfl rfl rfl rfl ⟨rfl, rfl, rfl, rfl, rfl⟩ rfl rfl rfl rfl rfl (by kernel_rfl) Try.func4 (by kernel_rfl)
    (of_decide_eq_true (by kernel_rfl)) (by unfold Func.isWrapper; first | (rw [if_pos (by decide +kernel)]; kernel_rfl) | (rw [if_neg (by decide +kernel)]; exact ⟨rfl, rfl⟩))
    (fun os started H enc _ => lifted os started H enc)

theorem proved : Rows.ClockRisesSaid :=
  over
end Go.Proofs.Ytojcckikgnbgiaa.clockRises
