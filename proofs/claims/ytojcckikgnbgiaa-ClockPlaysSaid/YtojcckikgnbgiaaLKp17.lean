/-
  ClockPlays: A clock reads and moves just as the document says, through any updates. The law returns true for every input, and the input reads as it did.
  Conditions: none.
-/
import Derived.Test.YtojcckikgnbgiaaRows
import Derived.Test.YtojcckikgnbgiaaCkD
import Derived.Test.YtojcckikgnbgiaaCkE
import Derived.Test.YtojcckikgnbgiaaCkZ
import Derived.Deep.RegionHeld3
import Derived.SizedLaws
import Derived.Lib.SmallJoins
namespace Go.Proofs.Ytojcckikgnbgiaa.clockPlays
open Go.ChangeShapes Go.WideShapes Go.ChangeAt Go.RowKit Go.Joins Fl Ck
set_option linter.unusedVariables false
set_option linter.unusedSimpArgs false

theorem own : ownKnob Try.prog.godebug = none := by kernel_rfl
theorem laidOut : laidOutB Try.prog = true := by kernel_rfl

theorem In.more {k k' : Nat} {c : Clk} (h : In k c) (q : k ≤ k') : In k' c := by
  unfold In at *
  omega
theorem tu_blk {X : Nat → Prop} {w w' : World} {b : Nat} {vs : List Value} (h : Blk w b vs) (q : Tu X w w') (n : ¬ X b) : Blk w' b vs := blk_keep h (q.block b h.1 n) q.size
theorem tu_acts {n : Nat} {X : Nat → Prop} {w w' : World} {v : Value} {L : List Ac} (h : As w v L) (hn : n = w.heap.size) (q : Below n w w') : As w' v L := by subst hn; exact h.below q
set_option maxRecDepth 100000 in
set_option maxHeartbeats 16000000 in
theorem walk {K : World → Addr → (Nat → Prop) → Clk → Prop} (pc : PC K) (rr bb ff : Int) (v : Value) (L : List Ac) (w : World) (g0 : Lit.wf (.int .i64 rr) = true) (g1 : Lit.wf (.int .i64 bb) = true) (g2 : Lit.wf (.int .i64 ff) = true) (g3 : As w v L ∧ (∀ s ∈ L, i64A s) ∧ L.length * 24 ≤ 140737488351232) :
    Calls Try.prog 3 #[.int .i64 rr, .int .i64 bb, .int .i64 ff, v] w fun e w' => e = .returned (.bool true) ∧ Below w.heap.size w w' := by
  have AW := Lib.hid (awake17_c pc)
  have RN := Lib.hid (fun w => rNew_c rr bb ff w)
  obtain ⟨hA, hV, hN⟩ := g3
  have HS := Lib.hid hA
  have HV := Lib.hid hV
  obtain ⟨a, cap, rfl, c1, c2, _⟩ := hA
  obtain ⟨m, hm⟩ : ∃ m, L.length = m := ⟨_, rfl⟩
  have HM := Lib.hid hm
  rw [hm] at HS c1 hN ⊢
  have m0 : (0 : Int) ≤ (m : Int) := by omega
  have m1 : (m : Int) ≤ 5864062014806 := by omega
  have m2 : (m : Int) ≤ (cap : Int) := by omega
  have m3 : (cap : Int) ≤ 9223372036854775807 := by omega
  by_cases ne : newE rr bb ff = 0
  · have PN := Lib.hid (fun w => pc.new w rr bb ff ne)
    have I0 := Lib.hid (new_in ne)
    have NE := Lib.hid ne
    have RB : Hid (0 ≤ rr ∧ rr ≤ 288230376151711744) := Lib.hid (by
      unfold newE at ne
      split at ne
      · rename_i q; exact q.1
      · cases ne)
    have PR := Lib.hid pc.read
    have PU := Lib.hid pc.upd
    have PF := Lib.hid pc.freq
    have PS := Lib.hid pc.spik
    have PK := Lib.hid pc.keep
    have PZ := Lib.hid pc.size
    clear pc hV hm
    go_enter Try.func3, Try.ntmps3
    go_wp2_with fail
    refine (AW.out _).mono ?_
    rintro e w1 ⟨rfl, hb⟩
    have B1 := Lib.hid hb
    clear hb AW
    go_wp2_with fail
    refine (PN.out _).mono ?_
    rintro e w2 ⟨⟨pa, X0, rfl, hk, hx⟩, hb⟩
    have B2 := Lib.hid (bstep B1.out hb)
    have K2 := Lib.hid hk
    have X2 : Hid (∀ i, X0 i → w.heap.size ≤ i ∧ i < w2.heap.size) := Lib.hid fun i hi => ⟨Nat.le_trans B1.out.size (hx i hi), PZ.out _ _ _ _ hk i hi⟩
    clear hb hk hx PN B1
    go_wp2_with fail
    refine (RN.out _).mono ?_
    rintro e w3 ⟨np, hb⟩
    rcases np with ⟨_, rfl, bk⟩ | ⟨z, _⟩
    case inr => exact absurd (NE.out ▸ z) (by decide)
    have D3 := Lib.hid bk
    have B3 := Lib.hid (bstep B2.out hb)
    have K3 := Lib.hid (PK.out _ w3 _ _ (fun _ => False) _ K2.out (tu_below hb) (fun _ _ z => z))
    obtain ⟨bd, hbd⟩ : ∃ b, w2.heap.size = b := ⟨_, rfl⟩
    rw [hbd] at D3 X2 ⊢
    have BD : Hid (w.heap.size ≤ bd) := Lib.hid (hbd ▸ B2.out.size)
    have X3 : Hid (∀ i, X0 i → w.heap.size ≤ i ∧ i ≠ bd) := Lib.hid fun i hi => ⟨(X2.out i hi).1, by have := (X2.out i hi).2; omega⟩
    clear hb bk hbd RN K2 B2 X2
    have pz : (some pa == (none : Option Addr)) = false := rfl
    go_wp2_with fail
    go_loopw [0, 13] (fun rv iv wr => ∃ (k : Nat) (r : Int) (X : Nat → Prop) (c : Clk), k ≤ m ∧ k ≤ 500 ∧ iv = .int .i64 (k : Nat) ∧ rv = .int .i64 r ∧ (-1154047404513689600 ≤ r ∧ r ≤ 1154047404513689600) ∧ K wr pa X c ∧ In k c ∧ Blk wr bd (kvs c) ∧ (∀ i, X i → w.heap.size ≤ i ∧ i ≠ bd) ∧ Below w.heap.size w wr) (fun _ iv _ => m - (intOf iv).toNat)
    case atStart => exact ⟨0, rr, X0, _, by omega, by omega, rfl, rfl, by have := RB.out; omega, K3.out, I0.out, D3.out, X3.out, B3.out⟩
    case round =>
      obtain ⟨k, r, X, c, hk, hk5, rfl, rfl, hr, hK, hI, hD, hX, hb⟩ := hrel
      rename World => wr
      have KR := Lib.hid hK
      have IR := Lib.hid hI
      have DR := Lib.hid hD
      have XR := Lib.hid hX
      have HB := Lib.hid hb
      clear hK hI hD hX hb K3 D3 X3 B3 I0
      by_cases c0 : k < m
      · have e1 : decide ((k : Int) < (m : Int)) = true := decide_eq_true (by omega)
        have e2 : decide (k < m) = true := decide_eq_true c0
        by_cases c5 : k < 500
        · have e3 : decide ((k : Int) < 500) = true := decide_eq_true (by omega)
          have e4 : decide (k < 500) = true := decide_eq_true c5
          have k1 : (k : Int) < (m : Int) := by omega
          have k0 : (0 : Int) ≤ (k : Int) := by omega
          have wk : IntKind.i64.wrap ((k : Int) + 1) = (k : Int) + 1 := wrap_in (by omega) (by omega)
          obtain ⟨x, hx⟩ : ∃ x, L[k]? = some x := ⟨_, List.getElem?_eq_getElem (by rw [HM.out]; exact c0)⟩
          have xi := HV.out x (List.mem_of_getElem? hx)
          obtain ⟨b, off, rfl, y0, y1, y2⟩ := (HS.out.below HB.out).at hx
          clear hx
          obtain ⟨xr, xm, xo⟩ := x
          unfold i64A at xi
          simp only at xi y0 y1 y2
          have NA := Lib.hid (Blk.new' wr #[.bool xr, .int .i64 xm, .int .i64 xo] 33)
          have hb2 := balloc (brefl wr) (.cells #[.bool xr, .int .i64 xm, .int .i64 xo] 33)
          have BA := Lib.hid (bstep HB.out hb2)
          have KA := Lib.hid (PK.out _ _ _ _ (fun _ => False) _ KR.out (tu_below hb2) (fun _ _ z => z))
          have DA := Lib.hid (DR.out.below hb2)
          have NL : Hid (bd ≠ wr.heap.size ∧ ∀ i, X i → i ≠ wr.heap.size) := Lib.hid ⟨Nat.ne_of_lt DR.out.1, fun i hi => Nat.ne_of_lt (PZ.out _ _ _ _ KR.out i hi)⟩
          obtain ⟨nb, hnb⟩ : ∃ b, wr.heap.size = b := ⟨_, rfl⟩
          rw [hnb] at NA NL
          clear hb2 HB KR DR
          go_upto_region 13 with fail
          try rw [hnb]
          clear hnb
          generalize wr.alloc (.cells #[.bool xr, .int .i64 xm, .int .i64 xo] 33) = wa at *
          have y0' := (NA.out.2 0 _ rfl).1
          have y1' := (NA.out.2 1 _ rfl).1
          have y2' := (NA.out.2 2 _ rfl).1
          clear y0 y1 y2
          by_cases t0 : 1125899906842624 < xm
          · have f0 := decide_eq_true t0
            go_wp2_with fail
            go_ret
            exact ⟨rfl, BA.out⟩
          · have f0 := decide_eq_false t0
            by_cases t1 : xm < -1125899906842624
            · have f1 := decide_eq_true t1
              go_wp2_with fail
              go_ret
              exact ⟨rfl, BA.out⟩
            · have f1 := decide_eq_false t1
              by_cases t2 : 1152921504606846976 < r
              · have f2 := decide_eq_true t2
                go_wp2_with fail
                go_ret
                exact ⟨rfl, BA.out⟩
              · have f2 := decide_eq_false t2
                by_cases t3 : r < -1152921504606846976
                · have f3 := decide_eq_true t3
                  go_wp2_with fail
                  go_ret
                  exact ⟨rfl, BA.out⟩
                · have f3 := decide_eq_false t3
                  have wq : IntKind.i64.wrap (r + xm) = r + xm := wrap_in (by omega) (by omega)
                  obtain ⟨rq, hrq⟩ : ∃ z, r + xm = z := ⟨_, rfl⟩
                  rw [hrq] at wq
                  have rq1 : -1154047404513689600 ≤ rq ∧ rq ≤ 1154047404513689600 := by omega
                  cases xr with
                  | true =>
                    have RP := Lib.hid (PR.out wa pa X c k rq KA.out (by omega) IR.out (by omega))
                    have RD := Lib.hid (fun W (q : Below wa.heap.size wa W) => rRead_c (DA.out.below q) (by omega) IR.out rq (by omega))
                    have KX : Hid (∀ W, Below wa.heap.size wa W → K W pa X c) := Lib.hid fun W q => PK.out _ W _ _ (fun _ => False) _ KA.out (tu_below q) (fun _ _ z => z)
                    have IC := Lib.hid (In.more IR.out (Nat.le_succ k))
                    have XC := XR
                    unfold rdE at RP RD
                    generalize (rdA c rq).1 = v1 at *
                    generalize (rdA c rq).2 = v2 at *
                    go_wp2_with fail
                    refine RP.out.mono ?_
                    rintro e w4 ⟨rfl, hb⟩
                    have q4 := Lib.hid hb
                    clear hb RP
                    go_wp2_with fail
                    refine (RD.out _ q4.out).mono ?_
                    rintro e wc ⟨rfl, hb⟩
                    have q5 : Below wa.heap.size wa wc := bstep q4.out hb
                    have KC := Lib.hid (KX.out _ q5)
                    have DC := Lib.hid (DA.out.below q5)
                    have BC := Lib.hid (bstep BA.out q5)
                    clear hb q4 q5 RD KX KA DA BA
                    have st : ∃ b, decide (c.state = 2) = b ∧ ((c.state : Int) == 2) = b := ⟨_, rfl, by by_cases q : c.state = 2 <;> simp [q]⟩
                    obtain ⟨sb, sb1, sb2⟩ := st
                    have KP : Hid (∀ W, Below wc.heap.size wc W → W.cell? ⟨bd, 5, none⟩ = some (.int .i64 c.freq) ∧ W.cell? ⟨bd, 6, none⟩ = some (.int .i64 c.state)) := Lib.hid fun W q => ⟨((DC.out.below q).2 5 _ rfl).1, ((DC.out.below q).2 6 _ rfl).1⟩
                    have F1 : Hid (∀ W, Below wc.heap.size wc W → Calls Try.prog 14 #[.pointer (some pa)] W fun e w' => e = .returned (.int .i64 c.freq) ∧ Below W.heap.size W w') := Lib.hid fun W q => PF.out _ _ _ _ (PK.out _ W _ _ (fun _ => False) _ KC.out (tu_below q) (fun _ _ z => z))
                    have F2 : Hid (∀ W, Below wc.heap.size wc W → Calls Try.prog 15 #[.pointer (some pa)] W fun e w' => e = .returned (.bool sb) ∧ Below W.heap.size W w') := Lib.hid fun W q => by
                      have := PS.out _ _ _ _ _ (PK.out _ W _ _ (fun _ => False) _ KC.out (tu_below q) (fun _ _ z => z)) IC.out
                      rw [sb1] at this
                      exact this
                    have GO : Hid (∀ W, Below wc.heap.size wc W → ∃ (X : Nat → Prop) (c : Clk), K W pa X c ∧ In (k + 1) c ∧ Blk W bd (kvs c) ∧ (∀ i, X i → w.heap.size ≤ i ∧ i ≠ bd) ∧ Below w.heap.size w W) := Lib.hid fun W q => ⟨X, _, PK.out _ W _ _ (fun _ => False) _ KC.out (tu_below q) (fun _ _ z => z), IC.out, DC.out.below q, XC.out, bstep BC.out q⟩
                    have hb0 : Below wc.heap.size wc wc.drew := (brefl wc).drew
                    clear KC DC IC XC BC sb1
                    generalize c.freq = cf at *
                    generalize c.state = cs at *
                    go_upto_region 25 with fail
                    go_region_held3 (fun W => W.cell? ⟨bd, 5, none⟩ = some (.int .i64 cf) ∧ W.cell? ⟨bd, 6, none⟩ = some (.int .i64 cs))
                      (first | exact KP.out _ (by assumption))
                      (first | (go_at_call 14; (with_reducible refine (F1.out _ (by assumption)).mono ?_); rintro e w4 ⟨rfl, hb⟩; replace hb := bstep (by assumption : Below wc.heap.size wc _) hb) | (go_at_call 15; (with_reducible refine (F2.out _ (by assumption)).mono ?_); rintro e w4 ⟨rfl, hb⟩; replace hb := bstep (by assumption : Below wc.heap.size wc _) hb))
                    rename World => w5
                    rename Below wc.heap.size wc w5 => hbx
                    obtain ⟨X', c', k', i', d', x', b'⟩ := GO.out _ hbx
                    clear hb0 KP F1 F2 GO hbx
                    go_wp2_with fail
                    exact ⟨⟨k + 1, _, X', c', by omega, by omega, by go_num, rfl, ⟨by omega, by omega⟩, k', i', d', x', b'⟩, by simp [intOf]; omega⟩
                  | false =>
                    have RP := Lib.hid (PU.out wa pa X c k rq xo KA.out (by omega) IR.out (by omega) (by omega))
                    have IC := Lib.hid (In.upd (by omega) IR.out rq xo)
                    have RD := Lib.hid (fun W (q : Blk W bd (kvs c)) => rUpdate_c q (by omega) IR.out rq xo (by omega) (by omega))
                    unfold udE at RP RD
                    generalize (Ck.upd c rq xo).2.1 = v1 at *
                    generalize (Ck.upd c rq xo).2.2 = v2 at *
                    generalize (Ck.upd c rq xo).1 = c' at *
                    have YL : Hid (∀ W, Tu X wa W → Blk W nb [.bool false, .int .i64 xm, .int .i64 xo] ∧ Blk W bd (kvs c)) := Lib.hid fun W q => ⟨tu_blk NA.out q (fun z => NL.out.2 _ z rfl), tu_blk DA.out q (fun z => (XR.out _ z).2 rfl)⟩
                    go_wp2_with fail
                    refine RP.out.mono ?_
                    rintro e w4 ⟨⟨rfl, X', hk', hx'⟩, ht⟩
                    obtain ⟨n4, d4⟩ := YL.out _ ht
                    have K4 := Lib.hid hk'
                    have B4 : Hid (Below w.heap.size w w4) := Lib.hid (BA.out.trans (ht.below (fun i hi => (XR.out i hi).1) BA.out.size))
                    have X4 : Hid (∀ i, X' i → w.heap.size ≤ i ∧ i ≠ bd) := Lib.hid fun i hi => by
                      rcases hx' i hi with q | q
                      · exact XR.out i q
                      · have := BA.out.size
                        have := DA.out.1
                        exact ⟨by omega, by omega⟩
                    have N4 := Lib.hid n4
                    have D4 := Lib.hid d4
                    have z2 := (n4.2 2 _ rfl).1
                    clear ht hk' hx' n4 d4 YL RP y0' y1' y2'
                    go_wp2_with fail
                    refine (RD.out _ D4.out).mono ?_
                    rintro e wc ⟨rfl, dk, ht⟩
                    have KC := Lib.hid (PK.out _ wc _ _ (Td bd) _ K4.out ht (fun i hi z => (X4.out i hi).2 z))
                    have DC := Lib.hid dk
                    have BC : Hid (Below w.heap.size w wc) := Lib.hid (B4.out.trans (ht.below (fun i hi => by unfold Td at hi; rw [hi]; exact BD.out) B4.out.size))
                    have XC := X4
                    clear ht dk z2 K4 B4 X4 N4 D4 RD KA DA BA XR IR
                    have st : ∃ b, decide (c'.state = 2) = b ∧ ((c'.state : Int) == 2) = b := ⟨_, rfl, by by_cases q : c'.state = 2 <;> simp [q]⟩
                    obtain ⟨sb, sb1, sb2⟩ := st
                    have KP : Hid (∀ W, Below wc.heap.size wc W → W.cell? ⟨bd, 5, none⟩ = some (.int .i64 c'.freq) ∧ W.cell? ⟨bd, 6, none⟩ = some (.int .i64 c'.state)) := Lib.hid fun W q => ⟨((DC.out.below q).2 5 _ rfl).1, ((DC.out.below q).2 6 _ rfl).1⟩
                    have F1 : Hid (∀ W, Below wc.heap.size wc W → Calls Try.prog 14 #[.pointer (some pa)] W fun e w' => e = .returned (.int .i64 c'.freq) ∧ Below W.heap.size W w') := Lib.hid fun W q => PF.out _ _ _ _ (PK.out _ W _ _ (fun _ => False) _ KC.out (tu_below q) (fun _ _ z => z))
                    have F2 : Hid (∀ W, Below wc.heap.size wc W → Calls Try.prog 15 #[.pointer (some pa)] W fun e w' => e = .returned (.bool sb) ∧ Below W.heap.size W w') := Lib.hid fun W q => by
                      have := PS.out _ _ _ _ _ (PK.out _ W _ _ (fun _ => False) _ KC.out (tu_below q) (fun _ _ z => z)) IC.out
                      rw [sb1] at this
                      exact this
                    have GO : Hid (∀ W, Below wc.heap.size wc W → ∃ (X : Nat → Prop) (c : Clk), K W pa X c ∧ In (k + 1) c ∧ Blk W bd (kvs c) ∧ (∀ i, X i → w.heap.size ≤ i ∧ i ≠ bd) ∧ Below w.heap.size w W) := Lib.hid fun W q => ⟨X', _, PK.out _ W _ _ (fun _ => False) _ KC.out (tu_below q) (fun _ _ z => z), IC.out, DC.out.below q, XC.out, bstep BC.out q⟩
                    have hb0 : Below wc.heap.size wc wc.drew := (brefl wc).drew
                    clear KC DC IC XC BC sb1
                    generalize c'.freq = cf at *
                    generalize c'.state = cs at *
                    go_upto_region 25 with fail
                    go_region_held3 (fun W => W.cell? ⟨bd, 5, none⟩ = some (.int .i64 cf) ∧ W.cell? ⟨bd, 6, none⟩ = some (.int .i64 cs))
                      (first | exact KP.out _ (by assumption))
                      (first | (go_at_call 14; (with_reducible refine (F1.out _ (by assumption)).mono ?_); rintro e w4 ⟨rfl, hb⟩; replace hb := bstep (by assumption : Below wc.heap.size wc _) hb) | (go_at_call 15; (with_reducible refine (F2.out _ (by assumption)).mono ?_); rintro e w4 ⟨rfl, hb⟩; replace hb := bstep (by assumption : Below wc.heap.size wc _) hb))
                    rename World => w5
                    rename Below wc.heap.size wc w5 => hbx
                    obtain ⟨X2, c2, k', i', d', x', b'⟩ := GO.out _ hbx
                    clear hb0 KP F1 F2 GO hbx
                    go_wp2_with fail
                    exact ⟨⟨k + 1, _, X2, c2, by omega, by omega, by go_num, rfl, ⟨by omega, by omega⟩, k', i', d', x', b'⟩, by simp [intOf]; omega⟩
        · have e3 : decide ((k : Int) < 500) = false := decide_eq_false (by omega)
          have e4 : decide (k < 500) = false := decide_eq_false c5
          go_wp2_with fail
          go_ret
          exact ⟨rfl, HB.out⟩
      · have e1 : decide ((k : Int) < (m : Int)) = false := decide_eq_false (by omega)
        have e2 : decide (k < m) = false := decide_eq_false c0
        go_wp2_with fail
        go_ret
        exact ⟨rfl, HB.out⟩
  · have PB := Lib.hid (fun w => pc.bad w rr bb ff ne)
    clear pc hV hm
    go_enter Try.func3, Try.ntmps3
    go_wp2_with fail
    refine (AW.out _).mono ?_
    rintro e w1 ⟨rfl, hb⟩
    have B1 := Lib.hid hb
    clear hb AW
    go_wp2_with fail
    refine (PB.out _).mono ?_
    rintro e w2 ⟨rfl, hb⟩
    have B2 := Lib.hid (bstep B1.out hb)
    clear hb PB B1
    go_wp2_with fail
    refine (RN.out _).mono ?_
    rintro e w3 ⟨np, hb⟩
    rcases np with ⟨z, _⟩ | ⟨_, rfl⟩
    case inl => exact absurd z ne
    have B3 := Lib.hid (bstep B2.out hb)
    clear hb RN B2
    go_wp2_with fail
    go_ret
    exact ⟨rfl, B3.out⟩
set_option maxRecDepth 100000 in
theorem lifted (os : Os) (started : os.Started) (H : Type) (enc : TypeId × Value → H) :
    ReturnsInHanded {} Try.checked os 3 .any (Rows.clockPlaysSpec.pre6 enc Try.prog Try.f3 Rows.clockPlaysRow.domain false) (Rows.clockPlaysSpec.post enc Try.prog Try.f3 false true false false) := by
  refine returnsInHanded_of_change_sized (C := Try.checked) own started (by kernel_rfl) Try.func3
    (ChangeSpec.witness6 (enc := enc) (C := Try.checked) false ⟨#[], #[.int .i64 0, .int .i64 0, .int .i64 0, .slice none 0 0], []⟩ 8 (by kernel_rfl) (by kernel_rfl) (by kernel_rfl) (by kernel_rfl)) ?_
  intro W base args ds gs before hval0 hW hcnd hsz0 _
  have hsz : (DataW.weightsEach Try.prog (Try.f3.params.toList ++ Rows.clockPlaysSpec.plain.varTypes Try.prog) (ds ++ gs)).all (· ≤ reachBytes) = true := hsz0
  have hval : ∀ (j : Nat) t v, Try.f3.params[j]? = some t → args[j]? = some v → Value.okWide Try.prog W .any base t v := hval0
  have hW' := hW
  obtain ⟨p, q, hA0, hV, rfl, hfz, hnd⟩ := hW
  have hA : DataW.TrodAll enc Try.prog W 0 (fun _ => true) true Try.f3.params.toList args.toList ds p := hA0
  rw [Try.params3] at hA hval hsz
  obtain ⟨v0, vs0, d0, ds0, p0, q0, hargs, rfl, rfl, h0, r0⟩ := trodAll_cons hA
  obtain ⟨v1, vs1, d1, ds1, p1, q1, rfl, rfl, rfl, h1, r1⟩ := trodAll_cons r0
  obtain ⟨v2, vs2, d2, ds2, p2, q2, rfl, rfl, rfl, h2, r2⟩ := trodAll_cons r1
  obtain ⟨v3, vs3, d3, ds3, p3, q3, rfl, rfl, rfl, h3, r3⟩ := trodAll_cons r2
  obtain ⟨rfl, rfl, rfl⟩ := trodAll_nil r3
  obtain rfl : args = #[v0, v1, v2, v3] := by cases args; simp_all
  obtain ⟨rfl, rfl⟩ := trodVars_none hV
  have h0k := h0
  have hlt0 : ∀ x ∈ p0, x.block < W.heap.size := fun x hx => by have := hW'.lt x (by simp [hx]); simpa using this
  have h1k := h1
  have hlt1 : ∀ x ∈ p1, x.block < W.heap.size := fun x hx => by have := hW'.lt x (by simp [hx]); simpa using this
  have h2k := h2
  have hlt2 : ∀ x ∈ p2, x.block < W.heap.size := fun x hx => by have := hW'.lt x (by simp [hx]); simpa using this
  have h3k := h3
  have hlt3 : ∀ x ∈ p3, x.block < W.heap.size := fun x hx => by have := hW'.lt x (by simp [hx]); simpa using this
  have hb3 : ∀ es sp, d3 = .slice es sp → (es.length + sp.length) * Try.prog.bytesOf 33 ≤ reachBytes := by
    intro es sp he
    exact sized_slice hsz (j := 3) (t := 23) (e := 33) rfl (by rw [he]; rfl) Try.underlying23
  obtain ⟨z0, rfl, _, _, g0⟩ := open_int Try.underlying22 (hval 0 22 v0 rfl rfl) h0
  obtain ⟨z1, rfl, _, _, g1⟩ := open_int Try.underlying22 (hval 1 22 v1 rfl rfl) h1
  obtain ⟨z2, rfl, _, _, g2⟩ := open_int Try.underlying3 (hval 2 3 v2 rfl rfl) h2
  obtain ⟨L3, g3⟩ := open_acts (hval 3 23 v3 rfl rfl) h3 hb3
  clear hA0 hval0
  simp only [List.append_nil] at hW'
  refine (walk pc z0 z1 z2 v3 L3 W g0 g1 g2 g3).mono fun e W' ⟨he, hg⟩ => ?_
  subst he
  exact ⟨_, rfl, _, _, _, [], _, [], hW', trodAll_cons_mk (shut_bool Try.underlying4 _) trodAll_mk0,
    (trodAll_cons_mk (Below.trod laidOut (by kernel_rfl) (of_decide_eq_true (by kernel_rfl)) h0k hg hlt0) (trodAll_cons_mk (Below.trod laidOut (by kernel_rfl) (of_decide_eq_true (by kernel_rfl)) h1k hg hlt1) (trodAll_cons_mk (Below.trod laidOut (by kernel_rfl) (of_decide_eq_true (by kernel_rfl)) h2k hg hlt2) (trodAll_cons_mk (Below.trod laidOut (by kernel_rfl) (of_decide_eq_true (by kernel_rfl)) h3k hg hlt3) trodAll_mk0)))), rfl, hg.frame _, fun h => nomatch h⟩

theorem over : Rows.clockPlaysRow.holds Try.pinned (OpenSpec.ofChange Rows.clockPlaysSpec) :=
  OpenClaim.holds_of_wide 3 Try.f3 rfl rfl rfl rfl rfl rfl rfl ⟨rfl, rfl, rfl, rfl, rfl⟩ rfl rfl rfl rfl rfl (by kernel_rfl) Try.func3 (by kernel_rfl)
    (of_decide_eq_true (by kernel_rfl)) (by unfold Func.isWrapper; first | (rw [if_pos (by decide +kernel)]; kernel_rfl) | (rw [if_neg (by decide +kernel)]; exact ⟨rfl, rfl⟩))
    (fun os started H enc _ => lifted os started H enc)

theorem proved : Rows.ClockPlaysSaid :=
  over
end Go.Proofs.Ytojcckikgnbgiaa.clockPlays
