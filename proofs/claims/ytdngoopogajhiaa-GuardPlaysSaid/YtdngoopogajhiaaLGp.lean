/-
  GuardPlays: A guard lets pass, drops and remembers just as the document says, packet by packet. The law returns true for every input, and the input reads as it did.
  Conditions: none.
-/
import Derived.Test.YtdngoopogajhiaaRows
import Derived.Test.YtdngoopogajhiaaGuE
import Derived.Test.YtdngoopogajhiaaGuF
import Derived.Test.YtdngoopogajhiaaGuG
import Derived.Test.YtdngoopogajhiaaGuC
import Derived.Test.YtdngoopogajhiaaGuD
import Derived.Test.YtdngoopogajhiaaGuZ
import Derived.SizedLaws
import Derived.Lib.SmallJoins
namespace Go.Proofs.Ytdngoopogajhiaa.guardPlays
open Go.ChangeShapes Go.WideShapes Go.ChangeAt Go.RowKit Go.Joins Fl Gu
set_option linter.unusedVariables false
set_option linter.unusedSimpArgs false

theorem own : ownKnob Try.prog.godebug = none := by kernel_rfl
theorem laidOut : laidOutB Try.prog = true := by kernel_rfl

theorem there_set {w : World} {g o n : Nat} (h : w.there g o n) (i : Nat) (v : Value) : (w.setCell ⟨g, i, none⟩ v).there g o n := fun j hj => by
  obtain ⟨h1, h2⟩ := h j hj
  rw [World.frozen?_setCell]
  refine ⟨?_, h2⟩
  by_cases c : o + j = i
  · subst c
    rw [World.cell?_setCell_same' _ _ _ h1]
    rfl
  · rw [World.cell?_setCell_other _ _ _ _ (fun q => c (by simpa using (congrArg Addr.off q).symm))]
    exact h1
theorem there_keep {w w' : World} {g o n : Nat} (h : w.there g o n) (e : w'.heap[g]? = w.heap[g]?) : w'.there g o n := fun j hj => by
  obtain ⟨h1, h2⟩ := h j hj
  rw [World.cell?_of_block (a := ⟨g, o + j, none⟩) e, World.frozen?_of_block (a := ⟨g, o + j, none⟩) e]
  exact ⟨h1, h2⟩
theorem there_at {w : World} {g n i : Nat} (h : w.there g 0 n) (hi : i < n) : ∃ v, w.cell? ⟨g, i, none⟩ = some v ∧ w.frozen? ⟨g, i, none⟩ = false := by
  obtain ⟨h1, h2⟩ := h i hi
  rw [Nat.zero_add] at h1 h2
  obtain ⟨v, hv⟩ := Option.isSome_iff_exists.1 h1
  exact ⟨v, hv, h2⟩
/-- a row that may be written over: its block g. -/
def Ov (w : World) (base : Nat) (v : Value) (n k g : Nat) : Prop := ∃ a c, v = .slice a n c ∧ n ≤ c ∧ c ≤ 9223372036854775807 ∧ (0 < n → a = some ⟨g, 0, none⟩ ∧ base ≤ g ∧ g < w.heap.size ∧ w.there g 0 (n * k))
theorem ov_own {α : Type} {t : TypeId} {enc : α → List Value} {k : Nat} {w : World} {base : Nat} {v : Value} {L : List α} (h : Gn.Own t enc k w base v L) : ∃ g, Ov w base v L.length k g := by
  rcases h.2 with ⟨hv, h0⟩ | ⟨g, cap, cur, hv, hb, hh, hc, hm, hcs, ht⟩
  · exact ⟨0, none, 0, by rw [hv, h0], by omega, by omega, fun hn => by omega⟩
  · refine ⟨g, _, cap, hv, hc, by unfold maxLen at hm; omega, fun hn => ⟨rfl, hb, (Array.getElem?_eq_some_iff.1 hh).1, fun j hj => ⟨?_, frozen_of_row w g _ cur _ hh⟩⟩⟩
    have l : L.length * k ≤ cap * k := Nat.mul_le_mul_right k hc
    have : j < cur.size := by rw [hcs]; omega
    simp [World.cell?, hh, this]
theorem ov_rw {w w' : World} {v : Value} {L : List Ho} (h : Rw w w' v L) : ∃ g, Ov w' w.heap.size v L.length 4 g := by
  by_cases c : 0 < L.length
  · exact ov_own (h.2 c)
  · obtain ⟨a, cap, e, h1, h2, _⟩ := h.1
    exact ⟨0, a, cap, e, h1, h2, fun z => absurd z c⟩
/-- the blocks that are written: g, if there is anything to write. -/
def Wg (n g : Nat) : Nat → Prop := fun i => 0 < n ∧ i = g
theorem tu_wg {n g : Nat} (hn : 0 < n) {w w' : World} (h : Tu (Wg n g) w w') (i : Nat) (v : Value) : Tu (Wg n g) w (w'.setCell ⟨g, i, none⟩ v) := h.tr (tu_set (X := Wg n g) ⟨hn, rfl⟩) (fun _ _ q => q)
theorem dg_hosts {w : World} {b : Nat} {Z : Nat → Prop} {G : Gd} (h : DG w b Z G) : ∃ a c, w.cell? ⟨b, 1, none⟩ = some (.slice a G.hosts.length c) ∧ Gn.Ss hvs 4 w (.slice a G.hosts.length c) G.hosts := by
  obtain ⟨rv, hv, h1, _, _, h4, _⟩ := h
  have k := (h1.2 1 _ rfl).1
  have h4' := h4
  obtain ⟨a, c, e, _⟩ := h4
  rw [e] at k h4'
  exact ⟨a, c, k, h4'⟩
theorem dg_own {w : World} {b : Nat} {Z : Nat → Prop} {G : Gd} (h : DG w b Z G) : Z b ∧ ∀ i, Z i → i < w.heap.size := by
  obtain ⟨_, _, _, h2, _, _, _, _, h7⟩ := h
  exact ⟨h2, h7⟩
set_option maxRecDepth 100000 in
set_option maxHeartbeats 16000000 in
theorem walk {K : World → Addr → (Nat → Prop) → Gd → Prop} (pc : PC K) (v : Value) (L : List Ru) (v' : Value) (M : List Ac) (w : World) (g0 : Gn.Ss rvs 3 w v L ∧ (∀ s ∈ L, uR s) ∧ L.length * 16 ≤ 140737488351232) (g1 : Gn.Ss avs 3 w v' M ∧ (∀ s ∈ M, uA s) ∧ M.length * 24 ≤ 140737488351232) :
    Calls Try.prog 3 #[v, v'] w fun e w' => e = .returned (.bool true) ∧ Below w.heap.size w w' := by
  have AW := Lib.hid (awake18_c pc)
  obtain ⟨hA, hV, hN⟩ := g0
  obtain ⟨gA, gV, gN⟩ := g1
  have HS := Lib.hid hA
  have HV := Lib.hid hV
  have GS := Lib.hid gA
  have GV := Lib.hid gV
  have RC := Lib.hid (fun W (q : Below w.heap.size w W) => rules_c (hA.below q) hN)
  have RN := Lib.hid (fun W (q : Below w.heap.size w W) => rNew_c (hA.below q))
  obtain ⟨oa0, oc0, rfl, _, _, _⟩ := hA
  obtain ⟨ga, gc, rfl, c1, c2, _⟩ := gA
  obtain ⟨m, hm⟩ : ∃ m, M.length = m := ⟨_, rfl⟩
  have HM := Lib.hid hm
  rw [hm] at GS c1 gN ⊢
  have m0 : (0 : Int) ≤ (m : Int) := by omega
  have m2 : (m : Int) ≤ (gc : Int) := by omega
  have m3 : (gc : Int) ≤ 9223372036854775807 := by omega
  have PCH := Lib.hid pc
  clear pc hm hV gV gN c1 c2
  go_enter Try.func3, Try.ntmps3
  go_wp2_with fail
  refine (AW.out _).mono ?_
  rintro e w1 ⟨rfl, hb⟩
  have B1 := Lib.hid hb
  clear hb AW
  go_wp2_with fail
  refine (RC.out _ B1.out).mono ?_
  rintro e w2 ⟨⟨u, rfl, ho⟩, hb⟩
  have B2 := Lib.hid (bstep B1.out hb)
  obtain ⟨g, oa, oc, rfl, o1, o2, o3⟩ := ov_own ho
  have O2 := Lib.hid (ho.ss okr)
  have OV : Hid (0 < L.length → oa = some ⟨g, 0, none⟩ ∧ w.heap.size ≤ g ∧ g < w2.heap.size ∧ w2.there g 0 (L.length * 3)) := Lib.hid fun z => by
    obtain ⟨p1, p2, p3, p4⟩ := o3 z
    exact ⟨p1, Nat.le_trans B1.out.size p2, p3, p4⟩
  have n3 : (oc : Int) ≤ 9223372036854775807 := by omega
  have n2 : (L.length : Int) ≤ (oc : Int) := by omega
  clear ho hb o1 o2 o3 RC B1
  by_cases ok : okS L
  · have PN := Lib.hid (PCH.out.new w2 _ L O2.out HV.out ok)
    have I0 := Lib.hid (new_in HV.out ok)
    go_wp2_with fail
    refine PN.out.mono ?_
    rintro e w3 ⟨⟨pa, X0, rfl, hk, hx⟩, hb⟩
    have B3 := Lib.hid (bstepB B2.out (hb.mono B2.out.size))
    have Q3 := Lib.hid hb
    have K3 := Lib.hid hk
    have X3 := Lib.hid hx
    clear hb hk hx PN
    go_wp2_with fail
    refine (RN.out _ B3.out).mono ?_
    rintro e w4 ⟨hp, hb⟩
    rcases hp with ⟨_, b, Z0, rfl, hbz, hd, hz⟩ | ⟨no, _⟩
    rotate_left
    · exact absurd ok no
    have B4 := Lib.hid (bstepB B3.out (hb.mono B3.out.size))
    have K4 := Lib.hid (PCH.out.keep _ _ _ _ _ _ K3.out (tu_below (X := fun _ => False) hb) (fun _ _ z => z))
    have D4 := Lib.hid hd
    have Z4 := Lib.hid hz
    have XZ : Hid (∀ i, X0 i → ¬ Z0 i) := Lib.hid fun i hi hj => by
      have := PCH.out.size _ _ _ _ K3.out i hi
      have := hz i hj
      omega
    have OV4 : Hid (0 < L.length → oa = some ⟨g, 0, none⟩ ∧ w.heap.size ≤ g ∧ g < w4.heap.size ∧ w4.there g 0 (L.length * 3) ∧ ¬ X0 g ∧ ¬ Z0 g) := Lib.hid fun z => by
      obtain ⟨p1, p2, p3, p4⟩ := OV.out z
      have s3 := Q3.out.size
      have s4 := hb.size
      exact ⟨p1, p2, by omega, there_keep p4 ((hb.block g (by omega)).trans (Q3.out.block g p3)), fun q => by have := X3.out g q; omega, fun q => by have := hz g q; omega⟩
    have XB : Hid (∀ i, X0 i → w.heap.size ≤ i) := Lib.hid fun i hi => Nat.le_trans B2.out.size (X3.out i hi)
    have ZB : Hid (∀ i, Z0 i → w.heap.size ≤ i) := Lib.hid fun i hi => Nat.le_trans B3.out.size (hz i hi)
    clear hb hd hz K3 X3 OV RN Q3 O2 B3
    generalize hG0 : newG L = G0 at *
    obtain ⟨n, hn⟩ : ∃ n, L.length = n := ⟨_, rfl⟩
    rw [hn] at OV4 n2
    rw [hn]
    have n0 : (0 : Int) ≤ (n : Int) := by omega
    go_wp2_with fail
    go_loopw [10] (fun iv wr => ∃ k : Nat, k ≤ n ∧ iv = .int .i64 (k : Nat) ∧ (0 < n → wr.there g 0 (n * 3)) ∧ Tu (Wg n g) w4 wr) (fun iv _ => n - (intOf iv).toNat)
    case atStart => exact ⟨0, by omega, rfl, fun z => (OV4.out z).2.2.2.1, Tu.rf _ _⟩
    case round =>
      obtain ⟨k, hk, rfl, hth, htu⟩ := hrel
      rename World => wr
      have TR := Lib.hid htu
      have TH := Lib.hid hth
      clear htu hth
      by_cases c : k < n
      · have e1 : decide ((k : Int) < (n : Int)) = true := decide_eq_true (by omega)
        have e2 : decide (k < n) = true := decide_eq_true c
        have k1 : (k : Int) < (n : Int) := by omega
        have k0 : (0 : Int) ≤ (k : Int) := by omega
        have wk : IntKind.i64.wrap ((k : Int) + 1) = (k : Int) + 1 := wrap_in (by omega) (by omega)
        have np : 0 < n := by omega
        obtain ⟨rfl, _⟩ := OV4.out np
        obtain ⟨x0, p0, q0⟩ := there_at (TH.out np) (i := k * 3) (by omega)
        obtain ⟨x1, p1, q1⟩ := there_at (TH.out np) (i := k * 3 + 1) (by omega)
        obtain ⟨x2, p2, q2⟩ := there_at (TH.out np) (i := k * 3 + 2) (by omega)
        have TN := Lib.hid (there_set (there_set (there_set (TH.out np) (k * 3) (.int .u32 0)) (k * 3 + 1) (.int .u32 0)) (k * 3 + 2) (.int .i64 127))
        have UN := Lib.hid (tu_wg np (tu_wg np (tu_wg np TR.out (k * 3) (.int .u32 0)) (k * 3 + 1) (.int .u32 0)) (k * 3 + 2) (.int .i64 127))
        go_wp2_with fail
        exact ⟨⟨k + 1, by omega, by go_num, fun _ => TN.out, UN.out⟩, by simp [intOf]; omega⟩
      · have e1 : decide ((k : Int) < (n : Int)) = false := decide_eq_false (by omega)
        have e2 : decide (k < n) = false := decide_eq_false c
        have nX : ∀ i, X0 i → ¬ Wg n g i := fun i hi z => (OV4.out z.1).2.2.2.2.1 (z.2 ▸ hi)
        have nZ : ∀ i, Z0 i → ¬ Wg n g i := fun i hi z => (OV4.out z.1).2.2.2.2.2 (z.2 ▸ hi)
        have K5 := Lib.hid (PCH.out.keep _ _ _ _ _ _ K4.out TR.out nX)
        have D5 := Lib.hid (D4.out.keep TR.out nZ)
        have B5 : Hid (Below w.heap.size w wr) := Lib.hid (B4.out.trans (TR.out.below (fun i z => z.2 ▸ (OV4.out z.1).2.1) B4.out.size))
        clear nX nZ K4 D4 TR TH OV4 B4 B2 Z4 hn n2 n3
        generalize hwr : wr = w5 at *
        go_wp2_with fail
        obtain ⟨GX, hGX⟩ : ∃ X : Prop, X = True := ⟨_, rfl⟩
        clear GX hGX
        go_loopw [11, 12] (fun rv iv ws => ∃ (k : Nat) (r : Int) (X Z : Nat → Prop) (G : Gd), k ≤ m ∧ k ≤ 500 ∧ iv = .int .i64 (k : Nat) ∧ rv = .int .i64 r ∧ (-1154047404513689600 ≤ r ∧ r ≤ 1154047404513689600) ∧ K ws pa X G ∧ DG ws b Z G ∧ In k G ∧ (∀ i, X i → ¬ Z i) ∧ (∀ i, X i → w.heap.size ≤ i) ∧ (∀ i, Z i → w.heap.size ≤ i) ∧ Below w.heap.size w ws) (fun _ iv _ => m - (intOf iv).toNat)
        case atStart => exact ⟨0, 0, X0, Z0, G0, by omega, by omega, rfl, rfl, ⟨by decide, by decide⟩, K5.out, D5.out, I0.out, XZ.out, XB.out, ZB.out, B5.out⟩
        case round =>
          clear K5 D5 I0 XZ XB ZB B5
          obtain ⟨k, r, X, Z, G, hk, hk5, rfl, rfl, hr, hK, hD, hI, hXZ, hX, hZ, hb⟩ := hrel
          rename World => ws
          have KR := Lib.hid hK
          have DR := Lib.hid hD
          have IR := Lib.hid hI
          have XZ := Lib.hid hXZ
          have XB := Lib.hid hX
          have ZB := Lib.hid hZ
          have BR := Lib.hid hb
          clear hK hD hI hXZ hX hZ hb
          by_cases c0 : k < m
          · have e1 : decide ((k : Int) < (m : Int)) = true := decide_eq_true (by omega)
            have e2 : decide (k < m) = true := decide_eq_true c0
            by_cases c5 : k < 500
            · have e3 : decide ((k : Int) < 500) = true := decide_eq_true (by omega)
              have e4 : decide (k < 500) = true := decide_eq_true c5
              have k1 : (k : Int) < (m : Int) := by omega
              have k0 : (0 : Int) ≤ (k : Int) := by omega
              have wk : IntKind.i64.wrap ((k : Int) + 1) = (k : Int) + 1 := wrap_in (by omega) (by omega)
              obtain ⟨x, hx⟩ : ∃ x, M[k]? = some x := ⟨_, List.getElem?_eq_getElem (by rw [HM.out]; exact c0)⟩
              have UX := GV.out x (List.mem_of_getElem? hx)
              obtain ⟨bb, off, rfl, _, hR⟩ := (GS.out.below BR.out).at hx
              have y0 := hR 0 _ rfl
              have y1 := hR 1 _ rfl
              have y2 := hR 2 _ rfl
              rw [Nat.add_zero] at y0
              clear hR hx
              obtain ⟨xa, xm, xo⟩ := x
              obtain ⟨u1, u2, u3⟩ := UX
              simp only at y0 y1 y2 u1 u2 u3
              have NA := Lib.hid (Blk.new' ws #[.int .u32 xa, .int .i64 xm, .int .i64 xo] 39)
              have BA := Lib.hid (balloc BR.out (.cells #[.int .u32 xa, .int .i64 xm, .int .i64 xo] 39))
              have QA := Lib.hid (balloc (brefl ws) (.cells #[.int .u32 xa, .int .i64 xm, .int .i64 xo] 39))
              go_upto_region 19 with fail
              generalize ws.alloc (.cells #[.int .u32 xa, .int .i64 xm, .int .i64 xo] 39) = wa at *
              clear y0 y1 y2
              have x0 := (NA.out.2 0 _ rfl).1
              have x1 := (NA.out.2 1 _ rfl).1
              have x2 := (NA.out.2 2 _ rfl).1
              have KA := Lib.hid (PCH.out.keep _ _ _ _ _ _ KR.out (tu_below (X := fun _ => False) QA.out) (fun _ _ z => z))
              have DA := Lib.hid (DR.out.below QA.out)
              have XA : Hid (∀ i, X i → i < ws.heap.size) := Lib.hid (PCH.out.size _ _ _ _ KR.out)
              have ZA : Hid (∀ i, Z i → i < ws.heap.size) := Lib.hid (dg_own DR.out).2
              have HA : Hid (ws.heap.size < wa.heap.size) := Lib.hid NA.out.1
              have HWS : Hid (w.heap.size ≤ ws.heap.size) := Lib.hid BR.out.size
              generalize hha : ws.heap.size = ha at *
              clear QA KR DR BR hha
              by_cases t0 : 1125899906842624 < xo
              · have f0 := decide_eq_true t0
                go_wp2_with fail
                go_ret
                exact ⟨rfl, BA.out⟩
              · have f0 := decide_eq_false t0
                by_cases t1 : xo < -1125899906842624
                · have f1 := decide_eq_true t1
                  go_wp2_with fail
                  go_ret
                  exact ⟨rfl, BA.out⟩
                · have f1 := decide_eq_false t1
                  by_cases t2 : 1152921504606846976 < r
                  · have f2 := decide_eq_true t2
                    go_wp2_with fail
                    go_ret
                    exact ⟨rfl, BA.out⟩
                  · have f2 := decide_eq_false t2
                    by_cases t3 : r < -1152921504606846976
                    · have f3 := decide_eq_true t3
                      go_wp2_with fail
                      go_ret
                      exact ⟨rfl, BA.out⟩
                    · have f3 := decide_eq_false t3
                      have R1 : -1154047404513689600 ≤ r + xo ∧ r + xo ≤ 1154047404513689600 := by omega
                      obtain ⟨r', hr'⟩ : ∃ z, r + xo = z := ⟨_, rfl⟩
                      have wr' : IntKind.i64.wrap (r + xo) = r' := by rw [← hr']; exact wrap_in (by omega) (by omega)
                      rw [hr'] at R1
                      have PA := Lib.hid (PCH.out.ask wa pa X G k xa xm r' KA.out (by omega) IR.out u1 u2 ⟨by omega, by omega⟩)
                      have I2 := Lib.hid (IR.out.ask u1 xm r')
                      clear hr' t0 t1 t2 t3 KA
                      go_wp2_with fail
                      refine PA.out.mono ?_
                      rintro e w6 ⟨⟨rfl, X', hK, hX'⟩, hT⟩
                      have K6 := Lib.hid hK
                      have D6 := Lib.hid (DA.out.keep hT (fun i hi hj => XZ.out i hj hi))
                      have N6 : Hid (Blk w6 ha [.int .u32 xa, .int .i64 xm, .int .i64 xo]) := Lib.hid (blk_keep NA.out (hT.block _ HA.out (fun q => Nat.lt_irrefl _ (XA.out _ q))) hT.size)
                      have B6 : Hid (Below w.heap.size w w6) := Lib.hid (BA.out.trans (hT.below XB.out BA.out.size))
                      have X6 : Hid (∀ i, X' i → w.heap.size ≤ i) := Lib.hid fun i hi => (hX' i hi).elim (XB.out i) (fun q => Nat.le_trans BA.out.size q)
                      have XZ6 : Hid (∀ i, X' i → ¬ Z i) := Lib.hid fun i hi hj => (hX' i hi).elim (fun q => XZ.out i q hj) (fun q => by have := ZA.out i hj; have := HA.out; omega)
                      clear hK hX' hT PA NA BA XB XZ DA XA x0 x1 x2
                      obtain ⟨x0, x1, x2⟩ : w6.cell? ⟨ha, 0, none⟩ = some (.int .u32 xa) ∧ w6.cell? ⟨ha, 1, none⟩ = some (.int .i64 xm) ∧ w6.cell? ⟨ha, 2, none⟩ = some (.int .i64 xo) := ⟨(N6.out.2 0 _ rfl).1, (N6.out.2 1 _ rfl).1, (N6.out.2 2 _ rfl).1⟩
                      have RA := Lib.hid (rAsk_c D6.out (by omega) IR.out xa u1 xm r')
                      have HZ2 : Hid (∀ G' : Gd, askG G xa xm r' = G' → In (k + 1) G') := Lib.hid fun G' e => e ▸ I2.out
                      generalize askV G xa xm r' = z1 at *
                      generalize askX G xm r' = z2 at *
                      generalize hG2 : askG G xa xm r' = G2 at *
                      clear IR I2
                      have I2 := Lib.hid (HZ2.out _ rfl)
                      clear HZ2 hG2
                      go_wp2_with fail
                      refine RA.out.mono ?_
                      rintro e w7 ⟨⟨rfl, Z', hD, hZ'⟩, hT⟩
                      have bZ : Hid (Z b) := Lib.hid (dg_own D6.out).1
                      have XS := PCH.out.size _ _ _ _ K6.out
                      have K7 := Lib.hid (PCH.out.keep _ _ _ _ _ _ K6.out hT (fun i hi hj => XZ6.out i hi (by rw [show i = b from hj]; exact bZ.out)))
                      have D7 := Lib.hid hD
                      have N7 : Hid (Blk w7 ha [.int .u32 xa, .int .i64 xm, .int .i64 xo]) := Lib.hid (blk_keep N6.out (hT.block _ N6.out.1 (fun q => by have := ZA.out b bZ.out; rw [show ha = b from q] at this; exact Nat.lt_irrefl _ this)) hT.size)
                      have B7 : Hid (Below w.heap.size w w7) := Lib.hid (B6.out.trans (hT.below (fun i q => by rw [show i = b from q]; exact ZB.out b bZ.out) B6.out.size))
                      have Z7 : Hid (∀ i, Z' i → w.heap.size ≤ i) := Lib.hid fun i hi => (hZ' i hi).elim (ZB.out i) (fun q => Nat.le_trans B6.out.size q)
                      have XZ7 : Hid (∀ i, X' i → ¬ Z' i) := Lib.hid fun i hi hj => (hZ' i hj).elim (XZ6.out i hi) (fun q => by have := XS i hi; omega)
                      clear hD hZ' hT RA N6 B6 K6 D6 XZ6 ZB ZA bZ XS x0 x1 x2
                      obtain ⟨x0, x1, x2⟩ : w7.cell? ⟨ha, 0, none⟩ = some (.int .u32 xa) ∧ w7.cell? ⟨ha, 1, none⟩ = some (.int .i64 xm) ∧ w7.cell? ⟨ha, 2, none⟩ = some (.int .i64 xo) := ⟨(N7.out.2 0 _ rfl).1, (N7.out.2 1 _ rfl).1, (N7.out.2 2 _ rfl).1⟩
                      have PF := Lib.hid (PCH.out.flags w7 pa X' G2 (k + 1) xa K7.out I2.out u1)
                      go_wp2_with fail
                      refine PF.out.mono ?_
                      rintro e w8 ⟨rfl, hb⟩
                      have K8 := Lib.hid (PCH.out.keep _ _ _ _ _ _ K7.out (tu_below (X := fun _ => False) hb) (fun _ _ z => z))
                      have D8 := Lib.hid (D7.out.below hb)
                      have N8 := Lib.hid (N7.out.below hb)
                      have B8 := Lib.hid (bstepB B7.out (hb.mono B7.out.size))
                      clear hb PF K7 D7 N7 B7 x0 x1 x2
                      have PL := Lib.hid (PCH.out.list w8 pa X' G2 (k + 1) K8.out I2.out)
                      go_wp2_with fail
                      refine PL.out.mono ?_
                      rintro e w9 ⟨⟨lv, rfl, hrw⟩, hb⟩
                      obtain ⟨lg, la, lc, rfl, l1, l2, l3⟩ := ov_rw hrw
                      have S9 := Lib.hid hrw.1
                      have X8 : Hid (∀ i, X' i → i < w8.heap.size) := Lib.hid (PCH.out.size _ _ _ _ K8.out)
                      have Z8 : Hid (∀ i, Z' i → i < w8.heap.size) := Lib.hid (dg_own D8.out).2
                      have K9 := Lib.hid (PCH.out.keep _ _ _ _ _ _ K8.out (tu_below (X := fun _ => False) hb) (fun _ _ z => z))
                      have D9 := Lib.hid (D8.out.below hb)
                      have N9 := Lib.hid (N8.out.below hb)
                      have B9 := Lib.hid (bstepB B8.out (hb.mono B8.out.size))
                      have OV9 : Hid (0 < G2.hosts.length → la = some ⟨lg, 0, none⟩ ∧ w8.heap.size ≤ lg ∧ lg < w9.heap.size ∧ w9.there lg 0 (G2.hosts.length * 4)) := Lib.hid l3
                      have HW8 : Hid (w.heap.size ≤ w8.heap.size) := Lib.hid B8.out.size
                      clear hb hrw l3 PL K8 D8 N8 B8
                      obtain ⟨x0, x1, x2⟩ : w9.cell? ⟨ha, 0, none⟩ = some (.int .u32 xa) ∧ w9.cell? ⟨ha, 1, none⟩ = some (.int .i64 xm) ∧ w9.cell? ⟨ha, 2, none⟩ = some (.int .i64 xo) := ⟨(N9.out.2 0 _ rfl).1, (N9.out.2 1 _ rfl).1, (N9.out.2 2 _ rfl).1⟩
                      have RF := Lib.hid (rFlags_c D9.out I2.out.2.1.2 xa)
                      generalize flg xa G2.rules = fl at *
                      obtain ⟨hn', hhn⟩ : ∃ z, G2.hosts.length = z := ⟨_, rfl⟩
                      rw [hhn] at S9 OV9 l1 ⊢
                      go_wp2_with fail
                      refine RF.out.mono ?_
                      rintro e wb ⟨rfl, hb⟩
                      have Kb := Lib.hid (PCH.out.keep _ _ _ _ _ _ K9.out (tu_below (X := fun _ => False) hb) (fun _ _ z => z))
                      have Db := Lib.hid (D9.out.below hb)
                      have Sb := Lib.hid (S9.out.below hb)
                      have Bb := Lib.hid (bstepB B9.out (hb.mono B9.out.size))
                      have OVb : Hid (0 < hn' → la = some ⟨lg, 0, none⟩ ∧ w8.heap.size ≤ lg ∧ lg < wb.heap.size ∧ wb.there lg 0 (hn' * 4)) := Lib.hid fun z => by
                        obtain ⟨p1, p2, p3, p4⟩ := OV9.out z
                        have := hb.size
                        exact ⟨p1, p2, by omega, there_keep p4 (hb.block _ p3)⟩
                      clear hb RF K9 D9 N9 B9 S9 OV9 x0 x1 x2
                      obtain ⟨ka, kc, k2', k3'⟩ := dg_hosts Db.out
                      rw [hhn] at k2' k3'
                      have SM : Hid (Calls Try.prog 16 #[.slice la hn' lc, .slice ka hn' kc] wb fun e w' => e = .returned (.bool true) ∧ Below wb.heap.size wb w') := Lib.hid (same_c Sb.out k3')
                      clear k3'
                      go_wp2_with fail
                      refine SM.out.mono ?_
                      rintro e wc ⟨rfl, hb⟩
                      have Kc := Lib.hid (PCH.out.keep _ _ _ _ _ _ Kb.out (tu_below (X := fun _ => False) hb) (fun _ _ z => z))
                      have Dc := Lib.hid (Db.out.below hb)
                      have Bc := Lib.hid (bstepB Bb.out (hb.mono Bb.out.size))
                      have OVc : Hid (0 < hn' → la = some ⟨lg, 0, none⟩ ∧ w.heap.size ≤ lg ∧ wc.there lg 0 (hn' * 4) ∧ ¬ X' lg ∧ ¬ Z' lg) := Lib.hid fun z => by
                        obtain ⟨p1, p2, p3, p4⟩ := OVb.out z
                        have := HW8.out
                        exact ⟨p1, by omega, there_keep p4 (hb.block _ p3), fun q => by have := X8.out _ q; omega, fun q => by have := Z8.out _ q; omega⟩
                      clear hb SM Kb Db Bb OVb Sb k2' hhn
                      have h0' : (0 : Int) ≤ (hn' : Int) := by omega
                      have h1' : (hn' : Int) ≤ (lc : Int) := by omega
                      have h2' : (lc : Int) ≤ 9223372036854775807 := by omega
                      go_wp2_with fail
                      go_loopw [21] (fun jv wt => ∃ j : Nat, j ≤ hn' ∧ jv = .int .i64 (j : Nat) ∧ (0 < hn' → wt.there lg 0 (hn' * 4)) ∧ Tu (Wg hn' lg) wc wt) (fun jv _ => hn' - (intOf jv).toNat)
                      case atStart => exact ⟨0, by omega, rfl, fun z => (OVc.out z).2.2.1, Tu.rf _ _⟩
                      case round =>
                        obtain ⟨j, hj, rfl, hth, htu⟩ := hrel
                        rename World => wt
                        have TR := Lib.hid htu
                        have TH := Lib.hid hth
                        clear htu hth
                        by_cases c9 : j < hn'
                        · have f4 : decide ((j : Int) < (hn' : Int)) = true := decide_eq_true (by omega)
                          have f5 : decide (j < hn') = true := decide_eq_true c9
                          have j1 : (j : Int) < (hn' : Int) := by omega
                          have j0 : (0 : Int) ≤ (j : Int) := by omega
                          have wj : IntKind.i64.wrap ((j : Int) + 1) = (j : Int) + 1 := wrap_in (by omega) (by omega)
                          have np : 0 < hn' := by omega
                          obtain ⟨rfl, _⟩ := OVc.out np
                          obtain ⟨x0, p0, q0⟩ := there_at (TH.out np) (i := j * 4) (by omega)
                          obtain ⟨x1, p1, q1⟩ := there_at (TH.out np) (i := j * 4 + 1) (by omega)
                          obtain ⟨x2, p2, q2⟩ := there_at (TH.out np) (i := j * 4 + 2) (by omega)
                          obtain ⟨x3, p3, q3⟩ := there_at (TH.out np) (i := j * 4 + 3) (by omega)
                          have TN := Lib.hid (there_set (there_set (there_set (there_set (TH.out np) (j * 4) (.int .u32 0)) (j * 4 + 1) (.int .i64 0)) (j * 4 + 2) (.int .i64 0)) (j * 4 + 3) (.int .i64 0))
                          have UN := Lib.hid (tu_wg np (tu_wg np (tu_wg np (tu_wg np TR.out (j * 4) (.int .u32 0)) (j * 4 + 1) (.int .i64 0)) (j * 4 + 2) (.int .i64 0)) (j * 4 + 3) (.int .i64 0))
                          go_wp2_with fail
                          exact ⟨⟨j + 1, by omega, by go_num, fun _ => TN.out, UN.out⟩, by simp [intOf]; omega⟩
                        · have f4 : decide ((j : Int) < (hn' : Int)) = false := decide_eq_false (by omega)
                          have f5 : decide (j < hn') = false := decide_eq_false c9
                          have nX : ∀ i, X' i → ¬ Wg hn' lg i := fun i hi z => (OVc.out z.1).2.2.2.1 (z.2 ▸ hi)
                          have nZ : ∀ i, Z' i → ¬ Wg hn' lg i := fun i hi z => (OVc.out z.1).2.2.2.2 (z.2 ▸ hi)
                          have Kd := Lib.hid (PCH.out.keep _ _ _ _ _ _ Kc.out TR.out nX)
                          have Dd := Lib.hid (Dc.out.keep TR.out nZ)
                          have Bd : Hid (Below w.heap.size w wt) := Lib.hid (Bc.out.trans (TR.out.below (fun i z => z.2 ▸ (OVc.out z.1).2.1) Bc.out.size))
                          clear nX nZ Kc Dc Bc TR TH OVc
                          go_wp2_with fail
                          exact ⟨⟨k + 1, r', X', Z', G2, by omega, by omega, by go_num, rfl, R1, Kd.out, Dd.out, I2.out, XZ7.out, X6.out, Z7.out, Bd.out⟩, by simp [intOf]; omega⟩
            · have e3 : decide ((k : Int) < 500) = false := decide_eq_false (by omega)
              have e4 : decide (k < 500) = false := decide_eq_false c5
              go_wp2_with fail
              go_ret
              exact ⟨rfl, BR.out⟩
          · have e1 : decide ((k : Int) < (m : Int)) = false := decide_eq_false (by omega)
            have e2 : decide (k < m) = false := decide_eq_false c0
            go_wp2_with fail
            go_ret
            exact ⟨rfl, BR.out⟩
  · have PN := Lib.hid (PCH.out.bad w2 _ L O2.out HV.out ok)
    go_wp2_with fail
    refine PN.out.mono ?_
    rintro e w3 ⟨rfl, hb⟩
    have B3 := Lib.hid (bstepB B2.out (hb.mono B2.out.size))
    have Q3 := Lib.hid hb
    clear hb PN
    go_wp2_with fail
    refine (RN.out _ B3.out).mono ?_
    rintro e w4 ⟨hp, hb⟩
    rcases hp with ⟨yes, _⟩ | ⟨_, rfl⟩
    · exact absurd yes ok
    have B4 := Lib.hid (bstepB B3.out (hb.mono B3.out.size))
    have OV4 : Hid (0 < L.length → oa = some ⟨g, 0, none⟩ ∧ w.heap.size ≤ g ∧ g < w4.heap.size ∧ w4.there g 0 (L.length * 3)) := Lib.hid fun z => by
      obtain ⟨p1, p2, p3, p4⟩ := OV.out z
      have s3 := Q3.out.size
      have s4 := hb.size
      exact ⟨p1, p2, by omega, there_keep p4 ((hb.block g (by omega)).trans (Q3.out.block g p3))⟩
    clear hb OV RN Q3 O2 B3
    obtain ⟨n, hn⟩ : ∃ n, L.length = n := ⟨_, rfl⟩
    rw [hn] at OV4 n2
    rw [hn]
    have n0 : (0 : Int) ≤ (n : Int) := by omega
    go_wp2_with fail
    go_loopw [10] (fun iv wr => ∃ k : Nat, k ≤ n ∧ iv = .int .i64 (k : Nat) ∧ (0 < n → wr.there g 0 (n * 3)) ∧ Tu (Wg n g) w4 wr) (fun iv _ => n - (intOf iv).toNat)
    case atStart => exact ⟨0, by omega, rfl, fun z => (OV4.out z).2.2.2, Tu.rf _ _⟩
    case round =>
      obtain ⟨k, hk, rfl, hth, htu⟩ := hrel
      rename World => wr
      have TR := Lib.hid htu
      have TH := Lib.hid hth
      clear htu hth
      by_cases c : k < n
      · have e1 : decide ((k : Int) < (n : Int)) = true := decide_eq_true (by omega)
        have e2 : decide (k < n) = true := decide_eq_true c
        have k1 : (k : Int) < (n : Int) := by omega
        have k0 : (0 : Int) ≤ (k : Int) := by omega
        have wk : IntKind.i64.wrap ((k : Int) + 1) = (k : Int) + 1 := wrap_in (by omega) (by omega)
        have np : 0 < n := by omega
        obtain ⟨rfl, _⟩ := OV4.out np
        obtain ⟨x0, p0, q0⟩ := there_at (TH.out np) (i := k * 3) (by omega)
        obtain ⟨x1, p1, q1⟩ := there_at (TH.out np) (i := k * 3 + 1) (by omega)
        obtain ⟨x2, p2, q2⟩ := there_at (TH.out np) (i := k * 3 + 2) (by omega)
        have TN := Lib.hid (there_set (there_set (there_set (TH.out np) (k * 3) (.int .u32 0)) (k * 3 + 1) (.int .u32 0)) (k * 3 + 2) (.int .i64 127))
        have UN := Lib.hid (tu_wg np (tu_wg np (tu_wg np TR.out (k * 3) (.int .u32 0)) (k * 3 + 1) (.int .u32 0)) (k * 3 + 2) (.int .i64 127))
        go_wp2_with fail
        exact ⟨⟨k + 1, by omega, by go_num, fun _ => TN.out, UN.out⟩, by simp [intOf]; omega⟩
      · have e1 : decide ((k : Int) < (n : Int)) = false := decide_eq_false (by omega)
        have e2 : decide (k < n) = false := decide_eq_false c
        have B5 : Hid (Below w.heap.size w wr) := Lib.hid (B4.out.trans (TR.out.below (fun i z => z.2 ▸ (OV4.out z.1).2.1) B4.out.size))
        go_wp2_with fail
        go_ret
        exact ⟨rfl, B5.out⟩
set_option maxRecDepth 100000 in
theorem lifted (os : Os) (started : os.Started) (H : Type) (enc : TypeId × Value → H) :
    ReturnsInHanded {} Try.checked os 3 .any (Rows.guardPlaysSpec.pre6 enc Try.prog Try.f3 Rows.guardPlaysRow.domain false) (Rows.guardPlaysSpec.post enc Try.prog Try.f3 false true false false) := by
  refine returnsInHanded_of_change_sized (C := Try.checked) own started (by kernel_rfl) Try.func3
    (ChangeSpec.witness6 (enc := enc) (C := Try.checked) false ⟨#[], #[.slice none 0 0, .slice none 0 0], []⟩ 8 (by kernel_rfl) (by kernel_rfl) (by kernel_rfl) (by kernel_rfl)) ?_
  intro W base args ds gs before hval0 hW hcnd hsz0 _
  have hsz : (DataW.weightsEach Try.prog (Try.f3.params.toList ++ Rows.guardPlaysSpec.plain.varTypes Try.prog) (ds ++ gs)).all (· ≤ reachBytes) = true := hsz0
  have hval : ∀ (j : Nat) t v, Try.f3.params[j]? = some t → args[j]? = some v → Value.okWide Try.prog W .any base t v := hval0
  have hW' := hW
  obtain ⟨p, q, hA0, hV, rfl, hfz, hnd⟩ := hW
  have hA : DataW.TrodAll enc Try.prog W 0 (fun _ => true) true Try.f3.params.toList args.toList ds p := hA0
  rw [Try.params3] at hA hval hsz
  obtain ⟨v0, vs0, d0, ds0, p0, q0, hargs, rfl, rfl, h0, r0⟩ := trodAll_cons hA
  obtain ⟨v1, vs1, d1, ds1, p1, q1, rfl, rfl, rfl, h1, r1⟩ := trodAll_cons r0
  obtain ⟨rfl, rfl, rfl⟩ := trodAll_nil r1
  obtain rfl : args = #[v0, v1] := by cases args; simp_all
  obtain ⟨rfl, rfl⟩ := trodVars_none hV
  have h0k := h0
  have hlt0 : ∀ x ∈ p0, x.block < W.heap.size := fun x hx => by have := hW'.lt x (by simp [hx]); simpa using this
  have hb0 : ∀ es sp, d0 = .slice es sp → (es.length + sp.length) * Try.prog.bytesOf 62 ≤ reachBytes := by
    intro es sp he
    exact sized_slice hsz (j := 0) (t := 22) (e := 62) rfl (by rw [he]; rfl) Try.underlying22
  have h1k := h1
  have hlt1 : ∀ x ∈ p1, x.block < W.heap.size := fun x hx => by have := hW'.lt x (by simp [hx]); simpa using this
  have hb1 : ∀ es sp, d1 = .slice es sp → (es.length + sp.length) * Try.prog.bytesOf 39 ≤ reachBytes := by
    intro es sp he
    exact sized_slice hsz (j := 1) (t := 23) (e := 39) rfl (by rw [he]; rfl) Try.underlying23
  obtain ⟨L0, g0⟩ := open_rs (hval 0 22 v0 rfl rfl) h0 hb0
  obtain ⟨L1, g1⟩ := open_acts (hval 1 23 v1 rfl rfl) h1 hb1
  clear hA0 hval0
  simp only [List.append_nil] at hW'
  refine (walk pc v0 L0 v1 L1 W g0 g1).mono fun e W' ⟨he, hg⟩ => ?_
  subst he
  exact ⟨_, rfl, _, _, _, [], _, [], hW', trodAll_cons_mk (shut_bool Try.underlying4 _) trodAll_mk0,
    (trodAll_cons_mk (Below.trod laidOut (by kernel_rfl) (of_decide_eq_true (by kernel_rfl)) h0k hg hlt0) (trodAll_cons_mk (Below.trod laidOut (by kernel_rfl) (of_decide_eq_true (by kernel_rfl)) h1k hg hlt1) trodAll_mk0)), rfl, hg.frame _, fun h => nomatch h⟩

theorem over : Rows.guardPlaysRow.holds Try.pinned (OpenSpec.ofChange Rows.guardPlaysSpec) :=
  OpenClaim.holds_of_wide 3 Try.f3 rfl rfl rfl rfl rfl rfl rfl ⟨rfl, rfl, rfl, rfl, rfl⟩ rfl rfl rfl rfl rfl (by kernel_rfl) Try.func3 (by kernel_rfl)
    (of_decide_eq_true (by kernel_rfl)) (by unfold Func.isWrapper; first | (rw [if_pos (by decide +kernel)]; kernel_rfl) | (rw [if_neg (by decide +kernel)]; exact ⟨rfl, rfl⟩))
    (fun os started H enc _ => lifted os started H enc)

theorem proved : Rows.GuardPlaysSaid :=
  over
end Go.Proofs.Ytdngoopogajhiaa.guardPlays
