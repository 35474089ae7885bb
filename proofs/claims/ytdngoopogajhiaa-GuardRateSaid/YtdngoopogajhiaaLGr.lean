/-
  GuardRate: A host that asks every eight seconds or less often is never too fast, and one that asks five times at once is. The law returns true for every input, and the input reads as it did.
  Conditions: none.
-/
import Derived.Test.YtdngoopogajhiaaRows
import Derived.Test.YtdngoopogajhiaaGuE
import Derived.Test.YtdngoopogajhiaaGuF
import Derived.Test.YtdngoopogajhiaaGuZ
import Derived.SizedLaws
import Derived.Lib.SmallJoins
namespace Go.Proofs.Ytdngoopogajhiaa.guardRate
open Go.ChangeShapes Go.WideShapes Go.ChangeAt Go.RowKit Go.Joins Fl Gu
set_option linter.unusedVariables false
set_option linter.unusedSimpArgs false

theorem own : ownKnob Try.prog.godebug = none := by kernel_rfl
theorem laidOut : laidOutB Try.prog = true := by kernel_rfl

theorem rem_in (x M : Int) (h : 0 < M) (hM : M ≤ 1152921504606846976) : ∃ q r, x.tmod M = q ∧ IntKind.i64.wrap q = q ∧ IntKind.i64.wrap (q + M) = q + M ∧ (q + M).tmod M = r ∧ IntKind.i64.wrap r = r ∧ 0 ≤ r ∧ r < M ∧ -M < q ∧ q < M := by
  have a1 := Int.tmod_lt_of_pos x h
  have a2 := Int.lt_tmod_of_pos x h
  have b1 := Int.tmod_nonneg M (show 0 ≤ x.tmod M + M by omega)
  have b2 := Int.tmod_lt_of_pos (x.tmod M + M) h
  exact ⟨_, _, rfl, wrap_in (by omega) (by omega), wrap_in (by omega) (by omega), rfl, wrap_in (by omega) (by omega), b1, b2, by omega, by omega⟩
theorem an_zero (a : Int) : an a 0 = 0 := by
  unfold an
  have e : (BitVec.ofInt 32 0) = 0#32 := by decide
  show IntKind.u32.wrap ((BitVec.ofInt 32 a &&& BitVec.ofInt 32 0).toNat : Int) = 0
  rw [e, BitVec.and_zero]
  rfl
theorem vd32 (m : Int) (q : Bool) (h : 1 ≤ m ∧ m ≤ 5) : vd 32 m q = if q = true then 1 else 0 := by
  unfold vd
  rw [if_neg (by rw [show hasF 32 1 = false by decide]; simp; omega), if_neg (by omega), show hasF 32 2 = false by decide, show hasF 32 32 = true by decide, show hasF 32 64 = false by decide]
  cases q <;> rfl
def R1 : List Ru := [⟨0, 0, 32⟩]
theorem r1_u : ∀ r ∈ R1, uR r := by
  intro r hr
  simp only [R1, List.mem_cons, List.not_mem_nil, or_false] at hr
  subst hr
  unfold uR; decide
theorem r1_ok : okS R1 := by decide
theorem r1_flg (a : Int) : flg a R1 = 32 := by
  unfold flg bst R1
  simp [pkB, an_zero, geB, flO]
theorem back5 (u : Nat) (r : Int) : max (min (8388608 * ((u + 5 : Nat) : Int)) 33554432 - (r + 8388608 - r)) 0 = min (8388608 * ((3 : Nat) : Int)) 33554432 := by
  have e1 : min (8388608 * ((u + 5 : Nat) : Int)) 33554432 = 33554432 := Int.min_eq_right (by omega)
  have e2 : r + 8388608 - r = 8388608 := by omega
  rw [e1, e2]
  decide
theorem same5 (v : Nat) (r : Int) : max (min (8388608 * (v : Int)) 33554432 - (r - r)) 0 = min (8388608 * (v : Int)) 33554432 := by omega
theorem gap5 {u : Nat} {r r' : Int} (h : u ≤ 1) (q : r + 8388608 ≤ r') : max (min (8388608 * (u : Int)) 33554432 - (r' - r)) 0 = min (8388608 * ((0 : Nat) : Int)) 33554432 := by
  have e2 : min (8388608 * ((0 : Nat) : Int)) 33554432 = 0 := by decide
  rw [e2]
  omega
/-- the guard behind u packets at once (each of eight seconds): none yet, or the one host. -/
def Sg (a r : Int) (u : Nat) (G : Gd) : Prop := G.rules = R1 ∧ G.last ≤ r ∧ ((u = 0 ∧ G.hosts = []) ∨ (0 < u ∧ ∃ n, G.hosts = [⟨a, r, n, min (8388608 * (u : Int)) 33554432⟩]))
/-- what it answers at r' later, and what it is then. -/
theorem Sg.ask {a r : Int} {u : Nat} {G : Gd} (h : Sg a r u G) {m r' : Int} (hm : 1 ≤ m ∧ m ≤ 5) (h0 : 0 ≤ r') (hr : r ≤ r') (h1 : r' ≤ 288230376151711744) (t : Nat) (ht : max (min (8388608 * (u : Int)) 33554432 - (r' - r)) 0 = min (8388608 * (t : Int)) 33554432) :
    askX G m r' = 0 ∧ askV G a m r' = (if 4 ≤ t then 1 else 0) ∧ Sg a r' (t + 1) (askG G a m r') := by
  obtain ⟨g1, g2, g3⟩ := h
  have OK : askO G m r' := ⟨by omega, ⟨h0, h1⟩, by omega⟩
  have S1 : hst a r' G.hosts = ⟨a, r', (hst a r' G.hosts).count, min (8388608 * (t : Int)) 33554432 + 8388608⟩ := by
    rcases g3 with ⟨rfl, e⟩ | ⟨_, n, e⟩
    · rw [e]
      have z : min (8388608 * (t : Int)) 33554432 = 0 := by rw [← ht]; omega
      rw [z]
      rfl
    · rw [e, ← ht]
      simp [hst, hs1]
  refine ⟨by unfold askX; rw [if_pos OK], ?_, ?_⟩
  · unfold askV
    rw [if_pos OK, g1, r1_flg, vd32 _ _ hm]
    unfold fast
    rw [S1]
    simp only [decide_eq_true_eq]
    by_cases c : 4 ≤ t
    · rw [if_pos c, if_pos (by omega)]
    · rw [if_neg c, if_neg (by omega)]
  · unfold askG
    rw [if_pos OK]
    refine ⟨g1, Int.le_refl _, .inr ⟨by omega, (hst a r' G.hosts).count, ?_⟩⟩
    show seeH a r' G.hosts = _
    have rn : rest a G.hosts = [] := by
      rcases g3 with ⟨_, e⟩ | ⟨_, n, e⟩
      · rw [e]; rfl
      · rw [e]; simp [rest]
    unfold seeH frt
    rw [rn, S1]
    simp only [List.take_nil, List.cons.injEq, and_true, Ho.mk.injEq, true_and]
    omega
set_option maxRecDepth 100000 in
set_option maxHeartbeats 16000000 in
theorem walk {K : World → Addr → (Nat → Prop) → Gd → Prop} (pc : PC K) (ad : Int) (v : Value) (L : List Int) (mo : Int) (w : World) (g0 : Lit.wf (.int .u32 ad) = true) (g1 : Gn.Ss tvs 1 w v L ∧ (∀ s ∈ L, i64P s) ∧ L.length * 8 ≤ 140737488351232) (g2 : Lit.wf (.int .i64 mo) = true) :
    Calls Try.prog 5 #[.int .u32 ad, v, .int .i64 mo] w fun e w' => e = .returned (.bool true) ∧ Below w.heap.size w w' := by
  have AW := Lib.hid (awake18_c pc)
  have hu := bounds_u32 g0
  obtain ⟨qm, rm, hm1, hm2, hm3, hm4, hm5, a1, a2, _, _⟩ := rem_in mo 5 (by decide) (by decide)
  have hm6 : IntKind.i64.wrap (1 + rm) = 1 + rm := wrap_in (by omega) (by omega)
  obtain ⟨md, hmd⟩ : ∃ z, 1 + rm = z := ⟨_, rfl⟩
  rw [hmd] at hm6
  have MD : 1 ≤ md ∧ md ≤ 5 := by omega
  have I0 := Lib.hid (new_in r1_u r1_ok)
  have S0 : Sg ad 0 0 (newG R1) := ⟨rfl, Int.le_refl _, .inl ⟨rfl, rfl⟩⟩
  have SS := Lib.hid S0
  have PN : Hid (∀ W, Calls Try.prog 9 #[.slice (some ⟨W.heap.size, 0, none⟩) 1 1] (W.alloc (.cells #[.int .u32 0, .int .u32 0, .int .i64 32] 36)) fun e w' => ∃ a X, e = .returned (.tuple #[.pointer (some a), .int .i64 0]) ∧ K w' a X (newG R1) ∧ (∀ i, X i → W.heap.size ≤ i) ∧ Below W.heap.size W w') := Lib.hid (fun W => (pc.new (W.alloc (.cells #[.int .u32 0, .int .u32 0, .int .i64 32] 36)) _ R1 ((own1r W ⟨0, 0, 32⟩).ss okr) r1_u r1_ok).mono fun e w' ⟨⟨a, X, p1, p2, p3⟩, p4⟩ => ⟨a, X, p1, p2, fun i hi => Nat.le_trans (balloc (brefl W) (.cells #[.int .u32 0, .int .u32 0, .int .i64 32] 36)).size (p3 i hi), bstep (balloc (brefl W) (.cells #[.int .u32 0, .int .u32 0, .int .i64 32] 36)) p4⟩)
  have PA : Hid (∀ (W : World) (a : Addr) (X : Nat → Prop) (G : Gd) (k u t : Nat) (r r' : Int), k ≤ 1000 → K W a X G → In k G → Sg ad r u G → 0 ≤ r' → r ≤ r' → r' ≤ 288230376151711744 → max (min (8388608 * (u : Int)) 33554432 - (r' - r)) 0 = min (8388608 * (t : Int)) 33554432 → Calls Try.prog 11 #[.pointer (some a), .int .u32 ad, .int .i64 md, .int .i64 r'] W fun e w' => ∃ X' G', e = .returned (.tuple #[.int .i64 (if 4 ≤ t then 1 else 0), .int .i64 0]) ∧ K w' a X' G' ∧ In (k + 1) G' ∧ Sg ad r' (t + 1) G' ∧ (∀ i, X' i → X i ∨ W.heap.size ≤ i) ∧ Tu X W w') := Lib.hid (fun W a X G k u t r r' hk hK hI hS h0 h1 h2 ht => (pc.ask W a X G k ad md r' hK (by omega) hI hu ⟨by omega, by omega⟩ ⟨by omega, by omega⟩).mono fun e w' ⟨⟨p1, X', p2, p3⟩, p4⟩ => by
    obtain ⟨s1, s2, s3⟩ := hS.ask MD h0 h1 h2 t ht
    exact ⟨X', _, by rw [p1, s1, s2], p2, hI.ask hu md r', s3, p3, p4⟩)
  obtain ⟨hA, _, hN⟩ := g1
  have HS := Lib.hid hA
  obtain ⟨la, lc, rfl, c1, c2, _⟩ := hA
  obtain ⟨m, hm⟩ : ∃ m, L.length = m := ⟨_, rfl⟩
  have HM := Lib.hid hm
  rw [hm] at HS c1 hN ⊢
  have m0 : (0 : Int) ≤ (m : Int) := by omega
  have m2 : (m : Int) ≤ (lc : Int) := by omega
  have m3 : (lc : Int) ≤ 9223372036854775807 := by omega
  clear pc hm g0 g2 hN S0
  go_enter Try.func5, Try.ntmps5
  go_wp2_with fail
  refine (AW.out _).mono ?_
  rintro e w1 ⟨rfl, hb⟩
  have B1 := Lib.hid hb
  clear hb AW
  go_wp2_with fail
  try rw [hmd]
  try rw [hm6]
  clear hm1 hm2 hm3 hm4 hm5 hmd a1 a2
  refine (PN.out _).mono ?_
  rintro e w2 ⟨pa, X0, rfl, hk, hx, hb⟩
  have B2 := Lib.hid (bstep B1.out hb)
  have K2 := Lib.hid hk
  have X2 : Hid (∀ i, X0 i → w.heap.size ≤ i) := Lib.hid fun i hi => Nat.le_trans B1.out.size (hx i hi)
  clear hb hk hx PN B1
  generalize newG R1 = G0 at *
  go_wp2_with fail
  go_loopw [9, 10] (fun rv iv wr => ∃ (k u : Nat) (r : Int) (X : Nat → Prop) (G : Gd), k ≤ m ∧ k ≤ 100 ∧ u ≤ 1 ∧ iv = .int .i64 (k : Nat) ∧ rv = .int .i64 r ∧ (0 ≤ r ∧ r ≤ 1099520016384 * (k : Int)) ∧ K wr pa X G ∧ In k G ∧ Sg ad r u G ∧ (∀ i, X i → w.heap.size ≤ i) ∧ Below w.heap.size w wr) (fun _ iv _ => m - (intOf iv).toNat)
  case atStart => exact ⟨0, 0, 0, X0, G0, by omega, by omega, by omega, rfl, rfl, ⟨by omega, by omega⟩, K2.out, I0.out, SS.out, X2.out, B2.out⟩
  case round =>
    obtain ⟨k, u, r, X, G, hk, hk5, hu1, rfl, rfl, hr, hK, hI, hS, hX, hb⟩ := hrel
    rename World => wr
    have KR := Lib.hid hK
    have IR := Lib.hid hI
    have XR := Lib.hid hX
    have HB := Lib.hid hb
    have SR := Lib.hid hS
    clear hK hI hX hb hS K2 X2 B2 I0 SS
    by_cases c0 : k < m ∧ k < 100
    · obtain ⟨c0, c5⟩ := c0
      have e1 : decide ((k : Int) < (m : Int)) = true := decide_eq_true (by omega)
      have e2 : decide (k < m) = true := decide_eq_true c0
      have e3 : decide ((k : Int) < 100) = true := decide_eq_true (by omega)
      have e4 : decide (k < 100) = true := decide_eq_true c5
      have k1 : (k : Int) < (m : Int) := by omega
      have k0 : (0 : Int) ≤ (k : Int) := by omega
      have wk : IntKind.i64.wrap ((k : Int) + 1) = (k : Int) + 1 := wrap_in (by omega) (by omega)
      obtain ⟨x, hx⟩ : ∃ x, L[k]? = some x := ⟨_, List.getElem?_eq_getElem (by rw [HM.out]; exact c0)⟩
      obtain ⟨lb, lo, rfl, _, hR⟩ := (HS.out.below HB.out).at hx
      have y0 := hR 0 _ rfl
      rw [Nat.mul_one, Nat.add_zero] at y0
      clear hx hR
      obtain ⟨qg, rg, hg1, hg2, hg3, hg4, hg5, b1, b2, _, _⟩ := rem_in x 1099511627776 (by decide) (by decide)
      have hg6 : IntKind.i64.wrap (8388608 + rg) = 8388608 + rg := wrap_in (by omega) (by omega)
      have hg7 : IntKind.i64.wrap (r + (8388608 + rg)) = r + (8388608 + rg) := wrap_in (by omega) (by omega)
      obtain ⟨r', hr'⟩ : ∃ z, r + (8388608 + rg) = z := ⟨_, rfl⟩
      rw [hr'] at hg7
      go_wp2_with fail
      try rw [hr']
      try rw [hg7]
      refine (PA.out _ _ _ G k u 0 r r' (by omega) KR.out IR.out SR.out (by omega) (by omega) (by omega) (gap5 hu1 (by omega))).mono ?_
      rintro e w3 ⟨X', G', rfl, hK, hI, hS, hX, hT⟩
      have B3 : Hid (Below w.heap.size w w3) := Lib.hid (HB.out.trans (hT.below XR.out HB.out.size))
      have K3 := Lib.hid hK
      have I3 := Lib.hid hI
      have S3 := Lib.hid hS
      have X3 : Hid (∀ i, X' i → w.heap.size ≤ i) := Lib.hid fun i hi => (hX i hi).elim (XR.out i) (fun q => Nat.le_trans HB.out.size q)
      clear hK hI hS hX hT KR IR SR XR HB y0 hg1 hg2 hg3 hg4 hg5 hg6
      rw [if_neg (show ¬ 4 ≤ 0 by omega)]
      go_wp2_with fail
      try rw [hr']
      try rw [hg7]
      exact ⟨⟨k + 1, 0 + 1, r', X', G', by omega, by omega, by omega, by go_num, rfl, ⟨by omega, by omega⟩, K3.out, I3.out, S3.out, X3.out, B3.out⟩, by simp [intOf]; omega⟩
    · by_cases c1 : k < m
      · have e1 : decide ((k : Int) < (m : Int)) = true := decide_eq_true (by omega)
        have e2 : decide (k < m) = true := decide_eq_true c1
        have e3 : decide ((k : Int) < 100) = false := decide_eq_false (by omega)
        have e4 : decide (k < 100) = false := decide_eq_false (by omega)
        go_wp2_with fail
        go_loopw [13, 14] (fun nv jv ws => ∃ (j : Nat) (Y : Nat → Prop) (G' : Gd), j ≤ 5 ∧ jv = .int .i64 (j : Nat) ∧ nv = .int .i64 ((u + j - 4 : Nat) : Int) ∧ K ws pa Y G' ∧ In (k + j) G' ∧ Sg ad r (u + j) G' ∧ (∀ i, Y i → w.heap.size ≤ i) ∧ Below w.heap.size w ws) (fun _ jv _ => 5 - (intOf jv).toNat)
        case atStart => exact ⟨0, X, G, by omega, rfl, by rw [show u + 0 - 4 = 0 by omega]; rfl, KR.out, IR.out, SR.out, XR.out, HB.out⟩
        case round =>
          obtain ⟨j, Y, G', hj, rfl, rfl, hK, hI, hS, hY, hb⟩ := hrel
          rename World => ws
          have KS := Lib.hid hK
          have IS := Lib.hid hI
          have SR2 := Lib.hid hS
          have YS := Lib.hid hY
          have HS2 := Lib.hid hb
          clear hK hI hS hY hb KR IR SR XR HB
          by_cases c6 : j < 5
          · have f1 : decide ((j : Int) < 5) = true := decide_eq_true (by omega)
            have f2 : decide (j < 5) = true := decide_eq_true c6
            have wj : IntKind.i64.wrap ((j : Int) + 1) = (j : Int) + 1 := wrap_in (by omega) (by omega)
            obtain ⟨nn, hnn⟩ : ∃ z : Nat, u + j - 4 = z := ⟨_, rfl⟩
            have wn : IntKind.i64.wrap ((nn : Int) + 1) = (nn : Int) + 1 := wrap_in (by omega) (by omega)
            rw [hnn]
            go_wp2_with fail
            refine (PA.out _ _ _ G' (k + j) (u + j) (u + j) r r (by omega) KS.out IS.out SR2.out (by omega) (by omega) (by omega) (same5 _ r)).mono ?_
            rintro e w3 ⟨X', G2, rfl, hK, hI, hS, hX, hT⟩
            have B3 : Hid (Below w.heap.size w w3) := Lib.hid (HS2.out.trans (hT.below YS.out HS2.out.size))
            have K3 := Lib.hid hK
            have I3 := Lib.hid hI
            have S3 := Lib.hid hS
            have X3 : Hid (∀ i, X' i → w.heap.size ≤ i) := Lib.hid fun i hi => (hX i hi).elim (YS.out i) (fun q => Nat.le_trans HS2.out.size q)
            clear hK hI hS hX hT KS IS SR2 YS HS2
            by_cases c7 : 4 ≤ u + j
            · rw [if_pos c7]
              go_wp2_with fail
              exact ⟨⟨j + 1, X', G2, by omega, by go_num, by rw [show u + (j + 1) - 4 = nn + 1 by omega]; go_num, K3.out, I3.out, S3.out, X3.out, B3.out⟩, by simp [intOf]; omega⟩
            · rw [if_neg c7]
              go_wp2_with fail
              exact ⟨⟨j + 1, X', G2, by omega, by go_num, by rw [show u + (j + 1) - 4 = nn by omega], K3.out, I3.out, S3.out, X3.out, B3.out⟩, by simp [intOf]; omega⟩
          · have f1 : decide ((j : Int) < 5) = false := decide_eq_false (by omega)
            have f2 : decide (j < 5) = false := decide_eq_false c6
            obtain rfl : j = 5 := by omega
            have wr8 : IntKind.i64.wrap (r + 8388608) = r + 8388608 := wrap_in (by omega) (by omega)
            obtain ⟨nn, hnn⟩ : ∃ z : Nat, u + 5 - 4 = z := ⟨_, rfl⟩
            have n1 : decide (1 ≤ (nn : Int)) = true := decide_eq_true (by omega)
            have n2 : decide ((nn : Int) ≤ 2) = true := decide_eq_true (by omega)
            have n3 : decide (1 ≤ nn) = true := decide_eq_true (by omega)
            have n4 : decide (nn ≤ 2) = true := decide_eq_true (by omega)
            rw [hnn]
            go_wp2_with fail
            refine (PA.out _ _ _ G' (k + 5) (u + 5) 3 r (r + 8388608) (by omega) KS.out IS.out SR2.out (by omega) (by omega) (by omega) (back5 u r)).mono ?_
            rintro e w3 ⟨X', G2, rfl, _, _, _, hX, hT⟩
            have B3 : Hid (Below w.heap.size w w3) := Lib.hid (HS2.out.trans (hT.below YS.out HS2.out.size))
            clear hX hT KS IS SR2 YS HS2
            rw [if_neg (show ¬ 4 ≤ 3 by omega)]
            go_wp2_with fail
            go_ret
            exact ⟨rfl, B3.out⟩
      · have e1 : decide ((k : Int) < (m : Int)) = false := decide_eq_false (by omega)
        have e2 : decide (k < m) = false := decide_eq_false c1
        go_wp2_with fail
        go_loopw [13, 14] (fun nv jv ws => ∃ (j : Nat) (Y : Nat → Prop) (G' : Gd), j ≤ 5 ∧ jv = .int .i64 (j : Nat) ∧ nv = .int .i64 ((u + j - 4 : Nat) : Int) ∧ K ws pa Y G' ∧ In (k + j) G' ∧ Sg ad r (u + j) G' ∧ (∀ i, Y i → w.heap.size ≤ i) ∧ Below w.heap.size w ws) (fun _ jv _ => 5 - (intOf jv).toNat)
        case atStart => exact ⟨0, X, G, by omega, rfl, by rw [show u + 0 - 4 = 0 by omega]; rfl, KR.out, IR.out, SR.out, XR.out, HB.out⟩
        case round =>
          obtain ⟨j, Y, G', hj, rfl, rfl, hK, hI, hS, hY, hb⟩ := hrel
          rename World => ws
          have KS := Lib.hid hK
          have IS := Lib.hid hI
          have SR2 := Lib.hid hS
          have YS := Lib.hid hY
          have HS2 := Lib.hid hb
          clear hK hI hS hY hb KR IR SR XR HB
          by_cases c6 : j < 5
          · have f1 : decide ((j : Int) < 5) = true := decide_eq_true (by omega)
            have f2 : decide (j < 5) = true := decide_eq_true c6
            have wj : IntKind.i64.wrap ((j : Int) + 1) = (j : Int) + 1 := wrap_in (by omega) (by omega)
            obtain ⟨nn, hnn⟩ : ∃ z : Nat, u + j - 4 = z := ⟨_, rfl⟩
            have wn : IntKind.i64.wrap ((nn : Int) + 1) = (nn : Int) + 1 := wrap_in (by omega) (by omega)
            rw [hnn]
            go_wp2_with fail
            refine (PA.out _ _ _ G' (k + j) (u + j) (u + j) r r (by omega) KS.out IS.out SR2.out (by omega) (by omega) (by omega) (same5 _ r)).mono ?_
            rintro e w3 ⟨X', G2, rfl, hK, hI, hS, hX, hT⟩
            have B3 : Hid (Below w.heap.size w w3) := Lib.hid (HS2.out.trans (hT.below YS.out HS2.out.size))
            have K3 := Lib.hid hK
            have I3 := Lib.hid hI
            have S3 := Lib.hid hS
            have X3 : Hid (∀ i, X' i → w.heap.size ≤ i) := Lib.hid fun i hi => (hX i hi).elim (YS.out i) (fun q => Nat.le_trans HS2.out.size q)
            clear hK hI hS hX hT KS IS SR2 YS HS2
            by_cases c7 : 4 ≤ u + j
            · rw [if_pos c7]
              go_wp2_with fail
              exact ⟨⟨j + 1, X', G2, by omega, by go_num, by rw [show u + (j + 1) - 4 = nn + 1 by omega]; go_num, K3.out, I3.out, S3.out, X3.out, B3.out⟩, by simp [intOf]; omega⟩
            · rw [if_neg c7]
              go_wp2_with fail
              exact ⟨⟨j + 1, X', G2, by omega, by go_num, by rw [show u + (j + 1) - 4 = nn by omega], K3.out, I3.out, S3.out, X3.out, B3.out⟩, by simp [intOf]; omega⟩
          · have f1 : decide ((j : Int) < 5) = false := decide_eq_false (by omega)
            have f2 : decide (j < 5) = false := decide_eq_false c6
            obtain rfl : j = 5 := by omega
            have wr8 : IntKind.i64.wrap (r + 8388608) = r + 8388608 := wrap_in (by omega) (by omega)
            obtain ⟨nn, hnn⟩ : ∃ z : Nat, u + 5 - 4 = z := ⟨_, rfl⟩
            have n1 : decide (1 ≤ (nn : Int)) = true := decide_eq_true (by omega)
            have n2 : decide ((nn : Int) ≤ 2) = true := decide_eq_true (by omega)
            have n3 : decide (1 ≤ nn) = true := decide_eq_true (by omega)
            have n4 : decide (nn ≤ 2) = true := decide_eq_true (by omega)
            rw [hnn]
            go_wp2_with fail
            refine (PA.out _ _ _ G' (k + 5) (u + 5) 3 r (r + 8388608) (by omega) KS.out IS.out SR2.out (by omega) (by omega) (by omega) (back5 u r)).mono ?_
            rintro e w3 ⟨X', G2, rfl, _, _, _, hX, hT⟩
            have B3 : Hid (Below w.heap.size w w3) := Lib.hid (HS2.out.trans (hT.below YS.out HS2.out.size))
            clear hX hT KS IS SR2 YS HS2
            rw [if_neg (show ¬ 4 ≤ 3 by omega)]
            go_wp2_with fail
            go_ret
            exact ⟨rfl, B3.out⟩
set_option maxRecDepth 100000 in
theorem lifted (os : Os) (started : os.Started) (H : Type) (enc : TypeId × Value → H) :
    ReturnsInHanded {} Try.checked os 5 .any (Rows.guardRateSpec.pre6 enc Try.prog Try.f5 Rows.guardRateRow.domain false) (Rows.guardRateSpec.post enc Try.prog Try.f5 false true false false) := by
  refine returnsInHanded_of_change_sized (C := Try.checked) own started (by kernel_rfl) Try.func5
    (ChangeSpec.witness6 (enc := enc) (C := Try.checked) false ⟨#[], #[.int .u32 0, .slice none 0 0, .int .i64 0], []⟩ 8 (by kernel_rfl) (by kernel_rfl) (by kernel_rfl) (by kernel_rfl)) ?_
  intro W base args ds gs before hval0 hW hcnd hsz0 _
  have hsz : (DataW.weightsEach Try.prog (Try.f5.params.toList ++ Rows.guardRateSpec.plain.varTypes Try.prog) (ds ++ gs)).all (· ≤ reachBytes) = true := hsz0
  have hval : ∀ (j : Nat) t v, Try.f5.params[j]? = some t → args[j]? = some v → Value.okWide Try.prog W .any base t v := hval0
  have hW' := hW
  obtain ⟨p, q, hA0, hV, rfl, hfz, hnd⟩ := hW
  have hA : DataW.TrodAll enc Try.prog W 0 (fun _ => true) true Try.f5.params.toList args.toList ds p := hA0
  rw [Try.params5] at hA hval hsz
  obtain ⟨v0, vs0, d0, ds0, p0, q0, hargs, rfl, rfl, h0, r0⟩ := trodAll_cons hA
  obtain ⟨v1, vs1, d1, ds1, p1, q1, rfl, rfl, rfl, h1, r1⟩ := trodAll_cons r0
  obtain ⟨v2, vs2, d2, ds2, p2, q2, rfl, rfl, rfl, h2, r2⟩ := trodAll_cons r1
  obtain ⟨rfl, rfl, rfl⟩ := trodAll_nil r2
  obtain rfl : args = #[v0, v1, v2] := by cases args; simp_all
  obtain ⟨rfl, rfl⟩ := trodVars_none hV
  have h0k := h0
  have hlt0 : ∀ x ∈ p0, x.block < W.heap.size := fun x hx => by have := hW'.lt x (by simp [hx]); simpa using this
  have h1k := h1
  have hlt1 : ∀ x ∈ p1, x.block < W.heap.size := fun x hx => by have := hW'.lt x (by simp [hx]); simpa using this
  have hb1 : ∀ es sp, d1 = .slice es sp → (es.length + sp.length) * Try.prog.bytesOf 37 ≤ reachBytes := by
    intro es sp he
    exact sized_slice hsz (j := 1) (t := 59) (e := 37) rfl (by rw [he]; rfl) Try.underlying59
  have h2k := h2
  have hlt2 : ∀ x ∈ p2, x.block < W.heap.size := fun x hx => by have := hW'.lt x (by simp [hx]); simpa using this
  obtain ⟨z0, rfl, _, _, g0⟩ := open_int Try.underlying34 (hval 0 34 v0 rfl rfl) h0
  obtain ⟨L1, g1⟩ := open_ts (hval 1 59 v1 rfl rfl) h1 hb1
  obtain ⟨z2, rfl, _, _, g2⟩ := open_int Try.underlying3 (hval 2 3 v2 rfl rfl) h2
  clear hA0 hval0
  simp only [List.append_nil] at hW'
  refine (walk pc z0 v1 L1 z2 W g0 g1 g2).mono fun e W' ⟨he, hg⟩ => ?_
  subst he
  exact ⟨_, rfl, _, _, _, [], _, [], hW', trodAll_cons_mk (shut_bool Try.underlying4 _) trodAll_mk0,
    (trodAll_cons_mk (Below.trod laidOut (by kernel_rfl) (of_decide_eq_true (by kernel_rfl)) h0k hg hlt0) (trodAll_cons_mk (Below.trod laidOut (by kernel_rfl) (of_decide_eq_true (by kernel_rfl)) h1k hg hlt1) (trodAll_cons_mk (Below.trod laidOut (by kernel_rfl) (of_decide_eq_true (by kernel_rfl)) h2k hg hlt2) trodAll_mk0))), rfl, hg.frame _, fun h => nomatch h⟩

theorem over : Rows.guardRateRow.holds Try.pinned (OpenSpec.ofChange Rows.guardRateSpec) :=
  OpenClaim.holds_of_wide 5 Try.f5 rfl rfl rfl rfl rfl rfl rfl ⟨rfl, rfl, rfl, rfl, rfl⟩ rfl rfl rfl rfl rfl (by kernel_rfl) Try.func5 (by kernel_rfl)
    (of_decide_eq_true (by kernel_rfl)) (by unfold Func.isWrapper; first | (rw [if_pos (by decide +kernel)]; kernel_rfl) | (rw [if_neg (by decide +kernel)]; exact ⟨rfl, rfl⟩))
    (fun os started H enc _ => lifted os started H enc)

theorem proved : Rows.GuardRateSaid :=
  over
end Go.Proofs.Ytdngoopogajhiaa.guardRate
