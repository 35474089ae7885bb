/-
  GuardTable: The table never has more than sixteen hosts, each once, and forgets the one that was not seen for longest. The law returns true for every input, and the input reads as it did.
  Conditions: none.
-/
import Derived.Test.YtdngoopogajhiaaRows
import Derived.Test.YtdngoopogajhiaaGuE
import Derived.Test.YtdngoopogajhiaaGuF
import Derived.Test.YtdngoopogajhiaaGuI
import Derived.Test.YtdngoopogajhiaaGuZ
import Derived.SizedLaws
import Derived.Lib.SmallJoins
namespace Go.Proofs.Ytdngoopogajhiaa.guardTable
open Go.ChangeShapes Go.WideShapes Go.ChangeAt Go.RowKit Go.Joins Fl Gu
set_option linter.unusedVariables false
set_option linter.unusedSimpArgs false

theorem own : ownKnob Try.prog.godebug = none := by kernel_rfl
theorem laidOut : laidOutB Try.prog = true := by kernel_rfl

theorem info_u : (Try.prog.info? 34).map (fun i => (i.zero, i.size, i.bytes)) = some (some (.int .u32 0), 1, 4) := by kernel_rfl
def revs (L : List Int) (k : Nat) : List Int := (L.take k).reverse
theorem revs_cons {L : List Int} {k : Nat} {x : Int} (h : L[k]? = some x) : revs L (k + 1) = x :: revs L k := by
  unfold revs
  rw [take_snoc h, List.reverse_append]
  rfl
theorem revs_len {L : List Int} {k : Nat} (h : k ≤ L.length) : (revs L k).length = k := by
  unfold revs
  rw [List.length_reverse, List.length_take]
  omega
theorem revs_at {L : List Int} {k n : Nat} (h : k ≤ L.length) (hn : n < k) : (revs L k)[n]? = L[k - 1 - n]? := by
  unfold revs
  rw [List.getElem?_reverse (by rw [List.length_take]; omega), List.length_take, Nat.min_eq_left h, List.getElem?_take]
  rw [if_pos (by omega)]
/-- a guard without rules that has seen these. -/
def Tg (r : Int) (l : List Int) (G : Gd) : Prop := G.rules = [] ∧ G.last ≤ r ∧ G.hosts.map Ho.addr = (dd l).take 16
theorem Tg.ask {r a r' : Int} {l : List Int} {G : Gd} (h : Tg r l G) (h0 : 0 ≤ r') (hr : r ≤ r') (h1 : r' ≤ 288230376151711744) : askX G 3 r' = 0 ∧ askV G a 3 r' = 0 ∧ Tg r' (a :: l) (askG G a 3 r') := by
  obtain ⟨g1, g2, g3⟩ := h
  have OK : askO G 3 r' := ⟨by omega, ⟨h0, h1⟩, by omega⟩
  refine ⟨by unfold askX; rw [if_pos OK], ?_, ?_⟩
  · unfold askV
    rw [if_pos OK, g1]
    show vd 0 3 _ = 0
    generalize fast a r' G.hosts = q
    cases q <;> decide
  · unfold askG
    rw [if_pos OK]
    exact ⟨g1, Int.le_refl _, see_addrs g3⟩
def wnt (l : List Int) (n : Nat) : List Int := (l.take n).foldl wst []
theorem wnt_snoc {l : List Int} {n : Nat} {x : Int} (h : l[n]? = some x) : wnt l (n + 1) = wst (wnt l n) x := by
  unfold wnt
  rw [take_snoc h, List.foldl_append]
  rfl
theorem wnt_all {l : List Int} {n : Nat} (h : l.length ≤ n) : wnt l n = l.foldl wst [] := by unfold wnt; rw [List.take_of_length_le h]
theorem wst_len {W : List Int} {x : Int} (h : W.length ≤ 16) : (wst W x).length ≤ 16 := by
  unfold wst
  split
  · exact h
  · rename_i q
    rw [List.length_append]
    simp only [List.length_singleton]
    omega
theorem wnt_len (l : List Int) : ∀ n, (wnt l n).length ≤ 16
  | 0 => by simp [wnt]
  | n + 1 => by
    cases h : l[n]? with
    | some x => rw [wnt_snoc h]; exact wst_len (wnt_len l n)
    | none =>
      have e : l.length ≤ n := by simpa using h
      rw [wnt_all (by omega), ← wnt_all e]
      exact wnt_len l n
theorem hit_step {W : List Int} {j : Nat} {x y : Int} (h : W[j]? = some y) : decide (x ∈ W.take (j + 1)) = (decide (x ∈ W.take j) || (y == x)) := by
  rw [take_snoc h]
  by_cases d : y = x
  · subst d
    simp
  · have d' : ¬ x = y := fun e => d e.symm
    by_cases c : x ∈ W.take j <;> simp [c, d, d']
set_option maxRecDepth 100000 in
set_option maxHeartbeats 16000000 in
theorem walk {K : World → Addr → (Nat → Prop) → Gd → Prop} (pc : PC K) (v : Value) (L : List Int) (w : World) (g0 : Gn.Ss uvs 1 w v L ∧ (∀ s ∈ L, u32P s) ∧ L.length * 4 ≤ 140737488351232) :
    Calls Try.prog 4 #[v] w fun e w' => e = .returned (.bool true) ∧ Below w.heap.size w w' := by
  have AW := Lib.hid (awake18_c pc)
  have r0u : ∀ r ∈ ([] : List Ru), uR r := fun r h => by cases h
  have r0k : okS [] := by decide
  have I0 := Lib.hid (new_in r0u r0k)
  have T0 : Hid (Tg 0 (revs L 0) (newG [])) := Lib.hid ⟨rfl, Int.le_refl _, rfl⟩
  have PN := Lib.hid (fun W => pc.new W (.slice none 0 0) [] (Gn.Ss.nil W) r0u r0k)
  have PA : Hid (∀ (W : World) (a : Addr) (X : Nat → Prop) (G : Gd) (k : Nat) (x r r' : Int) (l : List Int), k ≤ 1000 → K W a X G → In k G → Tg r l G → u32P x → 0 ≤ r' → r ≤ r' → r' ≤ 288230376151711744 → Calls Try.prog 11 #[.pointer (some a), .int .u32 x, .int .i64 3, .int .i64 r'] W fun e w' => ∃ X' G', e = .returned (.tuple #[.int .i64 0, .int .i64 0]) ∧ K w' a X' G' ∧ In (k + 1) G' ∧ Tg r' (x :: l) G' ∧ (∀ i, X' i → X i ∨ W.heap.size ≤ i) ∧ Tu X W w') := Lib.hid (fun W a X G k x r r' l hk hK hI hT hx h0 h1 h2 => (pc.ask W a X G k x 3 r' hK (by omega) hI hx (by omega) ⟨by omega, by omega⟩).mono fun e w' ⟨⟨p1, X', p2, p3⟩, p4⟩ => by
    obtain ⟨s1, s2, s3⟩ := hT.ask (a := x) h0 h1 h2
    exact ⟨X', _, by rw [p1, s1, s2], p2, hI.ask hx 3 r', s3, p3, p4⟩)
  have PL : Hid (∀ (W : World) (a : Addr) (X : Nat → Prop) (G : Gd) (k : Nat), K W a X G → In k G → Calls Try.prog 14 #[.pointer (some a)] W fun e w' => ∃ u, e = .returned u ∧ Gn.Ss hvs 4 w' u G.hosts ∧ K w' a X G ∧ Below W.heap.size W w') := Lib.hid (fun W a X G k hK hI => (pc.list W a X G k hK hI).mono fun e w' ⟨⟨u, p1, p2⟩, p3⟩ => ⟨u, p1, p2.1, pc.keep _ _ _ _ _ _ hK (tu_below (X := fun _ => False) p3) (fun _ _ z => z), p3⟩)
  have PK := Lib.hid pc.keep
  obtain ⟨hA, hV, hN⟩ := g0
  have HS := Lib.hid hA
  have HV := Lib.hid hV
  obtain ⟨la, lc, rfl, c1, c2, _⟩ := hA
  obtain ⟨m, hm⟩ : ∃ m, L.length = m := ⟨_, rfl⟩
  have HM := Lib.hid hm
  rw [hm] at HS c1 hN ⊢
  have m0 : (0 : Int) ≤ (m : Int) := by omega
  have m2 : (m : Int) ≤ (lc : Int) := by omega
  have m3 : (lc : Int) ≤ 9223372036854775807 := by omega
  clear pc hm hN hV r0u r0k
  go_enter Try.func4, Try.ntmps4
  go_wp2_with fail
  refine (AW.out _).mono ?_
  rintro e w1 ⟨rfl, hb⟩
  have B1 := Lib.hid hb
  clear hb AW
  go_wp2_with fail
  refine (PN.out _).mono ?_
  rintro e w2 ⟨⟨pa, X0, rfl, hk, hx⟩, hb⟩
  have B2 := Lib.hid (bstep B1.out hb)
  have K2 := Lib.hid hk
  have X2 : Hid (∀ i, X0 i → w.heap.size ≤ i) := Lib.hid fun i hi => Nat.le_trans B1.out.size (hx i hi)
  clear hb hk hx PN B1
  generalize newG [] = G0 at *
  go_wp2_with fail
  go_loopw [5] (fun iv wr => ∃ (k : Nat) (r : Int) (X : Nat → Prop) (G : Gd), k ≤ m ∧ k ≤ 200 ∧ iv = .int .i64 (k : Nat) ∧ r ≤ 8388608 * (k : Int) ∧ K wr pa X G ∧ In k G ∧ Tg r (revs L k) G ∧ (∀ i, X i → w.heap.size ≤ i) ∧ Below w.heap.size w wr) (fun iv _ => m - (intOf iv).toNat)
  case atStart => exact ⟨0, 0, X0, G0, by omega, by omega, rfl, by omega, K2.out, I0.out, T0.out, X2.out, B2.out⟩
  case round =>
    obtain ⟨k, r, X, G, hk, hk5, rfl, hr, hK, hI, hT, hX, hb⟩ := hrel
    rename World => wr
    have KR := Lib.hid hK
    have IR := Lib.hid hI
    have TR := Lib.hid hT
    have XR := Lib.hid hX
    have HB := Lib.hid hb
    clear hK hI hX hb hT K2 X2 B2 I0 T0
    by_cases c0 : k < m
    · have e1 : decide ((k : Int) < (m : Int)) = true := decide_eq_true (by omega)
      have e2 : decide (k < m) = true := decide_eq_true c0
      by_cases c5 : k < 200
      · have e3 : decide ((k : Int) < 200) = true := decide_eq_true (by omega)
        have e4 : decide (k < 200) = true := decide_eq_true c5
        have k1 : (k : Int) < (m : Int) := by omega
        have k0 : (0 : Int) ≤ (k : Int) := by omega
        have wk : IntKind.i64.wrap ((k : Int) + 1) = (k : Int) + 1 := wrap_in (by omega) (by omega)
        have wm1 : IntKind.i64.wrap ((k : Int) * 8) = (k : Int) * 8 := wrap_in (by omega) (by omega)
        have wm2 : IntKind.i64.wrap ((k : Int) * 8 * 1048576) = (k : Int) * 8 * 1048576 := wrap_in (by omega) (by omega)
        obtain ⟨x, hx⟩ : ∃ x, L[k]? = some x := ⟨_, List.getElem?_eq_getElem (by rw [HM.out]; exact c0)⟩
        have hxu := HV.out x (List.mem_of_getElem? hx)
        have RC := Lib.hid (revs_cons hx)
        obtain ⟨lb, lo, rfl, _, hR⟩ := (HS.out.below HB.out).at hx
        have y0 := hR 0 _ rfl
        rw [Nat.mul_one, Nat.add_zero] at y0
        clear hx hR
        go_wp2_with fail
        refine (PA.out _ _ _ G k x r ((k : Int) * 8 * 1048576) (revs L k) (by omega) KR.out IR.out TR.out hxu (by omega) (by omega) (by omega)).mono ?_
        rintro e w3 ⟨X', G', rfl, hK, hI, hT, hX, hT2⟩
        have B3 : Hid (Below w.heap.size w w3) := Lib.hid (HB.out.trans (hT2.below XR.out HB.out.size))
        have K3 := Lib.hid hK
        have I3 := Lib.hid hI
        rw [← RC.out] at hT
        have T3 := Lib.hid hT
        have X3 : Hid (∀ i, X' i → w.heap.size ≤ i) := Lib.hid fun i hi => (hX i hi).elim (XR.out i) (fun q => Nat.le_trans HB.out.size q)
        clear hK hI hT hX hT2 KR IR TR XR HB y0 RC PA
        go_wp2_with fail
        refine (PL.out _ _ _ _ _ K3.out I3.out).mono ?_
        rintro e w4 ⟨lv, rfl, hl, hK, hb⟩
        have B4 := Lib.hid (bstep B3.out hb)
        have K4 := Lib.hid hK
        have L4 := Lib.hid hl
        have WA := Lib.hid (want_addrs T3.out.2.2)
        have RL : Hid ((revs L (k + 1)).length = k + 1) := Lib.hid (revs_len (by rw [HM.out]; omega))
        clear hK hl hb K3 B3 PL
        have RA : Hid (∀ n p x', n + p = k → L[p]? = some x' → (revs L (k + 1))[n]? = some x') := Lib.hid (fun n p x' h1 h2 => by
          rw [revs_at (by rw [HM.out]; omega) (by omega), show k + 1 - 1 - n = p by omega]
          exact h2)
        obtain ⟨l, hl⟩ : ∃ l, revs L (k + 1) = l := ⟨_, rfl⟩
        rw [hl] at RA WA RL
        clear hl
        go_wp2_with fail
        go_loopw [9, 10] (fun wv iv ws => ∃ (n q : Nat), n + q = k + 1 ∧ iv = .int .i64 ((q : Int) - 1) ∧ Gn.Own 34 uvs 1 ws w4.heap.size wv (wnt l n) ∧ Below w4.heap.size w4 ws) (fun _ iv _ => (intOf iv + 1).toNat)
        case atStart => exact ⟨0, k + 1, by omega, by rw [show (((k + 1 : Nat) : Int) - 1) = (k : Int) by omega], Gn.Own.nil _ _, brefl w4⟩
        case round =>
          obtain ⟨n, q, hn, rfl, ho, hb⟩ := hrel
          rename World => ws
          have OS := Lib.hid ho
          have BS := Lib.hid hb
          obtain ⟨pa1, pc1, epv⟩ := ho.form
          subst epv
          have WL := Lib.hid (wnt_len l n)
          obtain ⟨wn, hwn⟩ : ∃ z, (wnt l n).length = z := ⟨_, rfl⟩
          have WN := Lib.hid hwn
          clear ho hb
          cases q with
          | succ p =>
            rw [show (((p + 1 : Nat) : Int) - 1) = (p : Int) by omega]
            have f1 : decide (0 ≤ (p : Int)) = true := decide_eq_true (by omega)
            have p0 : (0 : Int) ≤ (p : Int) := by omega
            have p1 : (p : Int) < (m : Int) := by omega
            have wp : IntKind.i64.wrap ((p : Int) - 1) = (p : Int) - 1 := wrap_in (by omega) (by omega)
            obtain ⟨x', hx'⟩ : ∃ x, L[p]? = some x := ⟨_, List.getElem?_eq_getElem (by rw [HM.out]; omega)⟩
            have LN := Lib.hid (RA.out n p x' (by omega) hx')
            have WS := Lib.hid (wnt_snoc LN.out)
            have XA := Lib.hid (fun (W : World) (q : Below w.heap.size w W) => (HS.out.below q).at hx')
            have BWS := Lib.hid (bstep B4.out BS.out)
            clear hx'
            rw [hwn] at OS ⊢
            have ONS := Lib.hid ((OS.out).ss oku)
            generalize wnt l n = W at *
            clear hwn
            have wn16 : wn ≤ 16 := by rw [← WN.out]; exact WL.out
            have wn0 : (wn : Int) ≤ (pc1 : Int) := by
              obtain ⟨_, cap', e, z1, z2, _⟩ := ONS.out
              simp only [Value.slice.injEq] at e
              have := WN.out
              omega
            have wn1 : (pc1 : Int) ≤ 9223372036854775807 := by
              obtain ⟨_, cap', e, z1, z2, _⟩ := ONS.out
              simp only [Value.slice.injEq] at e
              omega
            go_wp2_with fail
            go_loopw [11, 12] (fun hv jv wt => ∃ j : Nat, j ≤ wn ∧ jv = .int .i64 (j : Nat) ∧ hv = .bool (decide (x' ∈ W.take j)) ∧ Below ws.heap.size ws wt) (fun _ jv _ => wn - (intOf jv).toNat)
            case atStart => exact ⟨0, by omega, rfl, by simp, brefl ws⟩
            case round =>
              obtain ⟨j, hj, rfl, rfl, hb⟩ := hrel
              rename World => wt
              have BT := Lib.hid hb
              clear hb
              obtain ⟨lb2, lo2, el, _, hR⟩ := XA.out wt (bstep BWS.out BT.out)
              cases el
              have y0 := hR 0 _ rfl
              rw [Nat.mul_one, Nat.add_zero] at y0
              clear hR
              by_cases c7 : j < wn
              · have f2 : decide ((j : Int) < (wn : Int)) = true := decide_eq_true (by omega)
                have f3 : decide (j < wn) = true := decide_eq_true c7
                have j1 : (j : Int) < (wn : Int) := by omega
                have j0 : (0 : Int) ≤ (j : Int) := by omega
                have wj : IntKind.i64.wrap ((j : Int) + 1) = (j : Int) + 1 := wrap_in (by omega) (by omega)
                obtain ⟨y, hy⟩ : ∃ y, W[j]? = some y := ⟨_, List.getElem?_eq_getElem (by rw [WN.out]; exact c7)⟩
                have HT := Lib.hid (hit_step (x := x') hy)
                obtain ⟨pb, po, rfl, _, hQ⟩ := (ONS.out.below BT.out).at hy
                have z0 := hQ 0 _ rfl
                rw [Nat.mul_one, Nat.add_zero] at z0
                clear hQ hy
                obtain ⟨t, ht⟩ : ∃ t, (y == x') = t := ⟨_, rfl⟩
                rw [ht] at HT
                go_upto_region 21 with fail
                cases hh : decide (x' ∈ W.take j) with
                | true =>
                  rw [hh] at HT
                  try rw [hh]
                  go_quiet (fail)
                  go_wp2_with fail
                  exact ⟨⟨j + 1, by omega, by go_num, by rw [HT.out]; rfl, bdrew BT.out _⟩, by simp [intOf]; omega⟩
                | false =>
                  rw [hh] at HT
                  try rw [hh]
                  go_quiet (fail)
                  go_wp2_with fail
                  exact ⟨⟨j + 1, by omega, by go_num, by rw [HT.out]; rfl, bdrew BT.out _⟩, by simp [intOf]; omega⟩
              · have f2 : decide ((j : Int) < (wn : Int)) = false := decide_eq_false (by omega)
                have f3 : decide (j < wn) = false := decide_eq_false c7
                obtain rfl : j = wn := by omega
                rw [List.take_of_length_le (Nat.le_of_eq WN.out)]
                have BT4 : Hid (Below w4.heap.size w4 wt) := Lib.hid (bstep BS.out BT.out)
                have OT := Lib.hid (OS.out.below BT.out)
                clear OS ONS XA BWS BT
                by_cases hh : x' ∈ W
                · have h1 : decide (x' ∈ W) = true := decide_eq_true hh
                  have SE : Hid (wnt l (n + 1) = W) := Lib.hid (by rw [WS.out]; unfold wst; rw [if_pos (.inl hh)])
                  rw [h1]
                  go_wp2_with fail
                  exact ⟨⟨n + 1, p, by omega, by go_num, by rw [SE.out]; exact OT.out, BT4.out⟩, by simp [intOf]⟩
                · have h1 : decide (x' ∈ W) = false := decide_eq_false hh
                  rw [h1]
                  by_cases c8 : j < 16
                  · have f4 : decide ((j : Int) < 16) = true := decide_eq_true (by omega)
                    have f5 : decide (j < 16) = true := decide_eq_true c8
                    have SE : Hid (wnt l (n + 1) = W ++ [x']) := Lib.hid (by rw [WS.out]; unfold wst; rw [if_neg (by intro z; rcases z with z | z; exact hh z; have := WN.out; omega)])
                    obtain ⟨v', w7, r7, o7, b7, _, _⟩ := Gn.app oku (w := wt) Try.underlying57 info_u rfl OT.out x' BT4.out.size (by rw [WN.out]; omega) (by rw [WN.out]; unfold maxLen; omega) 57
                    rw [← SE.out] at o7
                    obtain ⟨p7, c7', ev7⟩ := o7.form
                    subst ev7
                    have R7 : Hid ((Builtin.append_ #[57, 57] 57 #[.slice pa1 j pc1, .slice (some ⟨wt.heap.size, 0, none⟩) 1 1]).run Try.prog (wt.alloc (.cells #[.int .u32 x'] 34)) = .ok (.slice p7 (wnt l (n + 1)).length c7') w7) := Lib.hid r7
                    have O7 := Lib.hid o7
                    have B7 := Lib.hid (BT4.out.trans b7)
                    clear r7 o7 b7 OT BT4
                    go_wp2_with (first | (at_builtin; refine wpList_append_eqL rfl _ _ 57 rfl _ _ _ w7 rfl rfl R7.out ?_))
                    exact ⟨⟨n + 1, p, by omega, by go_num, O7.out, B7.out⟩, by simp [intOf]⟩
                  · have f4 : decide ((j : Int) < 16) = false := decide_eq_false (by omega)
                    have f5 : decide (j < 16) = false := decide_eq_false c8
                    have SE : Hid (wnt l (n + 1) = W) := Lib.hid (by rw [WS.out]; unfold wst; rw [if_pos (.inr (by have := WN.out; omega))])
                    go_wp2_with fail
                    exact ⟨⟨n + 1, p, by omega, by go_num, by rw [SE.out]; exact OT.out, BT4.out⟩, by simp [intOf]⟩
          | zero =>
            obtain rfl : n = k + 1 := by omega
            have WE : Hid (wnt l (k + 1) = G'.hosts.map Ho.addr) := Lib.hid (by rw [wnt_all (Nat.le_of_eq RL.out)]; exact WA.out)
            obtain ⟨hn', hhn⟩ : ∃ z, G'.hosts.length = z := ⟨_, rfl⟩
            have HN := Lib.hid hhn
            obtain rfl : hn' = wn := by rw [← WN.out, WE.out, List.length_map]; exact hhn.symm
            have LS := Lib.hid (L4.out.below BS.out)
            have OW := Lib.hid (OS.out.ss oku)
            obtain ⟨qa, qc, rfl, d1, d2, _⟩ := L4.out
            rw [hhn] at LS d1
            rw [hwn] at OW
            rw [hwn, hhn]
            clear hhn hwn L4 OS
            have d3 : (hn' : Int) ≤ (qc : Int) := by omega
            have d4 : (qc : Int) ≤ 9223372036854775807 := by omega
            have d5 : (hn' : Int) ≤ (pc1 : Int) := by
              obtain ⟨_, cap', e, z1, z2, _⟩ := OW.out
              simp only [Value.slice.injEq] at e
              have := WN.out
              omega
            have d6 : (pc1 : Int) ≤ 9223372036854775807 := by
              obtain ⟨_, cap', e, z1, z2, _⟩ := OW.out
              simp only [Value.slice.injEq] at e
              omega
            have KS := Lib.hid (PK.out _ ws _ _ (fun _ => False) _ K4.out (tu_below BS.out) (fun _ _ z => z))
            have BWS := Lib.hid (bstep B4.out BS.out)
            go_wp2_with fail
            go_loopw [13] (fun iv wt => ∃ j : Nat, j ≤ hn' ∧ iv = .int .i64 (j : Nat) ∧ Below ws.heap.size ws wt) (fun iv _ => hn' - (intOf iv).toNat)
            case atStart => exact ⟨0, by omega, rfl, brefl ws⟩
            case round =>
              obtain ⟨j, hj, rfl, hb⟩ := hrel
              rename World => wt
              have BT := Lib.hid hb
              clear hb
              by_cases c7 : j < hn'
              · have f2 : decide ((j : Int) < (hn' : Int)) = true := decide_eq_true (by omega)
                have f3 : decide (j < hn') = true := decide_eq_true c7
                have j1 : (j : Int) < (hn' : Int) := by omega
                have j0 : (0 : Int) ≤ (j : Int) := by omega
                have wj : IntKind.i64.wrap ((j : Int) + 1) = (j : Int) + 1 := wrap_in (by omega) (by omega)
                obtain ⟨h, hh⟩ : ∃ h, G'.hosts[j]? = some h := ⟨_, List.getElem?_eq_getElem (by rw [HN.out]; exact c7)⟩
                have hw : (wnt l (k + 1))[j]? = some h.addr := by rw [WE.out, List.getElem?_map, hh]; rfl
                obtain ⟨pb, po, rfl, _, hQ⟩ := (OW.out.below BT.out).at hw
                obtain ⟨qb, qo, rfl, _, hR⟩ := (LS.out.below BT.out).at hh
                have z0 := hQ 0 _ rfl
                have z1 := hR 0 _ rfl
                rw [Nat.mul_one, Nat.add_zero] at z0
                rw [Nat.add_zero] at z1
                clear hQ hR hw hh
                obtain ⟨h1, h2, h3, h4⟩ := h
                simp only at z0 z1
                have ee : (h1 == h1) = true := by simp
                go_upto_region 29 with fail
                go_quiet (fail)
                go_wp2_with fail
                exact ⟨⟨j + 1, by omega, by go_num, bdrew BT.out _⟩, by simp [intOf]; omega⟩
              · have f2 : decide ((j : Int) < (hn' : Int)) = false := decide_eq_false (by omega)
                have f3 : decide (j < hn') = false := decide_eq_false c7
                have KT := Lib.hid (PK.out _ wt _ _ (fun _ => False) _ KS.out (tu_below BT.out) (fun _ _ z => z))
                have BW := Lib.hid (bstep BWS.out BT.out)
                go_wp2_with fail
                exact ⟨⟨k + 1, (k : Int) * 8 * 1048576, X', G', by omega, by omega, by go_num, by omega, KT.out, I3.out, T3.out, X3.out, BW.out⟩, by simp [intOf]; omega⟩
      · have e3 : decide ((k : Int) < 200) = false := decide_eq_false (by omega)
        have e4 : decide (k < 200) = false := decide_eq_false c5
        go_wp2_with fail
        go_ret
        exact ⟨rfl, HB.out⟩
    · have e1 : decide ((k : Int) < (m : Int)) = false := decide_eq_false (by omega)
      have e2 : decide (k < m) = false := decide_eq_false c0
      go_wp2_with fail
      go_ret
      exact ⟨rfl, HB.out⟩
set_option maxRecDepth 100000 in
theorem lifted (os : Os) (started : os.Started) (H : Type) (enc : TypeId × Value → H) :
    ReturnsInHanded {} Try.checked os 4 .any (Rows.guardTableSpec.pre6 enc Try.prog Try.f4 Rows.guardTableRow.domain false) (Rows.guardTableSpec.post enc Try.prog Try.f4 false true false false) := by
  refine returnsInHanded_of_change_sized (C := Try.checked) own started (by kernel_rfl) Try.func4
    (ChangeSpec.witness6 (enc := enc) (C := Try.checked) false ⟨#[], #[.slice none 0 0], []⟩ 8 (by kernel_rfl) (by kernel_rfl) (by kernel_rfl) (by kernel_rfl)) ?_
  intro W base args ds gs before hval0 hW hcnd hsz0 _
  have hsz : (DataW.weightsEach Try.prog (Try.f4.params.toList ++ Rows.guardTableSpec.plain.varTypes Try.prog) (ds ++ gs)).all (· ≤ reachBytes) = true := hsz0
  have hval : ∀ (j : Nat) t v, Try.f4.params[j]? = some t → args[j]? = some v → Value.okWide Try.prog W .any base t v := hval0
  have hW' := hW
  obtain ⟨p, q, hA0, hV, rfl, hfz, hnd⟩ := hW
  have hA : DataW.TrodAll enc Try.prog W 0 (fun _ => true) true Try.f4.params.toList args.toList ds p := hA0
  rw [Try.params4] at hA hval hsz
  obtain ⟨v0, vs0, d0, ds0, p0, q0, hargs, rfl, rfl, h0, r0⟩ := trodAll_cons hA
  obtain ⟨rfl, rfl, rfl⟩ := trodAll_nil r0
  obtain rfl : args = #[v0] := by cases args; simp_all
  obtain ⟨rfl, rfl⟩ := trodVars_none hV
  have h0k := h0
  have hlt0 : ∀ x ∈ p0, x.block < W.heap.size := fun x hx => by have := hW'.lt x (by simp [hx]); simpa using this
  have hb0 : ∀ es sp, d0 = .slice es sp → (es.length + sp.length) * Try.prog.bytesOf 34 ≤ reachBytes := by
    intro es sp he
    exact sized_slice hsz (j := 0) (t := 57) (e := 34) rfl (by rw [he]; rfl) Try.underlying57
  obtain ⟨L0, g0⟩ := open_us (hval 0 57 v0 rfl rfl) h0 hb0
  clear hA0 hval0
  simp only [List.append_nil] at hW'
  refine (walk pc v0 L0 W g0).mono fun e W' ⟨he, hg⟩ => ?_
  subst he
  exact ⟨_, rfl, _, _, _, [], _, [], hW', trodAll_cons_mk (shut_bool Try.underlying4 _) trodAll_mk0,
    (trodAll_cons_mk (Below.trod laidOut (by kernel_rfl) (of_decide_eq_true (by kernel_rfl)) h0k hg hlt0) trodAll_mk0), rfl, hg.frame _, fun h => nomatch h⟩

theorem over : Rows.guardTableRow.holds Try.pinned (OpenSpec.ofChange Rows.guardTableSpec) :=
  OpenClaim.holds_of_wide 4 Try.f4 rfl rfl rfl rfl rfl rfl rfl ⟨rfl, rfl, rfl, rfl, rfl⟩ rfl rfl rfl rfl rfl (by kernel_rfl) Try.func4 (by kernel_rfl)
    (of_decide_eq_true (by kernel_rfl)) (by unfold Func.isWrapper; first | (rw [if_pos (by decide +kernel)]; kernel_rfl) | (rw [if_neg (by decide +kernel)]; exact ⟨rfl, rfl⟩))
    (fun os started H enc _ => lifted os started H enc)

theorem proved : Rows.GuardTableSaid :=
  over
end Go.Proofs.Ytdngoopogajhiaa.guardTable
