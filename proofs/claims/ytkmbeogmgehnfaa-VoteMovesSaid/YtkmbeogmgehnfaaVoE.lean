/-
  The document's Intersect.
  Conditions: none but that the candidates lie in memory.
-/
import Derived.Test.YtkmbeogmgehnfaaVoD
namespace Go.Proofs.Ytkmbeogmgehnfaa.Vo
open Go.RowKit Go.ChangeShapes Go.WideShapes Go.ChangeAt Go.Joins Fl Hu
set_option linter.unusedVariables false
set_option linter.unusedSimpArgs false

theorem results_cell_two {P : Program} {fn : Func} {p q r : Tmp} {ty : TypeId} (h : fn.results = #[.cell p ty, .tmp q, .tmp r]) (tmps : Array Value) (w : World) (b : Nat) (cs : List Value) (d : TypeDesc) (x y : Value)
    (hp : tmps.getD p undef = .pointer (some ⟨b, 0, none⟩)) (hx : tmps.getD q undef = x) (hy : tmps.getD r undef = y) (hc : w.rangeAt b 0 cs)
    (hu : P.underlying ty = some d) (hd : d.isRow = true) (hi : (P.info? ty).map (·.size) = some cs.length) :
    (results fn tmps).run P w = .ok (.tuple #[.agg cs.toArray, x, y]) w := by
  have hp' : tmps[p]?.getD undef = .pointer (some ⟨b, 0, none⟩) := by simpa using hp
  have hx' : tmps[q]?.getD undef = x := by simpa using hx
  have hy' : tmps[r]?.getD undef = y := by simpa using hy
  simp [results, h, hp', hx', hy', asAddr, run_loadVar_mid w b 0 ty cs d hc hu hd hi]
theorem OwnI.keep {w w' : World} {base : Nat} {v : Value} {l : List Int} (h : OwnI w base v l) (hk : ∀ k, k < w.heap.size → v.ownBlock = some k → w'.heap[k]? = w.heap[k]?) : OwnI w' base v l := by
  obtain ⟨h1, h2⟩ := h
  refine ⟨h1, ?_⟩
  rcases h2 with h2 | ⟨g, cap, cur, hv, hb, hh, h5⟩
  · exact .inl h2
  · exact .inr ⟨g, cap, cur, hv, hb, (hk g (Array.getElem?_eq_some_iff.1 hh).1 (by rw [hv]; rfl)).trans hh, h5⟩
theorem OwnI.set {w : World} {base b i : Nat} {v x : Value} {l : List Int} (h : OwnI w base v l) (hb : b < base) : OwnI (w.setCell ⟨b, i, none⟩ x) base v l :=
  h.keep fun k _ e => set_other (by have := h.block k e; omega)
theorem OwnI.form {w : World} {base : Nat} {v : Value} {l : List Int} (h : OwnI w base v l) : ∃ a cap, v = .slice a l.length cap := by
  obtain ⟨a, cap, e, _⟩ := h.is
  exact ⟨a, cap, e⟩
/-- what Intersect answers. -/
noncomputable def inA (L : List Cd) : ((Int × Int) × List Nat) × Int := if okL L then (match inV L with | some p => ((p, tru L p.1 p.2 L.length), 0) | none => (((0, 0), []), 5)) else (((0, 0), []), 3)
def IP (w : World) (L : List Cd) (e : Ending) (w' : World) : Prop :=
  ∃ v', e = .returned (.tuple #[.agg #[.int .i64 (inA L).1.1.1, .int .i64 (inA L).1.1.2], v', .int .i64 (inA L).2]) ∧ OwnI w' w.heap.size v' (ints (inA L).1.2)
theorem inA_shape {L : List Cd} (h : ¬ okL L) : inA L = (((0, 0), []), 3) := by unfold inA; rw [if_neg h]
theorem inA_none {L : List Cd} (h : okL L) (hv : ∀ a, 2 * a < L.length → ∀ m M, ¬ Good L a m M) : inA L = (((0, 0), []), 5) := by unfold inA; rw [if_pos h, inV_none hv]
theorem inA_some {L : List Cd} (h : okL L) {m M : Int} (hv : IsI L m M) : inA L = (((m, M), tru L m M L.length), 0) := by unfold inA; rw [if_pos h, inV_some hv]
theorem IP_of {w w' : World} {L : List Cd} {m M e : Int} {T : List Nat} (h : inA L = (((m, M), T), e)) {v' : Value} (q : OwnI w' w.heap.size v' (ints T)) : IP w L (.returned (.tuple #[.agg #[.int .i64 m, .int .i64 M], v', .int .i64 e])) w' := by
  unfold IP; rw [h]; exact ⟨v', rfl, q⟩
theorem ints_nil : ints [] = [] := rfl
set_option maxRecDepth 100000 in
set_option maxHeartbeats 8000000 in
theorem rIntersect_c {w : World} {v : Value} {L : List Cd} (h : Cs w v L) (hn : L.length ≤ 8796093022208) :
    Calls Try.prog 9 #[v] w fun e w' => IP w L e w' ∧ Below w.heap.size w w' := by
  have B0 := Lib.hid (balloc (brefl w) (.cells #[.int .i64 0, .int .i64 0] 27))
  have N0 := Lib.hid (new2 w 0 0 27)
  have CK := Lib.hid (rCheck_c (S := []) (h.below B0.out) (sv := .slice none 0 0) ⟨none, 0, rfl, by simp, by omega, fun q => absurd q (by simp)⟩ hn (by simp))
  rw [chE_nil] at CK
  have HS := Lib.hid h
  have RZ : Hid (∀ W (x y e : Int) (u : Value), Blk W w.heap.size [.int .i64 x, .int .i64 y] → ∀ tmps : Array Value, tmps.getD 2 undef = .pointer (some ⟨w.heap.size, 0, none⟩) → tmps.getD 3 undef = u → tmps.getD 4 undef = .int .i64 e → (results Try.f9 tmps).run Try.prog W = .ok (.tuple #[.agg #[.int .i64 x, .int .i64 y], u, .int .i64 e]) W) := Lib.hid fun W x y e u hb tmps h1 h2 h3 =>
    results_cell_two rfl tmps W w.heap.size [.int .i64 x, .int .i64 y] _ _ _ h1 h2 h3 hb.range Try.underlying27 rfl (by exact info_span)
  by_cases ok : okL L
  · rw [if_pos ok] at CK
    have OK := Lib.hid ok
    have TR := Lib.hid (fun w' (q : Below w.heap.size w w') a (ha : a < L.length) => rTry_c (h.below q) ok a ha)
    have n32 := ok.2
    obtain ⟨va, cap, rfl, c1, c2, _⟩ := h
    obtain ⟨m, hm⟩ : ∃ m, L.length = m := ⟨_, rfl⟩
    have HM := Lib.hid hm
    rw [hm] at HS CK TR c1 n32 hn ⊢
    have m0 : (0 : Int) ≤ (m : Int) := by omega
    have m1 : (m : Int) ≤ 32 := by omega
    have m2 : (m : Int) ≤ (cap : Int) := by omega
    have m3 : (cap : Int) ≤ 9223372036854775807 := by omega
    clear ok hm hn
    go_enter Try.func9, Try.ntmps9
    go_wp2_with fail
    refine CK.out.mono ?_
    rintro e w1 ⟨rfl, hb⟩
    have B1 := Lib.hid (bstep B0.out hb)
    have N1 := Lib.hid (N0.out.below hb)
    clear hb N0 B0 CK
    go_wp2_with fail
    go_loopw [6] (fun iv wr => ∃ a : Nat, a ≤ m ∧ iv = .int .i64 (a : Nat) ∧ (∀ b, b < a → ∀ m' M', ¬ Good L b m' M') ∧ Blk wr w.heap.size [.int .i64 0, .int .i64 0] ∧ Below w.heap.size w wr) (fun iv _ => m - (intOf iv).toNat)
    case atStart => exact ⟨0, by omega, rfl, fun b hb => absurd hb (by omega), N1.out, B1.out⟩
    case round =>
      obtain ⟨a, ha, rfl, hno, hn0, hb⟩ := hrel
      rename World => wr
      have NO := Lib.hid hno
      have N2 := Lib.hid hn0
      have B2 := Lib.hid hb
      clear hno hn0 hb N1 B1
      have w2a : IntKind.i64.wrap (2 * (a : Int)) = 2 * (a : Int) := wrap_in (by omega) (by omega)
      have wa : IntKind.i64.wrap ((a : Int) + 1) = (a : Int) + 1 := wrap_in (by omega) (by omega)
      by_cases c : 2 * a < m
      · have e1 : decide (2 * (a : Int) < (m : Int)) = true := decide_eq_true (by omega)
        have e2 : decide (2 * a < m) = true := decide_eq_true c
        have T1 := Lib.hid (TR.out wr B2.out a (by omega))
        go_wp2_with fail
        refine T1.out.mono ?_
        rintro e w3 ⟨⟨lo, hi, ob, rfl, tp⟩, hb⟩
        have hb2 := balloc hb (.cells #[.int .i64 lo, .int .i64 hi] 27)
        have B3 := Lib.hid (bstep B2.out hb2)
        have N3 := Lib.hid (N2.out.below hb2)
        have S3 := Lib.hid (new2 w3 lo hi 27)
        have L3 : Hid (w.heap.size < w3.heap.size) := Lib.hid (by have := N2.out.1; have := hb.size; omega)
        clear hb hb2 B2 N2 T1
        rcases tp with ⟨rfl, gd⟩ | ⟨rfl, ng⟩
        · have IS : Hid (inA L = (((lo, hi), tru L lo hi m), 0)) := Lib.hid (by rw [← HM.out]; exact inA_some OK.out ⟨a, by rw [HM.out]; exact c, gd, NO.out⟩)
          clear gd
          obtain ⟨b7, hb7⟩ : ∃ b, w3.heap.size = b := ⟨_, rfl⟩
          rw [hb7] at S3 L3
          go_upto_region 9 with fail
          try rw [hb7]
          clear hb7
          generalize w3.alloc (.cells #[.int .i64 lo, .int .i64 hi] 27) = w4 at *
          go_wp2_with fail
          go_loopw [9, 10] (fun ov iv wx => ∃ k : Nat, k ≤ m ∧ iv = .int .i64 (k : Nat) ∧ OwnI wx (b7 + 1) ov (ints (tru L lo hi k)) ∧ Blk wx b7 [.int .i64 lo, .int .i64 hi] ∧ Blk wx w.heap.size [.int .i64 0, .int .i64 0] ∧ Below w.heap.size w wx) (fun _ iv _ => m - (intOf iv).toNat)
          case atStart => exact ⟨0, by omega, rfl, OwnI.nil _ _, S3.out, N3.out, B3.out⟩
          case round =>
            obtain ⟨k, hk, rfl, ho, hs, hn0, hb⟩ := hrel
            rename World => wx
            have OX := Lib.hid ho
            have SX := Lib.hid hs
            have NX := Lib.hid hn0
            have BX := Lib.hid hb
            clear ho hs hn0 hb S3 N3 B3
            by_cases ck : k < m
            · have f1 : decide ((k : Int) < (m : Int)) = true := decide_eq_true (by omega)
              have f2 : decide (k < m) = true := decide_eq_true ck
              have k1 : (k : Int) < (m : Int) := by omega
              have k0 : (0 : Int) ≤ (k : Int) := by omega
              have wk : IntKind.i64.wrap ((k : Int) + 1) = (k : Int) + 1 := wrap_in (by omega) (by omega)
              obtain ⟨x, hx⟩ : ∃ x, L[k]? = some x := ⟨_, List.getElem?_eq_getElem (by rw [HM.out]; exact ck)⟩
              have SP := Lib.hid (fun w => rSpan_c x w (OK.out.1 x (List.mem_of_getElem? hx)))
              have TY := Lib.hid (tru_yes (m := lo) (M := hi) hx)
              have TN := Lib.hid (tru_no (m := lo) (M := hi) hx)
              have tl := tru_len L lo hi k
              obtain ⟨b, off, rfl, y0, y1, y2, y3⟩ := (HS.out.below BX.out).at hx
              clear hx
              obtain ⟨xo, xd, xj, xs⟩ := x
              obtain ⟨xl, hxl⟩ : ∃ z, xo - xd = z := ⟨_, rfl⟩
              obtain ⟨xh, hxh⟩ : ∃ z, xo + xd = z := ⟨_, rfl⟩
              have MT : Hid (mt lo hi ⟨xo, xd, xj, xs⟩ = (decide (xl ≤ hi) && decide (lo ≤ xh))) := Lib.hid (by unfold mt; rw [← hxl, ← hxh])
              rw [MT.out] at TY TN
              simp only [hxl, hxh] at y0 y1 y2 y3 SP
              clear hxl hxh
              replace SP : Hid (∀ w, Calls Try.prog 22 #[.agg #[.int .i64 xo, .int .i64 xd, .int .i64 xj, .int .i64 xs]] w fun e w' => e = .returned (.agg #[.int .i64 xl, .int .i64 xh]) ∧ Below w.heap.size w w') := SP
              obtain ⟨oa, oc, eov⟩ := OX.out.form
              subst eov
              go_wp2_with fail
              refine (SP.out _).mono ?_
              rintro e w5 ⟨rfl, hb⟩
              have hb2 := balloc hb (.cells #[.int .i64 xl, .int .i64 xh] 27)
              have B5 := Lib.hid (bstep BX.out hb2)
              have N5 := Lib.hid (NX.out.below hb2)
              have S5 := Lib.hid (SX.out.below hb2)
              have O5 := Lib.hid (ownI_below OX.out hb2)
              have X5 := Lib.hid (new2 w5 xl xh 27)
              clear hb hb2 y0 y1 y2 y3 SP OX SX NX BX
              go_upto_region 14 with fail
              generalize w5.alloc (.cells #[.int .i64 xl, .int .i64 xh] 27) = w6 at *
              obtain ⟨z0, z1⟩ := blk2 X5.out (brefl w6)
              obtain ⟨x0, x1⟩ := blk2 S5.out (brefl w6)
              cases d1 : decide (xl ≤ hi) with
              | true =>
                cases d2 : decide (lo ≤ xh) with
                | true =>
                  rw [d1, d2] at TY
                  obtain ⟨v', w7, hr, o7, b7', _⟩ := appI O5.out (k : Int) S5.out.1 (by rw [ints_len]; omega) 23
                  have e7 : ints (tru L lo hi k) ++ [(k : Int)] = ints (tru L lo hi (k + 1)) := by rw [TY.out rfl, ints_app]; rfl
                  rw [e7] at o7
                  have HR := Lib.hid hr
                  have O7 := Lib.hid o7
                  have S7 := Lib.hid (S5.out.belowB (Nat.lt_succ_self _) b7')
                  have N7 := Lib.hid (N5.out.belowB (Nat.lt_succ_of_lt L3.out) b7')
                  have B7 := Lib.hid (B5.out.trans (b7'.mono (by have := L3.out; omega)))
                  clear hr o7 b7' e7
                  go_wp2_with (first | (at_builtin; refine wpList_append_eqL rfl _ _ 23 rfl _ _ v' w7 rfl rfl HR.out ?_))
                  exact ⟨⟨k + 1, by omega, by go_num, O7.out, S7.out, N7.out, B7.out⟩, by simp [intOf]; omega⟩
                | false =>
                  rw [d1, d2] at TN
                  have O6 : Hid (OwnI w6 (b7 + 1) (.slice oa (ints (tru L lo hi k)).length oc) (ints (tru L lo hi (k + 1)))) := Lib.hid (by rw [TN.out rfl]; exact O5.out)
                  go_wp2_with fail
                  exact ⟨⟨k + 1, by omega, by go_num, O6.out, S5.out, N5.out, B5.out⟩, by simp [intOf]; omega⟩
              | false =>
                rw [d1, Bool.false_and] at TN
                have O6 : Hid (OwnI w6 (b7 + 1) (.slice oa (ints (tru L lo hi k)).length oc) (ints (tru L lo hi (k + 1)))) := Lib.hid (by rw [TN.out rfl]; exact O5.out)
                go_wp2_with fail
                exact ⟨⟨k + 1, by omega, by go_num, O6.out, S5.out, N5.out, B5.out⟩, by simp [intOf]; omega⟩
            · have f1 : decide ((k : Int) < (m : Int)) = false := decide_eq_false (by omega)
              have f2 : decide (k < m) = false := decide_eq_false ck
              obtain rfl : k = m := by omega
              have O8 := Lib.hid ((((OX.out.set (i := 0) (x := .int .i64 lo) (Nat.lt_succ_of_lt L3.out)).set (i := 1) (x := .int .i64 hi) (Nat.lt_succ_of_lt L3.out)).mono (base' := w.heap.size) (by have := L3.out; omega)))
              have S8 := Lib.hid (blk_set (blk_set NX.out 0 (.int .i64 lo)) 1 (.int .i64 hi))
              have B8 := Lib.hid (below_set (below_set BX.out (Nat.le_refl w.heap.size) 0 (.int .i64 lo)) (Nat.le_refl w.heap.size) 1 (.int .i64 hi))
              have FN := Lib.hid (IP_of IS.out O8.out)
              obtain ⟨x0, x1⟩ := blk2 SX.out (brefl _)
              obtain ⟨z0, z1⟩ := blk2 NX.out (brefl _)
              have f3 := (NX.out.2 0 _ rfl).2
              have f4 := (NX.out.2 1 _ rfl).2
              go_wp2_with fail
              exact bodyPost_ret (v := .tuple #[.agg #[.int .i64 lo, .int .i64 hi], _, .int .i64 0]) (RZ.out _ lo hi 0 _ S8.out _ rfl rfl rfl) rfl ⟨FN.out, B8.out⟩
        · have NN : Hid (∀ b, b < a + 1 → ∀ m' M', ¬ Good L b m' M') := Lib.hid fun b hb => by
            by_cases q : b < a
            · exact NO.out b q
            · obtain rfl : b = a := by omega
              exact ng
          clear ng
          go_wp2_with fail
          exact ⟨⟨a + 1, by omega, by go_num, NN.out, N3.out, B3.out⟩, by simp [intOf]; omega⟩
      · have e1 : decide (2 * (a : Int) < (m : Int)) = false := decide_eq_false (by omega)
        have e2 : decide (2 * a < m) = false := decide_eq_false c
        have IS := Lib.hid (inA_none OK.out (fun b hb => NO.out b (by rw [HM.out] at hb; omega)))
        have S8 := Lib.hid (blk_set (blk_set N2.out 0 (.int .i64 0)) 1 (.int .i64 0))
        have B8 := Lib.hid (below_set (below_set B2.out (Nat.le_refl w.heap.size) 0 (.int .i64 0)) (Nat.le_refl w.heap.size) 1 (.int .i64 0))
        obtain ⟨z0, z1⟩ := blk2 N2.out (brefl _)
        have f3 := (N2.out.2 0 _ rfl).2
        have f4 := (N2.out.2 1 _ rfl).2
        go_wp2_with fail
        exact bodyPost_ret (v := .tuple #[.agg #[.int .i64 0, .int .i64 0], .slice none 0 0, .int .i64 5]) (RZ.out _ 0 0 5 _ S8.out _ rfl rfl rfl) rfl ⟨IP_of IS.out (OwnI.nil _ _), B8.out⟩
  · rw [if_neg ok] at CK
    have IS := Lib.hid (inA_shape ok)
    obtain ⟨va, cap, rfl, c1, c2, _⟩ := h
    generalize L.length = m at *
    clear ok
    go_enter Try.func9, Try.ntmps9
    go_wp2_with fail
    refine CK.out.mono ?_
    rintro e w1 ⟨rfl, hb⟩
    have B1 := Lib.hid (bstep B0.out hb)
    have N1 := Lib.hid (N0.out.below hb)
    clear hb N0 B0 CK
    have S8 := Lib.hid (blk_set (blk_set N1.out 0 (.int .i64 0)) 1 (.int .i64 0))
    have B8 := Lib.hid (below_set (below_set B1.out (Nat.le_refl w.heap.size) 0 (.int .i64 0)) (Nat.le_refl w.heap.size) 1 (.int .i64 0))
    obtain ⟨z0, z1⟩ := blk2 N1.out (brefl _)
    have f3 := (N1.out.2 0 _ rfl).2
    have f4 := (N1.out.2 1 _ rfl).2
    go_wp2_with fail
    exact bodyPost_ret (v := .tuple #[.agg #[.int .i64 0, .int .i64 0], .slice none 0 0, .int .i64 3]) (RZ.out _ 0 0 3 _ S8.out _ rfl rfl rfl) rfl ⟨IP_of IS.out (OwnI.nil _ _), B8.out⟩
end Go.Proofs.Ytkmbeogmgehnfaa.Vo
