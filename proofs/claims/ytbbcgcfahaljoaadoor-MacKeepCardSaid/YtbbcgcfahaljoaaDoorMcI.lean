/-
  The contracts of mac.Find, sundialref06.Check and sundialref06.Find.
  Conditions: none.
-/
import Derived.Test.YtbbcgcfahaljoaaDoorMcD
import Derived.Test.YtbbcgcfahaljoaaDoorMcF
namespace Go.Proofs.YtbbcgcfahaljoaaDoor.Mc
open Go.ChangeShapes Go.WideShapes Go.ChangeAt Go.RowKit Go.Joins Hs
set_option linter.unusedVariables false
set_option linter.unusedSimpArgs false

/-- a key's block that may be written. -/
def Kc (w : World) (b : Nat) (x y : Int) (v : Value) : Prop :=
  b < w.heap.size ∧ w.cell? ⟨b, 0, none⟩ = some (.int .u32 x) ∧ w.cell? ⟨b, 1, none⟩ = some (.int .i64 y) ∧ w.cell? ⟨b, 2, none⟩ = some v ∧ w.frozen? ⟨b, 0, none⟩ = false ∧ w.frozen? ⟨b, 1, none⟩ = false ∧ w.frozen? ⟨b, 2, none⟩ = false
theorem Kc.new (w : World) (x y : Int) (v : Value) (ty : TypeId) : Kc (w.alloc (.cells #[.int .u32 x, .int .i64 y, v] ty)) w.heap.size x y v := by
  refine ⟨by simp, by simp, by simp, by simp, ?_, ?_, ?_⟩ <;> simp
theorem Kc.belowB {B : Nat} {w w' : World} {b : Nat} {x y : Int} {v : Value} (h : Kc w b x y v) (hb : b < B) (hs : w.heap.size ≤ w'.heap.size) (k : Below B w w') : Kc w' b x y v := by
  obtain ⟨h0, h1, h2, h3, h4, h5, h6⟩ := h
  exact ⟨by omega, (k.cell (p := ⟨b, 0, none⟩) hb).trans h1, (k.cell (p := ⟨b, 1, none⟩) hb).trans h2, (k.cell (p := ⟨b, 2, none⟩) hb).trans h3, (k.frozen (p := ⟨b, 0, none⟩) hb).trans h4, (k.frozen (p := ⟨b, 1, none⟩) hb).trans h5, (k.frozen (p := ⟨b, 2, none⟩) hb).trans h6⟩
theorem Kc.below {w w' : World} {b : Nat} {x y : Int} {v : Value} (h : Kc w b x y v) (k : Below w.heap.size w w') : Kc w' b x y v := h.belowB h.1 k.size k

theorem bdrewn {B : Nat} {a b : World} (h : Below B a b) (n : Nat) : Below B a (b.drewN n) := h.trans ⟨rfl, rfl, rfl, Nat.le_refl _, fun _ _ => rfl⟩
set_option maxRecDepth 100000 in
set_option maxHeartbeats 8000000 in
theorem Find_c {w : World} {v : Value} {n : Nat} {K : Nat → KD} (R : Ring w v n K) (x : Int) :
    Calls Tryd.prog 9 #[v, .int .u32 x] w fun e w' => ∃ v', e = .returned (.tuple #[.agg #[.int .u32 (fK n K x).id, .int .i64 (fK n K x).kind, v'], .int .i64 (fE n K x)]) ∧ Own w' w.heap.size v' (bl (fK n K x).f (fK n K x).l) ∧ Below w.heap.size w w' := by
  have RG := Lib.hid R
  obtain ⟨a, cap, rfl, h1, h2, h3, h4⟩ := R
  have H3 := Lib.hid h3
  have H4 := Lib.hid h4
  clear h3 h4
  have q1 : (n : Int) ≤ (cap : Int) := by omega
  have q2 : (cap : Int) ≤ 9223372036854775807 := by omega
  have BA := Lib.hid (balloc (brefl w) (.cells #[.int .u32 0, .int .i64 0, .slice none 0 0] 28))
  have CA := Lib.hid (Kc.new w 0 0 (.slice none 0 0) 28)
  obtain ⟨r, HQ⟩ : ∃ r, Hid (r = fK n K x) := ⟨_, Lib.hid rfl⟩
  obtain ⟨z, HE⟩ : ∃ z, Hid (z = fE n K x) := ⟨_, Lib.hid rfl⟩
  rw [← HQ.out, ← HE.out]
  have CH := Lib.hid (Check_c (RG.out.below BA.out))
  by_cases c : chk n K = 0
  · rw [c] at CH
    go_enter Tryd.func9, Tryd.ntmps9
    go_wp2_with fail
    generalize w.alloc (.cells #[.int .u32 0, .int .i64 0, .slice none 0 0] 28) = w0 at *
    refine CH.out.mono ?_
    rintro e w1 ⟨rfl, hb⟩
    have B1 := Lib.hid (bstep BA.out hb)
    have C1 := Lib.hid (CA.out.below hb)
    clear hb CA CH
    go_wp2_with fail
    refine (place_c a n cap K x w1 h1 h2 (fun h => by obtain ⟨b, off, ea, hb, hk⟩ := H3.out h; exact ⟨b, off, ea, Nat.lt_of_lt_of_le hb B1.out.size, fun j hj => (hk j hj).below hb B1.out⟩)).mono ?_
    rintro e w2 ⟨rfl, hb⟩
    have B2 := Lib.hid (bstep B1.out hb)
    have C2 := Lib.hid (C1.out.below hb)
    clear hb C1
    unfold pl
    by_cases d : fi K x n < n
    · have HZ : Hid (z = 0) := Lib.hid (by rw [HE.out, fE, if_pos c, if_pos d])
      have HK : Hid (r = K (fi K x n)) := Lib.hid (by rw [HQ.out, fK, if_pos (by rw [← HE.out]; exact HZ.out)])
      rw [if_pos d]
      have GK := Lib.hid ((chk_zero c).2.1 _ d)
      generalize fi K x n = j at *
      obtain ⟨b, off, rfl, hbl, hK⟩ := H3.out (by omega)
      obtain ⟨g0, g1, g2⟩ := (hK j d).below hbl B2.out
      have OK := Lib.hid ((H4.out j d).2.2.below B2.out)
      clear hK
      generalize hy : K j = y at *
      obtain ⟨id, kind, v, l, f⟩ := y
      obtain ⟨a', cap', hv⟩ := OK.out.form
      obtain rfl : v = .slice a' l cap' := hv
      simp only at g0 g1 g2
      have GL := isK_l GK.out
      have jz : (0 : Int) ≤ (j : Int) := by omega
      have jn : (j : Int) < (n : Int) := by omega
      have e2 : decide ((j : Int) < 0) = false := by rw [decide_eq_false_iff_not]; omega
      have BN := Lib.hid (balloc (brefl w2) (.cells #[.int .u32 id, .int .i64 kind, .slice a' l cap'] 28))
      have CN := Lib.hid (Kc.new w2 id kind (.slice a' l cap') 28)
      have NE : w.heap.size < w2.heap.size := C2.out.1
      obtain ⟨b', o', rfl, B'⟩ : ∃ b' o', a' = some ⟨b', o', none⟩ ∧ Hid (Bs w2 b' o' l f ∧ l ≤ cap' ∧ cap' ≤ 9223372036854775807) := by
        obtain ⟨_, _, e, u1, u2, u3, u4, u5⟩ := OK.out
        cases e
        obtain ⟨b', o', ha, B'⟩ := u4 (show 0 < l from GL.1)
        exact ⟨b', o', ha, Lib.hid ⟨B', u1, u2⟩⟩
      go_wp2_with fail
      generalize w2.alloc (.cells #[.int .u32 id, .int .i64 kind, .slice (some ⟨b', o', none⟩) l cap'] 28) = w3 at *
      have C3 := Lib.hid (C2.out.below BN.out)
      have B3 := Lib.hid (bstep B2.out BN.out)
      have SZ : w2.heap.size < w3.heap.size := CN.out.1
      refine (Clone_c (b := b') (off := o') (n := l) (f := f) (w := w3) (fun _ => B'.out.1.below BN.out) B'.out.1.2.1 (by have : l ≤ 64 := GL.2; omega) B'.out.2.1 B'.out.2.2).mono ?_
      rintro e w4 ⟨v4, rfl, own, hb⟩
      have B4 := Lib.hid (bstep B3.out hb)
      have C4 := Lib.hid (C3.out.below hb)
      have N4 := Lib.hid (CN.out.below hb)
      obtain ⟨g5, c5, e5, j1, _, j3, j4⟩ := own.bsC (by rw [bl_len]; exact GL.1) (bl_byte fun i _ => B'.out.1.2.1 i)
      rw [bl_len] at e5
      subst e5
      have O4 := Lib.hid own
      clear own hb C3 CN
      obtain ⟨t0, t1, t2, t3, t4, t5, t6⟩ := C4.out
      obtain ⟨y0, y1, y2, y3, y4, y5, y6⟩ := N4.out
      have BZ := Lib.hid ((((B4.out.setCell (p := ⟨w2.heap.size, 2, none⟩) (by show w.heap.size ≤ w2.heap.size; omega) (.slice (some ⟨g5, 0, none⟩) l c5)).setCell (p := ⟨w.heap.size, 0, none⟩) (Nat.le_refl _) (.int .u32 id)).setCell (p := ⟨w.heap.size, 1, none⟩) (Nat.le_refl _) (.int .i64 kind)).setCell (p := ⟨w.heap.size, 2, none⟩) (Nat.le_refl _) (.slice (some ⟨g5, 0, none⟩) l c5))
      have OZ : Hid (Own ((((w4.setCell ⟨w2.heap.size, 2, none⟩ (.slice (some ⟨g5, 0, none⟩) l c5)).setCell ⟨w.heap.size, 0, none⟩ (.int .u32 id)).setCell ⟨w.heap.size, 1, none⟩ (.int .i64 kind)).setCell ⟨w.heap.size, 2, none⟩ (.slice (some ⟨g5, 0, none⟩) l c5)) w.heap.size (.slice (some ⟨g5, 0, none⟩) l c5) (bl f l)) := Lib.hid (Own.le (base := w3.heap.size) (ownsRow_setCell_below (ownsRow_setCell_below (ownsRow_setCell_below (ownsRow_setCell_below O4.out (by show w2.heap.size < _; omega) _) (by show w.heap.size < _; omega) _) (by show w.heap.size < _; omega) _) (by show w.heap.size < _; omega) _) (by omega))
      go_wp2_with fail
      exact bodyPost_ret (v := .tuple #[.agg #[.int .u32 id, .int .i64 kind, .slice (some ⟨g5, 0, none⟩) l c5], .int .i64 0]) (by simp [results, Tryd.results9, go_sem, t1, t2, t3, y1, y2, y3]) rfl ⟨_, by rw [HZ.out, HK.out], by rw [HK.out]; exact OZ.out, BZ.out⟩
    · have HZ : Hid (z = 30) := Lib.hid (by rw [HE.out, fE, if_pos c, if_neg d])
      have HK : Hid (r = k0) := Lib.hid (by rw [HQ.out, fK, if_neg (by rw [← HE.out, HZ.out]; omega)])
      rw [if_neg d]
      obtain ⟨t0, t1, t2, t3, t4, t5, t6⟩ := C2.out
      have BZ := Lib.hid (((B2.out.setCell (p := ⟨w.heap.size, 0, none⟩) (Nat.le_refl _) (.int .u32 0)).setCell (p := ⟨w.heap.size, 1, none⟩) (Nat.le_refl _) (.int .i64 0)).setCell (p := ⟨w.heap.size, 2, none⟩) (Nat.le_refl _) (.slice none 0 0))
      go_wp2_with fail
      exact bodyPost_ret (v := .tuple #[.agg #[.int .u32 0, .int .i64 0, .slice none 0 0], .int .i64 30]) (by simp [results, Tryd.results9, go_sem, t1, t2, t3]) rfl ⟨_, by rw [HZ.out, HK.out]; rfl, by rw [HK.out]; exact Own.nil _ _, BZ.out⟩
  · have HZ : Hid (z = chk n K) := Lib.hid (by rw [HE.out, fE, if_neg c])
    have HK : Hid (r = k0) := Lib.hid (by rw [HQ.out, fK, if_neg (by rw [← HE.out, HZ.out]; exact c)])
    have c' : chk n K = 3 ∨ chk n K = 7 := (chk_cases n K).resolve_left c
    rcases c' with h | h
    · rw [h] at CH HZ
      go_enter Tryd.func9, Tryd.ntmps9
      go_wp2_with fail
      generalize w.alloc (.cells #[.int .u32 0, .int .i64 0, .slice none 0 0] 28) = w0 at *
      refine CH.out.mono ?_
      rintro e w1 ⟨rfl, hb⟩
      have B1 := Lib.hid (bstep BA.out hb)
      have C1 := Lib.hid (CA.out.below hb)
      clear hb CA CH
      obtain ⟨t0, t1, t2, t3, t4, t5, t6⟩ := C1.out
      have BZ := Lib.hid (((B1.out.setCell (p := ⟨w.heap.size, 0, none⟩) (Nat.le_refl _) (.int .u32 0)).setCell (p := ⟨w.heap.size, 1, none⟩) (Nat.le_refl _) (.int .i64 0)).setCell (p := ⟨w.heap.size, 2, none⟩) (Nat.le_refl _) (.slice none 0 0))
      go_wp2_with fail
      exact bodyPost_ret (v := .tuple #[.agg #[.int .u32 0, .int .i64 0, .slice none 0 0], .int .i64 3]) (by simp [results, Tryd.results9, go_sem, t1, t2, t3]) rfl ⟨_, by rw [HZ.out, HK.out]; rfl, by rw [HK.out]; exact Own.nil _ _, BZ.out⟩
    · rw [h] at CH HZ
      go_enter Tryd.func9, Tryd.ntmps9
      go_wp2_with fail
      generalize w.alloc (.cells #[.int .u32 0, .int .i64 0, .slice none 0 0] 28) = w0 at *
      refine CH.out.mono ?_
      rintro e w1 ⟨rfl, hb⟩
      have B1 := Lib.hid (bstep BA.out hb)
      have C1 := Lib.hid (CA.out.below hb)
      clear hb CA CH
      obtain ⟨t0, t1, t2, t3, t4, t5, t6⟩ := C1.out
      have BZ := Lib.hid (((B1.out.setCell (p := ⟨w.heap.size, 0, none⟩) (Nat.le_refl _) (.int .u32 0)).setCell (p := ⟨w.heap.size, 1, none⟩) (Nat.le_refl _) (.int .i64 0)).setCell (p := ⟨w.heap.size, 2, none⟩) (Nat.le_refl _) (.slice none 0 0))
      go_wp2_with fail
      exact bodyPost_ret (v := .tuple #[.agg #[.int .u32 0, .int .i64 0, .slice none 0 0], .int .i64 7]) (by simp [results, Tryd.results9, go_sem, t1, t2, t3]) rfl ⟨_, by rw [HZ.out, HK.out]; rfl, by rw [HK.out]; exact Own.nil _ _, BZ.out⟩

set_option maxRecDepth 100000 in
set_option maxHeartbeats 8000000 in
theorem rCheck_c {w : World} {v : Value} {n : Nat} {K : Nat → KD} (R : Ring w v n K) :
    Calls Tryd.prog 12 #[v] w fun e w' => e = .returned (.int .i64 (chk n K)) ∧ Below w.heap.size w w' := by
  obtain ⟨a, cap, rfl, h1, h2, h3, h4⟩ := R
  obtain ⟨r, HQ⟩ : ∃ r, Hid (r = chk n K) := ⟨_, Lib.hid rfl⟩
  rw [← HQ.out]
  have q1 : (n : Int) ≤ (cap : Int) := by omega
  have q2 : (cap : Int) ≤ 9223372036854775807 := by omega
  by_cases c : 64 < n
  · have e0 : decide (64 < (n : Int)) = true := by rw [decide_eq_true_iff]; omega
    go_enter Tryd.func12, Tryd.ntmps12
    go_wp2_with fail
    go_ret
    exact ⟨by rw [HQ.out, chk_long c]; rfl, brefl w⟩
  have e0 : decide (64 < (n : Int)) = false := by rw [decide_eq_false_iff_not]; omega
  have H3 := Lib.hid h3
  have H4 := Lib.hid h4
  clear h3 h4
  go_enter Tryd.func12, Tryd.ntmps12
  go_wp2_with fail
  go_loopw [3] (fun i wr => ∃ k : Nat, k ≤ n ∧ i = .int .i64 k ∧ (∀ j, j < k → isK (K j) = true) ∧ Below w.heap.size w wr) (fun i _ => n - (intOf i).toNat)
  case atStart => exact ⟨0, Nat.zero_le _, rfl, fun j hj => absurd hj (Nat.not_lt_zero _), brefl w⟩
  case round =>
    obtain ⟨k, hk, rfl, hno, hb⟩ := hrel
    rename World => wr
    have NO := Lib.hid hno
    have BB := Lib.hid hb
    clear hno hb
    by_cases c1 : k < n
    · have e1 : decide ((k : Int) < (n : Int)) = true := by rw [decide_eq_true_iff]; omega
      obtain ⟨b, off, rfl, hbl, hK⟩ := H3.out (by omega)
      obtain ⟨g0, g1, g2⟩ := (hK k c1).below hbl BB.out
      have k1 : (k : Int) < (n : Int) := by omega
      have BL : b < wr.heap.size := Nat.lt_of_lt_of_le hbl BB.out.size
      have CC := Lib.hid (Is_c (K k) wr (H4.out k c1).2.2.form)
      have HB := Lib.hid (chk_bad (K := K) c1)
      have FM := (H4.out k c1).2.2.form
      clear hK
      generalize hy : K k = y at *
      have HY := Lib.hid hy
      clear hy
      obtain ⟨id, kind, v, l, f⟩ := y
      obtain ⟨a', cap', hv⟩ := FM
      obtain rfl : v = .slice a' l cap' := hv
      simp only at g0 g1 g2
      cases hq : isK ⟨id, kind, .slice a' l cap', l, f⟩ with
      | true =>
        rw [hq] at CC
        go_wp2_with fail
        refine CC.out.mono ?_
        rintro e w3 ⟨rfl, hb⟩
        have B3 := Lib.hid (BB.out.trans (hb.mono BB.out.size))
        clear hb CC
        go_wp2_with fail
        go_roundw
        case rel =>
          refine ⟨k + 1, by omega, by go_num, fun j hj => ?_, B3.out⟩
          by_cases e : j = k
          · subst e; rw [HY.out]; exact hq
          · exact NO.out j (by omega)
        case measure => simp [intOf]; omega
      | false =>
        rw [hq] at CC
        go_wp2_with fail
        refine CC.out.mono ?_
        rintro e w3 ⟨rfl, hb⟩
        have B3 := Lib.hid (BB.out.trans (hb.mono BB.out.size))
        clear hb CC
        go_wp2_with fail
        go_ret
        exact ⟨by rw [HQ.out, HB.out hq]; rfl, B3.out⟩
    · have e1 : decide ((k : Int) < (n : Int)) = false := by rw [decide_eq_false_iff_not]; omega
      obtain rfl : n = k := by omega
      go_wp2_with fail
      go_loopw [4, 5] (fun i _ wr => ∃ k : Nat, k ≤ n ∧ i = .int .i64 k ∧ (∀ j, j < k → ¬ fi K (K j).id j < j) ∧ Below w.heap.size w wr) (fun i _ _ => n - (intOf i).toNat)
      case atStart => exact ⟨0, Nat.zero_le _, rfl, fun j hj => absurd hj (Nat.not_lt_zero _), BB.out⟩
      case round =>
        obtain ⟨k, hk, rfl, hno, hb⟩ := hrel
        rename World => wq
        have NP := Lib.hid hno
        have BQ := Lib.hid hb
        clear hno hb
        by_cases c1 : k < n
        · have e1 : decide ((k : Int) < (n : Int)) = true := by rw [decide_eq_true_iff]; omega
          obtain ⟨b, off, rfl, hbl, hK⟩ := H3.out (by omega)
          have HK := Lib.hid hK
          clear hK
          have k1 : (k : Int) < (n : Int) := by omega
          go_wp2_with fail
          go_loopw [5] (fun i wr => ∃ q : Nat, q ≤ k ∧ i = .int .i64 q ∧ (∀ j, j < q → (K j).id ≠ (K k).id) ∧ Below w.heap.size w wr) (fun i _ => k - (intOf i).toNat)
          case atStart => exact ⟨0, Nat.zero_le _, rfl, fun j hj => absurd hj (Nat.not_lt_zero _), BQ.out⟩
          case round =>
            obtain ⟨q, hq, rfl, hno, hb⟩ := hrel
            rename World => wp
            have NQ := Lib.hid hno
            have BP := Lib.hid hb
            clear hno hb
            by_cases c2 : q < k
            · have e2 : decide ((q : Int) < (k : Int)) = true := by rw [decide_eq_true_iff]; omega
              have g0 := ((HK.out k c1).below hbl BP.out).1
              have g1 := ((HK.out q (by omega)).below hbl BP.out).1
              have BL : b < wp.heap.size := Nat.lt_of_lt_of_le hbl BP.out.size
              have q3 : (q : Int) < (n : Int) := by omega
              by_cases hx : (K q).id = (K k).id
              · have CT : Hid (r = 7) := Lib.hid (by rw [HQ.out]; exact chk_twice (by omega) NO.out c1 (by rw [fi_hit hx NQ.out k c2]; exact c2))
                have ex : ((K k).id == (K q).id) = true := by rw [beq_iff_eq]; exact hx.symm
                generalize (K k).id = x at *
                generalize (K q).id = y at *
                go_wp2_with fail
                go_quiet (fail)
                go_wp2_with fail
                go_ret
                exact ⟨by rw [CT.out]; rfl, bdrewn BP.out nq⟩
              · have ex : ((K k).id == (K q).id) = false := by rw [beq_eq_false_iff_ne]; exact fun e => hx e.symm
                have NX : Hid (∀ j, j < q + 1 → (K j).id ≠ (K k).id) := Lib.hid (fun j hj => by
                  by_cases e : j = q
                  · subst e; exact hx
                  · exact NQ.out j (by omega))
                generalize (K k).id = x at *
                generalize (K q).id = y at *
                go_wp2_with fail
                go_quiet (fail)
                go_wp2_with fail
                go_roundw
                case rel => exact ⟨q + 1, by omega, by go_num, NX.out, bdrewn BP.out nq⟩
                case measure => simp [intOf]; omega
            · have e2 : decide ((q : Int) < (k : Int)) = false := by rw [decide_eq_false_iff_not]; omega
              obtain rfl : k = q := by omega
              go_wp2_with fail
              go_roundw
              case rel =>
                refine ⟨k + 1, by omega, by go_num, fun j hj => ?_, BP.out⟩
                by_cases e : j = k
                · subst e; rw [fi_miss j NQ.out]; omega
                · exact NP.out j (by omega)
              case measure => simp [intOf]; omega
        · have e1 : decide ((k : Int) < (n : Int)) = false := by rw [decide_eq_false_iff_not]; omega
          obtain rfl : n = k := by omega
          go_wp2_with fail
          go_ret
          exact ⟨by rw [HQ.out, chk_ok (by omega) NO.out NP.out]; rfl, BQ.out⟩
end Go.Proofs.YtbbcgcfahaljoaaDoor.Mc
