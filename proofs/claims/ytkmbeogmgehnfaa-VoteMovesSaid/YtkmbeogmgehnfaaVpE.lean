/-
  The program's Intersect.
  Conditions: none but that the candidates lie in memory.
-/
import Derived.Test.YtkmbeogmgehnfaaVpD
namespace Go.Proofs.Ytkmbeogmgehnfaa.Vo
open Go.RowKit Go.ChangeShapes Go.WideShapes Go.ChangeAt Go.Joins Fl Hu
set_option linter.unusedVariables false
set_option linter.unusedSimpArgs false

set_option maxRecDepth 100000 in
set_option maxHeartbeats 8000000 in
theorem Intersect_c {w : World} {v : Value} {L : List Cd} (h : Cs w v L) (hn : L.length ≤ 8796093022208) :
    Calls Try.prog 8 #[v] w fun e w' => IP w L e w' ∧ Below w.heap.size w w' := by
  have B0 := Lib.hid (balloc (brefl w) (.cells #[.int .i64 0, .int .i64 0] 27))
  have N0 := Lib.hid (new2 w 0 0 27)
  have CK := Lib.hid (areRight_c (h.below B0.out) hn)
  have HS := Lib.hid h
  have RZ : Hid (∀ W (x y e : Int) (u : Value), Blk W w.heap.size [.int .i64 x, .int .i64 y] → ∀ tmps : Array Value, tmps.getD 2 undef = .pointer (some ⟨w.heap.size, 0, none⟩) → tmps.getD 3 undef = u → tmps.getD 4 undef = .int .i64 e → (results Try.f8 tmps).run Try.prog W = .ok (.tuple #[.agg #[.int .i64 x, .int .i64 y], u, .int .i64 e]) W) := Lib.hid fun W x y e u hb tmps h1 h2 h3 =>
    results_cell_two rfl tmps W w.heap.size [.int .i64 x, .int .i64 y] _ _ _ h1 h2 h3 hb.range Try.underlying27 rfl (by exact info_span)
  by_cases ok : okL L
  · rw [decide_eq_true ok] at CK
    have OK := Lib.hid ok
    have TR := Lib.hid (fun w' (q : Below w.heap.size w w') a (ha : a < L.length) => agreed_c (h.below q) ok a ha)
    have OU := Lib.hid (fun w' (q : Below w.heap.size w w') lo hi => outside_c (h.below q) ok.2 ok.1 lo hi)
    have TC := Lib.hid (fun w' (q : Below w.heap.size w w') lo hi => truechimers_c (h.below q) ok.2 ok.1 lo hi)
    have n32 := ok.2
    obtain ⟨va, cap, rfl, c1, c2, _⟩ := h
    obtain ⟨m, hm⟩ : ∃ m, L.length = m := ⟨_, rfl⟩
    have HM := Lib.hid hm
    rw [hm] at HS CK TR OU TC c1 n32 hn ⊢
    have m0 : (0 : Int) ≤ (m : Int) := by omega
    have m1 : (m : Int) ≤ 32 := by omega
    have m2 : (m : Int) ≤ (cap : Int) := by omega
    have m3 : (cap : Int) ≤ 9223372036854775807 := by omega
    have OL : Hid (∀ lo hi, outs L lo hi ≤ m) := Lib.hid fun lo hi => by rw [← hm]; exact List.countP_le_length
    clear ok hm hn
    go_enter Try.func8, Try.ntmps8
    go_wp2_with fail
    refine CK.out.mono ?_
    rintro e w1 ⟨rfl, hb⟩
    have B1 := Lib.hid (bstep B0.out hb)
    have N1 := Lib.hid (N0.out.below hb)
    clear hb N0 B0 CK
    go_wp2_with fail
    go_loopw [5] (fun iv wr => ∃ a : Nat, a ≤ m ∧ iv = .int .i64 (a : Nat) ∧ (∀ b, b < a → ∀ m' M', ¬ Good L b m' M') ∧ Blk wr w.heap.size [.int .i64 0, .int .i64 0] ∧ Below w.heap.size w wr) (fun iv _ => m - (intOf iv).toNat)
    case atStart => exact ⟨0, by omega, rfl, fun b hb => absurd hb (by omega), N1.out, B1.out⟩
    case round =>
      obtain ⟨a, ha, rfl, hno, hn0, hb⟩ := hrel
      rename World => wr
      have NO := Lib.hid hno
      have N2 := Lib.hid hn0
      have B2 := Lib.hid hb
      clear hno hn0 hb N1 B1
      have w2a : IntKind.i64.wrap (2 * (a : Int)) = 2 * (a : Int) := wrap_in (by omega) (by omega)
      have wa : IntKind.i64.wrap ((a : Int) + 1) = (a : Int) + 1 := wrap_in (by omega) (by omega)
      have wma : IntKind.i64.wrap ((m : Int) - (a : Int)) = (m : Int) - (a : Int) := wrap_in (by omega) (by omega)
      by_cases c : 2 * a < m
      · have e1 : decide (2 * (a : Int) < (m : Int)) = true := decide_eq_true (by omega)
        have e2 : decide (2 * a < m) = true := decide_eq_true c
        have T1 := Lib.hid (TR.out wr B2.out a (by omega))
        have GO : Hid (∀ lo hi, Hull (sps L) a lo hi → outs L lo hi ≤ a → inA L = (((lo, hi), tru L lo hi m), 0)) := Lib.hid fun lo hi H o => by rw [← HM.out]; exact inA_some OK.out ⟨a, by rw [HM.out]; exact c, ⟨H, o⟩, NO.out⟩
        have NG : Hid ((∀ m' M', ¬ Good L a m' M') → ∀ b, b < a + 1 → ∀ m' M', ¬ Good L b m' M') := Lib.hid fun ng b hb => by
          by_cases q : b < a
          · exact NO.out b q
          · obtain rfl : b = a := by omega
            exact ng
        go_wp2_with fail
        refine T1.out.mono ?_
        rintro e w3 ⟨tp, hb⟩
        rcases tp with ⟨lo, hi, rfl, hl⟩ | ⟨rfl, ng⟩
        · have hb2 := balloc hb (.cells #[.int .i64 lo, .int .i64 hi] 27)
          have B3 := Lib.hid (bstep B2.out hb2)
          have N3 := Lib.hid (N2.out.below hb2)
          have S3 := Lib.hid (new2 w3 lo hi 27)
          have HL := Lib.hid hl
          have ol := OL.out lo hi
          have OC := Lib.hid (OU.out _ B3.out lo hi)
          clear hb hb2 B2 N2 T1 hl
          obtain ⟨b7, hb7⟩ : ∃ b, w3.heap.size = b := ⟨_, rfl⟩
          rw [hb7] at S3
          go_upto_region 7 with fail
          try rw [hb7]
          clear hb7
          generalize w3.alloc (.cells #[.int .i64 lo, .int .i64 hi] 27) = w4 at *
          obtain ⟨x0, x1⟩ := blk2 S3.out (brefl w4)
          by_cases q : outs L lo hi ≤ a
          · have IS := Lib.hid (GO.out lo hi HL.out q)
            have d1 : decide ((outs L lo hi : Int) ≤ (a : Int)) = true := decide_eq_true (by omega)
            have d2 : decide (outs L lo hi ≤ a) = true := decide_eq_true q
            generalize outs L lo hi = no at *
            go_wp2_with fail
            refine OC.out.mono ?_
            rintro e w5 ⟨rfl, hb⟩
            have B5 := Lib.hid (bstep B3.out hb)
            have N5 := Lib.hid (N3.out.below hb)
            have S5 := Lib.hid (S3.out.below hb)
            clear hb x0 x1 B3 N3 S3 OC
            have KP : Hid (∀ W, Below w5.heap.size w5 W → W.cell? ⟨b7, 0, none⟩ = some (.int .i64 lo) ∧ W.cell? ⟨b7, 1, none⟩ = some (.int .i64 hi) ∧ W.cell? ⟨w.heap.size, 0, none⟩ = some (.int .i64 0) ∧ W.cell? ⟨w.heap.size, 1, none⟩ = some (.int .i64 0) ∧ W.frozen? ⟨w.heap.size, 0, none⟩ = false ∧ W.frozen? ⟨w.heap.size, 1, none⟩ = false) := Lib.hid fun W k => by
              obtain ⟨x0, x1⟩ := blk2 S5.out k
              obtain ⟨z0, z1⟩ := blk2 N5.out k
              exact ⟨x0, x1, z0, z1, ((N5.out.below k).2 0 _ rfl).2, ((N5.out.below k).2 1 _ rfl).2⟩
            have hb0 : Below w5.heap.size w5 w5.drew := (brefl w5).drew
            have CT := Lib.hid (TC.out w5.drew (bstep B5.out hb0) lo hi)
            have FN : Hid (∀ (W : World) (u : Value), Below w5.heap.size w5 W → OwnI W w5.heap.size u (ints (tru L lo hi m)) → IP w L (.returned (.tuple #[.agg #[.int .i64 lo, .int .i64 hi], u, .int .i64 0])) ((W.setCell ⟨w.heap.size, 0, none⟩ (.int .i64 lo)).setCell ⟨w.heap.size, 1, none⟩ (.int .i64 hi)) ∧ Below w.heap.size w ((W.setCell ⟨w.heap.size, 0, none⟩ (.int .i64 lo)).setCell ⟨w.heap.size, 1, none⟩ (.int .i64 hi)) ∧ Blk ((W.setCell ⟨w.heap.size, 0, none⟩ (.int .i64 lo)).setCell ⟨w.heap.size, 1, none⟩ (.int .i64 hi)) w.heap.size [.int .i64 lo, .int .i64 hi]) := Lib.hid fun W u k o => by
              have lt := N5.out.1
              exact ⟨IP_of IS.out (((o.set (i := 0) (x := .int .i64 lo) lt).set (i := 1) (x := .int .i64 hi) lt).mono (Nat.le_of_lt lt)), below_set (below_set (bstep B5.out k) (Nat.le_refl w.heap.size) 0 _) (Nat.le_refl w.heap.size) 1 _, blk_set (blk_set (N5.out.below k) 0 _) 1 _⟩
            go_upto_region 8 with fail
            obtain ⟨x0, x1, z0, z1, f0, f1⟩ := KP.out _ hb0
            go_region_with (first | (go_at_call 19; (with_reducible refine CT.out.mono ?_); rintro e w' ⟨⟨u, rfl, ou⟩, hb⟩; replace hb := bstep (a := w5) hb0 hb; obtain ⟨y0, y1, t0, t1, g0, g1⟩ := KP.out _ hb))
            all_goals (go_wp2_with fail)
            all_goals (obtain ⟨i1, i2, i3⟩ := FN.out _ _ hb ou; exact bodyPost_ret (v := .tuple #[.agg #[.int .i64 lo, .int .i64 hi], _, .int .i64 0]) (RZ.out _ lo hi 0 _ i3 _ rfl rfl rfl) rfl ⟨i1, i2⟩)
          · have d1 : decide ((outs L lo hi : Int) ≤ (a : Int)) = false := decide_eq_false (by omega)
            have d2 : decide (outs L lo hi ≤ a) = false := decide_eq_false q
            have NN := Lib.hid (NG.out (fun m' M' G => q (by obtain ⟨rfl, rfl⟩ := HL.out.one G.1; exact G.2)))
            generalize outs L lo hi = no at *
            go_wp2_with fail
            refine OC.out.mono ?_
            rintro e w5 ⟨rfl, hb⟩
            have B5 := Lib.hid (bstep B3.out hb)
            have N5 := Lib.hid (N3.out.below hb)
            clear hb x0 x1 B3 N3 S3 OC
            go_wp2_with fail
            exact ⟨⟨a + 1, by omega, by go_num, NN.out, N5.out, B5.out⟩, by simp [intOf]; omega⟩
        · have NN := Lib.hid (NG.out (fun m' M' G => ng m' G.1.1))
          have hb2 := balloc hb (.cells #[.int .i64 0, .int .i64 0] 27)
          have B3 := Lib.hid (bstep B2.out hb2)
          have N3 := Lib.hid (N2.out.below hb2)
          clear hb hb2 ng
          go_wp2_with fail
          exact ⟨⟨a + 1, by omega, by go_num, NN.out, N3.out, B3.out⟩, by simp [intOf]; omega⟩
      · have e1 : decide (2 * (a : Int) < (m : Int)) = false := decide_eq_false (by omega)
        have e2 : decide (2 * a < m) = false := decide_eq_false c
        have IS : Hid (inA L = (((0, 0), []), 5)) := Lib.hid (inA_none OK.out fun b hb => NO.out b (by rw [HM.out] at hb; omega))
        have S2 := Lib.hid (blk_set (blk_set N2.out 0 (.int .i64 0)) 1 (.int .i64 0))
        have B3 := Lib.hid (below_set (below_set B2.out (Nat.le_refl w.heap.size) 0 (.int .i64 0)) (Nat.le_refl w.heap.size) 1 (.int .i64 0))
        have FN := Lib.hid (IP_of (w := w) IS.out (OwnI.nil ((wr.setCell ⟨w.heap.size, 0, none⟩ (.int .i64 0)).setCell ⟨w.heap.size, 1, none⟩ (.int .i64 0)) _))
        obtain ⟨z0, z1⟩ := blk2 N2.out (brefl _)
        have f0 := (N2.out.2 0 _ rfl).2
        have f1 := (N2.out.2 1 _ rfl).2
        go_wp2_with fail
        exact bodyPost_ret (v := .tuple #[.agg #[.int .i64 0, .int .i64 0], _, .int .i64 5]) (RZ.out _ 0 0 5 _ S2.out _ rfl rfl rfl) rfl ⟨FN.out, B3.out⟩
  · rw [decide_eq_false ok] at CK
    have IS := Lib.hid (inA_shape ok)
    obtain ⟨va, cap, rfl, c1, c2, _⟩ := h
    generalize L.length = m at *
    clear ok
    go_enter Try.func8, Try.ntmps8
    go_wp2_with fail
    refine CK.out.mono ?_
    rintro e w1 ⟨rfl, hb⟩
    have B1 := Lib.hid (bstep B0.out hb)
    have N1 := Lib.hid (N0.out.below hb)
    clear hb N0 B0 CK
    have S2 := Lib.hid (blk_set (blk_set N1.out 0 (.int .i64 0)) 1 (.int .i64 0))
    have B3 := Lib.hid (below_set (below_set B1.out (Nat.le_refl w.heap.size) 0 (.int .i64 0)) (Nat.le_refl w.heap.size) 1 (.int .i64 0))
    have FN := Lib.hid (IP_of (w := w) IS.out (OwnI.nil ((w1.setCell ⟨w.heap.size, 0, none⟩ (.int .i64 0)).setCell ⟨w.heap.size, 1, none⟩ (.int .i64 0)) _))
    obtain ⟨z0, z1⟩ := blk2 N1.out (brefl _)
    have f0 := (N1.out.2 0 _ rfl).2
    have f1 := (N1.out.2 1 _ rfl).2
    go_wp2_with fail
    exact bodyPost_ret (v := .tuple #[.agg #[.int .i64 0, .int .i64 0], _, .int .i64 3]) (RZ.out _ 0 0 3 _ S2.out _ rfl rfl rfl) rfl ⟨FN.out, B3.out⟩
end Go.Proofs.Ytkmbeogmgehnfaa.Vo
