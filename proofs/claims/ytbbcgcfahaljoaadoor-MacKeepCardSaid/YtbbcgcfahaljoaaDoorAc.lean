/-
  The field's product is linear; the contract of aes' mixed.
  Conditions: none.
  The contract of aes' mixed.
  Conditions: none.
  The contract of aes' shifted.
  Conditions: none.
  The contract of aes.toBlock.
  Conditions: at most sixteen bytes are handed in.
-/
import Derived.Test.YtbbcgcfahaljoaaDoorAb
import Derived.Laws.CopyOwn
namespace Go.Proofs.YtbbcgcfahaljoaaDoor.Ae
open Go.RowKit By
set_option linter.unusedVariables false
set_option linter.unusedSimpArgs false

theorem xt_xor : ∀ a, a < 256 → ∀ b, b < 256 → xt (a ^^^ b) = xt a ^^^ xt b := by decide +kernel
theorem gm_1 : ∀ a, a < 256 → gm a 1 = a := by decide +kernel
theorem gm_2 : ∀ a, a < 256 → gm a 2 = xt a := by decide +kernel
theorem gm_3 : ∀ a, a < 256 → gm a 3 = xt a ^^^ a := by decide +kernel
theorem xo (a b : Nat) (ha : a < 256) (hb : b < 256) : ∃ z, z < 256 ∧ Hid (z = a ^^^ b) ∧ bits BinOp.xor IntKind.u8 (a : Int) (b : Int) = (z : Int) :=
  ⟨a ^^^ b, lt_xor8 ha hb, Lib.hid rfl, xor8 a b ha hb⟩
theorem mix0 (a b c d : Nat) (ha : a < 256) (hb : b < 256) (hc : c < 256) (hd : d < 256) :
    xt (a ^^^ b) ^^^ a ^^^ (a ^^^ b ^^^ c ^^^ d) = xt a ^^^ (xt b ^^^ b) ^^^ c ^^^ d := by
  rw [xt_xor a ha b hb]
  generalize xt a = x
  generalize xt b = y
  apply Nat.eq_of_testBit_eq
  intro i
  simp only [Nat.testBit_xor]
  cases x.testBit i <;> cases y.testBit i <;> cases a.testBit i <;> cases b.testBit i <;> cases c.testBit i <;> cases d.testBit i <;> rfl
theorem mx_col (f : Nat → Nat) (hf : ∀ i, i < 16 → f i < 256) (c : Nat) (hc : c < 4) :
    mx f (4 * c) = xt (f (4 * c)) ^^^ (xt (f (4 * c + 1)) ^^^ f (4 * c + 1)) ^^^ f (4 * c + 2) ^^^ f (4 * c + 3) ∧
    mx f (4 * c + 1) = f (4 * c) ^^^ xt (f (4 * c + 1)) ^^^ (xt (f (4 * c + 2)) ^^^ f (4 * c + 2)) ^^^ f (4 * c + 3) ∧
    mx f (4 * c + 2) = f (4 * c) ^^^ f (4 * c + 1) ^^^ xt (f (4 * c + 2)) ^^^ (xt (f (4 * c + 3)) ^^^ f (4 * c + 3)) ∧
    mx f (4 * c + 3) = (xt (f (4 * c)) ^^^ f (4 * c)) ^^^ f (4 * c + 1) ^^^ f (4 * c + 2) ^^^ xt (f (4 * c + 3)) := by
  have h0 := hf (4 * c) (by omega)
  have h1 := hf (4 * c + 1) (by omega)
  have h2 := hf (4 * c + 2) (by omega)
  have h3 := hf (4 * c + 3) (by omega)
  have R : ∀ r, r < 4 → mx f (4 * c + r) = (((0 ^^^ gm (f (4 * c)) (row ((0 + 4 - r) % 4))) ^^^ gm (f (4 * c + 1)) (row ((1 + 4 - r) % 4))) ^^^ gm (f (4 * c + 2)) (row ((2 + 4 - r) % 4))) ^^^ gm (f (4 * c + 3)) (row ((3 + 4 - r) % 4)) := by
    intro r hr
    show (((0 ^^^ gm (f (4 * ((4 * c + r) / 4) + 0)) (row ((0 + 4 - (4 * c + r) % 4) % 4))) ^^^ gm (f (4 * ((4 * c + r) / 4) + 1)) (row ((1 + 4 - (4 * c + r) % 4) % 4))) ^^^ gm (f (4 * ((4 * c + r) / 4) + 2)) (row ((2 + 4 - (4 * c + r) % 4) % 4))) ^^^ gm (f (4 * ((4 * c + r) / 4) + 3)) (row ((3 + 4 - (4 * c + r) % 4) % 4)) = _
    rw [show (4 * c + r) / 4 = c from by omega, show (4 * c + r) % 4 = r from by omega, Nat.add_zero]
  refine ⟨?_, ?_, ?_, ?_⟩
  · rw [show 4 * c = 4 * c + 0 from rfl, R 0 (by omega)]
    show (((0 ^^^ gm _ 2) ^^^ gm _ 3) ^^^ gm _ 1) ^^^ gm _ 1 = _
    rw [gm_2 _ h0, gm_3 _ h1, gm_1 _ h2, gm_1 _ h3, Nat.zero_xor]
    rfl
  · rw [R 1 (by omega)]
    show (((0 ^^^ gm _ 1) ^^^ gm _ 2) ^^^ gm _ 3) ^^^ gm _ 1 = _
    rw [gm_1 _ h0, gm_2 _ h1, gm_3 _ h2, gm_1 _ h3, Nat.zero_xor]
  · rw [R 2 (by omega)]
    show (((0 ^^^ gm _ 1) ^^^ gm _ 1) ^^^ gm _ 2) ^^^ gm _ 3 = _
    rw [gm_1 _ h0, gm_1 _ h1, gm_2 _ h2, gm_3 _ h3, Nat.zero_xor]
  · rw [R 3 (by omega)]
    show (((0 ^^^ gm _ 3) ^^^ gm _ 1) ^^^ gm _ 1) ^^^ gm _ 2 = _
    rw [gm_3 _ h0, gm_1 _ h1, gm_1 _ h2, gm_2 _ h3, Nat.zero_xor]
/-- one column, the way the program mixes it. -/
theorem mx_prog (f : Nat → Nat) (hf : ∀ i, i < 16 → f i < 256) (c : Nat) (hc : c < 4) :
    mx f (4 * c) = xt (f (4 * c) ^^^ f (4 * c + 1)) ^^^ f (4 * c) ^^^ (f (4 * c) ^^^ f (4 * c + 1) ^^^ f (4 * c + 2) ^^^ f (4 * c + 3)) ∧
    mx f (4 * c + 1) = xt (f (4 * c + 1) ^^^ f (4 * c + 2)) ^^^ f (4 * c + 1) ^^^ (f (4 * c) ^^^ f (4 * c + 1) ^^^ f (4 * c + 2) ^^^ f (4 * c + 3)) ∧
    mx f (4 * c + 2) = xt (f (4 * c + 2) ^^^ f (4 * c + 3)) ^^^ f (4 * c + 2) ^^^ (f (4 * c) ^^^ f (4 * c + 1) ^^^ f (4 * c + 2) ^^^ f (4 * c + 3)) ∧
    mx f (4 * c + 3) = xt (f (4 * c + 3) ^^^ f (4 * c)) ^^^ f (4 * c + 3) ^^^ (f (4 * c) ^^^ f (4 * c + 1) ^^^ f (4 * c + 2) ^^^ f (4 * c + 3)) := by
  have h0 := hf (4 * c) (by omega)
  have h1 := hf (4 * c + 1) (by omega)
  have h2 := hf (4 * c + 2) (by omega)
  have h3 := hf (4 * c + 3) (by omega)
  obtain ⟨e0, e1, e2, e3⟩ := mx_col f hf c hc
  rw [e0, e1, e2, e3, xt_xor _ h0 _ h1, xt_xor _ h1 _ h2, xt_xor _ h2 _ h3, xt_xor _ h3 _ h0]
  generalize xt (f (4 * c)) = x0
  generalize xt (f (4 * c + 1)) = x1
  generalize xt (f (4 * c + 2)) = x2
  generalize xt (f (4 * c + 3)) = x3
  generalize f (4 * c) = y0
  generalize f (4 * c + 1) = y1
  generalize f (4 * c + 2) = y2
  generalize f (4 * c + 3) = y3
  refine ⟨?_, ?_, ?_, ?_⟩
  · apply Nat.eq_of_testBit_eq
    intro i
    simp only [Nat.testBit_xor]
    cases x0.testBit i <;> cases x1.testBit i <;> cases y0.testBit i <;> cases y1.testBit i <;> cases y2.testBit i <;> cases y3.testBit i <;> rfl
  · apply Nat.eq_of_testBit_eq
    intro i
    simp only [Nat.testBit_xor]
    cases x1.testBit i <;> cases x2.testBit i <;> cases y0.testBit i <;> cases y1.testBit i <;> cases y2.testBit i <;> cases y3.testBit i <;> rfl
  · apply Nat.eq_of_testBit_eq
    intro i
    simp only [Nat.testBit_xor]
    cases x2.testBit i <;> cases x3.testBit i <;> cases y0.testBit i <;> cases y1.testBit i <;> cases y2.testBit i <;> cases y3.testBit i <;> rfl
  · apply Nat.eq_of_testBit_eq
    intro i
    simp only [Nat.testBit_xor]
    cases x3.testBit i <;> cases x0.testBit i <;> cases y0.testBit i <;> cases y1.testBit i <;> cases y2.testBit i <;> cases y3.testBit i <;> rfl
end Go.Proofs.YtbbcgcfahaljoaaDoor.Ae
namespace Go.Proofs.YtbbcgcfahaljoaaDoor.Ae
open Go.RowKit By
set_option linter.unusedVariables false
set_option linter.unusedSimpArgs false

set_option maxRecDepth 100000 in
set_option maxHeartbeats 4000000 in
theorem mixed_c (f : Nat → Nat) (w : World) (hf : ∀ i, i < 16 → f i < 256) :
    Calls Tryd.prog 68 #[.agg (ac f 16).toArray] w fun e w' => e = .returned (.agg (ac (mx f) 16).toArray) ∧ Below w.heap.size w w' := by
  have DB := Lib.hid (fun x w (hx : x < 256) => double_c x w hx)
  have WS := Lib.hid (balloc (balloc (brefl w) (.cells (ac f 16).toArray 72)) (.cells #[.int .u8 0, .int .u8 0, .int .u8 0, .int .u8 0, .int .u8 0, .int .u8 0, .int .u8 0, .int .u8 0, .int .u8 0, .int .u8 0, .int .u8 0, .int .u8 0, .int .u8 0, .int .u8 0, .int .u8 0, .int .u8 0] 72))
  have A0 := Lib.hid ((Ay.newC w 16 f 72 hf).below (balloc (brefl _) (.cells #[.int .u8 0, .int .u8 0, .int .u8 0, .int .u8 0, .int .u8 0, .int .u8 0, .int .u8 0, .int .u8 0, .int .u8 0, .int .u8 0, .int .u8 0, .int .u8 0, .int .u8 0, .int .u8 0, .int .u8 0, .int .u8 0] 72)))
  have R0 := Lib.hid (Ay.new0 (w.alloc (.cells (ac f 16).toArray 72)) 16 72)
  rw [sz_alloc] at R0
  replace R0 : Hid (Ay ((w.alloc (.cells (ac f 16).toArray 72)).alloc (.cells #[.int .u8 0, .int .u8 0, .int .u8 0, .int .u8 0, .int .u8 0, .int .u8 0, .int .u8 0, .int .u8 0, .int .u8 0, .int .u8 0, .int .u8 0, .int .u8 0, .int .u8 0, .int .u8 0, .int .u8 0, .int .u8 0] 72)) (w.heap.size + 1) 0 16 (fun _ => 0)) := R0
  have HF := Lib.hid hf
  clear hf
  go_enter Tryd.func68, Tryd.ntmps68
  go_wp2_with fail
  generalize ((w.alloc (.cells (ac f 16).toArray 72)).alloc (.cells #[.int .u8 0, .int .u8 0, .int .u8 0, .int .u8 0, .int .u8 0, .int .u8 0, .int .u8 0, .int .u8 0, .int .u8 0, .int .u8 0, .int .u8 0, .int .u8 0, .int .u8 0, .int .u8 0, .int .u8 0, .int .u8 0] 72)) = W0 at *
  go_loopw [3] (fun i wr => ∃ c m : Nat, m = 4 * c ∧ m ≤ 16 ∧ i = .int .i64 m ∧ Ay wr w.heap.size 0 16 (fun i => if i < m then mx f i else f i) ∧ Ay wr (w.heap.size + 1) 0 16 (fun _ => 0) ∧ Below w.heap.size W0 wr) (fun i _ => 16 - (intOf i).toNat)
  case atStart => exact ⟨0, 0, rfl, by omega, rfl, A0.out.eq (by simp), R0.out, Below.refl _ _⟩
  case round =>
    obtain ⟨cn, m, hm, hk, rfl, ar, rr, hb⟩ := hrel
    rename World => wr
    have AR := Lib.hid ar
    have RR := Lib.hid rr
    have BB := Lib.hid hb
    have HM := Lib.hid hm
    clear ar rr hb hm
    by_cases c : m < 16
    · have e0 : decide ((m : Int) < 16) = true := by rw [decide_eq_true_iff]; omega
      have m12 : m ≤ 12 := by have := HM.out; omega
      obtain ⟨a0, b0⟩ := AR.out.at (i := m) (by omega)
      obtain ⟨a1, b1⟩ := AR.out.at (i := m + 1) (by omega)
      obtain ⟨a2, b2⟩ := AR.out.at (i := m + 2) (by omega)
      obtain ⟨a3, b3⟩ := AR.out.at (i := m + 3) (by omega)
      rw [if_neg (by omega)] at a0 a1 a2 a3
      have l0 := HF.out m (by omega)
      have l1 := HF.out (m + 1) (by omega)
      have l2 := HF.out (m + 2) (by omega)
      have l3 := HF.out (m + 3) (by omega)
      have MP := mx_prog f HF.out cn (by have := HM.out; omega)
      rw [← HM.out] at MP
      have MPH := Lib.hid MP
      clear MP
      have FE : Hid (∀ y0 y1 y2 y3, y0 = f m → y1 = f (m + 1) → y2 = f (m + 2) → y3 = f (m + 3) →
        mx f m = xt (y0 ^^^ y1) ^^^ y0 ^^^ (y0 ^^^ y1 ^^^ y2 ^^^ y3) ∧ mx f (m + 1) = xt (y1 ^^^ y2) ^^^ y1 ^^^ (y0 ^^^ y1 ^^^ y2 ^^^ y3) ∧ mx f (m + 2) = xt (y2 ^^^ y3) ^^^ y2 ^^^ (y0 ^^^ y1 ^^^ y2 ^^^ y3) ∧ mx f (m + 3) = xt (y3 ^^^ y0) ^^^ y3 ^^^ (y0 ^^^ y1 ^^^ y2 ^^^ y3)) :=
        Lib.hid (fun y0 y1 y2 y3 h0 h1 h2 h3 => by subst h0 h1 h2 h3; exact MPH.out)
      clear MPH
      obtain ⟨y0, h0⟩ : ∃ y, y = f m := ⟨_, rfl⟩
      obtain ⟨y1, h1⟩ : ∃ y, y = f (m + 1) := ⟨_, rfl⟩
      obtain ⟨y2, h2⟩ : ∃ y, y = f (m + 2) := ⟨_, rfl⟩
      obtain ⟨y3, h3⟩ : ∃ y, y = f (m + 3) := ⟨_, rfl⟩
      have FX := Lib.hid (FE.out y0 y1 y2 y3 h0 h1 h2 h3)
      clear FE
      rw [← h0] at a0 l0
      rw [← h1] at a1 l1
      rw [← h2] at a2 l2
      rw [← h3] at a3 l3
      clear h0 h1 h2 h3
      obtain ⟨p01, n01, q01, x01⟩ := xo y0 y1 l0 l1
      obtain ⟨p012, n012, q012, x012⟩ := xo p01 y2 n01 l2
      obtain ⟨su, nsu, qsu, xsu⟩ := xo p012 y3 n012 l3
      obtain ⟨p12, n12, q12, x12⟩ := xo y1 y2 l1 l2
      obtain ⟨p23, n23, q23, x23⟩ := xo y2 y3 l2 l3
      obtain ⟨p30, n30, q30, x30⟩ := xo y3 y0 l3 l0
      have D0 := Lib.hid (fun w => DB.out p01 w n01)
      have D1 := Lib.hid (fun w => DB.out p12 w n12)
      have D2 := Lib.hid (fun w => DB.out p23 w n23)
      have D3 := Lib.hid (fun w => DB.out p30 w n30)
      have t0 := xt_lt n01
      have t1 := xt_lt n12
      have t2 := xt_lt n23
      have t3 := xt_lt n30
      obtain ⟨d0, e01⟩ : ∃ d, d = xt p01 := ⟨_, rfl⟩
      obtain ⟨d1, e12⟩ : ∃ d, d = xt p12 := ⟨_, rfl⟩
      obtain ⟨d2, e23⟩ : ∃ d, d = xt p23 := ⟨_, rfl⟩
      obtain ⟨d3, e30⟩ : ∃ d, d = xt p30 := ⟨_, rfl⟩
      rw [← e01] at D0 t0
      rw [← e12] at D1 t1
      rw [← e23] at D2 t2
      rw [← e30] at D3 t3
      have E01 := Lib.hid e01
      have E12 := Lib.hid e12
      have E23 := Lib.hid e23
      have E30 := Lib.hid e30
      clear e01 e12 e23 e30
      obtain ⟨u0, nu0, qu0, xu0⟩ := xo d0 y0 t0 l0
      obtain ⟨u1, nu1, qu1, xu1⟩ := xo d1 y1 t1 l1
      obtain ⟨u2, nu2, qu2, xu2⟩ := xo d2 y2 t2 l2
      obtain ⟨u3, nu3, qu3, xu3⟩ := xo d3 y3 t3 l3
      obtain ⟨v0, nv0, qv0, xv0⟩ := xo u0 su nu0 nsu
      obtain ⟨v1, nv1, qv1, xv1⟩ := xo u1 su nu1 nsu
      obtain ⟨v2, nv2, qv2, xv2⟩ := xo u2 su nu2 nsu
      obtain ⟨v3, nv3, qv3, xv3⟩ := xo u3 su nu3 nsu
      have G : Hid (mx f m = v0 ∧ mx f (m + 1) = v1 ∧ mx f (m + 2) = v2 ∧ mx f (m + 3) = v3) := Lib.hid (by
        obtain ⟨g0, g1, g2, g3⟩ := FX.out
        rw [g0, g1, g2, g3, qv0.out, qv1.out, qv2.out, qv3.out, qu0.out, qu1.out, qu2.out, qu3.out, qsu.out, q012.out, E01.out, E12.out, E23.out, E30.out, q01.out, q12.out, q23.out, q30.out]
        exact ⟨rfl, rfl, rfl, rfl⟩)
      have ST := Lib.hid (fun q => ((((AR.out.below (bdrew (brefl wr) q)).set0 m v0 (by omega) nv0).set0 (m + 1) v1 (by omega) nv1).set0 (m + 2) v2 (by omega) nv2).set0 (m + 3) v3 (by omega) nv3)
      have RT := Lib.hid (fun q => ((((RR.out.below (bdrew (brefl wr) q)).other (b' := w.heap.size) (by omega) m (.int .u8 v0)).other (b' := w.heap.size) (by omega) (m + 1) (.int .u8 v1)).other (b' := w.heap.size) (by omega) (m + 2) (.int .u8 v2)).other (b' := w.heap.size) (by omega) (m + 3) (.int .u8 v3))
      have BT := Lib.hid (fun q => ((((BB.out.trans ((bdrew (brefl wr) q).mono (Nat.le_of_lt AR.out.1))).setCell (p := ⟨w.heap.size, m, none⟩) (Nat.le_refl _) (.int .u8 v0)).setCell (p := ⟨w.heap.size, m + 1, none⟩) (Nat.le_refl _) (.int .u8 v1)).setCell (p := ⟨w.heap.size, m + 2, none⟩) (Nat.le_refl _) (.int .u8 v2)).setCell (p := ⟨w.heap.size, m + 3, none⟩) (Nat.le_refl _) (.int .u8 v3))
      clear q01 q012 qsu q12 q23 q30 qu0 qu1 qu2 qu3 qv0 qv1 qv2 qv3 FX E01 E12 E23 E30
      clear n01 n012 n12 n23 n30 nu0 nu1 nu2 nu3 nv0 nv1 nv2 nv3 t0 t1 t2 t3 nsu l0 l1 l2 l3
      have k0 : (0 : Int) ≤ (m : Int) := by omega
      have k1 : (m : Int) ≤ 12 := by omega
      go_wp2_with fail
      go_quiet (fail)
      go_wp2_with fail
      refine (D0.out _).mono ?_
      rintro e w' ⟨rfl, rfl⟩
      go_wp2_with fail
      refine (D1.out _).mono ?_
      rintro e w' ⟨rfl, rfl⟩
      go_wp2_with fail
      refine (D2.out _).mono ?_
      rintro e w' ⟨rfl, rfl⟩
      go_wp2_with fail
      refine (D3.out _).mono ?_
      rintro e w' ⟨rfl, rfl⟩
      go_wp2_with fail
      go_roundw
      case rel => exact ⟨cn + 1, m + 4, by rw [HM.out]; omega, by omega, by go_num, (ST.out nq).eq (fun i hi => by
        obtain ⟨g0, g1, g2, g3⟩ := G.out
        unfold up
        by_cases i3 : i = m + 3
        · subst i3; rw [if_pos rfl, if_pos (by omega), g3]
        · by_cases i2 : i = m + 2
          · subst i2; rw [if_neg (by omega), if_pos rfl, if_pos (by omega), g2]
          · by_cases i1 : i = m + 1
            · subst i1; rw [if_neg (by omega), if_neg (by omega), if_pos rfl, if_pos (by omega), g1]
            · by_cases i0 : i = m
              · subst i0; rw [if_neg (by omega), if_neg (by omega), if_neg (by omega), if_pos rfl, if_pos (by omega), g0]
              · rw [if_neg i3, if_neg i2, if_neg i1, if_neg i0]
                show (if i < m then mx f i else f i) = _
                by_cases c' : i < m
                · rw [if_pos c', if_pos (by omega)]
                · rw [if_neg c', if_neg (by omega)]), RT.out nq, BT.out nq⟩
      case measure => simp [intOf]; omega
    · have e0 : decide ((m : Int) < 16) = false := by rw [decide_eq_false_iff_not]; omega
      obtain rfl : m = 16 := by omega
      have AW := Lib.hid (AR.out.eq (g' := mx f) (fun i hi => by simp [hi]))
      have VL : ∀ i, i < 16 → mx f i < 256 := AW.out.2.1
      have FI := Lib.hid (Ay.mk_cells (g := mx f) RR.out.1 RR.out.there VL)
      have FB := Lib.hid (belowCells (B := w.heap.size) (w.heap.size + 1) (by omega) (ac (mx f) 16) 0 wr (WS.out.trans BB.out))
      have SE := run_store_ac (P := Tryd.prog) RR.out.there (mx f)
      go_wp2_with (refine wpList_load_mid rfl 72 _ rfl _ 0 rfl (ac (mx f) 16) _ AW.out.range Tryd.underlying72 rfl (by rw [ac_len]; exact info_blk) ?_)
      refine bodyPost_ret (v := .agg (ac (mx f) 16).toArray) (results_cell_mid rfl _ _ (w.heap.size + 1) _ _ rfl FI.out.range Tryd.underlying72 rfl (by rw [ac_len]; exact info_blk)) rfl ⟨rfl, FB.out⟩
end Go.Proofs.YtbbcgcfahaljoaaDoor.Ae
namespace Go.Proofs.YtbbcgcfahaljoaaDoor.Ae
open Go.RowKit By
set_option linter.unusedVariables false
set_option linter.unusedSimpArgs false

/-- what falls out of byte k on. -/
def cy (f : Nat → Nat) (k : Nat) : Nat := if k = 16 then 0 else f k / 128
def sh (f : Nat → Nat) (j : Nat) : Nat := (f j * 2 % 256) ||| cy f (j + 1)
theorem cy_lt {f : Nat → Nat} (hf : ∀ i, i < 16 → f i < 256) (k : Nat) (hk : k ≤ 16) : cy f k < 2 := by
  unfold cy
  split
  · omega
  · have := hf k (by omega); omega
theorem sh_lt {f : Nat → Nat} (hf : ∀ i, i < 16 → f i < 256) (j : Nat) (hj : j < 16) : sh f j < 256 :=
  Nat.or_lt_two_pow (n := 8) (by omega) (by have := cy_lt hf (j + 1) (by omega); omega)
theorem sh_dbl (f : Nat → Nat) : ∀ i, i < 16 → (if i = 15 ∧ 128 ≤ f 0 then sh f 15 ^^^ 135 else sh f i) = dbl f i := by
  intro i hi
  unfold dbl
  by_cases c : i < 15
  · rw [if_neg (by omega), if_pos c]
    unfold sh cy
    rw [if_neg (by omega)]
  · obtain rfl : i = 15 := by omega
    rw [if_neg c]
    have e : sh f 15 = f 15 * 2 % 256 := by unfold sh cy; simp
    by_cases c0 : 128 ≤ f 0
    · rw [if_pos ⟨rfl, c0⟩, if_pos c0, e]
    · rw [if_neg (fun h => c0 h.2), if_neg c0, e]

set_option maxRecDepth 100000 in
set_option maxHeartbeats 4000000 in
theorem shifted_c (f : Nat → Nat) (w : World) (hf : ∀ i, i < 16 → f i < 256) :
    Calls Tryd.prog 69 #[.agg (ac f 16).toArray] w fun e w' => e = .returned (.agg (ac (dbl f) 16).toArray) ∧ Below w.heap.size w w' := by
  have WS := Lib.hid (balloc (balloc (brefl w) (.cells (ac f 16).toArray 72)) (.cells #[.int .u8 0, .int .u8 0, .int .u8 0, .int .u8 0, .int .u8 0, .int .u8 0, .int .u8 0, .int .u8 0, .int .u8 0, .int .u8 0, .int .u8 0, .int .u8 0, .int .u8 0, .int .u8 0, .int .u8 0, .int .u8 0] 72))
  have A0 := Lib.hid ((Ay.newC w 16 f 72 hf).below (balloc (brefl _) (.cells #[.int .u8 0, .int .u8 0, .int .u8 0, .int .u8 0, .int .u8 0, .int .u8 0, .int .u8 0, .int .u8 0, .int .u8 0, .int .u8 0, .int .u8 0, .int .u8 0, .int .u8 0, .int .u8 0, .int .u8 0, .int .u8 0] 72)))
  have R0 := Lib.hid (Ay.new0 (w.alloc (.cells (ac f 16).toArray 72)) 16 72)
  rw [sz_alloc] at R0
  replace R0 : Hid (Ay ((w.alloc (.cells (ac f 16).toArray 72)).alloc (.cells #[.int .u8 0, .int .u8 0, .int .u8 0, .int .u8 0, .int .u8 0, .int .u8 0, .int .u8 0, .int .u8 0, .int .u8 0, .int .u8 0, .int .u8 0, .int .u8 0, .int .u8 0, .int .u8 0, .int .u8 0, .int .u8 0] 72)) (w.heap.size + 1) 0 16 (fun _ => 0)) := R0
  have HF := Lib.hid hf
  clear hf
  go_enter Tryd.func69, Tryd.ntmps69
  go_wp2_with fail
  generalize ((w.alloc (.cells (ac f 16).toArray 72)).alloc (.cells #[.int .u8 0, .int .u8 0, .int .u8 0, .int .u8 0, .int .u8 0, .int .u8 0, .int .u8 0, .int .u8 0, .int .u8 0, .int .u8 0, .int .u8 0, .int .u8 0, .int .u8 0, .int .u8 0, .int .u8 0, .int .u8 0] 72)) = W0 at *
  go_loopw [3, 4] (fun cr i wr => ∃ (k : Nat) (z : Int), k ≤ 16 ∧ z = (k : Int) - 1 ∧ i = .int .i64 z ∧ cr = .int .u8 (cy f k) ∧ Ay wr w.heap.size 0 16 (fun j => if j < k then f j else sh f j) ∧ Ay wr (w.heap.size + 1) 0 16 (fun _ => 0) ∧ Below w.heap.size W0 wr) (fun _ i _ => (intOf i + 1).toNat)
  case atStart => exact ⟨16, 15, by omega, by omega, rfl, rfl, A0.out.eq (fun i hi => by simp [hi]), R0.out, Below.refl _ _⟩
  case round =>
    obtain ⟨k, z, hk, hz, rfl, rfl, ar, rr, hb⟩ := hrel
    rename World => wr
    have AR := Lib.hid ar
    have RR := Lib.hid rr
    have BB := Lib.hid hb
    clear ar rr hb
    by_cases c : 0 < k
    · obtain ⟨j, rfl⟩ : ∃ j, k = j + 1 := ⟨k - 1, by omega⟩
      obtain rfl : z = (j : Int) := by omega
      clear hz
      have e0 : decide ((0 : Int) ≤ (j : Int)) = true := by rw [decide_eq_true_iff]; omega
      obtain ⟨a0, b0⟩ := AR.out.at (i := j) (by omega)
      rw [if_pos (by omega)] at a0
      have l0 := HF.out j (by omega)
      have CL := cy_lt HF.out (j + 1) hk
      have OR := or8 (f j * 2 % 256) (cy f (j + 1)) (by omega) (by omega)
      have SL := sh_lt HF.out j (by omega)
      have SE : Hid ((f j * 2 % 256) ||| cy f (j + 1) = sh f j) := rfl
      have CE : Hid (cy f j = f j / 128) := Lib.hid (by unfold cy; rw [if_neg (by omega)])
      rw [SE.out, show ((f j * 2 % 256 : Nat) : Int) = (f j : Int) * 2 % 256 from by omega] at OR
      have ST := Lib.hid (AR.out.set0 j (sh f j) (by omega) SL)
      have STE : Hid (∀ i, i < 16 → up (fun i => if i < j + 1 then f i else sh f i) j (sh f j) i = if i < j then f i else sh f i) := Lib.hid (fun i hi => by
        unfold up
        by_cases e : i = j
        · subst e; simp
        · by_cases e' : i < j
          · rw [if_neg e, if_pos e']
            show (if i < j + 1 then f i else sh f i) = _
            rw [if_pos (by omega)]
          · rw [if_neg e, if_neg e']
            show (if i < j + 1 then f i else sh f i) = _
            rw [if_neg (by omega)])
      have ST2 := Lib.hid (ST.out.eq STE.out)
      clear ST STE SE
      generalize sh f j = s at *
      generalize f j = x at *
      generalize cy f (j + 1) = y at *
      have k0 : (0 : Int) ≤ (j : Int) := by omega
      have k1 : (j : Int) < 16 := by omega
      have x1 : (x : Int) < 256 := by omega
      go_wp2_with fail
      go_region
      go_wp2_with fail
      go_roundw
      case rel => exact ⟨j, (j : Int) - 1, by omega, rfl, by go_num, by rw [show ((cy f j : Nat) : Int) = (x : Int) / 128 from by rw [CE.out]; omega], ST2.out.below (bdrew1 _ _), (RR.out.other (by omega) j _).below (bdrew1 _ _), (BB.out.setCell (Nat.le_refl _) _).trans (bdrew1 _ _)⟩
      case measure => simp [intOf] <;> omega
    · obtain rfl : k = 0 := by omega
      have l0 := HF.out 0 (by omega)
      have l15 := HF.out 15 (by omega)
      have e0 : decide ((0 : Int) ≤ z) = false := by rw [decide_eq_false_iff_not]; omega
      clear hz
      have CE : cy f 0 = f 0 / 128 := rfl
      rw [CE]
      by_cases c0 : 128 ≤ f 0
      · have e1 : f 0 / 128 = 1 := by omega
        rw [e1, show ((1 : Nat) : Int) = 1 from rfl]
        obtain ⟨a0, b0⟩ := AR.out.at (i := 15) (by omega)
        rw [if_neg (by omega)] at a0
        have XO := xor8 (sh f 15) 135 (sh_lt HF.out 15 (by omega)) (by omega)
        rw [show ((135 : Nat) : Int) = 135 from rfl] at XO
        have AS := Lib.hid (AR.out.set0 15 (sh f 15 ^^^ 135) (by omega) (lt_xor8 (sh_lt HF.out 15 (by omega)) (by omega)))
        have AW := Lib.hid (AS.out.eq (g' := dbl f) (fun i hi => by rw [← sh_dbl f i hi]; unfold up; by_cases e : i = 15 <;> simp [e, c0]))
        have RW := Lib.hid (RR.out.other (b' := w.heap.size) (by omega) 15 (.int .u8 ((sh f 15 ^^^ 135 : Nat) : Int)))
        have BW := Lib.hid (BB.out.setCell (p := ⟨w.heap.size, 15, none⟩) (Nat.le_refl _) (.int .u8 ((sh f 15 ^^^ 135 : Nat) : Int)))
        clear AS
        generalize sh f 15 ^^^ 135 = zz at *
        generalize sh f 15 = x at *
        have VL : ∀ i, i < 16 → dbl f i < 256 := AW.out.2.1
        have FI := Lib.hid (Ay.mk_cells (g := dbl f) RW.out.1 RW.out.there VL)
        have FB := Lib.hid (belowCells (B := w.heap.size) (w.heap.size + 1) (by omega) (ac (dbl f) 16) 0 _ (WS.out.trans BW.out))
        have SE := run_store_ac (P := Tryd.prog) RW.out.there (dbl f)
        go_wp2_with (refine wpList_load_mid rfl 72 _ rfl _ 0 rfl (ac (dbl f) 16) _ AW.out.range Tryd.underlying72 rfl (by rw [ac_len]; exact info_blk) ?_)
        refine bodyPost_ret (v := .agg (ac (dbl f) 16).toArray) (results_cell_mid rfl _ _ (w.heap.size + 1) _ _ rfl FI.out.range Tryd.underlying72 rfl (by rw [ac_len]; exact info_blk)) rfl ⟨rfl, FB.out⟩
      · have e1 : f 0 / 128 = 0 := by omega
        rw [e1, show ((0 : Nat) : Int) = 0 from rfl]
        have AW := Lib.hid (AR.out.eq (g' := dbl f) (fun i hi => by
          show (if i < 0 then f i else sh f i) = _
          rw [if_neg (by omega), ← sh_dbl f i hi, if_neg (fun h => c0 h.2)]))
        have VL : ∀ i, i < 16 → dbl f i < 256 := AW.out.2.1
        have FI := Lib.hid (Ay.mk_cells (g := dbl f) RR.out.1 RR.out.there VL)
        have FB := Lib.hid (belowCells (B := w.heap.size) (w.heap.size + 1) (by omega) (ac (dbl f) 16) 0 _ (WS.out.trans BB.out))
        have SE := run_store_ac (P := Tryd.prog) RR.out.there (dbl f)
        go_wp2_with (refine wpList_load_mid rfl 72 _ rfl _ 0 rfl (ac (dbl f) 16) _ AW.out.range Tryd.underlying72 rfl (by rw [ac_len]; exact info_blk) ?_)
        refine bodyPost_ret (v := .agg (ac (dbl f) 16).toArray) (results_cell_mid rfl _ _ (w.heap.size + 1) _ _ rfl FI.out.range Tryd.underlying72 rfl (by rw [ac_len]; exact info_blk)) rfl ⟨rfl, FB.out⟩
end Go.Proofs.YtbbcgcfahaljoaaDoor.Ae
namespace Go.Proofs.YtbbcgcfahaljoaaDoor.Ae
open Go.RowKit By
set_option linter.unusedVariables false
set_option linter.unusedSimpArgs false

/-- n bytes behind an address, if there are any. -/
def Sl (w : World) (p : Option Addr) (n : Nat) (f : Nat → Nat) : Prop := 0 < n → ∃ b o, p = some ⟨b, o, none⟩ ∧ Bs w b o n f
theorem Sl.below {w w' : World} {p : Option Addr} {n : Nat} {f : Nat → Nat} (h : Sl w p n f) (k : Below w.heap.size w w') : Sl w' p n f := fun hn => by
  obtain ⟨b, o, hp, B⟩ := h hn
  exact ⟨b, o, hp, B.below k⟩
theorem cell_row {w : World} {b : Nat} {L : List Value} {t : TypeId} (h : w.heap[b]? = some (.cells L.toArray t (0, 0))) (i : Nat) : w.cell? ⟨b, i, none⟩ = L[i]? ∧ w.frozen? ⟨b, i, none⟩ = false := by
  simp [World.cell?, World.frozen?, h]
/-- a copy whose outcome is known. -/
theorem wpList_copy_eq {P : Program} {w : World} {ops : Array Oper} {rest : List Oper} {o : Oper} {a : Act} {Q : Exit → Act → World → Prop} (hgd : o.guard = none) (s x : Operand) (t : TypeId)
    (ho : o.op = .call { callee := .builtin .copy, args := #[s, x], argTypes := #[t, t] }) (v xv v' : Value) (w' : World) (hs : a.eval s = v) (hx : a.eval x = xv)
    (hr : (Builtin.copy_ #[t, t] o.type #[v, xv]).run P w = .ok v' w') (h : wpList P ops Q rest (a.put o.dst v') w') : wpList P ops Q (o :: rest) a w := by
  refine wpList_plain hgd fun K hK => ?_
  unfold Oper.wp execOp
  simp only [ho, resolve, invoke, builtin, Sem.run_bind, Sem.run_pure, Result.andThen_ok, List.map_toArray, List.map_cons, List.map_nil, hs, hx, hr]
  exact hK _ _ h
def z16 : List Value := List.replicate 16 (.int .u8 0)
/-- the first n bytes, and noughts. -/
def pad0 (f : Nat → Nat) (n : Nat) (i : Nat) : Nat := if i < n then f i else 0

set_option maxRecDepth 100000 in
set_option maxHeartbeats 2000000 in
theorem toBlock_c (p : Option Addr) (n cap : Nat) (f : Nat → Nat) (w : World) (S : Sl w p n f) (hn : n ≤ 16) (hf : ∀ i, i < n → f i < 256) :
    Calls Tryd.prog 45 #[.slice p n cap] w fun e w' => e = .returned (.agg (ac (pad0 f n) 16).toArray) ∧ Below w.heap.size w w' := by
  have WS := Lib.hid (balloc (balloc (brefl w) (.cells #[.int .u8 0, .int .u8 0, .int .u8 0, .int .u8 0, .int .u8 0, .int .u8 0, .int .u8 0, .int .u8 0, .int .u8 0, .int .u8 0, .int .u8 0, .int .u8 0, .int .u8 0, .int .u8 0, .int .u8 0, .int .u8 0] 72)) (.cells #[.int .u8 0, .int .u8 0, .int .u8 0, .int .u8 0, .int .u8 0, .int .u8 0, .int .u8 0, .int .u8 0, .int .u8 0, .int .u8 0, .int .u8 0, .int .u8 0, .int .u8 0, .int .u8 0, .int .u8 0, .int .u8 0] 72))
  have R0 := Lib.hid ((Ay.new0 w 16 72).below (balloc (brefl _) (.cells #[.int .u8 0, .int .u8 0, .int .u8 0, .int .u8 0, .int .u8 0, .int .u8 0, .int .u8 0, .int .u8 0, .int .u8 0, .int .u8 0, .int .u8 0, .int .u8 0, .int .u8 0, .int .u8 0, .int .u8 0, .int .u8 0] 72)))
  replace R0 : Hid (Ay ((w.alloc (.cells #[.int .u8 0, .int .u8 0, .int .u8 0, .int .u8 0, .int .u8 0, .int .u8 0, .int .u8 0, .int .u8 0, .int .u8 0, .int .u8 0, .int .u8 0, .int .u8 0, .int .u8 0, .int .u8 0, .int .u8 0, .int .u8 0] 72)).alloc (.cells #[.int .u8 0, .int .u8 0, .int .u8 0, .int .u8 0, .int .u8 0, .int .u8 0, .int .u8 0, .int .u8 0, .int .u8 0, .int .u8 0, .int .u8 0, .int .u8 0, .int .u8 0, .int .u8 0, .int .u8 0, .int .u8 0] 72)) w.heap.size 0 16 (fun _ => 0)) := R0
  have S0 := Lib.hid (S.below WS.out)
  have HG : Hid (((w.alloc (.cells #[.int .u8 0, .int .u8 0, .int .u8 0, .int .u8 0, .int .u8 0, .int .u8 0, .int .u8 0, .int .u8 0, .int .u8 0, .int .u8 0, .int .u8 0, .int .u8 0, .int .u8 0, .int .u8 0, .int .u8 0, .int .u8 0] 72)).alloc (.cells #[.int .u8 0, .int .u8 0, .int .u8 0, .int .u8 0, .int .u8 0, .int .u8 0, .int .u8 0, .int .u8 0, .int .u8 0, .int .u8 0, .int .u8 0, .int .u8 0, .int .u8 0, .int .u8 0, .int .u8 0, .int .u8 0] 72)).heap[w.heap.size + 1]? = some (.cells z16.toArray 72 (0, 0))) := Lib.hid (by
    have := heap_alloc_new (w.alloc (.cells #[.int .u8 0, .int .u8 0, .int .u8 0, .int .u8 0, .int .u8 0, .int .u8 0, .int .u8 0, .int .u8 0, .int .u8 0, .int .u8 0, .int .u8 0, .int .u8 0, .int .u8 0, .int .u8 0, .int .u8 0, .int .u8 0] 72)) (.cells #[.int .u8 0, .int .u8 0, .int .u8 0, .int .u8 0, .int .u8 0, .int .u8 0, .int .u8 0, .int .u8 0, .int .u8 0, .int .u8 0, .int .u8 0, .int .u8 0, .int .u8 0, .int .u8 0, .int .u8 0, .int .u8 0] 72)
    rw [sz_alloc] at this
    exact this)
  have HF := Lib.hid hf
  have LN : Hid ((ac f n).length = Nat.min n 16) := Lib.hid (by rw [ac_len]; exact (Nat.min_eq_left hn).symm)
  have FIT : Hid (0 + (ac f n).length ≤ z16.length) := Lib.hid (by rw [ac_len]; show 0 + n ≤ 16; omega)
  have ONE : Hid (∀ v ∈ ac f n, v.oneCell' = true) := Lib.hid (fun v hv => (Array.all_eq_true_iff_forall_mem.1 (ac_one f n)) v (by simpa using hv))
  have HS : Hid (∀ i, i < 16 → (splice z16 0 (ac f n))[i]? = some (.int .u8 ((pad0 f n i : Nat) : Int))) := Lib.hid (fun i hi => by
    unfold splice pad0
    rw [List.take_zero, List.nil_append, ac_len]
    by_cases c : i < n
    · rw [List.getElem?_append_left (by rw [ac_len]; exact c), ac_get c, if_pos c]
    · rw [List.getElem?_append_right (by rw [ac_len]; omega), ac_len, if_neg c]
      unfold z16
      rw [List.drop_replicate, List.getElem?_replicate, if_pos (by omega)]
      rfl)
  have CP : ∃ W1 m, (Builtin.copy_ #[26, 26] 3 #[.slice (some ⟨w.heap.size + 1, 0, none⟩) 16 16, .slice p n cap]).run Tryd.prog ((w.alloc (.cells #[.int .u8 0, .int .u8 0, .int .u8 0, .int .u8 0, .int .u8 0, .int .u8 0, .int .u8 0, .int .u8 0, .int .u8 0, .int .u8 0, .int .u8 0, .int .u8 0, .int .u8 0, .int .u8 0, .int .u8 0, .int .u8 0] 72)).alloc (.cells #[.int .u8 0, .int .u8 0, .int .u8 0, .int .u8 0, .int .u8 0, .int .u8 0, .int .u8 0, .int .u8 0, .int .u8 0, .int .u8 0, .int .u8 0, .int .u8 0, .int .u8 0, .int .u8 0, .int .u8 0, .int .u8 0] 72)) = .ok (goInt m) W1 ∧ Ay W1 (w.heap.size + 1) 0 16 (pad0 f n) ∧ Below (w.heap.size + 1) ((w.alloc (.cells #[.int .u8 0, .int .u8 0, .int .u8 0, .int .u8 0, .int .u8 0, .int .u8 0, .int .u8 0, .int .u8 0, .int .u8 0, .int .u8 0, .int .u8 0, .int .u8 0, .int .u8 0, .int .u8 0, .int .u8 0, .int .u8 0] 72)).alloc (.cells #[.int .u8 0, .int .u8 0, .int .u8 0, .int .u8 0, .int .u8 0, .int .u8 0, .int .u8 0, .int .u8 0, .int .u8 0, .int .u8 0, .int .u8 0, .int .u8 0, .int .u8 0, .int .u8 0, .int .u8 0, .int .u8 0] 72)) W1 := by
    have PL : ∀ i, i < 16 → pad0 f n i < 256 := fun i _ => by
      unfold pad0
      split
      · exact hf i (by assumption)
      · omega
    by_cases h0 : n = 0
    · subst h0
      have hr := run_copy_none (P := Tryd.prog) ((w.alloc (.cells #[.int .u8 0, .int .u8 0, .int .u8 0, .int .u8 0, .int .u8 0, .int .u8 0, .int .u8 0, .int .u8 0, .int .u8 0, .int .u8 0, .int .u8 0, .int .u8 0, .int .u8 0, .int .u8 0, .int .u8 0, .int .u8 0] 72)).alloc (.cells #[.int .u8 0, .int .u8 0, .int .u8 0, .int .u8 0, .int .u8 0, .int .u8 0, .int .u8 0, .int .u8 0, .int .u8 0, .int .u8 0, .int .u8 0, .int .u8 0, .int .u8 0, .int .u8 0, .int .u8 0, .int .u8 0] 72)) 26 26 3 5 (some ⟨w.heap.size + 1, 0, none⟩) p 16 16 0 cap Tryd.underlying26 (by kernel_rfl) (by simp)
      refine ⟨_, 0, hr, ⟨Nat.lt_of_lt_of_le (Nat.lt_succ_self _) (by simp), PL, fun i hi => ?_⟩, Below.refl _ _⟩
      obtain ⟨c1, c2⟩ := cell_row HG.out i
      rw [Nat.zero_add, c1, c2]
      refine ⟨?_, rfl⟩
      have := HS.out i hi
      rwa [show splice z16 0 (ac f 0) = z16 from rfl] at this
    · obtain ⟨b, o, hp, B⟩ := S0.out (by omega)
      subst hp
      have hr := run_copy_row (P := Tryd.prog) ((w.alloc (.cells #[.int .u8 0, .int .u8 0, .int .u8 0, .int .u8 0, .int .u8 0, .int .u8 0, .int .u8 0, .int .u8 0, .int .u8 0, .int .u8 0, .int .u8 0, .int .u8 0, .int .u8 0, .int .u8 0, .int .u8 0, .int .u8 0] 72)).alloc (.cells #[.int .u8 0, .int .u8 0, .int .u8 0, .int .u8 0, .int .u8 0, .int .u8 0, .int .u8 0, .int .u8 0, .int .u8 0, .int .u8 0, .int .u8 0, .int .u8 0, .int .u8 0, .int .u8 0, .int .u8 0, .int .u8 0] 72)) 26 26 3 5 (w.heap.size + 1) 0 16 16 ⟨b, o, none⟩ n cap z16.toArray 72 (ac f n) Tryd.underlying26 (by kernel_rfl) HG.out LN.out
        (fun j v hv => by
          have hj : j < n := by have := (List.getElem?_eq_some_iff.1 hv).1; rwa [ac_len] at this
          rw [ac_get hj] at hv
          rw [← hv, Addr.add_mid]
          exact B.2.2 j hj) (by simpa using FIT.out) ONE.out
      have e : (z16.toArray.toList.take 0 ++ ac f n ++ z16.toArray.toList.drop (0 + (ac f n).length)) = splice z16 0 (ac f n) := by simp [splice]
      rw [e] at hr
      have HH := setRow_heap _ _ _ (splice z16 0 (ac f n)).toArray _ _ HG.out
      refine ⟨_, _, hr, ⟨by simp [World.setRow], PL, fun i hi => ?_⟩, below_setRow (Below.refl _ _) (Nat.le_refl _) _⟩
      obtain ⟨c1, c2⟩ := cell_row HH i
      rw [Nat.zero_add, c1, c2]
      exact ⟨HS.out i hi, rfl⟩
  clear hf S HG LN FIT ONE HS
  obtain ⟨W1, m, hc0, ay, bw⟩ := CP
  have HC := Lib.hid hc0
  clear hc0
  have AY := Lib.hid ay
  have BW := Lib.hid bw
  have RW := Lib.hid (R0.out.belowB (by omega) bw)
  clear ay bw
  go_enter Tryd.func45, Tryd.ntmps45
  have VL : ∀ i, i < 16 → pad0 f n i < 256 := AY.out.2.1
  have FI := Lib.hid (Ay.mk_cells (g := pad0 f n) RW.out.1 RW.out.there VL)
  have FB := Lib.hid (belowCells (B := w.heap.size) w.heap.size (Nat.le_refl _) (ac (pad0 f n) 16) 0 W1 (WS.out.trans (BW.out.mono (by omega))))
  have SE := run_store_ac (P := Tryd.prog) RW.out.there (pad0 f n)
  go_wp2_with (first | refine wpList_copy_eq rfl (.tmp 4) (.tmp 5) 26 rfl _ _ (goInt m) W1 rfl rfl HC.out ?_ | refine wpList_load_mid rfl 72 _ rfl _ 0 rfl (ac (pad0 f n) 16) _ AY.out.range Tryd.underlying72 rfl (by rw [ac_len]; exact info_blk) ?_)
  refine bodyPost_ret (v := .agg (ac (pad0 f n) 16).toArray) (results_cell_mid rfl _ _ w.heap.size _ _ rfl FI.out.range Tryd.underlying72 rfl (by rw [ac_len]; exact info_blk)) rfl ⟨rfl, FB.out⟩
end Go.Proofs.YtbbcgcfahaljoaaDoor.Ae
