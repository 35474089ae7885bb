/-
  The contract of aes' mixed.
  Conditions: none.
-/
import Derived.Test.YtfefkakdhaecpaaAeJ
namespace Go.Proofs.Ytfefkakdhaecpaa.Ae
open Go.RowKit By
set_option linter.unusedVariables false
set_option linter.unusedSimpArgs false

set_option maxRecDepth 100000 in
set_option maxHeartbeats 4000000 in
theorem mixed_c (f : Nat → Nat) (w : World) (hf : ∀ i, i < 16 → f i < 256) :
    Calls Try.prog 29 #[.agg (ac f 16).toArray] w fun e w' => e = .returned (.agg (ac (mx f) 16).toArray) ∧ Below w.heap.size w w' := by
  have DB := Lib.hid (fun x w (hx : x < 256) => double_c x w hx)
  have WS := Lib.hid (balloc (balloc (brefl w) (.cells (ac f 16).toArray 38)) (.cells #[.int .u8 0, .int .u8 0, .int .u8 0, .int .u8 0, .int .u8 0, .int .u8 0, .int .u8 0, .int .u8 0, .int .u8 0, .int .u8 0, .int .u8 0, .int .u8 0, .int .u8 0, .int .u8 0, .int .u8 0, .int .u8 0] 38))
  have A0 := Lib.hid ((Ay.newC w 16 f 38 hf).below (balloc (brefl _) (.cells #[.int .u8 0, .int .u8 0, .int .u8 0, .int .u8 0, .int .u8 0, .int .u8 0, .int .u8 0, .int .u8 0, .int .u8 0, .int .u8 0, .int .u8 0, .int .u8 0, .int .u8 0, .int .u8 0, .int .u8 0, .int .u8 0] 38)))
  have R0 := Lib.hid (Ay.new0 (w.alloc (.cells (ac f 16).toArray 38)) 16 38)
  rw [sz_alloc] at R0
  replace R0 : Hid (Ay ((w.alloc (.cells (ac f 16).toArray 38)).alloc (.cells #[.int .u8 0, .int .u8 0, .int .u8 0, .int .u8 0, .int .u8 0, .int .u8 0, .int .u8 0, .int .u8 0, .int .u8 0, .int .u8 0, .int .u8 0, .int .u8 0, .int .u8 0, .int .u8 0, .int .u8 0, .int .u8 0] 38)) (w.heap.size + 1) 0 16 (fun _ => 0)) := R0
  have HF := Lib.hid hf
  clear hf
  go_enter Try.func29, Try.ntmps29
  go_wp2_with fail
  generalize ((w.alloc (.cells (ac f 16).toArray 38)).alloc (.cells #[.int .u8 0, .int .u8 0, .int .u8 0, .int .u8 0, .int .u8 0, .int .u8 0, .int .u8 0, .int .u8 0, .int .u8 0, .int .u8 0, .int .u8 0, .int .u8 0, .int .u8 0, .int .u8 0, .int .u8 0, .int .u8 0] 38)) = W0 at *
  go_loopw [3] (fun i wr => ∃ c m : Nat, m = 4 * c ∧ m ≤ 16 ∧ i = .int .i64 m ∧ Ay wr w.heap.size 0 16 (fun i => if i < m then mx f i else f i) ∧ Ay wr (w.heap.size + 1) 0 16 (fun _ => 0) ∧ Below w.heap.size W0 wr) (fun i _ => 16 - (intOf i).toNat)
  case atStart => exact ⟨0, 0, rfl, by omega, rfl, A0.out.eq (by simp), R0.out, Below.refl _ _⟩
  case round =>
    obtain ⟨cn, m, hm, hk, rfl, ar, rr, hb⟩ := hrel
    rename World => wr
    have AR := Lib.hid ar
    have RR := Lib.hid rr
    have BB := Lib.hid hb
    have HM := Lib.hid hm
    clear ar rr hb hm
    by_cases c : m < 16
    · have e0 : decide ((m : Int) < 16) = true := by rw [decide_eq_true_iff]; omega
      have m12 : m ≤ 12 := by have := HM.out; omega
      obtain ⟨a0, b0⟩ := AR.out.at (i := m) (by omega)
      obtain ⟨a1, b1⟩ := AR.out.at (i := m + 1) (by omega)
      obtain ⟨a2, b2⟩ := AR.out.at (i := m + 2) (by omega)
      obtain ⟨a3, b3⟩ := AR.out.at (i := m + 3) (by omega)
      rw [if_neg (by omega)] at a0 a1 a2 a3
      have l0 := HF.out m (by omega)
      have l1 := HF.out (m + 1) (by omega)
      have l2 := HF.out (m + 2) (by omega)
      have l3 := HF.out (m + 3) (by omega)
      have MP := mx_prog f HF.out cn (by have := HM.out; omega)
      rw [← HM.out] at MP
      have MPH := Lib.hid MP
      clear MP
      have FE : Hid (∀ y0 y1 y2 y3, y0 = f m → y1 = f (m + 1) → y2 = f (m + 2) → y3 = f (m + 3) →
        mx f m = xt (y0 ^^^ y1) ^^^ y0 ^^^ (y0 ^^^ y1 ^^^ y2 ^^^ y3) ∧ mx f (m + 1) = xt (y1 ^^^ y2) ^^^ y1 ^^^ (y0 ^^^ y1 ^^^ y2 ^^^ y3) ∧ mx f (m + 2) = xt (y2 ^^^ y3) ^^^ y2 ^^^ (y0 ^^^ y1 ^^^ y2 ^^^ y3) ∧ mx f (m + 3) = xt (y3 ^^^ y0) ^^^ y3 ^^^ (y0 ^^^ y1 ^^^ y2 ^^^ y3)) :=
        Lib.hid (fun y0 y1 y2 y3 h0 h1 h2 h3 => by subst h0 h1 h2 h3; exact MPH.out)
      clear MPH
      obtain ⟨y0, h0⟩ : ∃ y, y = f m := ⟨_, rfl⟩
      obtain ⟨y1, h1⟩ : ∃ y, y = f (m + 1) := ⟨_, rfl⟩
      obtain ⟨y2, h2⟩ : ∃ y, y = f (m + 2) := ⟨_, rfl⟩
      obtain ⟨y3, h3⟩ : ∃ y, y = f (m + 3) := ⟨_, rfl⟩
      have FX := Lib.hid (FE.out y0 y1 y2 y3 h0 h1 h2 h3)
      clear FE
      rw [← h0] at a0 l0
      rw [← h1] at a1 l1
      rw [← h2] at a2 l2
      rw [← h3] at a3 l3
      clear h0 h1 h2 h3
      obtain ⟨p01, n01, q01, x01⟩ := xo y0 y1 l0 l1
      obtain ⟨p012, n012, q012, x012⟩ := xo p01 y2 n01 l2
      obtain ⟨su, nsu, qsu, xsu⟩ := xo p012 y3 n012 l3
      obtain ⟨p12, n12, q12, x12⟩ := xo y1 y2 l1 l2
      obtain ⟨p23, n23, q23, x23⟩ := xo y2 y3 l2 l3
      obtain ⟨p30, n30, q30, x30⟩ := xo y3 y0 l3 l0
      have D0 := Lib.hid (fun w => DB.out p01 w n01)
      have D1 := Lib.hid (fun w => DB.out p12 w n12)
      have D2 := Lib.hid (fun w => DB.out p23 w n23)
      have D3 := Lib.hid (fun w => DB.out p30 w n30)
      have t0 := xt_lt n01
      have t1 := xt_lt n12
      have t2 := xt_lt n23
      have t3 := xt_lt n30
      obtain ⟨d0, e01⟩ : ∃ d, d = xt p01 := ⟨_, rfl⟩
      obtain ⟨d1, e12⟩ : ∃ d, d = xt p12 := ⟨_, rfl⟩
      obtain ⟨d2, e23⟩ : ∃ d, d = xt p23 := ⟨_, rfl⟩
      obtain ⟨d3, e30⟩ : ∃ d, d = xt p30 := ⟨_, rfl⟩
      rw [← e01] at D0 t0
      rw [← e12] at D1 t1
      rw [← e23] at D2 t2
      rw [← e30] at D3 t3
      have E01 := Lib.hid e01
      have E12 := Lib.hid e12
      have E23 := Lib.hid e23
      have E30 := Lib.hid e30
      clear e01 e12 e23 e30
      obtain ⟨u0, nu0, qu0, xu0⟩ := xo d0 y0 t0 l0
      obtain ⟨u1, nu1, qu1, xu1⟩ := xo d1 y1 t1 l1
      obtain ⟨u2, nu2, qu2, xu2⟩ := xo d2 y2 t2 l2
      obtain ⟨u3, nu3, qu3, xu3⟩ := xo d3 y3 t3 l3
      obtain ⟨v0, nv0, qv0, xv0⟩ := xo u0 su nu0 nsu
      obtain ⟨v1, nv1, qv1, xv1⟩ := xo u1 su nu1 nsu
      obtain ⟨v2, nv2, qv2, xv2⟩ := xo u2 su nu2 nsu
      obtain ⟨v3, nv3, qv3, xv3⟩ := xo u3 su nu3 nsu
      have G : Hid (mx f m = v0 ∧ mx f (m + 1) = v1 ∧ mx f (m + 2) = v2 ∧ mx f (m + 3) = v3) := Lib.hid (by
        obtain ⟨g0, g1, g2, g3⟩ := FX.out
        rw [g0, g1, g2, g3, qv0.out, qv1.out, qv2.out, qv3.out, qu0.out, qu1.out, qu2.out, qu3.out, qsu.out, q012.out, E01.out, E12.out, E23.out, E30.out, q01.out, q12.out, q23.out, q30.out]
        exact ⟨rfl, rfl, rfl, rfl⟩)
      have ST := Lib.hid (fun q => ((((AR.out.below (bdrew (brefl wr) q)).set0 m v0 (by omega) nv0).set0 (m + 1) v1 (by omega) nv1).set0 (m + 2) v2 (by omega) nv2).set0 (m + 3) v3 (by omega) nv3)
      have RT := Lib.hid (fun q => ((((RR.out.below (bdrew (brefl wr) q)).other (b' := w.heap.size) (by omega) m (.int .u8 v0)).other (b' := w.heap.size) (by omega) (m + 1) (.int .u8 v1)).other (b' := w.heap.size) (by omega) (m + 2) (.int .u8 v2)).other (b' := w.heap.size) (by omega) (m + 3) (.int .u8 v3))
      have BT := Lib.hid (fun q => ((((BB.out.trans ((bdrew (brefl wr) q).mono (Nat.le_of_lt AR.out.1))).setCell (p := ⟨w.heap.size, m, none⟩) (Nat.le_refl _) (.int .u8 v0)).setCell (p := ⟨w.heap.size, m + 1, none⟩) (Nat.le_refl _) (.int .u8 v1)).setCell (p := ⟨w.heap.size, m + 2, none⟩) (Nat.le_refl _) (.int .u8 v2)).setCell (p := ⟨w.heap.size, m + 3, none⟩) (Nat.le_refl _) (.int .u8 v3))
      clear q01 q012 qsu q12 q23 q30 qu0 qu1 qu2 qu3 qv0 qv1 qv2 qv3 FX E01 E12 E23 E30
      clear n01 n012 n12 n23 n30 nu0 nu1 nu2 nu3 nv0 nv1 nv2 nv3 t0 t1 t2 t3 nsu l0 l1 l2 l3
      have k0 : (0 : Int) ≤ (m : Int) := by omega
      have k1 : (m : Int) ≤ 12 := by omega
      go_wp2_with fail
      go_quiet (fail)
      go_wp2_with fail
      refine (D0.out _).mono ?_
      rintro e w' ⟨rfl, rfl⟩
      go_wp2_with fail
      refine (D1.out _).mono ?_
      rintro e w' ⟨rfl, rfl⟩
      go_wp2_with fail
      refine (D2.out _).mono ?_
      rintro e w' ⟨rfl, rfl⟩
      go_wp2_with fail
      refine (D3.out _).mono ?_
      rintro e w' ⟨rfl, rfl⟩
      go_wp2_with fail
      go_roundw
      case rel => exact ⟨cn + 1, m + 4, by rw [HM.out]; omega, by omega, by go_num, (ST.out nq).eq (fun i hi => by
        obtain ⟨g0, g1, g2, g3⟩ := G.out
        unfold up
        by_cases i3 : i = m + 3
        · subst i3; rw [if_pos rfl, if_pos (by omega), g3]
        · by_cases i2 : i = m + 2
          · subst i2; rw [if_neg (by omega), if_pos rfl, if_pos (by omega), g2]
          · by_cases i1 : i = m + 1
            · subst i1; rw [if_neg (by omega), if_neg (by omega), if_pos rfl, if_pos (by omega), g1]
            · by_cases i0 : i = m
              · subst i0; rw [if_neg (by omega), if_neg (by omega), if_neg (by omega), if_pos rfl, if_pos (by omega), g0]
              · rw [if_neg i3, if_neg i2, if_neg i1, if_neg i0]
                show (if i < m then mx f i else f i) = _
                by_cases c' : i < m
                · rw [if_pos c', if_pos (by omega)]
                · rw [if_neg c', if_neg (by omega)]), RT.out nq, BT.out nq⟩
      case measure => simp [intOf]; omega
    · have e0 : decide ((m : Int) < 16) = false := by rw [decide_eq_false_iff_not]; omega
      obtain rfl : m = 16 := by omega
      have AW := Lib.hid (AR.out.eq (g' := mx f) (fun i hi => by simp [hi]))
      have VL : ∀ i, i < 16 → mx f i < 256 := AW.out.2.1
      have FI := Lib.hid (Ay.mk_cells (g := mx f) RR.out.1 RR.out.there VL)
      have FB := Lib.hid (belowCells (B := w.heap.size) (w.heap.size + 1) (by omega) (ac (mx f) 16) 0 wr (WS.out.trans BB.out))
      have SE := run_store_ac (P := Try.prog) RR.out.there (mx f)
      go_wp2_with (refine wpList_load_mid rfl 38 _ rfl _ 0 rfl (ac (mx f) 16) _ AW.out.range Try.underlying38 rfl (by rw [ac_len]; exact info_blk) ?_)
      refine bodyPost_ret (v := .agg (ac (mx f) 16).toArray) (results_cell_mid rfl _ _ (w.heap.size + 1) _ _ rfl FI.out.range Try.underlying38 rfl (by rw [ac_len]; exact info_blk)) rfl ⟨rfl, FB.out⟩
end Go.Proofs.Ytfefkakdhaecpaa.Ae
