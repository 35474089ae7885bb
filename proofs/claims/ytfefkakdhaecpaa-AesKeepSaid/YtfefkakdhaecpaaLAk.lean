/-
  AesKeep: no call changes what it is handed, and answers share no memory. The law returns true for every input, and the input reads as it did.
  Conditions: none.
-/
import Derived.Test.YtfefkakdhaecpaaRows
import Derived.Test.YtfefkakdhaecpaaAeX
import Derived.Deep.RegionHeld3
import Derived.SizedLaws
import Derived.Lib.SmallJoins
namespace Go.Proofs.Ytfefkakdhaecpaa.aesKeep
open Go.ChangeShapes Go.WideShapes Go.ChangeAt Go.RowKit Go.Joins By Ae
set_option linter.unusedVariables false
set_option linter.unusedSimpArgs false

theorem own : ownKnob Try.prog.godebug = none := by kernel_rfl
theorem laidOut : laidOutB Try.prog = true := by kernel_rfl

set_option maxRecDepth 100000 in
set_option maxHeartbeats 8000000 in
theorem walk (v0 : Value) (n0 : Nat) (f0 : Nat → Nat) (v : Value) (n : Nat) (f : Nat → Nat) (w : World) (A0 : Arg w v0 n0 f0) (A : Arg w v n f) :
    Calls Try.prog 7 #[v0, v] w fun e w' => e = .returned (.bool true) ∧ Below w.heap.size w w' := by
  have H0 := Lib.hid A0
  have HA := Lib.hid A
  obtain ⟨a, cap, rfl, h1, h2, hf, h4, h5⟩ := A
  have HF := Lib.hid hf
  have h1' : (n : Int) ≤ (cap : Int) := by omega
  have h2' : (cap : Int) ≤ 140737488351232 := by omega
  clear A0 hf h4 h5
  go_enter Try.func7, Try.ntmps7
  go_wp2_with fail
  refine (awake_c _).mono ?_
  rintro e w0 ⟨rfl, hb⟩
  have B0 := Lib.hid hb
  clear hb
  go_wp2_with fail
  refine (fit_any H0.out B0.out).mono ?_
  rintro e w1 ⟨gk, rfl, hgk, bk, hb⟩
  have K1 := Lib.hid bk
  have lk := bk.1
  have KF := Lib.hid bk.2.1
  have B1 := Lib.hid (bstep B0.out hb)
  clear bk hb B0
  have BA := Lib.hid (B1.out.trans ((balloc (brefl w1) (.cells #[] 5)).mono B1.out.size))
  obtain ⟨v2, w2, r2, o2, b2, s2, nn2⟩ := HA.out.app BA.out (own0 w1 w1.heap.size (Nat.le_refl _)) (by simp) (by simp; omega) 22
  rw [List.nil_append] at o2
  obtain ⟨v3, w3, r3, o3, b3, s3⟩ := app1 o2 71 (by have := s2; simp at this; omega) (by rw [bl_len]; omega) 22
  have R2 := Lib.hid r2
  have L3 : (bl f n ++ [71]).length = n + 1 := by rw [List.length_append, bl_len]; rfl
  obtain ⟨g, cx, rfl, hg1, hbx, hc1, hc2⟩ := o3.bsC (by rw [L3]; omega) (by
    intro x hx
    simp only [bl, List.mem_append, List.mem_map, List.mem_range, List.mem_cons, List.not_mem_nil, or_false] at hx
    rcases hx with ⟨i, _, rfl⟩ | rfl
    · exact HF.out i
    · omega)
  have R3 := Lib.hid r3
  rw [L3] at hc1
  rw [L3] at R3
  have X3 : Hid (Bs w3 g 0 n f) := Lib.hid ⟨hbx.1, HF.out, fun i hi => by
    rw [hbx.2.2 i (by rw [L3]; omega)]
    show some (Value.int .u8 (((bl f n ++ [71]).getD i 0 : Nat) : Int)) = _
    rw [bl_get hi]⟩
  have Y3 : Hid (w3.cell? ⟨g, n, none⟩ = some (.int .u8 71)) := Lib.hid (by
    have y0 := hbx.2.2 n (by rw [L3]; omega)
    rw [Nat.zero_add] at y0
    rw [y0]
    show some (Value.int .u8 (((bl f n ++ [71]).getD n 0 : Nat) : Int)) = _
    have e0 := app_get f n 0 [71]
    rw [Nat.add_zero] at e0
    rw [e0]
    rfl)
  have B13 := Lib.hid (((balloc (brefl w1) (.cells #[] 5)).trans b2).trans b3)
  have B3 := Lib.hid (bstep B1.out B13.out)
  have K3 := Lib.hid (K1.out.below B13.out)
  have hgl : g < w3.heap.size := hbx.1
  have hc1' : (n : Int) + 1 ≤ (cx : Int) := by omega
  have hc2' : (cx : Int) ≤ 9223372036854775807 := by omega
  have hc3' : (n : Int) ≤ (cx : Int) := by omega
  have n0' : (0 : Int) ≤ (n : Int) := by omega
  have lk3 : gk < w3.heap.size := K3.out.1
  clear r2 o2 b2 s2 nn2 r3 o3 b3 s3 hbx BA K1 B1 B13
  go_wp2_with (first | (at_builtin; refine wpList_append_eq rfl (.tmp 20) (.tmp 21) 22 rfl _ _ v2 w2 rfl rfl R2.out ?_) | (at_builtin; refine wpList_append_eq rfl (.tmp 22) (.tmp 23) 22 rfl _ _ _ w3 rfl rfl R3.out ?_))
  clear R2 R3
  refine (CMAC_c (some ⟨gk, 0, none⟩) (some ⟨g, 0, none⟩) n 16 cx (pad0 f0 n0) f w3 (fun _ => ⟨gk, 0, rfl, K3.out⟩) (fun _ => ⟨g, 0, rfl, X3.out⟩) (fun i _ => KF.out i) HF.out (by omega) (by omega)).mono ?_
  rintro e w4 ⟨ga, rfl, hga, aa, hb⟩
  have WA := Lib.hid (kW_all KF.out)
  have TA := Lib.hid aa.there
  have QA := Lib.hid (aa.bs (fun _ _ => rfl) (enc_all WA.out))
  have la := aa.1
  have B4 := Lib.hid hb
  clear aa hb
  go_wp2_with fail
  refine (CMAC_c (some ⟨gk, 0, none⟩) (some ⟨g, 0, none⟩) n 16 cx (pad0 f0 n0) f w4 (fun _ => ⟨gk, 0, rfl, K3.out.below B4.out⟩) (fun _ => ⟨g, 0, rfl, X3.out.below B4.out⟩) (fun i _ => KF.out i) HF.out (by omega) (by omega)).mono ?_
  rintro e w5 ⟨gb, rfl, hgb, ab, hb⟩
  have QB := Lib.hid (ab.bs (fun _ _ => rfl) (enc_all WA.out))
  have lb := ab.1
  have B5 := Lib.hid hb
  clear ab hb
  go_wp2_with fail
  refine (fit_any HA.out (bstep (bstep B3.out B4.out) B5.out)).mono ?_
  rintro e w6 ⟨gf, rfl, hgf, bf, hb⟩
  have M6 := Lib.hid bf
  have B6 := Lib.hid hb
  clear bf hb
  go_wp2_with fail
  refine (Encipher_c (some ⟨gk, 0, none⟩) (some ⟨gf, 0, none⟩) 16 16 (pad0 f0 n0) (pad0 f n) w6 (fun _ => ⟨gk, 0, rfl, ((K3.out.below B4.out).below B5.out).below B6.out⟩) (fun _ => ⟨gf, 0, rfl, M6.out⟩) (fun i _ => KF.out i) (fun i _ => M6.out.2.1 i)).mono ?_
  rintro e w7 ⟨gc, rfl, hgc, ac', hb⟩
  have TC := Lib.hid ac'.there
  have lc := ac'.1
  have B7 := Lib.hid hb
  clear ac' hb M6
  have B47 := Lib.hid (bstep (bstep B5.out B6.out) B7.out)
  have BW7 := Lib.hid (bstep (bstep B3.out B4.out) B47.out)
  have QA7 := Lib.hid (QA.out.below B47.out)
  have QB7 := Lib.hid (QB.out.below (bstep B6.out B7.out))
  have X7 := Lib.hid ((X3.out.below B4.out).below B47.out)
  have K7 := Lib.hid ((K3.out.below B4.out).below B47.out)
  have Y7 : Hid (w7.cell? ⟨g, n, none⟩ = some (.int .u8 71)) := Lib.hid (((bstep B4.out B47.out).cell (p := ⟨g, n, none⟩) hgl).trans Y3.out)
  have TA7 := Lib.hid (there_below TA.out la B47.out)
  have s4 := B4.out.size
  have s5 := B5.out.size
  have s6 := B6.out.size
  have s7 := B7.out.size
  have sw : w.heap.size ≤ w3.heap.size := B3.out.size
  have ca := conv_bs QA7.out 16
  have cb := conv_bs QB7.out 16
  have SBE : Hid (∃ SB, SB = bs8 (bl (tg (kW (pad0 f0 n0)) f n) 16)) := ⟨_, rfl⟩
  obtain ⟨SB, hSB⟩ := SBE.out
  obtain ⟨SM, hSM⟩ : ∃ SM, SM = bs8 (bl f n) := ⟨_, rfl⟩
  obtain ⟨SK, hSK⟩ : ∃ SK, SK = bs8 (bl (pad0 f0 n0) 16) := ⟨_, rfl⟩
  rw [← hSB] at ca cb
  have HSB := Lib.hid hSB
  have HSM := Lib.hid hSM
  have HSK := Lib.hid hSK
  have B37 := Lib.hid (bstep B4.out B47.out)
  clear hSB hSM hSK SBE B3 B4 B5 B6 B7 X3 Y3 K3 QA QA7 QB TA
  go_wp2_with fail
  go_loopw [15] (fun i wr => ∃ k : Nat, k ≤ 16 ∧ i = .int .i64 k ∧ wr.there ga 0 16 ∧ wr.there gc 0 16 ∧ Bs wr gb 0 16 (tg (kW (pad0 f0 n0)) f n) ∧ Bs wr g 0 n f ∧ Bs wr gk 0 16 (pad0 f0 n0) ∧ wr.cell? ⟨g, n, none⟩ = some (.int .u8 71) ∧ Below w3.heap.size w3 wr ∧ Below w.heap.size w wr) (fun i _ => 16 - (intOf i).toNat)
  case atStart => exact ⟨0, by omega, rfl, TA7.out, TC.out, QB7.out, X7.out, K7.out, Y7.out, B37.out, BW7.out⟩
  case round =>
    clear TA7 TC QB7 X7 K7 Y7 B37 BW7 ca cb
    obtain ⟨k, hk, rfl, ta, tc, qb, xg, kg, yg, b3r, hb⟩ := hrel
    rename World => wr
    have QB := Lib.hid qb
    have XG := Lib.hid xg
    have KG := Lib.hid kg
    have YG := Lib.hid yg
    have HB := Lib.hid hb
    have B3R := Lib.hid b3r
    by_cases c : k < 16
    · have e0 : decide ((k : Int) < 16) = true := by rw [decide_eq_true_iff]; omega
      have TA := Lib.hid ta
      have TC := Lib.hid tc
      obtain ⟨a1, a2⟩ := ta k c
      obtain ⟨d1, d2⟩ := tc k c
      obtain ⟨u1, a1⟩ := Option.isSome_iff_exists.1 a1
      obtain ⟨u2, d1⟩ := Option.isSome_iff_exists.1 d1
      rw [Nat.zero_add] at a1 a2 d1 d2
      have x1 : ¬ ga = gc := by omega
      have x2 : ¬ gc = ga := by omega
      have c0 : (0 : Int) ≤ (k : Int) := by omega
      have c1 : (k : Int) < 16 := by omega
      have Y2 : Hid (((wr.setCell ⟨ga, k, none⟩ (.int .u8 9)).setCell ⟨gc, k, none⟩ (.int .u8 9)).cell? ⟨g, n, none⟩ = some (.int .u8 71)) := Lib.hid (by
        rw [World.cell?_setCell_other _ _ _ _ (fun q => by have := congrArg Addr.block q; simp at this; omega), World.cell?_setCell_other _ _ _ _ (fun q => by have := congrArg Addr.block q; simp at this; omega)]
        exact yg)
      clear ta tc qb xg kg yg b3r hb
      go_wp2_with fail
      go_roundw
      case rel => exact ⟨k + 1, by omega, by go_num, there_set (there_set TA.out _ _ _) _ _ _, there_set (there_set TC.out _ _ _) _ _ _, bs_other (bs_other QB.out (by omega) _ _) (by omega) _ _, bs_other (bs_other XG.out (by omega) _ _) (by omega) _ _, bs_other (bs_other KG.out (by omega) _ _) (by omega) _ _, Y2.out, (B3R.out.setCell (by show w3.heap.size ≤ ga; omega) _).setCell (by show w3.heap.size ≤ gc; omega) _, (HB.out.setCell (by show w.heap.size ≤ ga; omega) _).setCell (by show w.heap.size ≤ gc; omega) _⟩
      case measure => simp [intOf]; omega
    · have e0 : decide ((k : Int) < 16) = false := by rw [decide_eq_false_iff_not]; omega
      clear ta tc qb xg kg yg b3r hb
      have KP : Hid (∀ w', Below wr.heap.size wr w' → ((convert 22 9 (.slice (some ⟨gb, 0, none⟩) 16 16)).run Try.prog w' = .ok (.string SB) w') ∧ ((convert 22 9 (.slice (some ⟨g, 0, none⟩) n cx)).run Try.prog w' = .ok (.string SM) w') ∧ ((convert 22 9 (.slice a n cap)).run Try.prog w' = .ok (.string SM) w') ∧ (w'.cell? ⟨g, n, none⟩ = some (.int .u8 71)) ∧ ((convert 22 9 (.slice (some ⟨gk, 0, none⟩) 16 16)).run Try.prog w' = .ok (.string SK) w') ∧ Below wr.heap.size wr w') := Lib.hid (fun w' d =>
        ⟨by rw [HSB.out]; exact conv_bs (QB.out.below d) 16, by rw [HSM.out]; exact conv_bs (XG.out.below d) cx, by rw [HSM.out]; exact HA.out.conv (bstep HB.out d), (d.cell (p := ⟨g, n, none⟩) XG.out.1).trans YG.out, by rw [HSK.out]; exact conv_bs (KG.out.below d) 16, d⟩)
      have KD := Lib.hid (KP.out _ (bdrew1 wr.heap.size wr))
      have KC := Lib.hid (fun w1 w2 (d : Below wr.heap.size wr w1) (d2 : Below w1.heap.size w1 w2) => KP.out w2 (bstep d d2))
      have FT := Lib.hid (fun w' (d : Below wr.heap.size wr w') => fit_any H0.out (bstep HB.out d))
      have CF := Lib.hid (fun w' g (B : Bs w' g 0 16 (pad0 f0 n0)) => (by rw [HSK.out]; exact conv_bs B 16 : (convert 22 9 (.slice (some ⟨g, 0, none⟩) 16 16)).run Try.prog w' = .ok (.string SK) w'))
      have n1' : (n : Int) < (n : Int) + 1 := by omega
      go_wp2_with fail
      refine wp_region_noPanic ?_
      refine wp_region_held_drew (S := fun w' => ((convert 22 9 (.slice (some ⟨gb, 0, none⟩) 16 16)).run Try.prog w' = .ok (.string SB) w') ∧ ((convert 22 9 (.slice (some ⟨g, 0, none⟩) n cx)).run Try.prog w' = .ok (.string SM) w') ∧ ((convert 22 9 (.slice a n cap)).run Try.prog w' = .ok (.string SM) w') ∧ (w'.cell? ⟨g, n, none⟩ = some (.int .u8 71)) ∧ ((convert 22 9 (.slice (some ⟨gk, 0, none⟩) 16 16)).run Try.prog w' = .ok (.string SK) w') ∧ Below wr.heap.size wr w') (by kernel_rfl) KD.out (fun hHeld => ?_)
      refine wpAnyH_take (i := 0) (v := ?_) rfl (by kernel_rfl) (by kernel_rfl) (by kernel_rfl) (fun _ _ _ h => h) (Or.inl ⟨by rfl, ?_⟩) hHeld ?_
      rotate_left
      · ((intro w hSw; (try dsimp only at hSw); go_simp); try with_reducible rfl)
      (try simp only [List.getElem_toArray, List.getElem_cons_succ, List.getElem_cons_zero, Act.put, List.setIfInBounds_toArray, List.set_cons_zero, List.set_cons_succ])
      refine wpAnyH_take (i := 1) (v := ?_) rfl (by kernel_rfl) (by kernel_rfl) (by kernel_rfl) (fun _ _ _ h => h) (Or.inl ⟨by rfl, ?_⟩) hHeld ?_
      rotate_left
      · ((intro w hSw; (try dsimp only at hSw); go_simp); try with_reducible rfl)
      (try simp only [List.getElem_toArray, List.getElem_cons_succ, List.getElem_cons_zero, Act.put, List.setIfInBounds_toArray, List.set_cons_zero, List.set_cons_succ])
      refine wpAnyH_take (i := 2) (v := ?_) rfl (by kernel_rfl) (by kernel_rfl) (by kernel_rfl) (fun _ _ _ h => h) (Or.inl ⟨by rfl, ?_⟩) hHeld ?_
      rotate_left
      · ((intro w hSw; (try dsimp only at hSw); go_simp); try with_reducible rfl)
      (try simp only [List.getElem_toArray, List.getElem_cons_succ, List.getElem_cons_zero, Act.put, List.setIfInBounds_toArray, List.set_cons_zero, List.set_cons_succ])
      refine wpAnyH_take (i := 3) (v := ?_) rfl (by kernel_rfl) (by kernel_rfl) (by kernel_rfl) (fun _ _ _ h => h) (Or.inl ⟨by rfl, ?_⟩) hHeld ?_
      rotate_left
      · ((intro w hSw; (try dsimp only at hSw); go_simp); try with_reducible rfl)
      (try simp only [List.getElem_toArray, List.getElem_cons_succ, List.getElem_cons_zero, Act.put, List.setIfInBounds_toArray, List.set_cons_zero, List.set_cons_succ])
      refine wpAnyH_take (i := 4) (v := ?_) rfl (by kernel_rfl) (by kernel_rfl) (by kernel_rfl) (fun _ _ _ h => h) (Or.inl ⟨by rfl, ?_⟩) hHeld ?_
      rotate_left
      · ((intro w hSw; (try dsimp only at hSw); go_simp); try with_reducible rfl)
      (try simp only [List.getElem_toArray, List.getElem_cons_succ, List.getElem_cons_zero, Act.put, List.setIfInBounds_toArray, List.set_cons_zero, List.set_cons_succ])
      refine wpAnyH_take (i := 5) (v := ?_) rfl (by kernel_rfl) (by kernel_rfl) (by kernel_rfl) (fun _ _ _ h => h) (Or.inl ⟨by rfl, ?_⟩) hHeld ?_
      rotate_left
      · ((intro w hSw; (try dsimp only at hSw); go_simp); try with_reducible rfl)
      (try simp only [List.getElem_toArray, List.getElem_cons_succ, List.getElem_cons_zero, Act.put, List.setIfInBounds_toArray, List.set_cons_zero, List.set_cons_succ])
      refine wpAnyH_take (i := 6) (v := ?_) rfl (by kernel_rfl) (by kernel_rfl) (by kernel_rfl) (fun _ _ _ h => h) (Or.inl ⟨by rfl, ?_⟩) hHeld ?_
      rotate_left
      · ((intro w hSw; (try dsimp only at hSw); go_simp); try with_reducible rfl)
      (try simp only [List.getElem_toArray, List.getElem_cons_succ, List.getElem_cons_zero, Act.put, List.setIfInBounds_toArray, List.set_cons_zero, List.set_cons_succ])
      refine wpAnyH_take (i := 7) (v := ?_) rfl (by kernel_rfl) (by kernel_rfl) (by kernel_rfl) (fun _ _ _ h => h) (Or.inl ⟨by rfl, ?_⟩) hHeld ?_
      rotate_left
      · ((intro w hSw; (try dsimp only at hSw); go_simp); try with_reducible rfl)
      (try simp only [List.getElem_toArray, List.getElem_cons_succ, List.getElem_cons_zero, Act.put, List.setIfInBounds_toArray, List.set_cons_zero, List.set_cons_succ])
      refine wpAnyH_take (i := 8) (v := ?_) rfl (by kernel_rfl) (by kernel_rfl) (by kernel_rfl) (fun _ _ _ h => h) (Or.inl ⟨by rfl, ?_⟩) hHeld ?_
      rotate_left
      · ((intro w hSw; (try dsimp only at hSw); go_simp); try with_reducible rfl)
      (try simp only [List.getElem_toArray, List.getElem_cons_succ, List.getElem_cons_zero, Act.put, List.setIfInBounds_toArray, List.set_cons_zero, List.set_cons_succ])
      refine wpAnyH_take (i := 9) (v := ?_) rfl (by kernel_rfl) (by kernel_rfl) (by kernel_rfl) (fun _ _ _ h => h) (Or.inl ⟨by rfl, ?_⟩) hHeld ?_
      rotate_left
      · ((intro w hSw; (try dsimp only at hSw); go_simp); try with_reducible rfl)
      (try simp only [List.getElem_toArray, List.getElem_cons_succ, List.getElem_cons_zero, Act.put, List.setIfInBounds_toArray, List.set_cons_zero, List.set_cons_succ])
      refine wpAnyH_take (i := 10) (v := ?_) rfl (by kernel_rfl) (by kernel_rfl) (by kernel_rfl) (fun _ _ _ h => h) (Or.inl ⟨by rfl, ?_⟩) hHeld ?_
      rotate_left
      · ((intro w hSw; (try dsimp only at hSw); go_simp); try with_reducible rfl)
      (try simp only [List.getElem_toArray, List.getElem_cons_succ, List.getElem_cons_zero, Act.put, List.setIfInBounds_toArray, List.set_cons_zero, List.set_cons_succ])
      refine wpAnyH_take (i := 11) (v := ?_) rfl (by kernel_rfl) (by kernel_rfl) (by kernel_rfl) (fun _ _ _ h => h) (Or.inl ⟨by rfl, ?_⟩) hHeld ?_
      rotate_left
      · ((intro w hSw; (try dsimp only at hSw); go_simp); try with_reducible rfl)
      (try simp only [List.getElem_toArray, List.getElem_cons_succ, List.getElem_cons_zero, Act.put, List.setIfInBounds_toArray, List.set_cons_zero, List.set_cons_succ])
      refine wpAnyH_take (i := 12) (v := ?_) rfl (by kernel_rfl) (by kernel_rfl) (by kernel_rfl) (fun _ _ _ h => h) (Or.inl ⟨by rfl, ?_⟩) hHeld ?_
      rotate_left
      · ((intro w hSw; (try dsimp only at hSw); go_simp); try with_reducible rfl)
      (try simp only [List.getElem_toArray, List.getElem_cons_succ, List.getElem_cons_zero, Act.put, List.setIfInBounds_toArray, List.set_cons_zero, List.set_cons_succ])
      refine wpAnyH_take (i := 13) (v := ?_) rfl (by kernel_rfl) (by kernel_rfl) (by kernel_rfl) (fun _ _ _ h => h) (Or.inl ⟨by rfl, ?_⟩) hHeld ?_
      rotate_left
      · ((intro w hSw; (try dsimp only at hSw); go_simp); try with_reducible rfl)
      (try simp only [List.getElem_toArray, List.getElem_cons_succ, List.getElem_cons_zero, Act.put, List.setIfInBounds_toArray, List.set_cons_zero, List.set_cons_succ])
      refine wpAnyH_take (i := 14) (v := ?_) rfl (by kernel_rfl) (by kernel_rfl) (by kernel_rfl) (fun _ _ _ h => h) (Or.inl ⟨by rfl, ?_⟩) hHeld ?_
      rotate_left
      · ((intro w hSw; (try dsimp only at hSw); go_simp); try with_reducible rfl)
      (try simp only [List.getElem_toArray, List.getElem_cons_succ, List.getElem_cons_zero, Act.put, List.setIfInBounds_toArray, List.set_cons_zero, List.set_cons_succ])
      refine wpAnyH_take (i := 15) (v := ?_) rfl (by kernel_rfl) (by kernel_rfl) (by kernel_rfl) (fun _ _ _ h => h) (Or.inl ⟨by rfl, ?_⟩) hHeld ?_
      rotate_left
      · ((intro w hSw; (try dsimp only at hSw); go_simp); try with_reducible rfl)
      (try simp only [List.getElem_toArray, List.getElem_cons_succ, List.getElem_cons_zero, Act.put, List.setIfInBounds_toArray, List.set_cons_zero, List.set_cons_succ])
      refine wpAnyH_take (i := 16) (v := ?_) rfl (by kernel_rfl) (by kernel_rfl) (by kernel_rfl) (fun _ _ _ h => h) (Or.inl ⟨by rfl, ?_⟩) hHeld ?_
      rotate_left
      · ((intro w hSw; (try dsimp only at hSw); go_simp); try with_reducible rfl)
      (try simp only [List.getElem_toArray, List.getElem_cons_succ, List.getElem_cons_zero, Act.put, List.setIfInBounds_toArray, List.set_cons_zero, List.set_cons_succ])
      refine wpAnyH_take (i := 17) (v := ?_) rfl (by kernel_rfl) (by kernel_rfl) (by kernel_rfl) (fun _ _ _ h => h) (Or.inl ⟨by rfl, ?_⟩) hHeld ?_
      rotate_left
      · ((intro w hSw; (try dsimp only at hSw); go_simp); try with_reducible rfl)
      (try simp only [List.getElem_toArray, List.getElem_cons_succ, List.getElem_cons_zero, Act.put, List.setIfInBounds_toArray, List.set_cons_zero, List.set_cons_succ])
      refine wpAnyH_take (i := 18) (v := ?_) rfl (by kernel_rfl) (by kernel_rfl) (by kernel_rfl) (fun _ _ _ h => h) (Or.inl ⟨by rfl, ?_⟩) hHeld ?_
      rotate_left
      · ((intro w hSw; (try dsimp only at hSw); go_simp); try with_reducible rfl)
      (try simp only [List.getElem_toArray, List.getElem_cons_succ, List.getElem_cons_zero, Act.put, List.setIfInBounds_toArray, List.set_cons_zero, List.set_cons_succ])
      refine wpAnyH_take (i := 19) (v := ?_) rfl (by kernel_rfl) (by kernel_rfl) (by kernel_rfl) (fun _ _ _ h => h) (Or.inl ⟨by rfl, ?_⟩) hHeld ?_
      rotate_left
      · ((intro w hSw; (try dsimp only at hSw); go_simp); try with_reducible rfl)
      (try simp only [List.getElem_toArray, List.getElem_cons_succ, List.getElem_cons_zero, Act.put, List.setIfInBounds_toArray, List.set_cons_zero, List.set_cons_succ])
      refine wpAnyH_take (i := 20) (v := ?_) rfl (by kernel_rfl) (by kernel_rfl) (by kernel_rfl) (fun _ _ _ h => h) (Or.inl ⟨by rfl, ?_⟩) hHeld ?_
      rotate_left
      · ((intro w hSw; (try dsimp only at hSw); go_simp); try with_reducible rfl)
      (try simp only [List.getElem_toArray, List.getElem_cons_succ, List.getElem_cons_zero, Act.put, List.setIfInBounds_toArray, List.set_cons_zero, List.set_cons_succ])
      refine wpAnyH_take (i := 21) (v := ?_) rfl (by kernel_rfl) (by kernel_rfl) (by kernel_rfl) (fun _ _ _ h => h) (Or.inl ⟨by rfl, ?_⟩) hHeld ?_
      rotate_left
      · ((intro w hSw; (try dsimp only at hSw); go_simp); try with_reducible rfl)
      (try simp only [List.getElem_toArray, List.getElem_cons_succ, List.getElem_cons_zero, Act.put, List.setIfInBounds_toArray, List.set_cons_zero, List.set_cons_succ])
      refine wpAnyH_take (i := 22) (v := ?_) rfl (by kernel_rfl) (by kernel_rfl) (by kernel_rfl) (fun _ _ _ h => h) (Or.inl ⟨by rfl, ?_⟩) hHeld ?_
      rotate_left
      · ((intro w hSw; (try dsimp only at hSw); go_simp); try with_reducible rfl)
      (try simp only [List.getElem_toArray, List.getElem_cons_succ, List.getElem_cons_zero, Act.put, List.setIfInBounds_toArray, List.set_cons_zero, List.set_cons_succ])
      refine wpAnyH_ready (rs := [23]) (by kernel_rfl) (by simp) (AllReadyH.cons rfl (fun KQ hKQ => ?_) AllReadyH.nil)
      go_simp
      refine (FT.out _ hHeld.2.2.2.2.2).mono ?_
      rintro e w8 ⟨g8, rfl, hg8, b8, hb8⟩
      have c8 := CF.out _ _ b8
      replace hHeld := KC.out _ _ hHeld.2.2.2.2.2 hb8
      clear b8 hb8
      go_wp2_with fail
      refine hKQ.out _ _ hHeld (fun hH2 => ?_)
      clear hKQ KQ hHeld
      have hHeld := hH2
      clear hH2
      (try simp only [List.getElem_toArray, List.getElem_cons_succ, List.getElem_cons_zero, Act.put, List.setIfInBounds_toArray, List.set_cons_zero, List.set_cons_succ])
      refine wpAnyH_ready (rs := [24]) (by kernel_rfl) (by simp) (AllReadyH.cons rfl (fun KQ hKQ => ?_) AllReadyH.nil)
      go_simp
      refine hKQ.out _ _ hHeld (fun hH2 => ?_)
      clear hKQ KQ hHeld
      have hHeld := hH2
      clear hH2
      (try simp only [List.getElem_toArray, List.getElem_cons_succ, List.getElem_cons_zero, Act.put, List.setIfInBounds_toArray, List.set_cons_zero, List.set_cons_succ])
      refine wpAnyH_take (i := 25) (v := ?_) rfl (by kernel_rfl) (by kernel_rfl) (by kernel_rfl) (fun _ _ _ h => h) (Or.inl ⟨by rfl, ?_⟩) hHeld ?_
      rotate_left
      · ((intro w hSw; (try dsimp only at hSw); go_simp); try with_reducible rfl)
      (try simp only [List.getElem_toArray, List.getElem_cons_succ, List.getElem_cons_zero, Act.put, List.setIfInBounds_toArray, List.set_cons_zero, List.set_cons_succ])
      refine wpAnyH_take (i := 26) (v := ?_) rfl (by kernel_rfl) (by kernel_rfl) (by kernel_rfl) (fun _ _ _ h => h) (Or.inl ⟨by rfl, ?_⟩) hHeld ?_
      rotate_left
      · ((intro w hSw; (try dsimp only at hSw); go_simp); try with_reducible rfl)
      (try simp only [List.getElem_toArray, List.getElem_cons_succ, List.getElem_cons_zero, Act.put, List.setIfInBounds_toArray, List.set_cons_zero, List.set_cons_succ])
      refine wpAnyH_take (i := 27) (v := ?_) rfl (by kernel_rfl) (by kernel_rfl) (by kernel_rfl) (fun _ _ _ h => h) (Or.inl ⟨by rfl, ?_⟩) hHeld ?_
      rotate_left
      · ((intro w hSw; (try dsimp only at hSw); go_simp); try with_reducible rfl)
      (try simp only [List.getElem_toArray, List.getElem_cons_succ, List.getElem_cons_zero, Act.put, List.setIfInBounds_toArray, List.set_cons_zero, List.set_cons_succ])
      refine wpAnyH_done (by kernel_rfl) ?_ _
      refine NoPanic.normal ?_
      have FB := Lib.hid (bstep HB.out hHeld.2.2.2.2.2)
      clear hHeld c8
      go_wp2_with fail
      go_ret
      exact ⟨rfl, FB.out⟩

set_option maxRecDepth 100000 in
theorem lifted (os : Os) (started : os.Started) (H : Type) (enc : TypeId × Value → H) :
    ReturnsInHanded {} Try.checked os 7 .any (Rows.aesKeepSpec.pre6 enc Try.prog Try.f7 Rows.aesKeepRow.domain false) (Rows.aesKeepSpec.post enc Try.prog Try.f7 false true false false) := by
  refine returnsInHanded_of_change_sized (C := Try.checked) own started (by kernel_rfl) Try.func7
    (ChangeSpec.witness6 (enc := enc) (C := Try.checked) false ⟨#[], #[.slice none 0 0, .slice none 0 0], []⟩ 8 (by kernel_rfl) (by kernel_rfl) (by kernel_rfl) (by kernel_rfl)) ?_
  intro W base args ds gs before hval0 hW hcnd hsz0 _
  have hsz : (DataW.weightsEach Try.prog (Try.f7.params.toList ++ Rows.aesKeepSpec.plain.varTypes Try.prog) (ds ++ gs)).all (· ≤ reachBytes) = true := hsz0
  have hval : ∀ (j : Nat) t v, Try.f7.params[j]? = some t → args[j]? = some v → Value.okWide Try.prog W .any base t v := hval0
  have hW' := hW
  obtain ⟨p, q, hA0, hV, rfl, hfz, hnd⟩ := hW
  have hA : DataW.TrodAll enc Try.prog W 0 (fun _ => true) true Try.f7.params.toList args.toList ds p := hA0
  rw [Try.params7] at hA hval hsz
  obtain ⟨v0, vs0, d0, ds0, p0, q0, hargs, rfl, rfl, h0, r0⟩ := trodAll_cons hA
  obtain ⟨v1, vs1, d1, ds1, p1, q1, rfl, rfl, rfl, h1, r1⟩ := trodAll_cons r0
  obtain ⟨rfl, rfl, rfl⟩ := trodAll_nil r1
  obtain rfl : args = #[v0, v1] := by cases args; simp_all
  obtain ⟨rfl, rfl⟩ := trodVars_none hV
  have h0k := h0
  have hlt0 : ∀ x ∈ p0, x.block < W.heap.size := fun x hx => by have := hW'.lt x (by simp [hx]); simpa using this
  have hb0 : ∀ es sp, d0 = .slice es sp → (es.length + sp.length) * Try.prog.bytesOf 5 ≤ reachBytes := by
    intro es sp he
    exact sized_slice hsz (j := 0) (t := 22) (e := 5) rfl (by rw [he]; rfl) Try.underlying22
  have h1k := h1
  have hlt1 : ∀ x ∈ p1, x.block < W.heap.size := fun x hx => by have := hW'.lt x (by simp [hx]); simpa using this
  have hb1 : ∀ es sp, d1 = .slice es sp → (es.length + sp.length) * Try.prog.bytesOf 5 ≤ reachBytes := by
    intro es sp he
    exact sized_slice hsz (j := 1) (t := 22) (e := 5) rfl (by rw [he]; rfl) Try.underlying22
  obtain ⟨n0, f0, g0⟩ := open_bytes (hval 0 22 v0 rfl rfl) h0 hb0
  obtain ⟨n1, f1, g1⟩ := open_bytes (hval 1 22 v1 rfl rfl) h1 hb1
  clear hA0 hval0
  simp only [List.append_nil] at hW'
  refine (walk v0 n0 f0 v1 n1 f1 W g0 g1).mono fun e W' ⟨he, hg⟩ => ?_
  subst he
  exact ⟨_, rfl, _, _, _, [], _, [], hW', trodAll_cons_mk (shut_bool Try.underlying4 _) trodAll_mk0,
    (trodAll_cons_mk (Below.trod laidOut (by kernel_rfl) (of_decide_eq_true (by kernel_rfl)) h0k hg hlt0) (trodAll_cons_mk (Below.trod laidOut (by kernel_rfl) (of_decide_eq_true (by kernel_rfl)) h1k hg hlt1) trodAll_mk0)), rfl, hg.frame _, fun h => nomatch h⟩

theorem over : Rows.aesKeepRow.holds Try.pinned (OpenSpec.ofChange Rows.aesKeepSpec) :=
  OpenClaim.holds_of_wide 7 Try.f7 rfl rfl rfl rfl rfl rfl rfl ⟨rfl, rfl, rfl, rfl, rfl⟩ rfl rfl rfl rfl rfl (by kernel_rfl) Try.func7 (by kernel_rfl)
    (of_decide_eq_true (by kernel_rfl)) (by unfold Func.isWrapper; first | (rw [if_pos (by decide +kernel)]; kernel_rfl) | (rw [if_neg (by decide +kernel)]; exact ⟨rfl, rfl⟩))
    (fun os started H enc _ => lifted os started H enc)

theorem proved : Rows.AesKeepSaid :=
  over
end Go.Proofs.Ytfefkakdhaecpaa.aesKeep
