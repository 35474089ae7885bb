/-
  The contract of the document's Decode.
  Conditions: none.
-/
import Derived.Deep.RegionHeld3
import Derived.Test.YteigmnbbfmcihaaCtI
namespace Go.Proofs.Yteigmnbbfmcihaa.Ct
open Go.RowKit Go.ChangeShapes Go.WideShapes Go.ChangeAt Go.Joins By
set_option linter.unusedVariables false
set_option linter.unusedSimpArgs false

theorem rdec_short {w : World} (a : Option Addr) (n cap : Nat) (f : Nat → Nat) (hn : n ≤ 140737488351232) (h : n < 12 ∨ n % 4 ≠ 0) : Calls Try.prog 12 #[.slice a n cap] w fun e w' => PDec f n w e w' := by
  have n0 : (0 : Int) ≤ (n : Int) := by omega
  have n1 : (n : Int) ≤ 140737488351232 := by omega
  have q : (n : Int).tmod 4 = (n : Int) % 4 := Int.tmod_eq_emod_of_nonneg (by omega)
  have T := Lib.hid h
  go_enter Try.func12, Try.ntmps12
  go_upto_region 2 with fail
  have N := Lib.hid (Blk.new' w #[.int .i64 0, .bool false, .bool false, .bool false, .int .i64 0, .int .i64 0, .int .i64 0, .int .i64 0, .int .i64 0, .slice none 0 0] 24)
  have B0 := Lib.hid (balloc (brefl w) (.cells #[.int .i64 0, .bool false, .bool false, .bool false, .int .i64 0, .int .i64 0, .int .i64 0, .int .i64 0, .int .i64 0, .slice none 0 0] 24))
  have NZ : Hid (Blk ((w.alloc (.cells #[.int .i64 0, .bool false, .bool false, .bool false, .int .i64 0, .int .i64 0, .int .i64 0, .int .i64 0, .int .i64 0, .slice none 0 0] 24)).alloc (.cells #[.int .i64 0, .bool false, .bool false, .bool false, .int .i64 0, .int .i64 0, .int .i64 0, .int .i64 0, .int .i64 0, .slice none 0 0] 24)) (w.heap.size + 1) (fvs fr0 (.slice none 0 0))) := Lib.hid (by have := Blk.new' (w.alloc (.cells #[.int .i64 0, .bool false, .bool false, .bool false, .int .i64 0, .int .i64 0, .int .i64 0, .int .i64 0, .int .i64 0, .slice none 0 0] 24)) #[.int .i64 0, .bool false, .bool false, .bool false, .int .i64 0, .int .i64 0, .int .i64 0, .int .i64 0, .int .i64 0, .slice none 0 0] 24; rwa [show (w.alloc (.cells #[.int .i64 0, .bool false, .bool false, .bool false, .int .i64 0, .int .i64 0, .int .i64 0, .int .i64 0, .int .i64 0, .slice none 0 0] 24)).heap.size = w.heap.size + 1 by simp] at this)
  have NR := Lib.hid (N.out.below (balloc (brefl _) (.cells #[.int .i64 0, .bool false, .bool false, .bool false, .int .i64 0, .int .i64 0, .int .i64 0, .int .i64 0, .int .i64 0, .slice none 0 0] 24)))
  have BB := Lib.hid (balloc B0.out (.cells #[.int .i64 0, .bool false, .bool false, .bool false, .int .i64 0, .int .i64 0, .int .i64 0, .int .i64 0, .int .i64 0, .slice none 0 0] 24))
  generalize (w.alloc (.cells #[.int .i64 0, .bool false, .bool false, .bool false, .int .i64 0, .int .i64 0, .int .i64 0, .int .i64 0, .int .i64 0, .slice none 0 0] 24)).alloc (.cells #[.int .i64 0, .bool false, .bool false, .bool false, .int .i64 0, .int .i64 0, .int .i64 0, .int .i64 0, .int .i64 0, .slice none 0 0] 24) = w1 at *
  clear N B0
  by_cases c : n < 12
  · have e1 : decide ((n : Int) < 12) = true := decide_eq_true (by omega)
    clear h
    have DE : Hid (derr f n = 20) := Lib.hid (by unfold derr; rw [if_pos (by exact T.out)])
    have NF := Lib.hid (NR.out.over (fvs fr0 (.slice none 0 0)) rfl)
    have BF := Lib.hid (below_over (Nat.le_refl _) (fvs fr0 (.slice none 0 0)) 0 BB.out)
    go_upto_region 3 with fail
    go_wp2_with (first | (refine wpList_load_mid rfl 24 _ rfl _ 0 rfl (fvs fr0 (.slice none 0 0)) _ NZ.out.range Try.underlying24 rfl (by rw [fvs_len]; exact info_fr) ?_) | (refine wpList_store_mid rfl 24 _ _ rfl _ 0 (fvs fr0 (.slice none 0 0)).toArray rfl rfl NR.out.there info_fr (all_oneCell_toArray (fvs_one _ _ rfl)) ?_))
    exact bodyPost_ret (v := .tuple #[.agg (fvs fr0 (.slice none 0 0)).toArray, .int .i64 20]) (results_cell_slot rfl _ _ w.heap.size _ _ _ rfl rfl NF.out.range Try.underlying24 rfl (by rw [fvs_len]; exact info_fr)) rfl (pdec_err DE.out (by decide) BF.out)
  · have e1 : decide ((n : Int) < 12) = false := decide_eq_false (by omega)
    have e2 : ((n : Int) % 4 != 0) = true := by simp; omega
    clear h
    have DE : Hid (derr f n = 20) := Lib.hid (by unfold derr; rw [if_pos (by exact T.out)])
    have NF := Lib.hid (NR.out.over (fvs fr0 (.slice none 0 0)) rfl)
    have BF := Lib.hid (below_over (Nat.le_refl _) (fvs fr0 (.slice none 0 0)) 0 BB.out)
    go_upto_region 3 with fail
    go_wp2_with (first | (refine wpList_load_mid rfl 24 _ rfl _ 0 rfl (fvs fr0 (.slice none 0 0)) _ NZ.out.range Try.underlying24 rfl (by rw [fvs_len]; exact info_fr) ?_) | (refine wpList_store_mid rfl 24 _ _ rfl _ 0 (fvs fr0 (.slice none 0 0)).toArray rfl rfl NR.out.there info_fr (all_oneCell_toArray (fvs_one _ _ rfl)) ?_))
    exact bodyPost_ret (v := .tuple #[.agg (fvs fr0 (.slice none 0 0)).toArray, .int .i64 20]) (results_cell_slot rfl _ _ w.heap.size _ _ _ rfl rfl NF.out.range Try.underlying24 rfl (by rw [fvs_len]; exact info_fr)) rfl (pdec_err DE.out (by decide) BF.out)
set_option maxRecDepth 100000 in
set_option maxHeartbeats 16000000 in
theorem rdec_long {w : World} {b o n cap : Nat} {f : Nat → Nat} (H0 : Bs w b o n f) (hc : n ≤ cap) (hc2 : cap ≤ 9223372036854775807) (hn : n ≤ 140737488351232) (h12 : 12 ≤ n) (h4 : n % 4 = 0) : Calls Try.prog 12 #[.slice (some ⟨b, o, none⟩) n cap] w fun e w' => PDec f n w e w' := by
  have H := Lib.hid H0
  have n0 : (12 : Int) ≤ (n : Int) := by omega
  have n1 : (n : Int) ≤ 140737488351232 := by omega
  have q : (n : Int).tmod 4 = (n : Int) % 4 := Int.tmod_eq_emod_of_nonneg (by omega)
  have e1 : decide ((n : Int) < 12) = false := decide_eq_false (by omega)
  have e2 : ((n : Int) % 4 != 0) = false := by simp; omega
  have T0 : Hid (¬ (n < 12 ∨ n % 4 ≠ 0)) := Lib.hid (by omega)
  have q1 : (n : Int) ≤ (cap : Int) := by omega
  have q2 : (cap : Int) ≤ 9223372036854775807 := by omega
  have x0 := H0.2.1 0
  clear H0
  go_enter Try.func12, Try.ntmps12
  go_upto_region 2 with fail
  have N := Lib.hid (Blk.new' w #[.int .i64 0, .bool false, .bool false, .bool false, .int .i64 0, .int .i64 0, .int .i64 0, .int .i64 0, .int .i64 0, .slice none 0 0] 24)
  have B0 := Lib.hid (balloc (brefl w) (.cells #[.int .i64 0, .bool false, .bool false, .bool false, .int .i64 0, .int .i64 0, .int .i64 0, .int .i64 0, .int .i64 0, .slice none 0 0] 24))
  have NZ : Hid (Blk ((w.alloc (.cells #[.int .i64 0, .bool false, .bool false, .bool false, .int .i64 0, .int .i64 0, .int .i64 0, .int .i64 0, .int .i64 0, .slice none 0 0] 24)).alloc (.cells #[.int .i64 0, .bool false, .bool false, .bool false, .int .i64 0, .int .i64 0, .int .i64 0, .int .i64 0, .int .i64 0, .slice none 0 0] 24)) (w.heap.size + 1) (fvs fr0 (.slice none 0 0))) := Lib.hid (by have := Blk.new' (w.alloc (.cells #[.int .i64 0, .bool false, .bool false, .bool false, .int .i64 0, .int .i64 0, .int .i64 0, .int .i64 0, .int .i64 0, .slice none 0 0] 24)) #[.int .i64 0, .bool false, .bool false, .bool false, .int .i64 0, .int .i64 0, .int .i64 0, .int .i64 0, .int .i64 0, .slice none 0 0] 24; rwa [show (w.alloc (.cells #[.int .i64 0, .bool false, .bool false, .bool false, .int .i64 0, .int .i64 0, .int .i64 0, .int .i64 0, .int .i64 0, .slice none 0 0] 24)).heap.size = w.heap.size + 1 by simp] at this)
  have NR := Lib.hid (N.out.below (balloc (brefl _) (.cells #[.int .i64 0, .bool false, .bool false, .bool false, .int .i64 0, .int .i64 0, .int .i64 0, .int .i64 0, .int .i64 0, .slice none 0 0] 24)))
  have BB := Lib.hid (balloc B0.out (.cells #[.int .i64 0, .bool false, .bool false, .bool false, .int .i64 0, .int .i64 0, .int .i64 0, .int .i64 0, .int .i64 0, .slice none 0 0] 24))
  generalize (w.alloc (.cells #[.int .i64 0, .bool false, .bool false, .bool false, .int .i64 0, .int .i64 0, .int .i64 0, .int .i64 0, .int .i64 0, .slice none 0 0] 24)).alloc (.cells #[.int .i64 0, .bool false, .bool false, .bool false, .int .i64 0, .int .i64 0, .int .i64 0, .int .i64 0, .int .i64 0, .slice none 0 0] 24) = w1 at *
  clear N B0
  have c0 : w1.cell? ⟨b, o, none⟩ = some (.int .u8 (f 0 : Int)) := by have := (H.out.below BB.out).2.2 0 (by omega); rwa [Nat.add_zero] at this
  have d0 : (0 : Int) ≤ (f 0 : Int) := by omega
  have d1 : (f 0 : Int) < 256 := by omega
  have p1 : (f 0 : Int).tmod 8 = (f 0 : Int) % 8 := Int.tmod_eq_emod_of_nonneg (by omega)
  have p2 : IntKind.u8.wrap ((f 0 : Int) % 8) = (f 0 : Int) % 8 := by rw [u8_wrap]; omega
  by_cases a2 : f 0 % 8 = 6
  case neg =>
    have e3 : ((f 0 : Int) % 8 != 6) = true := by simp; omega
    have T1 := Lib.hid a2
    clear a2
    have DE : Hid (derr f n = 24) := Lib.hid (by unfold derr; rw [if_neg (by first | exact T0.out | omega), if_pos (by exact T1.out)])
    have NF := Lib.hid (NR.out.over (fvs fr0 (.slice none 0 0)) rfl)
    have BF := Lib.hid (below_over (Nat.le_refl _) (fvs fr0 (.slice none 0 0)) 0 BB.out)
    go_upto_region 5 with fail
    go_wp2_with (first | (refine wpList_load_mid rfl 24 _ rfl _ 0 rfl (fvs fr0 (.slice none 0 0)) _ NZ.out.range Try.underlying24 rfl (by rw [fvs_len]; exact info_fr) ?_) | (refine wpList_store_mid rfl 24 _ _ rfl _ 0 (fvs fr0 (.slice none 0 0)).toArray rfl rfl NR.out.there info_fr (all_oneCell_toArray (fvs_one _ _ rfl)) ?_))
    exact bodyPost_ret (v := .tuple #[.agg (fvs fr0 (.slice none 0 0)).toArray, .int .i64 24]) (results_cell_slot rfl _ _ w.heap.size _ _ _ rfl rfl NF.out.range Try.underlying24 rfl (by rw [fvs_len]; exact info_fr)) rfl (pdec_err DE.out (by decide) BF.out)
  have e3 : ((f 0 : Int) % 8 != 6) = false := by simp; omega
  have T1 : Hid (¬ f 0 % 8 ≠ 6) := Lib.hid (by omega)
  clear a2
  have p3 : (f 0 : Int).tdiv 8 = (f 0 : Int) / 8 := Int.tdiv_eq_ediv_of_nonneg (by omega)
  have p4 : ((f 0 : Int) / 8).tmod 8 = (f 0 : Int) / 8 % 8 := Int.tmod_eq_emod_of_nonneg (by omega)
  by_cases a3 : 1 ≤ f 0 / 8 % 8 ∧ f 0 / 8 % 8 ≤ 4
  case neg =>
    have T2 := Lib.hid a3
    by_cases a30 : f 0 / 8 % 8 = 0
    · have e4 : ((f 0 : Int) / 8 % 8 == 0) = true := by simp; omega
      clear a3 a30
      have DE : Hid (derr f n = 22) := Lib.hid (by unfold derr; rw [if_neg (by first | exact T0.out | omega), if_neg (by first | exact T1.out | omega), if_pos (by exact T2.out)])
      have NF := Lib.hid (NR.out.over (fvs fr0 (.slice none 0 0)) rfl)
      have BF := Lib.hid (below_over (Nat.le_refl _) (fvs fr0 (.slice none 0 0)) 0 BB.out)
      go_upto_region 8 with fail
      go_wp2_with (first | (refine wpList_load_mid rfl 24 _ rfl _ 0 rfl (fvs fr0 (.slice none 0 0)) _ NZ.out.range Try.underlying24 rfl (by rw [fvs_len]; exact info_fr) ?_) | (refine wpList_store_mid rfl 24 _ _ rfl _ 0 (fvs fr0 (.slice none 0 0)).toArray rfl rfl NR.out.there info_fr (all_oneCell_toArray (fvs_one _ _ rfl)) ?_))
      exact bodyPost_ret (v := .tuple #[.agg (fvs fr0 (.slice none 0 0)).toArray, .int .i64 22]) (results_cell_slot rfl _ _ w.heap.size _ _ _ rfl rfl NF.out.range Try.underlying24 rfl (by rw [fvs_len]; exact info_fr)) rfl (pdec_err DE.out (by decide) BF.out)
    · have e4 : ((f 0 : Int) / 8 % 8 == 0) = false := by simp; omega
      have e5 : decide ((4 : Int) < (f 0 : Int) / 8 % 8) = true := decide_eq_true (by omega)
      clear a3 a30
      have DE : Hid (derr f n = 22) := Lib.hid (by unfold derr; rw [if_neg (by first | exact T0.out | omega), if_neg (by first | exact T1.out | omega), if_pos (by exact T2.out)])
      have NF := Lib.hid (NR.out.over (fvs fr0 (.slice none 0 0)) rfl)
      have BF := Lib.hid (below_over (Nat.le_refl _) (fvs fr0 (.slice none 0 0)) 0 BB.out)
      go_upto_region 8 with fail
      go_wp2_with (first | (refine wpList_load_mid rfl 24 _ rfl _ 0 rfl (fvs fr0 (.slice none 0 0)) _ NZ.out.range Try.underlying24 rfl (by rw [fvs_len]; exact info_fr) ?_) | (refine wpList_store_mid rfl 24 _ _ rfl _ 0 (fvs fr0 (.slice none 0 0)).toArray rfl rfl NR.out.there info_fr (all_oneCell_toArray (fvs_one _ _ rfl)) ?_))
      exact bodyPost_ret (v := .tuple #[.agg (fvs fr0 (.slice none 0 0)).toArray, .int .i64 22]) (results_cell_slot rfl _ _ w.heap.size _ _ _ rfl rfl NF.out.range Try.underlying24 rfl (by rw [fvs_len]; exact info_fr)) rfl (pdec_err DE.out (by decide) BF.out)
  have e4 : ((f 0 : Int) / 8 % 8 == 0) = false := by simp; omega
  have e5 : decide ((4 : Int) < (f 0 : Int) / 8 % 8) = false := decide_eq_false (by omega)
  have T2 : Hid (¬ ¬ (1 ≤ f 0 / 8 % 8 ∧ f 0 / 8 % 8 ≤ 4)) := Lib.hid (by omega)
  clear a3
  have HL := Lib.hid (two_c cap (H.out.below BB.out) 10 (by omega) hn)
  go_upto_region 9 with fail
  clear e4 e5 p1 p2 p3 p4 e3 c0
  go_wp2_with fail
  refine HL.out.mono ?_
  rintro e w2 ⟨rfl, m9, rfl⟩
  replace NZ := Lib.hid (NZ.out.below (bdrew (brefl w1) m9))
  replace NR := Lib.hid (NR.out.below (bdrew (brefl w1) m9))
  replace BB := Lib.hid (bdrew BB.out m9)
  clear HL
  generalize w1.drewN m9 = w2 at *
  have c0 : w2.cell? ⟨b, o, none⟩ = some (.int .u8 (f 0 : Int)) := by have := (H.out.below BB.out).2.2 0 (by omega); rwa [Nat.add_zero] at this
  have tw9 : tw f 10 ≤ 65535 := by have := H.out.2.1 10; have := H.out.2.1 11; show f 10 * 256 + f 11 ≤ 65535; omega
  obtain ⟨m, hm⟩ : ∃ m, m = tw f 10 := ⟨_, rfl⟩
  have HM := Lib.hid hm
  rw [← hm]
  rw [← hm] at tw9
  have m0 : (0 : Int) ≤ (m : Int) := by omega
  have m1 : (m : Int) ≤ 65535 := by omega
  clear hm
  by_cases a4 : 64 ≤ f 0
  case pos =>
    have e5 : decide ((64 : Int) ≤ (f 0 : Int)) = true := decide_eq_true (by omega)
    have T3 := Lib.hid a4
    clear a4
    have DE : Hid (derr f n = 3) := Lib.hid (by unfold derr; rw [if_neg (by first | exact T0.out | omega), if_neg (by first | exact T1.out | omega), if_neg (by first | exact T2.out | omega), if_pos (by exact Or.inl T3.out)])
    have NF := Lib.hid (NR.out.over (fvs fr0 (.slice none 0 0)) rfl)
    have BF := Lib.hid (below_over (Nat.le_refl _) (fvs fr0 (.slice none 0 0)) 0 BB.out)
    go_upto_region 11 with fail
    go_wp2_with (first | (refine wpList_load_mid rfl 24 _ rfl _ 0 rfl (fvs fr0 (.slice none 0 0)) _ NZ.out.range Try.underlying24 rfl (by rw [fvs_len]; exact info_fr) ?_) | (refine wpList_store_mid rfl 24 _ _ rfl _ 0 (fvs fr0 (.slice none 0 0)).toArray rfl rfl NR.out.there info_fr (all_oneCell_toArray (fvs_one _ _ rfl)) ?_))
    exact bodyPost_ret (v := .tuple #[.agg (fvs fr0 (.slice none 0 0)).toArray, .int .i64 3]) (results_cell_slot rfl _ _ w.heap.size _ _ _ rfl rfl NF.out.range Try.underlying24 rfl (by rw [fvs_len]; exact info_fr)) rfl (pdec_err DE.out (by decide) BF.out)
  have e5 : decide ((64 : Int) ≤ (f 0 : Int)) = false := decide_eq_false (by omega)
  by_cases a5 : 468 < m
  case pos =>
    have e6 : decide ((468 : Int) < (m : Int)) = true := decide_eq_true (by omega)
    have T3 := Lib.hid (show 64 ≤ f 0 ∨ 468 < tw f 10 ∨ n ≠ 12 + (tw f 10 + 3) / 4 * 4 by rw [← HM.out]; omega)
    clear a4 a5
    have DE : Hid (derr f n = 3) := Lib.hid (by unfold derr; rw [if_neg (by first | exact T0.out | omega), if_neg (by first | exact T1.out | omega), if_neg (by first | exact T2.out | omega), if_pos (by exact T3.out)])
    have NF := Lib.hid (NR.out.over (fvs fr0 (.slice none 0 0)) rfl)
    have BF := Lib.hid (below_over (Nat.le_refl _) (fvs fr0 (.slice none 0 0)) 0 BB.out)
    go_upto_region 11 with fail
    go_wp2_with (first | (refine wpList_load_mid rfl 24 _ rfl _ 0 rfl (fvs fr0 (.slice none 0 0)) _ NZ.out.range Try.underlying24 rfl (by rw [fvs_len]; exact info_fr) ?_) | (refine wpList_store_mid rfl 24 _ _ rfl _ 0 (fvs fr0 (.slice none 0 0)).toArray rfl rfl NR.out.there info_fr (all_oneCell_toArray (fvs_one _ _ rfl)) ?_))
    exact bodyPost_ret (v := .tuple #[.agg (fvs fr0 (.slice none 0 0)).toArray, .int .i64 3]) (results_cell_slot rfl _ _ w.heap.size _ _ _ rfl rfl NF.out.range Try.underlying24 rfl (by rw [fvs_len]; exact info_fr)) rfl (pdec_err DE.out (by decide) BF.out)
  have e6 : decide ((468 : Int) < (m : Int)) = false := decide_eq_false (by omega)
  have p5 : ((m : Int) + 3).tdiv 4 = (((m + 3) / 4 : Nat) : Int) := by rw [Int.tdiv_eq_ediv_of_nonneg (by omega)]; omega
  have p6 : (0 : Int) ≤ (((m + 3) / 4 : Nat) : Int) := by omega
  have p7 : (((m + 3) / 4 : Nat) : Int) ≤ 16384 := by omega
  by_cases a6 : n = 12 + (m + 3) / 4 * 4
  case neg =>
    have e7 : ((n : Int) != 12 + (((m + 3) / 4 : Nat) : Int) * 4) = true := by simp; omega
    have T3 := Lib.hid (show 64 ≤ f 0 ∨ 468 < tw f 10 ∨ n ≠ 12 + (tw f 10 + 3) / 4 * 4 by rw [← HM.out]; omega)
    clear a4 a5 a6
    generalize (((m + 3) / 4 : Nat) : Int) = FL at *
    have DE : Hid (derr f n = 3) := Lib.hid (by unfold derr; rw [if_neg (by first | exact T0.out | omega), if_neg (by first | exact T1.out | omega), if_neg (by first | exact T2.out | omega), if_pos (by exact T3.out)])
    have NF := Lib.hid (NR.out.over (fvs fr0 (.slice none 0 0)) rfl)
    have BF := Lib.hid (below_over (Nat.le_refl _) (fvs fr0 (.slice none 0 0)) 0 BB.out)
    go_upto_region 11 with fail
    go_wp2_with (first | (refine wpList_load_mid rfl 24 _ rfl _ 0 rfl (fvs fr0 (.slice none 0 0)) _ NZ.out.range Try.underlying24 rfl (by rw [fvs_len]; exact info_fr) ?_) | (refine wpList_store_mid rfl 24 _ _ rfl _ 0 (fvs fr0 (.slice none 0 0)).toArray rfl rfl NR.out.there info_fr (all_oneCell_toArray (fvs_one _ _ rfl)) ?_))
    exact bodyPost_ret (v := .tuple #[.agg (fvs fr0 (.slice none 0 0)).toArray, .int .i64 3]) (results_cell_slot rfl _ _ w.heap.size _ _ _ rfl rfl NF.out.range Try.underlying24 rfl (by rw [fvs_len]; exact info_fr)) rfl (pdec_err DE.out (by decide) BF.out)
  have e7 : ((n : Int) != 12 + (((m + 3) / 4 : Nat) : Int) * 4) = false := by simp; omega
  have T3 : Hid (¬ (64 ≤ f 0 ∨ 468 < tw f 10 ∨ n ≠ 12 + (tw f 10 + 3) / 4 * 4)) := Lib.hid (by rw [← HM.out]; omega)
  have m468 : (m : Int) ≤ 468 := by omega
  have mn : (12 : Int) + (m : Int) ≤ (n : Int) := by omega
  have NM := Lib.hid (show 12 + m ≤ n by omega)
  clear a4 a5 a6
  generalize (((m + 3) / 4 : Nat) : Int) = FL at *
  go_upto_region 13 with fail
  clear e5 e6 e7 p5 p6 p7 c0 e1 e2 q
  go_loopw [7] (fun iv wr => ∃ j : Nat, 12 + m + j ≤ n ∧ iv = .int .i64 ((12 + m + j : Nat) : Int) ∧ wr = w2 ∧ zs f (12 + m) j = true) (fun iv _ => n - (intOf iv).toNat)
  case atStart => exact ⟨0, by have := NM.out; omega, by rw [show ((12 + m + 0 : Nat) : Int) = 12 + (m : Int) by omega], rfl, rfl⟩
  case round =>
    obtain ⟨j, hj, rfl, rfl, hz⟩ := hrel
    obtain ⟨K, hK⟩ : ∃ K, 12 + m + j = K := ⟨_, rfl⟩
    rw [hK]
    rw [hK] at hj
    have HK := Lib.hid hK
    have HZ := Lib.hid hz
    clear hK hz
    have k1 : (0 : Int) ≤ (K : Int) := by omega
    by_cases c : K < n
    · have e1 : decide ((K : Int) < (n : Int)) = true := decide_eq_true (by omega)
      have k2 : (K : Int) < (n : Int) := by omega
      have cK := (H.out.below BB.out).2.2 K c
      have hx := H.out.2.1 K
      have ZN := Lib.hid (zs_snoc f (12 + m) j)
      have ZL := Lib.hid (@zs_later f (12 + m) (n - (12 + m)) j (by have := HK.out; omega))
      rw [HK.out] at ZN ZL
      generalize f K = x at *
      by_cases d : x = 0
      · have e2 : ((x : Int) != 0) = false := by simp; omega
        subst d
        go_wp2_with fail
        have hK := HK.out
        exact ⟨⟨j + 1, by omega, by rw [show ((12 + m + (j + 1) : Nat) : Int) = (K : Int) + 1 by omega], by first | rfl | trivial, by rw [ZN.out, HZ.out]; rfl⟩, by simp [intOf]; omega⟩
      · have e2 : ((x : Int) != 0) = true := by simp; omega
        have T4 : Hid (zs f (12 + tw f 10) (n - (12 + tw f 10)) = false) := Lib.hid (by rw [← HM.out]; exact ZL.out d)
        clear d
        have DE : Hid (derr f n = 3) := Lib.hid (by unfold derr; rw [if_neg (by first | exact T0.out | omega), if_neg (by first | exact T1.out | omega), if_neg (by first | exact T2.out | omega), if_neg (by first | exact T3.out | omega), if_pos (by exact T4.out)])
        have NF := Lib.hid (NR.out.over (fvs fr0 (.slice none 0 0)) rfl)
        have BF := Lib.hid (below_over (Nat.le_refl _) (fvs fr0 (.slice none 0 0)) 0 BB.out)
        go_upto_region 16 with fail
        go_wp2_with (first | (refine wpList_load_mid rfl 24 _ rfl _ 0 rfl (fvs fr0 (.slice none 0 0)) _ NZ.out.range Try.underlying24 rfl (by rw [fvs_len]; exact info_fr) ?_) | (refine wpList_store_mid rfl 24 _ _ rfl _ 0 (fvs fr0 (.slice none 0 0)).toArray rfl rfl NR.out.there info_fr (all_oneCell_toArray (fvs_one _ _ rfl)) ?_))
        exact bodyPost_ret (v := .tuple #[.agg (fvs fr0 (.slice none 0 0)).toArray, .int .i64 3]) (results_cell_slot rfl _ _ w.heap.size _ _ _ rfl rfl NF.out.range Try.underlying24 rfl (by rw [fvs_len]; exact info_fr)) rfl (pdec_err DE.out (by decide) BF.out)
    · have e1 : decide ((K : Int) < (n : Int)) = false := decide_eq_false (by omega)
      have T4 : Hid (¬ zs f (12 + tw f 10) (n - (12 + tw f 10)) = false) := Lib.hid (by
        have hK := HK.out
        rw [← HM.out, show n - (12 + m) = j by omega, HZ.out]; decide)
      have DE : Hid (derr f n = 0) := Lib.hid (by unfold derr; rw [if_neg T0.out, if_neg T1.out, if_neg T2.out, if_neg T3.out, if_neg T4.out])
      have DY : Hid (dfr f n = frAt f) := Lib.hid (dfr_yes DE.out)
      have CS : Hid (∀ b' o' cp, (0 < m → b' = b ∧ o' = o + 12) → m ≤ cp → cp ≤ 9223372036854775807 → Sl wr (.slice (some ⟨b', o', none⟩) m cp) (bl (fun i => f (12 + i)) m)) := Lib.hid fun b' o' cp hb h1 h2 =>
        sb_sl ⟨_, cp, rfl, h1, h2, fun i => H.out.2.1 _, fun h0 => ⟨b', o', rfl, by obtain ⟨e1, e2⟩ := hb h0; rw [e1, e2]; exact (H.out.below BB.out).part 12 m (by have := NM.out; omega)⟩, fun e => by cases e⟩ (by omega)
      clear T0 T1 T2 T3 T4 HZ HK
      by_cases cr : cap = 12
      · obtain rfl : m = 0 := by have := NM.out; omega
        subst cr
        have A := CS.out b o 0 (fun h => absurd h (by omega)) (by omega) (by omega)
        obtain ⟨v8, w8, r8, o8, b8, s8, nn8⟩ := A.app (brefl wr) (Own.nil wr wr.heap.size) (Nat.le_refl _) (by rw [bl_len]; simp <;> omega) 22
        rw [List.nil_append] at o8
        obtain ⟨va, vc, rfl⟩ := own_form o8
        simp only [bl_len] at o8 r8
        have R8 := Lib.hid r8
        have O8 := Lib.hid o8
        have NZ8 := Lib.hid (NZ.out.below b8)
        have NR8 := Lib.hid (NR.out.below b8)
        have B8 := Lib.hid (bstep BB.out b8)
        have z8 : w.heap.size + 1 < w8.heap.size := NZ8.out.1
        have zr : w.heap.size + 1 < wr.heap.size := NZ.out.1
        clear A r8 o8 b8 s8 nn8 CS NZ NR BB
        go_upto_region 19 with (first | (at_builtin; refine wpList_append_eq rfl _ _ 22 rfl (.slice none 0 0) (.slice (some ⟨b, o, none⟩) 0 0) (.slice va 0 vc) w8 (by rfl) (by first | rfl | go_simp) R8.out ?_))
        clear R8 e1 k1
        obtain ⟨x, hx⟩ : ∃ x, x = f 1 := ⟨_, rfl⟩
        have x9 : x < 256 := by rw [hx]; exact H.out.2.1 1
        obtain ⟨y1, hy1⟩ : ∃ y, y = x / 64 := ⟨_, rfl⟩
        obtain ⟨z1, hz1⟩ : ∃ y, y = y1 % 2 := ⟨_, rfl⟩
        obtain ⟨y2, hy2⟩ : ∃ y, y = x / 32 := ⟨_, rfl⟩
        obtain ⟨z2, hz2⟩ : ∃ y, y = y2 % 2 := ⟨_, rfl⟩
        obtain ⟨z3, hz3⟩ : ∃ y, y = x % 32 := ⟨_, rfl⟩
        obtain ⟨g1, hg1⟩ : ∃ g, g = decide (128 ≤ x) := ⟨_, rfl⟩
        obtain ⟨g2, hg2⟩ : ∃ g, g = decide (z1 = 1) := ⟨_, rfl⟩
        obtain ⟨g3, hg3⟩ : ∃ g, g = decide (z2 = 1) := ⟨_, rfl⟩
        have G1 : decide ((128 : Int) ≤ (x : Int)) = g1 := by rw [hg1]; exact decide_eq_decide.2 (by omega)
        have G2 : ((z1 : Int) == 1) = g2 := by rw [hg2, Bool.eq_iff_iff]; simp; omega
        have G3 : ((z2 : Int) == 1) = g3 := by rw [hg3, Bool.eq_iff_iff]; simp; omega
        have Q1 : (x : Int).tdiv 64 = (y1 : Int) := by rw [Int.tdiv_eq_ediv_of_nonneg (by omega)]; omega
        have Q1d : (x : Int) / 64 = (y1 : Int) := by omega
        have Q1w : IntKind.u8.wrap (y1 : Int) = (y1 : Int) := by rw [u8_wrap]; omega
        have R1 : (y1 : Int).tmod 2 = (z1 : Int) := by rw [Int.tmod_eq_emod_of_nonneg (by omega)]; omega
        have R1w : IntKind.u8.wrap (z1 : Int) = (z1 : Int) := by rw [u8_wrap]; omega
        have Q2 : (x : Int).tdiv 32 = (y2 : Int) := by rw [Int.tdiv_eq_ediv_of_nonneg (by omega)]; omega
        have Q2d : (x : Int) / 32 = (y2 : Int) := by omega
        have Q2w : IntKind.u8.wrap (y2 : Int) = (y2 : Int) := by rw [u8_wrap]; omega
        have R2 : (y2 : Int).tmod 2 = (z2 : Int) := by rw [Int.tmod_eq_emod_of_nonneg (by omega)]; omega
        have R2w : IntKind.u8.wrap (z2 : Int) = (z2 : Int) := by rw [u8_wrap]; omega
        have R3 : (x : Int).tmod 32 = (z3 : Int) := by rw [Int.tmod_eq_emod_of_nonneg (by omega)]; omega
        have R3w : IntKind.u8.wrap (z3 : Int) = (z3 : Int) := by rw [u8_wrap]; omega
        have R3i : IntKind.i64.wrap (z3 : Int) = (z3 : Int) := wrap_in (by omega) (by omega)
        have HC : Hid (fvs (frAt f) (.slice va 0 vc) = [.int .i64 ((f 0 : Int) / 8 % 8), .bool g1, .bool g2, .bool g3, .int .i64 (z3 : Int), .int .i64 (tw f 2 : Nat), .int .i64 (tw f 4 : Nat), .int .i64 (tw f 6 : Nat), .int .i64 (tw f 8 : Nat), .slice va 0 vc]) := Lib.hid (by
          rw [hg1, hg2, hg3, hz1, hz2, hz3, hy1, hy2, hx]; rfl)
        have HDD : Hid ((frAt f).dat = bl (fun i => f (12 + i)) 0) := Lib.hid (by rw [HM.out]; rfl)
        have lb : b < w.heap.size := H.out.1
        have k1' : (1 : Int) < (n : Int) := by omega
        have KC : Hid (∀ wa wb : World, (wa.cell? ⟨b, o + 1, none⟩ = some (.int .u8 (x : Int)) ∧ Below w.heap.size w wa ∧ w.heap.size + 1 < wa.heap.size ∧ wa.there (w.heap.size + 1) 0 10 ∧ Blk wa w.heap.size (fvs fr0 (.slice none 0 0)) ∧ Own wa wr.heap.size (.slice va 0 vc) (bl (fun i => f (12 + i)) 0)) → Below wa.heap.size wa wb → (wb.cell? ⟨b, o + 1, none⟩ = some (.int .u8 (x : Int)) ∧ Below w.heap.size w wb ∧ w.heap.size + 1 < wb.heap.size ∧ wb.there (w.heap.size + 1) 0 10 ∧ Blk wb w.heap.size (fvs fr0 (.slice none 0 0)) ∧ Own wb wr.heap.size (.slice va 0 vc) (bl (fun i => f (12 + i)) 0))) := Lib.hid fun wa wb d d2 =>
          ⟨(d2.cell (p := ⟨b, o + 1, none⟩) (by have := d.2.2.1; show b < _; omega)).trans d.1, bstep d.2.1 d2, Nat.lt_of_lt_of_le d.2.2.1 d2.size, there_below d.2.2.2.1 d.2.2.1 d2, d.2.2.2.2.1.below d2, own_below d.2.2.2.2.2 d2⟩
        have KD := Lib.hid (KC.out w8 _ ⟨by rw [hx]; exact (H.out.below B8.out).2.2 1 (by omega), B8.out, z8, NZ8.out.there, NR8.out, O8.out⟩ ((brefl w8).drew))
        have HN := Lib.hid (fun a (ha : a + 2 ≤ n) z (k : Below w.heap.size w z) => (two_c 12 (H.out.below k) a ha hn).mono (R' := fun e w' => e = .returned (.int .i64 (tw f a : Nat)) ∧ Below z.heap.size z w') fun e w' ⟨h1, m, h2⟩ => ⟨h1, by rw [h2]; exact bdrew (brefl _) m⟩)
        clear hg1 hg2 hg3 hz1 hz2 hz3 hy1 hy2 hx NZ8 NR8 O8 B8 HM
        refine wp_region_noPanic ?_
        refine wp_region_held_drew (S := fun z => z.cell? ⟨b, o + 1, none⟩ = some (.int .u8 (x : Int)) ∧ Below w.heap.size w z ∧ w.heap.size + 1 < z.heap.size ∧ z.there (w.heap.size + 1) 0 10 ∧ Blk z w.heap.size (fvs fr0 (.slice none 0 0)) ∧ Own z wr.heap.size (.slice va 0 vc) (bl (fun i => f (12 + i)) 0)) (by kernel_rfl) KD.out (fun hHeld => ?_)
        refine wpAnyH_take (i := 0) (v := ?_) rfl (by kernel_rfl) (by kernel_rfl) (by kernel_rfl) (fun _ _ _ h => h) (Or.inl ⟨by rfl, ?_⟩) hHeld ?_
        rotate_left
        · ((intro w hSw; (try dsimp only at hSw); go_simp); try with_reducible rfl)
        (try simp only [List.getElem_toArray, List.getElem_cons_succ, List.getElem_cons_zero, Act.put, List.setIfInBounds_toArray, List.set_cons_zero, List.set_cons_succ])
        refine wpAnyH_take (i := 1) (v := ?_) rfl (by kernel_rfl) (by kernel_rfl) (by kernel_rfl) (fun _ _ _ h => h) (Or.inl ⟨by rfl, ?_⟩) hHeld ?_
        rotate_left
        · ((intro w hSw; (try dsimp only at hSw); go_simp); try with_reducible rfl)
        (try simp only [List.getElem_toArray, List.getElem_cons_succ, List.getElem_cons_zero, Act.put, List.setIfInBounds_toArray, List.set_cons_zero, List.set_cons_succ])
        refine wpAnyH_take (i := 2) (v := ?_) rfl (by kernel_rfl) (by kernel_rfl) (by kernel_rfl) (fun _ _ _ h => h) (Or.inl ⟨by rfl, ?_⟩) hHeld ?_
        rotate_left
        · ((intro w hSw; (try dsimp only at hSw); go_simp); try with_reducible rfl)
        (try simp only [List.getElem_toArray, List.getElem_cons_succ, List.getElem_cons_zero, Act.put, List.setIfInBounds_toArray, List.set_cons_zero, List.set_cons_succ])
        refine wpAnyH_take (i := 3) (v := ?_) rfl (by kernel_rfl) (by kernel_rfl) (by kernel_rfl) (fun _ _ _ h => h) (Or.inl ⟨by rfl, ?_⟩) hHeld ?_
        rotate_left
        · ((intro w hSw; (try dsimp only at hSw); go_simp); try with_reducible rfl)
        (try simp only [List.getElem_toArray, List.getElem_cons_succ, List.getElem_cons_zero, Act.put, List.setIfInBounds_toArray, List.set_cons_zero, List.set_cons_succ])
        refine wpAnyH_take (i := 4) (v := ?_) rfl (by kernel_rfl) (by kernel_rfl) (by kernel_rfl) (fun _ _ _ h => h) (Or.inl ⟨by rfl, ?_⟩) hHeld ?_
        rotate_left
        · ((intro w hSw; (try dsimp only at hSw); go_simp); try with_reducible rfl)
        (try simp only [List.getElem_toArray, List.getElem_cons_succ, List.getElem_cons_zero, Act.put, List.setIfInBounds_toArray, List.set_cons_zero, List.set_cons_succ])
        refine wpAnyH_take (i := 5) (v := ?_) rfl (by kernel_rfl) (by kernel_rfl) (by kernel_rfl) (fun _ _ _ h => h) (Or.inl ⟨by rfl, ?_⟩) hHeld ?_
        rotate_left
        · ((intro w hSw; (try dsimp only at hSw); go_simp); try with_reducible rfl)
        (try simp only [List.getElem_toArray, List.getElem_cons_succ, List.getElem_cons_zero, Act.put, List.setIfInBounds_toArray, List.set_cons_zero, List.set_cons_succ])
        refine wpAnyH_take (i := 6) (v := ?_) rfl (by kernel_rfl) (by kernel_rfl) (by kernel_rfl) (fun _ _ _ h => h) (Or.inl ⟨by rfl, ?_⟩) hHeld ?_
        rotate_left
        · ((intro w hSw; (try dsimp only at hSw); go_simp); try with_reducible rfl)
        (try simp only [List.getElem_toArray, List.getElem_cons_succ, List.getElem_cons_zero, Act.put, List.setIfInBounds_toArray, List.set_cons_zero, List.set_cons_succ])
        refine wpAnyH_take (i := 7) (v := ?_) rfl (by kernel_rfl) (by kernel_rfl) (by kernel_rfl) (fun _ _ _ h => h) (Or.inl ⟨by rfl, ?_⟩) hHeld ?_
        rotate_left
        · ((intro w hSw; (try dsimp only at hSw); go_simp); try with_reducible rfl)
        (try simp only [List.getElem_toArray, List.getElem_cons_succ, List.getElem_cons_zero, Act.put, List.setIfInBounds_toArray, List.set_cons_zero, List.set_cons_succ])
        refine wpAnyH_take (i := 8) (v := ?_) rfl (by kernel_rfl) (by kernel_rfl) (by kernel_rfl) (fun _ _ _ h => h) (Or.inl ⟨by rfl, ?_⟩) hHeld ?_
        rotate_left
        · ((intro w hSw; (try dsimp only at hSw); go_simp); try with_reducible rfl)
        (try simp only [List.getElem_toArray, List.getElem_cons_succ, List.getElem_cons_zero, Act.put, List.setIfInBounds_toArray, List.set_cons_zero, List.set_cons_succ])
        refine wpAnyH_take (i := 9) (v := ?_) rfl (by kernel_rfl) (by kernel_rfl) (by kernel_rfl) (fun _ _ _ h => h) (Or.inl ⟨by rfl, ?_⟩) hHeld ?_
        rotate_left
        · ((intro w hSw; (try dsimp only at hSw); go_simp); try with_reducible rfl)
        (try simp only [List.getElem_toArray, List.getElem_cons_succ, List.getElem_cons_zero, Act.put, List.setIfInBounds_toArray, List.set_cons_zero, List.set_cons_succ])
        refine wpAnyH_take (i := 10) (v := ?_) rfl (by kernel_rfl) (by kernel_rfl) (by kernel_rfl) (fun _ _ _ h => h) (Or.inl ⟨by rfl, ?_⟩) hHeld ?_
        rotate_left
        · ((intro w hSw; (try dsimp only at hSw); go_simp); try with_reducible rfl)
        (try simp only [List.getElem_toArray, List.getElem_cons_succ, List.getElem_cons_zero, Act.put, List.setIfInBounds_toArray, List.set_cons_zero, List.set_cons_succ])
        refine wpAnyH_take (i := 11) (v := ?_) rfl (by kernel_rfl) (by kernel_rfl) (by kernel_rfl) (fun _ _ _ h => h) (Or.inl ⟨by rfl, ?_⟩) hHeld ?_
        rotate_left
        · ((intro w hSw; (try dsimp only at hSw); go_simp); try with_reducible rfl)
        (try simp only [List.getElem_toArray, List.getElem_cons_succ, List.getElem_cons_zero, Act.put, List.setIfInBounds_toArray, List.set_cons_zero, List.set_cons_succ])
        refine wpAnyH_take (i := 12) (v := ?_) rfl (by kernel_rfl) (by kernel_rfl) (by kernel_rfl) (fun _ _ _ h => h) (Or.inl ⟨by rfl, ?_⟩) hHeld ?_
        rotate_left
        · ((intro w hSw; (try dsimp only at hSw); go_simp); try with_reducible rfl)
        (try simp only [List.getElem_toArray, List.getElem_cons_succ, List.getElem_cons_zero, Act.put, List.setIfInBounds_toArray, List.set_cons_zero, List.set_cons_succ])
        refine wpAnyH_take (i := 13) (v := ?_) rfl (by kernel_rfl) (by kernel_rfl) (by kernel_rfl) (fun _ _ _ h => h) (Or.inl ⟨by rfl, ?_⟩) hHeld ?_
        rotate_left
        · ((intro w hSw; (try dsimp only at hSw); go_simp); try with_reducible rfl)
        (try simp only [List.getElem_toArray, List.getElem_cons_succ, List.getElem_cons_zero, Act.put, List.setIfInBounds_toArray, List.set_cons_zero, List.set_cons_succ])
        refine wpAnyH_take (i := 14) (v := ?_) rfl (by kernel_rfl) (by kernel_rfl) (by kernel_rfl) (fun _ _ _ h => h) (Or.inl ⟨by rfl, ?_⟩) hHeld ?_
        rotate_left
        · ((intro w hSw; (try dsimp only at hSw); go_simp); try with_reducible rfl)
        (try simp only [List.getElem_toArray, List.getElem_cons_succ, List.getElem_cons_zero, Act.put, List.setIfInBounds_toArray, List.set_cons_zero, List.set_cons_succ])
        refine wpAnyH_take (i := 15) (v := ?_) rfl (by kernel_rfl) (by kernel_rfl) (by kernel_rfl) (fun _ _ _ h => h) (Or.inl ⟨by rfl, ?_⟩) hHeld ?_
        rotate_left
        · ((intro w hSw; (try dsimp only at hSw); go_simp); try with_reducible rfl)
        (try simp only [List.getElem_toArray, List.getElem_cons_succ, List.getElem_cons_zero, Act.put, List.setIfInBounds_toArray, List.set_cons_zero, List.set_cons_succ])
        refine wpAnyH_take (i := 16) (v := ?_) rfl (by kernel_rfl) (by kernel_rfl) (by kernel_rfl) (fun _ _ _ h => h) (Or.inl ⟨by rfl, ?_⟩) hHeld ?_
        rotate_left
        · ((intro w hSw; (try dsimp only at hSw); go_simp); try with_reducible rfl)
        (try simp only [List.getElem_toArray, List.getElem_cons_succ, List.getElem_cons_zero, Act.put, List.setIfInBounds_toArray, List.set_cons_zero, List.set_cons_succ])
        refine wpAnyH_take (i := 17) (v := ?_) rfl (by kernel_rfl) (by kernel_rfl) (by kernel_rfl) (fun _ _ _ h => h) (Or.inl ⟨by rfl, ?_⟩) hHeld ?_
        rotate_left
        · ((intro w hSw; (try dsimp only at hSw); go_simp); try with_reducible rfl)
        (try simp only [List.getElem_toArray, List.getElem_cons_succ, List.getElem_cons_zero, Act.put, List.setIfInBounds_toArray, List.set_cons_zero, List.set_cons_succ])
        refine wpAnyH_take (i := 18) (v := ?_) rfl (by kernel_rfl) (by kernel_rfl) (by kernel_rfl) (fun _ _ _ h => h) (Or.inl ⟨by rfl, ?_⟩) hHeld ?_
        rotate_left
        · ((intro w hSw; (try dsimp only at hSw); go_simp); try with_reducible rfl)
        (try simp only [List.getElem_toArray, List.getElem_cons_succ, List.getElem_cons_zero, Act.put, List.setIfInBounds_toArray, List.set_cons_zero, List.set_cons_succ])
        refine wpAnyH_take (i := 19) (v := ?_) rfl (by kernel_rfl) (by kernel_rfl) (by kernel_rfl) (fun _ _ _ h => h) (Or.inl ⟨by rfl, ?_⟩) hHeld ?_
        rotate_left
        · ((intro w hSw; (try dsimp only at hSw); go_simp); try with_reducible rfl)
        (try simp only [List.getElem_toArray, List.getElem_cons_succ, List.getElem_cons_zero, Act.put, List.setIfInBounds_toArray, List.set_cons_zero, List.set_cons_succ])
        refine wpAnyH_take (i := 20) (v := ?_) rfl (by kernel_rfl) (by kernel_rfl) (by kernel_rfl) (fun _ _ _ h => h) (Or.inl ⟨by rfl, ?_⟩) hHeld ?_
        rotate_left
        · ((intro w hSw; (try dsimp only at hSw); go_simp); try with_reducible rfl)
        (try simp only [List.getElem_toArray, List.getElem_cons_succ, List.getElem_cons_zero, Act.put, List.setIfInBounds_toArray, List.set_cons_zero, List.set_cons_succ])
        refine wpAnyH_take (i := 21) (v := ?_) rfl (by kernel_rfl) (by kernel_rfl) (by kernel_rfl) (fun _ _ _ h => h) (Or.inl ⟨by rfl, ?_⟩) hHeld ?_
        rotate_left
        · ((intro w hSw; (try dsimp only at hSw); go_simp); try with_reducible rfl)
        (try simp only [List.getElem_toArray, List.getElem_cons_succ, List.getElem_cons_zero, Act.put, List.setIfInBounds_toArray, List.set_cons_zero, List.set_cons_succ])
        refine wpAnyH_take (i := 22) (v := ?_) rfl (by kernel_rfl) (by kernel_rfl) (by kernel_rfl) (fun _ _ _ h => h) (Or.inl ⟨by rfl, ?_⟩) hHeld ?_
        rotate_left
        · ((intro w hSw; (try dsimp only at hSw); go_simp); try with_reducible rfl)
        (try simp only [List.getElem_toArray, List.getElem_cons_succ, List.getElem_cons_zero, Act.put, List.setIfInBounds_toArray, List.set_cons_zero, List.set_cons_succ])
        refine wpAnyH_take (i := 24) (v := ?_) rfl (by kernel_rfl) (by kernel_rfl) (by kernel_rfl) (fun _ _ _ h => h) (Or.inl ⟨by rfl, ?_⟩) hHeld ?_
        rotate_left
        · ((intro w hSw; (try dsimp only at hSw); go_simp); try with_reducible rfl)
        (try simp only [List.getElem_toArray, List.getElem_cons_succ, List.getElem_cons_zero, Act.put, List.setIfInBounds_toArray, List.set_cons_zero, List.set_cons_succ])
        refine wpAnyH_take (i := 26) (v := ?_) rfl (by kernel_rfl) (by kernel_rfl) (by kernel_rfl) (fun _ _ _ h => h) (Or.inl ⟨by rfl, ?_⟩) hHeld ?_
        rotate_left
        · ((intro w hSw; (try dsimp only at hSw); go_simp); try with_reducible rfl)
        (try simp only [List.getElem_toArray, List.getElem_cons_succ, List.getElem_cons_zero, Act.put, List.setIfInBounds_toArray, List.set_cons_zero, List.set_cons_succ])
        refine wpAnyH_take (i := 28) (v := ?_) rfl (by kernel_rfl) (by kernel_rfl) (by kernel_rfl) (fun _ _ _ h => h) (Or.inl ⟨by rfl, ?_⟩) hHeld ?_
        rotate_left
        · ((intro w hSw; (try dsimp only at hSw); go_simp); try with_reducible rfl)
        (try simp only [List.getElem_toArray, List.getElem_cons_succ, List.getElem_cons_zero, Act.put, List.setIfInBounds_toArray, List.set_cons_zero, List.set_cons_succ])
        refine wpAnyH_take (i := 30) (v := ?_) rfl (by kernel_rfl) (by kernel_rfl) (by kernel_rfl) (fun _ _ _ h => h) (Or.inl ⟨by rfl, ?_⟩) hHeld ?_
        rotate_left
        · ((intro w hSw; (try dsimp only at hSw); go_simp); try with_reducible rfl)
        (try simp only [List.getElem_toArray, List.getElem_cons_succ, List.getElem_cons_zero, Act.put, List.setIfInBounds_toArray, List.set_cons_zero, List.set_cons_succ])
        refine wpAnyH_ready (rs := [23]) (by kernel_rfl) (by simp) (AllReadyH.cons rfl (fun KQ hKQ => ?_) AllReadyH.nil)
        go_simp
        refine (HN.out 2 (by omega) _ hHeld.2.1).mono ?_
        rintro e w' ⟨rfl, hb⟩
        have hx := KC.out _ _ hHeld hb
        clear hb
        go_wp2_with fail
        refine hKQ.out _ _ hx (fun hH2 => ?_)
        clear hx
        clear hKQ KQ hHeld
        have hHeld := hH2
        clear hH2
        (try simp only [List.getElem_toArray, List.getElem_cons_succ, List.getElem_cons_zero, Act.put, List.setIfInBounds_toArray, List.set_cons_zero, List.set_cons_succ])
        refine wpAnyH_ready (rs := [25]) (by kernel_rfl) (by simp) (AllReadyH.cons rfl (fun KQ hKQ => ?_) AllReadyH.nil)
        go_simp
        refine (HN.out 4 (by omega) _ hHeld.2.1).mono ?_
        rintro e w' ⟨rfl, hb⟩
        have hx := KC.out _ _ hHeld hb
        clear hb
        go_wp2_with fail
        refine hKQ.out _ _ hx (fun hH2 => ?_)
        clear hx
        clear hKQ KQ hHeld
        have hHeld := hH2
        clear hH2
        (try simp only [List.getElem_toArray, List.getElem_cons_succ, List.getElem_cons_zero, Act.put, List.setIfInBounds_toArray, List.set_cons_zero, List.set_cons_succ])
        refine wpAnyH_ready (rs := [27]) (by kernel_rfl) (by simp) (AllReadyH.cons rfl (fun KQ hKQ => ?_) AllReadyH.nil)
        go_simp
        refine (HN.out 6 (by omega) _ hHeld.2.1).mono ?_
        rintro e w' ⟨rfl, hb⟩
        have hx := KC.out _ _ hHeld hb
        clear hb
        go_wp2_with fail
        refine hKQ.out _ _ hx (fun hH2 => ?_)
        clear hx
        clear hKQ KQ hHeld
        have hHeld := hH2
        clear hH2
        (try simp only [List.getElem_toArray, List.getElem_cons_succ, List.getElem_cons_zero, Act.put, List.setIfInBounds_toArray, List.set_cons_zero, List.set_cons_succ])
        refine wpAnyH_ready (rs := [29]) (by kernel_rfl) (by simp) (AllReadyH.cons rfl (fun KQ hKQ => ?_) AllReadyH.nil)
        go_simp
        refine (HN.out 8 (by omega) _ hHeld.2.1).mono ?_
        rintro e w' ⟨rfl, hb⟩
        have hx := KC.out _ _ hHeld hb
        clear hb
        go_wp2_with fail
        refine hKQ.out _ _ hx (fun hH2 => ?_)
        clear hx
        clear hKQ KQ hHeld
        have hHeld := hH2
        clear hH2
        (try simp only [List.getElem_toArray, List.getElem_cons_succ, List.getElem_cons_zero, Act.put, List.setIfInBounds_toArray, List.set_cons_zero, List.set_cons_succ])
        refine wpAnyH_take (i := 31) (v := ?_) rfl (by kernel_rfl) (by kernel_rfl) (by kernel_rfl) (fun _ _ _ h => h) (Or.inl ⟨by rfl, ?_⟩) hHeld ?_
        rotate_left
        · ((intro w hSw; (try dsimp only at hSw); go_simp); try with_reducible rfl)
        (try simp only [List.getElem_toArray, List.getElem_cons_succ, List.getElem_cons_zero, Act.put, List.setIfInBounds_toArray, List.set_cons_zero, List.set_cons_succ])
        refine wpAnyH_ready (rs := [32]) (by kernel_rfl) (by simp) (AllReadyH.cons rfl (fun KQ hKQ => ?_) AllReadyH.nil)
        rw [if_pos (by rfl)]
        refine wp_store_mid 24 _ _ rfl _ 0 [.int .i64 ((f 0 : Int) / 8 % 8), .bool g1, .bool g2, .bool g3, .int .i64 (z3 : Int), .int .i64 (tw f 2 : Nat), .int .i64 (tw f 4 : Nat), .int .i64 (tw f 6 : Nat), .int .i64 (tw f 8 : Nat), .slice va 0 vc].toArray rfl rfl hHeld.2.2.2.1 info_fr (all_oneCell_toArray (fun v hv => ?_)) ?_
        rotate_left
        rw [List.toList_toArray]
        have RG := Lib.hid (World.rangeAt_setCells_same _ (w.heap.size + 1) 0 [.int .i64 ((f 0 : Int) / 8 % 8), .bool g1, .bool g2, .bool g3, .int .i64 (z3 : Int), .int .i64 (tw f 2 : Nat), .int .i64 (tw f 4 : Nat), .int .i64 (tw f 6 : Nat), .int .i64 (tw f 8 : Nat), .slice va 0 vc] hHeld.2.2.2.1)
        have BF := Lib.hid (below_over (Nat.le_succ _) [.int .i64 ((f 0 : Int) / 8 % 8), .bool g1, .bool g2, .bool g3, .int .i64 (z3 : Int), .int .i64 (tw f 2 : Nat), .int .i64 (tw f 4 : Nat), .int .i64 (tw f 6 : Nat), .int .i64 (tw f 8 : Nat), .slice va 0 vc] 0 hHeld.2.1)
        have NRF := Lib.hid (blk_over hHeld.2.2.2.2.1 (b' := w.heap.size + 1) (by omega) [.int .i64 ((f 0 : Int) / 8 % 8), .bool g1, .bool g2, .bool g3, .int .i64 (z3 : Int), .int .i64 (tw f 2 : Nat), .int .i64 (tw f 4 : Nat), .int .i64 (tw f 6 : Nat), .int .i64 (tw f 8 : Nat), .slice va 0 vc])
        have OWF := Lib.hid (show Own _ _ _ _ from row_over hHeld.2.2.2.2.2 (b := w.heap.size + 1) (by omega) [.int .i64 ((f 0 : Int) / 8 % 8), .bool g1, .bool g2, .bool g3, .int .i64 (z3 : Int), .int .i64 (tw f 2 : Nat), .int .i64 (tw f 4 : Nat), .int .i64 (tw f 6 : Nat), .int .i64 (tw f 8 : Nat), .slice va 0 vc])
        refine hKQ.out _ _ ⟨by rw [World.cell?_setCells_out (w.heap.size + 1) _ 0 _ ⟨b, o + 1, none⟩ (fun e _ => absurd e (by show ¬ b = _; omega))]; exact hHeld.1, BF.out, by rw [size_over]; exact hHeld.2.2.1, World.there_setCells hHeld.2.2.2.1 _ _ _, NRF.out, OWF.out⟩ (fun hH2 => ?_)
        clear hKQ KQ hHeld
        have hHeld := hH2
        clear hH2
        (try simp only [List.getElem_toArray, List.getElem_cons_succ, List.getElem_cons_zero, Act.put, List.setIfInBounds_toArray, List.set_cons_zero, List.set_cons_succ])
        refine wpAnyH_done (by kernel_rfl) ?_ _
        refine NoPanic.normal ?_
        go_wp2_with (first | (refine wpList_load_mid rfl 24 _ rfl _ 0 rfl [.int .i64 ((f 0 : Int) / 8 % 8), .bool g1, .bool g2, .bool g3, .int .i64 (z3 : Int), .int .i64 (tw f 2 : Nat), .int .i64 (tw f 4 : Nat), .int .i64 (tw f 6 : Nat), .int .i64 (tw f 8 : Nat), .slice va 0 vc] _ RG.out Try.underlying24 rfl (by exact info_fr) ?_) | (refine wpList_store_mid rfl 24 _ _ rfl _ 0 [.int .i64 ((f 0 : Int) / 8 % 8), .bool g1, .bool g2, .bool g3, .int .i64 (z3 : Int), .int .i64 (tw f 2 : Nat), .int .i64 (tw f 4 : Nat), .int .i64 (tw f 6 : Nat), .int .i64 (tw f 8 : Nat), .slice va 0 vc].toArray rfl rfl NRF.out.there info_fr (all_oneCell_toArray (by rw [← HC.out]; exact fvs_one _ _ rfl)) ?_))
        have NF := Lib.hid (NRF.out.over [.int .i64 ((f 0 : Int) / 8 % 8), .bool g1, .bool g2, .bool g3, .int .i64 (z3 : Int), .int .i64 (tw f 2 : Nat), .int .i64 (tw f 4 : Nat), .int .i64 (tw f 6 : Nat), .int .i64 (tw f 8 : Nat), .slice va 0 vc] rfl)
        have BF2 := Lib.hid (below_over (Nat.le_refl _) [.int .i64 ((f 0 : Int) / 8 % 8), .bool g1, .bool g2, .bool g3, .int .i64 (z3 : Int), .int .i64 (tw f 2 : Nat), .int .i64 (tw f 4 : Nat), .int .i64 (tw f 6 : Nat), .int .i64 (tw f 8 : Nat), .slice va 0 vc] 0 BF.out)
        have OF := Lib.hid (show Own _ _ _ _ from row_over OWF.out (b := w.heap.size) (by omega) [.int .i64 ((f 0 : Int) / 8 % 8), .bool g1, .bool g2, .bool g3, .int .i64 (z3 : Int), .int .i64 (tw f 2 : Nat), .int .i64 (tw f 4 : Nat), .int .i64 (tw f 6 : Nat), .int .i64 (tw f 8 : Nat), .slice va 0 vc])
        exact bodyPost_ret (v := .tuple #[.agg [.int .i64 ((f 0 : Int) / 8 % 8), .bool g1, .bool g2, .bool g3, .int .i64 (z3 : Int), .int .i64 (tw f 2 : Nat), .int .i64 (tw f 4 : Nat), .int .i64 (tw f 6 : Nat), .int .i64 (tw f 8 : Nat), .slice va 0 vc].toArray, .int .i64 0]) (results_cell_slot rfl _ _ w.heap.size _ _ _ rfl rfl NF.out.range Try.underlying24 rfl (by exact info_fr)) rfl ⟨⟨_, by rw [DE.out, DY.out, ← HC.out]; rfl, by rw [DY.out, HDD.out]; exact OF.out.le (by omega)⟩, BF2.out⟩
        rw [← HC.out] at hv
        exact fvs_one _ _ rfl v hv
      · have A := CS.out b (o + 12) (cap - 12) (fun h => ⟨rfl, rfl⟩) (by have := NM.out; omega) (by omega)
        obtain ⟨v8, w8, r8, o8, b8, s8, nn8⟩ := A.app (brefl wr) (Own.nil wr wr.heap.size) (Nat.le_refl _) (by rw [bl_len]; simp <;> omega) 22
        rw [List.nil_append] at o8
        obtain ⟨va, vc, rfl⟩ := own_form o8
        simp only [bl_len] at o8 r8
        have R8 := Lib.hid r8
        have O8 := Lib.hid o8
        have NZ8 := Lib.hid (NZ.out.below b8)
        have NR8 := Lib.hid (NR.out.below b8)
        have B8 := Lib.hid (bstep BB.out b8)
        have z8 : w.heap.size + 1 < w8.heap.size := NZ8.out.1
        have zr : w.heap.size + 1 < wr.heap.size := NZ.out.1
        clear A r8 o8 b8 s8 nn8 CS NZ NR BB
        go_upto_region 19 with (first | (at_builtin; refine wpList_append_eq rfl _ _ 22 rfl (.slice none 0 0) (.slice (some ⟨b, o + 12, none⟩) m (cap - 12)) (.slice va m vc) w8 (by rfl) (by first | rfl | go_simp) R8.out ?_))
        clear R8 e1 k1
        obtain ⟨x, hx⟩ : ∃ x, x = f 1 := ⟨_, rfl⟩
        have x9 : x < 256 := by rw [hx]; exact H.out.2.1 1
        obtain ⟨y1, hy1⟩ : ∃ y, y = x / 64 := ⟨_, rfl⟩
        obtain ⟨z1, hz1⟩ : ∃ y, y = y1 % 2 := ⟨_, rfl⟩
        obtain ⟨y2, hy2⟩ : ∃ y, y = x / 32 := ⟨_, rfl⟩
        obtain ⟨z2, hz2⟩ : ∃ y, y = y2 % 2 := ⟨_, rfl⟩
        obtain ⟨z3, hz3⟩ : ∃ y, y = x % 32 := ⟨_, rfl⟩
        obtain ⟨g1, hg1⟩ : ∃ g, g = decide (128 ≤ x) := ⟨_, rfl⟩
        obtain ⟨g2, hg2⟩ : ∃ g, g = decide (z1 = 1) := ⟨_, rfl⟩
        obtain ⟨g3, hg3⟩ : ∃ g, g = decide (z2 = 1) := ⟨_, rfl⟩
        have G1 : decide ((128 : Int) ≤ (x : Int)) = g1 := by rw [hg1]; exact decide_eq_decide.2 (by omega)
        have G2 : ((z1 : Int) == 1) = g2 := by rw [hg2, Bool.eq_iff_iff]; simp; omega
        have G3 : ((z2 : Int) == 1) = g3 := by rw [hg3, Bool.eq_iff_iff]; simp; omega
        have Q1 : (x : Int).tdiv 64 = (y1 : Int) := by rw [Int.tdiv_eq_ediv_of_nonneg (by omega)]; omega
        have Q1d : (x : Int) / 64 = (y1 : Int) := by omega
        have Q1w : IntKind.u8.wrap (y1 : Int) = (y1 : Int) := by rw [u8_wrap]; omega
        have R1 : (y1 : Int).tmod 2 = (z1 : Int) := by rw [Int.tmod_eq_emod_of_nonneg (by omega)]; omega
        have R1w : IntKind.u8.wrap (z1 : Int) = (z1 : Int) := by rw [u8_wrap]; omega
        have Q2 : (x : Int).tdiv 32 = (y2 : Int) := by rw [Int.tdiv_eq_ediv_of_nonneg (by omega)]; omega
        have Q2d : (x : Int) / 32 = (y2 : Int) := by omega
        have Q2w : IntKind.u8.wrap (y2 : Int) = (y2 : Int) := by rw [u8_wrap]; omega
        have R2 : (y2 : Int).tmod 2 = (z2 : Int) := by rw [Int.tmod_eq_emod_of_nonneg (by omega)]; omega
        have R2w : IntKind.u8.wrap (z2 : Int) = (z2 : Int) := by rw [u8_wrap]; omega
        have R3 : (x : Int).tmod 32 = (z3 : Int) := by rw [Int.tmod_eq_emod_of_nonneg (by omega)]; omega
        have R3w : IntKind.u8.wrap (z3 : Int) = (z3 : Int) := by rw [u8_wrap]; omega
        have R3i : IntKind.i64.wrap (z3 : Int) = (z3 : Int) := wrap_in (by omega) (by omega)
        have HC : Hid (fvs (frAt f) (.slice va m vc) = [.int .i64 ((f 0 : Int) / 8 % 8), .bool g1, .bool g2, .bool g3, .int .i64 (z3 : Int), .int .i64 (tw f 2 : Nat), .int .i64 (tw f 4 : Nat), .int .i64 (tw f 6 : Nat), .int .i64 (tw f 8 : Nat), .slice va m vc]) := Lib.hid (by
          rw [hg1, hg2, hg3, hz1, hz2, hz3, hy1, hy2, hx]; rfl)
        have HDD : Hid ((frAt f).dat = bl (fun i => f (12 + i)) m) := Lib.hid (by rw [HM.out]; rfl)
        have lb : b < w.heap.size := H.out.1
        have k1' : (1 : Int) < (n : Int) := by omega
        have KC : Hid (∀ wa wb : World, (wa.cell? ⟨b, o + 1, none⟩ = some (.int .u8 (x : Int)) ∧ Below w.heap.size w wa ∧ w.heap.size + 1 < wa.heap.size ∧ wa.there (w.heap.size + 1) 0 10 ∧ Blk wa w.heap.size (fvs fr0 (.slice none 0 0)) ∧ Own wa wr.heap.size (.slice va m vc) (bl (fun i => f (12 + i)) m)) → Below wa.heap.size wa wb → (wb.cell? ⟨b, o + 1, none⟩ = some (.int .u8 (x : Int)) ∧ Below w.heap.size w wb ∧ w.heap.size + 1 < wb.heap.size ∧ wb.there (w.heap.size + 1) 0 10 ∧ Blk wb w.heap.size (fvs fr0 (.slice none 0 0)) ∧ Own wb wr.heap.size (.slice va m vc) (bl (fun i => f (12 + i)) m))) := Lib.hid fun wa wb d d2 =>
          ⟨(d2.cell (p := ⟨b, o + 1, none⟩) (by have := d.2.2.1; show b < _; omega)).trans d.1, bstep d.2.1 d2, Nat.lt_of_lt_of_le d.2.2.1 d2.size, there_below d.2.2.2.1 d.2.2.1 d2, d.2.2.2.2.1.below d2, own_below d.2.2.2.2.2 d2⟩
        have KD := Lib.hid (KC.out w8 _ ⟨by rw [hx]; exact (H.out.below B8.out).2.2 1 (by omega), B8.out, z8, NZ8.out.there, NR8.out, O8.out⟩ ((brefl w8).drew))
        have HN := Lib.hid (fun a (ha : a + 2 ≤ n) z (k : Below w.heap.size w z) => (two_c cap (H.out.below k) a ha hn).mono (R' := fun e w' => e = .returned (.int .i64 (tw f a : Nat)) ∧ Below z.heap.size z w') fun e w' ⟨h1, m, h2⟩ => ⟨h1, by rw [h2]; exact bdrew (brefl _) m⟩)
        clear hg1 hg2 hg3 hz1 hz2 hz3 hy1 hy2 hx NZ8 NR8 O8 B8 HM
        refine wp_region_noPanic ?_
        refine wp_region_held_drew (S := fun z => z.cell? ⟨b, o + 1, none⟩ = some (.int .u8 (x : Int)) ∧ Below w.heap.size w z ∧ w.heap.size + 1 < z.heap.size ∧ z.there (w.heap.size + 1) 0 10 ∧ Blk z w.heap.size (fvs fr0 (.slice none 0 0)) ∧ Own z wr.heap.size (.slice va m vc) (bl (fun i => f (12 + i)) m)) (by kernel_rfl) KD.out (fun hHeld => ?_)
        refine wpAnyH_take (i := 0) (v := ?_) rfl (by kernel_rfl) (by kernel_rfl) (by kernel_rfl) (fun _ _ _ h => h) (Or.inl ⟨by rfl, ?_⟩) hHeld ?_
        rotate_left
        · ((intro w hSw; (try dsimp only at hSw); go_simp); try with_reducible rfl)
        (try simp only [List.getElem_toArray, List.getElem_cons_succ, List.getElem_cons_zero, Act.put, List.setIfInBounds_toArray, List.set_cons_zero, List.set_cons_succ])
        refine wpAnyH_take (i := 1) (v := ?_) rfl (by kernel_rfl) (by kernel_rfl) (by kernel_rfl) (fun _ _ _ h => h) (Or.inl ⟨by rfl, ?_⟩) hHeld ?_
        rotate_left
        · ((intro w hSw; (try dsimp only at hSw); go_simp); try with_reducible rfl)
        (try simp only [List.getElem_toArray, List.getElem_cons_succ, List.getElem_cons_zero, Act.put, List.setIfInBounds_toArray, List.set_cons_zero, List.set_cons_succ])
        refine wpAnyH_take (i := 2) (v := ?_) rfl (by kernel_rfl) (by kernel_rfl) (by kernel_rfl) (fun _ _ _ h => h) (Or.inl ⟨by rfl, ?_⟩) hHeld ?_
        rotate_left
        · ((intro w hSw; (try dsimp only at hSw); go_simp); try with_reducible rfl)
        (try simp only [List.getElem_toArray, List.getElem_cons_succ, List.getElem_cons_zero, Act.put, List.setIfInBounds_toArray, List.set_cons_zero, List.set_cons_succ])
        refine wpAnyH_take (i := 3) (v := ?_) rfl (by kernel_rfl) (by kernel_rfl) (by kernel_rfl) (fun _ _ _ h => h) (Or.inl ⟨by rfl, ?_⟩) hHeld ?_
        rotate_left
        · ((intro w hSw; (try dsimp only at hSw); go_simp); try with_reducible rfl)
        (try simp only [List.getElem_toArray, List.getElem_cons_succ, List.getElem_cons_zero, Act.put, List.setIfInBounds_toArray, List.set_cons_zero, List.set_cons_succ])
        refine wpAnyH_take (i := 4) (v := ?_) rfl (by kernel_rfl) (by kernel_rfl) (by kernel_rfl) (fun _ _ _ h => h) (Or.inl ⟨by rfl, ?_⟩) hHeld ?_
        rotate_left
        · ((intro w hSw; (try dsimp only at hSw); go_simp); try with_reducible rfl)
        (try simp only [List.getElem_toArray, List.getElem_cons_succ, List.getElem_cons_zero, Act.put, List.setIfInBounds_toArray, List.set_cons_zero, List.set_cons_succ])
        refine wpAnyH_take (i := 5) (v := ?_) rfl (by kernel_rfl) (by kernel_rfl) (by kernel_rfl) (fun _ _ _ h => h) (Or.inl ⟨by rfl, ?_⟩) hHeld ?_
        rotate_left
        · ((intro w hSw; (try dsimp only at hSw); go_simp); try with_reducible rfl)
        (try simp only [List.getElem_toArray, List.getElem_cons_succ, List.getElem_cons_zero, Act.put, List.setIfInBounds_toArray, List.set_cons_zero, List.set_cons_succ])
        refine wpAnyH_take (i := 6) (v := ?_) rfl (by kernel_rfl) (by kernel_rfl) (by kernel_rfl) (fun _ _ _ h => h) (Or.inl ⟨by rfl, ?_⟩) hHeld ?_
        rotate_left
        · ((intro w hSw; (try dsimp only at hSw); go_simp); try with_reducible rfl)
        (try simp only [List.getElem_toArray, List.getElem_cons_succ, List.getElem_cons_zero, Act.put, List.setIfInBounds_toArray, List.set_cons_zero, List.set_cons_succ])
        refine wpAnyH_take (i := 7) (v := ?_) rfl (by kernel_rfl) (by kernel_rfl) (by kernel_rfl) (fun _ _ _ h => h) (Or.inl ⟨by rfl, ?_⟩) hHeld ?_
        rotate_left
        · ((intro w hSw; (try dsimp only at hSw); go_simp); try with_reducible rfl)
        (try simp only [List.getElem_toArray, List.getElem_cons_succ, List.getElem_cons_zero, Act.put, List.setIfInBounds_toArray, List.set_cons_zero, List.set_cons_succ])
        refine wpAnyH_take (i := 8) (v := ?_) rfl (by kernel_rfl) (by kernel_rfl) (by kernel_rfl) (fun _ _ _ h => h) (Or.inl ⟨by rfl, ?_⟩) hHeld ?_
        rotate_left
        · ((intro w hSw; (try dsimp only at hSw); go_simp); try with_reducible rfl)
        (try simp only [List.getElem_toArray, List.getElem_cons_succ, List.getElem_cons_zero, Act.put, List.setIfInBounds_toArray, List.set_cons_zero, List.set_cons_succ])
        refine wpAnyH_take (i := 9) (v := ?_) rfl (by kernel_rfl) (by kernel_rfl) (by kernel_rfl) (fun _ _ _ h => h) (Or.inl ⟨by rfl, ?_⟩) hHeld ?_
        rotate_left
        · ((intro w hSw; (try dsimp only at hSw); go_simp); try with_reducible rfl)
        (try simp only [List.getElem_toArray, List.getElem_cons_succ, List.getElem_cons_zero, Act.put, List.setIfInBounds_toArray, List.set_cons_zero, List.set_cons_succ])
        refine wpAnyH_take (i := 10) (v := ?_) rfl (by kernel_rfl) (by kernel_rfl) (by kernel_rfl) (fun _ _ _ h => h) (Or.inl ⟨by rfl, ?_⟩) hHeld ?_
        rotate_left
        · ((intro w hSw; (try dsimp only at hSw); go_simp); try with_reducible rfl)
        (try simp only [List.getElem_toArray, List.getElem_cons_succ, List.getElem_cons_zero, Act.put, List.setIfInBounds_toArray, List.set_cons_zero, List.set_cons_succ])
        refine wpAnyH_take (i := 11) (v := ?_) rfl (by kernel_rfl) (by kernel_rfl) (by kernel_rfl) (fun _ _ _ h => h) (Or.inl ⟨by rfl, ?_⟩) hHeld ?_
        rotate_left
        · ((intro w hSw; (try dsimp only at hSw); go_simp); try with_reducible rfl)
        (try simp only [List.getElem_toArray, List.getElem_cons_succ, List.getElem_cons_zero, Act.put, List.setIfInBounds_toArray, List.set_cons_zero, List.set_cons_succ])
        refine wpAnyH_take (i := 12) (v := ?_) rfl (by kernel_rfl) (by kernel_rfl) (by kernel_rfl) (fun _ _ _ h => h) (Or.inl ⟨by rfl, ?_⟩) hHeld ?_
        rotate_left
        · ((intro w hSw; (try dsimp only at hSw); go_simp); try with_reducible rfl)
        (try simp only [List.getElem_toArray, List.getElem_cons_succ, List.getElem_cons_zero, Act.put, List.setIfInBounds_toArray, List.set_cons_zero, List.set_cons_succ])
        refine wpAnyH_take (i := 13) (v := ?_) rfl (by kernel_rfl) (by kernel_rfl) (by kernel_rfl) (fun _ _ _ h => h) (Or.inl ⟨by rfl, ?_⟩) hHeld ?_
        rotate_left
        · ((intro w hSw; (try dsimp only at hSw); go_simp); try with_reducible rfl)
        (try simp only [List.getElem_toArray, List.getElem_cons_succ, List.getElem_cons_zero, Act.put, List.setIfInBounds_toArray, List.set_cons_zero, List.set_cons_succ])
        refine wpAnyH_take (i := 14) (v := ?_) rfl (by kernel_rfl) (by kernel_rfl) (by kernel_rfl) (fun _ _ _ h => h) (Or.inl ⟨by rfl, ?_⟩) hHeld ?_
        rotate_left
        · ((intro w hSw; (try dsimp only at hSw); go_simp); try with_reducible rfl)
        (try simp only [List.getElem_toArray, List.getElem_cons_succ, List.getElem_cons_zero, Act.put, List.setIfInBounds_toArray, List.set_cons_zero, List.set_cons_succ])
        refine wpAnyH_take (i := 15) (v := ?_) rfl (by kernel_rfl) (by kernel_rfl) (by kernel_rfl) (fun _ _ _ h => h) (Or.inl ⟨by rfl, ?_⟩) hHeld ?_
        rotate_left
        · ((intro w hSw; (try dsimp only at hSw); go_simp); try with_reducible rfl)
        (try simp only [List.getElem_toArray, List.getElem_cons_succ, List.getElem_cons_zero, Act.put, List.setIfInBounds_toArray, List.set_cons_zero, List.set_cons_succ])
        refine wpAnyH_take (i := 16) (v := ?_) rfl (by kernel_rfl) (by kernel_rfl) (by kernel_rfl) (fun _ _ _ h => h) (Or.inl ⟨by rfl, ?_⟩) hHeld ?_
        rotate_left
        · ((intro w hSw; (try dsimp only at hSw); go_simp); try with_reducible rfl)
        (try simp only [List.getElem_toArray, List.getElem_cons_succ, List.getElem_cons_zero, Act.put, List.setIfInBounds_toArray, List.set_cons_zero, List.set_cons_succ])
        refine wpAnyH_take (i := 17) (v := ?_) rfl (by kernel_rfl) (by kernel_rfl) (by kernel_rfl) (fun _ _ _ h => h) (Or.inl ⟨by rfl, ?_⟩) hHeld ?_
        rotate_left
        · ((intro w hSw; (try dsimp only at hSw); go_simp); try with_reducible rfl)
        (try simp only [List.getElem_toArray, List.getElem_cons_succ, List.getElem_cons_zero, Act.put, List.setIfInBounds_toArray, List.set_cons_zero, List.set_cons_succ])
        refine wpAnyH_take (i := 18) (v := ?_) rfl (by kernel_rfl) (by kernel_rfl) (by kernel_rfl) (fun _ _ _ h => h) (Or.inl ⟨by rfl, ?_⟩) hHeld ?_
        rotate_left
        · ((intro w hSw; (try dsimp only at hSw); go_simp); try with_reducible rfl)
        (try simp only [List.getElem_toArray, List.getElem_cons_succ, List.getElem_cons_zero, Act.put, List.setIfInBounds_toArray, List.set_cons_zero, List.set_cons_succ])
        refine wpAnyH_take (i := 19) (v := ?_) rfl (by kernel_rfl) (by kernel_rfl) (by kernel_rfl) (fun _ _ _ h => h) (Or.inl ⟨by rfl, ?_⟩) hHeld ?_
        rotate_left
        · ((intro w hSw; (try dsimp only at hSw); go_simp); try with_reducible rfl)
        (try simp only [List.getElem_toArray, List.getElem_cons_succ, List.getElem_cons_zero, Act.put, List.setIfInBounds_toArray, List.set_cons_zero, List.set_cons_succ])
        refine wpAnyH_take (i := 20) (v := ?_) rfl (by kernel_rfl) (by kernel_rfl) (by kernel_rfl) (fun _ _ _ h => h) (Or.inl ⟨by rfl, ?_⟩) hHeld ?_
        rotate_left
        · ((intro w hSw; (try dsimp only at hSw); go_simp); try with_reducible rfl)
        (try simp only [List.getElem_toArray, List.getElem_cons_succ, List.getElem_cons_zero, Act.put, List.setIfInBounds_toArray, List.set_cons_zero, List.set_cons_succ])
        refine wpAnyH_take (i := 21) (v := ?_) rfl (by kernel_rfl) (by kernel_rfl) (by kernel_rfl) (fun _ _ _ h => h) (Or.inl ⟨by rfl, ?_⟩) hHeld ?_
        rotate_left
        · ((intro w hSw; (try dsimp only at hSw); go_simp); try with_reducible rfl)
        (try simp only [List.getElem_toArray, List.getElem_cons_succ, List.getElem_cons_zero, Act.put, List.setIfInBounds_toArray, List.set_cons_zero, List.set_cons_succ])
        refine wpAnyH_take (i := 22) (v := ?_) rfl (by kernel_rfl) (by kernel_rfl) (by kernel_rfl) (fun _ _ _ h => h) (Or.inl ⟨by rfl, ?_⟩) hHeld ?_
        rotate_left
        · ((intro w hSw; (try dsimp only at hSw); go_simp); try with_reducible rfl)
        (try simp only [List.getElem_toArray, List.getElem_cons_succ, List.getElem_cons_zero, Act.put, List.setIfInBounds_toArray, List.set_cons_zero, List.set_cons_succ])
        refine wpAnyH_take (i := 24) (v := ?_) rfl (by kernel_rfl) (by kernel_rfl) (by kernel_rfl) (fun _ _ _ h => h) (Or.inl ⟨by rfl, ?_⟩) hHeld ?_
        rotate_left
        · ((intro w hSw; (try dsimp only at hSw); go_simp); try with_reducible rfl)
        (try simp only [List.getElem_toArray, List.getElem_cons_succ, List.getElem_cons_zero, Act.put, List.setIfInBounds_toArray, List.set_cons_zero, List.set_cons_succ])
        refine wpAnyH_take (i := 26) (v := ?_) rfl (by kernel_rfl) (by kernel_rfl) (by kernel_rfl) (fun _ _ _ h => h) (Or.inl ⟨by rfl, ?_⟩) hHeld ?_
        rotate_left
        · ((intro w hSw; (try dsimp only at hSw); go_simp); try with_reducible rfl)
        (try simp only [List.getElem_toArray, List.getElem_cons_succ, List.getElem_cons_zero, Act.put, List.setIfInBounds_toArray, List.set_cons_zero, List.set_cons_succ])
        refine wpAnyH_take (i := 28) (v := ?_) rfl (by kernel_rfl) (by kernel_rfl) (by kernel_rfl) (fun _ _ _ h => h) (Or.inl ⟨by rfl, ?_⟩) hHeld ?_
        rotate_left
        · ((intro w hSw; (try dsimp only at hSw); go_simp); try with_reducible rfl)
        (try simp only [List.getElem_toArray, List.getElem_cons_succ, List.getElem_cons_zero, Act.put, List.setIfInBounds_toArray, List.set_cons_zero, List.set_cons_succ])
        refine wpAnyH_take (i := 30) (v := ?_) rfl (by kernel_rfl) (by kernel_rfl) (by kernel_rfl) (fun _ _ _ h => h) (Or.inl ⟨by rfl, ?_⟩) hHeld ?_
        rotate_left
        · ((intro w hSw; (try dsimp only at hSw); go_simp); try with_reducible rfl)
        (try simp only [List.getElem_toArray, List.getElem_cons_succ, List.getElem_cons_zero, Act.put, List.setIfInBounds_toArray, List.set_cons_zero, List.set_cons_succ])
        refine wpAnyH_ready (rs := [23]) (by kernel_rfl) (by simp) (AllReadyH.cons rfl (fun KQ hKQ => ?_) AllReadyH.nil)
        go_simp
        refine (HN.out 2 (by omega) _ hHeld.2.1).mono ?_
        rintro e w' ⟨rfl, hb⟩
        have hx := KC.out _ _ hHeld hb
        clear hb
        go_wp2_with fail
        refine hKQ.out _ _ hx (fun hH2 => ?_)
        clear hx
        clear hKQ KQ hHeld
        have hHeld := hH2
        clear hH2
        (try simp only [List.getElem_toArray, List.getElem_cons_succ, List.getElem_cons_zero, Act.put, List.setIfInBounds_toArray, List.set_cons_zero, List.set_cons_succ])
        refine wpAnyH_ready (rs := [25]) (by kernel_rfl) (by simp) (AllReadyH.cons rfl (fun KQ hKQ => ?_) AllReadyH.nil)
        go_simp
        refine (HN.out 4 (by omega) _ hHeld.2.1).mono ?_
        rintro e w' ⟨rfl, hb⟩
        have hx := KC.out _ _ hHeld hb
        clear hb
        go_wp2_with fail
        refine hKQ.out _ _ hx (fun hH2 => ?_)
        clear hx
        clear hKQ KQ hHeld
        have hHeld := hH2
        clear hH2
        (try simp only [List.getElem_toArray, List.getElem_cons_succ, List.getElem_cons_zero, Act.put, List.setIfInBounds_toArray, List.set_cons_zero, List.set_cons_succ])
        refine wpAnyH_ready (rs := [27]) (by kernel_rfl) (by simp) (AllReadyH.cons rfl (fun KQ hKQ => ?_) AllReadyH.nil)
        go_simp
        refine (HN.out 6 (by omega) _ hHeld.2.1).mono ?_
        rintro e w' ⟨rfl, hb⟩
        have hx := KC.out _ _ hHeld hb
        clear hb
        go_wp2_with fail
        refine hKQ.out _ _ hx (fun hH2 => ?_)
        clear hx
        clear hKQ KQ hHeld
        have hHeld := hH2
        clear hH2
        (try simp only [List.getElem_toArray, List.getElem_cons_succ, List.getElem_cons_zero, Act.put, List.setIfInBounds_toArray, List.set_cons_zero, List.set_cons_succ])
        refine wpAnyH_ready (rs := [29]) (by kernel_rfl) (by simp) (AllReadyH.cons rfl (fun KQ hKQ => ?_) AllReadyH.nil)
        go_simp
        refine (HN.out 8 (by omega) _ hHeld.2.1).mono ?_
        rintro e w' ⟨rfl, hb⟩
        have hx := KC.out _ _ hHeld hb
        clear hb
        go_wp2_with fail
        refine hKQ.out _ _ hx (fun hH2 => ?_)
        clear hx
        clear hKQ KQ hHeld
        have hHeld := hH2
        clear hH2
        (try simp only [List.getElem_toArray, List.getElem_cons_succ, List.getElem_cons_zero, Act.put, List.setIfInBounds_toArray, List.set_cons_zero, List.set_cons_succ])
        refine wpAnyH_take (i := 31) (v := ?_) rfl (by kernel_rfl) (by kernel_rfl) (by kernel_rfl) (fun _ _ _ h => h) (Or.inl ⟨by rfl, ?_⟩) hHeld ?_
        rotate_left
        · ((intro w hSw; (try dsimp only at hSw); go_simp); try with_reducible rfl)
        (try simp only [List.getElem_toArray, List.getElem_cons_succ, List.getElem_cons_zero, Act.put, List.setIfInBounds_toArray, List.set_cons_zero, List.set_cons_succ])
        refine wpAnyH_ready (rs := [32]) (by kernel_rfl) (by simp) (AllReadyH.cons rfl (fun KQ hKQ => ?_) AllReadyH.nil)
        rw [if_pos (by rfl)]
        refine wp_store_mid 24 _ _ rfl _ 0 [.int .i64 ((f 0 : Int) / 8 % 8), .bool g1, .bool g2, .bool g3, .int .i64 (z3 : Int), .int .i64 (tw f 2 : Nat), .int .i64 (tw f 4 : Nat), .int .i64 (tw f 6 : Nat), .int .i64 (tw f 8 : Nat), .slice va m vc].toArray rfl rfl hHeld.2.2.2.1 info_fr (all_oneCell_toArray (fun v hv => ?_)) ?_
        rotate_left
        rw [List.toList_toArray]
        have RG := Lib.hid (World.rangeAt_setCells_same _ (w.heap.size + 1) 0 [.int .i64 ((f 0 : Int) / 8 % 8), .bool g1, .bool g2, .bool g3, .int .i64 (z3 : Int), .int .i64 (tw f 2 : Nat), .int .i64 (tw f 4 : Nat), .int .i64 (tw f 6 : Nat), .int .i64 (tw f 8 : Nat), .slice va m vc] hHeld.2.2.2.1)
        have BF := Lib.hid (below_over (Nat.le_succ _) [.int .i64 ((f 0 : Int) / 8 % 8), .bool g1, .bool g2, .bool g3, .int .i64 (z3 : Int), .int .i64 (tw f 2 : Nat), .int .i64 (tw f 4 : Nat), .int .i64 (tw f 6 : Nat), .int .i64 (tw f 8 : Nat), .slice va m vc] 0 hHeld.2.1)
        have NRF := Lib.hid (blk_over hHeld.2.2.2.2.1 (b' := w.heap.size + 1) (by omega) [.int .i64 ((f 0 : Int) / 8 % 8), .bool g1, .bool g2, .bool g3, .int .i64 (z3 : Int), .int .i64 (tw f 2 : Nat), .int .i64 (tw f 4 : Nat), .int .i64 (tw f 6 : Nat), .int .i64 (tw f 8 : Nat), .slice va m vc])
        have OWF := Lib.hid (show Own _ _ _ _ from row_over hHeld.2.2.2.2.2 (b := w.heap.size + 1) (by omega) [.int .i64 ((f 0 : Int) / 8 % 8), .bool g1, .bool g2, .bool g3, .int .i64 (z3 : Int), .int .i64 (tw f 2 : Nat), .int .i64 (tw f 4 : Nat), .int .i64 (tw f 6 : Nat), .int .i64 (tw f 8 : Nat), .slice va m vc])
        refine hKQ.out _ _ ⟨by rw [World.cell?_setCells_out (w.heap.size + 1) _ 0 _ ⟨b, o + 1, none⟩ (fun e _ => absurd e (by show ¬ b = _; omega))]; exact hHeld.1, BF.out, by rw [size_over]; exact hHeld.2.2.1, World.there_setCells hHeld.2.2.2.1 _ _ _, NRF.out, OWF.out⟩ (fun hH2 => ?_)
        clear hKQ KQ hHeld
        have hHeld := hH2
        clear hH2
        (try simp only [List.getElem_toArray, List.getElem_cons_succ, List.getElem_cons_zero, Act.put, List.setIfInBounds_toArray, List.set_cons_zero, List.set_cons_succ])
        refine wpAnyH_done (by kernel_rfl) ?_ _
        refine NoPanic.normal ?_
        go_wp2_with (first | (refine wpList_load_mid rfl 24 _ rfl _ 0 rfl [.int .i64 ((f 0 : Int) / 8 % 8), .bool g1, .bool g2, .bool g3, .int .i64 (z3 : Int), .int .i64 (tw f 2 : Nat), .int .i64 (tw f 4 : Nat), .int .i64 (tw f 6 : Nat), .int .i64 (tw f 8 : Nat), .slice va m vc] _ RG.out Try.underlying24 rfl (by exact info_fr) ?_) | (refine wpList_store_mid rfl 24 _ _ rfl _ 0 [.int .i64 ((f 0 : Int) / 8 % 8), .bool g1, .bool g2, .bool g3, .int .i64 (z3 : Int), .int .i64 (tw f 2 : Nat), .int .i64 (tw f 4 : Nat), .int .i64 (tw f 6 : Nat), .int .i64 (tw f 8 : Nat), .slice va m vc].toArray rfl rfl NRF.out.there info_fr (all_oneCell_toArray (by rw [← HC.out]; exact fvs_one _ _ rfl)) ?_))
        have NF := Lib.hid (NRF.out.over [.int .i64 ((f 0 : Int) / 8 % 8), .bool g1, .bool g2, .bool g3, .int .i64 (z3 : Int), .int .i64 (tw f 2 : Nat), .int .i64 (tw f 4 : Nat), .int .i64 (tw f 6 : Nat), .int .i64 (tw f 8 : Nat), .slice va m vc] rfl)
        have BF2 := Lib.hid (below_over (Nat.le_refl _) [.int .i64 ((f 0 : Int) / 8 % 8), .bool g1, .bool g2, .bool g3, .int .i64 (z3 : Int), .int .i64 (tw f 2 : Nat), .int .i64 (tw f 4 : Nat), .int .i64 (tw f 6 : Nat), .int .i64 (tw f 8 : Nat), .slice va m vc] 0 BF.out)
        have OF := Lib.hid (show Own _ _ _ _ from row_over OWF.out (b := w.heap.size) (by omega) [.int .i64 ((f 0 : Int) / 8 % 8), .bool g1, .bool g2, .bool g3, .int .i64 (z3 : Int), .int .i64 (tw f 2 : Nat), .int .i64 (tw f 4 : Nat), .int .i64 (tw f 6 : Nat), .int .i64 (tw f 8 : Nat), .slice va m vc])
        exact bodyPost_ret (v := .tuple #[.agg [.int .i64 ((f 0 : Int) / 8 % 8), .bool g1, .bool g2, .bool g3, .int .i64 (z3 : Int), .int .i64 (tw f 2 : Nat), .int .i64 (tw f 4 : Nat), .int .i64 (tw f 6 : Nat), .int .i64 (tw f 8 : Nat), .slice va m vc].toArray, .int .i64 0]) (results_cell_slot rfl _ _ w.heap.size _ _ _ rfl rfl NF.out.range Try.underlying24 rfl (by exact info_fr)) rfl ⟨⟨_, by rw [DE.out, DY.out, ← HC.out]; rfl, by rw [DY.out, HDD.out]; exact OF.out.le (by omega)⟩, BF2.out⟩
        rw [← HC.out] at hv
        exact fvs_one _ _ rfl v hv
theorem rDecode_any {w : World} {v : Value} {n : Nat} {f : Nat → Nat} (S : Sb w v n f) (hn : n ≤ 140737488351232) : Calls Try.prog 12 #[v] w fun e w' => PDec f n w e w' := by
  obtain ⟨a, cap, rfl, h1, h2, h3, h4, h5⟩ := S
  by_cases c : n < 12 ∨ n % 4 ≠ 0
  · exact rdec_short a n cap f hn c
  · obtain ⟨b, o, rfl, B⟩ := h4 (by omega)
    exact rdec_long B h1 h2 hn (by omega) (by omega)
end Go.Proofs.Yteigmnbbfmcihaa.Ct
