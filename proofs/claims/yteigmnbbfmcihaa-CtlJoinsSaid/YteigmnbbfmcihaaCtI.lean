/-
  The contract of ctl.Decode.
  Conditions: none.
-/
import Derived.Test.YteigmnbbfmcihaaCtH
namespace Go.Proofs.Yteigmnbbfmcihaa.Ct
open Go.RowKit Go.ChangeShapes Go.WideShapes Go.ChangeAt Go.Joins By
set_option linter.unusedVariables false
set_option linter.unusedSimpArgs false

/-- what Decode answers. -/
def PDec (f : Nat → Nat) (n : Nat) (w : World) (e : Ending) (w' : World) : Prop := (∃ dv, e = .returned (.tuple #[FV (dfr f n) dv, .int .i64 (derr f n)]) ∧ Own w' w.heap.size dv (dfr f n).dat) ∧ Below w.heap.size w w'
theorem pdec_err {f : Nat → Nat} {n : Nat} {w w' : World} {e : Int} (h : derr f n = e) (h0 : e ≠ 0) (hb : Below w.heap.size w w') : PDec f n w (.returned (.tuple #[.agg (fvs fr0 (.slice none 0 0)).toArray, .int .i64 e])) w' := by
  have d : dfr f n = fr0 := dfr_no (by rw [h]; exact h0)
  refine ⟨⟨.slice none 0 0, ?_, ?_⟩, hb⟩
  · rw [d, h]; rfl
  · rw [d]; exact Own.nil _ _
theorem zs_shift (f : Nat → Nat) (a m : Nat) : zs (fun i => f (a + i)) 0 m = zs f a m := by
  rw [Bool.eq_iff_iff, zs_iff, zs_iff]
  simp
theorem dec_short {w : World} (a : Option Addr) (n cap : Nat) (f : Nat → Nat) (hn : n ≤ 140737488351232) (h : n < 12 ∨ n % 4 ≠ 0) : Calls Try.prog 11 #[.slice a n cap] w fun e w' => PDec f n w e w' := by
  have n0 : (0 : Int) ≤ (n : Int) := by omega
  have n1 : (n : Int) ≤ 140737488351232 := by omega
  have q : (n : Int).tmod 4 = (n : Int) % 4 := Int.tmod_eq_emod_of_nonneg (by omega)
  have T := Lib.hid h
  go_enter Try.func11, Try.ntmps11
  go_upto_region 1 with fail
  have N := Lib.hid (Blk.new' w #[.int .i64 0, .bool false, .bool false, .bool false, .int .i64 0, .int .i64 0, .int .i64 0, .int .i64 0, .int .i64 0, .slice none 0 0] 24)
  have B0 := Lib.hid (balloc (brefl w) (.cells #[.int .i64 0, .bool false, .bool false, .bool false, .int .i64 0, .int .i64 0, .int .i64 0, .int .i64 0, .int .i64 0, .slice none 0 0] 24))
  generalize w.alloc (.cells #[.int .i64 0, .bool false, .bool false, .bool false, .int .i64 0, .int .i64 0, .int .i64 0, .int .i64 0, .int .i64 0, .slice none 0 0] 24) = w1 at *
  by_cases c : n < 12
  · have e1 : decide ((n : Int) < 12) = true := decide_eq_true (by omega)
    clear h
    have DE : Hid (derr f n = 20) := Lib.hid (by unfold derr; rw [if_pos (by exact T.out)])
    have NF := Lib.hid (N.out.over (fvs fr0 (.slice none 0 0)) rfl)
    have BF := Lib.hid (below_over (Nat.le_refl _) (fvs fr0 (.slice none 0 0)) 0 B0.out)
    go_upto_region 2 with fail
    go_wp2_with (refine wpList_store_mid rfl 24 _ _ rfl _ 0 (fvs fr0 (.slice none 0 0)).toArray rfl rfl N.out.there info_fr (all_oneCell_toArray (fvs_one _ _ rfl)) ?_)
    exact bodyPost_ret (v := .tuple #[.agg (fvs fr0 (.slice none 0 0)).toArray, .int .i64 20]) (results_cell_slot rfl _ _ w.heap.size _ _ _ rfl rfl NF.out.range Try.underlying24 rfl (by rw [fvs_len]; exact info_fr)) rfl (pdec_err DE.out (by decide) BF.out)
  · have e1 : decide ((n : Int) < 12) = false := decide_eq_false (by omega)
    have e2 : ((n : Int) % 4 != 0) = true := by simp; omega
    clear h
    have DE : Hid (derr f n = 20) := Lib.hid (by unfold derr; rw [if_pos (by exact T.out)])
    have NF := Lib.hid (N.out.over (fvs fr0 (.slice none 0 0)) rfl)
    have BF := Lib.hid (below_over (Nat.le_refl _) (fvs fr0 (.slice none 0 0)) 0 B0.out)
    go_upto_region 2 with fail
    go_wp2_with (refine wpList_store_mid rfl 24 _ _ rfl _ 0 (fvs fr0 (.slice none 0 0)).toArray rfl rfl N.out.there info_fr (all_oneCell_toArray (fvs_one _ _ rfl)) ?_)
    exact bodyPost_ret (v := .tuple #[.agg (fvs fr0 (.slice none 0 0)).toArray, .int .i64 20]) (results_cell_slot rfl _ _ w.heap.size _ _ _ rfl rfl NF.out.range Try.underlying24 rfl (by rw [fvs_len]; exact info_fr)) rfl (pdec_err DE.out (by decide) BF.out)
set_option maxRecDepth 100000 in
set_option maxHeartbeats 16000000 in
theorem dec_long {w : World} {b o n cap : Nat} {f : Nat → Nat} (H0 : Bs w b o n f) (hc : n ≤ cap) (hc2 : cap ≤ 9223372036854775807) (hn : n ≤ 140737488351232) (h12 : 12 ≤ n) (h4 : n % 4 = 0) : Calls Try.prog 11 #[.slice (some ⟨b, o, none⟩) n cap] w fun e w' => PDec f n w e w' := by
  have H := Lib.hid H0
  have n0 : (12 : Int) ≤ (n : Int) := by omega
  have n1 : (n : Int) ≤ 140737488351232 := by omega
  have q : (n : Int).tmod 4 = (n : Int) % 4 := Int.tmod_eq_emod_of_nonneg (by omega)
  have e1 : decide ((n : Int) < 12) = false := decide_eq_false (by omega)
  have e2 : ((n : Int) % 4 != 0) = false := by simp; omega
  have T0 : Hid (¬ (n < 12 ∨ n % 4 ≠ 0)) := Lib.hid (by omega)
  have q1 : (n : Int) ≤ (cap : Int) := by omega
  have q2 : (cap : Int) ≤ 9223372036854775807 := by omega
  have x0 := H0.2.1 0
  have HV := Lib.hid (fun z (k : Below w.heap.size w z) => version_c cap (H0.below k) (by omega))
  have HI := Lib.hid (fun z => isVersion_c ((f 0 / 8 % 8 : Nat) : Int) z)
  have HL := Lib.hid (fun z (k : Below w.heap.size w z) => dataLength_c (H0.below k) h12 hc hc2)
  have c0 := H0.2.2 0 (by omega)
  rw [Nat.add_zero] at c0
  clear H0
  go_enter Try.func11, Try.ntmps11
  go_upto_region 1 with fail
  have N := Lib.hid (Blk.new' w #[.int .i64 0, .bool false, .bool false, .bool false, .int .i64 0, .int .i64 0, .int .i64 0, .int .i64 0, .int .i64 0, .slice none 0 0] 24)
  have B0 := Lib.hid (balloc (brefl w) (.cells #[.int .i64 0, .bool false, .bool false, .bool false, .int .i64 0, .int .i64 0, .int .i64 0, .int .i64 0, .int .i64 0, .slice none 0 0] 24))
  generalize w.alloc (.cells #[.int .i64 0, .bool false, .bool false, .bool false, .int .i64 0, .int .i64 0, .int .i64 0, .int .i64 0, .int .i64 0, .slice none 0 0] 24) = w1 at *
  have c0 : w1.cell? ⟨b, o, none⟩ = some (.int .u8 (f 0 : Int)) := by have := (H.out.below B0.out).2.2 0 (by omega); rwa [Nat.add_zero] at this
  have d0 : (0 : Int) ≤ (f 0 : Int) := by omega
  have d1 : (f 0 : Int) < 256 := by omega
  by_cases a2 : f 0 % 8 = 6
  case neg =>
    have e3 : ((f 0 : Int) % 8 != 6) = true := by simp; omega
    have T1 := Lib.hid a2
    clear a2 HV HI HL
    have DE : Hid (derr f n = 24) := Lib.hid (by unfold derr; rw [if_neg (by first | exact T0.out | omega), if_pos (by exact T1.out)])
    have NF := Lib.hid (N.out.over (fvs fr0 (.slice none 0 0)) rfl)
    have BF := Lib.hid (below_over (Nat.le_refl _) (fvs fr0 (.slice none 0 0)) 0 B0.out)
    go_upto_region 4 with fail
    go_wp2_with (refine wpList_store_mid rfl 24 _ _ rfl _ 0 (fvs fr0 (.slice none 0 0)).toArray rfl rfl N.out.there info_fr (all_oneCell_toArray (fvs_one _ _ rfl)) ?_)
    exact bodyPost_ret (v := .tuple #[.agg (fvs fr0 (.slice none 0 0)).toArray, .int .i64 24]) (results_cell_slot rfl _ _ w.heap.size _ _ _ rfl rfl NF.out.range Try.underlying24 rfl (by rw [fvs_len]; exact info_fr)) rfl (pdec_err DE.out (by decide) BF.out)
  have e3 : ((f 0 : Int) % 8 != 6) = false := by simp; omega
  have T1 : Hid (¬ f 0 % 8 ≠ 6) := Lib.hid (by omega)
  clear a2
  go_wp2_with fail
  refine (HV.out _ B0.out).mono ?_
  rintro e w1 ⟨rfl, rfl⟩
  go_wp2_with fail
  refine (HI.out _).mono ?_
  rintro e w1 ⟨rfl, rfl⟩
  by_cases a3 : 1 ≤ f 0 / 8 % 8 ∧ f 0 / 8 % 8 ≤ 4
  case neg =>
    have e4 : btw ((f 0 / 8 % 8 : Nat) : Int) 1 4 = false := by
      cases q : btw ((f 0 / 8 % 8 : Nat) : Int) 1 4 with
      | false => rfl
      | true => rw [btw_iff] at q; omega
    rw [e4]
    have T2 := Lib.hid a3
    clear a3 HV HI HL
    have DE : Hid (derr f n = 22) := Lib.hid (by unfold derr; rw [if_neg (by first | exact T0.out | omega), if_neg (by first | exact T1.out | omega), if_pos (by exact T2.out)])
    have NF := Lib.hid (N.out.over (fvs fr0 (.slice none 0 0)) rfl)
    have BF := Lib.hid (below_over (Nat.le_refl _) (fvs fr0 (.slice none 0 0)) 0 B0.out)
    go_upto_region 6 with fail
    go_wp2_with (refine wpList_store_mid rfl 24 _ _ rfl _ 0 (fvs fr0 (.slice none 0 0)).toArray rfl rfl N.out.there info_fr (all_oneCell_toArray (fvs_one _ _ rfl)) ?_)
    exact bodyPost_ret (v := .tuple #[.agg (fvs fr0 (.slice none 0 0)).toArray, .int .i64 22]) (results_cell_slot rfl _ _ w.heap.size _ _ _ rfl rfl NF.out.range Try.underlying24 rfl (by rw [fvs_len]; exact info_fr)) rfl (pdec_err DE.out (by decide) BF.out)
  have e4 : btw ((f 0 / 8 % 8 : Nat) : Int) 1 4 = true := btw_iff.2 (by omega)
  rw [e4]
  have T2 : Hid (¬ ¬ (1 ≤ f 0 / 8 % 8 ∧ f 0 / 8 % 8 ≤ 4)) := Lib.hid (by omega)
  clear a3 HV HI e4
  go_wp2_with fail
  refine (HL.out _ B0.out).mono ?_
  rintro e w2 ⟨rfl, m9, rfl⟩
  have N2 := Lib.hid (N.out.below (bdrew (brefl w1) m9))
  have B2 := Lib.hid (bdrew B0.out m9)
  generalize w1.drewN m9 = w2 at *
  have c0 : w2.cell? ⟨b, o, none⟩ = some (.int .u8 (f 0 : Int)) := by have := (H.out.below B2.out).2.2 0 (by omega); rwa [Nat.add_zero] at this
  have tw9 : tw f 10 ≤ 65535 := by have := H.out.2.1 10; have := H.out.2.1 11; show f 10 * 256 + f 11 ≤ 65535; omega
  obtain ⟨m, hm⟩ : ∃ m, m = tw f 10 := ⟨_, rfl⟩
  have HM := Lib.hid hm
  rw [← hm]
  rw [← hm] at tw9
  have HFL := Lib.hid (fun z => frameLength_c m tw9 z)
  have m0 : (0 : Int) ≤ (m : Int) := by omega
  have m1 : (m : Int) ≤ 65535 := by omega
  clear hm HL N B0
  by_cases a4 : 64 ≤ f 0
  case pos =>
    have e5 : ((f 0 : Int) / 64 != 0) = true := by simp; omega
    have T3 := Lib.hid a4
    clear a4
    have DE : Hid (derr f n = 3) := Lib.hid (by unfold derr; rw [if_neg (by first | exact T0.out | omega), if_neg (by first | exact T1.out | omega), if_neg (by first | exact T2.out | omega), if_pos (by exact Or.inl T3.out)])
    have NF := Lib.hid (N2.out.over (fvs fr0 (.slice none 0 0)) rfl)
    have BF := Lib.hid (below_over (Nat.le_refl _) (fvs fr0 (.slice none 0 0)) 0 B2.out)
    go_upto_region 9 with fail
    go_wp2_with (refine wpList_store_mid rfl 24 _ _ rfl _ 0 (fvs fr0 (.slice none 0 0)).toArray rfl rfl N2.out.there info_fr (all_oneCell_toArray (fvs_one _ _ rfl)) ?_)
    exact bodyPost_ret (v := .tuple #[.agg (fvs fr0 (.slice none 0 0)).toArray, .int .i64 3]) (results_cell_slot rfl _ _ w.heap.size _ _ _ rfl rfl NF.out.range Try.underlying24 rfl (by rw [fvs_len]; exact info_fr)) rfl (pdec_err DE.out (by decide) BF.out)
  have e5 : ((f 0 : Int) / 64 != 0) = false := by simp; omega
  by_cases a5 : 468 < m
  case pos =>
    have e6 : decide ((468 : Int) < (m : Int)) = true := decide_eq_true (by omega)
    have T3 := Lib.hid (show 64 ≤ f 0 ∨ 468 < tw f 10 ∨ n ≠ 12 + (tw f 10 + 3) / 4 * 4 by rw [← HM.out]; omega)
    clear a4 a5
    have DE : Hid (derr f n = 3) := Lib.hid (by unfold derr; rw [if_neg (by first | exact T0.out | omega), if_neg (by first | exact T1.out | omega), if_neg (by first | exact T2.out | omega), if_pos (by exact T3.out)])
    have NF := Lib.hid (N2.out.over (fvs fr0 (.slice none 0 0)) rfl)
    have BF := Lib.hid (below_over (Nat.le_refl _) (fvs fr0 (.slice none 0 0)) 0 B2.out)
    go_upto_region 9 with fail
    go_wp2_with (refine wpList_store_mid rfl 24 _ _ rfl _ 0 (fvs fr0 (.slice none 0 0)).toArray rfl rfl N2.out.there info_fr (all_oneCell_toArray (fvs_one _ _ rfl)) ?_)
    exact bodyPost_ret (v := .tuple #[.agg (fvs fr0 (.slice none 0 0)).toArray, .int .i64 3]) (results_cell_slot rfl _ _ w.heap.size _ _ _ rfl rfl NF.out.range Try.underlying24 rfl (by rw [fvs_len]; exact info_fr)) rfl (pdec_err DE.out (by decide) BF.out)
  have e6 : decide ((468 : Int) < (m : Int)) = false := decide_eq_false (by omega)
  go_wp2_with fail
  refine (HFL.out _).mono ?_
  rintro e w2 ⟨rfl, rfl⟩
  by_cases a6 : n = 12 + (m + 3) / 4 * 4
  case neg =>
    have e7 : ((n : Int) != ((12 + (m + 3) / 4 * 4 : Nat) : Int)) = true := by simp; omega
    have T3 := Lib.hid (show 64 ≤ f 0 ∨ 468 < tw f 10 ∨ n ≠ 12 + (tw f 10 + 3) / 4 * 4 by rw [← HM.out]; omega)
    clear a4 a5 a6
    generalize ((12 + (m + 3) / 4 * 4 : Nat) : Int) = FL at *
    have DE : Hid (derr f n = 3) := Lib.hid (by unfold derr; rw [if_neg (by first | exact T0.out | omega), if_neg (by first | exact T1.out | omega), if_neg (by first | exact T2.out | omega), if_pos (by exact T3.out)])
    have NF := Lib.hid (N2.out.over (fvs fr0 (.slice none 0 0)) rfl)
    have BF := Lib.hid (below_over (Nat.le_refl _) (fvs fr0 (.slice none 0 0)) 0 B2.out)
    go_upto_region 9 with fail
    go_wp2_with (refine wpList_store_mid rfl 24 _ _ rfl _ 0 (fvs fr0 (.slice none 0 0)).toArray rfl rfl N2.out.there info_fr (all_oneCell_toArray (fvs_one _ _ rfl)) ?_)
    exact bodyPost_ret (v := .tuple #[.agg (fvs fr0 (.slice none 0 0)).toArray, .int .i64 3]) (results_cell_slot rfl _ _ w.heap.size _ _ _ rfl rfl NF.out.range Try.underlying24 rfl (by rw [fvs_len]; exact info_fr)) rfl (pdec_err DE.out (by decide) BF.out)
  have e7 : ((n : Int) != ((12 + (m + 3) / 4 * 4 : Nat) : Int)) = false := by simp; omega
  have T3 : Hid (¬ (64 ≤ f 0 ∨ 468 < tw f 10 ∨ n ≠ 12 + (tw f 10 + 3) / 4 * 4)) := Lib.hid (by rw [← HM.out]; omega)
  have m468 : (m : Int) ≤ 468 := by omega
  have mn : (12 : Int) + (m : Int) ≤ (n : Int) := by omega
  have NM := Lib.hid (show 12 + m ≤ n by omega)
  clear a4 a5 a6
  generalize ((12 + (m + 3) / 4 * 4 : Nat) : Int) = FL at *
  go_upto_region 10 with fail
  have HZ : Hid (∀ ad cp, (0 < n - (12 + m) → ad = some ⟨b, o + (12 + m), none⟩) → Calls Try.prog 27 #[.slice ad (n - (12 + m)) cp] w2 fun e w' => e = .returned (.bool (zs f (12 + m) (n - (12 + m)))) ∧ w' = w2) := Lib.hid fun ad cp ha => by
    have := areNoughts_c (w := w2) (ad := ad) (n := n - (12 + m)) (cap := cp) (f := fun i => f (12 + m + i)) (fun i => H.out.2.1 _) (fun h0 => ⟨b, o + (12 + m), ha h0, (H.out.below B2.out).part (12 + m) (n - (12 + m)) (by have := NM.out; omega)⟩) (by omega)
    rwa [zs_shift] at this
  have HF : Hid (Calls Try.prog 28 #[.slice (some ⟨b, o, none⟩) n cap] w2 fun e w' => e = .returned (FV (frAt f) (.slice none 0 0)) ∧ Below w2.heap.size w2 w') := Lib.hid (front_c (H.out.below B2.out) h12 hc hc2)
  have HD : Hid ((frAt f).dat = bl (fun i => f (12 + i)) m) := Lib.hid (by rw [HM.out]; rfl)
  have DY := Lib.hid (fun (h : derr f n = 0) => dfr_yes h)
  obtain ⟨q', hq'⟩ : ∃ q', q' = frAt f := ⟨_, rfl⟩
  rw [← hq'] at HF HD DY
  clear hq' e1 e2 e3 d0 d1 c0 e5 e6 e7 q
  rename Fr => q
  have CS : Hid (∀ z b' o' cp, Below w.heap.size w z → (0 < m → b' = b ∧ o' = o + 12) → m ≤ cp → cp ≤ 9223372036854775807 → Calls Try.prog 29 #[.slice (some ⟨b', o', none⟩) m cp] z fun e w' => (∃ v, e = .returned v ∧ Own w' z.heap.size v (bl (fun i => f (12 + i)) m) ∧ v ≠ .slice none 0 0) ∧ Below z.heap.size z w') := Lib.hid fun z b' o' cp k hb h1 h2 =>
    Clone_c (sb_sl ⟨_, cp, rfl, h1, h2, fun i => H.out.2.1 _, fun h0 => ⟨b', o', rfl, by obtain ⟨e1, e2⟩ := hb h0; rw [e1, e2]; exact (H.out.below k).part 12 m (by have := NM.out; omega)⟩, fun e => by cases e⟩ (by omega))
  have LT : Hid (w.heap.size < w2.heap.size) := Lib.hid N2.out.1
  have wz : w.heap.size < w2.heap.size := LT.out
  have HZ0 : Hid (∀ ad cp, Calls Try.prog 27 #[.slice ad 0 cp] w2 fun e w' => e = .returned (.bool true) ∧ w' = w2) := Lib.hid fun ad cp =>
    areNoughts_c (w := w2) (ad := ad) (n := 0) (cap := cp) (f := fun i => f i) (fun i => H.out.2.1 _) (fun h0 => absurd h0 (by omega)) (by omega)
  by_cases cq : cap = 12 + m
  · have T4 : Hid (¬ zs f (12 + tw f 10) (n - (12 + tw f 10)) = false) := Lib.hid (by
      have : n - (12 + m) = 0 := by omega
      rw [← HM.out, this]; simp [zs])
    have DE : Hid (derr f n = 0) := Lib.hid (by unfold derr; rw [if_neg T0.out, if_neg T1.out, if_neg T2.out, if_neg T3.out, if_neg T4.out])
    clear T0 T1 T2 T3 T4 HZ
    have HZ := HZ0
    clear HZ0
    by_cases cr : cap = 12
    · obtain rfl : m = 0 := by have := NM.out; omega
      subst cr
      clear cq
      go_wp2_with fail
      refine (HZ.out _ _).mono ?_
      rintro e w2 ⟨rfl, rfl⟩
      go_wp2_with fail
      refine HF.out.mono ?_
      rintro e w3 ⟨rfl, hb⟩
      have N3 := Lib.hid ((N2.out.below hb).below (balloc (brefl w3) (.cells #[.int .i64 q.ver, .bool q.resp, .bool q.er, .bool q.more, .int .i64 q.op, .int .i64 q.seq, .int .i64 q.st, .int .i64 q.asc, .int .i64 q.off, .slice none 0 0] 24)))
      have B3 := Lib.hid (bstep (bstep B2.out hb) (balloc (brefl w3) (.cells #[.int .i64 q.ver, .bool q.resp, .bool q.er, .bool q.more, .int .i64 q.op, .int .i64 q.seq, .int .i64 q.st, .int .i64 q.asc, .int .i64 q.off, .slice none 0 0] 24)))
      have M3 : Hid (Blk (w3.alloc (.cells #[.int .i64 q.ver, .bool q.resp, .bool q.er, .bool q.more, .int .i64 q.op, .int .i64 q.seq, .int .i64 q.st, .int .i64 q.asc, .int .i64 q.off, .slice none 0 0] 24)) w3.heap.size (fvs q (.slice none 0 0))) := Lib.hid (Blk.new' w3 #[.int .i64 q.ver, .bool q.resp, .bool q.er, .bool q.more, .int .i64 q.op, .int .i64 q.seq, .int .i64 q.st, .int .i64 q.asc, .int .i64 q.off, .slice none 0 0] 24)
      have z3 : w.heap.size < w3.heap.size := Nat.lt_of_lt_of_le wz hb.size
      clear HF HZ hb N2 B2
      go_upto_region 13 with fail
      generalize w3.alloc (.cells #[.int .i64 q.ver, .bool q.resp, .bool q.er, .bool q.more, .int .i64 q.op, .int .i64 q.seq, .int .i64 q.st, .int .i64 q.asc, .int .i64 q.off, .slice none 0 0] 24) = w4 at *
      generalize w3.heap.size = b5 at *
      go_wp2_with fail
      refine (CS.out _ _ _ _ B3.out (fun h => by first | exact ⟨rfl, rfl⟩ | omega) (by omega) (by omega)).mono ?_
      rintro e w5 ⟨⟨v, rfl, ov, _⟩, hb⟩
      obtain ⟨va, vc, rfl⟩ := own_form ov
      rw [bl_len] at ov
      simp only [bl_len]
      have N5 := Lib.hid (N3.out.below hb)
      have M5 := Lib.hid (M3.out.below hb)
      have B5 := Lib.hid (bstep B3.out hb)
      have y9 : w5.cell? ⟨b5, 9, none⟩ = some (.slice none 0 0) := (M5.out.2 9 _ rfl).1
      have u9 : w5.frozen? ⟨b5, 9, none⟩ = false := (M5.out.2 9 _ rfl).2
      have l4 : b5 < w4.heap.size := M3.out.1
      have M6 : Hid (Blk (w5.setCell ⟨b5, 9, none⟩ (.slice va 0 vc)) b5 (fvs q (.slice va 0 vc))) := Lib.hid (blk_set M5.out 9 _)
      have N6 := Lib.hid (blk_other N5.out (b' := b5) (Nat.ne_of_lt z3) 9 (.slice va 0 vc))
      have B6 := Lib.hid (below_set B5.out (Nat.le_of_lt z3) 9 (.slice va 0 vc))
      have O6 := Lib.hid (show Own _ _ _ _ from row_set (v := .slice va 0 vc) ov (b := b5) (fun q => by have := (Own.block ov) b5 q; omega) 9 (.slice va 0 vc))
      clear M3 N3 B3 CS hb ov M5 N5 B5
      go_upto_region 14 with fail
      clear y9 u9
      generalize w5.setCell ⟨b5, 9, none⟩ (.slice va 0 vc) = w6 at *
      have NF := Lib.hid (N6.out.over (fvs q (.slice va 0 vc)) rfl)
      have BF := Lib.hid (below_over (Nat.le_refl _) (fvs q (.slice va 0 vc)) 0 B6.out)
      have OF := Lib.hid (show Own _ _ _ _ from row_over O6.out (b := w.heap.size) (by omega) (fvs q (.slice va 0 vc)))
      go_wp2_with (first | (refine wpList_load_mid rfl 24 _ rfl _ 0 rfl (fvs q (.slice va 0 vc)) _ M6.out.range Try.underlying24 rfl (by rw [fvs_len]; exact info_fr) ?_) | (refine wpList_store_mid rfl 24 _ _ rfl _ 0 (fvs q (.slice va 0 vc)).toArray rfl rfl N6.out.there info_fr (all_oneCell_toArray (fvs_one _ _ rfl)) ?_))
      exact bodyPost_ret (v := .tuple #[.agg (fvs q (.slice va 0 vc)).toArray, .int .i64 0]) (results_cell_slot rfl _ _ w.heap.size _ _ _ rfl rfl NF.out.range Try.underlying24 rfl (by rw [fvs_len]; exact info_fr)) rfl ⟨⟨_, by rw [DE.out, DY.out DE.out]; rfl, by rw [DY.out DE.out, HD.out]; exact OF.out.le (by omega)⟩, BF.out⟩
    · subst cq
      have cr' : ¬ m = 0 := by omega
      go_wp2_with fail
      refine (HZ.out _ _).mono ?_
      rintro e w2 ⟨rfl, rfl⟩
      go_wp2_with fail
      refine HF.out.mono ?_
      rintro e w3 ⟨rfl, hb⟩
      have N3 := Lib.hid ((N2.out.below hb).below (balloc (brefl w3) (.cells #[.int .i64 q.ver, .bool q.resp, .bool q.er, .bool q.more, .int .i64 q.op, .int .i64 q.seq, .int .i64 q.st, .int .i64 q.asc, .int .i64 q.off, .slice none 0 0] 24)))
      have B3 := Lib.hid (bstep (bstep B2.out hb) (balloc (brefl w3) (.cells #[.int .i64 q.ver, .bool q.resp, .bool q.er, .bool q.more, .int .i64 q.op, .int .i64 q.seq, .int .i64 q.st, .int .i64 q.asc, .int .i64 q.off, .slice none 0 0] 24)))
      have M3 : Hid (Blk (w3.alloc (.cells #[.int .i64 q.ver, .bool q.resp, .bool q.er, .bool q.more, .int .i64 q.op, .int .i64 q.seq, .int .i64 q.st, .int .i64 q.asc, .int .i64 q.off, .slice none 0 0] 24)) w3.heap.size (fvs q (.slice none 0 0))) := Lib.hid (Blk.new' w3 #[.int .i64 q.ver, .bool q.resp, .bool q.er, .bool q.more, .int .i64 q.op, .int .i64 q.seq, .int .i64 q.st, .int .i64 q.asc, .int .i64 q.off, .slice none 0 0] 24)
      have z3 : w.heap.size < w3.heap.size := Nat.lt_of_lt_of_le wz hb.size
      clear HF HZ hb N2 B2
      go_upto_region 13 with fail
      generalize w3.alloc (.cells #[.int .i64 q.ver, .bool q.resp, .bool q.er, .bool q.more, .int .i64 q.op, .int .i64 q.seq, .int .i64 q.st, .int .i64 q.asc, .int .i64 q.off, .slice none 0 0] 24) = w4 at *
      generalize w3.heap.size = b5 at *
      go_wp2_with fail
      refine (CS.out _ _ _ _ B3.out (fun h => by first | exact ⟨rfl, rfl⟩ | omega) (by omega) (by omega)).mono ?_
      rintro e w5 ⟨⟨v, rfl, ov, _⟩, hb⟩
      obtain ⟨va, vc, rfl⟩ := own_form ov
      rw [bl_len] at ov
      simp only [bl_len]
      have N5 := Lib.hid (N3.out.below hb)
      have M5 := Lib.hid (M3.out.below hb)
      have B5 := Lib.hid (bstep B3.out hb)
      have y9 : w5.cell? ⟨b5, 9, none⟩ = some (.slice none 0 0) := (M5.out.2 9 _ rfl).1
      have u9 : w5.frozen? ⟨b5, 9, none⟩ = false := (M5.out.2 9 _ rfl).2
      have l4 : b5 < w4.heap.size := M3.out.1
      have M6 : Hid (Blk (w5.setCell ⟨b5, 9, none⟩ (.slice va m vc)) b5 (fvs q (.slice va m vc))) := Lib.hid (blk_set M5.out 9 _)
      have N6 := Lib.hid (blk_other N5.out (b' := b5) (Nat.ne_of_lt z3) 9 (.slice va m vc))
      have B6 := Lib.hid (below_set B5.out (Nat.le_of_lt z3) 9 (.slice va m vc))
      have O6 := Lib.hid (show Own _ _ _ _ from row_set (v := .slice va m vc) ov (b := b5) (fun q => by have := (Own.block ov) b5 q; omega) 9 (.slice va m vc))
      clear M3 N3 B3 CS hb ov M5 N5 B5
      go_upto_region 14 with fail
      clear y9 u9
      generalize w5.setCell ⟨b5, 9, none⟩ (.slice va m vc) = w6 at *
      have NF := Lib.hid (N6.out.over (fvs q (.slice va m vc)) rfl)
      have BF := Lib.hid (below_over (Nat.le_refl _) (fvs q (.slice va m vc)) 0 B6.out)
      have OF := Lib.hid (show Own _ _ _ _ from row_over O6.out (b := w.heap.size) (by omega) (fvs q (.slice va m vc)))
      go_wp2_with (first | (refine wpList_load_mid rfl 24 _ rfl _ 0 rfl (fvs q (.slice va m vc)) _ M6.out.range Try.underlying24 rfl (by rw [fvs_len]; exact info_fr) ?_) | (refine wpList_store_mid rfl 24 _ _ rfl _ 0 (fvs q (.slice va m vc)).toArray rfl rfl N6.out.there info_fr (all_oneCell_toArray (fvs_one _ _ rfl)) ?_))
      exact bodyPost_ret (v := .tuple #[.agg (fvs q (.slice va m vc)).toArray, .int .i64 0]) (results_cell_slot rfl _ _ w.heap.size _ _ _ rfl rfl NF.out.range Try.underlying24 rfl (by rw [fvs_len]; exact info_fr)) rfl ⟨⟨_, by rw [DE.out, DY.out DE.out]; rfl, by rw [DY.out DE.out, HD.out]; exact OF.out.le (by omega)⟩, BF.out⟩
  · clear HZ0
    cases hz : zs f (12 + m) (n - (12 + m)) with
    | false =>
      have T4 := Lib.hid (show zs f (12 + tw f 10) (n - (12 + tw f 10)) = false by rw [← HM.out]; exact hz)
      rw [hz] at HZ
      clear hz HF HD DY CS
      go_wp2_with fail
      refine (HZ.out _ _ (fun h => rfl)).mono ?_
      rintro e w2 ⟨rfl, rfl⟩
      have DE : Hid (derr f n = 3) := Lib.hid (by unfold derr; rw [if_neg (by first | exact T0.out | omega), if_neg (by first | exact T1.out | omega), if_neg (by first | exact T2.out | omega), if_neg (by first | exact T3.out | omega), if_pos (by exact T4.out)])
      have NF := Lib.hid (N2.out.over (fvs fr0 (.slice none 0 0)) rfl)
      have BF := Lib.hid (below_over (Nat.le_refl _) (fvs fr0 (.slice none 0 0)) 0 B2.out)
      go_upto_region 11 with fail
      go_wp2_with (refine wpList_store_mid rfl 24 _ _ rfl _ 0 (fvs fr0 (.slice none 0 0)).toArray rfl rfl N2.out.there info_fr (all_oneCell_toArray (fvs_one _ _ rfl)) ?_)
      exact bodyPost_ret (v := .tuple #[.agg (fvs fr0 (.slice none 0 0)).toArray, .int .i64 3]) (results_cell_slot rfl _ _ w.heap.size _ _ _ rfl rfl NF.out.range Try.underlying24 rfl (by rw [fvs_len]; exact info_fr)) rfl (pdec_err DE.out (by decide) BF.out)
    | true =>
      have T4 : Hid (¬ zs f (12 + tw f 10) (n - (12 + tw f 10)) = false) := Lib.hid (by rw [← HM.out, hz]; decide)
      have DE : Hid (derr f n = 0) := Lib.hid (by unfold derr; rw [if_neg T0.out, if_neg T1.out, if_neg T2.out, if_neg T3.out, if_neg T4.out])
      rw [hz] at HZ
      clear hz T0 T1 T2 T3 T4
      have cr : ¬ cap = 12 := by have := NM.out; omega
      go_wp2_with fail
      refine (HZ.out _ _ (fun h => rfl)).mono ?_
      rintro e w2 ⟨rfl, rfl⟩
      go_wp2_with fail
      refine HF.out.mono ?_
      rintro e w3 ⟨rfl, hb⟩
      have N3 := Lib.hid ((N2.out.below hb).below (balloc (brefl w3) (.cells #[.int .i64 q.ver, .bool q.resp, .bool q.er, .bool q.more, .int .i64 q.op, .int .i64 q.seq, .int .i64 q.st, .int .i64 q.asc, .int .i64 q.off, .slice none 0 0] 24)))
      have B3 := Lib.hid (bstep (bstep B2.out hb) (balloc (brefl w3) (.cells #[.int .i64 q.ver, .bool q.resp, .bool q.er, .bool q.more, .int .i64 q.op, .int .i64 q.seq, .int .i64 q.st, .int .i64 q.asc, .int .i64 q.off, .slice none 0 0] 24)))
      have M3 : Hid (Blk (w3.alloc (.cells #[.int .i64 q.ver, .bool q.resp, .bool q.er, .bool q.more, .int .i64 q.op, .int .i64 q.seq, .int .i64 q.st, .int .i64 q.asc, .int .i64 q.off, .slice none 0 0] 24)) w3.heap.size (fvs q (.slice none 0 0))) := Lib.hid (Blk.new' w3 #[.int .i64 q.ver, .bool q.resp, .bool q.er, .bool q.more, .int .i64 q.op, .int .i64 q.seq, .int .i64 q.st, .int .i64 q.asc, .int .i64 q.off, .slice none 0 0] 24)
      have z3 : w.heap.size < w3.heap.size := Nat.lt_of_lt_of_le wz hb.size
      clear HF HZ hb N2 B2
      go_upto_region 13 with fail
      generalize w3.alloc (.cells #[.int .i64 q.ver, .bool q.resp, .bool q.er, .bool q.more, .int .i64 q.op, .int .i64 q.seq, .int .i64 q.st, .int .i64 q.asc, .int .i64 q.off, .slice none 0 0] 24) = w4 at *
      generalize w3.heap.size = b5 at *
      go_wp2_with fail
      refine (CS.out _ _ _ _ B3.out (fun h => by first | exact ⟨rfl, rfl⟩ | omega) (by omega) (by omega)).mono ?_
      rintro e w5 ⟨⟨v, rfl, ov, _⟩, hb⟩
      obtain ⟨va, vc, rfl⟩ := own_form ov
      rw [bl_len] at ov
      simp only [bl_len]
      have N5 := Lib.hid (N3.out.below hb)
      have M5 := Lib.hid (M3.out.below hb)
      have B5 := Lib.hid (bstep B3.out hb)
      have y9 : w5.cell? ⟨b5, 9, none⟩ = some (.slice none 0 0) := (M5.out.2 9 _ rfl).1
      have u9 : w5.frozen? ⟨b5, 9, none⟩ = false := (M5.out.2 9 _ rfl).2
      have l4 : b5 < w4.heap.size := M3.out.1
      have M6 : Hid (Blk (w5.setCell ⟨b5, 9, none⟩ (.slice va m vc)) b5 (fvs q (.slice va m vc))) := Lib.hid (blk_set M5.out 9 _)
      have N6 := Lib.hid (blk_other N5.out (b' := b5) (Nat.ne_of_lt z3) 9 (.slice va m vc))
      have B6 := Lib.hid (below_set B5.out (Nat.le_of_lt z3) 9 (.slice va m vc))
      have O6 := Lib.hid (show Own _ _ _ _ from row_set (v := .slice va m vc) ov (b := b5) (fun q => by have := (Own.block ov) b5 q; omega) 9 (.slice va m vc))
      clear M3 N3 B3 CS hb ov M5 N5 B5
      go_upto_region 14 with fail
      clear y9 u9
      generalize w5.setCell ⟨b5, 9, none⟩ (.slice va m vc) = w6 at *
      have NF := Lib.hid (N6.out.over (fvs q (.slice va m vc)) rfl)
      have BF := Lib.hid (below_over (Nat.le_refl _) (fvs q (.slice va m vc)) 0 B6.out)
      have OF := Lib.hid (show Own _ _ _ _ from row_over O6.out (b := w.heap.size) (by omega) (fvs q (.slice va m vc)))
      go_wp2_with (first | (refine wpList_load_mid rfl 24 _ rfl _ 0 rfl (fvs q (.slice va m vc)) _ M6.out.range Try.underlying24 rfl (by rw [fvs_len]; exact info_fr) ?_) | (refine wpList_store_mid rfl 24 _ _ rfl _ 0 (fvs q (.slice va m vc)).toArray rfl rfl N6.out.there info_fr (all_oneCell_toArray (fvs_one _ _ rfl)) ?_))
      exact bodyPost_ret (v := .tuple #[.agg (fvs q (.slice va m vc)).toArray, .int .i64 0]) (results_cell_slot rfl _ _ w.heap.size _ _ _ rfl rfl NF.out.range Try.underlying24 rfl (by rw [fvs_len]; exact info_fr)) rfl ⟨⟨_, by rw [DE.out, DY.out DE.out]; rfl, by rw [DY.out DE.out, HD.out]; exact OF.out.le (by omega)⟩, BF.out⟩
theorem Decode_any {w : World} {v : Value} {n : Nat} {f : Nat → Nat} (S : Sb w v n f) (hn : n ≤ 140737488351232) : Calls Try.prog 11 #[v] w fun e w' => PDec f n w e w' := by
  obtain ⟨a, cap, rfl, h1, h2, h3, h4, h5⟩ := S
  by_cases c : n < 12 ∨ n % 4 ≠ 0
  · exact dec_short a n cap f hn c
  · obtain ⟨b, o, rfl, B⟩ := h4 (by omega)
    exact dec_long B h1 h2 hn (by omega) (by omega)
end Go.Proofs.Yteigmnbbfmcihaa.Ct
