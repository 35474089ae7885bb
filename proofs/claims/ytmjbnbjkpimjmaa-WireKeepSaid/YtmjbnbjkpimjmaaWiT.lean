/-
  The contract of sundialref09.Decode.
  Conditions: none.
-/
import Derived.Test.YtmjbnbjkpimjmaaWjG
import Derived.Test.YtmjbnbjkpimjmaaWiS
namespace Go.Proofs.Ytmjbnbjkpimjmaa.Wi
open Go.RowKit Go.ChangeShapes Go.WideShapes Go.ChangeAt Go.Joins By
set_option linter.unusedVariables false
set_option linter.unusedSimpArgs false

/-- what sundialref09.Decode answers. -/
def RDec (D : Dc) (w : World) (e : Ending) (w' : World) : Prop := (∃ fv dv row, e = .returned (.tuple #[PV D.p fv dv, .int .i64 D.a, .int .i64 D.e]) ∧ Rowd w' w.heap.size fv row D.p.fs ∧ By.Own w' w.heap.size dv D.p.dig) ∧ Below w.heap.size w w'
set_option maxRecDepth 100000 in
set_option maxHeartbeats 16000000 in
theorem rDecode_c {B o n cap : Nat} {f : Nat → Nat} {w : World} (H : Bs w B o n f) (hc : n ≤ cap) (hc2 : cap ≤ 9223372036854775807) (h1 : ¬ (n < 48 ∨ n % 4 ≠ 0)) (h2 : ¬ 1024 < n) :
    Calls Try.prog 14 #[.slice (some ⟨B, o, none⟩) n cap] w fun e w' => RDec (dec f n) w e w' := by
  have DE : dec f n = if btw (hd f).ver 1 4 = false then bad 22 else match cut f n 8 48 with
      | none => bad 23
      | some x => match fin f n x.2 with
        | none => bad 23
        | some y => ⟨0, { hd f with fs := x.1, auth := y.1, key := y.2.1, dig := y.2.2 }, x.2⟩ := by
    rw [dec, if_neg h1, if_neg h2]
    rfl
  generalize dec f n = D at DE ⊢
  replace DE := Lib.hid DE
  have q : (n : Int).tmod 4 = (n : Int) % 4 := Int.tmod_eq_emod_of_nonneg (by omega)
  have e1 : decide ((n : Int) < 48) = false := decide_eq_false (by omega)
  have e2 : ((n : Int) % 4 != 0) = false := by simp; omega
  have e3 : decide ((1024 : Int) < (n : Int)) = false := decide_eq_false (by omega)
  have n48 : 48 ≤ n := by omega
  have n1024 : n ≤ 1024 := by omega
  have q0 : (0 : Int) ≤ (n : Int) := by omega
  have q4 : (n : Int) ≤ 1024 := by omega
  clear h1 h2
  have HX := Lib.hid H
  clear H
  have HH := Lib.hid (fun z (k : Below w.heap.size w z) => rheader_v (cap := cap) (HX.out.below k) n48 (by omega))
  have NR := Lib.hid ((Blk.new' w #[.int .i64 0, .int .i64 0, .int .i64 0, .int .i64 0, .int .i64 0, .int .i64 0, .int .u32 0, .int .u32 0, .int .u32 0, .int .u64 0, .int .u64 0, .int .u64 0, .int .u64 0, .slice none 0 0, .int .i64 0, .int .u32 0, .slice none 0 0] 30).below (balloc (brefl _) (.cells #[.int .i64 0, .int .i64 0, .int .i64 0, .int .i64 0, .int .i64 0, .int .i64 0, .int .u32 0, .int .u32 0, .int .u32 0, .int .u64 0, .int .u64 0, .int .u64 0, .int .u64 0, .slice none 0 0, .int .i64 0, .int .u32 0, .slice none 0 0] 30)))
  have NP := Lib.hid (Blk.new' (w.alloc (.cells #[.int .i64 0, .int .i64 0, .int .i64 0, .int .i64 0, .int .i64 0, .int .i64 0, .int .u32 0, .int .u32 0, .int .u32 0, .int .u64 0, .int .u64 0, .int .u64 0, .int .u64 0, .slice none 0 0, .int .i64 0, .int .u32 0, .slice none 0 0] 30)) #[.int .i64 0, .int .i64 0, .int .i64 0, .int .i64 0, .int .i64 0, .int .i64 0, .int .u32 0, .int .u32 0, .int .u32 0, .int .u64 0, .int .u64 0, .int .u64 0, .int .u64 0, .slice none 0 0, .int .i64 0, .int .u32 0, .slice none 0 0] 30)
  have BB := Lib.hid (balloc (balloc (brefl w) (.cells #[.int .i64 0, .int .i64 0, .int .i64 0, .int .i64 0, .int .i64 0, .int .i64 0, .int .u32 0, .int .u32 0, .int .u32 0, .int .u64 0, .int .u64 0, .int .u64 0, .int .u64 0, .slice none 0 0, .int .i64 0, .int .u32 0, .slice none 0 0] 30)) (.cells #[.int .i64 0, .int .i64 0, .int .i64 0, .int .i64 0, .int .i64 0, .int .i64 0, .int .u32 0, .int .u32 0, .int .u32 0, .int .u64 0, .int .u64 0, .int .u64 0, .int .u64 0, .slice none 0 0, .int .i64 0, .int .u32 0, .slice none 0 0] 30))
  rw [show (w.alloc (.cells #[.int .i64 0, .int .i64 0, .int .i64 0, .int .i64 0, .int .i64 0, .int .i64 0, .int .u32 0, .int .u32 0, .int .u32 0, .int .u64 0, .int .u64 0, .int .u64 0, .int .u64 0, .slice none 0 0, .int .i64 0, .int .u32 0, .slice none 0 0] 30)).heap.size = w.heap.size + 1 by simp] at NP
  go_enter Try.func14, Try.ntmps14
  go_wp2_with fail
  generalize (w.alloc (.cells #[.int .i64 0, .int .i64 0, .int .i64 0, .int .i64 0, .int .i64 0, .int .i64 0, .int .u32 0, .int .u32 0, .int .u32 0, .int .u64 0, .int .u64 0, .int .u64 0, .int .u64 0, .slice none 0 0, .int .i64 0, .int .u32 0, .slice none 0 0] 30)).alloc (.cells #[.int .i64 0, .int .i64 0, .int .i64 0, .int .i64 0, .int .i64 0, .int .i64 0, .int .u32 0, .int .u32 0, .int .u32 0, .int .u64 0, .int .u64 0, .int .u64 0, .int .u64 0, .slice none 0 0, .int .i64 0, .int .u32 0, .slice none 0 0] 30) = w2 at *
  obtain ⟨PB, hPB⟩ : ∃ PB, PB = w.heap.size + 1 := ⟨_, rfl⟩
  rw [← hPB] at NP
  simp only [← hPB]
  have zp : w.heap.size < PB := by omega
  clear hPB
  refine (HH.out _ BB.out).mono ?_
  rintro e w3 ⟨rfl, hb⟩
  have NR3 := Lib.hid (NR.out.below hb)
  have NP3 := Lib.hid (NP.out.below hb)
  have BB3 := Lib.hid (bstep BB.out hb)
  clear NR NP BB HH hb
  have SE := NP3.out.runP (P := Try.prog) (hvs (hd f)) (by show 13 ≤ 17; omega) (hvs_one _)
  have NR4 := Lib.hid (blk_over NR3.out (show w.heap.size ≠ PB by omega) (hvs (hd f)))
  have NP4 : Hid (Blk _ PB (hvs (hd f) ++ [.slice none 0 0, .int .i64 0, .int .u32 0, .slice none 0 0])) := Lib.hid (NP3.out.put (hvs (hd f)) (by show 13 ≤ 17; omega))
  have BB4 := Lib.hid (below_over (b := PB) (Nat.le_of_lt zp) (hvs (hd f)) 0 BB3.out)
  clear NR3 NP3 BB3
  generalize w3.setCells PB 0 (hvs (hd f)) = w4 at *
  have y1 : w4.cell? ⟨PB, 1, none⟩ = some (.int .i64 (hd f).ver) := (NP4.out.2 1 _ rfl).1
  go_wp2_with fail
  refine (in_c _ _ _ _).mono ?_
  rintro e w5 ⟨rfl, rfl⟩
  clear SE y1
  by_cases cv : btw (hd f).ver 1 4 = true
  · rw [cv]
    have DE2 := Lib.hid (DE.out.trans (if_neg (by rw [cv]; decide)))
    clear DE cv
    go_wp2_with fail
    go_loopw [6] (fun iv wr => ∃ (r A : Nat) (L : List Fd) (fv : Value) (row : List (Int × Value)), iv = .int .i64 A ∧ L.length + r = 8 ∧ 48 ≤ A ∧ A ≤ n ∧ cut f n 8 48 = (cut f n r A).map (fun y => (L ++ y.1, y.2)) ∧ Rowd wr (PB + 1) fv row L ∧ Blk wr PB (hvs (hd f) ++ [fv, .int .i64 0, .int .u32 0, .slice none 0 0]) ∧ Blk wr w.heap.size [.int .i64 0, .int .i64 0, .int .i64 0, .int .i64 0, .int .i64 0, .int .i64 0, .int .u32 0, .int .u32 0, .int .u32 0, .int .u64 0, .int .u64 0, .int .u64 0, .int .u64 0, .slice none 0 0, .int .i64 0, .int .u32 0, .slice none 0 0] ∧ Below w.heap.size w wr ∧ PB + 1 ≤ wr.heap.size) (fun iv _ => n - (intOf iv).toNat)
    case atStart => exact ⟨8, 48, [], .slice none 0 0, [], rfl, rfl, Nat.le_refl _, n48, by cases cut f n 8 48 <;> rfl, Rowd.nil _ _, NP4.out, NR4.out, BB4.out, NP4.out.1⟩
    case round =>
      obtain ⟨r, A, L, fv, row, rfl, hLr, hA, hAn, hcut, rw0, nq0, nr0, bb0, sz0⟩ := hrel
      rename World => wr
      have CT := Lib.hid hcut
      have RW := Lib.hid rw0
      have NQ := Lib.hid nq0
      have NR := Lib.hid nr0
      have BB := Lib.hid bb0
      have SZ := Lib.hid sz0
      clear rw0 nq0 nr0 bb0 sz0 NR4 NP4 BB4 hcut
      obtain ⟨fva, fvc, ef⟩ := ownF_form RW.out.2.1
      rw [RW.out.1] at ef
      subst ef
      have q5 : (0 : Int) ≤ (A : Int) := by omega
      have q6 : (A : Int) ≤ (n : Int) := by omega
      by_cases c : n - A ≤ 24
      · have e5 : decide ((24 : Int) < (n : Int) - (A : Int)) = false := decide_eq_false (by omega)
        have DE3 : Hid (D = match fin f n A with
            | none => bad 23
            | some y => ⟨0, { hd f with fs := L, auth := y.1, key := y.2.1, dig := y.2.2 }, A⟩) := Lib.hid (by rw [DE2.out, CT.out, cut_end c r, Option.map_some, List.append_nil])
        clear DE2 CT
        have HXr := HX.out.below BB.out
        have HN : Hid (A + 4 ≤ n → ∀ z, Below w.heap.size w z → Calls Try.prog 32 #[.slice (some ⟨B, o, none⟩) n cap, .int .i64 (A : Int), .int .i64 4] z fun e w' => e = .returned (.int .u64 (gt f A 4 : Nat)) ∧ w' = z) := Lib.hid (fun h z k => get_c cap (HX.out.below k) A 4 (by omega) (by omega) (by omega))
        have la := gt_lt HXr.2.1 A 4
        clear HXr
        have o1 : (.slice fva L.length fvc : Value).oneCell' = true := rfl
        by_cases c0 : n - A = 0
        · have e6 : ((n : Int) - (A : Int) == 0) = true := by simp; omega
          have PD : D = ⟨0, { hd f with fs := L, auth := 0, key := 0, dig := [] }, A⟩ := by rw [DE3.out, fin, if_pos c0]
          clear c0
          have OD9 := Lib.hid (By.Own.nil wr (PB + 1))
          have DA : Hid (D.a = A ∧ D.e = 0 ∧ D.p.fs = L ∧ D.p.dig = []) := Lib.hid (by rw [PD]; exact ⟨rfl, rfl, rfl, rfl⟩)
          have NQZ : Hid (Blk wr PB (pvs D.p (.slice fva L.length fvc) (.slice none 0 0))) := Lib.hid (by rw [PD]; exact NQ.out)
          clear PD
          have ltQ : w.heap.size < PB + 1 := by omega
          have NF := Lib.hid (Blk.over (NR.out) (pvs D.p (.slice fva L.length fvc) (.slice none 0 0)) rfl)
          have BF := Lib.hid (below_over (Nat.le_refl _) (pvs D.p (.slice fva L.length fvc) (.slice none 0 0)) 0 (BB.out))
          have RF := Lib.hid ((RW.out).over ltQ (pvs D.p (.slice fva L.length fvc) (.slice none 0 0)))
          have OF := Lib.hid (show By.Own _ _ _ _ from row_over OD9.out ltQ (pvs D.p (.slice fva L.length fvc) (.slice none 0 0)))
          go_upto_region 25 with fail
          go_wp2_with (first | (refine wpList_load_mid rfl 30 _ rfl _ 0 rfl (pvs D.p (.slice fva L.length fvc) (.slice none 0 0)) _ NQZ.out.range Try.underlying30 rfl (by rw [pvs_len]; exact info_pk) ?_) | (refine wpList_store_mid rfl 30 _ _ rfl _ 0 (pvs D.p (.slice fva L.length fvc) (.slice none 0 0)).toArray rfl rfl (NR.out).there (by exact info_pk) (all_oneCell_toArray (pvs_one _ _ _ rfl rfl)) ?_))
          exact bodyPost_ret (v := .tuple #[.agg (pvs D.p (.slice fva L.length fvc) (.slice none 0 0)).toArray, .int .i64 A, .int .i64 0]) (results_cell_slots rfl _ _ w.heap.size _ _ _ _ rfl rfl rfl NF.out.range Try.underlying30 rfl (by rw [pvs_len]; exact info_pk)) rfl ⟨⟨.slice fva L.length fvc, .slice none 0 0, row, by rw [DA.out.1, DA.out.2.1]; rfl, by rw [DA.out.2.2.1]; exact RF.out.le (by omega), by rw [DA.out.2.2.2]; exact row_le OF.out (by omega)⟩, BF.out⟩
        · have e6 : ((n : Int) - (A : Int) == 0) = false := by simp; omega
          by_cases c4 : n - A = 4
          · have e7 : ((n : Int) - (A : Int) == 4) = true := by simp; omega
            by_cases z : gt f A 4 = 0
            · have PD : D = ⟨0, { hd f with fs := L, auth := 1, key := 0, dig := [] }, A⟩ := by rw [DE3.out, fin, if_neg c0, if_pos ⟨c4, z⟩]
              have HN2 := Lib.hid (HN.out (by omega))
              rw [z] at HN2
              clear c0 c4 HN la z
              have OD9 := Lib.hid (show By.Own _ _ _ _ from row_set (By.Own.nil wr (PB + 1)) (b := PB) (by simp [Value.ownBlock]) 14 (.int .i64 1))
              have f14 := (NQ.out.2 14 _ rfl).2
              have y14 := (NQ.out.2 14 _ rfl).1
              have NQ9 := Lib.hid (blk_set NQ.out 14 (.int .i64 1))
              have NR9 := Lib.hid (blk_other NR.out (show w.heap.size ≠ PB by omega) 14 (.int .i64 1))
              have BB9 := Lib.hid (BB.out.setCell (p := ⟨PB, 14, none⟩) (Nat.le_of_lt zp) (.int .i64 1))
              have RW9 := Lib.hid (RW.out.set (Nat.lt_succ_self PB) 14 (.int .i64 1))
              go_wp2_with fail
              refine (HN2.out _ BB.out).mono ?_
              rintro e w9 ⟨rfl, rfl⟩
              have DA : Hid (D.a = A ∧ D.e = 0 ∧ D.p.fs = L ∧ D.p.dig = []) := Lib.hid (by rw [PD]; exact ⟨rfl, rfl, rfl, rfl⟩)
              have NQZ : Hid (Blk (w9.setCell ⟨PB, 14, none⟩ (.int .i64 1)) PB (pvs D.p (.slice fva L.length fvc) (.slice none 0 0))) := Lib.hid (by rw [PD]; exact NQ9.out)
              clear PD
              have ltQ : w.heap.size < PB + 1 := by omega
              have NF := Lib.hid (Blk.over (NR9.out) (pvs D.p (.slice fva L.length fvc) (.slice none 0 0)) rfl)
              have BF := Lib.hid (below_over (Nat.le_refl _) (pvs D.p (.slice fva L.length fvc) (.slice none 0 0)) 0 (BB9.out))
              have RF := Lib.hid ((RW9.out).over ltQ (pvs D.p (.slice fva L.length fvc) (.slice none 0 0)))
              have OF := Lib.hid (show By.Own _ _ _ _ from row_over OD9.out ltQ (pvs D.p (.slice fva L.length fvc) (.slice none 0 0)))
              go_upto_region 25 with fail
              go_wp2_with (first | (refine wpList_load_mid rfl 30 _ rfl _ 0 rfl (pvs D.p (.slice fva L.length fvc) (.slice none 0 0)) _ NQZ.out.range Try.underlying30 rfl (by rw [pvs_len]; exact info_pk) ?_) | (refine wpList_store_mid rfl 30 _ _ rfl _ 0 (pvs D.p (.slice fva L.length fvc) (.slice none 0 0)).toArray rfl rfl (NR9.out).there (by exact info_pk) (all_oneCell_toArray (pvs_one _ _ _ rfl rfl)) ?_))
              exact bodyPost_ret (v := .tuple #[.agg (pvs D.p (.slice fva L.length fvc) (.slice none 0 0)).toArray, .int .i64 A, .int .i64 0]) (results_cell_slots rfl _ _ w.heap.size _ _ _ _ rfl rfl rfl NF.out.range Try.underlying30 rfl (by rw [pvs_len]; exact info_pk)) rfl ⟨⟨.slice fva L.length fvc, .slice none 0 0, row, by rw [DA.out.1, DA.out.2.1]; rfl, by rw [DA.out.2.2.1]; exact RF.out.le (by omega), by rw [DA.out.2.2.2]; exact row_le OF.out (by omega)⟩, BF.out⟩
            · have DN : Hid (D = bad 23) := Lib.hid (by rw [DE3.out, fin, if_neg c0, if_neg (fun h => z h.2), if_neg (by omega)])
              have e8 : ((gt f A 4 : Int) == 0) = false := by simp; omega
              have e9 : ((n : Int) - (A : Int) == 20) = false := by simp; omega
              have e10 : ((n : Int) - (A : Int) == 24) = false := by simp; omega
              go_wp2_with fail
              refine (HN.out (by omega) _ BB.out).mono ?_
              rintro e w9 ⟨rfl, rfl⟩
              clear c0 c4 HN la z
              go_upto_region 17 with fail
              have NF := Lib.hid (Blk.over (NR.out) (pvs pk0 (.slice none 0 0) (.slice none 0 0)) rfl)
              have BF := Lib.hid (below_over (Nat.le_refl _) (pvs pk0 (.slice none 0 0) (.slice none 0 0)) 0 (BB.out))
              go_wp2_with (refine wpList_store_mid rfl 30 _ _ rfl _ 0 (pvs pk0 (.slice none 0 0) (.slice none 0 0)).toArray rfl rfl (NR.out).there (by exact info_pk) (all_oneCell_toArray (pvs_one _ _ _ rfl rfl)) ?_)
              exact bodyPost_ret (v := .tuple #[.agg (pvs pk0 (.slice none 0 0) (.slice none 0 0)).toArray, .int .i64 0, .int .i64 23]) (results_cell_slots rfl _ _ w.heap.size _ _ _ _ rfl rfl rfl NF.out.range Try.underlying30 rfl (by rw [pvs_len]; exact info_pk)) rfl ⟨⟨.slice none 0 0, .slice none 0 0, [], by rw [DN.out]; rfl, by rw [DN.out]; exact Rowd.nil _ _, by rw [DN.out]; exact By.Own.nil _ _⟩, BF.out⟩
          · have e7 : ((n : Int) - (A : Int) == 4) = false := by simp; omega
            by_cases c20 : n - A = 20 ∨ n - A = 24
            · have PD : D = ⟨0, { hd f with fs := L, auth := 2, key := gt f A 4, dig := bl (fun i => f (A + 4 + i)) (n - (A + 4)) }, A⟩ := by rw [DE3.out, fin, if_neg c0, if_neg (fun h => c4 h.1), if_pos c20]
              have U4 : IntKind.u32.wrap (gt f A 4 : Int) = (gt f A 4 : Int) := wrap_u32 (by omega) (by omega)
              have V4 : IntKind.i64.wrap ((A : Int) + 4) = (A : Int) + 4 := wrap_i64 (by omega) (by omega)
              have f14 := (NQ.out.2 14 _ rfl).2
              have y14 := (NQ.out.2 14 _ rfl).1
              have f15 := (NQ.out.2 15 _ rfl).2
              have y15 := (NQ.out.2 15 _ rfl).1
              have NQ1 := Lib.hid (blk_set NQ.out 14 (.int .i64 2))
              have NR1 := Lib.hid (blk_other NR.out (show w.heap.size ≠ PB by omega) 14 (.int .i64 2))
              have BB1 := Lib.hid (BB.out.setCell (p := ⟨PB, 14, none⟩) (Nat.le_of_lt zp) (.int .i64 2))
              have RW1 := Lib.hid (RW.out.set (Nat.lt_succ_self PB) 14 (.int .i64 2))
              have NQ2 := Lib.hid (blk_set NQ1.out 15 (.int .u32 (gt f A 4 : Nat)))
              have NR2 := Lib.hid (blk_other NR1.out (show w.heap.size ≠ PB by omega) 15 (.int .u32 (gt f A 4 : Nat)))
              have BB2 := Lib.hid (BB1.out.setCell (p := ⟨PB, 15, none⟩) (Nat.le_of_lt zp) (.int .u32 (gt f A 4 : Nat)))
              have RW2 := Lib.hid (RW1.out.set (Nat.lt_succ_self PB) 15 (.int .u32 (gt f A 4 : Nat)))
              have szq := Lib.hid (show PB + 1 ≤ ((wr.setCell ⟨PB, 14, none⟩ (.int .i64 2)).setCell ⟨PB, 15, none⟩ (.int .u32 (gt f A 4 : Nat))).heap.size by simp; exact SZ.out)
              have HC := Lib.hid (part_c (HX.out.below BB2.out) (by omega) hc hc2 (x := A + 4) (y := n) (by omega) (Nat.le_refl _))
              rw [show ((A + 4 : Nat) : Int) = (A : Int) + 4 by omega] at HC
              have HN1 := Lib.hid (HN.out (by omega) _ BB1.out)
              by_cases c20' : n - A = 20
              · have e9 : ((n : Int) - (A : Int) == 20) = true := by simp; omega
                clear c0 c4 c20 c20' HN la
                go_wp2_with fail
                refine HN1.out.mono ?_
                rintro e wq ⟨rfl, rfl⟩
                go_wp2_with fail
                refine HC.out.mono ?_
                rintro e wk ⟨⟨v, rfl, ho⟩, hb⟩
                have nov : v.ownBlock ≠ some PB := fun e => by
                  have := (ho.lt PB e).1
                  have := szq.out
                  omega
                obtain ⟨va, m9, vc, ev⟩ : ∃ a m c, v = .slice a m c := (own_form ho).elim fun a h => h.elim fun c h => ⟨a, _, c, h⟩
                subst ev
                have NQ3 := NQ2.out.below hb
                have f16 := (NQ3.2 16 _ rfl).2
                have y16 := (NQ3.2 16 _ rfl).1
                have NQ9 := Lib.hid (blk_set NQ3 16 (.slice va m9 vc))
                have NR9 := Lib.hid (blk_other (NR2.out.below hb) (show w.heap.size ≠ PB by omega) 16 (.slice va m9 vc))
                have BB9 := Lib.hid ((bstep BB2.out hb).setCell (p := ⟨PB, 16, none⟩) (Nat.le_of_lt zp) (.slice va m9 vc))
                have RW9 := Lib.hid ((RW2.out.below hb).set (Nat.lt_succ_self PB) 16 (.slice va m9 vc))
                have OD9 := Lib.hid (show By.Own _ (PB + 1) _ _ from row_set (row_le ho szq.out) nov 16 (.slice va m9 vc))
                clear NQ3 ho nov
                have DA : Hid (D.a = A ∧ D.e = 0 ∧ D.p.fs = L ∧ D.p.dig = bl (fun i => f (A + 4 + i)) (n - (A + 4))) := Lib.hid (by rw [PD]; exact ⟨rfl, rfl, rfl, rfl⟩)
                have NQZ : Hid (Blk (wk.setCell ⟨PB, 16, none⟩ (.slice va m9 vc)) PB (pvs D.p (.slice fva L.length fvc) (.slice va m9 vc))) := Lib.hid (by rw [PD]; exact NQ9.out)
                clear PD
                have ltQ : w.heap.size < PB + 1 := by omega
                have NF := Lib.hid (Blk.over (NR9.out) (pvs D.p (.slice fva L.length fvc) (.slice va m9 vc)) rfl)
                have BF := Lib.hid (below_over (Nat.le_refl _) (pvs D.p (.slice fva L.length fvc) (.slice va m9 vc)) 0 (BB9.out))
                have RF := Lib.hid ((RW9.out).over ltQ (pvs D.p (.slice fva L.length fvc) (.slice va m9 vc)))
                have OF := Lib.hid (show By.Own _ _ _ _ from row_over OD9.out ltQ (pvs D.p (.slice fva L.length fvc) (.slice va m9 vc)))
                go_upto_region 25 with fail
                go_wp2_with (first | (refine wpList_load_mid rfl 30 _ rfl _ 0 rfl (pvs D.p (.slice fva L.length fvc) (.slice va m9 vc)) _ NQZ.out.range Try.underlying30 rfl (by rw [pvs_len]; exact info_pk) ?_) | (refine wpList_store_mid rfl 30 _ _ rfl _ 0 (pvs D.p (.slice fva L.length fvc) (.slice va m9 vc)).toArray rfl rfl (NR9.out).there (by exact info_pk) (all_oneCell_toArray (pvs_one _ _ _ rfl rfl)) ?_))
                exact bodyPost_ret (v := .tuple #[.agg (pvs D.p (.slice fva L.length fvc) (.slice va m9 vc)).toArray, .int .i64 A, .int .i64 0]) (results_cell_slots rfl _ _ w.heap.size _ _ _ _ rfl rfl rfl NF.out.range Try.underlying30 rfl (by rw [pvs_len]; exact info_pk)) rfl ⟨⟨.slice fva L.length fvc, .slice va m9 vc, row, by rw [DA.out.1, DA.out.2.1]; rfl, by rw [DA.out.2.2.1]; exact RF.out.le (by omega), by rw [DA.out.2.2.2]; exact row_le OF.out (by omega)⟩, BF.out⟩
              · have e9 : ((n : Int) - (A : Int) == 20) = false := by simp; omega
                have e10 : ((n : Int) - (A : Int) == 24) = true := by simp; omega
                clear c0 c4 c20 c20' HN la
                go_wp2_with fail
                refine HN1.out.mono ?_
                rintro e wq ⟨rfl, rfl⟩
                go_wp2_with fail
                refine HC.out.mono ?_
                rintro e wk ⟨⟨v, rfl, ho⟩, hb⟩
                have nov : v.ownBlock ≠ some PB := fun e => by
                  have := (ho.lt PB e).1
                  have := szq.out
                  omega
                obtain ⟨va, m9, vc, ev⟩ : ∃ a m c, v = .slice a m c := (own_form ho).elim fun a h => h.elim fun c h => ⟨a, _, c, h⟩
                subst ev
                have NQ3 := NQ2.out.below hb
                have f16 := (NQ3.2 16 _ rfl).2
                have y16 := (NQ3.2 16 _ rfl).1
                have NQ9 := Lib.hid (blk_set NQ3 16 (.slice va m9 vc))
                have NR9 := Lib.hid (blk_other (NR2.out.below hb) (show w.heap.size ≠ PB by omega) 16 (.slice va m9 vc))
                have BB9 := Lib.hid ((bstep BB2.out hb).setCell (p := ⟨PB, 16, none⟩) (Nat.le_of_lt zp) (.slice va m9 vc))
                have RW9 := Lib.hid ((RW2.out.below hb).set (Nat.lt_succ_self PB) 16 (.slice va m9 vc))
                have OD9 := Lib.hid (show By.Own _ (PB + 1) _ _ from row_set (row_le ho szq.out) nov 16 (.slice va m9 vc))
                clear NQ3 ho nov
                have DA : Hid (D.a = A ∧ D.e = 0 ∧ D.p.fs = L ∧ D.p.dig = bl (fun i => f (A + 4 + i)) (n - (A + 4))) := Lib.hid (by rw [PD]; exact ⟨rfl, rfl, rfl, rfl⟩)
                have NQZ : Hid (Blk (wk.setCell ⟨PB, 16, none⟩ (.slice va m9 vc)) PB (pvs D.p (.slice fva L.length fvc) (.slice va m9 vc))) := Lib.hid (by rw [PD]; exact NQ9.out)
                clear PD
                have ltQ : w.heap.size < PB + 1 := by omega
                have NF := Lib.hid (Blk.over (NR9.out) (pvs D.p (.slice fva L.length fvc) (.slice va m9 vc)) rfl)
                have BF := Lib.hid (below_over (Nat.le_refl _) (pvs D.p (.slice fva L.length fvc) (.slice va m9 vc)) 0 (BB9.out))
                have RF := Lib.hid ((RW9.out).over ltQ (pvs D.p (.slice fva L.length fvc) (.slice va m9 vc)))
                have OF := Lib.hid (show By.Own _ _ _ _ from row_over OD9.out ltQ (pvs D.p (.slice fva L.length fvc) (.slice va m9 vc)))
                go_upto_region 25 with fail
                go_wp2_with (first | (refine wpList_load_mid rfl 30 _ rfl _ 0 rfl (pvs D.p (.slice fva L.length fvc) (.slice va m9 vc)) _ NQZ.out.range Try.underlying30 rfl (by rw [pvs_len]; exact info_pk) ?_) | (refine wpList_store_mid rfl 30 _ _ rfl _ 0 (pvs D.p (.slice fva L.length fvc) (.slice va m9 vc)).toArray rfl rfl (NR9.out).there (by exact info_pk) (all_oneCell_toArray (pvs_one _ _ _ rfl rfl)) ?_))
                exact bodyPost_ret (v := .tuple #[.agg (pvs D.p (.slice fva L.length fvc) (.slice va m9 vc)).toArray, .int .i64 A, .int .i64 0]) (results_cell_slots rfl _ _ w.heap.size _ _ _ _ rfl rfl rfl NF.out.range Try.underlying30 rfl (by rw [pvs_len]; exact info_pk)) rfl ⟨⟨.slice fva L.length fvc, .slice va m9 vc, row, by rw [DA.out.1, DA.out.2.1]; rfl, by rw [DA.out.2.2.1]; exact RF.out.le (by omega), by rw [DA.out.2.2.2]; exact row_le OF.out (by omega)⟩, BF.out⟩
            · have DN : Hid (D = bad 23) := Lib.hid (by rw [DE3.out, fin, if_neg c0, if_neg (fun h => c4 h.1), if_neg c20])
              have e9 : ((n : Int) - (A : Int) == 20) = false := by simp; omega
              have e10 : ((n : Int) - (A : Int) == 24) = false := by simp; omega
              clear c0 c4 c20 HN la
              go_upto_region 17 with fail
              have NF := Lib.hid (Blk.over (NR.out) (pvs pk0 (.slice none 0 0) (.slice none 0 0)) rfl)
              have BF := Lib.hid (below_over (Nat.le_refl _) (pvs pk0 (.slice none 0 0) (.slice none 0 0)) 0 (BB.out))
              go_wp2_with (refine wpList_store_mid rfl 30 _ _ rfl _ 0 (pvs pk0 (.slice none 0 0) (.slice none 0 0)).toArray rfl rfl (NR.out).there (by exact info_pk) (all_oneCell_toArray (pvs_one _ _ _ rfl rfl)) ?_)
              exact bodyPost_ret (v := .tuple #[.agg (pvs pk0 (.slice none 0 0) (.slice none 0 0)).toArray, .int .i64 0, .int .i64 23]) (results_cell_slots rfl _ _ w.heap.size _ _ _ _ rfl rfl rfl NF.out.range Try.underlying30 rfl (by rw [pvs_len]; exact info_pk)) rfl ⟨⟨.slice none 0 0, .slice none 0 0, [], by rw [DN.out]; rfl, by rw [DN.out]; exact Rowd.nil _ _, by rw [DN.out]; exact By.Own.nil _ _⟩, BF.out⟩
      · have e5 : decide ((24 : Int) < (n : Int) - (A : Int)) = true := decide_eq_true (by omega)
        have HXr := HX.out.below BB.out
        have HG := Lib.hid (get_c cap HXr (A + 2) 2 (by omega) (by omega) (by omega))
        rw [show ((A + 2 : Nat) : Int) = (A : Int) + 2 by omega] at HG
        have la := gt_lt HXr.2.1 (A + 2) 2
        have U2 : IntKind.i64.wrap (gt f (A + 2) 2 : Int) = (gt f (A + 2) 2 : Int) := wrap_i64 (by omega) (by omega)
        clear HXr
        go_wp2_with fail
        refine HG.out.mono ?_
        rintro e w9 ⟨rfl, rfl⟩
        by_cases g : 16 ≤ gt f (A + 2) 2 ∧ gt f (A + 2) 2 % 4 = 0 ∧ gt f (A + 2) 2 ≤ n - A ∧ 0 < r
        · obtain ⟨g1, g2, g3, g4⟩ := g
          obtain ⟨r, rfl⟩ : ∃ r', r = r' + 1 := ⟨r - 1, by omega⟩
          have CS := Lib.hid (cut_step CT.out (cut_go c ⟨g1, g2, g3⟩))
          have b1 : decide ((gt f (A + 2) 2 : Int) < 16) = false := decide_eq_false (by omega)
          have q7 : (gt f (A + 2) 2 : Int).tmod 4 = (gt f (A + 2) 2 : Int) % 4 := Int.tmod_eq_emod_of_nonneg (by omega)
          have b2 : ((gt f (A + 2) 2 : Int) % 4 != 0) = false := by simp; omega
          have b3 : decide ((n : Int) - (A : Int) < (gt f (A + 2) 2 : Int)) = false := decide_eq_false (by omega)
          have b4 : ((L.length : Int) == 8) = false := by simp; omega
          have lL : (L.length : Int) ≤ 8 := by omega
          have l0 : (0 : Int) ≤ (L.length : Int) := by omega
          have y13 := (NQ.out.2 13 _ rfl).1
          clear CT
          generalize gt f (A + 2) 2 = G at *
          have HXr := HX.out.below BB.out
          have b0 : Below w9.heap.size w9 w9.drew := (brefl w9).drew
          have HN : Hid (∀ z, Below w9.heap.size w9 z → Calls Try.prog 32 #[.slice (some ⟨B, o, none⟩) n cap, .int .i64 (A : Int), .int .i64 2] z fun e w' => e = .returned (.int .u64 (gt f A 2 : Nat)) ∧ w' = z) := Lib.hid (fun z k => get_c cap (HXr.below k) A 2 (by omega) (by omega) (by omega))
          have la2 := gt_lt HXr.2.1 A 2
          have U3 : IntKind.i64.wrap (gt f A 2 : Int) = (gt f A 2 : Int) := wrap_i64 (by omega) (by omega)
          have bq : w.heap.size ≤ PB := by omega
          have HC := Lib.hid (part_c (HXr.below b0) (by omega) hc hc2 (x := A + 4) (y := A + G) (by omega) (by omega))
          have es : A + G - (A + 4) = G - 4 := by omega
          rw [es, show ((A + 4 : Nat) : Int) = (A : Int) + 4 by omega, show ((A + G : Nat) : Int) = (A : Int) + (G : Int) by omega] at HC
          have nofv : Hid (∀ g, g < PB + 1 → (Value.slice fva L.length fvc).ownBlock ≠ some g) := Lib.hid fun g hg e => by have := (RW.out.2.1.1.lt g e).1; omega
          have HC := Lib.hid (HC.out.mono (R' := fun e w' => ∃ va mb vc va' m' vc' w3, e = .returned (.slice va mb vc) ∧ Below w9.heap.size w9 w' ∧
              (Builtin.append_ #[26, 26] 26 #[.slice fva L.length fvc, .slice (some ⟨w'.heap.size, 0, none⟩) 1 1]).run Try.prog (w'.alloc (.cells #[.int .i64 (gt f A 2 : Nat), .slice va mb vc] 51)) = .ok (.slice va' m' vc') w3 ∧
              w'.cell? ⟨PB, 13, none⟩ = some (.slice fva L.length fvc) ∧ (w'.alloc (.cells #[.int .i64 (gt f A 2 : Nat), .slice va mb vc] 51)).cell? ⟨PB, 13, none⟩ = some (.slice fva L.length fvc) ∧
              w3.cell? ⟨PB, 13, none⟩ = some (.slice fva L.length fvc) ∧ w3.frozen? ⟨PB, 13, none⟩ = false ∧
              Hid (Rowd (w3.setCell ⟨PB, 13, none⟩ (.slice va' m' vc')) (PB + 1) (.slice va' m' vc') (row ++ [((gt f A 2 : Int), .slice va mb vc)]) (L ++ [((gt f A 2 : Int), bl (fun i => f (A + 4 + i)) (G - 4))]) ∧
                Blk (w3.setCell ⟨PB, 13, none⟩ (.slice va' m' vc')) PB (hvs (hd f) ++ [.slice va' m' vc', .int .i64 0, .int .u32 0, .slice none 0 0]) ∧
                Blk (w3.setCell ⟨PB, 13, none⟩ (.slice va' m' vc')) w.heap.size [.int .i64 0, .int .i64 0, .int .i64 0, .int .i64 0, .int .i64 0, .int .i64 0, .int .u32 0, .int .u32 0, .int .u32 0, .int .u64 0, .int .u64 0, .int .u64 0, .int .u64 0, .slice none 0 0, .int .i64 0, .int .u32 0, .slice none 0 0] ∧ Below w.heap.size w (w3.setCell ⟨PB, 13, none⟩ (.slice va' m' vc')) ∧ PB + 1 ≤ (w3.setCell ⟨PB, 13, none⟩ (.slice va' m' vc')).heap.size)) fun e w' h => by
            obtain ⟨⟨vb, rfl, ho⟩, hb⟩ := h
            have hb' : Below w9.heap.size w9 w' := bstep b0 hb
            have ho' : By.Own w' w9.heap.size vb (bl (fun i => f (A + 4 + i)) (G - 4)) := ho
            obtain ⟨va, mb, vc, rfl⟩ : ∃ a m c, vb = .slice a m c := (own_form ho).elim fun a h => h.elim fun c h => ⟨a, _, c, h⟩
            have RW1 := RW.out.below hb'
            have sz := SZ.out
            have sz2 := hb'.size
            obtain ⟨v', w3, hr, oF, bF, gF⟩ := appF RW1.2.1 (gt f A 2 : Nat) (.slice va mb vc) rfl (Nat.le_trans sz sz2) (by rw [RW.out.1]; omega) 26
            obtain ⟨va', m', vc', rfl⟩ : ∃ a m c, v' = .slice a m c := (ownF_form oF).elim fun a h => h.elim fun c h => ⟨a, _, c, h⟩
            have q1 := gF.blk (NQ.out.below hb') (nofv.out PB (by omega))
            have q2 := gF.blk (NR.out.below hb') (nofv.out w.heap.size (by omega))
            have q0 := ((NQ.out.below hb').2 13 _ rfl).1
            refine ⟨va, mb, vc, va', m', vc', w3, rfl, hb', hr, q0, ((((NQ.out.below hb').below (balloc (brefl w') _))).2 13 _ rfl).1, (q1.2 13 _ rfl).1, (q1.2 13 _ rfl).2, Lib.hid ⟨?_, blk_set q1 13 _, blk_other q2 (by omega) 13 _, ((bstep BB.out hb').trans (bF.mono (by omega))).setCell (p := ⟨PB, 13, none⟩) bq _, ?_⟩⟩
            · exact (RW1.snoc (row_le ho' sz) oF gF).set (Nat.lt_succ_self PB) 13 _
            · have s3 := gF.1
              have s4 : (w3.setCell ⟨PB, 13, none⟩ (.slice va' m' vc')).heap.size = w3.heap.size := by simp
              omega)
          clear HXr es la la2
          have gA : (A : Int) + (G : Int) ≤ 1024 := by omega
          have g0 : (0 : Int) ≤ (G : Int) := by omega
          have V4 : IntKind.i64.wrap ((A : Int) + 4) = (A : Int) + 4 := wrap_i64 (by omega) (by omega)
          have V5 : IntKind.i64.wrap ((A : Int) + (G : Int)) = (A : Int) + (G : Int) := wrap_i64 (by omega) (by omega)
          go_upto_region 14 with fail
          go_region_law (first | (refine step_append_eq rfl (.tmp 65) (.tmp 78) 26 rfl _ _ (.slice va' m' vc') w5 rfl rfl hr ?_) | (go_simp; go_at_call 33; (with_reducible refine HC.out.mono ?_); rintro e w4 ⟨va, mb, vc, va', m', vc', w5, rfl, hb, hr, z0, z1, z2, z3, FF⟩) | (go_simp; go_at_call 32; (with_reducible refine (HN.out _ (by first | exact b0 | assumption)).mono ?_); rintro e w7 ⟨rfl, rfl⟩))
          all_goals
            go_wp2_with fail
            exact ⟨⟨r, A + G, _, _, _, by rw [show ((A + G : Nat) : Int) = (A : Int) + (G : Int) by omega], by rw [List.length_append]; show L.length + 1 + r = 8; omega, by omega, by omega, CS.out, FF.out⟩, by simp [intOf]; omega⟩
        · have DN : Hid (D = bad 23) := Lib.hid (by rw [DE2.out, CT.out, cut_none c g]; rfl)
          have lL : (L.length : Int) ≤ 8 := by omega
          have l0 : (0 : Int) ≤ (L.length : Int) := by omega
          have y13 := (NQ.out.2 13 _ rfl).1
          by_cases g1 : gt f (A + 2) 2 < 16
          · have b1 : decide ((gt f (A + 2) 2 : Int) < 16) = true := decide_eq_true (by omega)
            go_upto_region 13 with fail
            have NF := Lib.hid (Blk.over (NR.out) (pvs pk0 (.slice none 0 0) (.slice none 0 0)) rfl)
            have BF := Lib.hid (below_over (Nat.le_refl _) (pvs pk0 (.slice none 0 0) (.slice none 0 0)) 0 (BB.out))
            go_wp2_with (refine wpList_store_mid rfl 30 _ _ rfl _ 0 (pvs pk0 (.slice none 0 0) (.slice none 0 0)).toArray rfl rfl (NR.out).there (by exact info_pk) (all_oneCell_toArray (pvs_one _ _ _ rfl rfl)) ?_)
            exact bodyPost_ret (v := .tuple #[.agg (pvs pk0 (.slice none 0 0) (.slice none 0 0)).toArray, .int .i64 0, .int .i64 23]) (results_cell_slots rfl _ _ w.heap.size _ _ _ _ rfl rfl rfl NF.out.range Try.underlying30 rfl (by rw [pvs_len]; exact info_pk)) rfl ⟨⟨.slice none 0 0, .slice none 0 0, [], by rw [DN.out]; rfl, by rw [DN.out]; exact Rowd.nil _ _, by rw [DN.out]; exact By.Own.nil _ _⟩, BF.out⟩
          · have b1 : decide ((gt f (A + 2) 2 : Int) < 16) = false := decide_eq_false (by omega)
            have q7 : (gt f (A + 2) 2 : Int).tmod 4 = (gt f (A + 2) 2 : Int) % 4 := Int.tmod_eq_emod_of_nonneg (by omega)
            by_cases g2 : gt f (A + 2) 2 % 4 = 0
            · have b2 : ((gt f (A + 2) 2 : Int) % 4 != 0) = false := by simp; omega
              by_cases g3 : gt f (A + 2) 2 ≤ n - A
              · have b3 : decide ((n : Int) - (A : Int) < (gt f (A + 2) 2 : Int)) = false := decide_eq_false (by omega)
                have b4 : ((L.length : Int) == 8) = true := by simp; omega
                go_upto_region 13 with fail
                have NF := Lib.hid (Blk.over (NR.out) (pvs pk0 (.slice none 0 0) (.slice none 0 0)) rfl)
                have BF := Lib.hid (below_over (Nat.le_refl _) (pvs pk0 (.slice none 0 0) (.slice none 0 0)) 0 (BB.out))
                go_wp2_with (refine wpList_store_mid rfl 30 _ _ rfl _ 0 (pvs pk0 (.slice none 0 0) (.slice none 0 0)).toArray rfl rfl (NR.out).there (by exact info_pk) (all_oneCell_toArray (pvs_one _ _ _ rfl rfl)) ?_)
                exact bodyPost_ret (v := .tuple #[.agg (pvs pk0 (.slice none 0 0) (.slice none 0 0)).toArray, .int .i64 0, .int .i64 23]) (results_cell_slots rfl _ _ w.heap.size _ _ _ _ rfl rfl rfl NF.out.range Try.underlying30 rfl (by rw [pvs_len]; exact info_pk)) rfl ⟨⟨.slice none 0 0, .slice none 0 0, [], by rw [DN.out]; rfl, by rw [DN.out]; exact Rowd.nil _ _, by rw [DN.out]; exact By.Own.nil _ _⟩, BF.out⟩
              · have b3 : decide ((n : Int) - (A : Int) < (gt f (A + 2) 2 : Int)) = true := decide_eq_true (by omega)
                go_upto_region 13 with fail
                have NF := Lib.hid (Blk.over (NR.out) (pvs pk0 (.slice none 0 0) (.slice none 0 0)) rfl)
                have BF := Lib.hid (below_over (Nat.le_refl _) (pvs pk0 (.slice none 0 0) (.slice none 0 0)) 0 (BB.out))
                go_wp2_with (refine wpList_store_mid rfl 30 _ _ rfl _ 0 (pvs pk0 (.slice none 0 0) (.slice none 0 0)).toArray rfl rfl (NR.out).there (by exact info_pk) (all_oneCell_toArray (pvs_one _ _ _ rfl rfl)) ?_)
                exact bodyPost_ret (v := .tuple #[.agg (pvs pk0 (.slice none 0 0) (.slice none 0 0)).toArray, .int .i64 0, .int .i64 23]) (results_cell_slots rfl _ _ w.heap.size _ _ _ _ rfl rfl rfl NF.out.range Try.underlying30 rfl (by rw [pvs_len]; exact info_pk)) rfl ⟨⟨.slice none 0 0, .slice none 0 0, [], by rw [DN.out]; rfl, by rw [DN.out]; exact Rowd.nil _ _, by rw [DN.out]; exact By.Own.nil _ _⟩, BF.out⟩
            · have b2 : ((gt f (A + 2) 2 : Int) % 4 != 0) = true := by simp; omega
              go_upto_region 13 with fail
              have NF := Lib.hid (Blk.over (NR.out) (pvs pk0 (.slice none 0 0) (.slice none 0 0)) rfl)
              have BF := Lib.hid (below_over (Nat.le_refl _) (pvs pk0 (.slice none 0 0) (.slice none 0 0)) 0 (BB.out))
              go_wp2_with (refine wpList_store_mid rfl 30 _ _ rfl _ 0 (pvs pk0 (.slice none 0 0) (.slice none 0 0)).toArray rfl rfl (NR.out).there (by exact info_pk) (all_oneCell_toArray (pvs_one _ _ _ rfl rfl)) ?_)
              exact bodyPost_ret (v := .tuple #[.agg (pvs pk0 (.slice none 0 0) (.slice none 0 0)).toArray, .int .i64 0, .int .i64 23]) (results_cell_slots rfl _ _ w.heap.size _ _ _ _ rfl rfl rfl NF.out.range Try.underlying30 rfl (by rw [pvs_len]; exact info_pk)) rfl ⟨⟨.slice none 0 0, .slice none 0 0, [], by rw [DN.out]; rfl, by rw [DN.out]; exact Rowd.nil _ _, by rw [DN.out]; exact By.Own.nil _ _⟩, BF.out⟩
  · have cv2 : btw (hd f).ver 1 4 = false := by simpa using cv
    rw [cv2]
    have DE2 := Lib.hid (DE.out.trans (if_pos cv2))
    clear DE cv cv2
    go_upto_region 8 with fail
    have NF := Lib.hid (Blk.over (NR4.out) (pvs pk0 (.slice none 0 0) (.slice none 0 0)) rfl)
    have BF := Lib.hid (below_over (Nat.le_refl _) (pvs pk0 (.slice none 0 0) (.slice none 0 0)) 0 (BB4.out))
    go_wp2_with (refine wpList_store_mid rfl 30 _ _ rfl _ 0 (pvs pk0 (.slice none 0 0) (.slice none 0 0)).toArray rfl rfl (NR4.out).there (by exact info_pk) (all_oneCell_toArray (pvs_one _ _ _ rfl rfl)) ?_)
    exact bodyPost_ret (v := .tuple #[.agg (pvs pk0 (.slice none 0 0) (.slice none 0 0)).toArray, .int .i64 0, .int .i64 22]) (results_cell_slots rfl _ _ w.heap.size _ _ _ _ rfl rfl rfl NF.out.range Try.underlying30 rfl (by rw [pvs_len]; exact info_pk)) rfl ⟨⟨.slice none 0 0, .slice none 0 0, [], by rw [DE2.out]; rfl, by rw [DE2.out]; exact Rowd.nil _ _, by rw [DE2.out]; exact By.Own.nil _ _⟩, BF.out⟩
end Go.Proofs.Ytmjbnbjkpimjmaa.Wi
