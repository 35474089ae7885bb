/-
  A sample that a filter takes.
  Conditions: none but that the filter lies in memory.
-/
import Derived.Test.YtmlnmldcjbhhjaaFlD
import Derived.Deep.RegionLaw
namespace Go.Proofs.Ytmlnmldcjbhhjaa.Fl
open Go.RowKit Go.ChangeShapes Go.WideShapes Go.ChangeAt Go.Joins
set_option linter.unusedVariables false
set_option linter.unusedSimpArgs false

set_option maxRecDepth 100000 in
set_option maxHeartbeats 4000000 in
/-- a sample that is taken: the last eight stay. -/
theorem Add_ok {w : World} {b : Nat} {L : List Sm} (h : Fm w b L) (s : Sm) (hs : okSm s) (ho : ∀ t, L[0]? = some t → t.at' < s.at') : Calls Try.prog 7 #[.pointer (some ⟨b, 0, none⟩), SV s] w fun e w' => e = .returned (.int .i64 0) ∧ Fm w' b ((s :: L).take 8) ∧ Tu (Td b) w w' := by
  have IR := Lib.hid (fun w => isRight_c s w)
  rw [decide_eq_true hs] at IR
  have AV := Lib.hid (fun w V w' (h : FmV w b V L) n hn hb => fmV_add (w' := w') h s n hn hb)
  obtain ⟨n, hn⟩ : ∃ n, ((s :: L).take 8).length = n := ⟨_, rfl⟩
  rw [hn] at AV
  have hn' : min (L.length + 1) 8 = n := by rw [← hn, List.length_take, List.length_cons]; omega
  have HA : Hid (∀ w, (∃ V, FmV w b V ((s :: L).take 8)) → Fm w b ((s :: L).take 8)) := Lib.hid fun w h => h
  generalize (s :: L).take 8 = K at *
  have HO : Hid (L = [] ∨ ∃ t R, L = t :: R ∧ t.at' < s.at') := Lib.hid (by
    cases L with
    | nil => exact .inl rfl
    | cons t R => exact .inr ⟨t, R, rfl, ho t rfl⟩)
  clear hs ho hn
  obtain ⟨x, y, c, d⟩ := s
  replace IR : Hid (∀ w, Calls Try.prog 13 #[.agg #[.int .i64 x, .int .i64 y, .int .i64 c, .int .i64 d]] w fun e w' => e = .returned (.bool true) ∧ Below w.heap.size w w') := IR
  show Calls Try.prog 7 #[.pointer (some ⟨b, 0, none⟩), .agg #[.int .i64 x, .int .i64 y, .int .i64 c, .int .i64 d]] w _
  have B := Lib.hid (balloc (brefl w) (.cells #[.int .i64 x, .int .i64 y, .int .i64 c, .int .i64 d] 30))
  have N := Lib.hid (new4 w x y c d 30)
  have HF := Lib.hid h
  have hbw := Lib.hid h.lt
  obtain ⟨m, hm⟩ : ∃ m, L.length = m := ⟨_, rfl⟩
  have hm8 : m ≤ 8 := hm ▸ h.len
  rw [hm] at hn'
  have HM := Lib.hid hm
  clear h hm
  go_enter Try.func7, Try.ntmps7
  go_wp2_with fail
  refine (IR.out _).mono ?_
  rintro e w1 ⟨rfl, hb⟩
  have B2 := Lib.hid (bstep B.out hb)
  have N2 := Lib.hid (N.out.below hb)
  have F1 := Lib.hid (HF.out.below B2.out)
  clear hb N B IR HF
  have zw : b < w1.heap.size := Nat.lt_of_lt_of_le hbw.out B2.out.size
  have zn : b ≠ w.heap.size := Nat.ne_of_lt hbw.out
  have h1 := F1.out.count.1
  rw [HM.out] at h1
  obtain ⟨x0, x1, x2, x3⟩ := blk4 N2.out (brefl w1)
  have QT : Hid (∀ k w2, w2 = w1.drewN k → Below w.heap.size w w2 ∧ Fm w2 b L ∧ Blk w2 w.heap.size [.int .i64 x, .int .i64 y, .int .i64 c, .int .i64 d]) := Lib.hid fun k w2 e => by
    subst e
    exact ⟨bdrew B2.out k, F1.out.below (bdrew (brefl _) k), N2.out.below (bdrew (brefl _) k)⟩
  rcases HO.out with e0 | ⟨t, R, e0, ho⟩
  · have zz : decide (0 < m) = false := by rw [decide_eq_false_iff_not, ← HM.out, e0]; simp
    clear HO e0
    go_upto_region 5 with fail
    go_quiet (fail)
    go_upto_region 7 with fail
    generalize hw2 : w1.drewN nq = w2 at *
    obtain ⟨B3, F3, N3⟩ := QT.out _ _ hw2.symm
    obtain ⟨V, hV⟩ := F3
    have HV := Lib.hid hV
    obtain ⟨v1, v2, v3, v4, v5, v6⟩ := hV
    have BB := Lib.hid B3
    have NN := Lib.hid N3
    have V1 := Lib.hid v1
    have VB := Lib.hid v3
    have VO : Hid (∀ u ∈ V.take 28, u.oneCell' = true) := Lib.hid fun u hu => v2 u (List.mem_of_mem_take hu)
    have VL : Hid ((V.take 28).length = 28) := Lib.hid (by rw [List.length_take]; omega)
    have CS : Hid (∀ w', Below w2.heap.size w2 w' → (∀ j u, (V.take 28)[j]? = some u → w'.cell? ((⟨b, 0, none⟩ : Addr).add j) = some u) ∧ w'.there b 4 (V.take 28).length) := Lib.hid fun w' q => ⟨fun j u hj => by
        rw [add_plain, Nat.zero_add]
        refine ((VB.out.below q).2 j u ?_).1
        have hl := (List.getElem?_eq_some_iff.1 hj).1
        rw [VL.out] at hl
        rwa [List.getElem?_take_of_lt hl] at hj, fun j hj => by
        rw [VL.out] at hj
        have e := (VB.out.below q).2 (4 + j) _ (List.getElem?_eq_getElem (by rw [V1.out]; omega))
        exact ⟨by rw [e.1]; rfl, e.2⟩⟩
    clear B3 N3 v1 v2 v3 v4 v5 v6 hw2 QT h1 x0 x1 x2 x3 F1
    obtain ⟨C1, C2⟩ := CS.out w2.drew (brefl _).drew
    have C3 : (V.take 28).length = Nat.min 8 7 * 4 := VL.out
    obtain ⟨cs, hcs⟩ : ∃ cs, V.take 28 = cs := ⟨_, rfl⟩
    have HCS := Lib.hid hcs
    rw [hcs] at C1 C2 C3 VO
    clear hcs CS VL
    have UN : Try.prog.underlying 22 = some (.slice 30) := Try.underlying22
    have C4 := Lib.hid C1
    have C5 := Lib.hid C2
    clear C1 C2
    go_region_law (refine step_copy_cells rfl (.tmp 29) (.tmp 33) 22 rfl 30 UN 4 info_sm b 4 7 7 (by kernel_rfl) ⟨b, 0, none⟩ 8 8 (by kernel_rfl) cs C3 C4.out C5.out VO.out ?_)
    have AL : Hid ((V.take 4 ++ (cs ++ V.drop (4 + cs.length))).length = 33) := Lib.hid (by rw [List.length_append, List.length_append, List.length_take, List.length_drop, C3]; have := V1.out; simp [this])
    have R4 := Lib.hid (blk_mid (VB.out.below (brefl w2).drew) 4 cs (by rw [C3, V1.out]; decide))
    have T4 := Lib.hid ((tu_below (X := Td b) ((brefl w2).drew)).tr (tu_sets (X := Td b) (b := b) rfl cs 4 w2.drew) (fun _ _ q => q))
    have AE : Hid (V.take 4 ++ (cs ++ V.drop (4 + cs.length)) = V.take 4 ++ (V.take 28 ++ V.drop (4 + 28))) := Lib.hid (by rw [C3, HCS.out]; rfl)
    have H32 : Hid ((V.take 4 ++ (cs ++ V.drop (4 + cs.length)))[32]? = some (.int .i64 (m : Nat))) := Lib.hid (by
      obtain ⟨_, _, _, _, z, _⟩ := HV.out
      have t4 : (V.take 4).length = 4 := by have := V1.out; rw [List.length_take]; omega
      rw [HM.out] at z
      rw [List.getElem?_append_right (by omega), t4, List.getElem?_append_right (by rw [C3]; decide), C3, List.getElem?_drop]
      exact z)
    generalize V.take 4 ++ (cs ++ V.drop (4 + cs.length)) = A at *
    generalize w2.drew.setCells b 4 cs = w3 at *
    have N4 := Lib.hid (blk_keep NN.out (T4.out.block _ NN.out.1 (fun e => zn e.symm)) T4.out.size)
    clear C4 C5 VO C3 HCS UN
    have h1 := AL.out
    match A, h1, R4, AE, AL, H32 with
    | a0 :: a1 :: a2 :: a3 :: A5, h1, R4, AE, AL, H32 =>
      have hb0 : Below w3.heap.size w3 w3.drew := (brefl w3).drew
      obtain ⟨n0, n1, n2, n3⟩ := blk4 N4.out hb0
      have R5 := R4.out.below hb0
      obtain ⟨p0, q0⟩ := R5.2 0 _ rfl
      obtain ⟨p1, q1⟩ := R5.2 1 _ rfl
      obtain ⟨p2, q2⟩ := R5.2 2 _ rfl
      obtain ⟨p3, q3⟩ := R5.2 3 _ rfl
      have R6 : Hid (Blk ((((w3.setCell ⟨b, 0, none⟩ (.int .i64 x)).setCell ⟨b, 1, none⟩ (.int .i64 y)).setCell ⟨b, 2, none⟩ (.int .i64 c)).setCell ⟨b, 3, none⟩ (.int .i64 d)).drew b (((((a0 :: a1 :: a2 :: a3 :: A5).set 0 (.int .i64 x)).set 1 (.int .i64 y)).set 2 (.int .i64 c)).set 3 (.int .i64 d))) := Lib.hid ((blk_set (blk_set (blk_set (blk_set R4.out 0 (.int .i64 x)) 1 (.int .i64 y)) 2 (.int .i64 c)) 3 (.int .i64 d)).below (brefl _).drew)
      have T6 : Hid (Tu (Td b) w2 ((((w3.setCell ⟨b, 0, none⟩ (.int .i64 x)).setCell ⟨b, 1, none⟩ (.int .i64 y)).setCell ⟨b, 2, none⟩ (.int .i64 c)).setCell ⟨b, 3, none⟩ (.int .i64 d)).drew) := Lib.hid (((((T4.out.set 0 (.int .i64 x)).set 1 (.int .i64 y)).set 2 (.int .i64 c)).set 3 (.int .i64 d)).tr (tu_below (X := Td b) (brefl _).drew) (fun _ _ q => q))
      clear R5 hb0
      obtain ⟨p4, q4⟩ := R4.out.2 0 _ rfl
      obtain ⟨p5, q5⟩ := R4.out.2 1 _ rfl
      obtain ⟨p6, q6⟩ := R4.out.2 2 _ rfl
      obtain ⟨p7, q7⟩ := R4.out.2 3 _ rfl
      go_upto_region 8 with fail
      go_region
      generalize ((((w3.setCell ⟨b, 0, none⟩ (.int .i64 x)).setCell ⟨b, 1, none⟩ (.int .i64 y)).setCell ⟨b, 2, none⟩ (.int .i64 c)).setCell ⟨b, 3, none⟩ (.int .i64 d)).drew = w4 at *
      have hc : min ((m : Int) + 1) 8 = (n : Nat) := by omega
      have hwr : IntKind.i64.wrap ((m : Int) + 1) = (m : Int) + 1 := wrap_in (by omega) (by omega)
      obtain ⟨g0, g1⟩ := R6.out.2 32 _ H32.out
      have R7 : Hid (Blk (w4.setCell ⟨b, 32, none⟩ (.int .i64 (n : Nat))) b (addV V ⟨x, y, c, d⟩ n)) := Lib.hid (by unfold addV; rw [← AE.out]; exact blk_set R6.out 32 _)
      have T7 := Lib.hid (T6.out.set 32 (.int .i64 (n : Nat)))
      have FN := Lib.hid (HA.out _ ⟨_, AV.out _ _ _ HV.out n rfl R7.out⟩)
      have TN := Lib.hid ((tu_below (X := Td b) BB.out).tr T7.out (fun _ _ q => q))
      clear p0 p1 p2 p3 p4 p5 p6 p7 q0 q1 q2 q3 q4 q5 q6 q7 n0 n1 n2 n3
      go_wp2_with fail
      go_ret
      exact ⟨rfl, FN.out, TN.out⟩
  · have zz : decide (0 < m) = true := by rw [decide_eq_true_iff, ← HM.out, e0]; simp
    have h2 : w1.cell? ⟨b, 3, none⟩ = some (.int .i64 t.at') := by have := F1.out; rw [e0] at this; exact this.first
    have z2 : decide (d ≤ t.at') = false := decide_eq_false (by omega)
    generalize t.at' = ta at *
    clear HO e0
    go_upto_region 5 with fail
    go_quiet (fail)
    go_upto_region 7 with fail
    clear h2
    generalize hw2 : w1.drewN nq = w2 at *
    obtain ⟨B3, F3, N3⟩ := QT.out _ _ hw2.symm
    obtain ⟨V, hV⟩ := F3
    have HV := Lib.hid hV
    obtain ⟨v1, v2, v3, v4, v5, v6⟩ := hV
    have BB := Lib.hid B3
    have NN := Lib.hid N3
    have V1 := Lib.hid v1
    have VB := Lib.hid v3
    have VO : Hid (∀ u ∈ V.take 28, u.oneCell' = true) := Lib.hid fun u hu => v2 u (List.mem_of_mem_take hu)
    have VL : Hid ((V.take 28).length = 28) := Lib.hid (by rw [List.length_take]; omega)
    have CS : Hid (∀ w', Below w2.heap.size w2 w' → (∀ j u, (V.take 28)[j]? = some u → w'.cell? ((⟨b, 0, none⟩ : Addr).add j) = some u) ∧ w'.there b 4 (V.take 28).length) := Lib.hid fun w' q => ⟨fun j u hj => by
        rw [add_plain, Nat.zero_add]
        refine ((VB.out.below q).2 j u ?_).1
        have hl := (List.getElem?_eq_some_iff.1 hj).1
        rw [VL.out] at hl
        rwa [List.getElem?_take_of_lt hl] at hj, fun j hj => by
        rw [VL.out] at hj
        have e := (VB.out.below q).2 (4 + j) _ (List.getElem?_eq_getElem (by rw [V1.out]; omega))
        exact ⟨by rw [e.1]; rfl, e.2⟩⟩
    clear B3 N3 v1 v2 v3 v4 v5 v6 hw2 QT h1 x0 x1 x2 x3 F1
    obtain ⟨C1, C2⟩ := CS.out w2.drew (brefl _).drew
    have C3 : (V.take 28).length = Nat.min 8 7 * 4 := VL.out
    obtain ⟨cs, hcs⟩ : ∃ cs, V.take 28 = cs := ⟨_, rfl⟩
    have HCS := Lib.hid hcs
    rw [hcs] at C1 C2 C3 VO
    clear hcs CS VL
    have UN : Try.prog.underlying 22 = some (.slice 30) := Try.underlying22
    have C4 := Lib.hid C1
    have C5 := Lib.hid C2
    clear C1 C2
    go_region_law (refine step_copy_cells rfl (.tmp 29) (.tmp 33) 22 rfl 30 UN 4 info_sm b 4 7 7 (by kernel_rfl) ⟨b, 0, none⟩ 8 8 (by kernel_rfl) cs C3 C4.out C5.out VO.out ?_)
    have AL : Hid ((V.take 4 ++ (cs ++ V.drop (4 + cs.length))).length = 33) := Lib.hid (by rw [List.length_append, List.length_append, List.length_take, List.length_drop, C3]; have := V1.out; simp [this])
    have R4 := Lib.hid (blk_mid (VB.out.below (brefl w2).drew) 4 cs (by rw [C3, V1.out]; decide))
    have T4 := Lib.hid ((tu_below (X := Td b) ((brefl w2).drew)).tr (tu_sets (X := Td b) (b := b) rfl cs 4 w2.drew) (fun _ _ q => q))
    have AE : Hid (V.take 4 ++ (cs ++ V.drop (4 + cs.length)) = V.take 4 ++ (V.take 28 ++ V.drop (4 + 28))) := Lib.hid (by rw [C3, HCS.out]; rfl)
    have H32 : Hid ((V.take 4 ++ (cs ++ V.drop (4 + cs.length)))[32]? = some (.int .i64 (m : Nat))) := Lib.hid (by
      obtain ⟨_, _, _, _, z, _⟩ := HV.out
      have t4 : (V.take 4).length = 4 := by have := V1.out; rw [List.length_take]; omega
      rw [HM.out] at z
      rw [List.getElem?_append_right (by omega), t4, List.getElem?_append_right (by rw [C3]; decide), C3, List.getElem?_drop]
      exact z)
    generalize V.take 4 ++ (cs ++ V.drop (4 + cs.length)) = A at *
    generalize w2.drew.setCells b 4 cs = w3 at *
    have N4 := Lib.hid (blk_keep NN.out (T4.out.block _ NN.out.1 (fun e => zn e.symm)) T4.out.size)
    clear C4 C5 VO C3 HCS UN
    have h1 := AL.out
    match A, h1, R4, AE, AL, H32 with
    | a0 :: a1 :: a2 :: a3 :: A5, h1, R4, AE, AL, H32 =>
      have hb0 : Below w3.heap.size w3 w3.drew := (brefl w3).drew
      obtain ⟨n0, n1, n2, n3⟩ := blk4 N4.out hb0
      have R5 := R4.out.below hb0
      obtain ⟨p0, q0⟩ := R5.2 0 _ rfl
      obtain ⟨p1, q1⟩ := R5.2 1 _ rfl
      obtain ⟨p2, q2⟩ := R5.2 2 _ rfl
      obtain ⟨p3, q3⟩ := R5.2 3 _ rfl
      have R6 : Hid (Blk ((((w3.setCell ⟨b, 0, none⟩ (.int .i64 x)).setCell ⟨b, 1, none⟩ (.int .i64 y)).setCell ⟨b, 2, none⟩ (.int .i64 c)).setCell ⟨b, 3, none⟩ (.int .i64 d)).drew b (((((a0 :: a1 :: a2 :: a3 :: A5).set 0 (.int .i64 x)).set 1 (.int .i64 y)).set 2 (.int .i64 c)).set 3 (.int .i64 d))) := Lib.hid ((blk_set (blk_set (blk_set (blk_set R4.out 0 (.int .i64 x)) 1 (.int .i64 y)) 2 (.int .i64 c)) 3 (.int .i64 d)).below (brefl _).drew)
      have T6 : Hid (Tu (Td b) w2 ((((w3.setCell ⟨b, 0, none⟩ (.int .i64 x)).setCell ⟨b, 1, none⟩ (.int .i64 y)).setCell ⟨b, 2, none⟩ (.int .i64 c)).setCell ⟨b, 3, none⟩ (.int .i64 d)).drew) := Lib.hid (((((T4.out.set 0 (.int .i64 x)).set 1 (.int .i64 y)).set 2 (.int .i64 c)).set 3 (.int .i64 d)).tr (tu_below (X := Td b) (brefl _).drew) (fun _ _ q => q))
      clear R5 hb0
      obtain ⟨p4, q4⟩ := R4.out.2 0 _ rfl
      obtain ⟨p5, q5⟩ := R4.out.2 1 _ rfl
      obtain ⟨p6, q6⟩ := R4.out.2 2 _ rfl
      obtain ⟨p7, q7⟩ := R4.out.2 3 _ rfl
      go_upto_region 8 with fail
      go_region
      generalize ((((w3.setCell ⟨b, 0, none⟩ (.int .i64 x)).setCell ⟨b, 1, none⟩ (.int .i64 y)).setCell ⟨b, 2, none⟩ (.int .i64 c)).setCell ⟨b, 3, none⟩ (.int .i64 d)).drew = w4 at *
      have hc : min ((m : Int) + 1) 8 = (n : Nat) := by omega
      have hwr : IntKind.i64.wrap ((m : Int) + 1) = (m : Int) + 1 := wrap_in (by omega) (by omega)
      obtain ⟨g0, g1⟩ := R6.out.2 32 _ H32.out
      have R7 : Hid (Blk (w4.setCell ⟨b, 32, none⟩ (.int .i64 (n : Nat))) b (addV V ⟨x, y, c, d⟩ n)) := Lib.hid (by unfold addV; rw [← AE.out]; exact blk_set R6.out 32 _)
      have T7 := Lib.hid (T6.out.set 32 (.int .i64 (n : Nat)))
      have FN := Lib.hid (HA.out _ ⟨_, AV.out _ _ _ HV.out n rfl R7.out⟩)
      have TN := Lib.hid ((tu_below (X := Td b) BB.out).tr T7.out (fun _ _ q => q))
      clear p0 p1 p2 p3 p4 p5 p6 p7 q0 q1 q2 q3 q4 q5 q6 q7 n0 n1 n2 n3
      go_wp2_with fail
      go_ret
      exact ⟨rfl, FN.out, TN.out⟩
end Go.Proofs.Ytmlnmldcjbhhjaa.Fl
