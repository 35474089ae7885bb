/-
  CivilBack: numbers, texts and clockfaces lead back to where they came from, and rise together. The law returns true for every input, and the input reads as it did.
  Conditions: the library's three tables that the row lists read as the program's text lays them (the card ties them).
-/
import Derived.Test.YtooinoccijfgiaaDoorRows
import Derived.Test.YtooinoccijfgiaaDoorCards
import Derived.Test.YtooinoccijfgiaaDoorTie
import Derived.Test.YtooinoccijfgiaaDoorCvS
import Derived.SevenTiedAt
namespace Go.Proofs.YtooinoccijfgiaaDoor.civilBack
open Go.ChangeShapes Go.WideShapes Go.ChangeAt Go.RowKit Go.Joins Cv
set_option linter.unusedVariables false
set_option linter.unusedSimpArgs false

theorem norm_mod (n k : Int) (hk : 0 < k) : ∃ r N, n.tmod k = r ∧ -k < r ∧ r < k ∧ (r + k).tmod k = N ∧ 0 ≤ N ∧ N < k :=
  ⟨_, _, rfl, Int.lt_tmod_of_pos _ hk, Int.tmod_lt_of_pos _ hk, rfl, Int.tmod_nonneg _ (by have := Int.lt_tmod_of_pos n hk; omega), Int.tmod_lt_of_pos _ hk⟩

set_option maxRecDepth 100000 in
set_option maxHeartbeats 4000000 in
theorem walk_bad (n k t : Int) (w : World) (TT : Tab w) (r N r' M : Int) (q1 : n.tmod 2958464 = r) (r1 : -2958464 < r) (r2 : r < 2958464) (q2 : (r + 2958464).tmod 2958464 = N) (p1 : k.tmod 2958464 = r') (r3 : -2958464 < r') (r4 : r' < 2958464) (p2 : (r' + 2958464).tmod 2958464 = M)
    (y m d y2 m2 d2 : Int) (t1 u1 : ByteArray) 
    (C1 : Hid (∀ w, Calls Tryd.prog 11 #[.int .i64 N] w fun e w' => e = .returned (.tuple #[.agg #[.int .i64 y, .int .i64 m, .int .i64 d], .int .i64 0]) ∧ Below w.heap.size w w')) (C2 : Hid (∀ w, Calls Tryd.prog 11 #[.int .i64 M] w fun e w' => e = .returned (.tuple #[.agg #[.int .i64 y2, .int .i64 m2, .int .i64 d2], .int .i64 0]) ∧ Below w.heap.size w w')) (CN : Hid (∀ w, Calls Tryd.prog 9 #[.agg #[.int .i64 y, .int .i64 m, .int .i64 d]] w fun e w' => e = .returned (.tuple #[.int .i64 N, .int .i64 0]) ∧ Below w.heap.size w w')) (CT : Hid (∀ w, Tab w → Calls Tryd.prog 19 #[.agg #[.int .i64 y, .int .i64 m, .int .i64 d]] w fun e w' => e = .returned (.tuple #[.string t1, .int .i64 0]) ∧ Below w.heap.size w w')) (CU : Hid (∀ w, Tab w → Calls Tryd.prog 19 #[.agg #[.int .i64 y2, .int .i64 m2, .int .i64 d2]] w fun e w' => e = .returned (.tuple #[.string u1, .int .i64 0]) ∧ Below w.heap.size w w')) (CP : Hid (∀ w, Calls Tryd.prog 21 #[.string t1] w fun e w' => e = .returned (.tuple #[.agg #[.int .i64 y, .int .i64 m, .int .i64 d], .int .i64 0]) ∧ Below w.heap.size w w'))
    (BL : Op.bytesLess t1.toList u1.toList = decide (N < M)) (CS : Hid (∀ w, Calls Tryd.prog 23 #[.int .i64 t] w fun e w' => e = .returned (.tuple #[.agg #[.int .i64 0, .int .i64 0, .int .i64 0, .int .i64 0, .int .i64 0, .int .i64 0, .int .i64 0], .int .i64 2]) ∧ Below w.heap.size w w'))  :
    Calls Tryd.prog 6 #[.int .i64 n, .int .i64 k, .int .i64 t] w fun e w' => e = .returned (.bool true) ∧ Below w.heap.size w w' := by
  have HT := Lib.hid TT
  clear TT
  go_enter Tryd.func6, Tryd.ntmps6
  go_wp2_with fail
  refine (awake_c _ HT.out).mono ?_
  rintro e w1 ⟨rfl, hb⟩
  have HB := Lib.hid hb
  clear hb
  go_wp2_with fail
  clear q1 r1 r2 q2 p1 r3 r4 p2
  refine (C1.out _).mono ?_
  rintro e w2 ⟨rfl, hb⟩
  replace HB := Lib.hid (bstep HB.out hb)
  clear hb
  go_wp2_with fail
  refine (C2.out _).mono ?_
  rintro e w3 ⟨rfl, hb⟩
  have A := Lib.hid ((Dt.new w2 y m d).below hb)
  replace HB := Lib.hid (bstep (balloc HB.out (.cells #[.int .i64 y, .int .i64 m, .int .i64 d] 23)) hb)
  clear hb
  replace A := Lib.hid (A.out.alloc (.cells #[.int .i64 y2, .int .i64 m2, .int .i64 d2] 23))
  have B := Lib.hid (Dt.new w3 y2 m2 d2)
  replace HB := Lib.hid (balloc HB.out (.cells #[.int .i64 y2, .int .i64 m2, .int .i64 d2] 23))
  obtain ⟨a1, a2, a3, a4, a5, a6, a7⟩ := A.out
  go_wp2_with fail
  clear a1 a2 a3 a4 a5 a6 a7
  refine (CN.out _).mono ?_
  rintro e w4 ⟨rfl, hb⟩
  replace A := Lib.hid (A.out.below hb)
  replace B := Lib.hid (B.out.below hb)
  replace HB := Lib.hid (bstep HB.out hb)
  clear hb
  obtain ⟨a1, a2, a3, a4, a5, a6, a7⟩ := A.out
  go_wp2_with fail
  clear a1 a2 a3 a4 a5 a6 a7
  refine (CT.out _ (HT.out.below HB.out)).mono ?_
  rintro e w5 ⟨rfl, hb⟩
  replace A := Lib.hid (A.out.below hb)
  replace B := Lib.hid (B.out.below hb)
  replace HB := Lib.hid (bstep HB.out hb)
  clear hb
  obtain ⟨a1, a2, a3, a4, a5, a6, a7⟩ := B.out
  go_wp2_with fail
  clear a1 a2 a3 a4 a5 a6 a7
  refine (CU.out _ (HT.out.below HB.out)).mono ?_
  rintro e w6 ⟨rfl, hb⟩
  replace A := Lib.hid (A.out.below hb)
  replace B := Lib.hid (B.out.below hb)
  replace HB := Lib.hid (bstep HB.out hb)
  clear hb
  go_wp2_with fail
  refine (CP.out _).mono ?_
  rintro e w7 ⟨rfl, hb⟩
  replace A := Lib.hid (A.out.below hb)
  replace HB := Lib.hid (bstep HB.out hb)
  clear hb
  clear B C1 C2 CN CT CU CP HT
  replace A := Lib.hid (A.out.alloc (.cells #[.int .i64 y, .int .i64 m, .int .i64 d] 23))
  have G := Lib.hid (Dt.new w7 y m d)
  replace HB := Lib.hid (balloc HB.out (.cells #[.int .i64 y, .int .i64 m, .int .i64 d] 23))
  obtain ⟨a1, a2, a3, a4, a5, a6, a7⟩ := A.out
  obtain ⟨g1, g2, g3, g4, g5, g6, g7⟩ := G.out
  go_wp2_with fail
  clear a1 a2 a3 a4 a5 a6 a7 g1 g2 g3 g4 g5 g6 g7 A G
  refine (CS.out _).mono ?_
  rintro e w8 ⟨rfl, hb⟩
  replace HB := Lib.hid (balloc (bstep HB.out hb) (.cells #[.int .i64 0, .int .i64 0, .int .i64 0, .int .i64 0, .int .i64 0, .int .i64 0, .int .i64 0] 47))
  clear hb
  have L := Lib.hid (Fc.new w8 0 0 0 0 0 0 0)
  obtain ⟨l0, l1, l2, l3, l4, l5, l6, l7⟩ := L.out
  go_wp2_with fail
  go_ret
  exact ⟨rfl, HB.out⟩

set_option maxRecDepth 100000 in
set_option maxHeartbeats 4000000 in
theorem walk_ok (n k t : Int) (w : World) (TT : Tab w) (r N r' M : Int) (q1 : n.tmod 2958464 = r) (r1 : -2958464 < r) (r2 : r < 2958464) (q2 : (r + 2958464).tmod 2958464 = N) (p1 : k.tmod 2958464 = r') (r3 : -2958464 < r') (r4 : r' < 2958464) (p2 : (r' + 2958464).tmod 2958464 = M)
    (y m d y2 m2 d2 : Int) (t1 u1 : ByteArray) (f0 f1 f2 f3 f4 f5 f6 : Int)
    (C1 : Hid (∀ w, Calls Tryd.prog 11 #[.int .i64 N] w fun e w' => e = .returned (.tuple #[.agg #[.int .i64 y, .int .i64 m, .int .i64 d], .int .i64 0]) ∧ Below w.heap.size w w')) (C2 : Hid (∀ w, Calls Tryd.prog 11 #[.int .i64 M] w fun e w' => e = .returned (.tuple #[.agg #[.int .i64 y2, .int .i64 m2, .int .i64 d2], .int .i64 0]) ∧ Below w.heap.size w w')) (CN : Hid (∀ w, Calls Tryd.prog 9 #[.agg #[.int .i64 y, .int .i64 m, .int .i64 d]] w fun e w' => e = .returned (.tuple #[.int .i64 N, .int .i64 0]) ∧ Below w.heap.size w w')) (CT : Hid (∀ w, Tab w → Calls Tryd.prog 19 #[.agg #[.int .i64 y, .int .i64 m, .int .i64 d]] w fun e w' => e = .returned (.tuple #[.string t1, .int .i64 0]) ∧ Below w.heap.size w w')) (CU : Hid (∀ w, Tab w → Calls Tryd.prog 19 #[.agg #[.int .i64 y2, .int .i64 m2, .int .i64 d2]] w fun e w' => e = .returned (.tuple #[.string u1, .int .i64 0]) ∧ Below w.heap.size w w')) (CP : Hid (∀ w, Calls Tryd.prog 21 #[.string t1] w fun e w' => e = .returned (.tuple #[.agg #[.int .i64 y, .int .i64 m, .int .i64 d], .int .i64 0]) ∧ Below w.heap.size w w'))
    (BL : Op.bytesLess t1.toList u1.toList = decide (N < M)) (CS : Hid (∀ w, Calls Tryd.prog 23 #[.int .i64 t] w fun e w' => e = .returned (.tuple #[.agg #[.int .i64 f0, .int .i64 f1, .int .i64 f2, .int .i64 f3, .int .i64 f4, .int .i64 f5, .int .i64 f6], .int .i64 0]) ∧ Below w.heap.size w w')) (CL : Hid (∀ w, Calls Tryd.prog 25 #[.agg #[.int .i64 f0, .int .i64 f1, .int .i64 f2, .int .i64 f3, .int .i64 f4, .int .i64 f5, .int .i64 f6]] w fun e w' => e = .returned (.tuple #[.int .i64 t, .int .i64 0]) ∧ Below w.heap.size w w')) :
    Calls Tryd.prog 6 #[.int .i64 n, .int .i64 k, .int .i64 t] w fun e w' => e = .returned (.bool true) ∧ Below w.heap.size w w' := by
  have HT := Lib.hid TT
  clear TT
  go_enter Tryd.func6, Tryd.ntmps6
  go_wp2_with fail
  refine (awake_c _ HT.out).mono ?_
  rintro e w1 ⟨rfl, hb⟩
  have HB := Lib.hid hb
  clear hb
  go_wp2_with fail
  clear q1 r1 r2 q2 p1 r3 r4 p2
  refine (C1.out _).mono ?_
  rintro e w2 ⟨rfl, hb⟩
  replace HB := Lib.hid (bstep HB.out hb)
  clear hb
  go_wp2_with fail
  refine (C2.out _).mono ?_
  rintro e w3 ⟨rfl, hb⟩
  have A := Lib.hid ((Dt.new w2 y m d).below hb)
  replace HB := Lib.hid (bstep (balloc HB.out (.cells #[.int .i64 y, .int .i64 m, .int .i64 d] 23)) hb)
  clear hb
  replace A := Lib.hid (A.out.alloc (.cells #[.int .i64 y2, .int .i64 m2, .int .i64 d2] 23))
  have B := Lib.hid (Dt.new w3 y2 m2 d2)
  replace HB := Lib.hid (balloc HB.out (.cells #[.int .i64 y2, .int .i64 m2, .int .i64 d2] 23))
  obtain ⟨a1, a2, a3, a4, a5, a6, a7⟩ := A.out
  go_wp2_with fail
  clear a1 a2 a3 a4 a5 a6 a7
  refine (CN.out _).mono ?_
  rintro e w4 ⟨rfl, hb⟩
  replace A := Lib.hid (A.out.below hb)
  replace B := Lib.hid (B.out.below hb)
  replace HB := Lib.hid (bstep HB.out hb)
  clear hb
  obtain ⟨a1, a2, a3, a4, a5, a6, a7⟩ := A.out
  go_wp2_with fail
  clear a1 a2 a3 a4 a5 a6 a7
  refine (CT.out _ (HT.out.below HB.out)).mono ?_
  rintro e w5 ⟨rfl, hb⟩
  replace A := Lib.hid (A.out.below hb)
  replace B := Lib.hid (B.out.below hb)
  replace HB := Lib.hid (bstep HB.out hb)
  clear hb
  obtain ⟨a1, a2, a3, a4, a5, a6, a7⟩ := B.out
  go_wp2_with fail
  clear a1 a2 a3 a4 a5 a6 a7
  refine (CU.out _ (HT.out.below HB.out)).mono ?_
  rintro e w6 ⟨rfl, hb⟩
  replace A := Lib.hid (A.out.below hb)
  replace B := Lib.hid (B.out.below hb)
  replace HB := Lib.hid (bstep HB.out hb)
  clear hb
  go_wp2_with fail
  refine (CP.out _).mono ?_
  rintro e w7 ⟨rfl, hb⟩
  replace A := Lib.hid (A.out.below hb)
  replace HB := Lib.hid (bstep HB.out hb)
  clear hb
  clear B C1 C2 CN CT CU CP HT
  replace A := Lib.hid (A.out.alloc (.cells #[.int .i64 y, .int .i64 m, .int .i64 d] 23))
  have G := Lib.hid (Dt.new w7 y m d)
  replace HB := Lib.hid (balloc HB.out (.cells #[.int .i64 y, .int .i64 m, .int .i64 d] 23))
  obtain ⟨a1, a2, a3, a4, a5, a6, a7⟩ := A.out
  obtain ⟨g1, g2, g3, g4, g5, g6, g7⟩ := G.out
  go_wp2_with fail
  clear a1 a2 a3 a4 a5 a6 a7 g1 g2 g3 g4 g5 g6 g7 A G
  refine (CS.out _).mono ?_
  rintro e w8 ⟨rfl, hb⟩
  replace HB := Lib.hid (balloc (bstep HB.out hb) (.cells #[.int .i64 f0, .int .i64 f1, .int .i64 f2, .int .i64 f3, .int .i64 f4, .int .i64 f5, .int .i64 f6] 47))
  clear hb
  have L := Lib.hid (Fc.new w8 f0 f1 f2 f3 f4 f5 f6)
  obtain ⟨l0, l1, l2, l3, l4, l5, l6, l7⟩ := L.out
  go_wp2_with fail
  clear l0 l1 l2 l3 l4 l5 l6 l7
  refine (CL.out _).mono ?_
  rintro e w9 ⟨rfl, hb⟩
  replace HB := Lib.hid (bstep HB.out hb)
  clear hb
  go_wp2_with fail
  go_ret
  exact ⟨rfl, HB.out⟩

theorem walk (n k t : Int) (w : World) (TT : Tab w) (wn : (Lit.int .i64 n).wf = true) (wk : (Lit.int .i64 k).wf = true) (wt : (Lit.int .i64 t).wf = true) :
    Calls Tryd.prog 6 #[.int .i64 n, .int .i64 k, .int .i64 t] w fun e w' => e = .returned (.bool true) ∧ Below w.heap.size w w' := by
  obtain ⟨r, N, q1, r1, r2, q2, n1, n2⟩ := norm_mod n 2958464 (by omega)
  obtain ⟨r', M, p1, r3, r4, p2, m1, m2⟩ := norm_mod k 2958464 (by omega)
  obtain ⟨y, m, d, hd⟩ := day_ex (n := N) n1 (by omega)
  obtain ⟨y2, m2', d2, hd2⟩ := day_ex (n := M) m1 (by omega)
  have BL := txt_less hd.1 hd2.1
  rw [hd.2, hd2.2] at BL
  have CN : (∀ w, Calls Tryd.prog 9 #[.agg #[.int .i64 y, .int .i64 m, .int .i64 d]] w fun e w' => e = .returned (.tuple #[.int .i64 N, .int .i64 0]) ∧ Below w.heap.size w w') := fun w => by rw [← hd.2]; exact Number_ok y m d w hd.1
  have wt2 := (bounds_i64 wt).2
  by_cases c1 : t < 0
  · exact walk_bad n k t w TT r N r' M q1 r1 r2 q2 p1 r3 r4 p2 y m d y2 m2' d2 _ _ (Day_is hd) (Day_is hd2) CN (fun w T => Text_ok y m d w T hd.1) (fun w T => Text_ok y2 m2' d2 w T hd2.1) (Parse_txt hd.1) BL (fun w => Show_neg t w c1)
  · by_cases c2 : 268027863603609600 ≤ t
    · exact walk_bad n k t w TT r N r' M q1 r1 r2 q2 p1 r3 r4 p2 y m d y2 m2' d2 _ _ (Day_is hd) (Day_is hd2) CN (fun w T => Text_ok y m d w T hd.1) (fun w T => Text_ok y2 m2' d2 w T hd2.1) (Parse_txt hd.1) BL (fun w => Show_far t w c2 wt2)
    · obtain ⟨sy, sm, sd, hs⟩ := day_ex (n := t / 1048576 / 86400) (by omega) (by omega)
      have CL := fun w => Tell_ok sy sm sd (t / 1048576 % 86400 / 3600) (t / 1048576 % 86400 % 3600 / 60) (t / 1048576 % 86400 % 60) (t % 1048576) w hs.1 (by unfold tod; omega)
      rw [hs.2, show tell (t / 1048576 / 86400) (t / 1048576 % 86400 / 3600) (t / 1048576 % 86400 % 3600 / 60) (t / 1048576 % 86400 % 60) (t % 1048576) = t from by unfold tell; omega] at CL
      exact walk_ok n k t w TT r N r' M q1 r1 r2 q2 p1 r3 r4 p2 y m d y2 m2' d2 _ _ _ _ _ _ _ _ _ (Day_is hd) (Day_is hd2) CN (fun w T => Text_ok y m d w T hd.1) (fun w T => Text_ok y2 m2' d2 w T hd2.1) (Parse_txt hd.1) BL (Show_is (by omega) (by omega) hs) CL

set_option maxRecDepth 100000 in
theorem lifted (os : Os) (started : os.Started) (H : Type) (enc : TypeId × Value → H) :
    ReturnsInHanded {} Tryd.checked os 6 .any (fun w args => (Rows.civilBackSpec.pre enc Tryd.prog Tryd.f6 [] false w args ∧ laidMetH Tryd.prog Rows.civilDaysRow.laid w) ∧ sizedMet enc Tryd.prog Tryd.f6 (OpenSpec.ofChange Rows.civilBackSpec) false w args)
      (Rows.civilBackSpec.post enc Tryd.prog Tryd.f6 false true false false) := by
  refine returnsInHanded_of_change_and (C := Tryd.checked) (X := fun w _ => laidMetH Tryd.prog Rows.civilDaysRow.laid w) (fun _ _ _ hh h => h.of_heap hh) own started (by kernel_rfl) Tryd.func6
    (ChangeSpec.witness_shaped (enc := enc) (C := Tryd.checked) (os := os) (X := fun w _ => laidMetH Tryd.prog Rows.civilDaysRow.laid w) false (World.doorLaid Tryd.prog 24 os) #[.int .i64 0, .int .i64 0, .int .i64 0] 8 rfl (World.shaped_of_RefB (by kernel_rfl) (by kernel_rfl)) (by kernel_rfl) (by kernel_rfl) (by kernel_rfl) (door_met os _)) ?_
  intro W base args ds gs before hval0 hW _ _ hL _
  have hval : ∀ (j : Nat) t v, Tryd.f6.params[j]? = some t → args[j]? = some v → Value.okWide Tryd.prog W .any base t v := hval0
  have hW' := hW
  obtain ⟨p, q, hA0, hV, rfl, hfz, hnd⟩ := hW
  have hA : DataW.TrodAll enc Tryd.prog W 0 (fun _ => true) true Tryd.f6.params.toList args.toList ds p := hA0
  rw [Tryd.params6] at hA hval
  obtain ⟨v0, vs0, d0, ds0, p0, q0, hargs, rfl, rfl, h0, r0⟩ := trodAll_cons hA
  obtain ⟨v1, vs1, d1, ds1, p1, q1, rfl, rfl, rfl, h1, r1⟩ := trodAll_cons r0
  obtain ⟨v2, vs2, d2, ds2, p2, q2, rfl, rfl, rfl, h2, r2⟩ := trodAll_cons r1
  obtain ⟨rfl, rfl, rfl⟩ := trodAll_nil r2
  obtain rfl : args = #[v0, v1, v2] := by cases args; simp_all
  obtain ⟨rfl, rfl⟩ := trodVars_none hV
  obtain ⟨a0, rfl, rfl, rfl, w0⟩ := open_int Tryd.underlying3 (hval 0 3 v0 rfl rfl) h0
  obtain ⟨a1, rfl, rfl, rfl, w1⟩ := open_int Tryd.underlying3 (hval 1 3 v1 rfl rfl) h1
  obtain ⟨a2, rfl, rfl, rfl, w2⟩ := open_int Tryd.underlying45 (hval 2 45 v2 rfl rfl) h2
  clear hA0 hval0
  simp only [List.append_nil] at hW'
  refine (walk a0 a1 a2 W (tab_of_laid hL) w0 w1 w2).mono fun e W' ⟨he, hg⟩ => ?_
  subst he
  exact ⟨_, rfl, _, _, _, [], _, [], hW', trodAll_cons_mk (shut_bool Tryd.underlying4 _) trodAll_mk0,
    (trodAll_cons_mk (shut_int Tryd.underlying3 w0) (trodAll_cons_mk (shut_int Tryd.underlying3 w1) (trodAll_cons_mk (shut_int Tryd.underlying45 w2) trodAll_mk0))), rfl, hg.frame _, fun h => nomatch h⟩

theorem over : Rows.CivilBackSaid :=
  OpenClaim.holds_of_wide 6 Tryd.f6 rfl rfl rfl rfl rfl rfl rfl ⟨rfl, rfl, rfl, rfl, rfl⟩ rfl rfl rfl rfl rfl (by kernel_rfl) Tryd.func6 (by kernel_rfl)
    (of_decide_eq_true (by kernel_rfl)) (by unfold Func.isWrapper; first | (rw [if_pos (by decide +kernel)]; kernel_rfl) | (rw [if_neg (by decide +kernel)]; exact ⟨rfl, rfl⟩))
    (fun os started H enc _ => lifted os started H enc)

theorem proved : Rows.CivilBackCardSaid :=
  Claim7.holds_tied_plain_at .later [] [.data, .data, .data] true Rows.civilBackCard.stood.harness false
    over (fun _ h => by cases h) (by kernel_rfl) (fun _ h => by cases h) civilBack_row_tie rfl ⟨rfl, rfl⟩ (by kernel_rfl) rfl
    (fun f fn hf hfn => by
      obtain rfl : f = 6 := Option.some.inj ((show Tryd.prog.funcNamed Rows.civilBackRow.func = some 6 by kernel_rfl).symm.trans hf) |>.symm
      obtain rfl : fn = Tryd.f6 := (Option.some.inj (Tryd.func6.symm.trans hfn)).symm
      exact ⟨by kernel_rfl, fun j t ht => by
        rw [Tryd.params6] at ht
        have hm : t ∈ [3, 3, 45] := by simpa using Array.mem_of_getElem? ht
        have hall : ([3, 3, 45].all fun u => !Tryd.prog.wantsStandIn u) = true := by kernel_rfl
        exact (show Tryd.prog.wantsStandIn t = false by simpa using List.all_eq_true.1 hall t hm)⟩)
    (by kernel_rfl)
end Go.Proofs.YtooinoccijfgiaaDoor.civilBack
