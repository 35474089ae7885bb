/-
  CivilDays: every date has its number, its month's end and its weekday. The law returns true for every input, and the input reads as it did.
  Conditions: the library's three tables that the row lists read as the program's text lays them (the card ties them).
-/
import Derived.Test.YtooinoccijfgiaaDoorRows
import Derived.Test.YtooinoccijfgiaaDoorCards
import Derived.Test.YtooinoccijfgiaaDoorTie
import Derived.Test.YtooinoccijfgiaaDoorCvW
import Derived.SevenTiedAt
namespace Go.Proofs.YtooinoccijfgiaaDoor.civilDays
open Go.ChangeShapes Go.WideShapes Go.ChangeAt Go.RowKit Go.Joins Cv
set_option linter.unusedVariables false
set_option linter.unusedSimpArgs false

set_option maxRecDepth 100000 in
set_option maxHeartbeats 4000000 in
theorem walk_yy (y m d n : Int) (w : World) (T : Tab w) (HD : Hid (ok y m d)) (HN : Hid ((0 ≤ n ∧ n ≤ 2958463))) :
    Calls Tryd.prog 3 #[.agg #[.int .i64 y, .int .i64 m, .int .i64 d], .int .i64 n] w fun e w' => e = .returned (.bool true) ∧ Below w.heap.size w w' := by
  have HT := Lib.hid (T.below (balloc (brefl w) (.cells #[.int .i64 y, .int .i64 m, .int .i64 d] 23)))
  clear T
  have C0 := Lib.hid (fun w => Number_ok y m d w HD.out)
  have C1 := Lib.hid (fun w => rNumber_ok y m d w HD.out)
  have C2 := Lib.hid (fun w => Last_ok y m d w HD.out)
  have C3 := Lib.hid (fun w => rLast_ok y m d w HD.out)
  have C4 := Lib.hid (fun w => Weekday_ok y m d w HD.out)
  have C5 := Lib.hid (fun w => rWeekday_ok y m d w HD.out)
  generalize num y m d % 7 + 1 = W at *
  generalize num y m d = N at *
  generalize len y m = L at *
  go_enter Tryd.func3, Tryd.ntmps3
  go_wp2_with fail
  refine (awake_c _ HT.out).mono ?_
  rintro e w1 ⟨rfl, hb⟩
  have A := Lib.hid ((Dt.new w y m d).below hb)
  have HB := Lib.hid (bstep (balloc (brefl w) _) hb)
  clear hb HT
  obtain ⟨a1, a2, a3, a4, a5, a6, a7⟩ := A.out
  go_wp2_with fail
  clear a1 a2 a3 a4 a5 a6 a7
  refine (C0.out _).mono ?_
  rintro e w2 ⟨rfl, hb⟩
  replace A := Lib.hid (A.out.below hb)
  replace HB := Lib.hid (bstep HB.out hb)
  clear hb
  obtain ⟨a1, a2, a3, a4, a5, a6, a7⟩ := A.out
  go_wp2_with fail
  clear a1 a2 a3 a4 a5 a6 a7
  refine (C1.out _).mono ?_
  rintro e w3 ⟨rfl, hb⟩
  replace A := Lib.hid (A.out.below hb)
  replace HB := Lib.hid (bstep HB.out hb)
  clear hb
  go_wp2_with fail
  refine (Day_ok n _ HN.out.1 HN.out.2).mono ?_
  rintro e w4 ⟨⟨dy, dm, dd, hd, rfl⟩, hb⟩
  have HD1 := Lib.hid hd
  replace A := Lib.hid (A.out.below hb)
  replace HB := Lib.hid (bstep HB.out hb)
  clear hb
  go_wp2_with fail
  refine (rDay_ok n _ HN.out.1 HN.out.2).mono ?_
  rintro e w5 ⟨⟨ey, em, ed, hdd, rfl⟩, hb⟩
  obtain ⟨rfl, rfl, rfl⟩ := isDay_one hd hdd
  clear hdd
  replace A := Lib.hid (((A.out).alloc (.cells #[.int .i64 dy, .int .i64 dm, .int .i64 dd] 23)).below hb)
  have B := Lib.hid ((Dt.new w4 dy dm dd).below hb)
  replace HB := Lib.hid (bstep (balloc HB.out (.cells #[.int .i64 dy, .int .i64 dm, .int .i64 dd] 23)) hb)
  clear hb
  obtain ⟨a1, a2, a3, a4, a5, a6, a7⟩ := A.out
  go_wp2_with fail
  clear a1 a2 a3 a4 a5 a6 a7
  refine (C2.out _).mono ?_
  rintro e w6 ⟨rfl, hb⟩
  replace A := Lib.hid (((A.out).alloc (.cells #[.int .i64 dy, .int .i64 dm, .int .i64 dd] 23)).below hb)
  replace B := Lib.hid (((B.out).alloc (.cells #[.int .i64 dy, .int .i64 dm, .int .i64 dd] 23)).below hb)
  have C := Lib.hid ((Dt.new w5 dy dm dd).below hb)
  replace HB := Lib.hid (bstep (balloc HB.out (.cells #[.int .i64 dy, .int .i64 dm, .int .i64 dd] 23)) hb)
  clear hb
  obtain ⟨a1, a2, a3, a4, a5, a6, a7⟩ := A.out
  go_wp2_with fail
  clear a1 a2 a3 a4 a5 a6 a7
  refine (C3.out _).mono ?_
  rintro e w7 ⟨rfl, hb⟩
  replace A := Lib.hid (((A.out).alloc (.cells #[.int .i64 y, .int .i64 m, .int .i64 L] 23)).below hb)
  replace B := Lib.hid (((B.out).alloc (.cells #[.int .i64 y, .int .i64 m, .int .i64 L] 23)).below hb)
  replace C := Lib.hid (((C.out).alloc (.cells #[.int .i64 y, .int .i64 m, .int .i64 L] 23)).below hb)
  have E := Lib.hid ((Dt.new w6 y m L).below hb)
  replace HB := Lib.hid (bstep (balloc HB.out (.cells #[.int .i64 y, .int .i64 m, .int .i64 L] 23)) hb)
  clear hb
  obtain ⟨a1, a2, a3, a4, a5, a6, a7⟩ := A.out
  go_wp2_with fail
  clear a1 a2 a3 a4 a5 a6 a7
  refine (C4.out _).mono ?_
  rintro e w8 ⟨rfl, hb⟩
  replace A := Lib.hid (((A.out).alloc (.cells #[.int .i64 y, .int .i64 m, .int .i64 L] 23)).below hb)
  replace B := Lib.hid (((B.out).alloc (.cells #[.int .i64 y, .int .i64 m, .int .i64 L] 23)).below hb)
  replace C := Lib.hid (((C.out).alloc (.cells #[.int .i64 y, .int .i64 m, .int .i64 L] 23)).below hb)
  replace E := Lib.hid (((E.out).alloc (.cells #[.int .i64 y, .int .i64 m, .int .i64 L] 23)).below hb)
  have G := Lib.hid ((Dt.new w7 y m L).below hb)
  replace HB := Lib.hid (bstep (balloc HB.out (.cells #[.int .i64 y, .int .i64 m, .int .i64 L] 23)) hb)
  clear hb
  obtain ⟨a1, a2, a3, a4, a5, a6, a7⟩ := A.out
  go_wp2_with fail
  clear a1 a2 a3 a4 a5 a6 a7
  refine (C5.out _).mono ?_
  rintro e w9 ⟨rfl, hb⟩
  replace A := Lib.hid (A.out.below hb)
  replace B := Lib.hid (B.out.below hb)
  replace C := Lib.hid (C.out.below hb)
  replace E := Lib.hid (E.out.below hb)
  replace G := Lib.hid (G.out.below hb)
  replace HB := Lib.hid (bstep HB.out hb)
  clear hb
  clear C0 C1 C2 C3 C4 C5 HD1 hd
  obtain ⟨a1, a2, a3, a4, a5, a6, a7⟩ := A.out
  obtain ⟨b1, b2, b3, b4, b5, b6, b7⟩ := B.out
  obtain ⟨c1, c2, c3, c4, c5, c6, c7⟩ := C.out
  obtain ⟨e1, e2, e3, e4, e5, e6, e7⟩ := E.out
  obtain ⟨g1, g2, g3, g4, g5, g6, g7⟩ := G.out
  clear a1 a5 a6 a7
  clear b1 b5 b6 b7
  clear c1 c5 c6 c7
  clear e1 e5 e6 e7
  clear g1 g5 g6 g7
  have L1 := Lib.hid (Leap_c y)
  have L2 := Lib.hid (rLeap_c y)
  have L3 := Lib.hid (Leap_c n)
  have L4 := Lib.hid (rLeap_c n)
  generalize leap y = ly at *
  generalize leap n = ln at *
  go_wp2_with fail
  go_quiet (first | (go_at_call 17; first | with_reducible exact Calls.quiet_of_same (L1.out _) | with_reducible exact Calls.quiet_of_same (L3.out _)) | (go_at_call 18; first | with_reducible exact Calls.quiet_of_same (L2.out _) | with_reducible exact Calls.quiet_of_same (L4.out _)))
  go_wp2_with fail
  go_ret
  exact ⟨rfl, bdrew HB.out _⟩

set_option maxRecDepth 100000 in
set_option maxHeartbeats 4000000 in
theorem walk_yn (y m d n : Int) (w : World) (T : Tab w) (HD : Hid (ok y m d)) (HN : Hid (¬ (0 ≤ n ∧ n ≤ 2958463))) :
    Calls Tryd.prog 3 #[.agg #[.int .i64 y, .int .i64 m, .int .i64 d], .int .i64 n] w fun e w' => e = .returned (.bool true) ∧ Below w.heap.size w w' := by
  have HT := Lib.hid (T.below (balloc (brefl w) (.cells #[.int .i64 y, .int .i64 m, .int .i64 d] 23)))
  clear T
  have C0 := Lib.hid (fun w => Number_ok y m d w HD.out)
  have C1 := Lib.hid (fun w => rNumber_ok y m d w HD.out)
  have C2 := Lib.hid (fun w => Last_ok y m d w HD.out)
  have C3 := Lib.hid (fun w => rLast_ok y m d w HD.out)
  have C4 := Lib.hid (fun w => Weekday_ok y m d w HD.out)
  have C5 := Lib.hid (fun w => rWeekday_ok y m d w HD.out)
  generalize num y m d % 7 + 1 = W at *
  generalize num y m d = N at *
  generalize len y m = L at *
  go_enter Tryd.func3, Tryd.ntmps3
  go_wp2_with fail
  refine (awake_c _ HT.out).mono ?_
  rintro e w1 ⟨rfl, hb⟩
  have A := Lib.hid ((Dt.new w y m d).below hb)
  have HB := Lib.hid (bstep (balloc (brefl w) _) hb)
  clear hb HT
  obtain ⟨a1, a2, a3, a4, a5, a6, a7⟩ := A.out
  go_wp2_with fail
  clear a1 a2 a3 a4 a5 a6 a7
  refine (C0.out _).mono ?_
  rintro e w2 ⟨rfl, hb⟩
  replace A := Lib.hid (A.out.below hb)
  replace HB := Lib.hid (bstep HB.out hb)
  clear hb
  obtain ⟨a1, a2, a3, a4, a5, a6, a7⟩ := A.out
  go_wp2_with fail
  clear a1 a2 a3 a4 a5 a6 a7
  refine (C1.out _).mono ?_
  rintro e w3 ⟨rfl, hb⟩
  replace A := Lib.hid (A.out.below hb)
  replace HB := Lib.hid (bstep HB.out hb)
  clear hb
  go_wp2_with fail
  refine (Day_bad n _ HN.out).mono ?_
  rintro e w4 ⟨rfl, hb⟩
  replace A := Lib.hid (A.out.below hb)
  replace HB := Lib.hid (bstep HB.out hb)
  clear hb
  go_wp2_with fail
  refine (rDay_bad n _ HN.out).mono ?_
  rintro e w5 ⟨rfl, hb⟩
  replace A := Lib.hid (((A.out).alloc (.cells #[.int .i64 0, .int .i64 0, .int .i64 0] 23)).below hb)
  have B := Lib.hid ((Dt.new w4 0 0 0).below hb)
  replace HB := Lib.hid (bstep (balloc HB.out (.cells #[.int .i64 0, .int .i64 0, .int .i64 0] 23)) hb)
  clear hb
  obtain ⟨a1, a2, a3, a4, a5, a6, a7⟩ := A.out
  go_wp2_with fail
  clear a1 a2 a3 a4 a5 a6 a7
  refine (C2.out _).mono ?_
  rintro e w6 ⟨rfl, hb⟩
  replace A := Lib.hid (((A.out).alloc (.cells #[.int .i64 0, .int .i64 0, .int .i64 0] 23)).below hb)
  replace B := Lib.hid (((B.out).alloc (.cells #[.int .i64 0, .int .i64 0, .int .i64 0] 23)).below hb)
  have C := Lib.hid ((Dt.new w5 0 0 0).below hb)
  replace HB := Lib.hid (bstep (balloc HB.out (.cells #[.int .i64 0, .int .i64 0, .int .i64 0] 23)) hb)
  clear hb
  obtain ⟨a1, a2, a3, a4, a5, a6, a7⟩ := A.out
  go_wp2_with fail
  clear a1 a2 a3 a4 a5 a6 a7
  refine (C3.out _).mono ?_
  rintro e w7 ⟨rfl, hb⟩
  replace A := Lib.hid (((A.out).alloc (.cells #[.int .i64 y, .int .i64 m, .int .i64 L] 23)).below hb)
  replace B := Lib.hid (((B.out).alloc (.cells #[.int .i64 y, .int .i64 m, .int .i64 L] 23)).below hb)
  replace C := Lib.hid (((C.out).alloc (.cells #[.int .i64 y, .int .i64 m, .int .i64 L] 23)).below hb)
  have E := Lib.hid ((Dt.new w6 y m L).below hb)
  replace HB := Lib.hid (bstep (balloc HB.out (.cells #[.int .i64 y, .int .i64 m, .int .i64 L] 23)) hb)
  clear hb
  obtain ⟨a1, a2, a3, a4, a5, a6, a7⟩ := A.out
  go_wp2_with fail
  clear a1 a2 a3 a4 a5 a6 a7
  refine (C4.out _).mono ?_
  rintro e w8 ⟨rfl, hb⟩
  replace A := Lib.hid (((A.out).alloc (.cells #[.int .i64 y, .int .i64 m, .int .i64 L] 23)).below hb)
  replace B := Lib.hid (((B.out).alloc (.cells #[.int .i64 y, .int .i64 m, .int .i64 L] 23)).below hb)
  replace C := Lib.hid (((C.out).alloc (.cells #[.int .i64 y, .int .i64 m, .int .i64 L] 23)).below hb)
  replace E := Lib.hid (((E.out).alloc (.cells #[.int .i64 y, .int .i64 m, .int .i64 L] 23)).below hb)
  have G := Lib.hid ((Dt.new w7 y m L).below hb)
  replace HB := Lib.hid (bstep (balloc HB.out (.cells #[.int .i64 y, .int .i64 m, .int .i64 L] 23)) hb)
  clear hb
  obtain ⟨a1, a2, a3, a4, a5, a6, a7⟩ := A.out
  go_wp2_with fail
  clear a1 a2 a3 a4 a5 a6 a7
  refine (C5.out _).mono ?_
  rintro e w9 ⟨rfl, hb⟩
  replace A := Lib.hid (A.out.below hb)
  replace B := Lib.hid (B.out.below hb)
  replace C := Lib.hid (C.out.below hb)
  replace E := Lib.hid (E.out.below hb)
  replace G := Lib.hid (G.out.below hb)
  replace HB := Lib.hid (bstep HB.out hb)
  clear hb
  clear C0 C1 C2 C3 C4 C5
  obtain ⟨a1, a2, a3, a4, a5, a6, a7⟩ := A.out
  obtain ⟨b1, b2, b3, b4, b5, b6, b7⟩ := B.out
  obtain ⟨c1, c2, c3, c4, c5, c6, c7⟩ := C.out
  obtain ⟨e1, e2, e3, e4, e5, e6, e7⟩ := E.out
  obtain ⟨g1, g2, g3, g4, g5, g6, g7⟩ := G.out
  clear a1 a5 a6 a7
  clear b1 b5 b6 b7
  clear c1 c5 c6 c7
  clear e1 e5 e6 e7
  clear g1 g5 g6 g7
  have L1 := Lib.hid (Leap_c y)
  have L2 := Lib.hid (rLeap_c y)
  have L3 := Lib.hid (Leap_c n)
  have L4 := Lib.hid (rLeap_c n)
  generalize leap y = ly at *
  generalize leap n = ln at *
  go_wp2_with fail
  go_quiet (first | (go_at_call 17; first | with_reducible exact Calls.quiet_of_same (L1.out _) | with_reducible exact Calls.quiet_of_same (L3.out _)) | (go_at_call 18; first | with_reducible exact Calls.quiet_of_same (L2.out _) | with_reducible exact Calls.quiet_of_same (L4.out _)))
  go_wp2_with fail
  go_ret
  exact ⟨rfl, bdrew HB.out _⟩

set_option maxRecDepth 100000 in
set_option maxHeartbeats 4000000 in
theorem walk_ny (y m d n : Int) (w : World) (T : Tab w) (HD : Hid (¬ ok y m d)) (HN : Hid ((0 ≤ n ∧ n ≤ 2958463))) :
    Calls Tryd.prog 3 #[.agg #[.int .i64 y, .int .i64 m, .int .i64 d], .int .i64 n] w fun e w' => e = .returned (.bool true) ∧ Below w.heap.size w w' := by
  have HT := Lib.hid (T.below (balloc (brefl w) (.cells #[.int .i64 y, .int .i64 m, .int .i64 d] 23)))
  clear T
  have C0 := Lib.hid (fun w => Number_bad y m d w HD.out)
  have C1 := Lib.hid (fun w => rNumber_bad y m d w HD.out)
  have C2 := Lib.hid (fun w => Last_bad y m d w HD.out)
  have C3 := Lib.hid (fun w => rLast_bad y m d w HD.out)
  have C4 := Lib.hid (fun w => Weekday_bad y m d w HD.out)
  have C5 := Lib.hid (fun w => rWeekday_bad y m d w HD.out)
  go_enter Tryd.func3, Tryd.ntmps3
  go_wp2_with fail
  refine (awake_c _ HT.out).mono ?_
  rintro e w1 ⟨rfl, hb⟩
  have A := Lib.hid ((Dt.new w y m d).below hb)
  have HB := Lib.hid (bstep (balloc (brefl w) _) hb)
  clear hb HT
  obtain ⟨a1, a2, a3, a4, a5, a6, a7⟩ := A.out
  go_wp2_with fail
  clear a1 a2 a3 a4 a5 a6 a7
  refine (C0.out _).mono ?_
  rintro e w2 ⟨rfl, hb⟩
  replace A := Lib.hid (A.out.below hb)
  replace HB := Lib.hid (bstep HB.out hb)
  clear hb
  obtain ⟨a1, a2, a3, a4, a5, a6, a7⟩ := A.out
  go_wp2_with fail
  clear a1 a2 a3 a4 a5 a6 a7
  refine (C1.out _).mono ?_
  rintro e w3 ⟨rfl, hb⟩
  replace A := Lib.hid (A.out.below hb)
  replace HB := Lib.hid (bstep HB.out hb)
  clear hb
  go_wp2_with fail
  refine (Day_ok n _ HN.out.1 HN.out.2).mono ?_
  rintro e w4 ⟨⟨dy, dm, dd, hd, rfl⟩, hb⟩
  have HD1 := Lib.hid hd
  replace A := Lib.hid (A.out.below hb)
  replace HB := Lib.hid (bstep HB.out hb)
  clear hb
  go_wp2_with fail
  refine (rDay_ok n _ HN.out.1 HN.out.2).mono ?_
  rintro e w5 ⟨⟨ey, em, ed, hdd, rfl⟩, hb⟩
  obtain ⟨rfl, rfl, rfl⟩ := isDay_one hd hdd
  clear hdd
  replace A := Lib.hid (((A.out).alloc (.cells #[.int .i64 dy, .int .i64 dm, .int .i64 dd] 23)).below hb)
  have B := Lib.hid ((Dt.new w4 dy dm dd).below hb)
  replace HB := Lib.hid (bstep (balloc HB.out (.cells #[.int .i64 dy, .int .i64 dm, .int .i64 dd] 23)) hb)
  clear hb
  obtain ⟨a1, a2, a3, a4, a5, a6, a7⟩ := A.out
  go_wp2_with fail
  clear a1 a2 a3 a4 a5 a6 a7
  refine (C2.out _).mono ?_
  rintro e w6 ⟨rfl, hb⟩
  replace A := Lib.hid (((A.out).alloc (.cells #[.int .i64 dy, .int .i64 dm, .int .i64 dd] 23)).below hb)
  replace B := Lib.hid (((B.out).alloc (.cells #[.int .i64 dy, .int .i64 dm, .int .i64 dd] 23)).below hb)
  have C := Lib.hid ((Dt.new w5 dy dm dd).below hb)
  replace HB := Lib.hid (bstep (balloc HB.out (.cells #[.int .i64 dy, .int .i64 dm, .int .i64 dd] 23)) hb)
  clear hb
  obtain ⟨a1, a2, a3, a4, a5, a6, a7⟩ := A.out
  go_wp2_with fail
  clear a1 a2 a3 a4 a5 a6 a7
  refine (C3.out _).mono ?_
  rintro e w7 ⟨rfl, hb⟩
  replace A := Lib.hid (((A.out).alloc (.cells #[.int .i64 0, .int .i64 0, .int .i64 0] 23)).below hb)
  replace B := Lib.hid (((B.out).alloc (.cells #[.int .i64 0, .int .i64 0, .int .i64 0] 23)).below hb)
  replace C := Lib.hid (((C.out).alloc (.cells #[.int .i64 0, .int .i64 0, .int .i64 0] 23)).below hb)
  have E := Lib.hid ((Dt.new w6 0 0 0).below hb)
  replace HB := Lib.hid (bstep (balloc HB.out (.cells #[.int .i64 0, .int .i64 0, .int .i64 0] 23)) hb)
  clear hb
  obtain ⟨a1, a2, a3, a4, a5, a6, a7⟩ := A.out
  go_wp2_with fail
  clear a1 a2 a3 a4 a5 a6 a7
  refine (C4.out _).mono ?_
  rintro e w8 ⟨rfl, hb⟩
  replace A := Lib.hid (((A.out).alloc (.cells #[.int .i64 0, .int .i64 0, .int .i64 0] 23)).below hb)
  replace B := Lib.hid (((B.out).alloc (.cells #[.int .i64 0, .int .i64 0, .int .i64 0] 23)).below hb)
  replace C := Lib.hid (((C.out).alloc (.cells #[.int .i64 0, .int .i64 0, .int .i64 0] 23)).below hb)
  replace E := Lib.hid (((E.out).alloc (.cells #[.int .i64 0, .int .i64 0, .int .i64 0] 23)).below hb)
  have G := Lib.hid ((Dt.new w7 0 0 0).below hb)
  replace HB := Lib.hid (bstep (balloc HB.out (.cells #[.int .i64 0, .int .i64 0, .int .i64 0] 23)) hb)
  clear hb
  obtain ⟨a1, a2, a3, a4, a5, a6, a7⟩ := A.out
  go_wp2_with fail
  clear a1 a2 a3 a4 a5 a6 a7
  refine (C5.out _).mono ?_
  rintro e w9 ⟨rfl, hb⟩
  replace A := Lib.hid (A.out.below hb)
  replace B := Lib.hid (B.out.below hb)
  replace C := Lib.hid (C.out.below hb)
  replace E := Lib.hid (E.out.below hb)
  replace G := Lib.hid (G.out.below hb)
  replace HB := Lib.hid (bstep HB.out hb)
  clear hb
  clear C0 C1 C2 C3 C4 C5 HD1 hd
  obtain ⟨a1, a2, a3, a4, a5, a6, a7⟩ := A.out
  obtain ⟨b1, b2, b3, b4, b5, b6, b7⟩ := B.out
  obtain ⟨c1, c2, c3, c4, c5, c6, c7⟩ := C.out
  obtain ⟨e1, e2, e3, e4, e5, e6, e7⟩ := E.out
  obtain ⟨g1, g2, g3, g4, g5, g6, g7⟩ := G.out
  clear a1 a5 a6 a7
  clear b1 b5 b6 b7
  clear c1 c5 c6 c7
  clear e1 e5 e6 e7
  clear g1 g5 g6 g7
  have L1 := Lib.hid (Leap_c y)
  have L2 := Lib.hid (rLeap_c y)
  have L3 := Lib.hid (Leap_c n)
  have L4 := Lib.hid (rLeap_c n)
  generalize leap y = ly at *
  generalize leap n = ln at *
  go_wp2_with fail
  go_quiet (first | (go_at_call 17; first | with_reducible exact Calls.quiet_of_same (L1.out _) | with_reducible exact Calls.quiet_of_same (L3.out _)) | (go_at_call 18; first | with_reducible exact Calls.quiet_of_same (L2.out _) | with_reducible exact Calls.quiet_of_same (L4.out _)))
  go_wp2_with fail
  go_ret
  exact ⟨rfl, bdrew HB.out _⟩

set_option maxRecDepth 100000 in
set_option maxHeartbeats 4000000 in
theorem walk_nn (y m d n : Int) (w : World) (T : Tab w) (HD : Hid (¬ ok y m d)) (HN : Hid (¬ (0 ≤ n ∧ n ≤ 2958463))) :
    Calls Tryd.prog 3 #[.agg #[.int .i64 y, .int .i64 m, .int .i64 d], .int .i64 n] w fun e w' => e = .returned (.bool true) ∧ Below w.heap.size w w' := by
  have HT := Lib.hid (T.below (balloc (brefl w) (.cells #[.int .i64 y, .int .i64 m, .int .i64 d] 23)))
  clear T
  have C0 := Lib.hid (fun w => Number_bad y m d w HD.out)
  have C1 := Lib.hid (fun w => rNumber_bad y m d w HD.out)
  have C2 := Lib.hid (fun w => Last_bad y m d w HD.out)
  have C3 := Lib.hid (fun w => rLast_bad y m d w HD.out)
  have C4 := Lib.hid (fun w => Weekday_bad y m d w HD.out)
  have C5 := Lib.hid (fun w => rWeekday_bad y m d w HD.out)
  go_enter Tryd.func3, Tryd.ntmps3
  go_wp2_with fail
  refine (awake_c _ HT.out).mono ?_
  rintro e w1 ⟨rfl, hb⟩
  have A := Lib.hid ((Dt.new w y m d).below hb)
  have HB := Lib.hid (bstep (balloc (brefl w) _) hb)
  clear hb HT
  obtain ⟨a1, a2, a3, a4, a5, a6, a7⟩ := A.out
  go_wp2_with fail
  clear a1 a2 a3 a4 a5 a6 a7
  refine (C0.out _).mono ?_
  rintro e w2 ⟨rfl, hb⟩
  replace A := Lib.hid (A.out.below hb)
  replace HB := Lib.hid (bstep HB.out hb)
  clear hb
  obtain ⟨a1, a2, a3, a4, a5, a6, a7⟩ := A.out
  go_wp2_with fail
  clear a1 a2 a3 a4 a5 a6 a7
  refine (C1.out _).mono ?_
  rintro e w3 ⟨rfl, hb⟩
  replace A := Lib.hid (A.out.below hb)
  replace HB := Lib.hid (bstep HB.out hb)
  clear hb
  go_wp2_with fail
  refine (Day_bad n _ HN.out).mono ?_
  rintro e w4 ⟨rfl, hb⟩
  replace A := Lib.hid (A.out.below hb)
  replace HB := Lib.hid (bstep HB.out hb)
  clear hb
  go_wp2_with fail
  refine (rDay_bad n _ HN.out).mono ?_
  rintro e w5 ⟨rfl, hb⟩
  replace A := Lib.hid (((A.out).alloc (.cells #[.int .i64 0, .int .i64 0, .int .i64 0] 23)).below hb)
  have B := Lib.hid ((Dt.new w4 0 0 0).below hb)
  replace HB := Lib.hid (bstep (balloc HB.out (.cells #[.int .i64 0, .int .i64 0, .int .i64 0] 23)) hb)
  clear hb
  obtain ⟨a1, a2, a3, a4, a5, a6, a7⟩ := A.out
  go_wp2_with fail
  clear a1 a2 a3 a4 a5 a6 a7
  refine (C2.out _).mono ?_
  rintro e w6 ⟨rfl, hb⟩
  replace A := Lib.hid (((A.out).alloc (.cells #[.int .i64 0, .int .i64 0, .int .i64 0] 23)).below hb)
  replace B := Lib.hid (((B.out).alloc (.cells #[.int .i64 0, .int .i64 0, .int .i64 0] 23)).below hb)
  have C := Lib.hid ((Dt.new w5 0 0 0).below hb)
  replace HB := Lib.hid (bstep (balloc HB.out (.cells #[.int .i64 0, .int .i64 0, .int .i64 0] 23)) hb)
  clear hb
  obtain ⟨a1, a2, a3, a4, a5, a6, a7⟩ := A.out
  go_wp2_with fail
  clear a1 a2 a3 a4 a5 a6 a7
  refine (C3.out _).mono ?_
  rintro e w7 ⟨rfl, hb⟩
  replace A := Lib.hid (((A.out).alloc (.cells #[.int .i64 0, .int .i64 0, .int .i64 0] 23)).below hb)
  replace B := Lib.hid (((B.out).alloc (.cells #[.int .i64 0, .int .i64 0, .int .i64 0] 23)).below hb)
  replace C := Lib.hid (((C.out).alloc (.cells #[.int .i64 0, .int .i64 0, .int .i64 0] 23)).below hb)
  have E := Lib.hid ((Dt.new w6 0 0 0).below hb)
  replace HB := Lib.hid (bstep (balloc HB.out (.cells #[.int .i64 0, .int .i64 0, .int .i64 0] 23)) hb)
  clear hb
  obtain ⟨a1, a2, a3, a4, a5, a6, a7⟩ := A.out
  go_wp2_with fail
  clear a1 a2 a3 a4 a5 a6 a7
  refine (C4.out _).mono ?_
  rintro e w8 ⟨rfl, hb⟩
  replace A := Lib.hid (((A.out).alloc (.cells #[.int .i64 0, .int .i64 0, .int .i64 0] 23)).below hb)
  replace B := Lib.hid (((B.out).alloc (.cells #[.int .i64 0, .int .i64 0, .int .i64 0] 23)).below hb)
  replace C := Lib.hid (((C.out).alloc (.cells #[.int .i64 0, .int .i64 0, .int .i64 0] 23)).below hb)
  replace E := Lib.hid (((E.out).alloc (.cells #[.int .i64 0, .int .i64 0, .int .i64 0] 23)).below hb)
  have G := Lib.hid ((Dt.new w7 0 0 0).below hb)
  replace HB := Lib.hid (bstep (balloc HB.out (.cells #[.int .i64 0, .int .i64 0, .int .i64 0] 23)) hb)
  clear hb
  obtain ⟨a1, a2, a3, a4, a5, a6, a7⟩ := A.out
  go_wp2_with fail
  clear a1 a2 a3 a4 a5 a6 a7
  refine (C5.out _).mono ?_
  rintro e w9 ⟨rfl, hb⟩
  replace A := Lib.hid (A.out.below hb)
  replace B := Lib.hid (B.out.below hb)
  replace C := Lib.hid (C.out.below hb)
  replace E := Lib.hid (E.out.below hb)
  replace G := Lib.hid (G.out.below hb)
  replace HB := Lib.hid (bstep HB.out hb)
  clear hb
  clear C0 C1 C2 C3 C4 C5
  obtain ⟨a1, a2, a3, a4, a5, a6, a7⟩ := A.out
  obtain ⟨b1, b2, b3, b4, b5, b6, b7⟩ := B.out
  obtain ⟨c1, c2, c3, c4, c5, c6, c7⟩ := C.out
  obtain ⟨e1, e2, e3, e4, e5, e6, e7⟩ := E.out
  obtain ⟨g1, g2, g3, g4, g5, g6, g7⟩ := G.out
  clear a1 a5 a6 a7
  clear b1 b5 b6 b7
  clear c1 c5 c6 c7
  clear e1 e5 e6 e7
  clear g1 g5 g6 g7
  have L1 := Lib.hid (Leap_c y)
  have L2 := Lib.hid (rLeap_c y)
  have L3 := Lib.hid (Leap_c n)
  have L4 := Lib.hid (rLeap_c n)
  generalize leap y = ly at *
  generalize leap n = ln at *
  go_wp2_with fail
  go_quiet (first | (go_at_call 17; first | with_reducible exact Calls.quiet_of_same (L1.out _) | with_reducible exact Calls.quiet_of_same (L3.out _)) | (go_at_call 18; first | with_reducible exact Calls.quiet_of_same (L2.out _) | with_reducible exact Calls.quiet_of_same (L4.out _)))
  go_wp2_with fail
  go_ret
  exact ⟨rfl, bdrew HB.out _⟩

theorem walk (y m d n : Int) (w : World) (T : Tab w) (wn : (Lit.int .i64 n).wf = true) :
    Calls Tryd.prog 3 #[.agg #[.int .i64 y, .int .i64 m, .int .i64 d], .int .i64 n] w fun e w' => e = .returned (.bool true) ∧ Below w.heap.size w w' := by
  by_cases c1 : ok y m d <;> by_cases c2 : 0 ≤ n ∧ n ≤ 2958463
  · exact walk_yy _ _ _ _ w T c1 c2
  · exact walk_yn _ _ _ _ w T c1 c2
  · exact walk_ny _ _ _ _ w T c1 c2
  · exact walk_nn _ _ _ _ w T c1 c2

set_option maxRecDepth 100000 in
theorem lifted (os : Os) (started : os.Started) (H : Type) (enc : TypeId × Value → H) :
    ReturnsInHanded {} Tryd.checked os 3 .any (fun w args => (Rows.civilDaysSpec.pre enc Tryd.prog Tryd.f3 [] false w args ∧ laidMetH Tryd.prog Rows.civilDaysRow.laid w) ∧ sizedMet enc Tryd.prog Tryd.f3 (OpenSpec.ofChange Rows.civilDaysSpec) false w args)
      (Rows.civilDaysSpec.post enc Tryd.prog Tryd.f3 false true false false) := by
  refine returnsInHanded_of_change_and (C := Tryd.checked) (X := fun w _ => laidMetH Tryd.prog Rows.civilDaysRow.laid w) (fun _ _ _ hh h => h.of_heap hh) own started (by kernel_rfl) Tryd.func3
    (ChangeSpec.witness_shaped (enc := enc) (C := Tryd.checked) (os := os) (X := fun w _ => laidMetH Tryd.prog Rows.civilDaysRow.laid w) false (World.doorLaid Tryd.prog 24 os) #[.agg #[.int .i64 0, .int .i64 0, .int .i64 0], .int .i64 0] 8 rfl (World.shaped_of_RefB (by kernel_rfl) (by kernel_rfl)) (by kernel_rfl) (by kernel_rfl) (by kernel_rfl) (door_met os _)) ?_
  intro W base args ds gs before hval0 hW _ _ hL _
  have hval : ∀ (j : Nat) t v, Tryd.f3.params[j]? = some t → args[j]? = some v → Value.okWide Tryd.prog W .any base t v := hval0
  have hW' := hW
  obtain ⟨p, q, hA0, hV, rfl, hfz, hnd⟩ := hW
  have hA : DataW.TrodAll enc Tryd.prog W 0 (fun _ => true) true Tryd.f3.params.toList args.toList ds p := hA0
  rw [Tryd.params3] at hA hval
  obtain ⟨v0, vs0, d0, ds0, p0, q0, hargs, rfl, rfl, h0, r0⟩ := trodAll_cons hA
  obtain ⟨v1, vs1, d1, ds1, p1, q1, rfl, rfl, rfl, h1, r1⟩ := trodAll_cons r0
  obtain ⟨rfl, rfl, rfl⟩ := trodAll_nil r1
  obtain rfl : args = #[v0, v1] := by cases args; simp_all
  obtain ⟨rfl, rfl⟩ := trodVars_none hV
  have h0k := h0
  have hlt0 : ∀ x ∈ p0, x.block < W.heap.size := fun x hx => by have := hW'.lt x (by simp [hx]); simpa using this
  obtain ⟨y0, m0, x0, rfl, wy0, wm0, wx0⟩ := open_date (hval 0 23 v0 rfl rfl) h0
  obtain ⟨a1, rfl, rfl, rfl, w1⟩ := open_int Tryd.underlying3 (hval 1 3 v1 rfl rfl) h1
  clear hA0 hval0
  simp only [List.append_nil] at hW'
  refine (walk y0 m0 x0 a1 W (tab_of_laid hL) w1).mono fun e W' ⟨he, hg⟩ => ?_
  subst he
  exact ⟨_, rfl, _, _, _, [], _, [], hW', trodAll_cons_mk (shut_bool Tryd.underlying4 _) trodAll_mk0,
    (trodAll_cons_mk (Below.trod laidOut (by kernel_rfl) (of_decide_eq_true (by kernel_rfl)) h0k hg hlt0) (trodAll_cons_mk (shut_int Tryd.underlying3 w1) trodAll_mk0)), rfl, hg.frame _, fun h => nomatch h⟩

theorem over : Rows.CivilDaysSaid :=
  OpenClaim.holds_of_wide 3 Tryd.f3 rfl rfl rfl rfl rfl rfl rfl ⟨rfl, rfl, rfl, rfl, rfl⟩ rfl rfl rfl rfl rfl (by kernel_rfl) Tryd.func3 (by kernel_rfl)
    (of_decide_eq_true (by kernel_rfl)) (by unfold Func.isWrapper; first | (rw [if_pos (by decide +kernel)]; kernel_rfl) | (rw [if_neg (by decide +kernel)]; exact ⟨rfl, rfl⟩))
    (fun os started H enc _ => lifted os started H enc)

theorem proved : Rows.CivilDaysCardSaid :=
  Claim7.holds_tied_plain_at .later [] [.data, .data, .data] true Rows.civilDaysCard.stood.harness false
    over (fun _ h => by cases h) (by kernel_rfl) (fun _ h => by cases h) civilDays_row_tie rfl ⟨rfl, rfl⟩ (by kernel_rfl) rfl
    (fun f fn hf hfn => by
      obtain rfl : f = 3 := Option.some.inj ((show Tryd.prog.funcNamed Rows.civilDaysRow.func = some 3 by kernel_rfl).symm.trans hf) |>.symm
      obtain rfl : fn = Tryd.f3 := (Option.some.inj (Tryd.func3.symm.trans hfn)).symm
      exact ⟨by kernel_rfl, fun j t ht => by
        rw [Tryd.params3] at ht
        have hm : t ∈ [23, 3] := by simpa using Array.mem_of_getElem? ht
        have hall : ([23, 3].all fun u => !Tryd.prog.wantsStandIn u) = true := by kernel_rfl
        exact (show Tryd.prog.wantsStandIn t = false by simpa using List.all_eq_true.1 hall t hm)⟩)
    (by kernel_rfl)
end Go.Proofs.YtooinoccijfgiaaDoor.civilDays
