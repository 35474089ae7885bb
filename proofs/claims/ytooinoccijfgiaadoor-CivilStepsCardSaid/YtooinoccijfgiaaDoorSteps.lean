/-
  CivilSteps: one day more is the next day of the month, of the next month, or of the next year; a week more is the same weekday. The law returns true for every input, and the input reads as it did.
  Conditions: the library's three tables that the row lists read as the program's text lays them (the card ties them).
-/
import Derived.Test.YtooinoccijfgiaaDoorRows
import Derived.Test.YtooinoccijfgiaaDoorCards
import Derived.Test.YtooinoccijfgiaaDoorTie
import Derived.Test.YtooinoccijfgiaaDoorCvW
import Derived.SevenTiedAt
namespace Go.Proofs.YtooinoccijfgiaaDoor.civilSteps
open Go.ChangeShapes Go.WideShapes Go.ChangeAt Go.RowKit Go.Joins Cv
set_option linter.unusedVariables false
set_option linter.unusedSimpArgs false

theorem day_next {n y m d : Int} (h : isDay n y m d) (c : d < len y m) : isDay (n + 1) y m (d + 1) := by
  obtain ⟨⟨h1, h2, h3, h4, h5, h6⟩, e⟩ := h
  exact ⟨⟨h1, h2, h3, h4, by omega, by omega⟩, by unfold num at *; omega⟩
theorem month_next {n y m d : Int} (h : isDay n y m d) (c : d = len y m) (hm : m ≠ 12) : isDay (n + 1) y (m + 1) 1 := by
  obtain ⟨⟨h1, h2, h3, h4, h5, h6⟩, e⟩ := h
  have := len_bd y (m + 1)
  refine ⟨⟨h1, h2, by omega, by omega, by omega, by omega⟩, ?_⟩
  obtain ⟨k, rfl⟩ : ∃ k : Nat, m = k + 1 := ⟨(m - 1).toNat, by omega⟩
  unfold num at *
  rw [show ((k : Int) + 1 + 1 - 1).toNat = k + 1 from by omega, ms_succ]
  rw [show ((k : Int) + 1 - 1).toNat = k from by omega] at e
  omega
theorem year_next {n y m d : Int} (h : isDay n y m d) (c : d = len y m) (hm : m = 12) (hn : n ≤ 2958462) : isDay (n + 1) (y + 1) 1 1 := by
  obtain ⟨⟨h1, h2, h3, h4, h5, h6⟩, e⟩ := h
  subst hm
  have e2 : n + 1 = ny (y + 1) := by
    rw [ny_succ, ← ms_twelve, show (12 : Nat) = 11 + 1 from rfl, ms_succ]
    unfold num at e
    rw [show ((12 : Int) - 1).toNat = 11 from rfl] at e
    rw [c] at e
    rw [← e]
    simp
    omega
  have y9 : y + 1 ≤ 9999 := year_in (n := n + 1) (by omega) (by omega)
  have l1 := len_bd (y + 1) 1
  exact ⟨⟨by omega, y9, by omega, by omega, by omega, by omega⟩, by unfold num; simp [ms]; omega⟩
theorem feb (y : Int) : (len y 2 == 29) = leap y := by
  unfold len
  cases leap y <;> simp
theorem norm_mod (n k : Int) (hk : 0 < k) : ∃ r N, n.tmod k = r ∧ -k < r ∧ r < k ∧ (r + k).tmod k = N ∧ 0 ≤ N ∧ N < k :=
  ⟨_, _, rfl, Int.lt_tmod_of_pos _ hk, Int.tmod_lt_of_pos _ hk, rfl, Int.tmod_nonneg _ (by have := Int.lt_tmod_of_pos n hk; omega), Int.tmod_lt_of_pos _ hk⟩
theorem Dt.newx (w : World) (o : Obj) (y m d : Int) (b : Nat) (hb : b = w.heap.size + 1) : Dt ((w.alloc o).alloc (.cells #[.int .i64 y, .int .i64 m, .int .i64 d] 23)) b y m d := hb ▸ Dt.new1 w o y m d

set_option maxRecDepth 100000 in
set_option maxHeartbeats 8000000 in
theorem walk (n : Int) (w : World) (T : Tab w) (wn : (Lit.int .i64 n).wf = true) :
    Calls Tryd.prog 7 #[.int .i64 n] w fun e w' => e = .returned (.bool true) ∧ Below w.heap.size w w' := by
  obtain ⟨r, N, q1, r1, r2, q2, n1, n2⟩ := norm_mod n 2958457 (by omega)
  have HT := Lib.hid T
  clear T wn
  go_enter Tryd.func7, Tryd.ntmps7
  go_wp2_with fail
  refine (awake_c _ HT.out).mono ?_
  rintro e w1 ⟨rfl, hb⟩
  have HB := Lib.hid hb
  clear hb HT
  go_wp2_with fail
  clear q1 q2 r1 r2
  refine (Day_ok N _ n1 (by omega)).mono ?_
  rintro e w2 ⟨⟨y, m, d, hd, rfl⟩, hb⟩
  replace HB := Lib.hid (bstep HB.out hb)
  have HD := Lib.hid hd
  clear hb hd
  go_wp2_with fail
  refine (Day_ok (N + 1) _ (by omega) (by omega)).mono ?_
  rintro e w3 ⟨⟨y1, m1, d1, hd, rfl⟩, hb⟩
  have A := Lib.hid ((Dt.new w2 y m d).below hb)
  replace HB := Lib.hid (bstep (balloc HB.out (.cells #[.int .i64 y, .int .i64 m, .int .i64 d] 23)) hb)
  have HD1 := Lib.hid hd
  clear hb hd
  go_wp2_with fail
  refine (Day_ok (N + 7) _ (by omega) (by omega)).mono ?_
  rintro e w4 ⟨⟨y2, m2, d2, hd, rfl⟩, hb⟩
  replace A := Lib.hid ((A.out.alloc (.cells #[.int .i64 y1, .int .i64 m1, .int .i64 d1] 23)).below hb)
  have B := Lib.hid ((Dt.new w3 y1 m1 d1).below hb)
  replace HB := Lib.hid (bstep (balloc HB.out (.cells #[.int .i64 y1, .int .i64 m1, .int .i64 d1] 23)) hb)
  have HD2 := Lib.hid hd
  clear hb hd
  have WA : Hid (∀ w, Calls Tryd.prog 15 #[.agg #[.int .i64 y, .int .i64 m, .int .i64 d]] w fun e w' => e = .returned (.tuple #[.int .i64 (N % 7 + 1), .int .i64 0]) ∧ Below w.heap.size w w') := Lib.hid fun w => by rw [← HD.out.2]; exact Weekday_ok y m d w HD.out.1
  have WB : Hid (∀ w, Calls Tryd.prog 15 #[.agg #[.int .i64 y1, .int .i64 m1, .int .i64 d1]] w fun e w' => e = .returned (.tuple #[.int .i64 ((N % 7 + 1) % 7 + 1), .int .i64 0]) ∧ Below w.heap.size w w') := Lib.hid fun w => by rw [show (N % 7 + 1) % 7 = (N + 1) % 7 from by omega, ← HD1.out.2]; exact Weekday_ok y1 m1 d1 w HD1.out.1
  have WC : Hid (∀ w, Calls Tryd.prog 15 #[.agg #[.int .i64 y2, .int .i64 m2, .int .i64 d2]] w fun e w' => e = .returned (.tuple #[.int .i64 (N % 7 + 1), .int .i64 0]) ∧ Below w.heap.size w w') := Lib.hid fun w => by rw [show N % 7 = (N + 7) % 7 from by omega, ← HD2.out.2]; exact Weekday_ok y2 m2 d2 w HD2.out.1
  have LA := Lib.hid (fun w => Last_ok y m d w HD.out.1)
  have D0 := Lib.hid (day_next HD.out)
  have D1 := Lib.hid (month_next HD.out)
  have D2 := Lib.hid (fun c hm => year_next HD.out c hm (by omega))
  have F2 := Lib.hid (feb y)
  have K := len_bd y m
  have K2 := HD.out.1
  obtain ⟨k1, k2, k3, k4, k5, k6⟩ := K2
  have a7 : 1 ≤ N % 7 + 1 ∧ N % 7 + 1 ≤ 7 := by omega
  have q7 : (N % 7 + 1).tmod 7 = (N % 7 + 1) % 7 := Int.tmod_eq_emod_of_nonneg (by omega)
  have q8 : 0 ≤ (N % 7 + 1) % 7 ∧ (N % 7 + 1) % 7 < 7 := by omega
  generalize N % 7 + 1 = a at *
  generalize a % 7 = a' at *
  obtain ⟨u1, u2⟩ := a7
  obtain ⟨u3, u4⟩ := q8
  clear HD2
  obtain ⟨a1, a2, a3, a4, a5, a6, a7⟩ := A.out
  go_wp2_with fail
  clear a1 a2 a3 a4 a5 a6 a7
  refine (LA.out _).mono ?_
  rintro e w5 ⟨rfl, hb⟩
  replace A := Lib.hid ((A.out.alloc (.cells #[.int .i64 y2, .int .i64 m2, .int .i64 d2] 23)).below hb)
  replace B := Lib.hid ((B.out.alloc (.cells #[.int .i64 y2, .int .i64 m2, .int .i64 d2] 23)).below hb)
  have C := Lib.hid ((Dt.new w4 y2 m2 d2).below hb)
  replace HB := Lib.hid (bstep (balloc HB.out (.cells #[.int .i64 y2, .int .i64 m2, .int .i64 d2] 23)) hb)
  clear hb LA HD
  have LH : Hid (m = 2 → (len y m == 29) = leap y) := Lib.hid fun h => by subst h; exact F2.out
  have LP := Lib.hid (Leap_c y)
  clear F2
  generalize leap y = ly at *
  generalize len y m = L at *
  obtain ⟨v1, v2⟩ := K
  by_cases cl : d < L
  · have ne : ¬ d = L := by omega
    obtain ⟨rfl, rfl, rfl⟩ := isDay_one (D0.out (by omega)) HD1.out
    clear D0 D1 D2 HD1
    obtain ⟨a1, a2, a3, a4, a5, a6, a7⟩ := A.out
    go_wp2_with fail
    clear a1 a2 a3 a4 a5 a6 a7
    refine (WA.out _).mono ?_
    rintro e w6 ⟨rfl, hb⟩
    replace A := Lib.hid (((A.out.alloc (.cells #[.int .i64 y, .int .i64 m, .int .i64 L] 23)).alloc (.cells #[.int .i64 y, .int .i64 m, .int .i64 (d + 1)] 23)).below hb)
    replace B := Lib.hid (((B.out.alloc (.cells #[.int .i64 y, .int .i64 m, .int .i64 L] 23)).alloc (.cells #[.int .i64 y, .int .i64 m, .int .i64 (d + 1)] 23)).below hb)
    replace C := Lib.hid (((C.out.alloc (.cells #[.int .i64 y, .int .i64 m, .int .i64 L] 23)).alloc (.cells #[.int .i64 y, .int .i64 m, .int .i64 (d + 1)] 23)).below hb)
    have E := Lib.hid (((Dt.new w5 y m L).alloc (.cells #[.int .i64 y, .int .i64 m, .int .i64 (d + 1)] 23)).below hb)
    have G := Lib.hid ((Dt.new1 w5 (.cells #[.int .i64 y, .int .i64 m, .int .i64 L] 23) y m (d + 1)).below hb)
    replace HB := Lib.hid (bstep (balloc (balloc HB.out (.cells #[.int .i64 y, .int .i64 m, .int .i64 L] 23)) (.cells #[.int .i64 y, .int .i64 m, .int .i64 (d + 1)] 23)) hb)
    clear hb
    obtain ⟨a1, a2, a3, a4, a5, a6, a7⟩ := B.out
    go_wp2_with fail
    clear a1 a2 a3 a4 a5 a6 a7
    refine (WB.out _).mono ?_
    rintro e w7 ⟨rfl, hb⟩
    replace A := Lib.hid (A.out.below hb)
    replace B := Lib.hid (B.out.below hb)
    replace C := Lib.hid (C.out.below hb)
    replace E := Lib.hid (E.out.below hb)
    replace G := Lib.hid (G.out.below hb)
    replace HB := Lib.hid (bstep HB.out hb)
    clear hb
    obtain ⟨a1, a2, a3, a4, a5, a6, a7⟩ := C.out
    go_wp2_with fail
    clear a1 a2 a3 a4 a5 a6 a7
    refine (WC.out _).mono ?_
    rintro e w8 ⟨rfl, hb⟩
    replace A := Lib.hid (A.out.below hb)
    replace B := Lib.hid (B.out.below hb)
    replace C := Lib.hid (C.out.below hb)
    replace E := Lib.hid (E.out.below hb)
    replace G := Lib.hid (G.out.below hb)
    replace HB := Lib.hid (bstep HB.out hb)
    clear hb
    clear WA WB WC C
    obtain ⟨a1, a2, a3, a4, a5, a6, a7⟩ := A.out
    obtain ⟨b1, b2, b3, b4, b5, b6, b7⟩ := B.out
    obtain ⟨e1, e2, e3, e4, e5, e6, e7⟩ := E.out
    obtain ⟨g1, g2, g3, g4, g5, g6, g7⟩ := G.out
    clear a1 a5 a6 a7
    clear b1 b5 b6 b7
    clear e1 e5 e6 e7
    clear g1 g5 g6 g7
    go_wp2_with fail
    by_cases f2 : m = 2
    · have fe := LH.out f2
      have f3 : (m != 2) = false := by simp [f2]
      clear f2 LH
      go_quiet (first | (go_at_call 17; with_reducible exact Calls.quiet_of_same (LP.out _)))
      go_wp2_with fail
      go_ret
      exact ⟨rfl, bdrew HB.out _⟩
    · have f3 : (m != 2) = true := by simp [f2]
      clear f2 LH LP
      go_quiet (fail)
      go_wp2_with fail
      go_ret
      exact ⟨rfl, bdrew HB.out _⟩
  · by_cases hm : m = 12
    · obtain rfl : d = L := by omega
      obtain rfl : m = 12 := hm
      obtain ⟨rfl, rfl, rfl⟩ := isDay_one (D2.out rfl rfl) HD1.out
      clear D0 D1 D2 HD1
      obtain ⟨a1, a2, a3, a4, a5, a6, a7⟩ := A.out
      go_wp2_with fail
      clear a1 a2 a3 a4 a5 a6 a7
      refine (WA.out _).mono ?_
      rintro e w6 ⟨rfl, hb⟩
      replace A := Lib.hid (((A.out.alloc (.cells #[.int .i64 y, .int .i64 12, .int .i64 d] 23)).alloc (.cells #[.int .i64 (y + 1), .int .i64 1, .int .i64 1] 23)).below hb)
      replace B := Lib.hid (((B.out.alloc (.cells #[.int .i64 y, .int .i64 12, .int .i64 d] 23)).alloc (.cells #[.int .i64 (y + 1), .int .i64 1, .int .i64 1] 23)).below hb)
      replace C := Lib.hid (((C.out.alloc (.cells #[.int .i64 y, .int .i64 12, .int .i64 d] 23)).alloc (.cells #[.int .i64 (y + 1), .int .i64 1, .int .i64 1] 23)).below hb)
      have E := Lib.hid (((Dt.new w5 y 12 d).alloc (.cells #[.int .i64 (y + 1), .int .i64 1, .int .i64 1] 23)).below hb)
      have G := Lib.hid ((Dt.new1 w5 (.cells #[.int .i64 y, .int .i64 12, .int .i64 d] 23) (y + 1) 1 1).below hb)
      replace HB := Lib.hid (bstep (balloc (balloc HB.out (.cells #[.int .i64 y, .int .i64 12, .int .i64 d] 23)) (.cells #[.int .i64 (y + 1), .int .i64 1, .int .i64 1] 23)) hb)
      clear hb
      obtain ⟨a1, a2, a3, a4, a5, a6, a7⟩ := B.out
      go_wp2_with fail
      clear a1 a2 a3 a4 a5 a6 a7
      refine (WB.out _).mono ?_
      rintro e w7 ⟨rfl, hb⟩
      replace A := Lib.hid (A.out.below hb)
      replace B := Lib.hid (B.out.below hb)
      replace C := Lib.hid (C.out.below hb)
      replace E := Lib.hid (E.out.below hb)
      replace G := Lib.hid (G.out.below hb)
      replace HB := Lib.hid (bstep HB.out hb)
      clear hb
      obtain ⟨a1, a2, a3, a4, a5, a6, a7⟩ := C.out
      go_wp2_with fail
      clear a1 a2 a3 a4 a5 a6 a7
      refine (WC.out _).mono ?_
      rintro e w8 ⟨rfl, hb⟩
      replace A := Lib.hid (A.out.below hb)
      replace B := Lib.hid (B.out.below hb)
      replace C := Lib.hid (C.out.below hb)
      replace E := Lib.hid (E.out.below hb)
      replace G := Lib.hid (G.out.below hb)
      replace HB := Lib.hid (bstep HB.out hb)
      clear hb
      clear WA WB WC C
      obtain ⟨a1, a2, a3, a4, a5, a6, a7⟩ := A.out
      obtain ⟨b1, b2, b3, b4, b5, b6, b7⟩ := B.out
      obtain ⟨e1, e2, e3, e4, e5, e6, e7⟩ := E.out
      obtain ⟨g1, g2, g3, g4, g5, g6, g7⟩ := G.out
      clear a1 a5 a6 a7
      clear b1 b5 b6 b7
      clear e1 e5 e6 e7
      clear g1 g5 g6 g7
      clear LH LP
      go_wp2_with fail
      go_quiet (fail)
      go_wp2_with fail
      go_ret
      exact ⟨rfl, bdrew HB.out _⟩
    · obtain rfl : d = L := by omega
      have m12 : ¬ m = 12 := hm
      obtain ⟨rfl, rfl, rfl⟩ := isDay_one (D1.out rfl hm) HD1.out
      clear D0 D1 D2 HD1
      obtain ⟨a1, a2, a3, a4, a5, a6, a7⟩ := A.out
      go_wp2_with fail
      clear a1 a2 a3 a4 a5 a6 a7
      refine (WA.out _).mono ?_
      rintro e w6 ⟨rfl, hb⟩
      replace A := Lib.hid (((A.out.alloc (.cells #[.int .i64 y, .int .i64 m, .int .i64 d] 23)).alloc (.cells #[.int .i64 y, .int .i64 (m + 1), .int .i64 1] 23)).below hb)
      replace B := Lib.hid (((B.out.alloc (.cells #[.int .i64 y, .int .i64 m, .int .i64 d] 23)).alloc (.cells #[.int .i64 y, .int .i64 (m + 1), .int .i64 1] 23)).below hb)
      replace C := Lib.hid (((C.out.alloc (.cells #[.int .i64 y, .int .i64 m, .int .i64 d] 23)).alloc (.cells #[.int .i64 y, .int .i64 (m + 1), .int .i64 1] 23)).below hb)
      have E := Lib.hid (((Dt.new w5 y m d).alloc (.cells #[.int .i64 y, .int .i64 (m + 1), .int .i64 1] 23)).below hb)
      have G := Lib.hid ((Dt.new1 w5 (.cells #[.int .i64 y, .int .i64 m, .int .i64 d] 23) y (m + 1) 1).below hb)
      replace HB := Lib.hid (bstep (balloc (balloc HB.out (.cells #[.int .i64 y, .int .i64 m, .int .i64 d] 23)) (.cells #[.int .i64 y, .int .i64 (m + 1), .int .i64 1] 23)) hb)
      clear hb
      obtain ⟨a1, a2, a3, a4, a5, a6, a7⟩ := B.out
      go_wp2_with fail
      clear a1 a2 a3 a4 a5 a6 a7
      refine (WB.out _).mono ?_
      rintro e w7 ⟨rfl, hb⟩
      replace A := Lib.hid (A.out.below hb)
      replace B := Lib.hid (B.out.below hb)
      replace C := Lib.hid (C.out.below hb)
      replace E := Lib.hid (E.out.below hb)
      replace G := Lib.hid (G.out.below hb)
      replace HB := Lib.hid (bstep HB.out hb)
      clear hb
      obtain ⟨a1, a2, a3, a4, a5, a6, a7⟩ := C.out
      go_wp2_with fail
      clear a1 a2 a3 a4 a5 a6 a7
      refine (WC.out _).mono ?_
      rintro e w8 ⟨rfl, hb⟩
      replace A := Lib.hid (A.out.below hb)
      replace B := Lib.hid (B.out.below hb)
      replace C := Lib.hid (C.out.below hb)
      replace E := Lib.hid (E.out.below hb)
      replace G := Lib.hid (G.out.below hb)
      replace HB := Lib.hid (bstep HB.out hb)
      clear hb
      clear WA WB WC C
      obtain ⟨a1, a2, a3, a4, a5, a6, a7⟩ := A.out
      obtain ⟨b1, b2, b3, b4, b5, b6, b7⟩ := B.out
      obtain ⟨e1, e2, e3, e4, e5, e6, e7⟩ := E.out
      obtain ⟨g1, g2, g3, g4, g5, g6, g7⟩ := G.out
      clear a1 a5 a6 a7
      clear b1 b5 b6 b7
      clear e1 e5 e6 e7
      clear g1 g5 g6 g7
      go_wp2_with fail
      by_cases f2 : m = 2
      · have fe := LH.out f2
        have f3 : (m != 2) = false := by simp [f2]
        clear f2 LH
        go_quiet (first | (go_at_call 17; with_reducible exact Calls.quiet_of_same (LP.out _)))
        go_wp2_with fail
        go_ret
        exact ⟨rfl, bdrew HB.out _⟩
      · have f3 : (m != 2) = true := by simp [f2]
        clear f2 LH LP
        go_quiet (fail)
        go_wp2_with fail
        go_ret
        exact ⟨rfl, bdrew HB.out _⟩

set_option maxRecDepth 100000 in
theorem lifted (os : Os) (started : os.Started) (H : Type) (enc : TypeId × Value → H) :
    ReturnsInHanded {} Tryd.checked os 7 .any (fun w args => (Rows.civilStepsSpec.pre enc Tryd.prog Tryd.f7 [] false w args ∧ laidMetH Tryd.prog Rows.civilDaysRow.laid w) ∧ sizedMet enc Tryd.prog Tryd.f7 (OpenSpec.ofChange Rows.civilStepsSpec) false w args)
      (Rows.civilStepsSpec.post enc Tryd.prog Tryd.f7 false true false false) := by
  refine returnsInHanded_of_change_and (C := Tryd.checked) (X := fun w _ => laidMetH Tryd.prog Rows.civilDaysRow.laid w) (fun _ _ _ hh h => h.of_heap hh) own started (by kernel_rfl) Tryd.func7
    (ChangeSpec.witness_shaped (enc := enc) (C := Tryd.checked) (os := os) (X := fun w _ => laidMetH Tryd.prog Rows.civilDaysRow.laid w) false (World.doorLaid Tryd.prog 24 os) #[.int .i64 0] 8 rfl (World.shaped_of_RefB (by kernel_rfl) (by kernel_rfl)) (by kernel_rfl) (by kernel_rfl) (by kernel_rfl) (door_met os _)) ?_
  intro W base args ds gs before hval0 hW _ _ hL _
  have hval : ∀ (j : Nat) t v, Tryd.f7.params[j]? = some t → args[j]? = some v → Value.okWide Tryd.prog W .any base t v := hval0
  have hW' := hW
  obtain ⟨p, q, hA0, hV, rfl, hfz, hnd⟩ := hW
  have hA : DataW.TrodAll enc Tryd.prog W 0 (fun _ => true) true Tryd.f7.params.toList args.toList ds p := hA0
  rw [Tryd.params7] at hA hval
  obtain ⟨v0, vs0, d0, ds0, p0, q0, hargs, rfl, rfl, h0, r0⟩ := trodAll_cons hA
  obtain ⟨rfl, rfl, rfl⟩ := trodAll_nil r0
  obtain rfl : args = #[v0] := by cases args; simp_all
  obtain ⟨rfl, rfl⟩ := trodVars_none hV
  obtain ⟨a0, rfl, rfl, rfl, w0⟩ := open_int Tryd.underlying3 (hval 0 3 v0 rfl rfl) h0
  clear hA0 hval0
  simp only [List.append_nil] at hW'
  refine (walk a0 W (tab_of_laid hL) w0).mono fun e W' ⟨he, hg⟩ => ?_
  subst he
  exact ⟨_, rfl, _, _, _, [], _, [], hW', trodAll_cons_mk (shut_bool Tryd.underlying4 _) trodAll_mk0,
    (trodAll_cons_mk (shut_int Tryd.underlying3 w0) trodAll_mk0), rfl, hg.frame _, fun h => nomatch h⟩

theorem over : Rows.CivilStepsSaid :=
  OpenClaim.holds_of_wide 7 Tryd.f7 rfl rfl rfl rfl rfl rfl rfl ⟨rfl, rfl, rfl, rfl, rfl⟩ rfl rfl rfl rfl rfl (by kernel_rfl) Tryd.func7 (by kernel_rfl)
    (of_decide_eq_true (by kernel_rfl)) (by unfold Func.isWrapper; first | (rw [if_pos (by decide +kernel)]; kernel_rfl) | (rw [if_neg (by decide +kernel)]; exact ⟨rfl, rfl⟩))
    (fun os started H enc _ => lifted os started H enc)

theorem proved : Rows.CivilStepsCardSaid :=
  Claim7.holds_tied_plain_at .later [] [.data, .data, .data] true Rows.civilStepsCard.stood.harness false
    over (fun _ h => by cases h) (by kernel_rfl) (fun _ h => by cases h) civilSteps_row_tie rfl ⟨rfl, rfl⟩ (by kernel_rfl) rfl
    (fun f fn hf hfn => by
      obtain rfl : f = 7 := Option.some.inj ((show Tryd.prog.funcNamed Rows.civilStepsRow.func = some 7 by kernel_rfl).symm.trans hf) |>.symm
      obtain rfl : fn = Tryd.f7 := (Option.some.inj (Tryd.func7.symm.trans hfn)).symm
      exact ⟨by kernel_rfl, fun j t ht => by
        rw [Tryd.params7] at ht
        have hm : t ∈ [3] := by simpa using Array.mem_of_getElem? ht
        have hall : ([3].all fun u => !Tryd.prog.wantsStandIn u) = true := by kernel_rfl
        exact (show Tryd.prog.wantsStandIn t = false by simpa using List.all_eq_true.1 hall t hm)⟩)
    (by kernel_rfl)
end Go.Proofs.YtooinoccijfgiaaDoor.civilSteps
