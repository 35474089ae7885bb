/-
  Contracts of isTimeOfDay, Show and Tell, of civil and of sundialref03: the clockface that shows a time, and the time that a clockface shows.
  Conditions: the arguments are of their kinds.
-/
import Derived.Test.YtoecgabdjpgleaaGreatDoorCvC
namespace Go.Proofs.YtoecgabdjpgleaaGreatDoor.Cv
open Go.RowKit
set_option linter.unusedVariables false
set_option linter.unusedSimpArgs false

/-- block b holds a clockface, and may be written. -/
def Fc (w : World) (b : Nat) (y m d H M S T : Int) : Prop :=
  b < w.heap.size ∧ w.cell? ⟨b, 0, none⟩ = some (.int .i64 y) ∧ w.cell? ⟨b, 1, none⟩ = some (.int .i64 m) ∧ w.cell? ⟨b, 2, none⟩ = some (.int .i64 d) ∧ w.cell? ⟨b, 3, none⟩ = some (.int .i64 H) ∧ w.cell? ⟨b, 4, none⟩ = some (.int .i64 M) ∧ w.cell? ⟨b, 5, none⟩ = some (.int .i64 S) ∧ w.cell? ⟨b, 6, none⟩ = some (.int .i64 T)
theorem Fc.below {w w' : World} {b : Nat} {y m d H M S T : Int} (h : Fc w b y m d H M S T) (k : Below w.heap.size w w') : Fc w' b y m d H M S T :=
  ⟨Nat.lt_of_lt_of_le h.1 k.size, (k.cell (p := ⟨b, 0, none⟩) h.1).trans h.2.1, (k.cell (p := ⟨b, 1, none⟩) h.1).trans h.2.2.1, (k.cell (p := ⟨b, 2, none⟩) h.1).trans h.2.2.2.1, (k.cell (p := ⟨b, 3, none⟩) h.1).trans h.2.2.2.2.1, (k.cell (p := ⟨b, 4, none⟩) h.1).trans h.2.2.2.2.2.1, (k.cell (p := ⟨b, 5, none⟩) h.1).trans h.2.2.2.2.2.2.1, (k.cell (p := ⟨b, 6, none⟩) h.1).trans h.2.2.2.2.2.2.2⟩
theorem Fc.alloc {w : World} {b : Nat} {y m d H M S T : Int} (h : Fc w b y m d H M S T) (o : Obj) : Fc (w.alloc o) b y m d H M S T := h.below (balloc (brefl w) o)
theorem Fc.new (w : World) (y m d H M S T : Int) : Fc (w.alloc (.cells #[.int .i64 y, .int .i64 m, .int .i64 d, .int .i64 H, .int .i64 M, .int .i64 S, .int .i64 T] 82)) w.heap.size y m d H M S T :=
  ⟨by simp, by simp [go_sem], by simp [go_sem], by simp [go_sem], by simp [go_sem], by simp [go_sem], by simp [go_sem], by simp [go_sem]⟩
/-- the parts of a day. -/
def tod (H M S T : Int) : Prop := 0 ≤ H ∧ H ≤ 23 ∧ 0 ≤ M ∧ M ≤ 59 ∧ 0 ≤ S ∧ S ≤ 59 ∧ 0 ≤ T ∧ T ≤ 1048575
/-- the time that is shown. -/
def tell (N H M S T : Int) : Int := (N * 86400 + H * 3600 + M * 60 + S) * 1048576 + T
theorem ret_t2' {k : IntKind} {a b : Int} {v : Value} (h : a = b) : Ending.returned (.tuple #[.int k a, v]) = .returned (.tuple #[.int k b, v]) := by rw [h]

set_option maxRecDepth 100000 in
set_option maxHeartbeats 1000000 in
theorem isTod_yes (y m d H M S T : Int) (w : World) (h : tod H M S T) :
    Calls Tryz.prog 76 #[.agg #[.int .i64 y, .int .i64 m, .int .i64 d, .int .i64 H, .int .i64 M, .int .i64 S, .int .i64 T]] w fun e w' => e = .returned (.bool true) ∧ Below w.heap.size w w' := by
  have X := Lib.hid h
  clear h
  go_enter Tryz.func76, Tryz.ntmps76
  go_wp2_with fail
  refine (isFrom_yes _ _ _ _ X.out.1 X.out.2.1).mono ?_
  rintro e w' ⟨rfl, rfl⟩
  go_wp2_with fail
  refine (isFrom_yes _ _ _ _ X.out.2.2.1 X.out.2.2.2.1).mono ?_
  rintro e w' ⟨rfl, rfl⟩
  go_wp2_with fail
  refine (isFrom_yes _ _ _ _ X.out.2.2.2.2.1 X.out.2.2.2.2.2.1).mono ?_
  rintro e w' ⟨rfl, rfl⟩
  go_wp2_with fail
  refine (isFrom_yes _ _ _ _ X.out.2.2.2.2.2.2.1 X.out.2.2.2.2.2.2.2).mono ?_
  rintro e w' ⟨rfl, rfl⟩
  go_wp2_with fail
  go_ret
  exact ⟨rfl, balloc (brefl w) _⟩

set_option maxRecDepth 100000 in
set_option maxHeartbeats 1000000 in
theorem isTod_no0 (y m d H M S T : Int) (w : World)  (h : ¬ (0 ≤ H ∧ H ≤ 23)) :
    Calls Tryz.prog 76 #[.agg #[.int .i64 y, .int .i64 m, .int .i64 d, .int .i64 H, .int .i64 M, .int .i64 S, .int .i64 T]] w fun e w' => e = .returned (.bool false) ∧ Below w.heap.size w w' := by
  have X := Lib.hid h
  clear h
  go_enter Tryz.func76, Tryz.ntmps76
  go_wp2_with fail
  refine (isFrom_no _ _ _ _ X.out).mono ?_
  rintro e w' ⟨rfl, rfl⟩
  go_wp2_with fail
  go_ret
  exact ⟨rfl, balloc (brefl w) _⟩

set_option maxRecDepth 100000 in
set_option maxHeartbeats 1000000 in
theorem isTod_no1 (y m d H M S T : Int) (w : World) (h1 : 0 ≤ H ∧ H ≤ 23) (h : ¬ (0 ≤ M ∧ M ≤ 59)) :
    Calls Tryz.prog 76 #[.agg #[.int .i64 y, .int .i64 m, .int .i64 d, .int .i64 H, .int .i64 M, .int .i64 S, .int .i64 T]] w fun e w' => e = .returned (.bool false) ∧ Below w.heap.size w w' := by
  have X1 := Lib.hid h1
  clear h1
  have X := Lib.hid h
  clear h
  go_enter Tryz.func76, Tryz.ntmps76
  go_wp2_with fail
  refine (isFrom_yes _ _ _ _ X1.out.1 X1.out.2).mono ?_
  rintro e w' ⟨rfl, rfl⟩
  go_wp2_with fail
  refine (isFrom_no _ _ _ _ X.out).mono ?_
  rintro e w' ⟨rfl, rfl⟩
  go_wp2_with fail
  go_ret
  exact ⟨rfl, balloc (brefl w) _⟩

set_option maxRecDepth 100000 in
set_option maxHeartbeats 1000000 in
theorem isTod_no2 (y m d H M S T : Int) (w : World) (h1 : 0 ≤ H ∧ H ≤ 23) (h2 : 0 ≤ M ∧ M ≤ 59) (h : ¬ (0 ≤ S ∧ S ≤ 59)) :
    Calls Tryz.prog 76 #[.agg #[.int .i64 y, .int .i64 m, .int .i64 d, .int .i64 H, .int .i64 M, .int .i64 S, .int .i64 T]] w fun e w' => e = .returned (.bool false) ∧ Below w.heap.size w w' := by
  have X1 := Lib.hid h1
  clear h1
  have X2 := Lib.hid h2
  clear h2
  have X := Lib.hid h
  clear h
  go_enter Tryz.func76, Tryz.ntmps76
  go_wp2_with fail
  refine (isFrom_yes _ _ _ _ X1.out.1 X1.out.2).mono ?_
  rintro e w' ⟨rfl, rfl⟩
  go_wp2_with fail
  refine (isFrom_yes _ _ _ _ X2.out.1 X2.out.2).mono ?_
  rintro e w' ⟨rfl, rfl⟩
  go_wp2_with fail
  refine (isFrom_no _ _ _ _ X.out).mono ?_
  rintro e w' ⟨rfl, rfl⟩
  go_wp2_with fail
  go_ret
  exact ⟨rfl, balloc (brefl w) _⟩

set_option maxRecDepth 100000 in
set_option maxHeartbeats 1000000 in
theorem isTod_no3 (y m d H M S T : Int) (w : World) (h1 : 0 ≤ H ∧ H ≤ 23) (h2 : 0 ≤ M ∧ M ≤ 59) (h3 : 0 ≤ S ∧ S ≤ 59) (h : ¬ (0 ≤ T ∧ T ≤ 1048575)) :
    Calls Tryz.prog 76 #[.agg #[.int .i64 y, .int .i64 m, .int .i64 d, .int .i64 H, .int .i64 M, .int .i64 S, .int .i64 T]] w fun e w' => e = .returned (.bool false) ∧ Below w.heap.size w w' := by
  have X1 := Lib.hid h1
  clear h1
  have X2 := Lib.hid h2
  clear h2
  have X3 := Lib.hid h3
  clear h3
  have X := Lib.hid h
  clear h
  go_enter Tryz.func76, Tryz.ntmps76
  go_wp2_with fail
  refine (isFrom_yes _ _ _ _ X1.out.1 X1.out.2).mono ?_
  rintro e w' ⟨rfl, rfl⟩
  go_wp2_with fail
  refine (isFrom_yes _ _ _ _ X2.out.1 X2.out.2).mono ?_
  rintro e w' ⟨rfl, rfl⟩
  go_wp2_with fail
  refine (isFrom_yes _ _ _ _ X3.out.1 X3.out.2).mono ?_
  rintro e w' ⟨rfl, rfl⟩
  go_wp2_with fail
  refine (isFrom_no _ _ _ _ X.out).mono ?_
  rintro e w' ⟨rfl, rfl⟩
  go_wp2_with fail
  go_ret
  exact ⟨rfl, balloc (brefl w) _⟩

theorem isTod_no (y m d H M S T : Int) (w : World) (h : ¬ tod H M S T) :
    Calls Tryz.prog 76 #[.agg #[.int .i64 y, .int .i64 m, .int .i64 d, .int .i64 H, .int .i64 M, .int .i64 S, .int .i64 T]] w fun e w' => e = .returned (.bool false) ∧ Below w.heap.size w w' := by
  unfold tod at h
  by_cases c1 : 0 ≤ H ∧ H ≤ 23
  · by_cases c2 : 0 ≤ M ∧ M ≤ 59
    · by_cases c3 : 0 ≤ S ∧ S ≤ 59
      · exact isTod_no3 y m d H M S T w c1 c2 c3 (by omega)
      · exact isTod_no2 y m d H M S T w c1 c2 c3
    · exact isTod_no1 y m d H M S T w c1 c2
  · exact isTod_no0 y m d H M S T w c1

set_option maxRecDepth 100000 in
set_option maxHeartbeats 2000000 in
theorem Tell_shape (y m d H M S T : Int) (w : World) (h : ¬ ok y m d) :
    Calls Tryz.prog 48 #[.agg #[.int .i64 y, .int .i64 m, .int .i64 d, .int .i64 H, .int .i64 M, .int .i64 S, .int .i64 T]] w fun e w' => e = .returned (.tuple #[.int .i64 0, .int .i64 3]) ∧ Below w.heap.size w w' := by
  have X := Lib.hid h
  clear h
  go_enter Tryz.func48, Tryz.ntmps48
  go_wp2_with fail
  refine (Number_bad _ _ _ _ X.out).mono ?_
  rintro e w1 ⟨rfl, hb⟩
  have A := Lib.hid ((Fc.new w y m d H M S T).below hb)
  have HB := Lib.hid (bstep (balloc (brefl w) _) hb)
  clear hb
  obtain ⟨a0, a1, a2, a3, a4, a5, a6, a7⟩ := A.out
  go_wp2_with fail
  go_ret2
  exact ⟨rfl, HB.out⟩

set_option maxRecDepth 100000 in
set_option maxHeartbeats 2000000 in
theorem Tell_tod (y m d H M S T : Int) (w : World) (h : ok y m d) (k : ¬ tod H M S T) :
    Calls Tryz.prog 48 #[.agg #[.int .i64 y, .int .i64 m, .int .i64 d, .int .i64 H, .int .i64 M, .int .i64 S, .int .i64 T]] w fun e w' => e = .returned (.tuple #[.int .i64 0, .int .i64 3]) ∧ Below w.heap.size w w' := by
  have X := Lib.hid h
  have Y := Lib.hid k
  clear h k
  go_enter Tryz.func48, Tryz.ntmps48
  go_wp2_with fail
  refine (Number_ok _ _ _ _ X.out).mono ?_
  rintro e w1 ⟨rfl, hb⟩
  have A := Lib.hid ((Fc.new w y m d H M S T).below hb)
  have HB := Lib.hid (bstep (balloc (brefl w) _) hb)
  clear hb
  obtain ⟨a0, a1, a2, a3, a4, a5, a6, a7⟩ := A.out
  go_wp2_with fail
  clear a0 a1 a2 a3 a4 a5 a6 a7
  refine (isTod_no _ _ _ _ _ _ _ _ Y.out).mono ?_
  rintro e w2 ⟨rfl, hb⟩
  replace HB := Lib.hid (bstep HB.out hb)
  clear hb A
  go_wp2_with fail
  go_ret2
  exact ⟨rfl, HB.out⟩

set_option maxRecDepth 100000 in
set_option maxHeartbeats 2000000 in
theorem Tell_ok (y m d H M S T : Int) (w : World) (h : ok y m d) (k : tod H M S T) :
    Calls Tryz.prog 48 #[.agg #[.int .i64 y, .int .i64 m, .int .i64 d, .int .i64 H, .int .i64 M, .int .i64 S, .int .i64 T]] w fun e w' => e = .returned (.tuple #[.int .i64 (tell (num y m d) H M S T), .int .i64 0]) ∧ Below w.heap.size w w' := by
  have X := Lib.hid (fun w => Number_ok y m d w h)
  have Y := Lib.hid k
  have NB := num_bd h
  obtain ⟨k1, k2, k3, k4, k5, k6, k7, k8⟩ := k
  clear h
  generalize num y m d = N at *
  obtain ⟨n1, n2⟩ := NB
  have E : Hid (tell N H M S T = (N * 86400 + H * 3600 + M * 60 + S) * 1048576 + T) := rfl
  generalize tell N H M S T = Z at *
  go_enter Tryz.func48, Tryz.ntmps48
  go_wp2_with fail
  refine (X.out _).mono ?_
  rintro e w1 ⟨rfl, hb⟩
  have A := Lib.hid ((Fc.new w y m d H M S T).below hb)
  have HB := Lib.hid (bstep (balloc (brefl w) _) hb)
  clear hb
  obtain ⟨a0, a1, a2, a3, a4, a5, a6, a7⟩ := A.out
  go_wp2_with fail
  clear a0 a1 a2 a3 a4 a5 a6 a7
  refine (isTod_yes _ _ _ _ _ _ _ _ Y.out).mono ?_
  rintro e w2 ⟨rfl, hb⟩
  replace HB := Lib.hid (bstep HB.out hb)
  replace A := Lib.hid (A.out.below hb)
  clear hb
  obtain ⟨a0, a1, a2, a3, a4, a5, a6, a7⟩ := A.out
  go_wp2_with fail
  go_ret2
  exact ⟨ret_t2' (by have := E.out; omega), HB.out⟩

set_option maxRecDepth 100000 in
set_option maxHeartbeats 2000000 in
theorem rTell_shape (y m d H M S T : Int) (w : World) (h : ¬ ok y m d) :
    Calls Tryz.prog 34 #[.agg #[.int .i64 y, .int .i64 m, .int .i64 d, .int .i64 H, .int .i64 M, .int .i64 S, .int .i64 T]] w fun e w' => e = .returned (.tuple #[.int .i64 0, .int .i64 3]) ∧ Below w.heap.size w w' := by
  have X := Lib.hid h
  clear h
  go_enter Tryz.func34, Tryz.ntmps34
  go_wp2_with fail
  refine (rNumber_bad _ _ _ _ X.out).mono ?_
  rintro e w1 ⟨rfl, hb⟩
  have A := Lib.hid ((Fc.new w y m d H M S T).below hb)
  have HB := Lib.hid (bstep (balloc (brefl w) _) hb)
  clear hb
  obtain ⟨a0, a1, a2, a3, a4, a5, a6, a7⟩ := A.out
  go_wp2_with fail
  go_ret2
  exact ⟨rfl, HB.out⟩

set_option maxRecDepth 100000 in
set_option maxHeartbeats 2000000 in
theorem rTell_tod0 (y m d H M S T : Int) (w : World) (h : ok y m d)  (e0 : decide (H < 0) = true) :
    Calls Tryz.prog 34 #[.agg #[.int .i64 y, .int .i64 m, .int .i64 d, .int .i64 H, .int .i64 M, .int .i64 S, .int .i64 T]] w fun e w' => e = .returned (.tuple #[.int .i64 0, .int .i64 3]) ∧ Below w.heap.size w w' := by
  have X := Lib.hid (fun w => rNumber_ok y m d w h)
  clear h
  generalize num y m d = N at *
  go_enter Tryz.func34, Tryz.ntmps34
  go_wp2_with fail
  refine (X.out _).mono ?_
  rintro e w1 ⟨rfl, hb⟩
  have A := Lib.hid ((Fc.new w y m d H M S T).below hb)
  have HB := Lib.hid (bstep (balloc (brefl w) _) hb)
  clear hb
  obtain ⟨a0, a1, a2, a3, a4, a5, a6, a7⟩ := A.out
  go_wp2_with fail
  go_ret2
  exact ⟨rfl, HB.out⟩

set_option maxRecDepth 100000 in
set_option maxHeartbeats 2000000 in
theorem rTell_tod1 (y m d H M S T : Int) (w : World) (h : ok y m d) (e0 : decide (H < 0) = false) (e1 : decide (23 < H) = true) :
    Calls Tryz.prog 34 #[.agg #[.int .i64 y, .int .i64 m, .int .i64 d, .int .i64 H, .int .i64 M, .int .i64 S, .int .i64 T]] w fun e w' => e = .returned (.tuple #[.int .i64 0, .int .i64 3]) ∧ Below w.heap.size w w' := by
  have X := Lib.hid (fun w => rNumber_ok y m d w h)
  clear h
  generalize num y m d = N at *
  go_enter Tryz.func34, Tryz.ntmps34
  go_wp2_with fail
  refine (X.out _).mono ?_
  rintro e w1 ⟨rfl, hb⟩
  have A := Lib.hid ((Fc.new w y m d H M S T).below hb)
  have HB := Lib.hid (bstep (balloc (brefl w) _) hb)
  clear hb
  obtain ⟨a0, a1, a2, a3, a4, a5, a6, a7⟩ := A.out
  go_wp2_with fail
  go_ret2
  exact ⟨rfl, HB.out⟩

set_option maxRecDepth 100000 in
set_option maxHeartbeats 2000000 in
theorem rTell_tod2 (y m d H M S T : Int) (w : World) (h : ok y m d) (e0 : decide (H < 0) = false) (e1 : decide (23 < H) = false) (e2 : decide (M < 0) = true) :
    Calls Tryz.prog 34 #[.agg #[.int .i64 y, .int .i64 m, .int .i64 d, .int .i64 H, .int .i64 M, .int .i64 S, .int .i64 T]] w fun e w' => e = .returned (.tuple #[.int .i64 0, .int .i64 3]) ∧ Below w.heap.size w w' := by
  have X := Lib.hid (fun w => rNumber_ok y m d w h)
  clear h
  generalize num y m d = N at *
  go_enter Tryz.func34, Tryz.ntmps34
  go_wp2_with fail
  refine (X.out _).mono ?_
  rintro e w1 ⟨rfl, hb⟩
  have A := Lib.hid ((Fc.new w y m d H M S T).below hb)
  have HB := Lib.hid (bstep (balloc (brefl w) _) hb)
  clear hb
  obtain ⟨a0, a1, a2, a3, a4, a5, a6, a7⟩ := A.out
  go_wp2_with fail
  go_ret2
  exact ⟨rfl, HB.out⟩

set_option maxRecDepth 100000 in
set_option maxHeartbeats 2000000 in
theorem rTell_tod3 (y m d H M S T : Int) (w : World) (h : ok y m d) (e0 : decide (H < 0) = false) (e1 : decide (23 < H) = false) (e2 : decide (M < 0) = false) (e3 : decide (59 < M) = true) :
    Calls Tryz.prog 34 #[.agg #[.int .i64 y, .int .i64 m, .int .i64 d, .int .i64 H, .int .i64 M, .int .i64 S, .int .i64 T]] w fun e w' => e = .returned (.tuple #[.int .i64 0, .int .i64 3]) ∧ Below w.heap.size w w' := by
  have X := Lib.hid (fun w => rNumber_ok y m d w h)
  clear h
  generalize num y m d = N at *
  go_enter Tryz.func34, Tryz.ntmps34
  go_wp2_with fail
  refine (X.out _).mono ?_
  rintro e w1 ⟨rfl, hb⟩
  have A := Lib.hid ((Fc.new w y m d H M S T).below hb)
  have HB := Lib.hid (bstep (balloc (brefl w) _) hb)
  clear hb
  obtain ⟨a0, a1, a2, a3, a4, a5, a6, a7⟩ := A.out
  go_wp2_with fail
  go_ret2
  exact ⟨rfl, HB.out⟩

set_option maxRecDepth 100000 in
set_option maxHeartbeats 2000000 in
theorem rTell_tod4 (y m d H M S T : Int) (w : World) (h : ok y m d) (e0 : decide (H < 0) = false) (e1 : decide (23 < H) = false) (e2 : decide (M < 0) = false) (e3 : decide (59 < M) = false) (e4 : decide (S < 0) = true) :
    Calls Tryz.prog 34 #[.agg #[.int .i64 y, .int .i64 m, .int .i64 d, .int .i64 H, .int .i64 M, .int .i64 S, .int .i64 T]] w fun e w' => e = .returned (.tuple #[.int .i64 0, .int .i64 3]) ∧ Below w.heap.size w w' := by
  have X := Lib.hid (fun w => rNumber_ok y m d w h)
  clear h
  generalize num y m d = N at *
  go_enter Tryz.func34, Tryz.ntmps34
  go_wp2_with fail
  refine (X.out _).mono ?_
  rintro e w1 ⟨rfl, hb⟩
  have A := Lib.hid ((Fc.new w y m d H M S T).below hb)
  have HB := Lib.hid (bstep (balloc (brefl w) _) hb)
  clear hb
  obtain ⟨a0, a1, a2, a3, a4, a5, a6, a7⟩ := A.out
  go_wp2_with fail
  go_ret2
  exact ⟨rfl, HB.out⟩

set_option maxRecDepth 100000 in
set_option maxHeartbeats 2000000 in
theorem rTell_tod5 (y m d H M S T : Int) (w : World) (h : ok y m d) (e0 : decide (H < 0) = false) (e1 : decide (23 < H) = false) (e2 : decide (M < 0) = false) (e3 : decide (59 < M) = false) (e4 : decide (S < 0) = false) (e5 : decide (59 < S) = true) :
    Calls Tryz.prog 34 #[.agg #[.int .i64 y, .int .i64 m, .int .i64 d, .int .i64 H, .int .i64 M, .int .i64 S, .int .i64 T]] w fun e w' => e = .returned (.tuple #[.int .i64 0, .int .i64 3]) ∧ Below w.heap.size w w' := by
  have X := Lib.hid (fun w => rNumber_ok y m d w h)
  clear h
  generalize num y m d = N at *
  go_enter Tryz.func34, Tryz.ntmps34
  go_wp2_with fail
  refine (X.out _).mono ?_
  rintro e w1 ⟨rfl, hb⟩
  have A := Lib.hid ((Fc.new w y m d H M S T).below hb)
  have HB := Lib.hid (bstep (balloc (brefl w) _) hb)
  clear hb
  obtain ⟨a0, a1, a2, a3, a4, a5, a6, a7⟩ := A.out
  go_wp2_with fail
  go_ret2
  exact ⟨rfl, HB.out⟩

set_option maxRecDepth 100000 in
set_option maxHeartbeats 2000000 in
theorem rTell_tod6 (y m d H M S T : Int) (w : World) (h : ok y m d) (e0 : decide (H < 0) = false) (e1 : decide (23 < H) = false) (e2 : decide (M < 0) = false) (e3 : decide (59 < M) = false) (e4 : decide (S < 0) = false) (e5 : decide (59 < S) = false) (e6 : decide (T < 0) = true) :
    Calls Tryz.prog 34 #[.agg #[.int .i64 y, .int .i64 m, .int .i64 d, .int .i64 H, .int .i64 M, .int .i64 S, .int .i64 T]] w fun e w' => e = .returned (.tuple #[.int .i64 0, .int .i64 3]) ∧ Below w.heap.size w w' := by
  have X := Lib.hid (fun w => rNumber_ok y m d w h)
  clear h
  generalize num y m d = N at *
  go_enter Tryz.func34, Tryz.ntmps34
  go_wp2_with fail
  refine (X.out _).mono ?_
  rintro e w1 ⟨rfl, hb⟩
  have A := Lib.hid ((Fc.new w y m d H M S T).below hb)
  have HB := Lib.hid (bstep (balloc (brefl w) _) hb)
  clear hb
  obtain ⟨a0, a1, a2, a3, a4, a5, a6, a7⟩ := A.out
  go_wp2_with fail
  go_ret2
  exact ⟨rfl, HB.out⟩

set_option maxRecDepth 100000 in
set_option maxHeartbeats 2000000 in
theorem rTell_tod7 (y m d H M S T : Int) (w : World) (h : ok y m d) (e0 : decide (H < 0) = false) (e1 : decide (23 < H) = false) (e2 : decide (M < 0) = false) (e3 : decide (59 < M) = false) (e4 : decide (S < 0) = false) (e5 : decide (59 < S) = false) (e6 : decide (T < 0) = false) (e7 : decide (1048575 < T) = true) :
    Calls Tryz.prog 34 #[.agg #[.int .i64 y, .int .i64 m, .int .i64 d, .int .i64 H, .int .i64 M, .int .i64 S, .int .i64 T]] w fun e w' => e = .returned (.tuple #[.int .i64 0, .int .i64 3]) ∧ Below w.heap.size w w' := by
  have X := Lib.hid (fun w => rNumber_ok y m d w h)
  clear h
  generalize num y m d = N at *
  go_enter Tryz.func34, Tryz.ntmps34
  go_wp2_with fail
  refine (X.out _).mono ?_
  rintro e w1 ⟨rfl, hb⟩
  have A := Lib.hid ((Fc.new w y m d H M S T).below hb)
  have HB := Lib.hid (bstep (balloc (brefl w) _) hb)
  clear hb
  obtain ⟨a0, a1, a2, a3, a4, a5, a6, a7⟩ := A.out
  go_wp2_with fail
  go_ret2
  exact ⟨rfl, HB.out⟩

set_option maxRecDepth 100000 in
set_option maxHeartbeats 2000000 in
theorem rTell_tod (y m d H M S T : Int) (w : World) (h : ok y m d) (k : ¬ tod H M S T) :
    Calls Tryz.prog 34 #[.agg #[.int .i64 y, .int .i64 m, .int .i64 d, .int .i64 H, .int .i64 M, .int .i64 S, .int .i64 T]] w fun e w' => e = .returned (.tuple #[.int .i64 0, .int .i64 3]) ∧ Below w.heap.size w w' := by
  unfold tod at k
  by_cases c0 : H < 0
  · exact rTell_tod0 y m d H M S T w h (decide_eq_true c0)
  · by_cases c1 : 23 < H
    · exact rTell_tod1 y m d H M S T w h (by rw [decide_eq_false_iff_not]; omega) (decide_eq_true c1)
    · by_cases c2 : M < 0
      · exact rTell_tod2 y m d H M S T w h (by rw [decide_eq_false_iff_not]; omega) (by rw [decide_eq_false_iff_not]; omega) (decide_eq_true c2)
      · by_cases c3 : 59 < M
        · exact rTell_tod3 y m d H M S T w h (by rw [decide_eq_false_iff_not]; omega) (by rw [decide_eq_false_iff_not]; omega) (by rw [decide_eq_false_iff_not]; omega) (decide_eq_true c3)
        · by_cases c4 : S < 0
          · exact rTell_tod4 y m d H M S T w h (by rw [decide_eq_false_iff_not]; omega) (by rw [decide_eq_false_iff_not]; omega) (by rw [decide_eq_false_iff_not]; omega) (by rw [decide_eq_false_iff_not]; omega) (decide_eq_true c4)
          · by_cases c5 : 59 < S
            · exact rTell_tod5 y m d H M S T w h (by rw [decide_eq_false_iff_not]; omega) (by rw [decide_eq_false_iff_not]; omega) (by rw [decide_eq_false_iff_not]; omega) (by rw [decide_eq_false_iff_not]; omega) (by rw [decide_eq_false_iff_not]; omega) (decide_eq_true c5)
            · by_cases c6 : T < 0
              · exact rTell_tod6 y m d H M S T w h (by rw [decide_eq_false_iff_not]; omega) (by rw [decide_eq_false_iff_not]; omega) (by rw [decide_eq_false_iff_not]; omega) (by rw [decide_eq_false_iff_not]; omega) (by rw [decide_eq_false_iff_not]; omega) (by rw [decide_eq_false_iff_not]; omega) (decide_eq_true c6)
              · have c7 : 1048575 < T := by omega
                exact rTell_tod7 y m d H M S T w h (by rw [decide_eq_false_iff_not]; omega) (by rw [decide_eq_false_iff_not]; omega) (by rw [decide_eq_false_iff_not]; omega) (by rw [decide_eq_false_iff_not]; omega) (by rw [decide_eq_false_iff_not]; omega) (by rw [decide_eq_false_iff_not]; omega) (by rw [decide_eq_false_iff_not]; omega) (decide_eq_true c7)

set_option maxRecDepth 100000 in
set_option maxHeartbeats 2000000 in
theorem rTell_ok (y m d H M S T : Int) (w : World) (h : ok y m d) (k : tod H M S T) :
    Calls Tryz.prog 34 #[.agg #[.int .i64 y, .int .i64 m, .int .i64 d, .int .i64 H, .int .i64 M, .int .i64 S, .int .i64 T]] w fun e w' => e = .returned (.tuple #[.int .i64 (tell (num y m d) H M S T), .int .i64 0]) ∧ Below w.heap.size w w' := by
  have X := Lib.hid (fun w => rNumber_ok y m d w h)
  have Y := Lib.hid k
  have NB := num_bd h
  obtain ⟨k1, k2, k3, k4, k5, k6, k7, k8⟩ := k
  clear h
  generalize num y m d = N at *
  obtain ⟨n1, n2⟩ := NB
  have E : Hid (tell N H M S T = (N * 86400 + H * 3600 + M * 60 + S) * 1048576 + T) := rfl
  generalize tell N H M S T = Z at *
  go_enter Tryz.func34, Tryz.ntmps34
  go_wp2_with fail
  refine (X.out _).mono ?_
  rintro e w1 ⟨rfl, hb⟩
  have A := Lib.hid ((Fc.new w y m d H M S T).below hb)
  have HB := Lib.hid (bstep (balloc (brefl w) _) hb)
  clear hb
  obtain ⟨a0, a1, a2, a3, a4, a5, a6, a7⟩ := A.out
  go_wp2_with fail
  go_ret2
  exact ⟨ret_t2' (by have := E.out; omega), HB.out⟩
end Go.Proofs.YtoecgabdjpgleaaGreatDoor.Cv
