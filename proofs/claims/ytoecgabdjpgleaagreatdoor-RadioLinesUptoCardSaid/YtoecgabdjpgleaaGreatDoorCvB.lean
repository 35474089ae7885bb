/-
  Contracts of Number, Last and Weekday, of civil and of sundialref03: of a date its number, its month's last day, its weekday; else ErrShape.
  Conditions: the arguments are of their kinds.
-/
import Derived.Test.YtoecgabdjpgleaaGreatDoorCvA
namespace Go.Proofs.YtoecgabdjpgleaaGreatDoor.Cv
open Go.RowKit Go.Lib
set_option linter.unusedVariables false
set_option linter.unusedSimpArgs false

/-- block b holds a date, and may be written. -/
def Dt (w : World) (b : Nat) (y m d : Int) : Prop :=
  b < w.heap.size ∧ w.cell? ⟨b, 0, none⟩ = some (.int .i64 y) ∧ w.cell? ⟨b, 1, none⟩ = some (.int .i64 m) ∧ w.cell? ⟨b, 2, none⟩ = some (.int .i64 d) ∧ w.frozen? ⟨b, 0, none⟩ = false ∧ w.frozen? ⟨b, 1, none⟩ = false ∧ w.frozen? ⟨b, 2, none⟩ = false
theorem Dt.below {w w' : World} {b : Nat} {y m d : Int} (h : Dt w b y m d) (k : Below w.heap.size w w') : Dt w' b y m d :=
  ⟨Nat.lt_of_lt_of_le h.1 k.size, (k.cell (p := ⟨b, 0, none⟩) h.1).trans h.2.1, (k.cell (p := ⟨b, 1, none⟩) h.1).trans h.2.2.1, (k.cell (p := ⟨b, 2, none⟩) h.1).trans h.2.2.2.1, (k.frozen (p := ⟨b, 0, none⟩) h.1).trans h.2.2.2.2.1, (k.frozen (p := ⟨b, 1, none⟩) h.1).trans h.2.2.2.2.2.1, (k.frozen (p := ⟨b, 2, none⟩) h.1).trans h.2.2.2.2.2.2⟩
theorem Dt.alloc {w : World} {b : Nat} {y m d : Int} (h : Dt w b y m d) (o : Obj) : Dt (w.alloc o) b y m d := h.below (balloc (brefl w) o)
theorem Dt.drewN {w : World} {b : Nat} {y m d : Int} (h : Dt w b y m d) (n : Nat) : Dt (w.drewN n) b y m d := h.below (bdrew (brefl w) n)
theorem Dt.new (w : World) (y m d : Int) : Dt (w.alloc (.cells #[.int .i64 y, .int .i64 m, .int .i64 d] 51)) w.heap.size y m d :=
  ⟨by simp, by simp [go_sem], by simp [go_sem], by simp [go_sem], by simp [go_sem], by simp [go_sem], by simp [go_sem]⟩
theorem Dt.new1 (w : World) (o : Obj) (y m d : Int) : Dt ((w.alloc o).alloc (.cells #[.int .i64 y, .int .i64 m, .int .i64 d] 51)) (w.heap.size + 1) y m d := by
  have h := Dt.new (w.alloc o) y m d
  rwa [show (w.alloc o).heap.size = w.heap.size + 1 from by simp] at h
theorem ret_t2 {k : IntKind} {a b : Int} {v : Value} (h : a = b) : Ending.returned (.tuple #[.int k a, v]) = .returned (.tuple #[.int k b, v]) := by rw [h]

set_option maxRecDepth 100000 in
set_option maxHeartbeats 1000000 in
theorem Number_bad (y m d : Int) (w : World) (h : ¬ ok y m d) :
    Calls Tryz.prog 54 #[.agg #[.int .i64 y, .int .i64 m, .int .i64 d]] w fun e w' => e = .returned (.tuple #[.int .i64 0, .int .i64 3]) ∧ Below w.heap.size w w' := by
  have HA := Lib.hid h
  clear h
  go_enter Tryz.func54, Tryz.ntmps54
  go_wp2_with fail
  refine (isDate_no _ _ _ _ HA.out).mono ?_
  rintro e w1 ⟨rfl, hb⟩
  have HB := Lib.hid (bstep (balloc (brefl w) _) hb)
  clear hb
  go_wp2_with fail
  go_ret2
  exact ⟨rfl, HB.out⟩

set_option maxRecDepth 100000 in
set_option maxHeartbeats 1000000 in
theorem Number_ok (y m d : Int) (w : World) (h : ok y m d) :
    Calls Tryz.prog 54 #[.agg #[.int .i64 y, .int .i64 m, .int .i64 d]] w fun e w' => e = .returned (.tuple #[.int .i64 (num y m d), .int .i64 0]) ∧ Below w.heap.size w w' := by
  have HA := Lib.hid h
  have HN : Hid (num y m d = ny y + ms y (m - 1).toNat + d - 1) := Lib.hid rfl
  have HL := len_bd y m
  have HY := ny_bd h.1 (by have := h.2.1; omega)
  obtain ⟨h1, h2, h3, h4, h5, h6⟩ := h
  have h7 : d ≤ 31 := by omega
  have h8 : ny y ≤ 2958464 := HY.2
  have h9 : 0 ≤ ny y := by omega
  clear h6 HL HY
  go_enter Tryz.func54, Tryz.ntmps54
  go_wp2_with fail
  refine (isDate_yes _ _ _ _ HA.out).mono ?_
  rintro e w1 ⟨rfl, hb⟩
  have A := Lib.hid ((Dt.new w y m d).below hb)
  have HB := Lib.hid (bstep (balloc (brefl w) _) hb)
  clear hb
  obtain ⟨a1, a2, a3, a4, a5, a6, a7⟩ := A.out
  clear a1 a5 a6 a7
  go_wp2_with fail
  refine (newYear_c y _ h1 (by omega)).mono ?_
  rintro e w' ⟨rfl, rfl⟩
  go_wp2_with fail
  go_loop [4, 5] (fun s i => ∃ k : Nat, (k : Int) + 1 ≤ m ∧ i = .int .i64 ((k : Int) + 1) ∧ s = .int .i64 (ny y + ms y k)) (fun _ i => 12 - (intOf i).toNat)
  case atStart => exact ⟨0, by omega, rfl, by simp [ms]⟩
  case round =>
    obtain ⟨k, hk, rfl, rfl⟩ := hrel
    have S := Lib.hid (ms_succ y k)
    have B := ms_bd y (k := k) (by omega)
    have B' := len_bd y ((k : Int) + 1)
    have R := Lib.hid (monthLength_c y ((k : Int) + 1))
    by_cases c : (k : Int) + 1 < m
    · have e0 : decide ((k : Int) + 1 < m) = true := decide_eq_true c
      generalize len y ((k : Int) + 1) = l at *
      generalize ms y k = s at *
      generalize ny y = n0 at *
      obtain ⟨B1, B2⟩ := B
      obtain ⟨B3, B4⟩ := B'
      go_wp2_with fail
      refine (R.out _).mono ?_
      rintro e w' ⟨rfl, rfl⟩
      go_wp2_with fail
      go_round
      case rel => exact ⟨k + 1, by omega, by go_num, by rw [S.out]; congr 1; omega⟩
      case measure => simp [intOf]; omega
    · have e0 : decide ((k : Int) + 1 < m) = false := decide_eq_false c
      have HE : Hid (num y m d = ny y + ms y k + d - 1) := by rw [show k = (m - 1).toNat from by omega]; exact HN
      clear HN S R
      generalize ms y k = s at *
      generalize ny y = n0 at *
      obtain ⟨B1, B2⟩ := B
      obtain ⟨B3, B4⟩ := B'
      go_wp2_with fail
      go_ret2
      exact ⟨ret_t2 (by have := HE.out; omega), HB.out⟩

set_option maxRecDepth 100000 in
set_option maxHeartbeats 1000000 in
theorem rNumber_bad (y m d : Int) (w : World) (h : ¬ ok y m d) :
    Calls Tryz.prog 32 #[.agg #[.int .i64 y, .int .i64 m, .int .i64 d]] w fun e w' => e = .returned (.tuple #[.int .i64 0, .int .i64 3]) ∧ Below w.heap.size w w' := by
  have HA := Lib.hid h
  clear h
  go_enter Tryz.func32, Tryz.ntmps32
  go_wp2_with fail
  refine (rIs_no _ _ _ _ HA.out).mono ?_
  rintro e w1 ⟨rfl, hb⟩
  have HB := Lib.hid (bstep (balloc (brefl w) _) hb)
  clear hb
  go_wp2_with fail
  go_ret2
  exact ⟨rfl, HB.out⟩

set_option maxRecDepth 100000 in
set_option maxHeartbeats 1000000 in
theorem rNumber_ok (y m d : Int) (w : World) (h : ok y m d) :
    Calls Tryz.prog 32 #[.agg #[.int .i64 y, .int .i64 m, .int .i64 d]] w fun e w' => e = .returned (.tuple #[.int .i64 (num y m d), .int .i64 0]) ∧ Below w.heap.size w w' := by
  have HA := Lib.hid h
  have HN : Hid (num y m d = ny y + ms y (m - 1).toNat + d - 1) := Lib.hid rfl
  have HL := len_bd y m
  have HY := ny_bd h.1 (by have := h.2.1; omega)
  obtain ⟨h1, h2, h3, h4, h5, h6⟩ := h
  have h7 : d ≤ 31 := by omega
  have h8 : ny y ≤ 2958464 := HY.2
  have h9 : 0 ≤ ny y := by omega
  clear h6 HL HY
  go_enter Tryz.func32, Tryz.ntmps32
  go_wp2_with fail
  refine (rIs_yes _ _ _ _ HA.out).mono ?_
  rintro e w1 ⟨rfl, hb⟩
  have A := Lib.hid ((Dt.new w y m d).below hb)
  have HB := Lib.hid (bstep (balloc (brefl w) _) hb)
  clear hb
  obtain ⟨a1, a2, a3, a4, a5, a6, a7⟩ := A.out
  clear a1 a5 a6 a7
  go_wp2_with fail
  go_loop [4, 5] (fun s i => ∃ z : Int, 1900 ≤ z ∧ z ≤ y ∧ i = .int .i64 z ∧ s = .int .i64 (d - 1 + ny z)) (fun _ i => 10000 - (intOf i).toNat)
  case atStart => exact ⟨1900, by omega, by omega, rfl, by rw [ny_first]; simp⟩
  case round =>
    obtain ⟨z, hz1, hz2, rfl, rfl⟩ := hrel
    have S := Lib.hid (ny_succ z)
    have B := ny_bd hz1 (by omega)
    have B' := yl_bd z
    have R := Lib.hid (ryear_c z)
    generalize yl z = l at *
    obtain ⟨B1, B2⟩ := B
    obtain ⟨B3, B4⟩ := B'
    by_cases c : z < y
    · have e0 : decide (z < y) = true := decide_eq_true c
      generalize ny z = s at *
      have B5 : 0 ≤ s := by omega
      clear B1
      go_wp2_with fail
      refine (R.out _).mono ?_
      rintro e w' ⟨rfl, rfl⟩
      go_wp2_with fail
      go_round
      case rel => exact ⟨z + 1, by omega, by omega, by go_num, by rw [S.out]; congr 1; omega⟩
      case measure => simp [intOf]; omega
    · have e0 : decide (z < y) = false := decide_eq_false c
      obtain rfl : y = z := by omega
      clear S R B3 B4
      go_wp2_with fail
      go_loop [4, 6] (fun s i => ∃ k : Nat, (k : Int) + 1 ≤ m ∧ i = .int .i64 ((k : Int) + 1) ∧ s = .int .i64 ((d - 1 + ny y) + ms y k)) (fun _ i => 12 - (intOf i).toNat)
      case atStart => exact ⟨0, by omega, rfl, by simp [ms]⟩
      case round =>
        obtain ⟨k, hk, rfl, rfl⟩ := hrel
        have S := Lib.hid (ms_succ y k)
        have B := ms_bd y (k := k) (by omega)
        have B' := len_bd y ((k : Int) + 1)
        have R := Lib.hid (rLength_c y ((k : Int) + 1))
        by_cases c : (k : Int) + 1 < m
        · have e0 : decide ((k : Int) + 1 < m) = true := decide_eq_true c
          generalize len y ((k : Int) + 1) = l at *
          generalize ms y k = s at *
          generalize ny y = n0 at *
          obtain ⟨B1, B2⟩ := B
          obtain ⟨B3, B4⟩ := B'
          go_wp2_with fail
          refine (R.out _).mono ?_
          rintro e w' ⟨rfl, rfl⟩
          go_wp2_with fail
          go_round
          case rel => exact ⟨k + 1, by omega, by go_num, by rw [S.out]; congr 1; omega⟩
          case measure => simp [intOf]; omega
        · have e0 : decide ((k : Int) + 1 < m) = false := decide_eq_false c
          have HE : Hid (num y m d = ny y + ms y k + d - 1) := by rw [show k = (m - 1).toNat from by omega]; exact HN
          clear HN S R
          generalize ms y k = s at *
          generalize ny y = n0 at *
          obtain ⟨B1, B2⟩ := B
          obtain ⟨B3, B4⟩ := B'
          go_wp2_with fail
          go_ret2
          exact ⟨ret_t2 (by have := HE.out; omega), HB.out⟩

end Go.Proofs.YtoecgabdjpgleaaGreatDoor.Cv
