/-
  Contracts of the smallest functions of layer 3: civil.Leap, isFrom, monthLength, newYear, isDate, and sundialref03's Leap, Length, year, Is.
  Conditions: the arguments are of their kinds.
-/
import Derived.Test.YtoecgabdjpgleaaGreatDoorChecked
import Derived.Test.YtoecgabdjpgleaaGreatDoorCvM
import Derived.WalkLawsBesides
import Derived.Lib.Hide
import Derived.BigQuiet
namespace Go.Proofs.YtoecgabdjpgleaaGreatDoor.Cv
open Go.RowKit Go.Lib
set_option linter.unusedVariables false

theorem tm0 (y k : Int) : y.tmod k = 0 ↔ y % k = 0 := ⟨fun h => Int.emod_eq_zero_of_dvd (Int.dvd_of_tmod_eq_zero h), fun h => Int.tmod_eq_zero_of_dvd (Int.dvd_of_emod_eq_zero h)⟩
theorem ret_b {a b : Bool} (h : a = b) : Ending.returned (.bool a) = .returned (.bool b) := by rw [h]
theorem ret_i {k : IntKind} {a b : Int} (h : a = b) : Ending.returned (.int k a) = .returned (.int k b) := by rw [h]

theorem brefl (w : World) : Below w.heap.size w w := Below.refl _ _
theorem balloc {w w' : World} (h : Below w.heap.size w w') (o : Obj) : Below w.heap.size w (w'.alloc o) := h.alloc h.size o
theorem bdrew {a b : World} (h : Below a.heap.size a b) (n : Nat) : Below a.heap.size a (b.drewN n) := h.trans ⟨rfl, rfl, rfl, Nat.le_refl _, fun _ _ => rfl⟩
theorem bcell {W w1 : World} (hb : Below W.heap.size W w1) : (∀ b o, b < W.heap.size → w1.cell? ⟨b, o, none⟩ = W.cell? ⟨b, o, none⟩) ∧ (∀ b o, b < W.heap.size → w1.frozen? ⟨b, o, none⟩ = W.frozen? ⟨b, o, none⟩) :=
  ⟨fun b o h => hb.cell (p := ⟨b, o, none⟩) h, fun b o h => hb.frozen (p := ⟨b, o, none⟩) h⟩
theorem leap_t (y : Int) : leap y = decide (y.tmod 4 = 0 ∧ (y.tmod 100 ≠ 0 ∨ y.tmod 400 = 0)) := by unfold leap; simp only [ne_eq, tm0]
theorem leap_four (y : Int) : y.tmod 400 = 0 → y.tmod 4 = 0 := by rw [tm0, tm0]; omega
theorem bstep {w w1 w2 : World} (h : Below w.heap.size w w1) (h' : Below w1.heap.size w1 w2) : Below w.heap.size w w2 := h.trans (h'.mono h.size)

theorem Leap_c (y : Int) (w : World) :
    Calls Tryz.prog 112 #[.int .i64 y] w fun e w' => e = .returned (.bool (leap y)) ∧ w' = w := by
  go_enter Tryz.func112, Tryz.ntmps112
  go_wp2
  all_goals
    go_ret
    refine ⟨ret_b ?_, rfl⟩
    rw [leap_t]
    by_cases c : y.tmod 400 = 0 <;> simp [*]

theorem rLeap_c (y : Int) (w : World) :
    Calls Tryz.prog 88 #[.int .i64 y] w fun e w' => e = .returned (.bool (leap y)) ∧ w' = w := by
  go_enter Tryz.func88, Tryz.ntmps88
  go_wp2
  all_goals
    go_ret
    refine ⟨ret_b ?_, rfl⟩
    have := leap_four y
    rw [leap_t]
    by_cases c : y.tmod 100 = 0 <;> simp_all

theorem isFrom_yes (a x b : Int) (w : World) (h1 : a ≤ x) (h2 : x ≤ b) :
    Calls Tryz.prog 107 #[.int .i64 a, .int .i64 x, .int .i64 b] w fun e w' => e = .returned (.bool true) ∧ w' = w := by
  go_enter Tryz.func107, Tryz.ntmps107
  go_wp2
  go_ret
  exact ⟨rfl, rfl⟩
theorem isFrom_no (a x b : Int) (w : World) (h : ¬ (a ≤ x ∧ x ≤ b)) :
    Calls Tryz.prog 107 #[.int .i64 a, .int .i64 x, .int .i64 b] w fun e w' => e = .returned (.bool false) ∧ w' = w := by
  by_cases c : a ≤ x
  · have d : ¬ x ≤ b := fun e => h ⟨c, e⟩
    clear h
    go_enter Tryz.func107, Tryz.ntmps107
    go_wp2
    go_ret
    exact ⟨rfl, rfl⟩
  · clear h
    go_enter Tryz.func107, Tryz.ntmps107
    go_wp2
    go_ret
    exact ⟨rfl, rfl⟩

theorem monthLength_c (y m : Int) (w : World) :
    Calls Tryz.prog 86 #[.int .i64 y, .int .i64 m] w fun e w' => e = .returned (.int .i64 (len y m)) ∧ w' = w := by
  go_enter Tryz.func86, Tryz.ntmps86
  go_wp2_with (go_at_call 112; refine (Leap_c y _).mono ?_; rintro e w' ⟨rfl, rfl⟩)
  all_goals
    go_ret
    refine ⟨ret_i ?_, rfl⟩
    unfold len
    (repeat' split) <;> simp_all

theorem rLength_c (y m : Int) (w : World) :
    Calls Tryz.prog 61 #[.int .i64 y, .int .i64 m] w fun e w' => e = .returned (.int .i64 (len y m)) ∧ w' = w := by
  go_enter Tryz.func61, Tryz.ntmps61
  go_wp2_with (go_at_call 88; refine (rLeap_c y _).mono ?_; rintro e w' ⟨rfl, rfl⟩)
  all_goals
    go_ret
    refine ⟨ret_i ?_, rfl⟩
    unfold len
    (repeat' split) <;> simp_all

theorem ryear_c (y : Int) (w : World) :
    Calls Tryz.prog 60 #[.int .i64 y] w fun e w' => e = .returned (.int .i64 (yl y)) ∧ w' = w := by
  go_enter Tryz.func60, Tryz.ntmps60
  go_wp2_with (go_at_call 88; refine (rLeap_c y _).mono ?_; rintro e w' ⟨rfl, rfl⟩)
  all_goals
    go_ret
    refine ⟨ret_i ?_, rfl⟩
    unfold yl
    simp [*]

theorem newYear_c (y : Int) (w : World) (h1 : 1900 ≤ y) (h2 : y ≤ 20000) :
    Calls Tryz.prog 85 #[.int .i64 y] w fun e w' => e = .returned (.int .i64 (ny y)) ∧ w' = w := by
  have a : (y - 1).tdiv 4 = (y - 1) / 4 := Int.tdiv_eq_ediv_of_nonneg (by omega)
  have b : (y - 1).tdiv 100 = (y - 1) / 100 := Int.tdiv_eq_ediv_of_nonneg (by omega)
  have c : (y - 1).tdiv 400 = (y - 1) / 400 := Int.tdiv_eq_ediv_of_nonneg (by omega)
  go_enter Tryz.func85, Tryz.ntmps85
  go_wp2
  go_ret
  refine ⟨ret_i ?_, rfl⟩
  unfold ny
  omega

theorem isDate_yes (y m d : Int) (w : World) (h : ok y m d) :
    Calls Tryz.prog 84 #[.agg #[.int .i64 y, .int .i64 m, .int .i64 d]] w fun e w' => e = .returned (.bool true) ∧ Below w.heap.size w w' := by
  obtain ⟨h1, h2, h3, h4, h5, h6⟩ := h
  have H := Lib.hid (And.intro h5 h6)
  clear h5 h6
  go_enter Tryz.func84, Tryz.ntmps84
  go_wp2_with fail
  go_quiet (first | (go_at_call 107; first | with_reducible exact Calls.quiet_of_same (isFrom_yes 1900 y 9999 _ h1 h2) | with_reducible exact Calls.quiet_of_same (isFrom_yes 1 m 12 _ h3 h4) | with_reducible exact Calls.quiet_of_same (isFrom_yes 1 d (len y m) _ H.out.1 H.out.2)) | (go_at_call 86; with_reducible exact Calls.quiet_of_same (monthLength_c y m _)))
  go_wp2_with fail
  go_ret
  exact ⟨rfl, bdrew (balloc (brefl w) _) _⟩

theorem isDate_no (y m d : Int) (w : World) (h : ¬ ok y m d) :
    Calls Tryz.prog 84 #[.agg #[.int .i64 y, .int .i64 m, .int .i64 d]] w fun e w' => e = .returned (.bool false) ∧ Below w.heap.size w w' := by
  by_cases c1 : 1900 ≤ y ∧ y ≤ 9999
  · obtain ⟨h1, h2⟩ := c1
    by_cases c2 : 1 ≤ m ∧ m ≤ 12
    · obtain ⟨h3, h4⟩ := c2
      have H : Hid (¬ (1 ≤ d ∧ d ≤ len y m)) := Lib.hid (fun e => h ⟨h1, h2, h3, h4, e.1, e.2⟩)
      clear h
      go_enter Tryz.func84, Tryz.ntmps84
      go_wp2_with fail
      go_quiet (first | (go_at_call 107; first | with_reducible exact Calls.quiet_of_same (isFrom_yes 1900 y 9999 _ h1 h2) | with_reducible exact Calls.quiet_of_same (isFrom_yes 1 m 12 _ h3 h4) | with_reducible exact Calls.quiet_of_same (isFrom_no 1 d (len y m) _ H.out)) | (go_at_call 86; with_reducible exact Calls.quiet_of_same (monthLength_c y m _)))
      go_wp2_with fail
      go_ret
      exact ⟨rfl, bdrew (balloc (brefl w) _) _⟩
    · have H := Lib.hid c2
      clear h c2
      go_enter Tryz.func84, Tryz.ntmps84
      go_wp2_with fail
      go_quiet (first | (go_at_call 107; first | with_reducible exact Calls.quiet_of_same (isFrom_yes 1900 y 9999 _ h1 h2) | with_reducible exact Calls.quiet_of_same (isFrom_no 1 m 12 _ H.out)) | (go_at_call 86; with_reducible exact Calls.quiet_of_same (monthLength_c y m _)))
      go_wp2_with fail
      go_ret
      exact ⟨rfl, bdrew (balloc (brefl w) _) _⟩
  · have H := Lib.hid c1
    clear h c1
    go_enter Tryz.func84, Tryz.ntmps84
    go_wp2_with fail
    go_quiet (first | (go_at_call 107; first | with_reducible exact Calls.quiet_of_same (isFrom_no 1900 y 9999 _ H.out)) | (go_at_call 86; with_reducible exact Calls.quiet_of_same (monthLength_c y m _)))
    go_wp2_with fail
    go_ret
    exact ⟨rfl, bdrew (balloc (brefl w) _) _⟩

theorem rIs_yes (y m d : Int) (w : World) (h : ok y m d) :
    Calls Tryz.prog 59 #[.agg #[.int .i64 y, .int .i64 m, .int .i64 d]] w fun e w' => e = .returned (.bool true) ∧ Below w.heap.size w w' := by
  obtain ⟨h1, h2, h3, h4, h5, h6⟩ := h
  generalize hl : len y m = l at *
  have H : Hid (∀ w, Calls Tryz.prog 61 #[.int .i64 y, .int .i64 m] w fun e w' => e = .returned (.int .i64 l) ∧ w' = w) := Lib.hid (fun w => hl ▸ rLength_c y m w)
  clear hl
  go_enter Tryz.func59, Tryz.ntmps59
  go_wp2_with fail
  go_quiet ((go_at_call 61; with_reducible exact Calls.quiet_of_same (H.out _)))
  go_wp2_with fail
  go_ret
  exact ⟨rfl, bdrew (balloc (brefl w) _) _⟩

theorem rIs_no (y m d : Int) (w : World) (h : ¬ ok y m d) :
    Calls Tryz.prog 59 #[.agg #[.int .i64 y, .int .i64 m, .int .i64 d]] w fun e w' => e = .returned (.bool false) ∧ Below w.heap.size w w' := by
  unfold ok at h
  by_cases c1 : 1900 ≤ y
  · by_cases c2 : y ≤ 9999
    · by_cases c3 : 1 ≤ m
      · by_cases c4 : m ≤ 12
        · by_cases c5 : 1 ≤ d
          · generalize hl : len y m = l at *
            have H : Hid (∀ w, Calls Tryz.prog 61 #[.int .i64 y, .int .i64 m] w fun e w' => e = .returned (.int .i64 l) ∧ w' = w) := Lib.hid (fun w => hl ▸ rLength_c y m w)
            clear hl
            have e0 : decide (d ≤ l) = false := by rw [decide_eq_false_iff_not]; omega
            clear h
            go_enter Tryz.func59, Tryz.ntmps59
            go_wp2_with fail
            go_quiet ((go_at_call 61; with_reducible exact Calls.quiet_of_same (H.out _)))
            go_wp2_with fail
            go_ret
            exact ⟨rfl, bdrew (balloc (brefl w) _) _⟩
          · have e0 : decide (1 ≤ d) = false := by rw [decide_eq_false_iff_not]; omega
            clear h
            go_enter Tryz.func59, Tryz.ntmps59
            go_wp2_with fail
            go_quiet (fail)
            go_wp2_with fail
            go_ret
            exact ⟨rfl, bdrew (balloc (brefl w) _) _⟩
        · have e0 : decide (m ≤ 12) = false := by rw [decide_eq_false_iff_not]; omega
          clear h
          go_enter Tryz.func59, Tryz.ntmps59
          go_wp2_with fail
          go_quiet (fail)
          go_wp2_with fail
          go_ret
          exact ⟨rfl, bdrew (balloc (brefl w) _) _⟩
      · have e0 : decide (1 ≤ m) = false := by rw [decide_eq_false_iff_not]; omega
        clear h
        go_enter Tryz.func59, Tryz.ntmps59
        go_wp2_with fail
        go_quiet (fail)
        go_wp2_with fail
        go_ret
        exact ⟨rfl, bdrew (balloc (brefl w) _) _⟩
    · have e0 : decide (y ≤ 9999) = false := by rw [decide_eq_false_iff_not]; omega
      clear h
      go_enter Tryz.func59, Tryz.ntmps59
      go_wp2_with fail
      go_quiet (fail)
      go_wp2_with fail
      go_ret
      exact ⟨rfl, bdrew (balloc (brefl w) _) _⟩
  · have e0 : decide (1900 ≤ y) = false := by rw [decide_eq_false_iff_not]; omega
    clear h
    go_enter Tryz.func59, Tryz.ntmps59
    go_wp2_with fail
    go_quiet (fail)
    go_wp2_with fail
    go_ret
    exact ⟨rfl, bdrew (balloc (brefl w) _) _⟩
end Go.Proofs.YtoecgabdjpgleaaGreatDoor.Cv
