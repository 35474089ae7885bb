/-
  Contracts of Day, of civil and of sundialref03: the date that has a number; else ErrRange.
  Conditions: the arguments are of their kinds.
-/
import Derived.Test.YtoecgabdjpgleaaGreatDoorCvB
namespace Go.Proofs.YtoecgabdjpgleaaGreatDoor.Cv
open Go.RowKit Go.Lib
set_option linter.unusedVariables false
set_option linter.unusedSimpArgs false

theorem ny_ge {y : Int} (h : 1900 ≤ y) : 365 * (y - 1900) ≤ ny y := by unfold ny; omega
theorem ny_up {y : Int} (h : 1900 ≤ y) (h' : y ≤ 20000) : 0 ≤ ny y ∧ ny y ≤ 7305000 := by unfold ny; omega
theorem ny_last : ny 10000 = 2958464 := by decide
theorem year_in {n y : Int} (h : n ≤ 2958463) (k : ny y ≤ n) : y ≤ 9999 := by
  by_cases c : 10000 ≤ y
  · have := ny_le c
    rw [ny_last] at this
    omega
  · omega
theorem year_down {n y : Int} (h : 0 ≤ n) (hy : 1900 ≤ y) (k : n < ny y) : 1900 ≤ y - 1 := by
  by_cases c : y = 1900
  · subst c; rw [ny_first] at k; omega
  · omega
theorem Dt.set0 {w : World} {b : Nat} {y m d : Int} (h : Dt w b y m d) (z : Int) : Dt (w.setCell ⟨b, 0, none⟩ (.int .i64 z)) b z m d := by
  obtain ⟨h0, h1, h2, h3, h4, h5, h6⟩ := h
  exact ⟨by simpa [World.setCell] using h0, World.cell?_setCell_same _ _ _ h1, (World.cell?_setCell_other _ _ _ _ (by simp)).trans h2, (World.cell?_setCell_other _ _ _ _ (by simp)).trans h3, by simpa [go_sem] using h4, by simpa [go_sem] using h5, by simpa [go_sem] using h6⟩
theorem Dt.set1 {w : World} {b : Nat} {y m d : Int} (h : Dt w b y m d) (z : Int) : Dt (w.setCell ⟨b, 1, none⟩ (.int .i64 z)) b y z d := by
  obtain ⟨h0, h1, h2, h3, h4, h5, h6⟩ := h
  exact ⟨by simpa [World.setCell] using h0, (World.cell?_setCell_other _ _ _ _ (by simp)).trans h1, World.cell?_setCell_same _ _ _ h2, (World.cell?_setCell_other _ _ _ _ (by simp)).trans h3, by simpa [go_sem] using h4, by simpa [go_sem] using h5, by simpa [go_sem] using h6⟩
theorem Dt.setx {w : World} {b : Nat} {y m d : Int} (h : Dt w b y m d) (c o : Nat) (v : Value) (hc : c ≠ b) : Dt (w.setCell ⟨c, o, none⟩ v) b y m d := by
  obtain ⟨h0, h1, h2, h3, h4, h5, h6⟩ := h
  have hc' : b ≠ c := fun e => hc e.symm
  exact ⟨by simpa [World.setCell] using h0, (World.cell?_setCell_other _ _ _ _ (by simp [hc, hc'])).trans h1, (World.cell?_setCell_other _ _ _ _ (by simp [hc, hc'])).trans h2, (World.cell?_setCell_other _ _ _ _ (by simp [hc, hc'])).trans h3, by simpa [go_sem] using h4, by simpa [go_sem] using h5, by simpa [go_sem] using h6⟩

set_option maxRecDepth 100000 in
set_option maxHeartbeats 1000000 in
theorem Day_bad (n : Int) (w : World) (h : ¬ (0 ≤ n ∧ n ≤ 2958463)) :
    Calls Tryz.prog 55 #[.int .i64 n] w fun e w' => e = .returned (.tuple #[.agg #[.int .i64 0, .int .i64 0, .int .i64 0], .int .i64 2]) ∧ Below w.heap.size w w' := by
  by_cases c : n < 0
  · have e0 : decide (n < 0) = true := decide_eq_true c
    clear h
    go_enter Tryz.func55, Tryz.ntmps55
    go_wp2_with fail
    exact bodyPost_ret (v := .tuple #[.agg #[.int .i64 0, .int .i64 0, .int .i64 0], .int .i64 2]) (by simp [results, Tryz.results55, go_sem]) rfl ⟨rfl, by repeat (first | exact HB.out | exact brefl _ | refine balloc ?_ _ | refine bdrew ?_ _ | refine Below.setCell ?_ (by first | (simp; done) | (simp; omega)) _)⟩
  · have e0 : decide (n < 0) = false := decide_eq_false c
    have e1 : decide (2958463 < n) = true := by rw [decide_eq_true_iff]; omega
    have e2 : decide (2958464 ≤ n) = true := by rw [decide_eq_true_iff]; omega
    clear h
    go_enter Tryz.func55, Tryz.ntmps55
    go_wp2_with fail
    exact bodyPost_ret (v := .tuple #[.agg #[.int .i64 0, .int .i64 0, .int .i64 0], .int .i64 2]) (by simp [results, Tryz.results55, go_sem]) rfl ⟨rfl, by repeat (first | exact HB.out | exact brefl _ | refine balloc ?_ _ | refine bdrew ?_ _ | refine Below.setCell ?_ (by first | (simp; done) | (simp; omega)) _)⟩

set_option maxRecDepth 100000 in
set_option maxHeartbeats 2000000 in
theorem Day_ok (n : Int) (w : World) (h1 : 0 ≤ n) (h2 : n ≤ 2958463) :
    Calls Tryz.prog 55 #[.int .i64 n] w fun e w' => (∃ y m d, isDay n y m d ∧ e = .returned (.tuple #[.agg #[.int .i64 y, .int .i64 m, .int .i64 d], .int .i64 0])) ∧ Below w.heap.size w w' := by
  have q : n.tdiv 365 = n / 365 := Int.tdiv_eq_ediv_of_nonneg h1
  go_enter Tryz.func55, Tryz.ntmps55
  go_wp2_with fail
  go_loop [4] (fun s => ∃ y : Int, 1900 ≤ y ∧ y ≤ 10005 ∧ n < ny (y + 1) ∧ s = .int .i64 y) (fun s => (intOf s).toNat)
  case atStart => exact ⟨1900 + n / 365, by omega, by omega, by have := ny_ge (y := 1900 + n / 365 + 1) (by omega); omega, rfl⟩
  case round =>
    obtain ⟨y, hy1, hy2, hy3, rfl⟩ := hrel
    have Y3 := Lib.hid hy3
    have Q := Lib.hid (newYear_c y)
    have B := ny_up hy1 (by omega)
    have D := Lib.hid (year_down h1 hy1)
    have U := Lib.hid (year_in h2 (y := y))
    have M := Lib.hid (fun k : Nat => ms_bd y (k := k))
    clear hy3 q
    go_wp2_with fail
    refine (Q.out _ hy1 (by omega)).mono ?_
    rintro e w' ⟨rfl, rfl⟩
    by_cases c : n < ny y
    · have e0 : decide (n < ny y) = true := decide_eq_true c
      have d1 := D.out c
      have d2 : Hid (n < ny (y - 1 + 1)) := by rw [show y - 1 + 1 = y from by omega]; exact c
      clear M U D
      generalize ny y = a at *
      go_wp2_with fail
      go_round
      case rel => exact ⟨y - 1, by omega, by omega, d2.out, rfl⟩
      case measure => simp [intOf]; omega
    · have e0 : decide (n < ny y) = false := decide_eq_false c
      have d1 := U.out (by omega)
      clear D U
      go_wp2_with fail
      refine (Q.out _ hy1 (by omega)).mono ?_
      rintro e w' ⟨rfl, rfl⟩
      have K := Lib.hid (fun (k : Nat) (l : Int) => @day_of n y k l hy1 d1)
      have K2 := Lib.hid (fun (k : Nat) (l : Int) => @month_on y l n k)
      generalize ny y = a at *
      obtain ⟨B1, B2⟩ := B
      go_wp2_with fail
      go_loop [5, 6] (fun i s => ∃ (k : Nat) (l : Int), k < 12 ∧ 0 ≤ l ∧ l ≤ 2958463 ∧ n = a + ms y k + l ∧ i = .int .i64 ((k : Int) + 1) ∧ s = .int .i64 l) (fun i _ => 12 - (intOf i).toNat)
      case atStart => exact ⟨0, n - a, by omega, by omega, by omega, by simp [ms]; omega, rfl, rfl⟩
      case round =>
        obtain ⟨k, l, hk, hl, hl', hn, rfl, rfl⟩ := hrel
        have HN := Lib.hid hn
        have L := len_bd y ((k : Int) + 1)
        have Z := Lib.hid (monthLength_c y ((k : Int) + 1))
        have K := Lib.hid (K.out k l hk hl)
        have K2 := Lib.hid (K2.out k l hk HN.out Y3.out)
        clear hn
        go_wp2_with fail
        refine (Z.out _).mono ?_
        rintro e w' ⟨rfl, rfl⟩
        by_cases c : len y ((k : Int) + 1) ≤ l
        · have e1 : decide (len y ((k : Int) + 1) ≤ l) = true := decide_eq_true c
          have k2 := Lib.hid (K2.out c)
          clear K K2
          generalize len y ((k : Int) + 1) = j at *
          obtain ⟨L1, L2⟩ := L
          go_wp2_with fail
          refine (Z.out _).mono ?_
          rintro e w' ⟨rfl, rfl⟩
          go_wp2_with fail
          go_round
          case rel => exact ⟨k + 1, l - j, k2.out.1, by omega, by omega, k2.out.2, by go_num, rfl⟩
          case measure => have := k2.out.1; simp [intOf]; omega
        · have e1 : decide (len y ((k : Int) + 1) ≤ l) = false := decide_eq_false c
          have k2 := Lib.hid (K.out (by omega) HN.out)
          clear K K2
          generalize len y ((k : Int) + 1) = j at *
          go_wp2_with fail
          exact bodyPost_ret (v := .tuple #[.agg #[.int .i64 y, .int .i64 ((k : Int) + 1), .int .i64 (l + 1)], .int .i64 0]) (by simp [results, Tryz.results55, go_sem]) rfl ⟨⟨y, k + 1, l + 1, k2.out, rfl⟩, by repeat (first | exact HB.out | exact brefl _ | refine balloc ?_ _ | refine bdrew ?_ _ | refine Below.setCell ?_ (by first | (simp; done) | (simp; omega)) _)⟩

set_option maxRecDepth 100000 in
set_option maxHeartbeats 1000000 in
theorem rDay_bad (n : Int) (w : World) (h : ¬ (0 ≤ n ∧ n ≤ 2958463)) :
    Calls Tryz.prog 33 #[.int .i64 n] w fun e w' => e = .returned (.tuple #[.agg #[.int .i64 0, .int .i64 0, .int .i64 0], .int .i64 2]) ∧ Below w.heap.size w w' := by
  by_cases c : n < 0
  · have e0 : decide (n < 0) = true := decide_eq_true c
    clear h
    go_enter Tryz.func33, Tryz.ntmps33
    go_wp2_with fail
    exact bodyPost_ret (v := .tuple #[.agg #[.int .i64 0, .int .i64 0, .int .i64 0], .int .i64 2]) (by simp [results, Tryz.results33, go_sem]) rfl ⟨rfl, by repeat (first | exact HB.out | exact brefl _ | refine balloc ?_ _ | refine bdrew ?_ _ | refine Below.setCell ?_ (by first | (simp; done) | (simp; omega)) _)⟩
  · have e0 : decide (n < 0) = false := decide_eq_false c
    have e1 : decide (2958463 < n) = true := by rw [decide_eq_true_iff]; omega
    have e2 : decide (2958464 ≤ n) = true := by rw [decide_eq_true_iff]; omega
    clear h
    go_enter Tryz.func33, Tryz.ntmps33
    go_wp2_with fail
    exact bodyPost_ret (v := .tuple #[.agg #[.int .i64 0, .int .i64 0, .int .i64 0], .int .i64 2]) (by simp [results, Tryz.results33, go_sem]) rfl ⟨rfl, by repeat (first | exact HB.out | exact brefl _ | refine balloc ?_ _ | refine bdrew ?_ _ | refine Below.setCell ?_ (by first | (simp; done) | (simp; omega)) _)⟩

set_option maxRecDepth 100000 in
set_option maxHeartbeats 2000000 in
theorem rDay_ok (n : Int) (w : World) (h1 : 0 ≤ n) (h2 : n ≤ 2958463) :
    Calls Tryz.prog 33 #[.int .i64 n] w fun e w' => (∃ y m d, isDay n y m d ∧ e = .returned (.tuple #[.agg #[.int .i64 y, .int .i64 m, .int .i64 d], .int .i64 0])) ∧ Below w.heap.size w w' := by
  have A0 := Lib.hid ((Dt.new w 0 0 0).alloc (.cells #[.int .i64 1900, .int .i64 1, .int .i64 1] 51))
  have A1 := Lib.hid (Dt.new1 w (.cells #[.int .i64 0, .int .i64 0, .int .i64 0] 51) 1900 1 1)
  go_enter Tryz.func33, Tryz.ntmps33
  go_wp2_with fail
  go_loopw [0] (fun s wr => ∃ y l : Int, 1900 ≤ y ∧ y ≤ 9999 ∧ 0 ≤ l ∧ n = ny y + l ∧ s = .int .i64 l ∧ Dt wr w.heap.size 0 0 0 ∧ Dt wr (w.heap.size + 1) y 1 1 ∧ Below w.heap.size w wr) (fun s _ => (intOf s).toNat)
  case atStart => exact ⟨1900, n, by omega, by omega, h1, by rw [ny_first]; omega, rfl, A0.out, A1.out, balloc (balloc (brefl w) _) _⟩
  case round =>
    obtain ⟨y, l, hy1, hy2, hl, hn, rfl, da, db, hb⟩ := hrel
    have HN := Lib.hid hn
    have DA := Lib.hid da
    have DB := Lib.hid db
    have HB := Lib.hid hb
    have Z := Lib.hid (ryear_c y)
    have S := Lib.hid (ny_succ y)
    have L := yl_bd y
    have B := ny_up hy1 (by omega)
    have l2 : l ≤ 2958463 := by omega
    have U := Lib.hid (year_in h2 (y := y + 1))
    clear hn da db hb A0 A1 h1 h2 B
    obtain ⟨b1, b2, b3, b4, b5, b6, b7⟩ := DB.out
    go_wp2_with fail
    refine (Z.out _).mono ?_
    rintro e w' ⟨rfl, rfl⟩
    by_cases c : yl y ≤ l
    · have e0 : decide (yl y ≤ l) = true := decide_eq_true c
      have u := U.out (by rw [S.out]; have := HN.out; omega)
      have v : Hid (n = ny (y + 1) + (l - yl y)) := by rw [S.out]; exact Lib.hid (by have := HN.out; omega)
      clear U S
      generalize yl y = j at *
      obtain ⟨L1, L2⟩ := L
      go_wp2_with fail
      refine (Z.out _).mono ?_
      rintro e w' ⟨rfl, rfl⟩
      go_wp2_with fail
      go_roundw
      case rel => exact ⟨y + 1, l - j, by omega, u, by omega, v.out, rfl, DA.out.setx _ _ _ (by omega), DB.out.set0 _, HB.out.setCell (by simp) _⟩
      case measure => simp [intOf]; omega
    · have e0 : decide (yl y ≤ l) = false := decide_eq_false c
      have v : Hid (n < ny (y + 1)) := by rw [S.out]; exact Lib.hid (by have := HN.out; omega)
      have K := Lib.hid (fun (k : Nat) (l : Int) => @day_of n y k l hy1 hy2)
      have K2 := Lib.hid (fun (k : Nat) (l : Int) => @month_on y l n k)
      clear U S Z L
      generalize yl y = j at *
      go_wp2_with fail
      clear b1 b2 b3 b4 b5 b6 b7
      go_loopw [0] (fun s w2 => ∃ (k : Nat) (l : Int), k < 12 ∧ 0 ≤ l ∧ l ≤ 2958463 ∧ n = ny y + ms y k + l ∧ s = .int .i64 l ∧ Dt w2 w.heap.size 0 0 0 ∧ Dt w2 (w.heap.size + 1) y ((k : Int) + 1) 1 ∧ Below w.heap.size w w2) (fun s _ => (intOf s).toNat)
      case atStart => exact ⟨0, l, by omega, hl, l2, by have := HN.out; simp [ms]; omega, rfl, DA.out, DB.out, HB.out⟩
      case round =>
        clear DA DB HB HN
        obtain ⟨k, l, hk, hl, hl', hn, rfl, da, db, hb⟩ := hrel
        have HN := Lib.hid hn
        have DA := Lib.hid da
        have DB := Lib.hid db
        have HB := Lib.hid hb
        have L := len_bd y ((k : Int) + 1)
        have Z := Lib.hid (rLength_c y ((k : Int) + 1))
        have K := Lib.hid (K.out k l hk hl)
        have K2 := Lib.hid (K2.out k l hk HN.out v.out)
        clear hn da db hb
        obtain ⟨b1, b2, b3, b4, b5, b6, b7⟩ := DB.out
        go_wp2_with fail
        refine (Z.out _).mono ?_
        rintro e w' ⟨rfl, rfl⟩
        by_cases c : len y ((k : Int) + 1) ≤ l
        · have e1 : decide (len y ((k : Int) + 1) ≤ l) = true := decide_eq_true c
          have k2 := Lib.hid (K2.out c)
          clear K K2
          generalize len y ((k : Int) + 1) = j at *
          obtain ⟨L1, L2⟩ := L
          go_wp2_with fail
          refine (Z.out _).mono ?_
          rintro e w' ⟨rfl, rfl⟩
          go_wp2_with fail
          go_roundw
          case rel => exact ⟨k + 1, l - j, k2.out.1, by omega, by omega, k2.out.2, rfl, DA.out.setx _ _ _ (by omega), DB.out.set1 _, HB.out.setCell (by simp) _⟩
          case measure => simp [intOf]; omega
        · have e1 : decide (len y ((k : Int) + 1) ≤ l) = false := decide_eq_false c
          have k2 := Lib.hid (K.out (by omega) HN.out)
          obtain ⟨a1, a2, a3, a4, a5, a6, a7⟩ := DA.out
          clear K K2
          generalize len y ((k : Int) + 1) = j at *
          go_wp2_with fail
          exact bodyPost_ret (v := .tuple #[.agg #[.int .i64 y, .int .i64 ((k : Int) + 1), .int .i64 (l + 1)], .int .i64 0]) (by simp [results, Tryz.results33, go_sem, a2, a3, a4]; omega) rfl ⟨⟨y, k + 1, l + 1, k2.out, rfl⟩, by repeat (first | exact HB.out | exact brefl _ | refine balloc ?_ _ | refine bdrew ?_ _ | refine Below.setCell ?_ (by first | (simp; done) | (simp; omega)) _)⟩
end Go.Proofs.YtoecgabdjpgleaaGreatDoor.Cv
