/-
  Contracts of Show, of civil and of sundialref03: the clockface that shows a time.
  Conditions: the arguments are of their kinds.
-/
import Derived.Test.YtooinoccijfgiaaDoorCvF
namespace Go.Proofs.YtooinoccijfgiaaDoor.Cv
open Go.RowKit
set_option linter.unusedVariables false
set_option linter.unusedSimpArgs false

theorem Fc.set0 {w : World} {b : Nat} {y m d H M S T : Int} (h : Fc w b y m d H M S T) (z : Int) : Fc (w.setCell ⟨b, 0, none⟩ (.int .i64 z)) b z m d H M S T := by
  obtain ⟨h0, h1, h2, h3, h4, h5, h6, h7⟩ := h
  exact ⟨by simpa [World.setCell] using h0, World.cell?_setCell_same _ _ _ h1, (World.cell?_setCell_other _ _ _ _ (by simp)).trans h2, (World.cell?_setCell_other _ _ _ _ (by simp)).trans h3, (World.cell?_setCell_other _ _ _ _ (by simp)).trans h4, (World.cell?_setCell_other _ _ _ _ (by simp)).trans h5, (World.cell?_setCell_other _ _ _ _ (by simp)).trans h6, (World.cell?_setCell_other _ _ _ _ (by simp)).trans h7⟩
theorem Fc.set1 {w : World} {b : Nat} {y m d H M S T : Int} (h : Fc w b y m d H M S T) (z : Int) : Fc (w.setCell ⟨b, 1, none⟩ (.int .i64 z)) b y z d H M S T := by
  obtain ⟨h0, h1, h2, h3, h4, h5, h6, h7⟩ := h
  exact ⟨by simpa [World.setCell] using h0, (World.cell?_setCell_other _ _ _ _ (by simp)).trans h1, World.cell?_setCell_same _ _ _ h2, (World.cell?_setCell_other _ _ _ _ (by simp)).trans h3, (World.cell?_setCell_other _ _ _ _ (by simp)).trans h4, (World.cell?_setCell_other _ _ _ _ (by simp)).trans h5, (World.cell?_setCell_other _ _ _ _ (by simp)).trans h6, (World.cell?_setCell_other _ _ _ _ (by simp)).trans h7⟩
theorem Fc.set2 {w : World} {b : Nat} {y m d H M S T : Int} (h : Fc w b y m d H M S T) (z : Int) : Fc (w.setCell ⟨b, 2, none⟩ (.int .i64 z)) b y m z H M S T := by
  obtain ⟨h0, h1, h2, h3, h4, h5, h6, h7⟩ := h
  exact ⟨by simpa [World.setCell] using h0, (World.cell?_setCell_other _ _ _ _ (by simp)).trans h1, (World.cell?_setCell_other _ _ _ _ (by simp)).trans h2, World.cell?_setCell_same _ _ _ h3, (World.cell?_setCell_other _ _ _ _ (by simp)).trans h4, (World.cell?_setCell_other _ _ _ _ (by simp)).trans h5, (World.cell?_setCell_other _ _ _ _ (by simp)).trans h6, (World.cell?_setCell_other _ _ _ _ (by simp)).trans h7⟩
theorem Fc.set3 {w : World} {b : Nat} {y m d H M S T : Int} (h : Fc w b y m d H M S T) (z : Int) : Fc (w.setCell ⟨b, 3, none⟩ (.int .i64 z)) b y m d z M S T := by
  obtain ⟨h0, h1, h2, h3, h4, h5, h6, h7⟩ := h
  exact ⟨by simpa [World.setCell] using h0, (World.cell?_setCell_other _ _ _ _ (by simp)).trans h1, (World.cell?_setCell_other _ _ _ _ (by simp)).trans h2, (World.cell?_setCell_other _ _ _ _ (by simp)).trans h3, World.cell?_setCell_same _ _ _ h4, (World.cell?_setCell_other _ _ _ _ (by simp)).trans h5, (World.cell?_setCell_other _ _ _ _ (by simp)).trans h6, (World.cell?_setCell_other _ _ _ _ (by simp)).trans h7⟩
theorem Fc.set4 {w : World} {b : Nat} {y m d H M S T : Int} (h : Fc w b y m d H M S T) (z : Int) : Fc (w.setCell ⟨b, 4, none⟩ (.int .i64 z)) b y m d H z S T := by
  obtain ⟨h0, h1, h2, h3, h4, h5, h6, h7⟩ := h
  exact ⟨by simpa [World.setCell] using h0, (World.cell?_setCell_other _ _ _ _ (by simp)).trans h1, (World.cell?_setCell_other _ _ _ _ (by simp)).trans h2, (World.cell?_setCell_other _ _ _ _ (by simp)).trans h3, (World.cell?_setCell_other _ _ _ _ (by simp)).trans h4, World.cell?_setCell_same _ _ _ h5, (World.cell?_setCell_other _ _ _ _ (by simp)).trans h6, (World.cell?_setCell_other _ _ _ _ (by simp)).trans h7⟩
theorem Fc.set5 {w : World} {b : Nat} {y m d H M S T : Int} (h : Fc w b y m d H M S T) (z : Int) : Fc (w.setCell ⟨b, 5, none⟩ (.int .i64 z)) b y m d H M z T := by
  obtain ⟨h0, h1, h2, h3, h4, h5, h6, h7⟩ := h
  exact ⟨by simpa [World.setCell] using h0, (World.cell?_setCell_other _ _ _ _ (by simp)).trans h1, (World.cell?_setCell_other _ _ _ _ (by simp)).trans h2, (World.cell?_setCell_other _ _ _ _ (by simp)).trans h3, (World.cell?_setCell_other _ _ _ _ (by simp)).trans h4, (World.cell?_setCell_other _ _ _ _ (by simp)).trans h5, World.cell?_setCell_same _ _ _ h6, (World.cell?_setCell_other _ _ _ _ (by simp)).trans h7⟩
theorem Fc.set6 {w : World} {b : Nat} {y m d H M S T : Int} (h : Fc w b y m d H M S T) (z : Int) : Fc (w.setCell ⟨b, 6, none⟩ (.int .i64 z)) b y m d H M S z := by
  obtain ⟨h0, h1, h2, h3, h4, h5, h6, h7⟩ := h
  exact ⟨by simpa [World.setCell] using h0, (World.cell?_setCell_other _ _ _ _ (by simp)).trans h1, (World.cell?_setCell_other _ _ _ _ (by simp)).trans h2, (World.cell?_setCell_other _ _ _ _ (by simp)).trans h3, (World.cell?_setCell_other _ _ _ _ (by simp)).trans h4, (World.cell?_setCell_other _ _ _ _ (by simp)).trans h5, (World.cell?_setCell_other _ _ _ _ (by simp)).trans h6, World.cell?_setCell_same _ _ _ h7⟩

set_option maxRecDepth 100000 in
set_option maxHeartbeats 800000 in
theorem Show_neg (t : Int) (w : World) (h : t < 0) :
    Calls Tryd.prog 23 #[.int .i64 t] w fun e w' => e = .returned (.tuple #[.agg #[.int .i64 0, .int .i64 0, .int .i64 0, .int .i64 0, .int .i64 0, .int .i64 0, .int .i64 0], .int .i64 2]) ∧ Below w.heap.size w w' := by
  have e0 : decide (t < 0) = true := decide_eq_true h
  go_enter Tryd.func23, Tryd.ntmps23
  go_wp2_with fail
  exact bodyPost_ret (v := .tuple #[.agg #[.int .i64 0, .int .i64 0, .int .i64 0, .int .i64 0, .int .i64 0, .int .i64 0, .int .i64 0], .int .i64 2]) (by simp [results, Tryd.results23, go_sem]) rfl ⟨rfl, by first | (with_reducible exact balloc (((((((HB.out.setCell (Nat.le_refl _) _).setCell (Nat.le_refl _) _).setCell (Nat.le_refl _) _).setCell (Nat.le_refl _) _).setCell (Nat.le_refl _) _).setCell (Nat.le_refl _) _).setCell (Nat.le_refl _) _) _) | (repeat (first | with_reducible exact HB.out | with_reducible exact brefl _ | with_reducible refine balloc ?_ _ | with_reducible refine bdrew ?_ _ | with_reducible refine Below.setCell ?_ (by first | (simp; done) | (simp; omega)) _))⟩

set_option maxRecDepth 100000 in
set_option maxHeartbeats 800000 in
theorem Show_far (t : Int) (w : World) (h : 268027863603609600 ≤ t) (h' : t ≤ 9223372036854775807) :
    Calls Tryd.prog 23 #[.int .i64 t] w fun e w' => e = .returned (.tuple #[.agg #[.int .i64 0, .int .i64 0, .int .i64 0, .int .i64 0, .int .i64 0, .int .i64 0, .int .i64 0], .int .i64 2]) ∧ Below w.heap.size w w' := by
  have e0 : decide (t < 0) = false := by rw [decide_eq_false_iff_not]; omega
  have q1 : t.tdiv 1048576 = t / 1048576 := Int.tdiv_eq_ediv_of_nonneg (by omega)
  have q2 : (t / 1048576).tdiv 86400 = t / 1048576 / 86400 := Int.tdiv_eq_ediv_of_nonneg (by omega)
  go_enter Tryd.func23, Tryd.ntmps23
  go_wp2_with fail
  refine (Day_bad _ _ (by omega)).mono ?_
  rintro e w1 ⟨rfl, hb⟩
  have A := Lib.hid ((Fc.new w 0 0 0 0 0 0 0).below hb)
  have HB := Lib.hid (bstep (balloc (brefl w) _) hb)
  have FZ := Lib.hid ((bcell hb).2)
  clear hb
  obtain ⟨a0, a1, a2, a3, a4, a5, a6, a7⟩ := A.out
  have z := fun o => (FZ.out w.heap.size o (by simp)).trans (by simp [go_sem] : _ = false)
  go_wp2_with fail
  have G := Lib.hid ((((((((A.out.set0 0).set1 0).set2 0).set3 0).set4 0).set5 0).set6 0).alloc (.cells #[.int .i64 0, .int .i64 0, .int .i64 0] 23))
  obtain ⟨g0, g1, g2, g3, g4, g5, g6, g7⟩ := G.out
  exact bodyPost_ret (v := .tuple #[.agg #[.int .i64 0, .int .i64 0, .int .i64 0, .int .i64 0, .int .i64 0, .int .i64 0, .int .i64 0], .int .i64 2]) (by simp [results, Tryd.results23, go_sem, g1, g2, g3, g4, g5, g6, g7]) rfl ⟨rfl, by first | (with_reducible exact balloc (((((((HB.out.setCell (Nat.le_refl _) _).setCell (Nat.le_refl _) _).setCell (Nat.le_refl _) _).setCell (Nat.le_refl _) _).setCell (Nat.le_refl _) _).setCell (Nat.le_refl _) _).setCell (Nat.le_refl _) _) _) | (repeat (first | with_reducible exact HB.out | with_reducible exact brefl _ | with_reducible refine balloc ?_ _ | with_reducible refine bdrew ?_ _ | with_reducible refine Below.setCell ?_ (by first | (simp; done) | (simp; omega)) _))⟩

set_option maxRecDepth 100000 in
set_option maxHeartbeats 800000 in
theorem Show_ok (t : Int) (w : World) (h : 0 ≤ t) (h' : t < 268027863603609600) :
    Calls Tryd.prog 23 #[.int .i64 t] w fun e w' => (∃ y m d, isDay (t / 1048576 / 86400) y m d ∧ e = .returned (.tuple #[.agg #[.int .i64 y, .int .i64 m, .int .i64 d, .int .i64 (t / 1048576 % 86400 / 3600), .int .i64 (t / 1048576 % 86400 % 3600 / 60), .int .i64 (t / 1048576 % 86400 % 60), .int .i64 (t % 1048576)], .int .i64 0])) ∧ Below w.heap.size w w' := by
  have e0 : decide (t < 0) = false := by rw [decide_eq_false_iff_not]; omega
  have e1 : decide (268027863603609600 ≤ t) = false := by rw [decide_eq_false_iff_not]; omega
  have q1 : t.tdiv 1048576 = t / 1048576 := Int.tdiv_eq_ediv_of_nonneg h
  have q0 : t.tmod 1048576 = t % 1048576 := Int.tmod_eq_emod_of_nonneg h
  have b0 : 0 ≤ t % 1048576 ∧ t % 1048576 ≤ 1048575 := by omega
  have b1 : 0 ≤ t / 1048576 ∧ t / 1048576 ≤ 255611289599 := by omega
  generalize t / 1048576 = s at *
  generalize t % 1048576 = T at *
  have q2 : s.tdiv 86400 = s / 86400 := Int.tdiv_eq_ediv_of_nonneg (by omega)
  have q3 : s.tmod 86400 = s % 86400 := Int.tmod_eq_emod_of_nonneg (by omega)
  have b2 : 0 ≤ s / 86400 ∧ s / 86400 ≤ 2958463 := by omega
  have b3 : 0 ≤ s % 86400 ∧ s % 86400 ≤ 86399 := by omega
  generalize s / 86400 = n at *
  generalize s % 86400 = r at *
  have q4 : r.tdiv 3600 = r / 3600 := Int.tdiv_eq_ediv_of_nonneg (by omega)
  have q5 : r.tmod 3600 = r % 3600 := Int.tmod_eq_emod_of_nonneg (by omega)
  have q6 : r.tmod 60 = r % 60 := Int.tmod_eq_emod_of_nonneg (by omega)
  have q7 : (r % 3600).tdiv 60 = r % 3600 / 60 := Int.tdiv_eq_ediv_of_nonneg (by omega)
  have q8 : r.tdiv 60 = r / 60 := Int.tdiv_eq_ediv_of_nonneg (by omega)
  have q9 : (r / 60).tmod 60 = r % 3600 / 60 := by rw [Int.tmod_eq_emod_of_nonneg (by omega)]; omega
  obtain ⟨b01, b02⟩ := b0
  obtain ⟨b11, b12⟩ := b1
  obtain ⟨b21, b22⟩ := b2
  obtain ⟨b31, b32⟩ := b3
  go_enter Tryd.func23, Tryd.ntmps23
  go_wp2_with fail
  refine (Day_ok n _ b21 b22).mono ?_
  rintro e w1 ⟨⟨y, m, d, hd, rfl⟩, hb⟩
  have HD := Lib.hid hd
  have A := Lib.hid ((Fc.new w 0 0 0 0 0 0 0).below hb)
  have HB := Lib.hid (bstep (balloc (brefl w) _) hb)
  have FZ := Lib.hid ((bcell hb).2)
  clear hb hd
  obtain ⟨a0, a1, a2, a3, a4, a5, a6, a7⟩ := A.out
  have z := fun o => (FZ.out w.heap.size o (by simp)).trans (by simp [go_sem] : _ = false)
  go_wp2_with fail
  have G := Lib.hid ((((((((A.out.set0 y).set1 m).set2 d).set3 (r / 3600)).set4 (r % 3600 / 60)).set5 (r % 60)).set6 T).alloc (.cells #[.int .i64 y, .int .i64 m, .int .i64 d] 23))
  obtain ⟨g0, g1, g2, g3, g4, g5, g6, g7⟩ := G.out
  exact bodyPost_ret (v := .tuple #[.agg #[.int .i64 y, .int .i64 m, .int .i64 d, .int .i64 (r / 3600), .int .i64 (r % 3600 / 60), .int .i64 (r % 60), .int .i64 T], .int .i64 0]) (by simp [results, Tryd.results23, go_sem, g1, g2, g3, g4, g5, g6, g7]) rfl ⟨⟨y, m, d, HD.out, rfl⟩, by first | (with_reducible exact balloc (((((((HB.out.setCell (Nat.le_refl _) _).setCell (Nat.le_refl _) _).setCell (Nat.le_refl _) _).setCell (Nat.le_refl _) _).setCell (Nat.le_refl _) _).setCell (Nat.le_refl _) _).setCell (Nat.le_refl _) _) _) | (repeat (first | with_reducible exact HB.out | with_reducible exact brefl _ | with_reducible refine balloc ?_ _ | with_reducible refine bdrew ?_ _ | with_reducible refine Below.setCell ?_ (by first | (simp; done) | (simp; omega)) _))⟩

set_option maxRecDepth 100000 in
set_option maxHeartbeats 800000 in
theorem rShow_neg (t : Int) (w : World) (h : t < 0) :
    Calls Tryd.prog 24 #[.int .i64 t] w fun e w' => e = .returned (.tuple #[.agg #[.int .i64 0, .int .i64 0, .int .i64 0, .int .i64 0, .int .i64 0, .int .i64 0, .int .i64 0], .int .i64 2]) ∧ Below w.heap.size w w' := by
  have e0 : decide (t < 0) = true := decide_eq_true h
  go_enter Tryd.func24, Tryd.ntmps24
  go_wp2_with fail
  exact bodyPost_ret (v := .tuple #[.agg #[.int .i64 0, .int .i64 0, .int .i64 0, .int .i64 0, .int .i64 0, .int .i64 0, .int .i64 0], .int .i64 2]) (by simp [results, Tryd.results24, go_sem]) rfl ⟨rfl, by first | (with_reducible exact balloc (((((((HB.out.setCell (Nat.le_refl _) _).setCell (Nat.le_refl _) _).setCell (Nat.le_refl _) _).setCell (Nat.le_refl _) _).setCell (Nat.le_refl _) _).setCell (Nat.le_refl _) _).setCell (Nat.le_refl _) _) _) | (repeat (first | with_reducible exact HB.out | with_reducible exact brefl _ | with_reducible refine balloc ?_ _ | with_reducible refine bdrew ?_ _ | with_reducible refine Below.setCell ?_ (by first | (simp; done) | (simp; omega)) _))⟩

set_option maxRecDepth 100000 in
set_option maxHeartbeats 800000 in
theorem rShow_far (t : Int) (w : World) (h : 268027863603609600 ≤ t) (h' : t ≤ 9223372036854775807) :
    Calls Tryd.prog 24 #[.int .i64 t] w fun e w' => e = .returned (.tuple #[.agg #[.int .i64 0, .int .i64 0, .int .i64 0, .int .i64 0, .int .i64 0, .int .i64 0, .int .i64 0], .int .i64 2]) ∧ Below w.heap.size w w' := by
  have e0 : decide (t < 0) = false := by rw [decide_eq_false_iff_not]; omega
  have e1 : decide (268027863603609600 ≤ t) = true := decide_eq_true h
  go_enter Tryd.func24, Tryd.ntmps24
  go_wp2_with fail
  exact bodyPost_ret (v := .tuple #[.agg #[.int .i64 0, .int .i64 0, .int .i64 0, .int .i64 0, .int .i64 0, .int .i64 0, .int .i64 0], .int .i64 2]) (by simp [results, Tryd.results24, go_sem]) rfl ⟨rfl, by first | (with_reducible exact balloc (((((((HB.out.setCell (Nat.le_refl _) _).setCell (Nat.le_refl _) _).setCell (Nat.le_refl _) _).setCell (Nat.le_refl _) _).setCell (Nat.le_refl _) _).setCell (Nat.le_refl _) _).setCell (Nat.le_refl _) _) _) | (repeat (first | with_reducible exact HB.out | with_reducible exact brefl _ | with_reducible refine balloc ?_ _ | with_reducible refine bdrew ?_ _ | with_reducible refine Below.setCell ?_ (by first | (simp; done) | (simp; omega)) _))⟩

set_option maxRecDepth 100000 in
set_option maxHeartbeats 800000 in
theorem rShow_ok (t : Int) (w : World) (h : 0 ≤ t) (h' : t < 268027863603609600) :
    Calls Tryd.prog 24 #[.int .i64 t] w fun e w' => (∃ y m d, isDay (t / 1048576 / 86400) y m d ∧ e = .returned (.tuple #[.agg #[.int .i64 y, .int .i64 m, .int .i64 d, .int .i64 (t / 1048576 % 86400 / 3600), .int .i64 (t / 1048576 % 86400 % 3600 / 60), .int .i64 (t / 1048576 % 86400 % 60), .int .i64 (t % 1048576)], .int .i64 0])) ∧ Below w.heap.size w w' := by
  have e0 : decide (t < 0) = false := by rw [decide_eq_false_iff_not]; omega
  have e1 : decide (268027863603609600 ≤ t) = false := by rw [decide_eq_false_iff_not]; omega
  have q1 : t.tdiv 1048576 = t / 1048576 := Int.tdiv_eq_ediv_of_nonneg h
  have q0 : t.tmod 1048576 = t % 1048576 := Int.tmod_eq_emod_of_nonneg h
  have b0 : 0 ≤ t % 1048576 ∧ t % 1048576 ≤ 1048575 := by omega
  have b1 : 0 ≤ t / 1048576 ∧ t / 1048576 ≤ 255611289599 := by omega
  generalize t / 1048576 = s at *
  generalize t % 1048576 = T at *
  have q2 : s.tdiv 86400 = s / 86400 := Int.tdiv_eq_ediv_of_nonneg (by omega)
  have q3 : s.tmod 86400 = s % 86400 := Int.tmod_eq_emod_of_nonneg (by omega)
  have b2 : 0 ≤ s / 86400 ∧ s / 86400 ≤ 2958463 := by omega
  have b3 : 0 ≤ s % 86400 ∧ s % 86400 ≤ 86399 := by omega
  generalize s / 86400 = n at *
  generalize s % 86400 = r at *
  have q4 : r.tdiv 3600 = r / 3600 := Int.tdiv_eq_ediv_of_nonneg (by omega)
  have q5 : r.tmod 3600 = r % 3600 := Int.tmod_eq_emod_of_nonneg (by omega)
  have q6 : r.tmod 60 = r % 60 := Int.tmod_eq_emod_of_nonneg (by omega)
  have q7 : (r % 3600).tdiv 60 = r % 3600 / 60 := Int.tdiv_eq_ediv_of_nonneg (by omega)
  have q8 : r.tdiv 60 = r / 60 := Int.tdiv_eq_ediv_of_nonneg (by omega)
  have q9 : (r / 60).tmod 60 = r % 3600 / 60 := by rw [Int.tmod_eq_emod_of_nonneg (by omega)]; omega
  obtain ⟨b01, b02⟩ := b0
  obtain ⟨b11, b12⟩ := b1
  obtain ⟨b21, b22⟩ := b2
  obtain ⟨b31, b32⟩ := b3
  go_enter Tryd.func24, Tryd.ntmps24
  go_wp2_with fail
  refine (rDay_ok n _ b21 b22).mono ?_
  rintro e w1 ⟨⟨y, m, d, hd, rfl⟩, hb⟩
  have HD := Lib.hid hd
  have A := Lib.hid ((Fc.new w 0 0 0 0 0 0 0).below hb)
  have HB := Lib.hid (bstep (balloc (brefl w) _) hb)
  have FZ := Lib.hid ((bcell hb).2)
  clear hb hd
  obtain ⟨a0, a1, a2, a3, a4, a5, a6, a7⟩ := A.out
  have z := fun o => (FZ.out w.heap.size o (by simp)).trans (by simp [go_sem] : _ = false)
  go_wp2_with fail
  have G := Lib.hid ((((((((A.out.set0 y).set1 m).set2 d).set3 (r / 3600)).set4 (r % 3600 / 60)).set5 (r % 60)).set6 T).alloc (.cells #[.int .i64 y, .int .i64 m, .int .i64 d] 23))
  obtain ⟨g0, g1, g2, g3, g4, g5, g6, g7⟩ := G.out
  exact bodyPost_ret (v := .tuple #[.agg #[.int .i64 y, .int .i64 m, .int .i64 d, .int .i64 (r / 3600), .int .i64 (r % 3600 / 60), .int .i64 (r % 60), .int .i64 T], .int .i64 0]) (by simp [results, Tryd.results24, go_sem, g1, g2, g3, g4, g5, g6, g7]) rfl ⟨⟨y, m, d, HD.out, rfl⟩, by first | (with_reducible exact balloc (((((((HB.out.setCell (Nat.le_refl _) _).setCell (Nat.le_refl _) _).setCell (Nat.le_refl _) _).setCell (Nat.le_refl _) _).setCell (Nat.le_refl _) _).setCell (Nat.le_refl _) _).setCell (Nat.le_refl _) _) _) | (repeat (first | with_reducible exact HB.out | with_reducible exact brefl _ | with_reducible refine balloc ?_ _ | with_reducible refine bdrew ?_ _ | with_reducible refine Below.setCell ?_ (by first | (simp; done) | (simp; omega)) _))⟩
end Go.Proofs.YtooinoccijfgiaaDoor.Cv
