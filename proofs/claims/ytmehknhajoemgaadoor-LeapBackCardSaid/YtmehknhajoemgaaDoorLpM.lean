/-
  The contracts of leap.UTC where it answers an error, and of leap.Warn.
  Conditions: none.
-/
import Derived.Test.YtmehknhajoemgaaDoorLpL
namespace Go.Proofs.YtmehknhajoemgaaDoor.Lp
open Go.RowKit Go.ChangeShapes Go.WideShapes Go.ChangeAt Go.Joins Cv
set_option linter.unusedVariables false
set_option linter.unusedSimpArgs false

theorem UTC_range {w : World} {v : Value} {n : Nat} {a o : Nat → Int} {e u : Int} (A : Cs w v n a o) (h : Tb n a o e) (h0 : ¬ (0 ≤ u ∧ u ≤ 288230376151711744)) :
    Calls Tryd.prog 9 #[lv v e, .int .i64 u] w fun x w' => x = .returned (.tuple #[.int .i64 0, .bool false, .int .i64 2]) ∧ Below w.heap.size w w' := by
  have CC := Lib.hid (fun w (A : Cs w v n a o) => checkCall_range A h h0)
  have A0 := Lib.hid A
  clear A
  unfold lv at *
  go_enter Tryd.func9, Tryd.ntmps9
  go_wp2_with fail
  refine (CC.out _ (A0.out.below (balloc (brefl w) _))).mono ?_
  rintro x w1 ⟨rfl, hb⟩
  have B1 := Lib.hid (bstep (balloc (brefl w) _) hb)
  clear hb
  go_wp2_with fail
  go_ret3
  exact ⟨rfl, B1.out⟩
theorem UTC_shape {w : World} {v : Value} {n : Nat} {a o : Nat → Int} {e u : Int} (A : Cs w v n a o) (h : ¬ Tb n a o e) :
    Calls Tryd.prog 9 #[lv v e, .int .i64 u] w fun x w' => x = .returned (.tuple #[.int .i64 0, .bool false, .int .i64 3]) ∧ Below w.heap.size w w' := by
  have CC := Lib.hid (fun w (A : Cs w v n a o) => checkCall_shape (t := u) A h)
  have A0 := Lib.hid A
  clear A
  unfold lv at *
  go_enter Tryd.func9, Tryd.ntmps9
  go_wp2_with fail
  refine (CC.out _ (A0.out.below (balloc (brefl w) _))).mono ?_
  rintro x w1 ⟨rfl, hb⟩
  have B1 := Lib.hid (bstep (balloc (brefl w) _) hb)
  clear hb
  go_wp2_with fail
  go_ret3
  exact ⟨rfl, B1.out⟩

/-- what Warn answers. -/
def WP (n : Nat) (a o : Nat → Int) (u : Int) (x : Ending) : Prop := ∃ v, WV n a o u v ∧ x = .returned (.tuple #[.int .i64 v, .int .i64 0])

set_option maxRecDepth 100000 in
set_option maxHeartbeats 4000000 in
theorem Warn_ok {w : World} {v : Value} {n : Nat} {a o : Nat → Int} {e u : Int} (A : Cs w v n a o) (h : Tb n a o e) (h0 : 0 ≤ u) (h1 : u ≤ 288230376151711744) (h2 : ut n a o u < e) :
    Calls Tryd.prog 12 #[lv v e, .int .i64 u] w fun x w' => WP n a o u x ∧ Below w.heap.size w w' := by
  have UC := Lib.hid (fun w (A : Cs w v n a o) => UTC_ok A h h0 h1)
  have A0 := Lib.hid A
  have AD : Hid (∀ w (A : Cs w v n a o) (j : Nat) (hj : j + 1 < n), Calls Tryd.prog 27 #[lv v e, .int .i64 ((j : Int) + 1)] w fun x w' => x = .returned (.bool (decide (o j < o (j + 1)))) ∧ Below w.heap.size w w') := Lib.hid fun w A j hj => adds_c A j hj
  have RT := Lib.hid h.1
  have pos := h.1.pos
  have tb : u - 209715200 ≤ ut n a o u ∧ ut n a o u ≤ u := by
    have := h.1.ofs_bd u
    unfold ut
    omega
  obtain ⟨ad, cap, rfl, a1, a2, a3, a4⟩ := A
  obtain ⟨b, off, rfl, hbl, hK⟩ := a4 (by omega)
  have HK0 := Lib.hid hK
  clear h a3 a4 hK
  unfold lv at *
  have WA : Hid (∀ j, wat n a o u j ↔ 0 < j ∧ j < n ∧ ut n a o u < a j ∧ a j - 90596966400 ≤ ut n a o u) := Lib.hid fun j => ⟨fun g => ⟨g.1, g.2.1, g.2.2.2.1, g.2.2.2.2⟩, fun g => ⟨g.1, g.2.1, Classical.byContradiction fun q => by have := RT.out.ut_ge g.1 g.2.1 (u := u) (by omega); omega, g.2.2.1, g.2.2.2⟩⟩
  obtain ⟨t, ht⟩ : ∃ t, ut n a o u = t := ⟨_, rfl⟩
  rw [ht] at UC WA tb h2
  clear ht
  generalize inl n a o u = il at UC
  have e5 : decide (e ≤ t) = false := decide_eq_false (by omega)
  go_enter Tryd.func12, Tryd.ntmps12
  go_wp2_with fail
  refine (UC.out _ (A0.out.below (balloc (brefl w) _))).mono ?_
  rintro x w1 ⟨rfl, hb⟩
  have q0 := hb.cell (p := ⟨w.heap.size, 0, none⟩) (by simp)
  have q1 := hb.cell (p := ⟨w.heap.size, 1, none⟩) (by simp)
  simp [go_sem] at q0 q1
  have z1 : w.heap.size < w1.heap.size := Nat.lt_of_lt_of_le (by simp) hb.size
  have B1 := Lib.hid (bstep (balloc (brefl w) _) hb)
  have Q0 := Lib.hid q0
  have Q1 := Lib.hid q1
  clear hb
  go_wp2_with fail
  clear q0 q1
  go_loopw [28] (fun iv wr => ∃ k : Nat, k ≤ n ∧ iv = .int .i64 k ∧ (∀ j, j < k → ¬ wat n a o u j) ∧ Below w1.heap.size w1 wr) (fun iv _ => n - (intOf iv).toNat)
  case atStart => exact ⟨0, Nat.zero_le _, rfl, fun j hj => absurd hj (Nat.not_lt_zero _), brefl w1⟩
  case round =>
    obtain ⟨k, hk, rfl, hn, hb⟩ := hrel
    rename World => wr
    have c0 := (hb.cell (p := ⟨w.heap.size, 0, none⟩) z1).trans Q0.out
    have c1 := (hb.cell (p := ⟨w.heap.size, 1, none⟩) z1).trans Q1.out
    have z3 : w.heap.size < wr.heap.size := Nat.lt_of_lt_of_le z1 hb.size
    have BWR := Lib.hid hb
    have BW := Lib.hid (bstep B1.out hb)
    have NW := Lib.hid hn
    clear hn hb
    by_cases c : k < n
    · have f1 : decide ((k : Int) < (n : Int)) = true := by rw [decide_eq_true_iff]; omega
      obtain ⟨x1, x2⟩ := HK0.out k c
      rw [← BW.out.cell (p := ⟨b, _, none⟩) hbl] at x1 x2
      have NX : Hid (¬ wat n a o u k → ∀ j, j < k + 1 → ¬ wat n a o u j) := Lib.hid fun q j hj => by
        by_cases ej : j = k
        · subst ej; exact q
        · exact NW.out j (by omega)
      have am := RT.out.mo k c
      have al := RT.out.le k c
      have a0 : 0 ≤ a k := am.1
      clear am
      by_cases k0 : k = 0
      · subst k0
        have NY := Lib.hid (NX.out (fun q => absurd q.1 (Nat.lt_irrefl _)))
        clear NX NW
        simp only [Nat.zero_mul, Nat.add_zero] at x1 x2
        go_wp2_with fail
        go_roundw
        case rel => exact ⟨1, by omega, by go_num, NY.out, balloc BWR.out _⟩
        case measure => simp [intOf]; omega
      · obtain ⟨j, rfl⟩ : ∃ j, k = j + 1 := ⟨k - 1, by omega⟩
        have f2 : ((j : Int) + 1 == 0) = false := by simp; omega
        by_cases d1 : a (j + 1) ≤ t
        · have e1 : decide (a (j + 1) ≤ t) = true := decide_eq_true d1
          have NY := Lib.hid (NX.out (fun q => by have := ((WA.out _).1 q).2.2.1; omega))
          clear NX NW d1
          go_wp2_with fail
          go_roundw
          case rel => exact ⟨j + 1 + 1, by omega, by go_num, NY.out, balloc BWR.out _⟩
          case measure => simp [intOf]; omega
        · have e1 : decide (a (j + 1) ≤ t) = false := decide_eq_false d1
          by_cases d2 : t < a (j + 1) - 90596966400
          · have e2 : decide (t < a (j + 1) - 90596966400) = true := decide_eq_true d2
            have NY := Lib.hid (NX.out (fun q => by have := ((WA.out _).1 q).2.2.2; omega))
            clear NX NW d1 d2
            go_wp2_with fail
            go_roundw
            case rel => exact ⟨j + 1 + 1, by omega, by go_num, NY.out, balloc BWR.out _⟩
            case measure => simp [intOf]; omega
          · have e2 : decide (t < a (j + 1) - 90596966400) = false := decide_eq_false d2
            have YW : Hid (wat n a o u (j + 1)) := Lib.hid ((WA.out _).2 ⟨by omega, c, by omega, by omega⟩)
            have BA := Lib.hid (balloc BW.out (.cells #[.int .i64 (a (j + 1)), .int .i64 (o (j + 1))] 55))
            have S := Lib.hid (AD.out _ (A0.out.below BA.out) j c)
            clear NX NW d1 d2
            by_cases d3 : o j < o (j + 1)
            · have AN : Hid (WV n a o u 1) := Lib.hid (.inr ⟨j + 1, YW.out, by rw [show j + 1 - 1 = j from rfl, if_pos d3]⟩)
              rw [decide_eq_true d3] at S
              clear d3
              go_wp2_with fail
              refine S.out.mono ?_
              rintro x w3 ⟨rfl, hb3⟩
              have B3 := Lib.hid (bstep BA.out hb3)
              clear hb3
              go_wp2_with fail
              go_ret2
              exact ⟨⟨_, AN.out, rfl⟩, B3.out⟩
            · have AN : Hid (WV n a o u 2) := Lib.hid (.inr ⟨j + 1, YW.out, by rw [show j + 1 - 1 = j from rfl, if_neg d3]⟩)
              rw [decide_eq_false d3] at S
              clear d3
              go_wp2_with fail
              refine S.out.mono ?_
              rintro x w3 ⟨rfl, hb3⟩
              have B3 := Lib.hid (bstep BA.out hb3)
              clear hb3
              go_wp2_with fail
              go_ret2
              exact ⟨⟨_, AN.out, rfl⟩, B3.out⟩
    · have f1 : decide ((k : Int) < (n : Int)) = false := by rw [decide_eq_false_iff_not]; omega
      have AN : Hid (WV n a o u 0) := Lib.hid (.inl ⟨rfl, fun j hj => NW.out j (by have := hj.2.1; omega) hj⟩)
      go_wp2_with fail
      go_ret2
      exact ⟨⟨_, AN.out, rfl⟩, BW.out⟩
end Go.Proofs.YtmehknhajoemgaaDoor.Lp
