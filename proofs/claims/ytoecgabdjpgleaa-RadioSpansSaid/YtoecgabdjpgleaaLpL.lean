/-
  The contract of leap.UTC: the UTC time of an even time, and whether it is in a leap second.
  Conditions: none.
-/
import Derived.Test.YtoecgabdjpgleaaLpK
namespace Go.Proofs.Ytoecgabdjpgleaa.Lp
open Go.RowKit Go.ChangeShapes Go.WideShapes Go.ChangeAt Go.Joins Cv
set_option linter.unusedVariables false
set_option linter.unusedSimpArgs false

set_option maxRecDepth 100000 in
set_option maxHeartbeats 4000000 in
theorem UTC_ok {w : World} {v : Value} {n : Nat} {a o : Nat → Int} {e u : Int} (A : Cs w v n a o) (h : Tb n a o e) (h0 : 0 ≤ u) (h1 : u ≤ 288230376151711744) :
    Calls Try.prog 8 #[lv v e, .int .i64 u] w fun x w' => x = .returned (.tuple #[.int .i64 (ut n a o u), .bool (inl n a o u), .int .i64 0]) ∧ Below w.heap.size w w' := by
  have CC := Lib.hid (fun w (A : Cs w v n a o) => checkCall_ok A h h0 h1)
  have A0 := Lib.hid A
  have ST : Hid (∀ w (A : Cs w v n a o) (j : Nat) (hj : j + 1 < n), Calls Try.prog 16 #[lv v e, .int .i64 ((j : Int) + 1)] w fun x w' => x = .returned (.int .i64 (bg a o (j + 1))) ∧ Below w.heap.size w w') := Lib.hid fun w A j hj => start_c A j hj (h.1.mo _ hj).1 (h.1.le _ hj) (h.1.ob _ hj).1 (h.1.ob _ hj).2
  have RT := Lib.hid h.1
  have pos := h.1.pos
  obtain ⟨ad, cap, rfl, a1, a2, a3, a4⟩ := A
  obtain ⟨b, off, rfl, hbl, hK⟩ := a4 (by omega)
  have HK0 := Lib.hid hK
  clear h a3 a4 hK
  unfold lv at *
  have n1 : (n : Int) - 1 = ((n - 1 : Nat) : Int) := by omega
  go_enter Try.func8, Try.ntmps8
  go_wp2_with fail
  refine (CC.out _ (A0.out.below (balloc (brefl w) _))).mono ?_
  rintro x w1 ⟨rfl, hb⟩
  have q0 := hb.cell (p := ⟨w.heap.size, 0, none⟩) (by simp)
  have q1 := hb.cell (p := ⟨w.heap.size, 1, none⟩) (by simp)
  simp [go_sem] at q0 q1
  have z1 : w.heap.size < w1.heap.size := Nat.lt_of_lt_of_le (by simp) hb.size
  have B1 := Lib.hid (bstep (balloc (brefl w) _) hb)
  have Q0 := Lib.hid q0
  have Q1 := Lib.hid q1
  clear hb q1
  go_wp2_with fail
  clear n1 q0
  go_loopw [8] (fun iv wr => ∃ k : Nat, k < n ∧ iv = .int .i64 k ∧ (k + 1 < n → u < bg a o (k + 1)) ∧ Below w1.heap.size w1 wr) (fun iv _ => (intOf iv).toNat)
  case atStart => exact ⟨n - 1, by omega, rfl, fun hh => by omega, brefl w1⟩
  case round =>
    obtain ⟨k, hk, rfl, hu, hb⟩ := hrel
    rename World => wr
    have c0 := (hb.cell (p := ⟨w.heap.size, 0, none⟩) z1).trans Q0.out
    have c1 := (hb.cell (p := ⟨w.heap.size, 1, none⟩) z1).trans Q1.out
    have BW := Lib.hid (bstep B1.out hb)
    have z3 : w.heap.size < wr.heap.size := Nat.lt_of_lt_of_le z1 hb.size
    have BWR := Lib.hid hb
    have HU := Lib.hid hu
    clear hu hb
    by_cases k0 : k = 0
    · subst k0
      have HK : Hid (∀ i, i < n → wr.cell? ⟨b, off + i * 2, none⟩ = some (.int .i64 (a i)) ∧ wr.cell? ⟨b, off + i * 2 + 1, none⟩ = some (.int .i64 (o i))) := Lib.hid fun i hi => ⟨(BW.out.cell (p := ⟨b, _, none⟩) hbl).trans (HK0.out i hi).1, (BW.out.cell (p := ⟨b, _, none⟩) hbl).trans (HK0.out i hi).2⟩
      have HH : Hid (holds n a o u 0) := Lib.hid ⟨hk, .inl rfl, HU.out⟩
      have BB := BW
      clear HU
      obtain ⟨x1, x2⟩ := HK.out 0 (by omega)
      simp only [Nat.zero_mul, Nat.add_zero] at x1 x2
      have ob := RT.out.ob 0 (by omega)
      have OC := Lib.hid (fun w => offsetOf_c (a 0) (o 0) ob.1 ob.2 w)
      have UT := Lib.hid (RT.out.by_holds HH.out)
      have nn : (0 : Int) < (n : Int) := by omega
      have ho : ∃ p : Int, o 0 * 1048576 = p ∧ 0 ≤ p ∧ p ≤ 209715200 := ⟨_, rfl, by omega, by omega⟩
      obtain ⟨p, hp, p0, p1⟩ := ho
      rw [hp] at OC UT
      clear hp ob
      simp only [Nat.lt_irrefl, false_and, decide_false] at UT
      generalize a 0 = ak at *
      generalize o 0 = ok at *
      go_wp2_with fail
      (with_reducible refine (OC.out _).mono ?_)
      rintro x w3 ⟨rfl, hb3⟩
      have c0 := hb3.cell (p := ⟨wr.heap.size, 0, none⟩) (by simp)
      have c1 := hb3.cell (p := ⟨wr.heap.size, 1, none⟩) (by simp)
      simp [go_sem] at c0 c1
      have B3 := Lib.hid (bstep (balloc BB.out _) hb3)
      clear hb3
      go_wp2_with fail
      go_quiet (fail)
      go_wp2_with fail
      go_ret3
      exact ⟨by rw [UT.out.1, UT.out.2]; rfl, bdrew B3.out nq⟩
    · obtain ⟨j, rfl⟩ : ∃ j, k = j + 1 := ⟨k - 1, by omega⟩
      have f2 : decide (0 < (j : Int) + 1) = true := decide_eq_true (by omega)
      have S := Lib.hid (fun w A => ST.out w A j hk)
      by_cases c : u < bg a o (j + 1)
      · have e1 : decide (u < bg a o (j + 1)) = true := decide_eq_true c
        have C := Lib.hid (fun _ : j + 1 < n => c)
        have jn : j < n := by omega
        generalize bg a o (j + 1) = g at S e1
        clear c HU
        go_wp2_with fail
        refine (S.out _ (A0.out.below BW.out)).mono ?_
        rintro x w3 ⟨rfl, hb3⟩
        have BR := Lib.hid (bstep BWR.out hb3)
        clear hb3
        go_wp2_with fail
        go_roundw
        case rel => exact ⟨j, jn, by go_num, C.out, BR.out⟩
        case measure => simp [intOf]
      · have e1 : decide (u < bg a o (j + 1)) = false := decide_eq_false c
        have HH : Hid (holds n a o u (j + 1)) := Lib.hid ⟨hk, .inr (by omega), HU.out⟩
        generalize bg a o (j + 1) = g at S e1
        clear c HU
        go_wp2_with fail
        refine (S.out _ (A0.out.below BW.out)).mono ?_
        rintro x w3 ⟨rfl, hb3⟩
        have BB := Lib.hid (bstep BW.out hb3)
        have c0' := (hb3.cell (p := ⟨w.heap.size, 0, none⟩) (by show w.heap.size < _; omega)).trans c0
        have c1' := (hb3.cell (p := ⟨w.heap.size, 1, none⟩) (by show w.heap.size < _; omega)).trans c1
        have HK : Hid (∀ i, i < n → w3.cell? ⟨b, off + i * 2, none⟩ = some (.int .i64 (a i)) ∧ w3.cell? ⟨b, off + i * 2 + 1, none⟩ = some (.int .i64 (o i))) := Lib.hid fun i hi => ⟨(BB.out.cell (p := ⟨b, _, none⟩) hbl).trans (HK0.out i hi).1, (BB.out.cell (p := ⟨b, _, none⟩) hbl).trans (HK0.out i hi).2⟩
        clear hb3
        obtain ⟨x1, x2⟩ := HK.out (j + 1) (by omega)
        have ob := RT.out.ob (j + 1) (by omega)
        have OC := Lib.hid (fun w => offsetOf_c (a (j + 1)) (o (j + 1)) ob.1 ob.2 w)
        have UT := Lib.hid (RT.out.by_holds HH.out)
        have nn : (j : Int) + 1 < (n : Int) := by omega
        have ho : ∃ p : Int, o (j + 1) * 1048576 = p ∧ 0 ≤ p ∧ p ≤ 209715200 := ⟨_, rfl, by omega, by omega⟩
        obtain ⟨p, hp, p0, p1⟩ := ho
        rw [hp] at OC UT
        clear hp ob
        simp only [Nat.succ_pos, true_and] at UT
        generalize a (j + 1) = ak at *
        generalize o (j + 1) = ok at *
        have jj : (0 : Int) ≤ (j : Int) + 1 := by omega
        have l4 : ((j : Int) + 1).toNat = j + 1 := by omega
        go_wp2_with fail
        (with_reducible refine (OC.out _).mono ?_)
        rintro x w4 ⟨rfl, hb3⟩
        have d0 := hb3.cell (p := ⟨w3.heap.size, 0, none⟩) (by simp)
        have d1 := hb3.cell (p := ⟨w3.heap.size, 1, none⟩) (by simp)
        simp [go_sem] at d0 d1
        have B3 := Lib.hid (bstep (balloc BB.out _) hb3)
        clear hb3
        by_cases ct : u - p < ak
        · have et : decide (u - p < ak) = true := decide_eq_true ct
          rw [et] at UT
          clear ct
          go_wp2_with fail
          go_quiet (fail)
          go_wp2_with fail
          go_ret3
          exact ⟨by rw [UT.out.1, UT.out.2]; rfl, bdrew B3.out nq⟩
        · have et : decide (u - p < ak) = false := decide_eq_false ct
          rw [et] at UT
          clear ct
          go_wp2_with fail
          go_quiet (fail)
          go_wp2_with fail
          go_ret3
          exact ⟨by rw [UT.out.1, UT.out.2]; rfl, bdrew B3.out nq⟩
end Go.Proofs.Ytoecgabdjpgleaa.Lp
