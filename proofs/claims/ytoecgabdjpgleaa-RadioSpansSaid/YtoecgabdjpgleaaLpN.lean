/-
  The contract of leap.Even.
  Conditions: none.
-/
import Derived.Test.YtoecgabdjpgleaaLpL
import Derived.Test.YtoecgabdjpgleaaTsA
import Derived.Maps.AppendAt
import Derived.Laws.OwnMore
import Derived.OwnWalk
namespace Go.Proofs.Ytoecgabdjpgleaa.Lp
open Go.RowKit Go.ChangeShapes Go.WideShapes Go.ChangeAt Go.Joins Cv
set_option linter.unusedVariables false
set_option linter.unusedSimpArgs false

/-- what Even answers. -/
def EP (base : Nat) (L : List Int) (w' : World) (x : Ending) : Prop := ∃ v, x = .returned (.tuple #[v, .int .i64 0]) ∧ OwnT w' base v L

theorem Even_range {w : World} {v : Value} {n : Nat} {a o : Nat → Int} {e u : Int} (A : Cs w v n a o) (h : Tb n a o e) (h0 : ¬ (0 ≤ u ∧ u ≤ 288230376151711744)) :
    Calls Try.prog 18 #[lv v e, .int .i64 u] w fun x w' => x = .returned (.tuple #[.slice none 0 0, .int .i64 2]) ∧ Below w.heap.size w w' := by
  have CC := Lib.hid (fun w (A : Cs w v n a o) => checkCall_range A h h0)
  have A0 := Lib.hid A
  clear A h0
  unfold lv at *
  go_enter Try.func18, Try.ntmps18
  go_wp2_with fail
  refine (CC.out _ (A0.out.below (balloc (brefl w) _))).mono ?_
  rintro x w1 ⟨rfl, hb⟩
  have B1 := Lib.hid (bstep (balloc (brefl w) _) hb)
  clear hb
  go_wp2_with fail
  go_ret2
  exact ⟨rfl, B1.out⟩

set_option maxRecDepth 100000 in
set_option maxHeartbeats 8000000 in
theorem Even_ok {w : World} {v : Value} {n : Nat} {a o : Nat → Int} {e t : Int} (A : Cs w v n a o) (h : Tb n a o e) (h0 : 0 ≤ t) (h1 : t ≤ 288230376151711744) :
    Calls Try.prog 18 #[lv v e, .int .i64 t] w fun x w' => EP w.heap.size (evs n a o t n) w' x ∧ Below w.heap.size w w' := by
  have CC := Lib.hid (fun w (A : Cs w v n a o) => checkCall_ok A h h0 h1)
  have A0 := Lib.hid A
  have ST : Hid (∀ w (A : Cs w v n a o) (j : Nat) (hj : j + 1 < n), Calls Try.prog 16 #[lv v e, .int .i64 ((j : Int) + 1)] w fun x w' => x = .returned (.int .i64 (bg a o (j + 1))) ∧ Below w.heap.size w w') := Lib.hid fun w A j hj => start_c A j hj (h.1.mo _ hj).1 (h.1.le _ hj) (h.1.ob _ hj).1 (h.1.ob _ hj).2
  have RT := Lib.hid h.1
  have nle := h.1.n_le
  have pos := h.1.pos
  obtain ⟨ad, cap, rfl, a1, a2, a3, a4⟩ := A
  obtain ⟨b, off, rfl, hbl, hK⟩ := a4 (by omega)
  have HK0 := Lib.hid hK
  clear h a3 a4 hK
  unfold lv at *
  go_enter Try.func18, Try.ntmps18
  go_wp2_with fail
  refine (CC.out _ (A0.out.below (balloc (brefl w) _))).mono ?_
  rintro x w1 ⟨rfl, hb⟩
  have q0 := hb.cell (p := ⟨w.heap.size, 0, none⟩) (by simp)
  have q1 := hb.cell (p := ⟨w.heap.size, 1, none⟩) (by simp)
  simp [go_sem] at q0 q1
  have z1 : w.heap.size < w1.heap.size := Nat.lt_of_lt_of_le (by simp) hb.size
  have B1 := Lib.hid (bstep (balloc (brefl w) _) hb)
  have Q0 := Lib.hid q0
  have Q1 := Lib.hid q1
  clear hb
  go_wp2_with fail
  clear q0 q1
  go_loopw [7, 22] (fun tv iv wr => ∃ k : Nat, k ≤ n ∧ iv = .int .i64 k ∧ OwnT wr w1.heap.size tv (evs n a o t k) ∧ Below w1.heap.size w1 wr) (fun _ iv _ => n - (intOf iv).toNat)
  case atStart => exact ⟨0, Nat.zero_le _, rfl, OwnT.nil _ _, brefl w1⟩
  case round =>
    obtain ⟨k, hk, rfl, hO, hb⟩ := hrel
    rename World => wr
    rename_i tv _
    have c0 := (hb.cell (p := ⟨w.heap.size, 0, none⟩) z1).trans Q0.out
    have c1 := (hb.cell (p := ⟨w.heap.size, 1, none⟩) z1).trans Q1.out
    have z3 : w.heap.size < wr.heap.size := Nat.lt_of_lt_of_le z1 hb.size
    have BWR := Lib.hid hb
    have BW := Lib.hid (bstep B1.out hb)
    have OT := Lib.hid hO
    clear hO hb
    by_cases c : k < n
    · have f1 : decide ((k : Int) < (n : Int)) = true := by rw [decide_eq_true_iff]; omega
      obtain ⟨x1, x2⟩ := HK0.out k c
      rw [← BW.out.cell (p := ⟨b, _, none⟩) hbl] at x1 x2
      have ob := RT.out.ob k c
      have OC := Lib.hid (fun w => offsetOf_c (a k) (o k) ob.1 ob.2 w)
      have EV : Hid (evs n a o t (k + 1) = if (k = 0 ∨ bg a o k ≤ t + o k * 1048576) ∧ (k + 1 < n → t + o k * 1048576 < bg a o (k + 1)) then evs n a o t k ++ [t + o k * 1048576] else evs n a o t k) := Lib.hid rfl
      have len := evs_len n a o t k
      have ho : ∃ p : Int, o k * 1048576 = p ∧ 0 ≤ p ∧ p ≤ 209715200 := ⟨_, rfl, by omega, by omega⟩
      obtain ⟨p, hp, p0, p1⟩ := ho
      rw [hp] at OC EV
      clear hp ob
      have S2 := Lib.hid (fun w A hj => ST.out w A k hj)
      by_cases k0 : k = 0
      · subst k0
        by_cases cn : 0 + 1 < n
        · by_cases cb : t + p < bg a o (0 + 1)
          · have EQ : Hid (evs n a o t (0 + 1) = evs n a o t 0 ++ [t + p]) := Lib.hid (by rw [EV.out, if_pos ⟨Or.inl rfl, fun _ => by omega⟩])
            clear EV
            have f4 : decide ((1 : Int) < (n : Int)) = true := decide_eq_true (by omega)
            have S3 := Lib.hid (fun w A => S2.out w A cn)
            clear S2
            simp only [Int.natCast_zero, Int.zero_add, Int.natCast_add, Int.natCast_one, Nat.zero_add] at S3
            have e2 : decide (bg a o (0 + 1) ≤ t + p) = false := decide_eq_false (by omega)
            try simp only [Nat.zero_add] at e2
            generalize bg a o 1 = g2 at S3 e2
            clear cb
            simp only [Nat.zero_mul, Nat.add_zero] at x1 x2
            generalize a 0 = ak at *
            generalize o 0 = ok at *
            go_wp2_with fail
            (with_reducible refine (OC.out _).mono ?_)
            rintro x w3 ⟨rfl, hb3⟩
            have B3 := Lib.hid (bstep (balloc BWR.out (.cells #[.int .i64 ak, .int .i64 ok] 49)) hb3)
            have c0' := (hb3.cell (p := ⟨w.heap.size, 0, none⟩) (by show w.heap.size < _; simp; omega)).trans ((cell_alloc_old (by show w.heap.size < _; omega)).trans c0)
            have c1' := (hb3.cell (p := ⟨w.heap.size, 1, none⟩) (by show w.heap.size < _; simp; omega)).trans ((cell_alloc_old (by show w.heap.size < _; omega)).trans c1)
            have z4 : w.heap.size < w3.heap.size := Nat.lt_of_lt_of_le z1 B3.out.size
            have O3 := Lib.hid (ownT_below (ownT_below OT.out (balloc (brefl wr) (.cells #[.int .i64 ak, .int .i64 ok] 49))) hb3)
            clear hb3 x1 x2 OT BWR BW c0 c1
            go_wp2_with fail
            refine (S3.out _ (A0.out.below (bstep B1.out B3.out))).mono ?_
            rintro x w5 ⟨rfl, hb5⟩
            have B5 := Lib.hid (bstep B3.out hb5)
            have O5 := Lib.hid (ownT_below O3.out hb5)
            clear hb5 O3
            obtain ⟨va, wa, ra, oI, ba, sa⟩ := appT O5.out (t + p) B5.out.size (by omega) 22
            have RA := Lib.hid ra
            have OA := Lib.hid oI
            have BA := Lib.hid (B5.out.trans ba)
            clear ra oI ba sa
            go_wp2_with (at_builtin; refine wpList_append_eqL rfl (.tmp 60) (.tmp 62) 22 rfl _ _ va wa rfl rfl RA.out ?_)
            go_roundw
            case rel => exact ⟨0 + 1, by omega, by go_num, by rw [EQ.out]; exact OA.out, BA.out⟩
            case measure => simp [intOf]; omega
          · have EQ : Hid (evs n a o t (0 + 1) = evs n a o t 0) := Lib.hid (by rw [EV.out, if_neg (fun q => by have := q.2 (by omega); omega)])
            clear EV
            have f4 : decide ((1 : Int) < (n : Int)) = true := decide_eq_true (by omega)
            have S3 := Lib.hid (fun w A => S2.out w A cn)
            clear S2
            simp only [Int.natCast_zero, Int.zero_add, Int.natCast_add, Int.natCast_one, Nat.zero_add] at S3
            have e2 : decide (bg a o (0 + 1) ≤ t + p) = true := decide_eq_true (by omega)
            try simp only [Nat.zero_add] at e2
            generalize bg a o 1 = g2 at S3 e2
            clear cb
            simp only [Nat.zero_mul, Nat.add_zero] at x1 x2
            generalize a 0 = ak at *
            generalize o 0 = ok at *
            go_wp2_with fail
            (with_reducible refine (OC.out _).mono ?_)
            rintro x w3 ⟨rfl, hb3⟩
            have B3 := Lib.hid (bstep (balloc BWR.out (.cells #[.int .i64 ak, .int .i64 ok] 49)) hb3)
            have c0' := (hb3.cell (p := ⟨w.heap.size, 0, none⟩) (by show w.heap.size < _; simp; omega)).trans ((cell_alloc_old (by show w.heap.size < _; omega)).trans c0)
            have c1' := (hb3.cell (p := ⟨w.heap.size, 1, none⟩) (by show w.heap.size < _; simp; omega)).trans ((cell_alloc_old (by show w.heap.size < _; omega)).trans c1)
            have z4 : w.heap.size < w3.heap.size := Nat.lt_of_lt_of_le z1 B3.out.size
            have O3 := Lib.hid (ownT_below (ownT_below OT.out (balloc (brefl wr) (.cells #[.int .i64 ak, .int .i64 ok] 49))) hb3)
            clear hb3 x1 x2 OT BWR BW c0 c1
            go_wp2_with fail
            refine (S3.out _ (A0.out.below (bstep B1.out B3.out))).mono ?_
            rintro x w5 ⟨rfl, hb5⟩
            have B5 := Lib.hid (bstep B3.out hb5)
            have O5 := Lib.hid (ownT_below O3.out hb5)
            clear hb5 O3
            go_wp2_with fail
            go_roundw
            case rel => exact ⟨0 + 1, by omega, by go_num, by rw [EQ.out]; exact O5.out, B5.out⟩
            case measure => simp [intOf]; omega
        · have EQ : Hid (evs n a o t (0 + 1) = evs n a o t 0 ++ [t + p]) := Lib.hid (by rw [EV.out, if_pos ⟨Or.inl rfl, fun q => absurd q cn⟩])
          clear EV
          have f4 : decide ((1 : Int) < (n : Int)) = false := decide_eq_false (by omega)
          clear S2
          simp only [Nat.zero_mul, Nat.add_zero] at x1 x2
          generalize a 0 = ak at *
          generalize o 0 = ok at *
          go_wp2_with fail
          (with_reducible refine (OC.out _).mono ?_)
          rintro x w3 ⟨rfl, hb3⟩
          have B3 := Lib.hid (bstep (balloc BWR.out (.cells #[.int .i64 ak, .int .i64 ok] 49)) hb3)
          have c0' := (hb3.cell (p := ⟨w.heap.size, 0, none⟩) (by show w.heap.size < _; simp; omega)).trans ((cell_alloc_old (by show w.heap.size < _; omega)).trans c0)
          have c1' := (hb3.cell (p := ⟨w.heap.size, 1, none⟩) (by show w.heap.size < _; simp; omega)).trans ((cell_alloc_old (by show w.heap.size < _; omega)).trans c1)
          have z4 : w.heap.size < w3.heap.size := Nat.lt_of_lt_of_le z1 B3.out.size
          have O3 := Lib.hid (ownT_below (ownT_below OT.out (balloc (brefl wr) (.cells #[.int .i64 ak, .int .i64 ok] 49))) hb3)
          clear hb3 x1 x2 OT BWR BW c0 c1
          obtain ⟨va, wa, ra, oI, ba, sa⟩ := appT O3.out (t + p) B3.out.size (by omega) 22
          have RA := Lib.hid ra
          have OA := Lib.hid oI
          have BA := Lib.hid (B3.out.trans ba)
          clear ra oI ba sa
          go_wp2_with (at_builtin; refine wpList_append_eqL rfl (.tmp 60) (.tmp 62) 22 rfl _ _ va wa rfl rfl RA.out ?_)
          go_roundw
          case rel => exact ⟨0 + 1, by omega, by go_num, by rw [EQ.out]; exact OA.out, BA.out⟩
          case measure => simp [intOf]; omega
      · obtain ⟨j, rfl⟩ : ∃ j, k = j + 1 := ⟨k - 1, by omega⟩
        by_cases ca : t + p < bg a o (j + 1)
        · by_cases cn : (j + 1) + 1 < n
          · by_cases cb : t + p < bg a o ((j + 1) + 1)
            · have EQ : Hid (evs n a o t ((j + 1) + 1) = evs n a o t (j + 1)) := Lib.hid (by rw [EV.out, if_neg (fun q => by rcases q.1 with q | q <;> omega)])
              clear EV
              have S1 := Lib.hid (fun w A => ST.out w A j c)
              have e1 : decide (t + p < bg a o (j + 1)) = true := decide_eq_true ca
              generalize bg a o (j + 1) = g1 at S1 e1
              clear ca
              have f3 : decide (0 < (j : Int) + 1) = true := decide_eq_true (by omega)
              have f4 : decide ((j : Int) + 1 + 1 < (n : Int)) = true := decide_eq_true (by omega)
              have S3 := Lib.hid (fun w A => S2.out w A cn)
              clear S2
              simp only [Int.natCast_add, Int.natCast_one] at S3
              have e2 : decide (bg a o ((j + 1) + 1) ≤ t + p) = false := decide_eq_false (by omega)
              try simp only [Nat.zero_add] at e2
              generalize bg a o (j + 1 + 1) = g2 at S3 e2
              clear cb
              generalize a (j + 1) = ak at *
              generalize o (j + 1) = ok at *
              go_wp2_with fail
              (with_reducible refine (OC.out _).mono ?_)
              rintro x w3 ⟨rfl, hb3⟩
              have B3 := Lib.hid (bstep (balloc BWR.out (.cells #[.int .i64 ak, .int .i64 ok] 49)) hb3)
              have c0' := (hb3.cell (p := ⟨w.heap.size, 0, none⟩) (by show w.heap.size < _; simp; omega)).trans ((cell_alloc_old (by show w.heap.size < _; omega)).trans c0)
              have c1' := (hb3.cell (p := ⟨w.heap.size, 1, none⟩) (by show w.heap.size < _; simp; omega)).trans ((cell_alloc_old (by show w.heap.size < _; omega)).trans c1)
              have z4 : w.heap.size < w3.heap.size := Nat.lt_of_lt_of_le z1 B3.out.size
              have O3 := Lib.hid (ownT_below (ownT_below OT.out (balloc (brefl wr) (.cells #[.int .i64 ak, .int .i64 ok] 49))) hb3)
              clear hb3 x1 x2 OT BWR BW c0 c1
              go_wp2_with fail
              refine (S1.out _ (A0.out.below (bstep B1.out B3.out))).mono ?_
              rintro x w4 ⟨rfl, hb4⟩
              have B4 := Lib.hid (bstep B3.out hb4)
              have d0 := (hb4.cell (p := ⟨w.heap.size, 0, none⟩) (by show w.heap.size < _; omega)).trans c0'
              have d1 := (hb4.cell (p := ⟨w.heap.size, 1, none⟩) (by show w.heap.size < _; omega)).trans c1'
              have z5 : w.heap.size < w4.heap.size := Nat.lt_of_lt_of_le z1 B4.out.size
              have O4 := Lib.hid (ownT_below O3.out hb4)
              clear hb4 c0' c1' O3
              go_wp2_with fail
              refine (S3.out _ (A0.out.below (bstep B1.out B4.out))).mono ?_
              rintro x w5 ⟨rfl, hb5⟩
              have B5 := Lib.hid (bstep B4.out hb5)
              have O5 := Lib.hid (ownT_below O4.out hb5)
              clear hb5 O4
              go_wp2_with fail
              go_roundw
              case rel => exact ⟨(j + 1) + 1, by omega, by go_num, by rw [EQ.out]; exact O5.out, B5.out⟩
              case measure => simp [intOf]; omega
            · have EQ : Hid (evs n a o t ((j + 1) + 1) = evs n a o t (j + 1)) := Lib.hid (by rw [EV.out, if_neg (fun q => by rcases q.1 with q | q <;> omega)])
              clear EV
              have S1 := Lib.hid (fun w A => ST.out w A j c)
              have e1 : decide (t + p < bg a o (j + 1)) = true := decide_eq_true ca
              generalize bg a o (j + 1) = g1 at S1 e1
              clear ca
              have f3 : decide (0 < (j : Int) + 1) = true := decide_eq_true (by omega)
              have f4 : decide ((j : Int) + 1 + 1 < (n : Int)) = true := decide_eq_true (by omega)
              have S3 := Lib.hid (fun w A => S2.out w A cn)
              clear S2
              simp only [Int.natCast_add, Int.natCast_one] at S3
              have e2 : decide (bg a o ((j + 1) + 1) ≤ t + p) = true := decide_eq_true (by omega)
              try simp only [Nat.zero_add] at e2
              generalize bg a o (j + 1 + 1) = g2 at S3 e2
              clear cb
              generalize a (j + 1) = ak at *
              generalize o (j + 1) = ok at *
              go_wp2_with fail
              (with_reducible refine (OC.out _).mono ?_)
              rintro x w3 ⟨rfl, hb3⟩
              have B3 := Lib.hid (bstep (balloc BWR.out (.cells #[.int .i64 ak, .int .i64 ok] 49)) hb3)
              have c0' := (hb3.cell (p := ⟨w.heap.size, 0, none⟩) (by show w.heap.size < _; simp; omega)).trans ((cell_alloc_old (by show w.heap.size < _; omega)).trans c0)
              have c1' := (hb3.cell (p := ⟨w.heap.size, 1, none⟩) (by show w.heap.size < _; simp; omega)).trans ((cell_alloc_old (by show w.heap.size < _; omega)).trans c1)
              have z4 : w.heap.size < w3.heap.size := Nat.lt_of_lt_of_le z1 B3.out.size
              have O3 := Lib.hid (ownT_below (ownT_below OT.out (balloc (brefl wr) (.cells #[.int .i64 ak, .int .i64 ok] 49))) hb3)
              clear hb3 x1 x2 OT BWR BW c0 c1
              go_wp2_with fail
              refine (S1.out _ (A0.out.below (bstep B1.out B3.out))).mono ?_
              rintro x w4 ⟨rfl, hb4⟩
              have B4 := Lib.hid (bstep B3.out hb4)
              have d0 := (hb4.cell (p := ⟨w.heap.size, 0, none⟩) (by show w.heap.size < _; omega)).trans c0'
              have d1 := (hb4.cell (p := ⟨w.heap.size, 1, none⟩) (by show w.heap.size < _; omega)).trans c1'
              have z5 : w.heap.size < w4.heap.size := Nat.lt_of_lt_of_le z1 B4.out.size
              have O4 := Lib.hid (ownT_below O3.out hb4)
              clear hb4 c0' c1' O3
              go_wp2_with fail
              refine (S3.out _ (A0.out.below (bstep B1.out B4.out))).mono ?_
              rintro x w5 ⟨rfl, hb5⟩
              have B5 := Lib.hid (bstep B4.out hb5)
              have O5 := Lib.hid (ownT_below O4.out hb5)
              clear hb5 O4
              go_wp2_with fail
              go_roundw
              case rel => exact ⟨(j + 1) + 1, by omega, by go_num, by rw [EQ.out]; exact O5.out, B5.out⟩
              case measure => simp [intOf]; omega
          · have EQ : Hid (evs n a o t ((j + 1) + 1) = evs n a o t (j + 1)) := Lib.hid (by rw [EV.out, if_neg (fun q => by rcases q.1 with q | q <;> omega)])
            clear EV
            have S1 := Lib.hid (fun w A => ST.out w A j c)
            have e1 : decide (t + p < bg a o (j + 1)) = true := decide_eq_true ca
            generalize bg a o (j + 1) = g1 at S1 e1
            clear ca
            have f3 : decide (0 < (j : Int) + 1) = true := decide_eq_true (by omega)
            have f4 : decide ((j : Int) + 1 + 1 < (n : Int)) = false := decide_eq_false (by omega)
            clear S2
            generalize a (j + 1) = ak at *
            generalize o (j + 1) = ok at *
            go_wp2_with fail
            (with_reducible refine (OC.out _).mono ?_)
            rintro x w3 ⟨rfl, hb3⟩
            have B3 := Lib.hid (bstep (balloc BWR.out (.cells #[.int .i64 ak, .int .i64 ok] 49)) hb3)
            have c0' := (hb3.cell (p := ⟨w.heap.size, 0, none⟩) (by show w.heap.size < _; simp; omega)).trans ((cell_alloc_old (by show w.heap.size < _; omega)).trans c0)
            have c1' := (hb3.cell (p := ⟨w.heap.size, 1, none⟩) (by show w.heap.size < _; simp; omega)).trans ((cell_alloc_old (by show w.heap.size < _; omega)).trans c1)
            have z4 : w.heap.size < w3.heap.size := Nat.lt_of_lt_of_le z1 B3.out.size
            have O3 := Lib.hid (ownT_below (ownT_below OT.out (balloc (brefl wr) (.cells #[.int .i64 ak, .int .i64 ok] 49))) hb3)
            clear hb3 x1 x2 OT BWR BW c0 c1
            go_wp2_with fail
            refine (S1.out _ (A0.out.below (bstep B1.out B3.out))).mono ?_
            rintro x w4 ⟨rfl, hb4⟩
            have B4 := Lib.hid (bstep B3.out hb4)
            have d0 := (hb4.cell (p := ⟨w.heap.size, 0, none⟩) (by show w.heap.size < _; omega)).trans c0'
            have d1 := (hb4.cell (p := ⟨w.heap.size, 1, none⟩) (by show w.heap.size < _; omega)).trans c1'
            have z5 : w.heap.size < w4.heap.size := Nat.lt_of_lt_of_le z1 B4.out.size
            have O4 := Lib.hid (ownT_below O3.out hb4)
            clear hb4 c0' c1' O3
            go_wp2_with fail
            go_roundw
            case rel => exact ⟨(j + 1) + 1, by omega, by go_num, by rw [EQ.out]; exact O4.out, B4.out⟩
            case measure => simp [intOf]; omega
        · by_cases cn : (j + 1) + 1 < n
          · by_cases cb : t + p < bg a o ((j + 1) + 1)
            · have EQ : Hid (evs n a o t ((j + 1) + 1) = evs n a o t (j + 1) ++ [t + p]) := Lib.hid (by rw [EV.out, if_pos ⟨Or.inr (by omega), fun _ => by omega⟩])
              clear EV
              have S1 := Lib.hid (fun w A => ST.out w A j c)
              have e1 : decide (t + p < bg a o (j + 1)) = false := decide_eq_false ca
              generalize bg a o (j + 1) = g1 at S1 e1
              clear ca
              have f3 : decide (0 < (j : Int) + 1) = true := decide_eq_true (by omega)
              have f4 : decide ((j : Int) + 1 + 1 < (n : Int)) = true := decide_eq_true (by omega)
              have S3 := Lib.hid (fun w A => S2.out w A cn)
              clear S2
              simp only [Int.natCast_add, Int.natCast_one] at S3
              have e2 : decide (bg a o ((j + 1) + 1) ≤ t + p) = false := decide_eq_false (by omega)
              try simp only [Nat.zero_add] at e2
              generalize bg a o (j + 1 + 1) = g2 at S3 e2
              clear cb
              generalize a (j + 1) = ak at *
              generalize o (j + 1) = ok at *
              go_wp2_with fail
              (with_reducible refine (OC.out _).mono ?_)
              rintro x w3 ⟨rfl, hb3⟩
              have B3 := Lib.hid (bstep (balloc BWR.out (.cells #[.int .i64 ak, .int .i64 ok] 49)) hb3)
              have c0' := (hb3.cell (p := ⟨w.heap.size, 0, none⟩) (by show w.heap.size < _; simp; omega)).trans ((cell_alloc_old (by show w.heap.size < _; omega)).trans c0)
              have c1' := (hb3.cell (p := ⟨w.heap.size, 1, none⟩) (by show w.heap.size < _; simp; omega)).trans ((cell_alloc_old (by show w.heap.size < _; omega)).trans c1)
              have z4 : w.heap.size < w3.heap.size := Nat.lt_of_lt_of_le z1 B3.out.size
              have O3 := Lib.hid (ownT_below (ownT_below OT.out (balloc (brefl wr) (.cells #[.int .i64 ak, .int .i64 ok] 49))) hb3)
              clear hb3 x1 x2 OT BWR BW c0 c1
              go_wp2_with fail
              refine (S1.out _ (A0.out.below (bstep B1.out B3.out))).mono ?_
              rintro x w4 ⟨rfl, hb4⟩
              have B4 := Lib.hid (bstep B3.out hb4)
              have d0 := (hb4.cell (p := ⟨w.heap.size, 0, none⟩) (by show w.heap.size < _; omega)).trans c0'
              have d1 := (hb4.cell (p := ⟨w.heap.size, 1, none⟩) (by show w.heap.size < _; omega)).trans c1'
              have z5 : w.heap.size < w4.heap.size := Nat.lt_of_lt_of_le z1 B4.out.size
              have O4 := Lib.hid (ownT_below O3.out hb4)
              clear hb4 c0' c1' O3
              go_wp2_with fail
              refine (S3.out _ (A0.out.below (bstep B1.out B4.out))).mono ?_
              rintro x w5 ⟨rfl, hb5⟩
              have B5 := Lib.hid (bstep B4.out hb5)
              have O5 := Lib.hid (ownT_below O4.out hb5)
              clear hb5 O4
              obtain ⟨va, wa, ra, oI, ba, sa⟩ := appT O5.out (t + p) B5.out.size (by omega) 22
              have RA := Lib.hid ra
              have OA := Lib.hid oI
              have BA := Lib.hid (B5.out.trans ba)
              clear ra oI ba sa
              go_wp2_with (at_builtin; refine wpList_append_eqL rfl (.tmp 60) (.tmp 62) 22 rfl _ _ va wa rfl rfl RA.out ?_)
              go_roundw
              case rel => exact ⟨(j + 1) + 1, by omega, by go_num, by rw [EQ.out]; exact OA.out, BA.out⟩
              case measure => simp [intOf]; omega
            · have EQ : Hid (evs n a o t ((j + 1) + 1) = evs n a o t (j + 1)) := Lib.hid (by rw [EV.out, if_neg (fun q => by have := q.2 (by omega); omega)])
              clear EV
              have S1 := Lib.hid (fun w A => ST.out w A j c)
              have e1 : decide (t + p < bg a o (j + 1)) = false := decide_eq_false ca
              generalize bg a o (j + 1) = g1 at S1 e1
              clear ca
              have f3 : decide (0 < (j : Int) + 1) = true := decide_eq_true (by omega)
              have f4 : decide ((j : Int) + 1 + 1 < (n : Int)) = true := decide_eq_true (by omega)
              have S3 := Lib.hid (fun w A => S2.out w A cn)
              clear S2
              simp only [Int.natCast_add, Int.natCast_one] at S3
              have e2 : decide (bg a o ((j + 1) + 1) ≤ t + p) = true := decide_eq_true (by omega)
              try simp only [Nat.zero_add] at e2
              generalize bg a o (j + 1 + 1) = g2 at S3 e2
              clear cb
              generalize a (j + 1) = ak at *
              generalize o (j + 1) = ok at *
              go_wp2_with fail
              (with_reducible refine (OC.out _).mono ?_)
              rintro x w3 ⟨rfl, hb3⟩
              have B3 := Lib.hid (bstep (balloc BWR.out (.cells #[.int .i64 ak, .int .i64 ok] 49)) hb3)
              have c0' := (hb3.cell (p := ⟨w.heap.size, 0, none⟩) (by show w.heap.size < _; simp; omega)).trans ((cell_alloc_old (by show w.heap.size < _; omega)).trans c0)
              have c1' := (hb3.cell (p := ⟨w.heap.size, 1, none⟩) (by show w.heap.size < _; simp; omega)).trans ((cell_alloc_old (by show w.heap.size < _; omega)).trans c1)
              have z4 : w.heap.size < w3.heap.size := Nat.lt_of_lt_of_le z1 B3.out.size
              have O3 := Lib.hid (ownT_below (ownT_below OT.out (balloc (brefl wr) (.cells #[.int .i64 ak, .int .i64 ok] 49))) hb3)
              clear hb3 x1 x2 OT BWR BW c0 c1
              go_wp2_with fail
              refine (S1.out _ (A0.out.below (bstep B1.out B3.out))).mono ?_
              rintro x w4 ⟨rfl, hb4⟩
              have B4 := Lib.hid (bstep B3.out hb4)
              have d0 := (hb4.cell (p := ⟨w.heap.size, 0, none⟩) (by show w.heap.size < _; omega)).trans c0'
              have d1 := (hb4.cell (p := ⟨w.heap.size, 1, none⟩) (by show w.heap.size < _; omega)).trans c1'
              have z5 : w.heap.size < w4.heap.size := Nat.lt_of_lt_of_le z1 B4.out.size
              have O4 := Lib.hid (ownT_below O3.out hb4)
              clear hb4 c0' c1' O3
              go_wp2_with fail
              refine (S3.out _ (A0.out.below (bstep B1.out B4.out))).mono ?_
              rintro x w5 ⟨rfl, hb5⟩
              have B5 := Lib.hid (bstep B4.out hb5)
              have O5 := Lib.hid (ownT_below O4.out hb5)
              clear hb5 O4
              go_wp2_with fail
              go_roundw
              case rel => exact ⟨(j + 1) + 1, by omega, by go_num, by rw [EQ.out]; exact O5.out, B5.out⟩
              case measure => simp [intOf]; omega
          · have EQ : Hid (evs n a o t ((j + 1) + 1) = evs n a o t (j + 1) ++ [t + p]) := Lib.hid (by rw [EV.out, if_pos ⟨Or.inr (by omega), fun q => absurd q cn⟩])
            clear EV
            have S1 := Lib.hid (fun w A => ST.out w A j c)
            have e1 : decide (t + p < bg a o (j + 1)) = false := decide_eq_false ca
            generalize bg a o (j + 1) = g1 at S1 e1
            clear ca
            have f3 : decide (0 < (j : Int) + 1) = true := decide_eq_true (by omega)
            have f4 : decide ((j : Int) + 1 + 1 < (n : Int)) = false := decide_eq_false (by omega)
            clear S2
            generalize a (j + 1) = ak at *
            generalize o (j + 1) = ok at *
            go_wp2_with fail
            (with_reducible refine (OC.out _).mono ?_)
            rintro x w3 ⟨rfl, hb3⟩
            have B3 := Lib.hid (bstep (balloc BWR.out (.cells #[.int .i64 ak, .int .i64 ok] 49)) hb3)
            have c0' := (hb3.cell (p := ⟨w.heap.size, 0, none⟩) (by show w.heap.size < _; simp; omega)).trans ((cell_alloc_old (by show w.heap.size < _; omega)).trans c0)
            have c1' := (hb3.cell (p := ⟨w.heap.size, 1, none⟩) (by show w.heap.size < _; simp; omega)).trans ((cell_alloc_old (by show w.heap.size < _; omega)).trans c1)
            have z4 : w.heap.size < w3.heap.size := Nat.lt_of_lt_of_le z1 B3.out.size
            have O3 := Lib.hid (ownT_below (ownT_below OT.out (balloc (brefl wr) (.cells #[.int .i64 ak, .int .i64 ok] 49))) hb3)
            clear hb3 x1 x2 OT BWR BW c0 c1
            go_wp2_with fail
            refine (S1.out _ (A0.out.below (bstep B1.out B3.out))).mono ?_
            rintro x w4 ⟨rfl, hb4⟩
            have B4 := Lib.hid (bstep B3.out hb4)
            have d0 := (hb4.cell (p := ⟨w.heap.size, 0, none⟩) (by show w.heap.size < _; omega)).trans c0'
            have d1 := (hb4.cell (p := ⟨w.heap.size, 1, none⟩) (by show w.heap.size < _; omega)).trans c1'
            have z5 : w.heap.size < w4.heap.size := Nat.lt_of_lt_of_le z1 B4.out.size
            have O4 := Lib.hid (ownT_below O3.out hb4)
            clear hb4 c0' c1' O3
            obtain ⟨va, wa, ra, oI, ba, sa⟩ := appT O4.out (t + p) B4.out.size (by omega) 22
            have RA := Lib.hid ra
            have OA := Lib.hid oI
            have BA := Lib.hid (B4.out.trans ba)
            clear ra oI ba sa
            go_wp2_with (at_builtin; refine wpList_append_eqL rfl (.tmp 60) (.tmp 62) 22 rfl _ _ va wa rfl rfl RA.out ?_)
            go_roundw
            case rel => exact ⟨(j + 1) + 1, by omega, by go_num, by rw [EQ.out]; exact OA.out, BA.out⟩
            case measure => simp [intOf]; omega
    · have f1 : decide ((k : Int) < (n : Int)) = false := by rw [decide_eq_false_iff_not]; omega
      obtain rfl : n = k := by omega
      go_wp2_with fail
      go_ret2
      exact ⟨⟨_, rfl, OT.out.mono B1.out.size⟩, BW.out⟩
end Go.Proofs.Ytoecgabdjpgleaa.Lp
