/-
  The program's small functions of candidates; cmp.Compare, cmp.Or.
  Conditions: none but that the candidates lie in memory.
-/
import Derived.Test.YtkmbeogmgehnfaaVoQ
namespace Go.Proofs.Ytkmbeogmgehnfaa.Vo
open Go.RowKit Go.ChangeShapes Go.WideShapes Go.ChangeAt Go.Joins Fl Hu
set_option linter.unusedVariables false
set_option linter.unusedSimpArgs false

theorem isWrong_c (c : Cd) (w : World) : Calls Try.prog 35 #[CV c] w fun e w' => e = .returned (.bool (!decide (okC c))) ∧ Below w.heap.size w w' := by
  obtain ⟨o, d, j, s⟩ := c
  have B := Lib.hid (balloc (brefl w) (.cells #[.int .i64 o, .int .i64 d, .int .i64 j, .int .i64 s] 44))
  show Calls Try.prog 35 #[.agg #[.int .i64 o, .int .i64 d, .int .i64 j, .int .i64 s]] w fun e w' => e = .returned (.bool (!decide (okC ⟨o, d, j, s⟩))) ∧ Below w.heap.size w w'
  by_cases c0 : o < -68719476736
  · have e0 := decide_eq_true c0
    rw [show (!decide (okC ⟨o, d, j, s⟩)) = true from by rw [decide_eq_false (fun q => by unfold okC at q; simp only at q; omega)]; rfl]
    go_enter Try.func35, Try.ntmps35
    go_wp2_with fail
    go_ret
    exact ⟨rfl, B.out⟩
  · have e0 := decide_eq_false c0
    by_cases c1 : 68719476736 < o
    · have e1 := decide_eq_true c1
      rw [show (!decide (okC ⟨o, d, j, s⟩)) = true from by rw [decide_eq_false (fun q => by unfold okC at q; simp only at q; omega)]; rfl]
      go_enter Try.func35, Try.ntmps35
      go_wp2_with fail
      go_ret
      exact ⟨rfl, B.out⟩
    · have e1 := decide_eq_false c1
      by_cases c2 : d < 0
      · have e2 := decide_eq_true c2
        rw [show (!decide (okC ⟨o, d, j, s⟩)) = true from by rw [decide_eq_false (fun q => by unfold okC at q; simp only at q; omega)]; rfl]
        go_enter Try.func35, Try.ntmps35
        go_wp2_with fail
        go_ret
        exact ⟨rfl, B.out⟩
      · have e2 := decide_eq_false c2
        by_cases c3 : 68719476736 < d
        · have e3 := decide_eq_true c3
          rw [show (!decide (okC ⟨o, d, j, s⟩)) = true from by rw [decide_eq_false (fun q => by unfold okC at q; simp only at q; omega)]; rfl]
          go_enter Try.func35, Try.ntmps35
          go_wp2_with fail
          go_ret
          exact ⟨rfl, B.out⟩
        · have e3 := decide_eq_false c3
          by_cases c4 : j < 0
          · have e4 := decide_eq_true c4
            rw [show (!decide (okC ⟨o, d, j, s⟩)) = true from by rw [decide_eq_false (fun q => by unfold okC at q; simp only at q; omega)]; rfl]
            go_enter Try.func35, Try.ntmps35
            go_wp2_with fail
            go_ret
            exact ⟨rfl, B.out⟩
          · have e4 := decide_eq_false c4
            by_cases c5 : 68719476736 < j
            · have e5 := decide_eq_true c5
              rw [show (!decide (okC ⟨o, d, j, s⟩)) = true from by rw [decide_eq_false (fun q => by unfold okC at q; simp only at q; omega)]; rfl]
              go_enter Try.func35, Try.ntmps35
              go_wp2_with fail
              go_ret
              exact ⟨rfl, B.out⟩
            · have e5 := decide_eq_false c5
              by_cases c6 : s < 0
              · have e6 := decide_eq_true c6
                rw [show (!decide (okC ⟨o, d, j, s⟩)) = true from by rw [decide_eq_false (fun q => by unfold okC at q; simp only at q; omega)]; rfl]
                go_enter Try.func35, Try.ntmps35
                go_wp2_with fail
                go_ret
                exact ⟨rfl, B.out⟩
              · have e6 := decide_eq_false c6
                by_cases c7 : 16 < s
                · have e7 := decide_eq_true c7
                  rw [show (!decide (okC ⟨o, d, j, s⟩)) = true from by rw [decide_eq_false (fun q => by unfold okC at q; simp only at q; omega)]; rfl]
                  go_enter Try.func35, Try.ntmps35
                  go_wp2_with fail
                  go_ret
                  exact ⟨rfl, B.out⟩
                · have e7 := decide_eq_false c7
                  rw [show (!decide (okC ⟨o, d, j, s⟩)) = false from by rw [decide_eq_true (by unfold okC; simp only; omega)]; rfl]
                  go_enter Try.func35, Try.ntmps35
                  go_wp2_with fail
                  go_ret
                  exact ⟨rfl, B.out⟩
theorem spanOf_c (c : Cd) (w : World) (h : okC c) : Calls Try.prog 36 #[CV c] w fun e w' => e = .returned (.agg #[.int .i64 (c.off - c.dist), .int .i64 (c.off + c.dist)]) ∧ Below w.heap.size w w' := by
  obtain ⟨k1, k2, _⟩ := sp_in h
  obtain ⟨o, d, j, s⟩ := c
  simp only at k1 k2
  have hb0 := balloc (brefl w) (.cells #[.int .i64 o, .int .i64 d, .int .i64 j, .int .i64 s] 44)
  have NB := Lib.hid (new4 w o d j s 44)
  show Calls Try.prog 36 #[.agg #[.int .i64 o, .int .i64 d, .int .i64 j, .int .i64 s]] w fun e w' => e = .returned (.agg #[.int .i64 (o - d), .int .i64 (o + d)]) ∧ Below w.heap.size w w'
  clear h hb0
  go_enter Try.func36, Try.ntmps36
  go_wp2_with fail
  exact bodyPost_ret (v := .agg #[.int .i64 (o - d), .int .i64 (o + d)]) (by simp [results, Try.results36, go_sem]) rfl ⟨rfl, by repeat (first | exact brefl _ | refine balloc ?_ _ | refine bdrew ?_ _ | refine Below.setCell ?_ (by first | (simp; done) | (simp; omega)) _ )⟩
theorem badness_c (c : Cd) (w : World) (h : okC c) : Calls Try.prog 50 #[CV c] w fun e w' => e = .returned (.int .i64 (key c)) ∧ Below w.heap.size w w' := by
  obtain ⟨k1, k2⟩ := key_in h
  obtain ⟨o, d, j, s⟩ := c
  simp only at k1 k2
  have B := Lib.hid (balloc (brefl w) (.cells #[.int .i64 o, .int .i64 d, .int .i64 j, .int .i64 s] 44))
  show Calls Try.prog 50 #[.agg #[.int .i64 o, .int .i64 d, .int .i64 j, .int .i64 s]] w fun e w' => e = .returned (.int .i64 (s * 1572864 + d)) ∧ Below w.heap.size w w'
  clear h
  go_enter Try.func50, Try.ntmps50
  go_wp2_with fail
  go_ret
  exact ⟨rfl, B.out⟩
theorem weight_c (c : Cd) (w : World) (h : okC c) : Calls Try.prog 30 #[CV c] w fun e w' => e = .returned (.int .i64 (wt c)) ∧ Below w.heap.size w w' := by
  obtain ⟨o, d, j, s⟩ := c
  unfold okC at h
  simp only at h
  have B := Lib.hid (balloc (brefl w) (.cells #[.int .i64 o, .int .i64 d, .int .i64 j, .int .i64 s] 44))
  obtain ⟨q, hq⟩ : ∃ q, d / 1024 = q := ⟨_, rfl⟩
  have q0 : 0 ≤ q := hq ▸ Int.ediv_nonneg h.2.1.1 (by decide)
  have q1 : q ≤ d := hq ▸ Int.ediv_le_self _ h.2.1.1
  obtain ⟨p, hp⟩ : ∃ p, (1048576 : Int) / (1 + q) = p := ⟨_, rfl⟩
  have p0 : 0 ≤ p := hp ▸ Int.ediv_nonneg (by decide) (by omega)
  have p1 : p ≤ 1048576 := hp ▸ Int.ediv_le_self _ (by decide)
  have k1 : d.tdiv 1024 = q := by rw [Int.tdiv_eq_ediv_of_nonneg h.2.1.1]; exact hq
  have k2 : IntKind.i64.wrap q = q := wrap_in (by omega) (by omega)
  have k3 : IntKind.i64.wrap (1 + q) = 1 + q := wrap_in (by omega) (by omega)
  have k4 : (1048576 : Int).tdiv (1 + q) = p := by rw [Int.tdiv_eq_ediv_of_nonneg (by decide)]; exact hp
  have k5 : IntKind.i64.wrap p = p := wrap_in (by omega) (by omega)
  have k6 : ((1 + q : Int) == 0) = false := by rw [beq_eq_false_iff_ne]; omega
  have k7 : ¬ (1 + q = 0) := by omega
  have W : Hid (wt ⟨o, d, j, s⟩ = max p 1) := Lib.hid (by unfold wt; simp only; rw [hq, hp])
  show Calls Try.prog 30 #[.agg #[.int .i64 o, .int .i64 d, .int .i64 j, .int .i64 s]] w fun e w' => e = .returned (.int .i64 (wt ⟨o, d, j, s⟩)) ∧ Below w.heap.size w w'
  rw [W.out]
  clear h hq hp
  go_enter Try.func30, Try.ntmps30
  go_wp2_with fail
  · go_ret
    exact ⟨by rw [Int.max_eq_left (by omega)]; rfl, B.out⟩
  · go_ret
    exact ⟨by rw [Int.max_eq_right (by omega)]; rfl, B.out⟩
theorem gap_c (c c' : Cd) (w : World) (h : okC c) (h' : okC c') : Calls Try.prog 31 #[CV c, CV c'] w fun e w' => e = .returned (.int .i64 (far c.off c'.off)) ∧ Below w.heap.size w w' := by
  have o1 := h.1
  have o2 := h'.1
  obtain ⟨o, d, j, s⟩ := c
  obtain ⟨o', d', j', s'⟩ := c'
  simp only at o1 o2
  have k1 : IntKind.i64.wrap (o - o') = o - o' := wrap_in (by omega) (by omega)
  have k2 : IntKind.i64.wrap (o' - o) = o' - o := wrap_in (by omega) (by omega)
  have FA : Hid (o' - o ≤ o - o' → far o o' = o - o') := Lib.hid fun q => by unfold far; split <;> omega
  have FB : Hid (o - o' ≤ o' - o → far o o' = o' - o) := Lib.hid fun q => by unfold far; split <;> omega
  have N0 := Lib.hid (new4 w o d j s 44)
  have B0 := Lib.hid (balloc (brefl w) (.cells #[.int .i64 o, .int .i64 d, .int .i64 j, .int .i64 s] 44))
  show Calls Try.prog 31 #[.agg #[.int .i64 o, .int .i64 d, .int .i64 j, .int .i64 s], .agg #[.int .i64 o', .int .i64 d', .int .i64 j', .int .i64 s']] w fun e w' => e = .returned (.int .i64 (far o o')) ∧ Below w.heap.size w w'
  clear h h' o1 o2
  rcases Int.lt_or_le (o - o') (o' - o) with q | q
  · rw [FB.out (by omega)]
    have e1 := decide_eq_true q
    have mx : max (o - o') (o' - o) = o' - o := by omega
    go_enter Try.func31, Try.ntmps31
    go_wp2_with fail
    all_goals
      go_ret
      exact ⟨by first | rfl | (rw [mx]; rfl), balloc B0.out _⟩
  · rw [FA.out q]
    have e1 : decide (o - o' < o' - o) = false := decide_eq_false (by omega)
    have mx : max (o - o') (o' - o) = o - o' := by omega
    go_enter Try.func31, Try.ntmps31
    go_wp2_with fail
    all_goals
      go_ret
      exact ⟨by first | rfl | (rw [mx]; rfl), balloc B0.out _⟩
theorem fl_mod {s a : Int} (ha : 0 < a) : (s.tmod a < 0 → s / a = s.tdiv a - 1) ∧ (¬ s.tmod a < 0 → s / a = s.tdiv a) := by
  have e := Int.mul_tdiv_add_tmod s a
  obtain ⟨f1, f2⟩ := fl_adj (s := s) ha
  rw [Int.mul_comm] at e
  exact ⟨fun q => f1 (by omega), fun q => f2 (by omega)⟩
theorem tdiv_bd {s a : Int} (ha : 0 < a) (hs : -4611686018427387904 ≤ s ∧ s ≤ 4611686018427387904) : -4611686018427387904 ≤ s.tdiv a ∧ s.tdiv a ≤ 4611686018427387904 := by
  constructor
  · rcases Int.le_total 0 s with q | q
    · have := Int.tdiv_nonneg (a := s) (b := a) q (by omega)
      omega
    · rw [← Int.neg_neg s, Int.neg_tdiv]
      have : (-s).tdiv a ≤ -s := by rw [Int.tdiv_eq_ediv_of_nonneg (by omega)]; exact Int.ediv_le_self _ (by omega)
      omega
  · rcases Int.le_total 0 s with q | q
    · rw [Int.tdiv_eq_ediv_of_nonneg q]; exact Int.le_trans (Int.ediv_le_self _ q) (by omega)
    · have : s.tdiv a ≤ 0 := by
        rw [← Int.neg_neg s, Int.neg_tdiv]
        have := Int.tdiv_nonneg (a := -s) (b := a) (by omega) (by omega)
        omega
      omega
theorem roundedDown_c (s a : Int) (w : World) (ha : 0 < a) (hm : a ≤ 4611686018427387904) (hs : -4611686018427387904 ≤ s ∧ s ≤ 4611686018427387904) : Calls Try.prog 32 #[.int .i64 s, .int .i64 a] w fun e w' => e = .returned (.int .i64 (s / a)) ∧ w' = w := by
  obtain ⟨f1, f2⟩ := fl_mod (s := s) ha
  obtain ⟨t1, t2⟩ := tdiv_bd ha hs
  have em1 := Int.tmod_lt_of_pos s ha
  have em2 := Int.lt_tmod_of_pos s ha
  have F1 := Lib.hid f1
  have F2 := Lib.hid f2
  obtain ⟨q, hq⟩ : ∃ q, s.tdiv a = q := ⟨_, rfl⟩
  obtain ⟨r, hr⟩ : ∃ r, s.tmod a = r := ⟨_, rfl⟩
  rw [hq] at t1 t2 F1 F2
  rw [hr] at em1 em2 F1 F2
  have a1 : IntKind.i64.wrap q = q := wrap_in (by omega) (by omega)
  have a2 : IntKind.i64.wrap (q - 1) = q - 1 := wrap_in (by omega) (by omega)
  have a3 : IntKind.i64.wrap r = r := wrap_in (by omega) (by omega)
  have a7 : (a == 0) = false := by rw [beq_eq_false_iff_ne]; omega
  have a8 : ¬ a = 0 := by omega
  clear f1 f2
  by_cases c : r < 0
  · have e1 := decide_eq_true c
    rw [F1.out c]
    go_enter Try.func32, Try.ntmps32
    go_wp2_with fail
    go_ret
    exact ⟨rfl, rfl⟩
  · have e1 := decide_eq_false c
    rw [F2.out c]
    go_enter Try.func32, Try.ntmps32
    go_wp2_with fail
    go_ret
    exact ⟨rfl, rfl⟩
theorem isNaN_c (a : Int) (w : World) : Calls Try.prog 59 #[.int .i64 a] w fun e w' => e = .returned (.bool false) ∧ w' = w := by
  go_enter Try.func59, Try.ntmps59
  go_wp2_with fail
  go_ret
  exact ⟨rfl, rfl⟩
def cmpI (a b : Int) : Int := if a < b then -1 else if b < a then 1 else 0
theorem compare_c (a b : Int) (w : World) : Calls Try.prog 49 #[.int .i64 a, .int .i64 b] w fun e w' => e = .returned (.int .i64 (cmpI a b)) ∧ w' = w := by
  have I1 := Lib.hid (fun w => isNaN_c a w)
  have I2 := Lib.hid (fun w => isNaN_c b w)
  by_cases c1 : a < b
  · have e1 := decide_eq_true c1
    rw [show cmpI a b = -1 from if_pos c1]
    go_enter Try.func49, Try.ntmps49
    go_wp2_with fail
    refine (I1.out _).mono ?_
    rintro e w1 ⟨rfl, rfl⟩
    go_wp2_with fail
    refine (I2.out _).mono ?_
    rintro e w1 ⟨rfl, rfl⟩
    go_wp2_with fail
    go_ret
    exact ⟨rfl, rfl⟩
  · have e1 := decide_eq_false c1
    by_cases c2 : b < a
    · have e2 := decide_eq_true c2
      rw [show cmpI a b = 1 from (if_neg c1).trans (if_pos c2)]
      go_enter Try.func49, Try.ntmps49
      go_wp2_with fail
      refine (I1.out _).mono ?_
      rintro e w1 ⟨rfl, rfl⟩
      go_wp2_with fail
      refine (I2.out _).mono ?_
      rintro e w1 ⟨rfl, rfl⟩
      go_wp2_with fail
      go_ret
      exact ⟨rfl, rfl⟩
    · have e2 := decide_eq_false c2
      rw [show cmpI a b = 0 from (if_neg c1).trans (if_neg c2)]
      go_enter Try.func49, Try.ntmps49
      go_wp2_with fail
      refine (I1.out _).mono ?_
      rintro e w1 ⟨rfl, rfl⟩
      go_wp2_with fail
      refine (I2.out _).mono ?_
      rintro e w1 ⟨rfl, rfl⟩
      go_wp2_with fail
      go_ret
      exact ⟨rfl, rfl⟩
theorem isNaNI_c (a : Int) (w : World) : Calls Try.prog 60 #[.int .i64 a] w fun e w' => e = .returned (.bool false) ∧ w' = w := by
  go_enter Try.func60, Try.ntmps60
  go_wp2_with fail
  go_ret
  exact ⟨rfl, rfl⟩
theorem compareI_c (a b : Int) (w : World) : Calls Try.prog 51 #[.int .i64 a, .int .i64 b] w fun e w' => e = .returned (.int .i64 (cmpI a b)) ∧ w' = w := by
  have I1 := Lib.hid (fun w => isNaNI_c a w)
  have I2 := Lib.hid (fun w => isNaNI_c b w)
  by_cases c1 : a < b
  · have e1 := decide_eq_true c1
    rw [show cmpI a b = -1 from if_pos c1]
    go_enter Try.func51, Try.ntmps51
    go_wp2_with fail
    refine (I1.out _).mono ?_
    rintro e w1 ⟨rfl, rfl⟩
    go_wp2_with fail
    refine (I2.out _).mono ?_
    rintro e w1 ⟨rfl, rfl⟩
    go_wp2_with fail
    go_ret
    exact ⟨rfl, rfl⟩
  · have e1 := decide_eq_false c1
    by_cases c2 : b < a
    · have e2 := decide_eq_true c2
      rw [show cmpI a b = 1 from (if_neg c1).trans (if_pos c2)]
      go_enter Try.func51, Try.ntmps51
      go_wp2_with fail
      refine (I1.out _).mono ?_
      rintro e w1 ⟨rfl, rfl⟩
      go_wp2_with fail
      refine (I2.out _).mono ?_
      rintro e w1 ⟨rfl, rfl⟩
      go_wp2_with fail
      go_ret
      exact ⟨rfl, rfl⟩
    · have e2 := decide_eq_false c2
      rw [show cmpI a b = 0 from (if_neg c1).trans (if_neg c2)]
      go_enter Try.func51, Try.ntmps51
      go_wp2_with fail
      refine (I1.out _).mono ?_
      rintro e w1 ⟨rfl, rfl⟩
      go_wp2_with fail
      refine (I2.out _).mono ?_
      rintro e w1 ⟨rfl, rfl⟩
      go_wp2_with fail
      go_ret
      exact ⟨rfl, rfl⟩
set_option maxRecDepth 100000 in
set_option maxHeartbeats 2000000 in
/-- cmp.Or of two numbers. -/
theorem Or_c {w : World} {b : Nat} {x y : Int} (hx : w.cell? ⟨b, 0, none⟩ = some (.int .i64 x)) (hy : w.cell? ⟨b, 1, none⟩ = some (.int .i64 y)) :
    Calls Try.prog 48 #[.slice (some ⟨b, 0, none⟩) 2 2] w fun e w' => e = .returned (.int .i64 (if x = 0 then y else x)) ∧ w' = w := by
  have HX := Lib.hid hx
  have HY := Lib.hid hy
  obtain ⟨r, hr⟩ : ∃ r, (if x = 0 then y else x) = r := ⟨_, rfl⟩
  have R1 : Hid (¬ x = 0 → r = x) := Lib.hid fun q => by rw [← hr, if_neg q]
  have R2 : Hid (x = 0 → r = y) := Lib.hid fun q => by rw [← hr, if_pos q]
  rw [hr]
  clear hx hy hr
  go_enter Try.func48, Try.ntmps48
  go_wp2_with fail
  go_loopw [8] (fun iv wr => ∃ k : Nat, k ≤ 2 ∧ iv = .int .i64 (k : Nat) ∧ (1 ≤ k → x = 0) ∧ (2 ≤ k → y = 0) ∧ wr = w) (fun iv _ => 2 - (intOf iv).toNat)
  case atStart => exact ⟨0, by omega, rfl, by omega, by omega, rfl⟩
  case round =>
    obtain ⟨k, hk, rfl, hx, hy, rfl⟩ := hrel
    have ZX := Lib.hid hx
    have ZY := Lib.hid hy
    clear hx hy
    rcases Nat.lt_trichotomy k 1 with c | c | c
    · obtain rfl : k = 0 := by omega
      have y0 := HX.out
      by_cases q : x = 0
      · have e1 : (x != 0) = false := by simpa using q
        have e2 : (x == 0) = true := by simpa using q
        go_wp2_with fail
        exact ⟨⟨1, by omega, rfl, fun _ => q, fun q => absurd q (by omega), by first | trivial | rfl⟩, by simp [intOf]⟩
      · have e1 : (x != 0) = true := by simpa using q
        have e2 : (x == 0) = false := by simpa using q
        go_wp2_with fail
        go_ret
        exact ⟨by rw [R1.out q]; rfl, rfl⟩
    · subst c
      have y0 := HY.out
      by_cases q : y = 0
      · have e1 : (y != 0) = false := by simpa using q
        have e2 : (y == 0) = true := by simpa using q
        go_wp2_with fail
        exact ⟨⟨2, by omega, rfl, fun _ => ZX.out (by omega), fun _ => q, by first | trivial | rfl⟩, by simp [intOf]⟩
      · have e1 : (y != 0) = true := by simpa using q
        have e2 : (y == 0) = false := by simpa using q
        go_wp2_with fail
        go_ret
        exact ⟨by rw [R2.out (ZX.out (Nat.le_refl _))]; rfl, rfl⟩
    · obtain rfl : k = 2 := by omega
      go_wp2_with fail
      go_ret
      exact ⟨by rw [R2.out (ZX.out (by omega)), ZY.out (by omega)]; rfl, rfl⟩
end Go.Proofs.Ytkmbeogmgehnfaa.Vo
