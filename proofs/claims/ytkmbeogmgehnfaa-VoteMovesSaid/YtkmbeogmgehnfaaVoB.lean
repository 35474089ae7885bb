/-
  The document's small functions of candidates.
  Conditions: none but that the candidates lie in memory.
-/
import Derived.Test.YtkmbeogmgehnfaaVoA
namespace Go.Proofs.Ytkmbeogmgehnfaa.Vo
open Go.RowKit Go.ChangeShapes Go.WideShapes Go.ChangeAt Go.Joins Fl Hu
set_option linter.unusedVariables false
set_option linter.unusedSimpArgs false

theorem rIs_c (c : Cd) (w : World) : Calls Try.prog 40 #[CV c] w fun e w' => e = .returned (.bool (decide (okC c))) ∧ Below w.heap.size w w' := by
  obtain ⟨o, d, j, s⟩ := c
  have B := Lib.hid (balloc (brefl w) (.cells #[.int .i64 o, .int .i64 d, .int .i64 j, .int .i64 s] 44))
  have N := Lib.hid (new4 w o d j s 44)
  show Calls Try.prog 40 #[.agg #[.int .i64 o, .int .i64 d, .int .i64 j, .int .i64 s]] w fun e w' => e = .returned (.bool (decide (okC ⟨o, d, j, s⟩))) ∧ Below w.heap.size w w'
  by_cases c0 : -68719476736 ≤ o
  · have e0 := decide_eq_true c0
    by_cases c1 : o ≤ 68719476736
    · have e1 := decide_eq_true c1
      by_cases c2 : 0 ≤ d
      · have e2 := decide_eq_true c2
        by_cases c3 : d ≤ 68719476736
        · have e3 := decide_eq_true c3
          by_cases c4 : 0 ≤ j
          · have e4 := decide_eq_true c4
            by_cases c5 : j ≤ 68719476736
            · have e5 := decide_eq_true c5
              by_cases c6 : 0 ≤ s
              · have e6 := decide_eq_true c6
                by_cases c7 : s ≤ 16
                · have e7 := decide_eq_true c7
                  rw [show decide (okC ⟨o, d, j, s⟩) = true from decide_eq_true ⟨⟨c0, c1⟩, ⟨c2, c3⟩, ⟨c4, c5⟩, c6, c7⟩]
                  go_enter Try.func40, Try.ntmps40
                  go_wp2_with fail
                  go_ret
                  exact ⟨rfl, B.out⟩
                · have e7 := decide_eq_false c7
                  rw [show decide (okC ⟨o, d, j, s⟩) = false from decide_eq_false fun q => c7 q.2.2.2.2]
                  go_enter Try.func40, Try.ntmps40
                  go_wp2_with fail
                  go_ret
                  exact ⟨rfl, B.out⟩
              · have e6 := decide_eq_false c6
                rw [show decide (okC ⟨o, d, j, s⟩) = false from decide_eq_false fun q => c6 q.2.2.2.1]
                go_enter Try.func40, Try.ntmps40
                go_wp2_with fail
                go_ret
                exact ⟨rfl, B.out⟩
            · have e5 := decide_eq_false c5
              rw [show decide (okC ⟨o, d, j, s⟩) = false from decide_eq_false fun q => c5 q.2.2.1.2]
              go_enter Try.func40, Try.ntmps40
              go_wp2_with fail
              go_ret
              exact ⟨rfl, B.out⟩
          · have e4 := decide_eq_false c4
            rw [show decide (okC ⟨o, d, j, s⟩) = false from decide_eq_false fun q => c4 q.2.2.1.1]
            go_enter Try.func40, Try.ntmps40
            go_wp2_with fail
            go_ret
            exact ⟨rfl, B.out⟩
        · have e3 := decide_eq_false c3
          rw [show decide (okC ⟨o, d, j, s⟩) = false from decide_eq_false fun q => c3 q.2.1.2]
          go_enter Try.func40, Try.ntmps40
          go_wp2_with fail
          go_ret
          exact ⟨rfl, B.out⟩
      · have e2 := decide_eq_false c2
        rw [show decide (okC ⟨o, d, j, s⟩) = false from decide_eq_false fun q => c2 q.2.1.1]
        go_enter Try.func40, Try.ntmps40
        go_wp2_with fail
        go_ret
        exact ⟨rfl, B.out⟩
    · have e1 := decide_eq_false c1
      rw [show decide (okC ⟨o, d, j, s⟩) = false from decide_eq_false fun q => c1 q.1.2]
      go_enter Try.func40, Try.ntmps40
      go_wp2_with fail
      go_ret
      exact ⟨rfl, B.out⟩
  · have e0 := decide_eq_false c0
    rw [show decide (okC ⟨o, d, j, s⟩) = false from decide_eq_false fun q => c0 q.1.1]
    go_enter Try.func40, Try.ntmps40
    go_wp2_with fail
    go_ret
    exact ⟨rfl, B.out⟩
/-- a span's ends are small. -/
theorem sp_in {c : Cd} (h : okC c) : IntKind.i64.wrap (c.off - c.dist) = c.off - c.dist ∧ IntKind.i64.wrap (c.off + c.dist) = c.off + c.dist ∧ -137438953472 ≤ c.off - c.dist ∧ c.off - c.dist ≤ c.off ∧ c.off ≤ c.off + c.dist ∧ c.off + c.dist ≤ 137438953472 := by
  unfold okC at h
  exact ⟨wrap_in (by omega) (by omega), wrap_in (by omega) (by omega), by omega, by omega, by omega, by omega⟩
theorem rSpan_c (c : Cd) (w : World) (h : okC c) : Calls Try.prog 22 #[CV c] w fun e w' => e = .returned (.agg #[.int .i64 (c.off - c.dist), .int .i64 (c.off + c.dist)]) ∧ Below w.heap.size w w' := by
  obtain ⟨k1, k2, _⟩ := sp_in h
  obtain ⟨o, d, j, s⟩ := c
  simp only at k1 k2
  have hb0 := balloc (brefl w) (.cells #[.int .i64 o, .int .i64 d, .int .i64 j, .int .i64 s] 44)
  have NB := Lib.hid (new4 w o d j s 44)
  show Calls Try.prog 22 #[.agg #[.int .i64 o, .int .i64 d, .int .i64 j, .int .i64 s]] w fun e w' => e = .returned (.agg #[.int .i64 (o - d), .int .i64 (o + d)]) ∧ Below w.heap.size w w'
  clear h hb0
  go_enter Try.func22, Try.ntmps22
  go_wp2_with fail
  exact bodyPost_ret (v := .agg #[.int .i64 (o - d), .int .i64 (o + d)]) (by simp [results, Try.results22, go_sem]) rfl ⟨rfl, by repeat (first | exact brefl _ | refine balloc ?_ _ | refine bdrew ?_ _ | refine Below.setCell ?_ (by first | (simp; done) | (simp; omega)) _ )⟩
theorem rFar_c (a b : Int) (w : World) (ha : -274877906944 ≤ a ∧ a ≤ 274877906944) (hb : -274877906944 ≤ b ∧ b ≤ 274877906944) : Calls Try.prog 29 #[.int .i64 a, .int .i64 b] w fun e w' => e = .returned (.int .i64 (far a b)) ∧ w' = w := by
  have k1 : IntKind.i64.wrap (a - b) = a - b := wrap_in (by omega) (by omega)
  have k2 : IntKind.i64.wrap (b - a) = b - a := wrap_in (by omega) (by omega)
  by_cases c : b < a
  · have e1 := decide_eq_true c
    rw [show far a b = a - b by unfold far; rw [if_pos c]]
    go_enter Try.func29, Try.ntmps29
    go_wp2_with fail
    go_ret
    exact ⟨rfl, rfl⟩
  · have e1 := decide_eq_false c
    rw [show far a b = b - a by unfold far; rw [if_neg c]]
    go_enter Try.func29, Try.ntmps29
    go_wp2_with fail
    go_ret
    exact ⟨rfl, rfl⟩
theorem key_in {c : Cd} (h : okC c) : IntKind.i64.wrap (c.str * 1572864) = c.str * 1572864 ∧ IntKind.i64.wrap (c.str * 1572864 + c.dist) = c.str * 1572864 + c.dist := by
  unfold okC at h
  exact ⟨wrap_in (by omega) (by omega), wrap_in (by omega) (by omega)⟩
theorem rKey_c (c : Cd) (w : World) (h : okC c) : Calls Try.prog 53 #[CV c] w fun e w' => e = .returned (.int .i64 (key c)) ∧ Below w.heap.size w w' := by
  obtain ⟨k1, k2⟩ := key_in h
  obtain ⟨o, d, j, s⟩ := c
  simp only at k1 k2
  have B := Lib.hid (balloc (brefl w) (.cells #[.int .i64 o, .int .i64 d, .int .i64 j, .int .i64 s] 44))
  show Calls Try.prog 53 #[.agg #[.int .i64 o, .int .i64 d, .int .i64 j, .int .i64 s]] w fun e w' => e = .returned (.int .i64 (s * 1572864 + d)) ∧ Below w.heap.size w w'
  clear h
  go_enter Try.func53, Try.ntmps53
  go_wp2_with fail
  go_ret
  exact ⟨rfl, B.out⟩
/-- what a candidate weighs. -/
def wt (c : Cd) : Int := max (1048576 / (1 + c.dist / 1024)) 1
theorem wt_in {c : Cd} (h : okC c) : 1 ≤ wt c ∧ wt c ≤ 1048576 := by
  unfold okC at h
  unfold wt
  have : 0 ≤ c.dist / 1024 := Int.ediv_nonneg h.2.1.1 (by decide)
  have : 1048576 / (1 + c.dist / 1024) ≤ 1048576 := Int.ediv_le_self _ (by decide)
  omega
theorem rWeight_c (c : Cd) (w : World) (h : okC c) : Calls Try.prog 33 #[CV c] w fun e w' => e = .returned (.int .i64 (wt c)) ∧ Below w.heap.size w w' := by
  obtain ⟨o, d, j, s⟩ := c
  unfold okC at h
  simp only at h
  have B := Lib.hid (balloc (brefl w) (.cells #[.int .i64 o, .int .i64 d, .int .i64 j, .int .i64 s] 44))
  obtain ⟨q, hq⟩ : ∃ q, d / 1024 = q := ⟨_, rfl⟩
  have q0 : 0 ≤ q := hq ▸ Int.ediv_nonneg h.2.1.1 (by decide)
  have q1 : q ≤ d := hq ▸ Int.ediv_le_self _ h.2.1.1
  obtain ⟨p, hp⟩ : ∃ p, (1048576 : Int) / (1 + q) = p := ⟨_, rfl⟩
  have p0 : 0 ≤ p := hp ▸ Int.ediv_nonneg (by decide) (by omega)
  have p1 : p ≤ 1048576 := hp ▸ Int.ediv_le_self _ (by decide)
  have k1 : d.tdiv 1024 = q := by rw [Int.tdiv_eq_ediv_of_nonneg h.2.1.1]; exact hq
  have k2 : IntKind.i64.wrap q = q := wrap_in (by omega) (by omega)
  have k3 : IntKind.i64.wrap (1 + q) = 1 + q := wrap_in (by omega) (by omega)
  have k4 : (1048576 : Int).tdiv (1 + q) = p := by rw [Int.tdiv_eq_ediv_of_nonneg (by decide)]; exact hp
  have k5 : IntKind.i64.wrap p = p := wrap_in (by omega) (by omega)
  have k6 : ((1 + q : Int) == 0) = false := by rw [beq_eq_false_iff_ne]; omega
  have k7 : ¬ (1 + q = 0) := by omega
  have W : Hid (wt ⟨o, d, j, s⟩ = max p 1) := Lib.hid (by unfold wt; simp only; rw [hq, hp])
  show Calls Try.prog 33 #[.agg #[.int .i64 o, .int .i64 d, .int .i64 j, .int .i64 s]] w fun e w' => e = .returned (.int .i64 (wt ⟨o, d, j, s⟩)) ∧ Below w.heap.size w w'
  rw [W.out]
  clear h hq hp
  go_enter Try.func33, Try.ntmps33
  go_wp2_with fail
  · go_ret
    exact ⟨by rw [Int.max_eq_right (by omega)]; rfl, B.out⟩
  · go_ret
    exact ⟨by rw [Int.max_eq_left (by omega)]; rfl, B.out⟩
theorem cnt_snoc {L : List Cd} {k : Nat} {c : Cd} (h : L[k]? = some c) (t : Int) : cnt (sps (L.take (k + 1))) t = cnt (sps (L.take k)) t + if has t (sp c) = true then 1 else 0 := by
  obtain ⟨h1, h2⟩ := List.getElem?_eq_some_iff.1 h
  unfold sps
  rw [List.take_succ_eq_append_getElem h1, h2, List.map_append, cnt_app]
  exact congrArg _ (cnt_one _ _)
set_option maxRecDepth 100000 in
set_option maxHeartbeats 2000000 in
theorem rHolds_c {w : World} {v : Value} {L : List Cd} (h : Cs w v L) (hn : L.length ≤ 32) (ok : ∀ c ∈ L, okC c) (t : Int) :
    Calls Try.prog 41 #[v, .int .i64 t] w fun e w' => e = .returned (.int .i64 (cnt (sps L) t : Nat)) ∧ Below w.heap.size w w' := by
  have HS := Lib.hid h
  have OK := Lib.hid ok
  obtain ⟨a, cap, rfl, c1, c2, _⟩ := h
  obtain ⟨m, hm⟩ : ∃ m, L.length = m := ⟨_, rfl⟩
  have HM := Lib.hid hm
  have CE : Hid (cnt (sps (L.take m)) t = cnt (sps L) t) := Lib.hid (by rw [List.take_of_length_le (by rw [hm]; exact Nat.le_refl _)])
  rw [hm] at HS c1 hn ⊢
  have m0 : (0 : Int) ≤ (m : Int) := by omega
  have m1 : (m : Int) ≤ 32 := by omega
  have m2 : (m : Int) ≤ (cap : Int) := by omega
  have m3 : (cap : Int) ≤ 9223372036854775807 := by omega
  clear hm ok
  go_enter Try.func41, Try.ntmps41
  go_wp2_with fail
  go_loopw [5, 6] (fun nv iv wr => ∃ k : Nat, k ≤ m ∧ iv = .int .i64 (k : Nat) ∧ nv = .int .i64 (cnt (sps (L.take k)) t : Nat) ∧ Below w.heap.size w wr) (fun _ iv _ => m - (intOf iv).toNat)
  case atStart => exact ⟨0, by omega, rfl, rfl, brefl w⟩
  case round =>
    obtain ⟨k, hk, rfl, rfl, hb⟩ := hrel
    rename World => wr
    have HB := Lib.hid hb
    clear hb
    by_cases c : k < m
    · have e1 : decide ((k : Int) < (m : Int)) = true := decide_eq_true (by omega)
      have e2 : decide (k < m) = true := decide_eq_true c
      have k1 : (k : Int) < (m : Int) := by omega
      have wk : IntKind.i64.wrap ((k : Int) + 1) = (k : Int) + 1 := wrap_in (by omega) (by omega)
      obtain ⟨x, hx⟩ : ∃ x, L[k]? = some x := ⟨_, List.getElem?_eq_getElem (by rw [HM.out]; exact c)⟩
      have cl : cnt (sps (L.take k)) t ≤ k := Nat.le_trans (cnt_le _ _) (by rw [sps_len, List.length_take]; omega)
      have CS := Lib.hid (cnt_snoc hx t)
      have SP := Lib.hid (fun w => rSpan_c x w (OK.out x (List.mem_of_getElem? hx)))
      obtain ⟨b, off, rfl, y0, y1, y2, y3⟩ := (HS.out.below HB.out).at hx
      obtain ⟨n, hn2⟩ : ∃ n, cnt (sps (L.take k)) t = n := ⟨_, rfl⟩
      rw [hn2] at cl CS ⊢
      have wn : IntKind.i64.wrap ((n : Int) + 1) = (n : Int) + 1 := wrap_in (by omega) (by omega)
      clear hx hn2
      obtain ⟨xo, xd, xj, xs⟩ := x
      obtain ⟨xl, hxl⟩ : ∃ z, xo - xd = z := ⟨_, rfl⟩
      obtain ⟨xh, hxh⟩ : ∃ z, xo + xd = z := ⟨_, rfl⟩
      simp only [hxl, hxh] at y0 y1 y2 y3 SP
      replace CS : Hid (cnt (sps (L.take (k + 1))) t = n + if (decide (xo - xd ≤ t) && decide (t ≤ xo + xd)) = true then 1 else 0) := CS
      rw [hxl, hxh] at CS
      clear hxl hxh
      replace SP : Hid (∀ w, Calls Try.prog 22 #[.agg #[.int .i64 xo, .int .i64 xd, .int .i64 xj, .int .i64 xs]] w fun e w' => e = .returned (.agg #[.int .i64 xl, .int .i64 xh]) ∧ Below w.heap.size w w') := SP
      go_wp2_with fail
      refine (SP.out _).mono ?_
      rintro e w3 ⟨rfl, hb⟩
      have hb2 := balloc hb (.cells #[.int .i64 xl, .int .i64 xh] 27)
      have B3 := Lib.hid (bstep HB.out hb2)
      clear hb hb2 y0 y1 y2 y3 SP
      cases d1 : decide (xl ≤ t) with
      | true =>
        cases d2 : decide (t ≤ xh) with
        | true =>
          rw [d1, d2] at CS
          go_wp2_with fail
          exact ⟨⟨k + 1, by omega, by go_num, by rw [CS.out]; rfl, B3.out⟩, by simp [intOf]; omega⟩
        | false =>
          rw [d1, d2] at CS
          go_wp2_with fail
          exact ⟨⟨k + 1, by omega, by go_num, by rw [CS.out]; rfl, B3.out⟩, by simp [intOf]; omega⟩
      | false =>
        rw [d1, Bool.false_and] at CS
        go_wp2_with fail
        exact ⟨⟨k + 1, by omega, by go_num, by rw [CS.out]; rfl, B3.out⟩, by simp [intOf]; omega⟩
    · have e1 : decide ((k : Int) < (m : Int)) = false := decide_eq_false (by omega)
      have e2 : decide (k < m) = false := decide_eq_false c
      obtain rfl : k = m := by omega
      rw [CE.out]
      go_wp2_with fail
      go_ret
      exact ⟨rfl, HB.out⟩
theorem rAhead_c {w : World} {v : Value} {L : List Cd} (h : Cs w v L) (ok : okL L) (i k : Nat) (hi : i < L.length) (hk : k < L.length) :
    Calls Try.prog 28 #[v, .int .i64 (i : Nat), .int .i64 (k : Nat)] w fun e w' => e = .returned (.bool (decide (Ah L i k))) ∧ Below w.heap.size w w' := by
  have K1 := Lib.hid (fun w => rKey_c (cd L i) w (cd_ok ok hi))
  have K2 := Lib.hid (fun w => rKey_c (cd L k) w (cd_ok ok hk))
  have A1 := Lib.hid (cd_at hi)
  have A2 := Lib.hid (cd_at hk)
  have AH : Hid (decide (Ah L i k) = (decide (key (cd L i) < key (cd L k)) || (decide (key (cd L i) = key (cd L k)) && decide (i < k)))) := Lib.hid (by apply Bool.eq_iff_iff.2; rw [decide_eq_true_iff]; unfold Ah; simp)
  have HS := Lib.hid h
  rw [AH.out]
  generalize key (cd L i) = x at *
  generalize key (cd L k) = y at *
  generalize cd L i = ci at *
  generalize cd L k = ck at *
  obtain ⟨a, cap, rfl, c1, c2, _⟩ := h
  have n32 := ok.2
  obtain ⟨b, off, ea, y0, y1, y2, y3⟩ := HS.out.at A1.out
  obtain ⟨b', off', ea', _⟩ := HS.out.at A2.out
  subst ea
  cases ea'
  obtain ⟨o1, d1, j1, s1⟩ := ci
  obtain ⟨o2, d2, j2, s2⟩ := ck
  simp only at y0 y1 y2 y3
  replace K1 : Hid (∀ w, Calls Try.prog 53 #[.agg #[.int .i64 o1, .int .i64 d1, .int .i64 j1, .int .i64 s1]] w fun e w' => e = .returned (.int .i64 x) ∧ Below w.heap.size w w') := K1
  replace K2 : Hid (∀ w, Calls Try.prog 53 #[.agg #[.int .i64 o2, .int .i64 d2, .int .i64 j2, .int .i64 s2]] w fun e w' => e = .returned (.int .i64 y) ∧ Below w.heap.size w w') := K2
  have i1 : (i : Int) < (L.length : Int) := by omega
  have k1 : (k : Int) < (L.length : Int) := by omega
  have m2 : (L.length : Int) ≤ (cap : Int) := by omega
  have m3 : (cap : Int) ≤ 9223372036854775807 := by omega
  have i0 : (0 : Int) ≤ (i : Int) := by omega
  have k0 : (0 : Int) ≤ (k : Int) := by omega
  generalize L.length = m at *
  clear AH
  go_enter Try.func28, Try.ntmps28
  go_wp2_with fail
  refine (K1.out _).mono ?_
  rintro e w1 ⟨rfl, hb⟩
  have B1 := Lib.hid hb
  obtain ⟨b2, off2, ea2, z0, z1, z2, z3⟩ := (HS.out.below hb).at A2.out
  cases ea2
  simp only at z0 z1 z2 z3
  clear hb K1 y0 y1 y2 y3
  go_wp2_with fail
  refine (K2.out _).mono ?_
  rintro e w2 ⟨rfl, hb⟩
  have B2 := Lib.hid (bstep B1.out hb)
  clear hb K2 z0 z1 z2 z3
  by_cases q1 : x < y
  · have e1 := decide_eq_true q1
    go_wp2_with fail
    go_ret
    exact ⟨by simp [q1], B2.out⟩
  · have e1 := decide_eq_false q1
    by_cases q2 : x = y
    · have e2 : (x == y) = true := by simpa using q2
      have e4 := decide_eq_true q2
      cases q3 : decide (i < k) with
      | true =>
        have e3 : decide ((i : Int) < (k : Int)) = true := decide_eq_true (by have := of_decide_eq_true q3; omega)
        go_wp2_with fail
        go_ret
        exact ⟨by first | rfl | (simp [q2]; done) | (simp [q2]; first | exact of_decide_eq_true q3 | (have := of_decide_eq_false q3; omega)), B2.out⟩
      | false =>
        have e3 : decide ((i : Int) < (k : Int)) = false := decide_eq_false (by have := of_decide_eq_false q3; omega)
        go_wp2_with fail
        go_ret
        exact ⟨by first | rfl | (simp [q2]; done) | (simp [q2]; first | exact of_decide_eq_true q3 | (have := of_decide_eq_false q3; omega)), B2.out⟩
    · have e2 : (x == y) = false := by simpa using q2
      have e4 := decide_eq_false q2
      go_wp2_with fail
      go_ret
      exact ⟨by first | rfl | simp [q1, q2], B2.out⟩
end Go.Proofs.Ytkmbeogmgehnfaa.Vo
