/-
  The document's small functions of a clock, and its Read.
  Conditions: none but that the clock lies in memory and is in order.
-/
import Derived.Test.YtojcckikgnbgiaaFlA
import Derived.Test.YtojcckikgnbgiaaCkP
import Derived.BigQuiet
namespace Go.Proofs.Ytojcckikgnbgiaa.Ck
open Go.RowKit Go.ChangeShapes Go.WideShapes Go.ChangeAt Go.Joins Fl
set_option linter.unusedVariables false
set_option linter.unusedSimpArgs false

/-- the document's clock as cells. -/
def kvs (c : Clk) : List Value := [.int .i64 c.base, .int .i64 c.at', .int .i64 c.phase, .int .i64 c.last, .int .i64 c.since, .int .i64 c.freq, .int .i64 c.state]
theorem blk7 {w : World} {b : Nat} {c : Clk} (h : Blk w b (kvs c)) {w' : World} (q : Below w.heap.size w w') : w'.cell? ⟨b, 0, none⟩ = some (.int .i64 c.base) ∧ w'.cell? ⟨b, 1, none⟩ = some (.int .i64 c.at') ∧ w'.cell? ⟨b, 2, none⟩ = some (.int .i64 c.phase) ∧ w'.cell? ⟨b, 3, none⟩ = some (.int .i64 c.last) ∧ w'.cell? ⟨b, 4, none⟩ = some (.int .i64 c.since) ∧ w'.cell? ⟨b, 5, none⟩ = some (.int .i64 c.freq) ∧ w'.cell? ⟨b, 6, none⟩ = some (.int .i64 c.state) :=
  ⟨(h.below q).2 0 _ rfl |>.1, (h.below q).2 1 _ rfl |>.1, (h.below q).2 2 _ rfl |>.1, (h.below q).2 3 _ rfl |>.1, (h.below q).2 4 _ rfl |>.1, (h.below q).2 5 _ rfl |>.1, (h.below q).2 6 _ rfl |>.1⟩
theorem down_c (a b : Int) (w : World) (hb : 0 < b ∧ b ≤ 2305843009213693952) (ha : -4611686018427387904 ≤ a ∧ a ≤ 4611686018427387904) : Calls Try.prog 17 #[.int .i64 a, .int .i64 b] w fun e w' => e = .returned (.int .i64 (a / b)) ∧ w' = w := by
  obtain ⟨f1, f2⟩ := fl_adj (s := a) hb.1
  have em := Int.mul_tdiv_add_tmod a b
  have em1 := Int.tmod_lt_of_pos a hb.1
  have em2 := Int.lt_tmod_of_pos a hb.1
  rw [Int.mul_comm] at em
  have tl := tdiv_in hb.1 ha.1 ha.2
  obtain ⟨q, hq⟩ : ∃ t, a.tdiv b = t := ⟨_, rfl⟩
  rw [hq] at f1 f2 em tl
  have F1 := Lib.hid f1
  have F2 := Lib.hid f2
  have a1 : IntKind.i64.wrap q = q := wrap_in (by omega) (by omega)
  have a2 : IntKind.i64.wrap (q * b) = q * b := wrap_in (by omega) (by omega)
  have a3 : IntKind.i64.wrap (q - 1) = q - 1 := wrap_in (by omega) (by omega)
  have a7 : (b == 0) = false := by rw [beq_eq_false_iff_ne]; omega
  have a8 : ¬ b = 0 := by omega
  clear f1 f2 em em1 em2 tl
  by_cases z : a < q * b
  · have d1 := decide_eq_true z
    rw [F1.out z]
    go_enter Try.func17, Try.ntmps17
    go_wp2_with fail
    go_ret
    exact ⟨rfl, rfl⟩
  · have d1 := decide_eq_false z
    rw [F2.out z]
    go_enter Try.func17, Try.ntmps17
    go_wp2_with fail
    go_ret
    exact ⟨rfl, rfl⟩
theorem bound_c (t : Int) (w : World) : Calls Try.prog 25 #[.int .i64 t] w fun e w' => e = .returned (.int .i64 (bnd t)) ∧ w' = w := by
  have B := Lib.hid (show bnd t = min (max t (-2305843009213693952)) 2305843009213693952 from rfl)
  rcases Int.lt_or_le t (-2305843009213693952) with c | c
  · have d := decide_eq_true c
    rw [show bnd t = -2305843009213693952 by rw [B.out]; omega]
    go_enter Try.func25, Try.ntmps25
    go_wp2_with fail
    go_ret
    exact ⟨rfl, rfl⟩
  · have d : decide (t < -2305843009213693952) = false := decide_eq_false (by omega)
    rcases Int.lt_or_le 2305843009213693952 t with c' | c'
    · have d' := decide_eq_true c'
      rw [show bnd t = 2305843009213693952 by rw [B.out]; omega]
      go_enter Try.func25, Try.ntmps25
      go_wp2_with fail
      go_ret
      exact ⟨rfl, rfl⟩
    · have d' : decide (2305843009213693952 < t) = false := decide_eq_false (by omega)
      rw [show bnd t = t by rw [B.out]; omega]
      go_enter Try.func25, Try.ntmps25
      go_wp2_with fail
      go_ret
      exact ⟨rfl, rfl⟩
def rdE (c : Clk) (r : Int) : Ending := .returned (.tuple #[.int .i64 (rdA c r).1, .int .i64 (rdA c r).2])
set_option maxRecDepth 100000 in
set_option maxHeartbeats 4000000 in
theorem rRead_c {w : World} {b k : Nat} {c : Clk} (h : Blk w b (kvs c)) (hk : k ≤ 1000) (hi : In k c) (r : Int) (hr : -9223372036854775808 ≤ r ∧ r ≤ 9223372036854775807) :
    Calls Try.prog 11 #[.pointer (some ⟨b, 0, none⟩), .int .i64 r] w fun e w' => e = rdE c r ∧ Below w.heap.size w w' := by
  have RD := Lib.hid (fun q => hi.read (r := r) q)
  have RE : Hid (rdO c r → rdE c r = .returned (.tuple #[.int .i64 (rdV c r), .int .i64 0])) := Lib.hid fun q => by unfold rdE rdA; rw [if_pos q]
  have RN : Hid (¬ rdO c r → rdE c r = .returned (.tuple #[.int .i64 0, .int .i64 2])) := Lib.hid fun q => by unfold rdE rdA; rw [if_neg q]
  obtain ⟨z0, z1, z2, z3, z4, z5, z6⟩ := blk7 h (brefl w)
  have gi := fun d (hd : 0 ≤ d) => gg_in (p := c.phase) hi.1 hd
  have si := fun d (hd : 0 ≤ d) => slw_in (p := c.phase) (d := d) hd
  have pi := fun d (hd : 0 ≤ d) => prod_in (e := d) (f := c.freq) (F := 500000) hd hi.1.1 hi.1.2
  have xi := fun d (hd : 0 ≤ d) => xx_in (p := c.phase) hi.1 hd
  have RV : Hid (rdV c r = c.base + (r - c.at') + ((r - c.at') * c.freq + slw c.phase (r - c.at')) / 1000000000) := Lib.hid rfl
  have SL : Hid (∀ d, slw c.phase d = if c.phase < 0 then max (-(500000 * d)) (c.phase * 1000000000) else min (500000 * d) (c.phase * 1000000000)) := Lib.hid fun _ => rfl
  have XI : Hid (∀ d, xx c.freq c.phase d = (d * c.freq + slw c.phase d) / 1000000000) := Lib.hid fun _ => rfl
  have OD : Hid (rdO c r ↔ c.at' ≤ r ∧ r - c.at' ≤ 1099511627776) := Lib.hid Iff.rfl
  obtain ⟨i1, i2, i3, i4, _⟩ := hi
  obtain ⟨cb, ca, cp, cl, cs, cf, ct⟩ := c
  simp only at *
  by_cases c1 : r < ca
  · have d1 := decide_eq_true c1
    rw [RN.out (fun q => by have := OD.out.1 q; omega)]
    clear gi si pi xi
    go_enter Try.func11, Try.ntmps11
    go_wp2_with fail
    go_ret2
    exact ⟨rfl, brefl w⟩
  · have d1 := decide_eq_false c1
    have w1 : IntKind.i64.wrap (r - ca) = r - ca := wrap_in (by omega) (by omega)
    by_cases c2 : 1099511627776 < r - ca
    · have d2 := decide_eq_true c2
      rw [RN.out (fun q => by have := OD.out.1 q; omega)]
      clear gi si pi xi
      go_enter Try.func11, Try.ntmps11
      go_wp2_with fail
      go_ret2
      exact ⟨rfl, brefl w⟩
    · have d2 := decide_eq_false c2
      have od := OD.out.2 ⟨by omega, by omega⟩
      rw [RE.out od, RV.out]
      have rd := RD.out od
      rw [RV.out] at rd
      obtain ⟨d, hd⟩ : ∃ d, r - ca = d := ⟨_, rfl⟩
      have d0 : 0 ≤ d := by omega
      have p1 := pi d d0
      have s1 := si d d0
      have x1 := xi d d0
      have sl := SL.out d
      rw [XI.out] at x1
      rw [hd] at w1 d2 rd ⊢
      obtain ⟨s, hs⟩ : ∃ s, slw cp d = s := ⟨_, rfl⟩
      rw [hs] at s1 x1 sl rd ⊢
      obtain ⟨p, hp⟩ : ∃ p, d * cf = p := ⟨_, rfl⟩
      rw [hp] at p1 x1 rd ⊢
      have w2 : IntKind.i64.wrap (500000 * d) = 500000 * d := wrap_in (by omega) (by omega)
      have w3 : IntKind.i64.wrap (-(500000 * d)) = -(500000 * d) := wrap_in (by omega) (by omega)
      have w4 : IntKind.i64.wrap (cp * 1000000000) = cp * 1000000000 := wrap_in (by omega) (by omega)
      have w5 : IntKind.i64.wrap p = p := wrap_in (by omega) (by omega)
      have w6 : IntKind.i64.wrap (p + s) = p + s := wrap_in (by omega) (by omega)
      have w7 : IntKind.i64.wrap (cb + d) = cb + d := wrap_in (by omega) (by omega)
      have DC := Lib.hid (fun w => down_c (p + s) 1000000000 w (by omega) (by omega))
      obtain ⟨x, hx⟩ : ∃ x, (p + s) / 1000000000 = x := ⟨_, rfl⟩
      rw [hx] at DC x1 rd ⊢
      have w8 : IntKind.i64.wrap (cb + d + x) = cb + d + x := wrap_in (by omega) (by omega)
      have HSL := Lib.hid sl
      clear gi si pi xi hx sl rd x1
      by_cases c3 : cp < 0
      · have d3 := decide_eq_true c3
        have sl := HSL.out
        rw [if_pos c3] at sl
        rcases Int.lt_or_le (-(500000 * d)) (cp * 1000000000) with cm | cm
        · have dm := decide_eq_true cm
          have e : s = cp * 1000000000 := by omega
          clear sl
          subst e
          clear hs
          go_enter Try.func11, Try.ntmps11
          go_upto_region 8 with fail
          go_quiet ((go_at_call 17; with_reducible exact Calls.quiet_of_same (DC.out _)))
          go_wp2_with fail
          go_ret2
          exact ⟨rfl, bdrew (brefl w) _⟩
        · have dm : decide (-(500000 * d) < cp * 1000000000) = false := decide_eq_false (by omega)
          have e : s = -(500000 * d) := by omega
          clear sl
          subst e
          clear hs
          go_enter Try.func11, Try.ntmps11
          go_upto_region 8 with fail
          go_quiet ((go_at_call 17; with_reducible exact Calls.quiet_of_same (DC.out _)))
          go_wp2_with fail
          go_ret2
          exact ⟨rfl, bdrew (brefl w) _⟩
      · have d3 := decide_eq_false c3
        have sl := HSL.out
        rw [if_neg c3] at sl
        rcases Int.lt_or_le (cp * 1000000000) (500000 * d) with cm | cm
        · have dm := decide_eq_true cm
          have e : s = cp * 1000000000 := by omega
          clear sl
          subst e
          clear hs
          go_enter Try.func11, Try.ntmps11
          go_upto_region 8 with fail
          go_quiet ((go_at_call 17; with_reducible exact Calls.quiet_of_same (DC.out _)))
          go_wp2_with fail
          go_ret2
          exact ⟨rfl, bdrew (brefl w) _⟩
        · have dm : decide (cp * 1000000000 < 500000 * d) = false := decide_eq_false (by omega)
          have e : s = 500000 * d := by omega
          clear sl
          subst e
          clear hs
          go_enter Try.func11, Try.ntmps11
          go_upto_region 8 with fail
          go_quiet ((go_at_call 17; with_reducible exact Calls.quiet_of_same (DC.out _)))
          go_wp2_with fail
          go_ret2
          exact ⟨rfl, bdrew (brefl w) _⟩
end Go.Proofs.Ytojcckikgnbgiaa.Ck
