/-
  The program's small functions of a clock, and its Read.
  Conditions: none but that the clock lies in memory and is in order.
-/
import Derived.Test.YtojcckikgnbgiaaCkE
namespace Go.Proofs.Ytojcckikgnbgiaa.Ck
open Go.RowKit Go.ChangeShapes Go.WideShapes Go.ChangeAt Go.Joins Fl
set_option linter.unusedVariables false
set_option linter.unusedSimpArgs false

/-- a clock's state as the program has it. -/
def stV (c : Clk) : Value := if c.state = 0 then .iface 51 (.agg #[]) else if c.state = 1 then .iface 65 (.agg #[]) else .iface 61 (.agg #[.int .i64 c.since])
/-- the program's clock as cells. -/
def pvs (b a f p : Int) (s : Value) : List Value := [.int .i64 b, .int .i64 a, .int .i64 f, .int .i64 p, s]
def Kz (w : World) (a : Addr) (X : Nat → Prop) (c : Clk) : Prop := ∃ b, a = ⟨b, 0, none⟩ ∧ X = Td b ∧ Blk w b (pvs c.base c.at' c.freq c.phase (stV c)) ∧ (c.state = 0 ∨ c.last = c.at')
theorem blk5 {w : World} {b : Nat} {x y z p : Int} {s : Value} (h : Blk w b (pvs x y z p s)) {w' : World} (q : Below w.heap.size w w') : w'.cell? ⟨b, 0, none⟩ = some (.int .i64 x) ∧ w'.cell? ⟨b, 1, none⟩ = some (.int .i64 y) ∧ w'.cell? ⟨b, 2, none⟩ = some (.int .i64 z) ∧ w'.cell? ⟨b, 3, none⟩ = some (.int .i64 p) ∧ w'.cell? ⟨b, 4, none⟩ = some s :=
  ⟨(h.below q).2 0 _ rfl |>.1, (h.below q).2 1 _ rfl |>.1, (h.below q).2 2 _ rfl |>.1, (h.below q).2 3 _ rfl |>.1, (h.below q).2 4 _ rfl |>.1⟩
theorem pfr {w : World} {b : Nat} {x y z p : Int} {s : Value} (h : Blk w b (pvs x y z p s)) : w.frozen? ⟨b, 0, none⟩ = false ∧ w.frozen? ⟨b, 1, none⟩ = false ∧ w.frozen? ⟨b, 2, none⟩ = false ∧ w.frozen? ⟨b, 3, none⟩ = false ∧ w.frozen? ⟨b, 4, none⟩ = false :=
  ⟨(h.2 0 _ rfl).2, (h.2 1 _ rfl).2, (h.2 2 _ rfl).2, (h.2 3 _ rfl).2, (h.2 4 _ rfl).2⟩
theorem divideDown_c (a b : Int) (w : World) (hb : 0 < b ∧ b ≤ 2305843009213693952) (ha : -4611686018427387904 ≤ a ∧ a ≤ 4611686018427387904) : Calls Try.prog 22 #[.int .i64 a, .int .i64 b] w fun e w' => e = .returned (.int .i64 (a / b)) ∧ w' = w := by
  obtain ⟨f1, f2⟩ := fl_adj (s := a) hb.1
  have em := Int.mul_tdiv_add_tmod a b
  have em1 := Int.tmod_lt_of_pos a hb.1
  have em2 := Int.lt_tmod_of_pos a hb.1
  rw [Int.mul_comm] at em
  have tl := tdiv_in hb.1 ha.1 ha.2
  obtain ⟨q, hq⟩ : ∃ t, a.tdiv b = t := ⟨_, rfl⟩
  obtain ⟨r, hr⟩ : ∃ t, a.tmod b = t := ⟨_, rfl⟩
  rw [hq] at f1 f2 em tl
  rw [hr] at em em1 em2
  have F1 := Lib.hid f1
  have F2 := Lib.hid f2
  have a1 : IntKind.i64.wrap q = q := wrap_in (by omega) (by omega)
  have a2 : IntKind.i64.wrap r = r := wrap_in (by omega) (by omega)
  have a3 : IntKind.i64.wrap (q - 1) = q - 1 := wrap_in (by omega) (by omega)
  have a7 : (b == 0) = false := by rw [beq_eq_false_iff_ne]; omega
  have a8 : ¬ b = 0 := by omega
  have EM := Lib.hid em
  clear f1 f2 em em1 em2 tl
  by_cases z : r < 0
  · have d1 := decide_eq_true z
    rw [F1.out (by have := EM.out; omega)]
    go_enter Try.func22, Try.ntmps22
    go_wp2_with fail
    go_ret
    exact ⟨rfl, rfl⟩
  · have d1 := decide_eq_false z
    rw [F2.out (by have := EM.out; omega)]
    go_enter Try.func22, Try.ntmps22
    go_wp2_with fail
    go_ret
    exact ⟨rfl, rfl⟩
theorem slewed_up (p d : Int) (w : World) (hp : 0 ≤ p ∧ p ≤ 134217) (hd : 0 ≤ d ∧ d ≤ 1099511627776) : Calls Try.prog 21 #[.int .i64 p, .int .i64 d] w fun e w' => e = .returned (.int .i64 (min (d * 500000) (p * 1000000000))) ∧ w' = w := by
  have d0 : decide (p < 0) = false := decide_eq_false (by omega)
  have a1 : IntKind.i64.wrap (d * 500000) = d * 500000 := wrap_in (by omega) (by omega)
  have a2 : IntKind.i64.wrap (p * 1000000000) = p * 1000000000 := wrap_in (by omega) (by omega)
  rcases Int.lt_or_le (p * 1000000000) (d * 500000) with c | c
  · have d1 := decide_eq_true c
    rw [Int.min_eq_right (by omega)]
    go_enter Try.func21, Try.ntmps21
    go_wp2_with fail
    go_ret
    exact ⟨rfl, rfl⟩
  · have d1 : decide (p * 1000000000 < d * 500000) = false := decide_eq_false (by omega)
    rw [Int.min_eq_left c]
    go_enter Try.func21, Try.ntmps21
    go_wp2_with fail
    go_ret
    exact ⟨rfl, rfl⟩
theorem slewed_c (p d : Int) (w : World) (hp : -134217 ≤ p ∧ p ≤ 134217) (hd : 0 ≤ d ∧ d ≤ 1099511627776) : Calls Try.prog 21 #[.int .i64 p, .int .i64 d] w fun e w' => e = .returned (.int .i64 (slw p d)) ∧ w' = w := by
  rcases Int.lt_or_le p 0 with c | c
  · have d1 := decide_eq_true c
    have a1 : IntKind.i64.wrap (-p) = -p := wrap_in (by omega) (by omega)
    have UP := Lib.hid (fun w => slewed_up (-p) d w (by omega) hd)
    have e : slw p d = -(min (d * 500000) (-p * 1000000000)) := by unfold slw; rw [if_pos c]; omega
    rw [e]
    have mb : 0 ≤ min (d * 500000) (-p * 1000000000) ∧ min (d * 500000) (-p * 1000000000) ≤ 549755813888000000 := by omega
    clear e
    generalize min (d * 500000) (-p * 1000000000) = m at *
    have a2 : IntKind.i64.wrap (-m) = -m := wrap_in (by omega) (by omega)
    go_enter Try.func21, Try.ntmps21
    go_wp2_with fail
    refine (UP.out _).mono ?_
    rintro e w2 ⟨rfl, rfl⟩
    rename World => w
    go_wp2_with fail
    go_ret
    exact ⟨rfl, rfl⟩
  · rw [show slw p d = min (d * 500000) (p * 1000000000) by unfold slw; rw [if_neg (by omega), Int.mul_comm]]
    exact slewed_up p d w ⟨c, hp.2⟩ hd
set_option maxRecDepth 100000 in
set_option maxHeartbeats 4000000 in
theorem ahead_c {w : World} {b : Nat} {x y f p : Int} {s : Value} (h : Blk w b (pvs x y f p s)) (d : Int) (hd : 0 ≤ d ∧ d ≤ 1099511627776) (hf : -500000 ≤ f ∧ f ≤ 500000) (hp : -134217 ≤ p ∧ p ≤ 134217) :
    Calls Try.prog 16 #[.pointer (some ⟨b, 0, none⟩), .int .i64 d] w fun e w' => e = .returned (.int .i64 (d + xx f p d)) ∧ Below w.heap.size w w' := by
  obtain ⟨z0, z1, z2, z3, z4⟩ := blk5 h (brefl w)
  have p1 := prod_in (e := d) (f := f) (F := 500000) hd.1 hf.1 hf.2
  have s1 := slw_in (p := p) (d := d) hd.1
  have x1 := xx_in (p := p) hf hd.1
  have SC := Lib.hid (fun w => slewed_c p d w hp hd)
  have XE : Hid (xx f p d = (d * f + slw p d) / 1000000000) := Lib.hid rfl
  rw [XE.out] at x1
  rw [XE.out]
  generalize slw p d = sl at *
  obtain ⟨pr, hpr⟩ : ∃ p, d * f = p := ⟨_, rfl⟩
  rw [hpr] at p1 x1 ⊢
  have w1 : IntKind.i64.wrap pr = pr := wrap_in (by omega) (by omega)
  have w2 : IntKind.i64.wrap (pr + sl) = pr + sl := wrap_in (by omega) (by omega)
  have DC := Lib.hid (fun w => divideDown_c (pr + sl) 1000000000 w (by omega) (by omega))
  obtain ⟨q, hq⟩ : ∃ q, (pr + sl) / 1000000000 = q := ⟨_, rfl⟩
  rw [hq] at DC x1 ⊢
  have w3 : IntKind.i64.wrap (d + q) = d + q := wrap_in (by omega) (by omega)
  clear XE hq p1 s1 x1 h
  go_enter Try.func16, Try.ntmps16
  go_upto_region 1 with fail
  go_quiet ((go_at_call 21; with_reducible exact Calls.quiet_of_same (SC.out _)))
  go_wp2_with fail
  refine (DC.out _).mono ?_
  rintro e w2 ⟨rfl, rfl⟩
  go_wp2_with fail
  go_ret
  exact ⟨rfl, bdrew (brefl w) _⟩
set_option maxRecDepth 100000 in
set_option maxHeartbeats 4000000 in
theorem Read_c {w : World} {b k : Nat} {c : Clk} {s : Value} (h : Blk w b (pvs c.base c.at' c.freq c.phase s)) (hk : k ≤ 1000) (hi : In k c) (r : Int) (hr : -9223372036854775808 ≤ r ∧ r ≤ 9223372036854775807) :
    Calls Try.prog 10 #[.pointer (some ⟨b, 0, none⟩), .int .i64 r] w fun e w' => e = rdE c r ∧ Below w.heap.size w w' := by
  have RD := Lib.hid (fun q => hi.read (r := r) q)
  have RE : Hid (rdO c r → rdE c r = .returned (.tuple #[.int .i64 (c.base + (r - c.at' + xx c.freq c.phase (r - c.at'))), .int .i64 0])) := Lib.hid fun q => by unfold rdE rdA; rw [if_pos q]; unfold rdV; rw [Int.add_assoc]
  have RN : Hid (¬ rdO c r → rdE c r = .returned (.tuple #[.int .i64 0, .int .i64 2])) := Lib.hid fun q => by unfold rdE rdA; rw [if_neg q]
  have RV : Hid (rdV c r = c.base + (r - c.at' + xx c.freq c.phase (r - c.at'))) := Lib.hid (by unfold rdV; rw [Int.add_assoc])
  have XI := Lib.hid (fun d (hd : 0 ≤ d) => xx_in (p := c.phase) hi.1 hd)
  have HB := Lib.hid h
  have AC := Lib.hid (fun (W : World) (hb : Below w.heap.size w W) (hd : 0 ≤ r - c.at' ∧ r - c.at' ≤ 1099511627776) => ahead_c (h.below hb) (r - c.at') hd hi.1 hi.2.1)
  obtain ⟨z0, z1, z2, z3, z4⟩ := blk5 h (brefl w)
  have OD : Hid (rdO c r ↔ c.at' ≤ r ∧ r - c.at' ≤ 1099511627776) := Lib.hid Iff.rfl
  obtain ⟨i1, i2, i3, i4, _⟩ := hi
  obtain ⟨cb, ca, cp, cl, cs, cf, ct⟩ := c
  simp only at *
  clear h
  by_cases c1 : r < ca
  · have d1 := decide_eq_true c1
    rw [RN.out (fun q => by have := OD.out.1 q; omega)]
    go_enter Try.func10, Try.ntmps10
    go_wp2_with fail
    go_ret2
    exact ⟨rfl, brefl w⟩
  · have d1 := decide_eq_false c1
    have w1 : IntKind.i64.wrap (r - ca) = r - ca := wrap_in (by omega) (by omega)
    by_cases c2 : 1099511627776 < r - ca
    · have d2 := decide_eq_true c2
      rw [RN.out (fun q => by have := OD.out.1 q; omega)]
      go_enter Try.func10, Try.ntmps10
      go_wp2_with fail
      go_ret2
      exact ⟨rfl, brefl w⟩
    · have d2 := decide_eq_false c2
      have od := OD.out.2 ⟨by omega, by omega⟩
      have rd := RD.out od
      rw [RV.out] at rd
      rw [RE.out od]
      have hd0 : 0 ≤ r - ca ∧ r - ca ≤ 1099511627776 := by omega
      have xi := XI.out (r - ca) hd0.1
      have AC2 := Lib.hid (fun W hb => AC.out W hb hd0)
      clear XI AC RD RE RN RV OD od
      generalize xx cf cp (r - ca) = x at *
      obtain ⟨t, ht⟩ : ∃ t, r - ca + x = t := ⟨_, rfl⟩
      rw [ht] at AC2 rd ⊢
      have w3 : IntKind.i64.wrap (9223372036854775807 - t) = 9223372036854775807 - t := wrap_in (by omega) (by omega)
      have w4 : IntKind.i64.wrap (cb + t) = cb + t := wrap_in (by omega) (by omega)
      have d3 : decide (9223372036854775807 - t < cb) = false := decide_eq_false (by omega)
      clear ht xi
      go_enter Try.func10, Try.ntmps10
      go_wp2_with fail
      refine (AC2.out _ (brefl w)).mono ?_
      rintro e w2 ⟨rfl, hb⟩
      obtain ⟨y0, y1, y2, y3, y4⟩ := blk5 HB.out hb
      have B2 := Lib.hid hb
      clear hb
      go_wp2_with fail
      go_ret2
      exact ⟨rfl, B2.out⟩
end Go.Proofs.Ytojcckikgnbgiaa.Ck
