/-
  The program's New, step, slew and take of a clock.
  Conditions: none but that the clock lies in memory and is in order.
-/
import Derived.Test.YtojcckikgnbgiaaCkY
namespace Go.Proofs.Ytojcckikgnbgiaa.Ck
open Go.RowKit Go.ChangeShapes Go.WideShapes Go.ChangeAt Go.Joins Fl
set_option linter.unusedVariables false
set_option linter.unusedSimpArgs false

theorem pnewE_bad {r b f : Int} (h : ¬ ((0 ≤ r ∧ r ≤ 288230376151711744) ∧ (0 ≤ b ∧ b ≤ 288230376151711744) ∧ -500000 ≤ f ∧ f ≤ 500000)) : newE r b f ≠ 0 := by unfold newE; rw [if_neg h]; decide
theorem New_ok (w : World) (r b f : Int) (h : newE r b f = 0) : Calls Try.prog 8 #[.int .i64 r, .int .i64 b, .int .i64 f] w fun e w' => (∃ a X, e = .returned (.tuple #[.pointer (some a), .int .i64 0]) ∧ Kz w' a X (new r b f) ∧ ∀ i, X i → w.heap.size ≤ i) ∧ Below w.heap.size w w' := by
  have q : (0 ≤ r ∧ r ≤ 288230376151711744) ∧ (0 ≤ b ∧ b ≤ 288230376151711744) ∧ -500000 ≤ f ∧ f ≤ 500000 := by
    unfold newE at h
    split at h
    · assumption
    · cases h
  have e0 : decide (r < 0) = false := decide_eq_false (by omega)
  have e1 : decide (288230376151711744 < r) = false := decide_eq_false (by omega)
  have e2 : decide (b < 0) = false := decide_eq_false (by omega)
  have e3 : decide (288230376151711744 < b) = false := decide_eq_false (by omega)
  have e4 : decide (f < -500000) = false := decide_eq_false (by omega)
  have e5 : decide (500000 < f) = false := decide_eq_false (by omega)
  have NB := Lib.hid (Blk.new' w #[.int .i64 b, .int .i64 r, .int .i64 f, .int .i64 0, .iface 51 (.agg #[])] 55)
  have BB := Lib.hid (balloc (brefl w) (.cells #[.int .i64 b, .int .i64 r, .int .i64 f, .int .i64 0, .iface 51 (.agg #[])] 55))
  clear h q
  go_enter Try.func8, Try.ntmps8
  go_wp2_with fail
  go_ret2
  exact ⟨⟨_, rfl, Td w.heap.size, ⟨_, rfl, rfl, NB.out, .inl rfl⟩, fun i hi => Nat.le_of_eq hi.symm⟩, BB.out⟩
theorem New_no (w : World) (r b f : Int) (h : newE r b f ≠ 0) : Calls Try.prog 8 #[.int .i64 r, .int .i64 b, .int .i64 f] w fun e w' => e = .returned (.tuple #[.pointer none, .int .i64 2]) ∧ Below w.heap.size w w' := by
  have q : ¬ ((0 ≤ r ∧ r ≤ 288230376151711744) ∧ (0 ≤ b ∧ b ≤ 288230376151711744) ∧ -500000 ≤ f ∧ f ≤ 500000) := fun z => h (by unfold newE; rw [if_pos z])
  clear h
  by_cases c0 : r < 0
  · have e0 := decide_eq_true c0
    clear q
    go_enter Try.func8, Try.ntmps8
    go_wp2_with fail
    go_ret2
    exact ⟨rfl, brefl w⟩
  have e0 := decide_eq_false c0
  by_cases c1 : 288230376151711744 < r
  · have e1 := decide_eq_true c1
    clear q
    go_enter Try.func8, Try.ntmps8
    go_wp2_with fail
    go_ret2
    exact ⟨rfl, brefl w⟩
  have e1 := decide_eq_false c1
  by_cases c2 : b < 0
  · have e2 := decide_eq_true c2
    clear q
    go_enter Try.func8, Try.ntmps8
    go_wp2_with fail
    go_ret2
    exact ⟨rfl, brefl w⟩
  have e2 := decide_eq_false c2
  by_cases c3 : 288230376151711744 < b
  · have e3 := decide_eq_true c3
    clear q
    go_enter Try.func8, Try.ntmps8
    go_wp2_with fail
    go_ret2
    exact ⟨rfl, brefl w⟩
  have e3 := decide_eq_false c3
  by_cases c4 : f < -500000
  · have e4 := decide_eq_true c4
    clear q
    go_enter Try.func8, Try.ntmps8
    go_wp2_with fail
    go_ret2
    exact ⟨rfl, brefl w⟩
  have e4 := decide_eq_false c4
  have e5 : decide (500000 < f) = true := decide_eq_true (by omega)
  clear q
  go_enter Try.func8, Try.ntmps8
  go_wp2_with fail
  go_ret2
  exact ⟨rfl, brefl w⟩
theorem corrected_c (f o n : Int) (w : World) (hf : -500000 ≤ f ∧ f ≤ 500000) (ho : -134217 ≤ o ∧ o ≤ 134217) (hn : 0 ≤ n ∧ n ≤ 2305843009213693952) : Calls Try.prog 26 #[.int .i64 f, .int .i64 o, .int .i64 n] w fun e w' => e = .returned (.int .i64 (if 1048576 ≤ n then min (max (f + o * 62500000 / n) (-500000)) 500000 else f)) ∧ w' = w := by
  by_cases c1 : 1048576 ≤ n
  · rw [if_pos c1]
    have d1 : decide (n < 1048576) = false := decide_eq_false (by omega)
    have w2 : IntKind.i64.wrap (o * 62500000) = o * 62500000 := wrap_in (by omega) (by omega)
    have DC := Lib.hid (fun w => divideDown_c (o * 62500000) n w (by omega) (by omega))
    have q1 : -8388562500000 ≤ o * 62500000 / n ∧ o * 62500000 / n ≤ 8388562500000 := by
      have p : 0 < n := by omega
      have a := (Int.le_ediv_iff_mul_le (a := -8388562500000) (b := o * 62500000) p).2 (by omega)
      have z := (Int.ediv_lt_iff_lt_mul (a := o * 62500000) (b := 8388562500001) p).2 (by omega)
      omega
    obtain ⟨q, hq⟩ : ∃ q, o * 62500000 / n = q := ⟨_, rfl⟩
    rw [hq] at DC q1 ⊢
    have w3 : IntKind.i64.wrap (f + q) = f + q := wrap_in (by omega) (by omega)
    clear hq
    rcases Int.lt_or_le (f + q) (-500000) with cm | cm
    · have dm := decide_eq_true cm
      rw [show min (max (f + q) (-500000)) 500000 = -500000 by omega]
      go_enter Try.func26, Try.ntmps26
      go_wp2_with fail
      refine (DC.out _).mono ?_
      rintro e w2 ⟨rfl, rfl⟩
      rename World => w
      go_wp2_with fail
      go_ret
      exact ⟨rfl, rfl⟩
    · have dm : decide (f + q < -500000) = false := decide_eq_false (by omega)
      have dm' : decide (-500000 < f + q) = decide (-500000 < f + q) := rfl
      rcases Int.lt_or_le 500000 (f + q) with cx | cx
      · have dx := decide_eq_true cx
        rw [show min (max (f + q) (-500000)) 500000 = 500000 by omega]
        go_enter Try.func26, Try.ntmps26
        go_wp2_with fail
        refine (DC.out _).mono ?_
        rintro e w2 ⟨rfl, rfl⟩
        rename World => w
        go_wp2_with fail
        go_ret
        exact ⟨rfl, rfl⟩
      · have dx : decide (500000 < f + q) = false := decide_eq_false (by omega)
        rw [show min (max (f + q) (-500000)) 500000 = f + q by omega]
        go_enter Try.func26, Try.ntmps26
        go_wp2_with fail
        refine (DC.out _).mono ?_
        rintro e w2 ⟨rfl, rfl⟩
        rename World => w
        go_wp2_with fail
        go_ret
        exact ⟨rfl, rfl⟩
  · rw [if_neg c1]
    have d1 : decide (n < 1048576) = true := decide_eq_true (by omega)
    go_enter Try.func26, Try.ntmps26
    go_wp2_with fail
    go_ret
    exact ⟨rfl, rfl⟩
theorem behindStep_c (n o : Int) (w : World) (hn : -4611686018427387904 ≤ n ∧ n ≤ 2305843077933170688) (ho : -68719476736 ≤ o ∧ o ≤ 68719476736) : Calls Try.prog 27 #[.int .i64 n, .int .i64 o] w fun e w' => e = .returned (.int .i64 (bnd (n + o))) ∧ w' = w := by
  have B := Lib.hid (show bnd (n + o) = min (max (n + o) (-2305843009213693952)) 2305843009213693952 from rfl)
  have w1 : IntKind.i64.wrap (n + o) = n + o := wrap_in (by omega) (by omega)
  have d0 : decide (2305843077933170688 < n) = false := decide_eq_false (by omega)
  rcases Int.lt_or_le (n + o) (-2305843009213693952) with c | c
  · have d := decide_eq_true c
    rw [show bnd (n + o) = -2305843009213693952 by rw [B.out]; omega]
    go_enter Try.func27, Try.ntmps27
    go_wp2_with fail
    go_ret
    exact ⟨rfl, rfl⟩
  · have d : decide (n + o < -2305843009213693952) = false := decide_eq_false (by omega)
    rcases Int.lt_or_le 2305843009213693952 (n + o) with c' | c'
    · have d' := decide_eq_true c'
      rw [show bnd (n + o) = 2305843009213693952 by rw [B.out]; omega]
      go_enter Try.func27, Try.ntmps27
      go_wp2_with fail
      go_ret
      exact ⟨rfl, rfl⟩
    · have d' : decide (2305843009213693952 < n + o) = false := decide_eq_false (by omega)
      rw [show bnd (n + o) = n + o by rw [B.out]; omega]
      go_enter Try.func27, Try.ntmps27
      go_wp2_with fail
      go_ret
      exact ⟨rfl, rfl⟩
set_option maxRecDepth 100000 in
set_option maxHeartbeats 2000000 in
theorem step_c {w : World} {b : Nat} {x y f p : Int} {s : Value} (h : Blk w b (pvs x y f p s)) (r now o : Int) (hn : -4611686018427387904 ≤ now ∧ now ≤ 2305843077933170688) (ho : -68719476736 ≤ o ∧ o ≤ 68719476736) :
    Calls Try.prog 24 #[.pointer (some ⟨b, 0, none⟩), .int .i64 r, .int .i64 now, .int .i64 o] w fun e w' => e = .returned (.int .i64 1) ∧ Blk w' b (pvs (bnd (now + o)) r f 0 (.iface 65 (.agg #[]))) ∧ Tu (Td b) w w' := by
  have BC := Lib.hid (fun w => behindStep_c now o w hn ho)
  obtain ⟨z0, z1, z2, z3, z4⟩ := blk5 h (brefl w)
  obtain ⟨f0, f1, f2, f3, f4⟩ := pfr h
  have SB : Hid (Blk ((((w.setCell ⟨b, 0, none⟩ (.int .i64 (bnd (now + o)))).setCell ⟨b, 1, none⟩ (.int .i64 r)).setCell ⟨b, 3, none⟩ (.int .i64 0)).setCell ⟨b, 4, none⟩ (.iface 65 (.agg #[]))) b (pvs (bnd (now + o)) r f 0 (.iface 65 (.agg #[])))) :=
    Lib.hid (blk_set (blk_set (blk_set (blk_set h 0 _) 1 _) 3 _) 4 _)
  have ST : Hid (Tu (Td b) w ((((w.setCell ⟨b, 0, none⟩ (.int .i64 (bnd (now + o)))).setCell ⟨b, 1, none⟩ (.int .i64 r)).setCell ⟨b, 3, none⟩ (.int .i64 0)).setCell ⟨b, 4, none⟩ (.iface 65 (.agg #[])))) :=
    Lib.hid (((((Tu.rf (Td b) w).set 0 _).set 1 _).set 3 _).set 4 _)
  generalize bnd (now + o) = bn at *
  clear h
  go_enter Try.func24, Try.ntmps24
  go_wp2_with fail
  refine (BC.out _).mono ?_
  rintro e w2 ⟨rfl, rfl⟩
  rename World => w
  go_wp2_with fail
  go_ret
  exact ⟨rfl, SB.out, ST.out⟩
set_option maxRecDepth 100000 in
set_option maxHeartbeats 4000000 in
theorem slew_c {w : World} {b : Nat} {x y f p : Int} {s : Value} (h : Blk w b (pvs x y f p s)) (hf : -500000 ≤ f ∧ f ≤ 500000) (r now o : Int) (hl : 0 ≤ y ∧ y ≤ r) (hr : r ≤ 2305843009213693952) (ho : -134217 ≤ o ∧ o ≤ 134217) (F : Int) (hF : F = if 1048576 ≤ r - y then min (max (f + o * 62500000 / (r - y)) (-500000)) 500000 else f) :
    Calls Try.prog 23 #[.pointer (some ⟨b, 0, none⟩), .int .i64 r, .int .i64 now, .int .i64 o] w fun e w' => e = .returned (.int .i64 0) ∧ Blk w' b (pvs now r F o (.iface 65 (.agg #[]))) ∧ Tu (Td b) w w' := by
  have w1 : IntKind.i64.wrap (r - y) = r - y := wrap_in (by omega) (by omega)
  have CC := Lib.hid (fun w => corrected_c f o (r - y) w hf ho (by omega))
  rw [← hF] at CC
  clear hF
  obtain ⟨z0, z1, z2, z3, z4⟩ := blk5 h (brefl w)
  obtain ⟨f0, f1, f2, f3, f4⟩ := pfr h
  have SB : Hid (Blk (w.setCell ⟨b, 2, none⟩ (.int .i64 F)).drew b (pvs x y F p s)) := Lib.hid ((blk_set h 2 _).below (bdrew1 _ _))
  have ST : Hid (Tu (Td b) w (w.setCell ⟨b, 2, none⟩ (.int .i64 F)).drew) := Lib.hid (((Tu.rf (Td b) w).set 2 _).tr (tu_below (X := Td b) (bdrew1 _ _)) (fun _ _ q => q))
  have FIN : Hid (∀ W, Blk W b (pvs x y F p s) → Tu (Td b) w W → Blk ((((W.setCell ⟨b, 0, none⟩ (.int .i64 now)).setCell ⟨b, 1, none⟩ (.int .i64 r)).setCell ⟨b, 3, none⟩ (.int .i64 o)).setCell ⟨b, 4, none⟩ (.iface 65 (.agg #[]))) b (pvs now r F o (.iface 65 (.agg #[]))) ∧ Tu (Td b) w ((((W.setCell ⟨b, 0, none⟩ (.int .i64 now)).setCell ⟨b, 1, none⟩ (.int .i64 r)).setCell ⟨b, 3, none⟩ (.int .i64 o)).setCell ⟨b, 4, none⟩ (.iface 65 (.agg #[])))) := Lib.hid fun W hw ht =>
    ⟨blk_set (blk_set (blk_set (blk_set hw 0 _) 1 _) 3 _) 4 _, ((((ht.set 0 _).set 1 _).set 3 _).set 4 _)⟩
  clear h
  go_enter Try.func23, Try.ntmps23
  go_upto_region 1 with fail
  go_region_with (first | (go_at_call 26; (with_reducible refine (CC.out _).mono ?_); rintro e w' ⟨rfl, rfl⟩))
  all_goals (generalize (World.setCell _ ⟨b, 2, none⟩ (.int .i64 F)).drew = wd at *)
  all_goals (clear z0 z1 z2 z3 z4 f0 f1 f2 f3 f4 CC)
  all_goals (obtain ⟨z0, z1, z2, z3, z4⟩ := blk5 SB.out (brefl wd); obtain ⟨f0, f1, f2, f3, f4⟩ := pfr SB.out; obtain ⟨u1, u2⟩ := FIN.out wd SB.out ST.out; have U1 := Lib.hid u1; have U2 := Lib.hid u2; clear u1 u2 FIN SB ST)
  all_goals (go_wp2_with fail)
  all_goals go_ret
  all_goals exact ⟨rfl, U1.out, U2.out⟩
/-- what an update does behind the reading: the clock, how it was taken. -/
def tk (c : Clk) (r now o : Int) : Clk × Int :=
  if c.state = 0 then (stp c r now o, 1)
  else if -134217 ≤ o ∧ o ≤ 134217 then (slC c r now o, 0)
  else if c.state = 1 then (⟨c.base, c.at', c.phase, c.last, r, c.freq, 2⟩, 2)
  else if r - c.since < 314572800 then (c, 2)
  else (stp c r now o, 1)
theorem stV0 {c : Clk} (h : c.state = 0) : stV c = .iface 51 (.agg #[]) := if_pos h
theorem stV1 {c : Clk} (h : c.state = 1) : stV c = .iface 65 (.agg #[]) := by unfold stV; rw [if_neg (by omega), if_pos h]
theorem stV2 {c : Clk} (h : c.state = 2) : stV c = .iface 61 (.agg #[.int .i64 c.since]) := by unfold stV; rw [if_neg (by omega), if_neg (by omega)]
theorem ta_uu (w : World) : (Instr.typeAssert (.iface 51 (.agg #[])) 53 51 true).run Try.prog w = .ok (.tuple #[.agg #[], .bool true]) w := by kernel_rfl
theorem ta_su (w : World) : (Instr.typeAssert (.iface 65 (.agg #[])) 53 51 true).run Try.prog w = .ok (.tuple #[.agg #[], .bool false]) w := by kernel_rfl
theorem ta_pu (s : Int) (w : World) : (Instr.typeAssert (.iface 61 (.agg #[.int .i64 s])) 53 51 true).run Try.prog w = .ok (.tuple #[.agg #[], .bool false]) w := by kernel_rfl
theorem ta_ss (w : World) : (Instr.typeAssert (.iface 65 (.agg #[])) 53 65 true).run Try.prog w = .ok (.tuple #[.agg #[], .bool true]) w := by kernel_rfl
theorem ta_ps (s : Int) (w : World) : (Instr.typeAssert (.iface 61 (.agg #[.int .i64 s])) 53 65 true).run Try.prog w = .ok (.tuple #[.agg #[], .bool false]) w := by kernel_rfl
theorem ta_up (w : World) : (Instr.typeAssert (.iface 51 (.agg #[])) 53 61 true).run Try.prog w = .ok (.tuple #[.agg #[.int .i64 0], .bool false]) w := by kernel_rfl
theorem ta_sp (w : World) : (Instr.typeAssert (.iface 65 (.agg #[])) 53 61 true).run Try.prog w = .ok (.tuple #[.agg #[.int .i64 0], .bool false]) w := by kernel_rfl
theorem ta_pp (s : Int) (w : World) : (Instr.typeAssert (.iface 61 (.agg #[.int .i64 s])) 53 61 true).run Try.prog w = .ok (.tuple #[.agg #[.int .i64 s], .bool true]) w := by kernel_rfl
theorem ign_u (r : Int) (w : World) : Calls Try.prog 44 #[.agg #[], .int .i64 r] w fun e w' => e = .returned (.bool false) ∧ Below w.heap.size w w' := by
  have BB := Lib.hid (balloc (brefl w) (.cells #[] 51))
  go_enter Try.func44, Try.ntmps44
  go_wp2_with fail
  go_ret
  exact ⟨rfl, BB.out⟩
theorem ign_s (r : Int) (w : World) : Calls Try.prog 46 #[.agg #[], .int .i64 r] w fun e w' => e = .returned (.bool true) ∧ Below w.heap.size w w' := by
  have BB := Lib.hid (balloc (brefl w) (.cells #[] 65))
  go_enter Try.func46, Try.ntmps46
  go_wp2_with fail
  go_ret
  exact ⟨rfl, BB.out⟩
theorem ign_p (s r : Int) (w : World) (h : -9223372036854775808 ≤ r - s ∧ r - s ≤ 9223372036854775807) : Calls Try.prog 45 #[.agg #[.int .i64 s], .int .i64 r] w fun e w' => e = .returned (.bool (decide (r - s < 314572800))) ∧ Below w.heap.size w w' := by
  have BB := Lib.hid (balloc (brefl w) (.cells #[.int .i64 s] 61))
  have NB := Blk.new' w #[.int .i64 s] 61
  have z0 := (NB.2 0 _ rfl).1
  clear NB
  have w1 : IntKind.i64.wrap (r - s) = r - s := wrap_in h.1 h.2
  go_enter Try.func45, Try.ntmps45
  go_wp2_with fail
  go_ret
  exact ⟨rfl, BB.out⟩
theorem me_u (w : World) : (method 184 51 (.agg #[]) "sundial/clock.ignores").run Try.prog w = .ok (44, .agg #[]) w := by kernel_rfl
theorem me_s (w : World) : (method 184 65 (.agg #[]) "sundial/clock.ignores").run Try.prog w = .ok (46, .agg #[]) w := by kernel_rfl
theorem me_p (s : Int) (w : World) : (method 184 61 (.agg #[.int .i64 s]) "sundial/clock.ignores").run Try.prog w = .ok (45, .agg #[.int .i64 s]) w := by kernel_rfl
set_option maxRecDepth 100000 in
set_option maxHeartbeats 4000000 in
theorem take_0 {w : World} {b : Nat} {x y f p s : Int} (h : Blk w b (pvs x y f p (.iface 51 (.agg #[])))) (r now o : Int) (hn : -4611686018427387904 ≤ now ∧ now ≤ 2305843077933170688) (ho : -68719476736 ≤ o ∧ o ≤ 68719476736) :
    Calls Try.prog 18 #[.pointer (some ⟨b, 0, none⟩), .int .i64 r, .int .i64 now, .int .i64 o] w fun e w' => e = .returned (.int .i64 1) ∧ Blk w' b (pvs (bnd (now + o)) r f 0 (.iface 65 (.agg #[]))) ∧ Tu (Td b) w w' := by
  have SC := Lib.hid (fun (W : World) (hw : Blk W b (pvs x y f p (.iface 51 (.agg #[])))) => step_c hw r now o hn ho)
  obtain ⟨z0, z1, z2, z3, z4⟩ := blk5 h (brefl w)
  have hb1 := balloc (brefl w) (.cells #[] 51)
  obtain ⟨y0, y1, y2, y3, y4⟩ := blk5 h hb1
  have B1 := Lib.hid hb1
  have H1 := Lib.hid (h.below hb1)
  clear h hb1
  have t1 := ta_uu
  have t2 := me_u
  go_enter Try.func18, Try.ntmps18
  go_wp2_with fail
  refine (ign_u r _).mono ?_
  rintro e w2 ⟨rfl, hb⟩
  have B2 := Lib.hid (bstep B1.out hb)
  have H2 := Lib.hid (H1.out.below hb)
  obtain ⟨x0, x1, x2, x3, x4⟩ := blk5 H1.out hb
  clear hb
  go_wp2_with fail
  refine (SC.out _ H2.out).mono ?_
  rintro e w3 ⟨rfl, hb, ht⟩
  have R1 := Lib.hid hb
  have R2 := Lib.hid (tu_world B2.out ht)
  clear hb ht
  go_wp2_with fail
  go_ret
  exact ⟨rfl, R1.out, R2.out⟩
set_option maxRecDepth 100000 in
set_option maxHeartbeats 4000000 in
theorem take_s1 {w : World} {b : Nat} {x y f p s : Int} (h : Blk w b (pvs x y f p (.iface 65 (.agg #[])))) (r now o : Int) (hf : -500000 ≤ f ∧ f ≤ 500000) (hl : 0 ≤ y ∧ y ≤ r) (hr : r ≤ 2305843009213693952) (ho : -134217 ≤ o ∧ o ≤ 134217) (F : Int) (hF : F = if 1048576 ≤ r - y then min (max (f + o * 62500000 / (r - y)) (-500000)) 500000 else f) :
    Calls Try.prog 18 #[.pointer (some ⟨b, 0, none⟩), .int .i64 r, .int .i64 now, .int .i64 o] w fun e w' => e = .returned (.int .i64 0) ∧ Blk w' b (pvs now r F o (.iface 65 (.agg #[]))) ∧ Tu (Td b) w w' := by
  have SC := Lib.hid (fun (W : World) (hw : Blk W b (pvs x y f p (.iface 65 (.agg #[])))) => slew_c hw hf r now o hl hr ho F hF)
  have d1 := decide_eq_true ho.1
  have d2 := decide_eq_true ho.2
  obtain ⟨z0, z1, z2, z3, z4⟩ := blk5 h (brefl w)
  have hb1 := balloc (brefl w) (.cells #[] 51)
  obtain ⟨y0, y1, y2, y3, y4⟩ := blk5 h hb1
  have B1 := Lib.hid hb1
  have H1 := Lib.hid (h.below hb1)
  clear h hb1
  clear hF hf hl hr ho
  have t1 := ta_su
  go_enter Try.func18, Try.ntmps18
  go_wp2_with fail
  refine (SC.out _ H1.out).mono ?_
  rintro e w3 ⟨rfl, hb, ht⟩
  have R1 := Lib.hid hb
  have R2 := Lib.hid (tu_world B1.out ht)
  clear hb ht
  go_wp2_with fail
  go_ret
  exact ⟨rfl, R1.out, R2.out⟩
set_option maxRecDepth 100000 in
set_option maxHeartbeats 4000000 in
theorem take_s2 {w : World} {b : Nat} {x y f p s : Int} (h : Blk w b (pvs x y f p (.iface 61 (.agg #[.int .i64 s])))) (r now o : Int) (hf : -500000 ≤ f ∧ f ≤ 500000) (hl : 0 ≤ y ∧ y ≤ r) (hr : r ≤ 2305843009213693952) (ho : -134217 ≤ o ∧ o ≤ 134217) (F : Int) (hF : F = if 1048576 ≤ r - y then min (max (f + o * 62500000 / (r - y)) (-500000)) 500000 else f) :
    Calls Try.prog 18 #[.pointer (some ⟨b, 0, none⟩), .int .i64 r, .int .i64 now, .int .i64 o] w fun e w' => e = .returned (.int .i64 0) ∧ Blk w' b (pvs now r F o (.iface 65 (.agg #[]))) ∧ Tu (Td b) w w' := by
  have SC := Lib.hid (fun (W : World) (hw : Blk W b (pvs x y f p (.iface 61 (.agg #[.int .i64 s])))) => slew_c hw hf r now o hl hr ho F hF)
  have d1 := decide_eq_true ho.1
  have d2 := decide_eq_true ho.2
  obtain ⟨z0, z1, z2, z3, z4⟩ := blk5 h (brefl w)
  have hb1 := balloc (brefl w) (.cells #[] 51)
  obtain ⟨y0, y1, y2, y3, y4⟩ := blk5 h hb1
  have B1 := Lib.hid hb1
  have H1 := Lib.hid (h.below hb1)
  clear h hb1
  clear hF hf hl hr ho
  have t1 := ta_pu s
  go_enter Try.func18, Try.ntmps18
  go_wp2_with fail
  refine (SC.out _ H1.out).mono ?_
  rintro e w3 ⟨rfl, hb, ht⟩
  have R1 := Lib.hid hb
  have R2 := Lib.hid (tu_world B1.out ht)
  clear hb ht
  go_wp2_with fail
  go_ret
  exact ⟨rfl, R1.out, R2.out⟩
set_option maxRecDepth 100000 in
set_option maxHeartbeats 4000000 in
theorem take_1 {w : World} {b : Nat} {x y f p s : Int} (h : Blk w b (pvs x y f p (.iface 65 (.agg #[])))) (r now o : Int) (hbg : o < -134217 ∨ 134217 < o) :
    Calls Try.prog 18 #[.pointer (some ⟨b, 0, none⟩), .int .i64 r, .int .i64 now, .int .i64 o] w fun e w' => e = .returned (.int .i64 2) ∧ Blk w' b (pvs x y f p (.iface 61 (.agg #[.int .i64 r]))) ∧ Tu (Td b) w w' := by
  obtain ⟨z0, z1, z2, z3, z4⟩ := blk5 h (brefl w)
  have hb1 := balloc (brefl w) (.cells #[] 51)
  obtain ⟨y0, y1, y2, y3, y4⟩ := blk5 h hb1
  have B1 := Lib.hid hb1
  have H1 := Lib.hid (h.below hb1)
  clear h hb1
  by_cases c1 : -134217 ≤ o
  · have d1 := decide_eq_true c1
    have d2 : decide (o ≤ 134217) = false := decide_eq_false (by omega)
    have t1 := ta_su
    have t2 := me_s
    have t3 := ta_ss
    go_enter Try.func18, Try.ntmps18
    go_wp2_with fail
    refine (ign_s r _).mono ?_
    rintro e w2 ⟨rfl, hb⟩
    have B2 := Lib.hid (bstep B1.out hb)
    have H2 := Lib.hid (H1.out.below hb)
    obtain ⟨x0, x1, x2, x3, x4⟩ := blk5 H1.out hb
    clear hb
    have hb3 := balloc (brefl w2) (.cells #[] 65)
    have H3 := H2.out.below hb3
    obtain ⟨v0, v1, v2, v3, v4⟩ := blk5 H3 (brefl _)
    obtain ⟨f0, f1, f2, f3, f4⟩ := pfr H3
    have R1 := Lib.hid (blk_set H3 4 (.iface 61 (.agg #[.int .i64 r])))
    have R2 := Lib.hid (tu_world (bstep B2.out hb3) ((Tu.rf (Td b) _).set 4 (.iface 61 (.agg #[.int .i64 r]))))
    clear H3 hb3
    go_wp2_with fail
    go_ret
    exact ⟨rfl, R1.out, R2.out⟩
  · have d1 := decide_eq_false c1
    have t1 := ta_su
    have t2 := me_s
    have t3 := ta_ss
    go_enter Try.func18, Try.ntmps18
    go_wp2_with fail
    refine (ign_s r _).mono ?_
    rintro e w2 ⟨rfl, hb⟩
    have B2 := Lib.hid (bstep B1.out hb)
    have H2 := Lib.hid (H1.out.below hb)
    obtain ⟨x0, x1, x2, x3, x4⟩ := blk5 H1.out hb
    clear hb
    have hb3 := balloc (brefl w2) (.cells #[] 65)
    have H3 := H2.out.below hb3
    obtain ⟨v0, v1, v2, v3, v4⟩ := blk5 H3 (brefl _)
    obtain ⟨f0, f1, f2, f3, f4⟩ := pfr H3
    have R1 := Lib.hid (blk_set H3 4 (.iface 61 (.agg #[.int .i64 r])))
    have R2 := Lib.hid (tu_world (bstep B2.out hb3) ((Tu.rf (Td b) _).set 4 (.iface 61 (.agg #[.int .i64 r]))))
    clear H3 hb3
    go_wp2_with fail
    go_ret
    exact ⟨rfl, R1.out, R2.out⟩
set_option maxRecDepth 100000 in
set_option maxHeartbeats 4000000 in
theorem take_2 {w : World} {b : Nat} {x y f p s : Int} (h : Blk w b (pvs x y f p (.iface 61 (.agg #[.int .i64 s])))) (r now o : Int) (hbg : o < -134217 ∨ 134217 < o) (hs : -9223372036854775808 ≤ r - s ∧ r - s ≤ 9223372036854775807) (hq : r - s < 314572800) :
    Calls Try.prog 18 #[.pointer (some ⟨b, 0, none⟩), .int .i64 r, .int .i64 now, .int .i64 o] w fun e w' => e = .returned (.int .i64 2) ∧ Blk w' b (pvs x y f p (.iface 61 (.agg #[.int .i64 s]))) ∧ Tu (Td b) w w' := by
  obtain ⟨z0, z1, z2, z3, z4⟩ := blk5 h (brefl w)
  have hb1 := balloc (brefl w) (.cells #[] 51)
  obtain ⟨y0, y1, y2, y3, y4⟩ := blk5 h hb1
  have B1 := Lib.hid hb1
  have H1 := Lib.hid (h.below hb1)
  clear h hb1
  have dq := decide_eq_true hq
  by_cases c1 : -134217 ≤ o
  · have d1 := decide_eq_true c1
    have d2 : decide (o ≤ 134217) = false := decide_eq_false (by omega)
    have t1 := ta_pu s
    have t2 := me_p s
    have t3 := ta_ps s
    go_enter Try.func18, Try.ntmps18
    go_wp2_with fail
    refine (ign_p s r _ hs).mono ?_
    rintro e w2 ⟨rfl, hb⟩
    have B2 := Lib.hid (bstep B1.out hb)
    have H2 := Lib.hid (H1.out.below hb)
    obtain ⟨x0, x1, x2, x3, x4⟩ := blk5 H1.out hb
    clear hb
    have hb3 := balloc (brefl w2) (.cells #[] 65)
    have H3 := H2.out.below hb3
    obtain ⟨v0, v1, v2, v3, v4⟩ := blk5 H3 (brefl _)
    obtain ⟨f0, f1, f2, f3, f4⟩ := pfr H3
    have R1 := Lib.hid H3
    have R2 := Lib.hid (tu_below (X := Td b) (bstep B2.out hb3))
    rw [dq]
    clear H3 hb3
    go_wp2_with fail
    go_ret
    exact ⟨rfl, R1.out, R2.out⟩
  · have d1 := decide_eq_false c1
    have t1 := ta_pu s
    have t2 := me_p s
    have t3 := ta_ps s
    go_enter Try.func18, Try.ntmps18
    go_wp2_with fail
    refine (ign_p s r _ hs).mono ?_
    rintro e w2 ⟨rfl, hb⟩
    have B2 := Lib.hid (bstep B1.out hb)
    have H2 := Lib.hid (H1.out.below hb)
    obtain ⟨x0, x1, x2, x3, x4⟩ := blk5 H1.out hb
    clear hb
    have hb3 := balloc (brefl w2) (.cells #[] 65)
    have H3 := H2.out.below hb3
    obtain ⟨v0, v1, v2, v3, v4⟩ := blk5 H3 (brefl _)
    obtain ⟨f0, f1, f2, f3, f4⟩ := pfr H3
    have R1 := Lib.hid H3
    have R2 := Lib.hid (tu_below (X := Td b) (bstep B2.out hb3))
    rw [dq]
    clear H3 hb3
    go_wp2_with fail
    go_ret
    exact ⟨rfl, R1.out, R2.out⟩
set_option maxRecDepth 100000 in
set_option maxHeartbeats 4000000 in
theorem take_3 {w : World} {b : Nat} {x y f p s : Int} (h : Blk w b (pvs x y f p (.iface 61 (.agg #[.int .i64 s])))) (r now o : Int) (hbg : o < -134217 ∨ 134217 < o) (hs : -9223372036854775808 ≤ r - s ∧ r - s ≤ 9223372036854775807) (hq : ¬ r - s < 314572800) (hn : -4611686018427387904 ≤ now ∧ now ≤ 2305843077933170688) (ho : -68719476736 ≤ o ∧ o ≤ 68719476736) :
    Calls Try.prog 18 #[.pointer (some ⟨b, 0, none⟩), .int .i64 r, .int .i64 now, .int .i64 o] w fun e w' => e = .returned (.int .i64 1) ∧ Blk w' b (pvs (bnd (now + o)) r f 0 (.iface 65 (.agg #[]))) ∧ Tu (Td b) w w' := by
  have SC := Lib.hid (fun (W : World) (hw : Blk W b (pvs x y f p (.iface 61 (.agg #[.int .i64 s])))) => step_c hw r now o hn ho)
  obtain ⟨z0, z1, z2, z3, z4⟩ := blk5 h (brefl w)
  have hb1 := balloc (brefl w) (.cells #[] 51)
  obtain ⟨y0, y1, y2, y3, y4⟩ := blk5 h hb1
  have B1 := Lib.hid hb1
  have H1 := Lib.hid (h.below hb1)
  clear h hb1
  have dq := decide_eq_false hq
  by_cases c1 : -134217 ≤ o
  · have d1 := decide_eq_true c1
    have d2 : decide (o ≤ 134217) = false := decide_eq_false (by omega)
    have t1 := ta_pu s
    have t2 := me_p s
    go_enter Try.func18, Try.ntmps18
    go_wp2_with fail
    refine (ign_p s r _ hs).mono ?_
    rintro e w2 ⟨rfl, hb⟩
    have B2 := Lib.hid (bstep B1.out hb)
    have H2 := Lib.hid (H1.out.below hb)
    obtain ⟨x0, x1, x2, x3, x4⟩ := blk5 H1.out hb
    clear hb
    rw [dq]
    go_wp2_with fail
    refine (SC.out _ H2.out).mono ?_
    rintro e w3 ⟨rfl, hb, ht⟩
    have R1 := Lib.hid hb
    have R2 := Lib.hid (tu_world B2.out ht)
    clear hb ht
    go_wp2_with fail
    go_ret
    exact ⟨rfl, R1.out, R2.out⟩
  · have d1 := decide_eq_false c1
    have t1 := ta_pu s
    have t2 := me_p s
    go_enter Try.func18, Try.ntmps18
    go_wp2_with fail
    refine (ign_p s r _ hs).mono ?_
    rintro e w2 ⟨rfl, hb⟩
    have B2 := Lib.hid (bstep B1.out hb)
    have H2 := Lib.hid (H1.out.below hb)
    obtain ⟨x0, x1, x2, x3, x4⟩ := blk5 H1.out hb
    clear hb
    rw [dq]
    go_wp2_with fail
    refine (SC.out _ H2.out).mono ?_
    rintro e w3 ⟨rfl, hb, ht⟩
    have R1 := Lib.hid hb
    have R2 := Lib.hid (tu_world B2.out ht)
    clear hb ht
    go_wp2_with fail
    go_ret
    exact ⟨rfl, R1.out, R2.out⟩
end Go.Proofs.Ytojcckikgnbgiaa.Ck
