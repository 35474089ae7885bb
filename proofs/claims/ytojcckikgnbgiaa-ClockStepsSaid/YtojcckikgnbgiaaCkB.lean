/-
  The document's step, slew, Update and New of a clock.
  Conditions: none but that the clock lies in memory and is in order.
-/
import Derived.Test.YtojcckikgnbgiaaCkA
namespace Go.Proofs.Ytojcckikgnbgiaa.Ck
open Go.RowKit Go.ChangeShapes Go.WideShapes Go.ChangeAt Go.Joins Fl
set_option linter.unusedVariables false
set_option linter.unusedSimpArgs false

theorem kfr {w : World} {b : Nat} {c : Clk} (h : Blk w b (kvs c)) : w.frozen? ⟨b, 0, none⟩ = false ∧ w.frozen? ⟨b, 1, none⟩ = false ∧ w.frozen? ⟨b, 2, none⟩ = false ∧ w.frozen? ⟨b, 3, none⟩ = false ∧ w.frozen? ⟨b, 4, none⟩ = false ∧ w.frozen? ⟨b, 5, none⟩ = false ∧ w.frozen? ⟨b, 6, none⟩ = false :=
  ⟨(h.2 0 _ rfl).2, (h.2 1 _ rfl).2, (h.2 2 _ rfl).2, (h.2 3 _ rfl).2, (h.2 4 _ rfl).2, (h.2 5 _ rfl).2, (h.2 6 _ rfl).2⟩
set_option maxRecDepth 100000 in
set_option maxHeartbeats 2000000 in
theorem rStep_c {w : World} {b : Nat} {c : Clk} (h : Blk w b (kvs c)) (r now o : Int) (hn : -4611686018427387904 ≤ now ∧ now ≤ 4611686018427387904) (ho : -68719476736 ≤ o ∧ o ≤ 68719476736) :
    Calls Try.prog 19 #[.pointer (some ⟨b, 0, none⟩), .int .i64 r, .int .i64 now, .int .i64 o] w fun e w' => e = .returned (.int .i64 1) ∧ Blk w' b (kvs (stp c r now o)) ∧ Tu (Td b) w w' := by
  have w1 : IntKind.i64.wrap (now + o) = now + o := wrap_in (by omega) (by omega)
  have BC := Lib.hid (fun w => bound_c (now + o) w)
  obtain ⟨z0, z1, z2, z3, z4, z5, z6⟩ := blk7 h (brefl w)
  obtain ⟨f0, f1, f2, f3, f4, f5, f6⟩ := kfr h
  have SB : Hid (Blk (((((w.setCell ⟨b, 0, none⟩ (.int .i64 (bnd (now + o)))).setCell ⟨b, 1, none⟩ (.int .i64 r)).setCell ⟨b, 2, none⟩ (.int .i64 0)).setCell ⟨b, 3, none⟩ (.int .i64 r)).setCell ⟨b, 6, none⟩ (.int .i64 1)) b (kvs (stp c r now o))) :=
    Lib.hid (blk_set (blk_set (blk_set (blk_set (blk_set h 0 _) 1 _) 2 _) 3 _) 6 _)
  have ST : Hid (Tu (Td b) w (((((w.setCell ⟨b, 0, none⟩ (.int .i64 (bnd (now + o)))).setCell ⟨b, 1, none⟩ (.int .i64 r)).setCell ⟨b, 2, none⟩ (.int .i64 0)).setCell ⟨b, 3, none⟩ (.int .i64 r)).setCell ⟨b, 6, none⟩ (.int .i64 1))) :=
    Lib.hid ((((((Tu.rf (Td b) w).set 0 _).set 1 _).set 2 _).set 3 _).set 6 _)
  generalize bnd (now + o) = bn at *
  obtain ⟨cb, ca, cp, cl, cs, cf, ct⟩ := c
  simp only at z0 z1 z2 z3 z4 z5 z6
  clear h
  go_enter Try.func19, Try.ntmps19
  go_wp2_with fail
  refine (BC.out _).mono ?_
  rintro e w2 ⟨rfl, rfl⟩
  rename World => w
  go_wp2_with fail
  go_ret
  exact ⟨rfl, SB.out, ST.out⟩
theorem tu_world {X : Nat → Prop} {a b c : World} (h : Below a.heap.size a b) (k : Tu X b c) : Tu X a c := (tu_below (X := X) h).tr k (fun _ _ q => q)
set_option maxRecDepth 100000 in
set_option maxHeartbeats 4000000 in
theorem rSlew_c {w : World} {b : Nat} {c : Clk} (h : Blk w b (kvs c)) (hf : -500000 ≤ c.freq ∧ c.freq ≤ 500000) (r now o : Int) (hl : 0 ≤ c.last ∧ c.last ≤ r) (hr : r ≤ 2305843009213693952) (ho : -134217 ≤ o ∧ o ≤ 134217) :
    Calls Try.prog 20 #[.pointer (some ⟨b, 0, none⟩), .int .i64 r, .int .i64 now, .int .i64 o] w fun e w' => e = .returned (.int .i64 0) ∧ Blk w' b (kvs (slC c r now o)) ∧ Tu (Td b) w w' := by
  have FE : Hid (frq c r o = if 1048576 ≤ r - c.last then min (max (c.freq + o * 62500000 / (r - c.last)) (-500000)) 500000 else c.freq) := Lib.hid rfl
  have FIN : Hid (∀ (W : World) (fr : Int), Blk W b (kvs ⟨c.base, c.at', c.phase, c.last, c.since, fr, c.state⟩) → frq c r o = fr → Blk (((((W.setCell ⟨b, 0, none⟩ (.int .i64 now)).setCell ⟨b, 1, none⟩ (.int .i64 r)).setCell ⟨b, 2, none⟩ (.int .i64 o)).setCell ⟨b, 3, none⟩ (.int .i64 r)).setCell ⟨b, 6, none⟩ (.int .i64 1)) b (kvs (slC c r now o)) ∧ Tu (Td b) W (((((W.setCell ⟨b, 0, none⟩ (.int .i64 now)).setCell ⟨b, 1, none⟩ (.int .i64 r)).setCell ⟨b, 2, none⟩ (.int .i64 o)).setCell ⟨b, 3, none⟩ (.int .i64 r)).setCell ⟨b, 6, none⟩ (.int .i64 1))) := Lib.hid fun W fr hb e => by
    have q := blk_set (blk_set (blk_set (blk_set (blk_set hb 0 (.int .i64 now)) 1 (.int .i64 r)) 2 (.int .i64 o)) 3 (.int .i64 r)) 6 (.int .i64 1)
    refine ⟨?_, (((((Tu.rf (Td b) W).set 0 _).set 1 _).set 2 _).set 3 _).set 6 _⟩
    unfold slC
    rw [e]
    exact q
  have HB := Lib.hid h
  obtain ⟨z0, z1, z2, z3, z4, z5, z6⟩ := blk7 h (brefl w)
  obtain ⟨f0, f1, f2, f3, f4, f5, f6⟩ := kfr h
  have HDN : Hid (∀ n, Blk (w.drewN n) b (kvs c)) := Lib.hid fun n => h.below (bdrew (brefl w) n)
  have TDN : Hid (∀ n, Tu (Td b) w (w.drewN n)) := Lib.hid fun n => tu_drew (X := Td b) w n
  obtain ⟨cb, ca, cp, cl, cs, cf, ct⟩ := c
  simp only at *
  clear h
  have w1 : IntKind.i64.wrap (r - cl) = r - cl := wrap_in (by omega) (by omega)
  by_cases c1 : 1048576 ≤ r - cl
  · have d1 := decide_eq_true c1
    have FE2 := FE.out
    rw [if_pos c1] at FE2
    have w2 : IntKind.i64.wrap (o * 62500000) = o * 62500000 := wrap_in (by omega) (by omega)
    have DC := Lib.hid (fun w => down_c (o * 62500000) (r - cl) w (by omega) (by omega))
    have q1 : -8388562500000 ≤ o * 62500000 / (r - cl) ∧ o * 62500000 / (r - cl) ≤ 8388562500000 := by
      have p : 0 < r - cl := by omega
      have a := (Int.le_ediv_iff_mul_le (a := -8388562500000) (b := o * 62500000) p).2 (by omega)
      have z := (Int.ediv_lt_iff_lt_mul (a := o * 62500000) (b := 8388562500001) p).2 (by omega)
      omega
    obtain ⟨q, hq⟩ : ∃ q, o * 62500000 / (r - cl) = q := ⟨_, rfl⟩
    rw [hq] at DC q1 FE2
    have w3 : IntKind.i64.wrap (cf + q) = cf + q := wrap_in (by omega) (by omega)
    have w4 : IntKind.i64.wrap q = q := wrap_in (by omega) (by omega)
    have HFE := Lib.hid FE2
    clear hq FE2
    rcases Int.lt_or_le (cf + q) (-500000) with cm | cm
    · have dm := decide_eq_true cm
      have fr : frq ⟨cb, ca, cp, cl, cs, cf, ct⟩ r o = -500000 := by have := HFE.out; omega
      go_enter Try.func20, Try.ntmps20
      go_upto_region 2 with fail
      go_quiet ((go_at_call 17; with_reducible exact Calls.quiet_of_same (DC.out _)))
      go_upto_region 3 with fail
      clear z0 z1 z2 z3 z4 z5 z6 f0 f1 f2 f3 f4 f5 f6
      have HD := Lib.hid (HDN.out nq)
      have TD := Lib.hid (TDN.out nq)
      generalize w.drewN nq = wd at *
      obtain ⟨z0, z1, z2, z3, z4, z5, z6⟩ := blk7 HD.out (brefl wd)
      obtain ⟨f0, f1, f2, f3, f4, f5, f6⟩ := kfr HD.out
      have RR := FIN.out (wd.setCell ⟨b, 5, none⟩ (.int .i64 (-500000))) (-500000) (blk_set HD.out 5 (.int .i64 (-500000))) fr
      have R1 := Lib.hid RR.1
      have R2 := Lib.hid ((TD.out.set 5 (.int .i64 (-500000))).tr RR.2 (fun _ _ q => q))
      clear fr RR
      go_wp2_with fail
      go_ret
      exact ⟨rfl, R1.out, R2.out⟩
    · have dm : decide (cf + q < -500000) = false := decide_eq_false (by omega)
      rcases Int.lt_or_le 500000 (cf + q) with cx | cx
      · have dx := decide_eq_true cx
        have fr : frq ⟨cb, ca, cp, cl, cs, cf, ct⟩ r o = 500000 := by have := HFE.out; omega
        go_enter Try.func20, Try.ntmps20
        go_upto_region 2 with fail
        go_quiet ((go_at_call 17; with_reducible exact Calls.quiet_of_same (DC.out _)))
        go_upto_region 3 with fail
        clear z0 z1 z2 z3 z4 z5 z6 f0 f1 f2 f3 f4 f5 f6
        have HD := Lib.hid (HDN.out nq)
        have TD := Lib.hid (TDN.out nq)
        generalize w.drewN nq = wd at *
        obtain ⟨z0, z1, z2, z3, z4, z5, z6⟩ := blk7 HD.out (brefl wd)
        obtain ⟨f0, f1, f2, f3, f4, f5, f6⟩ := kfr HD.out
        have RR := FIN.out (wd.setCell ⟨b, 5, none⟩ (.int .i64 500000)) 500000 (blk_set HD.out 5 (.int .i64 500000)) fr
        have R1 := Lib.hid RR.1
        have R2 := Lib.hid ((TD.out.set 5 (.int .i64 500000)).tr RR.2 (fun _ _ q => q))
        clear fr RR
        go_wp2_with fail
        go_ret
        exact ⟨rfl, R1.out, R2.out⟩
      · have dx : decide (500000 < cf + q) = false := decide_eq_false (by omega)
        have fr : frq ⟨cb, ca, cp, cl, cs, cf, ct⟩ r o = cf + q := by have := HFE.out; omega
        go_enter Try.func20, Try.ntmps20
        go_upto_region 2 with fail
        go_quiet ((go_at_call 17; with_reducible exact Calls.quiet_of_same (DC.out _)))
        go_upto_region 3 with fail
        clear z0 z1 z2 z3 z4 z5 z6 f0 f1 f2 f3 f4 f5 f6
        have HD := Lib.hid (HDN.out nq)
        have TD := Lib.hid (TDN.out nq)
        generalize w.drewN nq = wd at *
        obtain ⟨z0, z1, z2, z3, z4, z5, z6⟩ := blk7 HD.out (brefl wd)
        obtain ⟨f0, f1, f2, f3, f4, f5, f6⟩ := kfr HD.out
        have RR := FIN.out (wd.setCell ⟨b, 5, none⟩ (.int .i64 (cf + q))) (cf + q) (blk_set HD.out 5 (.int .i64 (cf + q))) fr
        have R1 := Lib.hid RR.1
        have R2 := Lib.hid ((TD.out.set 5 (.int .i64 (cf + q))).tr RR.2 (fun _ _ q => q))
        clear fr RR
        go_wp2_with fail
        go_ret
        exact ⟨rfl, R1.out, R2.out⟩
  · have d1 := decide_eq_false c1
    have FE2 := FE.out
    rw [if_neg c1] at FE2
    obtain ⟨r1, r2⟩ := FIN.out w cf HB.out FE2
    have R1 := Lib.hid r1
    have R2 := Lib.hid r2
    clear FE2 r1 r2
    go_enter Try.func20, Try.ntmps20
    go_wp2_with fail
    go_ret
    exact ⟨rfl, R1.out, R2.out⟩
def udE (c : Clk) (r o : Int) : Ending := .returned (.tuple #[.int .i64 (upd c r o).2.1, .int .i64 (upd c r o).2.2])
set_option maxRecDepth 100000 in
set_option maxHeartbeats 4000000 in
theorem rUpdate_c {w : World} {b k : Nat} {c : Clk} (h : Blk w b (kvs c)) (hk : k ≤ 1000) (hi : In k c) (r o : Int) (hr : -9223372036854775808 ≤ r ∧ r ≤ 9223372036854775807) (ho : -9223372036854775808 ≤ o ∧ o ≤ 9223372036854775807) :
    Calls Try.prog 13 #[.pointer (some ⟨b, 0, none⟩), .int .i64 r, .int .i64 o] w fun e w' => e = udE c r o ∧ Blk w' b (kvs (upd c r o).1) ∧ Tu (Td b) w w' := by
  have RC := Lib.hid (rRead_c h hk hi r hr)
  have HB := Lib.hid h
  have HI := Lib.hid hi
  have UD : Hid (∀ c' m e, upd c r o = (c', m, e) → ∀ W, Blk W b (kvs c') → Tu (Td b) w W → (Ending.returned (.tuple #[.int .i64 m, .int .i64 e]) = udE c r o ∧ Blk W b (kvs (upd c r o).1) ∧ Tu (Td b) w W)) := Lib.hid fun c' m e q W h1 h2 => by
    unfold udE
    rw [q]
    exact ⟨rfl, h1, h2⟩
  unfold rdE rdA at RC
  by_cases q : rdO c r
  · rw [if_pos q] at RC
    have rd := hi.read q
    have rl : c.last ≤ r ∧ r ≤ 2305843009213693952 ∧ 0 ≤ r := by
      obtain ⟨_, _, h3, _, h5, _⟩ := hi
      unfold rdO at q
      omega
    have U0 : Hid (upd c r o = if o < -68719476736 ∨ 68719476736 < o then (c, 0, 2) else if c.state = 0 then (stp c r (rdV c r) o, 1, 0) else if -134217 ≤ o ∧ o ≤ 134217 then (slC c r (rdV c r) o, 0, 0) else if c.state = 1 then (⟨c.base, c.at', c.phase, c.last, r, c.freq, 2⟩, 2, 0) else if r - c.since < 314572800 then (c, 2, 0) else (stp c r (rdV c r) o, 1, 0)) := Lib.hid (by unfold upd; rw [if_neg (fun z => z q)])
    have SC := Lib.hid (fun (W : World) (hw : Blk W b (kvs c)) (h1 : -68719476736 ≤ o ∧ o ≤ 68719476736) => rStep_c hw r (rdV c r) o (by omega) h1)
    have LC := Lib.hid (fun (W : World) (hw : Blk W b (kvs c)) (h1 : -134217 ≤ o ∧ o ≤ 134217) => rSlew_c hw hi.1 r (rdV c r) o ⟨hi.2.2.2.2.1.1, rl.1⟩ rl.2.1 h1)
    generalize rdV c r = now at *
    have st := hi.2.2.2.2.2.1
    have sn := hi.2.2.2.2.2.2.2
    have ca0 := hi.2.2.1.1
    by_cases c1 : o < -68719476736
    · have e1 := decide_eq_true c1
      have UE := Lib.hid (UD.out _ _ _ (U0.out.trans (if_pos (.inl c1))))
      go_enter Try.func13, Try.ntmps13
      go_wp2_with fail
      refine RC.out.mono ?_
      rintro e w1 ⟨rfl, hb⟩
      have B1 := Lib.hid hb
      clear hb RC
      go_wp2_with fail
      go_ret2
      exact UE.out w1 (HB.out.below B1.out) (tu_below B1.out)
    have e1 := decide_eq_false c1
    by_cases c2 : 68719476736 < o
    · have e2 := decide_eq_true c2
      have UE := Lib.hid (UD.out _ _ _ (U0.out.trans (if_pos (.inr c2))))
      go_enter Try.func13, Try.ntmps13
      go_wp2_with fail
      refine RC.out.mono ?_
      rintro e w1 ⟨rfl, hb⟩
      have B1 := Lib.hid hb
      clear hb RC
      go_wp2_with fail
      go_ret2
      exact UE.out w1 (HB.out.below B1.out) (tu_below B1.out)
    have e2 := decide_eq_false c2
    have U1 := Lib.hid (U0.out.trans (if_neg (fun z => by omega)))
    by_cases c3 : c.state = 0
    · have UE := Lib.hid (UD.out _ _ _ (U1.out.trans (if_pos c3)))
      have e3 : (c.state == 0) = true := by simpa using c3
      go_enter Try.func13, Try.ntmps13
      go_wp2_with fail
      refine RC.out.mono ?_
      rintro e w1 ⟨rfl, hb⟩
      have B1 := Lib.hid hb
      obtain ⟨z0, z1, z2, z3, z4, z5, z6⟩ := blk7 HB.out hb
      clear hb RC
      go_wp2_with fail
      refine (SC.out w1 (HB.out.below B1.out) ⟨by omega, by omega⟩).mono ?_
      rintro e w2 ⟨rfl, hb, ht⟩
      have FI := Lib.hid (UE.out w2 hb (tu_world B1.out ht))
      clear hb ht
      go_wp2_with fail
      go_ret2
      exact FI.out
    have e3 : (c.state == 0) = false := by simpa using c3
    have U2 := Lib.hid (U1.out.trans (if_neg c3))
    by_cases c4 : -134217 ≤ o
    · have e4 := decide_eq_true c4
      by_cases c5 : o ≤ 134217
      · have e5 := decide_eq_true c5
        have UE := Lib.hid (UD.out _ _ _ (U2.out.trans (if_pos ⟨c4, c5⟩)))
        go_enter Try.func13, Try.ntmps13
        go_wp2_with fail
        refine RC.out.mono ?_
        rintro e w1 ⟨rfl, hb⟩
        have B1 := Lib.hid hb
        obtain ⟨z0, z1, z2, z3, z4, z5, z6⟩ := blk7 HB.out hb
        clear hb RC
        go_wp2_with fail
        refine (LC.out w1 (HB.out.below B1.out) ⟨by omega, by omega⟩).mono ?_
        rintro e w2 ⟨rfl, hb, ht⟩
        have FI := Lib.hid (UE.out w2 hb (tu_world B1.out ht))
        clear hb ht
        go_wp2_with fail
        go_ret2
        exact FI.out
      · have e5 := decide_eq_false c5
        have U3 := Lib.hid (U2.out.trans (if_neg (fun z => c5 z.2)))
        by_cases c6 : c.state = 1
        · have e6 : (c.state == 1) = true := by simpa using c6
          have UE := Lib.hid (UD.out _ _ _ (U3.out.trans (if_pos c6)))
          go_enter Try.func13, Try.ntmps13
          go_wp2_with fail
          refine RC.out.mono ?_
          rintro e w1 ⟨rfl, hb⟩
          have B1 := Lib.hid hb
          obtain ⟨z0, z1, z2, z3, z4, z5, z6⟩ := blk7 HB.out hb
          have K1 := HB.out.below hb
          obtain ⟨f0, f1, f2, f3, f4, f5, f6⟩ := kfr K1
          have FB := Lib.hid (blk_set (blk_set K1 6 (.int .i64 2)) 4 (.int .i64 r))
          have FT := Lib.hid (tu_world hb (((Tu.rf (Td b) w1).set 6 (.int .i64 2)).set 4 (.int .i64 r)))
          have FI := Lib.hid (UE.out _ FB.out FT.out)
          clear hb RC K1 FB FT
          go_wp2_with fail
          go_ret2
          exact FI.out
        · have e6 : (c.state == 1) = false := by simpa using c6
          have U4 := Lib.hid (U3.out.trans (if_neg c6))
          have ws : IntKind.i64.wrap (r - c.since) = r - c.since := wrap_in (by omega) (by omega)
          by_cases c7 : r - c.since < 314572800
          · have e7 := decide_eq_true c7
            have UE := Lib.hid (UD.out _ _ _ (U4.out.trans (if_pos c7)))
            go_enter Try.func13, Try.ntmps13
            go_wp2_with fail
            refine RC.out.mono ?_
            rintro e w1 ⟨rfl, hb⟩
            have B1 := Lib.hid hb
            obtain ⟨z0, z1, z2, z3, z4, z5, z6⟩ := blk7 HB.out hb
            clear hb RC
            go_wp2_with fail
            go_ret2
            exact UE.out w1 (HB.out.below B1.out) (tu_below B1.out)
          · have e7 := decide_eq_false c7
            have UE := Lib.hid (UD.out _ _ _ (U4.out.trans (if_neg c7)))
            go_enter Try.func13, Try.ntmps13
            go_wp2_with fail
            refine RC.out.mono ?_
            rintro e w1 ⟨rfl, hb⟩
            have B1 := Lib.hid hb
            obtain ⟨z0, z1, z2, z3, z4, z5, z6⟩ := blk7 HB.out hb
            clear hb RC
            go_wp2_with fail
            refine (SC.out w1 (HB.out.below B1.out) ⟨by omega, by omega⟩).mono ?_
            rintro e w2 ⟨rfl, hb, ht⟩
            have FI := Lib.hid (UE.out w2 hb (tu_world B1.out ht))
            clear hb ht
            go_wp2_with fail
            go_ret2
            exact FI.out
    · have e4 := decide_eq_false c4
      have U3 := Lib.hid (U2.out.trans (if_neg (fun z => c4 z.1)))
      by_cases c6 : c.state = 1
      · have e6 : (c.state == 1) = true := by simpa using c6
        have UE := Lib.hid (UD.out _ _ _ (U3.out.trans (if_pos c6)))
        go_enter Try.func13, Try.ntmps13
        go_wp2_with fail
        refine RC.out.mono ?_
        rintro e w1 ⟨rfl, hb⟩
        have B1 := Lib.hid hb
        obtain ⟨z0, z1, z2, z3, z4, z5, z6⟩ := blk7 HB.out hb
        have K1 := HB.out.below hb
        obtain ⟨f0, f1, f2, f3, f4, f5, f6⟩ := kfr K1
        have FB := Lib.hid (blk_set (blk_set K1 6 (.int .i64 2)) 4 (.int .i64 r))
        have FT := Lib.hid (tu_world hb (((Tu.rf (Td b) w1).set 6 (.int .i64 2)).set 4 (.int .i64 r)))
        have FI := Lib.hid (UE.out _ FB.out FT.out)
        clear hb RC K1 FB FT
        go_wp2_with fail
        go_ret2
        exact FI.out
      · have e6 : (c.state == 1) = false := by simpa using c6
        have U4 := Lib.hid (U3.out.trans (if_neg c6))
        have ws : IntKind.i64.wrap (r - c.since) = r - c.since := wrap_in (by omega) (by omega)
        by_cases c7 : r - c.since < 314572800
        · have e7 := decide_eq_true c7
          have UE := Lib.hid (UD.out _ _ _ (U4.out.trans (if_pos c7)))
          go_enter Try.func13, Try.ntmps13
          go_wp2_with fail
          refine RC.out.mono ?_
          rintro e w1 ⟨rfl, hb⟩
          have B1 := Lib.hid hb
          obtain ⟨z0, z1, z2, z3, z4, z5, z6⟩ := blk7 HB.out hb
          clear hb RC
          go_wp2_with fail
          go_ret2
          exact UE.out w1 (HB.out.below B1.out) (tu_below B1.out)
        · have e7 := decide_eq_false c7
          have UE := Lib.hid (UD.out _ _ _ (U4.out.trans (if_neg c7)))
          go_enter Try.func13, Try.ntmps13
          go_wp2_with fail
          refine RC.out.mono ?_
          rintro e w1 ⟨rfl, hb⟩
          have B1 := Lib.hid hb
          obtain ⟨z0, z1, z2, z3, z4, z5, z6⟩ := blk7 HB.out hb
          clear hb RC
          go_wp2_with fail
          refine (SC.out w1 (HB.out.below B1.out) ⟨by omega, by omega⟩).mono ?_
          rintro e w2 ⟨rfl, hb, ht⟩
          have FI := Lib.hid (UE.out w2 hb (tu_world B1.out ht))
          clear hb ht
          go_wp2_with fail
          go_ret2
          exact FI.out
  · rw [if_neg q] at RC
    have UE := Lib.hid (UD.out c 0 2 (by unfold upd; rw [if_pos q]))
    clear q
    go_enter Try.func13, Try.ntmps13
    go_wp2_with fail
    refine RC.out.mono ?_
    rintro e w1 ⟨rfl, hb⟩
    have B1 := Lib.hid hb
    clear hb RC
    go_wp2_with fail
    go_ret2
    exact UE.out w1 (HB.out.below B1.out) (tu_below B1.out)
end Go.Proofs.Ytojcckikgnbgiaa.Ck
