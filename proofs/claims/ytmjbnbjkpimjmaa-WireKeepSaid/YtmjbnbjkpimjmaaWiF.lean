/-
  The contract of sundialref09.Check: a right packet.
  Conditions: none.
-/
import Derived.Test.YtmjbnbjkpimjmaaWiE
namespace Go.Proofs.Ytmjbnbjkpimjmaa.Wi
open Go.RowKit Go.ChangeShapes Go.WideShapes Go.ChangeAt Go.Joins By
set_option linter.unusedVariables false
set_option linter.unusedSimpArgs false

set_option maxRecDepth 100000 in
set_option maxHeartbeats 8000000 in
theorem rCheck_rest (h0 h1 h2 h3 h4 h5 : Int) (r0 r1 r2 t0 t1 t2 t3 : Nat) (fa : Option Addr) (fc : Nat) (a : Int) (k : Nat) (da : Option Addr) (n dc : Nat) (L : List Fd) (V : Nat → Value) {w : World} (F : Fs w (.slice fa L.length fc) L V) (hk : k < 4294967296) (hn : n ≤ 140737488351232) (E : okHd h0 h1 h2 h3 h4 h5 = true) (R0 : Int) (hR : Hid (R0 = match tlx a k n with | none => 3 | some z => if arF z L = true then 0 else 3)) :
    Calls Try.prog 12 #[.agg #[.int .i64 h0, .int .i64 h1, .int .i64 h2, .int .i64 h3, .int .i64 h4, .int .i64 h5, .int .u32 (r0 : Nat), .int .u32 (r1 : Nat), .int .u32 (r2 : Nat), .int .u64 (t0 : Nat), .int .u64 (t1 : Nat), .int .u64 (t2 : Nat), .int .u64 (t3 : Nat), .slice fa L.length fc, .int .i64 a, .int .u32 (k : Nat), .slice da n dc]] w fun e w' => e = .returned (.int .i64 R0) ∧ Below w.heap.size w w' := by
  have H0 := Lib.hid (fun w => in_c h0 0 3 w)
  have H1 := Lib.hid (fun w => in_c h1 1 4 w)
  have H2 := Lib.hid (fun w => in_c h2 0 7 w)
  have H3 := Lib.hid (fun w => in_c h3 0 255 w)
  have H4 := Lib.hid (fun w => in_c h4 (-128) 127 w)
  have H5 := Lib.hid (fun w => in_c h5 (-128) 127 w)
  have HT := Lib.hid (fun w => tail_c h0 h1 h2 h3 h4 h5 r0 r1 r2 t0 t1 t2 t3 fa L.length fc a k da n dc hk hn w)
  have E : Hid ((btw h0 0 3 && btw h1 1 4 && btw h2 0 7 && btw h3 0 255 && btw h4 (-128) 127 && btw h5 (-128) 127) = true) := Lib.hid E
  clear hk
  cases c0 : btw h0 0 3 with
  | false => exact absurd E.out (by rw [c0]; simp)
  | true =>
  rw [c0] at E H0
  clear c0
  cases c1 : btw h1 1 4 with
  | false => exact absurd E.out (by rw [c1]; simp)
  | true =>
  rw [c1] at E H1
  clear c1
  cases c2 : btw h2 0 7 with
  | false => exact absurd E.out (by rw [c2]; simp)
  | true =>
  rw [c2] at E H2
  clear c2
  cases c3 : btw h3 0 255 with
  | false => exact absurd E.out (by rw [c3]; simp)
  | true =>
  rw [c3] at E H3
  clear c3
  cases c4 : btw h4 (-128) 127 with
  | false => exact absurd E.out (by rw [c4]; simp)
  | true =>
  rw [c4] at E H4
  clear c4
  cases c5 : btw h5 (-128) 127 with
  | false => exact absurd E.out (by rw [c5]; simp)
  | true =>
  rw [c5] at E H5
  clear c5
  clear E
  have FX := Lib.hid F
  obtain ⟨fa', fc', ef, f1, f2, f3, f4⟩ := F
  obtain ⟨rfl, rfl⟩ : fa = fa' ∧ fc = fc' := by simpa using ef
  have F3 := Lib.hid f3
  have F4 := Lib.hid f4
  clear f3 f4 ef
  have l1 : (L.length : Int) ≤ 9223372036854775807 := by omega
  have l0 : (0 : Int) ≤ (L.length : Int) := by omega
  go_enter Try.func12, Try.ntmps12
  go_wp2_with fail
  refine (H0.out _).mono ?_
  rintro e w1 ⟨rfl, rfl⟩
  go_wp2_with fail
  refine (H1.out _).mono ?_
  rintro e w1 ⟨rfl, rfl⟩
  go_wp2_with fail
  refine (H2.out _).mono ?_
  rintro e w1 ⟨rfl, rfl⟩
  go_wp2_with fail
  refine (H3.out _).mono ?_
  rintro e w1 ⟨rfl, rfl⟩
  go_wp2_with fail
  refine (H4.out _).mono ?_
  rintro e w1 ⟨rfl, rfl⟩
  go_wp2_with fail
  refine (H5.out _).mono ?_
  rintro e w1 ⟨rfl, rfl⟩
  go_wp2_with fail
  have N := Blk.new' w #[.int .i64 h0, .int .i64 h1, .int .i64 h2, .int .i64 h3, .int .i64 h4, .int .i64 h5, .int .u32 (r0 : Nat), .int .u32 (r1 : Nat), .int .u32 (r2 : Nat), .int .u64 (t0 : Nat), .int .u64 (t1 : Nat), .int .u64 (t2 : Nat), .int .u64 (t3 : Nat), .slice fa L.length fc, .int .i64 a, .int .u32 (k : Nat), .slice da n dc] 30
  have B0 := balloc (brefl w) (.cells #[.int .i64 h0, .int .i64 h1, .int .i64 h2, .int .i64 h3, .int .i64 h4, .int .i64 h5, .int .u32 (r0 : Nat), .int .u32 (r1 : Nat), .int .u32 (r2 : Nat), .int .u64 (t0 : Nat), .int .u64 (t1 : Nat), .int .u64 (t2 : Nat), .int .u64 (t3 : Nat), .slice fa L.length fc, .int .i64 a, .int .u32 (k : Nat), .slice da n dc] 30)
  generalize w.alloc (.cells #[.int .i64 h0, .int .i64 h1, .int .i64 h2, .int .i64 h3, .int .i64 h4, .int .i64 h5, .int .u32 (r0 : Nat), .int .u32 (r1 : Nat), .int .u32 (r2 : Nat), .int .u64 (t0 : Nat), .int .u64 (t1 : Nat), .int .u64 (t2 : Nat), .int .u64 (t3 : Nat), .slice fa L.length fc, .int .i64 a, .int .u32 (k : Nat), .slice da n dc] 30) = w1 at *
  have N2 := N.below (balloc (brefl w1) (.cells #[.int .i64 h0, .int .i64 h1, .int .i64 h2, .int .i64 h3, .int .i64 h4, .int .i64 h5, .int .u32 (r0 : Nat), .int .u32 (r1 : Nat), .int .u32 (r2 : Nat), .int .u64 (t0 : Nat), .int .u64 (t1 : Nat), .int .u64 (t2 : Nat), .int .u64 (t3 : Nat)] 25))
  have B2 := Lib.hid (bstep B0 (balloc (brefl w1) (.cells #[.int .i64 h0, .int .i64 h1, .int .i64 h2, .int .i64 h3, .int .i64 h4, .int .i64 h5, .int .u32 (r0 : Nat), .int .u32 (r1 : Nat), .int .u32 (r2 : Nat), .int .u64 (t0 : Nat), .int .u64 (t1 : Nat), .int .u64 (t2 : Nat), .int .u64 (t3 : Nat)] 25)))
  generalize w1.alloc (.cells #[.int .i64 h0, .int .i64 h1, .int .i64 h2, .int .i64 h3, .int .i64 h4, .int .i64 h5, .int .u32 (r0 : Nat), .int .u32 (r1 : Nat), .int .u32 (r2 : Nat), .int .u64 (t0 : Nat), .int .u64 (t1 : Nat), .int .u64 (t2 : Nat), .int .u64 (t3 : Nat)] 25) = w2 at *
  clear N B0
  refine (HT.out _).mono ?_
  rintro e w3 ⟨hT, hb⟩
  have B3 := Lib.hid (bstep B2.out hb)
  have N3 := Lib.hid (N2.below hb)
  clear N2 B2 hb HT H0 H1 H2 H3 H4 H5
  rcases hT with ⟨z, hz, rfl⟩ | ⟨hz, rfl⟩
  · have HR : Hid (R0 = if arF z L = true then 0 else 3) := Lib.hid (by rw [hR.out, hz])
    clear hR
    have Z := Lib.hid (show z ≤ 24 by
      have := hz
      unfold tlx at this
      repeat' split at this
      all_goals first | (cases this; omega) | cases this)
    clear hz
    by_cases h8 : L.length ≤ 8
    · have e8 : decide ((8 : Int) < (L.length : Int)) = false := decide_eq_false (by omega)
      have ez : decide ((z : Int) < 0) = false := decide_eq_false (by omega)
      have c13 := (N3.out.2 13 _ rfl).1
      have z1 : (z : Int) ≤ 24 := by have := Z.out; omega
      have H8 := Lib.hid h8
      go_wp2_with fail
      clear ez e8
      go_loopw [4, 5] (fun nv iv wr => ∃ j : Nat, j ≤ L.length ∧ iv = .int .i64 ((j : Int) - 1) ∧ nv = .int .i64 (tot z (L.drop j) : Nat) ∧ okF z (L.drop j) = true ∧ tot z (L.drop j) ≤ 1024 ∧ Below w3.heap.size w3 wr) (fun _ iv _ => (intOf iv + 1).toNat)
      case atStart => exact ⟨L.length, Nat.le_refl _, rfl, by simp [tot], by simp [okF], by simp [tot]; have := Z.out; omega, brefl w3⟩
      case round =>
        obtain ⟨j, hj, rfl, rfl, hok, htot, hb⟩ := hrel
        rename World => wr
        have NR := Lib.hid (N3.out.below hb)
        have BR := Lib.hid (bstep B3.out hb)
        have DR := Lib.hid hb
        have OK := Lib.hid hok
        have TT := Lib.hid htot
        clear hb hok htot c13
        have c13 := (NR.out.2 13 _ rfl).1
        cases j with
        | succ d =>
          have hd : d < L.length := by omega
          obtain ⟨b, off, rfl, hbl, hat⟩ := F3.out (by omega)
          obtain ⟨g0, g1⟩ := (hat d hd).below hbl BR.out
          obtain ⟨va, vc, ev⟩ := (F4.out d hd).form
          have hm : (L.getD d f0).2.length ≤ 140737488351232 := (F4.out d hd).1
          rw [ev] at g1
          have DA := drop_at hd
          have BAD : Hid (¬ ((0 ≤ (L.getD d f0).1 ∧ (L.getD d f0).1 ≤ 65535) ∧ 16 ≤ (L.getD d f0).2.length + 4 ∧ ((L.getD d f0).2.length + 4) % 4 = 0 ∧ 24 < tot z (L.drop (d + 1)) + ((L.getD d f0).2.length + 4)) → arF z L = false) := Lib.hid (fun h => arF_bad (k := d) (by
            rw [DA]
            refine okF_bad ?_
            rw [tot]
            rwa [Nat.add_comm (tot z (L.drop (d + 1)))] at h))
          have GREAT : Hid (1024 < tot z (L.drop (d + 1)) + ((L.getD d f0).2.length + 4) → arF z L = false) := Lib.hid (fun h => arF_great (k := d) (by rw [DA, tot]; omega))
          have GOOD : Hid (((0 ≤ (L.getD d f0).1 ∧ (L.getD d f0).1 ≤ 65535) ∧ 16 ≤ (L.getD d f0).2.length + 4 ∧ ((L.getD d f0).2.length + 4) % 4 = 0 ∧ 24 < tot z (L.drop (d + 1)) + ((L.getD d f0).2.length + 4)) → okF z (L.drop d) = true ∧ tot z (L.drop d) = tot z (L.drop (d + 1)) + ((L.getD d f0).2.length + 4)) := Lib.hid (fun h => by
            rw [DA]
            refine ⟨okF_join OK.out h.1 h.2.1 h.2.2.1 (by rw [tot]; have := h.2.2.2; omega), ?_⟩
            rw [tot]
            omega)
          have ej : ((d + 1 : Nat) : Int) - 1 = (d : Int) := by omega
          rw [ej]
          have hdl : (d : Int) < (L.length : Int) := by omega
          clear DA ev ej hat
          generalize tot z (L.drop (d + 1)) = T at *
          generalize (L.getD d f0).2.length = m at *
          generalize (L.getD d f0).1 = x at *
          have T1 := TT.out
          obtain ⟨M, eM⟩ : ∃ M, M = m + 4 := ⟨_, rfl⟩
          obtain ⟨U, eU⟩ : ∃ U, U = T + M := ⟨_, rfl⟩
          rw [← eM, ← eU] at BAD GREAT GOOD
          have q1 : (m : Int) + 4 = (M : Int) := by omega
          have q2 : (T : Int) + (M : Int) = (U : Int) := by omega
          have q3 : (U : Int) ≤ 140737488352260 := by omega
          have q4 : (M : Int) ≤ 140737488351236 := by omega
          have q5 : (0 : Int) ≤ (U : Int) := by omega
          have q6 : (0 : Int) ≤ (M : Int) := by omega
          have q7 : (m : Int) ≤ 140737488351232 := by omega
          have q8 : (T : Int) ≤ 1024 := by omega
          have qm : (M : Int).tmod 4 = (M : Int) % 4 := Int.tmod_eq_emod_of_nonneg (by omega)
          have HI := Lib.hid (fun w => in_c x 0 65535 w)
          have BT : Hid (btw x 0 65535 = true ↔ 0 ≤ x ∧ x ≤ 65535) := Lib.hid btw_iff
          generalize btw x 0 65535 = bt at *
          clear hm T1 TT OK eM eU
          cases bt with
          | false =>
            go_wp2_with fail
            refine (HI.out _).mono ?_
            rintro e w4 ⟨rfl, rfl⟩
            go_wp2_with fail
            go_ret
            exact ⟨by rw [HR.out, BAD.out (fun h => by have := BT.out.2 h.1; cases this)]; rfl, balloc BR.out _⟩
          | true =>
            by_cases t1 : M < 16
            · have e1 : decide ((M : Int) < 16) = true := decide_eq_true (by omega)
              go_wp2_with fail
              refine (HI.out _).mono ?_
              rintro e w4 ⟨rfl, rfl⟩
              go_wp2_with fail
              go_ret
              exact ⟨by rw [HR.out, BAD.out (fun h => by omega)]; rfl, balloc BR.out _⟩
            · have e1 : decide ((M : Int) < 16) = false := decide_eq_false (by omega)
              by_cases t2 : M % 4 = 0
              · have e2 : ((M : Int) % 4 != 0) = false := by simp; omega
                by_cases t3 : U ≤ 24
                · have e3 : decide ((U : Int) ≤ 24) = true := decide_eq_true (by omega)
                  go_wp2_with fail
                  refine (HI.out _).mono ?_
                  rintro e w4 ⟨rfl, rfl⟩
                  go_wp2_with fail
                  go_ret
                  exact ⟨by rw [HR.out, BAD.out (fun h => by omega)]; rfl, balloc BR.out _⟩
                · have e3 : decide ((U : Int) ≤ 24) = false := decide_eq_false (by omega)
                  by_cases t4 : 1024 < U
                  · have e4 : decide ((1024 : Int) < (U : Int)) = true := decide_eq_true (by omega)
                    go_wp2_with fail
                    refine (HI.out _).mono ?_
                    rintro e w4 ⟨rfl, rfl⟩
                    go_wp2_with fail
                    go_ret
                    exact ⟨by rw [HR.out, GREAT.out t4]; rfl, balloc BR.out _⟩
                  · have e4 : decide ((1024 : Int) < (U : Int)) = false := decide_eq_false (by omega)
                    have GG := Lib.hid (GOOD.out ⟨BT.out.1 rfl, by omega, t2, by omega⟩)
                    have T4 := Lib.hid t4
                    clear BAD GREAT GOOD BT t1 t2 t3 t4
                    go_wp2_with fail
                    refine (HI.out _).mono ?_
                    rintro e w4 ⟨rfl, rfl⟩
                    go_wp2_with fail
                    refine ⟨⟨d, by omega, by simp, by rw [GG.out.2], GG.out.1, by rw [GG.out.2]; have := T4.out; omega, balloc DR.out _⟩, by simp [intOf]⟩
              · have e2 : ((M : Int) % 4 != 0) = true := by simp; omega
                go_wp2_with fail
                refine (HI.out _).mono ?_
                rintro e w4 ⟨rfl, rfl⟩
                go_wp2_with fail
                go_ret
                exact ⟨by rw [HR.out, BAD.out (fun h => t2 h.2.2.1)]; rfl, balloc BR.out _⟩
        | zero =>
          rw [List.drop_zero] at OK TT ⊢
          generalize hU : tot z L = U at *
          have u1 := TT.out
          have U1 : (U : Int) ≤ 1024 := by omega
          have U0 : (0 : Int) ≤ (U : Int) := by omega
          by_cases t : 1024 < U + 48
          · have e1 : decide ((1024 : Int) < (U : Int) + 48) = true := decide_eq_true (by omega)
            have R : Hid (arF z L = false) := Lib.hid (by simp [arF]; omega)
            clear hU t u1
            go_wp2_with fail
            go_ret
            exact ⟨by rw [HR.out, R.out]; rfl, BR.out⟩
          · have e1 : decide ((1024 : Int) < (U : Int) + 48) = false := decide_eq_false (by omega)
            have R : Hid (arF z L = true) := Lib.hid (arF_ok H8.out OK.out (by omega))
            clear hU t u1
            go_wp2_with fail
            go_ret
            exact ⟨by rw [HR.out, R.out]; rfl, BR.out⟩
    · have e8 : decide ((8 : Int) < (L.length : Int)) = true := decide_eq_true (by omega)
      have ez : decide ((z : Int) < 0) = false := decide_eq_false (by omega)
      have c13 := (N3.out.2 13 _ rfl).1
      have R : Hid (arF z L = false) := Lib.hid (arF_long (by omega))
      go_wp2_with fail
      go_ret
      exact ⟨by rw [HR.out, R.out]; rfl, B3.out⟩
  · have HR : Hid (R0 = 3) := Lib.hid (by rw [hR.out, hz])
    clear hz hR
    go_wp2_with fail
    go_ret
    exact ⟨by rw [HR.out]; rfl, B3.out⟩
theorem okHd_eq (p : Pk) : okHd p.leap p.ver p.mode p.strat p.poll p.prec = okH p := rfl
theorem rCheck_c {w : World} {p : Pk} {fv dv : Value} {V : Nat → Value} (P : Pm w p fv dv V) : Calls Try.prog 12 #[PV p fv dv] w fun e w' => e = .returned (.int .i64 (chk p)) ∧ Below w.heap.size w w' := by
  obtain ⟨F, D, K⟩ := P
  obtain ⟨fa, fc, rfl⟩ := F.form
  obtain ⟨da, dc, rfl⟩ := D.form
  cases c : okH p with
  | false =>
    rw [chk_no (by rw [rt_of, c]; rfl)]
    exact rCheck_head _ _ _ _ _ _ _ _ _ _ _ _ _ fa p.fs.length fc p.auth p.key da p.dig.length dc w c
  | true =>
    refine rCheck_rest _ _ _ _ _ _ _ _ _ _ _ _ _ fa fc p.auth p.key da p.dig.length dc p.fs V F K.2.2.2.2.2.2.2.1 D.1 c _ (Lib.hid ?_)
    unfold chk
    rw [rt_of, c, Bool.true_and, tl_eq]
    cases tlx p.auth p.key p.dig.length with
    | none => rfl
    | some z => rfl
end Go.Proofs.Ytmjbnbjkpimjmaa.Wi
