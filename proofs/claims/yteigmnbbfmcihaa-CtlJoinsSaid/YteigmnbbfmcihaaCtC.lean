/-
  Frames in memory; small contracts of sundial/ctl and sundial/sundialref10; is it a frame; Same.
  Conditions: none.
-/
import Derived.Test.YteigmnbbfmcihaaCtB
namespace Go.Proofs.Yteigmnbbfmcihaa.Ct
open Go.RowKit Go.ChangeShapes Go.WideShapes Go.ChangeAt Go.Joins By
set_option linter.unusedVariables false
set_option linter.unusedSimpArgs false

/-- a frame as values. -/
def fvs (f : Fr) (dv : Value) : List Value := [.int .i64 f.ver, .bool f.resp, .bool f.er, .bool f.more, .int .i64 f.op, .int .i64 f.seq, .int .i64 f.st, .int .i64 f.asc, .int .i64 f.off, dv]
theorem fvs_len (f : Fr) (dv : Value) : (fvs f dv).length = 10 := rfl
abbrev FV (f : Fr) (dv : Value) : Value := .agg #[.int .i64 f.ver, .bool f.resp, .bool f.er, .bool f.more, .int .i64 f.op, .int .i64 f.seq, .int .i64 f.st, .int .i64 f.asc, .int .i64 f.off, dv]
/-- its data in memory. -/
def Fm (w : World) (f : Fr) (dv : Value) : Prop := Sl w dv f.dat
theorem Fm.below {w w' : World} {f : Fr} {dv : Value} (h : Fm w f dv) (q : Below w.heap.size w w') : Fm w' f dv := Sl.below h q
theorem info_fr : (Try.prog.info? 24).map (·.size) = some 10 := by kernel_rfl
theorem eqb {a b : Bool} : (a == b) = decide (a = b) := by cases a <;> cases b <;> rfl

theorem within_c (n a b : Int) (w : World) : Calls Try.prog 38 #[.int .i64 n, .int .i64 a, .int .i64 b] w fun e w' => e = .returned (.bool (btw n a b)) ∧ w' = w := by
  go_enter Try.func38, Try.ntmps38
  by_cases c : a ≤ n
  · have e1 : decide (a ≤ n) = true := decide_eq_true c
    go_wp2_with fail
    go_ret
    exact ⟨by simp [btw, e1], rfl⟩
  · have e1 : decide (a ≤ n) = false := decide_eq_false c
    go_wp2_with fail
    go_ret
    exact ⟨by simp [btw, e1], rfl⟩
theorem isVersion_c (n : Int) (w : World) : Calls Try.prog 23 #[.int .i64 n] w fun e w' => e = .returned (.bool (btw n 1 4)) ∧ w' = w := by
  have H := Lib.hid (within_c n 1 4 w)
  go_enter Try.func23, Try.ntmps23
  go_wp2_with fail
  refine H.out.mono ?_
  rintro e w1 ⟨rfl, rfl⟩
  go_wp2_with fail
  go_ret
  exact ⟨rfl, rfl⟩
theorem isNumber_c (n : Int) (w : World) : Calls Try.prog 39 #[.int .i64 n] w fun e w' => e = .returned (.bool (btw n 0 65535)) ∧ w' = w := by
  have H := Lib.hid (within_c n 0 65535 w)
  go_enter Try.func39, Try.ntmps39
  go_wp2_with fail
  refine H.out.mono ?_
  rintro e w1 ⟨rfl, rfl⟩
  go_wp2_with fail
  go_ret
  exact ⟨rfl, rfl⟩
theorem word_c (n : Int) (w : World) : Calls Try.prog 41 #[.int .i64 n] w fun e w' => e = .returned (.bool (btw n 0 65535)) ∧ w' = w := by
  go_enter Try.func41, Try.ntmps41
  by_cases c : 0 ≤ n
  · have e1 : decide (0 ≤ n) = true := decide_eq_true c
    go_wp2_with fail
    go_ret
    exact ⟨by simp [btw, e1], rfl⟩
  · have e1 : decide (0 ≤ n) = false := decide_eq_false c
    go_wp2_with fail
    go_ret
    exact ⟨by simp [btw, e1], rfl⟩
theorem bit_c (b : Bool) (x : Nat) (hx : x < 256) (w : World) : Calls Try.prog 40 #[.bool b, .int .u8 (x : Int)] w fun e w' => e = .returned (.int .u8 ((bt b * x : Nat) : Int)) ∧ w' = w := by
  go_enter Try.func40, Try.ntmps40
  cases b with
  | true =>
    go_wp2_with fail
    go_ret
    exact ⟨by simp [bt], rfl⟩
  | false =>
    go_wp2_with fail
    go_ret
    exact ⟨by simp [bt], rfl⟩
theorem rbit_c (b : Bool) (w : World) : Calls Try.prog 22 #[.bool b] w fun e w' => e = .returned (.int .i64 ((bt b : Nat) : Int)) ∧ w' = w := by
  go_enter Try.func22, Try.ntmps22
  cases b with
  | true =>
    go_wp2_with fail
    go_ret
    exact ⟨by simp [bt], rfl⟩
  | false =>
    go_wp2_with fail
    go_ret
    exact ⟨by simp [bt], rfl⟩
set_option maxRecDepth 100000 in
set_option maxHeartbeats 4000000 in
theorem isFrame_c (f : Fr) (da : Option Addr) (dc : Nat) (hn : f.dat.length ≤ 140737488351232) (w : World) : Calls Try.prog 19 #[FV f (.slice da f.dat.length dc)] w fun e w' => e = .returned (.bool (okFr f)) ∧ Below w.heap.size w w' := by
  have E : Hid (okFr f = (btw f.ver 1 4 && btw f.op 0 31 && btw f.seq 0 65535 && btw f.st 0 65535 && btw f.asc 0 65535 && btw f.off 0 65535 && decide (f.dat.length ≤ 468))) := Lib.hid rfl
  have H0 := Lib.hid (fun w => isVersion_c f.ver w)
  have H1 := Lib.hid (fun w => within_c f.op 0 31 w)
  have H2 := Lib.hid (fun w => isNumber_c f.seq w)
  have H3 := Lib.hid (fun w => isNumber_c f.st w)
  have H4 := Lib.hid (fun w => isNumber_c f.asc w)
  have H5 := Lib.hid (fun w => isNumber_c f.off w)
  have el : decide ((f.dat.length : Int) ≤ 468) = decide (f.dat.length ≤ 468) := by
    by_cases q : f.dat.length ≤ 468
    · rw [decide_eq_true q, decide_eq_true (by omega)]
    · rw [decide_eq_false q, decide_eq_false (by omega)]
  obtain ⟨ver, resp, er, more, op, seq, st, asc, off, dat⟩ := f
  simp only at *
  have hm : (dat.length : Int) ≤ 140737488351232 := by omega
  clear hn
  generalize dat.length = m at *
  cases c0 : btw ver 1 4 with
  | false =>
    rw [c0] at E H0
    go_enter Try.func19, Try.ntmps19
    go_wp2_with fail
    refine (H0.out _).mono ?_
    rintro e w1 ⟨rfl, rfl⟩
    go_wp2_with fail
    go_ret
    exact ⟨by rw [E.out]; simp, balloc (brefl w) _⟩
  | true =>
    rw [c0] at E H0
    cases c1 : btw op 0 31 with
    | false =>
      rw [c1] at E H1
      go_enter Try.func19, Try.ntmps19
      go_wp2_with fail
      refine (H0.out _).mono ?_
      rintro e w1 ⟨rfl, rfl⟩
      go_wp2_with fail
      refine (H1.out _).mono ?_
      rintro e w1 ⟨rfl, rfl⟩
      go_wp2_with fail
      go_ret
      exact ⟨by rw [E.out]; simp, balloc (brefl w) _⟩
    | true =>
      rw [c1] at E H1
      cases c2 : btw seq 0 65535 with
      | false =>
        rw [c2] at E H2
        go_enter Try.func19, Try.ntmps19
        go_wp2_with fail
        refine (H0.out _).mono ?_
        rintro e w1 ⟨rfl, rfl⟩
        go_wp2_with fail
        refine (H1.out _).mono ?_
        rintro e w1 ⟨rfl, rfl⟩
        go_wp2_with fail
        refine (H2.out _).mono ?_
        rintro e w1 ⟨rfl, rfl⟩
        go_wp2_with fail
        go_ret
        exact ⟨by rw [E.out]; simp, balloc (brefl w) _⟩
      | true =>
        rw [c2] at E H2
        cases c3 : btw st 0 65535 with
        | false =>
          rw [c3] at E H3
          go_enter Try.func19, Try.ntmps19
          go_wp2_with fail
          refine (H0.out _).mono ?_
          rintro e w1 ⟨rfl, rfl⟩
          go_wp2_with fail
          refine (H1.out _).mono ?_
          rintro e w1 ⟨rfl, rfl⟩
          go_wp2_with fail
          refine (H2.out _).mono ?_
          rintro e w1 ⟨rfl, rfl⟩
          go_wp2_with fail
          refine (H3.out _).mono ?_
          rintro e w1 ⟨rfl, rfl⟩
          go_wp2_with fail
          go_ret
          exact ⟨by rw [E.out]; simp, balloc (brefl w) _⟩
        | true =>
          rw [c3] at E H3
          cases c4 : btw asc 0 65535 with
          | false =>
            rw [c4] at E H4
            go_enter Try.func19, Try.ntmps19
            go_wp2_with fail
            refine (H0.out _).mono ?_
            rintro e w1 ⟨rfl, rfl⟩
            go_wp2_with fail
            refine (H1.out _).mono ?_
            rintro e w1 ⟨rfl, rfl⟩
            go_wp2_with fail
            refine (H2.out _).mono ?_
            rintro e w1 ⟨rfl, rfl⟩
            go_wp2_with fail
            refine (H3.out _).mono ?_
            rintro e w1 ⟨rfl, rfl⟩
            go_wp2_with fail
            refine (H4.out _).mono ?_
            rintro e w1 ⟨rfl, rfl⟩
            go_wp2_with fail
            go_ret
            exact ⟨by rw [E.out]; simp, balloc (brefl w) _⟩
          | true =>
            rw [c4] at E H4
            cases c5 : btw off 0 65535 with
            | false =>
              rw [c5] at E H5
              go_enter Try.func19, Try.ntmps19
              go_wp2_with fail
              refine (H0.out _).mono ?_
              rintro e w1 ⟨rfl, rfl⟩
              go_wp2_with fail
              refine (H1.out _).mono ?_
              rintro e w1 ⟨rfl, rfl⟩
              go_wp2_with fail
              refine (H2.out _).mono ?_
              rintro e w1 ⟨rfl, rfl⟩
              go_wp2_with fail
              refine (H3.out _).mono ?_
              rintro e w1 ⟨rfl, rfl⟩
              go_wp2_with fail
              refine (H4.out _).mono ?_
              rintro e w1 ⟨rfl, rfl⟩
              go_wp2_with fail
              refine (H5.out _).mono ?_
              rintro e w1 ⟨rfl, rfl⟩
              go_wp2_with fail
              go_ret
              exact ⟨by rw [E.out]; simp, balloc (brefl w) _⟩
            | true =>
              rw [c5] at E H5
              go_enter Try.func19, Try.ntmps19
              go_wp2_with fail
              refine (H0.out _).mono ?_
              rintro e w1 ⟨rfl, rfl⟩
              go_wp2_with fail
              refine (H1.out _).mono ?_
              rintro e w1 ⟨rfl, rfl⟩
              go_wp2_with fail
              refine (H2.out _).mono ?_
              rintro e w1 ⟨rfl, rfl⟩
              go_wp2_with fail
              refine (H3.out _).mono ?_
              rintro e w1 ⟨rfl, rfl⟩
              go_wp2_with fail
              refine (H4.out _).mono ?_
              rintro e w1 ⟨rfl, rfl⟩
              go_wp2_with fail
              refine (H5.out _).mono ?_
              rintro e w1 ⟨rfl, rfl⟩
              go_wp2_with fail
              go_ret
              exact ⟨by rw [E.out]; simp [btw], balloc (brefl w) _⟩
set_option maxRecDepth 100000 in
set_option maxHeartbeats 4000000 in
theorem Is_c (f : Fr) (da : Option Addr) (dc : Nat) (hn : f.dat.length ≤ 140737488351232) (w : World) : Calls Try.prog 21 #[FV f (.slice da f.dat.length dc)] w fun e w' => e = .returned (.bool (okFr f)) ∧ Below w.heap.size w w' := by
  have E : Hid (okFr f = (btw f.ver 1 4 && btw f.op 0 31 && btw f.seq 0 65535 && btw f.st 0 65535 && btw f.asc 0 65535 && btw f.off 0 65535 && decide (f.dat.length ≤ 468))) := Lib.hid rfl
  have H2 := Lib.hid (fun w => word_c f.seq w)
  have H3 := Lib.hid (fun w => word_c f.st w)
  have H4 := Lib.hid (fun w => word_c f.asc w)
  have H5 := Lib.hid (fun w => word_c f.off w)
  have el : decide ((f.dat.length : Int) ≤ 468) = decide (f.dat.length ≤ 468) := by
    by_cases q : f.dat.length ≤ 468
    · rw [decide_eq_true q, decide_eq_true (by omega)]
    · rw [decide_eq_false q, decide_eq_false (by omega)]
  obtain ⟨ver, resp, er, more, op, seq, st, asc, off, dat⟩ := f
  simp only at *
  have hm : (dat.length : Int) ≤ 140737488351232 := by omega
  clear hn
  generalize dat.length = m at *
  cases c0 : btw ver 1 4 with
  | false =>
    rw [c0] at E
    by_cases d0 : 1 ≤ ver
    · have e1 : decide (1 ≤ ver) = true := decide_eq_true d0
      have e2 : decide (ver ≤ 4) = false := decide_eq_false (by intro q; rw [btw_iff.2 ⟨d0, q⟩] at c0; cases c0)
      go_enter Try.func21, Try.ntmps21
      go_wp2_with fail
      go_ret
      exact ⟨by rw [E.out]; simp, balloc (brefl w) _⟩
    · have e1 : decide (1 ≤ ver) = false := decide_eq_false d0
      go_enter Try.func21, Try.ntmps21
      go_wp2_with fail
      go_ret
      exact ⟨by rw [E.out]; simp, balloc (brefl w) _⟩
  | true =>
    rw [c0] at E
    have e0a : decide (1 ≤ ver) = true := decide_eq_true (btw_iff.1 c0).1
    have e0b : decide (ver ≤ 4) = true := decide_eq_true (btw_iff.1 c0).2
    cases c1 : btw op 0 31 with
    | false =>
      rw [c1] at E
      by_cases d1 : 0 ≤ op
      · have e1 : decide (0 ≤ op) = true := decide_eq_true d1
        have e2 : decide (op ≤ 31) = false := decide_eq_false (by intro q; rw [btw_iff.2 ⟨d1, q⟩] at c1; cases c1)
        go_enter Try.func21, Try.ntmps21
        go_wp2_with fail
        go_ret
        exact ⟨by rw [E.out]; simp, balloc (brefl w) _⟩
      · have e1 : decide (0 ≤ op) = false := decide_eq_false d1
        go_enter Try.func21, Try.ntmps21
        go_wp2_with fail
        go_ret
        exact ⟨by rw [E.out]; simp, balloc (brefl w) _⟩
    | true =>
      rw [c1] at E
      have e1a : decide (0 ≤ op) = true := decide_eq_true (btw_iff.1 c1).1
      have e1b : decide (op ≤ 31) = true := decide_eq_true (btw_iff.1 c1).2
      cases c2 : btw seq 0 65535 with
      | false =>
        rw [c2] at E H2
        go_enter Try.func21, Try.ntmps21
        go_wp2_with fail
        refine (H2.out _).mono ?_
        rintro e w1 ⟨rfl, rfl⟩
        go_wp2_with fail
        go_ret
        exact ⟨by rw [E.out]; simp, balloc (brefl w) _⟩
      | true =>
        rw [c2] at E H2
        cases c3 : btw st 0 65535 with
        | false =>
          rw [c3] at E H3
          go_enter Try.func21, Try.ntmps21
          go_wp2_with fail
          refine (H2.out _).mono ?_
          rintro e w1 ⟨rfl, rfl⟩
          go_wp2_with fail
          refine (H3.out _).mono ?_
          rintro e w1 ⟨rfl, rfl⟩
          go_wp2_with fail
          go_ret
          exact ⟨by rw [E.out]; simp, balloc (brefl w) _⟩
        | true =>
          rw [c3] at E H3
          cases c4 : btw asc 0 65535 with
          | false =>
            rw [c4] at E H4
            go_enter Try.func21, Try.ntmps21
            go_wp2_with fail
            refine (H2.out _).mono ?_
            rintro e w1 ⟨rfl, rfl⟩
            go_wp2_with fail
            refine (H3.out _).mono ?_
            rintro e w1 ⟨rfl, rfl⟩
            go_wp2_with fail
            refine (H4.out _).mono ?_
            rintro e w1 ⟨rfl, rfl⟩
            go_wp2_with fail
            go_ret
            exact ⟨by rw [E.out]; simp, balloc (brefl w) _⟩
          | true =>
            rw [c4] at E H4
            cases c5 : btw off 0 65535 with
            | false =>
              rw [c5] at E H5
              go_enter Try.func21, Try.ntmps21
              go_wp2_with fail
              refine (H2.out _).mono ?_
              rintro e w1 ⟨rfl, rfl⟩
              go_wp2_with fail
              refine (H3.out _).mono ?_
              rintro e w1 ⟨rfl, rfl⟩
              go_wp2_with fail
              refine (H4.out _).mono ?_
              rintro e w1 ⟨rfl, rfl⟩
              go_wp2_with fail
              refine (H5.out _).mono ?_
              rintro e w1 ⟨rfl, rfl⟩
              go_wp2_with fail
              go_ret
              exact ⟨by rw [E.out]; simp, balloc (brefl w) _⟩
            | true =>
              rw [c5] at E H5
              go_enter Try.func21, Try.ntmps21
              go_wp2_with fail
              refine (H2.out _).mono ?_
              rintro e w1 ⟨rfl, rfl⟩
              go_wp2_with fail
              refine (H3.out _).mono ?_
              rintro e w1 ⟨rfl, rfl⟩
              go_wp2_with fail
              refine (H4.out _).mono ?_
              rintro e w1 ⟨rfl, rfl⟩
              go_wp2_with fail
              refine (H5.out _).mono ?_
              rintro e w1 ⟨rfl, rfl⟩
              go_wp2_with fail
              go_ret
              exact ⟨by rw [E.out]; simp [btw], balloc (brefl w) _⟩
end Go.Proofs.Yteigmnbbfmcihaa.Ct
