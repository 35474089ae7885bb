/-
  The contract of sundialref09.Check: a right packet.
  Conditions: none.
-/
import Derived.Test.YtmjbnbjkpimjmaaWiD
import Derived.IntWalk
namespace Go.Proofs.Ytmjbnbjkpimjmaa.Wi
open Go.RowKit Go.ChangeShapes Go.WideShapes Go.ChangeAt Go.Joins By
set_option linter.unusedVariables false
set_option linter.unusedSimpArgs false

theorem okF_drop {n : Nat} : ∀ {L : List Fd} (k : Nat), okF n L = true → okF n (L.drop k) = true
  | L, 0, h => h
  | [], k + 1, h => h
  | f :: r, k + 1, h => okF_drop k (okF_cut h).1
theorem tot_drop (n : Nat) : ∀ (L : List Fd) (k : Nat), tot n (L.drop k) ≤ tot n L
  | L, 0 => Nat.le_refl _
  | [], k + 1 => Nat.le_refl _
  | f :: r, k + 1 => by
    have := tot_drop n r k
    rw [List.drop_succ_cons, tot]
    omega
theorem drop_at {L : List Fd} {k : Nat} (h : k < L.length) : L.drop k = L.getD k f0 :: L.drop (k + 1) := by
  rw [List.drop_eq_getElem_cons h, List.getD_eq_getElem?_getD, List.getElem?_eq_getElem h, Option.getD_some]
/-- may the fields stand ahead of an end of n bytes? -/
def arF (n : Nat) (L : List Fd) : Bool := decide (L.length ≤ 8) && okF n L && decide (tot n L + 48 ≤ 1024)
theorem arF_long {n : Nat} {L : List Fd} (h : 8 < L.length) : arF n L = false := by simp [arF]; omega
theorem arF_bad {n : Nat} {L : List Fd} {k : Nat} (h : okF n (L.drop k) = false) : arF n L = false := by
  cases c : okF n L with
  | false => simp [arF, c]
  | true => rw [okF_drop k c] at h; cases h
theorem arF_great {n : Nat} {L : List Fd} {k : Nat} (h : 976 < tot n (L.drop k)) : arF n L = false := by
  have := tot_drop n L k
  simp [arF]
  omega
theorem arF_ok {n : Nat} {L : List Fd} (h : L.length ≤ 8) (h2 : okF n L = true) (h3 : tot n L + 48 ≤ 1024) : arF n L = true := by simp [arF, h, h2, h3]
theorem okF_bad {n : Nat} {f : Fd} {r : List Fd} (h : ¬ ((0 ≤ f.1 ∧ f.1 ≤ 65535) ∧ 16 ≤ f.2.length + 4 ∧ (f.2.length + 4) % 4 = 0 ∧ 24 < tot n (f :: r))) : okF n (f :: r) = false := by
  cases c : okF n (f :: r) with
  | false => rfl
  | true => exact absurd (okF_cut c).2 h
theorem rt_of (p : Pk) : rt p = (okH p && match tl p with | none => false | some n => arF n p.fs) := rfl
/-- the error of Check. -/
def chk (p : Pk) : Int := if rt p = true then 0 else 3
theorem chk_no {p : Pk} (h : rt p = false) : chk p = 3 := by rw [chk, h]; rfl
theorem chk_yes {p : Pk} (h : rt p = true) : chk p = 0 := by rw [chk, h]; rfl
/-- a field's two cells in a new block. -/
theorem tl_le24 {p : Pk} {n : Nat} (h : tl p = some n) : n ≤ 24 := by have := tl_le h; omega

set_option maxRecDepth 100000 in
set_option maxHeartbeats 4000000 in
theorem rCheck_head (h0 h1 h2 h3 h4 h5 : Int) (r0 r1 r2 t0 t1 t2 t3 : Nat) (fa : Option Addr) (fn fc : Nat) (a : Int) (k : Nat) (da : Option Addr) (n dc : Nat) (w : World) (E : okHd h0 h1 h2 h3 h4 h5 = false) :
    Calls Try.prog 12 #[.agg #[.int .i64 h0, .int .i64 h1, .int .i64 h2, .int .i64 h3, .int .i64 h4, .int .i64 h5, .int .u32 (r0 : Nat), .int .u32 (r1 : Nat), .int .u32 (r2 : Nat), .int .u64 (t0 : Nat), .int .u64 (t1 : Nat), .int .u64 (t2 : Nat), .int .u64 (t3 : Nat), .slice fa fn fc, .int .i64 a, .int .u32 (k : Nat), .slice da n dc]] w fun e w' => e = .returned (.int .i64 3) ∧ Below w.heap.size w w' := by
  have H0 := Lib.hid (fun w => in_c h0 0 3 w)
  have H1 := Lib.hid (fun w => in_c h1 1 4 w)
  have H2 := Lib.hid (fun w => in_c h2 0 7 w)
  have H3 := Lib.hid (fun w => in_c h3 0 255 w)
  have H4 := Lib.hid (fun w => in_c h4 (-128) 127 w)
  have H5 := Lib.hid (fun w => in_c h5 (-128) 127 w)
  have E : Hid ((btw h0 0 3 && btw h1 1 4 && btw h2 0 7 && btw h3 0 255 && btw h4 (-128) 127 && btw h5 (-128) 127) = false) := Lib.hid E
  cases c0 : btw h0 0 3 with
  | false =>
    rw [c0] at E H0
    go_enter Try.func12, Try.ntmps12
    go_wp2_with fail
    refine (H0.out _).mono ?_
    rintro e w1 ⟨rfl, rfl⟩
    go_wp2_with fail
    go_ret
    exact ⟨rfl, balloc (balloc (brefl w) _) _⟩
  | true =>
    rw [c0] at E H0
    cases c1 : btw h1 1 4 with
    | false =>
      rw [c1] at E H1
      go_enter Try.func12, Try.ntmps12
      go_wp2_with fail
      refine (H0.out _).mono ?_
      rintro e w1 ⟨rfl, rfl⟩
      go_wp2_with fail
      refine (H1.out _).mono ?_
      rintro e w1 ⟨rfl, rfl⟩
      go_wp2_with fail
      go_ret
      exact ⟨rfl, balloc (balloc (brefl w) _) _⟩
    | true =>
      rw [c1] at E H1
      cases c2 : btw h2 0 7 with
      | false =>
        rw [c2] at E H2
        go_enter Try.func12, Try.ntmps12
        go_wp2_with fail
        refine (H0.out _).mono ?_
        rintro e w1 ⟨rfl, rfl⟩
        go_wp2_with fail
        refine (H1.out _).mono ?_
        rintro e w1 ⟨rfl, rfl⟩
        go_wp2_with fail
        refine (H2.out _).mono ?_
        rintro e w1 ⟨rfl, rfl⟩
        go_wp2_with fail
        go_ret
        exact ⟨rfl, balloc (balloc (brefl w) _) _⟩
      | true =>
        rw [c2] at E H2
        cases c3 : btw h3 0 255 with
        | false =>
          rw [c3] at E H3
          go_enter Try.func12, Try.ntmps12
          go_wp2_with fail
          refine (H0.out _).mono ?_
          rintro e w1 ⟨rfl, rfl⟩
          go_wp2_with fail
          refine (H1.out _).mono ?_
          rintro e w1 ⟨rfl, rfl⟩
          go_wp2_with fail
          refine (H2.out _).mono ?_
          rintro e w1 ⟨rfl, rfl⟩
          go_wp2_with fail
          refine (H3.out _).mono ?_
          rintro e w1 ⟨rfl, rfl⟩
          go_wp2_with fail
          go_ret
          exact ⟨rfl, balloc (balloc (brefl w) _) _⟩
        | true =>
          rw [c3] at E H3
          cases c4 : btw h4 (-128) 127 with
          | false =>
            rw [c4] at E H4
            go_enter Try.func12, Try.ntmps12
            go_wp2_with fail
            refine (H0.out _).mono ?_
            rintro e w1 ⟨rfl, rfl⟩
            go_wp2_with fail
            refine (H1.out _).mono ?_
            rintro e w1 ⟨rfl, rfl⟩
            go_wp2_with fail
            refine (H2.out _).mono ?_
            rintro e w1 ⟨rfl, rfl⟩
            go_wp2_with fail
            refine (H3.out _).mono ?_
            rintro e w1 ⟨rfl, rfl⟩
            go_wp2_with fail
            refine (H4.out _).mono ?_
            rintro e w1 ⟨rfl, rfl⟩
            go_wp2_with fail
            go_ret
            exact ⟨rfl, balloc (balloc (brefl w) _) _⟩
          | true =>
            rw [c4] at E H4
            cases c5 : btw h5 (-128) 127 with
            | false =>
              rw [c5] at E H5
              go_enter Try.func12, Try.ntmps12
              go_wp2_with fail
              refine (H0.out _).mono ?_
              rintro e w1 ⟨rfl, rfl⟩
              go_wp2_with fail
              refine (H1.out _).mono ?_
              rintro e w1 ⟨rfl, rfl⟩
              go_wp2_with fail
              refine (H2.out _).mono ?_
              rintro e w1 ⟨rfl, rfl⟩
              go_wp2_with fail
              refine (H3.out _).mono ?_
              rintro e w1 ⟨rfl, rfl⟩
              go_wp2_with fail
              refine (H4.out _).mono ?_
              rintro e w1 ⟨rfl, rfl⟩
              go_wp2_with fail
              refine (H5.out _).mono ?_
              rintro e w1 ⟨rfl, rfl⟩
              go_wp2_with fail
              go_ret
              exact ⟨rfl, balloc (balloc (brefl w) _) _⟩
            | true =>
              rw [c5] at E H5
              exact absurd E.out (by decide)
end Go.Proofs.Ytmjbnbjkpimjmaa.Wi
