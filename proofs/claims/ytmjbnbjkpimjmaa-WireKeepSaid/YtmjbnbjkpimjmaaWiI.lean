/-
  The contract of wire.Check.
  Conditions: none.
-/
import Derived.Test.YtmjbnbjkpimjmaaWiH
namespace Go.Proofs.Ytmjbnbjkpimjmaa.Wi
open Go.RowKit Go.ChangeShapes Go.WideShapes Go.ChangeAt Go.Joins By
set_option linter.unusedVariables false
set_option linter.unusedSimpArgs false

theorem okHd_eq2 (p : Pk) : okHd p.leap p.ver p.mode p.strat p.poll p.prec = okH p := rfl
theorem fs_form {w : World} {L : List Fd} {V : Nat → Value} {v : Value} (h : Fs w v L V) : ∃ fa fc, v = .slice fa L.length fc := h.form
set_option maxRecDepth 100000 in
set_option maxHeartbeats 8000000 in
theorem Check_c {w : World} {p : Pk} {fv dv : Value} {V : Nat → Value} (P : Pm w p fv dv V) : Calls Try.prog 11 #[PV p fv dv] w fun e w' => e = .returned (.int .i64 (chk p)) ∧ Below w.heap.size w w' := by
  obtain ⟨F, D, K⟩ := P
  obtain ⟨fa, fc, rfl⟩ := F.form
  obtain ⟨da, dc, rfl⟩ := D.form
  have HE := Lib.hid (fun w => endLength_c p.leap p.ver p.mode p.strat p.poll p.prec p.rd p.rs p.rid p.tref p.torg p.trec p.txm fa p.fs.length fc p.auth p.key da p.dig.length dc K.2.2.2.2.2.2.2.1 D.1 w)
  have HH := Lib.hid (fun w => isHeader_c p.leap p.ver p.mode p.strat p.poll p.prec p.rd p.rs p.rid p.tref p.torg p.trec p.txm w)
  have HF := Lib.hid F
  have R : Hid (chk p = if (okH p && match tl p with | none => false | some n => arF n p.fs) = true then 0 else 3) := Lib.hid rfl
  have TL := Lib.hid (fun z (h : tl p = some z) => tl_le24 h)
  rw [tl_eq p] at R TL
  rw [okHd_eq2] at HH
  generalize tlx p.auth p.key p.dig.length = T at *
  generalize okH p = o at *
  generalize chk p = r at *
  clear F D K
  simp only [PV]
  go_enter Try.func11, Try.ntmps11
  go_wp2_with fail
  have N := Blk.new' w #[.int .i64 p.leap, .int .i64 p.ver, .int .i64 p.mode, .int .i64 p.strat, .int .i64 p.poll, .int .i64 p.prec, .int .u32 (p.rd : Nat), .int .u32 (p.rs : Nat), .int .u32 (p.rid : Nat), .int .u64 (p.tref : Nat), .int .u64 (p.torg : Nat), .int .u64 (p.trec : Nat), .int .u64 (p.txm : Nat), .slice fa p.fs.length fc, .int .i64 p.auth, .int .u32 (p.key : Nat), .slice da p.dig.length dc] 30
  have B0 := Lib.hid (balloc (brefl w) (.cells #[.int .i64 p.leap, .int .i64 p.ver, .int .i64 p.mode, .int .i64 p.strat, .int .i64 p.poll, .int .i64 p.prec, .int .u32 (p.rd : Nat), .int .u32 (p.rs : Nat), .int .u32 (p.rid : Nat), .int .u64 (p.tref : Nat), .int .u64 (p.torg : Nat), .int .u64 (p.trec : Nat), .int .u64 (p.txm : Nat), .slice fa p.fs.length fc, .int .i64 p.auth, .int .u32 (p.key : Nat), .slice da p.dig.length dc] 30))
  generalize w.alloc (.cells #[.int .i64 p.leap, .int .i64 p.ver, .int .i64 p.mode, .int .i64 p.strat, .int .i64 p.poll, .int .i64 p.prec, .int .u32 (p.rd : Nat), .int .u32 (p.rs : Nat), .int .u32 (p.rid : Nat), .int .u64 (p.tref : Nat), .int .u64 (p.torg : Nat), .int .u64 (p.trec : Nat), .int .u64 (p.txm : Nat), .slice fa p.fs.length fc, .int .i64 p.auth, .int .u32 (p.key : Nat), .slice da p.dig.length dc] 30) = w1 at *
  refine (HE.out _).mono ?_
  rintro e w2 ⟨⟨m, rfl, hm⟩, hb⟩
  have N2 := Lib.hid (N.below hb)
  have B2 := Lib.hid (bstep B0.out hb)
  have HM := Lib.hid hm
  clear N B0 hb hm HE
  cases T with
  | none =>
    rw [show (none : Option Nat).isSome = false from rfl]
    go_wp2_with fail
    go_ret
    exact ⟨by rw [R.out]; simp, B2.out⟩
  | some z =>
    obtain rfl : z = m := HM.out z rfl
    rw [show (some z : Option Nat).isSome = true from rfl]
    have c0 := (N2.out.2 0 _ rfl).1
    have c1 := (N2.out.2 1 _ rfl).1
    have c2 := (N2.out.2 2 _ rfl).1
    have c3 := (N2.out.2 3 _ rfl).1
    have c4 := (N2.out.2 4 _ rfl).1
    have c5 := (N2.out.2 5 _ rfl).1
    have c6 := (N2.out.2 6 _ rfl).1
    have c7 := (N2.out.2 7 _ rfl).1
    have c8 := (N2.out.2 8 _ rfl).1
    have c9 := (N2.out.2 9 _ rfl).1
    have c10 := (N2.out.2 10 _ rfl).1
    have c11 := (N2.out.2 11 _ rfl).1
    have c12 := (N2.out.2 12 _ rfl).1
    have c13 := (N2.out.2 13 _ rfl).1
    have c14 := (N2.out.2 14 _ rfl).1
    have c15 := (N2.out.2 15 _ rfl).1
    have c16 := (N2.out.2 16 _ rfl).1
    go_wp2_with fail
    refine (HH.out _).mono ?_
    rintro e w3 ⟨rfl, hb⟩
    have B3 := Lib.hid (bstep B2.out hb)
    have N3 := Lib.hid (N2.out.below hb)
    clear hb c0 c1 c2 c3 c4 c5 c6 c7 c8 c9 c10 c11 c12 c13 c14 c15 c16
    cases o with
    | false =>
      go_wp2_with fail
      go_ret
      exact ⟨by rw [R.out]; simp, B3.out⟩
    | true =>
      have c13 := (N3.out.2 13 _ rfl).1
      go_wp2_with fail
      refine (areFields_c (HF.out.below B3.out) z (TL.out z rfl)).mono ?_
      rintro e w4 ⟨rfl, hb⟩
      have B4 := Lib.hid (bstep B3.out hb)
      clear hb
      have E : Hid (r = if arF z p.fs = true then 0 else 3) := Lib.hid (by rw [R.out, Bool.true_and])
      clear R
      generalize arF z p.fs = b at *
      cases b with
      | false =>
        go_wp2_with fail
        go_ret
        exact ⟨by rw [E.out]; rfl, B4.out⟩
      | true =>
        go_wp2_with fail
        go_ret
        exact ⟨by rw [E.out]; rfl, B4.out⟩
end Go.Proofs.Ytmjbnbjkpimjmaa.Wi
