/-
  sundiallaw09.awake: a packet whose bytes the document gives.
  Conditions: none.
-/
import Derived.Test.YtmjbnbjkpimjmaaWiX
import Derived.Test.YtmjbnbjkpimjmaaWiK
import Derived.Test.YtmjbnbjkpimjmaaWiL
namespace Go.Proofs.Ytmjbnbjkpimjmaa.Wi
open Go.RowKit Go.ChangeShapes Go.WideShapes Go.ChangeAt Go.Joins By
set_option linter.unusedVariables false
set_option linter.unusedSimpArgs false

def p9 : Pk := ⟨3, 4, 3, 16, 6, -20, 0, 0, 0, 0, 0, 0, 0, [], 0, 0, []⟩
theorem rt9 : rt p9 = true := by decide
theorem kind9 : p9.kind := ⟨by decide, by decide, by decide, by decide, by decide, by decide, by decide, by decide, fun x h => (by cases h), fun f h => (by cases h)⟩
theorem fs_nil (w : World) : Fs w (.slice none 0 0) [] (fun _ => .slice none 0 0) := ⟨none, 0, rfl, Nat.le_refl _, by omega, fun h => absurd h (by simp), fun j hj => absurd hj (by simp)⟩
theorem pm9 (w : World) : Pm w p9 (.slice none 0 0) (.slice none 0 0) (fun _ => .slice none 0 0) := ⟨fs_nil w, nil_sl w, kind9⟩
theorem len9 : (enc p9).length = 48 := by decide
theorem at9 : (enc p9).getD 0 0 = 227 ∧ (enc p9).getD 1 0 = 16 ∧ (enc p9).getD 2 0 = 6 ∧ (enc p9).getD 3 0 = 236 := by decide
theorem dec9 : dec (fun i => (enc p9).getD i 0) 48 = ⟨0, p9, 48⟩ := by
  obtain ⟨n, h1, h2, h3, h4, h5⟩ := dec_enc rt9 kind9
  have : n = 0 := by have : tl p9 = some 0 := by decide
                     rw [this] at h1; cases h1; rfl
  subst this
  rw [len9] at h5
  exact h5
set_option maxRecDepth 100000 in
set_option maxHeartbeats 8000000 in
theorem awake9_c (w : World) : Calls Try.prog 8 #[] w fun e w' => e = .returned (.bool true) ∧ Below w.heap.size w w' := by
  have HE := Lib.hid (Encode_yes (pm9 w) rt9)
  go_enter Try.func8, Try.ntmps8
  go_wp2_with fail
  refine HE.out.mono ?_
  rintro e w1 ⟨⟨v, rfl, ho⟩, hb⟩
  have S := (own_out ho (enc_byte (by decide) kind9)).sb
  rw [len9] at S
  have HD := Lib.hid (Decode_any S (by omega))
  rw [dec9] at HD
  obtain ⟨sa, cap, rfl, s1, s2, s3, s4, s5⟩ := S
  obtain ⟨b, o, rfl, B⟩ := s4 (by omega)
  have BX := Lib.hid B
  have B1 := Lib.hid hb
  clear HE ho hb s1 s2 s3 s4 s5 B
  go_wp2_with fail
  refine HD.out.mono ?_
  rintro e w2 ⟨⟨fv, dv, row, rfl, rw0, od⟩, hb⟩
  obtain ⟨fa, fc, ef⟩ := ownF_form rw0.2.1
  obtain ⟨da, dc, ed⟩ := own_form od
  subst ef ed
  have B2 := Lib.hid (bstep B1.out hb)
  have X2 := BX.out.below hb
  clear HD hb rw0 od BX B1
  generalize row.length = m1
  generalize (⟨0, p9, 48⟩ : Dc).p.dig.length = m2
  have NP := Lib.hid (Blk.new' w2 #[.int .i64 p9.leap, .int .i64 p9.ver, .int .i64 p9.mode, .int .i64 p9.strat, .int .i64 p9.poll, .int .i64 p9.prec, .int .u32 (p9.rd : Nat), .int .u32 (p9.rs : Nat), .int .u32 (p9.rid : Nat), .int .u64 (p9.tref : Nat), .int .u64 (p9.torg : Nat), .int .u64 (p9.trec : Nat), .int .u64 (p9.txm : Nat), .slice fa m1 fc, .int .i64 p9.auth, .int .u32 (p9.key : Nat), .slice da m2 dc] 30)
  have B3 := Lib.hid (balloc B2.out (.cells #[.int .i64 p9.leap, .int .i64 p9.ver, .int .i64 p9.mode, .int .i64 p9.strat, .int .i64 p9.poll, .int .i64 p9.prec, .int .u32 (p9.rd : Nat), .int .u32 (p9.rs : Nat), .int .u32 (p9.rid : Nat), .int .u64 (p9.tref : Nat), .int .u64 (p9.torg : Nat), .int .u64 (p9.trec : Nat), .int .u64 (p9.txm : Nat), .slice fa m1 fc, .int .i64 p9.auth, .int .u32 (p9.key : Nat), .slice da m2 dc] 30))
  have X3 := X2.below (balloc (brefl w2) (.cells #[.int .i64 p9.leap, .int .i64 p9.ver, .int .i64 p9.mode, .int .i64 p9.strat, .int .i64 p9.poll, .int .i64 p9.prec, .int .u32 (p9.rd : Nat), .int .u32 (p9.rs : Nat), .int .u32 (p9.rid : Nat), .int .u64 (p9.tref : Nat), .int .u64 (p9.torg : Nat), .int .u64 (p9.trec : Nat), .int .u64 (p9.txm : Nat), .slice fa m1 fc, .int .i64 p9.auth, .int .u32 (p9.key : Nat), .slice da m2 dc] 30))
  have c0 := X3.2.2 0 (by omega)
  have c1 := X3.2.2 1 (by omega)
  have c2 := X3.2.2 2 (by omega)
  have c3 := X3.2.2 3 (by omega)
  simp only [at9.1, at9.2.1, at9.2.2.1, at9.2.2.2, Nat.add_zero] at c0 c1 c2 c3
  clear X2 X3
  have y3 : _ = some (Value.int .i64 16) := (NP.out.2 3 _ rfl).1
  have y5 : _ = some (Value.int .i64 (-20)) := (NP.out.2 5 _ rfl).1
  go_upto_region 3 with fail
  generalize w2.alloc (.cells #[.int .i64 p9.leap, .int .i64 p9.ver, .int .i64 p9.mode, .int .i64 p9.strat, .int .i64 p9.poll, .int .i64 p9.prec, .int .u32 (p9.rd : Nat), .int .u32 (p9.rs : Nat), .int .u32 (p9.rid : Nat), .int .u64 (p9.tref : Nat), .int .u64 (p9.torg : Nat), .int .u64 (p9.trec : Nat), .int .u64 (p9.txm : Nat), .slice fa m1 fc, .int .i64 p9.auth, .int .u32 (p9.key : Nat), .slice da m2 dc] 30) = w3 at *
  clear NP
  go_wp2_with fail
  go_ret
  exact ⟨rfl, B3.out⟩
end Go.Proofs.Ytmjbnbjkpimjmaa.Wi
