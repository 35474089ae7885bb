/-
  A frame and itself are the same; the law's awake.
  Conditions: none.
-/
import Derived.Lib.SlBytesConst
import Derived.Test.YteigmnbbfmcihaaCtJ
namespace Go.Proofs.Yteigmnbbfmcihaa.Ct
open Go.RowKit Go.ChangeShapes Go.WideShapes Go.ChangeAt Go.Joins By
set_option linter.unusedVariables false
set_option linter.unusedSimpArgs false

set_option maxRecDepth 100000 in
set_option maxHeartbeats 8000000 in
theorem Like_true (f : Fr) (da ea : Option Addr) (dc ec : Nat) (w : World) : Calls Try.prog 31 #[FV f (.slice da f.dat.length dc), FV f (.slice ea f.dat.length ec)] w fun e w' => e = .returned (.bool true) ∧ Below w.heap.size w w' := by
  have N1 := Lib.hid ((Blk.new' w #[.int .i64 f.ver, .bool f.resp, .bool f.er, .bool f.more, .int .i64 f.op, .int .i64 f.seq, .int .i64 f.st, .int .i64 f.asc, .int .i64 f.off, (.slice da f.dat.length dc)] 24).below (balloc (brefl _) (.cells #[.int .i64 f.ver, .bool f.resp, .bool f.er, .bool f.more, .int .i64 f.op, .int .i64 f.seq, .int .i64 f.st, .int .i64 f.asc, .int .i64 f.off, (.slice ea f.dat.length ec)] 24)))
  have N2 : Hid (Blk ((w.alloc (.cells #[.int .i64 f.ver, .bool f.resp, .bool f.er, .bool f.more, .int .i64 f.op, .int .i64 f.seq, .int .i64 f.st, .int .i64 f.asc, .int .i64 f.off, (.slice da f.dat.length dc)] 24)).alloc (.cells #[.int .i64 f.ver, .bool f.resp, .bool f.er, .bool f.more, .int .i64 f.op, .int .i64 f.seq, .int .i64 f.st, .int .i64 f.asc, .int .i64 f.off, (.slice ea f.dat.length ec)] 24)) (w.heap.size + 1) (fvs f (.slice ea f.dat.length ec))) := Lib.hid (by have := Blk.new' (w.alloc (.cells #[.int .i64 f.ver, .bool f.resp, .bool f.er, .bool f.more, .int .i64 f.op, .int .i64 f.seq, .int .i64 f.st, .int .i64 f.asc, .int .i64 f.off, (.slice da f.dat.length dc)] 24)) #[.int .i64 f.ver, .bool f.resp, .bool f.er, .bool f.more, .int .i64 f.op, .int .i64 f.seq, .int .i64 f.st, .int .i64 f.asc, .int .i64 f.off, (.slice ea f.dat.length ec)] 24; rwa [show (w.alloc (.cells #[.int .i64 f.ver, .bool f.resp, .bool f.er, .bool f.more, .int .i64 f.op, .int .i64 f.seq, .int .i64 f.st, .int .i64 f.asc, .int .i64 f.off, (.slice da f.dat.length dc)] 24)).heap.size = w.heap.size + 1 by simp] at this)
  have N1 : Hid (Blk ((w.alloc (.cells #[.int .i64 f.ver, .bool f.resp, .bool f.er, .bool f.more, .int .i64 f.op, .int .i64 f.seq, .int .i64 f.st, .int .i64 f.asc, .int .i64 f.off, (.slice da f.dat.length dc)] 24)).alloc (.cells #[.int .i64 f.ver, .bool f.resp, .bool f.er, .bool f.more, .int .i64 f.op, .int .i64 f.seq, .int .i64 f.st, .int .i64 f.asc, .int .i64 f.off, (.slice ea f.dat.length ec)] 24)) w.heap.size (fvs f (.slice da f.dat.length dc))) := N1
  have BB := Lib.hid (balloc (balloc (brefl w) (.cells #[.int .i64 f.ver, .bool f.resp, .bool f.er, .bool f.more, .int .i64 f.op, .int .i64 f.seq, .int .i64 f.st, .int .i64 f.asc, .int .i64 f.off, (.slice da f.dat.length dc)] 24)) (.cells #[.int .i64 f.ver, .bool f.resp, .bool f.er, .bool f.more, .int .i64 f.op, .int .i64 f.seq, .int .i64 f.st, .int .i64 f.asc, .int .i64 f.off, (.slice ea f.dat.length ec)] 24))
  go_enter Try.func31, Try.ntmps31
  go_wp2_with fail
  go_ret
  exact ⟨rfl, BB.out⟩
set_option maxRecDepth 100000 in
set_option maxHeartbeats 8000000 in
theorem Same_true {w : World} {f : Fr} {dv dv' : Value} (P : Fm w f dv) (Q : Fm w f dv') : Calls Try.prog 13 #[FV f dv, FV f dv'] w fun e w' => e = .returned (.bool true) ∧ Below w.heap.size w w' := by
  obtain ⟨da, dc, rfl⟩ := P.form
  obtain ⟨ea, ec, rfl⟩ := Q.form
  have N1 := Lib.hid ((Blk.new' w #[.int .i64 f.ver, .bool f.resp, .bool f.er, .bool f.more, .int .i64 f.op, .int .i64 f.seq, .int .i64 f.st, .int .i64 f.asc, .int .i64 f.off, (.slice da f.dat.length dc)] 24).below (balloc (brefl _) (.cells #[.int .i64 f.ver, .bool f.resp, .bool f.er, .bool f.more, .int .i64 f.op, .int .i64 f.seq, .int .i64 f.st, .int .i64 f.asc, .int .i64 f.off, (.slice ea f.dat.length ec)] 24)))
  have N2 : Hid (Blk ((w.alloc (.cells #[.int .i64 f.ver, .bool f.resp, .bool f.er, .bool f.more, .int .i64 f.op, .int .i64 f.seq, .int .i64 f.st, .int .i64 f.asc, .int .i64 f.off, (.slice da f.dat.length dc)] 24)).alloc (.cells #[.int .i64 f.ver, .bool f.resp, .bool f.er, .bool f.more, .int .i64 f.op, .int .i64 f.seq, .int .i64 f.st, .int .i64 f.asc, .int .i64 f.off, (.slice ea f.dat.length ec)] 24)) (w.heap.size + 1) (fvs f (.slice ea f.dat.length ec))) := Lib.hid (by have := Blk.new' (w.alloc (.cells #[.int .i64 f.ver, .bool f.resp, .bool f.er, .bool f.more, .int .i64 f.op, .int .i64 f.seq, .int .i64 f.st, .int .i64 f.asc, .int .i64 f.off, (.slice da f.dat.length dc)] 24)) #[.int .i64 f.ver, .bool f.resp, .bool f.er, .bool f.more, .int .i64 f.op, .int .i64 f.seq, .int .i64 f.st, .int .i64 f.asc, .int .i64 f.off, (.slice ea f.dat.length ec)] 24; rwa [show (w.alloc (.cells #[.int .i64 f.ver, .bool f.resp, .bool f.er, .bool f.more, .int .i64 f.op, .int .i64 f.seq, .int .i64 f.st, .int .i64 f.asc, .int .i64 f.off, (.slice da f.dat.length dc)] 24)).heap.size = w.heap.size + 1 by simp] at this)
  have N1 : Hid (Blk ((w.alloc (.cells #[.int .i64 f.ver, .bool f.resp, .bool f.er, .bool f.more, .int .i64 f.op, .int .i64 f.seq, .int .i64 f.st, .int .i64 f.asc, .int .i64 f.off, (.slice da f.dat.length dc)] 24)).alloc (.cells #[.int .i64 f.ver, .bool f.resp, .bool f.er, .bool f.more, .int .i64 f.op, .int .i64 f.seq, .int .i64 f.st, .int .i64 f.asc, .int .i64 f.off, (.slice ea f.dat.length ec)] 24)) w.heap.size (fvs f (.slice da f.dat.length dc))) := N1
  have BB := Lib.hid (balloc (balloc (brefl w) (.cells #[.int .i64 f.ver, .bool f.resp, .bool f.er, .bool f.more, .int .i64 f.op, .int .i64 f.seq, .int .i64 f.st, .int .i64 f.asc, .int .i64 f.off, (.slice da f.dat.length dc)] 24)) (.cells #[.int .i64 f.ver, .bool f.resp, .bool f.er, .bool f.more, .int .i64 f.op, .int .i64 f.seq, .int .i64 f.st, .int .i64 f.asc, .int .i64 f.off, (.slice ea f.dat.length ec)] 24))
  have HP := Lib.hid P
  have HQ := Lib.hid Q
  have HL := Lib.hid (fun z => Like_true f da ea dc ec z)
  clear P Q
  go_enter Try.func13, Try.ntmps13
  go_upto_region 1 with fail
  generalize (w.alloc (.cells #[.int .i64 f.ver, .bool f.resp, .bool f.er, .bool f.more, .int .i64 f.op, .int .i64 f.seq, .int .i64 f.st, .int .i64 f.asc, .int .i64 f.off, (.slice da f.dat.length dc)] 24)).alloc (.cells #[.int .i64 f.ver, .bool f.resp, .bool f.er, .bool f.more, .int .i64 f.op, .int .i64 f.seq, .int .i64 f.st, .int .i64 f.asc, .int .i64 f.off, (.slice ea f.dat.length ec)] 24) = w1 at *
  go_wp2_with (first | (refine wpList_load_mid rfl 24 _ rfl _ 0 rfl (fvs f (.slice da f.dat.length dc)) _ N1.out.range Try.underlying24 rfl (by rw [fvs_len]; exact info_fr) ?_) | (refine wpList_load_mid rfl 24 _ rfl _ 0 rfl (fvs f (.slice ea f.dat.length ec)) _ N2.out.range Try.underlying24 rfl (by rw [fvs_len]; exact info_fr) ?_))
  refine (HL.out _).mono ?_
  rintro e w2 ⟨rfl, hb⟩
  have B2 := Lib.hid (bstep BB.out hb)
  have M1 := N1.out.below hb
  have M2 := N2.out.below hb
  have y8 : w2.cell? ⟨w.heap.size, 8, none⟩ = some (.int .i64 f.off) := (M1.2 8 _ rfl).1
  have y3 : w2.cell? ⟨w.heap.size, 3, none⟩ = some (.bool f.more) := (M1.2 3 _ rfl).1
  have y9 : w2.cell? ⟨w.heap.size, 9, none⟩ = some (.slice da f.dat.length dc) := (M1.2 9 _ rfl).1
  have z8 : w2.cell? ⟨w.heap.size + 1, 8, none⟩ = some (.int .i64 f.off) := (M2.2 8 _ rfl).1
  have z3 : w2.cell? ⟨w.heap.size + 1, 3, none⟩ = some (.bool f.more) := (M2.2 3 _ rfl).1
  have z9 : w2.cell? ⟨w.heap.size + 1, 9, none⟩ = some (.slice ea f.dat.length ec) := (M2.2 9 _ rfl).1
  have C1 := Sl.conv HP.out B2.out
  have C2 := Sl.conv HQ.out B2.out
  generalize bs8 f.dat = SB at *
  clear hb M1 M2 HL N1 N2 BB
  go_wp2_with fail
  go_ret
  exact ⟨rfl, B2.out⟩
def p10 : Fr := ⟨4, true, false, false, 2, 258, 0, 0, 0, [97, 98, 99]⟩
theorem ok10 : okFr p10 = true := by decide
theorem len10 : (enc p10).length = 16 := by decide
theorem at10 : (enc p10).getD 0 0 = 38 ∧ (enc p10).getD 1 0 = 130 ∧ (enc p10).getD 11 0 = 3 := by decide
theorem dat10 : ∀ x ∈ p10.dat, x < 256 := by decide
theorem dec10 : derr (fun i => (enc p10).getD i 0) 16 = 0 ∧ dfr (fun i => (enc p10).getD i 0) 16 = p10 := by
  have := dec_enc ok10
  rwa [len10] at this
set_option maxRecDepth 100000 in
set_option maxHeartbeats 8000000 in
theorem awake10_c (w : World) : Calls Try.prog 8 #[] w fun e w' => e = .returned (.bool true) ∧ Below w.heap.size w w' := by
  have A0 : Hid (Sl (w.alloc (.cells #[.int .u8 97, .int .u8 98, .int .u8 99] 5 (3, 4))) (.slice (some ⟨w.heap.size, 0, none⟩) 3 3) p10.dat) := Lib.hid (by
    refine ⟨by decide, dat10, _, 3, rfl, by decide, by decide, getD_byte dat10, fun _ => ⟨w.heap.size, 0, rfl, ?_⟩, fun e => by cases e⟩
    refine ⟨by simp, getD_byte dat10, fun i hi => ?_⟩
    rw [Nat.zero_add, World.cell?_alloc_mark w _ _ (3, 4) i]
    match i, hi with
    | 0, _ => rfl
    | 1, _ => rfl
    | 2, _ => rfl)
  have BA := Lib.hid (balloc (brefl w) (.cells #[.int .u8 97, .int .u8 98, .int .u8 99] 5 (3, 4)))
  have kc := fun (w : World) (C : Array Value) (n c : Nat) => Lib.run_convert_bytes_const (P := Try.prog) w 22 5 C n c Try.underlying22 Try.underlying5
  have HE := Lib.hid (Encode_yes (f := p10) A0.out ok10)
  go_enter Try.func8, Try.ntmps8
  go_wp2_with fail
  refine HE.out.mono ?_
  rintro e w1 ⟨⟨v, rfl, ho⟩, hb⟩
  have S := (own_out ho (enc_byte ok10 dat10)).sb
  rw [len10] at S
  have HD := Lib.hid (Decode_any S (by omega))
  unfold PDec at HD
  rw [dec10.1, dec10.2] at HD
  obtain ⟨sa, cap, rfl, s1, s2, s3, s4, s5⟩ := S
  obtain ⟨b, o, rfl, B⟩ := s4 (by omega)
  have BX := Lib.hid B
  have B1 := Lib.hid (bstep BA.out hb)
  clear HE ho hb s1 s2 s3 s4 s5 B kc
  go_wp2_with fail
  refine HD.out.mono ?_
  rintro e w2 ⟨⟨dv, rfl, od⟩, hb⟩
  obtain ⟨da, dc, rfl⟩ := own_form od
  have B2 := Lib.hid (bstep B1.out hb)
  have X2 := BX.out.below hb
  have DB := balloc (brefl w2) (.cells #[.int .i64 p10.ver, .bool p10.resp, .bool p10.er, .bool p10.more, .int .i64 p10.op, .int .i64 p10.seq, .int .i64 p10.st, .int .i64 p10.asc, .int .i64 p10.off, .slice da p10.dat.length dc] 24)
  have NP := Blk.new' w2 #[.int .i64 p10.ver, .bool p10.resp, .bool p10.er, .bool p10.more, .int .i64 p10.op, .int .i64 p10.seq, .int .i64 p10.st, .int .i64 p10.asc, .int .i64 p10.off, .slice da p10.dat.length dc] 24
  have B3 := Lib.hid (bstep B2.out DB)
  have X3 := X2.below DB
  have SD := ((own_out od dat10).sb).conv DB
  rw [bl_getD] at SD
  replace SD : (convert 22 9 (.slice da p10.dat.length dc)).run Try.prog (w2.alloc (.cells #[.int .i64 p10.ver, .bool p10.resp, .bool p10.er, .bool p10.more, .int .i64 p10.op, .int .i64 p10.seq, .int .i64 p10.st, .int .i64 p10.asc, .int .i64 p10.off, .slice da p10.dat.length dc] 24)) = .ok (.string ⟨#[97, 98, 99]⟩) (w2.alloc (.cells #[.int .i64 p10.ver, .bool p10.resp, .bool p10.er, .bool p10.more, .int .i64 p10.op, .int .i64 p10.seq, .int .i64 p10.st, .int .i64 p10.asc, .int .i64 p10.off, .slice da p10.dat.length dc] 24)) := SD
  have c0 := X3.2.2 0 (by omega)
  have c1 := X3.2.2 1 (by omega)
  have c11 := X3.2.2 11 (by omega)
  simp only [at10.1, at10.2.1, at10.2.2, Nat.add_zero] at c0 c1 c11
  replace c0 : _ = some (Value.int .u8 38) := c0
  replace c1 : _ = some (Value.int .u8 130) := c1
  replace c11 : _ = some (Value.int .u8 3) := c11
  have y5 : _ = some (Value.int .i64 258) := (NP.2 5 _ rfl).1
  have y9 : _ = some (Value.slice da p10.dat.length dc) := (NP.2 9 _ rfl).1
  clear X2 X3 HD hb od BX B1 DB NP B2
  go_upto_region 3 with fail
  generalize w2.alloc (.cells #[.int .i64 p10.ver, .bool p10.resp, .bool p10.er, .bool p10.more, .int .i64 p10.op, .int .i64 p10.seq, .int .i64 p10.st, .int .i64 p10.asc, .int .i64 p10.off, .slice da p10.dat.length dc] 24) = w3 at *
  go_wp2_with fail
  go_ret
  exact ⟨rfl, B3.out⟩
end Go.Proofs.Yteigmnbbfmcihaa.Ct
