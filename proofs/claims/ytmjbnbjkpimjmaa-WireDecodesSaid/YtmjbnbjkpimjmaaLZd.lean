/-
  WireDecodes: All bytes whatever are taken apart as the document says, or refused with its error. The law returns true for every input, and the input reads as it did.
  Conditions: none.
-/
import Derived.Test.YtmjbnbjkpimjmaaRows
import Derived.Test.YtmjbnbjkpimjmaaWiZ
import Derived.SizedLaws
import Derived.Lib.SmallJoins
namespace Go.Proofs.Ytmjbnbjkpimjmaa.wireDecodes
open Go.ChangeShapes Go.WideShapes Go.ChangeAt Go.RowKit Go.Joins By Wi
set_option linter.unusedVariables false
set_option linter.unusedSimpArgs false

theorem own : ownKnob Try.prog.godebug = none := by kernel_rfl
theorem laidOut : laidOutB Try.prog = true := by kernel_rfl
set_option maxRecDepth 100000 in
set_option maxHeartbeats 16000000 in
theorem walk (v : Value) (n : Nat) (f : Nat → Nat) (w : World) (A : Arg w v n f) :
    Calls Try.prog 4 #[v] w fun e w' => e = .returned (.bool true) ∧ Below w.heap.size w w' := by
  have S := A.sb
  have hf : ∀ i, f i < 256 := by obtain ⟨_, _, _, _, _, h, _⟩ := A; exact h
  have hn : n ≤ 140737488351232 := by obtain ⟨_, _, _, h1, h2, _⟩ := A; omega
  obtain ⟨sa, sc, rfl⟩ := S.form
  have AW := fun z => Lib.hid (awake9_c z)
  have HD := Lib.hid (fun z (k : Below w.heap.size w z) => Decode_any (S.below k) hn)
  have HR := Lib.hid (fun z (k : Below w.heap.size w z) => rDecode_any (S.below k) hn)
  have HS := Lib.hid (fun z (k : Below w.heap.size w z) => Signed_any (S.below k) hn)
  have HT := Lib.hid (fun z (k : Below w.heap.size w z) => rSigned_any (S.below k) hn)
  have HP := Lib.hid (fun z base fv dv row => @dec_pm f hf n z base fv dv row)
  have HB : Hid (∀ x ∈ (if (dec f n).e = 0 then bl f (dec f n).a else []), x < 256) := Lib.hid (by
    split
    · exact bl_byte fun i _ => hf i
    · intro x hx; cases hx)
  clear A S hf hn
  unfold PSig at HS HT
  generalize (if (dec f n).e = 0 then bl f (dec f n).a else []) = SL at *
  generalize dec f n = D at *
  go_enter Try.func4, Try.ntmps4
  go_wp2_with fail
  refine (AW w).out.mono ?_
  rintro e w1 ⟨rfl, hb⟩
  have B1 := Lib.hid hb
  clear AW hb
  go_wp2_with fail
  refine (HD.out _ B1.out).mono ?_
  rintro e w2 ⟨⟨fv, dv, row, rfl, r1, o1⟩, hb⟩
  have P1 := HP.out _ _ _ _ _ r1 o1
  obtain ⟨fa, fc, ef⟩ := ownF_form r1.2.1
  obtain ⟨da, dc, ed⟩ := own_form o1
  subst ef ed
  have B2 := Lib.hid (bstep B1.out hb)
  obtain ⟨V1, P1⟩ := P1
  have P1 := Lib.hid P1
  clear HD B1 r1 o1 hb
  generalize row.length = m1 at *
  generalize D.p.dig.length = m2 at *
  go_upto_region 4 with fail
  have N3 : Hid (Blk (w2.alloc (.cells #[.int .i64 D.p.leap, .int .i64 D.p.ver, .int .i64 D.p.mode, .int .i64 D.p.strat, .int .i64 D.p.poll, .int .i64 D.p.prec, .int .u32 (D.p.rd : Nat), .int .u32 (D.p.rs : Nat), .int .u32 (D.p.rid : Nat), .int .u64 (D.p.tref : Nat), .int .u64 (D.p.torg : Nat), .int .u64 (D.p.trec : Nat), .int .u64 (D.p.txm : Nat), .slice fa m1 fc, .int .i64 D.p.auth, .int .u32 (D.p.key : Nat), .slice da m2 dc] 30)) w2.heap.size (pvs D.p (.slice fa m1 fc) (.slice da m2 dc))) := Lib.hid (Blk.new' w2 #[.int .i64 D.p.leap, .int .i64 D.p.ver, .int .i64 D.p.mode, .int .i64 D.p.strat, .int .i64 D.p.poll, .int .i64 D.p.prec, .int .u32 (D.p.rd : Nat), .int .u32 (D.p.rs : Nat), .int .u32 (D.p.rid : Nat), .int .u64 (D.p.tref : Nat), .int .u64 (D.p.torg : Nat), .int .u64 (D.p.trec : Nat), .int .u64 (D.p.txm : Nat), .slice fa m1 fc, .int .i64 D.p.auth, .int .u32 (D.p.key : Nat), .slice da m2 dc] 30)
  have B3 := Lib.hid (balloc B2.out (.cells #[.int .i64 D.p.leap, .int .i64 D.p.ver, .int .i64 D.p.mode, .int .i64 D.p.strat, .int .i64 D.p.poll, .int .i64 D.p.prec, .int .u32 (D.p.rd : Nat), .int .u32 (D.p.rs : Nat), .int .u32 (D.p.rid : Nat), .int .u64 (D.p.tref : Nat), .int .u64 (D.p.torg : Nat), .int .u64 (D.p.trec : Nat), .int .u64 (D.p.txm : Nat), .slice fa m1 fc, .int .i64 D.p.auth, .int .u32 (D.p.key : Nat), .slice da m2 dc] 30))
  have P3 := Lib.hid (P1.out.below (balloc (brefl w2) (.cells #[.int .i64 D.p.leap, .int .i64 D.p.ver, .int .i64 D.p.mode, .int .i64 D.p.strat, .int .i64 D.p.poll, .int .i64 D.p.prec, .int .u32 (D.p.rd : Nat), .int .u32 (D.p.rs : Nat), .int .u32 (D.p.rid : Nat), .int .u64 (D.p.tref : Nat), .int .u64 (D.p.torg : Nat), .int .u64 (D.p.trec : Nat), .int .u64 (D.p.txm : Nat), .slice fa m1 fc, .int .i64 D.p.auth, .int .u32 (D.p.key : Nat), .slice da m2 dc] 30)))
  clear P1 B2
  generalize w2.alloc (.cells #[.int .i64 D.p.leap, .int .i64 D.p.ver, .int .i64 D.p.mode, .int .i64 D.p.strat, .int .i64 D.p.poll, .int .i64 D.p.prec, .int .u32 (D.p.rd : Nat), .int .u32 (D.p.rs : Nat), .int .u32 (D.p.rid : Nat), .int .u64 (D.p.tref : Nat), .int .u64 (D.p.torg : Nat), .int .u64 (D.p.trec : Nat), .int .u64 (D.p.txm : Nat), .slice fa m1 fc, .int .i64 D.p.auth, .int .u32 (D.p.key : Nat), .slice da m2 dc] 30) = w3 at *
  generalize w2.heap.size = b1 at *
  go_wp2_with fail
  refine (HR.out _ B3.out).mono ?_
  rintro e w4 ⟨⟨fv, dv, row, rfl, r1, o1⟩, hb⟩
  have Q1 := HP.out _ _ _ _ _ r1 o1
  obtain ⟨fb, gc, ef⟩ := ownF_form r1.2.1
  obtain ⟨db, hc, ed⟩ := own_form o1
  subst ef ed
  have B4 := Lib.hid (bstep B3.out hb)
  have N4 := Lib.hid (N3.out.below hb)
  have P4 := Lib.hid (P3.out.below hb)
  obtain ⟨V2, Q1⟩ := Q1
  have Q1 := Lib.hid Q1
  clear HR HP B3 N3 P3 r1 o1 hb
  generalize row.length = m3 at *
  generalize D.p.dig.length = m4 at *
  go_upto_region 5 with fail
  have M5 : Hid (Blk (w4.alloc (.cells #[.int .i64 D.p.leap, .int .i64 D.p.ver, .int .i64 D.p.mode, .int .i64 D.p.strat, .int .i64 D.p.poll, .int .i64 D.p.prec, .int .u32 (D.p.rd : Nat), .int .u32 (D.p.rs : Nat), .int .u32 (D.p.rid : Nat), .int .u64 (D.p.tref : Nat), .int .u64 (D.p.torg : Nat), .int .u64 (D.p.trec : Nat), .int .u64 (D.p.txm : Nat), .slice fb m3 gc, .int .i64 D.p.auth, .int .u32 (D.p.key : Nat), .slice db m4 hc] 30)) w4.heap.size (pvs D.p (.slice fb m3 gc) (.slice db m4 hc))) := Lib.hid (Blk.new' w4 #[.int .i64 D.p.leap, .int .i64 D.p.ver, .int .i64 D.p.mode, .int .i64 D.p.strat, .int .i64 D.p.poll, .int .i64 D.p.prec, .int .u32 (D.p.rd : Nat), .int .u32 (D.p.rs : Nat), .int .u32 (D.p.rid : Nat), .int .u64 (D.p.tref : Nat), .int .u64 (D.p.torg : Nat), .int .u64 (D.p.trec : Nat), .int .u64 (D.p.txm : Nat), .slice fb m3 gc, .int .i64 D.p.auth, .int .u32 (D.p.key : Nat), .slice db m4 hc] 30)
  have B5 := Lib.hid (balloc B4.out (.cells #[.int .i64 D.p.leap, .int .i64 D.p.ver, .int .i64 D.p.mode, .int .i64 D.p.strat, .int .i64 D.p.poll, .int .i64 D.p.prec, .int .u32 (D.p.rd : Nat), .int .u32 (D.p.rs : Nat), .int .u32 (D.p.rid : Nat), .int .u64 (D.p.tref : Nat), .int .u64 (D.p.torg : Nat), .int .u64 (D.p.trec : Nat), .int .u64 (D.p.txm : Nat), .slice fb m3 gc, .int .i64 D.p.auth, .int .u32 (D.p.key : Nat), .slice db m4 hc] 30))
  have P5 := Lib.hid (P4.out.below (balloc (brefl w4) (.cells #[.int .i64 D.p.leap, .int .i64 D.p.ver, .int .i64 D.p.mode, .int .i64 D.p.strat, .int .i64 D.p.poll, .int .i64 D.p.prec, .int .u32 (D.p.rd : Nat), .int .u32 (D.p.rs : Nat), .int .u32 (D.p.rid : Nat), .int .u64 (D.p.tref : Nat), .int .u64 (D.p.torg : Nat), .int .u64 (D.p.trec : Nat), .int .u64 (D.p.txm : Nat), .slice fb m3 gc, .int .i64 D.p.auth, .int .u32 (D.p.key : Nat), .slice db m4 hc] 30)))
  have N5 := Lib.hid (N4.out.below (balloc (brefl w4) (.cells #[.int .i64 D.p.leap, .int .i64 D.p.ver, .int .i64 D.p.mode, .int .i64 D.p.strat, .int .i64 D.p.poll, .int .i64 D.p.prec, .int .u32 (D.p.rd : Nat), .int .u32 (D.p.rs : Nat), .int .u32 (D.p.rid : Nat), .int .u64 (D.p.tref : Nat), .int .u64 (D.p.torg : Nat), .int .u64 (D.p.trec : Nat), .int .u64 (D.p.txm : Nat), .slice fb m3 gc, .int .i64 D.p.auth, .int .u32 (D.p.key : Nat), .slice db m4 hc] 30)))
  have Q5 := Lib.hid (Q1.out.below (balloc (brefl w4) (.cells #[.int .i64 D.p.leap, .int .i64 D.p.ver, .int .i64 D.p.mode, .int .i64 D.p.strat, .int .i64 D.p.poll, .int .i64 D.p.prec, .int .u32 (D.p.rd : Nat), .int .u32 (D.p.rs : Nat), .int .u32 (D.p.rid : Nat), .int .u64 (D.p.tref : Nat), .int .u64 (D.p.torg : Nat), .int .u64 (D.p.trec : Nat), .int .u64 (D.p.txm : Nat), .slice fb m3 gc, .int .i64 D.p.auth, .int .u32 (D.p.key : Nat), .slice db m4 hc] 30)))
  clear P4 B4 N4 Q1
  generalize w4.alloc (.cells #[.int .i64 D.p.leap, .int .i64 D.p.ver, .int .i64 D.p.mode, .int .i64 D.p.strat, .int .i64 D.p.poll, .int .i64 D.p.prec, .int .u32 (D.p.rd : Nat), .int .u32 (D.p.rs : Nat), .int .u32 (D.p.rid : Nat), .int .u64 (D.p.tref : Nat), .int .u64 (D.p.torg : Nat), .int .u64 (D.p.trec : Nat), .int .u64 (D.p.txm : Nat), .slice fb m3 gc, .int .i64 D.p.auth, .int .u32 (D.p.key : Nat), .slice db m4 hc] 30) = w5 at *
  generalize w4.heap.size = b2 at *
  go_wp2_with fail
  refine (HS.out _ B5.out).mono ?_
  rintro e w6 ⟨⟨v1, rfl, o1⟩, hb⟩
  obtain ⟨a1, c1, e1⟩ := own_form o1
  subst e1
  have O6 := Lib.hid ((own_out o1 HB.out).sb)
  have B6 := Lib.hid (bstep B5.out hb)
  have P6 := Lib.hid (P5.out.below hb)
  have Q6 := Lib.hid (Q5.out.below hb)
  have N6 := Lib.hid (N5.out.below hb)
  have M6 := Lib.hid (M5.out.below hb)
  clear HS B5 P5 Q5 N5 M5 o1 hb
  go_wp2_with fail
  refine (HT.out _ B6.out).mono ?_
  rintro e w7 ⟨⟨v2, rfl, o2⟩, hb⟩
  obtain ⟨a2, c2, e1⟩ := own_form o2
  subst e1
  have U7 := Lib.hid ((own_out o2 HB.out).sb)
  have O7 := Lib.hid (O6.out.below hb)
  have B7 := Lib.hid (bstep B6.out hb)
  have P7 := P6.out.below hb
  have Q7 := Q6.out.below hb
  have N7 := Lib.hid (N6.out.below hb)
  have M7 := Lib.hid (M6.out.below hb)
  clear HT B6 P6 Q6 N6 M6 O6 o2 hb HB
  have SM := Lib.hid (Same_true P7 Q7)
  clear P7 Q7
  obtain ⟨SB, hS⟩ : ∃ S, bs8 (bl (fun i => SL.getD i 0) SL.length) = S := ⟨_, rfl⟩
  generalize SL.length = m at *
  go_upto_region 7 with fail
  go_wp2_with (first | (refine wpList_load_mid rfl 30 _ rfl _ 0 rfl (pvs D.p (.slice fa m1 fc) (.slice da m2 dc)) _ N7.out.range Try.underlying30 rfl (by rw [pvs_len]; exact info_pk) ?_) | (refine wpList_load_mid rfl 30 _ rfl _ 0 rfl (pvs D.p (.slice fb m3 gc) (.slice db m4 hc)) _ M7.out.range Try.underlying30 rfl (by rw [pvs_len]; exact info_pk) ?_))
  refine SM.out.mono ?_
  rintro e w8 ⟨rfl, hb⟩
  have C1 := O7.out.conv hb
  have C2 := U7.out.conv hb
  rw [hS] at C1 C2
  have B8 := Lib.hid (bstep B7.out hb)
  clear SM hS O7 U7 hb B7
  go_wp2_with fail
  go_ret
  exact ⟨rfl, B8.out⟩
set_option maxRecDepth 100000 in
theorem lifted (os : Os) (started : os.Started) (H : Type) (enc : TypeId × Value → H) :
    ReturnsInHanded {} Try.checked os 4 .any (Rows.wireDecodesSpec.pre6 enc Try.prog Try.f4 Rows.wireDecodesRow.domain false) (Rows.wireDecodesSpec.post enc Try.prog Try.f4 false true false false) := by
  refine returnsInHanded_of_change_sized (C := Try.checked) own started (by kernel_rfl) Try.func4
    (ChangeSpec.witness6 (enc := enc) (C := Try.checked) false ⟨#[], #[.slice none 0 0], []⟩ 8 (by kernel_rfl) (by kernel_rfl) (by kernel_rfl) (by kernel_rfl)) ?_
  intro W base args ds gs before hval0 hW hcnd hsz0 _
  have hsz : (DataW.weightsEach Try.prog (Try.f4.params.toList ++ Rows.wireDecodesSpec.plain.varTypes Try.prog) (ds ++ gs)).all (· ≤ reachBytes) = true := hsz0
  have hval : ∀ (j : Nat) t v, Try.f4.params[j]? = some t → args[j]? = some v → Value.okWide Try.prog W .any base t v := hval0
  have hW' := hW
  obtain ⟨p, q, hA0, hV, rfl, hfz, hnd⟩ := hW
  have hA : DataW.TrodAll enc Try.prog W 0 (fun _ => true) true Try.f4.params.toList args.toList ds p := hA0
  rw [Try.params4] at hA hval hsz
  obtain ⟨v0, vs0, d0, ds0, p0, q0, hargs, rfl, rfl, h0, r0⟩ := trodAll_cons hA
  obtain ⟨rfl, rfl, rfl⟩ := trodAll_nil r0
  obtain rfl : args = #[v0] := by cases args; simp_all
  obtain ⟨rfl, rfl⟩ := trodVars_none hV
  have h0k := h0
  have hlt0 : ∀ x ∈ p0, x.block < W.heap.size := fun x hx => by have := hW'.lt x (by simp [hx]); simpa using this
  have hb0 : ∀ es sp, d0 = .slice es sp → (es.length + sp.length) * Try.prog.bytesOf 5 ≤ reachBytes := by
    intro es sp he
    exact sized_slice hsz (j := 0) (t := 28) (e := 5) rfl (by rw [he]; rfl) Try.underlying28
  obtain ⟨n0, f0, g0⟩ := open_bytes (hval 0 28 v0 rfl rfl) h0 hb0
  clear hA0 hval0
  simp only [List.append_nil] at hW'
  refine (walk v0 n0 f0 W g0).mono fun e W' ⟨he, hg⟩ => ?_
  subst he
  exact ⟨_, rfl, _, _, _, [], _, [], hW', trodAll_cons_mk (shut_bool Try.underlying4 _) trodAll_mk0,
    (trodAll_cons_mk (Below.trod laidOut (by kernel_rfl) (of_decide_eq_true (by kernel_rfl)) h0k hg hlt0) trodAll_mk0), rfl, hg.frame _, fun h => nomatch h⟩

theorem over : Rows.wireDecodesRow.holds Try.pinned (OpenSpec.ofChange Rows.wireDecodesSpec) :=
  OpenClaim.holds_of_wide 4 Try.f4 rfl rfl rfl rfl rfl rfl rfl ⟨rfl, rfl, rfl, rfl, rfl⟩ rfl rfl rfl rfl rfl (by kernel_rfl) Try.func4 (by kernel_rfl)
    (of_decide_eq_true (by kernel_rfl)) (by unfold Func.isWrapper; first | (rw [if_pos (by decide +kernel)]; kernel_rfl) | (rw [if_neg (by decide +kernel)]; exact ⟨rfl, rfl⟩))
    (fun os started H enc _ => lifted os started H enc)

theorem proved : Rows.WireDecodesSaid :=
  over
end Go.Proofs.Ytmjbnbjkpimjmaa.wireDecodes
