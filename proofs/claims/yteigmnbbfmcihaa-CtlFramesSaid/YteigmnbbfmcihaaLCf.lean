/-
  CtlFrames: Every frame has just its bytes, and all bytes whatever are a frame or refused with the document's error. The law returns true for every input, and the input reads as it did.
  Conditions: none.
-/
import Derived.Test.YteigmnbbfmcihaaRows
import Derived.Test.YteigmnbbfmcihaaCtM
import Derived.SizedLaws
import Derived.Lib.SmallJoins
namespace Go.Proofs.Yteigmnbbfmcihaa.ctlFrames
open Go.ChangeShapes Go.WideShapes Go.ChangeAt Go.RowKit Go.Joins By Ct
set_option linter.unusedVariables false
set_option linter.unusedSimpArgs false

theorem own : ownKnob Try.prog.godebug = none := by kernel_rfl
theorem laidOut : laidOutB Try.prog = true := by kernel_rfl
set_option maxRecDepth 100000 in
set_option maxHeartbeats 16000000 in
theorem walk (f : Fr) (dv : Value) (v : Value) (n : Nat) (g : Nat → Nat) (w : World) (P : Fm w f dv) (A : Arg w v n g) :
    Calls Try.prog 3 #[FV f dv, v] w fun e w' => e = .returned (.bool true) ∧ Below w.heap.size w w' := by
  have S0 := A.sb
  have hg : ∀ i, g i < 256 := by obtain ⟨_, _, _, _, _, h, _⟩ := A; exact h
  have hn : n ≤ 140737488351232 := by obtain ⟨_, _, _, h1, h2, _⟩ := A; omega
  obtain ⟨sa, sc, rfl⟩ := S0.form
  have S := Lib.hid S0
  clear A S0
  obtain ⟨da, dc, rfl⟩ := P.form
  have PM := Lib.hid P
  have AW := fun z => Lib.hid (awake10_c z)
  have B1 := Lib.hid (balloc (brefl w) (.cells #[.int .i64 f.ver, .bool f.resp, .bool f.er, .bool f.more, .int .i64 f.op, .int .i64 f.seq, .int .i64 f.st, .int .i64 f.asc, .int .i64 f.off, (.slice da f.dat.length dc)] 24))
  have NP : Hid (Blk (w.alloc (.cells #[.int .i64 f.ver, .bool f.resp, .bool f.er, .bool f.more, .int .i64 f.op, .int .i64 f.seq, .int .i64 f.st, .int .i64 f.asc, .int .i64 f.off, (.slice da f.dat.length dc)] 24)) w.heap.size (fvs f (.slice da f.dat.length dc))) := Lib.hid (Blk.new' w #[.int .i64 f.ver, .bool f.resp, .bool f.er, .bool f.more, .int .i64 f.op, .int .i64 f.seq, .int .i64 f.st, .int .i64 f.asc, .int .i64 f.off, (.slice da f.dat.length dc)] 24)
  have HE : Hid (∀ z, Below w.heap.size w z → Calls Try.prog 9 #[.agg (fvs f (.slice da f.dat.length dc)).toArray] z fun e w' => PEnc f z e w') := Lib.hid (fun z k => Encode_any (P.below k))
  have BY := Lib.hid (el_byte P.2.1)
  have HR : Hid (∀ z, Below w.heap.size w z → Calls Try.prog 10 #[.agg (fvs f (.slice da f.dat.length dc)).toArray] z fun e w' => PEnc f z e w') := Lib.hid (fun z k => rEncode_any (P.below k))
  have HD := Lib.hid (fun z (k : Below w.heap.size w z) => Decode_any (S.out.below k) hn)
  have HS := Lib.hid (fun z (k : Below w.heap.size w z) => rDecode_any (S.out.below k) hn)
  have HF := Lib.hid (fun z base dv => @dec_fm g hg n z base dv)
  clear P hg hn S
  go_enter Try.func3, Try.ntmps3
  go_wp2_with fail
  generalize w.alloc (.cells #[.int .i64 f.ver, .bool f.resp, .bool f.er, .bool f.more, .int .i64 f.op, .int .i64 f.seq, .int .i64 f.st, .int .i64 f.asc, .int .i64 f.off, (.slice da f.dat.length dc)] 24) = w1 at *
  refine (AW w1).out.mono ?_
  rintro e w2 ⟨rfl, hb⟩
  have B2 := Lib.hid (bstep B1.out hb)
  have NP2 := Lib.hid (NP.out.below hb)
  clear B1 NP hb AW
  go_upto_region 3 with fail
  go_wp2_with (refine wpList_load_mid rfl 24 _ rfl _ 0 rfl (fvs f (.slice da f.dat.length dc)) _ NP2.out.range Try.underlying24 rfl (by rw [fvs_len]; exact info_fr) ?_)
  refine (HE.out _ B2.out).mono ?_
  rintro e w3 ⟨⟨v1, rfl, o1⟩, hb⟩
  obtain ⟨a1, c1, rfl⟩ := own_form o1
  have B3 := Lib.hid (bstep B2.out hb)
  have NP3 := Lib.hid (NP2.out.below hb)
  have O1 := Lib.hid ((own_out o1 BY.out).sb)
  clear HE B2 NP2 o1 hb
  go_upto_region 4 with fail
  go_wp2_with (refine wpList_load_mid rfl 24 _ rfl _ 0 rfl (fvs f (.slice da f.dat.length dc)) _ NP3.out.range Try.underlying24 rfl (by rw [fvs_len]; exact info_fr) ?_)
  refine (HR.out _ B3.out).mono ?_
  rintro e w4 ⟨⟨v2, rfl, o2⟩, hb⟩
  obtain ⟨a2, c2, rfl⟩ := own_form o2
  have B4 := Lib.hid (bstep B3.out hb)
  have O2 := Lib.hid ((own_out o2 BY.out).sb)
  have O3 := Lib.hid (O1.out.below hb)
  clear HR B3 NP3 o2 hb O1 BY PM
  obtain ⟨SB, hS⟩ : ∃ S, bs8 (el f) = S := ⟨_, rfl⟩
  have C1 : Hid (∀ z, Below w4.heap.size w4 z → (convert 22 9 (.slice a1 (el f).length c1)).run Try.prog z = .ok (.string SB) z) := Lib.hid fun z k => by rw [← hS, ← bl_getD (el f), bl_len]; exact O3.out.conv k
  have C2 : Hid (∀ z, Below w4.heap.size w4 z → (convert 22 9 (.slice a2 (el f).length c2)).run Try.prog z = .ok (.string SB) z) := Lib.hid fun z k => by rw [← hS, ← bl_getD (el f), bl_len]; exact O2.out.conv k
  generalize (el f).length = ml at *
  generalize ee f = er at *
  clear O2 O3 hS
  unfold PDec at HD HS
  generalize hq : dfr g n = q at *
  generalize derr g n = ed at *
  clear hq
  go_upto_region 5 with fail
  go_wp2_with fail
  refine (HD.out _ B4.out).mono ?_
  rintro e w5 ⟨⟨v3, rfl, o3⟩, hb⟩
  have F5 := HF.out _ _ _ o3
  obtain ⟨fa, fc, rfl⟩ := own_form o3
  have B45 := Lib.hid hb
  clear HD o3 hb
  generalize hm : q.dat.length = m at *
  go_upto_region 6 with fail
  have N5 : Hid (Blk (w5.alloc (.cells #[.int .i64 q.ver, .bool q.resp, .bool q.er, .bool q.more, .int .i64 q.op, .int .i64 q.seq, .int .i64 q.st, .int .i64 q.asc, .int .i64 q.off, (.slice fa m fc)] 24)) w5.heap.size (fvs q (.slice fa m fc))) := Lib.hid (Blk.new' w5 #[.int .i64 q.ver, .bool q.resp, .bool q.er, .bool q.more, .int .i64 q.op, .int .i64 q.seq, .int .i64 q.st, .int .i64 q.asc, .int .i64 q.off, (.slice fa m fc)] 24)
  have F6 := Lib.hid (F5.below (balloc (brefl w5) (.cells #[.int .i64 q.ver, .bool q.resp, .bool q.er, .bool q.more, .int .i64 q.op, .int .i64 q.seq, .int .i64 q.st, .int .i64 q.asc, .int .i64 q.off, (.slice fa m fc)] 24)))
  have B46 := Lib.hid (balloc B45.out (.cells #[.int .i64 q.ver, .bool q.resp, .bool q.er, .bool q.more, .int .i64 q.op, .int .i64 q.seq, .int .i64 q.st, .int .i64 q.asc, .int .i64 q.off, (.slice fa m fc)] 24))
  have B6 := Lib.hid (bstep B4.out B46.out)
  clear F5 B45
  generalize w5.alloc (.cells #[.int .i64 q.ver, .bool q.resp, .bool q.er, .bool q.more, .int .i64 q.op, .int .i64 q.seq, .int .i64 q.st, .int .i64 q.asc, .int .i64 q.off, (.slice fa m fc)] 24) = w6 at *
  generalize w5.heap.size = b5 at *
  go_wp2_with fail
  refine (HS.out _ B6.out).mono ?_
  rintro e w7 ⟨⟨v4, rfl, o4⟩, hb⟩
  have F7 := HF.out _ _ _ o4
  obtain ⟨ga, gc, e4⟩ : ∃ a c, v4 = .slice a m c := by rw [← hm]; exact own_form o4
  subst e4
  have B47 := Lib.hid (bstep B46.out hb)
  have N7 := Lib.hid (N5.out.below hb)
  have G7 := Lib.hid (F6.out.below hb)
  clear HS o4 hb HF F6 N5 B46 B6
  go_upto_region 7 with fail
  have M8 : Hid (Blk (w7.alloc (.cells #[.int .i64 q.ver, .bool q.resp, .bool q.er, .bool q.more, .int .i64 q.op, .int .i64 q.seq, .int .i64 q.st, .int .i64 q.asc, .int .i64 q.off, (.slice ga m gc)] 24)) w7.heap.size (fvs q (.slice ga m gc))) := Lib.hid (Blk.new' w7 #[.int .i64 q.ver, .bool q.resp, .bool q.er, .bool q.more, .int .i64 q.op, .int .i64 q.seq, .int .i64 q.st, .int .i64 q.asc, .int .i64 q.off, (.slice ga m gc)] 24)
  have DB := balloc (brefl w7) (.cells #[.int .i64 q.ver, .bool q.resp, .bool q.er, .bool q.more, .int .i64 q.op, .int .i64 q.seq, .int .i64 q.st, .int .i64 q.asc, .int .i64 q.off, (.slice ga m gc)] 24)
  have N8 := Lib.hid (N7.out.below DB)
  have B48 := Lib.hid (bstep B47.out DB)
  have SM : Hid (Calls Try.prog 13 #[.agg (fvs q (.slice fa m fc)).toArray, .agg (fvs q (.slice ga m gc)).toArray] _ fun e w' => e = .returned (.bool true) ∧ Below (w7.alloc (.cells #[.int .i64 q.ver, .bool q.resp, .bool q.er, .bool q.more, .int .i64 q.op, .int .i64 q.seq, .int .i64 q.st, .int .i64 q.asc, .int .i64 q.off, (.slice ga m gc)] 24)).heap.size (w7.alloc (.cells #[.int .i64 q.ver, .bool q.resp, .bool q.er, .bool q.more, .int .i64 q.op, .int .i64 q.seq, .int .i64 q.st, .int .i64 q.asc, .int .i64 q.off, (.slice ga m gc)] 24)) w') := Lib.hid (Same_true (G7.out.below DB) (F7.below DB))
  have c1' := C1.out _ B48.out
  have c2' := C2.out _ B48.out
  clear F7 G7 N7 B47 DB C1 C2
  generalize w7.alloc (.cells #[.int .i64 q.ver, .bool q.resp, .bool q.er, .bool q.more, .int .i64 q.op, .int .i64 q.seq, .int .i64 q.st, .int .i64 q.asc, .int .i64 q.off, (.slice ga m gc)] 24) = w8 at *
  generalize w7.heap.size = b7 at *
  go_wp2_with (first | (refine load_mid_g rfl 24 _ rfl _ 0 rfl (fvs q (.slice fa m fc)) _ N8.out.range Try.underlying24 rfl (by rw [fvs_len]; exact info_fr) ?_) | (refine load_mid_g rfl 24 _ rfl _ 0 rfl (fvs q (.slice ga m gc)) _ M8.out.range Try.underlying24 rfl (by rw [fvs_len]; exact info_fr) ?_))
  refine SM.out.mono ?_
  rintro e w9 ⟨rfl, hb⟩
  have B9 := Lib.hid (bstep (bstep B4.out B48.out) hb)
  clear SM hb B48 B4 c1' c2' M8 N8
  go_wp2_with fail
  go_ret
  exact ⟨rfl, B9.out⟩
set_option maxRecDepth 100000 in
theorem lifted (os : Os) (started : os.Started) (H : Type) (enc : TypeId × Value → H) :
    ReturnsInHanded {} Try.checked os 3 .any (Rows.ctlFramesSpec.pre6 enc Try.prog Try.f3 Rows.ctlFramesRow.domain false) (Rows.ctlFramesSpec.post enc Try.prog Try.f3 false true false false) := by
  refine returnsInHanded_of_change_sized (C := Try.checked) own started (by kernel_rfl) Try.func3
    (ChangeSpec.witness6 (enc := enc) (C := Try.checked) false ⟨#[], #[.agg #[.int .i64 0, .bool false, .bool false, .bool false, .int .i64 0, .int .i64 0, .int .i64 0, .int .i64 0, .int .i64 0, .slice none 0 0], .slice none 0 0], []⟩ 8 (by kernel_rfl) (by kernel_rfl) (by kernel_rfl) (by kernel_rfl)) ?_
  intro W base args ds gs before hval0 hW hcnd hsz0 _
  have hsz : (DataW.weightsEach Try.prog (Try.f3.params.toList ++ Rows.ctlFramesSpec.plain.varTypes Try.prog) (ds ++ gs)).all (· ≤ reachBytes) = true := hsz0
  have hval : ∀ (j : Nat) t v, Try.f3.params[j]? = some t → args[j]? = some v → Value.okWide Try.prog W .any base t v := hval0
  have hW' := hW
  obtain ⟨p, q, hA0, hV, rfl, hfz, hnd⟩ := hW
  have hA : DataW.TrodAll enc Try.prog W 0 (fun _ => true) true Try.f3.params.toList args.toList ds p := hA0
  rw [Try.params3] at hA hval hsz
  obtain ⟨v0, vs0, d0, ds0, p0, q0, hargs, rfl, rfl, h0, r0⟩ := trodAll_cons hA
  obtain ⟨v1, vs1, d1, ds1, p1, q1, rfl, rfl, rfl, h1, r1⟩ := trodAll_cons r0
  obtain ⟨rfl, rfl, rfl⟩ := trodAll_nil r1
  obtain rfl : args = #[v0, v1] := by cases args; simp_all
  obtain ⟨rfl, rfl⟩ := trodVars_none hV
  have h0k := h0
  have hlt0 : ∀ x ∈ p0, x.block < W.heap.size := fun x hx => by have := hW'.lt x (by simp [hx]); simpa using this
  have hb0 : ∀ y ∈ DataW.weights Try.prog 24 d0, y ≤ reachBytes := fun y hy => by
    have := List.all_eq_true.1 hsz y (DataW.weights_mem_each (j := 0) rfl rfl y hy)
    simpa using this
  have h1k := h1
  have hlt1 : ∀ x ∈ p1, x.block < W.heap.size := fun x hx => by have := hW'.lt x (by simp [hx]); simpa using this
  have hb1 : ∀ es sp, d1 = .slice es sp → (es.length + sp.length) * Try.prog.bytesOf 5 ≤ reachBytes := by
    intro es sp he
    exact sized_slice hsz (j := 1) (t := 22) (e := 5) rfl (by rw [he]; rfl) Try.underlying22
  obtain ⟨f0, dv0, rfl, g0⟩ := open_fr (hval 0 24 v0 rfl rfl) h0 hb0
  obtain ⟨n1, f1, g1⟩ := open_bytes (hval 1 22 v1 rfl rfl) h1 hb1
  clear hA0 hval0
  simp only [List.append_nil] at hW'
  refine (walk f0 dv0 v1 n1 f1 W g0 g1).mono fun e W' ⟨he, hg⟩ => ?_
  subst he
  exact ⟨_, rfl, _, _, _, [], _, [], hW', trodAll_cons_mk (shut_bool Try.underlying4 _) trodAll_mk0,
    (trodAll_cons_mk (Below.trod laidOut (by kernel_rfl) (of_decide_eq_true (by kernel_rfl)) h0k hg hlt0) (trodAll_cons_mk (Below.trod laidOut (by kernel_rfl) (of_decide_eq_true (by kernel_rfl)) h1k hg hlt1) trodAll_mk0)), rfl, hg.frame _, fun h => nomatch h⟩

theorem over : Rows.ctlFramesRow.holds Try.pinned (OpenSpec.ofChange Rows.ctlFramesSpec) :=
  OpenClaim.holds_of_wide 3 Try.f3 rfl rfl rfl rfl rfl rfl rfl ⟨rfl, rfl, rfl, rfl, rfl⟩ rfl rfl rfl rfl rfl (by kernel_rfl) Try.func3 (by kernel_rfl)
    (of_decide_eq_true (by kernel_rfl)) (by unfold Func.isWrapper; first | (rw [if_pos (by decide +kernel)]; kernel_rfl) | (rw [if_neg (by decide +kernel)]; exact ⟨rfl, rfl⟩))
    (fun os started H enc _ => lifted os started H enc)

theorem proved : Rows.CtlFramesSaid :=
  over
end Go.Proofs.Yteigmnbbfmcihaa.ctlFrames
