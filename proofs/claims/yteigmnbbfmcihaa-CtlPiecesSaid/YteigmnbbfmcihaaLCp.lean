/-
  CtlPieces: Data is cut over frames, and frames are put together, as the document says. The law returns true for every input, and the input reads as it did.
  Conditions: none.
-/
import Derived.Test.YteigmnbbfmcihaaRows
import Derived.Test.YteigmnbbfmcihaaCuA
import Derived.Test.YteigmnbbfmcihaaCtY
import Derived.SizedLaws
import Derived.Lib.SmallJoins
namespace Go.Proofs.Yteigmnbbfmcihaa.ctlPieces
open Go.ChangeShapes Go.WideShapes Go.ChangeAt Go.RowKit Go.Joins By Ct
set_option linter.unusedVariables false
set_option linter.unusedSimpArgs false

theorem own : ownKnob Try.prog.godebug = none := by kernel_rfl
theorem laidOut : laidOutB Try.prog = true := by kernel_rfl
set_option maxRecDepth 100000 in
set_option maxHeartbeats 16000000 in
theorem walk (f : Fr) (dv : Value) (v : Value) (n : Nat) (g : Nat → Nat) (u : Value) (L : List (Fr × Value)) (w : World) (P : Fm w f dv) (A : Arg w v n g) (FL : Fl w u L) :
    Calls Try.prog 4 #[FV f dv, v, u] w fun e w' => e = .returned (.bool true) ∧ Below w.heap.size w w' := by
  have S0 := A.sb
  have hg : ∀ i, g i < 256 := by obtain ⟨_, _, _, _, _, h, _⟩ := A; exact h
  have hn : n ≤ 140737488351232 := by obtain ⟨_, _, _, h1, h2, _⟩ := A; omega
  obtain ⟨sa, sc, rfl⟩ := S0.form
  obtain ⟨da, dc, rfl⟩ := P.form
  obtain ⟨la, lc, rfl⟩ := FL.form
  have AW := fun z => Lib.hid (awake10_c z)
  have B1 := Lib.hid (balloc (brefl w) (.cells #[.int .i64 f.ver, .bool f.resp, .bool f.er, .bool f.more, .int .i64 f.op, .int .i64 f.seq, .int .i64 f.st, .int .i64 f.asc, .int .i64 f.off, (.slice da f.dat.length dc)] 24))
  have NP : Hid (Blk (w.alloc (.cells #[.int .i64 f.ver, .bool f.resp, .bool f.er, .bool f.more, .int .i64 f.op, .int .i64 f.seq, .int .i64 f.st, .int .i64 f.asc, .int .i64 f.off, (.slice da f.dat.length dc)] 24)) w.heap.size (fvs f (.slice da f.dat.length dc))) := Lib.hid (Blk.new' w #[.int .i64 f.ver, .bool f.resp, .bool f.er, .bool f.more, .int .i64 f.op, .int .i64 f.seq, .int .i64 f.st, .int .i64 f.asc, .int .i64 f.off, (.slice da f.dat.length dc)] 24)
  have HC : Hid (∀ z, Below w.heap.size w z → Calls Try.prog 14 #[.agg (fvs f (.slice da f.dat.length dc)).toArray, .slice sa n sc] z fun e w' => PCut f n g z e w') := Lib.hid (fun z k => Cut_any (P.below k) (S0.below k) hn)
  have HR : Hid (∀ z, Below w.heap.size w z → Calls Try.prog 15 #[.agg (fvs f (.slice da f.dat.length dc)).toArray, .slice sa n sc] z fun e w' => PCut f n g z e w') := Lib.hid (fun z k => rCut_any (P.below k) (S0.below k) hn)
  have HG := Lib.hid hg
  obtain ⟨m, hm⟩ : ∃ m, L.length = m := ⟨_, rfl⟩
  have BJ := Lib.hid (jD_byte (fl_byte FL))
  have HJ : Hid (m ≤ 300 → ∀ z, Below w.heap.size w z → Calls Try.prog 16 #[.slice la m lc] z fun e w' => PJoin (L.map Prod.fst) z e w') := Lib.hid (fun q z k => by rw [← hm]; exact Join_any (FL.below k) (by omega))
  have HK : Hid (m ≤ 300 → ∀ z, Below w.heap.size w z → Calls Try.prog 17 #[.slice la m lc] z fun e w' => PJoin (L.map Prod.fst) z e w') := Lib.hid (fun q z k => by rw [← hm]; exact rJoin_any (FL.below k) (by omega))
  rw [hm]
  generalize L.map Prod.fst = fs at *
  clear A P S0 FL hg hn hm
  go_enter Try.func4, Try.ntmps4
  go_wp2_with fail
  generalize w.alloc (.cells #[.int .i64 f.ver, .bool f.resp, .bool f.er, .bool f.more, .int .i64 f.op, .int .i64 f.seq, .int .i64 f.st, .int .i64 f.asc, .int .i64 f.off, (.slice da f.dat.length dc)] 24) = w1 at *
  refine (AW w1).out.mono ?_
  rintro e w2 ⟨rfl, hb⟩
  have B2 := Lib.hid (bstep B1.out hb)
  have NP2 := Lib.hid (NP.out.below hb)
  clear B1 NP hb AW
  by_cases c : 300 < m
  · have e1 : decide ((300 : Int) < (m : Int)) = true := decide_eq_true (by omega)
    go_wp2_with fail
    go_ret
    exact ⟨rfl, B2.out⟩
  have e1 : decide ((300 : Int) < (m : Int)) = false := decide_eq_false (by omega)
  replace HJ := Lib.hid (HJ.out (by omega))
  replace HK := Lib.hid (HK.out (by omega))
  clear c
  go_upto_region 5 with fail
  clear e1
  go_wp2_with (refine wpList_load_mid rfl 24 _ rfl _ 0 rfl (fvs f (.slice da f.dat.length dc)) _ NP2.out.range Try.underlying24 rfl (by rw [fvs_len]; exact info_fr) ?_)
  refine (HC.out _ B2.out).mono ?_
  rintro e w3 ⟨⟨v1, row1, rfl, r1, q1, _⟩, hb⟩
  have B3 := Lib.hid (bstep B2.out hb)
  have NP3 := Lib.hid (NP2.out.below hb)
  have F1 := Lib.hid (cut_fl HG.out r1 q1)
  have Q1 := Lib.hid q1
  clear HC B2 NP2 r1 q1 hb
  go_upto_region 6 with fail
  go_wp2_with (refine wpList_load_mid rfl 24 _ rfl _ 0 rfl (fvs f (.slice da f.dat.length dc)) _ NP3.out.range Try.underlying24 rfl (by rw [fvs_len]; exact info_fr) ?_)
  refine (HR.out _ B3.out).mono ?_
  rintro e w4 ⟨⟨v2, row2, rfl, r2, q2, _⟩, hb⟩
  have B4 := Lib.hid (bstep B3.out hb)
  have F2 := Lib.hid (cut_fl HG.out r2 q2)
  have Q2 := Lib.hid q2
  have F1b := Lib.hid (F1.out.below hb)
  clear HR B3 NP3 r2 q2 hb F1
  go_upto_region 7 with fail
  go_wp2_with fail
  refine (HJ.out _ B4.out).mono ?_
  rintro e w5 ⟨⟨v3, rfl, o3⟩, hb⟩
  have B5 := Lib.hid (bstep B4.out hb)
  have B45 := Lib.hid hb
  have O3 := Lib.hid o3
  clear HJ o3 hb B4
  go_upto_region 8 with fail
  go_wp2_with fail
  refine (HK.out _ B5.out).mono ?_
  rintro e w6 ⟨⟨v4, rfl, o4⟩, hb⟩
  have B6 := Lib.hid (bstep B5.out hb)
  have SM := Lib.hid (same_c ((F1b.out.below B45.out).below hb) ((F2.out.below B45.out).below hb) (Q1.out.trans Q2.out.symm) (by have := congrArg List.length Q1.out; have h2 := cq_len f n g; rw [List.length_map] at this; omega))
  have C3 : Hid (∀ z, Below w6.heap.size w6 z → (convert 22 9 v3).run Try.prog z = .ok (.string (bs8 (jD fs))) z) := Lib.hid fun z k => own_str O3.out BJ.out (bstep hb k)
  have C4 : Hid (∀ z, Below w6.heap.size w6 z → (convert 22 9 v4).run Try.prog z = .ok (.string (bs8 (jD fs))) z) := Lib.hid fun z k => own_str o4 BJ.out k
  obtain ⟨a3, c3, rfl⟩ := own_form O3.out
  obtain ⟨a4, c4, rfl⟩ := own_form o4
  obtain ⟨a1, d1, e1⟩ := F1b.out.form
  obtain ⟨a2, d2, e2⟩ := F2.out.form
  subst e1 e2
  clear HK o4 hb B5 B45 O3 F1b F2 Q1 Q2 BJ HG
  generalize bs8 (jD fs) = SB at *
  generalize jE fs = ej at *
  generalize (jD fs).length = jl at *
  generalize ce f n = ec at *
  generalize row1.length = l1 at *
  generalize row2.length = l2 at *
  go_upto_region 9 with fail
  go_wp2_with fail
  refine SM.out.mono ?_
  rintro e w7 ⟨rfl, hb⟩
  have c3' := C3.out _ hb
  have c4' := C4.out _ hb
  have B7 := Lib.hid (bstep B6.out hb)
  clear SM C3 C4 hb B6
  go_wp2_with fail
  go_ret
  exact ⟨rfl, B7.out⟩
set_option maxRecDepth 100000 in
theorem lifted (os : Os) (started : os.Started) (H : Type) (enc : TypeId × Value → H) :
    ReturnsInHanded {} Try.checked os 4 .any (Rows.ctlPiecesSpec.pre6 enc Try.prog Try.f4 Rows.ctlPiecesRow.domain false) (Rows.ctlPiecesSpec.post enc Try.prog Try.f4 false true false false) := by
  refine returnsInHanded_of_change_sized (C := Try.checked) own started (by kernel_rfl) Try.func4
    (ChangeSpec.witness6 (enc := enc) (C := Try.checked) false ⟨#[], #[.agg #[.int .i64 0, .bool false, .bool false, .bool false, .int .i64 0, .int .i64 0, .int .i64 0, .int .i64 0, .int .i64 0, .slice none 0 0], .slice none 0 0, .slice none 0 0], []⟩ 8 (by kernel_rfl) (by kernel_rfl) (by kernel_rfl) (by kernel_rfl)) ?_
  intro W base args ds gs before hval0 hW hcnd hsz0 _
  have hsz : (DataW.weightsEach Try.prog (Try.f4.params.toList ++ Rows.ctlPiecesSpec.plain.varTypes Try.prog) (ds ++ gs)).all (· ≤ reachBytes) = true := hsz0
  have hval : ∀ (j : Nat) t v, Try.f4.params[j]? = some t → args[j]? = some v → Value.okWide Try.prog W .any base t v := hval0
  have hW' := hW
  obtain ⟨p, q, hA0, hV, rfl, hfz, hnd⟩ := hW
  have hA : DataW.TrodAll enc Try.prog W 0 (fun _ => true) true Try.f4.params.toList args.toList ds p := hA0
  rw [Try.params4] at hA hval hsz
  obtain ⟨v0, vs0, d0, ds0, p0, q0, hargs, rfl, rfl, h0, r0⟩ := trodAll_cons hA
  obtain ⟨v1, vs1, d1, ds1, p1, q1, rfl, rfl, rfl, h1, r1⟩ := trodAll_cons r0
  obtain ⟨v2, vs2, d2, ds2, p2, q2, rfl, rfl, rfl, h2, r2⟩ := trodAll_cons r1
  obtain ⟨rfl, rfl, rfl⟩ := trodAll_nil r2
  obtain rfl : args = #[v0, v1, v2] := by cases args; simp_all
  obtain ⟨rfl, rfl⟩ := trodVars_none hV
  have h0k := h0
  have hlt0 : ∀ x ∈ p0, x.block < W.heap.size := fun x hx => by have := hW'.lt x (by simp [hx]); simpa using this
  have hb0 : ∀ y ∈ DataW.weights Try.prog 24 d0, y ≤ reachBytes := fun y hy => by
    have := List.all_eq_true.1 hsz y (DataW.weights_mem_each (j := 0) rfl rfl y hy)
    simpa using this
  have h1k := h1
  have hlt1 : ∀ x ∈ p1, x.block < W.heap.size := fun x hx => by have := hW'.lt x (by simp [hx]); simpa using this
  have hb1 : ∀ es sp, d1 = .slice es sp → (es.length + sp.length) * Try.prog.bytesOf 5 ≤ reachBytes := by
    intro es sp he
    exact sized_slice hsz (j := 1) (t := 22) (e := 5) rfl (by rw [he]; rfl) Try.underlying22
  have h2k := h2
  have hlt2 : ∀ x ∈ p2, x.block < W.heap.size := fun x hx => by have := hW'.lt x (by simp [hx]); simpa using this
  have hb2 : ∀ y ∈ DataW.weights Try.prog 37 d2, y ≤ reachBytes := fun y hy => by
    have := List.all_eq_true.1 hsz y (DataW.weights_mem_each (j := 2) rfl rfl y hy)
    simpa using this
  obtain ⟨f0, dv0, rfl, g0⟩ := open_fr (hval 0 24 v0 rfl rfl) h0 hb0
  obtain ⟨n1, f1, g1⟩ := open_bytes (hval 1 22 v1 rfl rfl) h1 hb1
  obtain ⟨L2, g2⟩ := open_rows (hval 2 37 v2 rfl rfl) h2 hb2
  clear hA0 hval0
  simp only [List.append_nil] at hW'
  refine (walk f0 dv0 v1 n1 f1 v2 L2 W g0 g1 g2).mono fun e W' ⟨he, hg⟩ => ?_
  subst he
  exact ⟨_, rfl, _, _, _, [], _, [], hW', trodAll_cons_mk (shut_bool Try.underlying4 _) trodAll_mk0,
    (trodAll_cons_mk (Below.trod laidOut (by kernel_rfl) (of_decide_eq_true (by kernel_rfl)) h0k hg hlt0) (trodAll_cons_mk (Below.trod laidOut (by kernel_rfl) (of_decide_eq_true (by kernel_rfl)) h1k hg hlt1) (trodAll_cons_mk (Below.trod laidOut (by kernel_rfl) (of_decide_eq_true (by kernel_rfl)) h2k hg hlt2) trodAll_mk0))), rfl, hg.frame _, fun h => nomatch h⟩

theorem over : Rows.ctlPiecesRow.holds Try.pinned (OpenSpec.ofChange Rows.ctlPiecesSpec) :=
  OpenClaim.holds_of_wide 4 Try.f4 rfl rfl rfl rfl rfl rfl rfl ⟨rfl, rfl, rfl, rfl, rfl⟩ rfl rfl rfl rfl rfl (by kernel_rfl) Try.func4 (by kernel_rfl)
    (of_decide_eq_true (by kernel_rfl)) (by unfold Func.isWrapper; first | (rw [if_pos (by decide +kernel)]; kernel_rfl) | (rw [if_neg (by decide +kernel)]; exact ⟨rfl, rfl⟩))
    (fun os started H enc _ => lifted os started H enc)

theorem proved : Rows.CtlPiecesSaid :=
  over
end Go.Proofs.Yteigmnbbfmcihaa.ctlPieces
