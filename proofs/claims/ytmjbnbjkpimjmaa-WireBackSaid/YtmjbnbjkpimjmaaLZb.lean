/-
  WireBack: A packet that is put into bytes comes out of them as it was, and bytes that are a packet are its bytes. The law returns true for every input, and the input reads as it did.
  Conditions: none.
-/
import Derived.Test.YtmjbnbjkpimjmaaRows
import Derived.Test.YtmjbnbjkpimjmaaWiZ
import Derived.Test.YtmjbnbjkpimjmaaWiI
import Derived.SizedLaws
import Derived.Lib.SmallJoins
namespace Go.Proofs.Ytmjbnbjkpimjmaa.wireBack
open Go.ChangeShapes Go.WideShapes Go.ChangeAt Go.RowKit Go.Joins By Wi
set_option linter.unusedVariables false
set_option linter.unusedSimpArgs false

theorem own : ownKnob Try.prog.godebug = none := by kernel_rfl
theorem laidOut : laidOutB Try.prog = true := by kernel_rfl
theorem load_mid_g {P : Program} {ops : Array Oper} {rest : List Oper} {op : Oper} {a : Act} {w : World} {Q : Exit → Act → World → Prop} (hw : Region.wanted op (yielded ops a.tmps) = true) (ty : TypeId) (x : Operand) (ho : op.op = .load ty x)
    (b o : Nat) (hx : a.eval x = .pointer (some ⟨b, o, none⟩)) (cs : List Value) (d : TypeDesc) (hc : w.rangeAt b o cs)
    (hu : P.underlying ty = some d) (hd : d.isRow = true) (hi : (P.info? ty).map (·.size) = some cs.length)
    (h : wpList P ops Q rest (a.put op.dst (.agg cs.toArray)) w) : wpList P ops Q (op :: rest) a w :=
  wpList_step fun K hK => by
    rw [if_pos hw]
    exact wp_load_mid ty x ho b o hx cs d hc hu hd hi (hK _ _ h)
theorem pm0 (w : World) : Pm w pk0 (.slice none 0 0) (.slice none 0 0) (fun _ => .slice none 0 0) := ⟨fs_nil w, nil_sl w, kind0⟩
set_option maxRecDepth 100000 in
set_option maxHeartbeats 16000000 in
theorem walk_yes (p : Pk) (fv dv : Value) (V : Nat → Value) (v : Value) (n : Nat) (f : Nat → Nat) (w : World) (P : Pm w p fv dv V) (A : Arg w v n f) (c : rt p = true) :
    Calls Try.prog 5 #[PV p fv dv, v] w fun e w' => e = .returned (.bool true) ∧ Below w.heap.size w w' := by
  have S0 := A.sb
  have hf : ∀ i, f i < 256 := by obtain ⟨_, _, _, _, _, h, _⟩ := A; exact h
  have hn : n ≤ 140737488351232 := by obtain ⟨_, _, _, h1, h2, _⟩ := A; omega
  obtain ⟨sa, sc, rfl⟩ := S0.form
  have S := Lib.hid S0
  clear A S0
  have PM := Lib.hid P
  obtain ⟨fa, fc, rfl⟩ := P.1.form
  obtain ⟨da, dc, rfl⟩ := P.2.1.form
  clear P
  have AW := fun z => Lib.hid (awake9_c z)
  have B1 := Lib.hid (balloc (brefl w) (.cells #[.int .i64 p.leap, .int .i64 p.ver, .int .i64 p.mode, .int .i64 p.strat, .int .i64 p.poll, .int .i64 p.prec, .int .u32 (p.rd : Nat), .int .u32 (p.rs : Nat), .int .u32 (p.rid : Nat), .int .u64 (p.tref : Nat), .int .u64 (p.torg : Nat), .int .u64 (p.trec : Nat), .int .u64 (p.txm : Nat), .slice fa p.fs.length fc, .int .i64 p.auth, .int .u32 (p.key : Nat), .slice da p.dig.length dc] 30))
  have NP : Hid (Blk (w.alloc (.cells #[.int .i64 p.leap, .int .i64 p.ver, .int .i64 p.mode, .int .i64 p.strat, .int .i64 p.poll, .int .i64 p.prec, .int .u32 (p.rd : Nat), .int .u32 (p.rs : Nat), .int .u32 (p.rid : Nat), .int .u64 (p.tref : Nat), .int .u64 (p.torg : Nat), .int .u64 (p.trec : Nat), .int .u64 (p.txm : Nat), .slice fa p.fs.length fc, .int .i64 p.auth, .int .u32 (p.key : Nat), .slice da p.dig.length dc] 30)) w.heap.size (pvs p (.slice fa p.fs.length fc) (.slice da p.dig.length dc))) := Lib.hid (Blk.new' w #[.int .i64 p.leap, .int .i64 p.ver, .int .i64 p.mode, .int .i64 p.strat, .int .i64 p.poll, .int .i64 p.prec, .int .u32 (p.rd : Nat), .int .u32 (p.rs : Nat), .int .u32 (p.rid : Nat), .int .u64 (p.tref : Nat), .int .u64 (p.torg : Nat), .int .u64 (p.trec : Nat), .int .u64 (p.txm : Nat), .slice fa p.fs.length fc, .int .i64 p.auth, .int .u32 (p.key : Nat), .slice da p.dig.length dc] 30)
  go_enter Try.func5, Try.ntmps5
  go_wp2_with fail
  generalize w.alloc (.cells #[.int .i64 p.leap, .int .i64 p.ver, .int .i64 p.mode, .int .i64 p.strat, .int .i64 p.poll, .int .i64 p.prec, .int .u32 (p.rd : Nat), .int .u32 (p.rs : Nat), .int .u32 (p.rid : Nat), .int .u64 (p.tref : Nat), .int .u64 (p.torg : Nat), .int .u64 (p.trec : Nat), .int .u64 (p.txm : Nat), .slice fa p.fs.length fc, .int .i64 p.auth, .int .u32 (p.key : Nat), .slice da p.dig.length dc] 30) = w1 at *
  refine (AW w1).out.mono ?_
  rintro e w2 ⟨rfl, hb⟩
  have B2 := Lib.hid (bstep B1.out hb)
  have NP2 := Lib.hid (NP.out.below hb)
  clear B1 NP hb AW
  go_upto_region 3 with fail
  obtain ⟨tn, ht, hlen, l48, l1024, hd⟩ := dec_enc c PM.out.2.2
  have BY := Lib.hid (enc_byte (rt_cut c).1 PM.out.2.2)
  have HE : Hid (∀ z, Below w.heap.size w z → Calls Try.prog 9 #[.agg (pvs p (.slice fa p.fs.length fc) (.slice da p.dig.length dc)).toArray] z fun e w' => (∃ v, e = .returned (.tuple #[v, .int .i64 0]) ∧ By.Own w' z.heap.size v (enc p)) ∧ Below z.heap.size z w') := Lib.hid (fun z (k : Below w.heap.size w z) => Encode_yes (PM.out.below k) c)
  have HD : Hid (∀ z v, Sb z v (enc p).length (fun i => (enc p).getD i 0) → Calls Try.prog 13 #[v] z fun e w' => PDec ⟨0, p, (enc p).length - tn⟩ z e w') := Lib.hid (fun z v s => by rw [← hd]; exact Decode_any s (by omega))
  have HP : Hid (∀ z base fv dv row, Rowd z base fv row p.fs → By.Own z base dv p.dig → ∃ V, Pm z p fv dv V) := Lib.hid (fun z base fv dv row => by
    have := @dec_pm (fun i => (enc p).getD i 0) (getD_byte BY.out) (enc p).length z base fv dv row
    rwa [hd] at this)
  have q1 : ((enc p).length : Int) ≤ 1024 := by omega
  have q2 : (48 : Int) ≤ ((enc p).length : Int) := by omega
  have hl : (pvs p (.slice fa p.fs.length fc) (.slice da p.dig.length dc)).length = 17 := rfl
  clear c ht hlen hd l48 l1024
  go_wp2_with (refine wpList_load_mid rfl 30 _ rfl _ 0 rfl (pvs p (.slice fa p.fs.length fc) (.slice da p.dig.length dc)) _ NP2.out.range Try.underlying30 rfl (by first | exact info_pk | (rw [hl]; exact info_pk) | (rw [hl1]; exact info_pk)) ?_)
  refine (HE.out _ B2.out).mono ?_
  rintro e w3 ⟨⟨v1, rfl, o1⟩, hb⟩
  obtain ⟨a1, c1, rfl⟩ : ∃ a c, v1 = .slice a (enc p).length c := own_form o1
  have B3 := Lib.hid (bstep B2.out hb)
  have NP3 := Lib.hid (NP2.out.below hb)
  have O1 := Lib.hid ((own_out o1 BY.out).sb)
  clear HE B2 NP2 o1 hb
  go_upto_region 5 with fail
  go_wp2_with fail
  refine (HD.out _ _ O1.out).mono ?_
  rintro e w4 ⟨⟨fv, dv, row, rfl, r1, o1⟩, hb⟩
  obtain ⟨V2, Q1⟩ := HP.out _ _ _ _ _ r1 o1
  obtain ⟨fb, m3, gc, ef⟩ : ∃ a m c, fv = .slice a m c := (ownF_form r1.2.1).elim fun a h => h.elim fun c h => ⟨a, _, c, h⟩
  obtain ⟨db, m4, hc, ed⟩ : ∃ a m c, dv = .slice a m c := (own_form o1).elim fun a h => h.elim fun c h => ⟨a, _, c, h⟩
  subst ef ed
  have Q1 := Lib.hid Q1
  have B4 := Lib.hid (bstep B3.out hb)
  have NP4 := Lib.hid (NP3.out.below hb)
  clear HD HP B3 NP3 r1 o1 hb O1
  generalize (enc p).length = m at *
  go_upto_region 6 with fail
  have M5 : Hid (Blk (w4.alloc (.cells #[.int .i64 p.leap, .int .i64 p.ver, .int .i64 p.mode, .int .i64 p.strat, .int .i64 p.poll, .int .i64 p.prec, .int .u32 (p.rd : Nat), .int .u32 (p.rs : Nat), .int .u32 (p.rid : Nat), .int .u64 (p.tref : Nat), .int .u64 (p.torg : Nat), .int .u64 (p.trec : Nat), .int .u64 (p.txm : Nat), .slice fb m3 gc, .int .i64 p.auth, .int .u32 (p.key : Nat), .slice db m4 hc] 30)) w4.heap.size (pvs p (.slice fb m3 gc) (.slice db m4 hc))) := Lib.hid (Blk.new' w4 #[.int .i64 p.leap, .int .i64 p.ver, .int .i64 p.mode, .int .i64 p.strat, .int .i64 p.poll, .int .i64 p.prec, .int .u32 (p.rd : Nat), .int .u32 (p.rs : Nat), .int .u32 (p.rid : Nat), .int .u64 (p.tref : Nat), .int .u64 (p.torg : Nat), .int .u64 (p.trec : Nat), .int .u64 (p.txm : Nat), .slice fb m3 gc, .int .i64 p.auth, .int .u32 (p.key : Nat), .slice db m4 hc] 30)
  have N5 := Lib.hid (NP4.out.below (balloc (brefl w4) (.cells #[.int .i64 p.leap, .int .i64 p.ver, .int .i64 p.mode, .int .i64 p.strat, .int .i64 p.poll, .int .i64 p.prec, .int .u32 (p.rd : Nat), .int .u32 (p.rs : Nat), .int .u32 (p.rid : Nat), .int .u64 (p.tref : Nat), .int .u64 (p.torg : Nat), .int .u64 (p.trec : Nat), .int .u64 (p.txm : Nat), .slice fb m3 gc, .int .i64 p.auth, .int .u32 (p.key : Nat), .slice db m4 hc] 30)))
  have B5 := Lib.hid (balloc B4.out (.cells #[.int .i64 p.leap, .int .i64 p.ver, .int .i64 p.mode, .int .i64 p.strat, .int .i64 p.poll, .int .i64 p.prec, .int .u32 (p.rd : Nat), .int .u32 (p.rs : Nat), .int .u32 (p.rid : Nat), .int .u64 (p.tref : Nat), .int .u64 (p.torg : Nat), .int .u64 (p.trec : Nat), .int .u64 (p.txm : Nat), .slice fb m3 gc, .int .i64 p.auth, .int .u32 (p.key : Nat), .slice db m4 hc] 30))
  have SM := Lib.hid (Same_true (PM.out.below B5.out) (Q1.out.below (balloc (brefl w4) (.cells #[.int .i64 p.leap, .int .i64 p.ver, .int .i64 p.mode, .int .i64 p.strat, .int .i64 p.poll, .int .i64 p.prec, .int .u32 (p.rd : Nat), .int .u32 (p.rs : Nat), .int .u32 (p.rid : Nat), .int .u64 (p.tref : Nat), .int .u64 (p.torg : Nat), .int .u64 (p.trec : Nat), .int .u64 (p.txm : Nat), .slice fb m3 gc, .int .i64 p.auth, .int .u32 (p.key : Nat), .slice db m4 hc] 30))))
  have hl1 : (pvs p (.slice fb m3 gc) (.slice db m4 hc)).length = 17 := rfl
  clear NP4 B4 Q1
  generalize w4.alloc (.cells #[.int .i64 p.leap, .int .i64 p.ver, .int .i64 p.mode, .int .i64 p.strat, .int .i64 p.poll, .int .i64 p.prec, .int .u32 (p.rd : Nat), .int .u32 (p.rs : Nat), .int .u32 (p.rid : Nat), .int .u64 (p.tref : Nat), .int .u64 (p.torg : Nat), .int .u64 (p.trec : Nat), .int .u64 (p.txm : Nat), .slice fb m3 gc, .int .i64 p.auth, .int .u32 (p.key : Nat), .slice db m4 hc] 30) = w5 at *
  generalize w4.heap.size = b2 at *
  go_wp2_with (first | (refine load_mid_g rfl 30 _ rfl _ 0 rfl (pvs p (.slice fa p.fs.length fc) (.slice da p.dig.length dc)) _ N5.out.range Try.underlying30 rfl (by first | exact info_pk | (rw [hl]; exact info_pk) | (rw [hl1]; exact info_pk)) ?_) | (refine load_mid_g rfl 30 _ rfl _ 0 rfl (pvs p (.slice fb m3 gc) (.slice db m4 hc)) _ M5.out.range Try.underlying30 rfl (by first | exact info_pk | (rw [hl]; exact info_pk) | (rw [hl1]; exact info_pk)) ?_))
  refine SM.out.mono ?_
  rintro e w8 ⟨rfl, hb⟩
  have B8 := Lib.hid (bstep B5.out hb)
  clear SM hb B5
  clear PM N5 M5 hl hl1
  have HD8 := Lib.hid (Decode_any (S.out.below B8.out) hn)
  have HP8 := Lib.hid (fun z base fv dv row => @dec_pm f hf n z base fv dv row)
  go_upto_region 8 with fail
  by_cases d : (dec f n).e = 0
  · obtain ⟨q, a, hd⟩ := dec_is0 d
    obtain ⟨g1, g2, g3, _⟩ := enc_dec hf hd
    have HE2 : Hid (∀ z fv dv V, Pm z q fv dv V → Calls Try.prog 9 #[PV q fv dv] z fun e w' => (∃ v, e = .returned (.tuple #[v, .int .i64 0]) ∧ By.Own w' z.heap.size v (enc q)) ∧ Below z.heap.size z w') := Lib.hid (fun z fv dv V k => Encode_yes k g1)
    have HC2 : Hid (∀ z fv dv V, Pm z q fv dv V → Calls Try.prog 11 #[PV q fv dv] z fun e w' => e = .returned (.int .i64 0) ∧ Below z.heap.size z w') := Lib.hid (fun z fv dv V k => by rw [← chk_yes g1]; exact Check_c k)
    have BY2 := Lib.hid (enc_byte (rt_cut g1).1 g2)
    have EB := Lib.hid g3
    rw [hd] at HD8 HP8
    clear d hd g1 g2 g3
    go_wp2_with fail
    refine HD8.out.mono ?_
    rintro e K4 ⟨⟨fv, dv, row, rfl, r1, o1⟩, hb⟩
    obtain ⟨V2, Q1⟩ := HP8.out _ _ _ _ _ r1 o1
    obtain ⟨fb, m3, gc, ef⟩ : ∃ a m c, fv = .slice a m c := (ownF_form r1.2.1).elim fun a h => h.elim fun c h => ⟨a, _, c, h⟩
    obtain ⟨db, m4, hc, ed⟩ : ∃ a m c, dv = .slice a m c := (own_form o1).elim fun a h => h.elim fun c h => ⟨a, _, c, h⟩
    subst ef ed
    have Q1 : Hid (Pm K4 q _ _ V2) := Lib.hid Q1
    have D4 := Lib.hid (bstep B8.out hb)
    clear HD8 HP8 B8 r1 o1 hb
    go_upto_region 9 with fail
    have M5 : Hid (Blk (K4.alloc (.cells #[.int .i64 q.leap, .int .i64 q.ver, .int .i64 q.mode, .int .i64 q.strat, .int .i64 q.poll, .int .i64 q.prec, .int .u32 (q.rd : Nat), .int .u32 (q.rs : Nat), .int .u32 (q.rid : Nat), .int .u64 (q.tref : Nat), .int .u64 (q.torg : Nat), .int .u64 (q.trec : Nat), .int .u64 (q.txm : Nat), .slice fb m3 gc, .int .i64 q.auth, .int .u32 (q.key : Nat), .slice db m4 hc] 30)) K4.heap.size (pvs q (.slice fb m3 gc) (.slice db m4 hc))) := Lib.hid (Blk.new' K4 #[.int .i64 q.leap, .int .i64 q.ver, .int .i64 q.mode, .int .i64 q.strat, .int .i64 q.poll, .int .i64 q.prec, .int .u32 (q.rd : Nat), .int .u32 (q.rs : Nat), .int .u32 (q.rid : Nat), .int .u64 (q.tref : Nat), .int .u64 (q.torg : Nat), .int .u64 (q.trec : Nat), .int .u64 (q.txm : Nat), .slice fb m3 gc, .int .i64 q.auth, .int .u32 (q.key : Nat), .slice db m4 hc] 30)
    have D5 := Lib.hid (balloc D4.out (.cells #[.int .i64 q.leap, .int .i64 q.ver, .int .i64 q.mode, .int .i64 q.strat, .int .i64 q.poll, .int .i64 q.prec, .int .u32 (q.rd : Nat), .int .u32 (q.rs : Nat), .int .u32 (q.rid : Nat), .int .u64 (q.tref : Nat), .int .u64 (q.torg : Nat), .int .u64 (q.trec : Nat), .int .u64 (q.txm : Nat), .slice fb m3 gc, .int .i64 q.auth, .int .u32 (q.key : Nat), .slice db m4 hc] 30))
    have Q5 := Lib.hid (Q1.out.below (balloc (brefl K4) (.cells #[.int .i64 q.leap, .int .i64 q.ver, .int .i64 q.mode, .int .i64 q.strat, .int .i64 q.poll, .int .i64 q.prec, .int .u32 (q.rd : Nat), .int .u32 (q.rs : Nat), .int .u32 (q.rid : Nat), .int .u64 (q.tref : Nat), .int .u64 (q.torg : Nat), .int .u64 (q.trec : Nat), .int .u64 (q.txm : Nat), .slice fb m3 gc, .int .i64 q.auth, .int .u32 (q.key : Nat), .slice db m4 hc] 30)))
    clear D4 Q1
    generalize K4.alloc (.cells #[.int .i64 q.leap, .int .i64 q.ver, .int .i64 q.mode, .int .i64 q.strat, .int .i64 q.poll, .int .i64 q.prec, .int .u32 (q.rd : Nat), .int .u32 (q.rs : Nat), .int .u32 (q.rid : Nat), .int .u64 (q.tref : Nat), .int .u64 (q.torg : Nat), .int .u64 (q.trec : Nat), .int .u64 (q.txm : Nat), .slice fb m3 gc, .int .i64 q.auth, .int .u32 (q.key : Nat), .slice db m4 hc] 30) = K5 at *
    generalize K4.heap.size = b9 at *
    go_upto_region 11 with fail
    go_wp2_with (refine wpList_load_mid rfl 30 _ rfl _ 0 rfl (pvs q (.slice fb m3 gc) (.slice db m4 hc)) _ M5.out.range Try.underlying30 rfl (by first | exact info_pk | (rw [hl]; exact info_pk) | (rw [hl1]; exact info_pk)) ?_)
    refine (HE2.out _ _ _ _ Q5.out).mono ?_
    rintro e K6 ⟨⟨v2, rfl, o2⟩, hb⟩
    obtain ⟨a2, c2, e2⟩ := own_form o2
    subst e2
    have D6 := Lib.hid (bstep D5.out hb)
    have Q6 := Lib.hid (Q5.out.below hb)
    have M6 := Lib.hid (M5.out.below hb)
    have C1 : (convert 28 9 (.slice a2 (enc q).length c2)).run Try.prog K6 = .ok (.string (bs8 (bl f n))) K6 := by
      have h := ((own_out o2 BY2.out).sb).conv (brefl _)
      rw [bl_getD] at h
      rw [← EB.out]
      exact h
    have C2 := S.out.conv D6.out
    have HC3 := Lib.hid (HC2.out _ _ _ _ Q6.out)
    clear HE2 HC2 BY2 EB D5 Q5 M5 o2 hb Q6
    generalize (enc q).length = m9 at *
    generalize bs8 (bl f n) = SB at *
    go_upto_region 12 with fail
    go_wp2_with (refine load_mid_g rfl 30 _ rfl _ 0 rfl (pvs q (.slice fb m3 gc) (.slice db m4 hc)) _ M6.out.range Try.underlying30 rfl (by first | exact info_pk | (rw [hl]; exact info_pk) | (rw [hl1]; exact info_pk)) ?_)
    refine HC3.out.mono ?_
    rintro e K7 ⟨rfl, hb⟩
    have D7 := Lib.hid (bstep D6.out hb)
    clear hb HC3 D6 M6 C1 C2
    go_wp2_with fail
    go_ret
    exact ⟨rfl, D7.out⟩
  · have hd : dec f n = bad (dec f n).e := by
      rcases dec_err f n with h | ⟨_, h⟩
      · exact absurd h d
      · exact h
    have ed : ((dec f n).e != 0) = true := by simpa using d
    generalize (dec f n).e = er at *
    rw [hd] at HD8 HP8
    clear hd d
    go_wp2_with fail
    refine HD8.out.mono ?_
    rintro e K4 ⟨⟨fv, dv, row, rfl, r1, o1⟩, hb⟩
    obtain ⟨V2, Q1⟩ := HP8.out _ _ _ _ _ r1 o1
    obtain ⟨fb, m3, gc, ef⟩ : ∃ a m c, fv = .slice a m c := (ownF_form r1.2.1).elim fun a h => h.elim fun c h => ⟨a, _, c, h⟩
    obtain ⟨db, m4, hc, ed2⟩ : ∃ a m c, dv = .slice a m c := (own_form o1).elim fun a h => h.elim fun c h => ⟨a, _, c, h⟩
    subst ef ed2
    have Q1 : Hid (Pm K4 (bad er).p _ _ V2) := Lib.hid Q1
    have D4 := Lib.hid (bstep B8.out hb)
    have ed : ((bad er).e != 0) = true := ed
    clear HD8 HP8 B8 r1 o1 hb
    go_upto_region 9 with fail
    have M5 : Hid (Blk (K4.alloc (.cells #[.int .i64 (bad er).p.leap, .int .i64 (bad er).p.ver, .int .i64 (bad er).p.mode, .int .i64 (bad er).p.strat, .int .i64 (bad er).p.poll, .int .i64 (bad er).p.prec, .int .u32 ((bad er).p.rd : Nat), .int .u32 ((bad er).p.rs : Nat), .int .u32 ((bad er).p.rid : Nat), .int .u64 ((bad er).p.tref : Nat), .int .u64 ((bad er).p.torg : Nat), .int .u64 ((bad er).p.trec : Nat), .int .u64 ((bad er).p.txm : Nat), .slice fb m3 gc, .int .i64 (bad er).p.auth, .int .u32 ((bad er).p.key : Nat), .slice db m4 hc] 30)) K4.heap.size (pvs (bad er).p (.slice fb m3 gc) (.slice db m4 hc))) := Lib.hid (Blk.new' K4 #[.int .i64 (bad er).p.leap, .int .i64 (bad er).p.ver, .int .i64 (bad er).p.mode, .int .i64 (bad er).p.strat, .int .i64 (bad er).p.poll, .int .i64 (bad er).p.prec, .int .u32 ((bad er).p.rd : Nat), .int .u32 ((bad er).p.rs : Nat), .int .u32 ((bad er).p.rid : Nat), .int .u64 ((bad er).p.tref : Nat), .int .u64 ((bad er).p.torg : Nat), .int .u64 ((bad er).p.trec : Nat), .int .u64 ((bad er).p.txm : Nat), .slice fb m3 gc, .int .i64 (bad er).p.auth, .int .u32 ((bad er).p.key : Nat), .slice db m4 hc] 30)
    have D5 := Lib.hid (balloc D4.out (.cells #[.int .i64 (bad er).p.leap, .int .i64 (bad er).p.ver, .int .i64 (bad er).p.mode, .int .i64 (bad er).p.strat, .int .i64 (bad er).p.poll, .int .i64 (bad er).p.prec, .int .u32 ((bad er).p.rd : Nat), .int .u32 ((bad er).p.rs : Nat), .int .u32 ((bad er).p.rid : Nat), .int .u64 ((bad er).p.tref : Nat), .int .u64 ((bad er).p.torg : Nat), .int .u64 ((bad er).p.trec : Nat), .int .u64 ((bad er).p.txm : Nat), .slice fb m3 gc, .int .i64 (bad er).p.auth, .int .u32 ((bad er).p.key : Nat), .slice db m4 hc] 30))
    have SM9 := Lib.hid (Same_true (Q1.out.below (balloc (brefl K4) (.cells #[.int .i64 (bad er).p.leap, .int .i64 (bad er).p.ver, .int .i64 (bad er).p.mode, .int .i64 (bad er).p.strat, .int .i64 (bad er).p.poll, .int .i64 (bad er).p.prec, .int .u32 ((bad er).p.rd : Nat), .int .u32 ((bad er).p.rs : Nat), .int .u32 ((bad er).p.rid : Nat), .int .u64 ((bad er).p.tref : Nat), .int .u64 ((bad er).p.torg : Nat), .int .u64 ((bad er).p.trec : Nat), .int .u64 ((bad er).p.txm : Nat), .slice fb m3 gc, .int .i64 (bad er).p.auth, .int .u32 ((bad er).p.key : Nat), .slice db m4 hc] 30))) (pm0 _))
    clear D4 Q1
    generalize K4.alloc (.cells #[.int .i64 (bad er).p.leap, .int .i64 (bad er).p.ver, .int .i64 (bad er).p.mode, .int .i64 (bad er).p.strat, .int .i64 (bad er).p.poll, .int .i64 (bad er).p.prec, .int .u32 ((bad er).p.rd : Nat), .int .u32 ((bad er).p.rs : Nat), .int .u32 ((bad er).p.rid : Nat), .int .u64 ((bad er).p.tref : Nat), .int .u64 ((bad er).p.torg : Nat), .int .u64 ((bad er).p.trec : Nat), .int .u64 ((bad er).p.txm : Nat), .slice fb m3 gc, .int .i64 (bad er).p.auth, .int .u32 ((bad er).p.key : Nat), .slice db m4 hc] 30) = K5 at *
    generalize K4.heap.size = b9 at *
    go_upto_region 10 with fail
    go_wp2_with (refine wpList_load_mid rfl 30 _ rfl _ 0 rfl (pvs (bad er).p (.slice fb m3 gc) (.slice db m4 hc)) _ M5.out.range Try.underlying30 rfl (by first | exact info_pk | (rw [hl]; exact info_pk) | (rw [hl1]; exact info_pk)) ?_)
    refine SM9.out.mono ?_
    rintro e K6 ⟨rfl, hb⟩
    have D6 := Lib.hid (bstep D5.out hb)
    clear D5 M5 SM9 hb
    go_wp2_with fail
    go_ret
    exact ⟨rfl, D6.out⟩
set_option maxRecDepth 100000 in
set_option maxHeartbeats 16000000 in
theorem walk_no (p : Pk) (fv dv : Value) (V : Nat → Value) (v : Value) (n : Nat) (f : Nat → Nat) (w : World) (P : Pm w p fv dv V) (A : Arg w v n f) (c : rt p = false) :
    Calls Try.prog 5 #[PV p fv dv, v] w fun e w' => e = .returned (.bool true) ∧ Below w.heap.size w w' := by
  have S0 := A.sb
  have hf : ∀ i, f i < 256 := by obtain ⟨_, _, _, _, _, h, _⟩ := A; exact h
  have hn : n ≤ 140737488351232 := by obtain ⟨_, _, _, h1, h2, _⟩ := A; omega
  obtain ⟨sa, sc, rfl⟩ := S0.form
  have S := Lib.hid S0
  clear A S0
  have PM := Lib.hid P
  obtain ⟨fa, fc, rfl⟩ := P.1.form
  obtain ⟨da, dc, rfl⟩ := P.2.1.form
  clear P
  have AW := fun z => Lib.hid (awake9_c z)
  have B1 := Lib.hid (balloc (brefl w) (.cells #[.int .i64 p.leap, .int .i64 p.ver, .int .i64 p.mode, .int .i64 p.strat, .int .i64 p.poll, .int .i64 p.prec, .int .u32 (p.rd : Nat), .int .u32 (p.rs : Nat), .int .u32 (p.rid : Nat), .int .u64 (p.tref : Nat), .int .u64 (p.torg : Nat), .int .u64 (p.trec : Nat), .int .u64 (p.txm : Nat), .slice fa p.fs.length fc, .int .i64 p.auth, .int .u32 (p.key : Nat), .slice da p.dig.length dc] 30))
  have NP : Hid (Blk (w.alloc (.cells #[.int .i64 p.leap, .int .i64 p.ver, .int .i64 p.mode, .int .i64 p.strat, .int .i64 p.poll, .int .i64 p.prec, .int .u32 (p.rd : Nat), .int .u32 (p.rs : Nat), .int .u32 (p.rid : Nat), .int .u64 (p.tref : Nat), .int .u64 (p.torg : Nat), .int .u64 (p.trec : Nat), .int .u64 (p.txm : Nat), .slice fa p.fs.length fc, .int .i64 p.auth, .int .u32 (p.key : Nat), .slice da p.dig.length dc] 30)) w.heap.size (pvs p (.slice fa p.fs.length fc) (.slice da p.dig.length dc))) := Lib.hid (Blk.new' w #[.int .i64 p.leap, .int .i64 p.ver, .int .i64 p.mode, .int .i64 p.strat, .int .i64 p.poll, .int .i64 p.prec, .int .u32 (p.rd : Nat), .int .u32 (p.rs : Nat), .int .u32 (p.rid : Nat), .int .u64 (p.tref : Nat), .int .u64 (p.torg : Nat), .int .u64 (p.trec : Nat), .int .u64 (p.txm : Nat), .slice fa p.fs.length fc, .int .i64 p.auth, .int .u32 (p.key : Nat), .slice da p.dig.length dc] 30)
  go_enter Try.func5, Try.ntmps5
  go_wp2_with fail
  generalize w.alloc (.cells #[.int .i64 p.leap, .int .i64 p.ver, .int .i64 p.mode, .int .i64 p.strat, .int .i64 p.poll, .int .i64 p.prec, .int .u32 (p.rd : Nat), .int .u32 (p.rs : Nat), .int .u32 (p.rid : Nat), .int .u64 (p.tref : Nat), .int .u64 (p.torg : Nat), .int .u64 (p.trec : Nat), .int .u64 (p.txm : Nat), .slice fa p.fs.length fc, .int .i64 p.auth, .int .u32 (p.key : Nat), .slice da p.dig.length dc] 30) = w1 at *
  refine (AW w1).out.mono ?_
  rintro e w2 ⟨rfl, hb⟩
  have B2 := Lib.hid (bstep B1.out hb)
  have NP2 := Lib.hid (NP.out.below hb)
  clear B1 NP hb AW
  go_upto_region 3 with fail
  have HE : Hid (∀ z, Below w.heap.size w z → Calls Try.prog 9 #[.agg (pvs p (.slice fa p.fs.length fc) (.slice da p.dig.length dc)).toArray] z fun e w' => e = .returned (.tuple #[.slice none 0 0, .int .i64 3]) ∧ Below z.heap.size z w') := Lib.hid (fun z (k : Below w.heap.size w z) => Encode_no (PM.out.below k) c)
  have hl : (pvs p (.slice fa p.fs.length fc) (.slice da p.dig.length dc)).length = 17 := rfl
  clear c
  go_wp2_with (refine wpList_load_mid rfl 30 _ rfl _ 0 rfl (pvs p (.slice fa p.fs.length fc) (.slice da p.dig.length dc)) _ NP2.out.range Try.underlying30 rfl (by first | exact info_pk | (rw [hl]; exact info_pk) | (rw [hl1]; exact info_pk)) ?_)
  refine (HE.out _ B2.out).mono ?_
  rintro e w3 ⟨rfl, hb⟩
  have B3 := Lib.hid (bstep B2.out hb)
  clear HE B2 NP2 hb
  clear PM hl
  have HD8 := Lib.hid (Decode_any (S.out.below B3.out) hn)
  have HP8 := Lib.hid (fun z base fv dv row => @dec_pm f hf n z base fv dv row)
  go_upto_region 8 with fail
  by_cases d : (dec f n).e = 0
  · obtain ⟨q, a, hd⟩ := dec_is0 d
    obtain ⟨g1, g2, g3, _⟩ := enc_dec hf hd
    have HE2 : Hid (∀ z fv dv V, Pm z q fv dv V → Calls Try.prog 9 #[PV q fv dv] z fun e w' => (∃ v, e = .returned (.tuple #[v, .int .i64 0]) ∧ By.Own w' z.heap.size v (enc q)) ∧ Below z.heap.size z w') := Lib.hid (fun z fv dv V k => Encode_yes k g1)
    have HC2 : Hid (∀ z fv dv V, Pm z q fv dv V → Calls Try.prog 11 #[PV q fv dv] z fun e w' => e = .returned (.int .i64 0) ∧ Below z.heap.size z w') := Lib.hid (fun z fv dv V k => by rw [← chk_yes g1]; exact Check_c k)
    have BY2 := Lib.hid (enc_byte (rt_cut g1).1 g2)
    have EB := Lib.hid g3
    rw [hd] at HD8 HP8
    clear d hd g1 g2 g3
    go_wp2_with fail
    refine HD8.out.mono ?_
    rintro e K4 ⟨⟨fv, dv, row, rfl, r1, o1⟩, hb⟩
    obtain ⟨V2, Q1⟩ := HP8.out _ _ _ _ _ r1 o1
    obtain ⟨fb, m3, gc, ef⟩ : ∃ a m c, fv = .slice a m c := (ownF_form r1.2.1).elim fun a h => h.elim fun c h => ⟨a, _, c, h⟩
    obtain ⟨db, m4, hc, ed⟩ : ∃ a m c, dv = .slice a m c := (own_form o1).elim fun a h => h.elim fun c h => ⟨a, _, c, h⟩
    subst ef ed
    have Q1 : Hid (Pm K4 q _ _ V2) := Lib.hid Q1
    have D4 := Lib.hid (bstep B3.out hb)
    clear HD8 HP8 B3 r1 o1 hb
    go_upto_region 9 with fail
    have M5 : Hid (Blk (K4.alloc (.cells #[.int .i64 q.leap, .int .i64 q.ver, .int .i64 q.mode, .int .i64 q.strat, .int .i64 q.poll, .int .i64 q.prec, .int .u32 (q.rd : Nat), .int .u32 (q.rs : Nat), .int .u32 (q.rid : Nat), .int .u64 (q.tref : Nat), .int .u64 (q.torg : Nat), .int .u64 (q.trec : Nat), .int .u64 (q.txm : Nat), .slice fb m3 gc, .int .i64 q.auth, .int .u32 (q.key : Nat), .slice db m4 hc] 30)) K4.heap.size (pvs q (.slice fb m3 gc) (.slice db m4 hc))) := Lib.hid (Blk.new' K4 #[.int .i64 q.leap, .int .i64 q.ver, .int .i64 q.mode, .int .i64 q.strat, .int .i64 q.poll, .int .i64 q.prec, .int .u32 (q.rd : Nat), .int .u32 (q.rs : Nat), .int .u32 (q.rid : Nat), .int .u64 (q.tref : Nat), .int .u64 (q.torg : Nat), .int .u64 (q.trec : Nat), .int .u64 (q.txm : Nat), .slice fb m3 gc, .int .i64 q.auth, .int .u32 (q.key : Nat), .slice db m4 hc] 30)
    have D5 := Lib.hid (balloc D4.out (.cells #[.int .i64 q.leap, .int .i64 q.ver, .int .i64 q.mode, .int .i64 q.strat, .int .i64 q.poll, .int .i64 q.prec, .int .u32 (q.rd : Nat), .int .u32 (q.rs : Nat), .int .u32 (q.rid : Nat), .int .u64 (q.tref : Nat), .int .u64 (q.torg : Nat), .int .u64 (q.trec : Nat), .int .u64 (q.txm : Nat), .slice fb m3 gc, .int .i64 q.auth, .int .u32 (q.key : Nat), .slice db m4 hc] 30))
    have Q5 := Lib.hid (Q1.out.below (balloc (brefl K4) (.cells #[.int .i64 q.leap, .int .i64 q.ver, .int .i64 q.mode, .int .i64 q.strat, .int .i64 q.poll, .int .i64 q.prec, .int .u32 (q.rd : Nat), .int .u32 (q.rs : Nat), .int .u32 (q.rid : Nat), .int .u64 (q.tref : Nat), .int .u64 (q.torg : Nat), .int .u64 (q.trec : Nat), .int .u64 (q.txm : Nat), .slice fb m3 gc, .int .i64 q.auth, .int .u32 (q.key : Nat), .slice db m4 hc] 30)))
    clear D4 Q1
    generalize K4.alloc (.cells #[.int .i64 q.leap, .int .i64 q.ver, .int .i64 q.mode, .int .i64 q.strat, .int .i64 q.poll, .int .i64 q.prec, .int .u32 (q.rd : Nat), .int .u32 (q.rs : Nat), .int .u32 (q.rid : Nat), .int .u64 (q.tref : Nat), .int .u64 (q.torg : Nat), .int .u64 (q.trec : Nat), .int .u64 (q.txm : Nat), .slice fb m3 gc, .int .i64 q.auth, .int .u32 (q.key : Nat), .slice db m4 hc] 30) = K5 at *
    generalize K4.heap.size = b9 at *
    go_upto_region 11 with fail
    go_wp2_with (refine wpList_load_mid rfl 30 _ rfl _ 0 rfl (pvs q (.slice fb m3 gc) (.slice db m4 hc)) _ M5.out.range Try.underlying30 rfl (by first | exact info_pk | (rw [hl]; exact info_pk) | (rw [hl1]; exact info_pk)) ?_)
    refine (HE2.out _ _ _ _ Q5.out).mono ?_
    rintro e K6 ⟨⟨v2, rfl, o2⟩, hb⟩
    obtain ⟨a2, c2, e2⟩ := own_form o2
    subst e2
    have D6 := Lib.hid (bstep D5.out hb)
    have Q6 := Lib.hid (Q5.out.below hb)
    have M6 := Lib.hid (M5.out.below hb)
    have C1 : (convert 28 9 (.slice a2 (enc q).length c2)).run Try.prog K6 = .ok (.string (bs8 (bl f n))) K6 := by
      have h := ((own_out o2 BY2.out).sb).conv (brefl _)
      rw [bl_getD] at h
      rw [← EB.out]
      exact h
    have C2 := S.out.conv D6.out
    have HC3 := Lib.hid (HC2.out _ _ _ _ Q6.out)
    clear HE2 HC2 BY2 EB D5 Q5 M5 o2 hb Q6
    generalize (enc q).length = m9 at *
    generalize bs8 (bl f n) = SB at *
    go_upto_region 12 with fail
    go_wp2_with (refine load_mid_g rfl 30 _ rfl _ 0 rfl (pvs q (.slice fb m3 gc) (.slice db m4 hc)) _ M6.out.range Try.underlying30 rfl (by first | exact info_pk | (rw [hl]; exact info_pk) | (rw [hl1]; exact info_pk)) ?_)
    refine HC3.out.mono ?_
    rintro e K7 ⟨rfl, hb⟩
    have D7 := Lib.hid (bstep D6.out hb)
    clear hb HC3 D6 M6 C1 C2
    go_wp2_with fail
    go_ret
    exact ⟨rfl, D7.out⟩
  · have hd : dec f n = bad (dec f n).e := by
      rcases dec_err f n with h | ⟨_, h⟩
      · exact absurd h d
      · exact h
    have ed : ((dec f n).e != 0) = true := by simpa using d
    generalize (dec f n).e = er at *
    rw [hd] at HD8 HP8
    clear hd d
    go_wp2_with fail
    refine HD8.out.mono ?_
    rintro e K4 ⟨⟨fv, dv, row, rfl, r1, o1⟩, hb⟩
    obtain ⟨V2, Q1⟩ := HP8.out _ _ _ _ _ r1 o1
    obtain ⟨fb, m3, gc, ef⟩ : ∃ a m c, fv = .slice a m c := (ownF_form r1.2.1).elim fun a h => h.elim fun c h => ⟨a, _, c, h⟩
    obtain ⟨db, m4, hc, ed2⟩ : ∃ a m c, dv = .slice a m c := (own_form o1).elim fun a h => h.elim fun c h => ⟨a, _, c, h⟩
    subst ef ed2
    have Q1 : Hid (Pm K4 (bad er).p _ _ V2) := Lib.hid Q1
    have D4 := Lib.hid (bstep B3.out hb)
    have ed : ((bad er).e != 0) = true := ed
    clear HD8 HP8 B3 r1 o1 hb
    go_upto_region 9 with fail
    have M5 : Hid (Blk (K4.alloc (.cells #[.int .i64 (bad er).p.leap, .int .i64 (bad er).p.ver, .int .i64 (bad er).p.mode, .int .i64 (bad er).p.strat, .int .i64 (bad er).p.poll, .int .i64 (bad er).p.prec, .int .u32 ((bad er).p.rd : Nat), .int .u32 ((bad er).p.rs : Nat), .int .u32 ((bad er).p.rid : Nat), .int .u64 ((bad er).p.tref : Nat), .int .u64 ((bad er).p.torg : Nat), .int .u64 ((bad er).p.trec : Nat), .int .u64 ((bad er).p.txm : Nat), .slice fb m3 gc, .int .i64 (bad er).p.auth, .int .u32 ((bad er).p.key : Nat), .slice db m4 hc] 30)) K4.heap.size (pvs (bad er).p (.slice fb m3 gc) (.slice db m4 hc))) := Lib.hid (Blk.new' K4 #[.int .i64 (bad er).p.leap, .int .i64 (bad er).p.ver, .int .i64 (bad er).p.mode, .int .i64 (bad er).p.strat, .int .i64 (bad er).p.poll, .int .i64 (bad er).p.prec, .int .u32 ((bad er).p.rd : Nat), .int .u32 ((bad er).p.rs : Nat), .int .u32 ((bad er).p.rid : Nat), .int .u64 ((bad er).p.tref : Nat), .int .u64 ((bad er).p.torg : Nat), .int .u64 ((bad er).p.trec : Nat), .int .u64 ((bad er).p.txm : Nat), .slice fb m3 gc, .int .i64 (bad er).p.auth, .int .u32 ((bad er).p.key : Nat), .slice db m4 hc] 30)
    have D5 := Lib.hid (balloc D4.out (.cells #[.int .i64 (bad er).p.leap, .int .i64 (bad er).p.ver, .int .i64 (bad er).p.mode, .int .i64 (bad er).p.strat, .int .i64 (bad er).p.poll, .int .i64 (bad er).p.prec, .int .u32 ((bad er).p.rd : Nat), .int .u32 ((bad er).p.rs : Nat), .int .u32 ((bad er).p.rid : Nat), .int .u64 ((bad er).p.tref : Nat), .int .u64 ((bad er).p.torg : Nat), .int .u64 ((bad er).p.trec : Nat), .int .u64 ((bad er).p.txm : Nat), .slice fb m3 gc, .int .i64 (bad er).p.auth, .int .u32 ((bad er).p.key : Nat), .slice db m4 hc] 30))
    have SM9 := Lib.hid (Same_true (Q1.out.below (balloc (brefl K4) (.cells #[.int .i64 (bad er).p.leap, .int .i64 (bad er).p.ver, .int .i64 (bad er).p.mode, .int .i64 (bad er).p.strat, .int .i64 (bad er).p.poll, .int .i64 (bad er).p.prec, .int .u32 ((bad er).p.rd : Nat), .int .u32 ((bad er).p.rs : Nat), .int .u32 ((bad er).p.rid : Nat), .int .u64 ((bad er).p.tref : Nat), .int .u64 ((bad er).p.torg : Nat), .int .u64 ((bad er).p.trec : Nat), .int .u64 ((bad er).p.txm : Nat), .slice fb m3 gc, .int .i64 (bad er).p.auth, .int .u32 ((bad er).p.key : Nat), .slice db m4 hc] 30))) (pm0 _))
    clear D4 Q1
    generalize K4.alloc (.cells #[.int .i64 (bad er).p.leap, .int .i64 (bad er).p.ver, .int .i64 (bad er).p.mode, .int .i64 (bad er).p.strat, .int .i64 (bad er).p.poll, .int .i64 (bad er).p.prec, .int .u32 ((bad er).p.rd : Nat), .int .u32 ((bad er).p.rs : Nat), .int .u32 ((bad er).p.rid : Nat), .int .u64 ((bad er).p.tref : Nat), .int .u64 ((bad er).p.torg : Nat), .int .u64 ((bad er).p.trec : Nat), .int .u64 ((bad er).p.txm : Nat), .slice fb m3 gc, .int .i64 (bad er).p.auth, .int .u32 ((bad er).p.key : Nat), .slice db m4 hc] 30) = K5 at *
    generalize K4.heap.size = b9 at *
    go_upto_region 10 with fail
    go_wp2_with (refine wpList_load_mid rfl 30 _ rfl _ 0 rfl (pvs (bad er).p (.slice fb m3 gc) (.slice db m4 hc)) _ M5.out.range Try.underlying30 rfl (by first | exact info_pk | (rw [hl]; exact info_pk) | (rw [hl1]; exact info_pk)) ?_)
    refine SM9.out.mono ?_
    rintro e K6 ⟨rfl, hb⟩
    have D6 := Lib.hid (bstep D5.out hb)
    clear D5 M5 SM9 hb
    go_wp2_with fail
    go_ret
    exact ⟨rfl, D6.out⟩
theorem walk (p : Pk) (fv dv : Value) (V : Nat → Value) (v : Value) (n : Nat) (f : Nat → Nat) (w : World) (P : Pm w p fv dv V) (A : Arg w v n f) :
    Calls Try.prog 5 #[PV p fv dv, v] w fun e w' => e = .returned (.bool true) ∧ Below w.heap.size w w' := by
  cases c : rt p with
  | true => exact walk_yes p fv dv V v n f w P A c
  | false => exact walk_no p fv dv V v n f w P A c
set_option maxRecDepth 100000 in
theorem lifted (os : Os) (started : os.Started) (H : Type) (enc : TypeId × Value → H) :
    ReturnsInHanded {} Try.checked os 5 .any (Rows.wireBackSpec.pre6 enc Try.prog Try.f5 Rows.wireBackRow.domain false) (Rows.wireBackSpec.post enc Try.prog Try.f5 false true false false) := by
  refine returnsInHanded_of_change_sized (C := Try.checked) own started (by kernel_rfl) Try.func5
    (ChangeSpec.witness6 (enc := enc) (C := Try.checked) false ⟨#[], #[.agg #[.int .i64 0, .int .i64 0, .int .i64 0, .int .i64 0, .int .i64 0, .int .i64 0, .int .u32 0, .int .u32 0, .int .u32 0, .int .u64 0, .int .u64 0, .int .u64 0, .int .u64 0, .slice none 0 0, .int .i64 0, .int .u32 0, .slice none 0 0], .slice none 0 0], []⟩ 8 (by kernel_rfl) (by kernel_rfl) (by kernel_rfl) (by kernel_rfl)) ?_
  intro W base args ds gs before hval0 hW hcnd hsz0 _
  have hsz : (DataW.weightsEach Try.prog (Try.f5.params.toList ++ Rows.wireBackSpec.plain.varTypes Try.prog) (ds ++ gs)).all (· ≤ reachBytes) = true := hsz0
  have hval : ∀ (j : Nat) t v, Try.f5.params[j]? = some t → args[j]? = some v → Value.okWide Try.prog W .any base t v := hval0
  have hW' := hW
  obtain ⟨p, q, hA0, hV, rfl, hfz, hnd⟩ := hW
  have hA : DataW.TrodAll enc Try.prog W 0 (fun _ => true) true Try.f5.params.toList args.toList ds p := hA0
  rw [Try.params5] at hA hval hsz
  obtain ⟨v0, vs0, d0, ds0, p0, q0, hargs, rfl, rfl, h0, r0⟩ := trodAll_cons hA
  obtain ⟨v1, vs1, d1, ds1, p1, q1, rfl, rfl, rfl, h1, r1⟩ := trodAll_cons r0
  obtain ⟨rfl, rfl, rfl⟩ := trodAll_nil r1
  obtain rfl : args = #[v0, v1] := by cases args; simp_all
  obtain ⟨rfl, rfl⟩ := trodVars_none hV
  have h0k := h0
  have hlt0 : ∀ x ∈ p0, x.block < W.heap.size := fun x hx => by have := hW'.lt x (by simp [hx]); simpa using this
  have hb0 : ∀ y ∈ DataW.weights Try.prog 30 d0, y ≤ reachBytes := fun y hy => by
    have := List.all_eq_true.1 hsz y (DataW.weights_mem_each (j := 0) rfl rfl y hy)
    simpa using this
  have h1k := h1
  have hlt1 : ∀ x ∈ p1, x.block < W.heap.size := fun x hx => by have := hW'.lt x (by simp [hx]); simpa using this
  have hb1 : ∀ es sp, d1 = .slice es sp → (es.length + sp.length) * Try.prog.bytesOf 5 ≤ reachBytes := by
    intro es sp he
    exact sized_slice hsz (j := 1) (t := 28) (e := 5) rfl (by rw [he]; rfl) Try.underlying28
  obtain ⟨pk0, fv0, dv0, V0, rfl, g0⟩ := open_pk (hval 0 30 v0 rfl rfl) h0 hb0
  obtain ⟨n1, f1, g1⟩ := open_bytes (hval 1 28 v1 rfl rfl) h1 hb1
  clear hA0 hval0
  simp only [List.append_nil] at hW'
  refine (walk pk0 fv0 dv0 V0 v1 n1 f1 W g0 g1).mono fun e W' ⟨he, hg⟩ => ?_
  subst he
  exact ⟨_, rfl, _, _, _, [], _, [], hW', trodAll_cons_mk (shut_bool Try.underlying4 _) trodAll_mk0,
    (trodAll_cons_mk (Below.trod laidOut (by kernel_rfl) (of_decide_eq_true (by kernel_rfl)) h0k hg hlt0) (trodAll_cons_mk (Below.trod laidOut (by kernel_rfl) (of_decide_eq_true (by kernel_rfl)) h1k hg hlt1) trodAll_mk0)), rfl, hg.frame _, fun h => nomatch h⟩

theorem over : Rows.wireBackRow.holds Try.pinned (OpenSpec.ofChange Rows.wireBackSpec) :=
  OpenClaim.holds_of_wide 5 Try.f5 rfl rfl rfl rfl rfl rfl rfl ⟨rfl, rfl, rfl, rfl, rfl⟩ rfl rfl rfl rfl rfl (by kernel_rfl) Try.func5 (by kernel_rfl)
    (of_decide_eq_true (by kernel_rfl)) (by unfold Func.isWrapper; first | (rw [if_pos (by decide +kernel)]; kernel_rfl) | (rw [if_neg (by decide +kernel)]; exact ⟨rfl, rfl⟩))
    (fun os started H enc _ => lifted os started H enc)

theorem proved : Rows.WireBackSaid :=
  over
end Go.Proofs.Ytmjbnbjkpimjmaa.wireBack
