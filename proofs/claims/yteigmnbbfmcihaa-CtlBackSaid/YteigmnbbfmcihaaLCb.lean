/-
  CtlBack: Frames and bytes are one to one. The law returns true for every input, and the input reads as it did.
  Conditions: none.
-/
import Derived.Test.YteigmnbbfmcihaaRows
import Derived.Test.YteigmnbbfmcihaaCtM
import Derived.SizedLaws
import Derived.Lib.SmallJoins
namespace Go.Proofs.Yteigmnbbfmcihaa.ctlBack
open Go.ChangeShapes Go.WideShapes Go.ChangeAt Go.RowKit Go.Joins By Ct
set_option linter.unusedVariables false
set_option linter.unusedSimpArgs false

theorem own : ownKnob Try.prog.godebug = none := by kernel_rfl
theorem laidOut : laidOutB Try.prog = true := by kernel_rfl
theorem fm0 (w : World) : Fm w fr0 (.slice none 0 0) := nil_sl w
set_option maxRecDepth 100000 in
set_option maxHeartbeats 16000000 in
theorem walk (f : Fr) (dv : Value) (v : Value) (n : Nat) (g : Nat → Nat) (w : World) (P : Fm w f dv) (A : Arg w v n g) :
    Calls Try.prog 5 #[FV f dv, v] w fun e w' => e = .returned (.bool true) ∧ Below w.heap.size w w' := by
  have S0 := A.sb
  have hg : ∀ i, g i < 256 := by obtain ⟨_, _, _, _, _, h, _⟩ := A; exact h
  have hn : n ≤ 140737488351232 := by obtain ⟨_, _, _, h1, h2, _⟩ := A; omega
  obtain ⟨sa, sc, rfl⟩ := S0.form
  have S := Lib.hid S0
  clear A S0
  obtain ⟨da, dc, rfl⟩ := P.form
  have PM := Lib.hid P
  have AW := fun z => Lib.hid (awake10_c z)
  have B1 := Lib.hid (balloc (brefl w) (.cells #[.int .i64 f.ver, .bool f.resp, .bool f.er, .bool f.more, .int .i64 f.op, .int .i64 f.seq, .int .i64 f.st, .int .i64 f.asc, .int .i64 f.off, (.slice da f.dat.length dc)] 24))
  have NP : Hid (Blk (w.alloc (.cells #[.int .i64 f.ver, .bool f.resp, .bool f.er, .bool f.more, .int .i64 f.op, .int .i64 f.seq, .int .i64 f.st, .int .i64 f.asc, .int .i64 f.off, (.slice da f.dat.length dc)] 24)) w.heap.size (fvs f (.slice da f.dat.length dc))) := Lib.hid (Blk.new' w #[.int .i64 f.ver, .bool f.resp, .bool f.er, .bool f.more, .int .i64 f.op, .int .i64 f.seq, .int .i64 f.st, .int .i64 f.asc, .int .i64 f.off, (.slice da f.dat.length dc)] 24)
  have HE : Hid (∀ z, Below w.heap.size w z → Calls Try.prog 9 #[.agg (fvs f (.slice da f.dat.length dc)).toArray] z fun e w' => PEnc f z e w') := Lib.hid (fun z k => Encode_any (P.below k))
  have BY := Lib.hid (el_byte P.2.1)
  clear P
  go_enter Try.func5, Try.ntmps5
  go_wp2_with fail
  generalize w.alloc (.cells #[.int .i64 f.ver, .bool f.resp, .bool f.er, .bool f.more, .int .i64 f.op, .int .i64 f.seq, .int .i64 f.st, .int .i64 f.asc, .int .i64 f.off, (.slice da f.dat.length dc)] 24) = w1 at *
  refine (AW w1).out.mono ?_
  rintro e w2 ⟨rfl, hb⟩
  have B2 := Lib.hid (bstep B1.out hb)
  have NP2 := Lib.hid (NP.out.below hb)
  clear B1 NP hb AW
  go_upto_region 3 with fail
  go_wp2_with (refine wpList_load_mid rfl 24 _ rfl _ 0 rfl (fvs f (.slice da f.dat.length dc)) _ NP2.out.range Try.underlying24 rfl (by rw [fvs_len]; exact info_fr) ?_)
  refine (HE.out _ B2.out).mono ?_
  rintro e w3 ⟨⟨v1, rfl, o1⟩, hb⟩
  obtain ⟨a1, c1, rfl⟩ := own_form o1
  have B3 := Lib.hid (bstep B2.out hb)
  have NP3 := Lib.hid (NP2.out.below hb)
  have O1 := Lib.hid ((own_out o1 BY.out).sb)
  clear HE B2 NP2 o1 hb
  cases c : okFr f with
  | false =>
    rw [show ee f = 3 by unfold ee; rw [c]; rfl]
    clear c O1 NP3 PM BY
    generalize (el f).length = ml at *
    go_wp2_with fail
    have HDb := Lib.hid (Decode_any (S.out.below B3.out) hn)
    have HFb := Lib.hid (fun z base dv => @dec_fm g hg n z base dv)
    unfold PDec at HDb
    by_cases d : derr g n = 0
    · obtain ⟨k1, k2, k3, k4, k5⟩ := enc_dec hg d
      rw [dfr_yes d, d] at HDb
      rw [dfr_yes d] at HFb
      have HE2 : Hid (∀ z dv, Fm z (frAt g) dv → Calls Try.prog 9 #[FV (frAt g) dv] z fun e w' => (∃ v, e = .returned (.tuple #[v, .int .i64 0]) ∧ Own w' z.heap.size v (bl g n)) ∧ Below z.heap.size z w') := Lib.hid (fun z dv h => by rw [← k2]; exact Encode_yes h k1)
      clear k1 k2 k3 k4 k5 d
      generalize frAt g = q at *
      go_upto_region 8 with fail
      go_wp2_with fail
      refine HDb.out.mono ?_
      rintro e x4 ⟨⟨v4, rfl, o4⟩, hb⟩
      have F4 := HFb.out _ _ _ o4
      obtain ⟨ga, gc, rfl⟩ := own_form o4
      have D4 := Lib.hid (bstep B3.out hb)
      clear HDb HFb B3 o4 hb
      generalize q.dat.length = m9 at *
      go_upto_region 9 with fail
      have M5 : Hid (Blk (x4.alloc (.cells #[.int .i64 q.ver, .bool q.resp, .bool q.er, .bool q.more, .int .i64 q.op, .int .i64 q.seq, .int .i64 q.st, .int .i64 q.asc, .int .i64 q.off, (.slice ga m9 gc)] 24)) x4.heap.size (fvs q (.slice ga m9 gc))) := Lib.hid (Blk.new' x4 #[.int .i64 q.ver, .bool q.resp, .bool q.er, .bool q.more, .int .i64 q.op, .int .i64 q.seq, .int .i64 q.st, .int .i64 q.asc, .int .i64 q.off, (.slice ga m9 gc)] 24)
      have F5 := Lib.hid (F4.below (balloc (brefl x4) (.cells #[.int .i64 q.ver, .bool q.resp, .bool q.er, .bool q.more, .int .i64 q.op, .int .i64 q.seq, .int .i64 q.st, .int .i64 q.asc, .int .i64 q.off, (.slice ga m9 gc)] 24)))
      have D5 := Lib.hid (balloc D4.out (.cells #[.int .i64 q.ver, .bool q.resp, .bool q.er, .bool q.more, .int .i64 q.op, .int .i64 q.seq, .int .i64 q.st, .int .i64 q.asc, .int .i64 q.off, (.slice ga m9 gc)] 24))
      clear D4 F4
      generalize x4.alloc (.cells #[.int .i64 q.ver, .bool q.resp, .bool q.er, .bool q.more, .int .i64 q.op, .int .i64 q.seq, .int .i64 q.st, .int .i64 q.asc, .int .i64 q.off, (.slice ga m9 gc)] 24) = x5 at *
      generalize x4.heap.size = b9 at *
      have HE3 : Hid (Calls Try.prog 9 #[.agg (fvs q (.slice ga m9 gc)).toArray] x5 fun e w' => (∃ v, e = .returned (.tuple #[v, .int .i64 0]) ∧ Own w' x5.heap.size v (bl g n)) ∧ Below x5.heap.size x5 w') := Lib.hid (HE2.out _ _ F5.out)
      clear HE2 F5
      go_upto_region 11 with fail
      go_wp2_with (refine wpList_load_mid rfl 24 _ rfl _ 0 rfl (fvs q (.slice ga m9 gc)) _ M5.out.range Try.underlying24 rfl (by rw [fvs_len]; exact info_fr) ?_)
      refine HE3.out.mono ?_
      rintro e x6 ⟨⟨v2, rfl, o2⟩, hb⟩
      obtain ⟨a2, c2, e2⟩ := own_form o2
      rw [bl_len] at e2
      subst e2
      have D6 := Lib.hid (bstep D5.out hb)
      have C1 : (convert 22 9 (.slice a2 n c2)).run Try.prog x6 = .ok (.string (bs8 (bl g n))) x6 := by
        have h := ((own_out o2 (bl_byte fun i _ => hg i)).sb).conv (brefl _)
        rwa [bl_getD] at h
      have C2 := S.out.conv D6.out
      clear HE3 D5 M5 o2 hb
      generalize bs8 (bl g n) = SB at *
      go_wp2_with fail
      go_ret
      exact ⟨rfl, D6.out⟩
    · have ed : (derr g n != 0) = true := by simpa using d
      rw [dfr_no d] at HDb HFb
      generalize derr g n = er at *
      clear d
      go_upto_region 8 with fail
      go_wp2_with fail
      refine HDb.out.mono ?_
      rintro e x4 ⟨⟨v4, rfl, o4⟩, hb⟩
      have F4 := HFb.out _ _ _ o4
      obtain ⟨ga, gc, rfl⟩ := own_form o4
      have D4 := Lib.hid (bstep B3.out hb)
      clear HDb HFb B3 o4 hb
      go_upto_region 9 with fail
      have M5 : Hid (Blk (x4.alloc (.cells #[.int .i64 fr0.ver, .bool fr0.resp, .bool fr0.er, .bool fr0.more, .int .i64 fr0.op, .int .i64 fr0.seq, .int .i64 fr0.st, .int .i64 fr0.asc, .int .i64 fr0.off, (.slice ga fr0.dat.length gc)] 24)) x4.heap.size (fvs fr0 (.slice ga fr0.dat.length gc))) := Lib.hid (Blk.new' x4 #[.int .i64 fr0.ver, .bool fr0.resp, .bool fr0.er, .bool fr0.more, .int .i64 fr0.op, .int .i64 fr0.seq, .int .i64 fr0.st, .int .i64 fr0.asc, .int .i64 fr0.off, (.slice ga fr0.dat.length gc)] 24)
      have SM : Hid (Calls Try.prog 13 #[.agg (fvs fr0 (.slice ga fr0.dat.length gc)).toArray, FV fr0 (.slice none 0 0)] (x4.alloc (.cells #[.int .i64 fr0.ver, .bool fr0.resp, .bool fr0.er, .bool fr0.more, .int .i64 fr0.op, .int .i64 fr0.seq, .int .i64 fr0.st, .int .i64 fr0.asc, .int .i64 fr0.off, (.slice ga fr0.dat.length gc)] 24)) fun e w' => e = .returned (.bool true) ∧ Below (x4.alloc (.cells #[.int .i64 fr0.ver, .bool fr0.resp, .bool fr0.er, .bool fr0.more, .int .i64 fr0.op, .int .i64 fr0.seq, .int .i64 fr0.st, .int .i64 fr0.asc, .int .i64 fr0.off, (.slice ga fr0.dat.length gc)] 24)).heap.size (x4.alloc (.cells #[.int .i64 fr0.ver, .bool fr0.resp, .bool fr0.er, .bool fr0.more, .int .i64 fr0.op, .int .i64 fr0.seq, .int .i64 fr0.st, .int .i64 fr0.asc, .int .i64 fr0.off, (.slice ga fr0.dat.length gc)] 24)) w') := Lib.hid (Same_true (F4.below (balloc (brefl x4) (.cells #[.int .i64 fr0.ver, .bool fr0.resp, .bool fr0.er, .bool fr0.more, .int .i64 fr0.op, .int .i64 fr0.seq, .int .i64 fr0.st, .int .i64 fr0.asc, .int .i64 fr0.off, (.slice ga fr0.dat.length gc)] 24))) (fm0 _))
      have D5 := Lib.hid (balloc D4.out (.cells #[.int .i64 fr0.ver, .bool fr0.resp, .bool fr0.er, .bool fr0.more, .int .i64 fr0.op, .int .i64 fr0.seq, .int .i64 fr0.st, .int .i64 fr0.asc, .int .i64 fr0.off, (.slice ga fr0.dat.length gc)] 24))
      clear D4 F4
      generalize x4.alloc (.cells #[.int .i64 fr0.ver, .bool fr0.resp, .bool fr0.er, .bool fr0.more, .int .i64 fr0.op, .int .i64 fr0.seq, .int .i64 fr0.st, .int .i64 fr0.asc, .int .i64 fr0.off, (.slice ga fr0.dat.length gc)] 24) = x5 at *
      generalize x4.heap.size = b9 at *
      go_upto_region 10 with fail
      go_wp2_with (refine wpList_load_mid rfl 24 _ rfl _ 0 rfl (fvs fr0 (.slice ga fr0.dat.length gc)) _ M5.out.range Try.underlying24 rfl (by rw [fvs_len]; exact info_fr) ?_)
      refine SM.out.mono ?_
      rintro e x6 ⟨rfl, hb⟩
      have D6 := Lib.hid (bstep D5.out hb)
      clear D5 M5 SM hb
      go_wp2_with fail
      go_ret
      exact ⟨rfl, D6.out⟩
  | true =>
    rw [show ee f = 0 by unfold ee; rw [if_pos c]]
    have he : el f = enc f := by unfold el; rw [if_pos c]
    obtain ⟨d1, d2⟩ := dec_enc c
    rw [he] at O1
    have HL : (enc f).length % 4 = 0 := by rw [enc_len]; omega
    have HLE : (enc f).length ≤ 1024 := by rw [enc_len]; have := (okFr_cut c).2.2.2.2.2.2; omega
    have HDa := Lib.hid (Decode_any O1.out (by omega))
    unfold PDec at HDa
    rw [d1, d2] at HDa
    rw [he]
    obtain ⟨ml, hml⟩ : ∃ ml, (enc f).length = ml := ⟨_, rfl⟩
    rw [hml] at HDa HL HLE O1
    rw [hml]
    have ql : (ml : Int).tmod 4 = (ml : Int) % 4 := Int.tmod_eq_emod_of_nonneg (by omega)
    have el0 : ((ml : Int) % 4 != 0) = false := by simp; omega
    have l0 : (0 : Int) ≤ (ml : Int) := by omega
    have l1 : (ml : Int) ≤ 1024 := by omega
    clear c he d1 d2 hml BY
    go_upto_region 5 with fail
    go_wp2_with fail
    refine HDa.out.mono ?_
    rintro e w4 ⟨⟨v3, rfl, o3⟩, hb⟩
    have F4 : Fm w4 f v3 := out_sl (own_out o3 PM.out.2.1) PM.out.1
    obtain ⟨fa, fc, rfl⟩ := own_form o3
    have B4 := Lib.hid (bstep B3.out hb)
    have NP4 := Lib.hid (NP3.out.below hb)
    clear HDa o3 hb B3 NP3 O1
    generalize hm : f.dat.length = m at *
    go_upto_region 6 with fail
    have N5 := Lib.hid (NP4.out.below (balloc (brefl w4) (.cells #[.int .i64 f.ver, .bool f.resp, .bool f.er, .bool f.more, .int .i64 f.op, .int .i64 f.seq, .int .i64 f.st, .int .i64 f.asc, .int .i64 f.off, (.slice fa m fc)] 24)))
    have M5 : Hid (Blk (w4.alloc (.cells #[.int .i64 f.ver, .bool f.resp, .bool f.er, .bool f.more, .int .i64 f.op, .int .i64 f.seq, .int .i64 f.st, .int .i64 f.asc, .int .i64 f.off, (.slice fa m fc)] 24)) w4.heap.size (fvs f (.slice fa m fc))) := Lib.hid (Blk.new' w4 #[.int .i64 f.ver, .bool f.resp, .bool f.er, .bool f.more, .int .i64 f.op, .int .i64 f.seq, .int .i64 f.st, .int .i64 f.asc, .int .i64 f.off, (.slice fa m fc)] 24)
    have B5 := Lib.hid (balloc B4.out (.cells #[.int .i64 f.ver, .bool f.resp, .bool f.er, .bool f.more, .int .i64 f.op, .int .i64 f.seq, .int .i64 f.st, .int .i64 f.asc, .int .i64 f.off, (.slice fa m fc)] 24))
    have SM : Hid (Calls Try.prog 13 #[.agg (fvs f (.slice da m dc)).toArray, .agg (fvs f (.slice fa m fc)).toArray] (w4.alloc (.cells #[.int .i64 f.ver, .bool f.resp, .bool f.er, .bool f.more, .int .i64 f.op, .int .i64 f.seq, .int .i64 f.st, .int .i64 f.asc, .int .i64 f.off, (.slice fa m fc)] 24)) fun e w' => e = .returned (.bool true) ∧ Below (w4.alloc (.cells #[.int .i64 f.ver, .bool f.resp, .bool f.er, .bool f.more, .int .i64 f.op, .int .i64 f.seq, .int .i64 f.st, .int .i64 f.asc, .int .i64 f.off, (.slice fa m fc)] 24)).heap.size (w4.alloc (.cells #[.int .i64 f.ver, .bool f.resp, .bool f.er, .bool f.more, .int .i64 f.op, .int .i64 f.seq, .int .i64 f.st, .int .i64 f.asc, .int .i64 f.off, (.slice fa m fc)] 24)) w') := Lib.hid (Same_true (PM.out.below B5.out) (F4.below (balloc (brefl w4) (.cells #[.int .i64 f.ver, .bool f.resp, .bool f.er, .bool f.more, .int .i64 f.op, .int .i64 f.seq, .int .i64 f.st, .int .i64 f.asc, .int .i64 f.off, (.slice fa m fc)] 24))))
    clear B4 NP4 F4
    generalize w4.alloc (.cells #[.int .i64 f.ver, .bool f.resp, .bool f.er, .bool f.more, .int .i64 f.op, .int .i64 f.seq, .int .i64 f.st, .int .i64 f.asc, .int .i64 f.off, (.slice fa m fc)] 24) = w5 at *
    generalize w4.heap.size = b4 at *
    go_wp2_with (first | (refine load_mid_g rfl 24 _ rfl _ 0 rfl (fvs f (.slice da m dc)) _ N5.out.range Try.underlying24 rfl (by rw [fvs_len]; exact info_fr) ?_) | (refine load_mid_g rfl 24 _ rfl _ 0 rfl (fvs f (.slice fa m fc)) _ M5.out.range Try.underlying24 rfl (by rw [fvs_len]; exact info_fr) ?_))
    refine SM.out.mono ?_
    rintro e w6 ⟨rfl, hb⟩
    have B6 := Lib.hid (bstep B5.out hb)
    clear SM hb B5 N5 M5 PM
    go_upto_region 8 with fail
    have HDb := Lib.hid (Decode_any (S.out.below B6.out) hn)
    have HFb := Lib.hid (fun z base dv => @dec_fm g hg n z base dv)
    unfold PDec at HDb
    by_cases d : derr g n = 0
    · obtain ⟨k1, k2, k3, k4, k5⟩ := enc_dec hg d
      rw [dfr_yes d, d] at HDb
      rw [dfr_yes d] at HFb
      have HE2 : Hid (∀ z dv, Fm z (frAt g) dv → Calls Try.prog 9 #[FV (frAt g) dv] z fun e w' => (∃ v, e = .returned (.tuple #[v, .int .i64 0]) ∧ Own w' z.heap.size v (bl g n)) ∧ Below z.heap.size z w') := Lib.hid (fun z dv h => by rw [← k2]; exact Encode_yes h k1)
      clear k1 k2 k3 k4 k5 d
      generalize frAt g = q at *
      go_upto_region 8 with fail
      go_wp2_with fail
      refine HDb.out.mono ?_
      rintro e x4 ⟨⟨v4, rfl, o4⟩, hb⟩
      have F4 := HFb.out _ _ _ o4
      obtain ⟨ga, gc, rfl⟩ := own_form o4
      have D4 := Lib.hid (bstep B6.out hb)
      clear HDb HFb B6 o4 hb
      generalize q.dat.length = m9 at *
      go_upto_region 9 with fail
      have M5 : Hid (Blk (x4.alloc (.cells #[.int .i64 q.ver, .bool q.resp, .bool q.er, .bool q.more, .int .i64 q.op, .int .i64 q.seq, .int .i64 q.st, .int .i64 q.asc, .int .i64 q.off, (.slice ga m9 gc)] 24)) x4.heap.size (fvs q (.slice ga m9 gc))) := Lib.hid (Blk.new' x4 #[.int .i64 q.ver, .bool q.resp, .bool q.er, .bool q.more, .int .i64 q.op, .int .i64 q.seq, .int .i64 q.st, .int .i64 q.asc, .int .i64 q.off, (.slice ga m9 gc)] 24)
      have F5 := Lib.hid (F4.below (balloc (brefl x4) (.cells #[.int .i64 q.ver, .bool q.resp, .bool q.er, .bool q.more, .int .i64 q.op, .int .i64 q.seq, .int .i64 q.st, .int .i64 q.asc, .int .i64 q.off, (.slice ga m9 gc)] 24)))
      have D5 := Lib.hid (balloc D4.out (.cells #[.int .i64 q.ver, .bool q.resp, .bool q.er, .bool q.more, .int .i64 q.op, .int .i64 q.seq, .int .i64 q.st, .int .i64 q.asc, .int .i64 q.off, (.slice ga m9 gc)] 24))
      clear D4 F4
      generalize x4.alloc (.cells #[.int .i64 q.ver, .bool q.resp, .bool q.er, .bool q.more, .int .i64 q.op, .int .i64 q.seq, .int .i64 q.st, .int .i64 q.asc, .int .i64 q.off, (.slice ga m9 gc)] 24) = x5 at *
      generalize x4.heap.size = b9 at *
      have HE3 : Hid (Calls Try.prog 9 #[.agg (fvs q (.slice ga m9 gc)).toArray] x5 fun e w' => (∃ v, e = .returned (.tuple #[v, .int .i64 0]) ∧ Own w' x5.heap.size v (bl g n)) ∧ Below x5.heap.size x5 w') := Lib.hid (HE2.out _ _ F5.out)
      clear HE2 F5
      go_upto_region 11 with fail
      go_wp2_with (refine wpList_load_mid rfl 24 _ rfl _ 0 rfl (fvs q (.slice ga m9 gc)) _ M5.out.range Try.underlying24 rfl (by rw [fvs_len]; exact info_fr) ?_)
      refine HE3.out.mono ?_
      rintro e x6 ⟨⟨v2, rfl, o2⟩, hb⟩
      obtain ⟨a2, c2, e2⟩ := own_form o2
      rw [bl_len] at e2
      subst e2
      have D6 := Lib.hid (bstep D5.out hb)
      have C1 : (convert 22 9 (.slice a2 n c2)).run Try.prog x6 = .ok (.string (bs8 (bl g n))) x6 := by
        have h := ((own_out o2 (bl_byte fun i _ => hg i)).sb).conv (brefl _)
        rwa [bl_getD] at h
      have C2 := S.out.conv D6.out
      clear HE3 D5 M5 o2 hb
      generalize bs8 (bl g n) = SB at *
      go_wp2_with fail
      go_ret
      exact ⟨rfl, D6.out⟩
    · have ed : (derr g n != 0) = true := by simpa using d
      rw [dfr_no d] at HDb HFb
      generalize derr g n = er at *
      clear d
      go_upto_region 8 with fail
      go_wp2_with fail
      refine HDb.out.mono ?_
      rintro e x4 ⟨⟨v4, rfl, o4⟩, hb⟩
      have F4 := HFb.out _ _ _ o4
      obtain ⟨ga, gc, rfl⟩ := own_form o4
      have D4 := Lib.hid (bstep B6.out hb)
      clear HDb HFb B6 o4 hb
      go_upto_region 9 with fail
      have M5 : Hid (Blk (x4.alloc (.cells #[.int .i64 fr0.ver, .bool fr0.resp, .bool fr0.er, .bool fr0.more, .int .i64 fr0.op, .int .i64 fr0.seq, .int .i64 fr0.st, .int .i64 fr0.asc, .int .i64 fr0.off, (.slice ga fr0.dat.length gc)] 24)) x4.heap.size (fvs fr0 (.slice ga fr0.dat.length gc))) := Lib.hid (Blk.new' x4 #[.int .i64 fr0.ver, .bool fr0.resp, .bool fr0.er, .bool fr0.more, .int .i64 fr0.op, .int .i64 fr0.seq, .int .i64 fr0.st, .int .i64 fr0.asc, .int .i64 fr0.off, (.slice ga fr0.dat.length gc)] 24)
      have SM : Hid (Calls Try.prog 13 #[.agg (fvs fr0 (.slice ga fr0.dat.length gc)).toArray, FV fr0 (.slice none 0 0)] (x4.alloc (.cells #[.int .i64 fr0.ver, .bool fr0.resp, .bool fr0.er, .bool fr0.more, .int .i64 fr0.op, .int .i64 fr0.seq, .int .i64 fr0.st, .int .i64 fr0.asc, .int .i64 fr0.off, (.slice ga fr0.dat.length gc)] 24)) fun e w' => e = .returned (.bool true) ∧ Below (x4.alloc (.cells #[.int .i64 fr0.ver, .bool fr0.resp, .bool fr0.er, .bool fr0.more, .int .i64 fr0.op, .int .i64 fr0.seq, .int .i64 fr0.st, .int .i64 fr0.asc, .int .i64 fr0.off, (.slice ga fr0.dat.length gc)] 24)).heap.size (x4.alloc (.cells #[.int .i64 fr0.ver, .bool fr0.resp, .bool fr0.er, .bool fr0.more, .int .i64 fr0.op, .int .i64 fr0.seq, .int .i64 fr0.st, .int .i64 fr0.asc, .int .i64 fr0.off, (.slice ga fr0.dat.length gc)] 24)) w') := Lib.hid (Same_true (F4.below (balloc (brefl x4) (.cells #[.int .i64 fr0.ver, .bool fr0.resp, .bool fr0.er, .bool fr0.more, .int .i64 fr0.op, .int .i64 fr0.seq, .int .i64 fr0.st, .int .i64 fr0.asc, .int .i64 fr0.off, (.slice ga fr0.dat.length gc)] 24))) (fm0 _))
      have D5 := Lib.hid (balloc D4.out (.cells #[.int .i64 fr0.ver, .bool fr0.resp, .bool fr0.er, .bool fr0.more, .int .i64 fr0.op, .int .i64 fr0.seq, .int .i64 fr0.st, .int .i64 fr0.asc, .int .i64 fr0.off, (.slice ga fr0.dat.length gc)] 24))
      clear D4 F4
      generalize x4.alloc (.cells #[.int .i64 fr0.ver, .bool fr0.resp, .bool fr0.er, .bool fr0.more, .int .i64 fr0.op, .int .i64 fr0.seq, .int .i64 fr0.st, .int .i64 fr0.asc, .int .i64 fr0.off, (.slice ga fr0.dat.length gc)] 24) = x5 at *
      generalize x4.heap.size = b9 at *
      go_upto_region 10 with fail
      go_wp2_with (refine wpList_load_mid rfl 24 _ rfl _ 0 rfl (fvs fr0 (.slice ga fr0.dat.length gc)) _ M5.out.range Try.underlying24 rfl (by rw [fvs_len]; exact info_fr) ?_)
      refine SM.out.mono ?_
      rintro e x6 ⟨rfl, hb⟩
      have D6 := Lib.hid (bstep D5.out hb)
      clear D5 M5 SM hb
      go_wp2_with fail
      go_ret
      exact ⟨rfl, D6.out⟩
set_option maxRecDepth 100000 in
theorem lifted (os : Os) (started : os.Started) (H : Type) (enc : TypeId × Value → H) :
    ReturnsInHanded {} Try.checked os 5 .any (Rows.ctlBackSpec.pre6 enc Try.prog Try.f5 Rows.ctlBackRow.domain false) (Rows.ctlBackSpec.post enc Try.prog Try.f5 false true false false) := by
  refine returnsInHanded_of_change_sized (C := Try.checked) own started (by kernel_rfl) Try.func5
    (ChangeSpec.witness6 (enc := enc) (C := Try.checked) false ⟨#[], #[.agg #[.int .i64 0, .bool false, .bool false, .bool false, .int .i64 0, .int .i64 0, .int .i64 0, .int .i64 0, .int .i64 0, .slice none 0 0], .slice none 0 0], []⟩ 8 (by kernel_rfl) (by kernel_rfl) (by kernel_rfl) (by kernel_rfl)) ?_
  intro W base args ds gs before hval0 hW hcnd hsz0 _
  have hsz : (DataW.weightsEach Try.prog (Try.f5.params.toList ++ Rows.ctlBackSpec.plain.varTypes Try.prog) (ds ++ gs)).all (· ≤ reachBytes) = true := hsz0
  have hval : ∀ (j : Nat) t v, Try.f5.params[j]? = some t → args[j]? = some v → Value.okWide Try.prog W .any base t v := hval0
  have hW' := hW
  obtain ⟨p, q, hA0, hV, rfl, hfz, hnd⟩ := hW
  have hA : DataW.TrodAll enc Try.prog W 0 (fun _ => true) true Try.f5.params.toList args.toList ds p := hA0
  rw [Try.params5] at hA hval hsz
  obtain ⟨v0, vs0, d0, ds0, p0, q0, hargs, rfl, rfl, h0, r0⟩ := trodAll_cons hA
  obtain ⟨v1, vs1, d1, ds1, p1, q1, rfl, rfl, rfl, h1, r1⟩ := trodAll_cons r0
  obtain ⟨rfl, rfl, rfl⟩ := trodAll_nil r1
  obtain rfl : args = #[v0, v1] := by cases args; simp_all
  obtain ⟨rfl, rfl⟩ := trodVars_none hV
  have h0k := h0
  have hlt0 : ∀ x ∈ p0, x.block < W.heap.size := fun x hx => by have := hW'.lt x (by simp [hx]); simpa using this
  have hb0 : ∀ y ∈ DataW.weights Try.prog 24 d0, y ≤ reachBytes := fun y hy => by
    have := List.all_eq_true.1 hsz y (DataW.weights_mem_each (j := 0) rfl rfl y hy)
    simpa using this
  have h1k := h1
  have hlt1 : ∀ x ∈ p1, x.block < W.heap.size := fun x hx => by have := hW'.lt x (by simp [hx]); simpa using this
  have hb1 : ∀ es sp, d1 = .slice es sp → (es.length + sp.length) * Try.prog.bytesOf 5 ≤ reachBytes := by
    intro es sp he
    exact sized_slice hsz (j := 1) (t := 22) (e := 5) rfl (by rw [he]; rfl) Try.underlying22
  obtain ⟨f0, dv0, rfl, g0⟩ := open_fr (hval 0 24 v0 rfl rfl) h0 hb0
  obtain ⟨n1, f1, g1⟩ := open_bytes (hval 1 22 v1 rfl rfl) h1 hb1
  clear hA0 hval0
  simp only [List.append_nil] at hW'
  refine (walk f0 dv0 v1 n1 f1 W g0 g1).mono fun e W' ⟨he, hg⟩ => ?_
  subst he
  exact ⟨_, rfl, _, _, _, [], _, [], hW', trodAll_cons_mk (shut_bool Try.underlying4 _) trodAll_mk0,
    (trodAll_cons_mk (Below.trod laidOut (by kernel_rfl) (of_decide_eq_true (by kernel_rfl)) h0k hg hlt0) (trodAll_cons_mk (Below.trod laidOut (by kernel_rfl) (of_decide_eq_true (by kernel_rfl)) h1k hg hlt1) trodAll_mk0)), rfl, hg.frame _, fun h => nomatch h⟩

theorem over : Rows.ctlBackRow.holds Try.pinned (OpenSpec.ofChange Rows.ctlBackSpec) :=
  OpenClaim.holds_of_wide 5 Try.f5 rfl rfl rfl rfl rfl rfl rfl ⟨rfl, rfl, rfl, rfl, rfl⟩ rfl rfl rfl rfl rfl (by kernel_rfl) Try.func5 (by kernel_rfl)
    (of_decide_eq_true (by kernel_rfl)) (by unfold Func.isWrapper; first | (rw [if_pos (by decide +kernel)]; kernel_rfl) | (rw [if_neg (by decide +kernel)]; exact ⟨rfl, rfl⟩))
    (fun os started H enc _ => lifted os started H enc)

theorem proved : Rows.CtlBackSaid :=
  over
end Go.Proofs.Yteigmnbbfmcihaa.ctlBack
