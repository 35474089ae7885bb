/-
  CtlKeep: No call changes what it is handed, and answers share no memory. The law returns true for every input, and the input reads as it did.
  Conditions: none.
-/
import Derived.Test.YteigmnbbfmcihaaRows
import Derived.Test.YteigmnbbfmcihaaCtP
import Derived.SizedLaws
import Derived.Lib.SmallJoins
namespace Go.Proofs.Yteigmnbbfmcihaa.ctlKeep
open Go.ChangeShapes Go.WideShapes Go.ChangeAt Go.RowKit Go.Joins By Ct
set_option linter.unusedVariables false
set_option linter.unusedSimpArgs false

theorem own : ownKnob Try.prog.godebug = none := by kernel_rfl
theorem laidOut : laidOutB Try.prog = true := by kernel_rfl
set_option maxRecDepth 100000 in
set_option maxHeartbeats 16000000 in
theorem walk (f : Fr) (dv : Value) (v : Value) (n : Nat) (g : Nat → Nat) (w : World) (P : Fm w f dv) (A : Arg w v n g) :
    Calls Try.prog 7 #[FV f dv, v] w fun e w' => e = .returned (.bool true) ∧ Below w.heap.size w w' := by
  have S0 := A.sb
  have hg : ∀ i, g i < 256 := by obtain ⟨_, _, _, _, _, h, _⟩ := A; exact h
  have hn : n ≤ 140737488351232 := by obtain ⟨_, _, _, h1, h2, _⟩ := A; omega
  obtain ⟨sa, sc, rfl⟩ := S0.form
  have S := Lib.hid S0
  clear A S0
  obtain ⟨da, dc, rfl⟩ := P.form
  have PM := Lib.hid P
  have AW := fun z => Lib.hid (awake10_c z)
  have B1 := Lib.hid (balloc (brefl w) (.cells #[.int .i64 f.ver, .bool f.resp, .bool f.er, .bool f.more, .int .i64 f.op, .int .i64 f.seq, .int .i64 f.st, .int .i64 f.asc, .int .i64 f.off, (.slice da f.dat.length dc)] 24))
  have NP : Hid (Blk (w.alloc (.cells #[.int .i64 f.ver, .bool f.resp, .bool f.er, .bool f.more, .int .i64 f.op, .int .i64 f.seq, .int .i64 f.st, .int .i64 f.asc, .int .i64 f.off, (.slice da f.dat.length dc)] 24)) w.heap.size (fvs f (.slice da f.dat.length dc))) := Lib.hid (Blk.new' w #[.int .i64 f.ver, .bool f.resp, .bool f.er, .bool f.more, .int .i64 f.op, .int .i64 f.seq, .int .i64 f.st, .int .i64 f.asc, .int .i64 f.off, (.slice da f.dat.length dc)] 24)
  clear P
  go_enter Try.func7, Try.ntmps7
  go_wp2_with fail
  generalize w.alloc (.cells #[.int .i64 f.ver, .bool f.resp, .bool f.er, .bool f.more, .int .i64 f.op, .int .i64 f.seq, .int .i64 f.st, .int .i64 f.asc, .int .i64 f.off, (.slice da f.dat.length dc)] 24) = w1 at *
  refine (AW w1).out.mono ?_
  rintro e w2 ⟨rfl, hb⟩
  have B2 := Lib.hid (bstep B1.out hb)
  have NP2 := Lib.hid (NP.out.below hb)
  clear B1 NP hb AW
  have y9 : w2.cell? ⟨w.heap.size, 9, none⟩ = some (.slice da f.dat.length dc) := (NP2.out.2 9 _ rfl).1
  have CW := S.out.conv B2.out
  obtain ⟨SW, hSW⟩ : ∃ s, bs8 (bl g n) = s := ⟨_, rfl⟩
  rw [hSW] at CW
  have HSW := Lib.hid hSW
  have CO := Sl.conv PM.out B2.out
  obtain ⟨SO, hSO⟩ : ∃ s, bs8 f.dat = s := ⟨_, rfl⟩
  rw [hSO] at CO
  have HSO := Lib.hid hSO
  clear hSW hSO
  have HC : Hid (Calls Try.prog 14 #[.agg (fvs f (.slice da f.dat.length dc)).toArray, .slice sa n sc] w2 fun e w' => PCut f n g w2 e w') := Lib.hid (Cut_any (PM.out.below B2.out) (S.out.below B2.out) hn)
  go_upto_region 5 with fail
  clear CW CO y9
  go_wp2_with (refine wpList_load_mid rfl 24 _ rfl _ 0 rfl (fvs f (.slice da f.dat.length dc)) _ NP2.out.range Try.underlying24 rfl (by rw [fvs_len]; exact info_fr) ?_)
  refine HC.out.mono ?_
  rintro e w3 ⟨⟨v3, row, rfl, hr, hmap, hpw⟩, hb⟩
  have HPW := Lib.hid hpw
  have HRD := Lib.hid (fun j (hj : j < row.length) => row_dat hmap hj)
  have HRL : Hid (row.length ≤ 141) := Lib.hid (by have := congrArg List.length hmap; rw [List.length_map] at this; rw [this]; exact cp_len)
  obtain ⟨ra, rc, ev, h31, h32, _⟩ := ownR_cell hr.1
  have Q3 := Lib.hid (St.start hr hb)
  have HBF : Hid (∀ j, j < row.length → ∃ a c, (row.getD j d0).2 = .slice a (row.getD j d0).1.dat.length c ∧ (row.getD j d0).1.dat.length ≤ c ∧ c ≤ 9223372036854775807 ∧ (0 < (row.getD j d0).1.dat.length → ∃ g, a = some ⟨g, 0, none⟩ ∧ w2.heap.size ≤ g)) := Lib.hid (fun j hj => by
    have hm : row.getD j d0 ∈ row := by
      rw [List.getD_eq_getElem?_getD, List.getElem?_eq_getElem hj, Option.getD_some]
      exact List.getElem_mem hj
    obtain ⟨a, c, e1, e2, e3, e4⟩ := own_open (hr.2 _ hm)
    exact ⟨a, c, e1, e2, e3, fun h => by obtain ⟨g, g1, g2, _⟩ := e4 h; exact ⟨g, g1, g2⟩⟩)
  generalize hml : row.length = ml at *
  subst ev
  have l1 : (ml : Int) ≤ 141 := by have := HRL.out; omega
  have l2 : (ml : Int) ≤ (rc : Int) := by omega
  have l3 : (rc : Int) ≤ 9223372036854775807 := by omega
  have l4 : w.heap.size < w2.heap.size := NP2.out.1
  have HML := Lib.hid hml
  generalize ce f n = cee at *
  clear HC hr hmap hpw hb h31 h32
  go_wp2_with fail
  go_loopw [9] (fun iv wr => ∃ i : Nat, i ≤ ml ∧ iv = .int .i64 i ∧ St w2 (.slice ra ml rc) row (fun _ => True) (fun j _ => j < i) wr) (fun iv _ => ml - (intOf iv).toNat)
  case atStart => exact ⟨0, Nat.zero_le _, rfl, Q3.out.imp (fun _ _ => trivial) (fun j k _ _ _ h => absurd h (by omega))⟩
  case round =>
    obtain ⟨i, hi, rfl, hq⟩ := hrel
    rename World => w4
    have Q4 := Lib.hid hq
    clear hq Q3
    by_cases c1 : i < ml
    · have e1 : decide ((i : Int) < (ml : Int)) = true := decide_eq_true (by omega)
      have k1 : (i : Int) < (ml : Int) := by omega
      have W8 : IntKind.u8.wrap (i : Int) = (i : Int) := by rw [u8_wrap]; omega
      obtain ⟨ab, cb, eb, lb1, lb2, HG⟩ := HBF.out i c1
      have HG := Lib.hid HG
      have EB := Lib.hid eb
      have lm8 := HRD.out i c1
      generalize hmb : (row.getD i d0).1.dat.length = mb at *
      have lb1' : (mb : Int) ≤ (cb : Int) := by omega
      have lb2' : (cb : Int) ≤ 9223372036854775807 := by omega
      clear eb lb1 lb2
      go_wp2_with fail
      go_loopw [10] (fun iv wr => ∃ k : Nat, k ≤ mb ∧ iv = .int .i64 k ∧ St w2 (.slice ra ml rc) row (fun _ => True) (fun j k' => j < i ∨ (j = i ∧ k' < k)) wr) (fun iv _ => mb - (intOf iv).toNat)
      case atStart => exact ⟨0, Nat.zero_le _, rfl, Q4.out.imp (fun _ _ => trivial) (fun j k _ _ _ h => by rcases h with h | h; exact h; exact absurd h.2 (by omega))⟩
      case round =>
        obtain ⟨k, hk, rfl, hq⟩ := hrel
        rename World => w5
        have Q5 := Lib.hid hq
        clear hq Q4
        obtain ⟨_, _, ec, _, _, hcl⟩ := ownR_cell Q5.out.rows
        rw [hml] at ec hcl
        obtain ⟨gR, eg, hgR, hcl⟩ := hcl (by omega)
        simp only [Value.slice.injEq] at ec
        obtain ⟨e1, -, -⟩ := ec
        rw [eg] at e1
        subst e1
        have z1 := hcl i (by omega)
        rw [EB.out] at z1
        clear hcl
        by_cases c2 : k < mb
        · have e2 : decide ((k : Int) < (mb : Int)) = true := decide_eq_true (by omega)
          have k2 : (k : Int) < (mb : Int) := by omega
          obtain ⟨gb, rfl, hb1⟩ := HG.out (by omega)
          obtain ⟨l, el, ol, _⟩ := Q5.out.body i (by rw [HML.out]; exact c1) trivial
          rw [EB.out] at ol
          obtain ⟨_, _, eo, _, _, ho⟩ := own_open ol
          obtain ⟨g9, eg9, _, _, _, ho⟩ := ho (by rw [el, hmb]; omega)
          simp only [Value.slice.injEq] at eo
          rw [eg9] at eo
          obtain ⟨eo, -, -⟩ := eo
          cases eo
          obtain ⟨cxx, fxx⟩ := ho k (by rw [el, hmb]; exact c2)
          have QN := Lib.hid ((Q5.out.put HPW.out (k := k) (by rw [HML.out]; exact c1) EB.out hb1 trivial).imp (B := fun _ => True) (Q := fun j k' => j < i ∨ (j = i ∧ k' < k + 1)) (fun _ _ => trivial) (fun j k' _ _ _ h => by
            rcases h with h | ⟨h, h'⟩
            · exact Or.inl ⟨Or.inl h, fun q => absurd q (by omega)⟩
            · by_cases q : k' = k
              · exact Or.inr ⟨h, q⟩
              · exact Or.inl ⟨Or.inr ⟨h, by omega⟩, fun _ => q⟩))
          clear ho ol el
          go_wp2_with fail
          exact ⟨⟨k + 1, by omega, by go_num, QN.out⟩, by simp [intOf]; omega⟩
        · have e2 : decide ((k : Int) < (mb : Int)) = false := decide_eq_false (by omega)
          go_wp2_with fail
          exact ⟨⟨i + 1, by omega, by go_num, Q5.out.imp (fun _ _ => trivial) (fun j k' _ hk' _ h => by
            by_cases q : j = i
            · subst q; rw [hmb] at hk'; exact Or.inr ⟨rfl, by omega⟩
            · exact Or.inl (by omega))⟩, by simp [intOf]; omega⟩
    · have e1 : decide ((i : Int) < (ml : Int)) = false := decide_eq_false (by omega)
      have Q6 : Hid (St w2 (.slice ra ml rc) row (fun j => 0 ≤ j) (fun _ _ => True) w4) := Lib.hid (Q4.out.imp (fun _ _ => trivial) (fun j k hj _ _ _ => by rw [HML.out] at hj; omega))
      clear Q4
      go_wp2_with fail
      clear e1
      go_loopw [11] (fun iv wr => ∃ i : Nat, i ≤ ml ∧ iv = .int .i64 i ∧ St w2 (.slice ra ml rc) row (fun j => i ≤ j) (fun _ _ => True) wr) (fun iv _ => ml - (intOf iv).toNat)
      case atStart => exact ⟨0, Nat.zero_le _, rfl, Q6.out⟩
      case round =>
        obtain ⟨i, hi, rfl, hq⟩ := hrel
        rename World => w6
        have Q7 := Lib.hid hq
        clear hq Q6
        by_cases c1 : i < ml
        · have e1 : decide ((i : Int) < (ml : Int)) = true := decide_eq_true (by omega)
          have k1 : (i : Int) < (ml : Int) := by omega
          have W8 : IntKind.u8.wrap (i : Int) = (i : Int) := by rw [u8_wrap]; omega
          obtain ⟨ab, cb, eb, lb1, lb2, HG⟩ := HBF.out i c1
          have HG := Lib.hid HG
          have EB := Lib.hid eb
          have lm8 := HRD.out i c1
          generalize hmb : (row.getD i d0).1.dat.length = mb at *
          have lb1' : (mb : Int) ≤ (cb : Int) := by omega
          have lb2' : (cb : Int) ≤ 9223372036854775807 := by omega
          clear eb lb1 lb2
          go_wp2_with fail
          go_loopw [12] (fun iv wr => ∃ k : Nat, k ≤ mb ∧ iv = .int .i64 k ∧ wr = w6) (fun iv _ => mb - (intOf iv).toNat)
          case atStart => exact ⟨0, Nat.zero_le _, rfl, rfl⟩
          case round =>
            obtain ⟨k, hk, rfl, hw6⟩ := hrel
            subst hw6
            obtain ⟨_, _, ec, _, _, hcl⟩ := ownR_cell Q7.out.rows
            rw [hml] at ec hcl
            obtain ⟨gR, eg, hgR, hcl⟩ := hcl (by omega)
            simp only [Value.slice.injEq] at ec
            obtain ⟨e1, -, -⟩ := ec
            rw [eg] at e1
            subst e1
            have z1 := hcl i (by omega)
            rw [EB.out] at z1
            clear hcl
            obtain ⟨l, el, ol, hall⟩ := Q7.out.body i (by rw [HML.out]; exact c1) (Nat.le_refl _)
            rw [EB.out] at ol
            rw [hmb] at el
            have OL := Lib.hid ol
            by_cases c2 : k < mb
            · have e2 : decide ((k : Int) < (mb : Int)) = true := decide_eq_true (by omega)
              have k2 : (k : Int) < (mb : Int) := by omega
              obtain ⟨gb, rfl, hb1⟩ := HG.out (by omega)
              obtain ⟨_, _, eo, _, _, ho⟩ := own_open ol
              obtain ⟨g9, eg9, _, _, _, ho⟩ := ho (by omega)
              simp only [Value.slice.injEq] at eo
              rw [eg9] at eo
              obtain ⟨eo, -, -⟩ := eo
              cases eo
              obtain ⟨cxx, fxx⟩ := ho k (by omega)
              rw [hall k (by omega) trivial] at cxx
              clear ho ol el hall
              go_wp2_with fail
              exact ⟨⟨k + 1, by omega, by go_num, by first | rfl | trivial⟩, by simp [intOf]; omega⟩
            · have e2 : decide ((k : Int) < (mb : Int)) = false := decide_eq_false (by omega)
              have hsz : w2.heap.size ≤ wr.heap.size := Q7.out.frame.size
              obtain ⟨v', w', hr, o', b', g'⟩ := app1g OL.out 9 hsz (by omega) 22
              obtain ⟨a', c', ev', q1, q2, ho⟩ := own_open o'
              have hl : (l ++ [9]).length = mb + 1 := by rw [List.length_append, el]; rfl
              rw [hl] at ev' q1 ho
              obtain ⟨gn, eg, hg1, hg2, hg3, ho9⟩ := ho (Nat.succ_pos _)
              obtain ⟨cxx, fxx⟩ := ho9 mb (by omega)
              clear ho ho9
              subst ev' eg
              have QN := Lib.hid (Q7.out.grow HPW.out (k := mb) (x := 8) (by rw [HML.out]; exact c1) (by rw [EB.out]; exact g') b' hg3 hg1)
              have q1' : (mb : Int) + 1 ≤ (c' : Int) := by omega
              have q2' : (c' : Int) ≤ 9223372036854775807 := by omega
              have m8 : (mb : Int) ≤ 468 := by omega
              have m9 : (0 : Int) ≤ (mb : Int) := by omega
              have HR := Lib.hid hr
              clear ol el hall hr o' b' g' hg3
              go_wp2_with (first | (at_builtin; refine wpList_append_eq rfl _ _ 22 rfl _ _ _ w' rfl rfl HR.out ?_))
              exact ⟨⟨i + 1, by omega, by go_num, QN.out⟩, by simp [intOf]; omega⟩
        · have e1 : decide ((i : Int) < (ml : Int)) = false := decide_eq_false (by omega)
          have F7 := Lib.hid Q7.out.frame
          have BD := Lib.hid (bstep B2.out F7.out)
          have NPd := Lib.hid (NP2.out.below F7.out)
          have HE : Hid (Calls Try.prog 9 #[.agg (fvs f (.slice da f.dat.length dc)).toArray] w6 fun e w' => PEnc f w6 e w') := Lib.hid (Encode_any (PM.out.below BD.out))
          have lw6 : w.heap.size < w6.heap.size := Nat.lt_of_lt_of_le l4 F7.out.size
          clear Q7 HPW HRD HRL HBF F7 B2 NP2
          go_upto_region 23 with fail
          clear e1
          go_wp2_with (refine wpList_load_mid rfl 24 _ rfl _ 0 rfl (fvs f (.slice da f.dat.length dc)) _ NPd.out.range Try.underlying24 rfl (by rw [fvs_len]; exact info_fr) ?_)
          refine HE.out.mono ?_
          rintro e x1 ⟨⟨v1, rfl, o1⟩, hb⟩
          obtain ⟨a1, c1', ev1, p1, p2, p3⟩ := own_open o1
          have H1 := Lib.hid p3
          have O1 := Lib.hid o1
          have BY := el_byte PM.out.2.1
          have HLE : (el f).length ≤ 1024 := by
            unfold el
            split
            · rename_i c; rw [enc_len]; have := (okFr_cut c).2.2.2.2.2.2; omega
            · simp
          have HDD := Decode_any ((own_out o1 BY).sb) (by omega)
          have HQD := dfr_dat (getD_byte BY) (el f).length
          have HQF : okFr f = true → derr (fun i => (el f).getD i 0) (el f).length = 0 ∧ dfr (fun i => (el f).getD i 0) (el f).length = f := fun c => by
            have h : el f = enc f := by unfold el; rw [if_pos c]
            rw [h]; exact dec_enc c
          unfold PDec at HDD
          generalize dfr (fun i => (el f).getD i 0) (el f).length = q at *
          generalize derr (fun i => (el f).getD i 0) (el f).length = ed at *
          subst ev1
          have HD := Lib.hid HDD
          have BX1 := Lib.hid hb
          have OE := Lib.hid (show ∃ l' : List Nat, l'.length = (el f).length ∧ Own x1 w6.heap.size (.slice a1 (el f).length c1') l' from ⟨_, rfl, o1⟩)
          generalize (el f).length = m1 at *
          have n1' : (m1 : Int) ≤ (c1' : Int) := by omega
          have n2' : (c1' : Int) ≤ 9223372036854775807 := by omega
          have HL1 : Hid (∀ g, a1 = some ⟨g, 0, none⟩ → 0 < m1 → g < x1.heap.size ∧ w6.heap.size ≤ g) := Lib.hid (fun g' e' hm' => by obtain ⟨g, e1, e2, e3, _⟩ := H1.out hm'; rw [e1] at e'; cases e'; exact ⟨e3, e2⟩)
          clear HE o1 hb p3 HDD p1 p2
          go_upto_region 24 with fail
          go_wp2_with fail
          refine HD.out.mono ?_
          rintro e x2 ⟨⟨v4, rfl, o4⟩, hb⟩
          obtain ⟨fa, fc, rfl⟩ := own_form o4
          have HX1 := Lib.hid HQF
          generalize hm : q.dat.length = m at *
          clear hm
          go_upto_region 25 with fail
          have M3 : Hid (Blk (x2.alloc (.cells #[.int .i64 q.ver, .bool q.resp, .bool q.er, .bool q.more, .int .i64 q.op, .int .i64 q.seq, .int .i64 q.st, .int .i64 q.asc, .int .i64 q.off, (.slice fa m fc)] 24)) x2.heap.size (fvs q (.slice fa m fc))) := Lib.hid (Blk.new' x2 #[.int .i64 q.ver, .bool q.resp, .bool q.er, .bool q.more, .int .i64 q.op, .int .i64 q.seq, .int .i64 q.st, .int .i64 q.asc, .int .i64 q.off, (.slice fa m fc)] 24)
          have DB := balloc (brefl x2) (.cells #[.int .i64 q.ver, .bool q.resp, .bool q.er, .bool q.more, .int .i64 q.op, .int .i64 q.seq, .int .i64 q.st, .int .i64 q.asc, .int .i64 q.off, (.slice fa m fc)] 24)
          have O3 := Lib.hid (show Own _ _ _ _ from row_below o4 DB)
          have BX3 := Lib.hid (bstep (bstep BX1.out hb) DB)
          have OE3 := Lib.hid (show ∃ l' : List Nat, l'.length = m1 ∧ Own (x2.alloc (.cells #[.int .i64 q.ver, .bool q.resp, .bool q.er, .bool q.more, .int .i64 q.op, .int .i64 q.seq, .int .i64 q.st, .int .i64 q.asc, .int .i64 q.off, (.slice fa m fc)] 24)) w6.heap.size (.slice a1 m1 c1') l' by obtain ⟨l', e1, e2⟩ := OE.out; exact ⟨l', e1, row_below e2 (bstep hb DB)⟩)
          have hx2 : x1.heap.size ≤ x2.heap.size := hb.size
          clear HD OE O1 H1 hb o4 DB BX1
          generalize x2.alloc (.cells #[.int .i64 q.ver, .bool q.resp, .bool q.er, .bool q.more, .int .i64 q.op, .int .i64 q.seq, .int .i64 q.st, .int .i64 q.asc, .int .i64 q.off, (.slice fa m fc)] 24) = x3 at *
          generalize x2.heap.size = b9 at *
          go_wp2_with fail
          go_loopw [18] (fun iv wr => ∃ k : Nat, k ≤ m1 ∧ iv = .int .i64 k ∧ Below w6.heap.size w6 wr ∧ Own wr x1.heap.size (.slice fa m fc) q.dat ∧ Blk wr b9 (fvs q (.slice fa m fc)) ∧ ∃ l' : List Nat, l'.length = m1 ∧ Own wr w6.heap.size (.slice a1 m1 c1') l') (fun iv _ => m1 - (intOf iv).toNat)
          case atStart => exact ⟨0, Nat.zero_le _, rfl, BX3.out, O3.out, M3.out, OE3.out⟩
          case round =>
            obtain ⟨k, hk, rfl, hb, ho, hm3, l', el', ol'⟩ := hrel
            rename World => x4
            have HB := Lib.hid hb
            have HO := Lib.hid ho
            have HM := Lib.hid hm3
            have HOL := Lib.hid ol'
            clear hb ho hm3 BX3 O3 M3 OE3
            by_cases c2 : k < m1
            · have e2 : decide ((k : Int) < (m1 : Int)) = true := decide_eq_true (by omega)
              have k2 : (k : Int) < (m1 : Int) := by omega
              obtain ⟨_, _, eo, _, _, hoo⟩ := own_open ol'
              obtain ⟨g9, eg9, _, _, _, hoo9⟩ := hoo (by omega)
              obtain ⟨cxx, fxx⟩ := hoo9 k (by omega)
              clear hoo hoo9
              simp only [Value.slice.injEq] at eo
              rw [eg9] at eo
              obtain ⟨rfl, -, -⟩ := eo
              obtain ⟨h91, h92⟩ := HL1.out g9 rfl (by omega)
              have BN := Lib.hid (below_set HB.out h92 k (.int .u8 9))
              have ON := Lib.hid (show Own _ _ _ _ from row_set (v := .slice fa m fc) HO.out (b := g9) (fun q => by have := (Own.block HO.out) g9 q; omega) k (.int .u8 9))
              have MN := Lib.hid (blk_other HM.out (b' := g9) (by omega) k (.int .u8 9))
              have LN := Lib.hid (own_set HOL.out k 9)
              clear ol'
              go_wp2_with fail
              exact ⟨⟨k + 1, by omega, by go_num, BN.out, ON.out, MN.out, l'.set k 9, by simpa using el', LN.out⟩, by simp [intOf]; omega⟩
            · have e2 : decide ((k : Int) < (m1 : Int)) = false := decide_eq_false (by omega)
              have BZ := Lib.hid (bstep BD.out HB.out)
              have C1 := S.out.conv BZ.out
              rw [HSW.out] at C1
              have C2 := Sl.conv PM.out BZ.out
              rw [HSO.out] at C2
              have NP4 := Lib.hid (NPd.out.below HB.out)
              have y9 : x4.cell? ⟨w.heap.size, 9, none⟩ = some (.slice da f.dat.length dc) := (NP4.out.2 9 _ rfl).1
              clear ol' HOL
              cases c : okFr f with
              | false =>
                have ef : (ee f != 0) = true := by unfold ee; rw [c]; rfl
                generalize ee f = er at *
                go_wp2_with fail
                go_ret
                exact ⟨rfl, BZ.out⟩
              | true =>
                obtain ⟨ed0, eq0⟩ := HX1.out c
                have ef : ee f = 0 := by unfold ee; rw [if_pos c]
                subst q
                subst ed
                have SM : Hid (Calls Try.prog 13 #[.agg (fvs f (.slice da f.dat.length dc)).toArray, .agg (fvs f (.slice fa m fc)).toArray] x4 fun e w' => e = .returned (.bool true) ∧ Below x4.heap.size x4 w') := Lib.hid (by
                  have := Same_true (PM.out.below BZ.out) (show Fm x4 f (.slice fa m fc) from out_sl (own_out HO.out PM.out.2.1) PM.out.1)
                  exact this)
                clear c HX1
                go_wp2_with (first | (refine load_mid_g rfl 24 _ rfl _ 0 rfl (fvs f (.slice da f.dat.length dc)) _ NP4.out.range Try.underlying24 rfl (by rw [fvs_len]; exact info_fr) ?_) | (refine load_mid_g rfl 24 _ rfl _ 0 rfl (fvs f (.slice fa m fc)) _ HM.out.range Try.underlying24 rfl (by rw [fvs_len]; exact info_fr) ?_))
                refine SM.out.mono ?_
                rintro e x5 ⟨rfl, hb⟩
                have BF := Lib.hid (bstep BZ.out hb)
                clear C1 C2 y9 SM hb
                go_wp2_with fail
                go_ret
                exact ⟨rfl, BF.out⟩
set_option maxRecDepth 100000 in
theorem lifted (os : Os) (started : os.Started) (H : Type) (enc : TypeId × Value → H) :
    ReturnsInHanded {} Try.checked os 7 .any (Rows.ctlKeepSpec.pre6 enc Try.prog Try.f7 Rows.ctlKeepRow.domain false) (Rows.ctlKeepSpec.post enc Try.prog Try.f7 false true false false) := by
  refine returnsInHanded_of_change_sized (C := Try.checked) own started (by kernel_rfl) Try.func7
    (ChangeSpec.witness6 (enc := enc) (C := Try.checked) false ⟨#[], #[.agg #[.int .i64 0, .bool false, .bool false, .bool false, .int .i64 0, .int .i64 0, .int .i64 0, .int .i64 0, .int .i64 0, .slice none 0 0], .slice none 0 0], []⟩ 8 (by kernel_rfl) (by kernel_rfl) (by kernel_rfl) (by kernel_rfl)) ?_
  intro W base args ds gs before hval0 hW hcnd hsz0 _
  have hsz : (DataW.weightsEach Try.prog (Try.f7.params.toList ++ Rows.ctlKeepSpec.plain.varTypes Try.prog) (ds ++ gs)).all (· ≤ reachBytes) = true := hsz0
  have hval : ∀ (j : Nat) t v, Try.f7.params[j]? = some t → args[j]? = some v → Value.okWide Try.prog W .any base t v := hval0
  have hW' := hW
  obtain ⟨p, q, hA0, hV, rfl, hfz, hnd⟩ := hW
  have hA : DataW.TrodAll enc Try.prog W 0 (fun _ => true) true Try.f7.params.toList args.toList ds p := hA0
  rw [Try.params7] at hA hval hsz
  obtain ⟨v0, vs0, d0, ds0, p0, q0, hargs, rfl, rfl, h0, r0⟩ := trodAll_cons hA
  obtain ⟨v1, vs1, d1, ds1, p1, q1, rfl, rfl, rfl, h1, r1⟩ := trodAll_cons r0
  obtain ⟨rfl, rfl, rfl⟩ := trodAll_nil r1
  obtain rfl : args = #[v0, v1] := by cases args; simp_all
  obtain ⟨rfl, rfl⟩ := trodVars_none hV
  have h0k := h0
  have hlt0 : ∀ x ∈ p0, x.block < W.heap.size := fun x hx => by have := hW'.lt x (by simp [hx]); simpa using this
  have hb0 : ∀ y ∈ DataW.weights Try.prog 24 d0, y ≤ reachBytes := fun y hy => by
    have := List.all_eq_true.1 hsz y (DataW.weights_mem_each (j := 0) rfl rfl y hy)
    simpa using this
  have h1k := h1
  have hlt1 : ∀ x ∈ p1, x.block < W.heap.size := fun x hx => by have := hW'.lt x (by simp [hx]); simpa using this
  have hb1 : ∀ es sp, d1 = .slice es sp → (es.length + sp.length) * Try.prog.bytesOf 5 ≤ reachBytes := by
    intro es sp he
    exact sized_slice hsz (j := 1) (t := 22) (e := 5) rfl (by rw [he]; rfl) Try.underlying22
  obtain ⟨f0, dv0, rfl, g0⟩ := open_fr (hval 0 24 v0 rfl rfl) h0 hb0
  obtain ⟨n1, f1, g1⟩ := open_bytes (hval 1 22 v1 rfl rfl) h1 hb1
  clear hA0 hval0
  simp only [List.append_nil] at hW'
  refine (walk f0 dv0 v1 n1 f1 W g0 g1).mono fun e W' ⟨he, hg⟩ => ?_
  subst he
  exact ⟨_, rfl, _, _, _, [], _, [], hW', trodAll_cons_mk (shut_bool Try.underlying4 _) trodAll_mk0,
    (trodAll_cons_mk (Below.trod laidOut (by kernel_rfl) (of_decide_eq_true (by kernel_rfl)) h0k hg hlt0) (trodAll_cons_mk (Below.trod laidOut (by kernel_rfl) (of_decide_eq_true (by kernel_rfl)) h1k hg hlt1) trodAll_mk0)), rfl, hg.frame _, fun h => nomatch h⟩

theorem over : Rows.ctlKeepRow.holds Try.pinned (OpenSpec.ofChange Rows.ctlKeepSpec) :=
  OpenClaim.holds_of_wide 7 Try.f7 rfl rfl rfl rfl rfl rfl rfl ⟨rfl, rfl, rfl, rfl, rfl⟩ rfl rfl rfl rfl rfl (by kernel_rfl) Try.func7 (by kernel_rfl)
    (of_decide_eq_true (by kernel_rfl)) (by unfold Func.isWrapper; first | (rw [if_pos (by decide +kernel)]; kernel_rfl) | (rw [if_neg (by decide +kernel)]; exact ⟨rfl, rfl⟩))
    (fun os started H enc _ => lifted os started H enc)

theorem proved : Rows.CtlKeepSaid :=
  over
end Go.Proofs.Yteigmnbbfmcihaa.ctlKeep
