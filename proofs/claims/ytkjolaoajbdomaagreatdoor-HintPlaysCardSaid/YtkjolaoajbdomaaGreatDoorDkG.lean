/-
  The contracts of disk.Read, disk.Remove and disk.Rename.
  Conditions: none.
-/
import Derived.Test.YtkjolaoajbdomaaGreatDoorDkF
namespace Go.Proofs.YtkjolaoajbdomaaGreatDoor.Dk
open Go.RowKit Go.ChangeShapes Go.WideShapes Go.ChangeAt Go.Joins Go.Maps By Ct
set_option linter.unusedVariables false
set_option linter.unusedSimpArgs false

theorem zeroE (w : World) : (zeroValue 28).run Tryz.prog w = .ok (.slice none 0 0) w := by kernel_rfl
/-- what a look-up finds. -/
theorem look_c {w : World} {d : Nat} {X : Nat → Prop} {mv : Option Nat} {l : List (List UInt8 × List Nat)} (h : Pf w d X mv l) {nm : ByteArray} (hn : nm.size ≤ maxLen) :
    ∃ v, (Instr.lookup 55 (.map mv) (.string nm) true).run Tryz.prog w = .ok (.tuple #[v, .bool (get l nm.data.toList).isSome]) w ∧ ∀ dat, get l nm.data.toList = some dat → Own w 0 v dat ∧ ∀ g, v.ownBlock = some g → X g ∧ g ≠ d := by
  cases mv with
  | none =>
    have e : l = [] := h
    subst e
    exact ⟨.slice none 0 0, look_nil true KS Tryz.underlying55 (zeroE w) (key_of hn), fun dat q => by cases q⟩
  | some b =>
    obtain ⟨_, _, D, n, hm, mf⟩ := h
    obtain ⟨v, ps, hrun, hv⟩ := hm.look_ok KS Tryz.underlying55 (zeroE w) (zd := .held (.slice none 0 0)) (zp := []) rfl (key_of hn)
    rw [mapF_has mf] at hrun
    refine ⟨v, hrun, fun dat q => ?_⟩
    obtain ⟨u, hu, ho, hx⟩ := (mf nm.data.toList).2 dat q
    rw [hu] at hv
    simp only [RV, Option.some.injEq, Prod.mk.injEq, DataW.held.injEq] at hv
    rw [hv.1]
    exact ⟨ho, hx⟩
/-- where a file is there, there is a map; behind a delete. -/
theorem Pm.map {w : World} {d : Nat} {s : Dk} {X : Nat → Prop} (h : Pm w d s X) {nm : List UInt8} {dat : List Nat} (hg : get s.fs nm = some dat) :
    ∃ b D n, w.cell? ⟨d, 0, none⟩ = some (.map (some b)) ∧ w.ownsMap Tryz.prog 9 RV b n D ∧ ∀ w', w'.ownsMap Tryz.prog 9 RV b n (D.del (.string nm)) → w.mapTurned w' b → Pm w' d { s with fs := gone s.fs nm } X ∧ Tu X w w' := by
  obtain ⟨W0, hX, hlt, mv, o, c, a, k, hb, hp, hfs⟩ := h
  cases mv with
  | none =>
    have e : s.fs = [] := hfs
    rw [e] at hg
    cases hg
  | some b =>
    obtain ⟨xb, bd, D, n, hm, mf⟩ := hfs
    refine ⟨b, D, n, (hb.2 0 _ rfl).1, hm, fun w' hm' ht => ?_⟩
    have tu : Tu (Td b) w w' := tu_turned rfl ht
    have keep : ∀ g, g ≠ b → g < w.heap.size → w'.heap[g]? = w.heap[g]? := fun g hg hgl => tu.block g hgl hg
    have nb : ∀ g, g = b → ∀ (u : Value) x, Own w 0 u x → u.ownBlock ≠ some g := fun g e u x hu q => by
      subst e
      obtain ⟨c, hc⟩ := row_kind hu g q
      obtain ⟨es, cl, hb', _⟩ := hm
      rw [hb'] at hc
      cases hc
    have mf2 : MapF w' (fun k => X k ∧ k ≠ d) D s.fs := fun m => by
      refine ⟨(mf m).1, fun x hx => ?_⟩
      obtain ⟨u, u1, u2, u3⟩ := (mf m).2 x hx
      exact ⟨u, u1, row_keep u2 (fun g hg => keep g (fun e => nb g e u x u2 hg) (u2.lt g hg).2), u3⟩
    exact ⟨⟨⟨gone_nodup nm W0.nodup, fun p hp => W0.name p (gone_mem hp).1, fun p hp => W0.data p (gone_mem hp).1, W0.lo, W0.hi, W0.off, W0.klo, W0.khi⟩, hX, fun g hg => Nat.lt_of_lt_of_le (hlt g hg) tu.size, some b, o, c, a, k, blk_keep hb (keep d (Ne.symm bd) hb.1) tu.size, hp, xb, bd, D.del (.string nm), n, hm', mapF_del mf2 nm⟩, tu_turned xb ht⟩
theorem own_turned {w w' : World} {b n : Nat} {D : DataW Value} {v : Value} {dat : List Nat} (ho : Own w 0 v dat) (hm : w.ownsMap Tryz.prog 9 RV b n D) (ht : w.mapTurned w' b) : Own w' 0 v dat := by
  have tu : Tu (Td b) w w' := tu_turned rfl ht
  refine row_keep ho fun g hg => tu.block g (ho.lt g hg).2 fun e => ?_
  have e : g = b := e
  subst e
  obtain ⟨c, hc⟩ := row_kind ho g hg
  obtain ⟨es, cl, hb', _⟩ := hm
  rw [hb'] at hc
  cases hc
theorem done_iff (s : Dk) : done s = decide (0 < chgR s) := by
  unfold done chgR
  cases c : (chg s).out with
  | true => rfl
  | false => rfl
theorem rdE (s : Dk) (a : List UInt8) (ho : s.out = false) (hn : okN a = true) : readE s a = if (get s.fs a).isSome = true then 0 else 5 := by
  unfold readE
  rw [if_neg (by rw [ho]; decide), if_neg (by rw [hn]; decide)]
  cases get s.fs a <;> rfl
theorem rdD (s : Dk) (a : List UInt8) (ho : s.out = false) (hn : okN a = true) : readD s a = (get s.fs a).getD [] := by
  unfold readD
  rw [if_neg (by rw [ho]; decide), if_neg (by rw [hn]; decide)]
set_option maxRecDepth 100000 in
theorem Read_nil (nm : ByteArray) (w : World) : Calls Tryz.prog 22 #[.pointer none, .string nm] w fun e w' => e = .returned (.tuple #[.slice none 0 0, .int .i64 1]) ∧ Below w.heap.size w w' := by
  have BA := Lib.hid (balloc (brefl w) (.cells #[.string nm] 9))
  go_enter Tryz.func22, Tryz.ntmps22
  go_wp2_with fail
  refine (refusal_nil _ _).mono ?_
  rintro e w' ⟨rfl, rfl⟩
  go_wp2_with fail
  go_ret2
  exact ⟨rfl, BA.out⟩
set_option maxRecDepth 100000 in
theorem Remove_nil (nm : ByteArray) (w : World) : Calls Tryz.prog 18 #[.pointer none, .string nm] w fun e w' => e = .returned (.int .i64 1) ∧ Below w.heap.size w w' := by
  have BA := Lib.hid (balloc (brefl w) (.cells #[.string nm] 9))
  go_enter Tryz.func18, Tryz.ntmps18
  go_wp2_with fail
  refine (refusal_nil _ _).mono ?_
  rintro e w' ⟨rfl, rfl⟩
  go_wp2_with fail
  go_ret
  exact ⟨rfl, BA.out⟩
set_option maxRecDepth 100000 in
theorem Rename_nil (a b : ByteArray) (w : World) : Calls Tryz.prog 26 #[.pointer none, .string a, .string b] w fun e w' => e = .returned (.int .i64 1) ∧ Below w.heap.size w w' := by
  have BA := Lib.hid (balloc (brefl w) (.cells #[.string a, .string b] 9))
  go_enter Tryz.func26, Tryz.ntmps26
  go_wp2_with fail
  refine (refusal_nil _ _).mono ?_
  rintro e w' ⟨rfl, rfl⟩
  go_wp2_with fail
  go_ret
  exact ⟨rfl, BA.out⟩
set_option maxRecDepth 100000 in
set_option maxHeartbeats 16000000 in
theorem Read_c {w : World} {d : Nat} {s : Dk} {X : Nat → Prop} {nm : ByteArray} (h : Pm w d s X) :
    Calls Tryz.prog 22 #[.pointer (some ⟨d, 0, none⟩), .string nm] w fun e w' => ∃ u, e = .returned (.tuple #[u, .int .i64 (readE s nm.data.toList)]) ∧ Own w' w.heap.size u (readD s nm.data.toList) ∧ Below w.heap.size w w' := by
  have H := Lib.hid h
  have BA := Lib.hid (balloc (brefl w) (.cells #[.string nm] 9))
  have SR := Lib.hid (sr_one w nm 9)
  obtain ⟨mv, o, c, a, k, hb, hp, hf⟩ := h.open
  have c1 := ((hb.below BA.out).2 1 _ rfl).1
  have HB := Lib.hid hb
  have HF := Lib.hid hf
  obtain ⟨rfl, _⟩ := hp
  clear h hb hf
  go_enter Tryz.func22, Tryz.ntmps22
  go_upto_region 1 with fail
  go_wp2_with fail
  generalize w.alloc (.cells #[.string nm] 9) = w1 at *
  refine (refusal_c (cap := 1) SR.out (by simp) (by simp) c1).mono ?_
  rintro e w2 ⟨rfl, hb2⟩
  have B2 := Lib.hid (bstep BA.out hb2)
  clear hb2 SR c1 BA
  rw [refE1]
  cases ho : s.out with
  | true =>
    have E : Hid (readE s nm.data.toList = 50 ∧ readD s nm.data.toList = []) := Lib.hid ⟨by unfold readE; rw [if_pos ho], by unfold readD; rw [if_pos ho]⟩
    clear ho
    go_wp2_with fail
    go_ret2
    exact ⟨_, by rw [E.out.1]; rfl, by rw [E.out.2]; exact Own.nil _ _, B2.out⟩
  | false =>
    cases hn : okN nm.data.toList with
    | false =>
      have E : Hid (readE s nm.data.toList = 4 ∧ readD s nm.data.toList = []) := Lib.hid ⟨by unfold readE; rw [if_neg (by rw [ho]; decide), if_pos hn], by unfold readD; rw [if_neg (by rw [ho]; decide), if_pos hn]⟩
      clear ho hn
      go_wp2_with fail
      go_ret2
      exact ⟨_, by rw [E.out.1]; rfl, by rw [E.out.2]; exact Own.nil _ _, B2.out⟩
    | true =>
      have hsz : nm.size ≤ maxLen := by rw [← st_of nm]; exact okN_max hn
      have E := Lib.hid (rdE s nm.data.toList ho hn)
      have F := Lib.hid (rdD s nm.data.toList ho hn)
      have P2 := H.out.below B2.out
      obtain ⟨v, hrun, hv⟩ := look_c (HF.out.keep (w' := w2) (fun k q _ => B2.out.block k (H.out.2.2.1 k q)) (fun k q => q)) hsz
      have c0 : w2.cell? ⟨d, 0, none⟩ = some (.map mv) := ((HB.out.below B2.out).2 0 _ rfl).1
      cases hg : get s.fs nm.data.toList with
      | none =>
        rw [hg] at hrun E F
        rw [show (none : Option (List Nat)).isSome = false from rfl] at hrun E
        clear ho hn hsz hv hg P2
        go_wp2_with fail
        go_ret2
        exact ⟨_, by rw [E.out]; rfl, by rw [F.out]; exact Own.nil _ _, B2.out⟩
      | some dat =>
        obtain ⟨ov, _⟩ := hv dat hg
        rw [hg] at hrun E F
        rw [show (some dat : Option (List Nat)).isSome = true from rfl] at hrun E
        have hd : (∀ x ∈ dat, x < 256) ∧ dat.length ≤ 65536 := P2.1.data _ (get_mem hg)
        have SL := Lib.hid (out_sl (own_out ov hd.1) (by have := hd.2; omega))
        clear ho hn hsz hv hg P2 ov hd
        obtain ⟨va, vc, rfl⟩ := SL.out.form
        go_wp2_with fail
        refine (bClone_c SL.out).mono ?_
        rintro e w4 ⟨u, rfl, ou, hb4⟩
        have OU := Lib.hid (ou.le B2.out.size)
        have B4 := Lib.hid (bstep B2.out hb4)
        clear ou hb4
        go_wp2_with fail
        go_ret2
        exact ⟨_, by rw [E.out]; rfl, by rw [F.out]; exact OU.out, B4.out⟩
theorem rmE (s : Dk) (a : List UInt8) (ho : s.out = false) (hn : okN a = true) : (get s.fs a = none → removeE s a = 5 ∧ removeS s a = s) ∧ ∀ d, get s.fs a = some d → removeE s a = chgE s ∧ removeS s a = if 0 < chgR s then { chg s with fs := gone (chg s).fs a } else chg s := by
  have c1 : ¬ s.out = true := by rw [ho]; decide
  have c2 : ¬ okN a = false := by rw [hn]; decide
  refine ⟨fun q => ⟨?_, ?_⟩, fun d q => ⟨?_, ?_⟩⟩
  · unfold removeE; rw [if_neg c1, if_neg c2, if_pos q]
  · unfold removeS; rw [if_neg c1, if_neg c2, q]
  · unfold removeE chgE; rw [if_neg c1, if_neg c2, if_neg (by rw [q]; simp)]
  · unfold removeS
    rw [if_neg c1, if_neg c2, q, chg_fs]
    show (if done s = true then _ else _) = _
    rw [done_iff]
    simp only [decide_eq_true_eq]
set_option maxRecDepth 100000 in
set_option maxHeartbeats 16000000 in
theorem Remove_c {w : World} {d : Nat} {s : Dk} {X : Nat → Prop} {nm : ByteArray} (h : Pm w d s X) :
    Calls Tryz.prog 18 #[.pointer (some ⟨d, 0, none⟩), .string nm] w fun e w' => e = .returned (.int .i64 (removeE s nm.data.toList)) ∧ Pt w w' d X (removeS s nm.data.toList) := by
  have H := Lib.hid h
  have BA := Lib.hid (balloc (brefl w) (.cells #[.string nm] 9))
  have SR := Lib.hid (sr_one w nm 9)
  obtain ⟨mv, o, c, a, k, hb, hp, hf⟩ := h.open
  have c1 := ((hb.below BA.out).2 1 _ rfl).1
  have HB := Lib.hid hb
  have HF := Lib.hid hf
  obtain ⟨rfl, _⟩ := hp
  have DX := Lib.hid h.2.1
  clear h hb hf
  go_enter Tryz.func18, Tryz.ntmps18
  go_upto_region 1 with fail
  go_wp2_with fail
  generalize w.alloc (.cells #[.string nm] 9) = w1 at *
  refine (refusal_c (cap := 1) SR.out (by simp) (by simp) c1).mono ?_
  rintro e w2 ⟨rfl, hb2⟩
  have B2 := Lib.hid (bstep BA.out hb2)
  clear hb2 SR c1 BA
  rw [refE1]
  cases ho : s.out with
  | true =>
    have E : Hid (removeE s nm.data.toList = 50 ∧ removeS s nm.data.toList = s) := Lib.hid ⟨by unfold removeE; rw [if_pos ho], by unfold removeS; rw [if_pos ho]⟩
    clear ho
    go_wp2_with fail
    go_ret
    exact ⟨by rw [E.out.1]; rfl, by rw [E.out.2]; exact Pt.same H.out B2.out⟩
  | false =>
    cases hn : okN nm.data.toList with
    | false =>
      have E : Hid (removeE s nm.data.toList = 4 ∧ removeS s nm.data.toList = s) := Lib.hid ⟨by unfold removeE; rw [if_neg (by rw [ho]; decide), if_pos hn], by unfold removeS; rw [if_neg (by rw [ho]; decide), if_pos hn]⟩
      clear ho hn
      go_wp2_with fail
      go_ret
      exact ⟨by rw [E.out.1]; rfl, by rw [E.out.2]; exact Pt.same H.out B2.out⟩
    | true =>
      have hsz : nm.size ≤ maxLen := by rw [← st_of nm]; exact okN_max hn
      have HZ := Lib.hid hsz
      obtain ⟨M1, M2⟩ := rmE s nm.data.toList ho hn
      have P2 := H.out.below B2.out
      obtain ⟨v, hrun, hv⟩ := look_c (HF.out.keep (w' := w2) (fun k q _ => B2.out.block k (H.out.2.2.1 k q)) (fun k q => q)) hsz
      have c0 : w2.cell? ⟨d, 0, none⟩ = some (.map mv) := ((HB.out.below B2.out).2 0 _ rfl).1
      cases hg : get s.fs nm.data.toList with
      | none =>
        rw [hg] at hrun
        rw [show (none : Option (List Nat)).isSome = false from rfl] at hrun
        have E := Lib.hid (M1 hg)
        clear ho hn hsz hv hg P2 M1 M2
        go_wp2_with fail
        go_ret
        exact ⟨by rw [E.out.1]; rfl, by rw [E.out.2]; exact Pt.same H.out B2.out⟩
      | some dat =>
        rw [hg] at hrun
        rw [show (some dat : Option (List Nat)).isSome = true from rfl] at hrun
        have E := Lib.hid (M2 dat hg)
        have HG := Lib.hid hg
        have CH := Lib.hid (change_c P2 ho)
        clear ho hn hsz hv hg P2 M1 M2
        go_upto_region 7 with fail
        clear hrun c0
        go_wp2_with fail
        refine CH.out.mono ?_
        rintro e w3 ⟨rfl, hp3, ht3⟩
        have P3 := Lib.hid hp3
        have T3 : Hid (Tu X w w3) := Lib.hid ((tu_below B2.out).tr ht3 (fun i hi q => by have : i = d := q; rw [this]; exact DX.out))
        clear CH hp3 ht3
        by_cases hR : 0 < chgR s
        · have e2 : decide (0 < chgR s) = true := decide_eq_true hR
          have E2 : Hid (removeS s nm.data.toList = { chg s with fs := gone (chg s).fs nm.data.toList }) := Lib.hid (by rw [E.out.2, if_pos hR])
          obtain ⟨b, D, n, c0, hm, hK⟩ := P3.out.map (nm := nm.data.toList) (dat := dat) (by rw [chg_fs]; exact HG.out)
          have HM := Lib.hid hm
          have HK := Lib.hid hK
          clear hm hK hR
          go_wp2_with (first | (at_delete; refine wpList_delete_own _ rfl _ _ 55 9 rfl 28 KS Tryz.underlying55 RV b n D rfl HM.out _ _ rfl (key_of HZ.out) ?_; intro w4 hm4 ht4; have HM4 := Lib.hid hm4; have HT4 := Lib.hid ht4; clear hm4 ht4))
          go_ret
          obtain ⟨q1, q2⟩ := HK.out _ HM4.out HT4.out
          exact ⟨by rw [E.out.1]; rfl, by rw [E2.out]; exact ⟨X, q1, fun k hk => .inl hk, T3.out.tr q2 (fun _ _ q => q)⟩⟩
        · have e2 : decide (0 < chgR s) = false := decide_eq_false hR
          have E2 : Hid (removeS s nm.data.toList = chg s) := Lib.hid (by rw [E.out.2, if_neg hR])
          clear hR
          go_wp2_with fail
          go_ret
          exact ⟨by rw [E.out.1]; rfl, by rw [E2.out]; exact ⟨X, P3.out, fun k hk => .inl hk, T3.out⟩⟩
theorem refE2 {o : Bool} {a b : ByteArray} : refE o [a, b] = if o = true then 50 else if okN a.data.toList = true then (if okN b.data.toList = true then 0 else 4) else 4 := by
  unfold refE
  cases o <;> cases c : okN a.data.toList <;> cases d : okN b.data.toList <;> simp [c, d]
theorem rnE (s : Dk) (a b : List UInt8) (ho : s.out = false) (hn : okN a = true) (hn' : okN b = true) : (get s.fs a = none → renameE s a b = 5 ∧ renameS s a b = s) ∧ ∀ d, get s.fs a = some d → renameE s a b = chgE s ∧ renameS s a b = if 0 < chgR s then { chg s with fs := put (gone (chg s).fs a) b d } else chg s := by
  have c1 : ¬ s.out = true := by rw [ho]; decide
  have c2 : ¬ (okN a = false ∨ okN b = false) := by rw [hn, hn']; decide
  refine ⟨fun q => ⟨?_, ?_⟩, fun d q => ⟨?_, ?_⟩⟩
  · unfold renameE; rw [if_neg c1, if_neg c2, if_pos q]
  · unfold renameS; rw [if_neg c1, if_neg c2, q]
  · unfold renameE chgE; rw [if_neg c1, if_neg c2, if_neg (by rw [q]; simp)]
  · unfold renameS
    rw [if_neg c1, if_neg c2, q, chg_fs]
    show (if done s = true then _ else _) = _
    rw [done_iff]
    simp only [decide_eq_true_eq]
set_option maxRecDepth 100000 in
set_option maxHeartbeats 16000000 in
theorem Rename_c {w : World} {d : Nat} {s : Dk} {X : Nat → Prop} {na nb : ByteArray} (h : Pm w d s X) (hf : s.fs.length ≤ 90000) :
    Calls Tryz.prog 26 #[.pointer (some ⟨d, 0, none⟩), .string na, .string nb] w fun e w' => e = .returned (.int .i64 (renameE s na.data.toList nb.data.toList)) ∧ Pt w w' d X (renameS s na.data.toList nb.data.toList) := by
  have H := Lib.hid h
  have BA := Lib.hid (balloc (brefl w) (.cells #[.string na, .string nb] 9))
  have SR := Lib.hid (sr_two w na nb 9)
  have HLF := Lib.hid hf
  obtain ⟨mv, o, c, a, k, hb, hp, hfx⟩ := h.open
  have c1 := ((hb.below BA.out).2 1 _ rfl).1
  have HB := Lib.hid hb
  have HF := Lib.hid hfx
  obtain ⟨rfl, _⟩ := hp
  have DX := Lib.hid h.2.1
  clear h hb hf hfx
  go_enter Tryz.func26, Tryz.ntmps26
  go_upto_region 1 with fail
  go_wp2_with fail
  generalize w.alloc (.cells #[.string na, .string nb] 9) = w1 at *
  refine (refusal_c (cap := 2) SR.out (by simp) (by simp) c1).mono ?_
  rintro e w2 ⟨rfl, hb2⟩
  have B2 := Lib.hid (bstep BA.out hb2)
  clear hb2 SR c1 BA
  rw [refE2]
  cases ho : s.out with
  | true =>
    have E : Hid (renameE s na.data.toList nb.data.toList = 50 ∧ renameS s na.data.toList nb.data.toList = s) := Lib.hid ⟨by unfold renameE; rw [if_pos ho], by unfold renameS; rw [if_pos ho]⟩
    clear ho
    go_wp2_with fail
    go_ret
    exact ⟨by rw [E.out.1]; rfl, by rw [E.out.2]; exact Pt.same H.out B2.out⟩
  | false =>
    cases hn : okN na.data.toList with
    | false =>
      have E : Hid (renameE s na.data.toList nb.data.toList = 4 ∧ renameS s na.data.toList nb.data.toList = s) := Lib.hid ⟨by unfold renameE; rw [if_neg (by rw [ho]; decide), if_pos (.inl hn)], by unfold renameS; rw [if_neg (by rw [ho]; decide), if_pos (.inl hn)]⟩
      clear ho hn
      go_wp2_with fail
      go_ret
      exact ⟨by rw [E.out.1]; rfl, by rw [E.out.2]; exact Pt.same H.out B2.out⟩
    | true =>
      cases hn' : okN nb.data.toList with
      | false =>
        have E : Hid (renameE s na.data.toList nb.data.toList = 4 ∧ renameS s na.data.toList nb.data.toList = s) := Lib.hid ⟨by unfold renameE; rw [if_neg (by rw [ho]; decide), if_pos (.inr hn')], by unfold renameS; rw [if_neg (by rw [ho]; decide), if_pos (.inr hn')]⟩
        clear ho hn hn'
        go_wp2_with fail
        go_ret
        exact ⟨by rw [E.out.1]; rfl, by rw [E.out.2]; exact Pt.same H.out B2.out⟩
      | true =>
        have hsz : na.size ≤ maxLen := by rw [← st_of na]; exact okN_max hn
        have HZ := Lib.hid hsz
        obtain ⟨M1, M2⟩ := rnE s na.data.toList nb.data.toList ho hn hn'
        have P2 := H.out.below B2.out
        obtain ⟨v, hrun, hv⟩ := look_c (HF.out.keep (w' := w2) (fun k q _ => B2.out.block k (H.out.2.2.1 k q)) (fun k q => q)) hsz
        have c0 : w2.cell? ⟨d, 0, none⟩ = some (.map mv) := ((HB.out.below B2.out).2 0 _ rfl).1
        cases hg : get s.fs na.data.toList with
        | none =>
          rw [hg] at hrun
          rw [show (none : Option (List Nat)).isSome = false from rfl] at hrun
          have E := Lib.hid (M1 hg)
          clear ho hn hn' hsz hv hg P2 M1 M2
          go_wp2_with fail
          go_ret
          exact ⟨by rw [E.out.1]; rfl, by rw [E.out.2]; exact Pt.same H.out B2.out⟩
        | some dat =>
          rw [hg] at hrun
          rw [show (some dat : Option (List Nat)).isSome = true from rfl] at hrun
          obtain ⟨ov, hx⟩ := hv dat hg
          have OV := Lib.hid ov
          have VX := Lib.hid hx
          have hd : (∀ x ∈ dat, x < 256) ∧ dat.length ≤ 65536 := P2.1.data _ (get_mem hg)
          have HD := Lib.hid hd
          have HN := Lib.hid hn'
          have E := Lib.hid (M2 dat hg)
          have HG := Lib.hid hg
          have CH := Lib.hid (change_c P2 ho)
          obtain ⟨va, vc, rfl⟩ := own_form ov
          clear ho hn hn' hsz hv hg P2 M1 M2 ov hx hd
          go_upto_region 7 with fail
          clear hrun c0
          go_wp2_with fail
          refine CH.out.mono ?_
          rintro e w3 ⟨rfl, hp3, ht3⟩
          have P3 := Lib.hid hp3
          have T3 : Hid (Tu X w w3) := Lib.hid ((tu_below B2.out).tr ht3 (fun i hi q => by have : i = d := q; rw [this]; exact DX.out))
          have O3 := Lib.hid (row_keep OV.out (fun g hg => ht3.block g (OV.out.lt g hg).2 (fun e => (VX.out g hg).2 e)) : Own w3 0 _ dat)
          clear CH hp3 ht3
          by_cases hR : 0 < chgR s
          · have e2 : decide (0 < chgR s) = true := decide_eq_true hR
            have E2 : Hid (renameS s na.data.toList nb.data.toList = { chg s with fs := put (gone (chg s).fs na.data.toList) nb.data.toList dat }) := Lib.hid (by rw [E.out.2, if_pos hR])
            obtain ⟨b, D, n, c0, hm, hK⟩ := P3.out.map (nm := na.data.toList) (dat := dat) (by rw [chg_fs]; exact HG.out)
            have HM := Lib.hid hm
            have HK := Lib.hid hK
            clear hm hK hR
            go_upto_region 9 with fail
            go_wp2_with (first | (at_delete; refine wpList_delete_own _ rfl _ _ 55 9 rfl 28 KS Tryz.underlying55 RV b n D rfl HM.out _ _ rfl (key_of HZ.out) ?_; intro w4 hm4 ht4; obtain ⟨q1, q2⟩ := HK.out _ hm4 ht4; have P4 := Lib.hid q1; have T4 := Lib.hid (T3.out.tr q2 (fun _ _ q => q)); have O4 := Lib.hid (own_turned O3.out HM.out ht4); clear hm4 ht4 q1 q2 c0))
            have PT := Lib.hid (put_c (nm := nb) P4.out (by have := gone_len (chg s).fs na.data.toList; rw [chg_fs] at this; have := HLF.out; show (gone (chg s).fs na.data.toList).length ≤ 100000; rw [chg_fs]; omega) HN.out O4.out (fun q => (VX.out d q).2 rfl) HD.out.1 HD.out.2)
            refine PT.out.mono ?_
            rintro e w5 ⟨rfl, hp5, ht5⟩
            have Q := Lib.hid (pt_put hp5 (fun g hg => .inl (VX.out g hg).1) T4.out.size (T4.out.tr ht5 (fun _ _ q => q)))
            clear PT hp5 ht5
            go_wp2_with fail
            go_ret
            exact ⟨by rw [E.out.1]; rfl, by rw [E2.out]; exact Q.out⟩
          · have e2 : decide (0 < chgR s) = false := decide_eq_false hR
            have E2 : Hid (renameS s na.data.toList nb.data.toList = chg s) := Lib.hid (by rw [E.out.2, if_neg hR])
            clear hR
            go_wp2_with fail
            go_ret
            exact ⟨by rw [E.out.1]; rfl, by rw [E2.out]; exact ⟨X, P3.out, fun k hk => .inl hk, T3.out⟩⟩
end Go.Proofs.YtkjolaoajbdomaaGreatDoor.Dk
