/-
  The document's disk: Read, Remove, Rename.
  Conditions: none.
-/
import Derived.Test.YtkjolaoajbdomaaGreatDoorDkN
namespace Go.Proofs.YtkjolaoajbdomaaGreatDoor.Dk
open Go.RowKit Go.ChangeShapes Go.WideShapes Go.ChangeAt Go.Joins Go.Maps By Ct
set_option linter.unusedVariables false
set_option linter.unusedSimpArgs false

set_option maxRecDepth 100000 in
set_option maxHeartbeats 16000000 in
theorem rRead_c {w : World} {d : Nat} {s : Dk} {X : Nat → Prop} {nm : ByteArray} (h : Rm w d s X) (hf : s.fs.length ≤ 90000) (hs : nm.size ≤ 9223372036854775807) :
    Calls Tryz.prog 23 #[.pointer (some ⟨d, 0, none⟩), .string nm] w fun e w' => e = .returned (.tuple #[.string (bs8 (readD s nm.data.toList)), .int .i64 (readE s nm.data.toList)]) ∧ w' = w := by
  have NM := Lib.hid (rName_c nm w hs)
  have FN := Lib.hid (rfind_c (nm := nm) h (by omega))
  obtain ⟨fv, hb, hg, _⟩ := h.apart
  have c1 := (hb.2 1 _ rfl).1
  have c0 := (hb.2 0 _ rfl).1
  have HG := Lib.hid hg
  have HF := Lib.hid hf
  clear h hf hb hg hs
  cases ho : s.out with
  | true =>
    have E : Hid (readE s nm.data.toList = 50 ∧ readD s nm.data.toList = []) := Lib.hid ⟨by unfold readE; rw [if_pos ho], by unfold readD; rw [if_pos ho]⟩
    rw [ho] at c1
    clear ho
    go_enter Tryz.func23, Tryz.ntmps23
    go_wp2_with fail
    go_ret2
    exact ⟨by rw [E.out.1, E.out.2]; rfl, rfl⟩
  | false =>
    rw [ho] at c1
    cases hn : okN nm.data.toList with
    | false =>
      rw [hn] at NM
      have E : Hid (readE s nm.data.toList = 4 ∧ readD s nm.data.toList = []) := Lib.hid ⟨by unfold readE; rw [if_neg (by rw [ho]; decide), if_pos hn], by unfold readD; rw [if_neg (by rw [ho]; decide), if_pos hn]⟩
      clear ho hn
      go_enter Tryz.func23, Tryz.ntmps23
      go_wp2_with fail
      refine NM.out.mono ?_
      rintro e w' ⟨rfl, hw⟩
      subst hw
      go_wp2_with fail
      go_ret2
      exact ⟨by rw [E.out.1, E.out.2]; rfl, rfl⟩
    | true =>
      rw [hn] at NM
      have E := Lib.hid (rdE s nm.data.toList ho hn)
      have F := Lib.hid (rdD s nm.data.toList ho hn)
      clear ho hn
      go_enter Tryz.func23, Tryz.ntmps23
      go_wp2_with fail
      refine NM.out.mono ?_
      rintro e w' ⟨rfl, hw⟩
      subst hw
      go_wp2_with fail
      refine FN.out.mono ?_
      rintro e w' ⟨⟨i, rfl, hi⟩, hw⟩
      subst hw
      clear NM FN
      rcases hi with ⟨hg, rfl⟩ | ⟨j, dat, rfl, hj, hg⟩
      · rw [hg] at E F
        rw [show (none : Option (List Nat)).isSome = false from rfl] at E
        clear hg
        go_wp2_with fail
        go_ret2
        exact ⟨by rw [E.out, F.out]; rfl, rfl⟩
      · rw [hg] at E F
        rw [show (some dat : Option (List Nat)).isSome = true from rfl] at E
        obtain ⟨a, cap, rfl⟩ := ownG_form HG.out
        have hjl := (List.getElem?_eq_some_iff.1 hj).1
        obtain ⟨g, rfl, _, hc, hcm, _, cy⟩ := ownG_at HG.out hj
        have m2 : (s.fs.length : Int) ≤ (cap : Int) := by omega
        have m3 : (cap : Int) ≤ 9223372036854775807 := by unfold maxLen at hcm; omega
        have j0 : (0 : Int) ≤ (j : Int) := by omega
        have j1 : (j : Int) < (s.fs.length : Int) := by omega
        have j2 : decide ((j : Int) < 0) = false := decide_eq_false (by omega)
        have j3 : (s.fs.length : Int) ≤ 90000 := by have := HF.out; omega
        generalize s.fs.length = m at *
        clear hj hg hc hcm hjl
        go_wp2_with fail
        go_ret2
        exact ⟨by rw [E.out, F.out]; rfl, rfl⟩
set_option maxRecDepth 100000 in
set_option maxHeartbeats 16000000 in
theorem rRemove_c {w : World} {d : Nat} {s : Dk} {X : Nat → Prop} {nm : ByteArray} (h : Rm w d s X) (hf : s.fs.length ≤ 90000) (hs : nm.size ≤ 9223372036854775807) :
    Calls Tryz.prog 19 #[.pointer (some ⟨d, 0, none⟩), .string nm] w fun e w' => e = .returned (.int .i64 (removeE s nm.data.toList)) ∧ Rt w w' d X (removeS s nm.data.toList) := by
  have H := Lib.hid h
  have HF := Lib.hid hf
  have NM := Lib.hid (rName_c nm w hs)
  have FN := Lib.hid (rfind_c (nm := nm) h (by omega))
  obtain ⟨fv, hb, hg, _⟩ := h.apart
  have c1 := (hb.2 1 _ rfl).1
  clear h hf hb hg hs
  cases ho : s.out with
  | true =>
    have E : Hid (removeE s nm.data.toList = 50 ∧ removeS s nm.data.toList = s) := Lib.hid ⟨by unfold removeE; rw [if_pos ho], by unfold removeS; rw [if_pos ho]⟩
    rw [ho] at c1
    clear ho
    go_enter Tryz.func19, Tryz.ntmps19
    go_wp2_with fail
    go_ret
    exact ⟨by rw [E.out.1]; rfl, by rw [E.out.2]; exact Rt.same H.out (brefl _)⟩
  | false =>
    rw [ho] at c1
    cases hn : okN nm.data.toList with
    | false =>
      rw [hn] at NM
      have E : Hid (removeE s nm.data.toList = 4 ∧ removeS s nm.data.toList = s) := Lib.hid ⟨by unfold removeE; rw [if_neg (by rw [ho]; decide), if_pos hn], by unfold removeS; rw [if_neg (by rw [ho]; decide), if_pos hn]⟩
      clear ho hn
      go_enter Tryz.func19, Tryz.ntmps19
      go_wp2_with fail
      refine NM.out.mono ?_
      rintro e w' ⟨rfl, hw⟩
      subst hw
      go_wp2_with fail
      go_ret
      exact ⟨by rw [E.out.1]; rfl, by rw [E.out.2]; exact Rt.same H.out (brefl _)⟩
    | true =>
      rw [hn] at NM
      obtain ⟨M1, M2⟩ := rmE s nm.data.toList ho hn
      have K1 := Lib.hid M1
      have K2 := Lib.hid M2
      have CH := Lib.hid (rchange_c H.out ho)
      clear ho hn M1 M2
      go_enter Tryz.func19, Tryz.ntmps19
      go_wp2_with fail
      refine NM.out.mono ?_
      rintro e w' ⟨rfl, hw⟩
      subst hw
      go_wp2_with fail
      refine FN.out.mono ?_
      rintro e w' ⟨⟨i, rfl, hi⟩, hw⟩
      subst hw
      clear NM FN
      rcases hi with ⟨hg, rfl⟩ | ⟨j, dat, rfl, hj, hg⟩
      · have E := Lib.hid (K1.out hg)
        clear hg
        go_wp2_with fail
        go_ret
        exact ⟨by rw [E.out.1]; rfl, by rw [E.out.2]; exact Rt.same H.out (brefl _)⟩
      · have E := Lib.hid (K2.out dat hg)
        have j2 : decide ((j : Int) < 0) = false := decide_eq_false (by omega)
        clear hj hg c1
        go_wp2_with fail
        refine CH.out.mono ?_
        rintro e w3 ⟨rfl, hp3, ht3⟩
        have P3 := Lib.hid hp3
        have T3 : Hid (Tu X w' w3) := Lib.hid (ht3.mono (fun i q => by have : i = d := q; rw [this]; exact H.out.2.1))
        obtain ⟨fv3, hb3, _, _⟩ := hp3.apart
        have c3 := (hb3.2 3 _ rfl).1
        rw [chg_keep] at c3
        have GN := Lib.hid (rgone_c (nm := nm) hp3 (by rw [chg_fs]; have := HF.out; omega))
        clear CH hp3 ht3 hb3
        have DI : Hid (∀ b : Bool, (b = true ↔ 0 < chgR s) → removeS s nm.data.toList = if b = true then { chg s with fs := gone (chg s).fs nm.data.toList } else chg s) := Lib.hid (fun b hb => by
          rw [E.out.2]
          by_cases q : 0 < chgR s
          · rw [if_pos q, if_pos (hb.2 q)]
          · rw [if_neg q, if_neg (fun z => q (hb.1 z))])
        cases co : (chg s).out with
        | true =>
          have E0 : Hid (chgE s = 50) := Lib.hid (by unfold chgE; rw [if_pos co])
          have ER : Hid (chgR s = s.keep) := Lib.hid (by unfold chgR; rw [if_pos co])
          by_cases hR : 0 < s.keep
          · have e2 : decide (0 < s.keep) = true := decide_eq_true hR
            have W : Hid (removeS s nm.data.toList = { chg s with fs := gone (chg s).fs nm.data.toList }) := Lib.hid (by rw [DI.out true ⟨fun _ => by rw [ER.out]; exact hR, fun _ => rfl⟩, if_pos rfl])
            clear hR co
            go_wp2_with fail
            refine GN.out.mono ?_
            rintro e w5 ⟨rfl, hr⟩
            have Q := Lib.hid (Rt.tr hr (fun k q => .inl q) T3.out)
            clear hr GN
            go_wp2_with fail
            go_ret
            exact ⟨by rw [E.out.1, E0.out]; rfl, by rw [W.out]; exact Q.out⟩
          · have e2 : decide (0 < s.keep) = false := decide_eq_false hR
            have W : Hid (removeS s nm.data.toList = chg s) := Lib.hid (by rw [DI.out false ⟨fun z => (by cases z), fun z => (by rw [ER.out] at z; exact absurd z hR)⟩, if_neg (by decide)])
            clear hR co
            go_wp2_with fail
            go_ret
            exact ⟨by rw [E.out.1, E0.out]; rfl, by rw [W.out]; exact ⟨X, P3.out, fun k hk => .inl hk, T3.out⟩⟩
        | false =>
          have E0 : Hid (chgE s = 0) := Lib.hid (by unfold chgE; rw [if_neg (by rw [co]; decide)])
          have ER : Hid (chgR s = 9223372036854775807) := Lib.hid (by unfold chgR; rw [if_neg (by rw [co]; decide)])
          have W : Hid (removeS s nm.data.toList = { chg s with fs := gone (chg s).fs nm.data.toList }) := Lib.hid (by rw [DI.out true ⟨fun _ => by rw [ER.out]; omega, fun _ => rfl⟩, if_pos rfl])
          clear co
          go_wp2_with fail
          refine GN.out.mono ?_
          rintro e w5 ⟨rfl, hr⟩
          have Q := Lib.hid (Rt.tr hr (fun k q => .inl q) T3.out)
          clear hr GN
          go_wp2_with fail
          go_ret
          exact ⟨by rw [E.out.1, E0.out]; rfl, by rw [W.out]; exact Q.out⟩
set_option maxRecDepth 100000 in
set_option maxHeartbeats 16000000 in
theorem rRename_c {w : World} {d : Nat} {s : Dk} {X : Nat → Prop} {na nb : ByteArray} (h : Rm w d s X) (hf : s.fs.length ≤ 90000) (hs : na.size ≤ 9223372036854775807) (hs' : nb.size ≤ 9223372036854775807) :
    Calls Tryz.prog 28 #[.pointer (some ⟨d, 0, none⟩), .string na, .string nb] w fun e w' => e = .returned (.int .i64 (renameE s na.data.toList nb.data.toList)) ∧ Rt w w' d X (renameS s na.data.toList nb.data.toList) := by
  have H := Lib.hid h
  have HF := Lib.hid hf
  have NM := Lib.hid (rName_c na w hs)
  have NB := Lib.hid (rName_c nb w hs')
  have FN := Lib.hid (rfind_c (nm := na) h (by omega))
  obtain ⟨fv, hb, hg, _⟩ := h.apart
  have c1 := (hb.2 1 _ rfl).1
  have c0 := (hb.2 0 _ rfl).1
  have HG := Lib.hid hg
  clear h hf hb hg hs hs'
  cases ho : s.out with
  | true =>
    have E : Hid (renameE s na.data.toList nb.data.toList = 50 ∧ renameS s na.data.toList nb.data.toList = s) := Lib.hid ⟨by unfold renameE; rw [if_pos ho], by unfold renameS; rw [if_pos ho]⟩
    rw [ho] at c1
    clear ho
    go_enter Tryz.func28, Tryz.ntmps28
    go_wp2_with fail
    go_ret
    exact ⟨by rw [E.out.1]; rfl, by rw [E.out.2]; exact Rt.same H.out (brefl _)⟩
  | false =>
    rw [ho] at c1
    cases hn : okN na.data.toList with
    | false =>
      rw [hn] at NM
      have E : Hid (renameE s na.data.toList nb.data.toList = 4 ∧ renameS s na.data.toList nb.data.toList = s) := Lib.hid ⟨by unfold renameE; rw [if_neg (by rw [ho]; decide), if_pos (.inl hn)], by unfold renameS; rw [if_neg (by rw [ho]; decide), if_pos (.inl hn)]⟩
      clear ho hn
      go_enter Tryz.func28, Tryz.ntmps28
      go_wp2_with fail
      refine NM.out.mono ?_
      rintro e w' ⟨rfl, hw⟩
      subst hw
      go_wp2_with fail
      go_ret
      exact ⟨by rw [E.out.1]; rfl, by rw [E.out.2]; exact Rt.same H.out (brefl _)⟩
    | true =>
      rw [hn] at NM
      cases hn' : okN nb.data.toList with
      | false =>
        rw [hn'] at NB
        have E : Hid (renameE s na.data.toList nb.data.toList = 4 ∧ renameS s na.data.toList nb.data.toList = s) := Lib.hid ⟨by unfold renameE; rw [if_neg (by rw [ho]; decide), if_pos (.inr hn')], by unfold renameS; rw [if_neg (by rw [ho]; decide), if_pos (.inr hn')]⟩
        clear ho hn hn'
        go_enter Tryz.func28, Tryz.ntmps28
        go_wp2_with fail
        refine NM.out.mono ?_
        rintro e w' ⟨rfl, hw⟩
        subst hw
        go_wp2_with fail
        refine NB.out.mono ?_
        rintro e w' ⟨rfl, hw⟩
        subst hw
        go_wp2_with fail
        go_ret
        exact ⟨by rw [E.out.1]; rfl, by rw [E.out.2]; exact Rt.same H.out (brefl _)⟩
      | true =>
      rw [hn'] at NB
      obtain ⟨M1, M2⟩ := rnE s na.data.toList nb.data.toList ho hn hn'
      have HN := Lib.hid hn'
      have K1 := Lib.hid M1
      have K2 := Lib.hid M2
      have CH := Lib.hid (rchange_c H.out ho)
      clear ho hn hn' M1 M2
      go_enter Tryz.func28, Tryz.ntmps28
      go_wp2_with fail
      refine NM.out.mono ?_
      rintro e w' ⟨rfl, hw⟩
      subst hw
      go_wp2_with fail
      refine NB.out.mono ?_
      rintro e w' ⟨rfl, hw⟩
      subst hw
      go_wp2_with fail
      refine FN.out.mono ?_
      rintro e w' ⟨⟨i, rfl, hi⟩, hw⟩
      subst hw
      clear NM NB FN
      rcases hi with ⟨hg, rfl⟩ | ⟨j, dat, rfl, hj, hg⟩
      · have E := Lib.hid (K1.out hg)
        clear hg
        go_wp2_with fail
        go_ret
        exact ⟨by rw [E.out.1]; rfl, by rw [E.out.2]; exact Rt.same H.out (brefl _)⟩
      · have E := Lib.hid (K2.out dat hg)
        obtain ⟨a, cap, rfl⟩ := ownG_form HG.out
        have hjl := (List.getElem?_eq_some_iff.1 hj).1
        obtain ⟨g, rfl, _, hc, hcm, _, cy⟩ := ownG_at HG.out hj
        have m2 : (s.fs.length : Int) ≤ (cap : Int) := by omega
        have m3 : (cap : Int) ≤ 9223372036854775807 := by unfold maxLen at hcm; omega
        have j0 : (0 : Int) ≤ (j : Int) := by omega
        have j1 : (j : Int) < (s.fs.length : Int) := by omega
        have j2 : decide ((j : Int) < 0) = false := decide_eq_false (by omega)
        have j3 : (s.fs.length : Int) ≤ 90000 := by have := HF.out; omega
        have DT : Hid ((∀ y ∈ dat, y < 256) ∧ dat.length ≤ 65536) := Lib.hid (H.out.1.data _ (get_mem hg))
        obtain ⟨m, hm⟩ : ∃ m, s.fs.length = m := ⟨_, rfl⟩
        rw [hm] at c0 j1 j3 m2
        have HM := Lib.hid hm
        clear hj hg hc hcm hjl hm
        go_upto_region 9 with fail
        clear c0 c1 cy
        go_wp2_with fail
        refine CH.out.mono ?_
        rintro e w3 ⟨rfl, hp3, ht3⟩
        have P3 := Lib.hid hp3
        have T3 : Hid (Tu X w' w3) := Lib.hid (ht3.mono (fun i q => by have : i = d := q; rw [this]; exact H.out.2.1))
        obtain ⟨fv3, hb3, _, _⟩ := hp3.apart
        have c3 := (hb3.2 3 _ rfl).1
        rw [chg_keep] at c3
        have GN := Lib.hid (rgone_c (nm := na) hp3 (by rw [chg_fs]; have := HF.out; omega))
        clear CH hp3 ht3 hb3
        have DI : Hid (∀ b : Bool, (b = true ↔ 0 < chgR s) → renameS s na.data.toList nb.data.toList = if b = true then { chg s with fs := put (gone (chg s).fs na.data.toList) nb.data.toList dat } else chg s) := Lib.hid (fun b hb => by
          rw [E.out.2]
          by_cases q : 0 < chgR s
          · rw [if_pos q, if_pos (hb.2 q)]
          · rw [if_neg q, if_neg (fun z => q (hb.1 z))])
        cases co : (chg s).out with
        | true =>
          have E0 : Hid (chgE s = 50) := Lib.hid (by unfold chgE; rw [if_pos co])
          have ER : Hid (chgR s = s.keep) := Lib.hid (by unfold chgR; rw [if_pos co])
          by_cases hR : 0 < s.keep
          · have e2 : decide (0 < s.keep) = true := decide_eq_true hR
            have W : Hid (renameS s na.data.toList nb.data.toList = { chg s with fs := put (gone (chg s).fs na.data.toList) nb.data.toList dat }) := Lib.hid (by rw [DI.out true ⟨fun _ => by rw [ER.out]; exact hR, fun _ => rfl⟩, if_pos rfl])
            clear hR co
            go_wp2_with fail
            refine GN.out.mono ?_
            rintro e w5 ⟨rfl, X5, hr5, hx5, ht5⟩
            have PT := Lib.hid (rput_c (nm := nb) hr5 (by have := gone_len (chg s).fs na.data.toList; rw [chg_fs] at this; have := HF.out; show (gone (chg s).fs na.data.toList).length ≤ 100000; rw [chg_fs]; omega) HN.out DT.out.1 DT.out.2)
            have X5' := Lib.hid hx5
            have T5 := Lib.hid ht5
            clear hr5 hx5 ht5 GN
            go_wp2_with fail
            refine PT.out.mono ?_
            rintro e w6 ⟨rfl, hr⟩
            have Q := Lib.hid (Rt.tr (Rt.tr hr X5'.out T5.out) (fun k q => .inl q) T3.out)
            clear hr PT
            go_wp2_with fail
            go_ret
            exact ⟨by rw [E.out.1, E0.out]; rfl, by rw [W.out]; exact Q.out⟩
          · have e2 : decide (0 < s.keep) = false := decide_eq_false hR
            have W : Hid (renameS s na.data.toList nb.data.toList = chg s) := Lib.hid (by rw [DI.out false ⟨fun z => (by cases z), fun z => (by rw [ER.out] at z; exact absurd z hR)⟩, if_neg (by decide)])
            clear hR co
            go_wp2_with fail
            go_ret
            exact ⟨by rw [E.out.1, E0.out]; rfl, by rw [W.out]; exact ⟨X, P3.out, fun k hk => .inl hk, T3.out⟩⟩
        | false =>
          have E0 : Hid (chgE s = 0) := Lib.hid (by unfold chgE; rw [if_neg (by rw [co]; decide)])
          have ER : Hid (chgR s = 9223372036854775807) := Lib.hid (by unfold chgR; rw [if_neg (by rw [co]; decide)])
          have W : Hid (renameS s na.data.toList nb.data.toList = { chg s with fs := put (gone (chg s).fs na.data.toList) nb.data.toList dat }) := Lib.hid (by rw [DI.out true ⟨fun _ => by rw [ER.out]; omega, fun _ => rfl⟩, if_pos rfl])
          clear co
          go_wp2_with fail
          refine GN.out.mono ?_
          rintro e w5 ⟨rfl, X5, hr5, hx5, ht5⟩
          have PT := Lib.hid (rput_c (nm := nb) hr5 (by have := gone_len (chg s).fs na.data.toList; rw [chg_fs] at this; have := HF.out; show (gone (chg s).fs na.data.toList).length ≤ 100000; rw [chg_fs]; omega) HN.out DT.out.1 DT.out.2)
          have X5' := Lib.hid hx5
          have T5 := Lib.hid ht5
          clear hr5 hx5 ht5 GN
          go_wp2_with fail
          refine PT.out.mono ?_
          rintro e w6 ⟨rfl, hr⟩
          have Q := Lib.hid (Rt.tr (Rt.tr hr X5'.out T5.out) (fun k q => .inl q) T3.out)
          clear hr PT
          go_wp2_with fail
          go_ret
          exact ⟨by rw [E.out.1, E0.out]; rfl, by rw [W.out]; exact Q.out⟩
end Go.Proofs.YtkjolaoajbdomaaGreatDoor.Dk
