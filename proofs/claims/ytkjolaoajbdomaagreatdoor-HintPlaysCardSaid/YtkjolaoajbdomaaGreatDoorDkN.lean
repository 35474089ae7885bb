/-
  The document's disk: put, Write, Rename, Remove, Read.
  Conditions: none.
-/
import Derived.Test.YtkjolaoajbdomaaGreatDoorDkM
import Derived.Test.YtkjolaoajbdomaaGreatDoorDkG
namespace Go.Proofs.YtkjolaoajbdomaaGreatDoor.Dk
open Go.RowKit Go.ChangeShapes Go.WideShapes Go.ChangeAt Go.Joins Go.Maps By Ct
set_option linter.unusedVariables false
set_option linter.unusedSimpArgs false

theorem rm_put {w1 w2 : World} {d : Nat} {s1 : Dk} {X1 : Nat → Prop} {v v2 : Value} {x : List UInt8 × List Nat} {T : TypeId} (h : Rm w1 d s1 X1) (hb : Blk w1 d [v, .bool s1.out, .int .i64 s1.left, .int .i64 s1.keep]) (hv : ∀ g, v.ownBlock = some g → X1 g ∧ g ≠ d)
    (hn : okN x.1 = true) (h8 : ∀ y ∈ x.2, y < 256) (hl : x.2.length ≤ 65536) (hx : x.1 ∉ s1.fs.map (·.1))
    (o2 : OwnG w2 0 v2 (s1.fs ++ [x])) (G : Gr w1 v w2 v2) (hg : (w1.alloc (.cells #[.string (st x.1), .string (bs8 x.2)] T)).grownBy w2 v.ownBlock) : Rt w1 (w2.setCell ⟨d, 0, none⟩ v2) d X1 { s1 with fs := s1.fs ++ [x] } := by
  have t2 : Tu X1 w1 w2 := (tu_alloc (X := X1) w1 _).tr (⟨hg.os, hg.tape, hg.output, hg.size, fun k hk hx => hg.block k hk (fun q => hx (hv k q.symm).1)⟩ : Tu X1 _ w2) (fun _ _ q => q)
  have hd := h.2.2.1 d h.2.1
  have vd : ∀ g, v2.ownBlock = some g → (X1 g ∨ (w1.heap.size ≤ g ∧ g < w2.heap.size)) ∧ g ≠ d := fun g hg2 => by
    rcases G.2.2 g hg2 with q | q
    · exact ⟨.inl (hv g q).1, (hv g q).2⟩
    · exact ⟨.inr ⟨q, (o2.lt g hg2).2⟩, by omega⟩
  have eb : w2.heap[d]? = w1.heap[d]? := G.2.1 d hd (fun q => (hv d q).2 rfl)
  refine ⟨fun g => X1 g ∨ (w1.heap.size ≤ g ∧ g < w2.heap.size), ⟨⟨?_, fun p hp => ?_, fun p hp => ?_, h.1.lo, h.1.hi, h.1.off, h.1.klo, h.1.khi⟩, .inl h.2.1, fun g hg => ?_, v2, blk_set (blk_keep hb eb G.1) 0 v2, row_set o2 (fun q => (vd d q).2 rfl) 0 _, vd⟩, fun g hg => hg.imp id (fun q => q.1), t2.tr (tu_set (X := X1) h.2.1) (fun _ _ q => q)⟩
  · show ((s1.fs ++ [x]).map (·.1)).Nodup
    rw [List.map_append, List.nodup_append]
    exact ⟨h.1.nodup, by simp, fun a ha b hb e => by simp at hb; subst hb; exact hx (e ▸ ha)⟩
  · rcases List.mem_append.1 hp with q | q
    · exact h.1.name p q
    · simp at q; subst q; exact hn
  · rcases List.mem_append.1 hp with q | q
    · exact h.1.data p q
    · simp at q; subst q; exact ⟨h8, hl⟩
  · simp only [World.setCell, Array.size_modify]
    rcases hg with hg | hg
    · exact Nat.lt_of_lt_of_le (h.2.2.1 g hg) G.1
    · exact hg.2
set_option maxRecDepth 100000 in
set_option maxHeartbeats 8000000 in
theorem rput_c {w : World} {d : Nat} {s : Dk} {X : Nat → Prop} {nm : ByteArray} {dat : List Nat} (h : Rm w d s X) (hl : s.fs.length ≤ 100000) (hn : okN nm.data.toList = true) (h8 : ∀ y ∈ dat, y < 256) (hd : dat.length ≤ 65536) :
    Calls Tryz.prog 38 #[.pointer (some ⟨d, 0, none⟩), .string nm, .string (bs8 dat)] w fun e w' => e = .returned (.tuple #[]) ∧ Rt w w' d X { s with fs := put s.fs nm.data.toList dat } := by
  have G := Lib.hid (rgone_c (nm := nm) h hl)
  have HL : Hid ((gone s.fs nm.data.toList).length ≤ 100000) := Lib.hid (Nat.le_trans (gone_len _ _) hl)
  have HN := Lib.hid hn
  have H8 := Lib.hid h8
  have HD := Lib.hid hd
  clear h hl hn h8 hd
  go_enter Tryz.func38, Tryz.ntmps38
  go_wp2_with fail
  refine G.out.mono ?_
  rintro e w1 ⟨rfl, X1, h1, hx1, ht1⟩
  obtain ⟨v, hb, ho, hv⟩ := h1.apart
  have c0 := (hb.2 0 _ rfl).1
  obtain ⟨v2, w2, r2, o2, b2, g2, gr2⟩ := appG ho (nm.data.toList, dat) (Nat.zero_le _) (by have := HL.out; show ((gone s.fs nm.data.toList).length + 1) * 32 ≤ _; omega) 60
  have KK := Lib.hid (Rt.tr (rm_put h1 hb hv (x := (nm.data.toList, dat)) HN.out H8.out HD.out (get_none.1 (get_gone_same s.fs nm.data.toList)) o2 g2 gr2) hx1 ht1)
  have hlt := h1.2.2.1 d h1.2.1
  have ed : w2.heap[d]? = w1.heap[d]? := g2.2.1 d hlt (fun q => (hv d q).2 rfl)
  have c1 : w2.cell? ⟨d, 0, none⟩ = some v := (World.cell?_of_block (a := ⟨d, 0, none⟩) ed).trans c0
  have f1 : w2.frozen? ⟨d, 0, none⟩ = false := (World.frozen?_of_block (a := ⟨d, 0, none⟩) ed).trans (hb.2 0 _ rfl).2
  simp only [st_of] at r2
  obtain ⟨va, vc, rfl⟩ := ownG_form ho
  obtain ⟨ua, uc, rfl⟩ := ownG_form o2
  clear h1 hx1 ht1 hb ho hv o2 b2 g2 gr2 hlt ed G
  go_wp2_with (first | (at_builtin; refine wpList_append_eq rfl _ _ 60 rfl _ _ _ w2 rfl rfl r2 ?_))
  go_end0
  have Q := KK.out
  simp only [List.length_append, List.length_cons, List.length_nil, Nat.zero_add] at Q
  exact ⟨rfl, Q⟩
theorem writeD {s : Dk} {n : List UInt8} {l : List Nat} (ho : s.out = false) (hn : okN n = true) (hl : l.length ≤ 65536) : writeS s n l = if (chg s).out = true then (if 0 ≤ s.keep then { chg s with fs := put (chg s).fs n (l.take s.keep.toNat) } else chg s) else { chg s with fs := put (chg s).fs n l } := by
  unfold writeS
  rw [if_neg (by rw [ho]; decide), if_neg (by rw [hn]; decide), if_neg (by omega), chg_fs]
set_option maxRecDepth 100000 in
set_option maxHeartbeats 16000000 in
theorem rWrite_c {w : World} {d : Nat} {s : Dk} {X : Nat → Prop} {nm : ByteArray} {v : Value} {l : List Nat} (h : Rm w d s X) (hf : s.fs.length ≤ 90000) (hs : nm.size ≤ 9223372036854775807) (S : Sl w v l) (vd : 0 < l.length → v.ownBlock ≠ some d) :
    Calls Tryz.prog 17 #[.pointer (some ⟨d, 0, none⟩), .string nm, v] w fun e w' => e = .returned (.int .i64 (writeE s nm.data.toList l.length)) ∧ Rt w w' d X (writeS s nm.data.toList l) := by
  obtain ⟨da, dc, rfl⟩ := S.form
  have H := Lib.hid h
  have HS := Lib.hid S
  have HF := Lib.hid hf
  have VD := Lib.hid vd
  have NM := Lib.hid (rName_c nm w hs)
  obtain ⟨n, hln⟩ : ∃ n, l.length = n := ⟨_, rfl⟩
  have HL := Lib.hid hln
  have hn1 : (n : Int) ≤ 140737488351232 := by have := S.1; omega
  have hn0 : (0 : Int) ≤ (n : Int) := by omega
  have hnc : (n : Int) ≤ (dc : Int) := by obtain ⟨_, _, _, _, e, h1, _⟩ := S; cases e; omega
  have hcm : (dc : Int) ≤ 9223372036854775807 := by obtain ⟨_, _, _, _, e, _, h1, _⟩ := S; cases e; omega
  obtain ⟨fv, hb, _, _⟩ := h.apart
  have c1 := (hb.2 1 _ rfl).1
  rw [hln]
  clear h S hf hb hln hs vd
  cases ho : s.out with
  | true =>
    have E : Hid (writeE s nm.data.toList n = 50 ∧ writeS s nm.data.toList l = s) := Lib.hid ⟨by unfold writeE; rw [if_pos ho], by unfold writeS; rw [if_pos ho]⟩
    rw [ho] at c1
    clear ho
    go_enter Tryz.func17, Tryz.ntmps17
    go_wp2_with fail
    go_ret
    exact ⟨by rw [E.out.1]; rfl, by rw [E.out.2]; exact Rt.same H.out (brefl w)⟩
  | false =>
    rw [ho] at c1
    cases hn : okN nm.data.toList with
    | false =>
      rw [hn] at NM
      have E : Hid (writeE s nm.data.toList n = 4 ∧ writeS s nm.data.toList l = s) := Lib.hid ⟨by unfold writeE; rw [if_neg (by rw [ho]; decide), if_pos hn], by unfold writeS; rw [if_neg (by rw [ho]; decide), if_pos hn]⟩
      clear ho hn
      go_enter Tryz.func17, Tryz.ntmps17
      go_wp2_with fail
      refine NM.out.mono ?_
      rintro e w' ⟨rfl, hw⟩
      subst hw
      go_wp2_with fail
      go_ret
      exact ⟨by rw [E.out.1]; rfl, by rw [E.out.2]; exact Rt.same H.out (brefl _)⟩
    | true =>
      rw [hn] at NM
      have HO := Lib.hid ho
      have HN := Lib.hid hn
      by_cases c3 : 65536 < n
      · have E : Hid (writeE s nm.data.toList n = 21 ∧ writeS s nm.data.toList l = s) := Lib.hid ⟨by unfold writeE; rw [if_neg (by rw [ho]; decide), if_neg (by rw [hn]; decide), if_pos c3], by unfold writeS; rw [if_neg (by rw [ho]; decide), if_neg (by rw [hn]; decide), if_pos (by rw [HL.out]; exact c3)]⟩
        have e1 : decide ((65536 : Int) < (n : Int)) = true := decide_eq_true (by omega)
        clear ho hn c3
        go_enter Tryz.func17, Tryz.ntmps17
        go_wp2_with fail
        refine NM.out.mono ?_
        rintro e w' ⟨rfl, hw⟩
        subst hw
        go_wp2_with fail
        go_ret
        exact ⟨by rw [E.out.1]; rfl, by rw [E.out.2]; exact Rt.same H.out (brefl _)⟩
      have e1 : decide ((65536 : Int) < (n : Int)) = false := decide_eq_false (by omega)
      have c4 : n ≤ 65536 := by omega
      have WE := Lib.hid (wrE (n := nm.data.toList) ho hn c4)
      have WS := Lib.hid (writeD (n := nm.data.toList) (l := l) ho hn (by rw [HL.out]; exact c4))
      have CH := Lib.hid (rchange_c H.out ho)
      clear ho hn c3
      go_enter Tryz.func17, Tryz.ntmps17
      go_wp2_with fail
      refine NM.out.mono ?_
      rintro e w' ⟨rfl, hw⟩
      subst hw
      go_upto_region 7 with fail
      clear c1
      go_wp2_with fail
      refine CH.out.mono ?_
      rintro e w3 ⟨rfl, hp3, ht3⟩
      have P3 := Lib.hid hp3
      have T3 : Hid (Tu X w' w3) := Lib.hid (ht3.mono (fun i q => by have : i = d := q; rw [this]; exact H.out.2.1))
      have S3 : Hid (Sl w3 (.slice da l.length dc) l) := Lib.hid (sl_keep HS.out (fun g hg q hp => ht3.block g q (fun e => VD.out hp (by rw [show g = d from e] at hg; exact hg))) ht3.size)
      obtain ⟨fv3, hb3, _, _⟩ := hp3.apart
      have c3 := (hb3.2 3 _ rfl).1
      rw [chg_keep] at c3
      have LF : Hid ((chg s).fs.length ≤ 100000) := Lib.hid (by rw [chg_fs]; have := HF.out; omega)
      clear CH hp3 ht3 hb3 NM
      cases co : (chg s).out with
      | true =>
        have E0 : Hid (chgE s = 50) := Lib.hid (by unfold chgE; rw [if_pos co])
        by_cases hR : 0 ≤ s.keep
        · have e2 : decide (0 ≤ s.keep) = true := decide_eq_true hR
          obtain ⟨m, hm⟩ : ∃ m : Nat, (m : Int) = min s.keep (n : Int) := ⟨(min s.keep (n : Int)).toNat, by omega⟩
          have hmn : m ≤ n := by omega
          have et : Hid (l.take s.keep.toNat = l.take m) := Lib.hid (by
            by_cases q : s.keep ≤ n
            · rw [show s.keep.toNat = m by omega]
            · rw [List.take_of_length_le (by have := HL.out; omega), List.take_of_length_le (by have := HL.out; omega)])
          have W : Hid (writeS s nm.data.toList l = { chg s with fs := put (chg s).fs nm.data.toList (l.take m) }) := Lib.hid (by rw [WS.out, if_pos co, if_pos hR, et.out])
          have SF : Sl w3 (.slice da m dc) (l.take m) := sl_front S3.out (by rw [HL.out]; exact hmn)
          have CV := SF.conv (brefl w3)
          have hm' : min s.keep (n : Int) = (m : Int) := hm.symm
          have m0 : (0 : Int) ≤ (m : Int) := by omega
          have m1 : (m : Int) ≤ (dc : Int) := by omega
          have PT := Lib.hid (rput_c (nm := nm) P3.out LF.out HN.out SF.2.1 (by rw [List.length_take]; omega))
          clear hm et WS hR SF hmn
          go_wp2_with fail
          refine PT.out.mono ?_
          rintro e w5 ⟨rfl, hr⟩
          have Q := Lib.hid (Rt.tr hr (fun k q => .inl q) T3.out)
          clear PT hr CV
          go_wp2_with fail
          go_ret
          exact ⟨by rw [WE.out, E0.out]; rfl, by rw [W.out]; exact Q.out⟩
        · have e2 : decide (0 ≤ s.keep) = false := decide_eq_false hR
          have W : Hid (writeS s nm.data.toList l = chg s) := Lib.hid (by rw [WS.out, if_pos co, if_neg hR])
          clear WS hR
          go_wp2_with fail
          go_ret
          exact ⟨by rw [WE.out, E0.out]; rfl, by rw [W.out]; exact ⟨X, P3.out, fun k hk => .inl hk, T3.out⟩⟩
      | false =>
        have E0 : Hid (chgE s = 0) := Lib.hid (by unfold chgE; rw [if_neg (by rw [co]; decide)])
        have W : Hid (writeS s nm.data.toList l = { chg s with fs := put (chg s).fs nm.data.toList l }) := Lib.hid (by rw [WS.out, if_neg (by rw [co]; decide)])
        have CV := S3.out.conv (brefl w3)
        rw [HL.out] at CV
        have PT := Lib.hid (rput_c (nm := nm) P3.out LF.out HN.out S3.out.2.1 (by rw [HL.out]; exact c4))
        clear WS c3
        go_wp2_with fail
        refine PT.out.mono ?_
        rintro e w5 ⟨rfl, hr⟩
        have Q := Lib.hid (Rt.tr hr (fun k q => .inl q) T3.out)
        clear PT hr CV
        go_wp2_with fail
        go_ret
        exact ⟨by rw [WE.out, E0.out]; rfl, by rw [W.out]; exact Q.out⟩
end Go.Proofs.YtkjolaoajbdomaaGreatDoor.Dk
