/-
  The contract of the document's Cut.
  Conditions: none.
-/
import Derived.Deep.RegionHeld3
import Derived.Test.YteigmnbbfmcihaaCtO
namespace Go.Proofs.Yteigmnbbfmcihaa.Ct
open Go.RowKit Go.ChangeShapes Go.WideShapes Go.ChangeAt Go.Joins By
set_option linter.unusedVariables false
set_option linter.unusedSimpArgs false

set_option maxRecDepth 100000 in
set_option maxHeartbeats 16000000 in
theorem rCut_any {f : Fr} {dv v : Value} {n : Nat} {g : Nat → Nat} {w : World} (P : Fm w f dv) (S : Sb w v n g) (hn : n ≤ 140737488351232) : Calls Try.prog 15 #[FV f dv, v] w fun e w' => PCut f n g w e w' := by
  obtain ⟨da, dc, rfl⟩ := P.form
  obtain ⟨sa, sc, rfl⟩ := S.form
  have hd := P.1
  have SS := Lib.hid S
  have n0 : (0 : Int) ≤ (n : Int) := by omega
  have n1 : (n : Int) ≤ 140737488351232 := by omega
  have q3 : (n : Int) ≤ (sc : Int) := by obtain ⟨_, _, e, h, _⟩ := S; cases e; omega
  have q4 : (sc : Int) ≤ 9223372036854775807 := by obtain ⟨_, _, e, h, h', _⟩ := S; cases e; omega
  have IS := Lib.hid (fun z => Is_c f da dc hd z)
  have B0 := Lib.hid (balloc (brefl w) (.cells #[.int .i64 f.ver, .bool f.resp, .bool f.er, .bool f.more, .int .i64 f.op, .int .i64 f.seq, .int .i64 f.st, .int .i64 f.asc, .int .i64 f.off, (.slice da f.dat.length dc)] 24))
  have N : Hid (Blk (w.alloc (.cells #[.int .i64 f.ver, .bool f.resp, .bool f.er, .bool f.more, .int .i64 f.op, .int .i64 f.seq, .int .i64 f.st, .int .i64 f.asc, .int .i64 f.off, (.slice da f.dat.length dc)] 24)) w.heap.size (fvs f (.slice da f.dat.length dc))) := Lib.hid (Blk.new' w #[.int .i64 f.ver, .bool f.resp, .bool f.er, .bool f.more, .int .i64 f.op, .int .i64 f.seq, .int .i64 f.st, .int .i64 f.asc, .int .i64 f.off, (.slice da f.dat.length dc)] 24)
  clear S P
  go_enter Try.func15, Try.ntmps15
  go_upto_region 1 with fail
  generalize w.alloc (.cells #[.int .i64 f.ver, .bool f.resp, .bool f.er, .bool f.more, .int .i64 f.op, .int .i64 f.seq, .int .i64 f.st, .int .i64 f.asc, .int .i64 f.off, (.slice da f.dat.length dc)] 24) = w1 at *
  have L1 : w.heap.size < w1.heap.size := N.out.1
  go_wp2_with (refine wpList_load_mid rfl 24 _ rfl _ 0 rfl (fvs f (.slice da f.dat.length dc)) _ N.out.range Try.underlying24 rfl (by rw [fvs_len]; exact info_fr) ?_)
  refine (IS.out _).mono ?_
  rintro e w2 ⟨rfl, hb⟩
  have B2 := Lib.hid (hb.mono (Nat.le_of_lt L1) |> B0.out.trans)
  have N2 := Lib.hid (N.out.below hb)
  have L2 := Nat.lt_of_lt_of_le L1 hb.size
  clear IS hb N B0 L1
  cases c : okFr f with
  | false =>
    have DE : Hid (ce f n = 3) := Lib.hid (by unfold ce; rw [c]; rfl)
    have DC : Hid (cp f n g = []) := Lib.hid (by unfold cp; rw [DE.out]; rfl)
    clear c
    go_wp2_with fail
    go_ret2
    exact ⟨⟨_, [], by rw [DE.out]; rfl, Rowf.nil _ _, by rw [DC.out]; rfl, List.Pairwise.nil⟩, B2.out⟩
  | true =>
    by_cases c2 : n ≤ 65535
    case neg =>
      have DE : Hid (ce f n = 21) := Lib.hid (by unfold ce; rw [if_pos c, if_neg c2])
      have DC : Hid (cp f n g = []) := Lib.hid (by unfold cp; rw [DE.out]; rfl)
      have e1 : decide ((65535 : Int) < (n : Int)) = true := decide_eq_true (by omega)
      clear c c2
      go_wp2_with fail
      go_ret2
      exact ⟨⟨_, [], by rw [DE.out]; rfl, Rowf.nil _ _, by rw [DC.out]; rfl, List.Pairwise.nil⟩, B2.out⟩
    have DE : Hid (ce f n = 0) := Lib.hid (by unfold ce; rw [if_pos c, if_pos c2])
    have DC : Hid (cp f n g = (List.range (npc n)).map (pc f n g)) := Lib.hid (by unfold cp; rw [DE.out]; rfl)
    have e1 : decide ((65535 : Int) < (n : Int)) = false := decide_eq_false (by omega)
    have n2 : (n : Int) ≤ 65535 := by omega
    have HP := Lib.hid (npc_le c2)
    clear c c2
    go_upto_region 7 with fail
    go_loopw [6, 7] (fun v iv wr => ∃ i row, i ≤ npc n ∧ iv = .int .i64 ((468 * i : Nat) : Int) ∧ Rowf wr w2.heap.size v row ∧ row.map Prod.fst = (List.range i).map (pc f n g) ∧ row.Pairwise Dj ∧ Blk wr w.heap.size (fvs f (.slice da f.dat.length dc)) ∧ Below w.heap.size w wr ∧ w2.heap.size ≤ wr.heap.size) (fun _ iv _ => 468 * npc n + 468 - (intOf iv).toNat)
    case atStart => exact ⟨0, [], Nat.zero_le _, rfl, Rowf.nil _ _, rfl, List.Pairwise.nil, N2.out, B2.out, Nat.le_refl _⟩
    case round =>
      obtain ⟨i, row, hi, rfl, hr, hm, hpw, hn, hb, hs⟩ := hrel
      rename World => wr
      have HR := Lib.hid hr
      have HM := Lib.hid hm
      have HPW := Lib.hid hpw
      have HN := Lib.hid hn
      have HB := Lib.hid hb
      have NI := Lib.hid (@npc_iff n i)
      have HI := Lib.hid hi
      obtain ⟨ra, rc, ev⟩ := ownR_form hr.1
      subst ev
      clear hr hm hpw hn hb B2 N2
      by_cases ci : i = 0
      · subst ci
        rw [show ((468 * 0 : Nat) : Int) = 0 from rfl]
        clear NI HI
        have NI0 := Lib.hid (npc_iff.2 (Or.inl rfl) : 0 < npc n)
        by_cases cm : 468 ≤ n
        · obtain ⟨b, o, rfl, BB⟩ : ∃ b o, sa = some ⟨b, o, none⟩ ∧ Bs w b o n g := by obtain ⟨_, _, e, _, _, _, h, _⟩ := SS.out; cases e; exact h (by omega)
          have em : decide ((468 : Int) ≤ (n : Int)) = true := decide_eq_true (by omega)
          have em' : (468 : Int) ≤ (n : Int) := by omega
          have mq : min (468 * 0 + 468) n - 468 * 0 = 468 := by omega
          have HMO : Hid (decide (468 * 0 + 468 < n) = decide ((468 : Int) < (n : Int))) := Lib.hid (decide_eq_decide.2 (by omega))
          have CS : Sl wr (.slice (some ⟨b, o, none⟩) 468 sc) (bl (fun k => g (0 + k)) 468) := sb_sl ⟨some ⟨b, o, none⟩, sc, rfl, by omega, by omega, fun k => BB.2.1 _, fun _ => ⟨b, o, rfl, (BB.below HB.out).part 0 468 (by omega)⟩, fun e => by cases e⟩ (by omega)
          obtain ⟨MO, hMO⟩ : ∃ M, decide ((468 : Int) < (n : Int)) = M := ⟨_, rfl⟩
          rw [hMO] at HMO
          have z0 : w.heap.size < wr.heap.size := Nat.lt_of_lt_of_le L2 hs
          have EPC : Hid (pc f n g 0 = ({ f with off := ((0 : Nat) : Int), more := MO, dat := bl (fun k => g (0 + k)) 468 } : Fr)) := Lib.hid (by unfold pc; rw [mq, HMO.out])
          have CSH := Lib.hid CS
          clear CS mq HMO
          go_upto_region 9 with fail
          go_upto_region 10 with (refine wpList_load_mid rfl 24 _ rfl _ 0 rfl [.int .i64 f.ver, .bool f.resp, .bool f.er, .bool f.more, .int .i64 f.op, .int .i64 f.seq, .int .i64 f.st, .int .i64 f.asc, .int .i64 f.off, (.slice da f.dat.length dc)] _ HN.out.range Try.underlying24 rfl (by exact info_fr) ?_)
          have BA := balloc (brefl wr) (.cells #[.int .i64 f.ver, .bool f.resp, .bool f.er, .bool f.more, .int .i64 f.op, .int .i64 f.seq, .int .i64 f.st, .int .i64 f.asc, .int .i64 f.off, (.slice da f.dat.length dc)] 24)
          have NA : Blk (wr.alloc (.cells #[.int .i64 f.ver, .bool f.resp, .bool f.er, .bool f.more, .int .i64 f.op, .int .i64 f.seq, .int .i64 f.st, .int .i64 f.asc, .int .i64 f.off, (.slice da f.dat.length dc)] 24)) wr.heap.size (fvs f (.slice da f.dat.length dc)) := Blk.new' wr #[.int .i64 f.ver, .bool f.resp, .bool f.er, .bool f.more, .int .i64 f.op, .int .i64 f.seq, .int .i64 f.st, .int .i64 f.asc, .int .i64 f.off, (.slice da f.dat.length dc)] 24
          have KB := Lib.hid (BA)
          generalize wr.alloc (.cells #[.int .i64 f.ver, .bool f.resp, .bool f.er, .bool f.more, .int .i64 f.op, .int .i64 f.seq, .int .i64 f.st, .int .i64 f.asc, .int .i64 f.off, (.slice da f.dat.length dc)] 24) = wa at *
          have NR := Lib.hid NA
          have hba : wr.heap.size < wa.heap.size := NA.1
          obtain ⟨y9, u9⟩ := NA.2 9 _ rfl
          clear NA BA
          go_upto_region 11 with fail
          have N1 := Lib.hid (blk_set NR.out 9 (.slice none 0 0))
          have B1 := Lib.hid (below_set KB.out (Nat.le_refl _) 9 (.slice none 0 0))
          have hs1 : wr.heap.size < (wa.setCell ⟨wr.heap.size, 9, none⟩ (.slice none 0 0)).heap.size := N1.out.1
          clear y9 u9 NR KB hba
          generalize wa.setCell ⟨wr.heap.size, 9, none⟩ (.slice none 0 0) = wb at *
          have SB1 := Sl.below (CSH.out.below B1.out) ((brefl wb).drew)
          obtain ⟨v3, w3, hr3, o3, b3, _, _⟩ := SB1.app (brefl _) (Own.nil wb.drew wb.drew.heap.size) (Nat.le_refl _) (by rw [bl_len]; simp <;> omega) 22
          rw [List.nil_append] at o3
          obtain ⟨va, vc, rfl⟩ := own_form o3
          simp only [bl_len] at o3 hr3
          have HR3 := Lib.hid hr3
          have O3 := Lib.hid o3
          have N3 := Lib.hid (N1.out.below ((brefl wb).drew.trans b3))
          have B3 := Lib.hid (bstep B1.out ((brefl wb).drew.trans b3))
          have KC : Hid (∀ z, Below wb.heap.size wb z → z.cell? ⟨wr.heap.size, 9, none⟩ = some (.slice none 0 0) ∧ Below wb.heap.size wb z) := Lib.hid fun z k => ⟨((N1.out.below k).2 9 _ rfl).1, k⟩
          have KD := Lib.hid (KC.out _ ((brefl wb).drew))
          have u3 : w3.frozen? ⟨wr.heap.size, 9, none⟩ = false := (N3.out.2 9 _ rfl).2
          have y3 : w3.cell? ⟨wr.heap.size, 9, none⟩ = some (.slice none 0 0) := (N3.out.2 9 _ rfl).1
          have yd : wb.drew.cell? ⟨wr.heap.size, 9, none⟩ = some (.slice none 0 0) := KD.out.1
          have bn1 : (468 : Int) ≤ (sc : Int) := by omega
          clear hr3 o3 b3 SB1
          refine wp_region_noPanic ?_
          refine wp_region_held_drew (S := fun z => True) (by kernel_rfl) trivial (fun hHeld => ?_)
          refine wpAnyH_take (i := 0) (v := ?_) rfl (by kernel_rfl) (by kernel_rfl) (by kernel_rfl) (fun _ _ _ h => h) (Or.inl ⟨by rfl, ?_⟩) hHeld ?_
          rotate_left
          · ((intro w hSw; (try dsimp only at hSw); go_simp); try with_reducible rfl)
          (try simp only [List.getElem_toArray, List.getElem_cons_succ, List.getElem_cons_zero, Act.put, List.setIfInBounds_toArray, List.set_cons_zero, List.set_cons_succ])
          refine wpAnyH_take (i := 2) (v := ?_) rfl (by kernel_rfl) (by kernel_rfl) (by kernel_rfl) (fun _ _ _ h => h) (Or.inl ⟨by rfl, ?_⟩) hHeld ?_
          rotate_left
          · ((intro w hSw; (try dsimp only at hSw); go_simp); try with_reducible rfl)
          (try simp only [List.getElem_toArray, List.getElem_cons_succ, List.getElem_cons_zero, Act.put, List.setIfInBounds_toArray, List.set_cons_zero, List.set_cons_succ])
          refine wpAnyH_take (i := 3) (v := ?_) rfl (by kernel_rfl) (by kernel_rfl) (by kernel_rfl) (fun _ _ _ h => h) (Or.inl ⟨by rfl, ?_⟩) hHeld ?_
          rotate_left
          · ((intro w hSw; (try dsimp only at hSw); go_simp); try with_reducible rfl)
          (try simp only [List.getElem_toArray, List.getElem_cons_succ, List.getElem_cons_zero, Act.put, List.setIfInBounds_toArray, List.set_cons_zero, List.set_cons_succ])
          refine wpAnyH_take (i := 4) (v := ?_) rfl (by kernel_rfl) (by kernel_rfl) (by kernel_rfl) (fun _ _ _ h => h) (Or.inl ⟨by rfl, ?_⟩) hHeld ?_
          rotate_left
          · ((intro w hSw; (try dsimp only at hSw); go_simp); try with_reducible rfl)
          (try simp only [List.getElem_toArray, List.getElem_cons_succ, List.getElem_cons_zero, Act.put, List.setIfInBounds_toArray, List.set_cons_zero, List.set_cons_succ])
          refine wpAnyH_take (i := 5) (v := ?_) rfl (by kernel_rfl) (by kernel_rfl) (by kernel_rfl) (fun _ _ _ h => h) (Or.inl ⟨by rfl, ?_⟩) hHeld ?_
          rotate_left
          · ((intro w hSw; (try dsimp only at hSw); go_simp); try with_reducible rfl)
          (try simp only [List.getElem_toArray, List.getElem_cons_succ, List.getElem_cons_zero, Act.put, List.setIfInBounds_toArray, List.set_cons_zero, List.set_cons_succ])
          refine wpAnyH_ready (rs := [1]) (by kernel_rfl) (by simp) (AllReadyH.cons rfl (fun KQ hKQ => ?_) AllReadyH.nil)
          go_simp
          refine hKQ.out _ _ trivial (fun hH2 => ?_)
          clear hKQ KQ hHeld
          have hHeld := hH2
          clear hH2
          (try simp only [List.getElem_toArray, List.getElem_cons_succ, List.getElem_cons_zero, Act.put, List.setIfInBounds_toArray, List.set_cons_zero, List.set_cons_succ])
          refine wpAnyH_ready (rs := [6]) (by kernel_rfl) (by simp) (AllReadyH.cons rfl (fun KQ hKQ => ?_) AllReadyH.nil)
          refine step_append_eq rfl (.tmp 32) (.tmp 36) 22 rfl (.slice none 0 0) (.slice (some ⟨b, o, none⟩) 468 sc) (.slice va 468 vc) w3 (by rfl) (by first | rfl | go_simp) HR3.out ?_
          refine hKQ.out _ _ trivial (fun hH2 => ?_)
          clear hKQ KQ hHeld
          have hHeld := hH2
          clear hH2
          (try simp only [List.getElem_toArray, List.getElem_cons_succ, List.getElem_cons_zero, Act.put, List.setIfInBounds_toArray, List.set_cons_zero, List.set_cons_succ])
          refine wpAnyH_take (i := 7) (v := ?_) rfl (by kernel_rfl) (by kernel_rfl) (by kernel_rfl) (fun _ _ _ h => h) (Or.inl ⟨by rfl, ?_⟩) hHeld ?_
          rotate_left
          · ((intro w hSw; (try dsimp only at hSw); go_simp); try with_reducible rfl)
          (try simp only [List.getElem_toArray, List.getElem_cons_succ, List.getElem_cons_zero, Act.put, List.setIfInBounds_toArray, List.set_cons_zero, List.set_cons_succ])
          refine wpAnyH_ready (rs := [8]) (by kernel_rfl) (by simp) (AllReadyH.cons rfl (fun KQ hKQ => ?_) AllReadyH.nil)
          go_simp
          refine hKQ.out _ _ trivial (fun hH2 => ?_)
          clear hKQ KQ hHeld
          have hHeld := hH2
          clear hH2
          (try simp only [List.getElem_toArray, List.getElem_cons_succ, List.getElem_cons_zero, Act.put, List.setIfInBounds_toArray, List.set_cons_zero, List.set_cons_succ])
          refine wpAnyH_done (by kernel_rfl) ?_ _
          refine NoPanic.normal ?_
          have N4 := Lib.hid (blk_set N3.out 9 (.slice va 468 vc))
          have O4 := Lib.hid (show Own _ _ _ _ from row_set (v := .slice va 468 vc) O3.out (b := wr.heap.size) (fun q => by have h := (Own.block O3.out) _ q; have h2 : wb.drew.heap.size = wb.heap.size := rfl; omega) 9 (.slice va 468 vc))
          have B4 := Lib.hid (below_set B3.out (Nat.le_refl _) 9 (.slice va 468 vc))
          clear u3 y3 yd hHeld KC KD HR3 N3 O3 B3 N1 CSH
          generalize w3.setCell ⟨wr.heap.size, 9, none⟩ (.slice va 468 vc) = wc at *
          obtain ⟨y8, u8⟩ := N4.out.2 8 _ rfl
          obtain ⟨y3, u3⟩ := N4.out.2 3 _ rfl
          have hov : ∀ q, (Value.slice va 468 vc).ownBlock = some q → q ≠ wr.heap.size := fun q h => by have := (Own.block O4.out) q h; have h2 : wb.drew.heap.size = wb.heap.size := rfl; omega
          have N6 : Hid (Blk ((wc.setCell ⟨wr.heap.size, 8, none⟩ (.int .i64 0)).setCell ⟨wr.heap.size, 3, none⟩ (.bool MO)) wr.heap.size (fvs { f with off := ((0 : Nat) : Int), more := MO, dat := bl (fun k => g (0 + k)) 468 } (.slice va 468 vc))) := Lib.hid (blk_set (blk_set N4.out 8 _) 3 _)
          have O6 := Lib.hid (show Own _ _ _ _ from row_set (v := .slice va 468 vc) (row_set (v := .slice va 468 vc) O4.out (b := wr.heap.size) (fun q => hov _ q rfl) 8 (.int .i64 0)) (b := wr.heap.size) (fun q => hov _ q rfl) 3 (.bool MO))
          have B6 := Lib.hid (below_set (below_set B4.out (Nat.le_refl _) 8 (.int .i64 0)) (Nat.le_refl _) 3 (.bool MO))
          have OB := Lib.hid (fun q (h : (Value.slice va 468 vc).ownBlock = some q) => (by have := (Own.block O4.out) q h; have h2 : wb.drew.heap.size = wb.heap.size := rfl; omega : wr.heap.size ≤ q))
          clear N4 O4 B4 hov
          go_upto_region 14 with fail
          clear y8 u8 y3 u3
          generalize (wc.setCell ⟨wr.heap.size, 8, none⟩ (.int .i64 0)).setCell ⟨wr.heap.size, 3, none⟩ (.bool MO) = w4 at *
          have HRL : Hid (row.length = 0) := Lib.hid (by have := congrArg List.length HM.out; simpa using this)
          have R4 := Lib.hid (HR.out.below B6.out)
          have hs4 : w2.heap.size ≤ w4.heap.size := Nat.le_trans hs B6.out.size
          have NB4 := Lib.hid (HN.out.below B6.out)
          have BW4 := Lib.hid (bstep HB.out B6.out)
          obtain ⟨v5, w5, hr5, o5, b5, g5⟩ := appR R4.out.1 { f with off := ((0 : Nat) : Int), more := MO, dat := bl (fun k => g (0 + k)) 468 } (.slice va 468 vc) rfl hs4 (by rw [HRL.out]; omega) 37
          have PW := Lib.hid (show (row ++ [(({ f with off := ((0 : Nat) : Int), more := MO, dat := bl (fun k => g (0 + k)) 468 } : Fr), Value.slice va 468 vc)]).Pairwise Dj from List.pairwise_append.2 ⟨HPW.out, List.pairwise_singleton _ _, fun x hx y hy g' hg' q => by
            rw [List.mem_singleton.1 hy] at q
            have h1 := ((HR.out.2 x hx).lt g' hg').2
            have h2 := OB.out g' q
            omega⟩)
          have R5 := Lib.hid (R4.out.snoc (O6.out.le (by have h2 : wb.drew.heap.size = wb.heap.size := rfl; omega)) o5 g5)
          have HR5 := Lib.hid hr5
          have N5 := Lib.hid (NB4.out.belowB L2 b5)
          have B5 := Lib.hid (BW4.out.trans (b5.mono (Nat.le_of_lt L2)))
          have hs5 := Nat.le_trans hs4 b5.size
          clear hr5 o5 b5 g5 R4 O6
          go_wp2_with (first | (refine wpList_load_mid rfl 24 _ rfl _ 0 rfl [.int .i64 f.ver, .bool f.resp, .bool f.er, .bool MO, .int .i64 f.op, .int .i64 f.seq, .int .i64 f.st, .int .i64 f.asc, .int .i64 0, .slice va 468 vc] _ N6.out.range Try.underlying24 rfl (by exact info_fr) ?_) | (at_builtin; refine wpList_append_eq rfl _ _ 37 rfl _ _ v5 w5 rfl rfl HR5.out ?_))
          exact ⟨⟨0 + 1, row ++ [({ f with off := ((0 : Nat) : Int), more := MO, dat := bl (fun k => g (0 + k)) 468 }, .slice va 468 vc)], NI0.out, rfl, R5.out, by rw [List.map_append, HM.out, List.range_succ, List.map_append, List.map_singleton, List.map_singleton, EPC.out], PW.out, N5.out, B5.out, hs5⟩, by simp [intOf] <;> omega⟩
        · have em : decide ((468 : Int) ≤ (n : Int)) = false := decide_eq_false (by omega)
          have em' : ¬ ((468 : Int) ≤ (n : Int)) := by omega
          have mq : min (468 * 0 + 468) n - 468 * 0 = n := by omega
          have HMO : Hid (decide (468 * 0 + 468 < n) = false) := Lib.hid (decide_eq_false (by omega))
          have CS : Sl wr (.slice sa n sc) (bl (fun k => g (0 + k)) n) := by
            have := sb_sl (SS.out.below HB.out) (by omega)
            rwa [show (fun k => g (0 + k)) = g from funext fun k => by rw [Nat.zero_add]]
          cases sa with
          | none =>
            have z0 : w.heap.size < wr.heap.size := Nat.lt_of_lt_of_le L2 hs
            have EPC : Hid (pc f n g 0 = ({ f with off := ((0 : Nat) : Int), more := false, dat := bl (fun k => g (0 + k)) n } : Fr)) := Lib.hid (by unfold pc; rw [mq, HMO.out])
            have CSH := Lib.hid CS
            clear CS mq HMO
            go_upto_region 9 with fail
            go_upto_region 10 with (refine wpList_load_mid rfl 24 _ rfl _ 0 rfl [.int .i64 f.ver, .bool f.resp, .bool f.er, .bool f.more, .int .i64 f.op, .int .i64 f.seq, .int .i64 f.st, .int .i64 f.asc, .int .i64 f.off, (.slice da f.dat.length dc)] _ HN.out.range Try.underlying24 rfl (by exact info_fr) ?_)
            have BA := balloc (brefl wr) (.cells #[.int .i64 f.ver, .bool f.resp, .bool f.er, .bool f.more, .int .i64 f.op, .int .i64 f.seq, .int .i64 f.st, .int .i64 f.asc, .int .i64 f.off, (.slice da f.dat.length dc)] 24)
            have NA : Blk (wr.alloc (.cells #[.int .i64 f.ver, .bool f.resp, .bool f.er, .bool f.more, .int .i64 f.op, .int .i64 f.seq, .int .i64 f.st, .int .i64 f.asc, .int .i64 f.off, (.slice da f.dat.length dc)] 24)) wr.heap.size (fvs f (.slice da f.dat.length dc)) := Blk.new' wr #[.int .i64 f.ver, .bool f.resp, .bool f.er, .bool f.more, .int .i64 f.op, .int .i64 f.seq, .int .i64 f.st, .int .i64 f.asc, .int .i64 f.off, (.slice da f.dat.length dc)] 24
            have KB := Lib.hid (BA)
            generalize wr.alloc (.cells #[.int .i64 f.ver, .bool f.resp, .bool f.er, .bool f.more, .int .i64 f.op, .int .i64 f.seq, .int .i64 f.st, .int .i64 f.asc, .int .i64 f.off, (.slice da f.dat.length dc)] 24) = wa at *
            have NR := Lib.hid NA
            have hba : wr.heap.size < wa.heap.size := NA.1
            obtain ⟨y9, u9⟩ := NA.2 9 _ rfl
            clear NA BA
            go_upto_region 11 with fail
            have N1 := Lib.hid (blk_set NR.out 9 (.slice none 0 0))
            have B1 := Lib.hid (below_set KB.out (Nat.le_refl _) 9 (.slice none 0 0))
            have hs1 : wr.heap.size < (wa.setCell ⟨wr.heap.size, 9, none⟩ (.slice none 0 0)).heap.size := N1.out.1
            clear y9 u9 NR KB hba
            generalize wa.setCell ⟨wr.heap.size, 9, none⟩ (.slice none 0 0) = wb at *
            have SB1 := Sl.below (CSH.out.below B1.out) ((brefl wb).drew)
            obtain ⟨v3, w3, hr3, o3, b3, _, _⟩ := SB1.app (brefl _) (Own.nil wb.drew wb.drew.heap.size) (Nat.le_refl _) (by rw [bl_len]; simp <;> omega) 22
            rw [List.nil_append] at o3
            obtain ⟨va, vc, rfl⟩ := own_form o3
            simp only [bl_len] at o3 hr3
            have HR3 := Lib.hid hr3
            have O3 := Lib.hid o3
            have N3 := Lib.hid (N1.out.below ((brefl wb).drew.trans b3))
            have B3 := Lib.hid (bstep B1.out ((brefl wb).drew.trans b3))
            have KC : Hid (∀ z, Below wb.heap.size wb z → z.cell? ⟨wr.heap.size, 9, none⟩ = some (.slice none 0 0) ∧ Below wb.heap.size wb z) := Lib.hid fun z k => ⟨((N1.out.below k).2 9 _ rfl).1, k⟩
            have KD := Lib.hid (KC.out _ ((brefl wb).drew))
            have u3 : w3.frozen? ⟨wr.heap.size, 9, none⟩ = false := (N3.out.2 9 _ rfl).2
            have y3 : w3.cell? ⟨wr.heap.size, 9, none⟩ = some (.slice none 0 0) := (N3.out.2 9 _ rfl).1
            have yd : wb.drew.cell? ⟨wr.heap.size, 9, none⟩ = some (.slice none 0 0) := KD.out.1
            clear hr3 o3 b3 SB1
            refine wp_region_noPanic ?_
            refine wp_region_held_drew (S := fun z => True) (by kernel_rfl) trivial (fun hHeld => ?_)
            refine wpAnyH_take (i := 0) (v := ?_) rfl (by kernel_rfl) (by kernel_rfl) (by kernel_rfl) (fun _ _ _ h => h) (Or.inl ⟨by rfl, ?_⟩) hHeld ?_
            rotate_left
            · ((intro w hSw; (try dsimp only at hSw); go_simp); try with_reducible rfl)
            (try simp only [List.getElem_toArray, List.getElem_cons_succ, List.getElem_cons_zero, Act.put, List.setIfInBounds_toArray, List.set_cons_zero, List.set_cons_succ])
            refine wpAnyH_take (i := 2) (v := ?_) rfl (by kernel_rfl) (by kernel_rfl) (by kernel_rfl) (fun _ _ _ h => h) (Or.inl ⟨by rfl, ?_⟩) hHeld ?_
            rotate_left
            · ((intro w hSw; (try dsimp only at hSw); go_simp); try with_reducible rfl)
            (try simp only [List.getElem_toArray, List.getElem_cons_succ, List.getElem_cons_zero, Act.put, List.setIfInBounds_toArray, List.set_cons_zero, List.set_cons_succ])
            refine wpAnyH_take (i := 3) (v := ?_) rfl (by kernel_rfl) (by kernel_rfl) (by kernel_rfl) (fun _ _ _ h => h) (Or.inl ⟨by rfl, ?_⟩) hHeld ?_
            rotate_left
            · ((intro w hSw; (try dsimp only at hSw); go_simp); try with_reducible rfl)
            (try simp only [List.getElem_toArray, List.getElem_cons_succ, List.getElem_cons_zero, Act.put, List.setIfInBounds_toArray, List.set_cons_zero, List.set_cons_succ])
            refine wpAnyH_take (i := 4) (v := ?_) rfl (by kernel_rfl) (by kernel_rfl) (by kernel_rfl) (fun _ _ _ h => h) (Or.inl ⟨by rfl, ?_⟩) hHeld ?_
            rotate_left
            · ((intro w hSw; (try dsimp only at hSw); go_simp); try with_reducible rfl)
            (try simp only [List.getElem_toArray, List.getElem_cons_succ, List.getElem_cons_zero, Act.put, List.setIfInBounds_toArray, List.set_cons_zero, List.set_cons_succ])
            refine wpAnyH_take (i := 5) (v := ?_) rfl (by kernel_rfl) (by kernel_rfl) (by kernel_rfl) (fun _ _ _ h => h) (Or.inl ⟨by rfl, ?_⟩) hHeld ?_
            rotate_left
            · ((intro w hSw; (try dsimp only at hSw); go_simp); try with_reducible rfl)
            (try simp only [List.getElem_toArray, List.getElem_cons_succ, List.getElem_cons_zero, Act.put, List.setIfInBounds_toArray, List.set_cons_zero, List.set_cons_succ])
            refine wpAnyH_ready (rs := [1]) (by kernel_rfl) (by simp) (AllReadyH.cons rfl (fun KQ hKQ => ?_) AllReadyH.nil)
            go_simp
            refine hKQ.out _ _ trivial (fun hH2 => ?_)
            clear hKQ KQ hHeld
            have hHeld := hH2
            clear hH2
            (try simp only [List.getElem_toArray, List.getElem_cons_succ, List.getElem_cons_zero, Act.put, List.setIfInBounds_toArray, List.set_cons_zero, List.set_cons_succ])
            refine wpAnyH_ready (rs := [6]) (by kernel_rfl) (by simp) (AllReadyH.cons rfl (fun KQ hKQ => ?_) AllReadyH.nil)
            refine step_append_eq rfl (.tmp 32) (.tmp 36) 22 rfl (.slice none 0 0) (.slice none n sc) (.slice va n vc) w3 (by rfl) (by first | rfl | go_simp) HR3.out ?_
            refine hKQ.out _ _ trivial (fun hH2 => ?_)
            clear hKQ KQ hHeld
            have hHeld := hH2
            clear hH2
            (try simp only [List.getElem_toArray, List.getElem_cons_succ, List.getElem_cons_zero, Act.put, List.setIfInBounds_toArray, List.set_cons_zero, List.set_cons_succ])
            refine wpAnyH_take (i := 7) (v := ?_) rfl (by kernel_rfl) (by kernel_rfl) (by kernel_rfl) (fun _ _ _ h => h) (Or.inl ⟨by rfl, ?_⟩) hHeld ?_
            rotate_left
            · ((intro w hSw; (try dsimp only at hSw); go_simp); try with_reducible rfl)
            (try simp only [List.getElem_toArray, List.getElem_cons_succ, List.getElem_cons_zero, Act.put, List.setIfInBounds_toArray, List.set_cons_zero, List.set_cons_succ])
            refine wpAnyH_ready (rs := [8]) (by kernel_rfl) (by simp) (AllReadyH.cons rfl (fun KQ hKQ => ?_) AllReadyH.nil)
            go_simp
            refine hKQ.out _ _ trivial (fun hH2 => ?_)
            clear hKQ KQ hHeld
            have hHeld := hH2
            clear hH2
            (try simp only [List.getElem_toArray, List.getElem_cons_succ, List.getElem_cons_zero, Act.put, List.setIfInBounds_toArray, List.set_cons_zero, List.set_cons_succ])
            refine wpAnyH_done (by kernel_rfl) ?_ _
            refine NoPanic.normal ?_
            have N4 := Lib.hid (blk_set N3.out 9 (.slice va n vc))
            have O4 := Lib.hid (show Own _ _ _ _ from row_set (v := .slice va n vc) O3.out (b := wr.heap.size) (fun q => by have h := (Own.block O3.out) _ q; have h2 : wb.drew.heap.size = wb.heap.size := rfl; omega) 9 (.slice va n vc))
            have B4 := Lib.hid (below_set B3.out (Nat.le_refl _) 9 (.slice va n vc))
            clear u3 y3 yd hHeld KC KD HR3 N3 O3 B3 N1 CSH
            generalize w3.setCell ⟨wr.heap.size, 9, none⟩ (.slice va n vc) = wc at *
            obtain ⟨y8, u8⟩ := N4.out.2 8 _ rfl
            obtain ⟨y3, u3⟩ := N4.out.2 3 _ rfl
            have hov : ∀ q, (Value.slice va n vc).ownBlock = some q → q ≠ wr.heap.size := fun q h => by have := (Own.block O4.out) q h; have h2 : wb.drew.heap.size = wb.heap.size := rfl; omega
            have N6 : Hid (Blk ((wc.setCell ⟨wr.heap.size, 8, none⟩ (.int .i64 0)).setCell ⟨wr.heap.size, 3, none⟩ (.bool false)) wr.heap.size (fvs { f with off := ((0 : Nat) : Int), more := false, dat := bl (fun k => g (0 + k)) n } (.slice va n vc))) := Lib.hid (blk_set (blk_set N4.out 8 _) 3 _)
            have O6 := Lib.hid (show Own _ _ _ _ from row_set (v := .slice va n vc) (row_set (v := .slice va n vc) O4.out (b := wr.heap.size) (fun q => hov _ q rfl) 8 (.int .i64 0)) (b := wr.heap.size) (fun q => hov _ q rfl) 3 (.bool false))
            have B6 := Lib.hid (below_set (below_set B4.out (Nat.le_refl _) 8 (.int .i64 0)) (Nat.le_refl _) 3 (.bool false))
            have OB := Lib.hid (fun q (h : (Value.slice va n vc).ownBlock = some q) => (by have := (Own.block O4.out) q h; have h2 : wb.drew.heap.size = wb.heap.size := rfl; omega : wr.heap.size ≤ q))
            clear N4 O4 B4 hov
            go_upto_region 14 with fail
            clear y8 u8 y3 u3
            generalize (wc.setCell ⟨wr.heap.size, 8, none⟩ (.int .i64 0)).setCell ⟨wr.heap.size, 3, none⟩ (.bool false) = w4 at *
            have HRL : Hid (row.length = 0) := Lib.hid (by have := congrArg List.length HM.out; simpa using this)
            have R4 := Lib.hid (HR.out.below B6.out)
            have hs4 : w2.heap.size ≤ w4.heap.size := Nat.le_trans hs B6.out.size
            have NB4 := Lib.hid (HN.out.below B6.out)
            have BW4 := Lib.hid (bstep HB.out B6.out)
            obtain ⟨v5, w5, hr5, o5, b5, g5⟩ := appR R4.out.1 { f with off := ((0 : Nat) : Int), more := false, dat := bl (fun k => g (0 + k)) n } (.slice va n vc) rfl hs4 (by rw [HRL.out]; omega) 37
            have PW := Lib.hid (show (row ++ [(({ f with off := ((0 : Nat) : Int), more := false, dat := bl (fun k => g (0 + k)) n } : Fr), Value.slice va n vc)]).Pairwise Dj from List.pairwise_append.2 ⟨HPW.out, List.pairwise_singleton _ _, fun x hx y hy g' hg' q => by
              rw [List.mem_singleton.1 hy] at q
              have h1 := ((HR.out.2 x hx).lt g' hg').2
              have h2 := OB.out g' q
              omega⟩)
            have R5 := Lib.hid (R4.out.snoc (O6.out.le (by have h2 : wb.drew.heap.size = wb.heap.size := rfl; omega)) o5 g5)
            have HR5 := Lib.hid hr5
            have N5 := Lib.hid (NB4.out.belowB L2 b5)
            have B5 := Lib.hid (BW4.out.trans (b5.mono (Nat.le_of_lt L2)))
            have hs5 := Nat.le_trans hs4 b5.size
            clear hr5 o5 b5 g5 R4 O6
            go_wp2_with (first | (refine wpList_load_mid rfl 24 _ rfl _ 0 rfl [.int .i64 f.ver, .bool f.resp, .bool f.er, .bool false, .int .i64 f.op, .int .i64 f.seq, .int .i64 f.st, .int .i64 f.asc, .int .i64 0, .slice va n vc] _ N6.out.range Try.underlying24 rfl (by exact info_fr) ?_) | (at_builtin; refine wpList_append_eq rfl _ _ 37 rfl _ _ v5 w5 rfl rfl HR5.out ?_))
            exact ⟨⟨0 + 1, row ++ [({ f with off := ((0 : Nat) : Int), more := false, dat := bl (fun k => g (0 + k)) n }, .slice va n vc)], NI0.out, rfl, R5.out, by rw [List.map_append, HM.out, List.range_succ, List.map_append, List.map_singleton, List.map_singleton, EPC.out], PW.out, N5.out, B5.out, hs5⟩, by simp [intOf] <;> omega⟩
          | some ad =>
            have z0 : w.heap.size < wr.heap.size := Nat.lt_of_lt_of_le L2 hs
            have EPC : Hid (pc f n g 0 = ({ f with off := ((0 : Nat) : Int), more := false, dat := bl (fun k => g (0 + k)) n } : Fr)) := Lib.hid (by unfold pc; rw [mq, HMO.out])
            have CSH := Lib.hid CS
            clear CS mq HMO
            go_upto_region 9 with fail
            go_upto_region 10 with (refine wpList_load_mid rfl 24 _ rfl _ 0 rfl [.int .i64 f.ver, .bool f.resp, .bool f.er, .bool f.more, .int .i64 f.op, .int .i64 f.seq, .int .i64 f.st, .int .i64 f.asc, .int .i64 f.off, (.slice da f.dat.length dc)] _ HN.out.range Try.underlying24 rfl (by exact info_fr) ?_)
            have BA := balloc (brefl wr) (.cells #[.int .i64 f.ver, .bool f.resp, .bool f.er, .bool f.more, .int .i64 f.op, .int .i64 f.seq, .int .i64 f.st, .int .i64 f.asc, .int .i64 f.off, (.slice da f.dat.length dc)] 24)
            have NA : Blk (wr.alloc (.cells #[.int .i64 f.ver, .bool f.resp, .bool f.er, .bool f.more, .int .i64 f.op, .int .i64 f.seq, .int .i64 f.st, .int .i64 f.asc, .int .i64 f.off, (.slice da f.dat.length dc)] 24)) wr.heap.size (fvs f (.slice da f.dat.length dc)) := Blk.new' wr #[.int .i64 f.ver, .bool f.resp, .bool f.er, .bool f.more, .int .i64 f.op, .int .i64 f.seq, .int .i64 f.st, .int .i64 f.asc, .int .i64 f.off, (.slice da f.dat.length dc)] 24
            have KB := Lib.hid (BA)
            generalize wr.alloc (.cells #[.int .i64 f.ver, .bool f.resp, .bool f.er, .bool f.more, .int .i64 f.op, .int .i64 f.seq, .int .i64 f.st, .int .i64 f.asc, .int .i64 f.off, (.slice da f.dat.length dc)] 24) = wa at *
            have NR := Lib.hid NA
            have hba : wr.heap.size < wa.heap.size := NA.1
            obtain ⟨y9, u9⟩ := NA.2 9 _ rfl
            clear NA BA
            go_upto_region 11 with fail
            have N1 := Lib.hid (blk_set NR.out 9 (.slice none 0 0))
            have B1 := Lib.hid (below_set KB.out (Nat.le_refl _) 9 (.slice none 0 0))
            have hs1 : wr.heap.size < (wa.setCell ⟨wr.heap.size, 9, none⟩ (.slice none 0 0)).heap.size := N1.out.1
            clear y9 u9 NR KB hba
            generalize wa.setCell ⟨wr.heap.size, 9, none⟩ (.slice none 0 0) = wb at *
            have SB1 := Sl.below (CSH.out.below B1.out) ((brefl wb).drew)
            obtain ⟨v3, w3, hr3, o3, b3, _, _⟩ := SB1.app (brefl _) (Own.nil wb.drew wb.drew.heap.size) (Nat.le_refl _) (by rw [bl_len]; simp <;> omega) 22
            rw [List.nil_append] at o3
            obtain ⟨va, vc, rfl⟩ := own_form o3
            simp only [bl_len] at o3 hr3
            have HR3 := Lib.hid hr3
            have O3 := Lib.hid o3
            have N3 := Lib.hid (N1.out.below ((brefl wb).drew.trans b3))
            have B3 := Lib.hid (bstep B1.out ((brefl wb).drew.trans b3))
            have KC : Hid (∀ z, Below wb.heap.size wb z → z.cell? ⟨wr.heap.size, 9, none⟩ = some (.slice none 0 0) ∧ Below wb.heap.size wb z) := Lib.hid fun z k => ⟨((N1.out.below k).2 9 _ rfl).1, k⟩
            have KD := Lib.hid (KC.out _ ((brefl wb).drew))
            have u3 : w3.frozen? ⟨wr.heap.size, 9, none⟩ = false := (N3.out.2 9 _ rfl).2
            have y3 : w3.cell? ⟨wr.heap.size, 9, none⟩ = some (.slice none 0 0) := (N3.out.2 9 _ rfl).1
            have yd : wb.drew.cell? ⟨wr.heap.size, 9, none⟩ = some (.slice none 0 0) := KD.out.1
            clear hr3 o3 b3 SB1
            refine wp_region_noPanic ?_
            refine wp_region_held_drew (S := fun z => True) (by kernel_rfl) trivial (fun hHeld => ?_)
            refine wpAnyH_take (i := 0) (v := ?_) rfl (by kernel_rfl) (by kernel_rfl) (by kernel_rfl) (fun _ _ _ h => h) (Or.inl ⟨by rfl, ?_⟩) hHeld ?_
            rotate_left
            · ((intro w hSw; (try dsimp only at hSw); go_simp); try with_reducible rfl)
            (try simp only [List.getElem_toArray, List.getElem_cons_succ, List.getElem_cons_zero, Act.put, List.setIfInBounds_toArray, List.set_cons_zero, List.set_cons_succ])
            refine wpAnyH_take (i := 2) (v := ?_) rfl (by kernel_rfl) (by kernel_rfl) (by kernel_rfl) (fun _ _ _ h => h) (Or.inl ⟨by rfl, ?_⟩) hHeld ?_
            rotate_left
            · ((intro w hSw; (try dsimp only at hSw); go_simp); try with_reducible rfl)
            (try simp only [List.getElem_toArray, List.getElem_cons_succ, List.getElem_cons_zero, Act.put, List.setIfInBounds_toArray, List.set_cons_zero, List.set_cons_succ])
            refine wpAnyH_take (i := 3) (v := ?_) rfl (by kernel_rfl) (by kernel_rfl) (by kernel_rfl) (fun _ _ _ h => h) (Or.inl ⟨by rfl, ?_⟩) hHeld ?_
            rotate_left
            · ((intro w hSw; (try dsimp only at hSw); go_simp); try with_reducible rfl)
            (try simp only [List.getElem_toArray, List.getElem_cons_succ, List.getElem_cons_zero, Act.put, List.setIfInBounds_toArray, List.set_cons_zero, List.set_cons_succ])
            refine wpAnyH_take (i := 4) (v := ?_) rfl (by kernel_rfl) (by kernel_rfl) (by kernel_rfl) (fun _ _ _ h => h) (Or.inl ⟨by rfl, ?_⟩) hHeld ?_
            rotate_left
            · ((intro w hSw; (try dsimp only at hSw); go_simp); try with_reducible rfl)
            (try simp only [List.getElem_toArray, List.getElem_cons_succ, List.getElem_cons_zero, Act.put, List.setIfInBounds_toArray, List.set_cons_zero, List.set_cons_succ])
            refine wpAnyH_take (i := 5) (v := ?_) rfl (by kernel_rfl) (by kernel_rfl) (by kernel_rfl) (fun _ _ _ h => h) (Or.inl ⟨by rfl, ?_⟩) hHeld ?_
            rotate_left
            · ((intro w hSw; (try dsimp only at hSw); go_simp); try with_reducible rfl)
            (try simp only [List.getElem_toArray, List.getElem_cons_succ, List.getElem_cons_zero, Act.put, List.setIfInBounds_toArray, List.set_cons_zero, List.set_cons_succ])
            refine wpAnyH_ready (rs := [1]) (by kernel_rfl) (by simp) (AllReadyH.cons rfl (fun KQ hKQ => ?_) AllReadyH.nil)
            go_simp
            refine hKQ.out _ _ trivial (fun hH2 => ?_)
            clear hKQ KQ hHeld
            have hHeld := hH2
            clear hH2
            (try simp only [List.getElem_toArray, List.getElem_cons_succ, List.getElem_cons_zero, Act.put, List.setIfInBounds_toArray, List.set_cons_zero, List.set_cons_succ])
            refine wpAnyH_ready (rs := [6]) (by kernel_rfl) (by simp) (AllReadyH.cons rfl (fun KQ hKQ => ?_) AllReadyH.nil)
            refine step_append_eq rfl (.tmp 32) (.tmp 36) 22 rfl (.slice none 0 0) (.slice (some ad) n sc) (.slice va n vc) w3 (by rfl) (by first | rfl | go_simp) HR3.out ?_
            refine hKQ.out _ _ trivial (fun hH2 => ?_)
            clear hKQ KQ hHeld
            have hHeld := hH2
            clear hH2
            (try simp only [List.getElem_toArray, List.getElem_cons_succ, List.getElem_cons_zero, Act.put, List.setIfInBounds_toArray, List.set_cons_zero, List.set_cons_succ])
            refine wpAnyH_take (i := 7) (v := ?_) rfl (by kernel_rfl) (by kernel_rfl) (by kernel_rfl) (fun _ _ _ h => h) (Or.inl ⟨by rfl, ?_⟩) hHeld ?_
            rotate_left
            · ((intro w hSw; (try dsimp only at hSw); go_simp); try with_reducible rfl)
            (try simp only [List.getElem_toArray, List.getElem_cons_succ, List.getElem_cons_zero, Act.put, List.setIfInBounds_toArray, List.set_cons_zero, List.set_cons_succ])
            refine wpAnyH_ready (rs := [8]) (by kernel_rfl) (by simp) (AllReadyH.cons rfl (fun KQ hKQ => ?_) AllReadyH.nil)
            go_simp
            refine hKQ.out _ _ trivial (fun hH2 => ?_)
            clear hKQ KQ hHeld
            have hHeld := hH2
            clear hH2
            (try simp only [List.getElem_toArray, List.getElem_cons_succ, List.getElem_cons_zero, Act.put, List.setIfInBounds_toArray, List.set_cons_zero, List.set_cons_succ])
            refine wpAnyH_done (by kernel_rfl) ?_ _
            refine NoPanic.normal ?_
            have N4 := Lib.hid (blk_set N3.out 9 (.slice va n vc))
            have O4 := Lib.hid (show Own _ _ _ _ from row_set (v := .slice va n vc) O3.out (b := wr.heap.size) (fun q => by have h := (Own.block O3.out) _ q; have h2 : wb.drew.heap.size = wb.heap.size := rfl; omega) 9 (.slice va n vc))
            have B4 := Lib.hid (below_set B3.out (Nat.le_refl _) 9 (.slice va n vc))
            clear u3 y3 yd hHeld KC KD HR3 N3 O3 B3 N1 CSH
            generalize w3.setCell ⟨wr.heap.size, 9, none⟩ (.slice va n vc) = wc at *
            obtain ⟨y8, u8⟩ := N4.out.2 8 _ rfl
            obtain ⟨y3, u3⟩ := N4.out.2 3 _ rfl
            have hov : ∀ q, (Value.slice va n vc).ownBlock = some q → q ≠ wr.heap.size := fun q h => by have := (Own.block O4.out) q h; have h2 : wb.drew.heap.size = wb.heap.size := rfl; omega
            have N6 : Hid (Blk ((wc.setCell ⟨wr.heap.size, 8, none⟩ (.int .i64 0)).setCell ⟨wr.heap.size, 3, none⟩ (.bool false)) wr.heap.size (fvs { f with off := ((0 : Nat) : Int), more := false, dat := bl (fun k => g (0 + k)) n } (.slice va n vc))) := Lib.hid (blk_set (blk_set N4.out 8 _) 3 _)
            have O6 := Lib.hid (show Own _ _ _ _ from row_set (v := .slice va n vc) (row_set (v := .slice va n vc) O4.out (b := wr.heap.size) (fun q => hov _ q rfl) 8 (.int .i64 0)) (b := wr.heap.size) (fun q => hov _ q rfl) 3 (.bool false))
            have B6 := Lib.hid (below_set (below_set B4.out (Nat.le_refl _) 8 (.int .i64 0)) (Nat.le_refl _) 3 (.bool false))
            have OB := Lib.hid (fun q (h : (Value.slice va n vc).ownBlock = some q) => (by have := (Own.block O4.out) q h; have h2 : wb.drew.heap.size = wb.heap.size := rfl; omega : wr.heap.size ≤ q))
            clear N4 O4 B4 hov
            go_upto_region 14 with fail
            clear y8 u8 y3 u3
            generalize (wc.setCell ⟨wr.heap.size, 8, none⟩ (.int .i64 0)).setCell ⟨wr.heap.size, 3, none⟩ (.bool false) = w4 at *
            have HRL : Hid (row.length = 0) := Lib.hid (by have := congrArg List.length HM.out; simpa using this)
            have R4 := Lib.hid (HR.out.below B6.out)
            have hs4 : w2.heap.size ≤ w4.heap.size := Nat.le_trans hs B6.out.size
            have NB4 := Lib.hid (HN.out.below B6.out)
            have BW4 := Lib.hid (bstep HB.out B6.out)
            obtain ⟨v5, w5, hr5, o5, b5, g5⟩ := appR R4.out.1 { f with off := ((0 : Nat) : Int), more := false, dat := bl (fun k => g (0 + k)) n } (.slice va n vc) rfl hs4 (by rw [HRL.out]; omega) 37
            have PW := Lib.hid (show (row ++ [(({ f with off := ((0 : Nat) : Int), more := false, dat := bl (fun k => g (0 + k)) n } : Fr), Value.slice va n vc)]).Pairwise Dj from List.pairwise_append.2 ⟨HPW.out, List.pairwise_singleton _ _, fun x hx y hy g' hg' q => by
              rw [List.mem_singleton.1 hy] at q
              have h1 := ((HR.out.2 x hx).lt g' hg').2
              have h2 := OB.out g' q
              omega⟩)
            have R5 := Lib.hid (R4.out.snoc (O6.out.le (by have h2 : wb.drew.heap.size = wb.heap.size := rfl; omega)) o5 g5)
            have HR5 := Lib.hid hr5
            have N5 := Lib.hid (NB4.out.belowB L2 b5)
            have B5 := Lib.hid (BW4.out.trans (b5.mono (Nat.le_of_lt L2)))
            have hs5 := Nat.le_trans hs4 b5.size
            clear hr5 o5 b5 g5 R4 O6
            go_wp2_with (first | (refine wpList_load_mid rfl 24 _ rfl _ 0 rfl [.int .i64 f.ver, .bool f.resp, .bool f.er, .bool false, .int .i64 f.op, .int .i64 f.seq, .int .i64 f.st, .int .i64 f.asc, .int .i64 0, .slice va n vc] _ N6.out.range Try.underlying24 rfl (by exact info_fr) ?_) | (at_builtin; refine wpList_append_eq rfl _ _ 37 rfl _ _ v5 w5 rfl rfl HR5.out ?_))
            exact ⟨⟨0 + 1, row ++ [({ f with off := ((0 : Nat) : Int), more := false, dat := bl (fun k => g (0 + k)) n }, .slice va n vc)], NI0.out, rfl, R5.out, by rw [List.map_append, HM.out, List.range_succ, List.map_append, List.map_singleton, List.map_singleton, EPC.out], PW.out, N5.out, B5.out, hs5⟩, by simp [intOf] <;> omega⟩
      · obtain ⟨AT, hAT⟩ : ∃ AT, 468 * i = AT := ⟨_, rfl⟩
        rw [hAT]
        have HAT := Lib.hid hAT
        have ea : ((AT : Int) == 0) = false := by simp; omega
        have a0 : (0 : Int) ≤ (AT : Int) := by omega
        by_cases cl : AT < n
        · have el : decide ((AT : Int) < (n : Int)) = true := decide_eq_true (by omega)
          have a1 : (AT : Int) ≤ 65535 := by omega
          clear hAT
          obtain ⟨b, o, rfl, BB⟩ : ∃ b o, sa = some ⟨b, o, none⟩ ∧ Bs w b o n g := by obtain ⟨_, _, e, _, _, _, h, _⟩ := SS.out; cases e; exact h (by omega)
          have q5 : ¬ sc = AT := by omega
          have tN : ((AT : Int) + 468).toNat - AT = 468 := by omega
          by_cases cm : AT + 468 ≤ n
          · have em : decide ((AT : Int) + 468 ≤ (n : Int)) = true := decide_eq_true (by omega)
            have em' : (AT : Int) + 468 ≤ (n : Int) := by omega
            have mq : min (468 * i + 468) n - 468 * i = 468 := by have := HAT.out; omega
            have HMO : Hid (decide (468 * i + 468 < n) = decide ((AT : Int) + 468 < (n : Int))) := Lib.hid (by have := HAT.out; exact decide_eq_decide.2 (by omega))
            have CS := sb_sl (f := fun k => g (AT + k)) (n := 468) ⟨some ⟨b, o + AT, none⟩, sc - AT, rfl, by omega, by omega, fun k => BB.2.1 _, fun _ => ⟨b, o + AT, rfl, (BB.below HB.out).part AT 468 cm⟩, fun e => by cases e⟩ (by omega)
            obtain ⟨MO, hMO⟩ : ∃ M, decide ((AT : Int) + 468 < (n : Int)) = M := ⟨_, rfl⟩
            rw [hMO] at HMO
            have z0 : w.heap.size < wr.heap.size := Nat.lt_of_lt_of_le L2 hs
            have EPC : Hid (pc f n g i = ({ f with off := ((AT : Nat) : Int), more := MO, dat := bl (fun k => g (AT + k)) 468 } : Fr)) := Lib.hid (by unfold pc; rw [mq, HMO.out, HAT.out])
            have CSH := Lib.hid CS
            clear CS mq HMO BB
            go_upto_region 9 with fail
            go_upto_region 10 with (refine wpList_load_mid rfl 24 _ rfl _ 0 rfl [.int .i64 f.ver, .bool f.resp, .bool f.er, .bool f.more, .int .i64 f.op, .int .i64 f.seq, .int .i64 f.st, .int .i64 f.asc, .int .i64 f.off, (.slice da f.dat.length dc)] _ HN.out.range Try.underlying24 rfl (by exact info_fr) ?_)
            have BA := balloc (brefl wr) (.cells #[.int .i64 f.ver, .bool f.resp, .bool f.er, .bool f.more, .int .i64 f.op, .int .i64 f.seq, .int .i64 f.st, .int .i64 f.asc, .int .i64 f.off, (.slice da f.dat.length dc)] 24)
            have NA : Blk (wr.alloc (.cells #[.int .i64 f.ver, .bool f.resp, .bool f.er, .bool f.more, .int .i64 f.op, .int .i64 f.seq, .int .i64 f.st, .int .i64 f.asc, .int .i64 f.off, (.slice da f.dat.length dc)] 24)) wr.heap.size (fvs f (.slice da f.dat.length dc)) := Blk.new' wr #[.int .i64 f.ver, .bool f.resp, .bool f.er, .bool f.more, .int .i64 f.op, .int .i64 f.seq, .int .i64 f.st, .int .i64 f.asc, .int .i64 f.off, (.slice da f.dat.length dc)] 24
            have KB := Lib.hid (BA)
            generalize wr.alloc (.cells #[.int .i64 f.ver, .bool f.resp, .bool f.er, .bool f.more, .int .i64 f.op, .int .i64 f.seq, .int .i64 f.st, .int .i64 f.asc, .int .i64 f.off, (.slice da f.dat.length dc)] 24) = wa at *
            have NR := Lib.hid NA
            have hba : wr.heap.size < wa.heap.size := NA.1
            obtain ⟨y9, u9⟩ := NA.2 9 _ rfl
            clear NA BA
            go_upto_region 11 with fail
            have N1 := Lib.hid (blk_set NR.out 9 (.slice none 0 0))
            have B1 := Lib.hid (below_set KB.out (Nat.le_refl _) 9 (.slice none 0 0))
            have hs1 : wr.heap.size < (wa.setCell ⟨wr.heap.size, 9, none⟩ (.slice none 0 0)).heap.size := N1.out.1
            clear y9 u9 NR KB hba
            generalize wa.setCell ⟨wr.heap.size, 9, none⟩ (.slice none 0 0) = wb at *
            have SB1 := Sl.below (CSH.out.below B1.out) ((brefl wb).drew)
            obtain ⟨v3, w3, hr3, o3, b3, _, _⟩ := SB1.app (brefl _) (Own.nil wb.drew wb.drew.heap.size) (Nat.le_refl _) (by rw [bl_len]; simp <;> omega) 22
            rw [List.nil_append] at o3
            obtain ⟨va, vc, rfl⟩ := own_form o3
            simp only [bl_len] at o3 hr3
            have HR3 := Lib.hid hr3
            have O3 := Lib.hid o3
            have N3 := Lib.hid (N1.out.below ((brefl wb).drew.trans b3))
            have B3 := Lib.hid (bstep B1.out ((brefl wb).drew.trans b3))
            have KC : Hid (∀ z, Below wb.heap.size wb z → z.cell? ⟨wr.heap.size, 9, none⟩ = some (.slice none 0 0) ∧ Below wb.heap.size wb z) := Lib.hid fun z k => ⟨((N1.out.below k).2 9 _ rfl).1, k⟩
            have KD := Lib.hid (KC.out _ ((brefl wb).drew))
            have u3 : w3.frozen? ⟨wr.heap.size, 9, none⟩ = false := (N3.out.2 9 _ rfl).2
            have y3 : w3.cell? ⟨wr.heap.size, 9, none⟩ = some (.slice none 0 0) := (N3.out.2 9 _ rfl).1
            have yd : wb.drew.cell? ⟨wr.heap.size, 9, none⟩ = some (.slice none 0 0) := KD.out.1
            have bn1 : (AT : Int) + 468 ≤ (sc : Int) := by omega
            have bn2 : AT ≤ ((AT : Int) + 468).toNat := by omega
            have bn3 : (0 : Int) ≤ (AT : Int) + 468 := by omega
            clear hr3 o3 b3 SB1
            refine wp_region_noPanic ?_
            refine wp_region_held_drew (S := fun z => True) (by kernel_rfl) trivial (fun hHeld => ?_)
            refine wpAnyH_take (i := 0) (v := ?_) rfl (by kernel_rfl) (by kernel_rfl) (by kernel_rfl) (fun _ _ _ h => h) (Or.inl ⟨by rfl, ?_⟩) hHeld ?_
            rotate_left
            · ((intro w hSw; (try dsimp only at hSw); go_simp); try with_reducible rfl)
            (try simp only [List.getElem_toArray, List.getElem_cons_succ, List.getElem_cons_zero, Act.put, List.setIfInBounds_toArray, List.set_cons_zero, List.set_cons_succ])
            refine wpAnyH_take (i := 2) (v := ?_) rfl (by kernel_rfl) (by kernel_rfl) (by kernel_rfl) (fun _ _ _ h => h) (Or.inl ⟨by rfl, ?_⟩) hHeld ?_
            rotate_left
            · ((intro w hSw; (try dsimp only at hSw); go_simp); try with_reducible rfl)
            (try simp only [List.getElem_toArray, List.getElem_cons_succ, List.getElem_cons_zero, Act.put, List.setIfInBounds_toArray, List.set_cons_zero, List.set_cons_succ])
            refine wpAnyH_take (i := 3) (v := ?_) rfl (by kernel_rfl) (by kernel_rfl) (by kernel_rfl) (fun _ _ _ h => h) (Or.inl ⟨by rfl, ?_⟩) hHeld ?_
            rotate_left
            · ((intro w hSw; (try dsimp only at hSw); go_simp); try with_reducible rfl)
            (try simp only [List.getElem_toArray, List.getElem_cons_succ, List.getElem_cons_zero, Act.put, List.setIfInBounds_toArray, List.set_cons_zero, List.set_cons_succ])
            refine wpAnyH_take (i := 4) (v := ?_) rfl (by kernel_rfl) (by kernel_rfl) (by kernel_rfl) (fun _ _ _ h => h) (Or.inl ⟨by rfl, ?_⟩) hHeld ?_
            rotate_left
            · ((intro w hSw; (try dsimp only at hSw); go_simp); try with_reducible rfl)
            (try simp only [List.getElem_toArray, List.getElem_cons_succ, List.getElem_cons_zero, Act.put, List.setIfInBounds_toArray, List.set_cons_zero, List.set_cons_succ])
            refine wpAnyH_take (i := 5) (v := ?_) rfl (by kernel_rfl) (by kernel_rfl) (by kernel_rfl) (fun _ _ _ h => h) (Or.inl ⟨by rfl, ?_⟩) hHeld ?_
            rotate_left
            · ((intro w hSw; (try dsimp only at hSw); go_simp); try with_reducible rfl)
            (try simp only [List.getElem_toArray, List.getElem_cons_succ, List.getElem_cons_zero, Act.put, List.setIfInBounds_toArray, List.set_cons_zero, List.set_cons_succ])
            refine wpAnyH_ready (rs := [1]) (by kernel_rfl) (by simp) (AllReadyH.cons rfl (fun KQ hKQ => ?_) AllReadyH.nil)
            go_simp
            refine hKQ.out _ _ trivial (fun hH2 => ?_)
            clear hKQ KQ hHeld
            have hHeld := hH2
            clear hH2
            (try simp only [List.getElem_toArray, List.getElem_cons_succ, List.getElem_cons_zero, Act.put, List.setIfInBounds_toArray, List.set_cons_zero, List.set_cons_succ])
            refine wpAnyH_ready (rs := [6]) (by kernel_rfl) (by simp) (AllReadyH.cons rfl (fun KQ hKQ => ?_) AllReadyH.nil)
            refine step_append_eq rfl (.tmp 32) (.tmp 36) 22 rfl (.slice none 0 0) (.slice (some ⟨b, o + AT, none⟩) 468 (sc - AT)) (.slice va 468 vc) w3 (by rfl) (by first | rfl | go_simp) HR3.out ?_
            refine hKQ.out _ _ trivial (fun hH2 => ?_)
            clear hKQ KQ hHeld
            have hHeld := hH2
            clear hH2
            (try simp only [List.getElem_toArray, List.getElem_cons_succ, List.getElem_cons_zero, Act.put, List.setIfInBounds_toArray, List.set_cons_zero, List.set_cons_succ])
            refine wpAnyH_take (i := 7) (v := ?_) rfl (by kernel_rfl) (by kernel_rfl) (by kernel_rfl) (fun _ _ _ h => h) (Or.inl ⟨by rfl, ?_⟩) hHeld ?_
            rotate_left
            · ((intro w hSw; (try dsimp only at hSw); go_simp); try with_reducible rfl)
            (try simp only [List.getElem_toArray, List.getElem_cons_succ, List.getElem_cons_zero, Act.put, List.setIfInBounds_toArray, List.set_cons_zero, List.set_cons_succ])
            refine wpAnyH_ready (rs := [8]) (by kernel_rfl) (by simp) (AllReadyH.cons rfl (fun KQ hKQ => ?_) AllReadyH.nil)
            go_simp
            refine hKQ.out _ _ trivial (fun hH2 => ?_)
            clear hKQ KQ hHeld
            have hHeld := hH2
            clear hH2
            (try simp only [List.getElem_toArray, List.getElem_cons_succ, List.getElem_cons_zero, Act.put, List.setIfInBounds_toArray, List.set_cons_zero, List.set_cons_succ])
            refine wpAnyH_done (by kernel_rfl) ?_ _
            refine NoPanic.normal ?_
            have N4 := Lib.hid (blk_set N3.out 9 (.slice va 468 vc))
            have O4 := Lib.hid (show Own _ _ _ _ from row_set (v := .slice va 468 vc) O3.out (b := wr.heap.size) (fun q => by have h := (Own.block O3.out) _ q; have h2 : wb.drew.heap.size = wb.heap.size := rfl; omega) 9 (.slice va 468 vc))
            have B4 := Lib.hid (below_set B3.out (Nat.le_refl _) 9 (.slice va 468 vc))
            clear u3 y3 yd hHeld KC KD HR3 N3 O3 B3 N1 CSH
            generalize w3.setCell ⟨wr.heap.size, 9, none⟩ (.slice va 468 vc) = wc at *
            obtain ⟨y8, u8⟩ := N4.out.2 8 _ rfl
            obtain ⟨y3, u3⟩ := N4.out.2 3 _ rfl
            have hov : ∀ q, (Value.slice va 468 vc).ownBlock = some q → q ≠ wr.heap.size := fun q h => by have := (Own.block O4.out) q h; have h2 : wb.drew.heap.size = wb.heap.size := rfl; omega
            have N6 : Hid (Blk ((wc.setCell ⟨wr.heap.size, 8, none⟩ (.int .i64 (AT : Int))).setCell ⟨wr.heap.size, 3, none⟩ (.bool MO)) wr.heap.size (fvs { f with off := ((AT : Nat) : Int), more := MO, dat := bl (fun k => g (AT + k)) 468 } (.slice va 468 vc))) := Lib.hid (blk_set (blk_set N4.out 8 _) 3 _)
            have O6 := Lib.hid (show Own _ _ _ _ from row_set (v := .slice va 468 vc) (row_set (v := .slice va 468 vc) O4.out (b := wr.heap.size) (fun q => hov _ q rfl) 8 (.int .i64 (AT : Int))) (b := wr.heap.size) (fun q => hov _ q rfl) 3 (.bool MO))
            have B6 := Lib.hid (below_set (below_set B4.out (Nat.le_refl _) 8 (.int .i64 (AT : Int))) (Nat.le_refl _) 3 (.bool MO))
            have OB := Lib.hid (fun q (h : (Value.slice va 468 vc).ownBlock = some q) => (by have := (Own.block O4.out) q h; have h2 : wb.drew.heap.size = wb.heap.size := rfl; omega : wr.heap.size ≤ q))
            clear N4 O4 B4 hov
            go_upto_region 14 with fail
            clear y8 u8 y3 u3
            generalize (wc.setCell ⟨wr.heap.size, 8, none⟩ (.int .i64 (AT : Int))).setCell ⟨wr.heap.size, 3, none⟩ (.bool MO) = w4 at *
            have HRL : Hid (row.length = i) := Lib.hid (by have := congrArg List.length HM.out; simpa using this)
            have R4 := Lib.hid (HR.out.below B6.out)
            have hs4 : w2.heap.size ≤ w4.heap.size := Nat.le_trans hs B6.out.size
            have NB4 := Lib.hid (HN.out.below B6.out)
            have BW4 := Lib.hid (bstep HB.out B6.out)
            obtain ⟨v5, w5, hr5, o5, b5, g5⟩ := appR R4.out.1 { f with off := ((AT : Nat) : Int), more := MO, dat := bl (fun k => g (AT + k)) 468 } (.slice va 468 vc) rfl hs4 (by rw [HRL.out]; have := HI.out; have := HP.out; omega) 37
            have PW := Lib.hid (show (row ++ [(({ f with off := ((AT : Nat) : Int), more := MO, dat := bl (fun k => g (AT + k)) 468 } : Fr), Value.slice va 468 vc)]).Pairwise Dj from List.pairwise_append.2 ⟨HPW.out, List.pairwise_singleton _ _, fun x hx y hy g' hg' q => by
              rw [List.mem_singleton.1 hy] at q
              have h1 := ((HR.out.2 x hx).lt g' hg').2
              have h2 := OB.out g' q
              omega⟩)
            have R5 := Lib.hid (R4.out.snoc (O6.out.le (by have h2 : wb.drew.heap.size = wb.heap.size := rfl; omega)) o5 g5)
            have HR5 := Lib.hid hr5
            have N5 := Lib.hid (NB4.out.belowB L2 b5)
            have B5 := Lib.hid (BW4.out.trans (b5.mono (Nat.le_of_lt L2)))
            have hs5 := Nat.le_trans hs4 b5.size
            clear hr5 o5 b5 g5 R4 O6
            go_wp2_with (first | (refine wpList_load_mid rfl 24 _ rfl _ 0 rfl [.int .i64 f.ver, .bool f.resp, .bool f.er, .bool MO, .int .i64 f.op, .int .i64 f.seq, .int .i64 f.st, .int .i64 f.asc, .int .i64 (AT : Int), .slice va 468 vc] _ N6.out.range Try.underlying24 rfl (by exact info_fr) ?_) | (at_builtin; refine wpList_append_eq rfl _ _ 37 rfl _ _ v5 w5 rfl rfl HR5.out ?_))
            have hAT := HAT.out
            exact ⟨⟨i + 1, row ++ [({ f with off := ((AT : Nat) : Int), more := MO, dat := bl (fun k => g (AT + k)) 468 }, .slice va 468 vc)], by have := HI.out; have := NI.out.2 (by right; omega); omega, by rw [show ((468 * (i + 1) : Nat) : Int) = (AT : Int) + 468 by omega], R5.out, by rw [List.map_append, HM.out, List.range_succ, List.map_append, List.map_singleton, List.map_singleton, EPC.out], PW.out, N5.out, B5.out, hs5⟩, by simp [intOf]; have := HI.out; have := NI.out.2 (by right; omega); omega⟩
          · have em : decide ((AT : Int) + 468 ≤ (n : Int)) = false := decide_eq_false (by omega)
            have em' : ¬ ((AT : Int) + 468 ≤ (n : Int)) := by omega
            have em2 : decide ((n : Int) ≤ (AT : Int) + 468) = true := decide_eq_true (by omega)
            have em3 : (n : Int) < (AT : Int) + 468 := by omega
            have mq : min (468 * i + 468) n - 468 * i = n - AT := by have := HAT.out; omega
            have HMO : Hid (decide (468 * i + 468 < n) = false) := Lib.hid (by have := HAT.out; exact decide_eq_false (by omega))
            have CS := sb_sl (f := fun k => g (AT + k)) (n := n - AT) ⟨some ⟨b, o + AT, none⟩, sc - AT, rfl, by omega, by omega, fun k => BB.2.1 _, fun _ => ⟨b, o + AT, rfl, (BB.below HB.out).part AT (n - AT) (by omega)⟩, fun e => by cases e⟩ (by omega)
            have z0 : w.heap.size < wr.heap.size := Nat.lt_of_lt_of_le L2 hs
            have EPC : Hid (pc f n g i = ({ f with off := ((AT : Nat) : Int), more := false, dat := bl (fun k => g (AT + k)) (n - AT) } : Fr)) := Lib.hid (by unfold pc; rw [mq, HMO.out, HAT.out])
            have CSH := Lib.hid CS
            clear CS mq HMO BB
            go_upto_region 9 with fail
            go_upto_region 10 with (refine wpList_load_mid rfl 24 _ rfl _ 0 rfl [.int .i64 f.ver, .bool f.resp, .bool f.er, .bool f.more, .int .i64 f.op, .int .i64 f.seq, .int .i64 f.st, .int .i64 f.asc, .int .i64 f.off, (.slice da f.dat.length dc)] _ HN.out.range Try.underlying24 rfl (by exact info_fr) ?_)
            have BA := balloc (brefl wr) (.cells #[.int .i64 f.ver, .bool f.resp, .bool f.er, .bool f.more, .int .i64 f.op, .int .i64 f.seq, .int .i64 f.st, .int .i64 f.asc, .int .i64 f.off, (.slice da f.dat.length dc)] 24)
            have NA : Blk (wr.alloc (.cells #[.int .i64 f.ver, .bool f.resp, .bool f.er, .bool f.more, .int .i64 f.op, .int .i64 f.seq, .int .i64 f.st, .int .i64 f.asc, .int .i64 f.off, (.slice da f.dat.length dc)] 24)) wr.heap.size (fvs f (.slice da f.dat.length dc)) := Blk.new' wr #[.int .i64 f.ver, .bool f.resp, .bool f.er, .bool f.more, .int .i64 f.op, .int .i64 f.seq, .int .i64 f.st, .int .i64 f.asc, .int .i64 f.off, (.slice da f.dat.length dc)] 24
            have KB := Lib.hid (BA)
            generalize wr.alloc (.cells #[.int .i64 f.ver, .bool f.resp, .bool f.er, .bool f.more, .int .i64 f.op, .int .i64 f.seq, .int .i64 f.st, .int .i64 f.asc, .int .i64 f.off, (.slice da f.dat.length dc)] 24) = wa at *
            have NR := Lib.hid NA
            have hba : wr.heap.size < wa.heap.size := NA.1
            obtain ⟨y9, u9⟩ := NA.2 9 _ rfl
            clear NA BA
            go_upto_region 11 with fail
            have N1 := Lib.hid (blk_set NR.out 9 (.slice none 0 0))
            have B1 := Lib.hid (below_set KB.out (Nat.le_refl _) 9 (.slice none 0 0))
            have hs1 : wr.heap.size < (wa.setCell ⟨wr.heap.size, 9, none⟩ (.slice none 0 0)).heap.size := N1.out.1
            clear y9 u9 NR KB hba
            generalize wa.setCell ⟨wr.heap.size, 9, none⟩ (.slice none 0 0) = wb at *
            have SB1 := Sl.below (CSH.out.below B1.out) ((brefl wb).drew)
            obtain ⟨v3, w3, hr3, o3, b3, _, _⟩ := SB1.app (brefl _) (Own.nil wb.drew wb.drew.heap.size) (Nat.le_refl _) (by rw [bl_len]; simp <;> omega) 22
            rw [List.nil_append] at o3
            obtain ⟨va, vc, rfl⟩ := own_form o3
            simp only [bl_len] at o3 hr3
            have HR3 := Lib.hid hr3
            have O3 := Lib.hid o3
            have N3 := Lib.hid (N1.out.below ((brefl wb).drew.trans b3))
            have B3 := Lib.hid (bstep B1.out ((brefl wb).drew.trans b3))
            have KC : Hid (∀ z, Below wb.heap.size wb z → z.cell? ⟨wr.heap.size, 9, none⟩ = some (.slice none 0 0) ∧ Below wb.heap.size wb z) := Lib.hid fun z k => ⟨((N1.out.below k).2 9 _ rfl).1, k⟩
            have KD := Lib.hid (KC.out _ ((brefl wb).drew))
            have u3 : w3.frozen? ⟨wr.heap.size, 9, none⟩ = false := (N3.out.2 9 _ rfl).2
            have y3 : w3.cell? ⟨wr.heap.size, 9, none⟩ = some (.slice none 0 0) := (N3.out.2 9 _ rfl).1
            have yd : wb.drew.cell? ⟨wr.heap.size, 9, none⟩ = some (.slice none 0 0) := KD.out.1
            have bn2 : AT ≤ n := by omega
            clear hr3 o3 b3 SB1
            refine wp_region_noPanic ?_
            refine wp_region_held_drew (S := fun z => True) (by kernel_rfl) trivial (fun hHeld => ?_)
            refine wpAnyH_take (i := 0) (v := ?_) rfl (by kernel_rfl) (by kernel_rfl) (by kernel_rfl) (fun _ _ _ h => h) (Or.inl ⟨by rfl, ?_⟩) hHeld ?_
            rotate_left
            · ((intro w hSw; (try dsimp only at hSw); go_simp); try with_reducible rfl)
            (try simp only [List.getElem_toArray, List.getElem_cons_succ, List.getElem_cons_zero, Act.put, List.setIfInBounds_toArray, List.set_cons_zero, List.set_cons_succ])
            refine wpAnyH_take (i := 2) (v := ?_) rfl (by kernel_rfl) (by kernel_rfl) (by kernel_rfl) (fun _ _ _ h => h) (Or.inl ⟨by rfl, ?_⟩) hHeld ?_
            rotate_left
            · ((intro w hSw; (try dsimp only at hSw); go_simp); try with_reducible rfl)
            (try simp only [List.getElem_toArray, List.getElem_cons_succ, List.getElem_cons_zero, Act.put, List.setIfInBounds_toArray, List.set_cons_zero, List.set_cons_succ])
            refine wpAnyH_take (i := 3) (v := ?_) rfl (by kernel_rfl) (by kernel_rfl) (by kernel_rfl) (fun _ _ _ h => h) (Or.inl ⟨by rfl, ?_⟩) hHeld ?_
            rotate_left
            · ((intro w hSw; (try dsimp only at hSw); go_simp); try with_reducible rfl)
            (try simp only [List.getElem_toArray, List.getElem_cons_succ, List.getElem_cons_zero, Act.put, List.setIfInBounds_toArray, List.set_cons_zero, List.set_cons_succ])
            refine wpAnyH_take (i := 4) (v := ?_) rfl (by kernel_rfl) (by kernel_rfl) (by kernel_rfl) (fun _ _ _ h => h) (Or.inl ⟨by rfl, ?_⟩) hHeld ?_
            rotate_left
            · ((intro w hSw; (try dsimp only at hSw); go_simp); try with_reducible rfl)
            (try simp only [List.getElem_toArray, List.getElem_cons_succ, List.getElem_cons_zero, Act.put, List.setIfInBounds_toArray, List.set_cons_zero, List.set_cons_succ])
            refine wpAnyH_take (i := 5) (v := ?_) rfl (by kernel_rfl) (by kernel_rfl) (by kernel_rfl) (fun _ _ _ h => h) (Or.inl ⟨by rfl, ?_⟩) hHeld ?_
            rotate_left
            · ((intro w hSw; (try dsimp only at hSw); go_simp); try with_reducible rfl)
            (try simp only [List.getElem_toArray, List.getElem_cons_succ, List.getElem_cons_zero, Act.put, List.setIfInBounds_toArray, List.set_cons_zero, List.set_cons_succ])
            refine wpAnyH_ready (rs := [1]) (by kernel_rfl) (by simp) (AllReadyH.cons rfl (fun KQ hKQ => ?_) AllReadyH.nil)
            go_simp
            refine hKQ.out _ _ trivial (fun hH2 => ?_)
            clear hKQ KQ hHeld
            have hHeld := hH2
            clear hH2
            (try simp only [List.getElem_toArray, List.getElem_cons_succ, List.getElem_cons_zero, Act.put, List.setIfInBounds_toArray, List.set_cons_zero, List.set_cons_succ])
            refine wpAnyH_ready (rs := [6]) (by kernel_rfl) (by simp) (AllReadyH.cons rfl (fun KQ hKQ => ?_) AllReadyH.nil)
            refine step_append_eq rfl (.tmp 32) (.tmp 36) 22 rfl (.slice none 0 0) (.slice (some ⟨b, o + AT, none⟩) (n - AT) (sc - AT)) (.slice va (n - AT) vc) w3 (by rfl) (by first | rfl | go_simp) HR3.out ?_
            refine hKQ.out _ _ trivial (fun hH2 => ?_)
            clear hKQ KQ hHeld
            have hHeld := hH2
            clear hH2
            (try simp only [List.getElem_toArray, List.getElem_cons_succ, List.getElem_cons_zero, Act.put, List.setIfInBounds_toArray, List.set_cons_zero, List.set_cons_succ])
            refine wpAnyH_take (i := 7) (v := ?_) rfl (by kernel_rfl) (by kernel_rfl) (by kernel_rfl) (fun _ _ _ h => h) (Or.inl ⟨by rfl, ?_⟩) hHeld ?_
            rotate_left
            · ((intro w hSw; (try dsimp only at hSw); go_simp); try with_reducible rfl)
            (try simp only [List.getElem_toArray, List.getElem_cons_succ, List.getElem_cons_zero, Act.put, List.setIfInBounds_toArray, List.set_cons_zero, List.set_cons_succ])
            refine wpAnyH_ready (rs := [8]) (by kernel_rfl) (by simp) (AllReadyH.cons rfl (fun KQ hKQ => ?_) AllReadyH.nil)
            go_simp
            refine hKQ.out _ _ trivial (fun hH2 => ?_)
            clear hKQ KQ hHeld
            have hHeld := hH2
            clear hH2
            (try simp only [List.getElem_toArray, List.getElem_cons_succ, List.getElem_cons_zero, Act.put, List.setIfInBounds_toArray, List.set_cons_zero, List.set_cons_succ])
            refine wpAnyH_done (by kernel_rfl) ?_ _
            refine NoPanic.normal ?_
            have N4 := Lib.hid (blk_set N3.out 9 (.slice va (n - AT) vc))
            have O4 := Lib.hid (show Own _ _ _ _ from row_set (v := .slice va (n - AT) vc) O3.out (b := wr.heap.size) (fun q => by have h := (Own.block O3.out) _ q; have h2 : wb.drew.heap.size = wb.heap.size := rfl; omega) 9 (.slice va (n - AT) vc))
            have B4 := Lib.hid (below_set B3.out (Nat.le_refl _) 9 (.slice va (n - AT) vc))
            clear u3 y3 yd hHeld KC KD HR3 N3 O3 B3 N1 CSH
            generalize w3.setCell ⟨wr.heap.size, 9, none⟩ (.slice va (n - AT) vc) = wc at *
            obtain ⟨y8, u8⟩ := N4.out.2 8 _ rfl
            obtain ⟨y3, u3⟩ := N4.out.2 3 _ rfl
            have hov : ∀ q, (Value.slice va (n - AT) vc).ownBlock = some q → q ≠ wr.heap.size := fun q h => by have := (Own.block O4.out) q h; have h2 : wb.drew.heap.size = wb.heap.size := rfl; omega
            have N6 : Hid (Blk ((wc.setCell ⟨wr.heap.size, 8, none⟩ (.int .i64 (AT : Int))).setCell ⟨wr.heap.size, 3, none⟩ (.bool false)) wr.heap.size (fvs { f with off := ((AT : Nat) : Int), more := false, dat := bl (fun k => g (AT + k)) (n - AT) } (.slice va (n - AT) vc))) := Lib.hid (blk_set (blk_set N4.out 8 _) 3 _)
            have O6 := Lib.hid (show Own _ _ _ _ from row_set (v := .slice va (n - AT) vc) (row_set (v := .slice va (n - AT) vc) O4.out (b := wr.heap.size) (fun q => hov _ q rfl) 8 (.int .i64 (AT : Int))) (b := wr.heap.size) (fun q => hov _ q rfl) 3 (.bool false))
            have B6 := Lib.hid (below_set (below_set B4.out (Nat.le_refl _) 8 (.int .i64 (AT : Int))) (Nat.le_refl _) 3 (.bool false))
            have OB := Lib.hid (fun q (h : (Value.slice va (n - AT) vc).ownBlock = some q) => (by have := (Own.block O4.out) q h; have h2 : wb.drew.heap.size = wb.heap.size := rfl; omega : wr.heap.size ≤ q))
            clear N4 O4 B4 hov
            go_upto_region 14 with fail
            clear y8 u8 y3 u3
            generalize (wc.setCell ⟨wr.heap.size, 8, none⟩ (.int .i64 (AT : Int))).setCell ⟨wr.heap.size, 3, none⟩ (.bool false) = w4 at *
            have HRL : Hid (row.length = i) := Lib.hid (by have := congrArg List.length HM.out; simpa using this)
            have R4 := Lib.hid (HR.out.below B6.out)
            have hs4 : w2.heap.size ≤ w4.heap.size := Nat.le_trans hs B6.out.size
            have NB4 := Lib.hid (HN.out.below B6.out)
            have BW4 := Lib.hid (bstep HB.out B6.out)
            obtain ⟨v5, w5, hr5, o5, b5, g5⟩ := appR R4.out.1 { f with off := ((AT : Nat) : Int), more := false, dat := bl (fun k => g (AT + k)) (n - AT) } (.slice va (n - AT) vc) rfl hs4 (by rw [HRL.out]; have := HI.out; have := HP.out; omega) 37
            have PW := Lib.hid (show (row ++ [(({ f with off := ((AT : Nat) : Int), more := false, dat := bl (fun k => g (AT + k)) (n - AT) } : Fr), Value.slice va (n - AT) vc)]).Pairwise Dj from List.pairwise_append.2 ⟨HPW.out, List.pairwise_singleton _ _, fun x hx y hy g' hg' q => by
              rw [List.mem_singleton.1 hy] at q
              have h1 := ((HR.out.2 x hx).lt g' hg').2
              have h2 := OB.out g' q
              omega⟩)
            have R5 := Lib.hid (R4.out.snoc (O6.out.le (by have h2 : wb.drew.heap.size = wb.heap.size := rfl; omega)) o5 g5)
            have HR5 := Lib.hid hr5
            have N5 := Lib.hid (NB4.out.belowB L2 b5)
            have B5 := Lib.hid (BW4.out.trans (b5.mono (Nat.le_of_lt L2)))
            have hs5 := Nat.le_trans hs4 b5.size
            clear hr5 o5 b5 g5 R4 O6
            go_wp2_with (first | (refine wpList_load_mid rfl 24 _ rfl _ 0 rfl [.int .i64 f.ver, .bool f.resp, .bool f.er, .bool false, .int .i64 f.op, .int .i64 f.seq, .int .i64 f.st, .int .i64 f.asc, .int .i64 (AT : Int), .slice va (n - AT) vc] _ N6.out.range Try.underlying24 rfl (by exact info_fr) ?_) | (at_builtin; refine wpList_append_eq rfl _ _ 37 rfl _ _ v5 w5 rfl rfl HR5.out ?_))
            have hAT := HAT.out
            exact ⟨⟨i + 1, row ++ [({ f with off := ((AT : Nat) : Int), more := false, dat := bl (fun k => g (AT + k)) (n - AT) }, .slice va (n - AT) vc)], by have := HI.out; have := NI.out.2 (by right; omega); omega, by rw [show ((468 * (i + 1) : Nat) : Int) = (AT : Int) + 468 by omega], R5.out, by rw [List.map_append, HM.out, List.range_succ, List.map_append, List.map_singleton, List.map_singleton, EPC.out], PW.out, N5.out, B5.out, hs5⟩, by simp [intOf]; have := HI.out; have := NI.out.2 (by right; omega); omega⟩
        · have el : decide ((AT : Int) < (n : Int)) = false := decide_eq_false (by omega)
          have hi' : i = npc n := by
            have := NI.out
            by_cases q : i < npc n
            · rcases this.1 q with h | h <;> omega
            · omega
          clear hAT
          go_wp2_with fail
          go_ret2
          exact ⟨⟨_, row, by rw [DE.out]; rfl, HR.out.le (by omega), by rw [DC.out, ← hi']; exact HM.out, HPW.out⟩, HB.out⟩
end Go.Proofs.Yteigmnbbfmcihaa.Ct
