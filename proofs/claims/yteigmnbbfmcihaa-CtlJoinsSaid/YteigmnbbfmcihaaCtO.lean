/-
  The contract of ctl.Cut.
  Conditions: none.
-/
import Derived.Test.YteigmnbbfmcihaaCtN
namespace Go.Proofs.Yteigmnbbfmcihaa.Ct
open Go.RowKit Go.ChangeShapes Go.WideShapes Go.ChangeAt Go.Joins By
set_option linter.unusedVariables false
set_option linter.unusedSimpArgs false

/-- two answers' data share no memory. -/
def Dj (x y : Fr × Value) : Prop := ∀ g, x.2.ownBlock = some g → y.2.ownBlock ≠ some g
/-- what Cut answers. -/
def ce (f : Fr) (n : Nat) : Int := if okFr f = true then (if n ≤ 65535 then 0 else 21) else 3
def cp (f : Fr) (n : Nat) (g : Nat → Nat) : List Fr := if ce f n = 0 then (List.range (npc n)).map (pc f n g) else []
def PCut (f : Fr) (n : Nat) (g : Nat → Nat) (w : World) (e : Ending) (w' : World) : Prop := (∃ v row, e = .returned (.tuple #[v, .int .i64 (ce f n)]) ∧ Rowf w' w.heap.size v row ∧ row.map Prod.fst = cp f n g ∧ row.Pairwise Dj) ∧ Below w.heap.size w w'
theorem fr_eta (f : Fr) : ({ f with off := f.off, more := f.more, dat := f.dat } : Fr) = f := rfl
set_option maxRecDepth 100000 in
set_option maxHeartbeats 16000000 in
theorem Cut_any {f : Fr} {dv v : Value} {n : Nat} {g : Nat → Nat} {w : World} (P : Fm w f dv) (S : Sb w v n g) (hn : n ≤ 140737488351232) : Calls Try.prog 14 #[FV f dv, v] w fun e w' => PCut f n g w e w' := by
  obtain ⟨da, dc, rfl⟩ := P.form
  obtain ⟨sa, sc, rfl⟩ := S.form
  have hd := P.1
  have SS := Lib.hid S
  have n0 : (0 : Int) ≤ (n : Int) := by omega
  have n1 : (n : Int) ≤ 140737488351232 := by omega
  have q3 : (n : Int) ≤ (sc : Int) := by obtain ⟨_, _, e, h, _⟩ := S; cases e; omega
  have q4 : (sc : Int) ≤ 9223372036854775807 := by obtain ⟨_, _, e, h, h', _⟩ := S; cases e; omega
  have IS := Lib.hid (fun z => isFrame_c f da dc hd z)
  have B0 := Lib.hid (balloc (brefl w) (.cells #[.int .i64 f.ver, .bool f.resp, .bool f.er, .bool f.more, .int .i64 f.op, .int .i64 f.seq, .int .i64 f.st, .int .i64 f.asc, .int .i64 f.off, (.slice da f.dat.length dc)] 24))
  have N : Hid (Blk (w.alloc (.cells #[.int .i64 f.ver, .bool f.resp, .bool f.er, .bool f.more, .int .i64 f.op, .int .i64 f.seq, .int .i64 f.st, .int .i64 f.asc, .int .i64 f.off, (.slice da f.dat.length dc)] 24)) w.heap.size (fvs f (.slice da f.dat.length dc))) := Lib.hid (Blk.new' w #[.int .i64 f.ver, .bool f.resp, .bool f.er, .bool f.more, .int .i64 f.op, .int .i64 f.seq, .int .i64 f.st, .int .i64 f.asc, .int .i64 f.off, (.slice da f.dat.length dc)] 24)
  clear S P
  go_enter Try.func14, Try.ntmps14
  go_upto_region 1 with fail
  generalize w.alloc (.cells #[.int .i64 f.ver, .bool f.resp, .bool f.er, .bool f.more, .int .i64 f.op, .int .i64 f.seq, .int .i64 f.st, .int .i64 f.asc, .int .i64 f.off, (.slice da f.dat.length dc)] 24) = w1 at *
  have L1 : w.heap.size < w1.heap.size := N.out.1
  go_wp2_with (refine wpList_load_mid rfl 24 _ rfl _ 0 rfl (fvs f (.slice da f.dat.length dc)) _ N.out.range Try.underlying24 rfl (by rw [fvs_len]; exact info_fr) ?_)
  refine (IS.out _).mono ?_
  rintro e w2 ⟨rfl, hb⟩
  have B2 := Lib.hid (hb.mono (Nat.le_of_lt L1) |> B0.out.trans)
  have N2 := Lib.hid (N.out.below hb)
  have L2 := Nat.lt_of_lt_of_le L1 hb.size
  clear IS hb N B0 L1
  cases c : okFr f with
  | false =>
    have DE : Hid (ce f n = 3) := Lib.hid (by unfold ce; rw [c]; rfl)
    have DC : Hid (cp f n g = []) := Lib.hid (by unfold cp; rw [DE.out]; rfl)
    clear c
    go_wp2_with fail
    go_ret2
    exact ⟨⟨_, [], by rw [DE.out]; rfl, Rowf.nil _ _, by rw [DC.out]; rfl, List.Pairwise.nil⟩, B2.out⟩
  | true =>
    by_cases c2 : n ≤ 65535
    case neg =>
      have DE : Hid (ce f n = 21) := Lib.hid (by unfold ce; rw [if_pos c, if_neg c2])
      have DC : Hid (cp f n g = []) := Lib.hid (by unfold cp; rw [DE.out]; rfl)
      have e1 : decide ((65535 : Int) < (n : Int)) = true := decide_eq_true (by omega)
      clear c c2
      go_wp2_with fail
      go_ret2
      exact ⟨⟨_, [], by rw [DE.out]; rfl, Rowf.nil _ _, by rw [DC.out]; rfl, List.Pairwise.nil⟩, B2.out⟩
    have DE : Hid (ce f n = 0) := Lib.hid (by unfold ce; rw [if_pos c, if_pos c2])
    have DC : Hid (cp f n g = (List.range (npc n)).map (pc f n g)) := Lib.hid (by unfold cp; rw [DE.out]; rfl)
    have e1 : decide ((65535 : Int) < (n : Int)) = false := decide_eq_false (by omega)
    have n2 : (n : Int) ≤ 65535 := by omega
    have HP := Lib.hid (npc_le c2)
    clear c c2
    go_upto_region 7 with fail
    go_loopw [6, 7] (fun v iv wr => ∃ i row q qv, i ≤ npc n ∧ iv = .int .i64 ((468 * i : Nat) : Int) ∧ Rowf wr w2.heap.size v row ∧ row.map Prod.fst = (List.range i).map (pc f n g) ∧ row.Pairwise Dj ∧ Blk wr w.heap.size (fvs { f with off := (q : Fr).off, more := q.more, dat := q.dat } qv) ∧ qv.oneCell' = true ∧ Below w.heap.size w wr ∧ w2.heap.size ≤ wr.heap.size) (fun _ iv _ => 468 * npc n + 468 - (intOf iv).toNat)
    case atStart => exact ⟨0, [], f, .slice da f.dat.length dc, Nat.zero_le _, rfl, Rowf.nil _ _, rfl, List.Pairwise.nil, N2.out, rfl, B2.out, Nat.le_refl _⟩
    case round =>
      obtain ⟨i, row, q, qv, hi, rfl, hr, hm, hpw, hn, h1, hb, hs⟩ := hrel
      rename World => wr
      have HR := Lib.hid hr
      have HM := Lib.hid hm
      have HPW := Lib.hid hpw
      have HN := Lib.hid hn
      have HO := Lib.hid h1
      have HB := Lib.hid hb
      have NI := Lib.hid (@npc_iff n i)
      have HI := Lib.hid hi
      obtain ⟨ra, rc, ev⟩ := ownR_form hr.1
      subst ev
      clear hr hm hpw hn h1 hb B2 N2
      by_cases ci : i = 0
      · subst ci
        rw [show ((468 * 0 : Nat) : Int) = 0 from rfl]
        clear NI HI
        have NI0 := Lib.hid (npc_iff.2 (Or.inl rfl) : 0 < npc n)
        by_cases cm : 468 ≤ n
        · obtain ⟨b, o, rfl, BB⟩ : ∃ b o, sa = some ⟨b, o, none⟩ ∧ Bs w b o n g := by obtain ⟨_, _, e, _, _, _, h, _⟩ := SS.out; cases e; exact h (by omega)
          have em : decide ((468 : Int) ≤ (n : Int)) = true := decide_eq_true (by omega)
          have em' : (468 : Int) ≤ (n : Int) := by omega
          have mq : min (468 * 0 + 468) n - 468 * 0 = 468 := by omega
          have HMO : Hid (decide (468 * 0 + 468 < n) = decide ((468 : Int) < (n : Int))) := Lib.hid (decide_eq_decide.2 (by omega))
          have CS : Sl wr (.slice (some ⟨b, o, none⟩) 468 sc) (bl (fun k => g (0 + k)) 468) := sb_sl ⟨some ⟨b, o, none⟩, sc, rfl, by omega, by omega, fun k => BB.2.1 _, fun _ => ⟨b, o, rfl, (BB.below HB.out).part 0 468 (by omega)⟩, fun e => by cases e⟩ (by omega)
          obtain ⟨MO, hMO⟩ : ∃ M, decide ((468 : Int) < (n : Int)) = M := ⟨_, rfl⟩
          rw [hMO] at HMO
          have CC := Lib.hid (Clone_any CS)
          have EPC : Hid (pc f n g 0 = ({ f with off := ((0 : Nat) : Int), more := MO, dat := bl (fun k => g (0 + k)) 468 } : Fr)) := Lib.hid (by unfold pc; rw [mq, HMO.out])
          clear CS mq HMO
          go_wp2_with fail
          refine CC.out.mono ?_
          rintro e w3 ⟨⟨v3, rfl, o3⟩, hb⟩
          obtain ⟨va, vc, rfl⟩ := own_form o3
          rw [bl_len] at o3
          simp only [bl_len]
          have N3 := HN.out.below hb
          have z0 : w.heap.size < wr.heap.size := Nat.lt_of_lt_of_le L2 hs
          have z3 : w.heap.size < w3.heap.size := Nat.lt_of_lt_of_le z0 hb.size
          obtain ⟨y8, u8⟩ := N3.2 8 _ rfl
          obtain ⟨y3, u3⟩ := N3.2 3 _ rfl
          obtain ⟨y9, u9⟩ := N3.2 9 _ rfl
          have N4 : Hid (Blk (((w3.setCell ⟨w.heap.size, 8, none⟩ (.int .i64 0)).setCell ⟨w.heap.size, 3, none⟩ (.bool MO)).setCell ⟨w.heap.size, 9, none⟩ (.slice va 468 vc)) w.heap.size (fvs { f with off := ((0 : Nat) : Int), more := MO, dat := bl (fun k => g (0 + k)) 468 } (.slice va 468 vc))) := Lib.hid (blk_set (blk_set (blk_set N3 8 _) 3 _) 9 _)
          have O4 := Lib.hid (show Own _ _ _ _ from row_set (v := .slice va 468 vc) (row_set (v := .slice va 468 vc) (row_set (v := .slice va 468 vc) o3 (b := w.heap.size) (fun q => by have := (Own.block o3) _ q; omega) 8 (.int .i64 0)) (b := w.heap.size) (fun q => by have := (Own.block o3) _ q; omega) 3 (.bool MO)) (b := w.heap.size) (fun q => by have := (Own.block o3) _ q; omega) 9 (.slice va 468 vc))
          have PW := Lib.hid (show (row ++ [(({ f with off := ((0 : Nat) : Int), more := MO, dat := bl (fun k => g (0 + k)) 468 } : Fr), Value.slice va 468 vc)]).Pairwise Dj from List.pairwise_append.2 ⟨HPW.out, List.pairwise_singleton _ _, fun x hx y hy g' hg' q => by
            rw [List.mem_singleton.1 hy] at q
            have h1 := ((HR.out.2 x hx).lt g' hg').2
            have h2 := (Own.block o3) g' q
            omega⟩)
          have R4 := Lib.hid ((((HR.out.below hb).set L2 8 (.int .i64 0)).set L2 3 (.bool MO)).set L2 9 (.slice va 468 vc))
          have B4 := Lib.hid (below_set (below_set (below_set (bstep HB.out hb) (Nat.le_refl _) 8 (.int .i64 0)) (Nat.le_refl _) 3 (.bool MO)) (Nat.le_refl _) 9 (.slice va 468 vc))
          have hs4 : w2.heap.size ≤ (((w3.setCell ⟨w.heap.size, 8, none⟩ (.int .i64 0)).setCell ⟨w.heap.size, 3, none⟩ (.bool MO)).setCell ⟨w.heap.size, 9, none⟩ (.slice va 468 vc)).heap.size := by
            have := hb.size
            simp [World.setCell]
            omega
          clear CC HN HO N3 o3 hb
          go_upto_region 11 with fail
          clear y8 u8 y3 u3 y9 u9
          generalize ((w3.setCell ⟨w.heap.size, 8, none⟩ (.int .i64 0)).setCell ⟨w.heap.size, 3, none⟩ (.bool MO)).setCell ⟨w.heap.size, 9, none⟩ (.slice va 468 vc) = w4 at *
          have HRL : Hid (row.length = 0) := Lib.hid (by have := congrArg List.length HM.out; simpa using this)
          obtain ⟨v5, w5, hr5, o5, b5, g5⟩ := appR R4.out.1 { f with off := ((0 : Nat) : Int), more := MO, dat := bl (fun k => g (0 + k)) 468 } (.slice va 468 vc) rfl hs4 (by rw [HRL.out]; omega) 37
          have R5 := Lib.hid (R4.out.snoc (O4.out.le (by omega)) o5 g5)
          have HR5 := Lib.hid hr5
          have N5 := Lib.hid (N4.out.belowB L2 b5)
          have B5 := Lib.hid (B4.out.trans (b5.mono (Nat.le_of_lt L2)))
          have hs5 := Nat.le_trans hs4 b5.size
          clear hr5 o5 b5 g5 R4 O4
          go_wp2_with (first | (refine wpList_load_mid rfl 24 _ rfl _ 0 rfl [.int .i64 f.ver, .bool f.resp, .bool f.er, .bool MO, .int .i64 f.op, .int .i64 f.seq, .int .i64 f.st, .int .i64 f.asc, .int .i64 0, .slice va 468 vc] _ N4.out.range Try.underlying24 rfl (by exact info_fr) ?_) | (at_builtin; refine wpList_append_eq rfl _ _ 37 rfl _ _ v5 w5 rfl rfl HR5.out ?_))
          exact ⟨⟨0 + 1, _, { f with off := ((0 : Nat) : Int), more := MO, dat := bl (fun k => g (0 + k)) 468 }, .slice va 468 vc, NI0.out, rfl, R5.out, by rw [List.map_append, HM.out, List.range_succ, List.map_append, List.map_singleton, List.map_singleton, EPC.out], PW.out, N5.out, rfl, B5.out, hs5⟩, by simp [intOf] <;> omega⟩
        · have em : decide ((468 : Int) ≤ (n : Int)) = false := decide_eq_false (by omega)
          have em' : ¬ ((468 : Int) ≤ (n : Int)) := by omega
          have mq : min (468 * 0 + 468) n - 468 * 0 = n := by omega
          have HMO : Hid (decide (468 * 0 + 468 < n) = false) := Lib.hid (decide_eq_false (by omega))
          have CS : Sl wr (.slice sa n sc) (bl (fun k => g (0 + k)) n) := by
            have := sb_sl (SS.out.below HB.out) (by omega)
            rwa [show (fun k => g (0 + k)) = g from funext fun k => by rw [Nat.zero_add]]
          cases sa with
          | none =>
            have CC := Lib.hid (Clone_any CS)
            have EPC : Hid (pc f n g 0 = ({ f with off := ((0 : Nat) : Int), more := false, dat := bl (fun k => g (0 + k)) n } : Fr)) := Lib.hid (by unfold pc; rw [mq, HMO.out])
            clear CS mq HMO
            go_wp2_with fail
            refine CC.out.mono ?_
            rintro e w3 ⟨⟨v3, rfl, o3⟩, hb⟩
            obtain ⟨va, vc, rfl⟩ := own_form o3
            rw [bl_len] at o3
            simp only [bl_len]
            have N3 := HN.out.below hb
            have z0 : w.heap.size < wr.heap.size := Nat.lt_of_lt_of_le L2 hs
            have z3 : w.heap.size < w3.heap.size := Nat.lt_of_lt_of_le z0 hb.size
            obtain ⟨y8, u8⟩ := N3.2 8 _ rfl
            obtain ⟨y3, u3⟩ := N3.2 3 _ rfl
            obtain ⟨y9, u9⟩ := N3.2 9 _ rfl
            have N4 : Hid (Blk (((w3.setCell ⟨w.heap.size, 8, none⟩ (.int .i64 0)).setCell ⟨w.heap.size, 3, none⟩ (.bool false)).setCell ⟨w.heap.size, 9, none⟩ (.slice va n vc)) w.heap.size (fvs { f with off := ((0 : Nat) : Int), more := false, dat := bl (fun k => g (0 + k)) n } (.slice va n vc))) := Lib.hid (blk_set (blk_set (blk_set N3 8 _) 3 _) 9 _)
            have O4 := Lib.hid (show Own _ _ _ _ from row_set (v := .slice va n vc) (row_set (v := .slice va n vc) (row_set (v := .slice va n vc) o3 (b := w.heap.size) (fun q => by have := (Own.block o3) _ q; omega) 8 (.int .i64 0)) (b := w.heap.size) (fun q => by have := (Own.block o3) _ q; omega) 3 (.bool false)) (b := w.heap.size) (fun q => by have := (Own.block o3) _ q; omega) 9 (.slice va n vc))
            have PW := Lib.hid (show (row ++ [(({ f with off := ((0 : Nat) : Int), more := false, dat := bl (fun k => g (0 + k)) n } : Fr), Value.slice va n vc)]).Pairwise Dj from List.pairwise_append.2 ⟨HPW.out, List.pairwise_singleton _ _, fun x hx y hy g' hg' q => by
              rw [List.mem_singleton.1 hy] at q
              have h1 := ((HR.out.2 x hx).lt g' hg').2
              have h2 := (Own.block o3) g' q
              omega⟩)
            have R4 := Lib.hid ((((HR.out.below hb).set L2 8 (.int .i64 0)).set L2 3 (.bool false)).set L2 9 (.slice va n vc))
            have B4 := Lib.hid (below_set (below_set (below_set (bstep HB.out hb) (Nat.le_refl _) 8 (.int .i64 0)) (Nat.le_refl _) 3 (.bool false)) (Nat.le_refl _) 9 (.slice va n vc))
            have hs4 : w2.heap.size ≤ (((w3.setCell ⟨w.heap.size, 8, none⟩ (.int .i64 0)).setCell ⟨w.heap.size, 3, none⟩ (.bool false)).setCell ⟨w.heap.size, 9, none⟩ (.slice va n vc)).heap.size := by
              have := hb.size
              simp [World.setCell]
              omega
            clear CC HN HO N3 o3 hb
            go_upto_region 11 with fail
            clear y8 u8 y3 u3 y9 u9
            generalize ((w3.setCell ⟨w.heap.size, 8, none⟩ (.int .i64 0)).setCell ⟨w.heap.size, 3, none⟩ (.bool false)).setCell ⟨w.heap.size, 9, none⟩ (.slice va n vc) = w4 at *
            have HRL : Hid (row.length = 0) := Lib.hid (by have := congrArg List.length HM.out; simpa using this)
            obtain ⟨v5, w5, hr5, o5, b5, g5⟩ := appR R4.out.1 { f with off := ((0 : Nat) : Int), more := false, dat := bl (fun k => g (0 + k)) n } (.slice va n vc) rfl hs4 (by rw [HRL.out]; omega) 37
            have R5 := Lib.hid (R4.out.snoc (O4.out.le (by omega)) o5 g5)
            have HR5 := Lib.hid hr5
            have N5 := Lib.hid (N4.out.belowB L2 b5)
            have B5 := Lib.hid (B4.out.trans (b5.mono (Nat.le_of_lt L2)))
            have hs5 := Nat.le_trans hs4 b5.size
            clear hr5 o5 b5 g5 R4 O4
            go_wp2_with (first | (refine wpList_load_mid rfl 24 _ rfl _ 0 rfl [.int .i64 f.ver, .bool f.resp, .bool f.er, .bool false, .int .i64 f.op, .int .i64 f.seq, .int .i64 f.st, .int .i64 f.asc, .int .i64 0, .slice va n vc] _ N4.out.range Try.underlying24 rfl (by exact info_fr) ?_) | (at_builtin; refine wpList_append_eq rfl _ _ 37 rfl _ _ v5 w5 rfl rfl HR5.out ?_))
            exact ⟨⟨0 + 1, _, { f with off := ((0 : Nat) : Int), more := false, dat := bl (fun k => g (0 + k)) n }, .slice va n vc, NI0.out, rfl, R5.out, by rw [List.map_append, HM.out, List.range_succ, List.map_append, List.map_singleton, List.map_singleton, EPC.out], PW.out, N5.out, rfl, B5.out, hs5⟩, by simp [intOf] <;> omega⟩
          | some ad =>
            have CC := Lib.hid (Clone_any CS)
            have EPC : Hid (pc f n g 0 = ({ f with off := ((0 : Nat) : Int), more := false, dat := bl (fun k => g (0 + k)) n } : Fr)) := Lib.hid (by unfold pc; rw [mq, HMO.out])
            clear CS mq HMO
            go_wp2_with fail
            refine CC.out.mono ?_
            rintro e w3 ⟨⟨v3, rfl, o3⟩, hb⟩
            obtain ⟨va, vc, rfl⟩ := own_form o3
            rw [bl_len] at o3
            simp only [bl_len]
            have N3 := HN.out.below hb
            have z0 : w.heap.size < wr.heap.size := Nat.lt_of_lt_of_le L2 hs
            have z3 : w.heap.size < w3.heap.size := Nat.lt_of_lt_of_le z0 hb.size
            obtain ⟨y8, u8⟩ := N3.2 8 _ rfl
            obtain ⟨y3, u3⟩ := N3.2 3 _ rfl
            obtain ⟨y9, u9⟩ := N3.2 9 _ rfl
            have N4 : Hid (Blk (((w3.setCell ⟨w.heap.size, 8, none⟩ (.int .i64 0)).setCell ⟨w.heap.size, 3, none⟩ (.bool false)).setCell ⟨w.heap.size, 9, none⟩ (.slice va n vc)) w.heap.size (fvs { f with off := ((0 : Nat) : Int), more := false, dat := bl (fun k => g (0 + k)) n } (.slice va n vc))) := Lib.hid (blk_set (blk_set (blk_set N3 8 _) 3 _) 9 _)
            have O4 := Lib.hid (show Own _ _ _ _ from row_set (v := .slice va n vc) (row_set (v := .slice va n vc) (row_set (v := .slice va n vc) o3 (b := w.heap.size) (fun q => by have := (Own.block o3) _ q; omega) 8 (.int .i64 0)) (b := w.heap.size) (fun q => by have := (Own.block o3) _ q; omega) 3 (.bool false)) (b := w.heap.size) (fun q => by have := (Own.block o3) _ q; omega) 9 (.slice va n vc))
            have PW := Lib.hid (show (row ++ [(({ f with off := ((0 : Nat) : Int), more := false, dat := bl (fun k => g (0 + k)) n } : Fr), Value.slice va n vc)]).Pairwise Dj from List.pairwise_append.2 ⟨HPW.out, List.pairwise_singleton _ _, fun x hx y hy g' hg' q => by
              rw [List.mem_singleton.1 hy] at q
              have h1 := ((HR.out.2 x hx).lt g' hg').2
              have h2 := (Own.block o3) g' q
              omega⟩)
            have R4 := Lib.hid ((((HR.out.below hb).set L2 8 (.int .i64 0)).set L2 3 (.bool false)).set L2 9 (.slice va n vc))
            have B4 := Lib.hid (below_set (below_set (below_set (bstep HB.out hb) (Nat.le_refl _) 8 (.int .i64 0)) (Nat.le_refl _) 3 (.bool false)) (Nat.le_refl _) 9 (.slice va n vc))
            have hs4 : w2.heap.size ≤ (((w3.setCell ⟨w.heap.size, 8, none⟩ (.int .i64 0)).setCell ⟨w.heap.size, 3, none⟩ (.bool false)).setCell ⟨w.heap.size, 9, none⟩ (.slice va n vc)).heap.size := by
              have := hb.size
              simp [World.setCell]
              omega
            clear CC HN HO N3 o3 hb
            go_upto_region 11 with fail
            clear y8 u8 y3 u3 y9 u9
            generalize ((w3.setCell ⟨w.heap.size, 8, none⟩ (.int .i64 0)).setCell ⟨w.heap.size, 3, none⟩ (.bool false)).setCell ⟨w.heap.size, 9, none⟩ (.slice va n vc) = w4 at *
            have HRL : Hid (row.length = 0) := Lib.hid (by have := congrArg List.length HM.out; simpa using this)
            obtain ⟨v5, w5, hr5, o5, b5, g5⟩ := appR R4.out.1 { f with off := ((0 : Nat) : Int), more := false, dat := bl (fun k => g (0 + k)) n } (.slice va n vc) rfl hs4 (by rw [HRL.out]; omega) 37
            have R5 := Lib.hid (R4.out.snoc (O4.out.le (by omega)) o5 g5)
            have HR5 := Lib.hid hr5
            have N5 := Lib.hid (N4.out.belowB L2 b5)
            have B5 := Lib.hid (B4.out.trans (b5.mono (Nat.le_of_lt L2)))
            have hs5 := Nat.le_trans hs4 b5.size
            clear hr5 o5 b5 g5 R4 O4
            go_wp2_with (first | (refine wpList_load_mid rfl 24 _ rfl _ 0 rfl [.int .i64 f.ver, .bool f.resp, .bool f.er, .bool false, .int .i64 f.op, .int .i64 f.seq, .int .i64 f.st, .int .i64 f.asc, .int .i64 0, .slice va n vc] _ N4.out.range Try.underlying24 rfl (by exact info_fr) ?_) | (at_builtin; refine wpList_append_eq rfl _ _ 37 rfl _ _ v5 w5 rfl rfl HR5.out ?_))
            exact ⟨⟨0 + 1, _, { f with off := ((0 : Nat) : Int), more := false, dat := bl (fun k => g (0 + k)) n }, .slice va n vc, NI0.out, rfl, R5.out, by rw [List.map_append, HM.out, List.range_succ, List.map_append, List.map_singleton, List.map_singleton, EPC.out], PW.out, N5.out, rfl, B5.out, hs5⟩, by simp [intOf] <;> omega⟩
      · obtain ⟨AT, hAT⟩ : ∃ AT, 468 * i = AT := ⟨_, rfl⟩
        rw [hAT]
        have HAT := Lib.hid hAT
        have ea : ((AT : Int) == 0) = false := by simp; omega
        have a0 : (0 : Int) ≤ (AT : Int) := by omega
        by_cases cl : AT < n
        · have el : decide ((AT : Int) < (n : Int)) = true := decide_eq_true (by omega)
          have a1 : (AT : Int) ≤ 65535 := by omega
          clear hAT
          obtain ⟨b, o, rfl, BB⟩ : ∃ b o, sa = some ⟨b, o, none⟩ ∧ Bs w b o n g := by obtain ⟨_, _, e, _, _, _, h, _⟩ := SS.out; cases e; exact h (by omega)
          have q5 : ¬ sc = AT := by omega
          have tN : ((AT : Int) + 468).toNat - AT = 468 := by omega
          by_cases cm : AT + 468 ≤ n
          · have em : decide ((AT : Int) + 468 ≤ (n : Int)) = true := decide_eq_true (by omega)
            have em' : (AT : Int) + 468 ≤ (n : Int) := by omega
            have mq : min (468 * i + 468) n - 468 * i = 468 := by have := HAT.out; omega
            have HMO : Hid (decide (468 * i + 468 < n) = decide ((AT : Int) + 468 < (n : Int))) := Lib.hid (by have := HAT.out; exact decide_eq_decide.2 (by omega))
            have CS := sb_sl (f := fun k => g (AT + k)) (n := 468) ⟨some ⟨b, o + AT, none⟩, sc - AT, rfl, by omega, by omega, fun k => BB.2.1 _, fun _ => ⟨b, o + AT, rfl, (BB.below HB.out).part AT 468 cm⟩, fun e => by cases e⟩ (by omega)
            obtain ⟨MO, hMO⟩ : ∃ M, decide ((AT : Int) + 468 < (n : Int)) = M := ⟨_, rfl⟩
            rw [hMO] at HMO
            have CC := Lib.hid (Clone_any CS)
            have EPC : Hid (pc f n g i = ({ f with off := ((AT : Nat) : Int), more := MO, dat := bl (fun k => g (AT + k)) 468 } : Fr)) := Lib.hid (by unfold pc; rw [mq, HMO.out, HAT.out])
            clear CS mq HMO BB
            go_wp2_with fail
            refine CC.out.mono ?_
            rintro e w3 ⟨⟨v3, rfl, o3⟩, hb⟩
            obtain ⟨va, vc, rfl⟩ := own_form o3
            rw [bl_len] at o3
            simp only [bl_len]
            have N3 := HN.out.below hb
            have z0 : w.heap.size < wr.heap.size := Nat.lt_of_lt_of_le L2 hs
            have z3 : w.heap.size < w3.heap.size := Nat.lt_of_lt_of_le z0 hb.size
            obtain ⟨y8, u8⟩ := N3.2 8 _ rfl
            obtain ⟨y3, u3⟩ := N3.2 3 _ rfl
            obtain ⟨y9, u9⟩ := N3.2 9 _ rfl
            have N4 : Hid (Blk (((w3.setCell ⟨w.heap.size, 8, none⟩ (.int .i64 (AT : Int))).setCell ⟨w.heap.size, 3, none⟩ (.bool MO)).setCell ⟨w.heap.size, 9, none⟩ (.slice va 468 vc)) w.heap.size (fvs { f with off := ((AT : Nat) : Int), more := MO, dat := bl (fun k => g (AT + k)) 468 } (.slice va 468 vc))) := Lib.hid (blk_set (blk_set (blk_set N3 8 _) 3 _) 9 _)
            have O4 := Lib.hid (show Own _ _ _ _ from row_set (v := .slice va 468 vc) (row_set (v := .slice va 468 vc) (row_set (v := .slice va 468 vc) o3 (b := w.heap.size) (fun q => by have := (Own.block o3) _ q; omega) 8 (.int .i64 (AT : Int))) (b := w.heap.size) (fun q => by have := (Own.block o3) _ q; omega) 3 (.bool MO)) (b := w.heap.size) (fun q => by have := (Own.block o3) _ q; omega) 9 (.slice va 468 vc))
            have PW := Lib.hid (show (row ++ [(({ f with off := ((AT : Nat) : Int), more := MO, dat := bl (fun k => g (AT + k)) 468 } : Fr), Value.slice va 468 vc)]).Pairwise Dj from List.pairwise_append.2 ⟨HPW.out, List.pairwise_singleton _ _, fun x hx y hy g' hg' q => by
              rw [List.mem_singleton.1 hy] at q
              have h1 := ((HR.out.2 x hx).lt g' hg').2
              have h2 := (Own.block o3) g' q
              omega⟩)
            have R4 := Lib.hid ((((HR.out.below hb).set L2 8 (.int .i64 (AT : Int))).set L2 3 (.bool MO)).set L2 9 (.slice va 468 vc))
            have B4 := Lib.hid (below_set (below_set (below_set (bstep HB.out hb) (Nat.le_refl _) 8 (.int .i64 (AT : Int))) (Nat.le_refl _) 3 (.bool MO)) (Nat.le_refl _) 9 (.slice va 468 vc))
            have hs4 : w2.heap.size ≤ (((w3.setCell ⟨w.heap.size, 8, none⟩ (.int .i64 (AT : Int))).setCell ⟨w.heap.size, 3, none⟩ (.bool MO)).setCell ⟨w.heap.size, 9, none⟩ (.slice va 468 vc)).heap.size := by
              have := hb.size
              simp [World.setCell]
              omega
            clear CC HN HO N3 o3 hb
            go_upto_region 11 with fail
            clear y8 u8 y3 u3 y9 u9
            generalize ((w3.setCell ⟨w.heap.size, 8, none⟩ (.int .i64 (AT : Int))).setCell ⟨w.heap.size, 3, none⟩ (.bool MO)).setCell ⟨w.heap.size, 9, none⟩ (.slice va 468 vc) = w4 at *
            have HRL : Hid (row.length = i) := Lib.hid (by have := congrArg List.length HM.out; simpa using this)
            obtain ⟨v5, w5, hr5, o5, b5, g5⟩ := appR R4.out.1 { f with off := ((AT : Nat) : Int), more := MO, dat := bl (fun k => g (AT + k)) 468 } (.slice va 468 vc) rfl hs4 (by rw [HRL.out]; have := HI.out; have := HP.out; omega) 37
            have R5 := Lib.hid (R4.out.snoc (O4.out.le (by omega)) o5 g5)
            have HR5 := Lib.hid hr5
            have N5 := Lib.hid (N4.out.belowB L2 b5)
            have B5 := Lib.hid (B4.out.trans (b5.mono (Nat.le_of_lt L2)))
            have hs5 := Nat.le_trans hs4 b5.size
            clear hr5 o5 b5 g5 R4 O4
            go_wp2_with (first | (refine wpList_load_mid rfl 24 _ rfl _ 0 rfl [.int .i64 f.ver, .bool f.resp, .bool f.er, .bool MO, .int .i64 f.op, .int .i64 f.seq, .int .i64 f.st, .int .i64 f.asc, .int .i64 (AT : Int), .slice va 468 vc] _ N4.out.range Try.underlying24 rfl (by exact info_fr) ?_) | (at_builtin; refine wpList_append_eq rfl _ _ 37 rfl _ _ v5 w5 rfl rfl HR5.out ?_))
            have hAT := HAT.out
            exact ⟨⟨i + 1, _, { f with off := ((AT : Nat) : Int), more := MO, dat := bl (fun k => g (AT + k)) 468 }, .slice va 468 vc, by have := HI.out; have := NI.out.2 (by first | exact Or.inl ‹_› | (right; omega)); omega, by rw [show ((468 * (i + 1) : Nat) : Int) = (AT : Int) + 468 by omega], R5.out, by rw [List.map_append, HM.out, List.range_succ, List.map_append, List.map_singleton, List.map_singleton, EPC.out], PW.out, N5.out, rfl, B5.out, hs5⟩, by simp [intOf]; have := HI.out; have := NI.out.2 (by first | exact Or.inl ‹_› | (right; omega)); omega⟩
          · have em : decide ((AT : Int) + 468 ≤ (n : Int)) = false := decide_eq_false (by omega)
            have em' : ¬ ((AT : Int) + 468 ≤ (n : Int)) := by omega
            have em2 : decide ((n : Int) ≤ (AT : Int) + 468) = true := decide_eq_true (by omega)
            have mq : min (468 * i + 468) n - 468 * i = n - AT := by have := HAT.out; omega
            have HMO : Hid (decide (468 * i + 468 < n) = false) := Lib.hid (by have := HAT.out; exact decide_eq_false (by omega))
            have CS := sb_sl (f := fun k => g (AT + k)) (n := n - AT) ⟨some ⟨b, o + AT, none⟩, sc - AT, rfl, by omega, by omega, fun k => BB.2.1 _, fun _ => ⟨b, o + AT, rfl, (BB.below HB.out).part AT (n - AT) (by omega)⟩, fun e => by cases e⟩ (by omega)
            have CC := Lib.hid (Clone_any CS)
            have EPC : Hid (pc f n g i = ({ f with off := ((AT : Nat) : Int), more := false, dat := bl (fun k => g (AT + k)) (n - AT) } : Fr)) := Lib.hid (by unfold pc; rw [mq, HMO.out, HAT.out])
            clear CS mq HMO BB
            go_wp2_with fail
            refine CC.out.mono ?_
            rintro e w3 ⟨⟨v3, rfl, o3⟩, hb⟩
            obtain ⟨va, vc, rfl⟩ := own_form o3
            rw [bl_len] at o3
            simp only [bl_len]
            have N3 := HN.out.below hb
            have z0 : w.heap.size < wr.heap.size := Nat.lt_of_lt_of_le L2 hs
            have z3 : w.heap.size < w3.heap.size := Nat.lt_of_lt_of_le z0 hb.size
            obtain ⟨y8, u8⟩ := N3.2 8 _ rfl
            obtain ⟨y3, u3⟩ := N3.2 3 _ rfl
            obtain ⟨y9, u9⟩ := N3.2 9 _ rfl
            have N4 : Hid (Blk (((w3.setCell ⟨w.heap.size, 8, none⟩ (.int .i64 (AT : Int))).setCell ⟨w.heap.size, 3, none⟩ (.bool false)).setCell ⟨w.heap.size, 9, none⟩ (.slice va (n - AT) vc)) w.heap.size (fvs { f with off := ((AT : Nat) : Int), more := false, dat := bl (fun k => g (AT + k)) (n - AT) } (.slice va (n - AT) vc))) := Lib.hid (blk_set (blk_set (blk_set N3 8 _) 3 _) 9 _)
            have O4 := Lib.hid (show Own _ _ _ _ from row_set (v := .slice va (n - AT) vc) (row_set (v := .slice va (n - AT) vc) (row_set (v := .slice va (n - AT) vc) o3 (b := w.heap.size) (fun q => by have := (Own.block o3) _ q; omega) 8 (.int .i64 (AT : Int))) (b := w.heap.size) (fun q => by have := (Own.block o3) _ q; omega) 3 (.bool false)) (b := w.heap.size) (fun q => by have := (Own.block o3) _ q; omega) 9 (.slice va (n - AT) vc))
            have PW := Lib.hid (show (row ++ [(({ f with off := ((AT : Nat) : Int), more := false, dat := bl (fun k => g (AT + k)) (n - AT) } : Fr), Value.slice va (n - AT) vc)]).Pairwise Dj from List.pairwise_append.2 ⟨HPW.out, List.pairwise_singleton _ _, fun x hx y hy g' hg' q => by
              rw [List.mem_singleton.1 hy] at q
              have h1 := ((HR.out.2 x hx).lt g' hg').2
              have h2 := (Own.block o3) g' q
              omega⟩)
            have R4 := Lib.hid ((((HR.out.below hb).set L2 8 (.int .i64 (AT : Int))).set L2 3 (.bool false)).set L2 9 (.slice va (n - AT) vc))
            have B4 := Lib.hid (below_set (below_set (below_set (bstep HB.out hb) (Nat.le_refl _) 8 (.int .i64 (AT : Int))) (Nat.le_refl _) 3 (.bool false)) (Nat.le_refl _) 9 (.slice va (n - AT) vc))
            have hs4 : w2.heap.size ≤ (((w3.setCell ⟨w.heap.size, 8, none⟩ (.int .i64 (AT : Int))).setCell ⟨w.heap.size, 3, none⟩ (.bool false)).setCell ⟨w.heap.size, 9, none⟩ (.slice va (n - AT) vc)).heap.size := by
              have := hb.size
              simp [World.setCell]
              omega
            clear CC HN HO N3 o3 hb
            go_upto_region 11 with fail
            clear y8 u8 y3 u3 y9 u9
            generalize ((w3.setCell ⟨w.heap.size, 8, none⟩ (.int .i64 (AT : Int))).setCell ⟨w.heap.size, 3, none⟩ (.bool false)).setCell ⟨w.heap.size, 9, none⟩ (.slice va (n - AT) vc) = w4 at *
            have HRL : Hid (row.length = i) := Lib.hid (by have := congrArg List.length HM.out; simpa using this)
            obtain ⟨v5, w5, hr5, o5, b5, g5⟩ := appR R4.out.1 { f with off := ((AT : Nat) : Int), more := false, dat := bl (fun k => g (AT + k)) (n - AT) } (.slice va (n - AT) vc) rfl hs4 (by rw [HRL.out]; have := HI.out; have := HP.out; omega) 37
            have R5 := Lib.hid (R4.out.snoc (O4.out.le (by omega)) o5 g5)
            have HR5 := Lib.hid hr5
            have N5 := Lib.hid (N4.out.belowB L2 b5)
            have B5 := Lib.hid (B4.out.trans (b5.mono (Nat.le_of_lt L2)))
            have hs5 := Nat.le_trans hs4 b5.size
            clear hr5 o5 b5 g5 R4 O4
            go_wp2_with (first | (refine wpList_load_mid rfl 24 _ rfl _ 0 rfl [.int .i64 f.ver, .bool f.resp, .bool f.er, .bool false, .int .i64 f.op, .int .i64 f.seq, .int .i64 f.st, .int .i64 f.asc, .int .i64 (AT : Int), .slice va (n - AT) vc] _ N4.out.range Try.underlying24 rfl (by exact info_fr) ?_) | (at_builtin; refine wpList_append_eq rfl _ _ 37 rfl _ _ v5 w5 rfl rfl HR5.out ?_))
            have hAT := HAT.out
            exact ⟨⟨i + 1, _, { f with off := ((AT : Nat) : Int), more := false, dat := bl (fun k => g (AT + k)) (n - AT) }, .slice va (n - AT) vc, by have := HI.out; have := NI.out.2 (by first | exact Or.inl ‹_› | (right; omega)); omega, by rw [show ((468 * (i + 1) : Nat) : Int) = (AT : Int) + 468 by omega], R5.out, by rw [List.map_append, HM.out, List.range_succ, List.map_append, List.map_singleton, List.map_singleton, EPC.out], PW.out, N5.out, rfl, B5.out, hs5⟩, by simp [intOf]; have := HI.out; have := NI.out.2 (by first | exact Or.inl ‹_› | (right; omega)); omega⟩
        · have el : decide ((AT : Int) < (n : Int)) = false := decide_eq_false (by omega)
          have hi' : i = npc n := by
            have := NI.out
            by_cases q : i < npc n
            · rcases this.1 q with h | h <;> omega
            · omega
          clear hAT
          go_wp2_with fail
          go_ret2
          exact ⟨⟨_, row, by rw [DE.out]; rfl, HR.out.le (by omega), by rw [DC.out, ← hi']; exact HM.out, HPW.out⟩, HB.out⟩
end Go.Proofs.Yteigmnbbfmcihaa.Ct
