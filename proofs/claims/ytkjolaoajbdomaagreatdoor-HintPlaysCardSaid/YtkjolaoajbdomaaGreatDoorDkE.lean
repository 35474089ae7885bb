/-
  Clones; the contract of disk.put.
  Conditions: none.
-/
import Derived.Test.YtkjolaoajbdomaaGreatDoorDkD
import Derived.Test.YtkjolaoajbdomaaGreatDoorShelfK
import Derived.Deep.RegionHeld3
import Derived.BigRegion
namespace Go.Proofs.YtkjolaoajbdomaaGreatDoor.Dk
open Go.RowKit Go.ChangeShapes Go.WideShapes Go.ChangeAt Go.Joins Go.Maps By Ct
set_option linter.unusedVariables false
set_option linter.unusedSimpArgs false

set_option maxRecDepth 100000 in
theorem sClone_c (s : ByteArray) (w : World) (h : s.size ≤ 281474976710656) : Calls Tryz.prog 43 #[.string s] w fun e w' => e = .returned (.string s) ∧ Below w.heap.size w w' := by
  have K := Lib.hid (lite_Clone s w h)
  clear h
  go_enter Tryz.func43, Tryz.ntmps43
  go_wp2_with fail
  refine K.out.mono ?_
  rintro e w' ⟨rfl, hb⟩
  have HB := Lib.hid hb
  clear hb
  go_wp2_with fail
  go_ret
  exact ⟨rfl, HB.out⟩
theorem in_nil (w : World) (d : Nat) (a : Option Addr) (l c : Nat) : (Op.equalIn (d + 1) 28 (.slice a l c) (.slice none 0 0)).run Tryz.prog w = .ok a.isNone w := by
  cases a <;> simp [Op.equalIn, run_underlying Tryz.underlying28]
theorem at_nil (w : World) (a : Option Addr) (l c : Nat) : (Op.equal 28 (.slice a l c) (.slice none 0 0)).run Tryz.prog w = .ok a.isNone w := in_nil w 9999 a l c
theorem nil_eq (n c : Nat) (w : World) : (binOp .eql 28 (.slice none n c) (.slice none 0 0)).run Tryz.prog w = .ok (.bool true) w := by simp [binOp, at_nil w]
theorem some_eq (a : Addr) (n c : Nat) (w : World) : (binOp .eql 28 (.slice (some a) n c) (.slice none 0 0)).run Tryz.prog w = .ok (.bool false) w := by simp [binOp, at_nil w]
set_option maxRecDepth 100000 in
set_option maxHeartbeats 8000000 in
theorem bClone_c {w : World} {v : Value} {l : List Nat} (h : Sl w v l) : Calls Tryz.prog 35 #[v] w fun e w' => ∃ u, e = .returned u ∧ Own w' w.heap.size u l ∧ Below w.heap.size w w' := by
  obtain ⟨a, cap, rfl⟩ := h.form
  cases a with
  | none =>
    have h0 : l.length = 0 := by
      obtain ⟨_, _, a, c, e, h1, h2, h3, h4, h5⟩ := h
      cases e
      by_cases q : 0 < l.length
      · obtain ⟨b, off, e, _⟩ := h4 q; cases e
      · omega
    obtain rfl := List.length_eq_zero_iff.1 h0
    have hc : cap = 0 := by
      obtain ⟨_, _, a, c, e, h1, h2, h3, h4, h5⟩ := h
      cases e
      exact h5 rfl
    subst hc
    clear h h0
    have EQ := nil_eq 0 0 w
    go_enter Tryz.func35, Tryz.ntmps35
    go_wp2_with fail
    go_ret
    exact ⟨_, rfl, Own.nil _ _, brefl w⟩
  | some a =>
    have o0 := own0 w w.heap.size (Nat.le_refl _)
    have b0 := balloc (brefl w) (.cells #[] 5)
    obtain ⟨v2, w2, r2, o2, b2, s2, _⟩ := h.app b0 o0 b0.size (by have := h.1; simp; omega) 28
    rw [List.nil_append] at o2
    have O2 := Lib.hid o2
    have B2 := Lib.hid (b0.trans b2)
    clear h o0 b0 o2 b2 s2
    have EQ := some_eq a l.length cap w
    go_enter Tryz.func35, Tryz.ntmps35
    go_wp2_with (first | (at_builtin; refine wpList_append_eq rfl _ _ 28 rfl _ _ v2 w2 rfl rfl r2 ?_))
    go_ret
    exact ⟨_, rfl, O2.out, B2.out⟩
theorem step_mapUpdate {H : Type} {P : Program} {w : World} {ops : Array Oper} {o : Oper} {a : Act} {K : Act → World → Prop} {Q : Exit → Act → World → Prop} {E : Prop} (hgd : o.guard = none) (m x v : Operand) (t : TypeId) (hop : o.op = Op.mapUpdate t m x v)
    (k e : TypeId) (KS : Keyed P k) (ht : P.underlying t = some (.map k e)) (R : Value → Option (DataW H × List MemPlace)) (b n : Nat) (D : DataW H)
    (hm : a.eval m = .map (some b)) (hown : w.ownsMap P k R b n D) (hn : n < maxLen) (key val : Value) (kl : Lit) (hx : a.eval x = key) (hv : a.eval v = val) (hkey : keyOf P k key = some kl)
    (d : DataW H) (ps : List MemPlace) (hval : R val = some (d, ps))
    (hK : ∀ w', w'.ownsMap P k R b (n + 1) (D.put kl d) → w.mapTurned w' b → K (a.put o.dst undef) w') :
    if Region.wanted o (yielded ops a.tmps) = true then Oper.wp P o a w K Q else E := by
  have hw : Region.wanted o (yielded ops a.tmps) = true := by simp [Region.wanted, hgd]
  rw [if_pos hw]
  obtain ⟨w', hrun, r1, r2⟩ := hown.store KS ht hn hkey hval
  unfold Oper.wp
  simp [execOp, hop, hm, hx, hv, hrun, Result.andThen]
  exact hK w' r1 r2
/-- a key of the map. -/
theorem key_of {s : ByteArray} (h : s.size ≤ maxLen) : keyOf Tryz.prog 9 (.string s) = some (.string s.data.toList) := Go.WideMaps.keyOf_string_mk Tryz.underlying9 h
/-- the blocks of a disk behind a file was put in: the old ones, the value's and new ones. -/
def Xp (X : Nat → Prop) (v : Value) (w w' : World) : Nat → Prop := fun k => X k ∨ v.ownBlock = some k ∨ (w.heap.size ≤ k ∧ k < w'.heap.size)
/-- behind the store into the map. -/
theorem put_pm {w wa w' : World} {d b n : Nat} {s : Dk} {X : Nat → Prop} {D : DataW Value} {nm : List UInt8} {v : Value} {dat : List Nat} {o c : Bool} {a k : Int}
    (W0 : Wf s) (hX : X d) (hlt : ∀ g, X g → g < w.heap.size) (hs : w.heap.size ≤ wa.heap.size) (hb : Blk wa d [.map (some b), .bool o, .bool c, .int .i64 a, .int .i64 k]) (hp : Pw s o c a k)
    (xb : X b ∨ w.heap.size ≤ b) (bl : b < wa.heap.size) (bd : b ≠ d) (hm : wa.ownsMap Tryz.prog 9 RV b n D) (mf : MapF wa (fun k => X k ∧ k ≠ d) D s.fs)
    (ho : Own wa 0 v dat) (vd : v.ownBlock ≠ some d) (hn : okN nm = true) (h8 : ∀ x ∈ dat, x < 256) (hl : dat.length ≤ 65536)
    (hm' : w'.ownsMap Tryz.prog 9 RV b (n + 1) (D.put (.string nm) (.held v))) (ht : wa.mapTurned w' b) :
    Pm w' d { s with fs := put s.fs nm dat } (Xp X v w w') := by
  have tu : Tu (Td b) wa w' := tu_turned rfl ht
  have vb : v.ownBlock ≠ some b := fun q => by
    obtain ⟨c, hc⟩ := row_kind ho b q
    obtain ⟨es, cl, hb', _⟩ := hm
    rw [hb'] at hc
    cases hc
  have keep : ∀ g, g ≠ b → g < wa.heap.size → w'.heap[g]? = wa.heap[g]? := fun g hg hgl => tu.block g hgl hg
  refine ⟨wf_put W0 hn h8 hl (fun p hp => hp) W0.nodup, .inl hX, fun g hg => ?_, some b, o, c, a, k, blk_keep hb (keep d (Ne.symm bd) hb.1) tu.size, hp, ?_, bd, D.put (.string nm) (.held v), n + 1, hm', ?_⟩
  · rcases hg with hg | hg | ⟨_, hg⟩
    · exact Nat.lt_of_lt_of_le (hlt g hg) (Nat.le_trans hs tu.size)
    · exact Nat.lt_of_lt_of_le (ho.lt g hg).2 tu.size
    · exact hg
  · rcases xb with h | h
    · exact .inl h
    · exact .inr (.inr ⟨h, Nat.lt_of_lt_of_le bl tu.size⟩)
  · have nb : ∀ g, (X g ∧ g ≠ d) → g = b → ∀ (u : Value) x, Own wa 0 u x → u.ownBlock ≠ some g := fun g _ e u x hu q => by
      subst e
      obtain ⟨c, hc⟩ := row_kind hu g q
      obtain ⟨es, cl, hb', _⟩ := hm
      rw [hb'] at hc
      cases hc
    have mf2 : MapF w' (fun k => Xp X v w w' k ∧ k ≠ d) D s.fs := fun m => by
      refine ⟨(mf m).1, fun x hx => ?_⟩
      obtain ⟨u, u1, u2, u3⟩ := (mf m).2 x hx
      refine ⟨u, u1, row_keep u2 (fun g hg => keep g (fun e => nb g (u3 g hg) e u x u2 hg) (u2.lt g hg).2), fun g hg => ⟨.inl (u3 g hg).1, (u3 g hg).2⟩⟩
    exact mapF_put mf2 hm.isMap nm (row_keep ho (fun g hg => keep g (fun e => vb (e ▸ hg)) (ho.lt g hg).2)) (fun g hg => ⟨.inr (.inl hg), fun e => vd (e ▸ hg)⟩)
theorem in_mnil (w : World) (d : Nat) (a : Option Nat) : (Op.equalIn (d + 1) 55 (.map a) (.map none)).run Tryz.prog w = .ok a.isNone w := by
  cases a <;> simp [Op.equalIn, run_underlying Tryz.underlying55]
theorem at_mnil (w : World) (a : Option Nat) : (Op.equal 55 (.map a) (.map none)).run Tryz.prog w = .ok a.isNone w := in_mnil w 9999 a
theorem map_eq (a : Option Nat) (w : World) : (binOp .eql 55 (.map a) (.map none)).run Tryz.prog w = .ok (.bool a.isNone) w := by simp [binOp, at_mnil w]
theorem okN_max {n : List UInt8} (h : okN n = true) : (st n).size ≤ maxLen := by
  have := (okN_le h).2
  show n.toArray.size ≤ maxLen
  rw [List.size_toArray]
  unfold maxLen
  omega
theorem st_of (s : ByteArray) : st s.data.toList = s := by
  cases s with | mk d => simp [st]
theorem tu0 (w : World) : Below w.heap.size w w.drew := (brefl w).drew
theorem tu1 {w w' : World} (h : Below w.drew.heap.size w.drew w') : Below w.heap.size w w' := (brefl w).drew.trans h
set_option maxRecDepth 100000 in
set_option maxHeartbeats 16000000 in
theorem put_c {w : World} {d : Nat} {s : Dk} {X : Nat → Prop} {nm : ByteArray} {v : Value} {dat : List Nat} (h : Pm w d s X) (hf : s.fs.length ≤ 100000) (hn : okN nm.data.toList = true) (ho : Own w 0 v dat) (vd : v.ownBlock ≠ some d) (h8 : ∀ x ∈ dat, x < 256) (hl : dat.length ≤ 65536) :
    Calls Tryz.prog 34 #[.pointer (some ⟨d, 0, none⟩), .string nm, v] w fun e w' => e = .returned (.tuple #[]) ∧ Pm w' d { s with fs := put s.fs nm.data.toList dat } (Xp X v w w') ∧ Tu X w w' := by
  obtain ⟨W0, hX, hlt, mv, o, c, a, k, hb, hp, hfs⟩ := h
  have hsz : nm.size ≤ maxLen := by rw [← st_of nm]; exact okN_max hn
  have HC := Lib.hid (fun z => sClone_c nm z (by have := (okN_le hn).2; rw [tl_len] at this; omega))
  have HS := Lib.hid hsz
  obtain ⟨va, vl, vc, rfl⟩ : ∃ a l c, v = .slice a l c := by obtain ⟨a, c, e⟩ := own_form ho; exact ⟨a, _, c, e⟩
  cases mv with
  | none =>
    have hfs' : s.fs = [] := hfs
    have EQ : (binOp .eql 55 (.map none) (.map none)).run Tryz.prog w = .ok (.bool true) w := map_eq none w
    obtain ⟨b, hbe⟩ : ∃ b, w.heap.size = b := ⟨_, rfl⟩
    have c0 := (hb.2 0 _ rfl).1
    have f0 := (hb.2 0 _ rfl).2
    have hdl := hb.1
    have bd : b ≠ d := by omega
    have B1 : Blk ((w.alloc (.map #[] 0)).setCell ⟨d, 0, none⟩ (.map (some b))) d [.map (some b), .bool o, .bool c, .int .i64 a, .int .i64 k] := blk_set (hb.below (balloc (brefl w) _)) 0 (.map (some b))
    have M1 : ((w.alloc (.map #[] 0)).setCell ⟨d, 0, none⟩ (.map (some b))).ownsMap Tryz.prog 9 RV b s.fs.length (.map []) := by
      have h := (World.ownsMap_made w Tryz.prog 9 RV).setCell (a := ⟨d, 0, none⟩) (by show w.heap.size ≠ d; omega) (.map (some b))
      rw [hbe] at h
      rw [hfs']
      exact h
    have T1 : Tu X w ((w.alloc (.map #[] 0)).setCell ⟨d, 0, none⟩ (.map (some b))) := (tu_alloc w _).tr (tu_set (X := X) hX) (fun _ _ q => q)
    have S1 : b < ((w.alloc (.map #[] 0)).setCell ⟨d, 0, none⟩ (.map (some b))).heap.size := by simp; omega
    have hmk := @run_makeMap Tryz.prog
    have c1 : (w.alloc (.map #[] 0)).cell? ⟨d, 0, none⟩ = some (.map none) := ((balloc (brefl w) (.map #[] 0)).cell (p := ⟨d, 0, none⟩) hdl).trans c0
    have f1 : (w.alloc (.map #[] 0)).frozen? ⟨d, 0, none⟩ = false := ((balloc (brefl w) (.map #[] 0)).frozen (p := ⟨d, 0, none⟩) hdl).trans f0
    have O1 : Own ((w.alloc (.map #[] 0)).setCell ⟨d, 0, none⟩ (.map (some b))) 0 (.slice va vl vc) dat := row_set (World.ownsRow.alloc ho _) vd 0 _
    obtain ⟨D, hD⟩ : ∃ D : DataW Value, D = .map [] := ⟨_, rfl⟩
    rw [← hD] at M1
    have mf0 : ∀ z Y, MapF z Y D s.fs := fun z Y => by rw [hD, hfs']; exact mapF_nil z Y
    have HW : Hid (Wf s ∧ ∀ g, X g → g < w.heap.size) := Lib.hid ⟨W0, hlt⟩
    have HP := Lib.hid hp
    have HX := Lib.hid hX
    have VD := Lib.hid vd
    have HB := Lib.hid hbe
    have hmx : s.fs.length < maxLen := by rw [hfs']; unfold maxLen; simp
    have HMX := Lib.hid hmx
    have BD := Lib.hid bd
    have HN := Lib.hid hn
    have H8 := Lib.hid h8
    have HL := Lib.hid hl
    clear W0 hlt hp hX vd hmx hfs hfs' hb hsz ho hf bd hD
    go_enter Tryz.func34, Tryz.ntmps34
    go_upto_region 2 with fail
    have DL := Lib.hid B1.1
    generalize (w.alloc (.map #[] 0)).setCell ⟨d, 0, none⟩ (.map (some b)) = w1 at *
    have KP : Hid (∀ w', Below w1.heap.size w1 w' → w'.cell? ⟨d, 0, none⟩ = some (.map (some b))) := Lib.hid fun w' q => (q.cell (p := ⟨d, 0, none⟩) B1.1).trans (B1.2 0 _ rfl).1
    have KM : Hid (∀ w', Below w1.heap.size w1 w' → w'.ownsMap Tryz.prog 9 RV b s.fs.length D) := Lib.hid fun w' q => map_keep M1 (q.block b S1)
    have KF : Hid (∀ wa w', Below w1.heap.size w1 wa → wa.mapTurned w' b → w'.ownsMap Tryz.prog 9 RV b (s.fs.length + 1) (D.put (.string nm.data.toList) (.held (.slice va vl vc))) → Pm w' d { s with fs := put s.fs nm.data.toList dat } (Xp X (.slice va vl vc) w w') ∧ Tu X w w') := Lib.hid fun wa w' q tm hmm =>
      ⟨put_pm HW.out.1 HX.out HW.out.2 (Nat.le_trans T1.size q.size) (B1.below q) HP.out (.inr (by rw [HB.out]; exact Nat.le_refl _)) (Nat.lt_of_lt_of_le S1 q.size) BD.out (map_keep M1 (q.block b S1)) (mf0 _ _) (row_keep O1 (fun g hg => q.block g (O1.lt g hg).2)) VD.out HN.out H8.out HL.out hmm tm,
        (T1.tr (tu_below (X := X) q) (fun _ _ q => q)).tr (tu_turned (X := Td b) rfl tm) (fun i hi q => by have : i = b := q; have := HB.out; omega)⟩
    clear B1 M1 T1 S1 O1 mf0 EQ c0 f0 c1 f1 hmk hdl hbe
    refine wp_region_held_drew (S := fun w' => w'.cell? ⟨d, 0, none⟩ = some (.map (some b))) (by kernel_rfl) (KP.out _ (tu0 _)) (fun hHeld => ?_)
    refine wpAnyH_take (i := 0) (v := ?_) rfl (by kernel_rfl) (by kernel_rfl) (by kernel_rfl) (fun _ _ _ h => h) (Or.inl ⟨by rfl, ?_⟩) hHeld ?_
    rotate_left
    · ((intro w _; go_simp); try with_reducible rfl)
    (try simp only [List.getElem_toArray, List.getElem_cons_succ, List.getElem_cons_zero, Act.put, List.setIfInBounds_toArray, List.set_cons_zero, List.set_cons_succ])
    refine wpAnyH_take (i := 1) (v := ?_) rfl (by kernel_rfl) (by kernel_rfl) (by kernel_rfl) (fun _ _ _ h => h) (Or.inl ⟨by rfl, ?_⟩) hHeld ?_
    rotate_left
    · ((intro w _; go_simp); try with_reducible rfl)
    (try simp only [List.getElem_toArray, List.getElem_cons_succ, List.getElem_cons_zero, Act.put, List.setIfInBounds_toArray, List.set_cons_zero, List.set_cons_succ])
    refine wpAnyH_take (i := 2) (v := ?_) rfl (by kernel_rfl) (by kernel_rfl) (by kernel_rfl) (fun _ _ _ h => h) (Or.inl ⟨by rfl, ?_⟩) hHeld ?_
    rotate_left
    · ((intro w _; go_simp); try with_reducible rfl)
    (try simp only [List.getElem_toArray, List.getElem_cons_succ, List.getElem_cons_zero, Act.put, List.setIfInBounds_toArray, List.set_cons_zero, List.set_cons_succ])
    refine wpAnyH_take (i := 3) (v := ?_) rfl (by kernel_rfl) (by kernel_rfl) (by kernel_rfl) (fun _ _ _ h => h) (Or.inl ⟨by rfl, ?_⟩) hHeld ?_
    rotate_left
    · ((intro w hSw; (try dsimp only at hSw); go_simp); try with_reducible rfl)
    (try simp only [List.getElem_toArray, List.getElem_cons_succ, List.getElem_cons_zero, Act.put, List.setIfInBounds_toArray, List.set_cons_zero, List.set_cons_succ])
    refine wpAnyH_take (i := 4) (v := ?_) rfl (by kernel_rfl) (by kernel_rfl) (by kernel_rfl) (fun _ _ _ h => h) (Or.inl ⟨by rfl, ?_⟩) hHeld ?_
    rotate_left
    · ((intro w _; go_simp); try with_reducible rfl)
    (try simp only [List.getElem_toArray, List.getElem_cons_succ, List.getElem_cons_zero, Act.put, List.setIfInBounds_toArray, List.set_cons_zero, List.set_cons_succ])
    refine wpAnyH_take (i := 6) (v := ?_) rfl (by kernel_rfl) (by kernel_rfl) (by kernel_rfl) (fun _ _ _ h => h) (Or.inl ⟨by rfl, ?_⟩) hHeld ?_
    rotate_left
    · ((intro w _; go_simp); try with_reducible rfl)
    (try simp only [List.getElem_toArray, List.getElem_cons_succ, List.getElem_cons_zero, Act.put, List.setIfInBounds_toArray, List.set_cons_zero, List.set_cons_succ])
    refine wpAnyH_ready (rs := [5]) (by kernel_rfl) (by simp) (AllReadyH.cons rfl (fun KQ hKQ => ?_) AllReadyH.nil)
    go_simp
    refine (HC.out _).mono ?_
    rintro e w1 ⟨rfl, hb⟩
    have hB := tu1 hb
    clear hb
    go_wp2_with fail
    refine hKQ.out _ _ (KP.out _ hB) (fun hH2 => ?_)
    clear hKQ KQ hHeld
    have hHeld := hH2
    clear hH2
    (try simp only [List.getElem_toArray, List.getElem_cons_succ, List.getElem_cons_zero, Act.put, List.setIfInBounds_toArray, List.set_cons_zero, List.set_cons_succ])
    refine wpAnyH_ready (rs := [7]) (by kernel_rfl) (by simp) (AllReadyH.cons rfl (fun KQ hKQ => ?_) AllReadyH.nil)
    refine step_mapUpdate rfl _ _ _ 55 rfl 9 28 KS Tryz.underlying55 RV b _ D rfl (KM.out _ hB) HMX.out _ _ _ rfl rfl (key_of HS.out) (.held (.slice va vl vc)) [] rfl ?_
    intro w2 hm2 ht2
    obtain ⟨pm2, tu2⟩ := KF.out _ _ hB ht2 hm2
    have P2 := Lib.hid pm2
    have T2 := Lib.hid tu2
    have hc2 := (tu_turned (X := Td b) rfl ht2).block d (Nat.lt_of_lt_of_le DL.out hB.size) (fun q => BD.out q.symm)
    clear pm2 tu2 ht2 hm2
    refine hKQ.out _ _ ((World.cell?_of_block (a := ⟨d, 0, none⟩) hc2).trans (KP.out _ hB)) (fun hH2 => ?_)
    clear hKQ KQ hHeld hH2 hc2
    (try simp only [List.getElem_toArray, List.getElem_cons_succ, List.getElem_cons_zero, Act.put, List.setIfInBounds_toArray, List.set_cons_zero, List.set_cons_succ])
    refine wpAnyH_done (by kernel_rfl) ?_ _
    go_wp2_with fail
    go_end0
    exact ⟨rfl, P2.out, T2.out⟩
  | some b =>
    obtain ⟨xb, bd, D, n0, hm, mf⟩ := hfs
    have hD := mapF_size mf hm W0.nodup
    have hm2 := own_size hm
    rw [hD] at hm2
    have bl := hm2.lt
    have c0 := (hb.2 0 _ rfl).1
    have KP : Hid (∀ w', Below w.heap.size w w' → w'.cell? ⟨d, 0, none⟩ = some (.map (some b))) := Lib.hid fun w' q => (q.cell (p := ⟨d, 0, none⟩) hb.1).trans c0
    have KM : Hid (∀ w', Below w.heap.size w w' → w'.ownsMap Tryz.prog 9 RV b s.fs.length D) := Lib.hid fun w' q => map_keep hm2 (q.block b bl)
    have KF : Hid (∀ wa w', Below w.heap.size w wa → wa.mapTurned w' b → w'.ownsMap Tryz.prog 9 RV b (s.fs.length + 1) (D.put (.string nm.data.toList) (.held (.slice va vl vc))) → Pm w' d { s with fs := put s.fs nm.data.toList dat } (Xp X (.slice va vl vc) w w') ∧ Tu X w w') := Lib.hid fun wa w' q tm hmm =>
      ⟨put_pm W0 hX hlt q.size (hb.below q) hp (.inl xb) (Nat.lt_of_lt_of_le bl q.size) bd (map_keep hm2 (q.block b bl)) (mapF_keep mf (fun g hg => q.block g (hlt g hg.1)) (fun g hg => hg)) (row_keep ho (fun g hg => q.block g (ho.lt g hg).2)) vd hn h8 hl hmm tm,
        (tu_below (X := X) q).tr (tu_turned xb tm) (fun _ _ q => q)⟩
    have hmx : s.fs.length < maxLen := by unfold maxLen; omega
    have HMX := Lib.hid hmx
    have DL := Lib.hid hb.1
    have BD := Lib.hid bd
    clear hm hm2 mf hD bl hb hp hsz ho W0 hlt hmx
    have EQ : (binOp .eql 55 (.map (some b)) (.map none)).run Tryz.prog w = .ok (.bool false) w := map_eq (some b) w
    go_enter Tryz.func34, Tryz.ntmps34
    go_upto_region 2 with fail
    clear c0 EQ
    refine wp_region_held_drew (S := fun w' => w'.cell? ⟨d, 0, none⟩ = some (.map (some b))) (by kernel_rfl) (KP.out _ (tu0 _)) (fun hHeld => ?_)
    refine wpAnyH_take (i := 0) (v := ?_) rfl (by kernel_rfl) (by kernel_rfl) (by kernel_rfl) (fun _ _ _ h => h) (Or.inl ⟨by rfl, ?_⟩) hHeld ?_
    rotate_left
    · ((intro w _; go_simp); try with_reducible rfl)
    (try simp only [List.getElem_toArray, List.getElem_cons_succ, List.getElem_cons_zero, Act.put, List.setIfInBounds_toArray, List.set_cons_zero, List.set_cons_succ])
    refine wpAnyH_take (i := 1) (v := ?_) rfl (by kernel_rfl) (by kernel_rfl) (by kernel_rfl) (fun _ _ _ h => h) (Or.inl ⟨by rfl, ?_⟩) hHeld ?_
    rotate_left
    · ((intro w _; go_simp); try with_reducible rfl)
    (try simp only [List.getElem_toArray, List.getElem_cons_succ, List.getElem_cons_zero, Act.put, List.setIfInBounds_toArray, List.set_cons_zero, List.set_cons_succ])
    refine wpAnyH_take (i := 2) (v := ?_) rfl (by kernel_rfl) (by kernel_rfl) (by kernel_rfl) (fun _ _ _ h => h) (Or.inl ⟨by rfl, ?_⟩) hHeld ?_
    rotate_left
    · ((intro w _; go_simp); try with_reducible rfl)
    (try simp only [List.getElem_toArray, List.getElem_cons_succ, List.getElem_cons_zero, Act.put, List.setIfInBounds_toArray, List.set_cons_zero, List.set_cons_succ])
    refine wpAnyH_take (i := 3) (v := ?_) rfl (by kernel_rfl) (by kernel_rfl) (by kernel_rfl) (fun _ _ _ h => h) (Or.inl ⟨by rfl, ?_⟩) hHeld ?_
    rotate_left
    · ((intro w hSw; (try dsimp only at hSw); go_simp); try with_reducible rfl)
    (try simp only [List.getElem_toArray, List.getElem_cons_succ, List.getElem_cons_zero, Act.put, List.setIfInBounds_toArray, List.set_cons_zero, List.set_cons_succ])
    refine wpAnyH_take (i := 4) (v := ?_) rfl (by kernel_rfl) (by kernel_rfl) (by kernel_rfl) (fun _ _ _ h => h) (Or.inl ⟨by rfl, ?_⟩) hHeld ?_
    rotate_left
    · ((intro w _; go_simp); try with_reducible rfl)
    (try simp only [List.getElem_toArray, List.getElem_cons_succ, List.getElem_cons_zero, Act.put, List.setIfInBounds_toArray, List.set_cons_zero, List.set_cons_succ])
    refine wpAnyH_take (i := 6) (v := ?_) rfl (by kernel_rfl) (by kernel_rfl) (by kernel_rfl) (fun _ _ _ h => h) (Or.inl ⟨by rfl, ?_⟩) hHeld ?_
    rotate_left
    · ((intro w _; go_simp); try with_reducible rfl)
    (try simp only [List.getElem_toArray, List.getElem_cons_succ, List.getElem_cons_zero, Act.put, List.setIfInBounds_toArray, List.set_cons_zero, List.set_cons_succ])
    refine wpAnyH_ready (rs := [5]) (by kernel_rfl) (by simp) (AllReadyH.cons rfl (fun KQ hKQ => ?_) AllReadyH.nil)
    go_simp
    refine (HC.out _).mono ?_
    rintro e w1 ⟨rfl, hb⟩
    have hB := tu1 hb
    clear hb
    go_wp2_with fail
    refine hKQ.out _ _ (KP.out _ hB) (fun hH2 => ?_)
    clear hKQ KQ hHeld
    have hHeld := hH2
    clear hH2
    (try simp only [List.getElem_toArray, List.getElem_cons_succ, List.getElem_cons_zero, Act.put, List.setIfInBounds_toArray, List.set_cons_zero, List.set_cons_succ])
    refine wpAnyH_ready (rs := [7]) (by kernel_rfl) (by simp) (AllReadyH.cons rfl (fun KQ hKQ => ?_) AllReadyH.nil)
    refine step_mapUpdate rfl _ _ _ 55 rfl 9 28 KS Tryz.underlying55 RV b _ D rfl (KM.out _ hB) HMX.out _ _ _ rfl rfl (key_of HS.out) (.held (.slice va vl vc)) [] rfl ?_
    intro w2 hm2 ht2
    obtain ⟨pm2, tu2⟩ := KF.out _ _ hB ht2 hm2
    have P2 := Lib.hid pm2
    have T2 := Lib.hid tu2
    have hc2 := (tu_turned (X := Td b) rfl ht2).block d (Nat.lt_of_lt_of_le DL.out hB.size) (fun q => BD.out q.symm)
    clear pm2 tu2 ht2 hm2
    refine hKQ.out _ _ ((World.cell?_of_block (a := ⟨d, 0, none⟩) hc2).trans (KP.out _ hB)) (fun hH2 => ?_)
    clear hKQ KQ hHeld hH2 hc2
    (try simp only [List.getElem_toArray, List.getElem_cons_succ, List.getElem_cons_zero, Act.put, List.setIfInBounds_toArray, List.set_cons_zero, List.set_cons_succ])
    refine wpAnyH_done (by kernel_rfl) ?_ _
    go_wp2_with fail
    go_end0
    exact ⟨rfl, P2.out, T2.out⟩
end Go.Proofs.YtkjolaoajbdomaaGreatDoor.Dk
