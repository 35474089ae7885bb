/-
  The contract of disk.Write.
  Conditions: none.
-/
import Derived.Test.YtkjolaoajbdomaaGreatDoorDkE
namespace Go.Proofs.YtkjolaoajbdomaaGreatDoor.Dk
open Go.RowKit Go.ChangeShapes Go.WideShapes Go.ChangeAt Go.Joins Go.Maps By Ct
set_option linter.unusedVariables false
set_option linter.unusedSimpArgs false

/-- behind a call: the disk is s'; its blocks are those of X and new ones; nothing else was turned. -/
def Pt (w w' : World) (d : Nat) (X : Nat → Prop) (s' : Dk) : Prop := ∃ X', Pm w' d s' X' ∧ (∀ k, X' k → X k ∨ w.heap.size ≤ k) ∧ Tu X w w'
theorem Pt.same {w w' : World} {d : Nat} {X : Nat → Prop} {s : Dk} (h : Pm w d s X) (q : Below w.heap.size w w') : Pt w w' d X s := ⟨X, h.below q, fun k hk => .inl hk, tu_below q⟩
theorem pt_put {w wa w' : World} {d : Nat} {X : Nat → Prop} {s' : Dk} {u : Value} (h : Pm w' d s' (Xp X u wa w')) (hu : ∀ g, u.ownBlock = some g → X g ∨ w.heap.size ≤ g) (hs : w.heap.size ≤ wa.heap.size) (ht : Tu X w w') : Pt w w' d X s' :=
  ⟨_, h, fun k hk => by
    rcases hk with hk | hk | hk
    · exact .inl hk
    · exact hu k hk
    · exact .inr (by omega), ht⟩
theorem bl_take (l : List Nat) (a : Nat) (h : a ≤ l.length) : bl (fun i => l.getD i 0) a = l.take a := by
  apply List.ext_getElem?
  intro i
  rw [List.getElem?_take]
  unfold bl
  rw [List.getElem?_map]
  by_cases c : i < a
  · rw [if_pos c, List.getElem?_range c, Option.map_some, List.getD_eq_getElem?_getD, List.getElem?_eq_getElem (by omega), Option.getD_some]
  · rw [if_neg c, List.getElem?_eq_none (by simpa using c)]
    rfl
theorem sl_front {w : World} {p : Option Addr} {c : Nat} {l : List Nat} (h : Sl w (.slice p l.length c) l) {a : Nat} (ha : a ≤ l.length) : Sl w (.slice p a c) (l.take a) := by
  have := sb_sl (sb_front h.2.2 ha) (by have := h.1; omega)
  rwa [bl_take l a ha] at this
theorem sl_keep {w w' : World} {v : Value} {l : List Nat} (h : Sl w v l) (e : ∀ g, v.ownBlock = some g → g < w.heap.size → 0 < l.length → w'.heap[g]? = w.heap[g]?) (hs : w.heap.size ≤ w'.heap.size) : Sl w' v l := by
  obtain ⟨h1, h2, a, cap, ev, h3, h4, h5, h6, h7⟩ := h
  refine ⟨h1, h2, a, cap, ev, h3, h4, h5, fun hn => ?_, h7⟩
  obtain ⟨b, off, ea, B⟩ := h6 hn
  have eb : w'.heap[b]? = w.heap[b]? := e b (by rw [ev, ea]; rfl) B.1 hn
  exact ⟨b, off, ea, Nat.lt_of_lt_of_le B.1 hs, B.2.1, fun i hi => (World.cell?_of_block (a := ⟨b, off + i, none⟩) eb).trans (B.2.2 i hi)⟩
theorem sl_lt {w : World} {v : Value} {l : List Nat} (h : Sl w v l) (hl : 0 < l.length) : ∀ g, v.ownBlock = some g → g < w.heap.size := by
  obtain ⟨h1, h2, a, cap, ev, h3, h4, h5, h6, h7⟩ := h
  intro g hg
  obtain ⟨b, off, ea, B⟩ := h6 hl
  rw [ev, ea] at hg
  cases hg
  exact B.1
theorem wr_yes {s : Dk} {n : List UInt8} {l : List Nat} (ho : s.out = false) (hn : okN n = true) (hl : l.length ≤ 65536) {m : Nat} (hm : (m : Int) = min (chgR s) l.length) (h : 0 ≤ chgR s) : writeS s n l = { chg s with fs := put (chg s).fs n (l.take m) } := by
  unfold writeS
  rw [if_neg (by rw [ho]; decide), if_neg (by rw [hn]; decide), if_neg (by omega), chg_fs]
  unfold chgR at hm h
  by_cases c : (chg s).out = true
  · rw [if_pos c] at hm h
    rw [if_pos c, if_pos h]
    have e : l.take s.keep.toNat = l.take m := by
      by_cases q : s.keep ≤ l.length
      · rw [show s.keep.toNat = m by omega]
      · rw [List.take_of_length_le (by omega), List.take_of_length_le (by omega)]
    rw [e]
  · rw [if_neg c] at hm
    rw [if_neg c]
    congr 2
    rw [List.take_of_length_le (by omega)]
theorem wr_no {s : Dk} {n : List UInt8} {l : List Nat} (ho : s.out = false) (hn : okN n = true) (hl : l.length ≤ 65536) (h : ¬ 0 ≤ chgR s) : writeS s n l = chg s := by
  unfold writeS
  rw [if_neg (by rw [ho]; decide), if_neg (by rw [hn]; decide), if_neg (by omega)]
  unfold chgR at h
  by_cases c : (chg s).out = true
  · rw [if_pos c] at h
    rw [if_pos c, if_neg h]
  · rw [if_neg c] at h
    omega
theorem wrE {s : Dk} {n : List UInt8} {k : Nat} (ho : s.out = false) (hn : okN n = true) (hl : k ≤ 65536) : writeE s n k = chgE s := by
  unfold writeE chgE
  rw [if_neg (by rw [ho]; decide), if_neg (by rw [hn]; decide), if_neg (by omega)]
theorem refE1 {o : Bool} {nm : ByteArray} : refE o [nm] = if o = true then 50 else if okN nm.data.toList = true then 0 else 4 := by
  unfold refE
  simp
set_option maxRecDepth 100000 in
theorem Write_nil (nm : ByteArray) (v : Value) (w : World) : Calls Tryz.prog 16 #[.pointer none, .string nm, v] w fun e w' => e = .returned (.int .i64 1) ∧ Below w.heap.size w w' := by
  have BA := Lib.hid (balloc (brefl w) (.cells #[.string nm] 9))
  go_enter Tryz.func16, Tryz.ntmps16
  go_wp2_with fail
  refine (refusal_nil _ _).mono ?_
  rintro e w' ⟨rfl, rfl⟩
  go_wp2_with fail
  go_ret
  exact ⟨rfl, BA.out⟩
set_option maxRecDepth 100000 in
set_option maxHeartbeats 16000000 in
theorem Write_c {w : World} {d : Nat} {s : Dk} {X : Nat → Prop} {nm : ByteArray} {v : Value} {l : List Nat} (h : Pm w d s X) (hf : s.fs.length ≤ 90000) (S : Sl w v l) (vd : 0 < l.length → v.ownBlock ≠ some d) :
    Calls Tryz.prog 16 #[.pointer (some ⟨d, 0, none⟩), .string nm, v] w fun e w' => e = .returned (.int .i64 (writeE s nm.data.toList l.length)) ∧ Pt w w' d X (writeS s nm.data.toList l) := by
  obtain ⟨da, dc, rfl⟩ := S.form
  have H := Lib.hid h
  have HS := Lib.hid S
  have HF := Lib.hid hf
  have VD := Lib.hid vd
  have BA := Lib.hid (balloc (brefl w) (.cells #[.string nm] 9))
  have SR := Lib.hid (sr_one w nm 9)
  obtain ⟨n, hln⟩ : ∃ n, l.length = n := ⟨_, rfl⟩
  have HL := Lib.hid hln
  have hn1 : (n : Int) ≤ 140737488351232 := by have := S.1; omega
  have hn0 : (0 : Int) ≤ (n : Int) := by omega
  have hnc : (n : Int) ≤ (dc : Int) := by obtain ⟨_, _, _, _, e, h1, _⟩ := S; cases e; omega
  have hcm : (dc : Int) ≤ 9223372036854775807 := by obtain ⟨_, _, _, _, e, _, h1, _⟩ := S; cases e; omega
  have DX := Lib.hid h.2.1
  have LT := Lib.hid h.2.2.1
  obtain ⟨mv, o, c, a, k, hb, hp, _⟩ := h.open
  have c1 := ((hb.below BA.out).2 1 _ rfl).1
  obtain ⟨rfl, _⟩ := hp
  rw [hln]
  clear h S hf hb hln vd
  go_enter Tryz.func16, Tryz.ntmps16
  go_upto_region 1 with fail
  go_wp2_with fail
  generalize w.alloc (.cells #[.string nm] 9) = w1 at *
  refine (refusal_c (cap := 1) SR.out (by simp) (by simp) c1).mono ?_
  rintro e w2 ⟨rfl, hb2⟩
  have B2 := Lib.hid (bstep BA.out hb2)
  clear hb2 SR c1 BA
  rw [refE1]
  cases ho : s.out with
  | true =>
    have E : Hid (writeE s nm.data.toList n = 50 ∧ writeS s nm.data.toList l = s) := Lib.hid ⟨by unfold writeE; rw [if_pos ho], by unfold writeS; rw [if_pos ho]⟩
    clear ho
    go_wp2_with fail
    go_ret
    exact ⟨by rw [E.out.1]; rfl, by rw [E.out.2]; exact Pt.same H.out B2.out⟩
  | false =>
    cases hn : okN nm.data.toList with
    | false =>
      have E : Hid (writeE s nm.data.toList n = 4 ∧ writeS s nm.data.toList l = s) := Lib.hid ⟨by unfold writeE; rw [if_neg (by rw [ho]; decide), if_pos hn], by unfold writeS; rw [if_neg (by rw [ho]; decide), if_pos hn]⟩
      clear ho hn
      go_wp2_with fail
      go_ret
      exact ⟨by rw [E.out.1]; rfl, by rw [E.out.2]; exact Pt.same H.out B2.out⟩
    | true =>
      have HO := Lib.hid ho
      have HN := Lib.hid hn
      by_cases c3 : 65536 < n
      · have E : Hid (writeE s nm.data.toList n = 21 ∧ writeS s nm.data.toList l = s) := Lib.hid ⟨by unfold writeE; rw [if_neg (by rw [ho]; decide), if_neg (by rw [hn]; decide), if_pos c3], by unfold writeS; rw [if_neg (by rw [ho]; decide), if_neg (by rw [hn]; decide), if_pos (by rw [HL.out]; exact c3)]⟩
        have e1 : decide ((65536 : Int) < (n : Int)) = true := decide_eq_true (by omega)
        clear ho hn c3
        go_wp2_with fail
        go_ret
        exact ⟨by rw [E.out.1]; rfl, by rw [E.out.2]; exact Pt.same H.out B2.out⟩
      have e1 : decide ((65536 : Int) < (n : Int)) = false := decide_eq_false (by omega)
      have c4 : n ≤ 65536 := by omega
      have WE := Lib.hid (wrE (n := nm.data.toList) ho hn c4)
      have CH := Lib.hid (change_c (H.out.below B2.out) ho)
      clear ho hn c3
      go_upto_region 6 with fail
      go_wp2_with fail
      refine CH.out.mono ?_
      rintro e w3 ⟨rfl, hp3, ht3⟩
      have P3 := Lib.hid hp3
      have D3 := Lib.hid ht3
      have T3 : Hid (Tu X w w3) := Lib.hid ((tu_below B2.out).tr ht3 (fun i hi q => by have : i = d := q; rw [this]; exact DX.out))
      clear CH hp3 ht3
      by_cases hR : 0 ≤ chgR s
      · have e2 : decide (0 ≤ chgR s) = true := decide_eq_true hR
        obtain ⟨m, hm⟩ : ∃ m : Nat, (m : Int) = min (chgR s) (n : Int) := ⟨(min (chgR s) (n : Int)).toNat, by omega⟩
        have W := Lib.hid (wr_yes (n := nm.data.toList) (l := l) HO.out HN.out (by rw [HL.out]; exact c4) (m := m) (by rw [HL.out]; exact hm) hR)
        have hmn : m ≤ n := by omega
        have HM := Lib.hid hm
        have SF : Hid (Sl w3 (.slice da m dc) (l.take m)) := Lib.hid (sl_front (sl_keep (w' := w3) (HS.out.below B2.out) (fun g hg q hp => D3.out.block g q (fun e => VD.out hp (by rw [show g = d from e] at hg; exact hg))) D3.out.size) (by rw [HL.out]; exact hmn))
        have hm' : min (chgR s) (n : Int) = (m : Int) := hm.symm
        have m0 : (0 : Int) ≤ (m : Int) := by omega
        have m1 : (m : Int) ≤ (dc : Int) := by omega
        have DS : Hid (d < w3.heap.size) := Lib.hid (P3.out.2.2.1 d P3.out.2.1)
        have H8 : Hid (∀ x ∈ l.take m, x < 256) := Lib.hid (fun x hx => HS.out.2.1 x (List.mem_of_mem_take hx))
        have HT : Hid ((l.take m).length ≤ 65536) := Lib.hid (by rw [List.length_take]; omega)
        clear hm
        go_upto_region 8 with fail
        go_wp2_with fail
        refine (bClone_c SF.out).mono ?_
        rintro e w4 ⟨u, rfl, ou, hb4⟩
        have PT := Lib.hid (put_c (P3.out.below hb4) (by rw [chg_fs]; have := HF.out; omega) HN.out (ou.le (Nat.zero_le _)) (fun q => by have := (ou.lt d q).1; have := DS.out; omega) H8.out HT.out)
        have OB : Hid (∀ g, u.ownBlock = some g → w3.heap.size ≤ g) := Lib.hid (fun g hg => (ou.lt g hg).1)
        have B4 := Lib.hid hb4
        clear ou hb4 hm' m0 m1
        go_wp2_with fail
        refine PT.out.mono ?_
        rintro e w5 ⟨rfl, hp5, ht5⟩
        have P5 := Lib.hid hp5
        have T5 : Hid (Tu X w w5) := Lib.hid ((T3.out.tr (tu_below (X := X) B4.out) (fun _ _ q => q)).tr ht5 (fun _ _ q => q))
        clear PT hp5 ht5
        go_wp2_with fail
        go_ret
        have z3 := T3.out.size
        have z4 := B4.out.size
        have Q := pt_put P5.out (fun k hk => .inr (Nat.le_trans z3 (OB.out k hk))) (Nat.le_trans z3 z4) T5.out
        exact ⟨by rw [WE.out]; rfl, by rw [W.out]; exact Q⟩
      · have e2 : decide (0 ≤ chgR s) = false := decide_eq_false hR
        have W := Lib.hid (wr_no (n := nm.data.toList) (l := l) HO.out HN.out (by rw [HL.out]; exact c4) hR)
        go_wp2_with fail
        go_ret
        exact ⟨by rw [WE.out]; rfl, by rw [W.out]; exact ⟨X, P3.out, fun k hk => .inl hk, T3.out⟩⟩
end Go.Proofs.YtkjolaoajbdomaaGreatDoor.Dk
