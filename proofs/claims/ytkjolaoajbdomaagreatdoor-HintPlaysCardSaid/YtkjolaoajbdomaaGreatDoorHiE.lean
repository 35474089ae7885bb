/-
  The contracts of hint.Save and hint.Load over a disk in memory.
  Conditions: the tables and the errors that the calls read lie as the program's text lays them.
-/
import Derived.Test.YtkjolaoajbdomaaGreatDoorHiC
namespace Go.Proofs.YtkjolaoajbdomaaGreatDoor.Hi
open Go.ChangeShapes Go.WideShapes Go.ChangeAt Go.RowKit Go.Joins By Ct Dk
set_option linter.unusedVariables false
set_option linter.unusedSimpArgs false

theorem pt_tr {w w1 w' : World} {d : Nat} {X X1 : Nat → Prop} {s' : Dk} (h : Pt w1 w' d X1 s') (hx : ∀ k, X1 k → X k ∨ w.heap.size ≤ k) (ht : Tu X w w1) : Pt w w' d X s' := by
  obtain ⟨X', hp, hx', ht'⟩ := h
  exact ⟨X', hp, fun k hk => (hx' k hk).elim (hx k) (fun q => .inr (Nat.le_trans ht.size q)), ht.tr ht' (fun i hi q => (hx i q).elim id (fun z => by omega))⟩
theorem pt_ahead {w0 w w' : World} {d : Nat} {X : Nat → Prop} {s' : Dk} (q : Below w0.heap.size w0 w) (h : Pt w w' d X s') : Pt w0 w' d X s' :=
  pt_tr h (fun k hk => .inl hk) (tu_below q)
theorem pt_behind {w w1 w' : World} {d : Nat} {X : Nat → Prop} {s' : Dk} (h : Pt w w1 d X s') (q : Below w1.heap.size w1 w') : Pt w w' d X s' := by
  obtain ⟨X1, hp, hx, ht⟩ := h
  exact ⟨X1, hp.below q, hx, ht.tr (tu_below (X := X) q) (fun i _ z => z)⟩
theorem sl_cells {w : World} {b cap : Nat} {l : List Nat} (h8 : ∀ x ∈ l, x < 256) (hc : l.length ≤ cap) (hm : cap ≤ maxLen) (hn : l.length ≤ 140737488351232) (hb : b < w.heap.size) (h : ∀ i, i < l.length → w.cell? ⟨b, i, none⟩ = some (.int .u8 (l.getD i 0 : Nat))) :
    Sl w (.slice (some ⟨b, 0, none⟩) l.length cap) l :=
  ⟨hn, h8, _, cap, rfl, hc, (by unfold maxLen at hm; omega), getD_byte h8, fun _ => ⟨b, 0, rfl, hb, getD_byte h8, fun i hi => by rw [Nat.zero_add]; exact h i hi⟩, fun e => by cases e⟩
theorem conv_sl (w : World) (x : List UInt8) (hx : x.length ≤ 100000) : Sl (Lib.bytesWorld w 5 ⟨x.toArray⟩) (.slice (some ⟨w.heap.size, 0, none⟩) (⟨x.toArray⟩ : ByteArray).size (grownCap w (⟨x.toArray⟩ : ByteArray).size 0 5)) (nb x) := by
  have z := ls_size x
  have hg := grownCap_ge w (⟨x.toArray⟩ : ByteArray).size 0 5
  have hm := grownCap_le_maxLen w (⟨x.toArray⟩ : ByteArray).size 0 5 (by unfold maxLen; omega)
  have e : (⟨x.toArray⟩ : ByteArray).size = (nb x).length := by rw [z, nb_len]
  have C := fun i (hi : i < (nb x).length) => Lib.bytesWorld_cell w 5 ⟨x.toArray⟩ i (by rw [e]; exact hi)
  rw [e] at hg hm ⊢
  refine sl_cells (nb_byte x) (by omega) hm (by rw [nb_len]; omega) (by rw [Lib.bytesWorld_size]; omega) fun i hi => ?_
  rw [C i hi, show (⟨x.toArray⟩ : ByteArray).data.toList = x from rfl]
  rw [nb_len] at hi
  simp [nb, List.getD_eq_getElem?_getD, List.getElem?_map, List.getElem?_eq_getElem hi]
theorem own_sl {w : World} {base : Nat} {v : Value} {l : List Nat} (h : Own w base v l) (h8 : ∀ x ∈ l, x < 256) (hl : l.length ≤ 140737488351232) : Sl w v l := ⟨hl, h8, (own_out h h8).sb⟩
theorem read_wf {s : Dk} (h : Wf s) (n : List UInt8) : (∀ y ∈ readD s n, y < 256) ∧ (readD s n).length ≤ 65536 := by
  unfold readD
  split
  · simp
  · split
    · simp
    · cases q : get s.fs n with
      | none => simp
      | some d => exact h.data _ (get_mem q)
/-- a call's world. -/
theorem gt_at {w0 w : World} (G : Gt w0) (B : Below w0.heap.size w0 w) : Gt w := G.below B

set_option maxRecDepth 100000 in
set_option maxHeartbeats 4000000 in
theorem read_c {w : World} {d : Nat} {s : Dk} {X : Nat → Prop} {nm : ByteArray} (G : Gt w) (h : Pm w d s X) :
    Calls Tryz.prog 29 #[.pointer (some ⟨d, 0, none⟩), .string nm] w fun e w' => e = .returned (.tuple #[.int .i64 (rd1 s nm.data.toList).1, .int .i64 (rd1 s nm.data.toList).2]) ∧ Below w.heap.size w w' := by
  have R1 := Lib.hid (Read_c (nm := nm) h)
  have HW := Lib.hid h.1
  have HG := Lib.hid G
  obtain ⟨⟨r1, r2⟩, hR⟩ : ∃ R, rd1 s nm.data.toList = R := ⟨_, rfl⟩
  rw [hR]
  have HR := Lib.hid hR
  clear hR h G
  dsimp only
  have RW := Lib.hid (read_wf HW.out nm.data.toList)
  have HD : Hid (∀ q, readE s nm.data.toList = q → ∀ t, readD s nm.data.toList = t → (r1, r2) = if q ≠ 0 then (0, q) else prs (bt t)) := Lib.hid fun q hq t ht => by rw [← HR.out, rd1, hq, ht]
  obtain ⟨q, hq⟩ : ∃ q, readE s nm.data.toList = q := ⟨_, rfl⟩
  obtain ⟨t, ht⟩ : ∃ t, readD s nm.data.toList = t := ⟨_, rfl⟩
  have HD2 := Lib.hid (HD.out q hq t ht)
  rw [hq, ht] at R1
  rw [ht] at RW
  clear HD hq ht HR
  go_enter Tryz.func29, Tryz.ntmps29
  go_wp2_with fail
  refine R1.out.mono ?_
  rintro e w1 ⟨u, rfl, o1, hb⟩
  have B1 := Lib.hid hb
  have O1 := Lib.hid (own_sl o1 RW.out.1 (by have := RW.out.2; omega))
  clear hb o1 R1
  by_cases c : q = 0
  · subst c
    have P1 := Lib.hid (Parse_c (HG.out.below B1.out) O1.out)
    have hr := Lib.hid (HD2.out.trans (if_neg (by simp)))
    go_wp2_with fail
    refine P1.out.mono ?_
    rintro e w2 ⟨rfl, hb⟩
    have B2 := Lib.hid (bstep B1.out hb)
    clear hb P1
    go_wp2_with fail
    exact bodyPost_ret (v := .tuple #[.int .i64 (prs (bt t)).1, .int .i64 (prs (bt t)).2]) (by simp [results, Tryz.results29, go_sem]) rfl ⟨by rw [← hr.out], B2.out⟩
  · have hr := Lib.hid (HD2.out.trans (if_pos c))
    have e1 : (q != 0) = true := by simpa using c
    go_wp2_with fail
    exact bodyPost_ret (v := .tuple #[.int .i64 0, .int .i64 q]) (by simp [results, Tryz.results29, go_sem]) rfl ⟨by obtain ⟨rfl, rfl⟩ := Prod.mk.inj hr.out; rfl, B1.out⟩
end Go.Proofs.YtkjolaoajbdomaaGreatDoor.Hi
