/-
  A new disk; the law's awake.
  Conditions: none.
-/
import Derived.Test.YtkjolaoajbdomaaGreatDoorDkH
import Derived.Lib.SlBytesConst
namespace Go.Proofs.YtkjolaoajbdomaaGreatDoor.Dk
open Go.RowKit Go.ChangeShapes Go.WideShapes Go.ChangeAt Go.Joins Go.Maps By Ct
set_option linter.unusedVariables false
set_option linter.unusedSimpArgs false

set_option maxRecDepth 100000 in
theorem New_c (w : World) : Calls Tryz.prog 5 #[] w fun e w' => e = .returned (.pointer (some ⟨w.heap.size, 0, none⟩)) ∧ Pm w' w.heap.size new (Td w.heap.size) ∧ Below w.heap.size w w' := by
  have N := Lib.hid (Blk.new' w #[.map none, .bool false, .bool false, .int .i64 0, .int .i64 0] 59)
  have B := Lib.hid (balloc (brefl w) (.cells #[.map none, .bool false, .bool false, .int .i64 0, .int .i64 0] 59))
  go_enter Tryz.func5, Tryz.ntmps5
  go_wp2_with fail
  go_ret
  refine ⟨rfl, ⟨wf_new, rfl, fun g hg => by rw [show g = _ from hg]; exact N.out.1, none, false, false, 0, 0, N.out, ⟨rfl, fun _ => ⟨rfl, fun z => by cases z⟩, by omega, by omega, by omega, by omega⟩, rfl⟩, B.out⟩
/-- a disk of the call's own. -/
def Dm (w0 w : World) (d : Nat) (s : Dk) : Prop := ∃ X, Pm w d s X ∧ (∀ k, X k → w0.heap.size ≤ k)
theorem Pt.go {w0 w w' : World} {d : Nat} {X : Nat → Prop} {s' : Dk} (h : Pt w w' d X s') (B : Below w0.heap.size w0 w) (XB : ∀ k, X k → w0.heap.size ≤ k) : Dm w0 w' d s' ∧ Below w0.heap.size w0 w' := by
  obtain ⟨X', hp, hx, ht⟩ := h
  exact ⟨⟨X', hp, fun k hk => (hx k hk).elim (XB k) (fun q => Nat.le_trans B.size q)⟩, B.trans (ht.below XB B.size)⟩
theorem td_go {w0 w w' : World} {d : Nat} {X : Nat → Prop} {s' : Dk} (h : Pm w' d s' X) (ht : Tu (Td d) w w') (B : Below w0.heap.size w0 w) (XB : ∀ k, X k → w0.heap.size ≤ k) : Dm w0 w' d s' ∧ Below w0.heap.size w0 w' :=
  ⟨⟨X, h, XB⟩, B.trans (ht.below (fun k hk => by rw [show k = d from hk]; exact XB d h.2.1) B.size)⟩
theorem Dm.below {w0 w w' : World} {d : Nat} {s : Dk} (h : Dm w0 w d s) (q : Below w.heap.size w w') : Dm w0 w' d s := by
  obtain ⟨X, hp, hx⟩ := h
  exact ⟨X, hp.below q, hx⟩
theorem Dm.lt {w0 w : World} {d : Nat} {s : Dk} (h : Dm w0 w d s) : d < w.heap.size ∧ w0.heap.size ≤ d := by
  obtain ⟨X, hp, hx⟩ := h
  exact ⟨hp.2.2.1 d hp.2.1, hx d hp.2.1⟩
/-- the calls, on a disk of the call's own. -/
theorem Write_d {w0 w : World} {d : Nat} {s : Dk} {nm : ByteArray} {v : Value} {l : List Nat} (h : Dm w0 w d s) (B : Below w0.heap.size w0 w) (hf : s.fs.length ≤ 90000) (S : Sl w v l) (vd : 0 < l.length → v.ownBlock ≠ some d) :
    Calls Tryz.prog 16 #[.pointer (some ⟨d, 0, none⟩), .string nm, v] w fun e w' => e = .returned (.int .i64 (writeE s nm.data.toList l.length)) ∧ Dm w0 w' d (writeS s nm.data.toList l) ∧ Below w0.heap.size w0 w' := by
  obtain ⟨X, hp, hx⟩ := h
  exact (Write_c hp hf S vd).mono fun e w' ⟨h1, h2⟩ => ⟨h1, h2.go B hx⟩
theorem Rename_d {w0 w : World} {d : Nat} {s : Dk} {na nb : ByteArray} (h : Dm w0 w d s) (B : Below w0.heap.size w0 w) (hf : s.fs.length ≤ 90000) :
    Calls Tryz.prog 26 #[.pointer (some ⟨d, 0, none⟩), .string na, .string nb] w fun e w' => e = .returned (.int .i64 (renameE s na.data.toList nb.data.toList)) ∧ Dm w0 w' d (renameS s na.data.toList nb.data.toList) ∧ Below w0.heap.size w0 w' := by
  obtain ⟨X, hp, hx⟩ := h
  exact (Rename_c hp hf).mono fun e w' ⟨h1, h2⟩ => ⟨h1, h2.go B hx⟩
theorem Read_d {w0 w : World} {d : Nat} {s : Dk} {nm : ByteArray} (h : Dm w0 w d s) (B : Below w0.heap.size w0 w) :
    Calls Tryz.prog 22 #[.pointer (some ⟨d, 0, none⟩), .string nm] w fun e w' => (∃ u, e = .returned (.tuple #[u, .int .i64 (readE s nm.data.toList)]) ∧ Own w' w.heap.size u (readD s nm.data.toList)) ∧ Dm w0 w' d s ∧ Below w0.heap.size w0 w' := by
  have h' := h
  obtain ⟨X, hp, hx⟩ := h
  exact (Read_c hp).mono fun e w' ⟨u, h1, h2, h3⟩ => ⟨⟨u, h1, h2⟩, h'.below h3, bstep B h3⟩
theorem Cut_d {w0 w : World} {d : Nat} {s : Dk} (h : Dm w0 w d s) (B : Below w0.heap.size w0 w) (n k : Int) (h1 : n ≤ 9223372036854775807) (h2 : -9223372036854775808 ≤ k) (h3 : k ≤ 9223372036854775807) :
    Calls Tryz.prog 12 #[.pointer (some ⟨d, 0, none⟩), .int .i64 n, .int .i64 k] w fun e w' => e = .returned (.int .i64 (cutE n)) ∧ Dm w0 w' d (cutS s n k) ∧ Below w0.heap.size w0 w' := by
  obtain ⟨X, hp, hx⟩ := h
  exact (Cut_c hp n k h1 h2 h3).mono fun e w' ⟨q1, q2, q3⟩ => ⟨q1, td_go q2 q3 B hx⟩
theorem Restart_d {w0 w : World} {d : Nat} {s : Dk} (h : Dm w0 w d s) (B : Below w0.heap.size w0 w) :
    Calls Tryz.prog 14 #[.pointer (some ⟨d, 0, none⟩)] w fun e w' => e = .returned (.int .i64 0) ∧ Dm w0 w' d (restart s) ∧ Below w0.heap.size w0 w' := by
  obtain ⟨X, hp, hx⟩ := h
  exact (Restart_c hp).mono fun e w' ⟨q1, q2, q3⟩ => ⟨q1, td_go q2 q3 B hx⟩
theorem Names_d {w0 w : World} {d : Nat} {s : Dk} (h : Dm w0 w d s) (B : Below w0.heap.size w0 w) (hf : s.fs.length ≤ 90000) :
    Calls Tryz.prog 20 #[.pointer (some ⟨d, 0, none⟩)] w fun e w' => (∃ v, e = .returned v ∧ OwnS w' w.heap.size v (names s)) ∧ Dm w0 w' d s ∧ Below w0.heap.size w0 w' := by
  have h' := h
  obtain ⟨X, hp, hx⟩ := h
  exact (Names_c hp hf).mono fun e w' ⟨v, h1, h2, h3⟩ => ⟨⟨v, h1, h2⟩, h'.below h3, bstep B h3⟩
theorem New_d (w0 w : World) (B : Below w0.heap.size w0 w) : Calls Tryz.prog 5 #[] w fun e w' => ∃ d, e = .returned (.pointer (some ⟨d, 0, none⟩)) ∧ Dm w0 w' d new ∧ Below w0.heap.size w0 w' :=
  (New_c w).mono fun e w' ⟨q1, q2, q3⟩ => ⟨_, q1, ⟨_, q2, fun k hk => by rw [show k = _ from hk]; exact B.size⟩, bstep B q3⟩
theorem lit3 (w : World) (a b c : Nat) (ha : a < 256) (hb : b < 256) (hc : c < 256) : Sl (w.alloc (.cells #[.int .u8 (a : Nat), .int .u8 (b : Nat), .int .u8 (c : Nat)] 5 (3, 4))) (.slice (some ⟨w.heap.size, 0, none⟩) 3 3) [a, b, c] := by
  have h8 : ∀ x ∈ [a, b, c], x < 256 := by intro x hx; simp at hx; omega
  refine ⟨by simp, h8, _, 3, rfl, by simp, by omega, getD_byte h8, fun _ => ⟨w.heap.size, 0, rfl, ?_⟩, fun e => by cases e⟩
  refine ⟨by simp, getD_byte h8, fun i hi => ?_⟩
  rw [Nat.zero_add, World.cell?_alloc_mark w _ _ (3, 4) i]
  match i, hi with
  | 0, _ => rfl
  | 1, _ => rfl
  | 2, _ => rfl
theorem own_str8 {w0 w : World} {base : Nat} {v : Value} {l : List Nat} (h : Own w0 base v l) (h8 : ∀ x ∈ l, x < 256) (k : Below w0.heap.size w0 w) : (convert 28 9 v).run Tryz.prog w = .ok (.string (bs8 l)) w := by
  have := ((own_out h h8).sb).conv k
  rwa [bl_getD] at this
def a1 : Dk := writeS new [97] [97, 98, 99]
def a2 : Dk := cutS a1 1 2
def a3 : Dk := renameS a2 [97] [98]
def a4 : Dk := writeS a3 [99] [120, 121, 122]
def a5 : Dk := restart a4
end Go.Proofs.YtkjolaoajbdomaaGreatDoor.Dk
