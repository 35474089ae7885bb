/-
  A new disk; the law's awake.
  Conditions: none.
-/
import Derived.Test.YtpnphmfpandmkaaDkH
import Derived.Lib.SlBytesConst
namespace Go.Proofs.Ytpnphmfpandmkaa.Dk
open Go.RowKit Go.ChangeShapes Go.WideShapes Go.ChangeAt Go.Joins Go.Maps By Ct
set_option linter.unusedVariables false
set_option linter.unusedSimpArgs false

set_option maxRecDepth 100000 in
theorem New_c (w : World) : Calls Try.prog 8 #[] w fun e w' => e = .returned (.pointer (some ⟨w.heap.size, 0, none⟩)) ∧ Pm w' w.heap.size new (Td w.heap.size) ∧ Below w.heap.size w w' := by
  have N := Lib.hid (Blk.new' w #[.map none, .bool false, .bool false, .int .i64 0, .int .i64 0] 56)
  have B := Lib.hid (balloc (brefl w) (.cells #[.map none, .bool false, .bool false, .int .i64 0, .int .i64 0] 56))
  go_enter Try.func8, Try.ntmps8
  go_wp2_with fail
  go_ret
  refine ⟨rfl, ⟨wf_new, rfl, fun g hg => by rw [show g = _ from hg]; exact N.out.1, none, false, false, 0, 0, N.out, ⟨rfl, fun _ => ⟨rfl, fun z => by cases z⟩, by omega, by omega, by omega, by omega⟩, rfl⟩, B.out⟩
/-- a disk of the call's own. -/
def Dm (w0 w : World) (d : Nat) (s : Dk) : Prop := ∃ X, Pm w d s X ∧ (∀ k, X k → w0.heap.size ≤ k)
theorem Pt.go {w0 w w' : World} {d : Nat} {X : Nat → Prop} {s' : Dk} (h : Pt w w' d X s') (B : Below w0.heap.size w0 w) (XB : ∀ k, X k → w0.heap.size ≤ k) : Dm w0 w' d s' ∧ Below w0.heap.size w0 w' := by
  obtain ⟨X', hp, hx, ht⟩ := h
  exact ⟨⟨X', hp, fun k hk => (hx k hk).elim (XB k) (fun q => Nat.le_trans B.size q)⟩, B.trans (ht.below XB B.size)⟩
theorem td_go {w0 w w' : World} {d : Nat} {X : Nat → Prop} {s' : Dk} (h : Pm w' d s' X) (ht : Tu (Td d) w w') (B : Below w0.heap.size w0 w) (XB : ∀ k, X k → w0.heap.size ≤ k) : Dm w0 w' d s' ∧ Below w0.heap.size w0 w' :=
  ⟨⟨X, h, XB⟩, B.trans (ht.below (fun k hk => by rw [show k = d from hk]; exact XB d h.2.1) B.size)⟩
theorem Dm.below {w0 w w' : World} {d : Nat} {s : Dk} (h : Dm w0 w d s) (q : Below w.heap.size w w') : Dm w0 w' d s := by
  obtain ⟨X, hp, hx⟩ := h
  exact ⟨X, hp.below q, hx⟩
theorem Dm.lt {w0 w : World} {d : Nat} {s : Dk} (h : Dm w0 w d s) : d < w.heap.size ∧ w0.heap.size ≤ d := by
  obtain ⟨X, hp, hx⟩ := h
  exact ⟨hp.2.2.1 d hp.2.1, hx d hp.2.1⟩
/-- the calls, on a disk of the call's own. -/
theorem Write_d {w0 w : World} {d : Nat} {s : Dk} {nm : ByteArray} {v : Value} {l : List Nat} (h : Dm w0 w d s) (B : Below w0.heap.size w0 w) (hf : s.fs.length ≤ 90000) (S : Sl w v l) (vd : 0 < l.length → v.ownBlock ≠ some d) :
    Calls Try.prog 14 #[.pointer (some ⟨d, 0, none⟩), .string nm, v] w fun e w' => e = .returned (.int .i64 (writeE s nm.data.toList l.length)) ∧ Dm w0 w' d (writeS s nm.data.toList l) ∧ Below w0.heap.size w0 w' := by
  obtain ⟨X, hp, hx⟩ := h
  exact (Write_c hp hf S vd).mono fun e w' ⟨h1, h2⟩ => ⟨h1, h2.go B hx⟩
theorem Rename_d {w0 w : World} {d : Nat} {s : Dk} {na nb : ByteArray} (h : Dm w0 w d s) (B : Below w0.heap.size w0 w) (hf : s.fs.length ≤ 90000) :
    Calls Try.prog 19 #[.pointer (some ⟨d, 0, none⟩), .string na, .string nb] w fun e w' => e = .returned (.int .i64 (renameE s na.data.toList nb.data.toList)) ∧ Dm w0 w' d (renameS s na.data.toList nb.data.toList) ∧ Below w0.heap.size w0 w' := by
  obtain ⟨X, hp, hx⟩ := h
  exact (Rename_c hp hf).mono fun e w' ⟨h1, h2⟩ => ⟨h1, h2.go B hx⟩
theorem Read_d {w0 w : World} {d : Nat} {s : Dk} {nm : ByteArray} (h : Dm w0 w d s) (B : Below w0.heap.size w0 w) :
    Calls Try.prog 17 #[.pointer (some ⟨d, 0, none⟩), .string nm] w fun e w' => (∃ u, e = .returned (.tuple #[u, .int .i64 (readE s nm.data.toList)]) ∧ Own w' w.heap.size u (readD s nm.data.toList)) ∧ Dm w0 w' d s ∧ Below w0.heap.size w0 w' := by
  have h' := h
  obtain ⟨X, hp, hx⟩ := h
  exact (Read_c hp).mono fun e w' ⟨u, h1, h2, h3⟩ => ⟨⟨u, h1, h2⟩, h'.below h3, bstep B h3⟩
theorem Cut_d {w0 w : World} {d : Nat} {s : Dk} (h : Dm w0 w d s) (B : Below w0.heap.size w0 w) (n k : Int) (h1 : n ≤ 9223372036854775807) (h2 : -9223372036854775808 ≤ k) (h3 : k ≤ 9223372036854775807) :
    Calls Try.prog 18 #[.pointer (some ⟨d, 0, none⟩), .int .i64 n, .int .i64 k] w fun e w' => e = .returned (.int .i64 (cutE n)) ∧ Dm w0 w' d (cutS s n k) ∧ Below w0.heap.size w0 w' := by
  obtain ⟨X, hp, hx⟩ := h
  exact (Cut_c hp n k h1 h2 h3).mono fun e w' ⟨q1, q2, q3⟩ => ⟨q1, td_go q2 q3 B hx⟩
theorem Restart_d {w0 w : World} {d : Nat} {s : Dk} (h : Dm w0 w d s) (B : Below w0.heap.size w0 w) :
    Calls Try.prog 12 #[.pointer (some ⟨d, 0, none⟩)] w fun e w' => e = .returned (.int .i64 0) ∧ Dm w0 w' d (restart s) ∧ Below w0.heap.size w0 w' := by
  obtain ⟨X, hp, hx⟩ := h
  exact (Restart_c hp).mono fun e w' ⟨q1, q2, q3⟩ => ⟨q1, td_go q2 q3 B hx⟩
theorem Names_d {w0 w : World} {d : Nat} {s : Dk} (h : Dm w0 w d s) (B : Below w0.heap.size w0 w) (hf : s.fs.length ≤ 90000) :
    Calls Try.prog 15 #[.pointer (some ⟨d, 0, none⟩)] w fun e w' => (∃ v, e = .returned v ∧ OwnS w' w.heap.size v (names s)) ∧ Dm w0 w' d s ∧ Below w0.heap.size w0 w' := by
  have h' := h
  obtain ⟨X, hp, hx⟩ := h
  exact (Names_c hp hf).mono fun e w' ⟨v, h1, h2, h3⟩ => ⟨⟨v, h1, h2⟩, h'.below h3, bstep B h3⟩
theorem New_d (w0 w : World) (B : Below w0.heap.size w0 w) : Calls Try.prog 8 #[] w fun e w' => ∃ d, e = .returned (.pointer (some ⟨d, 0, none⟩)) ∧ Dm w0 w' d new ∧ Below w0.heap.size w0 w' :=
  (New_c w).mono fun e w' ⟨q1, q2, q3⟩ => ⟨_, q1, ⟨_, q2, fun k hk => by rw [show k = _ from hk]; exact B.size⟩, bstep B q3⟩
theorem lit3 (w : World) (a b c : Nat) (ha : a < 256) (hb : b < 256) (hc : c < 256) : Sl (w.alloc (.cells #[.int .u8 (a : Nat), .int .u8 (b : Nat), .int .u8 (c : Nat)] 5 (3, 4))) (.slice (some ⟨w.heap.size, 0, none⟩) 3 3) [a, b, c] := by
  have h8 : ∀ x ∈ [a, b, c], x < 256 := by intro x hx; simp at hx; omega
  refine ⟨by simp, h8, _, 3, rfl, by simp, by omega, getD_byte h8, fun _ => ⟨w.heap.size, 0, rfl, ?_⟩, fun e => by cases e⟩
  refine ⟨by simp, getD_byte h8, fun i hi => ?_⟩
  rw [Nat.zero_add, World.cell?_alloc_mark w _ _ (3, 4) i]
  match i, hi with
  | 0, _ => rfl
  | 1, _ => rfl
  | 2, _ => rfl
theorem own_str8 {w0 w : World} {base : Nat} {v : Value} {l : List Nat} (h : Own w0 base v l) (h8 : ∀ x ∈ l, x < 256) (k : Below w0.heap.size w0 w) : (convert 29 9 v).run Try.prog w = .ok (.string (bs8 l)) w := by
  have := ((own_out h h8).sb).conv k
  rwa [bl_getD] at this
def a1 : Dk := writeS new [97] [97, 98, 99]
def a2 : Dk := cutS a1 1 2
def a3 : Dk := renameS a2 [97] [98]
def a4 : Dk := writeS a3 [99] [120, 121, 122]
def a5 : Dk := restart a4
set_option maxRecDepth 100000 in
set_option maxHeartbeats 16000000 in
theorem awake11_c (w : World) : Calls Try.prog 7 #[] w fun e w' => e = .returned (.bool true) ∧ Below w.heap.size w w' := by
  have kc := fun (w : World) (C : Array Value) (n c : Nat) => Lib.run_convert_bytes_const (P := Try.prog) w 29 5 C n c Try.underlying29 Try.underlying5
  go_enter Try.func7, Try.ntmps7
  go_wp2_with fail
  refine (New_d w w (brefl w)).mono ?_
  rintro e w1 ⟨d, rfl, hd1, hb1⟩
  have D1 := Lib.hid hd1
  have B1 := Lib.hid hb1
  clear hd1 hb1
  have W1 : Hid (Calls Try.prog 14 #[.pointer (some ⟨d, 0, none⟩), .string ⟨#[97]⟩, .slice (some ⟨w1.heap.size, 0, none⟩) 3 3] (w1.alloc (.cells #[.int .u8 97, .int .u8 98, .int .u8 99] 5 (3, 4))) fun e w' => e = .returned (.int .i64 0) ∧ Dm w w' d a1 ∧ Below w.heap.size w w') := Lib.hid (Write_d (D1.out.below (balloc (brefl w1) _)) (bstep B1.out (balloc (brefl w1) _)) (by decide) (lit3 w1 97 98 99 (by decide) (by decide) (by decide)) (fun _ => (by have := D1.out.lt; simp [Value.ownBlock]; omega)))
  go_wp2_with fail
  refine W1.out.mono ?_
  rintro e w2 ⟨rfl, hd2, hb2⟩
  have W2 : Hid (Calls Try.prog 18 #[.pointer (some ⟨d, 0, none⟩), .int .i64 1, .int .i64 2] w2 fun e w' => e = .returned (.int .i64 0) ∧ Dm w w' d a2 ∧ Below w.heap.size w w') := Lib.hid (Cut_d hd2 hb2 1 2 (by decide) (by decide) (by decide))
  clear hd2 hb2 W1 D1 B1
  go_wp2_with fail
  refine W2.out.mono ?_
  rintro e w3 ⟨rfl, hd3, hb3⟩
  have W3 : Hid (Calls Try.prog 19 #[.pointer (some ⟨d, 0, none⟩), .string ⟨#[97]⟩, .string ⟨#[98]⟩] w3 fun e w' => e = .returned (.int .i64 0) ∧ Dm w w' d a3 ∧ Below w.heap.size w w') := Lib.hid (Rename_d hd3 hb3 (by decide))
  clear hd3 hb3 W2
  go_wp2_with fail
  refine W3.out.mono ?_
  rintro e w4 ⟨rfl, hd4, hb4⟩
  have W4 : Hid (Calls Try.prog 14 #[.pointer (some ⟨d, 0, none⟩), .string ⟨#[99]⟩, .slice (some ⟨w4.heap.size, 0, none⟩) 3 3] (w4.alloc (.cells #[.int .u8 120, .int .u8 121, .int .u8 122] 5 (3, 4))) fun e w' => e = .returned (.int .i64 50) ∧ Dm w w' d a4 ∧ Below w.heap.size w w') := Lib.hid (Write_d (hd4.below (balloc (brefl w4) _)) (bstep hb4 (balloc (brefl w4) _)) (by decide) (lit3 w4 120 121 122 (by decide) (by decide) (by decide)) (fun _ => (by have := hd4.lt; simp [Value.ownBlock]; omega)))
  clear hd4 hb4 W3
  go_wp2_with fail
  refine W4.out.mono ?_
  rintro e w5 ⟨rfl, hd5, hb5⟩
  have W5 : Hid (Calls Try.prog 17 #[.pointer (some ⟨d, 0, none⟩), .string ⟨#[98]⟩] w5 fun e w' => (∃ u, e = .returned (.tuple #[u, .int .i64 50]) ∧ Own w' w5.heap.size u (readD a4 [98])) ∧ Dm w w' d a4 ∧ Below w.heap.size w w') := Lib.hid (Read_d hd5 hb5)
  clear hd5 hb5 W4
  go_wp2_with fail
  refine W5.out.mono ?_
  rintro e w6 ⟨⟨u, rfl, _⟩, hd6, hb6⟩
  have W6 := Lib.hid (Restart_d hd6 hb6)
  clear hd6 hb6 W5
  go_wp2_with fail
  refine W6.out.mono ?_
  rintro e w7 ⟨rfl, hd7, hb7⟩
  have W7 : Hid (Calls Try.prog 17 #[.pointer (some ⟨d, 0, none⟩), .string ⟨#[99]⟩] w7 fun e w' => (∃ u, e = .returned (.tuple #[u, .int .i64 0]) ∧ Own w' w7.heap.size u [120, 121]) ∧ Dm w w' d a5 ∧ Below w.heap.size w w') := Lib.hid (Read_d hd7 hb7)
  clear hd7 hb7 W6
  go_wp2_with fail
  refine W7.out.mono ?_
  rintro e w8 ⟨⟨u8, rfl, o8⟩, hd8, hb8⟩
  have C8 : (convert 29 9 u8).run Try.prog w8 = .ok (.string ⟨#[120, 121]⟩) w8 := own_str8 o8 (by decide) (brefl w8)
  have W8 := Lib.hid (Names_d hd8 hb8 (by decide))
  clear hd8 hb8 W7 o8
  go_wp2_with fail
  refine W8.out.mono ?_
  rintro e w9 ⟨⟨v, rfl, o9⟩, hd9, hb9⟩
  obtain ⟨va, vc, rfl⟩ := ownS_form o9
  have NL : (names a5).length = 2 := by rw [show names a5 = (a5.fs.map (·.1)).mergeSort leB from rfl, List.length_mergeSort]; decide
  rw [NL]
  have B9 := Lib.hid hb9
  clear hd9 hb9 o9 W8 C8 kc
  go_wp2_with fail
  go_ret
  exact ⟨rfl, B9.out⟩
end Go.Proofs.Ytpnphmfpandmkaa.Dk
