/-
  A list of leap seconds, line by line: the contracts of the list's take and read.
  Conditions: no more than a million bytes in a line.
-/
import Derived.Test.YtmehknhajoemgaaDoorLpT
import Derived.Test.YtmehknhajoemgaaDoorWe
namespace Go.Proofs.YtmehknhajoemgaaDoor.Wd
open Go.ChangeShapes Go.WideShapes Go.ChangeAt Go.RowKit Go.Joins By
set_option linter.unusedVariables false
set_option linter.unusedSimpArgs false

theorem take_ex {w : World} {B b : Nat} {S : St} {v : Value} {t : ByteArray} {n : Nat} (A : Ls w B b S) (hz : t.size ≤ 9223372036854775807) (hB : B ≤ w.heap.size) (he : S.he = false) (V : Rw w v [⟨t, 1, false⟩]) (ht : wn t = true ∧ va t t.size = n) (hn : n < 10000000000) :
    Calls Tryd.prog 39 #[.pointer (some ⟨b, 0, none⟩), .int .i64 1, v] w fun e w' => e = .returned (.bool true) ∧ Ls w' B b ⟨S.L, (n : Int) * 1048576, true, S.h⟩ ∧ Wk B b w w' := by
  have T := Lib.hid (takeExpires_yes A hz hB he V ht hn)
  clear A V ht
  go_enter Tryd.func39, Tryd.ntmps39
  go_wp2_with fail
  refine T.out.mono ?_
  rintro e w1 ⟨rfl, hp⟩
  have P := Lib.hid hp
  clear hp
  go_wp2_with fail
  go_ret
  exact ⟨rfl, P.out⟩
theorem take_bad {w : World} {B b : Nat} {S : St} {v : Value} {t : ByteArray} {n : Nat} (A : Ls w B b S) (hz : t.size ≤ 9223372036854775807) (he : S.he = true) (V : Rw w v [⟨t, 1, false⟩]) (ht : wn t = true ∧ va t t.size = n) :
    Calls Tryd.prog 39 #[.pointer (some ⟨b, 0, none⟩), .int .i64 1, v] w fun e w' => e = .returned (.bool false) ∧ Below w.heap.size w w' := by
  have T := Lib.hid (takeExpires_no A hz he V ht)
  clear A V ht
  go_enter Tryd.func39, Tryd.ntmps39
  go_wp2_with fail
  refine T.out.mono ?_
  rintro e w1 ⟨rfl, hp⟩
  have P := Lib.hid hp
  clear hp
  go_wp2_with fail
  go_ret
  exact ⟨rfl, P.out⟩
theorem take_ha {w : World} {B b : Nat} {S : St} {v : Value} {t : ByteArray} (A : Ls w B b S) (hB : B ≤ w.heap.size) (he : S.h = ⟨#[]⟩) (V : Rw w v [⟨t, 1, false⟩]) (ht : hx32 t) :
    Calls Tryd.prog 39 #[.pointer (some ⟨b, 0, none⟩), .int .i64 2, v] w fun e w' => e = .returned (.bool true) ∧ Ls w' B b ⟨S.L, S.e, S.he, t⟩ ∧ Wk B b w w' := by
  have T := Lib.hid (takeHash_yes A hB he V ht)
  clear A V ht
  go_enter Tryd.func39, Tryd.ntmps39
  go_wp2_with fail
  refine T.out.mono ?_
  rintro e w1 ⟨rfl, hp⟩
  have P := Lib.hid hp
  clear hp
  go_wp2_with fail
  go_ret
  exact ⟨rfl, P.out⟩
theorem take_ch {w : World} {B b : Nat} {S : St} {v : Value} {base : Nat} {ta tb : ByteArray} {c : Int} {n m : Nat} (A : Ls w B b S) (hz : ta.size ≤ 9223372036854775807) (hz' : tb.size ≤ 9223372036854775807) (hB : B ≤ w.heap.size) (hl : S.L.length ≤ 1000000) (V : OwnR w base v [⟨ta, 0, false⟩, ⟨tb, c, false⟩]) (ht : wn ta = true ∧ va ta ta.size = n) (hn : n < 10000000000) (ht' : wn tb = true ∧ va tb tb.size = m) (hm : m < 10000000000) :
    Calls Tryd.prog 39 #[.pointer (some ⟨b, 0, none⟩), .int .i64 0, v] w fun e w' => e = .returned (.bool true) ∧ Ls w' B b ⟨S.L ++ [((n : Int) * 1048576, (m : Int))], S.e, S.he, S.h⟩ ∧ Wk B b w w' := by
  have T := Lib.hid (takeChange_yes A hz hz' hB hl V ht hn ht' hm)
  obtain ⟨g, cap, rfl, _, k1, k2, _⟩ := own_two V
  clear A V ht ht'
  go_enter Tryd.func39, Tryd.ntmps39
  go_wp2_with fail
  refine T.out.mono ?_
  rintro e w1 ⟨rfl, hp⟩
  have P := Lib.hid hp
  clear hp
  go_wp2_with fail
  go_ret
  exact ⟨rfl, P.out⟩
theorem take_no {w : World} {b base : Nat} {v : Value} (V : OwnR w base v []) :
    Calls Tryd.prog 39 #[.pointer (some ⟨b, 0, none⟩), .int .i64 0, v] w fun e w' => e = .returned (.bool true) ∧ Below w.heap.size w w' := by
  obtain ⟨a, cap, rfl⟩ := ownR_form V
  simp only [List.length_nil]
  clear V
  go_enter Tryd.func39, Tryd.ntmps39
  go_wp2_with fail
  go_ret
  exact ⟨rfl, brefl _⟩

/-- what a line is. -/
inductive Kd where
  | no
  | ex (t : ByteArray) (n : Nat)
  | ha (t : ByteArray)
  | ch (ta tb : ByteArray) (c : Int) (n m : Nat)
def Kl (x : ByteArray) : Kd → Prop
  | .no => fk x = 0 ∧ spR x = .inr []
  | .ex t n => fk x = 1 ∧ spR (x.extract 2 x.size) = .inr [⟨t, 1, false⟩] ∧ (wn t = true ∧ va t t.size = n) ∧ n < 10000000000 ∧ t.size ≤ 1000000
  | .ha t => fk x = 2 ∧ spR (x.extract 2 x.size) = .inr [⟨t, 1, false⟩] ∧ hx32 t
  | .ch ta tb c n m => fk x = 0 ∧ spR x = .inr [⟨ta, 0, false⟩, ⟨tb, c, false⟩] ∧ (wn ta = true ∧ va ta ta.size = n) ∧ n < 10000000000 ∧ (wn tb = true ∧ va tb tb.size = m) ∧ m < 10000000000 ∧ ta.size ≤ 1000000 ∧ tb.size ≤ 1000000
/-- what it makes of what was said. -/
def Yes (S : St) (K : Kd) (S' : St) : Prop :=
  match K with
  | .no => S' = S
  | .ex t n => S.he = false ∧ S' = ⟨S.L, (n : Int) * 1048576, true, S.h⟩
  | .ha t => S.h = ⟨#[]⟩ ∧ S' = ⟨S.L, S.e, S.he, t⟩
  | .ch _ _ _ n m => S.L.length ≤ 1000000 ∧ S' = ⟨S.L ++ [((n : Int) * 1048576, (m : Int))], S.e, S.he, S.h⟩

theorem Ls.setOther {w : World} {B b : Nat} {S : St} (h : Ls w B b S) {r : Nat} {c : Array Value} {T : TypeId} {fz : Nat × Nat} (hr : w.heap[r]? = some (.cells c T fz)) (hT : T ≠ 55) (ne : r ≠ b) (i : Nat) (v : Value) : Ls (w.setCell ⟨r, i, none⟩ v) B b S := by
  obtain ⟨le, v0, hb, own⟩ := h
  exact ⟨le, v0, (heap_set_other i v (fun e => ne e.symm)).trans hb, ownG_keep own fun g hg => heap_set_other i v (ownG_sep own hr hT hg)⟩
theorem Wk.setNew {B b : Nat} {w w' : World} (h : Wk B b w w') {r : Nat} (hr : w.heap.size ≤ r) (hB : B ≤ r) (i : Nat) (v : Value) : Wk B b w (w'.setCell ⟨r, i, none⟩ v) :=
  ⟨h.below.setCell hB v, fun k o hk hb ho => (heap_set_other i v (fun e => by
    have := (Array.getElem?_eq_some_iff.1 hk).1
    omega)).trans (h.others k o hk hb ho)⟩
theorem fault_ne : (32 : TypeId) ≠ 55 := by decide

set_option maxRecDepth 100000 in
set_option maxHeartbeats 4000000 in
theorem read_ex {w : World} {B b : Nat} {S : St} {x : ByteArray} {t : ByteArray} {n : Nat} (A : Ls w B b S) (hx : x.size ≤ 1000000) (hB : B ≤ w.heap.size) (hK : Kl x (.ex t n)) (he : S.he = false) :
    Calls Tryd.prog 22 #[.pointer (some ⟨b, 0, none⟩), .string x] w fun e w' => e = .returned (.agg #[.int .i64 0, .int .i64 0, .int .i64 0]) ∧ Ls w' B b ⟨S.L, (n : Int) * 1048576, true, S.h⟩ ∧ Wk B b w w' := by
  obtain ⟨k1, k2, k3, k4, k5⟩ := hK
  have FC := Lib.hid (fun w => front_c x w (by omega))
  rw [k1, show fr x = x.extract 2 x.size from by rw [fr, k1]; rfl, show ((1 : Nat) : Int) = 1 from rfl] at FC
  have SC := Lib.hid (fun w => Split_c (x.extract 2 x.size) w (by have : ((x.extract 2 x.size)).size ≤ x.size := (by rw [ByteArray.size_extract]; omega); omega))
  rw [k2] at SC
  simp only [fWhy, fChar, fWords] at SC
  have A0 := Lib.hid A
  have lb := A.lt
  clear A
  generalize (x.extract 2 x.size) = rest at *
  go_enter Tryd.func22, Tryd.ntmps22
  go_wp2_with fail
  have B0 := Lib.hid (balloc (brefl w) (.cells #[.int .i64 0, .int .i64 0, .int .i64 0] 32))
  have F0 : Hid ((w.alloc (.cells #[.int .i64 0, .int .i64 0, .int .i64 0] 32)).heap[w.heap.size]? = some fa0) := Lib.hid (heap_alloc_new w _)
  have z0 : w.heap.size < (w.alloc (.cells #[.int .i64 0, .int .i64 0, .int .i64 0] 32)).heap.size := by simp
  generalize w.alloc (.cells #[.int .i64 0, .int .i64 0, .int .i64 0] 32) = w0 at *
  refine (FC.out _).mono ?_
  rintro e w1 ⟨rfl, hb⟩
  have B1 := Lib.hid (bstep B0.out hb)
  have F1 := Lib.hid ((hb.block _ z0).trans F0.out)
  have z1 : w.heap.size < w1.heap.size := Nat.lt_of_lt_of_le z0 hb.size
  clear hb B0 F0 FC
  go_wp2_with fail
  refine (SC.out _).mono ?_
  rintro e w2 ⟨v, rfl, ow, hb⟩
  have B2 := Lib.hid (bstep B1.out hb)
  have F2 := Lib.hid ((hb.block _ z1).trans F1.out)
  have OW := Lib.hid ow
  have z2 : w.heap.size < w2.heap.size := Nat.lt_of_lt_of_le z1 hb.size
  obtain ⟨av, capv, rfl⟩ := ownR_form ow
  clear hb B1 F1 SC ow
  have B3 := Lib.hid (balloc B2.out (.cells #[.int .i64 0, .int .i64 0, .int .i64 0] 32))
  have F3 : Hid ((w2.alloc (.cells #[.int .i64 0, .int .i64 0, .int .i64 0] 32)).heap[w.heap.size]? = some fa0) := Lib.hid ((Lib.alloc_old w2 _ _ z2).trans F2.out)
  have OW3 := Lib.hid (OW.out.below (balloc (brefl w2) (.cells #[.int .i64 0, .int .i64 0, .int .i64 0] 32)))
  have z3 : w.heap.size < (w2.alloc (.cells #[.int .i64 0, .int .i64 0, .int .i64 0] 32)).heap.size := by simp; omega
  have TK := Lib.hid (take_ex (A0.out.below B3.out) (by omega) (Nat.le_trans hB (Nat.le_of_lt z3)) he OW3.out.rw k3 k4)
  clear OW F2 B2
  go_wp2_with fail
  generalize w2.alloc (.cells #[.int .i64 0, .int .i64 0, .int .i64 0] 32) = w3 at *
  refine TK.out.mono ?_
  rintro e w4 ⟨rfl, L4, W4⟩
  have F4 : w4.heap[w.heap.size]? = some fa0 := W4.others _ _ F3.out (fun e => by cases e; omega) (fun c fz e => by unfold fa0 at e; simp only [Obj.cells.injEq] at e; exact fault_ne e.2.1)
  obtain ⟨a0, a1, a2, y0, y1, y2⟩ := fa_cells F4
  have WW := (Wk.of B3.out hB).trans W4
  have PZ := Lib.hid (And.intro (((L4.setOther F4 fault_ne (by omega) 0 (.int .i64 0)).setOther (heap_set F4 0 (.int .i64 0)) fault_ne (by omega) 1 (.int .i64 0)).setOther (heap_set (heap_set F4 0 (.int .i64 0)) 1 (.int .i64 0)) fault_ne (by omega) 2 (.int .i64 0)) (((WW.setNew (Nat.le_refl _) hB 0 (.int .i64 0)).setNew (Nat.le_refl _) hB 1 (.int .i64 0)).setNew (Nat.le_refl _) hB 2 (.int .i64 0)))
  clear F4 L4 W4 WW TK B3 F3 OW3
  go_wp2_with fail
  exact bodyPost_ret (v := .agg #[.int .i64 0, .int .i64 0, .int .i64 0]) (by simp [results, Tryd.results22, go_sem, a0, a1, a2]) rfl ⟨rfl, PZ.out⟩
set_option maxRecDepth 100000 in
set_option maxHeartbeats 4000000 in
theorem read_ha {w : World} {B b : Nat} {S : St} {x : ByteArray} {t : ByteArray} (A : Ls w B b S) (hx : x.size ≤ 1000000) (hB : B ≤ w.heap.size) (hK : Kl x (.ha t)) (he : S.h = ⟨#[]⟩) :
    Calls Tryd.prog 22 #[.pointer (some ⟨b, 0, none⟩), .string x] w fun e w' => e = .returned (.agg #[.int .i64 0, .int .i64 0, .int .i64 0]) ∧ Ls w' B b ⟨S.L, S.e, S.he, t⟩ ∧ Wk B b w w' := by
  obtain ⟨k1, k2, k3⟩ := hK
  have FC := Lib.hid (fun w => front_c x w (by omega))
  rw [k1, show fr x = x.extract 2 x.size from by rw [fr, k1]; rfl, show ((2 : Nat) : Int) = 2 from rfl] at FC
  have SC := Lib.hid (fun w => Split_c (x.extract 2 x.size) w (by have : ((x.extract 2 x.size)).size ≤ x.size := (by rw [ByteArray.size_extract]; omega); omega))
  rw [k2] at SC
  simp only [fWhy, fChar, fWords] at SC
  have A0 := Lib.hid A
  have lb := A.lt
  clear A
  generalize (x.extract 2 x.size) = rest at *
  go_enter Tryd.func22, Tryd.ntmps22
  go_wp2_with fail
  have B0 := Lib.hid (balloc (brefl w) (.cells #[.int .i64 0, .int .i64 0, .int .i64 0] 32))
  have F0 : Hid ((w.alloc (.cells #[.int .i64 0, .int .i64 0, .int .i64 0] 32)).heap[w.heap.size]? = some fa0) := Lib.hid (heap_alloc_new w _)
  have z0 : w.heap.size < (w.alloc (.cells #[.int .i64 0, .int .i64 0, .int .i64 0] 32)).heap.size := by simp
  generalize w.alloc (.cells #[.int .i64 0, .int .i64 0, .int .i64 0] 32) = w0 at *
  refine (FC.out _).mono ?_
  rintro e w1 ⟨rfl, hb⟩
  have B1 := Lib.hid (bstep B0.out hb)
  have F1 := Lib.hid ((hb.block _ z0).trans F0.out)
  have z1 : w.heap.size < w1.heap.size := Nat.lt_of_lt_of_le z0 hb.size
  clear hb B0 F0 FC
  go_wp2_with fail
  refine (SC.out _).mono ?_
  rintro e w2 ⟨v, rfl, ow, hb⟩
  have B2 := Lib.hid (bstep B1.out hb)
  have F2 := Lib.hid ((hb.block _ z1).trans F1.out)
  have OW := Lib.hid ow
  have z2 : w.heap.size < w2.heap.size := Nat.lt_of_lt_of_le z1 hb.size
  obtain ⟨av, capv, rfl⟩ := ownR_form ow
  clear hb B1 F1 SC ow
  have B3 := Lib.hid (balloc B2.out (.cells #[.int .i64 0, .int .i64 0, .int .i64 0] 32))
  have F3 : Hid ((w2.alloc (.cells #[.int .i64 0, .int .i64 0, .int .i64 0] 32)).heap[w.heap.size]? = some fa0) := Lib.hid ((Lib.alloc_old w2 _ _ z2).trans F2.out)
  have OW3 := Lib.hid (OW.out.below (balloc (brefl w2) (.cells #[.int .i64 0, .int .i64 0, .int .i64 0] 32)))
  have z3 : w.heap.size < (w2.alloc (.cells #[.int .i64 0, .int .i64 0, .int .i64 0] 32)).heap.size := by simp; omega
  have TK := Lib.hid (take_ha (A0.out.below B3.out) (Nat.le_trans hB (Nat.le_of_lt z3)) he OW3.out.rw k3)
  clear OW F2 B2
  go_wp2_with fail
  generalize w2.alloc (.cells #[.int .i64 0, .int .i64 0, .int .i64 0] 32) = w3 at *
  refine TK.out.mono ?_
  rintro e w4 ⟨rfl, L4, W4⟩
  have F4 : w4.heap[w.heap.size]? = some fa0 := W4.others _ _ F3.out (fun e => by cases e; omega) (fun c fz e => by unfold fa0 at e; simp only [Obj.cells.injEq] at e; exact fault_ne e.2.1)
  obtain ⟨a0, a1, a2, y0, y1, y2⟩ := fa_cells F4
  have WW := (Wk.of B3.out hB).trans W4
  have PZ := Lib.hid (And.intro (((L4.setOther F4 fault_ne (by omega) 0 (.int .i64 0)).setOther (heap_set F4 0 (.int .i64 0)) fault_ne (by omega) 1 (.int .i64 0)).setOther (heap_set (heap_set F4 0 (.int .i64 0)) 1 (.int .i64 0)) fault_ne (by omega) 2 (.int .i64 0)) (((WW.setNew (Nat.le_refl _) hB 0 (.int .i64 0)).setNew (Nat.le_refl _) hB 1 (.int .i64 0)).setNew (Nat.le_refl _) hB 2 (.int .i64 0)))
  clear F4 L4 W4 WW TK B3 F3 OW3
  go_wp2_with fail
  exact bodyPost_ret (v := .agg #[.int .i64 0, .int .i64 0, .int .i64 0]) (by simp [results, Tryd.results22, go_sem, a0, a1, a2]) rfl ⟨rfl, PZ.out⟩
set_option maxRecDepth 100000 in
set_option maxHeartbeats 4000000 in
theorem read_ch {w : World} {B b : Nat} {S : St} {x : ByteArray} {ta tb : ByteArray} {c : Int} {n m : Nat} (A : Ls w B b S) (hx : x.size ≤ 1000000) (hB : B ≤ w.heap.size) (hK : Kl x (.ch ta tb c n m)) (hl : S.L.length ≤ 1000000) :
    Calls Tryd.prog 22 #[.pointer (some ⟨b, 0, none⟩), .string x] w fun e w' => e = .returned (.agg #[.int .i64 0, .int .i64 0, .int .i64 0]) ∧ Ls w' B b ⟨S.L ++ [((n : Int) * 1048576, (m : Int))], S.e, S.he, S.h⟩ ∧ Wk B b w w' := by
  obtain ⟨k1, k2, k3, k4, k5, k6, k7, k8⟩ := hK
  have FC := Lib.hid (fun w => front_c x w (by omega))
  rw [k1, show fr x = x from by rw [fr, k1]; rfl, show ((0 : Nat) : Int) = 0 from rfl] at FC
  have SC := Lib.hid (fun w => Split_c x w (by have : (x).size ≤ x.size := Nat.le_refl _; omega))
  rw [k2] at SC
  simp only [fWhy, fChar, fWords] at SC
  have A0 := Lib.hid A
  have lb := A.lt
  clear A
  go_enter Tryd.func22, Tryd.ntmps22
  go_wp2_with fail
  have B0 := Lib.hid (balloc (brefl w) (.cells #[.int .i64 0, .int .i64 0, .int .i64 0] 32))
  have F0 : Hid ((w.alloc (.cells #[.int .i64 0, .int .i64 0, .int .i64 0] 32)).heap[w.heap.size]? = some fa0) := Lib.hid (heap_alloc_new w _)
  have z0 : w.heap.size < (w.alloc (.cells #[.int .i64 0, .int .i64 0, .int .i64 0] 32)).heap.size := by simp
  generalize w.alloc (.cells #[.int .i64 0, .int .i64 0, .int .i64 0] 32) = w0 at *
  refine (FC.out _).mono ?_
  rintro e w1 ⟨rfl, hb⟩
  have B1 := Lib.hid (bstep B0.out hb)
  have F1 := Lib.hid ((hb.block _ z0).trans F0.out)
  have z1 : w.heap.size < w1.heap.size := Nat.lt_of_lt_of_le z0 hb.size
  clear hb B0 F0 FC
  go_wp2_with fail
  refine (SC.out _).mono ?_
  rintro e w2 ⟨v, rfl, ow, hb⟩
  have B2 := Lib.hid (bstep B1.out hb)
  have F2 := Lib.hid ((hb.block _ z1).trans F1.out)
  have OW := Lib.hid ow
  have z2 : w.heap.size < w2.heap.size := Nat.lt_of_lt_of_le z1 hb.size
  obtain ⟨av, capv, rfl⟩ := ownR_form ow
  clear hb B1 F1 SC ow
  have B3 := Lib.hid (balloc B2.out (.cells #[.int .i64 0, .int .i64 0, .int .i64 0] 32))
  have F3 : Hid ((w2.alloc (.cells #[.int .i64 0, .int .i64 0, .int .i64 0] 32)).heap[w.heap.size]? = some fa0) := Lib.hid ((Lib.alloc_old w2 _ _ z2).trans F2.out)
  have OW3 := Lib.hid (OW.out.below (balloc (brefl w2) (.cells #[.int .i64 0, .int .i64 0, .int .i64 0] 32)))
  have z3 : w.heap.size < (w2.alloc (.cells #[.int .i64 0, .int .i64 0, .int .i64 0] 32)).heap.size := by simp; omega
  have TK := Lib.hid (take_ch (A0.out.below B3.out) (by omega) (by omega) (Nat.le_trans hB (Nat.le_of_lt z3)) hl OW3.out k3 k4 k5 k6)
  clear OW F2 B2
  go_wp2_with fail
  generalize w2.alloc (.cells #[.int .i64 0, .int .i64 0, .int .i64 0] 32) = w3 at *
  refine TK.out.mono ?_
  rintro e w4 ⟨rfl, L4, W4⟩
  have F4 : w4.heap[w.heap.size]? = some fa0 := W4.others _ _ F3.out (fun e => by cases e; omega) (fun c fz e => by unfold fa0 at e; simp only [Obj.cells.injEq] at e; exact fault_ne e.2.1)
  obtain ⟨a0, a1, a2, y0, y1, y2⟩ := fa_cells F4
  have WW := (Wk.of B3.out hB).trans W4
  have PZ := Lib.hid (And.intro (((L4.setOther F4 fault_ne (by omega) 0 (.int .i64 0)).setOther (heap_set F4 0 (.int .i64 0)) fault_ne (by omega) 1 (.int .i64 0)).setOther (heap_set (heap_set F4 0 (.int .i64 0)) 1 (.int .i64 0)) fault_ne (by omega) 2 (.int .i64 0)) (((WW.setNew (Nat.le_refl _) hB 0 (.int .i64 0)).setNew (Nat.le_refl _) hB 1 (.int .i64 0)).setNew (Nat.le_refl _) hB 2 (.int .i64 0)))
  clear F4 L4 W4 WW TK B3 F3 OW3
  go_wp2_with fail
  exact bodyPost_ret (v := .agg #[.int .i64 0, .int .i64 0, .int .i64 0]) (by simp [results, Tryd.results22, go_sem, a0, a1, a2]) rfl ⟨rfl, PZ.out⟩
set_option maxRecDepth 100000 in
set_option maxHeartbeats 4000000 in
theorem read_no {w : World} {B b : Nat} {S : St} {x : ByteArray}  (A : Ls w B b S) (hx : x.size ≤ 1000000) (hB : B ≤ w.heap.size) (hK : Kl x .no)  :
    Calls Tryd.prog 22 #[.pointer (some ⟨b, 0, none⟩), .string x] w fun e w' => e = .returned (.agg #[.int .i64 0, .int .i64 0, .int .i64 0]) ∧ Ls w' B b S ∧ Wk B b w w' := by
  obtain ⟨k1, k2⟩ := hK
  have FC := Lib.hid (fun w => front_c x w (by omega))
  rw [k1, show fr x = x from by rw [fr, k1]; rfl, show ((0 : Nat) : Int) = 0 from rfl] at FC
  have SC := Lib.hid (fun w => Split_c x w (by have : (x).size ≤ x.size := Nat.le_refl _; omega))
  rw [k2] at SC
  simp only [fWhy, fChar, fWords] at SC
  have A0 := Lib.hid A
  have lb := A.lt
  clear A
  go_enter Tryd.func22, Tryd.ntmps22
  go_wp2_with fail
  have B0 := Lib.hid (balloc (brefl w) (.cells #[.int .i64 0, .int .i64 0, .int .i64 0] 32))
  have F0 : Hid ((w.alloc (.cells #[.int .i64 0, .int .i64 0, .int .i64 0] 32)).heap[w.heap.size]? = some fa0) := Lib.hid (heap_alloc_new w _)
  have z0 : w.heap.size < (w.alloc (.cells #[.int .i64 0, .int .i64 0, .int .i64 0] 32)).heap.size := by simp
  generalize w.alloc (.cells #[.int .i64 0, .int .i64 0, .int .i64 0] 32) = w0 at *
  refine (FC.out _).mono ?_
  rintro e w1 ⟨rfl, hb⟩
  have B1 := Lib.hid (bstep B0.out hb)
  have F1 := Lib.hid ((hb.block _ z0).trans F0.out)
  have z1 : w.heap.size < w1.heap.size := Nat.lt_of_lt_of_le z0 hb.size
  clear hb B0 F0 FC
  go_wp2_with fail
  refine (SC.out _).mono ?_
  rintro e w2 ⟨v, rfl, ow, hb⟩
  have B2 := Lib.hid (bstep B1.out hb)
  have F2 := Lib.hid ((hb.block _ z1).trans F1.out)
  have OW := Lib.hid ow
  have z2 : w.heap.size < w2.heap.size := Nat.lt_of_lt_of_le z1 hb.size
  obtain ⟨av, capv, rfl⟩ := ownR_form ow
  clear hb B1 F1 SC ow
  have B3 := Lib.hid (balloc B2.out (.cells #[.int .i64 0, .int .i64 0, .int .i64 0] 32))
  have F3 : Hid ((w2.alloc (.cells #[.int .i64 0, .int .i64 0, .int .i64 0] 32)).heap[w.heap.size]? = some fa0) := Lib.hid ((Lib.alloc_old w2 _ _ z2).trans F2.out)
  have OW3 := Lib.hid (OW.out.below (balloc (brefl w2) (.cells #[.int .i64 0, .int .i64 0, .int .i64 0] 32)))
  have z3 : w.heap.size < (w2.alloc (.cells #[.int .i64 0, .int .i64 0, .int .i64 0] 32)).heap.size := by simp; omega
  have TK := Lib.hid (take_no (b := b) OW3.out)
  clear OW F2 B2
  go_wp2_with fail
  generalize w2.alloc (.cells #[.int .i64 0, .int .i64 0, .int .i64 0] 32) = w3 at *
  refine TK.out.mono ?_
  rintro e w4 ⟨rfl, hb⟩
  have L4 := (A0.out.below B3.out).below hb
  have F4 : w4.heap[w.heap.size]? = some fa0 := (hb.block _ z3).trans F3.out
  obtain ⟨a0, a1, a2, y0, y1, y2⟩ := fa_cells F4
  have WW := Wk.of (b := b) (B3.out.trans (hb.mono B3.out.size)) hB
  have PZ := Lib.hid (And.intro (((L4.setOther F4 fault_ne (by omega) 0 (.int .i64 0)).setOther (heap_set F4 0 (.int .i64 0)) fault_ne (by omega) 1 (.int .i64 0)).setOther (heap_set (heap_set F4 0 (.int .i64 0)) 1 (.int .i64 0)) fault_ne (by omega) 2 (.int .i64 0)) (((WW.setNew (Nat.le_refl _) hB 0 (.int .i64 0)).setNew (Nat.le_refl _) hB 1 (.int .i64 0)).setNew (Nat.le_refl _) hB 2 (.int .i64 0)))
  clear F4 L4 hb WW TK B3 F3 OW3
  go_wp2_with fail
  exact bodyPost_ret (v := .agg #[.int .i64 0, .int .i64 0, .int .i64 0]) (by simp [results, Tryd.results22, go_sem, a0, a1, a2]) rfl ⟨rfl, PZ.out⟩
theorem read_yes {w : World} {B b : Nat} {S S' : St} {x : ByteArray} {K : Kd} (A : Ls w B b S) (hx : x.size ≤ 1000000) (hB : B ≤ w.heap.size) (hK : Kl x K) (hY : Yes S K S') :
    Calls Tryd.prog 22 #[.pointer (some ⟨b, 0, none⟩), .string x] w fun e w' => e = .returned (.agg #[.int .i64 0, .int .i64 0, .int .i64 0]) ∧ Ls w' B b S' ∧ Wk B b w w' := by
  cases K with
  | no => cases hY; exact read_no A hx hB hK
  | ex t n => obtain ⟨he, rfl⟩ := hY; exact read_ex A hx hB hK he
  | ha t => obtain ⟨he, rfl⟩ := hY; exact read_ha A hx hB hK he
  | ch ta tb c n m => obtain ⟨hl, rfl⟩ := hY; exact read_ch A hx hB hK hl
set_option maxRecDepth 100000 in
set_option maxHeartbeats 4000000 in
theorem read_bad {w : World} {B b : Nat} {S : St} {x : ByteArray} {t : ByteArray} {n : Nat} (A : Ls w B b S) (hx : x.size ≤ 1000000) (hB : B ≤ w.heap.size) (hK : Kl x (.ex t n)) (he : S.he = true) :
    Calls Tryd.prog 22 #[.pointer (some ⟨b, 0, none⟩), .string x] w fun e w' => e = .returned (.agg #[.int .i64 4, .int .i64 0, .int .i64 0]) ∧ Below w.heap.size w w' := by
  obtain ⟨k1, k2, k3, k4, k5⟩ := hK
  have FC := Lib.hid (fun w => front_c x w (by omega))
  rw [k1, show fr x = x.extract 2 x.size from by rw [fr, k1]; rfl, show ((1 : Nat) : Int) = 1 from rfl] at FC
  have SC := Lib.hid (fun w => Split_c (x.extract 2 x.size) w (by have : ((x.extract 2 x.size)).size ≤ x.size := (by rw [ByteArray.size_extract]; omega); omega))
  rw [k2] at SC
  simp only [fWhy, fChar, fWords] at SC
  have A0 := Lib.hid A
  have lb := A.lt
  clear A
  generalize (x.extract 2 x.size) = rest at *
  go_enter Tryd.func22, Tryd.ntmps22
  go_wp2_with fail
  have B0 := Lib.hid (balloc (brefl w) (.cells #[.int .i64 0, .int .i64 0, .int .i64 0] 32))
  have F0 : Hid ((w.alloc (.cells #[.int .i64 0, .int .i64 0, .int .i64 0] 32)).heap[w.heap.size]? = some fa0) := Lib.hid (heap_alloc_new w _)
  have z0 : w.heap.size < (w.alloc (.cells #[.int .i64 0, .int .i64 0, .int .i64 0] 32)).heap.size := by simp
  generalize w.alloc (.cells #[.int .i64 0, .int .i64 0, .int .i64 0] 32) = w0 at *
  refine (FC.out _).mono ?_
  rintro e w1 ⟨rfl, hb⟩
  have B1 := Lib.hid (bstep B0.out hb)
  have F1 := Lib.hid ((hb.block _ z0).trans F0.out)
  have z1 : w.heap.size < w1.heap.size := Nat.lt_of_lt_of_le z0 hb.size
  clear hb B0 F0 FC
  go_wp2_with fail
  refine (SC.out _).mono ?_
  rintro e w2 ⟨v, rfl, ow, hb⟩
  have B2 := Lib.hid (bstep B1.out hb)
  have F2 := Lib.hid ((hb.block _ z1).trans F1.out)
  have OW := Lib.hid ow
  have z2 : w.heap.size < w2.heap.size := Nat.lt_of_lt_of_le z1 hb.size
  obtain ⟨av, capv, rfl⟩ := ownR_form ow
  clear hb B1 F1 SC ow
  have B3 := Lib.hid (balloc B2.out (.cells #[.int .i64 0, .int .i64 0, .int .i64 0] 32))
  have F3 : Hid ((w2.alloc (.cells #[.int .i64 0, .int .i64 0, .int .i64 0] 32)).heap[w.heap.size]? = some fa0) := Lib.hid ((Lib.alloc_old w2 _ _ z2).trans F2.out)
  have OW3 := Lib.hid (OW.out.below (balloc (brefl w2) (.cells #[.int .i64 0, .int .i64 0, .int .i64 0] 32)))
  have z3 : w.heap.size < (w2.alloc (.cells #[.int .i64 0, .int .i64 0, .int .i64 0] 32)).heap.size := by simp; omega
  have TK := Lib.hid (take_bad (A0.out.below B3.out) (by omega) he OW3.out.rw k3)
  clear OW F2 B2
  go_wp2_with fail
  generalize w2.alloc (.cells #[.int .i64 0, .int .i64 0, .int .i64 0] 32) = w3 at *
  refine TK.out.mono ?_
  rintro e w4 ⟨rfl, hb⟩
  have F4 : w4.heap[w.heap.size]? = some fa0 := (hb.block _ z3).trans F3.out
  obtain ⟨a0, a1, a2, y0, y1, y2⟩ := fa_cells F4
  have BZ := Lib.hid ((((B3.out.trans (hb.mono B3.out.size)).setCell (p := ⟨w.heap.size, 0, none⟩) (Nat.le_refl _) (.int .i64 4)).setCell (p := ⟨w.heap.size, 1, none⟩) (Nat.le_refl _) (.int .i64 0)).setCell (p := ⟨w.heap.size, 2, none⟩) (Nat.le_refl _) (.int .i64 0))
  clear F4 hb TK B3 F3 OW3
  go_wp2_with fail
  exact bodyPost_ret (v := .agg #[.int .i64 4, .int .i64 0, .int .i64 0]) (by simp [results, Tryd.results22, go_sem, a0, a1, a2]) rfl ⟨rfl, BZ.out⟩
end Go.Proofs.YtmehknhajoemgaaDoor.Wd
