/-
  A strings.Builder in a field of a block: the contracts of copyCheck, WriteByte, WriteRune, String and Reset.
  Conditions: the builder holds no more than 2^46 bytes.
  A strings.Builder in a field of a block: WriteByte, WriteRune.
  Conditions: the new length takes at most 2^47 bytes.
  A strings.Builder in a field of a block: String.
-/
import Derived.Test.YtoecgabdjpgleaaGreatDoorWa
import Derived.Test.YtoecgabdjpgleaaGreatDoorShelfS
import Derived.Lib.OthersKept
import Derived.Lib.Builder
import Derived.Laws.Externs
import Derived.Shelf.RegionOpenPlain
namespace Go.Proofs.YtoecgabdjpgleaaGreatDoor.Wd
open Go.ChangeShapes Go.WideShapes Go.ChangeAt Go.RowKit Go.Joins By
set_option linter.unusedVariables false
set_option linter.unusedSimpArgs false

/-- a string's bytes. -/
def bn (s : ByteArray) : List Nat := s.data.toList.map UInt8.toNat
theorem bn_app (a b : ByteArray) : bn (a ++ b) = bn a ++ bn b := by simp [bn]
theorem bn_len (s : ByteArray) : (bn s).length = s.size := by
  unfold bn
  rw [List.length_map, Array.length_toList]
  rfl
theorem bn_byte (s : ByteArray) : ∀ x ∈ bn s, x < 256 := by
  intro x hx
  simp only [bn, List.mem_map] at hx
  obtain ⟨y, _, rfl⟩ := hx
  exact y.toNat_lt
theorem bs8_bn (s : ByteArray) : bs8 (bn s) = s := by
  unfold bs8 bn
  rw [List.map_map]
  have : (UInt8.ofNat ∘ UInt8.toNat) = id := by funext x; simp
  rw [this, List.map_id]
theorem bn_empty : bn ⟨#[]⟩ = [] := rfl

/-- an append of a byte to bytes of the call's own: what it leaves alone. -/
theorem app1k {w : World} {base : Nat} {v : Value} {l : List Nat} (h : Own w base v l) (x : Nat) (hb : base ≤ w.heap.size) (hn : l.length + 1 ≤ 140737488355328) (ty : TypeId) :
    ∃ v' w', (Builtin.append_ #[31, 31] ty #[v, .slice (some ⟨w.heap.size, 0, none⟩) 1 1]).run Tryz.prog (w.alloc (.cells #[.int .u8 (x : Int)] 5)) = .ok v' w' ∧ Own w' base v' (l ++ [x]) ∧ (w.alloc (.cells #[.int .u8 (x : Int)] 5)).grownBy w' v.ownBlock := by
  obtain ⟨i, hi, hz, hs, hby⟩ := info_parts info_u8
  obtain ⟨v', w', hr, ho, hg, _, _⟩ := run_append_own_at (P := Tryz.prog) (w.alloc (.cells #[.int .u8 (x : Int)] 5)) base 31 ty 5 i (.int .u8 0) 1 1 Tryz.underlying31 hi hz hs hby rfl (by decide) v l.length (cl l) (World.ownsRow.alloc h _) ⟨w.heap.size, 0, none⟩ 1 1 (cl [x]) rfl
    (by intro j u hj; cases j with | zero => (simp [cl] at hj; subst hj; simp [Addr.add, go_sem]) | succ j => simp [cl] at hj) (cl_one _) (by unfold maxLen; omega) (by omega) (by simp; omega)
  refine ⟨v', w', hr, ?_, hg⟩
  unfold Own
  rw [cl_app, List.length_append]
  exact ho
theorem ownF {w : World} {base : Nat} {v : Value} {l : List Nat} (h : Own w base v l) : w.ownsRowF base 5 1 v l.length (cl l) := World.ownsRowF_of h
theorem own_kind {w : World} {base : Nat} {v : Value} {l : List Nat} (h : Own w base v l) : ∀ g, v.ownBlock = some g → ∃ c fz, w.heap[g]? = some (.cells c 5 fz) := Lib.ownsRowF_kind (ownF h)
/-- .. is in no block of another kind. -/
theorem own_ne {w : World} {base : Nat} {v : Value} {l : List Nat} (h : Own w base v l) {b : Nat} {c : Array Value} {T : TypeId} {fz : Nat × Nat} (hb : w.heap[b]? = some (.cells c T fz)) (hT : T ≠ 5) : v.ownBlock ≠ some b := by
  intro e
  obtain ⟨c', fz', h'⟩ := own_kind h b e
  rw [hb] at h'
  simp only [Option.some.injEq, Obj.cells.injEq] at h'
  exact hT h'.2.1
theorem heap_set {w : World} {b : Nat} {c : Array Value} {T : TypeId} {fz : Nat × Nat} (hb : w.heap[b]? = some (.cells c T fz)) (i : Nat) (v : Value) : (w.setCell ⟨b, i, none⟩ v).heap[b]? = some (.cells (c.setIfInBounds i v) T fz) := by
  simp [World.setCell, Array.getElem?_modify, hb]
theorem heap_set_other {w : World} {b k : Nat} (i : Nat) (v : Value) (h : k ≠ b) : (w.setCell ⟨b, i, none⟩ v).heap[k]? = w.heap[k]? := Below.heap_setCell _ _ _ _ h
theorem own_set {w : World} {base : Nat} {v : Value} {l : List Nat} (h : Own w base v l) {b : Nat} (hb : v.ownBlock ≠ some b) (i : Nat) (u : Value) : Own (w.setCell ⟨b, i, none⟩ u) base v l := ownsRow_setCell_other h hb u

def pt (b o : Nat) : Value := .pointer (some ⟨b, o, none⟩)
/-- block b holds the cells c, a builder among them at o. -/
structure Fb (w : World) (b o : Nat) (T : TypeId) (c : Array Value) : Prop where
  heap : w.heap[b]? = some (.cells c T (0, 0))
  kind : T ≠ 5
  room : o + 1 < c.size
  lies : liesAt Tryz.prog Tryz.prog.depth T (c.size / Tryz.prog.cellsOf T) o 99 1 = true
  addr : c[o]? = some (.pointer none) ∨ c[o]? = some (pt b o)
theorem Fb.lt {w : World} {b o : Nat} {T : TypeId} {c : Array Value} (h : Fb w b o T c) : b < w.heap.size := (Array.getElem?_eq_some_iff.1 h.heap).1
theorem Fb.cell {w : World} {b o : Nat} {T : TypeId} {c : Array Value} (h : Fb w b o T c) (i : Nat) : w.cell? ⟨b, i, none⟩ = c[i]? := by simp [World.cell?, h.heap]
theorem Fb.cold {w : World} {b o : Nat} {T : TypeId} {c : Array Value} (h : Fb w b o T c) (i : Nat) : w.frozen? ⟨b, i, none⟩ = false := by simp [World.frozen?, h.heap]
theorem Fb.shape {w : World} {b o : Nat} {T : TypeId} {c : Array Value} (h : Fb w b o T c) : w.shape? b = some (T, c.size) := by simp [World.shape?, h.heap]
theorem info_bld : (Tryz.prog.info? 99).map (fun i => i.size) = some 2 := by kernel_rfl

/-- what a writing call may change: block b, rows of bytes, new blocks. -/
structure Wrote (B b : Nat) (w w' : World) : Prop where
  below : Below B w w'
  others : Lib.OthersKept 5 (some b) w w'
theorem Wrote.refl (B b : Nat) (w : World) : Wrote B b w w := ⟨Below.refl _ _, Lib.OthersKept.refl _ _ _⟩
theorem Wrote.trans {B b : Nat} {x y z : World} (h : Wrote B b x y) (k : Wrote B b y z) : Wrote B b x z := ⟨h.below.trans k.below, h.others.trans k.others⟩
theorem Wrote.set {B b : Nat} {x y : World} (h : Wrote B b x y) (hB : B ≤ b) (i : Nat) (v : Value) : Wrote B b x (y.setCell ⟨b, i, none⟩ v) := ⟨h.below.setCell hB v, h.others.setCell ⟨b, i, none⟩ rfl v⟩

set_option maxRecDepth 100000 in
set_option maxHeartbeats 2000000 in
theorem copyCheck_c {w : World} {b o : Nat} {T : TypeId} {c : Array Value} (F : Fb w b o T c) (B : Nat) (hB : B ≤ b) :
    Calls Tryz.prog 108 #[pt b o] w fun e w' => e = .returned (.tuple #[]) ∧ Fb w' b o T (c.setIfInBounds o (pt b o)) ∧ (∀ k, k ≠ b → w'.heap[k]? = w.heap[k]?) ∧ w'.heap.size = w.heap.size ∧ Wrote B b w w' := by
  obtain ⟨j, hj, hjs⟩ := Option.map_eq_some_iff.1 info_bld
  have hz : Fb (w.setCell ⟨b, o, none⟩ (pt b o)) b o T (c.setIfInBounds o (pt b o)) := ⟨heap_set F.heap o _, F.kind, by simpa using F.room, by simpa using F.lies, .inr (by rw [Array.getElem?_setIfInBounds]; simp; have := F.room; omega)⟩
  rcases F.addr with h0 | h0
  · have c0 : w.cell? ⟨b, o, none⟩ = some (.pointer none) := by rw [F.cell]; exact h0
    have f0 := F.cold o
    have r1 := Lib.run_to_unsafe (P := Tryz.prog) w ⟨b, o, none⟩ Tryz.underlying97 Tryz.underlying165 hj (by rw [hjs]; decide) F.shape (by have := F.room; show o < _; omega)
    have r2 := Lib.run_from_unsafe (P := Tryz.prog) w ⟨b, o, none⟩ Tryz.underlying165 Tryz.underlying97 hj F.shape F.lies
    have W := (Wrote.refl B b w).set hB o (pt b o)
    unfold pt at *
    go_enter Tryz.func108, Tryz.ntmps108
    go_wp2
    rw [run_callFunc_extern Tryz.func125 (by kernel_rfl) (by kernel_rfl) (by kernel_rfl) (e := Extern.AbiNoEscape.same) (by kernel_rfl)]
    rw [Lib.run_noEscape]
    simp only [Result.andThen]
    rw [Oper.upon_value]
    go_wp2
    go_end0
    exact ⟨rfl, hz, fun k hk => heap_set_other _ _ hk, by simp [World.setCell], W⟩
  · have c0 : w.cell? ⟨b, o, none⟩ = some (.pointer (some ⟨b, o, none⟩)) := by rw [F.cell]; exact h0
    have e : c.setIfInBounds o (pt b o) = c := by
      apply Array.ext_getElem?
      intro i
      rw [Array.getElem?_setIfInBounds]
      by_cases hi : o = i
      · subst hi
        have := F.room
        rw [if_pos rfl, if_pos (by omega)]
        exact h0.symm
      · rw [if_neg hi]
    have r1 := Lib.run_neq_ptr_same (P := Tryz.prog) w ⟨b, o, none⟩ Tryz.underlying97 hj
    rw [e]
    unfold pt at *
    go_enter Tryz.func108, Tryz.ntmps108
    go_wp2
    go_end0
    exact ⟨rfl, F, fun _ _ => rfl, rfl, Wrote.refl _ _ _⟩

theorem Fb.keep {w w' : World} {b o : Nat} {T : TypeId} {c : Array Value} (F : Fb w b o T c) (h : w'.heap[b]? = w.heap[b]?) : Fb w' b o T c := ⟨h.trans F.heap, F.kind, F.room, F.lies, F.addr⟩
theorem own_same {w w' : World} {base : Nat} {v : Value} {l : List Nat} (h : Own w base v l) {b : Nat} (hb : v.ownBlock ≠ some b) (hk : ∀ k, k ≠ b → w'.heap[k]? = w.heap[k]?) : Own w' base v l := by
  refine ⟨h.1, h.2.imp id ?_⟩
  rintro ⟨g, cap, cur, hv, hg, hh, r⟩
  refine ⟨g, cap, cur, hv, hg, (hk g ?_).trans hh, r⟩
  rintro rfl
  exact hb (by rw [hv]; rfl)
/-- the bytes, with their value's form. -/
theorem own_form {w : World} {base : Nat} {v : Value} {l : List Nat} (h : Own w base v l) : ∃ a cap, v = .slice a l.length cap ∧ l.length ≤ 9223372036854775807 := by
  rcases h.2 with ⟨hv, h0⟩ | ⟨g, cap, cur, hv, _, _, hc, hm, _⟩
  · exact ⟨none, 0, by rw [hv, h0], by omega⟩
  · exact ⟨_, cap, hv, by unfold maxLen at hm; omega⟩
/-- behind an append to the builder's bytes. -/
theorem wrote_grown {B b o : Nat} {T : TypeId} {c : Array Value} {w w1 w2 : World} {v : Value} {l : List Nat} {ob : Obj} (F : Fb w1 b o T c) (hB : B ≤ w1.heap.size) (own : Own w1 B v l) (W : Wrote B b w w1) (hg : (w1.alloc ob).grownBy w2 v.ownBlock) :
    Fb w2 b o T c ∧ Wrote B b w w2 := by
  have hne := own_ne own F.heap F.kind
  refine ⟨F.keep ?_, ?_, ?_⟩
  · rw [hg.block b (by have := F.lt; simp; omega) (fun e => hne e.symm)]
    exact Lib.alloc_old w1 _ b F.lt
  · exact (W.below.alloc hB _).grown hg (by simp; omega) own.block
  · exact (W.others.alloc _).grown hg (own_kind (World.ownsRow.alloc own _ : Own _ _ _ _))

set_option maxRecDepth 100000 in
set_option maxHeartbeats 2000000 in
theorem Reset_c {w : World} {b o : Nat} {T : TypeId} {c : Array Value} (F : Fb w b o T c) {B : Nat} (hB : B ≤ b) :
    Calls Tryz.prog 111 #[pt b o] w fun e w' => e = .returned (.tuple #[]) ∧ Fb w' b o T ((c.setIfInBounds o (.pointer none)).setIfInBounds (o + 1) (.slice none 0 0)) ∧ (∀ k, k ≠ b → w'.heap[k]? = w.heap[k]?) ∧ w'.heap.size = w.heap.size ∧ Wrote B b w w' := by
  have RM := F.room
  have h0 : ∃ x, c[o]? = some x := ⟨c[o]'(by omega), by rw [Array.getElem?_eq_getElem]⟩
  obtain ⟨x0, h0⟩ := h0
  obtain ⟨x1, h1⟩ : ∃ x, c[o + 1]? = some x := ⟨c[o + 1]'(by omega), by rw [Array.getElem?_eq_getElem]⟩
  have c0 : w.cell? ⟨b, o, none⟩ = some x0 := by rw [F.cell]; exact h0
  have f0 := F.cold o
  have c1 : w.cell? ⟨b, o + 1, none⟩ = some x1 := by rw [F.cell]; exact h1
  have f1 := F.cold (o + 1)
  have hz : Fb ((w.setCell ⟨b, o, none⟩ (.pointer none)).setCell ⟨b, o + 1, none⟩ (.slice none 0 0)) b o T ((c.setIfInBounds o (.pointer none)).setIfInBounds (o + 1) (.slice none 0 0)) :=
    ⟨heap_set (heap_set F.heap o _) _ _, F.kind, by simpa using F.room, by simpa using F.lies, .inl (by rw [Array.getElem?_setIfInBounds, if_neg (by omega), Array.getElem?_setIfInBounds, if_pos rfl, if_pos (by omega)])⟩
  have W := ((Wrote.refl B b w).set hB o (.pointer none)).set hB (o + 1) (.slice none 0 0)
  unfold pt at *
  go_enter Tryz.func111, Tryz.ntmps111
  go_wp2
  go_end0
  exact ⟨rfl, hz, fun k hk => (heap_set_other _ _ hk).trans (heap_set_other _ _ hk), by simp [World.setCell], W⟩

end Go.Proofs.YtoecgabdjpgleaaGreatDoor.Wd
namespace Go.Proofs.YtoecgabdjpgleaaGreatDoor.Wd
open Go.ChangeShapes Go.WideShapes Go.ChangeAt Go.RowKit Go.Joins By
set_option linter.unusedVariables false
set_option linter.unusedSimpArgs false

/-- a rune's bytes. -/
def rb (r : Int) : List Nat := (Lib.encodeRune r).map UInt8.toNat
theorem cl_rb (r : Int) : cl (rb r) = Lib.runeCells r := by
  rw [← Lib.byteCells_encodeRune]
  simp [cl, rb, Lib.byteCells]
theorem rb_len (r : Int) : (rb r).length = (Lib.runeCells r).length := by rw [← cl_rb, cl_len]
theorem rb_byte (r : Int) : ∀ x ∈ rb r, x < 256 := by
  intro x hx
  simp only [rb, List.mem_map] at hx
  obtain ⟨y, _, rfl⟩ := hx
  exact y.toNat_lt

set_option maxRecDepth 100000 in
set_option maxHeartbeats 600000 in
theorem WriteRune_c {w : World} {b o : Nat} {T : TypeId} {c : Array Value} (F : Fb w b o T c) {B : Nat} (hB : B ≤ b) {v : Value} {l : List Nat} (hv : c[o + 1]? = some v) (own : Own w B v l) (hn : l.length + 4 ≤ 140737488355328) (r : Int) (hr0 : 0 ≤ r) (hr1 : r ≤ 2147483647) :
    Calls Tryz.prog 81 #[pt b o, .int .i32 r] w fun e w' => (∃ n, e = .returned (.tuple #[.int .i64 n, .nilIface])) ∧ ∃ v', Fb w' b o T ((c.setIfInBounds o (pt b o)).setIfInBounds (o + 1) v') ∧ Own w' B v' (l ++ rb r) ∧ Wrote B b w w' := by
  have CC := copyCheck_c F B hB
  have RM := F.room
  have hk4 := Lib.runeCells_le r
  unfold pt at *
  go_enter Tryz.func81, Tryz.ntmps81
  go_wp2_with fail
  refine CC.mono ?_
  rintro e w1 ⟨rfl, F1, hk, hs, W1⟩
  have own1 := own_same own (own_ne own F.heap F.kind) hk
  have lt1 := F1.lt
  obtain ⟨av, capv, ev, _⟩ := own_form own1
  subst ev
  have c1 : w1.cell? ⟨b, o + 1, none⟩ = some (.slice av l.length capv) := by rw [F1.cell, Array.getElem?_setIfInBounds, if_neg (by omega)]; exact hv
  have CA := Tryz.utf8_AppendRune_plain B (.slice av l.length capv) l.length (cl l) r (by omega) hr1 w1 own1 hn (by omega)
  go_wp2_with fail
  refine CA.mono ?_
  rintro e w2 ⟨v', rfl, ho', ob, hg⟩
  have ho : Own w2 B v' (l ++ rb r) := by
    unfold Own
    rw [cl_app, cl_rb, List.length_append, rb_len]
    exact ho'
  obtain ⟨F2, W2⟩ := wrote_grown F1 (by omega) own1 W1 hg
  have c2 : w2.cell? ⟨b, o + 1, none⟩ = some (.slice av l.length capv) := by rw [F2.cell, Array.getElem?_setIfInBounds, if_neg (by omega)]; exact hv
  have z2 := F2.cold (o + 1)
  obtain ⟨a', cap', e', le'⟩ := own_form ho
  rw [List.length_append, rb_len] at e' le'
  subst e'
  have ne2 := own_ne ho F2.heap F2.kind
  generalize (Lib.runeCells r).length = nr at *
  have F3 : Fb (w2.setCell ⟨b, o + 1, none⟩ (.slice a' (l.length + nr) cap')) b o T ((c.setIfInBounds o (.pointer (some ⟨b, o, none⟩))).setIfInBounds (o + 1) (.slice a' (l.length + nr) cap')) :=
    ⟨heap_set F2.heap _ _, F2.kind, by simpa using RM, by simpa using F2.lies, by rw [Array.getElem?_setIfInBounds, if_neg (by omega)]; exact F2.addr⟩
  have O3 := own_set ho ne2 (o + 1) (.slice a' (l.length + nr) cap')
  have W3 := W2.set hB (o + 1) (.slice a' (l.length + nr) cap')
  have P3 := Lib.hid (And.intro F3 (And.intro O3 W3))
  clear F3 O3 W3 ho ho' hg F2 W2 own1 hk W1 F1 ne2 CC CA hs
  go_wp2_with fail
  go_ret2
  exact ⟨⟨_, rfl⟩, _, P3.out⟩

end Go.Proofs.YtoecgabdjpgleaaGreatDoor.Wd
namespace Go.Proofs.YtoecgabdjpgleaaGreatDoor.Wd
open Go.ChangeShapes Go.WideShapes Go.ChangeAt Go.RowKit Go.Joins By
set_option linter.unusedVariables false
set_option linter.unusedSimpArgs false

theorem cl_byteCells (l : List Nat) (h8 : ∀ x ∈ l, x < 256) : cl l = Lib.byteCells (l.map UInt8.ofNat) := by
  unfold cl Lib.byteCells
  rw [List.map_map]
  apply List.map_congr_left
  intro x hx
  have := h8 x hx
  simp [Nat.mod_eq_of_lt this]

set_option maxRecDepth 100000 in
set_option maxHeartbeats 2000000 in
theorem String_c {w : World} {b o : Nat} {T : TypeId} {c : Array Value} (F : Fb w b o T c) {B : Nat} (hB : B ≤ b) {v : Value} {l : List Nat} (hv : c[o + 1]? = some v) (own : Own w B v l) (h8 : ∀ x ∈ l, x < 256) (hz : l = [] → v = .slice none 0 0) :
    Calls Tryz.prog 110 #[pt b o] w fun e w' => e = .returned (.string (bs8 l)) ∧ Fb w' b o T c ∧ Wrote B b w w' := by
  by_cases h0 : l = []
  · obtain rfl := hz h0
    have c1 : w.drew.cell? ⟨b, o + 1, none⟩ = some (.slice none 0 0) := by
      have := F.cell (o + 1)
      rw [hv] at this
      exact this
    have hUS := Lib.run_unsafeString_none (P := Tryz.prog) w.drew 167 3 9 none
    have hSD : (Builtin.unsafeSliceData_ #[31] 167 #[.slice none 0 0]).run Tryz.prog w.drew = .ok (.pointer none) w.drew := rfl
    have F2 : Fb w.drew b o T c := F.keep rfl
    have W2 : Wrote B b w w.drew := ⟨Below.drew (Below.refl _ _), (Lib.OthersKept.refl _ _ _).drew⟩
    subst h0
    unfold pt
    go_enter Tryz.func110, Tryz.ntmps110
    go_wp2
    have mixed : Tryz.prog.follows Departure.mixedOrders = true := by kernel_rfl
    go_region_o
    all_goals (go_wp2; go_ret; exact ⟨rfl, F2, W2⟩)
  · have hl0 : l.length ≠ 0 := by simpa using h0
    have hne := own_ne own F.heap F.kind
    obtain ⟨g, cap, cur, rfl, hbg, hg, hnc, hcm, hcs, htake⟩ : ∃ g cap cur, v = .slice (some ⟨g, 0, none⟩) l.length cap ∧ B ≤ g ∧ w.heap[g]? = some (.cells cur 5 (0, 0)) ∧ l.length ≤ cap ∧ cap ≤ maxLen ∧ cur.size = cap * 1 ∧ cur.toList.take (l.length * 1) = cl l := by
      rcases own.2 with ⟨_, hz⟩ | ⟨g, cap, cur, hv, r⟩
      · exact absurd hz hl0
      · exact ⟨g, cap, cur, hv, r⟩
    have c1 : w.drew.cell? ⟨b, o + 1, none⟩ = some (.slice (some ⟨g, 0, none⟩) l.length cap) := by
      have := F.cell (o + 1)
      rw [hv] at this
      exact this
    have hSD : (Builtin.unsafeSliceData_ #[31] 167 #[.slice (some ⟨g, 0, none⟩) l.length cap]).run Tryz.prog w.drew = .ok (.pointer (some ⟨g, 0, none⟩)) w.drew :=
      Lib.run_unsafeSliceData_row _ _ _ _ _ _ (by omega)
    have hUS : (Builtin.unsafeString_ #[167, 3] 9 #[.pointer (some ⟨g, 0, none⟩), .int .i64 l.length]).run Tryz.prog w.drew = .ok (.string (bs8 l)) (w.drew.freeze ⟨g, 0, none⟩ l.length) := by
      have hl : (l.map UInt8.ofNat).length = l.length := List.length_map _
      have := Lib.run_unsafeString_row (P := Tryz.prog) w.drew 167 3 9 5 Tryz.underlying167 cells5 g cur.size (by have hg' : w.drew.heap[g]? = some (.cells cur 5 (0, 0)) := hg; simp [World.shape?, hg']) (l.map UInt8.ofNat) (by simpa using h0) (by omega) (by unfold maxLen at hcm; omega) ?_
      · rw [hl] at this
        exact this
      · intro j x hx
        have h2 := World.ownsRow.cells own (g := g) rfl j (.int .u8 x.toNat) (by rw [cl_byteCells l h8]; simp only [Lib.byteCells, List.getElem?_map, hx]; rfl)
        exact h2
    have W2 : Wrote B b w (w.drew.freeze ⟨g, 0, none⟩ l.length) := ⟨Lib.below_freeze (Below.drew (Below.refl B w)) (p := ⟨g, 0, none⟩) hbg _, ((Lib.OthersKept.refl _ _ w).drew).freeze ⟨g, 0, none⟩ _ ⟨cur, (0, 0), hg⟩⟩
    have F2 : Fb (w.drew.freeze ⟨g, 0, none⟩ l.length) b o T c := F.keep (by
      have hgb : g ≠ b := fun e => hne (by simp [Value.ownBlock, e])
      unfold World.freeze
      split
      · rfl
      · simp only [Array.getElem?_modify]
        rw [if_neg hgb]
        rfl)
    have P2 := Lib.hid (And.intro F2 W2)
    clear F2 W2
    unfold pt
    go_enter Tryz.func110, Tryz.ntmps110
    go_wp2
    have mixed : Tryz.prog.follows Departure.mixedOrders = true := by kernel_rfl
    go_region_o
    all_goals (go_wp2; go_ret; exact ⟨rfl, P2.out⟩)
end Go.Proofs.YtoecgabdjpgleaaGreatDoor.Wd
