/-
  Blocks, rows of times and what is turned in memory, in general.
  Conditions: none.
-/
import Derived.Test.YtdngoopogajhiaaChecked
import Derived.WalkKit
import Derived.WalkLawsBesides
import Derived.Lib.Hide
import Derived.BigQuiet
import Derived.BigRegion
import Derived.Maps.AppendAt
import Derived.Laws.OwnMore
import Derived.Laws.CopyOwn
import Derived.OwnWalk
import Derived.Below
import Derived.Deep.MidRow
import Derived.Deep.CutRange
import Derived.Deep.RegionHeld3
import Derived.IntWalk
import Derived.Deep.Upon
import Derived.SizedLaws
import Derived.Lib.SmallJoins
namespace Go.Proofs.Ytdngoopogajhiaa.Fl
open Go.RowKit Go.ChangeShapes Go.WideShapes Go.ChangeAt Go.Joins
set_option linter.unusedVariables false
set_option linter.unusedSimpArgs false

theorem brefl (w : World) : Below w.heap.size w w := Below.refl _ _
theorem balloc {a b : World} (h : Below a.heap.size a b) (o : Obj) : Below a.heap.size a (b.alloc o) := h.alloc h.size o
theorem bstep {a b c : World} (h : Below a.heap.size a b) (k : Below b.heap.size b c) : Below a.heap.size a c := h.trans (k.mono h.size)
theorem bdrew {a b : World} (h : Below a.heap.size a b) (n : Nat) : Below a.heap.size a (b.drewN n) := h.trans ⟨rfl, rfl, rfl, Nat.le_refl _, fun _ _ => rfl⟩
theorem bstepB {B : Nat} {a b c : World} (h : Below B a b) (k : Below B b c) : Below B a c := h.trans k
theorem bdrew1 (B : Nat) (w : World) : Below B w w.drew := ⟨rfl, rfl, rfl, Nat.le_refl _, fun _ _ => rfl⟩
theorem wrap_in {a : Int} (h : -9223372036854775808 ≤ a) (h' : a ≤ 9223372036854775807) : IntKind.i64.wrap a = a := by
  simp only [IntKind.wrap, IntKind.bits, IntKind.signed]
  simp
  omega
theorem set_other {w : World} {b i g : Nat} {v : Value} (h : g ≠ b) : (w.setCell ⟨b, i, none⟩ v).heap[g]? = w.heap[g]? := by
  simp [World.setCell, Array.getElem?_modify, Ne.symm h]
/-- block b holds these values, and may be written. -/
def Blk (w : World) (b : Nat) (vs : List Value) : Prop := b < w.heap.size ∧ ∀ i x, vs[i]? = some x → w.cell? ⟨b, i, none⟩ = some x ∧ w.frozen? ⟨b, i, none⟩ = false
theorem Blk.below {w w' : World} {b : Nat} {vs : List Value} (h : Blk w b vs) (k : Below w.heap.size w w') : Blk w' b vs :=
  ⟨Nat.lt_of_lt_of_le h.1 k.size, fun i x hx => ⟨(k.cell (p := ⟨b, i, none⟩) h.1).trans (h.2 i x hx).1, (k.frozen (p := ⟨b, i, none⟩) h.1).trans (h.2 i x hx).2⟩⟩
theorem Blk.belowB {w w' : World} {b B : Nat} {vs : List Value} (h : Blk w b vs) (hb : b < B) (k : Below B w w') : Blk w' b vs :=
  ⟨Nat.lt_of_lt_of_le h.1 k.size, fun i x hx => ⟨(k.cell (p := ⟨b, i, none⟩) hb).trans (h.2 i x hx).1, (k.frozen (p := ⟨b, i, none⟩) hb).trans (h.2 i x hx).2⟩⟩
theorem Blk.new (w : World) (vs : List Value) (t : TypeId) : Blk (w.alloc (.cells vs.toArray t)) w.heap.size vs :=
  ⟨by simp, fun i x hx => ⟨(World.cell?_alloc_mark w _ _ (0, 0) i).trans (by simpa using hx), frozen_of_row _ _ _ vs.toArray t (heap_alloc_new w _)⟩⟩
theorem Blk.new' (w : World) (vs : Array Value) (t : TypeId) : Blk (w.alloc (.cells vs t)) w.heap.size vs.toList := by
  have h := Blk.new w vs.toList t
  rwa [Array.toArray_toList] at h
theorem blk_set {w : World} {b : Nat} {vs : List Value} (h : Blk w b vs) (i : Nat) (x : Value) : Blk (w.setCell ⟨b, i, none⟩ x) b (vs.set i x) := by
  refine ⟨by simpa [World.setCell] using h.1, fun j y hy => ?_⟩
  by_cases c : j = i
  · subst c
    have hj : j < vs.length := by
      have := (List.getElem?_eq_some_iff.1 hy).1
      simpa using this
    rw [List.getElem?_set_self hj] at hy
    cases hy
    obtain ⟨h1, h2⟩ := h.2 j _ (List.getElem?_eq_getElem hj)
    exact ⟨World.cell?_setCell_same' _ _ _ (by rw [h1]; rfl), by rw [World.frozen?_setCell]; exact h2⟩
  · rw [List.getElem?_set_ne (Ne.symm c)] at hy
    obtain ⟨h1, h2⟩ := h.2 j y hy
    exact ⟨(World.cell?_setCell_other _ _ _ _ (fun q => c (by simpa using (congrArg Addr.off q).symm))).trans h1, by rw [World.frozen?_setCell]; exact h2⟩
theorem blk_other {w : World} {b : Nat} {vs : List Value} (h : Blk w b vs) {b' : Nat} (hb : b ≠ b') (i : Nat) (x : Value) : Blk (w.setCell ⟨b', i, none⟩ x) b vs := by
  refine ⟨by simpa [World.setCell] using h.1, fun j y hy => ?_⟩
  obtain ⟨h1, h2⟩ := h.2 j y hy
  exact ⟨(World.cell?_setCell_other _ _ _ _ (fun q => hb (by simpa using (congrArg Addr.block q).symm))).trans h1, by rw [World.frozen?_setCell]; exact h2⟩
theorem Blk.range {w : World} {b : Nat} {l : List Value} (h : Blk w b l) : w.rangeAt b 0 l := fun j v hj => by
  rw [Nat.zero_add]; exact (h.2 j v hj).1
theorem Blk.there {w : World} {b : Nat} {l : List Value} (h : Blk w b l) : w.there b 0 l.length := fun j hj => by
  have e := h.2 j _ (List.getElem?_eq_getElem hj)
  rw [Nat.zero_add]
  exact ⟨by rw [e.1]; rfl, e.2⟩
theorem size_over (b : Nat) : ∀ (vs : List Value) (o : Nat) (w : World), (w.setCells b o vs).heap.size = w.heap.size
  | [], _, _ => rfl
  | v :: vs, o, w => (size_over b vs (o + 1) _).trans (by simp)
theorem Blk.over {w : World} {b : Nat} {l : List Value} (h : Blk w b l) (vs : List Value) (hl : vs.length = l.length) : Blk (w.setCells b 0 vs) b vs :=
  ⟨by rw [size_over]; exact h.1, fun i x hx => by
    have hr := World.rangeAt_setCells_same w b 0 vs (by rw [hl]; exact h.there) i x hx
    have ht := h.there i (by rw [← hl]; exact (List.getElem?_eq_some_iff.1 hx).1)
    rw [Nat.zero_add] at hr ht
    exact ⟨hr, by rw [World.frozen?_setCells]; exact ht.2⟩⟩
theorem Blk.run {P : Program} {w : World} {b : Nat} {l : List Value} (h : Blk w b l) (vs : List Value) (hl : vs.length = l.length) (ho : ∀ v ∈ vs, v.oneCell' = true) : (storeCells ⟨b, 0, none⟩ vs).run P w = .ok () (w.setCells b 0 vs) := by
  have ht := h.there
  rw [← hl] at ht
  have h := run_storeCells_cells (P := P) b 0 vs 0 w (fun j hj => by simpa using (ht j hj).1) (fun j hj => by simpa using (ht j hj).2) ho
  simpa using h
theorem over_other {w : World} {b g : Nat} (vs : List Value) (hg : g ≠ b) (hs : g < w.heap.size) : (w.setCells b 0 vs).heap[g]? = w.heap[g]? := World.heap_setCells_other w b 0 vs hs hg
theorem below_over {a : World} {b : Nat} (hb : a.heap.size ≤ b) : ∀ (vs : List Value) (o : Nat) {w : World}, Below a.heap.size a w → Below a.heap.size a (w.setCells b o vs)
  | [], _, _, h => h
  | v :: vs, o, _, h => below_over hb vs (o + 1) (h.setCell (p := ⟨b, o, none⟩) hb v)
theorem blk_over {w : World} {b b' : Nat} {l : List Value} (h : Blk w b l) (hb : b ≠ b') (vs : List Value) : Blk (w.setCells b' 0 vs) b l :=
  ⟨by rw [size_over]; exact h.1, fun i x hx => ⟨by rw [World.cell?_setCells_out b' vs 0 w ⟨b, i, none⟩ (fun e _ => absurd e hb)]; exact (h.2 i x hx).1, by rw [World.frozen?_setCells]; exact (h.2 i x hx).2⟩⟩
theorem below_set {B : Nat} {w w' : World} (h : Below B w w') {b : Nat} (hb : B ≤ b) (i : Nat) (v : Value) : Below B w (w'.setCell ⟨b, i, none⟩ v) := h.setCell (p := ⟨b, i, none⟩) hb v
theorem bset {a b : World} (h : Below a.heap.size a b) (i : Nat) (v : Value) : Below a.heap.size a (b.setCell ⟨a.heap.size, i, none⟩ v) := h.setCell (p := ⟨a.heap.size, i, none⟩) (Nat.le_refl _) v
theorem load_mid_g {P : Program} {ops : Array Oper} {rest : List Oper} {op : Oper} {a : Act} {w : World} {Q : Exit → Act → World → Prop} (hw : Region.wanted op (yielded ops a.tmps) = true) (ty : TypeId) (x : Operand) (ho : op.op = .load ty x)
    (b o : Nat) (hx : a.eval x = .pointer (some ⟨b, o, none⟩)) (cs : List Value) (d : TypeDesc) (hc : w.rangeAt b o cs)
    (hu : P.underlying ty = some d) (hd : d.isRow = true) (hi : (P.info? ty).map (·.size) = some cs.length)
    (h : wpList P ops Q rest (a.put op.dst (.agg cs.toArray)) w) : wpList P ops Q (op :: rest) a w :=
  wpList_step fun K hK => by
    rw [if_pos hw]
    exact wp_load_mid ty x ho b o hx cs d hc hu hd hi (hK _ _ h)
theorem results_cell_mid {P : Program} {fn : Func} {p : Tmp} {ty : TypeId} (h : fn.results = #[.cell p ty]) (tmps : Array Value) (w : World) (b : Nat) (cs : List Value) (d : TypeDesc)
    (hp : tmps.getD p undef = .pointer (some ⟨b, 0, none⟩)) (hc : w.rangeAt b 0 cs)
    (hu : P.underlying ty = some d) (hd : d.isRow = true) (hi : (P.info? ty).map (·.size) = some cs.length) :
    (results fn tmps).run P w = .ok (.agg cs.toArray) w := by
  have hp' : tmps[p]?.getD undef = .pointer (some ⟨b, 0, none⟩) := by simpa using hp
  simp [results, h, hp', asAddr, run_loadVar_mid w b 0 ty cs d hc hu hd hi]
theorem results_cell_slot {P : Program} {fn : Func} {p q : Tmp} {ty : TypeId} (h : fn.results = #[.cell p ty, .tmp q]) (tmps : Array Value) (w : World) (b : Nat) (cs : List Value) (d : TypeDesc) (x : Value)
    (hp : tmps.getD p undef = .pointer (some ⟨b, 0, none⟩)) (hx : tmps.getD q undef = x) (hc : w.rangeAt b 0 cs)
    (hu : P.underlying ty = some d) (hd : d.isRow = true) (hi : (P.info? ty).map (·.size) = some cs.length) :
    (results fn tmps).run P w = .ok (.tuple #[.agg cs.toArray, x]) w := by
  have hp' : tmps[p]?.getD undef = .pointer (some ⟨b, 0, none⟩) := by simpa using hp
  have hx' : tmps[q]?.getD undef = x := by simpa using hx
  simp [results, h, hp', hx', asAddr, run_loadVar_mid w b 0 ty cs d hc hu hd hi]
theorem getD_snoc {α : Type} (l : List α) (x d : α) : (l ++ [x]).getD l.length d = x := by simp [List.getD_eq_getElem?_getD]
theorem getD_app {α : Type} (l k : List α) (d : α) {j : Nat} (h : j < l.length) : (l ++ k).getD j d = l.getD j d := by
  rw [List.getD_eq_getElem?_getD, List.getElem?_append_left h, ← List.getD_eq_getElem?_getD]
/-- w' is w but for the blocks of X, and for new ones. -/
structure Tu (X : Nat → Prop) (w w' : World) : Prop where
  os : w'.os = w.os
  tape : w'.tape = w.tape
  output : w'.output = w.output
  size : w.heap.size ≤ w'.heap.size
  block : ∀ k, k < w.heap.size → ¬ X k → w'.heap[k]? = w.heap[k]?
theorem Tu.rf (X : Nat → Prop) (w : World) : Tu X w w := ⟨rfl, rfl, rfl, Nat.le_refl _, fun _ _ _ => rfl⟩
theorem Tu.tr {X Y : Nat → Prop} {a b c : World} (h : Tu X a b) (k : Tu Y b c) (hY : ∀ i, i < a.heap.size → Y i → X i) : Tu X a c :=
  ⟨k.os.trans h.os, k.tape.trans h.tape, k.output.trans h.output, Nat.le_trans h.size k.size, fun i hi hx => (k.block i (Nat.lt_of_lt_of_le hi h.size) (fun q => hx (hY i hi q))).trans (h.block i hi hx)⟩
theorem tu_below {X : Nat → Prop} {w w' : World} (h : Below w.heap.size w w') : Tu X w w' := ⟨h.os, h.tape, h.output, h.size, fun k hk _ => h.block k hk⟩
theorem Tu.below {X : Nat → Prop} {w w' : World} {B : Nat} (h : Tu X w w') (hX : ∀ i, X i → B ≤ i) (hB : B ≤ w.heap.size) : Below B w w' :=
  ⟨h.os, h.tape, h.output, h.size, fun k hk => h.block k (by omega) (fun q => by have := hX k q; omega)⟩
theorem tu_set {X : Nat → Prop} {w : World} {b i : Nat} {v : Value} (hb : X b) : Tu X w (w.setCell ⟨b, i, none⟩ v) :=
  ⟨rfl, rfl, rfl, by simp, fun k hk hx => set_other (fun e => hx (e ▸ hb))⟩
theorem tu_sets {X : Nat → Prop} {b : Nat} (hb : X b) : ∀ (vs : List Value) (o : Nat) (w : World), Tu X w (w.setCells b o vs)
  | [], o, w => Tu.rf X w
  | v :: vs, o, w => (tu_set (i := o) (v := v) hb).tr (tu_sets hb vs (o + 1) _) (fun _ _ q => q)
/-- one block. -/
def Td (d : Nat) : Nat → Prop := fun k => k = d
theorem Tu.set {d : Nat} {a b : World} (h : Tu (Td d) a b) (i : Nat) (v : Value) : Tu (Td d) a (b.setCell ⟨d, i, none⟩ v) := h.tr (tu_set (X := Td d) rfl) (fun _ _ q => q)
theorem tu_alloc {X : Nat → Prop} (w : World) (o : Obj) : Tu X w (w.alloc o) := tu_below (balloc (brefl w) o)
theorem tu_drew {X : Nat → Prop} (w : World) (n : Nat) : Tu X w (w.drewN n) := tu_below (bdrew (brefl w) n)
theorem Tu.mono {X Y : Nat → Prop} {w w' : World} (h : Tu X w w') (hX : ∀ i, X i → Y i) : Tu Y w w' := ⟨h.os, h.tape, h.output, h.size, fun k hk q => h.block k hk (fun x => q (hX k x))⟩
theorem blk_keep {w w' : World} {b : Nat} {vs : List Value} (h : Blk w b vs) (e : w'.heap[b]? = w.heap[b]?) (hs : w.heap.size ≤ w'.heap.size) : Blk w' b vs :=
  ⟨Nat.lt_of_lt_of_le h.1 hs, fun i x hx => ⟨(World.cell?_of_block (a := ⟨b, i, none⟩) e).trans (h.2 i x hx).1, (World.frozen?_of_block (a := ⟨b, i, none⟩) e).trans (h.2 i x hx).2⟩⟩
theorem wpList_append_eqL {P : Program} {w : World} {ops : Array Oper} {rest : List Oper} {o : Oper} {a : Act} {Q : Exit → Act → World → Prop} (hgd : o.guard = none) (s x : Operand) (t : TypeId)
    (ho : o.op = .call { callee := .builtin .append, args := #[s, x], argTypes := #[t, t] }) (v xv v' : Value) (w' : World) (hs : a.eval s = v) (hx : a.eval x = xv)
    (hr : (Builtin.append_ #[t, t] o.type #[v, xv]).run P w = .ok v' w') (h : wpList P ops Q rest (a.put o.dst v') w') : wpList P ops Q (o :: rest) a w := by
  refine wpList_plain hgd fun K hK => ?_
  unfold Oper.wp execOp
  simp only [ho, resolve, invoke, builtin, Sem.run_bind, Sem.run_pure, Result.andThen_ok, List.map_toArray, List.map_cons, List.map_nil, hs, hx, hr]
  exact hK _ _ h
theorem info_time : (Try.prog.info? 37).map (fun i => (i.zero, i.size, i.bytes)) = some (some (.int .i64 0), 1, 8) := by kernel_rfl
theorem info_parts3L {i? : Option TypeInfo} {z : Value} {s b : Nat} (h : i?.map (fun i => (i.zero, i.size, i.bytes)) = some (some z, s, b)) : ∃ i, i? = some i ∧ i.zero = some z ∧ i.size = s ∧ i.bytes = b := by
  cases i? with
  | none => cases h
  | some i => simp at h; exact ⟨i, rfl, h.1, h.2.1, h.2.2⟩
def ct (l : List Int) : List Value := l.map (Value.int .i64)
theorem ct_app (l k : List Int) : ct (l ++ k) = ct l ++ ct k := by simp [ct]
theorem ct_one (l : List Int) : ∀ u ∈ ct l, u.oneCell' = true := by
  intro u hu
  obtain ⟨x, _, rfl⟩ := List.mem_map.1 hu
  rfl
theorem ct_at (L : List Int) (j : Nat) (x : Int) (h : L[j]? = some x) : (ct L)[j]? = some (.int .i64 x) := by simp [ct, h]
/-- v is a row of the call's own that holds these times. -/
def OwnT (w : World) (base : Nat) (v : Value) (l : List Int) : Prop := w.ownsRow base 37 1 v l.length (ct l)
theorem OwnT.nil (w : World) (base : Nat) : OwnT w base (.slice none 0 0) [] := World.ownsRow_nil w base _ 1
theorem OwnT.block {w : World} {base : Nat} {v : Value} {l : List Int} (h : OwnT w base v l) : ∀ k, v.ownBlock = some k → base ≤ k := by
  intro k hk
  rcases h.2 with ⟨rfl, _⟩ | ⟨g, cap, cur, rfl, hb, _⟩
  · simp [Value.ownBlock] at hk
  · simp [Value.ownBlock] at hk
    omega
theorem ownT_below {w w' : World} {base : Nat} {v : Value} {l : List Int} (h : OwnT w base v l) (k : Below w.heap.size w w') : OwnT w' base v l := by
  obtain ⟨h1, h2⟩ := h
  refine ⟨h1, ?_⟩
  rcases h2 with h2 | ⟨g, cap, cur, hv, hb, hh, h5⟩
  · exact .inl h2
  · exact .inr ⟨g, cap, cur, hv, hb, (k.block g (Array.getElem?_eq_some_iff.1 hh).1).trans hh, h5⟩
theorem OwnT.mono {w : World} {base base' : Nat} {v : Value} {l : List Int} (h : OwnT w base v l) (k : base' ≤ base) : OwnT w base' v l := by
  obtain ⟨h1, h2⟩ := h
  refine ⟨h1, ?_⟩
  rcases h2 with h2 | ⟨g, cap, cur, hv, hb, h5⟩
  · exact .inl h2
  · exact .inr ⟨g, cap, cur, hv, Nat.le_trans k hb, h5⟩
/-- v is a slice, and its cells hold these times. -/
def Ts (w : World) (v : Value) (L : List Int) : Prop :=
  ∃ a cap, v = .slice a L.length cap ∧ L.length ≤ cap ∧ cap ≤ 9223372036854775807 ∧ (0 < L.length → ∃ b off, a = some ⟨b, off, none⟩ ∧ b < w.heap.size ∧ ∀ j x, L[j]? = some x → w.cell? ⟨b, off + j, none⟩ = some (.int .i64 x))
theorem Ts.below {w w' : World} {v : Value} {L : List Int} (h : Ts w v L) (q : Below w.heap.size w w') : Ts w' v L := by
  obtain ⟨a, cap, e, h1, h2, h3⟩ := h
  exact ⟨a, cap, e, h1, h2, fun hn => by obtain ⟨b, off, ea, hb, B⟩ := h3 hn; exact ⟨b, off, ea, Nat.lt_of_lt_of_le hb q.size, fun j x hj => (q.cell (p := ⟨b, _, none⟩) hb).trans (B j x hj)⟩⟩
theorem OwnT.ts {w : World} {base : Nat} {v : Value} {L : List Int} (h : OwnT w base v L) : Ts w v L := by
  obtain ⟨h1, h2⟩ := h
  rcases h2 with ⟨rfl, h0⟩ | ⟨g, cap, cur, rfl, hb, hh, hc, hm, hs, ht⟩
  · exact ⟨none, 0, by rw [h0], by omega, by omega, fun hn => by omega⟩
  · refine ⟨_, cap, rfl, hc, by unfold maxLen at hm; omega, fun hn => ⟨g, 0, rfl, (Array.getElem?_eq_some_iff.1 hh).1, fun j x hj => ?_⟩⟩
    have hl : j < L.length := (List.getElem?_eq_some_iff.1 hj).1
    have := ct_at L j x hj
    rw [← ht, List.getElem?_take_of_lt (by omega)] at this
    simp only [Array.getElem?_toList] at this
    simp [World.cell?, hh, this]
theorem appT {w : World} {base : Nat} {va : Value} {la : List Int} (hI : OwnT w base va la) (x : Int) (hb : base ≤ w.heap.size) (hn : (la.length + 1) * 8 ≤ 140737488355328) (ty : TypeId) :
    ∃ v' w', (Builtin.append_ #[59, 59] ty #[va, .slice (some ⟨w.heap.size, 0, none⟩) 1 1]).run Try.prog (w.alloc (.cells #[.int .i64 x] 37)) = .ok v' w' ∧ OwnT w' base v' (la ++ [x]) ∧ Below base w w' ∧ w.heap.size ≤ w'.heap.size := by
  obtain ⟨i, hi, hz, hs, hby⟩ := info_parts3L info_time
  obtain ⟨v', w', hr, ho, hg, _, _⟩ := run_append_own_at (P := Try.prog) (w.alloc (.cells #[.int .i64 x] 37)) base 59 ty 37 i (.int .i64 0) 1 8 Try.underlying59 hi hz hs hby rfl (by decide) va la.length (ct la) (World.ownsRow.alloc hI _) ⟨w.heap.size, 0, none⟩ 1 1 (ct [x]) rfl
    (by intro j u hj; cases j with | zero => (simp [ct] at hj; subst hj; simp [Addr.add, go_sem]) | succ j => simp [ct] at hj) (ct_one _) (by unfold maxLen; omega) (by omega) (by simp; omega)
  have hB : Below base w (w.alloc (.cells #[.int .i64 x] 37)) := (Below.refl base w).alloc hb _
  have hB2 := hB.grown hg (by simp; omega) hI.block
  refine ⟨v', w', hr, ?_, hB2, hB2.size⟩
  unfold OwnT
  rw [ct_app, List.length_append]
  exact ho
end Go.Proofs.Ytdngoopogajhiaa.Fl
