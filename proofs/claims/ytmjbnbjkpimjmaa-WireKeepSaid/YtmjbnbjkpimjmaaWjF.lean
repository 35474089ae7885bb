/-
  A block that is written whole; results of a block and a number.
  Conditions: none.
-/
import Derived.Test.YtmjbnbjkpimjmaaWjE
import Derived.Deep.MidRow
import Derived.Deep.Upon
namespace Go.Proofs.Ytmjbnbjkpimjmaa.Wi
open Go.RowKit Go.ChangeShapes Go.WideShapes Go.ChangeAt Go.Joins By
set_option linter.unusedVariables false
set_option linter.unusedSimpArgs false

theorem Blk.range {w : World} {b : Nat} {l : List Value} (h : Blk w b l) : w.rangeAt b 0 l := fun j v hj => by
  rw [Nat.zero_add]; exact (h.2 j v hj).1
theorem Blk.there {w : World} {b : Nat} {l : List Value} (h : Blk w b l) : w.there b 0 l.length := fun j hj => by
  have e := h.2 j _ (List.getElem?_eq_getElem hj)
  rw [Nat.zero_add]
  exact ⟨by rw [e.1]; rfl, e.2⟩
theorem size_over (b : Nat) : ∀ (vs : List Value) (o : Nat) (w : World), (w.setCells b o vs).heap.size = w.heap.size
  | [], _, _ => rfl
  | v :: vs, o, w => (size_over b vs (o + 1) _).trans (by simp)
theorem Blk.over {w : World} {b : Nat} {l : List Value} (h : Blk w b l) (vs : List Value) (hl : vs.length = l.length) : Blk (w.setCells b 0 vs) b vs :=
  ⟨by rw [size_over]; exact h.1, fun i x hx => by
    have hr := World.rangeAt_setCells_same w b 0 vs (by rw [hl]; exact h.there) i x hx
    have ht := h.there i (by rw [← hl]; exact (List.getElem?_eq_some_iff.1 hx).1)
    rw [Nat.zero_add] at hr ht
    exact ⟨hr, by rw [World.frozen?_setCells]; exact ht.2⟩⟩
theorem Blk.run {P : Program} {w : World} {b : Nat} {l : List Value} (h : Blk w b l) (vs : List Value) (hl : vs.length = l.length) (ho : ∀ v ∈ vs, v.oneCell' = true) : (storeCells ⟨b, 0, none⟩ vs).run P w = .ok () (w.setCells b 0 vs) := by
  have ht := h.there
  rw [← hl] at ht
  have h := run_storeCells_cells (P := P) b 0 vs 0 w (fun j hj => by simpa using (ht j hj).1) (fun j hj => by simpa using (ht j hj).2) ho
  simpa using h
theorem over_other {w : World} {b g : Nat} (vs : List Value) (hg : g ≠ b) (hs : g < w.heap.size) : (w.setCells b 0 vs).heap[g]? = w.heap[g]? := World.heap_setCells_other w b 0 vs hs hg
theorem Rowd.over {w : World} {base : Nat} {fv : Value} {row : List (Int × Value)} {L : List Fd} (h : Rowd w base fv row L) {b : Nat} (hb : b < base) (vs : List Value) : Rowd (w.setCells b 0 vs) base fv row L := h.keep fun g hg hs => over_other vs (by omega) hs
theorem row_over {w : World} {base e s : Nat} {v : Value} {n : Nat} {xs : List Value} (h : w.ownsRow base e s v n xs) {b : Nat} (hb : b < base) (vs : List Value) : (w.setCells b 0 vs).ownsRow base e s v n xs :=
  row_keep h fun g hg => over_other vs (by have := (h.lt g hg).1; omega) (h.lt g hg).2
theorem below_over {a : World} {b : Nat} (hb : a.heap.size ≤ b) : ∀ (vs : List Value) (o : Nat) {w : World}, Below a.heap.size a w → Below a.heap.size a (w.setCells b o vs)
  | [], _, _, h => h
  | v :: vs, o, _, h => below_over hb vs (o + 1) (h.setCell (p := ⟨b, o, none⟩) hb v)
theorem results_cell_slot {P : Program} {fn : Func} {p q : Tmp} {ty : TypeId} (h : fn.results = #[.cell p ty, .tmp q]) (tmps : Array Value) (w : World) (b : Nat) (cs : List Value) (d : TypeDesc) (x : Value)
    (hp : tmps.getD p undef = .pointer (some ⟨b, 0, none⟩)) (hx : tmps.getD q undef = x) (hc : w.rangeAt b 0 cs)
    (hu : P.underlying ty = some d) (hd : d.isRow = true) (hi : (P.info? ty).map (·.size) = some cs.length) :
    (results fn tmps).run P w = .ok (.tuple #[.agg cs.toArray, x]) w := by
  have hp' : tmps[p]?.getD undef = .pointer (some ⟨b, 0, none⟩) := by simpa using hp
  have hx' : tmps[q]?.getD undef = x := by simpa using hx
  simp [results, h, hp', hx', asAddr, run_loadVar_mid w b 0 ty cs d hc hu hd hi]
theorem results_cell_slots {P : Program} {fn : Func} {p q r : Tmp} {ty : TypeId} (h : fn.results = #[.cell p ty, .tmp q, .tmp r]) (tmps : Array Value) (w : World) (b : Nat) (cs : List Value) (d : TypeDesc) (x y : Value)
    (hp : tmps.getD p undef = .pointer (some ⟨b, 0, none⟩)) (hx : tmps.getD q undef = x) (hy : tmps.getD r undef = y) (hc : w.rangeAt b 0 cs)
    (hu : P.underlying ty = some d) (hd : d.isRow = true) (hi : (P.info? ty).map (·.size) = some cs.length) :
    (results fn tmps).run P w = .ok (.tuple #[.agg cs.toArray, x, y]) w := by
  have hp' : tmps[p]?.getD undef = .pointer (some ⟨b, 0, none⟩) := by simpa using hp
  have hx' : tmps[q]?.getD undef = x := by simpa using hx
  have hy' : tmps[r]?.getD undef = y := by simpa using hy
  simp [results, h, hp', hx', hy', asAddr, run_loadVar_mid w b 0 ty cs d hc hu hd hi]
/-- a packet's values in order. -/
def pvs (p : Pk) (fv dv : Value) : List Value := [.int .i64 p.leap, .int .i64 p.ver, .int .i64 p.mode, .int .i64 p.strat, .int .i64 p.poll, .int .i64 p.prec, .int .u32 (p.rd : Nat), .int .u32 (p.rs : Nat), .int .u32 (p.rid : Nat), .int .u64 (p.tref : Nat), .int .u64 (p.torg : Nat), .int .u64 (p.trec : Nat), .int .u64 (p.txm : Nat), fv, .int .i64 p.auth, .int .u32 (p.key : Nat), dv]
theorem pvs_len (p : Pk) (fv dv : Value) : (pvs p fv dv).length = 17 := rfl
theorem pvs_one (p : Pk) (fv dv : Value) (hf : fv.oneCell' = true) (hd : dv.oneCell' = true) : ∀ v ∈ pvs p fv dv, v.oneCell' = true := by
  intro v hv
  simp only [pvs, List.mem_cons, List.not_mem_nil, or_false] at hv
  rcases hv with rfl | rfl | rfl | rfl | rfl | rfl | rfl | rfl | rfl | rfl | rfl | rfl | rfl | rfl | rfl | rfl | rfl <;> first | rfl | assumption
theorem info_pk : (Try.prog.info? 30).map (·.size) = some 17 := by kernel_rfl
end Go.Proofs.Ytmjbnbjkpimjmaa.Wi
