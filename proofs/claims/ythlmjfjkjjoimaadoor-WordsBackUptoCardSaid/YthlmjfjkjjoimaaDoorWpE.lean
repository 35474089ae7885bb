/-
  A line's words, character by character: the contracts of the cutter's methods.
-/
import Derived.Test.YthlmjfjkjjoimaaDoorWpP
import Derived.Test.YthlmjfjkjjoimaaDoorWdR
namespace Go.Proofs.YthlmjfjkjjoimaaDoor.Wd
open Go.ChangeShapes Go.WideShapes Go.ChangeAt Go.RowKit Go.Joins By
set_option linter.unusedVariables false
set_option linter.unusedSimpArgs false

/-- how far a line is cut: where, the words, the word that is being cut, its text. -/
structure CS where
  wh : Nat
  ws : List W3
  wd : W3
  tx : ByteArray
def emp : ByteArray := ⟨#[]⟩
def cs0 : CS := ⟨0, [], ⟨emp, 0, false⟩, emp⟩
def CS.fin (S : CS) : CS := ⟨S.wh, S.ws ++ [⟨S.tx, S.wd.c, S.wd.q⟩], ⟨S.tx, S.wd.c, S.wd.q⟩, emp⟩
def CS.to (S : CS) (n : Nat) : CS := ⟨n, S.ws, S.wd, S.tx⟩
def CS.add (S : CS) (t : ByteArray) : CS := ⟨S.wh, S.ws, S.wd, S.tx ++ t⟩
def CS.beg (S : CS) (k : Nat) (q : Bool) : CS := ⟨S.wh, S.ws, ⟨emp, k, q⟩, S.tx⟩
/-- one character on. -/
def stp (t : ByteArray) (k : Nat) (S : CS) : Option CS :=
  match S.wh with
  | 0 => some (if bl1 t = true then S else if t.toList = [35] then (S.beg k false).to 5 else if t.toList = [34] then (S.beg k true).to 2 else ((S.beg k false).add t).to 1)
  | 1 => if t.toList = [34] then none else some (if bl1 t = true then S.fin.to 0 else S.add t)
  | 2 => some (if t.toList = [92] then S.to 3 else if t.toList = [34] then S.fin.to 4 else S.add t)
  | 3 => some ((S.add t).to 2)
  | 4 => if bl1 t = true then some (S.to 0) else none
  | _ => some S

/-- the cutter in memory. -/
def cuA (S : CS) (vw ad vb : Value) : Array Value := #[.int .i64 (S.wh : Int), vw, .string S.wd.t, .int .i64 S.wd.c, .bool S.wd.q, ad, vb]
structure Cu (w : World) (B b : Nat) (S : CS) : Prop where
  le : B ≤ b
  st : ∃ vw ad vb, Fb w b 5 49 (cuA S vw ad vb) ∧ OwnR w B vw S.ws ∧ Own w B vb (bn S.tx) ∧ (bn S.tx = [] → vb = .slice none 0 0)
/-- what a method may change. -/
structure Fr (B : Nat) (w w' : World) : Prop where
  below : Below B w w'
  iter : ∀ (k : Nat) (s : ByteArray) (p : Nat), w.heap[k]? = some (.stringIter s p) → w'.heap[k]? = some (.stringIter s p)
theorem Fr.refl (B : Nat) (w : World) : Fr B w w := ⟨Below.refl _ _, fun _ _ _ h => h⟩
theorem Fr.trans {B : Nat} {x y z : World} (h : Fr B x y) (k : Fr B y z) : Fr B x z := ⟨h.below.trans k.below, fun i s p e => k.iter i s p (h.iter i s p e)⟩
theorem Wrote.fr {B b : Nat} {w w' : World} {c : Array Value} {T : TypeId} {fz : Nat × Nat} (h : Wrote B b w w') (hb : w.heap[b]? = some (.cells c T fz)) : Fr B w w' :=
  ⟨h.below, fun k s p e => h.others.iter e (fun kb => by subst kb; rw [e] at hb; cases hb)⟩
theorem word_ne : (39 : TypeId) ≠ 5 := by decide
theorem cut_ne : (49 : TypeId) ≠ 5 := by decide
theorem cut_ne2 : (49 : TypeId) ≠ 39 := by decide
set_option maxRecDepth 100000 in
theorem lies_cut : liesAt Tryd.prog Tryd.prog.depth 49 (7 / Tryd.prog.cellsOf 49) 5 47 1 = true := by kernel_rfl
theorem ownR_kind {w : World} {base : Nat} {v : Value} {l : List W3} (h : OwnR w base v l) : ∀ g, v.ownBlock = some g → ∃ c, w.heap[g]? = some (.cells c 39 (0, 0)) := by
  intro g hg
  rcases h.2 with ⟨rfl, _⟩ | ⟨g', cap, cur, rfl, _, hgg, _⟩
  · simp [Value.ownBlock] at hg
  · simp [Value.ownBlock] at hg
    subst hg
    exact ⟨cur, hgg⟩
theorem ownR_keep {w w' : World} {base : Nat} {v : Value} {l : List W3} (h : OwnR w base v l) (hk : ∀ g, v.ownBlock = some g → w'.heap[g]? = w.heap[g]?) : OwnR w' base v l := by
  refine ⟨h.1, h.2.imp id ?_⟩
  rintro ⟨g, cap, cur, hv, hg, hh, r⟩
  exact ⟨g, cap, cur, hv, hg, (hk g (by rw [hv]; rfl)).trans hh, r⟩
theorem ownR_wrote {w w' : World} {B b base : Nat} {v : Value} {l : List W3} (h : OwnR w base v l) (W : Wrote B b w w') {c : Array Value} {T : TypeId} {fz : Nat × Nat} (hb : w.heap[b]? = some (.cells c T fz)) (hT : T ≠ 39) : OwnR w' base v l := by
  refine ownR_keep h fun g hg => ?_
  obtain ⟨c', h'⟩ := ownR_kind h g hg
  rw [h']
  refine W.others g _ h' ?_ ?_
  · intro e
    cases e
    rw [h'] at hb
    simp only [Option.some.injEq, Obj.cells.injEq] at hb
    exact hT hb.2.1.symm
  · intro c2 fz2 e
    simp only [Obj.cells.injEq] at e
    exact word_ne e.2.1

theorem Cu.write {w : World} {B b : Nat} {S : CS} (h : Cu w B b S) {r : Nat} {t : ByteArray} (c : Ch r t) (hn : S.tx.size + 4 ≤ 140737488355328) :
    Calls Tryd.prog 30 #[.pointer (some ⟨b, 5, none⟩), .int .i32 r] w fun e w' => (∃ n, e = .returned (.tuple #[.int .i64 n, .nilIface])) ∧ Cu w' B b (S.add t) ∧ Fr B w w' := by
  obtain ⟨hB, vw, ad, vb, F, ow, ob, hz⟩ := h
  have le := c.le
  refine (WriteRune_c F hB (v := vb) rfl ob (by rw [bn_len]; exact hn) r (by omega) (by omega)).mono ?_
  rintro e w' ⟨he, v', F', own', W⟩
  refine ⟨he, ⟨hB, vw, pt b 5, v', F', ownR_wrote ow W F.heap cut_ne2, ?_, ?_⟩, W.fr F.heap⟩
  · show Own w' B v' (bn (S.tx ++ t))
    rw [bn_app, ← c.rb]
    exact own'
  · intro h0
    exfalso
    have h1 : bn (S.tx ++ t) = [] := h0
    rw [bn_app, ← c.rb] at h1
    have h2 := congrArg List.length h1
    rw [List.length_append, rb_len] at h2
    have := Lib.runeCells_le (r : Int)
    rw [List.length_nil] at h2
    omega
/-- a store into the cutter's first field. -/
theorem Cu.set {w : World} {B b : Nat} {S : CS} (h : Cu w B b S) (n : Nat) : Cu (w.setCell ⟨b, 0, none⟩ (.int .i64 (n : Int))) B b (S.to n) ∧ Fr B w (w.setCell ⟨b, 0, none⟩ (.int .i64 (n : Int))) := by
  obtain ⟨hB, vw, ad, vb, F, ow, ob, hz⟩ := h
  have W := (Wrote.refl B b w).set hB 0 (.int .i64 (n : Int))
  refine ⟨⟨hB, vw, ad, vb, ⟨heap_set F.heap 0 _, F.kind, F.room, F.lies, F.addr⟩, ownR_wrote ow W F.heap cut_ne2, own_set ob (own_ne ob F.heap F.kind) _ _, hz⟩, W.fr F.heap⟩
theorem Cu.begin {w : World} {B b : Nat} {S : CS} (h : Cu w B b S) (k : Nat) (q : Bool) :
    Cu (((w.setCell ⟨b, 2, none⟩ (.string emp)).setCell ⟨b, 3, none⟩ (.int .i64 (k : Int))).setCell ⟨b, 4, none⟩ (.bool q)) B b (S.beg k q) ∧ Fr B w (((w.setCell ⟨b, 2, none⟩ (.string emp)).setCell ⟨b, 3, none⟩ (.int .i64 (k : Int))).setCell ⟨b, 4, none⟩ (.bool q)) := by
  obtain ⟨hB, vw, ad, vb, F, ow, ob, hz⟩ := h
  have W := (((Wrote.refl B b w).set hB 2 (.string emp)).set hB 3 (.int .i64 (k : Int))).set hB 4 (.bool q)
  have ne := own_ne ob F.heap F.kind
  refine ⟨⟨hB, vw, ad, vb, ⟨heap_set (heap_set (heap_set F.heap 2 _) 3 _) 4 _, F.kind, F.room, F.lies, F.addr⟩, ownR_wrote ow W F.heap cut_ne2, own_set (own_set (own_set ob ne _ _) ne _ _) ne _ _, hz⟩, W.fr F.heap⟩
theorem Cu.cells {w : World} {B b : Nat} {S : CS} (h : Cu w B b S) : ∃ vw ad vb, w.cell? ⟨b, 0, none⟩ = some (.int .i64 (S.wh : Int)) ∧ w.cell? ⟨b, 1, none⟩ = some vw ∧ w.cell? ⟨b, 2, none⟩ = some (.string S.wd.t) ∧ w.cell? ⟨b, 3, none⟩ = some (.int .i64 S.wd.c) ∧ w.cell? ⟨b, 4, none⟩ = some (.bool S.wd.q) ∧ w.cell? ⟨b, 5, none⟩ = some ad ∧ w.cell? ⟨b, 6, none⟩ = some vb ∧ (∀ i, w.frozen? ⟨b, i, none⟩ = false) := by
  obtain ⟨hB, vw, ad, vb, F, ow, ob, hz⟩ := h
  exact ⟨vw, ad, vb, F.cell 0, F.cell 1, F.cell 2, F.cell 3, F.cell 4, F.cell 5, F.cell 6, F.cold⟩
theorem Cu.new (w : World) (B : Nat) (hB : B ≤ w.heap.size) : Cu (w.alloc (.cells #[.int .i64 0, .slice none 0 0, .string ⟨#[]⟩, .int .i64 0, .bool false, .pointer none, .slice none 0 0] 49)) B w.heap.size cs0 :=
  ⟨hB, .slice none 0 0, .pointer none, .slice none 0 0, ⟨heap_alloc_new w _, cut_ne, by decide, lies_cut, .inl rfl⟩, OwnR.nil _ _, Own.nil _ _, fun _ => rfl⟩
end Go.Proofs.YthlmjfjkjjoimaaDoor.Wd
