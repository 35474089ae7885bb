/-
  Bytes, blocks and rows in memory, in general.
  Conditions: none.
-/
import Derived.Test.YteigmnbbfmcihaaByB
import Derived.Deep.MidRow
import Derived.Deep.CutRange
import Derived.IntWalk
import Derived.Deep.Upon
import Derived.SizedLaws
import Derived.Lib.SmallJoins
namespace Go.Proofs.Yteigmnbbfmcihaa.Ct
open Go.RowKit Go.ChangeShapes Go.WideShapes Go.ChangeAt Go.Joins By
set_option linter.unusedVariables false
set_option linter.unusedSimpArgs false

/-- n in w bytes, the highest first. -/
def pt (n : Nat) : Nat → List Nat
  | 0 => []
  | w + 1 => n / 256 ^ w % 256 :: pt n w
theorem pt_len (n : Nat) : ∀ w, (pt n w).length = w
  | 0 => rfl
  | w + 1 => by rw [pt, List.length_cons, pt_len n w]
theorem pt_byte (n : Nat) : ∀ w, ∀ x ∈ pt n w, x < 256
  | 0, x, h => by cases h
  | w + 1, x, h => by
    rw [pt] at h
    rcases List.mem_cons.1 h with rfl | h
    · omega
    · exact pt_byte n w x h
/-- from a on, f spells l. -/
def Sp (f : Nat → Nat) (a : Nat) (l : List Nat) : Prop := ∀ i, i < l.length → f (a + i) = l.getD i 0
theorem Sp.left {f : Nat → Nat} {a : Nat} {l k : List Nat} (h : Sp f a (l ++ k)) : Sp f a l := fun i hi => by
  rw [h i (by rw [List.length_append]; omega), List.getD_eq_getElem?_getD, List.getElem?_append_left hi, ← List.getD_eq_getElem?_getD]
theorem Sp.right {f : Nat → Nat} {a : Nat} {l k : List Nat} (h : Sp f a (l ++ k)) : Sp f (a + l.length) k := fun i hi => by
  rw [Nat.add_assoc, h (l.length + i) (by rw [List.length_append]; omega), List.getD_eq_getElem?_getD, List.getElem?_append_right (by omega), Nat.add_sub_cancel_left, ← List.getD_eq_getElem?_getD]
theorem Sp.bl {f : Nat → Nat} {a : Nat} {l : List Nat} (h : Sp f a l) : By.bl (fun i => f (a + i)) l.length = l := by
  rw [← bl_getD l, bl_len]
  exact bl_congr fun i hi => h i hi
theorem sp_self (l : List Nat) : Sp (fun i => l.getD i 0) 0 l := fun i _ => by rw [Nat.zero_add]
/-- block b holds these values, and may be written. -/
def Blk (w : World) (b : Nat) (vs : List Value) : Prop := b < w.heap.size ∧ ∀ i x, vs[i]? = some x → w.cell? ⟨b, i, none⟩ = some x ∧ w.frozen? ⟨b, i, none⟩ = false
theorem Blk.below {w w' : World} {b : Nat} {vs : List Value} (h : Blk w b vs) (k : Below w.heap.size w w') : Blk w' b vs :=
  ⟨Nat.lt_of_lt_of_le h.1 k.size, fun i x hx => ⟨(k.cell (p := ⟨b, i, none⟩) h.1).trans (h.2 i x hx).1, (k.frozen (p := ⟨b, i, none⟩) h.1).trans (h.2 i x hx).2⟩⟩
theorem Blk.belowB {w w' : World} {b B : Nat} {vs : List Value} (h : Blk w b vs) (hb : b < B) (k : Below B w w') : Blk w' b vs :=
  ⟨Nat.lt_of_lt_of_le h.1 k.size, fun i x hx => ⟨(k.cell (p := ⟨b, i, none⟩) hb).trans (h.2 i x hx).1, (k.frozen (p := ⟨b, i, none⟩) hb).trans (h.2 i x hx).2⟩⟩
theorem Blk.new (w : World) (vs : List Value) (t : TypeId) : Blk (w.alloc (.cells vs.toArray t)) w.heap.size vs :=
  ⟨by simp, fun i x hx => ⟨(World.cell?_alloc_mark w _ _ (0, 0) i).trans (by simpa using hx), frozen_of_row _ _ _ vs.toArray t (heap_alloc_new w _)⟩⟩
theorem Blk.new' (w : World) (vs : Array Value) (t : TypeId) : Blk (w.alloc (.cells vs t)) w.heap.size vs.toList := by
  have h := Blk.new w vs.toList t
  rwa [Array.toArray_toList] at h
/-- the value v reads as the bytes l. -/
def Sl (w : World) (v : Value) (l : List Nat) : Prop := l.length ≤ 140737488351232 ∧ (∀ x ∈ l, x < 256) ∧ Sb w v l.length (fun i => l.getD i 0)
theorem Sl.below {w w' : World} {v : Value} {l : List Nat} (h : Sl w v l) (k : Below w.heap.size w w') : Sl w' v l := ⟨h.1, h.2.1, h.2.2.below k⟩
theorem Sl.form {w : World} {v : Value} {l : List Nat} (h : Sl w v l) : ∃ a cap, v = .slice a l.length cap := h.2.2.form
theorem Sl.conv {w0 w : World} {v : Value} {l : List Nat} (h : Sl w0 v l) (k : Below w0.heap.size w0 w) : (convert 22 9 v).run Try.prog w = .ok (.string (bs8 l)) w := by
  have := h.2.2.conv k
  rwa [bl_getD] at this
theorem Sl.app {w0 w : World} {va : Value} {k : List Nat} (A : Sl w0 va k) (q : Below w0.heap.size w0 w) {base : Nat} {v : Value} {l : List Nat} (h : Own w base v l) (hb : base ≤ w.heap.size) (hn : l.length + k.length ≤ 140737488355328) (ty : TypeId) :
    ∃ v' w', (Builtin.append_ #[22, 22] ty #[v, va]).run Try.prog w = .ok v' w' ∧ Own w' base v' (l ++ k) ∧ Below base w w' ∧ w.heap.size ≤ w'.heap.size ∧ (v ≠ .slice none 0 0 → v' ≠ .slice none 0 0) := by
  have := A.2.2.app q h hb hn ty
  rwa [bl_getD] at this
theorem sb_sl {w : World} {v : Value} {n : Nat} {f : Nat → Nat} (h : Sb w v n f) (hn : n ≤ 140737488351232) : Sl w v (bl f n) := by
  obtain ⟨a, cap, e, h1, h2, h3, h4, h5⟩ := h
  refine ⟨by rw [bl_len]; exact hn, bl_byte fun i _ => h3 i, a, cap, by rw [bl_len]; exact e, by rw [bl_len]; exact h1, h2, getD_byte (bl_byte fun i _ => h3 i), fun q => ?_, h5⟩
  rw [bl_len] at q
  obtain ⟨b, off, ea, B⟩ := h4 q
  refine ⟨b, off, ea, B.1, getD_byte (bl_byte fun i _ => h3 i), fun i hi => ?_⟩
  rw [bl_len] at hi
  rw [B.2.2 i hi]
  simp [bl, List.getD_eq_getElem?_getD, hi]
theorem out_sl {w : World} {base : Nat} {v : Value} {l : List Nat} (h : Out w base v l) (hn : l.length ≤ 140737488351232) : Sl w v l := ⟨hn, h.byte, h.sb⟩
theorem nil_sl (w : World) : Sl w (.slice none 0 0) [] := ⟨by simp, fun x h => (by cases h), none, 0, rfl, Nat.le_refl _, by omega, fun _ => by simp, fun h => absurd h (by simp), fun _ => rfl⟩
/-- from v in w to v' in w' nothing was turned but v's own block; v's own block is the old one or new. -/
def Gr (w : World) (v : Value) (w' : World) (v' : Value) : Prop := w.heap.size ≤ w'.heap.size ∧ (∀ k, k < w.heap.size → v.ownBlock ≠ some k → w'.heap[k]? = w.heap[k]?) ∧ ∀ k, v'.ownBlock = some k → v.ownBlock = some k ∨ w.heap.size ≤ k
theorem Gr.rf (w : World) (v : Value) : Gr w v w v := ⟨Nat.le_refl _, fun _ _ _ => rfl, fun _ h => .inl h⟩
theorem Gr.tr {w w1 w2 : World} {v v1 v2 : Value} (h : Gr w v w1 v1) (k : Gr w1 v1 w2 v2) : Gr w v w2 v2 := by
  refine ⟨Nat.le_trans h.1 k.1, fun i hi hv => (k.2.1 i (Nat.lt_of_lt_of_le hi h.1) (fun e => ?_)).trans (h.2.1 i hi hv), fun i hi => ?_⟩
  · rcases h.2.2 i e with e | e
    · exact hv e
    · omega
  · rcases k.2.2 i hi with e | e
    · exact h.2.2 i e
    · exact .inr (Nat.le_trans h.1 e)
theorem Gr.below {w w1 w2 : World} {v v1 : Value} (h : Gr w v w1 v1) (k : Below w1.heap.size w1 w2) : Gr w v w2 v1 :=
  ⟨Nat.le_trans h.1 k.size, fun i hi hv => (k.block i (Nat.lt_of_lt_of_le hi h.1)).trans (h.2.1 i hi hv), h.2.2⟩
theorem Gr.ahead {w w1 w2 : World} {v v2 : Value} (k : Below w.heap.size w w1) (h : Gr w1 v w2 v2) : Gr w v w2 v2 :=
  ⟨Nat.le_trans k.size h.1, fun i hi hv => (h.2.1 i (Nat.lt_of_lt_of_le hi k.size) hv).trans (k.block i hi), fun i hi => (h.2.2 i hi).imp id (fun e => Nat.le_trans k.size e)⟩
/-- a block that is not the own one stays. -/
theorem Gr.blk {w w' : World} {v v' : Value} (h : Gr w v w' v') {b : Nat} {vs : List Value} (B : Blk w b vs) (hv : v.ownBlock ≠ some b) : Blk w' b vs := by
  have e := h.2.1 b B.1 hv
  refine ⟨Nat.lt_of_lt_of_le B.1 h.1, fun i x hx => ?_⟩
  obtain ⟨h1, h2⟩ := B.2 i x hx
  unfold World.cell? World.frozen? at *
  rw [e]
  exact ⟨h1, h2⟩
theorem Gr.not {w w' : World} {v v' : Value} (h : Gr w v w' v') {b : Nat} (hb : b < w.heap.size) (hv : v.ownBlock ≠ some b) : v'.ownBlock ≠ some b := fun e => by
  rcases h.2.2 b e with e | e
  · exact hv e
  · omega
theorem gr_of {w w' : World} {v v' : Value} (hg : w.grownBy w' v.ownBlock) (ho : v'.ownBlock = v.ownBlock ∨ v'.ownBlock = some w.heap.size) : Gr w v w' v' :=
  ⟨hg.size, fun k hk hv => hg.block k hk (fun e => hv e.symm), fun k hk => by
    rcases ho with e | e
    · exact .inl (e ▸ hk)
    · rw [e] at hk
      cases hk
      exact .inr (Nat.le_refl _)⟩
theorem app1g {w : World} {base : Nat} {v : Value} {l : List Nat} (h : Own w base v l) (x : Nat) (hb : base ≤ w.heap.size) (hn : l.length + 1 ≤ 140737488355328) (ty : TypeId) :
    ∃ v' w', (Builtin.append_ #[22, 22] ty #[v, .slice (some ⟨w.heap.size, 0, none⟩) 1 1]).run Try.prog (w.alloc (.cells #[.int .u8 (x : Int)] 5)) = .ok v' w' ∧ Own w' base v' (l ++ [x]) ∧ Below base w w' ∧ Gr w v w' v' := by
  obtain ⟨i, hi, hz, hs, hby⟩ := info_parts info_u8
  obtain ⟨v', w', hr, ho, hg, _, hob⟩ := run_append_own_at (P := Try.prog) (w.alloc (.cells #[.int .u8 (x : Int)] 5)) base 22 ty 5 i (.int .u8 0) 1 1 Try.underlying22 hi hz hs hby rfl (by decide) v l.length (cl l) (World.ownsRow.alloc h _) ⟨w.heap.size, 0, none⟩ 1 1 (cl [x]) rfl
    (by intro j u hj; cases j with | zero => (simp [cl] at hj; subst hj; simp [Addr.add, go_sem]) | succ j => simp [cl] at hj) (cl_one _) (by unfold maxLen; omega) (by omega) (by simp; omega)
  have hB : Below base w (w.alloc (.cells #[.int .u8 (x : Int)] 5)) := (Below.refl base w).alloc hb _
  have hB2 := hB.grown hg (by simp; omega) h.block
  refine ⟨v', w', hr, ?_, hB2, (gr_of hg hob).ahead (balloc (brefl w) _)⟩
  unfold Own
  rw [cl_app, List.length_append]
  exact ho
theorem appLg {w : World} {base : Nat} {v : Value} {l : List Nat} (h : Own w base v l) (k : List Nat) (hk : 0 < k.length) (hb : base ≤ w.heap.size) (hn : l.length + k.length ≤ 140737488355328) (ty : TypeId) :
    ∃ v' w', (Builtin.append_ #[22, 22] ty #[v, .slice (some ⟨w.heap.size, 0, none⟩) k.length k.length]).run Try.prog (w.alloc (.cells (cl k).toArray 5)) = .ok v' w' ∧ Own w' base v' (l ++ k) ∧ Below base w w' ∧ Gr w v w' v' := by
  obtain ⟨i, hi, hz, hs, hby⟩ := info_parts info_u8
  obtain ⟨v', w', hr, ho, hg, _, hob⟩ := run_append_own_at (P := Try.prog) (w.alloc (.cells (cl k).toArray 5)) base 22 ty 5 i (.int .u8 0) 1 1 Try.underlying22 hi hz hs hby rfl (by decide) v l.length (cl l) (World.ownsRow.alloc h _) ⟨w.heap.size, 0, none⟩ k.length k.length (cl k) (by rw [cl_len]; omega)
    (by
      intro j u hj
      have e : (⟨w.heap.size, 0, none⟩ : Addr).add j = ⟨w.heap.size, j, none⟩ := by unfold Addr.add; split <;> simp_all
      rw [e, World.cell?_alloc_mark w _ _ (0, 0) j]
      simpa using hj) (cl_one _) (by unfold maxLen; omega) (by omega) (by simp; omega)
  have hB : Below base w (w.alloc (.cells (cl k).toArray 5)) := (Below.refl base w).alloc hb _
  have hB2 := hB.grown hg (by simp; omega) h.block
  refine ⟨v', w', hr, ?_, hB2, (gr_of hg hob).ahead (balloc (brefl w) _)⟩
  unfold Own
  rw [cl_app, List.length_append]
  exact ho
/-- append of bytes that lie in memory. -/
theorem Sl.appg {w0 w : World} {va : Value} {k : List Nat} (A : Sl w0 va k) (q : Below w0.heap.size w0 w) {base : Nat} {v : Value} {l : List Nat} (h : Own w base v l) (hb : base ≤ w.heap.size) (hn : l.length + k.length ≤ 140737488355328) (ty : TypeId) :
    ∃ v' w', (Builtin.append_ #[22, 22] ty #[v, va]).run Try.prog w = .ok v' w' ∧ Own w' base v' (l ++ k) ∧ Below base w w' ∧ Gr w v w' v' := by
  obtain ⟨i, hi, hz, hs, hby⟩ := info_parts info_u8
  obtain ⟨h0, h8, a, cap, rfl, h1, h2, h3, h4, h5⟩ := A
  cases a with
  | none =>
    obtain rfl := h5 rfl
    obtain rfl : k = [] := List.length_eq_zero_iff.1 (by omega)
    exact ⟨v, w, run_append_owned_none (P := Try.prog) w base 22 ty 5 i 1 Try.underlying22 hi v l.length (cl l) h, by simpa using h, Below.refl _ _, Gr.rf _ _⟩
  | some ad =>
    obtain ⟨v', w', hr, ho, hg, hnil, hob⟩ := run_append_own_at (P := Try.prog) w base 22 ty 5 i (.int .u8 0) 1 1 Try.underlying22 hi hz hs hby rfl (by decide) v l.length (cl l) h ad k.length cap (cl k) (by rw [cl_len]; omega)
      (by
        intro j u hj
        have hj' : j < k.length := by have := (List.getElem?_eq_some_iff.1 hj).1; rw [cl_len] at this; exact this
        obtain ⟨b, off, ea, B⟩ := h4 (by omega)
        cases ea
        have e := (B.below q).2.2 j hj'
        have : u = .int .u8 ((k.getD j 0 : Nat) : Int) := by simpa [cl, List.getD_eq_getElem?_getD, hj'] using hj.symm
        rw [this]
        cases j <;> simpa [Addr.add] using e) (cl_one _) (by unfold maxLen; omega) (by omega) hb
    have hB2 := (Below.refl base w).grown hg hb h.block
    refine ⟨v', w', hr, ?_, hB2, gr_of hg hob⟩
    unfold Own
    rw [cl_app, List.length_append]
    exact ho
theorem own_below {w w' : World} {base : Nat} {v : Value} {l : List Nat} (h : Own w base v l) (k : Below w.heap.size w w') : Own w' base v l := by
  refine ⟨h.1, ?_⟩
  rcases h.2 with ⟨h0, h1⟩ | ⟨g, cap, cur, hv, hb, hh, hc, hm, hcs, ht⟩
  · exact .inl ⟨h0, h1⟩
  · exact .inr ⟨g, cap, cur, hv, hb, (k.block g (Array.getElem?_eq_some_iff.1 hh).1).trans hh, hc, hm, hcs, ht⟩
/-- an own slice's block lies in the heap. -/
theorem own_lt {w : World} {base : Nat} {v : Value} {l : List Nat} (h : Own w base v l) {k : Nat} (e : v.ownBlock = some k) : k < w.heap.size := by
  rcases h.2 with ⟨h0, h1⟩ | ⟨g, cap, cur, hv, hb, hh, hc, hm, hcs, ht⟩
  · rw [h0] at e; cases e
  · rw [hv] at e
    simp only [Value.ownBlock] at e
    cases e
    exact (Array.getElem?_eq_some_iff.1 hh).1
theorem row_keep {w w' : World} {base e s : Nat} {v : Value} {n : Nat} {xs : List Value} (h : w.ownsRow base e s v n xs) (hk : ∀ g, v.ownBlock = some g → w'.heap[g]? = w.heap[g]?) : w'.ownsRow base e s v n xs := by
  refine ⟨h.1, h.2.imp id ?_⟩
  rintro ⟨g, cap, cur, hv, hg, hh, r⟩
  exact ⟨g, cap, cur, hv, hg, (hk g (by rw [hv]; rfl)).trans hh, r⟩
theorem row_kind {w : World} {base e s : Nat} {v : Value} {n : Nat} {xs : List Value} (h : w.ownsRow base e s v n xs) : ∀ g, v.ownBlock = some g → ∃ c, w.heap[g]? = some (.cells c e (0, 0)) := by
  intro g hg
  rcases h.2 with ⟨rfl, _⟩ | ⟨g', cap, cur, rfl, _, hgg, _⟩
  · simp [Value.ownBlock] at hg
  · simp [Value.ownBlock] at hg
    subst hg
    exact ⟨cur, hgg⟩
theorem row_gr {w w' : World} {base e s : Nat} {v u u' : Value} {n : Nat} {xs : List Value} (h : w.ownsRow base e s v n xs) (G : Gr w u w' u') (ne : ∀ g, v.ownBlock = some g → u.ownBlock ≠ some g) : w'.ownsRow base e s v n xs :=
  row_keep h fun g hg => G.2.1 g (h.lt g hg).2 (ne g hg)
theorem row_below {w w' : World} {base e s : Nat} {v : Value} {n : Nat} {xs : List Value} (h : w.ownsRow base e s v n xs) (k : Below w.heap.size w w') : w'.ownsRow base e s v n xs :=
  row_keep h fun g hg => k.block g (h.lt g hg).2
theorem row_le {w : World} {base base' e s : Nat} {v : Value} {n : Nat} {xs : List Value} (h : w.ownsRow base e s v n xs) (hb : base' ≤ base) : w.ownsRow base' e s v n xs := by
  refine ⟨h.1, h.2.imp id ?_⟩
  rintro ⟨g, cap, cur, hv, hg, r⟩
  exact ⟨g, cap, cur, hv, Nat.le_trans hb hg, r⟩
theorem set_other {w : World} {b i g : Nat} {v : Value} (h : g ≠ b) : (w.setCell ⟨b, i, none⟩ v).heap[g]? = w.heap[g]? := by
  simp [World.setCell, Array.getElem?_modify, Ne.symm h]
theorem row_set {w : World} {base e s : Nat} {v : Value} {n : Nat} {xs : List Value} (h : w.ownsRow base e s v n xs) {b : Nat} (hb : v.ownBlock ≠ some b) (i : Nat) (x : Value) : (w.setCell ⟨b, i, none⟩ x).ownsRow base e s v n xs :=
  row_keep h fun g hg => set_other (fun q => hb (q ▸ hg))
theorem Gr.set {w w' : World} {v v' : Value} (h : Gr w v w' v') {b i : Nat} {x : Value} (hb : w.heap.size ≤ b) : Gr w v (w'.setCell ⟨b, i, none⟩ x) v' :=
  ⟨by simpa [World.setCell] using h.1, fun k hk hv => (set_other (by omega)).trans (h.2.1 k hk hv), h.2.2⟩
theorem blk_set {w : World} {b : Nat} {vs : List Value} (h : Blk w b vs) (i : Nat) (x : Value) : Blk (w.setCell ⟨b, i, none⟩ x) b (vs.set i x) := by
  refine ⟨by simpa [World.setCell] using h.1, fun j y hy => ?_⟩
  by_cases c : j = i
  · subst c
    have hj : j < vs.length := by
      have := (List.getElem?_eq_some_iff.1 hy).1
      simpa using this
    rw [List.getElem?_set_self hj] at hy
    cases hy
    obtain ⟨h1, h2⟩ := h.2 j _ (List.getElem?_eq_getElem hj)
    exact ⟨World.cell?_setCell_same' _ _ _ (by rw [h1]; rfl), by rw [World.frozen?_setCell]; exact h2⟩
  · rw [List.getElem?_set_ne (Ne.symm c)] at hy
    obtain ⟨h1, h2⟩ := h.2 j y hy
    exact ⟨(World.cell?_setCell_other _ _ _ _ (fun q => c (by simpa using (congrArg Addr.off q).symm))).trans h1, by rw [World.frozen?_setCell]; exact h2⟩
theorem blk_other {w : World} {b : Nat} {vs : List Value} (h : Blk w b vs) {b' : Nat} (hb : b ≠ b') (i : Nat) (x : Value) : Blk (w.setCell ⟨b', i, none⟩ x) b vs := by
  refine ⟨by simpa [World.setCell] using h.1, fun j y hy => ?_⟩
  obtain ⟨h1, h2⟩ := h.2 j y hy
  exact ⟨(World.cell?_setCell_other _ _ _ _ (fun q => hb (by simpa using (congrArg Addr.block q).symm))).trans h1, by rw [World.frozen?_setCell]; exact h2⟩
theorem info3 {i? : Option TypeInfo} {z : Value} {s b : Nat} (h : i?.map (fun i => (i.zero, i.size, i.bytes)) = some (some z, s, b)) : ∃ i, i? = some i ∧ i.zero = some z ∧ i.size = s ∧ i.bytes = b := by
  cases i? with
  | none => cases h
  | some i => simp at h; exact ⟨i, rfl, h.1, h.2.1, h.2.2⟩
theorem getD_snoc {α : Type} (l : List α) (x d : α) : (l ++ [x]).getD l.length d = x := by simp [List.getD_eq_getElem?_getD]
theorem getD_app {α : Type} (l k : List α) (d : α) {j : Nat} (h : j < l.length) : (l ++ k).getD j d = l.getD j d := by
  rw [List.getD_eq_getElem?_getD, List.getElem?_append_left h, ← List.getD_eq_getElem?_getD]
theorem own_form {w : World} {base : Nat} {v : Value} {l : List Nat} (h : By.Own w base v l) : ∃ a cap, v = .slice a l.length cap := by
  rcases h.2 with ⟨hv, h0⟩ | ⟨g, cap, cur, hv, _⟩
  · exact ⟨none, 0, by rw [hv, h0]⟩
  · exact ⟨_, cap, hv⟩
theorem Blk.range {w : World} {b : Nat} {l : List Value} (h : Blk w b l) : w.rangeAt b 0 l := fun j v hj => by
  rw [Nat.zero_add]; exact (h.2 j v hj).1
theorem Blk.there {w : World} {b : Nat} {l : List Value} (h : Blk w b l) : w.there b 0 l.length := fun j hj => by
  have e := h.2 j _ (List.getElem?_eq_getElem hj)
  rw [Nat.zero_add]
  exact ⟨by rw [e.1]; rfl, e.2⟩
theorem size_over (b : Nat) : ∀ (vs : List Value) (o : Nat) (w : World), (w.setCells b o vs).heap.size = w.heap.size
  | [], _, _ => rfl
  | v :: vs, o, w => (size_over b vs (o + 1) _).trans (by simp)
theorem Blk.over {w : World} {b : Nat} {l : List Value} (h : Blk w b l) (vs : List Value) (hl : vs.length = l.length) : Blk (w.setCells b 0 vs) b vs :=
  ⟨by rw [size_over]; exact h.1, fun i x hx => by
    have hr := World.rangeAt_setCells_same w b 0 vs (by rw [hl]; exact h.there) i x hx
    have ht := h.there i (by rw [← hl]; exact (List.getElem?_eq_some_iff.1 hx).1)
    rw [Nat.zero_add] at hr ht
    exact ⟨hr, by rw [World.frozen?_setCells]; exact ht.2⟩⟩
theorem Blk.run {P : Program} {w : World} {b : Nat} {l : List Value} (h : Blk w b l) (vs : List Value) (hl : vs.length = l.length) (ho : ∀ v ∈ vs, v.oneCell' = true) : (storeCells ⟨b, 0, none⟩ vs).run P w = .ok () (w.setCells b 0 vs) := by
  have ht := h.there
  rw [← hl] at ht
  have h := run_storeCells_cells (P := P) b 0 vs 0 w (fun j hj => by simpa using (ht j hj).1) (fun j hj => by simpa using (ht j hj).2) ho
  simpa using h
theorem over_other {w : World} {b g : Nat} (vs : List Value) (hg : g ≠ b) (hs : g < w.heap.size) : (w.setCells b 0 vs).heap[g]? = w.heap[g]? := World.heap_setCells_other w b 0 vs hs hg
theorem row_over {w : World} {base e s : Nat} {v : Value} {n : Nat} {xs : List Value} (h : w.ownsRow base e s v n xs) {b : Nat} (hb : b < base) (vs : List Value) : (w.setCells b 0 vs).ownsRow base e s v n xs :=
  row_keep h fun g hg => over_other vs (by have := (h.lt g hg).1; omega) (h.lt g hg).2
theorem below_over {a : World} {b : Nat} (hb : a.heap.size ≤ b) : ∀ (vs : List Value) (o : Nat) {w : World}, Below a.heap.size a w → Below a.heap.size a (w.setCells b o vs)
  | [], _, _, h => h
  | v :: vs, o, _, h => below_over hb vs (o + 1) (h.setCell (p := ⟨b, o, none⟩) hb v)
theorem results_cell_slot {P : Program} {fn : Func} {p q : Tmp} {ty : TypeId} (h : fn.results = #[.cell p ty, .tmp q]) (tmps : Array Value) (w : World) (b : Nat) (cs : List Value) (d : TypeDesc) (x : Value)
    (hp : tmps.getD p undef = .pointer (some ⟨b, 0, none⟩)) (hx : tmps.getD q undef = x) (hc : w.rangeAt b 0 cs)
    (hu : P.underlying ty = some d) (hd : d.isRow = true) (hi : (P.info? ty).map (·.size) = some cs.length) :
    (results fn tmps).run P w = .ok (.tuple #[.agg cs.toArray, x]) w := by
  have hp' : tmps[p]?.getD undef = .pointer (some ⟨b, 0, none⟩) := by simpa using hp
  have hx' : tmps[q]?.getD undef = x := by simpa using hx
  simp [results, h, hp', hx', asAddr, run_loadVar_mid w b 0 ty cs d hc hu hd hi]
theorem results_cell_slots {P : Program} {fn : Func} {p q r : Tmp} {ty : TypeId} (h : fn.results = #[.cell p ty, .tmp q, .tmp r]) (tmps : Array Value) (w : World) (b : Nat) (cs : List Value) (d : TypeDesc) (x y : Value)
    (hp : tmps.getD p undef = .pointer (some ⟨b, 0, none⟩)) (hx : tmps.getD q undef = x) (hy : tmps.getD r undef = y) (hc : w.rangeAt b 0 cs)
    (hu : P.underlying ty = some d) (hd : d.isRow = true) (hi : (P.info? ty).map (·.size) = some cs.length) :
    (results fn tmps).run P w = .ok (.tuple #[.agg cs.toArray, x, y]) w := by
  have hp' : tmps[p]?.getD undef = .pointer (some ⟨b, 0, none⟩) := by simpa using hp
  have hx' : tmps[q]?.getD undef = x := by simpa using hx
  have hy' : tmps[r]?.getD undef = y := by simpa using hy
  simp [results, h, hp', hx', hy', asAddr, run_loadVar_mid w b 0 ty cs d hc hu hd hi]
def upd (g : Nat → Nat) (k x : Nat) : Nat → Nat := fun i => if i = k then x else g i
theorem upd_lt {g : Nat → Nat} {k x : Nat} (h : ∀ i, g i < 256) (hx : x < 256) : ∀ i, upd g k x i < 256 := fun i => by
  unfold upd; split
  · exact hx
  · exact h i
theorem upd_ne {g : Nat → Nat} {k x i : Nat} (h : i ≠ k) : upd g k x i = g i := if_neg h
theorem upd_eq {g : Nat → Nat} {k x : Nat} : upd g k x k = x := if_pos rfl
theorem wr_set {w : World} {b o n : Nat} {g : Nat → Nat} (h : Wr w b o n g) (k x : Nat) (hk : k < n) (hx : x < 256) : Wr (w.setCell ⟨b, o + k, none⟩ (.int .u8 (x : Int))) b o n (upd g k x) := by
  refine ⟨by simpa [World.setCell] using h.1, fun i hi => ?_, fun i hi => ?_⟩
  · unfold upd; split
    · exact hx
    · exact h.2.1 i hi
  · refine ⟨?_, by rw [World.frozen?_setCell]; exact (h.2.2 i hi).2⟩
    unfold upd
    by_cases e : i = k
    · subst e
      rw [World.cell?_setCell_same _ _ _ (h.2.2 i hi).1, if_pos rfl]
    · rw [World.cell?_setCell_other _ _ _ _ (fun q => e (by simp at q <;> omega)), if_neg e]
      exact (h.2.2 i hi).1
theorem wr_set0 {w : World} {b n : Nat} {g : Nat → Nat} (h : Wr w b 0 n g) (k x : Nat) (hk : k < n) (hx : x < 256) : Wr (w.setCell ⟨b, k, none⟩ (.int .u8 (x : Int))) b 0 n (upd g k x) := by
  have := wr_set h k x hk hx
  rwa [Nat.zero_add] at this
theorem wr_at {w : World} {b n : Nat} {g : Nat → Nat} (h : Wr w b 0 n g) {i : Nat} (hi : i < n) : w.cell? ⟨b, i, none⟩ = some (.int .u8 (g i)) ∧ w.frozen? ⟨b, i, none⟩ = false := by
  have := h.2.2 i hi
  rwa [Nat.zero_add] at this
theorem wr_other {w : World} {b o n : Nat} {g : Nat → Nat} (h : Wr w b o n g) {b' : Nat} (hb : b ≠ b') (i : Nat) (v : Value) : Wr (w.setCell ⟨b', i, none⟩ v) b o n g :=
  ⟨by simpa [World.setCell] using h.1, h.2.1, fun j hj => ⟨(World.cell?_setCell_other _ _ _ _ (fun q => hb (by simpa using (congrArg Addr.block q).symm))).trans (h.2.2 j hj).1, by rw [World.frozen?_setCell]; exact (h.2.2 j hj).2⟩⟩
theorem wr_sb {w : World} {b n cap : Nat} {g : Nat → Nat} (h : Wr w b 0 n g) (hg : ∀ i, g i < 256) (hc : n ≤ cap) (hc2 : cap ≤ 9223372036854775807) : Sb w (.slice (some ⟨b, 0, none⟩) n cap) n g :=
  ⟨_, cap, rfl, hc, hc2, hg, fun _ => ⟨b, 0, rfl, ay_bs h hg⟩, fun e => by cases e⟩
/-- a slice of the call's own that is not nil, to be written. -/
theorem own_wr {w : World} {base : Nat} {v : Value} {f : Nat → Nat} {n : Nat} (h : By.Own w base v (bl f n)) (hv : v ≠ .slice none 0 0) (hf : ∀ i, f i < 256) : ∃ g cap, v = .slice (some ⟨g, 0, none⟩) n cap ∧ base ≤ g ∧ Wr w g 0 n f ∧ n ≤ cap ∧ cap ≤ 9223372036854775807 := by
  rcases h.2 with ⟨h0, _⟩ | ⟨g, cap, cur, e, hb, hh, hc, hm, hcs, ht⟩
  · exact absurd h0 hv
  · rw [bl_len] at e hc ht
    refine ⟨g, cap, e, hb, ⟨(Array.getElem?_eq_some_iff.1 hh).1, fun i _ => hf i, fun i hi => ?_⟩, hc, by unfold maxLen at hm; omega⟩
    rw [cell_of_row w g (0 + i) cur _ (0, 0) hh]
    refine ⟨?_, frozen_of_row w g _ cur _ hh⟩
    have e2 : (cl (bl f n))[i]? = some (.int .u8 ((f i : Nat) : Int)) := by simp [cl, bl, hi]
    rw [← ht, Nat.mul_one, List.getElem?_take, if_pos hi] at e2
    rw [Nat.zero_add]
    simpa using e2
theorem below_set {B : Nat} {w w' : World} (h : Below B w w') {b : Nat} (hb : B ≤ b) (i : Nat) (v : Value) : Below B w (w'.setCell ⟨b, i, none⟩ v) := h.setCell (p := ⟨b, i, none⟩) hb v
theorem sb_front {w : World} {p : Option Addr} {n c : Nat} {f : Nat → Nat} (h : Sb w (.slice p n c) n f) {a : Nat} (ha : a ≤ n) : Sb w (.slice p a c) a f := by
  obtain ⟨a', cap, e, h1, h2, h3, h4, h5⟩ := h
  cases e
  exact ⟨p, c, rfl, by omega, h2, h3, fun q => by obtain ⟨b, off, ea, B⟩ := h4 (by omega); exact ⟨b, off, ea, by have := B.part 0 a (by omega); simpa using this⟩, h5⟩
theorem load_mid_g {P : Program} {ops : Array Oper} {rest : List Oper} {op : Oper} {a : Act} {w : World} {Q : Exit → Act → World → Prop} (hw : Region.wanted op (yielded ops a.tmps) = true) (ty : TypeId) (x : Operand) (ho : op.op = .load ty x)
    (b o : Nat) (hx : a.eval x = .pointer (some ⟨b, o, none⟩)) (cs : List Value) (d : TypeDesc) (hc : w.rangeAt b o cs)
    (hu : P.underlying ty = some d) (hd : d.isRow = true) (hi : (P.info? ty).map (·.size) = some cs.length)
    (h : wpList P ops Q rest (a.put op.dst (.agg cs.toArray)) w) : wpList P ops Q (op :: rest) a w :=
  wpList_step fun K hK => by
    rw [if_pos hw]
    exact wp_load_mid ty x ho b o hx cs d hc hu hd hi (hK _ _ h)
theorem results_cell_mid {P : Program} {fn : Func} {p : Tmp} {ty : TypeId} (h : fn.results = #[.cell p ty]) (tmps : Array Value) (w : World) (b : Nat) (cs : List Value) (d : TypeDesc)
    (hp : tmps.getD p undef = .pointer (some ⟨b, 0, none⟩)) (hc : w.rangeAt b 0 cs)
    (hu : P.underlying ty = some d) (hd : d.isRow = true) (hi : (P.info? ty).map (·.size) = some cs.length) :
    (results fn tmps).run P w = .ok (.agg cs.toArray) w := by
  have hp' : tmps[p]?.getD undef = .pointer (some ⟨b, 0, none⟩) := by simpa using hp
  simp [results, h, hp', asAddr, run_loadVar_mid w b 0 ty cs d hc hu hd hi]
theorem blk_over {w : World} {b b' : Nat} {l : List Value} (h : Blk w b l) (hb : b ≠ b') (vs : List Value) : Blk (w.setCells b' 0 vs) b l :=
  ⟨by rw [size_over]; exact h.1, fun i x hx => ⟨by rw [World.cell?_setCells_out b' vs 0 w ⟨b, i, none⟩ (fun e _ => absurd e hb)]; exact (h.2 i x hx).1, by rw [World.frozen?_setCells]; exact (h.2 i x hx).2⟩⟩
theorem bset {a b : World} (h : Below a.heap.size a b) (i : Nat) (v : Value) : Below a.heap.size a (b.setCell ⟨a.heap.size, i, none⟩ v) := h.setCell (p := ⟨a.heap.size, i, none⟩) (Nat.le_refl _) v
theorem bs_le {w : World} {b o n m : Nat} {f : Nat → Nat} (h : Bs w b o n f) (hm : m ≤ n) : Bs w b o m f := ⟨h.1, h.2.1, fun i hi => h.2.2 i (by omega)⟩
end Go.Proofs.Yteigmnbbfmcihaa.Ct
