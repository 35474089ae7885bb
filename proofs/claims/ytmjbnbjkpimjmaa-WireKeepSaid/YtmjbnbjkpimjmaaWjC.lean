/-
  Rows of the call's own: of slices of bytes, of fields; what stays while another row grows.
  Conditions: none.
-/
import Derived.Test.YtmjbnbjkpimjmaaWjB
namespace Go.Proofs.Ytmjbnbjkpimjmaa.Wi
open Go.RowKit Go.ChangeShapes Go.WideShapes Go.ChangeAt Go.Joins By
set_option linter.unusedVariables false
set_option linter.unusedSimpArgs false

theorem row_keep {w w' : World} {base e s : Nat} {v : Value} {n : Nat} {xs : List Value} (h : w.ownsRow base e s v n xs) (hk : ∀ g, v.ownBlock = some g → w'.heap[g]? = w.heap[g]?) : w'.ownsRow base e s v n xs := by
  refine ⟨h.1, h.2.imp id ?_⟩
  rintro ⟨g, cap, cur, hv, hg, hh, r⟩
  exact ⟨g, cap, cur, hv, hg, (hk g (by rw [hv]; rfl)).trans hh, r⟩
theorem row_kind {w : World} {base e s : Nat} {v : Value} {n : Nat} {xs : List Value} (h : w.ownsRow base e s v n xs) : ∀ g, v.ownBlock = some g → ∃ c, w.heap[g]? = some (.cells c e (0, 0)) := by
  intro g hg
  rcases h.2 with ⟨rfl, _⟩ | ⟨g', cap, cur, rfl, _, hgg, _⟩
  · simp [Value.ownBlock] at hg
  · simp [Value.ownBlock] at hg
    subst hg
    exact ⟨cur, hgg⟩
theorem row_gr {w w' : World} {base e s : Nat} {v u u' : Value} {n : Nat} {xs : List Value} (h : w.ownsRow base e s v n xs) (G : Gr w u w' u') (ne : ∀ g, v.ownBlock = some g → u.ownBlock ≠ some g) : w'.ownsRow base e s v n xs :=
  row_keep h fun g hg => G.2.1 g (h.lt g hg).2 (ne g hg)
theorem row_below {w w' : World} {base e s : Nat} {v : Value} {n : Nat} {xs : List Value} (h : w.ownsRow base e s v n xs) (k : Below w.heap.size w w') : w'.ownsRow base e s v n xs :=
  row_keep h fun g hg => k.block g (h.lt g hg).2
theorem rows_ne {w : World} {base base' e e' s s' : Nat} {v v' : Value} {n n' : Nat} {xs xs' : List Value} (h : w.ownsRow base e s v n xs) (h' : w.ownsRow base' e' s' v' n' xs') (ne : e ≠ e') : ∀ g, v.ownBlock = some g → v'.ownBlock ≠ some g := by
  intro g hg hg'
  obtain ⟨c, hc⟩ := row_kind h g hg
  obtain ⟨c', hc'⟩ := row_kind h' g hg'
  rw [hc] at hc'
  simp only [Option.some.injEq, Obj.cells.injEq] at hc'
  exact ne hc'.2.1
theorem row_le {w : World} {base base' e s : Nat} {v : Value} {n : Nat} {xs : List Value} (h : w.ownsRow base e s v n xs) (hb : base' ≤ base) : w.ownsRow base' e s v n xs := by
  refine ⟨h.1, h.2.imp id ?_⟩
  rintro ⟨g, cap, cur, hv, hg, r⟩
  exact ⟨g, cap, cur, hv, Nat.le_trans hb hg, r⟩
theorem set_other {w : World} {b i g : Nat} {v : Value} (h : g ≠ b) : (w.setCell ⟨b, i, none⟩ v).heap[g]? = w.heap[g]? := by
  simp [World.setCell, Array.getElem?_modify, Ne.symm h]
theorem row_set {w : World} {base e s : Nat} {v : Value} {n : Nat} {xs : List Value} (h : w.ownsRow base e s v n xs) {b : Nat} (hb : v.ownBlock ≠ some b) (i : Nat) (x : Value) : (w.setCell ⟨b, i, none⟩ x).ownsRow base e s v n xs :=
  row_keep h fun g hg => set_other (fun q => hb (q ▸ hg))
theorem Gr.set {w w' : World} {v v' : Value} (h : Gr w v w' v') {b i : Nat} {x : Value} (hb : w.heap.size ≤ b) : Gr w v (w'.setCell ⟨b, i, none⟩ x) v' :=
  ⟨by simpa [World.setCell] using h.1, fun k hk hv => (set_other (by omega)).trans (h.2.1 k hk hv), h.2.2⟩
theorem blk_set {w : World} {b : Nat} {vs : List Value} (h : Blk w b vs) (i : Nat) (x : Value) : Blk (w.setCell ⟨b, i, none⟩ x) b (vs.set i x) := by
  refine ⟨by simpa [World.setCell] using h.1, fun j y hy => ?_⟩
  by_cases c : j = i
  · subst c
    have hj : j < vs.length := by
      have := (List.getElem?_eq_some_iff.1 hy).1
      simpa using this
    rw [List.getElem?_set_self hj] at hy
    cases hy
    obtain ⟨h1, h2⟩ := h.2 j _ (List.getElem?_eq_getElem hj)
    exact ⟨World.cell?_setCell_same' _ _ _ (by rw [h1]; rfl), by rw [World.frozen?_setCell]; exact h2⟩
  · rw [List.getElem?_set_ne (Ne.symm c)] at hy
    obtain ⟨h1, h2⟩ := h.2 j y hy
    exact ⟨(World.cell?_setCell_other _ _ _ _ (fun q => c (by simpa using (congrArg Addr.off q).symm))).trans h1, by rw [World.frozen?_setCell]; exact h2⟩
theorem blk_other {w : World} {b : Nat} {vs : List Value} (h : Blk w b vs) {b' : Nat} (hb : b ≠ b') (i : Nat) (x : Value) : Blk (w.setCell ⟨b', i, none⟩ x) b vs := by
  refine ⟨by simpa [World.setCell] using h.1, fun j y hy => ?_⟩
  obtain ⟨h1, h2⟩ := h.2 j y hy
  exact ⟨(World.cell?_setCell_other _ _ _ _ (fun q => hb (by simpa using (congrArg Addr.block q).symm))).trans h1, by rw [World.frozen?_setCell]; exact h2⟩

theorem info3 {i? : Option TypeInfo} {z : Value} {s b : Nat} (h : i?.map (fun i => (i.zero, i.size, i.bytes)) = some (some z, s, b)) : ∃ i, i? = some i ∧ i.zero = some z ∧ i.size = s ∧ i.bytes = b := by
  cases i? with
  | none => cases h
  | some i => simp at h; exact ⟨i, rfl, h.1, h.2.1, h.2.2⟩
theorem info_bs : (Try.prog.info? 28).map (fun i => (i.zero, i.size, i.bytes)) = some (some (.slice none 0 0), 1, 24) := by kernel_rfl
theorem info_fd : (Try.prog.info? 51).map (fun i => (i.zero, i.size, i.bytes)) = some (some (.agg #[.int .i64 0, .slice none 0 0]), 2, 32) := by kernel_rfl
/-- a row of slices of bytes. -/
def OwnP (w : World) (base : Nat) (v : Value) (l : List Value) : Prop := w.ownsRow base 28 1 v l.length l ∧ ∀ u ∈ l, u.oneCell' = true
theorem OwnP.nil (w : World) (base : Nat) : OwnP w base (.slice none 0 0) [] := ⟨World.ownsRow_nil w base _ 1, fun u h => (by cases h)⟩
theorem appP {w : World} {base : Nat} {v : Value} {l : List Value} (h : OwnP w base v l) (x : Value) (hx : x.oneCell' = true) (hb : base ≤ w.heap.size) (hn : (l.length + 1) * 24 ≤ 140737488355328) (ty : TypeId) :
    ∃ v' w', (Builtin.append_ #[61, 61] ty #[v, .slice (some ⟨w.heap.size, 0, none⟩) 1 1]).run Try.prog (w.alloc (.cells #[x] 28)) = .ok v' w' ∧ OwnP w' base v' (l ++ [x]) ∧ Below base w w' ∧ Gr w v w' v' := by
  obtain ⟨i, hi, hz, hs, hby⟩ := info3 info_bs
  obtain ⟨v', w', hr, ho, hg, _, hob⟩ := run_append_own_at (P := Try.prog) (w.alloc (.cells #[x] 28)) base 61 ty 28 i (.slice none 0 0) 1 24 Try.underlying61 hi hz hs hby rfl (by decide) v l.length l (World.ownsRow.alloc h.1 _) ⟨w.heap.size, 0, none⟩ 1 1 [x] rfl
    (by intro j u hj; cases j with | zero => (simp at hj; subst hj; simp [Addr.add, go_sem]) | succ j => simp at hj) (fun u hu => by rw [List.mem_singleton.1 hu]; exact hx) (by unfold maxLen; omega) (by omega) (by simp; omega)
  have hB : Below base w (w.alloc (.cells #[x] 28)) := (Below.refl base w).alloc hb _
  have hB2 := hB.grown hg (by simp; omega) (fun k hk => (h.1.lt k hk).1)
  refine ⟨v', w', hr, ⟨?_, fun u hu => ?_⟩, hB2, (gr_of hg hob).ahead (balloc (brefl w) _)⟩
  · rw [List.length_append]
    exact ho
  · rcases List.mem_append.1 hu with hu | hu
    · exact h.2 u hu
    · rw [List.mem_singleton.1 hu]; exact hx
/-- the cells of fields. -/
def fcs (l : List (Int × Value)) : List Value := l.flatMap fun x => [.int .i64 x.1, x.2]
theorem fcs_app (l k : List (Int × Value)) : fcs (l ++ k) = fcs l ++ fcs k := by simp [fcs]
theorem fcs_at : ∀ (l : List (Int × Value)) (j : Nat) (x : Int × Value), l[j]? = some x → (fcs l)[j * 2]? = some (.int .i64 x.1) ∧ (fcs l)[j * 2 + 1]? = some x.2
  | [], j, x, h => by simp at h
  | y :: r, 0, x, h => by simp at h; subst h; exact ⟨rfl, rfl⟩
  | y :: r, j + 1, x, h => by
    have := fcs_at r j x (by simpa using h)
    have e : fcs (y :: r) = .int .i64 y.1 :: y.2 :: fcs r := rfl
    rw [e, show (j + 1) * 2 = j * 2 + 1 + 1 by omega, List.getElem?_cons_succ, List.getElem?_cons_succ]
    exact ⟨this.1, by rw [List.getElem?_cons_succ, List.getElem?_cons_succ]; exact this.2⟩
/-- a row of fields. -/
def OwnF (w : World) (base : Nat) (v : Value) (l : List (Int × Value)) : Prop := w.ownsRow base 51 2 v l.length (fcs l) ∧ ∀ u ∈ fcs l, u.oneCell' = true
theorem OwnF.nil (w : World) (base : Nat) : OwnF w base (.slice none 0 0) [] := ⟨World.ownsRow_nil w base _ 2, fun u h => (by cases h)⟩
theorem appF {w : World} {base : Nat} {v : Value} {l : List (Int × Value)} (h : OwnF w base v l) (x : Int) (y : Value) (hx : y.oneCell' = true) (hb : base ≤ w.heap.size) (hn : (l.length + 1) * 32 ≤ 140737488355328) (ty : TypeId) :
    ∃ v' w', (Builtin.append_ #[26, 26] ty #[v, .slice (some ⟨w.heap.size, 0, none⟩) 1 1]).run Try.prog (w.alloc (.cells #[.int .i64 x, y] 51)) = .ok v' w' ∧ OwnF w' base v' (l ++ [(x, y)]) ∧ Below base w w' ∧ Gr w v w' v' := by
  obtain ⟨i, hi, hz, hs, hby⟩ := info3 info_fd
  have one : ∀ u ∈ [Value.int .i64 x, y], u.oneCell' = true := by
    intro u hu
    rcases List.mem_cons.1 hu with rfl | hu
    · rfl
    · rw [List.mem_singleton.1 hu]; exact hx
  obtain ⟨v', w', hr, ho, hg, _, hob⟩ := run_append_own_at (P := Try.prog) (w.alloc (.cells #[.int .i64 x, y] 51)) base 26 ty 51 i (.agg #[.int .i64 0, .slice none 0 0]) 2 32 Try.underlying26 hi hz hs hby rfl (by decide) v l.length (fcs l) (World.ownsRow.alloc h.1 _) ⟨w.heap.size, 0, none⟩ 1 1 [.int .i64 x, y] rfl
    (by
      intro j u hj
      match j, hj with
      | 0, hj => simp at hj; subst hj; simp [Addr.add, go_sem]
      | 1, hj => simp at hj; subst hj; simp [Addr.add, go_sem]
      | j + 2, hj => simp at hj) one (by unfold maxLen; omega) (by omega) (by simp; omega)
  have hB : Below base w (w.alloc (.cells #[.int .i64 x, y] 51)) := (Below.refl base w).alloc hb _
  have hB2 := hB.grown hg (by simp; omega) (fun k hk => (h.1.lt k hk).1)
  refine ⟨v', w', hr, ⟨?_, fun u hu => ?_⟩, hB2, (gr_of hg hob).ahead (balloc (brefl w) _)⟩
  · rw [List.length_append, fcs_app]
    exact ho
  · rw [fcs_app] at hu
    rcases List.mem_append.1 hu with hu | hu
    · exact h.2 u hu
    · exact one u hu
end Go.Proofs.Ytmjbnbjkpimjmaa.Wi
