/-
  Rows of strings and of numbers: as they are read, and as they grow side by side.
-/
import Derived.Test.YthlmjfjkjjoimaaDoorWpU
import Derived.Test.YthlmjfjkjjoimaaDoorWdD
import Derived.BigQuiet
namespace Go.Proofs.YthlmjfjkjjoimaaDoor.Wd
open Go.ChangeShapes Go.WideShapes Go.ChangeAt Go.RowKit Go.Joins By
set_option linter.unusedVariables false
set_option linter.unusedSimpArgs false

/-- v is a slice, and its cells hold these strings. -/
def Rs (w : World) (v : Value) (L : List ByteArray) : Prop :=
  ∃ a cap, v = .slice a L.length cap ∧ L.length ≤ cap ∧ cap ≤ 9223372036854775807 ∧ (0 < L.length → ∃ b off, a = some ⟨b, off, none⟩ ∧ b < w.heap.size ∧ ∀ j x, L[j]? = some x → w.cell? ⟨b, off + j, none⟩ = some (.string x))
theorem Rs.below {w w' : World} {v : Value} {L : List ByteArray} (h : Rs w v L) (q : Below w.heap.size w w') : Rs w' v L := by
  obtain ⟨a, cap, e, h1, h2, h3⟩ := h
  exact ⟨a, cap, e, h1, h2, fun hn => by obtain ⟨b, off, ea, hb, B⟩ := h3 hn; exact ⟨b, off, ea, Nat.lt_of_lt_of_le hb q.size, fun j x hj => (q.cell (p := ⟨b, _, none⟩) hb).trans (B j x hj)⟩⟩
theorem cs_at (L : List ByteArray) (j : Nat) (x : ByteArray) (h : L[j]? = some x) : (cs L)[j]? = some (.string x) := by simp [cs, h]
theorem OwnS.rs {w : World} {base : Nat} {v : Value} {L : List ByteArray} (h : OwnS w base v L) : Rs w v L := by
  obtain ⟨h1, h2⟩ := h
  rcases h2 with ⟨rfl, h0⟩ | ⟨g, cap, cur, rfl, hb, hh, hc, hm, hs, ht⟩
  · exact ⟨none, 0, by rw [h0], by omega, by omega, fun hn => by omega⟩
  · refine ⟨_, cap, rfl, hc, by unfold maxLen at hm; omega, fun hn => ⟨g, 0, rfl, (Array.getElem?_eq_some_iff.1 hh).1, fun j x hj => ?_⟩⟩
    have hl : j < L.length := (List.getElem?_eq_some_iff.1 hj).1
    have := cs_at L j x hj
    rw [← ht, List.getElem?_take_of_lt (by omega)] at this
    simp only [Array.getElem?_toList] at this
    simp [World.cell?, hh, this]
theorem ownS_below {w w' : World} {base : Nat} {v : Value} {l : List ByteArray} (h : OwnS w base v l) (k : Below w.heap.size w w') : OwnS w' base v l := by
  obtain ⟨h1, h2⟩ := h
  refine ⟨h1, ?_⟩
  rcases h2 with h2 | ⟨g, cap, cur, hv, hb, hh, h5⟩
  · exact .inl h2
  · exact .inr ⟨g, cap, cur, hv, hb, (k.block g (Array.getElem?_eq_some_iff.1 hh).1).trans hh, h5⟩

theorem info_int : (Tryd.prog.info? 3).map (fun i => (i.zero, i.size, i.bytes)) = some (some (.int .i64 0), 1, 8) := by kernel_rfl
def ci (l : List Int) : List Value := l.map (Value.int .i64)
theorem ci_app (l k : List Int) : ci (l ++ k) = ci l ++ ci k := by simp [ci]
theorem ci_one (l : List Int) : ∀ u ∈ ci l, u.oneCell' = true := by
  intro u hu
  obtain ⟨x, _, rfl⟩ := List.mem_map.1 hu
  rfl
theorem ci_at (L : List Int) (j : Nat) (x : Int) (h : L[j]? = some x) : (ci L)[j]? = some (.int .i64 x) := by simp [ci, h]
/-- v is a row of the call's own that holds these numbers. -/
def OwnI (w : World) (base : Nat) (v : Value) (l : List Int) : Prop := w.ownsRow base 3 1 v l.length (ci l)
theorem OwnI.nil (w : World) (base : Nat) : OwnI w base (.slice none 0 0) [] := World.ownsRow_nil w base _ 1
theorem OwnI.block {w : World} {base : Nat} {v : Value} {l : List Int} (h : OwnI w base v l) : ∀ k, v.ownBlock = some k → base ≤ k := by
  intro k hk
  rcases h.2 with ⟨rfl, _⟩ | ⟨g, cap, cur, rfl, hb, _⟩
  · simp [Value.ownBlock] at hk
  · simp [Value.ownBlock] at hk
    omega
theorem ownI_below {w w' : World} {base : Nat} {v : Value} {l : List Int} (h : OwnI w base v l) (k : Below w.heap.size w w') : OwnI w' base v l := by
  obtain ⟨h1, h2⟩ := h
  refine ⟨h1, ?_⟩
  rcases h2 with h2 | ⟨g, cap, cur, hv, hb, hh, h5⟩
  · exact .inl h2
  · exact .inr ⟨g, cap, cur, hv, hb, (k.block g (Array.getElem?_eq_some_iff.1 hh).1).trans hh, h5⟩
/-- v is a slice, and its cells hold these numbers. -/
def Ri (w : World) (v : Value) (L : List Int) : Prop :=
  ∃ a cap, v = .slice a L.length cap ∧ L.length ≤ cap ∧ cap ≤ 9223372036854775807 ∧ (0 < L.length → ∃ b off, a = some ⟨b, off, none⟩ ∧ b < w.heap.size ∧ ∀ j x, L[j]? = some x → w.cell? ⟨b, off + j, none⟩ = some (.int .i64 x))
theorem Ri.below {w w' : World} {v : Value} {L : List Int} (h : Ri w v L) (q : Below w.heap.size w w') : Ri w' v L := by
  obtain ⟨a, cap, e, h1, h2, h3⟩ := h
  exact ⟨a, cap, e, h1, h2, fun hn => by obtain ⟨b, off, ea, hb, B⟩ := h3 hn; exact ⟨b, off, ea, Nat.lt_of_lt_of_le hb q.size, fun j x hj => (q.cell (p := ⟨b, _, none⟩) hb).trans (B j x hj)⟩⟩
theorem OwnI.ri {w : World} {base : Nat} {v : Value} {L : List Int} (h : OwnI w base v L) : Ri w v L := by
  obtain ⟨h1, h2⟩ := h
  rcases h2 with ⟨rfl, h0⟩ | ⟨g, cap, cur, rfl, hb, hh, hc, hm, hs, ht⟩
  · exact ⟨none, 0, by rw [h0], by omega, by omega, fun hn => by omega⟩
  · refine ⟨_, cap, rfl, hc, by unfold maxLen at hm; omega, fun hn => ⟨g, 0, rfl, (Array.getElem?_eq_some_iff.1 hh).1, fun j x hj => ?_⟩⟩
    have hl : j < L.length := (List.getElem?_eq_some_iff.1 hj).1
    have := ci_at L j x hj
    rw [← ht, List.getElem?_take_of_lt (by omega)] at this
    simp only [Array.getElem?_toList] at this
    simp [World.cell?, hh, this]

theorem rows_ne {w : World} {base e e' s s' : Nat} {v v' : Value} {n n' : Nat} {xs xs' : List Value} (h : w.ownsRow base e s v n xs) (h' : w.ownsRow base e' s' v' n' xs') (ne : e ≠ e') : v.ownBlock = none ∨ v.ownBlock ≠ v'.ownBlock := by
  rcases h.2 with ⟨rfl, _⟩ | ⟨g, cap, cur, rfl, hb, hh, _⟩
  · exact .inl rfl
  · right
    rcases h'.2 with ⟨rfl, _⟩ | ⟨g', cap', cur', rfl, hb', hh', _⟩
    · simp [Value.ownBlock]
    · intro q
      simp [Value.ownBlock] at q
      subst q
      rw [hh] at hh'
      simp only [Option.some.injEq, Obj.cells.injEq] at hh'
      exact ne hh'.2.1
/-- an append to the one row; the other stays. -/
theorem appI_both {w : World} {base : Nat} {va vs : Value} {la : List Int} {ls : List ByteArray} (hI : OwnI w base va la) (hS : OwnS w base vs ls) (x : Int) (hb : base ≤ w.heap.size) (hn : (la.length + 1) * 8 ≤ 140737488355328) (ty : TypeId) :
    ∃ v' w', (Builtin.append_ #[35, 35] ty #[va, .slice (some ⟨w.heap.size, 0, none⟩) 1 1]).run Tryd.prog (w.alloc (.cells #[.int .i64 x] 3)) = .ok v' w' ∧ OwnI w' base v' (la ++ [x]) ∧ OwnS w' base vs ls ∧ Below base w w' ∧ w.heap.size ≤ w'.heap.size := by
  obtain ⟨i, hi, hz, hs, hby⟩ := info_parts3 info_int
  obtain ⟨v', w', hr, ho, hg, _, _⟩ := run_append_own_at (P := Tryd.prog) (w.alloc (.cells #[.int .i64 x] 3)) base 35 ty 3 i (.int .i64 0) 1 8 Tryd.underlying35 hi hz hs hby rfl (by decide) va la.length (ci la) (World.ownsRow.alloc hI _) ⟨w.heap.size, 0, none⟩ 1 1 (ci [x]) rfl
    (by intro j u hj; cases j with | zero => (simp [ci] at hj; subst hj; simp [Addr.add, go_sem]) | succ j => simp [ci] at hj) (ci_one _) (by unfold maxLen; omega) (by omega) (by simp; omega)
  have hB : Below base w (w.alloc (.cells #[.int .i64 x] 3)) := (Below.refl base w).alloc hb _
  have hB2 := hB.grown hg (by simp; omega) hI.block
  refine ⟨v', w', hr, ?_, (World.ownsRow.alloc hS _).kept hg (rows_ne hS hI (by decide)), hB2, hB2.size⟩
  unfold OwnI
  rw [ci_app, List.length_append]
  exact ho
theorem appS_both {w : World} {base : Nat} {va vs : Value} {la : List Int} {ls : List ByteArray} (hI : OwnI w base va la) (hS : OwnS w base vs ls) (x : ByteArray) (hb : base ≤ w.heap.size) (hn : (ls.length + 1) * 16 ≤ 140737488355328) (ty : TypeId) :
    ∃ v' w', (Builtin.append_ #[33, 33] ty #[vs, .slice (some ⟨w.heap.size, 0, none⟩) 1 1]).run Tryd.prog (w.alloc (.cells #[.string x] 9)) = .ok v' w' ∧ OwnS w' base v' (ls ++ [x]) ∧ OwnI w' base va la ∧ Below base w w' ∧ w.heap.size ≤ w'.heap.size := by
  obtain ⟨i, hi, hz, hs, hby⟩ := info_parts3 info_str
  obtain ⟨v', w', hr, ho, hg, _, _⟩ := run_append_own_at (P := Tryd.prog) (w.alloc (.cells #[.string x] 9)) base 33 ty 9 i (.string ⟨#[]⟩) 1 16 Tryd.underlying33 hi hz hs hby rfl (by decide) vs ls.length (cs ls) (World.ownsRow.alloc hS _) ⟨w.heap.size, 0, none⟩ 1 1 (cs [x]) rfl
    (by intro j u hj; cases j with | zero => (simp [cs] at hj; subst hj; simp [Addr.add, go_sem]) | succ j => simp [cs] at hj) (cs_one _) (by unfold maxLen; omega) (by omega) (by simp; omega)
  have hB : Below base w (w.alloc (.cells #[.string x] 9)) := (Below.refl base w).alloc hb _
  have hB2 := hB.grown hg (by simp; omega) hS.block
  refine ⟨v', w', hr, ?_, (World.ownsRow.alloc hI _).kept hg (rows_ne hI hS (by decide)), hB2, hB2.size⟩
  unfold OwnS
  rw [cs_app, List.length_append]
  exact ho
end Go.Proofs.YthlmjfjkjjoimaaDoor.Wd
