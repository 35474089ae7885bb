/-
  Rows of words: what a call owns, what it reads.
-/
import Derived.Test.YthlmjfjkjjoimaaDoorWdD
import Derived.Test.YthlmjfjkjjoimaaDoorWdP
namespace Go.Proofs.YthlmjfjkjjoimaaDoor.Wd
open Go.ChangeShapes Go.WideShapes Go.ChangeAt Go.RowKit Go.Joins By
set_option linter.unusedVariables false
set_option linter.unusedSimpArgs false

/-- a word. -/
structure W3 where
  t : ByteArray
  c : Int
  q : Bool
def W3.val (x : W3) : Value := .agg #[.string x.t, .int .i64 x.c, .bool x.q]
def w3 : List W3 → List Value
  | [] => []
  | x :: l => .string x.t :: .int .i64 x.c :: .bool x.q :: w3 l
theorem w3_len : ∀ l, (w3 l).length = l.length * 3
  | [] => rfl
  | x :: l => by simp [w3, w3_len l]; omega
theorem w3_app : ∀ l k, w3 (l ++ k) = w3 l ++ w3 k
  | [], k => rfl
  | x :: l, k => by simp [w3, w3_app l k]
theorem w3_one : ∀ l, ∀ u ∈ w3 l, u.oneCell' = true
  | [], u, h => by simp [w3] at h
  | x :: l, u, h => by
    simp only [w3, List.mem_cons] at h
    rcases h with rfl | rfl | rfl | h
    · rfl
    · rfl
    · rfl
    · exact w3_one l u h
theorem info_word : (Tryd.prog.info? 39).map (fun i => (i.zero, i.size, i.bytes)) = some (some (.agg #[.string ⟨#[]⟩, .int .i64 0, .bool false]), 3, 32) := by kernel_rfl
/-- v is a slice of the call's own that holds just these words. -/
def OwnR (w : World) (base : Nat) (v : Value) (l : List W3) : Prop := w.ownsRow base 39 3 v l.length (w3 l)
theorem OwnR.nil (w : World) (base : Nat) : OwnR w base (.slice none 0 0) [] := World.ownsRow_nil w base _ 3
theorem OwnR.block {w : World} {base : Nat} {v : Value} {l : List W3} (h : OwnR w base v l) : ∀ k, v.ownBlock = some k → base ≤ k := by
  intro k hk
  rcases h.2 with ⟨rfl, _⟩ | ⟨g, cap, cur, rfl, hb, _⟩
  · simp [Value.ownBlock] at hk
  · simp [Value.ownBlock] at hk
    omega
theorem OwnR.below {w w' : World} {base : Nat} {v : Value} {l : List W3} (h : OwnR w base v l) (k : Below w.heap.size w w') : OwnR w' base v l := by
  obtain ⟨h1, h2⟩ := h
  refine ⟨h1, ?_⟩
  rcases h2 with h2 | ⟨g, cap, cur, hv, hb, hh, hr⟩
  · exact .inl h2
  · exact .inr ⟨g, cap, cur, hv, hb, by rw [k.block g (Array.getElem?_eq_some_iff.1 hh).1]; exact hh, hr⟩
theorem appR3 {w : World} {base : Nat} {v : Value} {l : List W3} (h : OwnR w base v l) (x : W3) (hb : base ≤ w.heap.size) (hn : (l.length + 1) * 32 ≤ 140737488355328) (ty : TypeId) :
    ∃ v' w', (Builtin.append_ #[23, 23] ty #[v, .slice (some ⟨w.heap.size, 0, none⟩) 1 1]).run Tryd.prog (w.alloc (.cells #[.string x.t, .int .i64 x.c, .bool x.q] 39)) = .ok v' w' ∧ OwnR w' base v' (l ++ [x]) ∧ Below base w w' ∧ w.heap.size ≤ w'.heap.size := by
  obtain ⟨i, hi, hz, hs, hby⟩ := info_parts3 info_word
  obtain ⟨v', w', hr, ho, hg, _, _⟩ := run_append_own_at (P := Tryd.prog) (w.alloc (.cells #[.string x.t, .int .i64 x.c, .bool x.q] 39)) base 23 ty 39 i (.agg #[.string ⟨#[]⟩, .int .i64 0, .bool false]) 3 32 Tryd.underlying23 hi hz hs hby rfl (by decide) v l.length (w3 l) (World.ownsRow.alloc h _) ⟨w.heap.size, 0, none⟩ 1 1 (w3 [x]) rfl
    (by
      intro j u hj
      match j, hj with
      | 0, hj => simp [w3] at hj; subst hj; simp [Addr.add, go_sem]
      | 1, hj => simp [w3] at hj; subst hj; simp [Addr.add, go_sem]
      | 2, hj => simp [w3] at hj; subst hj; simp [Addr.add, go_sem]
      | j + 3, hj => simp [w3] at hj) (w3_one _) (by unfold maxLen; omega) (by omega) (by simp; omega)
  have hB : Below base w (w.alloc (.cells #[.string x.t, .int .i64 x.c, .bool x.q] 39)) := (Below.refl base w).alloc hb _
  have hB2 := hB.grown hg (by simp; omega) h.block
  refine ⟨v', w', hr, ?_, hB2, hB2.size⟩
  unfold OwnR
  rw [w3_app, List.length_append]
  exact ho

/-- v is a slice, and its cells hold these words. -/
def Rw (w : World) (v : Value) (L : List W3) : Prop :=
  ∃ a cap, v = .slice a L.length cap ∧ L.length ≤ cap ∧ cap ≤ 9223372036854775807 ∧ (0 < L.length → ∃ b off, a = some ⟨b, off, none⟩ ∧ b < w.heap.size ∧ ∀ j x, L[j]? = some x → w.cell? ⟨b, off + j * 3, none⟩ = some (.string x.t) ∧ w.cell? ⟨b, off + j * 3 + 1, none⟩ = some (.int .i64 x.c) ∧ w.cell? ⟨b, off + j * 3 + 2, none⟩ = some (.bool x.q))
theorem Rw.below {w w' : World} {v : Value} {L : List W3} (h : Rw w v L) (q : Below w.heap.size w w') : Rw w' v L := by
  obtain ⟨a, cap, e, h1, h2, h3⟩ := h
  exact ⟨a, cap, e, h1, h2, fun hn => by obtain ⟨b, off, ea, hb, B⟩ := h3 hn; exact ⟨b, off, ea, Nat.lt_of_lt_of_le hb q.size, fun j x hj => ⟨(q.cell (p := ⟨b, _, none⟩) hb).trans (B j x hj).1, (q.cell (p := ⟨b, _, none⟩) hb).trans (B j x hj).2.1, (q.cell (p := ⟨b, _, none⟩) hb).trans (B j x hj).2.2⟩⟩⟩
theorem w3_at : ∀ (L : List W3) (j : Nat) (x : W3), L[j]? = some x → (w3 L)[j * 3]? = some (.string x.t) ∧ (w3 L)[j * 3 + 1]? = some (.int .i64 x.c) ∧ (w3 L)[j * 3 + 2]? = some (.bool x.q)
  | [], j, x, h => by simp at h
  | y :: L, 0, x, h => by simp at h; subst h; simp [w3]
  | y :: L, j + 1, x, h => by
    have := w3_at L j x (by simpa using h)
    rw [show (j + 1) * 3 = j * 3 + 1 + 1 + 1 from by omega]
    simpa [w3] using this
theorem OwnR.rw {w : World} {base : Nat} {v : Value} {L : List W3} (h : OwnR w base v L) : Rw w v L := by
  obtain ⟨h1, h2⟩ := h
  rcases h2 with ⟨rfl, h0⟩ | ⟨g, cap, cur, rfl, hb, hh, hc, hm, hs, ht⟩
  · exact ⟨none, 0, by rw [h0], by omega, by omega, fun hn => by omega⟩
  · refine ⟨_, cap, rfl, hc, by unfold maxLen at hm; omega, fun hn => ⟨g, 0, rfl, (Array.getElem?_eq_some_iff.1 hh).1, fun j x hj => ?_⟩⟩
    have hl : j < L.length := (List.getElem?_eq_some_iff.1 hj).1
    have := w3_at L j x hj
    rw [← ht, List.getElem?_take_of_lt (by omega), List.getElem?_take_of_lt (by omega), List.getElem?_take_of_lt (by omega)] at this
    simp only [Array.getElem?_toList] at this
    simp [World.cell?, hh, this]

end Go.Proofs.YthlmjfjkjjoimaaDoor.Wd
