/-
  Rows of strings that a call owns; the lines of a text: the contract of sundialref07.Lines.
  Conditions: no more than 2^40 bytes.
-/
import Derived.Test.YthlmjfjkjjoimaaDoorWdC
import Derived.Laws.Strings2
namespace Go.Proofs.YthlmjfjkjjoimaaDoor.Wd
open Go.ChangeShapes Go.WideShapes Go.ChangeAt Go.RowKit Go.Joins By
set_option linter.unusedVariables false
set_option linter.unusedSimpArgs false

theorem info_str : (Tryd.prog.info? 9).map (fun i => (i.zero, i.size, i.bytes)) = some (some (.string ⟨#[]⟩), 1, 16) := by kernel_rfl
theorem info_parts3 {i? : Option TypeInfo} {z : Value} {s b : Nat} (h : i?.map (fun i => (i.zero, i.size, i.bytes)) = some (some z, s, b)) : ∃ i, i? = some i ∧ i.zero = some z ∧ i.size = s ∧ i.bytes = b := by
  cases i? with
  | none => cases h
  | some i => simp at h; exact ⟨i, rfl, h.1, h.2.1, h.2.2⟩
def cs (l : List ByteArray) : List Value := l.map Value.string
theorem cs_len (l : List ByteArray) : (cs l).length = l.length := by simp [cs]
theorem cs_app (l k : List ByteArray) : cs (l ++ k) = cs l ++ cs k := by simp [cs]
theorem cs_one (l : List ByteArray) : ∀ u ∈ cs l, u.oneCell' = true := by
  intro u hu
  simp only [cs, List.mem_map] at hu
  obtain ⟨x, _, rfl⟩ := hu
  rfl
/-- v is a slice of the call's own that holds just these strings. -/
def OwnS (w : World) (base : Nat) (v : Value) (l : List ByteArray) : Prop := w.ownsRow base 9 1 v l.length (cs l)
theorem OwnS.nil (w : World) (base : Nat) : OwnS w base (.slice none 0 0) [] := World.ownsRow_nil w base _ 1
theorem OwnS.block {w : World} {base : Nat} {v : Value} {l : List ByteArray} (h : OwnS w base v l) : ∀ k, v.ownBlock = some k → base ≤ k := by
  intro k hk
  rcases h.2 with ⟨rfl, _⟩ | ⟨g, cap, cur, rfl, hb, _⟩
  · simp [Value.ownBlock] at hk
  · simp [Value.ownBlock] at hk
    omega
theorem appS {w : World} {base : Nat} {v : Value} {l : List ByteArray} (h : OwnS w base v l) (x : ByteArray) (hb : base ≤ w.heap.size) (hn : (l.length + 1) * 16 ≤ 140737488355328) (ty : TypeId) :
    ∃ v' w', (Builtin.append_ #[33, 33] ty #[v, .slice (some ⟨w.heap.size, 0, none⟩) 1 1]).run Tryd.prog (w.alloc (.cells #[.string x] 9)) = .ok v' w' ∧ OwnS w' base v' (l ++ [x]) ∧ Below base w w' ∧ w.heap.size ≤ w'.heap.size := by
  obtain ⟨i, hi, hz, hs, hby⟩ := info_parts3 info_str
  obtain ⟨v', w', hr, ho, hg, _, _⟩ := run_append_own_at (P := Tryd.prog) (w.alloc (.cells #[.string x] 9)) base 33 ty 9 i (.string ⟨#[]⟩) 1 16 Tryd.underlying33 hi hz hs hby rfl (by decide) v l.length (cs l) (World.ownsRow.alloc h _) ⟨w.heap.size, 0, none⟩ 1 1 (cs [x]) rfl
    (by intro j u hj; cases j with | zero => (simp [cs] at hj; subst hj; simp [Addr.add, go_sem]) | succ j => simp [cs] at hj) (cs_one _) (by unfold maxLen; omega) (by omega) (by simp; omega)
  have hB : Below base w (w.alloc (.cells #[.string x] 9)) := (Below.refl base w).alloc hb _
  have hB2 := hB.grown hg (by simp; omega) h.block
  refine ⟨v', w', hr, ?_, hB2, hB2.size⟩
  unfold OwnS
  rw [cs_app, List.length_append]
  exact ho

/-- a line from a to b, a byte 13 at its end left out. -/
def lnE (s : ByteArray) (a b : Nat) : Nat := if a < b ∧ gn s (b - 1) = 13 then b - 1 else b
def ln (s : ByteArray) (a b : Nat) : ByteArray := s.extract a (lnE s a b)
/-- behind k bytes: the lines, and where the next one begins. -/
def lS (s : ByteArray) : Nat → List ByteArray × Nat
  | 0 => ([], 0)
  | k + 1 => if gn s k = 10 then ((lS s k).1 ++ [ln s (lS s k).2 k], k + 1) else lS s k
theorem lS_le (s : ByteArray) : ∀ k, (lS s k).2 ≤ k ∧ (lS s k).1.length ≤ k
  | 0 => by simp [lS]
  | k + 1 => by
    have := lS_le s k
    rw [lS]
    split
    · simp; omega
    · omega
/-- the lines of a text. -/
def lines (s : ByteArray) : List ByteArray := if (lS s s.size).2 < s.size then (lS s s.size).1 ++ [ln s (lS s s.size).2 s.size] else (lS s s.size).1

end Go.Proofs.YthlmjfjkjjoimaaDoor.Wd
