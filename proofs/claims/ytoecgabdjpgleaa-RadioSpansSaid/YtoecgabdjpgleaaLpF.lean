/-
  Tables of leap seconds in memory, and one that came in as an argument.
  Conditions: none.
-/
import Derived.Test.YtoecgabdjpgleaaCvA
import Derived.Test.YtoecgabdjpgleaaLa
import Derived.ProofKit
import Derived.OpenShut
import Derived.Carry
import Derived.Deep.SlicePairs
import Derived.BigQuiet
import Derived.Below
import Derived.WideShapes
import Derived.Lib.SmallJoins
namespace Go.Proofs.Ytoecgabdjpgleaa.Lp
open Go.RowKit Go.ChangeShapes Go.WideShapes Go.ChangeAt Go.Joins Cv
set_option linter.unusedVariables false
set_option linter.unusedSimpArgs false

/-- an int. -/
def I64 (x : Int) : Prop := -9223372036854775808 ≤ x ∧ x ≤ 9223372036854775807
/-- v is a slice of n changes: (a i, o i). -/
def Cs (w : World) (v : Value) (n : Nat) (a o : Nat → Int) : Prop :=
  ∃ ad cap, v = .slice ad n cap ∧ n ≤ cap ∧ cap ≤ 9223372036854775807 ∧ (∀ i, i < n → I64 (a i) ∧ I64 (o i)) ∧
    (0 < n → ∃ b off, ad = some ⟨b, off, none⟩ ∧ b < w.heap.size ∧ ∀ i, i < n → w.cell? ⟨b, off + i * 2, none⟩ = some (.int .i64 (a i)) ∧ w.cell? ⟨b, off + i * 2 + 1, none⟩ = some (.int .i64 (o i)))
theorem Cs.below {w w' : World} {v : Value} {n : Nat} {a o : Nat → Int} (h : Cs w v n a o) (q : Below w.heap.size w w') : Cs w' v n a o := by
  obtain ⟨ad, cap, e, h1, h2, h3, h4⟩ := h
  exact ⟨ad, cap, e, h1, h2, h3, fun hn => by
    obtain ⟨b, off, ea, hb, B⟩ := h4 hn
    exact ⟨b, off, ea, Nat.lt_of_lt_of_le hb q.size, fun i hi => ⟨(q.cell (p := ⟨b, _, none⟩) hb).trans (B i hi).1, (q.cell (p := ⟨b, _, none⟩) hb).trans (B i hi).2⟩⟩⟩
/-- a table, as a value. -/
def lv (v : Value) (e : Int) : Value := .agg #[v, .int .i64 e]

theorem wcells : Try.prog.cellsOf 49 = 2 := by kernel_rfl
theorem wcell0 : Try.prog.cellsOf 23 = 1 := by kernel_rfl
theorem wcell1 : Try.prog.cellsOf 3 = 1 := by kernel_rfl
theorem wcellL : Try.prog.cellsOf 32 = 2 := by kernel_rfl
theorem wcellS : Try.prog.cellsOf 30 = 1 := by kernel_rfl
set_option maxRecDepth 100000 in
theorem open_changes {H : Type} {enc : TypeId × Value → H} {W : World} {fuel : Nat} {v : Value} {x : DataW H × List MemPlace} (hf : DataW.trod enc Try.prog W 0 (fun _ => true) true fuel 30 [v] = some x) : ∃ n a o, Cs W v n a o := by
  rcases Go.Deep.open_slice_pairs Try.underlying30 Try.underlying49 wcells rfl rfl wcell0 wcell1 hf with ⟨hcs, _⟩ | ⟨a, len', cap', m, n, V0, V1, D0, D1, P0, P1, hcs, _, hl, hm, hmeq, hx, hall⟩
  · simp only [List.cons.injEq, and_true] at hcs
    subst hcs
    exact ⟨0, fun _ => 0, fun _ => 0, none, 0, rfl, Nat.le_refl _, by omega, fun i hi => absurd hi (Nat.not_lt_zero _), fun h => absurd h (Nat.lt_irrefl _)⟩
  · simp only [List.cons.injEq, and_true] at hcs
    subst hcs
    simp only [if_true] at hmeq
    subst hmeq
    have key : ∀ i, i < m → (V0 i = .int .i64 (intOf (V0 i)) ∧ I64 (intOf (V0 i))) ∧ (V1 i = .int .i64 (intOf (V1 i)) ∧ I64 (intOf (V1 i))) := fun i hi => by
      obtain ⟨_, _, t0, t1⟩ := hall i hi
      obtain ⟨k0, e0, _, z0⟩ := DataW.trod_int Try.underlying23 t0
      obtain ⟨k1, e1, _, z1⟩ := DataW.trod_int Try.underlying3 t1
      simp only [List.cons.injEq, and_true] at e0 e1
      simp [Lit.wf, IntKind.min, IntKind.max, IntKind.bits, IntKind.signed] at z0 z1
      rw [e0, e1]
      exact ⟨⟨rfl, by show I64 k0; unfold I64; omega⟩, rfl, by show I64 k1; unfold I64; omega⟩
    refine ⟨len', fun i => intOf (V0 i), fun i => intOf (V1 i), some a, m, rfl, hl, by unfold maxLen at hm; omega, fun i hi => ⟨(key i (by omega)).1.2, (key i (by omega)).2.2⟩, fun hn => ?_⟩
    have sp : a.spot = none := by
      have h0 := World.cell?_spot (hall 0 (by omega)).1
      simpa [Addr.add] using h0
    obtain ⟨b, off, s⟩ := a
    simp only at sp
    subst sp
    have hb := World.block_lt_of_cell? W _ (hall 0 (by omega)).1
    refine ⟨b, off, rfl, by simpa [Addr.add] using hb, fun i hi => ?_⟩
    obtain ⟨c0, c1, _, _⟩ := hall i (by omega)
    obtain ⟨⟨k0, _⟩, k1, _⟩ := key i (by omega)
    rw [k0] at c0
    rw [k1] at c1
    rw [add_plain] at c0 c1
    exact ⟨c0, by rw [Nat.add_assoc]; exact c1⟩
set_option maxRecDepth 100000 in
theorem open_leaps {H : Type} {enc : TypeId × Value → H} {W : World} {base : Nat} {v : Value} {d : DataW H} {p : List MemPlace}
    (hv : Value.okWide Try.prog W .any base 32 v) (h : DataW.Trod enc Try.prog W 0 (fun _ => true) true 32 v d p) : ∃ vs e n a o, v = lv vs e ∧ Cs W vs n a o ∧ I64 e := by
  obtain ⟨cs, rfl, hsz⟩ := okWide_struct Try.underlying32 hv
  obtain ⟨l⟩ := cs
  have hl : l.length = 2 := by simpa using hsz.trans wcellL
  match l, hl with
  | [c0, c1], _ =>
    obtain ⟨fuel, hf⟩ := h
    simp [Value.cells] at hf
    obtain ⟨xs, n, _, _, _, hlen, hf⟩ := DataW.trod_struct Try.underlying32 hf
    match xs, hlen with
    | [x0, x1], _ =>
      have g0 := hf 0 _ rfl
      have g1 := hf 1 _ rfl
      simp [wcellS, wcell0] at g0 g1
      obtain ⟨n, a, o, C⟩ := open_changes g0
      obtain ⟨a1, e1, _, z1⟩ := DataW.trod_int Try.underlying23 g1
      simp only [List.cons.injEq, and_true] at e1
      subst e1
      simp [Lit.wf, IntKind.min, IntKind.max, IntKind.bits, IntKind.signed] at z1
      exact ⟨c0, a1, n, a, o, rfl, C, by unfold I64; omega⟩
end Go.Proofs.Ytoecgabdjpgleaa.Lp
