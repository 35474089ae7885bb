/-
  A way that came in as an argument, opened: it is empty, or its legs lie in memory.
  Conditions: none.
-/
import Derived.Test.YthdkkcibomigcaaOscG
import Derived.ProofKit
import Derived.OpenShut
import Derived.Carry
import Derived.Deep.SlicePairs
namespace Go.Proofs.Ythdkkcibomigcaa.Fx
open Go.RowKit Go.ChangeShapes Go.WideShapes Go.Deep

theorem wcells : Try.prog.cellsOf 45 = 2 := by kernel_rfl
theorem wcell0 : Try.prog.cellsOf 23 = 1 := by kernel_rfl
theorem wcell1 : Try.prog.cellsOf 3 = 1 := by kernel_rfl
theorem laidOut : laidOutB Try.prog = true := by kernel_rfl

/-- the value v is a way of n legs. -/
def WayAt (w : World) (v : Value) (n : Nat) (X Y : Nat → Int) : Prop :=
  (n = 0 ∧ ∃ a cap, v = .slice a 0 cap) ∨ (0 < n ∧ n ≤ 9223372036854775807 ∧ ∃ b off cap, v = .slice (some ⟨b, off, none⟩) n cap ∧ n ≤ cap ∧ Legs w b off n X Y)

theorem open_way {H : Type} {enc : TypeId × Value → H} {W : World} {base : Nat} {v : Value} {d : DataW H} {p : List MemPlace}
    (hv : Value.okWide Try.prog W .any base 22 v) (h : DataW.Trod enc Try.prog W 0 (fun _ => true) true 22 v d p) : ∃ n X Y, WayAt W v n X Y := by
  obtain ⟨a0, len, cap, rfl⟩ := okWide_slice Try.underlying22 hv
  obtain ⟨fuel, hf⟩ := h
  rcases open_slice_pairs Try.underlying22 Try.underlying45 wcells rfl rfl wcell0 wcell1 hf with ⟨hcs, _⟩ | ⟨a, len', cap', m, n, V0, V1, D0, D1, P0, P1, hcs, _, hl, hm, hmeq, hx, hall⟩
  · simp [Value.cells] at hcs
    obtain ⟨rfl, rfl, rfl⟩ := hcs
    exact ⟨0, fun _ => 0, fun _ => 0, Or.inl ⟨rfl, _, _, rfl⟩⟩
  · simp [Value.cells] at hcs
    obtain ⟨rfl, rfl, rfl⟩ := hcs
    simp only [if_true] at hmeq
    subst hmeq
    by_cases c : len = 0
    · subst c
      exact ⟨0, fun _ => 0, fun _ => 0, Or.inl ⟨rfl, _, _, rfl⟩⟩
    · have key : ∀ i, i < m → V0 i = .int .i64 (intOf (V0 i)) ∧ V1 i = .int .i64 (intOf (V1 i)) := fun i hi => by
        obtain ⟨_, _, t0, t1⟩ := hall i hi
        obtain ⟨k0, e0, _, _⟩ := DataW.trod_int Try.underlying23 t0
        obtain ⟨k1, e1, _, _⟩ := DataW.trod_int Try.underlying3 t1
        simp only [List.cons.injEq, and_true] at e0 e1
        rw [e0, e1]
        exact ⟨rfl, rfl⟩
      have sp : a.spot = none := by
        have h0 := World.cell?_spot (hall 0 (by omega)).1
        simpa [Addr.add] using h0
      obtain ⟨b, off, s⟩ := a
      simp only at sp
      subst sp
      have hb := World.block_lt_of_cell? W _ (hall 0 (by omega)).1
      refine ⟨len, fun i => intOf (V0 i), fun i => intOf (V1 i), Or.inr ⟨by omega, by unfold maxLen at hm; omega, b, off, m, rfl, hl, ?_, fun i hi => ?_⟩⟩
      · simpa [Addr.add] using hb
      · obtain ⟨c0, c1, _, _⟩ := hall i (by omega)
        obtain ⟨k0, k1⟩ := key i (by omega)
        rw [k0] at c0
        rw [k1] at c1
        rw [add_plain] at c0 c1
        exact ⟨c0, by rw [Nat.add_assoc]; exact c1⟩
end Go.Proofs.Ythdkkcibomigcaa.Fx
