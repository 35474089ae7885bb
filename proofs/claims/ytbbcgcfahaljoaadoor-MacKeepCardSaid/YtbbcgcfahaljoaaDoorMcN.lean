/-
  The arguments opened: rings, keys, bytes.
  Conditions: none.
-/
import Derived.Test.YtbbcgcfahaljoaaDoorMcM
namespace Go.Proofs.YtbbcgcfahaljoaaDoor.Mc
open Go.ChangeShapes Go.WideShapes Go.ChangeAt Go.RowKit Go.Joins Hs
set_option linter.unusedVariables false
set_option linter.unusedSimpArgs false

theorem cellsK : Tryd.prog.cellsOf 28 = 3 := by kernel_rfl
theorem cellsU : Tryd.prog.cellsOf 23 = 1 := by kernel_rfl
theorem cellsT : Tryd.prog.cellsOf 25 = 1 := by kernel_rfl
theorem cellsB : Tryd.prog.cellsOf 26 = 1 := by kernel_rfl
set_option maxRecDepth 100000 in
theorem open_sb {H : Type} {enc : TypeId × Value → H} {W : World} {fuel : Nat} {v : Value} {x : DataW H × List MemPlace} (hf : DataW.trod enc Tryd.prog W 0 (fun _ => true) true fuel 26 [v] = some x) : ∃ n f, Sb W v n f := by
  rcases open_ints Tryd.underlying26 Tryd.underlying5 cells5 hf with ⟨hcs, hx⟩ | ⟨a, len, cap, zs, hcs, _, hl, hm, hz, hx, hcell, hwz⟩
  · simp only [List.cons.injEq, and_true] at hcs
    subst hcs
    exact ⟨0, fun _ => 0, none, 0, rfl, Nat.le_refl _, by omega, fun _ => by simp, fun h => absurd h (by omega), fun _ => rfl⟩
  · simp only [List.cons.injEq, and_true] at hcs
    subst hcs
    simp only [if_true] at hz
    have hbyte : ∀ i, 0 ≤ zs.getD i 0 ∧ zs.getD i 0 < 256 := by
      intro i
      rw [List.getD_eq_getElem?_getD]
      cases e : zs[i]? with
      | none => simp
      | some x =>
        have hx := hwz x (List.mem_of_getElem? e)
        simp [Lit.wf, IntKind.min, IntKind.max, IntKind.bits, IntKind.signed] at hx
        simp
        omega
    have hfb : ∀ i, (zs.getD i 0).toNat < 256 := fun i => by have := hbyte i; omega
    refine ⟨len, fun i => (zs.getD i 0).toNat, some a, cap, rfl, hl, by unfold maxLen at hm; omega, hfb, fun hn => ?_, fun h => by cases h⟩
    have c0 := hcell 0 (by omega)
    obtain ⟨b, off, s⟩ := a
    have sp : s = none := by simpa [Addr.add] using World.cell?_spot c0
    subst sp
    refine ⟨b, off, rfl, World.block_lt_of_cell? W _ (show W.cell? ⟨b, off, none⟩ = some _ by simpa [Addr.add] using c0), hfb, fun i hi => ?_⟩
    have c := hcell i (by omega)
    rw [add_plain] at c
    rw [c]
    show _ = some (Value.int .u8 (((zs.getD i 0).toNat : Nat) : Int))
    rw [Int.toNat_of_nonneg (hbyte i).1]
set_option maxRecDepth 100000 in
theorem open_key3 {H : Type} {enc : TypeId × Value → H} {W : World} {fuel : Nat} {c0 c1 c2 : Value} {x : DataW H × List MemPlace} (h : DataW.trod enc Tryd.prog W 0 (fun _ => true) true fuel 28 [c0, c1, c2] = some x) :
    ∃ k : KD, (c0 = .int .u32 k.id ∧ c1 = .int .i64 k.kind ∧ c2 = k.v) ∧ KOk W k := by
  obtain ⟨xs, n, _, _, _, hlen, hf⟩ := DataW.trod_struct Tryd.underlying28 h
  match xs, hlen with
  | [x0, x1, x2], _ =>
    have g0 := hf 0 _ rfl
    have g1 := hf 1 _ rfl
    have g2 := hf 2 _ rfl
    simp [cellsU, cellsT, cellsB] at g0 g1 g2
    obtain ⟨a0, e0, _, z0⟩ := DataW.trod_int Tryd.underlying23 g0
    obtain ⟨a1, e1, _, _⟩ := DataW.trod_int Tryd.underlying25 g1
    obtain ⟨l, f, S⟩ := open_sb g2
    simp only [List.cons.injEq, and_true] at e0 e1
    subst e0 e1
    simp [Lit.wf, IntKind.min, IntKind.max, IntKind.bits, IntKind.signed] at z0
    exact ⟨⟨a0, a1, c2, l, f⟩, ⟨rfl, rfl, rfl⟩, by show 0 ≤ a0; omega, by show a0 < 4294967296; omega, S⟩
set_option maxRecDepth 100000 in
theorem open_ring {H : Type} {enc : TypeId × Value → H} {W : World} {base : Nat} {v : Value} {d : DataW H} {p : List MemPlace}
    (hv : Value.okWide Tryd.prog W .any base 22 v) (h : DataW.Trod enc Tryd.prog W 0 (fun _ => true) true 22 v d p) : ∃ n K, Ring W v n K := by
  obtain ⟨a0, len, cap, rfl⟩ := okWide_slice Tryd.underlying22 hv
  obtain ⟨fuel, hf⟩ := h
  rcases Go.Deep.open_slice Tryd.underlying22 hf with ⟨hcs, _⟩ | ⟨a, len', cap', m, n, D, Pl, hcs, _, hl, hm, hmm, _, hall⟩
  · simp [Value.cells] at hcs
    obtain ⟨rfl, rfl, rfl⟩ := hcs
    exact ⟨0, fun _ => k0, none, 0, rfl, Nat.le_refl _, by omega, fun h => absurd h (Nat.lt_irrefl _), fun j hj => absurd hj (Nat.not_lt_zero _)⟩
  · simp [Value.cells] at hcs
    obtain ⟨rfl, rfl, rfl⟩ := hcs
    simp only [if_true] at hmm
    subst hmm
    have each : ∀ i, i < m → ∃ k : KD, (W.cell? (a.add (i * 3)) = some (.int .u32 k.id) ∧ W.cell? (a.add (i * 3 + 1)) = some (.int .i64 k.kind) ∧ W.cell? (a.add (i * 3 + 2)) = some k.v) ∧ KOk W k := by
      intro i hi
      obtain ⟨cs', h1, h2⟩ := hall i hi
      rw [cellsK] at h1
      obtain ⟨_, hlen, hcell⟩ := World.cells?_some h1
      match cs', hlen with
      | [c0, c1, c2], _ =>
        obtain ⟨k, ⟨e0, e1, e2⟩, ok⟩ := open_key3 h2
        have q0 := hcell 0 (by omega)
        have q1 := hcell 1 (by omega)
        have q2 := hcell 2 (by omega)
        rw [Go.Deep.add_add] at q0 q1 q2
        refine ⟨k, ⟨?_, ?_, ?_⟩, ok⟩
        · rw [← e0]; simpa using q0
        · rw [← e1]; simpa using q1
        · rw [← e2]; simpa using q2
    obtain ⟨K, hK⟩ := Go.Deep.choose_lt each
    refine ⟨len, K, some a, m, rfl, hl, by unfold maxLen at hm; omega, fun hn => ?_, fun j hj => (hK j (by omega)).2⟩
    have c0 := (hK 0 (by omega)).1.1
    obtain ⟨b, off, s⟩ := a
    have sp : s = none := by simpa [Addr.add] using World.cell?_spot c0
    subst sp
    refine ⟨b, off, rfl, World.block_lt_of_cell? W _ (show W.cell? ⟨b, off, none⟩ = some _ by simpa [Addr.add] using c0), fun j hj => ?_⟩
    obtain ⟨⟨q0, q1, q2⟩, _⟩ := hK j (by omega)
    rw [add_plain] at q0 q1 q2
    exact ⟨q0, by rw [Nat.add_assoc]; exact q1, by rw [Nat.add_assoc]; exact q2⟩
set_option maxRecDepth 100000 in
theorem open_key {H : Type} {enc : TypeId × Value → H} {W : World} {base : Nat} {v : Value} {d : DataW H} {p : List MemPlace}
    (hv : Value.okWide Tryd.prog W .any base 28 v) (h : DataW.Trod enc Tryd.prog W 0 (fun _ => true) true 28 v d p) : ∃ k : KD, v = k.val ∧ KOk W k := by
  obtain ⟨cs, rfl, hsz⟩ := okWide_struct Tryd.underlying28 hv
  obtain ⟨l⟩ := cs
  have hl : l.length = 3 := by simpa using hsz.trans cellsK
  match l, hl with
  | [c0, c1, c2], _ =>
    obtain ⟨fuel, hf⟩ := h
    simp [Value.cells] at hf
    obtain ⟨k, ⟨rfl, rfl, rfl⟩, ok⟩ := open_key3 hf
    exact ⟨k, rfl, ok⟩
end Go.Proofs.YtbbcgcfahaljoaaDoor.Mc
