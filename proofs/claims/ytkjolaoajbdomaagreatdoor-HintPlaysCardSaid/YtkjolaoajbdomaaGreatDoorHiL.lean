/-
  Calls of layer 12 that come in, and rows of them.
  Conditions: none.
-/
import Derived.SizedLaws
import Derived.Deep.SlicePairs
import Derived.Test.YtkjolaoajbdomaaGreatDoorDkR
import Derived.Test.YtkjolaoajbdomaaGreatDoorHiH
namespace Go.Proofs.YtkjolaoajbdomaaGreatDoor.Hi
open Go.RowKit Go.ChangeShapes Go.WideShapes Go.ChangeAt Go.Joins Go.Maps By Ct Dk
set_option linter.unusedVariables false
set_option linter.unusedSimpArgs false

/-- a call. -/
structure Ah where
  k : Int
  f : Int
  n : Int
  p : Int
  a : ByteArray
  dat : List Nat
def ah0 : Ah := ⟨0, 0, 0, 0, ByteArray.empty, []⟩
def ahs (x : Ah) (dv : Value) : List Value := [.int .i64 x.k, .int .i64 x.f, .int .i64 x.n, .int .i64 x.p, .string x.a, dv]
/-- its numbers are ints. -/
def Bh (x : Ah) : Prop := (-9223372036854775808 ≤ x.k ∧ x.k ≤ 9223372036854775807) ∧ (-9223372036854775808 ≤ x.f ∧ x.f ≤ 9223372036854775807) ∧ (-9223372036854775808 ≤ x.n ∧ x.n ≤ 9223372036854775807) ∧ (-9223372036854775808 ≤ x.p ∧ x.p ≤ 9223372036854775807) ∧ x.a.size ≤ maxLen
theorem cellsH : Tryz.prog.cellsOf 30 = 6 := by kernel_rfl
theorem info_hact : (Tryz.prog.info? 30).map (·.size) = some 6 := by kernel_rfl
set_option maxRecDepth 100000 in
set_option maxHeartbeats 2000000 in
theorem open_has {H : Type} {enc : TypeId × Value → H} {W : World} {fuel : Nat} {l : List Value} (hl : l.length = 6) {x : DataW H × List MemPlace} (hf : DataW.trod enc Tryz.prog W 0 (fun _ => true) true fuel 30 l = some x)
    (hw : ∀ y ∈ DataW.weights Tryz.prog 30 x.1, y ≤ reachBytes) : ∃ f dv, l = ahs f dv ∧ Bh f ∧ Sl W dv f.dat := by
  obtain ⟨c0, c1, c2, c3, c4, c5, rfl⟩ := list6 hl
  obtain ⟨xs, n, _, hx, hl, hlen, hg⟩ := DataW.trod_struct Tryz.underlying30 hf
  match xs, hlen with
  | [x0, x1, x2, x3, x4, x5], _ =>
    subst hx
    have g0 := hg 0 _ rfl
    have g1 := hg 1 _ rfl
    have g2 := hg 2 _ rfl
    have g3 := hg 3 _ rfl
    have g4 := hg 4 _ rfl
    have g5 := hg 5 _ rfl
    simp [Value.cells, cellsI, cellsT, cellsS] at g0 g1 g2 g3 g4 g5
    obtain ⟨a0, e0, _, w0⟩ := DataW.trod_int Tryz.underlying3 g0
    obtain ⟨a1, e1, _, w1⟩ := DataW.trod_int Tryz.underlying3 g1
    obtain ⟨a2, e2, _, w2⟩ := DataW.trod_int Tryz.underlying3 g2
    obtain ⟨a3, e3, _, w3⟩ := DataW.trod_int Tryz.underlying3 g3
    obtain ⟨a4, e4, _, w4⟩ := DataW.trod_string Tryz.underlying9 g4
    obtain ⟨dg, D⟩ := open_sl g5 fun y hy => hw y (by
      show y ∈ DataW.weights Tryz.prog 30 (.agg [x0.1, x1.1, x2.1, x3.1, x4.1, x5.1])
      rw [DataW.weights, Tryz.underlying30]
      show y ∈ DataW.weightsEach Tryz.prog [3, 3, 3, 3, 9, 28] [x0.1, x1.1, x2.1, x3.1, x4.1, x5.1]
      iterate 6 rw [DataW.weightsEach]
      iterate 5 refine List.mem_append_right _ ?_
      exact List.mem_append_left _ hy)
    simp only [List.cons.injEq, and_true] at e0 e1 e2 e3 e4
    exact ⟨⟨a0, a1, a2, a3, a4, dg⟩, c5, by rw [e0, e1, e2, e3, e4]; rfl, ⟨bounds_i64 w0, bounds_i64 w1, bounds_i64 w2, bounds_i64 w3, w4⟩, D⟩
/-- the value v is a row of the calls L, each with its data's value. -/
def Lh (w : World) (v : Value) (L : List (Ah × Value)) : Prop :=
  ∃ a cap, v = .slice a L.length cap ∧ L.length ≤ cap ∧ cap ≤ 9223372036854775807 ∧ (0 < L.length → ∃ b off, a = some ⟨b, off, none⟩ ∧ b < w.heap.size ∧ ∀ j, j < L.length → ∀ k, k < 6 → w.cell? ⟨b, off + j * 6 + k, none⟩ = (ahs (L.getD j (ah0, .slice none 0 0)).1 (L.getD j (ah0, .slice none 0 0)).2)[k]?) ∧ ∀ x ∈ L, Bh x.1 ∧ Sl w x.2 x.1.dat
theorem Lh.below {w w' : World} {v : Value} {L : List (Ah × Value)} (h : Lh w v L) (q : Below w.heap.size w w') : Lh w' v L := by
  obtain ⟨a, cap, e, h1, h2, h3, h4⟩ := h
  refine ⟨a, cap, e, h1, h2, fun hn => ?_, fun x hx => ⟨(h4 x hx).1, (h4 x hx).2.below q⟩⟩
  obtain ⟨b, off, ea, hb, B⟩ := h3 hn
  exact ⟨b, off, ea, Nat.lt_of_lt_of_le hb q.size, fun j hj k hk => (q.cell (p := ⟨b, off + j * 6 + k, none⟩) hb).trans (B j hj k hk)⟩
theorem Lh.form {w : World} {v : Value} {L : List (Ah × Value)} (h : Lh w v L) : ∃ a cap, v = .slice a L.length cap := by
  obtain ⟨a, cap, e, _⟩ := h
  exact ⟨a, cap, e⟩
theorem lh_at {w : World} {a : Option Addr} {cap : Nat} {L : List (Ah × Value)} (F : Lh w (.slice a L.length cap) L) {j : Nat} {x : Ah × Value} (h : L[j]? = some x) : ∃ b off, a = some ⟨b, off, none⟩ ∧ b < w.heap.size ∧ w.rangeAt b (off + j * 6) (ahs x.1 x.2) ∧ Bh x.1 ∧ Sl w x.2 x.1.dat := by
  obtain ⟨hj, e⟩ := List.getElem?_eq_some_iff.1 h
  obtain ⟨a', cap', ev, _, _, hB, hS⟩ := F
  cases ev
  obtain ⟨b, off, ea, hb, B⟩ := hB (by omega)
  refine ⟨b, off, ea, hb, fun i v hi => ?_, hS x (by rw [← e]; exact List.getElem_mem hj)⟩
  have hi6 : i < 6 := (List.getElem?_eq_some_iff.1 hi).1
  rw [B j hj i hi6, List.getD_eq_getElem?_getD, h, Option.getD_some]
  exact hi
theorem nil_lh (w : World) : Lh w (.slice none 0 0) [] := ⟨none, 0, rfl, Nat.le_refl _, by omega, fun h => absurd h (by simp), fun j h => absurd h (by simp)⟩
set_option maxRecDepth 100000 in
theorem open_hacts {H : Type} {enc : TypeId × Value → H} {W : World} {base : Nat} {v : Value} {d : DataW H} {pl : List MemPlace}
    (hv : Value.okWide Tryz.prog W .any base 22 v) (h : DataW.Trod enc Tryz.prog W 0 (fun _ => true) true 22 v d pl)
    (hw : ∀ y ∈ DataW.weights Tryz.prog 22 d, y ≤ reachBytes) : ∃ L, Lh W v L := by
  obtain ⟨a0, len0, cap0, rfl⟩ := okWide_slice Tryz.underlying22 hv
  obtain ⟨fuel, hf⟩ := h
  have hf' : DataW.trod enc Tryz.prog W 0 (fun _ => true) true fuel 22 [.slice a0 len0 cap0] = some (d, pl) := by simpa [Value.cells] using hf
  rcases Go.Deep.open_slice Tryz.underlying22 hf' with ⟨hcs, _⟩ | ⟨a, len, cap, m, n, D, Pl, hcs, _, hl, hm, hmm, hx, hall⟩
  · simp only [List.cons.injEq, and_true] at hcs
    rw [hcs]
    exact ⟨[], nil_lh W⟩
  · simp only [List.cons.injEq, and_true] at hcs
    rw [hcs]
    simp only [if_true] at hmm
    subst hmm
    simp only [Prod.mk.injEq] at hx
    have hwi : ∀ i, i < len → ∀ y ∈ DataW.weights Tryz.prog 30 (D i), y ≤ reachBytes := fun i hi y hy => hw y (by
      rw [hx.1]
      show y ∈ DataW.weights Tryz.prog 22 (.slice _ _)
      rw [DataW.weights, Tryz.underlying22]
      exact List.mem_cons_of_mem _ (List.mem_append_left _ (weightsAll_mem hy (List.mem_map.2 ⟨i, List.mem_range.2 hi, rfl⟩))))
    have each : ∀ i, i < len → ∃ k : Ah × Value, (∀ j, j < 6 → W.cell? ((a.add (i * 6)).add j) = (ahs k.1 k.2)[j]?) ∧ Bh k.1 ∧ Sl W k.2 k.1.dat := by
      intro i hi
      obtain ⟨cs', h1, h2⟩ := hall i (by omega)
      rw [cellsH] at h1
      obtain ⟨_, hlen, hcell⟩ := World.cells?_some h1
      obtain ⟨f, dv, e, F⟩ := open_has hlen h2 (hwi i hi)
      subst e
      exact ⟨(f, dv), fun j hj => by have := hcell j (by simpa using hj); simpa using this, F⟩
    haveI : Inhabited (Ah × Value) := ⟨(ah0, .slice none 0 0)⟩
    obtain ⟨K, hK⟩ := Go.Deep.choose_lt each
    have hlen : ((List.range len).map fun i => K i).length = len := by simp
    have hget : ∀ j, j < len → ((List.range len).map fun i => K i).getD j (ah0, .slice none 0 0) = K j := fun j hj => by simp [List.getD_eq_getElem?_getD, hj]
    refine ⟨(List.range len).map fun i => K i, some a, m, by rw [hlen], by rw [hlen]; exact hl, by unfold maxLen at hm; omega, fun hn => ?_, fun x hx => ?_⟩
    · rw [hlen] at hn
      have c0 : W.cell? ((a.add (0 * 6)).add 0) = some (.int .i64 (K 0).1.k) := (hK 0 hn).1 0 (by omega)
      obtain ⟨b, off, s⟩ := a
      have sp : s = none := by simpa [Addr.add] using World.cell?_spot c0
      subst sp
      refine ⟨b, off, rfl, World.block_lt_of_cell? W _ (show W.cell? ⟨b, off, none⟩ = some _ by simpa [Addr.add] using c0), fun j hj k hk => ?_⟩
      rw [hlen] at hj
      rw [hget j hj]
      have q := (hK j hj).1 k hk
      rw [add_plain, add_plain] at q
      exact q
    · obtain ⟨i, hi, rfl⟩ := List.mem_map.1 hx
      exact (hK i (List.mem_range.1 hi)).2
end Go.Proofs.YtkjolaoajbdomaaGreatDoor.Hi
