/-
  Frames that come in.
  Conditions: none.
-/
import Derived.SizedLaws
import Derived.Deep.SlicePairs
import Derived.Test.YteigmnbbfmcihaaCtK
namespace Go.Proofs.Yteigmnbbfmcihaa.Ct
open Go.RowKit Go.ChangeShapes Go.WideShapes Go.ChangeAt Go.Joins By
set_option linter.unusedVariables false
set_option linter.unusedSimpArgs false

theorem cellsI : Try.prog.cellsOf 3 = 1 := by kernel_rfl
theorem cellsB : Try.prog.cellsOf 4 = 1 := by kernel_rfl
theorem cellsS : Try.prog.cellsOf 22 = 1 := by kernel_rfl
theorem cellsP : Try.prog.cellsOf 24 = 10 := by kernel_rfl
set_option maxRecDepth 100000 in
theorem open_sl {H : Type} {enc : TypeId × Value → H} {W : World} {fuel : Nat} {v : Value} {x : DataW H × List MemPlace} (hf : DataW.trod enc Try.prog W 0 (fun _ => true) true fuel 22 [v] = some x)
    (hw : ∀ y ∈ DataW.weights Try.prog 22 x.1, y ≤ reachBytes) : ∃ l, Sl W v l := by
  obtain ⟨n, f, S⟩ := open_sb hf
  refine ⟨bl f n, sb_sl S ?_⟩
  obtain ⟨sa, scap, rfl, _⟩ := S
  rcases open_ints Try.underlying22 Try.underlying5 cells5 hf with ⟨hcs, hx⟩ | ⟨a, len, cap, zs, hcs, _, hl, hm, hz, hx, hcell, hwz⟩
  · simp only [List.cons.injEq, Value.slice.injEq, and_true] at hcs
    omega
  · simp only [List.cons.injEq, Value.slice.injEq, and_true] at hcs
    obtain ⟨rfl, rfl, rfl⟩ := hcs
    simp only [if_true] at hz
    subst hx
    have hb := hw (((lits .u8 (zs.take n) : List (DataW H)).length + (lits .u8 (zs.drop n) : List (DataW H)).length) * Try.prog.bytesOf 5) (by
      show _ ∈ DataW.weights Try.prog 22 (.slice _ _)
      rw [DataW.weights, Try.underlying22]
      exact List.mem_cons_self ..)
    rw [bytes5, Nat.mul_one] at hb
    have hlen : (lits .u8 (zs.take n) : List (DataW H)).length + (lits .u8 (zs.drop n) : List (DataW H)).length = scap := by simp [lits]; omega
    rw [hlen] at hb
    unfold reachBytes at hb
    omega
theorem list10 {α : Type} : ∀ {l : List α}, l.length = 10 → ∃ a0 a1 a2 a3 a4 a5 a6 a7 a8 a9, l = [a0, a1, a2, a3, a4, a5, a6, a7, a8, a9]
  | [_, _, _, _, _, _, _, _, _, _], _ => ⟨_, _, _, _, _, _, _, _, _, _, rfl⟩
set_option maxRecDepth 100000 in
set_option maxHeartbeats 2000000 in
theorem open_cs {H : Type} {enc : TypeId × Value → H} {W : World} {fuel : Nat} {l : List Value} (hl : l.length = 10) {x : DataW H × List MemPlace} (hf : DataW.trod enc Try.prog W 0 (fun _ => true) true fuel 24 l = some x)
    (hw : ∀ y ∈ DataW.weights Try.prog 24 x.1, y ≤ reachBytes) : ∃ f dv, l = fvs f dv ∧ Fm W f dv := by
  obtain ⟨c0, c1, c2, c3, c4, c5, c6, c7, c8, c9, rfl⟩ := list10 hl
  obtain ⟨xs, n, _, hx, hl, hlen, hg⟩ := DataW.trod_struct Try.underlying24 hf
  match xs, hlen with
  | [x0, x1, x2, x3, x4, x5, x6, x7, x8, x9], _ =>
    subst hx
    have g0 := hg 0 _ rfl
    have g1 := hg 1 _ rfl
    have g2 := hg 2 _ rfl
    have g3 := hg 3 _ rfl
    have g4 := hg 4 _ rfl
    have g5 := hg 5 _ rfl
    have g6 := hg 6 _ rfl
    have g7 := hg 7 _ rfl
    have g8 := hg 8 _ rfl
    have g9 := hg 9 _ rfl
    simp [Value.cells, cellsI, cellsB, cellsS] at g0 g1 g2 g3 g4 g5 g6 g7 g8 g9
    obtain ⟨a0, e0, _, _⟩ := DataW.trod_int Try.underlying3 g0
    obtain ⟨a1, e1, _⟩ := DataW.trod_bool Try.underlying4 g1
    obtain ⟨a2, e2, _⟩ := DataW.trod_bool Try.underlying4 g2
    obtain ⟨a3, e3, _⟩ := DataW.trod_bool Try.underlying4 g3
    obtain ⟨a4, e4, _, _⟩ := DataW.trod_int Try.underlying3 g4
    obtain ⟨a5, e5, _, _⟩ := DataW.trod_int Try.underlying3 g5
    obtain ⟨a6, e6, _, _⟩ := DataW.trod_int Try.underlying3 g6
    obtain ⟨a7, e7, _, _⟩ := DataW.trod_int Try.underlying3 g7
    obtain ⟨a8, e8, _, _⟩ := DataW.trod_int Try.underlying3 g8
    obtain ⟨dg, D⟩ := open_sl g9 fun y hy => hw y (by
      show y ∈ DataW.weights Try.prog 24 (.agg [x0.1, x1.1, x2.1, x3.1, x4.1, x5.1, x6.1, x7.1, x8.1, x9.1])
      rw [DataW.weights, Try.underlying24]
      show y ∈ DataW.weightsEach Try.prog [3, 4, 4, 4, 3, 3, 3, 3, 3, 22] [x0.1, x1.1, x2.1, x3.1, x4.1, x5.1, x6.1, x7.1, x8.1, x9.1]
      iterate 10 rw [DataW.weightsEach]
      iterate 9 refine List.mem_append_right _ ?_
      exact List.mem_append_left _ hy)
    simp only [List.cons.injEq, and_true] at e0 e1 e2 e3 e4 e5 e6 e7 e8
    exact ⟨⟨a0, a1, a2, a3, a4, a5, a6, a7, a8, dg⟩, c9, by rw [e0, e1, e2, e3, e4, e5, e6, e7, e8]; rfl, D⟩
theorem open_fr {H : Type} {enc : TypeId × Value → H} {W : World} {base : Nat} {v : Value} {d : DataW H} {pl : List MemPlace}
    (hv : Value.okWide Try.prog W .any base 24 v) (h : DataW.Trod enc Try.prog W 0 (fun _ => true) true 24 v d pl)
    (hw : ∀ y ∈ DataW.weights Try.prog 24 d, y ≤ reachBytes) : ∃ f dv, v = FV f dv ∧ Fm W f dv := by
  obtain ⟨cs, rfl, hsz⟩ := okWide_struct Try.underlying24 hv
  obtain ⟨l⟩ := cs
  obtain ⟨fuel, hf⟩ := h
  obtain ⟨f, dv, e, F⟩ := open_cs (l := l) (by simpa using hsz.trans cellsP) hf hw
  subst e
  exact ⟨f, dv, rfl, F⟩
end Go.Proofs.Yteigmnbbfmcihaa.Ct
