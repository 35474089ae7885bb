/-
  A packet that comes in, opened.
  Conditions: none.
-/
import Derived.Test.YtmjbnbjkpimjmaaWiW
import Derived.Test.YtmjbnbjkpimjmaaByB
namespace Go.Proofs.Ytmjbnbjkpimjmaa.Wi
open Go.RowKit Go.ChangeShapes Go.WideShapes Go.ChangeAt Go.Joins By
set_option linter.unusedVariables false
set_option linter.unusedSimpArgs false

theorem cellsI : Try.prog.cellsOf 3 = 1 := by kernel_rfl
theorem cellsU4 : Try.prog.cellsOf 22 = 1 := by kernel_rfl
theorem cellsU8 : Try.prog.cellsOf 23 = 1 := by kernel_rfl
theorem cellsA : Try.prog.cellsOf 27 = 1 := by kernel_rfl
theorem cellsS : Try.prog.cellsOf 28 = 1 := by kernel_rfl
theorem cellsR : Try.prog.cellsOf 26 = 1 := by kernel_rfl
theorem cellsF : Try.prog.cellsOf 51 = 2 := by kernel_rfl
theorem cellsH : Try.prog.cellsOf 25 = 13 := by kernel_rfl
theorem cellsP : Try.prog.cellsOf 30 = 17 := by kernel_rfl
theorem weightsAll_mem {H : Type} {P : Program} {e : TypeId} {d : DataW H} {y : Nat} (hy : y ∈ d.weights P e) : ∀ {l : List (DataW H)}, d ∈ l → y ∈ DataW.weightsAll P e l
  | [], h => by cases h
  | x :: r, h => by
    rw [DataW.weightsAll]
    rcases List.mem_cons.1 h with rfl | h
    · exact List.mem_append_left _ hy
    · exact List.mem_append_right _ (weightsAll_mem hy h)
set_option maxRecDepth 100000 in
theorem open_sl {H : Type} {enc : TypeId × Value → H} {W : World} {fuel : Nat} {v : Value} {x : DataW H × List MemPlace} (hf : DataW.trod enc Try.prog W 0 (fun _ => true) true fuel 28 [v] = some x)
    (hw : ∀ y ∈ DataW.weights Try.prog 28 x.1, y ≤ reachBytes) : ∃ l, Sl W v l := by
  obtain ⟨n, f, S⟩ := open_sb hf
  refine ⟨bl f n, sb_sl S ?_⟩
  obtain ⟨sa, scap, rfl, _⟩ := S
  rcases open_ints Try.underlying28 Try.underlying5 cells5 hf with ⟨hcs, hx⟩ | ⟨a, len, cap, zs, hcs, _, hl, hm, hz, hx, hcell, hwz⟩
  · simp only [List.cons.injEq, Value.slice.injEq, and_true] at hcs
    omega
  · simp only [List.cons.injEq, Value.slice.injEq, and_true] at hcs
    obtain ⟨rfl, rfl, rfl⟩ := hcs
    simp only [if_true] at hz
    subst hx
    have hb := hw (((lits .u8 (zs.take n) : List (DataW H)).length + (lits .u8 (zs.drop n) : List (DataW H)).length) * Try.prog.bytesOf 5) (by
      show _ ∈ DataW.weights Try.prog 28 (.slice _ _)
      rw [DataW.weights, Try.underlying28]
      exact List.mem_cons_self ..)
    rw [bytes5, Nat.mul_one] at hb
    have hlen : (lits .u8 (zs.take n) : List (DataW H)).length + (lits .u8 (zs.drop n) : List (DataW H)).length = scap := by simp [lits]; omega
    rw [hlen] at hb
    unfold reachBytes at hb
    omega
set_option maxRecDepth 100000 in
theorem open_fd {H : Type} {enc : TypeId × Value → H} {W : World} {fuel : Nat} {c0 c1 : Value} {x : DataW H × List MemPlace} (h : DataW.trod enc Try.prog W 0 (fun _ => true) true fuel 51 [c0, c1] = some x)
    (hw : ∀ y ∈ DataW.weights Try.prog 51 x.1, y ≤ reachBytes) : ∃ (a : Int) (l : List Nat), c0 = .int .i64 a ∧ Sl W c1 l := by
  obtain ⟨y0, y1, n, rfl, _, g0, g1⟩ := trod_struct2 Try.underlying51 h
  simp [cellsI, cellsS] at g0 g1
  obtain ⟨a0, e0, _, _⟩ := DataW.trod_int Try.underlying3 g0
  simp only [List.cons.injEq, and_true] at e0
  obtain ⟨l, S⟩ := open_sl g1 fun y hy => hw y (by
    show y ∈ DataW.weights Try.prog 51 (.agg [y0.1, y1.1])
    rw [DataW.weights, Try.underlying51]
    show y ∈ DataW.weightsEach Try.prog [3, 28] [y0.1, y1.1]
    rw [DataW.weightsEach, DataW.weightsEach]
    exact List.mem_append_right _ (List.mem_append_left _ hy))
  exact ⟨a0, l, e0, S⟩
set_option maxRecDepth 100000 in
theorem open_fs {H : Type} {enc : TypeId × Value → H} {W : World} {fuel : Nat} {v : Value} {x : DataW H × List MemPlace} (hf : DataW.trod enc Try.prog W 0 (fun _ => true) true fuel 26 [v] = some x)
    (hw : ∀ y ∈ DataW.weights Try.prog 26 x.1, y ≤ reachBytes) : ∃ L V, Fs W v L V := by
  rcases Go.Deep.open_slice Try.underlying26 hf with ⟨hcs, _⟩ | ⟨a, len, cap, m, n, D, Pl, hcs, _, hl, hm, hmm, hx, hall⟩
  · simp only [List.cons.injEq, and_true] at hcs
    subst hcs
    exact ⟨[], fun _ => .slice none 0 0, none, 0, rfl, Nat.le_refl _, by omega, fun h => absurd h (by simp), fun j hj => absurd hj (by simp)⟩
  · simp only [List.cons.injEq, and_true] at hcs
    subst hcs
    simp only [if_true] at hmm
    subst hmm
    have hwi : ∀ i, i < len → ∀ y ∈ DataW.weights Try.prog 51 (D i), y ≤ reachBytes := fun i hi y hy => hw y (by
      rw [hx]
      show y ∈ DataW.weights Try.prog 26 (.slice _ _)
      rw [DataW.weights, Try.underlying26]
      exact List.mem_cons_of_mem _ (List.mem_append_left _ (weightsAll_mem hy (List.mem_map.2 ⟨i, List.mem_range.2 hi, rfl⟩))))
    have each : ∀ i, i < len → ∃ k : Fd × Value, (W.cell? (a.add (i * 2)) = some (.int .i64 k.1.1) ∧ W.cell? (a.add (i * 2 + 1)) = some k.2) ∧ Sl W k.2 k.1.2 := by
      intro i hi
      obtain ⟨cs', h1, h2⟩ := hall i (by omega)
      rw [cellsF] at h1
      obtain ⟨_, hlen, hcell⟩ := World.cells?_some h1
      match cs', hlen with
      | [c0, c1], _ =>
        obtain ⟨x0, l, e0, S⟩ := open_fd h2 (hwi i hi)
        have q0 := hcell 0 (by omega)
        have q1 := hcell 1 (by omega)
        rw [Go.Deep.add_add] at q0 q1
        exact ⟨((x0, l), c1), ⟨by rw [← e0]; simpa using q0, by simpa using q1⟩, S⟩
    haveI : Inhabited (Fd × Value) := ⟨(f0, .slice none 0 0)⟩
    obtain ⟨K, hK⟩ := Go.Deep.choose_lt each
    have hlen : ((List.range len).map fun i => (K i).1).length = len := by simp
    have hget : ∀ j, j < len → ((List.range len).map fun i => (K i).1).getD j f0 = (K j).1 := fun j hj => by simp [List.getD_eq_getElem?_getD, hj]
    refine ⟨(List.range len).map fun i => (K i).1, fun j => (K j).2, some a, m, by rw [hlen], by rw [hlen]; exact hl, by unfold maxLen at hm; omega, fun hn => ?_, fun j hj => ?_⟩
    · rw [hlen] at hn
      have c0 := (hK 0 hn).1.1
      obtain ⟨b, off, s⟩ := a
      have sp : s = none := by simpa [Addr.add] using World.cell?_spot c0
      subst sp
      refine ⟨b, off, rfl, World.block_lt_of_cell? W _ (show W.cell? ⟨b, off, none⟩ = some _ by simpa [Addr.add] using c0), fun j hj => ?_⟩
      rw [hlen] at hj
      rw [hget j hj]
      obtain ⟨⟨q0, q1⟩, _⟩ := hK j hj
      rw [add_plain] at q0 q1
      exact ⟨q0, by rw [Nat.add_assoc]; exact q1⟩
    · rw [hlen] at hj
      rw [hget j hj]
      exact (hK j hj).2
theorem list17 {α : Type} : ∀ {l : List α}, l.length = 17 → ∃ a0 a1 a2 a3 a4 a5 a6 a7 a8 a9 b0 b1 b2 b3 b4 b5 b6, l = [a0, a1, a2, a3, a4, a5, a6, a7, a8, a9, b0, b1, b2, b3, b4, b5, b6]
  | [_, _, _, _, _, _, _, _, _, _, _, _, _, _, _, _, _], _ => ⟨_, _, _, _, _, _, _, _, _, _, _, _, _, _, _, _, _, rfl⟩
set_option maxRecDepth 100000 in
set_option maxHeartbeats 2000000 in
theorem open_pk {H : Type} {enc : TypeId × Value → H} {W : World} {base : Nat} {v : Value} {d : DataW H} {pl : List MemPlace}
    (hv : Value.okWide Try.prog W .any base 30 v) (h : DataW.Trod enc Try.prog W 0 (fun _ => true) true 30 v d pl)
    (hw : ∀ y ∈ DataW.weights Try.prog 30 d, y ≤ reachBytes) : ∃ p fv dv V, v = PV p fv dv ∧ Pm W p fv dv V := by
  obtain ⟨cs, rfl, hsz⟩ := okWide_struct Try.underlying30 hv
  obtain ⟨l⟩ := cs
  obtain ⟨c0, c1, c2, c3, c4, c5, c6, c7, c8, c9, d0, d1, d2, d3, d4, d5, d6, rfl⟩ := list17 (l := l) (by simpa using hsz.trans cellsP)
  obtain ⟨fuel, hf⟩ := h
  obtain ⟨xs, n, _, hx, hl, hlen, hf⟩ := DataW.trod_struct Try.underlying30 hf
  simp only [Prod.mk.injEq] at hx
  match xs, hlen with
  | [x0, x1, x2, x3, x4], _ =>
    have hwd : ∀ y, y ∈ DataW.weights Try.prog 26 x1.1 ∨ y ∈ DataW.weights Try.prog 28 x4.1 → y ≤ reachBytes := fun y hy => hw y (by
      rw [hx.1]
      show y ∈ DataW.weights Try.prog 30 (.agg [x0.1, x1.1, x2.1, x3.1, x4.1])
      rw [DataW.weights, Try.underlying30]
      show y ∈ DataW.weightsEach Try.prog [25, 26, 27, 22, 28] [x0.1, x1.1, x2.1, x3.1, x4.1]
      rw [DataW.weightsEach, DataW.weightsEach, DataW.weightsEach, DataW.weightsEach, DataW.weightsEach]
      rcases hy with hy | hy
      · exact List.mem_append_right _ (List.mem_append_left _ hy)
      · exact List.mem_append_right _ (List.mem_append_right _ (List.mem_append_right _ (List.mem_append_right _ (List.mem_append_left _ hy)))))
    have g0 := hf 0 _ rfl
    have g1 := hf 1 _ rfl
    have g2 := hf 2 _ rfl
    have g3 := hf 3 _ rfl
    have g4 := hf 4 _ rfl
    simp [Value.cells, cellsH, cellsR, cellsA, cellsU4, cellsS] at g0 g1 g2 g3 g4
    obtain ⟨L, V, F⟩ := open_fs g1 fun y hy => hwd y (.inl hy)
    obtain ⟨au', ea, _, _⟩ := DataW.trod_int Try.underlying27 g2
    obtain ⟨ky, ek, _, wk⟩ := DataW.trod_int Try.underlying22 g3
    obtain ⟨dg, D⟩ := open_sl g4 fun y hy => hwd y (.inr hy)
    simp only [List.cons.injEq, and_true] at ea ek
    obtain ⟨ys, k, _, _, _, hlen2, hf2⟩ := DataW.trod_struct Try.underlying25 g0
    match ys, hlen2 with
    | [y0, y1, y2, y3, y4, y5, y6, y7, y8, y9, z0, z1, z2], _ =>
      have k0 := hf2 0 _ rfl
      have k1 := hf2 1 _ rfl
      have k2 := hf2 2 _ rfl
      have k3 := hf2 3 _ rfl
      have k4 := hf2 4 _ rfl
      have k5 := hf2 5 _ rfl
      have k6 := hf2 6 _ rfl
      have k7 := hf2 7 _ rfl
      have k8 := hf2 8 _ rfl
      have k9 := hf2 9 _ rfl
      have k10 := hf2 10 _ rfl
      have k11 := hf2 11 _ rfl
      have k12 := hf2 12 _ rfl
      simp [cellsI, cellsU4, cellsU8] at k0 k1 k2 k3 k4 k5 k6 k7 k8 k9 k10 k11 k12
      obtain ⟨a0, e0, _, _⟩ := DataW.trod_int Try.underlying3 k0
      obtain ⟨a1, e1, _, _⟩ := DataW.trod_int Try.underlying3 k1
      obtain ⟨a2, e2, _, _⟩ := DataW.trod_int Try.underlying3 k2
      obtain ⟨a3, e3, _, _⟩ := DataW.trod_int Try.underlying3 k3
      obtain ⟨a4, e4, _, _⟩ := DataW.trod_int Try.underlying3 k4
      obtain ⟨a5, e5, _, _⟩ := DataW.trod_int Try.underlying3 k5
      obtain ⟨a6, e6, _, w6⟩ := DataW.trod_int Try.underlying22 k6
      obtain ⟨a7, e7, _, w7⟩ := DataW.trod_int Try.underlying22 k7
      obtain ⟨a8, e8, _, w8⟩ := DataW.trod_int Try.underlying22 k8
      obtain ⟨a9, e9, _, w9⟩ := DataW.trod_int Try.underlying23 k9
      obtain ⟨b0, e10, _, w10⟩ := DataW.trod_int Try.underlying23 k10
      obtain ⟨b1, e11, _, w11⟩ := DataW.trod_int Try.underlying23 k11
      obtain ⟨b2, e12, _, w12⟩ := DataW.trod_int Try.underlying23 k12
      simp only [List.cons.injEq, and_true] at e0 e1 e2 e3 e4 e5 e6 e7 e8 e9 e10 e11 e12
      simp [Lit.wf, IntKind.min, IntKind.max, IntKind.bits, IntKind.signed] at wk w6 w7 w8 w9 w10 w11 w12
      refine ⟨⟨a0, a1, a2, a3, a4, a5, a6.toNat, a7.toNat, a8.toNat, a9.toNat, b0.toNat, b1.toNat, b2.toNat, L, au', ky.toNat, dg⟩, d3, d6, V, ?_, F, D, ?_⟩
      · simp only [PV, Int.toNat_of_nonneg w6.1, Int.toNat_of_nonneg w7.1, Int.toNat_of_nonneg w8.1, Int.toNat_of_nonneg w9.1, Int.toNat_of_nonneg w10.1, Int.toNat_of_nonneg w11.1, Int.toNat_of_nonneg w12.1, Int.toNat_of_nonneg wk.1]
        rw [e0, e1, e2, e3, e4, e5, e6, e7, e8, e9, e10, e11, e12, ea, ek]
      · refine ⟨by show a6.toNat < _; omega, by show a7.toNat < _; omega, by show a8.toNat < _; omega, by show a9.toNat < _; omega, by show b0.toNat < _; omega, by show b1.toNat < _; omega, by show b2.toNat < _; omega, by show ky.toNat < _; omega, D.2.1, fun f hf => ?_⟩
        obtain ⟨_, _, _, _, _, _, hall⟩ := F
        obtain ⟨j, hj, rfl⟩ := List.mem_iff_getElem.1 hf
        have := (hall j hj).2.1
        rwa [List.getD_eq_getElem?_getD, List.getElem?_eq_getElem hj, Option.getD_some] at this
end Go.Proofs.Ytmjbnbjkpimjmaa.Wi
