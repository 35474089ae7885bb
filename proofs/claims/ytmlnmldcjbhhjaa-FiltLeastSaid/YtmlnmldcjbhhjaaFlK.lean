/-
  Samples that come in.
  Conditions: none.
-/
import Derived.Test.YtmlnmldcjbhhjaaFlI
import Derived.Deep.SlicePairs
namespace Go.Proofs.Ytmlnmldcjbhhjaa.Fl
open Go.RowKit Go.ChangeShapes Go.WideShapes Go.ChangeAt Go.Joins
set_option linter.unusedVariables false
set_option linter.unusedSimpArgs false

theorem cellsT : Try.prog.cellsOf 23 = 1 := by kernel_rfl
theorem cellsM : Try.prog.cellsOf 30 = 4 := by kernel_rfl
theorem bytesM : Try.prog.bytesOf 30 = 32 := by kernel_rfl
theorem list4 {α : Type} : ∀ {l : List α}, l.length = 4 → ∃ a0 a1 a2 a3, l = [a0, a1, a2, a3]
  | [_, _, _, _], _ => ⟨_, _, _, _, rfl⟩
set_option maxRecDepth 100000 in
theorem open_cs {H : Type} {enc : TypeId × Value → H} {W : World} {fuel : Nat} {l : List Value} (hl : l.length = 4) {x : DataW H × List MemPlace} (hf : DataW.trod enc Try.prog W 0 (fun _ => true) true fuel 30 l = some x) :
    ∃ s, l = svs s ∧ i64S s := by
  obtain ⟨c0, c1, c2, c3, rfl⟩ := list4 hl
  obtain ⟨xs, n, _, hx, hl, hlen, hg⟩ := DataW.trod_struct Try.underlying30 hf
  match xs, hlen with
  | [x0, x1, x2, x3], _ =>
    subst hx
    have g0 := hg 0 _ rfl
    have g1 := hg 1 _ rfl
    have g2 := hg 2 _ rfl
    have g3 := hg 3 _ rfl
    simp [Value.cells, cellsT] at g0 g1 g2 g3
    obtain ⟨a0, e0, _, w0⟩ := DataW.trod_int Try.underlying23 g0
    obtain ⟨a1, e1, _, w1⟩ := DataW.trod_int Try.underlying23 g1
    obtain ⟨a2, e2, _, w2⟩ := DataW.trod_int Try.underlying23 g2
    obtain ⟨a3, e3, _, w3⟩ := DataW.trod_int Try.underlying23 g3
    simp only [List.cons.injEq, and_true] at e0 e1 e2 e3
    exact ⟨⟨a0, a1, a2, a3⟩, by rw [e0, e1, e2, e3]; rfl, bounds_i64 w0, bounds_i64 w1, bounds_i64 w2, bounds_i64 w3⟩
theorem open_sm {H : Type} {enc : TypeId × Value → H} {W : World} {base : Nat} {v : Value} {d : DataW H} {pl : List MemPlace}
    (hv : Value.okWide Try.prog W .any base 30 v) (h : DataW.Trod enc Try.prog W 0 (fun _ => true) true 30 v d pl) : ∃ s, v = SV s ∧ i64S s := by
  obtain ⟨cs, rfl, hsz⟩ := okWide_struct Try.underlying30 hv
  obtain ⟨l⟩ := cs
  obtain ⟨fuel, hf⟩ := h
  obtain ⟨s, e, w⟩ := open_cs (l := l) (by simpa using hsz.trans cellsM) hf
  subst e
  exact ⟨s, rfl, w⟩
/-- the value v is a slice of the samples L. -/
def Ss (w : World) (v : Value) (L : List Sm) : Prop :=
  ∃ a cap, v = .slice a L.length cap ∧ L.length ≤ cap ∧ cap ≤ 9223372036854775807 ∧ (0 < L.length → ∃ b off, a = some ⟨b, off, none⟩ ∧ Ls w b off L)
theorem Ss.below {w w' : World} {v : Value} {L : List Sm} (h : Ss w v L) (q : Below w.heap.size w w') : Ss w' v L := by
  obtain ⟨a, cap, e, h1, h2, h3⟩ := h
  exact ⟨a, cap, e, h1, h2, fun hn => by obtain ⟨b, off, ea, B⟩ := h3 hn; exact ⟨b, off, ea, B.below q⟩⟩
set_option maxRecDepth 100000 in
theorem open_sms {H : Type} {enc : TypeId × Value → H} {W : World} {base : Nat} {v : Value} {d : DataW H} {pl : List MemPlace}
    (hv : Value.okWide Try.prog W .any base 22 v) (h : DataW.Trod enc Try.prog W 0 (fun _ => true) true 22 v d pl)
    (hs : ∀ es sp, d = .slice es sp → (es.length + sp.length) * Try.prog.bytesOf 30 ≤ reachBytes) : ∃ L, Ss W v L ∧ (∀ s ∈ L, i64S s) ∧ L.length * 32 ≤ 140737488351232 := by
  obtain ⟨a0, len0, cap0, rfl⟩ := okWide_slice Try.underlying22 hv
  obtain ⟨fuel, hf0⟩ := h
  have hf : DataW.trod enc Try.prog W 0 (fun _ => true) true fuel 22 [.slice a0 len0 cap0] = some (d, pl) := by simpa [Value.cells] using hf0
  rcases Go.Deep.open_slice Try.underlying22 hf with ⟨hcs, _⟩ | ⟨a, len, cap, m, n, D, Pl, hcs, _, hl, hm, hmm, hx, hall⟩
  · simp only [List.cons.injEq, and_true] at hcs
    rw [hcs]
    exact ⟨[], ⟨none, 0, rfl, by simp, by omega, fun hn => absurd hn (by simp)⟩, fun x hx => absurd hx (by simp), by simp⟩
  · simp only [List.cons.injEq, and_true] at hcs
    rw [hcs]
    simp only [if_true] at hmm
    subst hmm
    have hd := congrArg Prod.fst hx
    have sz := hs _ _ hd
    rw [bytesM] at sz
    unfold reachBytes at sz
    have each : ∀ i, i < len → ∃ k : Sm, (∀ j, j < 4 → W.cell? ((a.add (i * 4)).add j) = (svs k)[j]?) ∧ i64S k := by
      intro i hi
      obtain ⟨cs', h1, h2⟩ := hall i (by omega)
      rw [cellsM] at h1
      obtain ⟨_, hlen, hcell⟩ := World.cells?_some h1
      obtain ⟨s, e, w⟩ := open_cs hlen h2
      subst e
      exact ⟨s, fun j hj => by have := hcell j (by simpa using hj); simpa using this, w⟩
    obtain ⟨K, hK⟩ := Go.Deep.choose_lt each
    have hlen : ((List.range len).map fun i => K i).length = len := by simp
    have hget : ∀ j s, ((List.range len).map fun i => K i)[j]? = some s → j < len ∧ s = K j := fun j s hj => by
      have l := (List.getElem?_eq_some_iff.1 hj).1
      rw [hlen] at l
      refine ⟨l, ?_⟩
      simpa [l] using hj.symm
    refine ⟨(List.range len).map fun i => K i, ⟨some a, m, by rw [hlen], by rw [hlen]; exact hl, by unfold maxLen at hm; omega, fun hn => ?_⟩, fun x hx => ?_, by rw [hlen]; simp at sz; omega⟩
    · rw [hlen] at hn
      have c0 : W.cell? ((a.add (0 * 4)).add 0) = some (.int .i64 (K 0).off) := (hK 0 hn).1 0 (by omega)
      obtain ⟨b, off, s⟩ := a
      have sp : s = none := by simpa [Addr.add] using World.cell?_spot c0
      subst sp
      refine ⟨b, off, rfl, World.block_lt_of_cell? W _ (show W.cell? ⟨b, off, none⟩ = some _ by simpa [Addr.add] using c0), fun j s hj i v hi => ?_⟩
      obtain ⟨hj', rfl⟩ := hget j s hj
      have i4 : i < 4 := by have := (List.getElem?_eq_some_iff.1 hi).1; rwa [svs_len] at this
      have q := (hK j hj').1 i i4
      rw [add_plain, add_plain] at q
      rw [q]
      exact hi
    · obtain ⟨i, hi, rfl⟩ := List.mem_map.1 hx
      exact (hK i (List.mem_range.1 hi)).2
end Go.Proofs.Ytmlnmldcjbhhjaa.Fl
