/-
  Rows of frames that come in.
  Conditions: none.
-/
import Derived.Test.YteigmnbbfmcihaaCtL
import Derived.Test.YteigmnbbfmcihaaCtP
import Derived.Test.YteigmnbbfmcihaaShelfF
namespace Go.Proofs.Yteigmnbbfmcihaa.Ct
open Go.RowKit Go.ChangeShapes Go.WideShapes Go.ChangeAt Go.Joins By
set_option linter.unusedVariables false
set_option linter.unusedSimpArgs false

/-- the value v is a row of the frames L, each with its data's value. -/
def Fl (w : World) (v : Value) (L : List (Fr × Value)) : Prop :=
  ∃ a cap, v = .slice a L.length cap ∧ L.length ≤ cap ∧ cap ≤ 9223372036854775807 ∧ (0 < L.length → ∃ b off, a = some ⟨b, off, none⟩ ∧ b < w.heap.size ∧ ∀ j, j < L.length → ∀ k, k < 10 → w.cell? ⟨b, off + j * 10 + k, none⟩ = (fvs (L.getD j d0).1 (L.getD j d0).2)[k]?) ∧ ∀ x ∈ L, Sl w x.2 x.1.dat
theorem Fl.below {w w' : World} {v : Value} {L : List (Fr × Value)} (h : Fl w v L) (q : Below w.heap.size w w') : Fl w' v L := by
  obtain ⟨a, cap, e, h1, h2, h3, h4⟩ := h
  refine ⟨a, cap, e, h1, h2, fun hn => ?_, fun x hx => (h4 x hx).below q⟩
  obtain ⟨b, off, ea, hb, B⟩ := h3 hn
  exact ⟨b, off, ea, Nat.lt_of_lt_of_le hb q.size, fun j hj k hk => (q.cell (p := ⟨b, off + j * 10 + k, none⟩) hb).trans (B j hj k hk)⟩
theorem Fl.form {w : World} {v : Value} {L : List (Fr × Value)} (h : Fl w v L) : ∃ a cap, v = .slice a L.length cap := by
  obtain ⟨a, cap, e, _⟩ := h
  exact ⟨a, cap, e⟩
theorem nil_fl (w : World) : Fl w (.slice none 0 0) [] := ⟨none, 0, rfl, Nat.le_refl _, by omega, fun h => absurd h (by simp), fun j h => absurd h (by simp)⟩
/-- a row of frames of the call's own is one. -/
theorem Rowf.fl {w : World} {base : Nat} {v : Value} {row : List (Fr × Value)} (h : Rowf w base v row) (hd : ∀ x ∈ row, (∀ y ∈ x.1.dat, y < 256) ∧ x.1.dat.length ≤ 140737488351232) : Fl w v row := by
  have hs : ∀ x ∈ row, Sl w x.2 x.1.dat := fun x hx => out_sl (own_out (h.2 x hx) (hd x hx).1) (hd x hx).2
  rcases h.1.1.2 with ⟨hv, h0⟩ | ⟨g, cap, cur, hv, hb, hh, hc, hm, _⟩
  · exact ⟨none, 0, by rw [hv, h0], by omega, by omega, fun h => by omega, hs⟩
  · subst hv
    refine ⟨_, cap, rfl, hc, by unfold maxLen at hm; omega, fun _ => ⟨g, 0, rfl, (Array.getElem?_eq_some_iff.1 hh).1, fun j hj k hk => ?_⟩, hs⟩
    have e := rcs_at row j _ (List.getElem?_eq_getElem hj) k hk
    rw [List.getD_eq_getElem?_getD, List.getElem?_eq_getElem hj, Option.getD_some]
    have := (h.1.1.cellAt (j * 10 + k) (by omega)).trans e
    simpa using this
theorem weightsAll_mem {H : Type} {P : Program} {e : TypeId} {d : DataW H} {y : Nat} (hy : y ∈ d.weights P e) : ∀ {l : List (DataW H)}, d ∈ l → y ∈ DataW.weightsAll P e l
  | x :: r, h => by
    rw [DataW.weightsAll]
    rcases List.mem_cons.1 h with rfl | h
    · exact List.mem_append_left _ hy
    · exact List.mem_append_right _ (weightsAll_mem hy h)
set_option maxRecDepth 100000 in
theorem open_frs {H : Type} {enc : TypeId × Value → H} {W : World} {fuel : Nat} {v : Value} {x : DataW H × List MemPlace} (hf : DataW.trod enc Try.prog W 0 (fun _ => true) true fuel 37 [v] = some x)
    (hw : ∀ y ∈ DataW.weights Try.prog 37 x.1, y ≤ reachBytes) : ∃ L, Fl W v L := by
  rcases Go.Deep.open_slice Try.underlying37 hf with ⟨hcs, _⟩ | ⟨a, len, cap, m, n, D, Pl, hcs, _, hl, hm, hmm, hx, hall⟩
  · simp only [List.cons.injEq, and_true] at hcs
    subst hcs
    exact ⟨[], nil_fl W⟩
  · simp only [List.cons.injEq, and_true] at hcs
    subst hcs
    simp only [if_true] at hmm
    subst hmm
    have hwi : ∀ i, i < len → ∀ y ∈ DataW.weights Try.prog 24 (D i), y ≤ reachBytes := fun i hi y hy => hw y (by
      rw [hx]
      show y ∈ DataW.weights Try.prog 37 (.slice _ _)
      rw [DataW.weights, Try.underlying37]
      exact List.mem_cons_of_mem _ (List.mem_append_left _ (weightsAll_mem hy (List.mem_map.2 ⟨i, List.mem_range.2 hi, rfl⟩))))
    have each : ∀ i, i < len → ∃ k : Fr × Value, (∀ j, j < 10 → W.cell? ((a.add (i * 10)).add j) = (fvs k.1 k.2)[j]?) ∧ Sl W k.2 k.1.dat := by
      intro i hi
      obtain ⟨cs', h1, h2⟩ := hall i (by omega)
      rw [cellsP] at h1
      obtain ⟨_, hlen, hcell⟩ := World.cells?_some h1
      obtain ⟨f, dv, e, F⟩ := open_cs hlen h2 (hwi i hi)
      subst e
      exact ⟨(f, dv), fun j hj => by have := hcell j (by simpa using hj); simpa using this, F⟩
    haveI : Inhabited (Fr × Value) := ⟨d0⟩
    obtain ⟨K, hK⟩ := Go.Deep.choose_lt each
    have hlen : ((List.range len).map fun i => K i).length = len := by simp
    have hget : ∀ j, j < len → ((List.range len).map fun i => K i).getD j d0 = K j := fun j hj => by simp [List.getD_eq_getElem?_getD, hj]
    refine ⟨(List.range len).map fun i => K i, some a, m, by rw [hlen], by rw [hlen]; exact hl, by unfold maxLen at hm; omega, fun hn => ?_, fun x hx => ?_⟩
    · rw [hlen] at hn
      have c0 : W.cell? ((a.add (0 * 10)).add 0) = some (.int .i64 (K 0).1.ver) := (hK 0 hn).1 0 (by omega)
      obtain ⟨b, off, s⟩ := a
      have sp : s = none := by simpa [Addr.add] using World.cell?_spot c0
      subst sp
      refine ⟨b, off, rfl, World.block_lt_of_cell? W _ (show W.cell? ⟨b, off, none⟩ = some _ by simpa [Addr.add] using c0), fun j hj k hk => ?_⟩
      rw [hlen] at hj
      rw [hget j hj]
      have q := (hK j hj).1 k hk
      rw [add_plain, add_plain] at q
      exact q
    · obtain ⟨i, hi, rfl⟩ := List.mem_map.1 hx
      exact (hK i (List.mem_range.1 hi)).2
end Go.Proofs.Yteigmnbbfmcihaa.Ct
