/-
  Bytes that come in, of any capacity; bytes of the call's own that may be written.
  Conditions: none.
-/
import Derived.Test.YteigmnbbfmcihaaByA
import Derived.Deep.Slices
namespace Go.Proofs.Yteigmnbbfmcihaa.By
open Go.ChangeShapes Go.WideShapes Go.ChangeAt Go.RowKit Go.Joins
set_option linter.unusedVariables false
set_option linter.unusedSimpArgs false

theorem bl_byte {f : Nat → Nat} {n : Nat} (h : ∀ i, i < n → f i < 256) : ∀ x ∈ bl f n, x < 256 := by
  intro x hx
  simp only [bl, List.mem_map, List.mem_range] at hx
  obtain ⟨i, hi, rfl⟩ := hx
  exact h i hi

/-- the value v is a slice of n bytes, byte i is f i. -/
def Sb (w : World) (v : Value) (n : Nat) (f : Nat → Nat) : Prop :=
  ∃ a cap, v = .slice a n cap ∧ n ≤ cap ∧ cap ≤ 9223372036854775807 ∧ (∀ i, f i < 256) ∧ (0 < n → ∃ b off, a = some ⟨b, off, none⟩ ∧ Bs w b off n f) ∧ (a = none → cap = 0)
theorem Sb.form {w : World} {v : Value} {n : Nat} {f : Nat → Nat} (h : Sb w v n f) : ∃ a cap, v = .slice a n cap := by
  obtain ⟨a, cap, e, _⟩ := h
  exact ⟨a, cap, e⟩
theorem Sb.below {w w' : World} {v : Value} {n : Nat} {f : Nat → Nat} (h : Sb w v n f) (k : Below w.heap.size w w') : Sb w' v n f := by
  obtain ⟨a, cap, e, h1, h2, h3, h4, h5⟩ := h
  exact ⟨a, cap, e, h1, h2, h3, fun hn => by obtain ⟨b, off, ea, B⟩ := h4 hn; exact ⟨b, off, ea, B.below k⟩, h5⟩
theorem Arg.sb {w : World} {v : Value} {n : Nat} {f : Nat → Nat} (h : Arg w v n f) : Sb w v n f := by
  obtain ⟨a, cap, e, h1, h2, h3, h4, h5⟩ := h
  exact ⟨a, cap, e, h1, by omega, h3, h4, h5⟩
theorem Sb.conv {w0 w : World} {va : Value} {n : Nat} {f : Nat → Nat} (A : Sb w0 va n f) (k : Below w0.heap.size w0 w) : (convert 22 9 va).run Try.prog w = .ok (.string (bs8 (bl f n))) w := by
  obtain ⟨a, cap, rfl, h1, h2, h3, h4, h5⟩ := A
  by_cases hn : 0 < n
  · obtain ⟨b, off, rfl, B⟩ := h4 hn
    exact conv_bs (B.below k) cap
  · obtain rfl : n = 0 := by omega
    exact conv_zero w a cap
/-- append of them to a slice of the call's own. -/
theorem Sb.app {w0 w : World} {va : Value} {n : Nat} {f : Nat → Nat} (A : Sb w0 va n f) (k : Below w0.heap.size w0 w) {base : Nat} {v : Value} {l : List Nat} (h : Own w base v l) (hb : base ≤ w.heap.size) (hn : l.length + n ≤ 140737488355328) (ty : TypeId) :
    ∃ v' w', (Builtin.append_ #[22, 22] ty #[v, va]).run Try.prog w = .ok v' w' ∧ Own w' base v' (l ++ bl f n) ∧ Below base w w' ∧ w.heap.size ≤ w'.heap.size ∧ (v ≠ .slice none 0 0 → v' ≠ .slice none 0 0) := by
  obtain ⟨i, hi, hz, hs, hby⟩ := info_parts info_u8
  obtain ⟨a, cap, rfl, h1, h2, h3, h4, h5⟩ := A
  cases a with
  | none =>
    obtain rfl := h5 rfl
    obtain rfl : n = 0 := by omega
    exact ⟨v, w, run_append_owned_none (P := Try.prog) w base 22 ty 5 i 1 Try.underlying22 hi v l.length (cl l) h, by simpa [bl] using h, Below.refl _ _, Nat.le_refl _, id⟩
  | some ad =>
    obtain ⟨v', w', hr, ho, hg, hnil, _⟩ := run_append_own_at (P := Try.prog) w base 22 ty 5 i (.int .u8 0) 1 1 Try.underlying22 hi hz hs hby rfl (by decide) v l.length (cl l) h ad n cap (cl (bl f n)) (by rw [cl_len, bl_len]; omega)
      (by
        intro j u hj
        have hj' : j < n := by have := (List.getElem?_eq_some_iff.1 hj).1; rw [cl_len, bl_len] at this; exact this
        obtain ⟨b, off, ea, B⟩ := h4 (by omega)
        cases ea
        have e := (B.below k).2.2 j hj'
        have : u = .int .u8 (f j : Int) := by simpa [cl, bl, hj'] using hj.symm
        rw [this]
        cases j <;> simpa [Addr.add] using e) (cl_one _) (by unfold maxLen; omega) (by omega) hb
    have hB2 := (Below.refl base w).grown hg hb h.block
    refine ⟨v', w', hr, ?_, hB2, hB2.size, fun hv hv' => hv (hnil.1 hv').1⟩
    unfold Own
    rw [cl_app, List.length_append, bl_len]
    exact ho

/-- n bytes begin at b, o and may be written. -/
def Wr (w : World) (b o n : Nat) (g : Nat → Nat) : Prop :=
  b < w.heap.size ∧ (∀ i, i < n → g i < 256) ∧ ∀ i, i < n → w.cell? ⟨b, o + i, none⟩ = some (.int .u8 (g i)) ∧ w.frozen? ⟨b, o + i, none⟩ = false
theorem Wr.below {w w' : World} {b o n : Nat} {g : Nat → Nat} (h : Wr w b o n g) (k : Below w.heap.size w w') : Wr w' b o n g :=
  ⟨Nat.lt_of_lt_of_le h.1 k.size, h.2.1, fun i hi => ⟨(k.cell (p := ⟨b, o + i, none⟩) h.1).trans (h.2.2 i hi).1, (k.frozen (p := ⟨b, o + i, none⟩) h.1).trans (h.2.2 i hi).2⟩⟩
/-- v is a slice of bytes of the call's own that may be written, or nil and there are none. -/
def Out (w : World) (base : Nat) (v : Value) (l : List Nat) : Prop :=
  (v = .slice none 0 0 ∧ l = []) ∨ ∃ g o cap, v = .slice (some ⟨g, o, none⟩) l.length cap ∧ base ≤ g ∧ l.length ≤ cap ∧ cap ≤ 9223372036854775807 ∧ (∀ x ∈ l, x < 256) ∧ Wr w g o l.length (fun i => l.getD i 0)
theorem getD_byte {l : List Nat} (h : ∀ x ∈ l, x < 256) (i : Nat) : l.getD i 0 < 256 := by
  rw [List.getD_eq_getElem?_getD]
  cases e : l[i]? with
  | none => simp
  | some x => simpa using h x (List.mem_of_getElem? e)
theorem ay_bs {w : World} {b o n : Nat} {g : Nat → Nat} (h : Wr w b o n g) (hf : ∀ i, g i < 256) : Bs w b o n g := ⟨h.1, hf, fun i hi => (h.2.2 i hi).1⟩
theorem own_out {w : World} {base : Nat} {v : Value} {l : List Nat} (h : Own w base v l) (h8 : ∀ x ∈ l, x < 256) : Out w base v l := by
  rcases h.2 with ⟨h0, h1⟩ | ⟨g, cap, cur, hv, hb, hh, hc, hm, hcs, ht⟩
  · exact .inl ⟨h0, List.length_eq_zero_iff.1 h1⟩
  · refine .inr ⟨g, 0, cap, hv, hb, hc, by unfold maxLen at hm; omega, h8, (Array.getElem?_eq_some_iff.1 hh).1, fun i _ => getD_byte h8 i, fun i hi => ?_⟩
    rw [cell_of_row w g (0 + i) cur _ (0, 0) hh]
    refine ⟨?_, frozen_of_row w g _ cur _ hh⟩
    have e : (cl l)[i]? = some (.int .u8 ((l.getD i 0 : Nat) : Int)) := by
      simp [cl, List.getD_eq_getElem?_getD, hi]
    rw [← ht, Nat.mul_one, List.getElem?_take, if_pos hi] at e
    rw [Nat.zero_add]
    simpa using e
theorem Out.mono {w : World} {base base' : Nat} {v : Value} {l : List Nat} (h : Out w base v l) (hb : base' ≤ base) : Out w base' v l := by
  rcases h with h | ⟨g, o, cap, h1, h2, h3⟩
  · exact .inl h
  · exact .inr ⟨g, o, cap, h1, by omega, h3⟩
theorem Out.below {w w' : World} {base : Nat} {v : Value} {l : List Nat} (h : Out w base v l) (k : Below w.heap.size w w') : Out w' base v l := by
  rcases h with h | ⟨g, o, cap, h1, h2, h3, h4, h5, h6⟩
  · exact .inl h
  · exact .inr ⟨g, o, cap, h1, h2, h3, h4, h5, h6.below k⟩
theorem Out.sb {w : World} {base : Nat} {v : Value} {l : List Nat} (h : Out w base v l) : Sb w v l.length (fun i => l.getD i 0) := by
  rcases h with ⟨rfl, rfl⟩ | ⟨g, o, cap, rfl, h2, h3, h4, h5, h6⟩
  · exact ⟨none, 0, rfl, Nat.le_refl _, by omega, fun _ => by simp, fun h => absurd h (by simp), fun _ => rfl⟩
  · exact ⟨_, cap, rfl, h3, h4, getD_byte h5, fun _ => ⟨g, o, rfl, ay_bs h6 (getD_byte h5)⟩, fun h => by cases h⟩
theorem Out.byte {w : World} {base : Nat} {v : Value} {l : List Nat} (h : Out w base v l) : ∀ x ∈ l, x < 256 := by
  rcases h with ⟨rfl, rfl⟩ | ⟨g, o, cap, rfl, h2, h3, h4, h5, h6⟩
  · simp
  · exact h5
theorem out_bl {w : World} {base : Nat} {v : Value} {l : List Nat} (h : Out w base v l) : bl (fun i => l.getD i 0) l.length = l := bl_getD l

set_option maxRecDepth 100000 in
theorem open_sb {H : Type} {enc : TypeId × Value → H} {W : World} {fuel : Nat} {v : Value} {x : DataW H × List MemPlace} (hf : DataW.trod enc Try.prog W 0 (fun _ => true) true fuel 22 [v] = some x) : ∃ n f, Sb W v n f := by
  rcases open_ints Try.underlying22 Try.underlying5 cells5 hf with ⟨hcs, hx⟩ | ⟨a, len, cap, zs, hcs, _, hl, hm, hz, hx, hcell, hwz⟩
  · simp only [List.cons.injEq, and_true] at hcs
    subst hcs
    exact ⟨0, fun _ => 0, none, 0, rfl, Nat.le_refl _, by omega, fun _ => by simp, fun h => absurd h (by omega), fun _ => rfl⟩
  · simp only [List.cons.injEq, and_true] at hcs
    subst hcs
    simp only [if_true] at hz
    have hbyte : ∀ i, 0 ≤ zs.getD i 0 ∧ zs.getD i 0 < 256 := by
      intro i
      rw [List.getD_eq_getElem?_getD]
      cases e : zs[i]? with
      | none => simp
      | some x =>
        have hx := hwz x (List.mem_of_getElem? e)
        simp [Lit.wf, IntKind.min, IntKind.max, IntKind.bits, IntKind.signed] at hx
        simp
        omega
    have hfb : ∀ i, (zs.getD i 0).toNat < 256 := fun i => by have := hbyte i; omega
    refine ⟨len, fun i => (zs.getD i 0).toNat, some a, cap, rfl, hl, by unfold maxLen at hm; omega, hfb, fun hn => ?_, fun h => by cases h⟩
    have c0 := hcell 0 (by omega)
    obtain ⟨b, off, s⟩ := a
    have sp : s = none := by simpa [Addr.add] using World.cell?_spot c0
    subst sp
    refine ⟨b, off, rfl, World.block_lt_of_cell? W _ (show W.cell? ⟨b, off, none⟩ = some _ by simpa [Addr.add] using c0), hfb, fun i hi => ?_⟩
    have c := hcell i (by omega)
    rw [add_plain] at c
    rw [c]
    show _ = some (Value.int .u8 (((zs.getD i 0).toNat : Nat) : Int))
    rw [Int.toNat_of_nonneg (hbyte i).1]
end Go.Proofs.Yteigmnbbfmcihaa.By
