/-
  Bytes that come in, opened: append, conversion and Hex of them; sundialref04.Same of two rows of bytes that are one.
  Conditions: none.
-/
import Derived.Test.YtkjolaoajbdomaaGreatDoorHsY
namespace Go.Proofs.YtkjolaoajbdomaaGreatDoor.Hs
open Go.ChangeShapes Go.WideShapes Go.ChangeAt Go.RowKit Go.Joins
set_option linter.unusedVariables false
set_option linter.unusedSimpArgs false

/-- the value v is a slice of n bytes, byte i is f i. -/
def Arg (w : World) (v : Value) (n : Nat) (f : Nat → Nat) : Prop :=
  ∃ a cap, v = .slice a n cap ∧ n ≤ cap ∧ cap ≤ 140737488351296 ∧ (∀ i, f i < 256) ∧ (0 < n → ∃ b off, a = some ⟨b, off, none⟩ ∧ Bs w b off n f) ∧ (a = none → cap = 0)
theorem Arg.below {w w' : World} {v : Value} {n : Nat} {f : Nat → Nat} (h : Arg w v n f) (k : Below w.heap.size w w') : Arg w' v n f := by
  obtain ⟨a, cap, e, h1, h2, h3, h4, h5⟩ := h
  exact ⟨a, cap, e, h1, h2, h3, fun hn => by obtain ⟨b, off, ea, B⟩ := h4 hn; exact ⟨b, off, ea, B.below k⟩, h5⟩
theorem cells5 : Tryz.prog.cellsOf 5 = 1 := by kernel_rfl
theorem bytes5 : Tryz.prog.bytesOf 5 = 1 := by kernel_rfl
set_option maxRecDepth 100000 in
theorem open_bytes {H : Type} {enc : TypeId × Value → H} {W : World} {base : Nat} {v : Value} {d : DataW H} {p : List MemPlace}
    (hv : Value.okWide Tryz.prog W .any base 28 v) (h : DataW.Trod enc Tryz.prog W 0 (fun _ => true) true 28 v d p)
    (hw : ∀ es sp, d = .slice es sp → (es.length + sp.length) * Tryz.prog.bytesOf 5 ≤ reachBytes) : ∃ n f, Arg W v n f := by
  obtain ⟨a0, len, cap, rfl⟩ := okWide_slice Tryz.underlying28 hv
  obtain ⟨fuel, hf⟩ := h
  rcases open_ints Tryz.underlying28 Tryz.underlying5 cells5 hf with ⟨hcs, hx⟩ | ⟨a, len', cap', zs, hcs, _, hl, hm, hz, hx, hcell, hwz⟩
  · simp [Value.cells] at hcs
    obtain ⟨rfl, rfl, rfl⟩ := hcs
    exact ⟨0, fun _ => 0, none, 0, rfl, Nat.le_refl _, by omega, fun _ => by simp, fun h => absurd h (by omega), fun _ => rfl⟩
  · simp [Value.cells] at hcs
    obtain ⟨rfl, rfl, rfl⟩ := hcs
    simp only [if_true] at hz
    simp only [Prod.mk.injEq] at hx
    have hb := hw _ _ hx.1
    rw [bytes5, Nat.mul_one] at hb
    have hlen : (lits .u8 (zs.take len) : List (DataW H)).length + (lits .u8 (zs.drop len) : List (DataW H)).length = cap := by simp [lits]; omega
    rw [hlen] at hb
    unfold reachBytes at hb
    have hbyte : ∀ i, 0 ≤ zs.getD i 0 ∧ zs.getD i 0 < 256 := by
      intro i
      rw [List.getD_eq_getElem?_getD]
      cases e : zs[i]? with
      | none => simp
      | some x =>
        have hx := hwz x (List.mem_of_getElem? e)
        simp [Lit.wf, IntKind.min, IntKind.max, IntKind.bits, IntKind.signed] at hx
        simp
        omega
    have hfb : ∀ i, (zs.getD i 0).toNat < 256 := fun i => by have := hbyte i; omega
    refine ⟨len, fun i => (zs.getD i 0).toNat, some a, cap, rfl, hl, by omega, hfb, fun hn => ?_, fun h => by cases h⟩
    have c0 := hcell 0 (by omega)
    obtain ⟨b, off, s⟩ := a
    have sp : s = none := by simpa [Addr.add] using World.cell?_spot c0
    subst sp
    refine ⟨b, off, rfl, World.block_lt_of_cell? W _ (show W.cell? ⟨b, off, none⟩ = some _ by simpa [Addr.add] using c0), hfb, fun i hi => ?_⟩
    have e : (⟨b, off, none⟩ : Addr).add i = ⟨b, off + i, none⟩ := by unfold Addr.add; split <;> simp_all
    have c := hcell i (by omega)
    rw [e] at c
    rw [c]
    show _ = some (Value.int .u8 (((zs.getD i 0).toNat : Nat) : Int))
    rw [Int.toNat_of_nonneg (hbyte i).1]
/-- append of them to a slice of the call's own. -/
theorem Arg.app {w0 w : World} {va : Value} {n : Nat} {f : Nat → Nat} (A : Arg w0 va n f) (k : Below w0.heap.size w0 w) {base : Nat} {v : Value} {l : List Nat} (h : Own w base v l) (hb : base ≤ w.heap.size) (hn : l.length + n ≤ 140737488355328) (ty : TypeId) :
    ∃ v' w', (Builtin.append_ #[28, 28] ty #[v, va]).run Tryz.prog w = .ok v' w' ∧ Own w' base v' (l ++ bl f n) ∧ Below base w w' ∧ w.heap.size ≤ w'.heap.size ∧ (v ≠ .slice none 0 0 → v' ≠ .slice none 0 0) := by
  obtain ⟨i, hi, hz, hs, hby⟩ := info_parts info_u8
  obtain ⟨a, cap, rfl, h1, h2, h3, h4, h5⟩ := A
  cases a with
  | none =>
    obtain rfl := h5 rfl
    obtain rfl : n = 0 := by omega
    exact ⟨v, w, run_append_owned_none (P := Tryz.prog) w base 28 ty 5 i 1 Tryz.underlying28 hi v l.length (cl l) h, by simpa [bl] using h, Below.refl _ _, Nat.le_refl _, id⟩
  | some ad =>
    obtain ⟨v', w', hr, ho, hg, hnil, _⟩ := run_append_own_at (P := Tryz.prog) w base 28 ty 5 i (.int .u8 0) 1 1 Tryz.underlying28 hi hz hs hby rfl (by decide) v l.length (cl l) h ad n cap (cl (bl f n)) (by rw [cl_len, bl_len]; omega)
      (by
        intro j u hj
        have hj' : j < n := by have := (List.getElem?_eq_some_iff.1 hj).1; rw [cl_len, bl_len] at this; exact this
        obtain ⟨b, off, ea, B⟩ := h4 (by omega)
        cases ea
        have e := (B.below k).2.2 j hj'
        have : u = .int .u8 (f j : Int) := by simpa [cl, bl, hj'] using hj.symm
        rw [this]
        cases j <;> simpa [Addr.add] using e) (cl_one _) (by unfold maxLen; omega) (by omega) hb
    have hB2 := (Below.refl base w).grown hg hb h.block
    refine ⟨v', w', hr, ?_, hB2, hB2.size, fun hv hv' => hv (hnil.1 hv').1⟩
    unfold Own
    rw [cl_app, List.length_append, bl_len]
    exact ho
theorem conv_zero (w : World) (p : Option Addr) (c : Nat) : (convert 28 9 (.slice p 0 c)).run Tryz.prog w = .ok (.string (bs8 [])) w := by
  rw [run_convert_bytes_string w 28 9 5 _ 0 c Tryz.underlying28 Tryz.underlying5 Tryz.underlying9]
  cases p <;> simp [Conv.bytesToString, loadCells] <;> rfl
theorem Arg.conv {w0 w : World} {va : Value} {n : Nat} {f : Nat → Nat} (A : Arg w0 va n f) (k : Below w0.heap.size w0 w) : (convert 28 9 va).run Tryz.prog w = .ok (.string (bs8 (bl f n))) w := by
  obtain ⟨a, cap, rfl, h1, h2, h3, h4, h5⟩ := A
  by_cases hn : 0 < n
  · obtain ⟨b, off, rfl, B⟩ := h4 hn
    exact conv_bs (B.below k) cap
  · obtain rfl : n = 0 := by omega
    exact conv_zero w a cap
theorem Arg.hex {w0 w : World} {va : Value} {n : Nat} {f : Nat → Nat} (A : Arg w0 va n f) (k : Below w0.heap.size w0 w) :
    Calls Tryz.prog 56 #[va] w fun e w' => e = .returned (.string (bs8 (hxL f n))) ∧ Below w.heap.size w w' := by
  obtain ⟨a, cap, rfl, h1, h2, h3, h4, h5⟩ := A
  exact Hex_c a n cap f w (by omega) h3 h1 (by omega) (Lib.hid fun hn => by obtain ⟨b, off, ea, B⟩ := h4 hn; exact ⟨b, off, ea, B.below k⟩)
/-- a slice of the call's own that is not nil. -/
theorem Own.bsF {w : World} {base : Nat} {v : Value} {f : Nat → Nat} {n : Nat} (h : Own w base v (bl f n)) (hv : v ≠ .slice none 0 0) (hf : ∀ i, f i < 256) : ∃ g cap, v = .slice (some ⟨g, 0, none⟩) n cap ∧ base ≤ g ∧ Bs w g 0 n f ∧ n ≤ cap ∧ cap ≤ 9223372036854775807 := by
  rcases h.2 with ⟨h0, _⟩ | ⟨g, cap, cur, e, hb, hh, hc, hm, hcs, ht⟩
  · exact absurd h0 hv
  · rw [bl_len] at e hc ht
    refine ⟨g, cap, e, hb, ⟨(Array.getElem?_eq_some_iff.1 hh).1, hf, fun i hi => ?_⟩, hc, by unfold maxLen at hm; omega⟩
    have e2 : (cl (bl f n))[i]? = some (.int .u8 ((f i : Nat) : Int)) := by simp [cl, bl, hi]
    rw [← ht, Nat.mul_one, List.getElem?_take, if_pos hi] at e2
    simp only [World.cell?, hh, Nat.zero_add]
    simpa using e2
/-- a digest as a string. -/
theorem Own.conv {w w' : World} {base : Nat} {v : Value} {l : List Nat} (h : Own w base v l) (hl : 0 < l.length) (h8 : ∀ x ∈ l, x < 256) (k : Below w.heap.size w w') : (convert 28 9 v).run Tryz.prog w' = .ok (.string (bs8 l)) w' := by
  obtain ⟨g, cap, rfl, hb, B, h1, h2⟩ := h.bsC hl h8
  have c := conv_bs (B.below k) cap
  rwa [bl_getD] at c
theorem own0 (w : World) (base : Nat) (hb : base ≤ w.heap.size) : Own (w.alloc (.cells #[] 5)) base (.slice (some ⟨w.heap.size, 0, none⟩) 0 0) [] :=
  ⟨rfl, .inr ⟨w.heap.size, 0, _, rfl, hb, heap_alloc_new w _, Nat.le_refl _, by unfold maxLen; omega, rfl, rfl⟩⟩
end Go.Proofs.YtkjolaoajbdomaaGreatDoor.Hs
