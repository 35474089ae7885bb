/-
  The field's product is linear; the contract of aes' mixed.
  Conditions: none.
-/
import Derived.Test.YtfefkakdhaecpaaAeH
namespace Go.Proofs.Ytfefkakdhaecpaa.Ae
open Go.RowKit By
set_option linter.unusedVariables false
set_option linter.unusedSimpArgs false

theorem xt_xor : ∀ a, a < 256 → ∀ b, b < 256 → xt (a ^^^ b) = xt a ^^^ xt b := by decide +kernel
theorem gm_1 : ∀ a, a < 256 → gm a 1 = a := by decide +kernel
theorem gm_2 : ∀ a, a < 256 → gm a 2 = xt a := by decide +kernel
theorem gm_3 : ∀ a, a < 256 → gm a 3 = xt a ^^^ a := by decide +kernel
theorem xo (a b : Nat) (ha : a < 256) (hb : b < 256) : ∃ z, z < 256 ∧ Hid (z = a ^^^ b) ∧ bits BinOp.xor IntKind.u8 (a : Int) (b : Int) = (z : Int) :=
  ⟨a ^^^ b, lt_xor8 ha hb, Lib.hid rfl, xor8 a b ha hb⟩
theorem mix0 (a b c d : Nat) (ha : a < 256) (hb : b < 256) (hc : c < 256) (hd : d < 256) :
    xt (a ^^^ b) ^^^ a ^^^ (a ^^^ b ^^^ c ^^^ d) = xt a ^^^ (xt b ^^^ b) ^^^ c ^^^ d := by
  rw [xt_xor a ha b hb]
  generalize xt a = x
  generalize xt b = y
  apply Nat.eq_of_testBit_eq
  intro i
  simp only [Nat.testBit_xor]
  cases x.testBit i <;> cases y.testBit i <;> cases a.testBit i <;> cases b.testBit i <;> cases c.testBit i <;> cases d.testBit i <;> rfl
theorem mx_col (f : Nat → Nat) (hf : ∀ i, i < 16 → f i < 256) (c : Nat) (hc : c < 4) :
    mx f (4 * c) = xt (f (4 * c)) ^^^ (xt (f (4 * c + 1)) ^^^ f (4 * c + 1)) ^^^ f (4 * c + 2) ^^^ f (4 * c + 3) ∧
    mx f (4 * c + 1) = f (4 * c) ^^^ xt (f (4 * c + 1)) ^^^ (xt (f (4 * c + 2)) ^^^ f (4 * c + 2)) ^^^ f (4 * c + 3) ∧
    mx f (4 * c + 2) = f (4 * c) ^^^ f (4 * c + 1) ^^^ xt (f (4 * c + 2)) ^^^ (xt (f (4 * c + 3)) ^^^ f (4 * c + 3)) ∧
    mx f (4 * c + 3) = (xt (f (4 * c)) ^^^ f (4 * c)) ^^^ f (4 * c + 1) ^^^ f (4 * c + 2) ^^^ xt (f (4 * c + 3)) := by
  have h0 := hf (4 * c) (by omega)
  have h1 := hf (4 * c + 1) (by omega)
  have h2 := hf (4 * c + 2) (by omega)
  have h3 := hf (4 * c + 3) (by omega)
  have R : ∀ r, r < 4 → mx f (4 * c + r) = (((0 ^^^ gm (f (4 * c)) (row ((0 + 4 - r) % 4))) ^^^ gm (f (4 * c + 1)) (row ((1 + 4 - r) % 4))) ^^^ gm (f (4 * c + 2)) (row ((2 + 4 - r) % 4))) ^^^ gm (f (4 * c + 3)) (row ((3 + 4 - r) % 4)) := by
    intro r hr
    show (((0 ^^^ gm (f (4 * ((4 * c + r) / 4) + 0)) (row ((0 + 4 - (4 * c + r) % 4) % 4))) ^^^ gm (f (4 * ((4 * c + r) / 4) + 1)) (row ((1 + 4 - (4 * c + r) % 4) % 4))) ^^^ gm (f (4 * ((4 * c + r) / 4) + 2)) (row ((2 + 4 - (4 * c + r) % 4) % 4))) ^^^ gm (f (4 * ((4 * c + r) / 4) + 3)) (row ((3 + 4 - (4 * c + r) % 4) % 4)) = _
    rw [show (4 * c + r) / 4 = c from by omega, show (4 * c + r) % 4 = r from by omega, Nat.add_zero]
  refine ⟨?_, ?_, ?_, ?_⟩
  · rw [show 4 * c = 4 * c + 0 from rfl, R 0 (by omega)]
    show (((0 ^^^ gm _ 2) ^^^ gm _ 3) ^^^ gm _ 1) ^^^ gm _ 1 = _
    rw [gm_2 _ h0, gm_3 _ h1, gm_1 _ h2, gm_1 _ h3, Nat.zero_xor]
    rfl
  · rw [R 1 (by omega)]
    show (((0 ^^^ gm _ 1) ^^^ gm _ 2) ^^^ gm _ 3) ^^^ gm _ 1 = _
    rw [gm_1 _ h0, gm_2 _ h1, gm_3 _ h2, gm_1 _ h3, Nat.zero_xor]
  · rw [R 2 (by omega)]
    show (((0 ^^^ gm _ 1) ^^^ gm _ 1) ^^^ gm _ 2) ^^^ gm _ 3 = _
    rw [gm_1 _ h0, gm_1 _ h1, gm_2 _ h2, gm_3 _ h3, Nat.zero_xor]
  · rw [R 3 (by omega)]
    show (((0 ^^^ gm _ 3) ^^^ gm _ 1) ^^^ gm _ 1) ^^^ gm _ 2 = _
    rw [gm_3 _ h0, gm_1 _ h1, gm_1 _ h2, gm_2 _ h3, Nat.zero_xor]
/-- one column, the way the program mixes it. -/
theorem mx_prog (f : Nat → Nat) (hf : ∀ i, i < 16 → f i < 256) (c : Nat) (hc : c < 4) :
    mx f (4 * c) = xt (f (4 * c) ^^^ f (4 * c + 1)) ^^^ f (4 * c) ^^^ (f (4 * c) ^^^ f (4 * c + 1) ^^^ f (4 * c + 2) ^^^ f (4 * c + 3)) ∧
    mx f (4 * c + 1) = xt (f (4 * c + 1) ^^^ f (4 * c + 2)) ^^^ f (4 * c + 1) ^^^ (f (4 * c) ^^^ f (4 * c + 1) ^^^ f (4 * c + 2) ^^^ f (4 * c + 3)) ∧
    mx f (4 * c + 2) = xt (f (4 * c + 2) ^^^ f (4 * c + 3)) ^^^ f (4 * c + 2) ^^^ (f (4 * c) ^^^ f (4 * c + 1) ^^^ f (4 * c + 2) ^^^ f (4 * c + 3)) ∧
    mx f (4 * c + 3) = xt (f (4 * c + 3) ^^^ f (4 * c)) ^^^ f (4 * c + 3) ^^^ (f (4 * c) ^^^ f (4 * c + 1) ^^^ f (4 * c + 2) ^^^ f (4 * c + 3)) := by
  have h0 := hf (4 * c) (by omega)
  have h1 := hf (4 * c + 1) (by omega)
  have h2 := hf (4 * c + 2) (by omega)
  have h3 := hf (4 * c + 3) (by omega)
  obtain ⟨e0, e1, e2, e3⟩ := mx_col f hf c hc
  rw [e0, e1, e2, e3, xt_xor _ h0 _ h1, xt_xor _ h1 _ h2, xt_xor _ h2 _ h3, xt_xor _ h3 _ h0]
  generalize xt (f (4 * c)) = x0
  generalize xt (f (4 * c + 1)) = x1
  generalize xt (f (4 * c + 2)) = x2
  generalize xt (f (4 * c + 3)) = x3
  generalize f (4 * c) = y0
  generalize f (4 * c + 1) = y1
  generalize f (4 * c + 2) = y2
  generalize f (4 * c + 3) = y3
  refine ⟨?_, ?_, ?_, ?_⟩
  · apply Nat.eq_of_testBit_eq
    intro i
    simp only [Nat.testBit_xor]
    cases x0.testBit i <;> cases x1.testBit i <;> cases y0.testBit i <;> cases y1.testBit i <;> cases y2.testBit i <;> cases y3.testBit i <;> rfl
  · apply Nat.eq_of_testBit_eq
    intro i
    simp only [Nat.testBit_xor]
    cases x1.testBit i <;> cases x2.testBit i <;> cases y0.testBit i <;> cases y1.testBit i <;> cases y2.testBit i <;> cases y3.testBit i <;> rfl
  · apply Nat.eq_of_testBit_eq
    intro i
    simp only [Nat.testBit_xor]
    cases x2.testBit i <;> cases x3.testBit i <;> cases y0.testBit i <;> cases y1.testBit i <;> cases y2.testBit i <;> cases y3.testBit i <;> rfl
  · apply Nat.eq_of_testBit_eq
    intro i
    simp only [Nat.testBit_xor]
    cases x3.testBit i <;> cases x0.testBit i <;> cases y0.testBit i <;> cases y1.testBit i <;> cases y2.testBit i <;> cases y3.testBit i <;> rfl
end Go.Proofs.Ytfefkakdhaecpaa.Ae
