/-
  Texts rise as dates do.
  Conditions: none.
-/
import Derived.Test.YtooinoccijfgiaaDoorCvR
import Derived.Test.YtooinoccijfgiaaDoorCvX
namespace Go.Proofs.YtooinoccijfgiaaDoor.Cv
open Go.RowKit
set_option linter.unusedVariables false
set_option linter.unusedSimpArgs false

theorem ch_ltb {a b : Int} (h : 0 ≤ a) (h' : a ≤ 9) (k : 0 ≤ b) (k' : b ≤ 9) : decide (ch a < ch b) = decide (a < b) := by
  rw [decide_eq_decide, UInt8.lt_iff_toNat_lt, ch_nat h h', ch_nat k k']
  omega
theorem ch_eqb {a b : Int} (h : 0 ≤ a) (h' : a ≤ 9) (k : 0 ≤ b) (k' : b ≤ 9) : (ch a == ch b) = decide (a = b) := by
  rw [Bool.eq_iff_iff, beq_iff_eq, decide_eq_true_iff, ← UInt8.toNat_inj, ch_nat h h', ch_nat k k']
  omega
theorem less_cons {a b : Int} {x y : List UInt8} (h : 0 ≤ a) (h' : a ≤ 9) (k : 0 ≤ b) (k' : b ≤ 9) : Op.bytesLess (ch a :: x) (ch b :: y) = true ↔ (a < b ∨ a = b ∧ Op.bytesLess x y = true) := by
  rw [Op.bytesLess, ch_ltb h h' k k', ch_eqb h h' k k']
  simp
theorem less_hyph {x y : List UInt8} : Op.bytesLess (45 :: x) (45 :: y) = Op.bytesLess x y := by
  rw [Op.bytesLess]
  simp
theorem lex4 {y z : Int} (hy : 0 ≤ y) (hy' : y ≤ 9999) (hz : 0 ≤ z) (hz' : z ≤ 9999) (R : Prop) : (y / 1000 < z / 1000 ∨ y / 1000 = z / 1000 ∧ (y / 100 % 10 < z / 100 % 10 ∨ y / 100 % 10 = z / 100 % 10 ∧ (y / 10 % 10 < z / 10 % 10 ∨ y / 10 % 10 = z / 10 % 10 ∧ (y % 10 < z % 10 ∨ y % 10 = z % 10 ∧ R)))) ↔ (y < z ∨ y = z ∧ R) := by
  by_cases r : R
  · simp only [r, and_true]; omega
  · simp only [r, and_false, or_false]; omega
theorem lex2 {y z : Int} (hy : 0 ≤ y) (hy' : y ≤ 99) (hz : 0 ≤ z) (hz' : z ≤ 99) (R : Prop) : (y / 10 < z / 10 ∨ y / 10 = z / 10 ∧ (y % 10 < z % 10 ∨ y % 10 = z % 10 ∧ R)) ↔ (y < z ∨ y = z ∧ R) := by
  by_cases r : R
  · simp only [r, and_true]; omega
  · simp only [r, and_false, or_false]; omega
theorem txt_list (y m d : Int) : (txt y m d).toList = [ch (y / 1000), ch (y / 100 % 10), ch (y / 10 % 10), ch (y % 10), 45, ch (m / 10), ch (m % 10), 45, ch (d / 10), ch (d % 10)] := by
  rw [Lib.toList_data, txt_lit]
theorem txt_less {y m d y' m' d' : Int} (h : ok y m d) (h' : ok y' m' d') : Op.bytesLess (txt y m d).toList (txt y' m' d').toList = decide (num y m d < num y' m' d') := by
  rw [Bool.eq_iff_iff, decide_eq_true_iff, num_lt_iff h h', txt_list, txt_list]
  have l := len_bd y m
  have l' := len_bd y' m'
  obtain ⟨a1, a2, a3, a4, a5, a6⟩ := h
  obtain ⟨b1, b2, b3, b4, b5, b6⟩ := h'
  rw [less_cons (by omega) (by omega) (by omega) (by omega), less_cons (by omega) (by omega) (by omega) (by omega), less_cons (by omega) (by omega) (by omega) (by omega), less_cons (by omega) (by omega) (by omega) (by omega), less_hyph, less_cons (by omega) (by omega) (by omega) (by omega), less_cons (by omega) (by omega) (by omega) (by omega), less_hyph, less_cons (by omega) (by omega) (by omega) (by omega), less_cons (by omega) (by omega) (by omega) (by omega), show (Op.bytesLess [] [] = true) = False from by simp [Op.bytesLess]]
  rw [lex2 (by omega) (by omega) (by omega) (by omega), lex2 (by omega) (by omega) (by omega) (by omega), lex4 (by omega) a2 (by omega) b2]
  unfold lt
  simp
end Go.Proofs.YtooinoccijfgiaaDoor.Cv
