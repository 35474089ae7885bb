/-
  Texts of ten bytes: the numbers that they say, and that they say a date just if they are its text.
  Conditions: none.
-/
import Derived.Test.YtooinoccijfgiaaDoorCvE
import Derived.Lib.OthersKept
import Derived.Laws.RangeAny
import Derived.Deep.Heap
namespace Go.Proofs.YtooinoccijfgiaaDoor.Cv
open Go.RowKit
set_option linter.unusedVariables false
set_option linter.unusedSimpArgs false

/-- the byte at i. -/
def gb (s : ByteArray) (i : Nat) : Int := (s.data.toList.getD i 0).toNat
theorem gb_at (s : ByteArray) (p : Nat) (h : p < s.size) : ((s[p]'h).toNat : Int) = gb s p := by
  unfold gb
  have h' : p < s.data.toList.length := by rw [Array.length_toList]; exact h
  rw [List.getD_eq_getElem?_getD, List.getElem?_eq_getElem h', Option.getD_some, Array.getElem_toList]
  rfl
theorem gb_bd (s : ByteArray) (i : Nat) : 0 ≤ gb s i ∧ gb s i ≤ 255 := by
  unfold gb
  have := (s.data.toList.getD i 0).toNat_lt
  omega
/-- a byte that may stand at i. -/
def gd (s : ByteArray) (i : Nat) : Prop := if i = 4 ∨ i = 7 then gb s i = 45 else 48 ≤ gb s i ∧ gb s i ≤ 57
def good (s : ByteArray) : Prop := ∀ i, i < 10 → gd s i
/-- the number j of those that stand ahead of p. -/
def zone (j p : Nat) : Bool := (j == 0 && decide (p < 4)) || (j == 1 && decide (5 ≤ p) && decide (p < 7)) || (j == 2 && decide (8 ≤ p))
def av (s : ByteArray) (j : Nat) : Nat → Int
  | 0 => 0
  | p + 1 => if zone j p = true then 10 * av s j p + (gb s p - 48) else av s j p
def tens : Nat → Int
  | 0 => 1
  | p + 1 => 10 * tens p
theorem tens_pos : ∀ p, 1 ≤ tens p
  | 0 => by simp [tens]
  | p + 1 => by have := tens_pos p; simp only [tens]; omega
theorem tens_le {p q : Nat} (h : p ≤ q) : tens p ≤ tens q := by
  induction h with
  | refl => exact Int.le_refl _
  | @step q _ ih => have := tens_pos q; simp only [tens]; omega
theorem gd_zone {s : ByteArray} {j p : Nat} (h : gd s p) (z : zone j p = true) : 48 ≤ gb s p ∧ gb s p ≤ 57 := by
  unfold gd at h
  split at h
  · rename_i c
    rcases c with rfl | rfl <;> simp [zone] at z
  · exact h
theorem av_tens {s : ByteArray} {j : Nat} : ∀ p, (∀ i, i < p → gd s i) → 0 ≤ av s j p ∧ av s j p + 1 ≤ tens p
  | 0, _ => by simp [av, tens]
  | p + 1, h => by
    have a := av_tens (s := s) (j := j) p (fun i hi => h i (by omega))
    have b := tens_pos p
    simp only [av, tens]
    by_cases z : zone j p = true
    · have c := gd_zone (h p (by omega)) z
      rw [if_pos z]
      omega
    · rw [if_neg z]
      omega
theorem av_bd {s : ByteArray} {j p : Nat} (hp : p ≤ 10) (h : ∀ i, i < p → gd s i) : 0 ≤ av s j p ∧ av s j p ≤ 10000000000 := by
  have a := av_tens (s := s) (j := j) p h
  have b := tens_le hp
  have c : tens 10 = 10000000000 := by decide
  omega
/-- the numbers that a text says. -/
def tY (s : ByteArray) : Int := av s 0 10
def tM (s : ByteArray) : Int := av s 1 10
def tD (s : ByteArray) : Int := av s 2 10
theorem tY_eq (s : ByteArray) : tY s = 10 * (10 * (10 * (10 * 0 + (gb s 0 - 48)) + (gb s 1 - 48)) + (gb s 2 - 48)) + (gb s 3 - 48) := by simp [tY, av, zone]
theorem tM_eq (s : ByteArray) : tM s = 10 * (10 * 0 + (gb s 5 - 48)) + (gb s 6 - 48) := by simp [tM, av, zone]
theorem tD_eq (s : ByteArray) : tD s = 10 * (10 * 0 + (gb s 8 - 48)) + (gb s 9 - 48) := by simp [tD, av, zone]

theorem list10 {α : Type} {l : List α} (h : l.length = 10) : ∃ a b c d e f g i j k, l = [a, b, c, d, e, f, g, i, j, k] := by
  match l, h with
  | [a, b, c, d, e, f, g, i, j, k], _ => exact ⟨a, b, c, d, e, f, g, i, j, k, rfl⟩
theorem str10 {s : ByteArray} (h : s.size = 10) : ∃ a b c d e f g i j k, s = ⟨#[a, b, c, d, e, f, g, i, j, k]⟩ := by
  obtain ⟨⟨l⟩⟩ := s
  obtain ⟨a, b, c, d, e, f, g, i, j, k, rfl⟩ := list10 (l := l) (by simpa [ByteArray.size] using h)
  exact ⟨a, b, c, d, e, f, g, i, j, k, rfl⟩
theorem ch_nat {n : Int} (h : 0 ≤ n) (h' : n ≤ 9) : (ch n).toNat = 48 + n.toNat := by unfold ch; simp; omega
theorem ch_of {c : UInt8} {n : Int} (h : 0 ≤ n) (h' : n ≤ 9) (e : (c.toNat : Int) = 48 + n) : ch n = c := by
  apply UInt8.toNat_inj.1
  rw [ch_nat h h']
  omega
theorem txt_size (y m d : Int) : (txt y m d).size = 10 := rfl
theorem txt_lit (y m d : Int) : txt y m d = ⟨#[ch (y / 1000), ch (y / 100 % 10), ch (y / 10 % 10), ch (y % 10), 45, ch (m / 10), ch (m % 10), 45, ch (d / 10), ch (d % 10)]⟩ := rfl
/-- a good text is the text of its numbers. -/
theorem good_txt {s : ByteArray} (hs : s.size = 10) (h : good s) : txt (tY s) (tM s) (tD s) = s := by
  obtain ⟨a, b, c, d, e, f, g, i, j, k, rfl⟩ := str10 hs
  have h0 := h 0 (by omega); have h1 := h 1 (by omega); have h2 := h 2 (by omega); have h3 := h 3 (by omega); have h4 := h 4 (by omega)
  have h5 := h 5 (by omega); have h6 := h 6 (by omega); have h7 := h 7 (by omega); have h8 := h 8 (by omega); have h9 := h 9 (by omega)
  simp [gd] at h0 h1 h2 h3 h4 h5 h6 h7 h8 h9
  have y := tY_eq ⟨#[a, b, c, d, e, f, g, i, j, k]⟩
  have m := tM_eq ⟨#[a, b, c, d, e, f, g, i, j, k]⟩
  have x := tD_eq ⟨#[a, b, c, d, e, f, g, i, j, k]⟩
  generalize tY _ = Y at *
  generalize tM _ = M at *
  generalize tD _ = D at *
  simp [gb] at h0 h1 h2 h3 h4 h5 h6 h7 h8 h9 y m x
  rw [txt_lit]
  have e4 : e = 45 := UInt8.toNat_inj.1 (by simp; omega)
  have e7 : i = 45 := UInt8.toNat_inj.1 (by simp; omega)
  rw [ch_of (c := a) (by omega) (by omega) (by omega), ch_of (c := b) (by omega) (by omega) (by omega), ch_of (c := c) (by omega) (by omega) (by omega), ch_of (c := d) (by omega) (by omega) (by omega), ch_of (c := f) (by omega) (by omega) (by omega), ch_of (c := g) (by omega) (by omega) (by omega), ch_of (c := j) (by omega) (by omega) (by omega), ch_of (c := k) (by omega) (by omega) (by omega), e4, e7]
theorem gb0 (y m d : Int) : gb (txt y m d) 0 = (ch (y / 1000)).toNat := rfl
theorem gb1 (y m d : Int) : gb (txt y m d) 1 = (ch (y / 100 % 10)).toNat := rfl
theorem gb2 (y m d : Int) : gb (txt y m d) 2 = (ch (y / 10 % 10)).toNat := rfl
theorem gb3 (y m d : Int) : gb (txt y m d) 3 = (ch (y % 10)).toNat := rfl
theorem gb4 (y m d : Int) : gb (txt y m d) 4 = 45 := rfl
theorem gb5 (y m d : Int) : gb (txt y m d) 5 = (ch (m / 10)).toNat := rfl
theorem gb6 (y m d : Int) : gb (txt y m d) 6 = (ch (m % 10)).toNat := rfl
theorem gb7 (y m d : Int) : gb (txt y m d) 7 = 45 := rfl
theorem gb8 (y m d : Int) : gb (txt y m d) 8 = (ch (d / 10)).toNat := rfl
theorem gb9 (y m d : Int) : gb (txt y m d) 9 = (ch (d % 10)).toNat := rfl
theorem chi {n : Int} (h : 0 ≤ n) (h' : n ≤ 9) : ((ch n).toNat : Int) = 48 + n := by rw [ch_nat h h']; omega
theorem txt_Y (y m d : Int) (h : 0 ≤ y) (h' : y ≤ 9999) : tY (txt y m d) = y := by
  rw [tY_eq, gb0, gb1, gb2, gb3, chi (by omega) (by omega), chi (by omega) (by omega), chi (by omega) (by omega), chi (by omega) (by omega)]
  omega
theorem txt_M (y m d : Int) (h : 0 ≤ m) (h' : m ≤ 99) : tM (txt y m d) = m := by
  rw [tM_eq, gb5, gb6, chi (by omega) (by omega), chi (by omega) (by omega)]
  omega
theorem txt_D (y m d : Int) (h : 0 ≤ d) (h' : d ≤ 99) : tD (txt y m d) = d := by
  rw [tD_eq, gb8, gb9, chi (by omega) (by omega), chi (by omega) (by omega)]
  omega
theorem gd_dig {s : ByteArray} {i : Nat} (hi : ¬ (i = 4 ∨ i = 7)) {n : Int} (e : gb s i = (ch n).toNat) (h : 0 ≤ n) (h' : n ≤ 9) : gd s i := by
  unfold gd
  rw [if_neg hi, e, chi h h']
  omega
/-- the text of a date is good, and says that date. -/
theorem txt_good {y m d : Int} (h : ok y m d) : good (txt y m d) ∧ tY (txt y m d) = y ∧ tM (txt y m d) = m ∧ tD (txt y m d) = d := by
  have hl := len_bd y m
  obtain ⟨h1, h2, h3, h4, h5, h6⟩ := h
  refine ⟨?_, txt_Y _ _ _ (by omega) h2, txt_M _ _ _ (by omega) (by omega), txt_D _ _ _ (by omega) (by omega)⟩
  intro i hi
  match i, hi with
  | 0, _ => exact gd_dig (by omega) (gb0 y m d) (by omega) (by omega)
  | 1, _ => exact gd_dig (by omega) (gb1 y m d) (by omega) (by omega)
  | 2, _ => exact gd_dig (by omega) (gb2 y m d) (by omega) (by omega)
  | 3, _ => exact gd_dig (by omega) (gb3 y m d) (by omega) (by omega)
  | 4, _ => unfold gd; rw [if_pos (by omega)]; exact gb4 y m d
  | 5, _ => exact gd_dig (by omega) (gb5 y m d) (by omega) (by omega)
  | 6, _ => exact gd_dig (by omega) (gb6 y m d) (by omega) (by omega)
  | 7, _ => unfold gd; rw [if_pos (by omega)]; exact gb7 y m d
  | 8, _ => exact gd_dig (by omega) (gb8 y m d) (by omega) (by omega)
  | 9, _ => exact gd_dig (by omega) (gb9 y m d) (by omega) (by omega)
end Go.Proofs.YtooinoccijfgiaaDoor.Cv
