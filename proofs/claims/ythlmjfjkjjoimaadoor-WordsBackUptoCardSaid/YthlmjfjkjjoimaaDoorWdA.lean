/-
  Whole numbers: the contracts of sundialref07.digits and Number.
  Conditions: none.
-/
import Derived.Test.YthlmjfjkjjoimaaDoorProg
import Derived.WalkKit
import Derived.WalkLawsBesides
import Derived.Lib.Hide
import Derived.BigQuiet
import Derived.KernelRfl
namespace Go.Proofs.YthlmjfjkjjoimaaDoor.Wd
open Go.RowKit
set_option linter.unusedVariables false
set_option linter.unusedSimpArgs false

/-- the byte at i. -/
def gn (s : ByteArray) (i : Nat) : Nat := (s.data.toList.getD i 0).toNat
theorem gn_at (s : ByteArray) (p : Nat) (h : p < s.size) : (s[p]'h).toNat = gn s p := by
  unfold gn
  have h' : p < s.data.toList.length := by rw [Array.length_toList]; exact h
  rw [List.getD_eq_getElem?_getD, List.getElem?_eq_getElem h', Option.getD_some, Array.getElem_toList]
  rfl
theorem gn_lt (s : ByteArray) (i : Nat) : gn s i < 256 := (s.data.toList.getD i 0).toNat_lt
theorem gn_set (s : ByteArray) (p : Nat) (h : p < s.size) : s.data.toList[p]? = some (s.data.toList.getD p 0) := by
  have h' : p < s.data.toList.length := by rw [Array.length_toList]; exact h
  rw [List.getD_eq_getElem?_getD, List.getElem?_eq_getElem h', Option.getD_some]
def dig (x : Nat) : Bool := decide (48 ≤ x) && decide (x ≤ 57)
def dgs (s : ByteArray) : Bool := (List.range s.size).all (fun i => dig (gn s i)) && decide (0 < s.size)

theorem dgs_no {s : ByteArray} {k : Nat} (h : k < s.size) (hd : dig (gn s k) = false) : dgs s = false := by
  cases h' : dgs s with
  | false => rfl
  | true =>
    simp only [dgs, Bool.and_eq_true, List.all_eq_true, List.mem_range] at h'
    rw [h'.1 k h] at hd; cases hd
theorem dgs_all {s : ByteArray} (h : ∀ i, i < s.size → dig (gn s i) = true) : dgs s = decide (0 < s.size) := by
  have : ((List.range s.size).all fun i => dig (gn s i)) = true := by simp only [List.all_eq_true, List.mem_range]; exact h
  rw [dgs, this, Bool.true_and]

/-- a whole number. -/
def wn (s : ByteArray) : Bool := dgs s && decide (s.size ≤ 10) && !(decide (1 < s.size) && decide (gn s 0 = 48))
def va (s : ByteArray) : Nat → Nat
  | 0 => 0
  | k + 1 => 10 * va s k + (gn s k - 48)
theorem va_lt {s : ByteArray} : ∀ k, (∀ i, i < k → dig (gn s i) = true) → va s k < 10 ^ k
  | 0, _ => by simp [va]
  | k + 1, h => by
    have a := va_lt k (fun i hi => h i (by omega))
    have b := h k (by omega)
    simp [dig] at b
    rw [va, Nat.pow_succ]
    omega
theorem wn_dig {s : ByteArray} (h : wn s = true) : (∀ i, i < s.size → dig (gn s i) = true) ∧ s.size ≤ 10 ∧ 0 < s.size := by
  simp [wn, dgs] at h
  exact ⟨h.1.1.1, h.1.2, h.1.1.2⟩
theorem va_lt10 {s : ByteArray} (h : wn s = true) {k : Nat} (hk : k ≤ s.size) : va s k < 10000000000 := by
  obtain ⟨h1, h2, _⟩ := wn_dig h
  have a := va_lt k (fun i hi => h1 i (by omega))
  have b : 10 ^ k ≤ 10 ^ 10 := Nat.pow_le_pow_right (by omega) (by omega)
  have c : (10 : Nat) ^ 10 = 10000000000 := by decide
  omega

end Go.Proofs.YthlmjfjkjjoimaaDoor.Wd
