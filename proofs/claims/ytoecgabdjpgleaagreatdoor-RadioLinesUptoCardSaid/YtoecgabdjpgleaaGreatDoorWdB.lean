/-
  Seconds: the contract of sundialref07.Seconds.
  Conditions: none.
-/
import Derived.Test.YtoecgabdjpgleaaGreatDoorWa
import Derived.Deep.Upon
import Derived.Deep.CutRange
namespace Go.Proofs.YtoecgabdjpgleaaGreatDoor.Wd
open Go.RowKit
set_option linter.unusedVariables false
set_option linter.unusedSimpArgs false

/-- where the first point of n bytes stands, or n. -/
def dp (t : ByteArray) : Nat → Nat
  | 0 => 0
  | n + 1 => if dp t n < n then dp t n else if gn t n = 46 then n else n + 1
theorem dp_le (t : ByteArray) : ∀ n, dp t n ≤ n
  | 0 => Nat.le_refl _
  | n + 1 => by
    have := dp_le t n
    rw [dp]
    split
    · omega
    · split <;> omega
theorem dp_miss {t : ByteArray} : ∀ n, (∀ j, j < n → gn t j ≠ 46) → dp t n = n
  | 0, _ => rfl
  | n + 1, h => by rw [dp, dp_miss n (fun j hj => h j (by omega)), if_neg (Nat.lt_irrefl _), if_neg (h n (by omega))]
theorem dp_hit {t : ByteArray} {k : Nat} (h : gn t k = 46) (hk : ∀ j, j < k → gn t j ≠ 46) : ∀ n, k < n → dp t n = k
  | 0, h => absurd h (by omega)
  | n + 1, hn => by
    by_cases c : k < n
    · rw [dp, dp_hit h hk n c, if_pos c]
    · obtain rfl : k = n := by omega
      rw [dp, dp_miss k hk, if_neg (Nat.lt_irrefl _), if_pos h]
def neg (s : ByteArray) : Bool := decide (0 < s.size) && decide (gn s 0 = 45)
def bod (s : ByteArray) : ByteArray := if neg s = true then s.extract 1 s.size else s
def un : Nat → Nat
  | 0 => 100000
  | k + 1 => un k / 10
/-- the millionths that k digits say. -/
def fr (t : ByteArray) : Nat → Nat
  | 0 => 0
  | k + 1 => fr t k + un k * (gn t k - 48)
theorem fr_lt {t : ByteArray} (k : Nat) (h6 : k ≤ 6) (h : ∀ i, i < k → dig (gn t i) = true) : fr t k < 1000000 := by
  have g : ∀ i, i < k → gn t i - 48 ≤ 9 := fun i hi => by have b := h i hi; simp [dig] at b; omega
  match k, h6 with
  | 0, _ => simp [fr]
  | 1, _ => have g0 := g 0 (by omega); simp [fr, un]; omega
  | 2, _ => have g0 := g 0 (by omega); have g1 := g 1 (by omega); simp [fr, un]; omega
  | 3, _ => have g0 := g 0 (by omega); have g1 := g 1 (by omega); have g2 := g 2 (by omega); simp [fr, un]; omega
  | 4, _ => have g0 := g 0 (by omega); have g1 := g 1 (by omega); have g2 := g 2 (by omega); have g3 := g 3 (by omega); simp [fr, un]; omega
  | 5, _ => have g0 := g 0 (by omega); have g1 := g 1 (by omega); have g2 := g 2 (by omega); have g3 := g 3 (by omega); have g4 := g 4 (by omega); simp [fr, un]; omega
  | 6, _ => have g0 := g 0 (by omega); have g1 := g 1 (by omega); have g2 := g 2 (by omega); have g3 := g 3 (by omega); have g4 := g 4 (by omega); have g5 := g 5 (by omega); simp [fr, un]; omega
theorem un_le : ∀ k, un k ≤ 100000
  | 0 => Nat.le_refl _
  | k + 1 => by have := un_le k; rw [un]; omega
/-- whole part and fraction of what has no sign; the millionths; are they seconds? -/
def wp (t : ByteArray) : ByteArray := t.extract 0 (dp t t.size)
def fp (t : ByteArray) : ByteArray := t.extract (dp t t.size + 1) t.size
def mi (t : ByteArray) : Nat := va (wp t) (wp t).size * 1000000 + (if dp t t.size < t.size then fr (fp t) (fp t).size else 0)
def okU (t : ByteArray) : Bool := wn (wp t) && (!decide (dp t t.size < t.size) || (dgs (fp t) && decide ((fp t).size ≤ 6)))
def okS (s : ByteArray) : Bool := okU (bod s)
/-- the ticks. -/
def tk (s : ByteArray) : Int := (if neg s = true then -(mi (bod s) : Int) else (mi (bod s) : Int)) * 1048576 / 1000000
def tkU (t : ByteArray) (b : Bool) : Int := (if b = true then -(mi t : Int) else (mi t : Int)) * 1048576 / 1000000
theorem tk_eq (n a b : Int) (h : n = 1000000 * a + b) (h0 : 0 ≤ b) (h1 : b < 1000000) : n * 1048576 / 1000000 = a * 1048576 + b * 1048576 / 1000000 := by omega

end Go.Proofs.YtoecgabdjpgleaaGreatDoor.Wd
