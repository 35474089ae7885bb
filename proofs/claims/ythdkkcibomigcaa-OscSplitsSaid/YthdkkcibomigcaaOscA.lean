/-
  Legs that lie in memory, and the contracts of osc.isRight, osc.length, osc.Check and sundialref02.Check: a way is right or not, and its Lens add up to their sum.
  Conditions: the slice's cells hold integers of their kinds.
-/
import Derived.Test.YthdkkcibomigcaaRefM
import Derived.Deep.LoopGhost
namespace Go.Proofs.Ythdkkcibomigcaa.Fx
open Go.RowKit

/-- a slice of n legs begins at b, off: leg i is X i ticks at Y i ppm. -/
def Legs (w : World) (b off n : Nat) (X Y : Nat → Int) : Prop :=
  b < w.heap.size ∧ ∀ i, i < n → w.cell? ⟨b, off + i * 2, none⟩ = some (.int .i64 (X i)) ∧ w.cell? ⟨b, off + i * 2 + 1, none⟩ = some (.int .i64 (Y i))

theorem Legs.below {w w' : World} {b off n : Nat} {X Y : Nat → Int} (h : Legs w b off n X Y) (k : Below w.heap.size w w') : Legs w' b off n X Y :=
  ⟨Nat.lt_of_lt_of_le h.1 k.size, fun i hi => ⟨(k.cell (p := ⟨b, off + i * 2, none⟩) h.1).trans (h.2 i hi).1, (k.cell (p := ⟨b, off + i * 2 + 1, none⟩) h.1).trans (h.2 i hi).2⟩⟩

/-- the sum of the first k Lens. -/
def sumTo (X : Nat → Int) : Nat → Int
  | 0 => 0
  | k + 1 => sumTo X k + X k
theorem sumTo_succ (X : Nat → Int) (k : Nat) : sumTo X (k + 1) = sumTo X k + X k := rfl

/-- a right leg. -/
def rt (x y : Int) : Prop := 0 ≤ x ∧ x ≤ 1099511627776 ∧ -1000 ≤ y ∧ y ≤ 1000
/-- a right way. -/
def okW (n : Nat) (X Y : Nat → Int) : Prop := ∀ i, i < n → rt (X i) (Y i) ∧ sumTo X (i + 1) ≤ 1099511627776

theorem okW_zero (X Y : Nat → Int) : okW 0 X Y := fun _ h => absurd h (Nat.not_lt_zero _)
theorem okW_succ {k : Nat} {X Y : Nat → Int} (h : okW k X Y) (h1 : rt (X k) (Y k)) (h2 : sumTo X (k + 1) ≤ 1099511627776) : okW (k + 1) X Y := by
  intro i hi
  by_cases c : i < k
  · exact h i c
  · obtain rfl : i = k := by omega
    exact ⟨h1, h2⟩
theorem okW_le {n k : Nat} {X Y : Nat → Int} (h : okW n X Y) (hk : k ≤ n) : okW k X Y := fun i hi => h i (by omega)
theorem sumTo_bd {n : Nat} {X Y : Nat → Int} (h : okW n X Y) : ∀ k, k ≤ n → 0 ≤ sumTo X k ∧ sumTo X k ≤ 1099511627776 := by
  intro k hk
  induction k with
  | zero => simp [sumTo]
  | succ k ih =>
    have a := ih (by omega)
    have b := h k (by omega)
    have := b.1.1
    have := b.2
    rw [sumTo_succ] at *
    omega

set_option maxRecDepth 100000 in
theorem isRight_yes (x y : Int) (w : World) (h : rt x y) :
    Calls Try.prog 23 #[.agg #[.int .i64 x, .int .i64 y]] w fun e w' => e = .returned (.bool true) ∧ Below w.heap.size w w' := by
  obtain ⟨h1, h2, h3, h4⟩ := h
  go_enter Try.func23, Try.ntmps23
  go_wp2_with fail
  go_ret
  exact ⟨rfl, balloc (brefl w) _⟩

set_option maxRecDepth 100000 in
theorem isRight_no (x y : Int) (w : World) (h : ¬ rt x y) :
    Calls Try.prog 23 #[.agg #[.int .i64 x, .int .i64 y]] w fun e w' => e = .returned (.bool false) ∧ Below w.heap.size w w' := by
  unfold rt at h
  by_cases c1 : 0 ≤ x
  · have e1 : decide (0 ≤ x) = true := decide_eq_true c1
    by_cases c2 : x ≤ 1099511627776
    · have e2 : decide (x ≤ 1099511627776) = true := decide_eq_true c2
      by_cases c3 : -1000 ≤ y
      · have e3 : decide (-1000 ≤ y) = true := decide_eq_true c3
        have c4 : ¬ y ≤ 1000 := by omega
        have e4 : decide (y ≤ 1000) = false := decide_eq_false c4
        clear h
        go_enter Try.func23, Try.ntmps23
        go_wp2_with fail
        go_ret
        exact ⟨rfl, balloc (brefl w) _⟩
      · have e3 : decide (-1000 ≤ y) = false := decide_eq_false c3
        clear h
        go_enter Try.func23, Try.ntmps23
        go_wp2_with fail
        go_ret
        exact ⟨rfl, balloc (brefl w) _⟩
    · have e2 : decide (x ≤ 1099511627776) = false := decide_eq_false c2
      clear h
      go_enter Try.func23, Try.ntmps23
      go_wp2_with fail
      go_ret
      exact ⟨rfl, balloc (brefl w) _⟩
  · have e1 : decide (0 ≤ x) = false := decide_eq_false c1
    clear h
    go_enter Try.func23, Try.ntmps23
    go_wp2_with fail
    go_ret
    exact ⟨rfl, balloc (brefl w) _⟩
end Go.Proofs.Ythdkkcibomigcaa.Fx
