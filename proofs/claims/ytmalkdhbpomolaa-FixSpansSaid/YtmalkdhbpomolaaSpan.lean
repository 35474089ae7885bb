/-
  Spans that lie in memory: what is known of a block that holds one, and how it is carried from world to world; the contract of sundiallaw01.has.
  Conditions: none.
-/
import Derived.Test.YtmalkdhbpomolaaFxM
namespace Go.Proofs.Ytmalkdhbpomolaa.Fx
open Go.RowKit

/-- block b holds the span from lo to hi. -/
def Sp (w : World) (b : Nat) (lo hi : Int) : Prop := b < w.heap.size ∧ w.cell? ⟨b, 0, none⟩ = some (.int .i64 lo) ∧ w.cell? ⟨b, 1, none⟩ = some (.int .i64 hi)

theorem Sp.below {w w' : World} {b : Nat} {lo hi : Int} (h : Sp w b lo hi) (k : Below w.heap.size w w') : Sp w' b lo hi :=
  ⟨Nat.lt_of_lt_of_le h.1 k.size, (k.cell (p := ⟨b, 0, none⟩) h.1).trans h.2.1, (k.cell (p := ⟨b, 1, none⟩) h.1).trans h.2.2⟩
theorem Sp.alloc {w : World} {b : Nat} {lo hi : Int} (h : Sp w b lo hi) (o : Obj) : Sp (w.alloc o) b lo hi := h.below (balloc (brefl w) o)
theorem Sp.new (w : World) (lo hi : Int) : Sp (w.alloc (.cells #[.int .i64 lo, .int .i64 hi] 39)) w.heap.size lo hi :=
  ⟨by simp, by simp [go_sem], by simp [go_sem]⟩

theorem Sp.new1 (w : World) (o : Obj) (lo hi : Int) : Sp ((w.alloc o).alloc (.cells #[.int .i64 lo, .int .i64 hi] 39)) (w.heap.size + 1) lo hi := by
  have h := Sp.new (w.alloc o) lo hi
  rwa [show (w.alloc o).heap.size = w.heap.size + 1 from by simp] at h

set_option maxRecDepth 100000 in
theorem has_yes (lo hi t : Int) (w : World) (h : lo ≤ t ∧ t ≤ hi) :
    Calls Try.prog 30 #[.agg #[.int .i64 lo, .int .i64 hi], .int .i64 t] w fun e w' => e = .returned (.bool true) ∧ Below w.heap.size w w' := by
  obtain ⟨h1, h2⟩ := h
  go_enter Try.func30, Try.ntmps30
  go_wp2_with fail
  go_ret
  exact ⟨rfl, balloc (brefl w) _⟩

set_option maxRecDepth 100000 in
theorem has_no (lo hi t : Int) (w : World) (h : ¬ (lo ≤ t ∧ t ≤ hi)) :
    Calls Try.prog 30 #[.agg #[.int .i64 lo, .int .i64 hi], .int .i64 t] w fun e w' => e = .returned (.bool false) ∧ Below w.heap.size w w' := by
  by_cases c : lo ≤ t
  · have e1 : decide (lo ≤ t) = true := decide_eq_true c
    have e2 : decide (t ≤ hi) = false := by rw [decide_eq_false_iff_not]; omega
    clear h
    go_enter Try.func30, Try.ntmps30
    go_wp2_with fail
    go_ret
    exact ⟨rfl, balloc (brefl w) _⟩
  · have e1 : decide (lo ≤ t) = false := decide_eq_false c
    clear h
    go_enter Try.func30, Try.ntmps30
    go_wp2_with fail
    go_ret
    exact ⟨rfl, balloc (brefl w) _⟩
end Go.Proofs.Ytmalkdhbpomolaa.Fx
