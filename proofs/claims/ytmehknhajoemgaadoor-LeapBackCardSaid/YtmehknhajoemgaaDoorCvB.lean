/-
  Contracts of Number, Last and Weekday, of civil and of sundialref03: of a date its number, its month's last day, its weekday; else ErrShape.
  Conditions: the arguments are of their kinds.
-/
import Derived.Test.YtmehknhajoemgaaDoorCvA
namespace Go.Proofs.YtmehknhajoemgaaDoor.Cv
open Go.RowKit Go.Lib
set_option linter.unusedVariables false
set_option linter.unusedSimpArgs false

/-- block b holds a date, and may be written. -/
def Dt (w : World) (b : Nat) (y m d : Int) : Prop :=
  b < w.heap.size ∧ w.cell? ⟨b, 0, none⟩ = some (.int .i64 y) ∧ w.cell? ⟨b, 1, none⟩ = some (.int .i64 m) ∧ w.cell? ⟨b, 2, none⟩ = some (.int .i64 d) ∧ w.frozen? ⟨b, 0, none⟩ = false ∧ w.frozen? ⟨b, 1, none⟩ = false ∧ w.frozen? ⟨b, 2, none⟩ = false
theorem Dt.below {w w' : World} {b : Nat} {y m d : Int} (h : Dt w b y m d) (k : Below w.heap.size w w') : Dt w' b y m d :=
  ⟨Nat.lt_of_lt_of_le h.1 k.size, (k.cell (p := ⟨b, 0, none⟩) h.1).trans h.2.1, (k.cell (p := ⟨b, 1, none⟩) h.1).trans h.2.2.1, (k.cell (p := ⟨b, 2, none⟩) h.1).trans h.2.2.2.1, (k.frozen (p := ⟨b, 0, none⟩) h.1).trans h.2.2.2.2.1, (k.frozen (p := ⟨b, 1, none⟩) h.1).trans h.2.2.2.2.2.1, (k.frozen (p := ⟨b, 2, none⟩) h.1).trans h.2.2.2.2.2.2⟩
theorem Dt.alloc {w : World} {b : Nat} {y m d : Int} (h : Dt w b y m d) (o : Obj) : Dt (w.alloc o) b y m d := h.below (balloc (brefl w) o)
theorem Dt.drewN {w : World} {b : Nat} {y m d : Int} (h : Dt w b y m d) (n : Nat) : Dt (w.drewN n) b y m d := h.below (bdrew (brefl w) n)
theorem Dt.new (w : World) (y m d : Int) : Dt (w.alloc (.cells #[.int .i64 y, .int .i64 m, .int .i64 d] 76)) w.heap.size y m d :=
  ⟨by simp, by simp [go_sem], by simp [go_sem], by simp [go_sem], by simp [go_sem], by simp [go_sem], by simp [go_sem]⟩
theorem Dt.new1 (w : World) (o : Obj) (y m d : Int) : Dt ((w.alloc o).alloc (.cells #[.int .i64 y, .int .i64 m, .int .i64 d] 76)) (w.heap.size + 1) y m d := by
  have h := Dt.new (w.alloc o) y m d
  rwa [show (w.alloc o).heap.size = w.heap.size + 1 from by simp] at h
theorem ret_t2 {k : IntKind} {a b : Int} {v : Value} (h : a = b) : Ending.returned (.tuple #[.int k a, v]) = .returned (.tuple #[.int k b, v]) := by rw [h]

end Go.Proofs.YtmehknhajoemgaaDoor.Cv
