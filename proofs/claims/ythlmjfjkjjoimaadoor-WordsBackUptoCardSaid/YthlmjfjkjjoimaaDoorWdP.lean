/-
  The characters of a line, as plain lists.
-/
import Derived.Test.YthlmjfjkjjoimaaDoorWdC
import Derived.Lib.RuneCountTail
import Derived.Lib.TrimU
namespace Go.Proofs.YthlmjfjkjjoimaaDoor.Wd
open Go.RowKit
set_option linter.unusedVariables false
set_option linter.unusedSimpArgs false

/-- the rune at i, and how many bytes it has. -/
def cr (s : ByteArray) (i : Nat) : Nat := (Utf8.decode s i).1
def cw (s : ByteArray) (i : Nat) : Nat := (Utf8.decode s i).2
theorem decodeN_le (n b0 b1 b2 b3 : Nat) (h : 1 ≤ n) : (Lib.decodeN n b0 b1 b2 b3).2 ≤ n := by
  unfold Lib.decodeN
  repeat' split
  all_goals (simp only; omega)
theorem cw_pos (s : ByteArray) (i : Nat) : 1 ≤ cw s i := Lib.width_pos s i
theorem cw_le (s : ByteArray) (i : Nat) (h : i < s.size) : i + cw s i ≤ s.size := by
  have := decodeN_le (s.size - i) (s.get! i).toNat (s.get! (i + 1)).toNat (s.get! (i + 2)).toNat (s.get! (i + 3)).toNat (by omega)
  rw [← Lib.decode_at] at this
  unfold cw
  omega
theorem cr_le (s : ByteArray) (i : Nat) : cr s i ≤ 1114111 := Lib.rune_le s i
/-- a wrong byte. -/
def wr1 (s : ByteArray) (i : Nat) : Bool := decide (cr s i = 65533) && decide (cw s i = 1)
/-- the characters from i on. -/
def chL (s : ByteArray) : Nat → Nat → List (ByteArray × Bool)
  | 0, _ => []
  | f + 1, i => if i < s.size then (s.extract i (i + cw s i), wr1 s i) :: chL s f (i + cw s i) else []
def chars (s : ByteArray) : List (ByteArray × Bool) := chL s s.size 0

/-- is it a blank? -/
def bl1 (s : ByteArray) : Bool := s.toList == [9] || s.toList == [32] || s.toList == [194, 160] || s.toList == [227, 128, 128]
end Go.Proofs.YthlmjfjkjjoimaaDoor.Wd
