/-
  A text as a quoted word: the contract of sundialref07.Quote.
  Conditions: no more than 2^40 bytes.
-/
import Derived.Test.YthlmjfjkjjoimaaDoorWdA
import Derived.Test.YthlmjfjkjjoimaaDoorByA
namespace Go.Proofs.YthlmjfjkjjoimaaDoor.Wd
open Go.ChangeShapes Go.WideShapes Go.ChangeAt Go.RowKit Go.Joins By
set_option linter.unusedVariables false
set_option linter.unusedSimpArgs false

def qOne (x : Nat) : List Nat := if x = 34 ∨ x = 92 then [92, x] else [x]
/-- the bytes of k bytes' quoting. -/
def qL (s : ByteArray) : Nat → List Nat
  | 0 => []
  | k + 1 => qL s k ++ qOne (gn s k)
theorem qL_len (s : ByteArray) : ∀ k, (qL s k).length ≤ 2 * k
  | 0 => by simp [qL]
  | k + 1 => by
    have := qL_len s k
    rw [qL, List.length_append]
    have : (qOne (gn s k)).length ≤ 2 := by unfold qOne; split <;> simp
    omega
theorem qL_byte (s : ByteArray) : ∀ k, ∀ x ∈ qL s k, x < 256
  | 0, x, h => by simp [qL] at h
  | k + 1, x, h => by
    rw [qL, List.mem_append] at h
    rcases h with h | h
    · exact qL_byte s k x h
    · unfold qOne at h
      split at h
      · simp at h
        rcases h with rfl | rfl
        · omega
        · exact gn_lt s k
      · simp at h
        rw [h]; exact gn_lt s k
theorem own_conv {w : World} {base : Nat} {v : Value} {l : List Nat} (h : Own w base v l) (h8 : ∀ x ∈ l, x < 256) : (convert 34 9 v).run Tryd.prog w = .ok (.string (bs8 l)) w := by
  by_cases hl : 0 < l.length
  · obtain ⟨g, cap, rfl, hb, B, h1, h2⟩ := h.bsC hl h8
    have c := conv_bs B cap
    rwa [bl_getD] at c
  · have e : l = [] := List.length_eq_zero_iff.1 (by omega)
    subst e
    rcases h.2 with ⟨rfl, _⟩ | ⟨g, cap, cur, rfl, _⟩
    · exact conv_zero w none 0
    · exact conv_zero w _ cap
def q1 : ByteArray := ⟨#[34]⟩

end Go.Proofs.YthlmjfjkjjoimaaDoor.Wd
