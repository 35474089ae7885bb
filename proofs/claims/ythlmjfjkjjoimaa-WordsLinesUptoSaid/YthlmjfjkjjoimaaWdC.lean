/-
  A text as a quoted word: the contract of sundialref07.Quote.
  Conditions: no more than 2^40 bytes.
-/
import Derived.Test.YthlmjfjkjjoimaaWdA
import Derived.Test.YthlmjfjkjjoimaaByA
namespace Go.Proofs.Ythlmjfjkjjoimaa.Wd
open Go.ChangeShapes Go.WideShapes Go.ChangeAt Go.RowKit Go.Joins By
set_option linter.unusedVariables false
set_option linter.unusedSimpArgs false

def qOne (x : Nat) : List Nat := if x = 34 ∨ x = 92 then [92, x] else [x]
/-- the bytes of k bytes' quoting. -/
def qL (s : ByteArray) : Nat → List Nat
  | 0 => []
  | k + 1 => qL s k ++ qOne (gn s k)
theorem qL_len (s : ByteArray) : ∀ k, (qL s k).length ≤ 2 * k
  | 0 => by simp [qL]
  | k + 1 => by
    have := qL_len s k
    rw [qL, List.length_append]
    have : (qOne (gn s k)).length ≤ 2 := by unfold qOne; split <;> simp
    omega
theorem qL_byte (s : ByteArray) : ∀ k, ∀ x ∈ qL s k, x < 256
  | 0, x, h => by simp [qL] at h
  | k + 1, x, h => by
    rw [qL, List.mem_append] at h
    rcases h with h | h
    · exact qL_byte s k x h
    · unfold qOne at h
      split at h
      · simp at h
        rcases h with rfl | rfl
        · omega
        · exact gn_lt s k
      · simp at h
        rw [h]; exact gn_lt s k
theorem own_conv {w : World} {base : Nat} {v : Value} {l : List Nat} (h : Own w base v l) (h8 : ∀ x ∈ l, x < 256) : (convert 50 9 v).run Try.prog w = .ok (.string (bs8 l)) w := by
  by_cases hl : 0 < l.length
  · obtain ⟨g, cap, rfl, hb, B, h1, h2⟩ := h.bsC hl h8
    have c := conv_bs B cap
    rwa [bl_getD] at c
  · have e : l = [] := List.length_eq_zero_iff.1 (by omega)
    subst e
    rcases h.2 with ⟨rfl, _⟩ | ⟨g, cap, cur, rfl, _⟩
    · exact conv_zero w none 0
    · exact conv_zero w _ cap
def q1 : ByteArray := ⟨#[34]⟩

set_option maxRecDepth 100000 in
set_option maxHeartbeats 4000000 in
theorem rQuote_c (s : ByteArray) (w : World) (hs : s.size ≤ 1099511627776) :
    Calls Try.prog 10 #[.string s] w fun e w' => e = .returned (.string (q1 ++ bs8 (qL s s.size) ++ q1)) ∧ Below w.heap.size w w' := by
  go_enter Try.func10, Try.ntmps10
  go_wp2_with fail
  go_loopw [3, 4] (fun v i wr => ∃ k : Nat, k ≤ s.size ∧ i = .int .i64 k ∧ Own wr w.heap.size v (qL s k) ∧ Below w.heap.size w wr) (fun _ i _ => s.size - (intOf i).toNat)
  case atStart => exact ⟨0, Nat.zero_le _, rfl, Own.nil _ _, brefl w⟩
  case round =>
    obtain ⟨k, hk, rfl, own, hb⟩ := hrel
    rename World => wr
    rename Value => v
    have BB := Lib.hid hb
    have OO := Lib.hid own
    have ql := qL_len s k
    by_cases c : k < s.size
    · have f1 : decide ((k : Int) < (s.size : Int)) = true := by rw [decide_eq_true_iff]; omega
      have ga := gn_at s k c
      have QE : Hid (qL s (k + 1) = qL s k ++ qOne (gn s k)) := Lib.hid rfl
      have gl := gn_lt s k
      by_cases h34 : gn s k = 34
      ·
        have hx : gn s k = 34 := h34
        obtain ⟨va, wa, ra, oa, ba, sa⟩ := app1 own 92 hb.size (by omega) 50
        obtain ⟨vb, wb, rb, ob, bb, sb⟩ := app1 oa 34 (Nat.le_trans hb.size sa) (by simp; omega) 50
        have OB : Hid (Own wb w.heap.size vb (qL s (k + 1))) := Lib.hid (by
          rw [QE.out, hx]
          simpa [qOne] using ob)
        have B2 := Lib.hid (hb.trans (ba.trans bb))
        have RA := Lib.hid ra
        have RB := Lib.hid rb
        rw [hx] at ga
        clear own hb oa ob ba bb sa sb ra rb hx gl h34 OO BB
        go_wp2_with (first | (at_builtin; refine wpList_append_eq rfl (.tmp 21) (.tmp 22) 50 rfl _ _ va wa rfl rfl RA.out ?_) | (at_builtin; refine wpList_append_eq rfl (.tmp 24) (.tmp 28) 50 rfl _ _ vb wb rfl rfl RB.out ?_))
        go_roundw
        case rel => exact ⟨k + 1, by omega, by go_num, OB.out, B2.out⟩
        case measure => simp [intOf]; omega
      · by_cases h92 : gn s k = 92
        ·
          have hx : gn s k = 92 := h92
          obtain ⟨va, wa, ra, oa, ba, sa⟩ := app1 own 92 hb.size (by omega) 50
          obtain ⟨vb, wb, rb, ob, bb, sb⟩ := app1 oa 92 (Nat.le_trans hb.size sa) (by simp; omega) 50
          have OB : Hid (Own wb w.heap.size vb (qL s (k + 1))) := Lib.hid (by
            rw [QE.out, hx]
            simpa [qOne] using ob)
          have B2 := Lib.hid (hb.trans (ba.trans bb))
          have RA := Lib.hid ra
          have RB := Lib.hid rb
          rw [hx] at ga
          clear own hb oa ob ba bb sa sb ra rb hx gl h34 h92 OO BB
          go_wp2_with (first | (at_builtin; refine wpList_append_eq rfl (.tmp 21) (.tmp 22) 50 rfl _ _ va wa rfl rfl RA.out ?_) | (at_builtin; refine wpList_append_eq rfl (.tmp 24) (.tmp 28) 50 rfl _ _ vb wb rfl rfl RB.out ?_))
          go_roundw
          case rel => exact ⟨k + 1, by omega, by go_num, OB.out, B2.out⟩
          case measure => simp [intOf]; omega
        · have g1 : ((gn s k : Int) == 34) = false := by simp; omega
          have g2 : ((gn s k : Int) == 92) = false := by simp; omega
          obtain ⟨vb, wb, rb, ob, bb, sb⟩ := app1 own (gn s k) hb.size (by omega) 50
          have OB : Hid (Own wb w.heap.size vb (qL s (k + 1))) := Lib.hid (by
            rw [QE.out, qOne, if_neg (by omega)]
            exact ob)
          have B2 := Lib.hid (hb.trans bb)
          have RB := Lib.hid rb
          clear own hb ob bb sb rb h34 h92 OO BB QE
          generalize gn s k = x at *
          go_wp2_with (at_builtin; refine wpList_append_eq rfl (.tmp 24) (.tmp 28) 50 rfl _ _ vb wb rfl rfl RB.out ?_)
          go_roundw
          case rel => exact ⟨k + 1, by omega, by go_num, OB.out, B2.out⟩
          case measure => simp [intOf]; omega
    · have f1 : decide ((k : Int) < (s.size : Int)) = false := by rw [decide_eq_false_iff_not]; omega
      have ek : k = s.size := by omega
      have CV := own_conv own (qL_byte s k)
      have EK : Hid (qL s k = qL s s.size) := Lib.hid (by rw [ek])
      rw [EK.out] at CV
      have SZ : (bs8 (qL s s.size)).size ≤ 2 * s.size := by
        have := qL_len s s.size
        show ((qL s s.size).map UInt8.ofNat).toArray.size ≤ _
        simpa using this
      clear ek own hb EK OO ql
      obtain ⟨S, hS⟩ : ∃ S, bs8 (qL s s.size) = S := ⟨_, rfl⟩
      rw [hS] at CV SZ
      have HS := Lib.hid hS
      clear hS
      have z1 : q1.size = 1 := rfl
      go_wp2_with fail
      go_ret
      exact ⟨by rw [HS.out]; rfl, BB.out⟩
end Go.Proofs.Ythlmjfjkjjoimaa.Wd
