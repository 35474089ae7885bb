/-
  The contract of sundiallaw05.fit.
  Conditions: a row of bytes is handed in.
-/
import Derived.Test.YtfefkakdhaecpaaAeT
namespace Go.Proofs.Ytfefkakdhaecpaa.Ae
open Go.RowKit By
set_option linter.unusedVariables false
set_option linter.unusedSimpArgs false

theorem pad0_all {f : Nat → Nat} {n : Nat} (hf : ∀ i, f i < 256) (i : Nat) : pad0 f n i < 256 := by
  unfold pad0
  split
  · exact hf i
  · omega
set_option maxRecDepth 100000 in
set_option maxHeartbeats 2000000 in
theorem fit_c (p : Option Addr) (n cap : Nat) (f : Nat → Nat) (w : World) (S : Sl w p n f) (hf : ∀ i, f i < 256) (hn : n ≤ 140737488351232) :
    Calls Try.prog 11 #[.slice p n cap, .int .i64 16] w fun e w' => e = .returned (.slice (some ⟨w.heap.size, 0, none⟩) 16 16) ∧ Bs w' w.heap.size 0 16 (pad0 f n) ∧ Below w.heap.size w w' := by
  have WS := Lib.hid (balloc (brefl w) (.cells #[.int .u8 0, .int .u8 0, .int .u8 0, .int .u8 0, .int .u8 0, .int .u8 0, .int .u8 0, .int .u8 0, .int .u8 0, .int .u8 0, .int .u8 0, .int .u8 0, .int .u8 0, .int .u8 0, .int .u8 0, .int .u8 0] 5))
  have R0 : Hid (Ay (w.alloc (.cells #[.int .u8 0, .int .u8 0, .int .u8 0, .int .u8 0, .int .u8 0, .int .u8 0, .int .u8 0, .int .u8 0, .int .u8 0, .int .u8 0, .int .u8 0, .int .u8 0, .int .u8 0, .int .u8 0, .int .u8 0, .int .u8 0] 5)) w.heap.size 0 16 (fun _ => 0)) := Lib.hid (Ay.new0 w 16 5)
  have HF := Lib.hid hf
  have HS := Lib.hid S
  have MK := mk16
  clear hf S
  go_enter Try.func11, Try.ntmps11
  go_wp2_with fail
  generalize w.alloc (.cells #[.int .u8 0, .int .u8 0, .int .u8 0, .int .u8 0, .int .u8 0, .int .u8 0, .int .u8 0, .int .u8 0, .int .u8 0, .int .u8 0, .int .u8 0, .int .u8 0, .int .u8 0, .int .u8 0, .int .u8 0, .int .u8 0] 5) = W0 at *
  clear MK
  go_loopw [6] (fun i wr => ∃ k : Nat, k ≤ 16 ∧ k ≤ n ∧ i = .int .i64 k ∧ Ay wr w.heap.size 0 16 (fun i => if i < k then f i else 0) ∧ Below w.heap.size w wr) (fun i _ => 16 - (intOf i).toNat)
  case atStart => exact ⟨0, by omega, by omega, rfl, R0.out.eq (by simp), WS.out⟩
  case round =>
    obtain ⟨k, hk, hkn, rfl, ar, hb⟩ := hrel
    rename World => wr
    have AR := Lib.hid ar
    have BB := Lib.hid hb
    clear ar hb
    have FIN : Hid (k = 16 ∨ k = n → Bs wr w.heap.size 0 16 (pad0 f n)) := Lib.hid (fun h => ⟨AR.out.1, pad0_all HF.out, fun i hi => by
      rw [(AR.out.2.2 i hi).1]
      congr 3
      unfold pad0
      show (if i < k then f i else 0) = _
      by_cases e : i < k
      · rw [if_pos e, if_pos (by omega)]
      · rw [if_neg e, if_neg (by omega)]⟩)
    have k0 : (0 : Int) ≤ (k : Int) := by omega
    by_cases c : k < 16
    · have e0 : decide ((k : Int) < 16) = true := by rw [decide_eq_true_iff]; omega
      by_cases c2 : k < n
      · have e1 : decide ((k : Int) < (n : Int)) = true := by rw [decide_eq_true_iff]; omega
        obtain ⟨b, o, rfl, B⟩ := HS.out (by omega)
        have g1 := (B.belowB B.1 BB.out).2.2 k c2
        obtain ⟨a1, a2⟩ := AR.out.at c
        rw [if_neg (Nat.lt_irrefl _)] at a1
        have xl := HF.out k
        have ST := Lib.hid ((AR.out.set0 k (f k) c xl).eq (g' := fun i => if i < k + 1 then f i else 0) (fun i hi => by
          unfold up
          by_cases e : i = k
          · subst e; simp
          · rw [if_neg e]
            show (if i < k then f i else 0) = _
            by_cases e' : i < k
            · rw [if_pos e', if_pos (by omega)]
            · rw [if_neg e', if_neg (by omega)]))
        have SB := Lib.hid (BB.out.setCell (p := ⟨w.heap.size, k, none⟩) (Nat.le_refl _) (.int .u8 (f k)))
        clear B
        generalize f k = x at *
        have k1 : (k : Int) < 16 := by omega
        have k2 : (k : Int) < (n : Int) := by omega
        go_wp2_with fail
        go_roundw
        case rel => exact ⟨k + 1, by omega, by omega, by go_num, ST.out, SB.out⟩
        case measure => simp [intOf]; omega
      · have e1 : decide ((k : Int) < (n : Int)) = false := by rw [decide_eq_false_iff_not]; omega
        have FI := Lib.hid (FIN.out (.inr (by omega)))
        go_wp2_with fail
        go_ret
        exact ⟨rfl, FI.out, BB.out⟩
    · have e0 : decide ((k : Int) < 16) = false := by rw [decide_eq_false_iff_not]; omega
      have FI := Lib.hid (FIN.out (.inl (by omega)))
      go_wp2_with fail
      go_ret
      exact ⟨rfl, FI.out, BB.out⟩
end Go.Proofs.Ytfefkakdhaecpaa.Ae
