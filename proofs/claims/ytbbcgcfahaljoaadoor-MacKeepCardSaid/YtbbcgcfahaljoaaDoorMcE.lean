/-
  The contract of mac.Same.
  Conditions: none.
-/
import Derived.Test.YtbbcgcfahaljoaaDoorMcA
namespace Go.Proofs.YtbbcgcfahaljoaaDoor.Mc
open Go.ChangeShapes Go.WideShapes Go.ChangeAt Go.RowKit Go.Joins Hs
set_option linter.unusedVariables false
set_option linter.unusedSimpArgs false

theorem of8 (a : Nat) (h : a < 256) : (BitVec.ofInt 8 (a : Int)).toNat = a := by
  simp; omega
theorem wrap8 (n : Nat) (h : n < 256) : IntKind.u8.wrap (n : Int) = n := by
  have : IntKind.u8.wrap (n : Int) = (n : Int) % 256 := rfl
  rw [this]; omega
theorem xor8 (a b : Nat) (ha : a < 256) (hb : b < 256) : bits BinOp.xor IntKind.u8 (a : Int) (b : Int) = ((a ^^^ b : Nat) : Int) := by
  have h : a ^^^ b < 256 := Nat.xor_lt_two_pow (n := 8) ha hb
  show IntKind.u8.wrap (((BitVec.ofInt 8 (a : Int)) ^^^ (BitVec.ofInt 8 (b : Int))).toNat : Int) = _
  rw [BitVec.toNat_xor, of8 a ha, of8 b hb, wrap8 _ h]
theorem or8 (a b : Nat) (ha : a < 256) (hb : b < 256) : bits BinOp.or IntKind.u8 (a : Int) (b : Int) = ((a ||| b : Nat) : Int) := by
  have h : a ||| b < 256 := Nat.or_lt_two_pow (n := 8) ha hb
  show IntKind.u8.wrap (((BitVec.ofInt 8 (a : Int)) ||| (BitVec.ofInt 8 (b : Int))).toNat : Int) = _
  rw [BitVec.toNat_or, of8 a ha, of8 b hb, wrap8 _ h]
theorem xor_zero {a b : Nat} : a ^^^ b = 0 ↔ a = b := by
  constructor
  · intro h
    have : a ^^^ b ^^^ b = b := by rw [h, Nat.zero_xor]
    rwa [Nat.xor_assoc, Nat.xor_self, Nat.xor_zero] at this
  · rintro rfl; exact Nat.xor_self _
theorem or_zero {a b : Nat} : a ||| b = 0 ↔ a = 0 ∧ b = 0 := by
  constructor
  · intro h
    have h1 : a ≤ a ||| b := Nat.left_le_or
    have h2 : b ≤ a ||| b := Nat.right_le_or
    omega
  · rintro ⟨rfl, rfl⟩; rfl
theorem bl_eq_iff {f g : Nat → Nat} {n : Nat} : bl f n = bl g n ↔ ∀ i, i < n → f i = g i := by
  simp [bl]

set_option maxRecDepth 100000 in
set_option maxHeartbeats 4000000 in
theorem Same_c {w : World} {va vb : Value} {n m : Nat} {f g : Nat → Nat} (A : Sb w va n f) (B : Sb w vb m g) :
    Calls Tryd.prog 16 #[va, vb] w fun e w' => e = .returned (.bool (decide (bl f n = bl g m))) ∧ Below w.heap.size w w' := by
  obtain ⟨a, c0, rfl, h1, h2, h3, h4, h5⟩ := A
  obtain ⟨b, c1, rfl, j1, j2, j3, j4, j5⟩ := B
  by_cases c : n = m
  · subst c
    have H3 := Lib.hid h3
    have J3 := Lib.hid j3
    have H4 := Lib.hid h4
    have J4 := Lib.hid j4
    have q1 : (n : Int) ≤ (c0 : Int) := by omega
    have q2 : (n : Int) ≤ (c1 : Int) := by omega
    have q3 : (c0 : Int) ≤ 9223372036854775807 := by omega
    have q4 : (c1 : Int) ≤ 9223372036854775807 := by omega
    clear h3 h4 h5 j3 j4 j5
    go_enter Tryd.func16, Tryd.ntmps16
    go_wp2_with fail
    go_loopw [5, 6, 14] (fun d _ i wr => ∃ k q : Nat, k ≤ n ∧ q < 256 ∧ i = .int .i64 k ∧ d = .int .u8 q ∧ (q = 0 ↔ ∀ j, j < k → f j = g j) ∧ Below w.heap.size w wr) (fun _ _ i _ => n - (intOf i).toNat)
    case atStart => exact ⟨0, 0, Nat.zero_le _, by omega, rfl, rfl, by simp, brefl w⟩
    case round =>
      obtain ⟨k, q, hk, hq, rfl, rfl, hi, hb⟩ := hrel
      rename World => wr
      have HI := Lib.hid hi
      have BB := Lib.hid hb
      clear hi hb
      by_cases c : k < n
      · have e0 : decide ((k : Int) < (n : Int)) = true := by rw [decide_eq_true_iff]; omega
        have k1 : (k : Int) < (n : Int) := by omega
        obtain ⟨b0, o0, rfl, B0⟩ := H4.out (by omega)
        obtain ⟨b1, o1, rfl, B1⟩ := J4.out (by omega)
        have g0 := (B0.below BB.out).2.2 k c
        have g1 := (B1.below BB.out).2.2 k c
        have x1 := xor8 (f k) (g k) (H3.out k) (J3.out k)
        have x2 := or8 q (f k ^^^ g k) hq (Nat.xor_lt_two_pow (n := 8) (H3.out k) (J3.out k))
        have HX : Hid (q ||| (f k ^^^ g k) < 256 ∧ (q ||| (f k ^^^ g k) = 0 ↔ ∀ j, j < k + 1 → f j = g j)) := Lib.hid ⟨Nat.or_lt_two_pow (n := 8) hq (Nat.xor_lt_two_pow (n := 8) (H3.out k) (J3.out k)), by
          rw [or_zero, xor_zero, HI.out]
          constructor
          · rintro ⟨u1, u2⟩ j hj
            by_cases e : j = k
            · subst e; exact u2
            · exact u1 j (by omega)
          · exact fun u => ⟨fun j hj => u j (by omega), u k (by omega)⟩⟩
        clear B0 B1
        generalize f k = x at *
        generalize g k = y at *
        go_wp2_with fail
        go_quiet (fail)
        go_wp2_with fail
        go_roundw
        case rel => exact ⟨k + 1, q ||| (x ^^^ y), by omega, HX.out.1, by go_num, rfl, HX.out.2, bdrew BB.out nq⟩
        case measure => simp [intOf]; omega
      · have e0 : decide ((k : Int) < (n : Int)) = false := by rw [decide_eq_false_iff_not]; omega
        obtain rfl : k = n := by omega
        have e1 : ((q : Int) == 0) = decide (bl f k = bl g k) := by
          by_cases h : q = 0
          · rw [decide_eq_true (bl_eq_iff.2 (HI.out.1 h))]; subst h; rfl
          · rw [decide_eq_false (fun u => h (HI.out.2 (bl_eq_iff.1 u)))]; simp; omega
        go_wp2_with fail
        go_ret
        exact ⟨by simp, BB.out⟩
  · have e0 : ((n : Int) == (m : Int)) = false := by simp; omega
    have r : decide (bl f n = bl g m) = false := decide_eq_false (fun u => c (by have := congrArg List.length u; rwa [bl_len, bl_len] at this))
    rw [r]
    go_enter Tryd.func16, Tryd.ntmps16
    go_wp2_with fail
    go_ret
    exact ⟨rfl, brefl w⟩
end Go.Proofs.YtbbcgcfahaljoaaDoor.Mc
