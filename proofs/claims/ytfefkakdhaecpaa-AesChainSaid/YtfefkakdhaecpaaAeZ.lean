/-
  What goes ahead of a tag's last blocks comes in through one enciphered block alone, in numbers.
  Conditions: none.
-/
import Derived.Test.YtfefkakdhaecpaaAeX
namespace Go.Proofs.Ytfefkakdhaecpaa.Ae
open Go.RowKit By
set_option linter.unusedVariables false
set_option linter.unusedSimpArgs false

theorem tg_at (W M : Nat → Nat) (n t : Nat) (h : (n - 1) / 16 = t) : tg W M n = enc W (xr (cs W M t) (lbk W (fun i => M (16 * t + i)) (n - 16 * t))) := by
  subst h; rfl
theorem first_block {W x M1 : Nat → Nat} (h1 : ∀ i, i < 16 → M1 i = x i) : ∀ i, i < 16 → cs W M1 1 i = enc W x i := by
  intro i hi
  rw [cs_succ]
  refine enc_congr (fun _ _ => rfl) (fun j hj => ?_) i hi
  show cs W M1 0 j ^^^ M1 (16 * 0 + j) = x j
  rw [cs_zero, Nat.zero_xor, show 16 * 0 + j = j from by omega, h1 j hj]
theorem cs_shift {W x y M1 M2 : Nat → Nat} (h1 : ∀ i, i < 16 → M1 i = x i) (h2 : ∀ i, i < 16 → M1 (16 + i) = y i) (h3 : ∀ i, i < 16 → M2 i = enc W x i ^^^ y i) (h4 : ∀ j, 16 ≤ j → M1 (16 + j) = M2 j) :
    ∀ t, ∀ i, i < 16 → cs W M1 (t + 1 + 1) i = cs W M2 (t + 1) i
  | 0, i, hi => by
    rw [cs_succ W M1 1, cs_succ W M2 0]
    refine enc_congr (fun _ _ => rfl) (fun j hj => ?_) i hi
    show cs W M1 1 j ^^^ M1 (16 * 1 + j) = cs W M2 0 j ^^^ M2 (16 * 0 + j)
    rw [first_block h1 j hj, cs_zero, Nat.zero_xor, show 16 * 1 + j = 16 + j from by omega, show 16 * 0 + j = j from by omega, h2 j hj, h3 j hj]
  | t + 1, i, hi => by
    rw [cs_succ W M1 (t + 1 + 1), cs_succ W M2 (t + 1)]
    refine enc_congr (fun _ _ => rfl) (fun j hj => ?_) i hi
    show cs W M1 (t + 1 + 1) j ^^^ M1 (16 * (t + 1 + 1) + j) = cs W M2 (t + 1) j ^^^ M2 (16 * (t + 1) + j)
    rw [cs_shift h1 h2 h3 h4 t j hj, show 16 * (t + 1 + 1) + j = 16 + (16 * (t + 1) + j) from by omega, h4 _ (by omega)]
theorem tag_chain {W x y M1 M2 : Nat → Nat} (n : Nat) (h1 : ∀ i, i < 16 → M1 i = x i) (h2 : ∀ i, i < 16 → M1 (16 + i) = y i) (h3 : ∀ i, i < 16 → M2 i = enc W x i ^^^ y i) (h4 : ∀ j, 16 ≤ j → M1 (16 + j) = M2 j) :
    ∀ i, i < 16 → tg W M1 (32 + n) i = tg W M2 (16 + n) i := by
  intro i hi
  by_cases c : n = 0
  · subst c
    rw [tg_at W M1 (32 + 0) 1 (by omega), tg_at W M2 (16 + 0) 0 (by omega)]
    refine enc_congr (fun _ _ => rfl) (fun j hj => ?_) i hi
    show cs W M1 1 j ^^^ (pd _ (32 + 0 - 16 * 1) j ^^^ (if 32 + 0 - 16 * 1 = 16 then sk W else dbl (sk W)) j) = cs W M2 0 j ^^^ (pd _ (16 + 0 - 16 * 0) j ^^^ (if 16 + 0 - 16 * 0 = 16 then sk W else dbl (sk W)) j)
    simp only [show 32 + 0 - 16 * 1 = 16 from rfl, show 16 + 0 - 16 * 0 = 16 from rfl, if_true]
    rw [first_block h1 j hj, cs_zero, Nat.zero_xor]
    unfold pd
    rw [if_pos hj, if_pos hj]
    show enc W x j ^^^ (M1 (16 * 1 + j) ^^^ sk W j) = M2 (16 * 0 + j) ^^^ sk W j
    rw [show 16 * 1 + j = 16 + j from by omega, show 16 * 0 + j = j from by omega, h2 j hj, h3 j hj, Nat.xor_assoc]
  · obtain ⟨t, ht⟩ : ∃ t, (16 + n - 1) / 16 = t + 1 := ⟨(16 + n - 1) / 16 - 1, by omega⟩
    rw [tg_at W M1 (32 + n) (t + 1 + 1) (by omega), tg_at W M2 (16 + n) (t + 1) ht]
    refine enc_congr (fun _ _ => rfl) (fun j hj => ?_) i hi
    have e : (fun i => M1 (16 * (t + 1 + 1) + i)) = (fun i => M2 (16 * (t + 1) + i)) := funext fun i => by
      rw [show 16 * (t + 1 + 1) + i = 16 + (16 * (t + 1) + i) from by omega, h4 _ (by omega)]
    rw [e, show 32 + n - 16 * (t + 1 + 1) = 16 + n - 16 * (t + 1) from by omega]
    show cs W M1 (t + 1 + 1) j ^^^ _ = cs W M2 (t + 1) j ^^^ _
    rw [cs_shift h1 h2 h3 h4 t j hj]
theorem xr_get (f : Nat → Nat) (n : Nat) (l : List Nat) {i : Nat} (h : i < n) : (bl f n ++ l).getD i 0 = f i := bl_get h l
end Go.Proofs.Ytfefkakdhaecpaa.Ae
