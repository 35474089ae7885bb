/-
  The arithmetic under math/bits.Div64 for a divisor below 2^32: normalised by a shift its lower half is 0, so each guessed digit of the quotient is right at once.
  Conditions: hi < y, y below 2^32, lo a 64-bit word; no program is named here.
-/
import Derived.WalkKit
import Derived.Lib.BitFns
namespace Go.Proofs.Ytppflfodkhhfhaa.Fx

theorem bitLen_spec : ∀ (n x : Nat), x < 2 ^ n → n ≤ 64 → 0 < x → 2 ^ Lib.bitLen x ≤ 2 * x ∧ x < 2 ^ Lib.bitLen x
  | 0, x, h, _, h0 => by simp at h; omega
  | n + 1, x, h, hn, h0 => by
    have h64 : x < 2 ^ 64 := Nat.lt_of_lt_of_le h (Nat.pow_le_pow_right (by omega) hn)
    have hb := Lib.bitLen_half x (by omega) h64
    by_cases h1 : x / 2 = 0
    · have : x = 1 := by omega
      subst this
      decide
    · have h2 : x / 2 < 2 ^ n := by rw [Nat.pow_succ] at h; omega
      obtain ⟨i1, i2⟩ := bitLen_spec n (x / 2) h2 (by omega) (by omega)
      rw [hb, Nat.add_comm 1, Nat.pow_succ]
      generalize 2 ^ Lib.bitLen (x / 2) = p at *
      omega

/-- the shift that normalises y. -/
theorem norm_shift (y : Nat) (h0 : 0 < y) (h1 : y < 4294967296) :
    ∃ s : Nat, 64 - ((Lib.bitLen (y : Int).toNat : Nat) : Int) = (s : Int) ∧ 32 ≤ s ∧ s ≤ 63 ∧ 9223372036854775808 ≤ y * 2 ^ s ∧ y * 2 ^ s < 18446744073709551616 := by
  rw [Int.toNat_natCast]
  obtain ⟨a, b⟩ := bitLen_spec 32 y (by omega) (by omega) h0
  have c := Lib.bitLen_le y 32 (by omega) (by omega)
  have d : 0 < Lib.bitLen y := by
    rcases Nat.eq_zero_or_pos (Lib.bitLen y) with h | h
    · rw [h] at b; omega
    · exact h
  have e : 2 ^ Lib.bitLen y * 2 ^ (64 - Lib.bitLen y) = 18446744073709551616 := by rw [← Nat.pow_add, show Lib.bitLen y + (64 - Lib.bitLen y) = 64 from by omega]
  have f : 0 < 2 ^ (64 - Lib.bitLen y) := Nat.pow_pos (by omega)
  refine ⟨64 - Lib.bitLen y, by omega, by omega, by omega, ?_, ?_⟩
  · have := Nat.mul_le_mul_right (2 ^ (64 - Lib.bitLen y)) a
    rw [e, Nat.mul_assoc] at this
    omega
  · have := Nat.mul_lt_mul_of_pos_right b f
    rw [e] at this
    exact this

/-- the normalised divisor is a multiple of 2^32. -/
theorem norm_half (y s : Nat) (h : 32 ≤ s) (h1 : 9223372036854775808 ≤ y * 2 ^ s) (h2 : y * 2 ^ s < 18446744073709551616) :
    ∃ d : Nat, y * 2 ^ s = d * 4294967296 ∧ 2147483648 ≤ d ∧ d < 4294967296 := by
  have e : y * 2 ^ s = y * 2 ^ (s - 32) * 4294967296 := by
    rw [Nat.mul_assoc, show (4294967296 : Nat) = 2 ^ 32 from rfl, ← Nat.pow_add, show s - 32 + 32 = s from by omega]
  exact ⟨_, e, by omega, by omega⟩

/-- the dividend, shifted: its upper and lower word. -/
theorem norm_words (hi lo y s : Nat) (hs : 32 ≤ s) (hs' : s ≤ 63) (h1 : hi < y) (h2 : y * 2 ^ s < 18446744073709551616) (h3 : lo < 18446744073709551616) :
    ∃ U L : Nat, bits .or .u64 (IntKind.u64.wrap ((hi : Int) * 2 ^ s)) ((lo : Int) / 2 ^ (64 - s)) = (U : Int) ∧ IntKind.u64.wrap ((lo : Int) * 2 ^ s) = (L : Int) ∧ U < y * 2 ^ s ∧ L < 18446744073709551616 ∧
      U * 18446744073709551616 + L = (hi * 18446744073709551616 + lo) * 2 ^ s := by
  have p : 0 < 2 ^ s := Nat.pow_pos (by omega)
  have q : 0 < 2 ^ (64 - s) := Nat.pow_pos (by omega)
  have pq : 2 ^ (64 - s) * 2 ^ s = 18446744073709551616 := by rw [← Nat.pow_add, show 64 - s + s = 64 from by omega]
  have a1 : (hi + 1) * 2 ^ s ≤ y * 2 ^ s := Nat.mul_le_mul_right _ (by omega)
  rw [Nat.add_mul, Nat.one_mul] at a1
  have a2 : lo / 2 ^ (64 - s) < 2 ^ s := by
    rw [Nat.div_lt_iff_lt_mul q, Nat.mul_comm, pq]; exact h3
  have a3 : (lo * 2 ^ s) / 18446744073709551616 = lo / 2 ^ (64 - s) := by
    rw [← pq]; exact Nat.mul_div_mul_right _ _ p
  have c1 : ((hi : Int) * 2 ^ s) = ((hi * 2 ^ s : Nat) : Int) := by simp
  have c2 : ((lo : Int) * 2 ^ s) = ((lo * 2 ^ s : Nat) : Int) := by simp
  have c3 : ((lo : Int) / 2 ^ (64 - s)) = ((lo / 2 ^ (64 - s) : Nat) : Int) := by simp
  rw [c1, c2, c3]
  refine ⟨hi * 2 ^ s + lo / 2 ^ (64 - s), lo * 2 ^ s % 18446744073709551616, ?_, ?_, ?_, ?_, ?_⟩
  · rw [IntKind.wrap_u64, show (((hi * 2 ^ s : Nat) : Int) % 18446744073709551616) = ((hi * 2 ^ s : Nat) : Int) from by omega]
    rw [bits_or_u64_nat _ _ (by omega) (by omega)]
    rw [Nat.mul_comm hi, Nat.two_pow_add_eq_or_of_lt a2]
  · rw [IntKind.wrap_u64]; omega
  · omega
  · omega
  · rw [← a3, Nat.add_mul (hi * 18446744073709551616) lo, Nat.mul_right_comm hi]
    generalize hi * 2 ^ s = A at *
    generalize lo * 2 ^ s = B at *
    omega

/-- a division step by d, of an upper part U with a digit L1 behind it. -/
theorem digit (U d : Nat) (hd : 0 < d) (hd' : d < 4294967296) (hU : U < d * 4294967296) :
    U / d < 4294967296 ∧ U % d < d ∧ U = d * (U / d) + U % d ∧
    IntKind.u64.wrap ((U : Int) - IntKind.u64.wrap (((U / d : Nat) : Int) * (d : Int))) = ((U % d : Nat) : Int) := by
  have a : U / d < 4294967296 := by rw [Nat.div_lt_iff_lt_mul hd, Nat.mul_comm]; exact hU
  have b := Nat.mod_lt U hd
  have c := Nat.div_add_mod U d
  have m : ((U / d : Nat) : Int) * (d : Int) = ((d * (U / d) : Nat) : Int) := by rw [Int.natCast_mul d (U / d)]; exact Int.mul_comm _ _
  refine ⟨a, b, c.symm, ?_⟩
  rw [m, IntKind.wrap_u64, IntKind.wrap_u64]
  generalize d * (U / d) = p at *
  omega

theorem digit_next_aux (U d L1 p r : Nat) (hd' : d < 4294967296) (hL : L1 < 4294967296) (b : r < d) (c : U = p + r) :
    IntKind.u64.wrap (IntKind.u64.wrap (IntKind.u64.wrap ((U : Int) * 4294967296) + (L1 : Int)) - IntKind.u64.wrap ((p * 4294967296 : Nat) : Int)) = ((r * 4294967296 + L1 : Nat) : Int) ∧
    r * 4294967296 + L1 < d * 4294967296 := by
  simp only [IntKind.wrap_u64]
  omega

/-- what stands for the next step. -/
theorem digit_next (U d L1 V : Nat) (hV : V = U % d * 4294967296 + L1) (hd : 0 < d) (hd' : d < 4294967296) (hU : U < d * 4294967296) (hL : L1 < 4294967296) :
    IntKind.u64.wrap (IntKind.u64.wrap (IntKind.u64.wrap ((U : Int) * 4294967296) + (L1 : Int)) - IntKind.u64.wrap (((U / d : Nat) : Int) * ((d * 4294967296 : Nat) : Int))) = (V : Int) ∧ V < d * 4294967296 := by
  obtain ⟨a, b, c, _⟩ := digit U d hd hd' hU
  have m : ((U / d : Nat) : Int) * ((d * 4294967296 : Nat) : Int) = ((d * (U / d) * 4294967296 : Nat) : Int) := by
    rw [Nat.mul_right_comm d (U / d) 4294967296, Int.natCast_mul (d * 4294967296) (U / d)]
    exact Int.mul_comm _ _
  rw [m, hV]
  exact digit_next_aux U d L1 _ _ hd' hL b c

/-- the same step over whatever base K. -/
theorem digit_k (K U d L1 : Nat) (hd : 0 < d) (hL : L1 < K) : U = d * (U / d) + U % d ∧ U % d * K + L1 < d * K := by
  have b := Nat.mod_lt U hd
  have c := Nat.div_add_mod U d
  refine ⟨c.symm, ?_⟩
  have : (U % d + 1) * K ≤ d * K := Nat.mul_le_mul_right K (by omega)
  rw [Nat.add_mul, Nat.one_mul] at this
  omega

/-- the quotient and the rest, once the two digits stand: over whatever base K. -/
theorem quo_rem_k (K K2 x y s d U L1 L0 V W : Nat) (hV : V = U % d * K + L1) (hW : W = V % d * K + L0) (hKK : K2 = K * K) (p : 0 < 2 ^ s) (hy : y * 2 ^ s = d * K) (hd : 0 < d) (hK : 0 < K)
    (hx : U * K2 + (L1 * K + L0) = x * 2 ^ s) (hL0 : L0 < K) (hL1 : L1 < K) :
    (U / d) * K + V / d = x / y ∧ W / 2 ^ s = x % y := by
  obtain ⟨c, b2⟩ := digit_k K U d L1 hd hL1
  rw [hW]
  obtain ⟨c3, b4⟩ := digit_k K V d L0 hd hL0
  have e1 : x / y = (x * 2 ^ s) / (y * 2 ^ s) := (Nat.mul_div_mul_right _ _ p).symm
  have e2 : (x % y) * 2 ^ s = (x * 2 ^ s) % (y * 2 ^ s) := (Nat.mul_mod_mul_right _ _ _).symm
  have key : x * 2 ^ s = (V % d * K + L0) + (d * K) * ((U / d) * K + V / d) := by
    rw [← hx, hKK]
    grind
  have hd2 : 0 < d * K := Nat.mul_pos hd hK
  constructor
  · rw [e1, hy, key, Nat.add_mul_div_left _ _ hd2, Nat.div_eq_of_lt b4, Nat.zero_add]
  · rw [key, hy, Nat.add_mul_mod_self_left, Nat.mod_eq_of_lt b4] at e2
    rw [← e2]
    exact Nat.mul_div_cancel _ p
theorem fq_aux (a b q : Nat) (h : a * 4294967296 + b = q) : (a : Int) * 4294967296 + (b : Int) = (q : Int) := by omega
theorem words_k (U L : Nat) : U * 18446744073709551616 + (L / 4294967296 * 4294967296 + L % 4294967296) = U * 18446744073709551616 + L := by
  rw [Nat.div_add_mod']
theorem sq_k : (18446744073709551616 : Nat) = 4294967296 * 4294967296 := by simp
end Go.Proofs.Ytppflfodkhhfhaa.Fx
