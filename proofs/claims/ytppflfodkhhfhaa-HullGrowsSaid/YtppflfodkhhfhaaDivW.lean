/-
  The contract of math/bits.Div64 where the divisor is at most 2^31 and greater than hi: it returns the quotient and the rest of hi * 2^64 + lo by y, and changes nothing but the count of draws.
  Conditions: hi < y, y at most 2147483648, lo a 64-bit word.
-/
import Derived.Test.YtppflfodkhhfhaaChecked
import Derived.Test.YtppflfodkhhfhaaShelf
import Derived.Test.YtppflfodkhhfhaaDivM
import Derived.WalkKit
import Derived.WalkLawsBesides
import Derived.Lib.Hide
import Derived.Outline
import Derived.Deep.QuietTactic
import Derived.BigQuiet
namespace Go.Proofs.Ytppflfodkhhfhaa.Fx
open Go.RowKit

theorem maskY (Y d : Nat) (h : Y = d * 4294967296) (hd : d < 4294967296) : bits .and .u64 (Y : Int) 4294967295 = 0 := by
  have e := bits_and_u64_nat Y 4294967295 (by omega) (by omega)
  have f : Y &&& 4294967295 = Y % 4294967296 := Nat.and_two_pow_sub_one_eq_mod Y 32
  have g : Y % 4294967296 = 0 := by omega
  rw [f, g] at e
  exact e
theorem maskL (L : Nat) (h : L < 18446744073709551616) : bits .and .u64 (L : Int) 4294967295 = ((L % 4294967296 : Nat) : Int) := by
  have e := bits_and_u64_nat L 4294967295 h (by omega)
  have f : L &&& 4294967295 = L % 4294967296 := Nat.and_two_pow_sub_one_eq_mod L 32
  rw [f] at e
  exact e
theorem divCast (U d : Nat) : (U : Int) / (d : Int) = ((U / d : Nat) : Int) := (Int.natCast_ediv U d).symm

theorem wrap_nat (x : Int) : ∃ M : Nat, IntKind.u64.wrap x = (M : Int) := ⟨(IntKind.u64.wrap x).toNat, (Int.toNat_of_nonneg (wrap_u64_nonneg x)).symm⟩
theorem big_no (Q : Nat) (h : Q < 4294967296) : decide ((4294967296 : Int) ≤ (Q : Int)) = false := by rw [decide_eq_false_iff_not]; omega
theorem fr_aux (W s r : Nat) (h : W / 2 ^ s = r) : (W : Int) / 2 ^ s = (r : Int) := by rw [← h]; simp

structure DivFacts (hi lo y s Y d U L L1 L0 Q1 R V Q0 R0 W : Nat) : Prop where
  es : 64 - ((Lib.bitLen (y : Int).toNat : Nat) : Int) = (s : Int)
  s1 : 32 ≤ s
  s2 : s ≤ 63
  eY : IntKind.u64.wrap ((y : Int) * 2 ^ s) = (Y : Int)
  eA : bits .and .u64 (Y : Int) 4294967295 = 0
  eD : (Y : Int) / 4294967296 = (d : Int)
  d1 : 2147483648 ≤ d
  d2 : d < 4294967296
  eU : bits .or .u64 (IntKind.u64.wrap ((hi : Int) * 2 ^ s)) ((lo : Int) / 2 ^ (64 - s)) = (U : Int)
  eL : IntKind.u64.wrap ((lo : Int) * 2 ^ s) = (L : Int)
  U1 : U < 18446744073709551616
  l1 : L < 18446744073709551616
  eL1 : (L : Int) / 4294967296 = (L1 : Int)
  l2 : L1 < 4294967296
  eL0 : bits .and .u64 (L : Int) 4294967295 = (L0 : Int)
  l3 : L0 < 4294967296
  eQ1 : (U : Int) / (d : Int) = (Q1 : Int)
  q1 : Q1 < 4294967296
  eR : IntKind.u64.wrap ((U : Int) - IntKind.u64.wrap ((Q1 : Int) * (d : Int))) = (R : Int)
  r1 : R < d
  eV : IntKind.u64.wrap (IntKind.u64.wrap (IntKind.u64.wrap ((U : Int) * 4294967296) + (L1 : Int)) - IntKind.u64.wrap ((Q1 : Int) * (Y : Int))) = (V : Int)
  v1 : V < 18446744073709551616
  eQ0 : (V : Int) / (d : Int) = (Q0 : Int)
  q0 : Q0 < 4294967296
  eR0 : IntKind.u64.wrap ((V : Int) - IntKind.u64.wrap ((Q0 : Int) * (d : Int))) = (R0 : Int)
  r0 : R0 < d
  eW : IntKind.u64.wrap (IntKind.u64.wrap (IntKind.u64.wrap ((V : Int) * 4294967296) + (L0 : Int)) - IntKind.u64.wrap ((Q0 : Int) * (Y : Int))) = (W : Int)
  w1 : W < 18446744073709551616
  fq : (Q1 : Int) * 4294967296 + (Q0 : Int) = (((hi * 18446744073709551616 + lo) / y : Nat) : Int)
  fr : (W : Int) / 2 ^ s = (((hi * 18446744073709551616 + lo) % y : Nat) : Int)

theorem div_facts (hi lo y : Nat) (h2 : hi < y) (h3 : y ≤ 2147483648) (h4 : lo < 18446744073709551616) :
    ∃ s Y d U L L1 L0 Q1 R V Q0 R0 W : Nat, DivFacts hi lo y s Y d U L L1 L0 Q1 R V Q0 R0 W := by
  obtain ⟨s, es, s1, s2, hy1, hy2⟩ := norm_shift y (by omega) (by omega)
  obtain ⟨d, hd, d1, d2⟩ := norm_half y s s1 hy1 hy2
  obtain ⟨U, L, eU, eL, hU, hL, hx⟩ := norm_words hi lo y s s1 s2 h2 hy2 h4
  have p : 0 < 2 ^ s := Nat.pow_pos (by omega)
  have hd0 : 0 < d := by omega
  have hL1 : L / 4294967296 < 4294967296 := by omega
  have hL0 : L % 4294967296 < 4294967296 := by omega
  have eL1 : (L : Int) / 4294967296 = ((L / 4294967296 : Nat) : Int) := by omega
  have eD : ((d * 4294967296 : Nat) : Int) / 4294967296 = (d : Int) := by omega
  have hdd : d * 4294967296 < 18446744073709551616 := by omega
  have eY : IntKind.u64.wrap ((y : Int) * 2 ^ s) = ((d * 4294967296 : Nat) : Int) := by
    have cy : ((y : Int) * 2 ^ s) = ((d * 4294967296 : Nat) : Int) := by rw [← hd]; simp
    rw [cy, IntKind.wrap_u64]; omega
  rw [hd] at hU
  have hU' : U < 18446744073709551616 := Nat.lt_trans hU hdd
  obtain ⟨a1, a2, _, a4⟩ := digit U d hd0 d2 hU
  obtain ⟨V, hV⟩ : ∃ V, V = U % d * 4294967296 + L / 4294967296 := ⟨_, rfl⟩
  obtain ⟨b1, b2⟩ := digit_next U d (L / 4294967296) V hV hd0 d2 hU hL1
  obtain ⟨c1, c2, _, c4⟩ := digit V d hd0 d2 b2
  obtain ⟨W, hW⟩ : ∃ W, W = V % d * 4294967296 + L % 4294967296 := ⟨_, rfl⟩
  obtain ⟨g1, g2⟩ := digit_next V d (L % 4294967296) W hW hd0 d2 b2 hL0
  obtain ⟨f1, f2⟩ := quo_rem_k 4294967296 18446744073709551616 (hi * 18446744073709551616 + lo) y s d U (L / 4294967296) (L % 4294967296) V W hV hW sq_k p hd hd0 (by decide) ((words_k U L).trans hx) hL0 hL1
  refine ⟨s, d * 4294967296, d, U, L, L / 4294967296, L % 4294967296, U / d, U % d, V, V / d, V % d, W, ?_⟩
  exact { es := es, s1 := s1, s2 := s2, eY := eY, eA := maskY _ d rfl d2, eD := eD, d1 := d1, d2 := d2, eU := eU, eL := eL, U1 := hU', l1 := hL, eL1 := eL1, l2 := hL1, eL0 := maskL L hL, l3 := hL0, eQ1 := divCast U d, q1 := a1, eR := a4, r1 := a2, eV := b1, v1 := Nat.lt_trans b2 hdd, eQ0 := divCast V d, q0 := c1, eR0 := c4, r0 := c2, eW := g1, w1 := Nat.lt_trans g2 hdd, fq := fq_aux _ _ _ f1, fr := fr_aux _ _ _ f2 }

/-- nothing has changed but the count of draws. -/
def Drawn (w w' : World) : Prop := ∃ n, w' = w.drewN n

theorem Drawn.refl (w : World) : Drawn w w := ⟨0, rfl⟩

end Go.Proofs.Ytppflfodkhhfhaa.Fx
