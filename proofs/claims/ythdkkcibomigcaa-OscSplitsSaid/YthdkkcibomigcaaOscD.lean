/-
  The contract of sundialref02.Raw: the raw count of a way at a true time, by whole parts and millionths apart.
  Conditions: the slice's cells hold integers of their kinds.
-/
import Derived.Test.YthdkkcibomigcaaOscC
namespace Go.Proofs.Ythdkkcibomigcaa.Fx
open Go.RowKit

/-- the millionths that stand beside the whole parts. -/
def pt (X Y : Nat → Int) (t : Int) (k : Nat) : Int := ml X Y t k - 1000000 * (t - lf X t k)

theorem pt_zero (X Y : Nat → Int) (t : Int) : pt X Y t 0 = 0 := by simp [pt, ml, lf]

/-- one round's numbers, for any time not below 0. -/
theorem ref_round {n k : Nat} {X Y : Nat → Int} {t : Int} (h : okW n X Y) (ht : 0 ≤ t) (hk : k < n) :
    ∃ g q : Int, min (lf X t k) (X k) = g ∧ g * Y k = q ∧ 0 ≤ g ∧ g ≤ 1099511627776 ∧ g ≤ lf X t k ∧ -1099511627776000 ≤ q ∧ q ≤ 1099511627776000 ∧ lf X t (k + 1) = lf X t k - g ∧ pt X Y t (k + 1) = pt X Y t k + q := by
  obtain ⟨g, p, eg, ep, eq, G1, G2, G3, P1, P2, E1, E2⟩ := raw_round h ht hk
  obtain ⟨b1, b2, b3, b4⟩ := (h k hk).1
  have m := mul_bd (g := g) (y := Y k) (lo := -1000) (hi := 1000) G1 (by omega) (by omega)
  refine ⟨g, _, by omega, rfl, G1, G2, G3, by omega, by omega, E1, ?_⟩
  unfold pt
  rw [E1, E2, eq]
  omega

theorem pt_bd {n : Nat} {X Y : Nat → Int} {t : Int} (h : okW n X Y) (ht : 0 ≤ t) (k : Nat) (hk : k ≤ n) : 0 ≤ lf X t k ∧ 0 ≤ t - lf X t k ∧ t - lf X t k ≤ 1099511627776 ∧ -1099511627776000 ≤ pt X Y t k ∧ pt X Y t k ≤ 1099511627776000 := by
  have a := ml_bd h ht k hk
  have b := lf_eq h ht k hk
  have c := sumTo_bd h k hk
  unfold pt
  omega

theorem lf_zero {n : Nat} {X Y : Nat → Int} {t : Int} (h : okW n X Y) (ht : 0 ≤ t) : (t ≤ sumTo X n → lf X t n = 0) ∧ (sumTo X n < t → 0 < lf X t n) := by
  have b := lf_eq h ht n (Nat.le_refl _)
  omega

/-- the whole part and the floor of the millionths. -/
theorem fin_pos (m t p : Int) (h : p = m - 1000000 * t) : t + p / 1000000 = m / 1000000 := by omega
theorem tdiv_neg {p : Int} (h : p < 0) : p.tdiv 1000000 = -((-p) / 1000000) := by
  rw [← Int.tdiv_eq_ediv_of_nonneg (by omega), Int.neg_tdiv, Int.neg_neg]
theorem tmod_neg {p : Int} (h : p < 0) : p.tmod 1000000 = -((-p) % 1000000) := by
  rw [← Int.tmod_eq_emod_of_nonneg (by omega), Int.neg_tmod, Int.neg_neg]

set_option maxRecDepth 100000 in
set_option maxHeartbeats 2000000 in
theorem rRaw_c (b off n cap : Nat) (X Y : Nat → Int) (t : Int) (w : World) (hn : n ≤ 9223372036854775807) (h : Legs w b off n X Y) (hok : okW n X Y) (ht : 0 ≤ t) (ht9 : t ≤ 9223372036854775807) :
    Calls Try.prog 9 #[.slice (some ⟨b, off, none⟩) n cap, .int .i64 t] w fun e w' => ((t ≤ sumTo X n ∧ e = .returned (.tuple #[.int .i64 (ml X Y t n / 1000000), .int .i64 0])) ∨ (sumTo X n < t ∧ e = .returned (.tuple #[.int .i64 0, .int .i64 2]))) ∧ Below w.heap.size w w' := by
  have H := Lib.hid h
  have HOK := Lib.hid hok
  have e1 : decide (t < 0) = false := by rw [decide_eq_false_iff_not]; omega
  clear h hok
  go_enter Try.func9, Try.ntmps9
  go_wp2_with fail
  refine (rCheck2_c b off n cap X Y _ hn H.out).mono ?_
  rintro e w1 ⟨⟨ho, rfl⟩ | ⟨ho, rfl⟩, hb1⟩
  · have HB1 := Lib.hid hb1
    clear ho hb1
    go_wp2_with fail
    go_loopw [6, 7, 8, 9] (fun l s p i wr => ∃ k : Nat, k ≤ n ∧ i = .int .i64 k ∧ l = .int .i64 (lf X t k) ∧ s = .int .i64 (t - lf X t k) ∧ p = .int .i64 (pt X Y t k) ∧ Below w.heap.size w wr) (fun _ _ _ i _ => n - (intOf i).toNat)
    case atStart => exact ⟨0, Nat.zero_le _, rfl, rfl, val_i64 (by simp [lf]), val_i64 (pt_zero X Y t).symm, HB1.out⟩
    case round =>
      obtain ⟨k, hk, rfl, rfl, rfl, rfl, hb⟩ := hrel
      have HB := Lib.hid hb
      clear hb
      obtain ⟨L1, L2, L3, L4, L5⟩ := pt_bd HOK.out ht k hk
      by_cases c : k < n
      · have e0 : decide ((k : Int) < (n : Int)) = true := by rw [decide_eq_true_iff]; omega
        obtain ⟨g1, g2⟩ := (H.out.below HB.out).2 k c
        obtain ⟨r1, r2, r3, r4⟩ := (HOK.out k c).1
        obtain ⟨g, q, eg, eq, G1, G2, G3, Q1, Q2, E1, E2⟩ := ref_round HOK.out ht c
        have E := Lib.hid (And.intro E1 E2)
        clear E1 E2
        generalize pt X Y t k = p at *
        generalize lf X t k = l at *
        generalize X k = x at *
        generalize Y k = y at *
        have em : max l 0 = l := by omega
        have es : t - l + g ≤ 1099511627776 + 1099511627776 := by omega
        go_wp2_with fail
        go_roundw
        case rel => exact ⟨k + 1, by omega, by go_num, by rw [E.out.1], val_i64 (by rw [E.out.1]; omega), by rw [E.out.2], HB.out⟩
        case measure => simp [intOf]; omega
      · have e0 : decide ((k : Int) < (n : Int)) = false := by rw [decide_eq_false_iff_not]; omega
        obtain rfl : k = n := by omega
        obtain ⟨z1, z2⟩ := lf_zero HOK.out ht
        by_cases c1 : t ≤ sumTo X k
        · have Z := z1 c1
          have EP : Hid (pt X Y t k = ml X Y t k - 1000000 * t) := by show pt X Y t k = _; unfold pt; rw [Z]; omega
          rw [Z]
          have C1 := Lib.hid c1
          have T9 : t ≤ 1099511627776 := by have := sumTo_bd HOK.out k (Nat.le_refl _); omega
          clear z1 z2 c1 Z L1 L2 L3
          generalize pt X Y t k = p at *
          have e9 : decide ((0 : Int) < 0) = false := by decide
          by_cases c2 : 0 ≤ p
          · have e3 : decide (p % 1000000 < 0) = false := by rw [decide_eq_false_iff_not]; omega
            go_wp2_with fail
            go_ret2
            refine ⟨Or.inl ⟨C1.out, ?_⟩, HB.out⟩
            rw [← fin_pos _ t p EP.out]
            rfl
          · have d1 := tdiv_neg (p := p) (by omega)
            have d2 := tmod_neg (p := p) (by omega)
            obtain ⟨q, eq⟩ : ∃ q, (-p) / 1000000 = q := ⟨_, rfl⟩
            obtain ⟨r, er⟩ : ∃ r, (-p) % 1000000 = r := ⟨_, rfl⟩
            have f1 : 0 ≤ q ∧ q ≤ 1099511627776000 ∧ 0 ≤ r ∧ r < 1000000 ∧ -p = 1000000 * q + r := by omega
            rw [eq] at d1
            rw [er] at d2
            clear eq er
            obtain ⟨f1, f2, f3, f4, f5⟩ := f1
            by_cases c3 : r = 0
            · have e3 : decide (0 < r) = false := by rw [decide_eq_false_iff_not]; omega
              have F : Hid (ml X Y t k / 1000000 = t + -q) := by show ml X Y t k / 1000000 = t + -q; have := EP.out; omega
              clear c3 f5
              go_wp2_with fail
              go_ret2
              refine ⟨Or.inl ⟨C1.out, ?_⟩, HB.out⟩
              rw [F.out]
              rfl
            · have e3 : decide (0 < r) = true := by rw [decide_eq_true_iff]; omega
              have F : Hid (ml X Y t k / 1000000 = t + (-q - 1)) := by show ml X Y t k / 1000000 = t + (-q - 1); have := EP.out; omega
              clear c3 f5
              go_wp2_with fail
              go_ret2
              refine ⟨Or.inl ⟨C1.out, ?_⟩, HB.out⟩
              rw [F.out]
              rfl
        · have Z := z2 (by omega)
          have C1 : Hid (sumTo X k < t) := by show sumTo X k < t; omega
          have e9 : decide (0 < lf X t k) = true := decide_eq_true Z
          clear z1 z2 c1
          generalize pt X Y t k = p at *
          generalize lf X t k = l at *
          go_wp2_with fail
          go_ret2
          exact ⟨Or.inr ⟨C1.out, rfl⟩, HB.out⟩
  · exact absurd HOK.out ho

set_option maxRecDepth 100000 in
set_option maxHeartbeats 1000000 in
theorem rRaw_neg (b off n cap : Nat) (X Y : Nat → Int) (t : Int) (w : World) (hn : n ≤ 9223372036854775807) (h : Legs w b off n X Y) (hok : okW n X Y) (ht : t < 0) (ht9 : -9223372036854775808 ≤ t) :
    Calls Try.prog 9 #[.slice (some ⟨b, off, none⟩) n cap, .int .i64 t] w fun e w' => e = .returned (.tuple #[.int .i64 0, .int .i64 2]) ∧ Below w.heap.size w w' := by
  have H := Lib.hid h
  have HOK := Lib.hid hok
  have e1 : decide (t < 0) = true := decide_eq_true ht
  clear h hok
  go_enter Try.func9, Try.ntmps9
  go_wp2_with fail
  refine (rCheck2_c b off n cap X Y _ hn H.out).mono ?_
  rintro e w1 ⟨⟨ho, rfl⟩ | ⟨ho, rfl⟩, hb1⟩
  · have HB1 := Lib.hid hb1
    clear ho hb1
    go_wp2_with fail
    go_loopw [6, 7, 8, 9] (fun l s p i wr => ∃ k : Nat, k ≤ n ∧ i = .int .i64 k ∧ l = .int .i64 t ∧ s = .int .i64 0 ∧ p = .int .i64 0 ∧ Below w.heap.size w wr) (fun _ _ _ i _ => n - (intOf i).toNat)
    case atStart => exact ⟨0, Nat.zero_le _, rfl, rfl, rfl, rfl, HB1.out⟩
    case round =>
      obtain ⟨k, hk, rfl, rfl, rfl, rfl, hb⟩ := hrel
      have HB := Lib.hid hb
      clear hb
      by_cases c : k < n
      · have e0 : decide ((k : Int) < (n : Int)) = true := by rw [decide_eq_true_iff]; omega
        obtain ⟨g1, g2⟩ := (H.out.below HB.out).2 k c
        obtain ⟨r1, r2, r3, r4⟩ := (HOK.out k c).1
        generalize X k = x at *
        generalize Y k = y at *
        have em : max t 0 = 0 := by omega
        have eg : min 0 x = 0 := by omega
        go_wp2_with fail
        go_roundw
        case rel => exact ⟨k + 1, by omega, by go_num, val_i64 (by omega), val_i64 (by omega), val_i64 (by omega), HB.out⟩
        case measure => simp [intOf]; omega
      · have e0 : decide ((k : Int) < (n : Int)) = false := by rw [decide_eq_false_iff_not]; omega
        obtain rfl : k = n := by omega
        go_wp2_with fail
        go_ret2
        exact ⟨rfl, HB.out⟩
  · exact absurd HOK.out ho

set_option maxRecDepth 100000 in
theorem rRaw_bad (b off n cap : Nat) (X Y : Nat → Int) (t : Int) (w : World) (hn : n ≤ 9223372036854775807) (h : Legs w b off n X Y) (hok : ¬ okW n X Y) :
    Calls Try.prog 9 #[.slice (some ⟨b, off, none⟩) n cap, .int .i64 t] w fun e w' => e = .returned (.tuple #[.int .i64 0, .int .i64 3]) ∧ Below w.heap.size w w' := by
  have H := Lib.hid h
  have HOK := Lib.hid hok
  clear h hok
  go_enter Try.func9, Try.ntmps9
  go_wp2_with fail
  refine (rCheck2_c b off n cap X Y _ hn H.out).mono ?_
  rintro e w1 ⟨⟨ho, rfl⟩ | ⟨ho, rfl⟩, hb1⟩
  · exact absurd ho HOK.out
  · have HB1 := Lib.hid hb1
    clear ho hb1
    go_wp2_with fail
    go_ret2
    exact ⟨rfl, HB1.out⟩

set_option maxRecDepth 100000 in
theorem rRaw_none (a : Option Addr) (cap : Nat) (t : Int) (w : World) :
    Calls Try.prog 9 #[.slice a 0 cap, .int .i64 t] w fun e w' => e = .returned (.tuple #[.int .i64 0, .int .i64 (if t = 0 then 0 else 2)]) ∧ Below w.heap.size w w' := by
  have core : ∀ r, ((t = 0 ∧ r = 0) ∨ (t ≠ 0 ∧ r = 2)) → Calls Try.prog 9 #[.slice a 0 cap, .int .i64 t] w fun e w' => e = .returned (.tuple #[.int .i64 0, .int .i64 r]) ∧ Below w.heap.size w w' := by
    intro r hr
    go_enter Try.func9, Try.ntmps9
    go_wp2_with fail
    refine (rCheck2_none a cap _).mono ?_
    rintro e w1 ⟨rfl, hb1⟩
    have HB1 := Lib.hid hb1
    have HR := Lib.hid hr
    clear hb1 hr
    go_wp2_with fail
    go_loopw [6, 7, 8, 9] (fun l s p i wr => i = .int .i64 0 ∧ l = .int .i64 t ∧ s = .int .i64 0 ∧ p = .int .i64 0 ∧ Below w.heap.size w wr) (fun _ _ _ _ _ => 0)
    case atStart => exact ⟨rfl, rfl, rfl, rfl, HB1.out⟩
    case round =>
      obtain ⟨rfl, rfl, rfl, rfl, hb⟩ := hrel
      rcases HR.out with ⟨rfl, rfl⟩ | ⟨hne, rfl⟩
      · go_wp2_with fail
        go_ret2
        exact ⟨rfl, hb⟩
      · by_cases c : t < 0
        · have e1 : decide (t < 0) = true := decide_eq_true c
          go_wp2_with fail
          go_ret2
          exact ⟨rfl, hb⟩
        · have e1 : decide (t < 0) = false := decide_eq_false c
          have c2 : 0 < t := by omega
          have e2 : decide (0 < t) = true := decide_eq_true c2
          go_wp2_with fail
          go_ret2
          exact ⟨rfl, hb⟩
  by_cases c : t = 0
  · rw [if_pos c]; exact core 0 (Or.inl ⟨c, rfl⟩)
  · rw [if_neg c]; exact core 2 (Or.inr ⟨c, rfl⟩)
end Go.Proofs.Ythdkkcibomigcaa.Fx
