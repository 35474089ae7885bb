/-
  The contracts of osc.Raw and sundialref02.Raw: the raw count of a way at a true time, in millionths kept and rounded down once.
  Conditions: the slice's cells hold integers of their kinds.
-/
import Derived.Test.YthdkkcibomigcaaOscB
namespace Go.Proofs.Ythdkkcibomigcaa.Fx
open Go.RowKit

/-- what of the time t is left behind k legs. -/
def lf (X : Nat → Int) (t : Int) : Nat → Int
  | 0 => t
  | k + 1 => lf X t k - min (X k) (lf X t k)
/-- the millionths that were counted up to leg k. -/
def ml (X Y : Nat → Int) (t : Int) : Nat → Int
  | 0 => 0
  | k + 1 => ml X Y t k + min (X k) (lf X t k) * (1000000 + Y k)

theorem lf_succ (X : Nat → Int) (t : Int) (k : Nat) : lf X t (k + 1) = lf X t k - min (X k) (lf X t k) := rfl
theorem ml_succ (X Y : Nat → Int) (t : Int) (k : Nat) : ml X Y t (k + 1) = ml X Y t k + min (X k) (lf X t k) * (1000000 + Y k) := rfl

theorem lf_eq {n : Nat} {X Y : Nat → Int} {t : Int} (h : okW n X Y) (ht : 0 ≤ t) : ∀ k, k ≤ n → lf X t k = max (t - sumTo X k) 0 := by
  intro k hk
  induction k with
  | zero => simp [lf, sumTo]; omega
  | succ k ih =>
    have a := ih (by omega)
    have b := (h k (by omega)).1.1
    rw [lf_succ, sumTo_succ, a]
    omega

/-- a product of what is not below 0 and a number of known bounds. -/
theorem mul_bd {g y lo hi : Int} (hg : 0 ≤ g) (h1 : lo ≤ y) (h2 : y ≤ hi) : g * lo ≤ g * y ∧ g * y ≤ g * hi :=
  ⟨Int.mul_le_mul_of_nonneg_left h1 hg, Int.mul_le_mul_of_nonneg_left h2 hg⟩

theorem ml_bd {n : Nat} {X Y : Nat → Int} {t : Int} (h : okW n X Y) (ht : 0 ≤ t) : ∀ k, k ≤ n → (t - lf X t k) * 999000 ≤ ml X Y t k ∧ ml X Y t k ≤ (t - lf X t k) * 1001000 := by
  intro k hk
  induction k with
  | zero => simp [lf, ml]
  | succ k ih =>
    have a := ih (by omega)
    have b := (h k (by omega)).1
    obtain ⟨b1, b2, b3, b4⟩ := b
    have c := lf_eq h ht k (by omega)
    rw [lf_succ, ml_succ]
    have g0 : 0 ≤ min (X k) (lf X t k) := by omega
    have m := mul_bd (g := min (X k) (lf X t k)) (y := 1000000 + Y k) (lo := 999000) (hi := 1001000) g0 (by omega) (by omega)
    omega

/-- one round's numbers. -/
theorem raw_round {n k : Nat} {X Y : Nat → Int} {t : Int} (h : okW n X Y) (ht : 0 ≤ t) (hk : k < n) :
    ∃ g p : Int, min (X k) (lf X t k) = g ∧ g * (1000000 + Y k) = p ∧ g * Y k = p - 1000000 * g ∧ 0 ≤ g ∧ g ≤ 1099511627776 ∧ g ≤ lf X t k ∧ 0 ≤ p ∧ p ≤ 1100611139403776 * 1000 ∧ lf X t (k + 1) = lf X t k - g ∧ ml X Y t (k + 1) = ml X Y t k + p := by
  obtain ⟨b1, b2, b3, b4⟩ := (h k hk).1
  have c := lf_eq h ht k (by omega)
  have g0 : 0 ≤ min (X k) (lf X t k) := by omega
  have m := mul_bd (g := min (X k) (lf X t k)) (y := 1000000 + Y k) (lo := 999000) (hi := 1001000) g0 (by omega) (by omega)
  refine ⟨_, _, rfl, rfl, ?_, g0, by omega, by omega, by omega, by omega, lf_succ X t k, ml_succ X Y t k⟩
  rw [Int.mul_add]
  omega

theorem val_i64 {a b : Int} (h : a = b) : Value.int IntKind.i64 a = Value.int IntKind.i64 b := by rw [h]

set_option maxRecDepth 100000 in
set_option maxHeartbeats 1000000 in
theorem Raw_ok (b off n cap : Nat) (X Y : Nat → Int) (t : Int) (w : World) (hn : n ≤ 9223372036854775807) (h : Legs w b off n X Y) (hok : okW n X Y) (ht : 0 ≤ t) (ht' : t ≤ sumTo X n) :
    Calls Try.prog 8 #[.slice (some ⟨b, off, none⟩) n cap, .int .i64 t] w fun e w' => e = .returned (.tuple #[.int .i64 (ml X Y t n / 1000000), .int .i64 0]) ∧ Below w.heap.size w w' := by
  have H := Lib.hid h
  have HOK := Lib.hid hok
  obtain ⟨s1, s2⟩ := sumTo_bd hok n (Nat.le_refl _)
  have e1 : decide (t < 0) = false := by rw [decide_eq_false_iff_not]; omega
  have e2 : decide (sumTo X n < t) = false := by rw [decide_eq_false_iff_not]; omega
  clear h hok
  go_enter Try.func8, Try.ntmps8
  go_wp2_with fail
  refine (length_c b off n cap X Y _ hn H.out).mono ?_
  rintro e w1 ⟨⟨ho, rfl⟩ | ⟨ho, rfl⟩, hb1⟩
  · have HB1 := Lib.hid hb1
    clear ho hb1
    go_wp2_with fail
    go_loopw [8, 9, 31] (fun m l i wr => ∃ k : Nat, k ≤ n ∧ i = .int .i64 k ∧ m = .int .i64 (ml X Y t k) ∧ l = .int .i64 (lf X t k) ∧ Below w.heap.size w wr) (fun _ _ i _ => n - (intOf i).toNat)
    case atStart => exact ⟨0, Nat.zero_le _, rfl, rfl, rfl, HB1.out⟩
    case round =>
      obtain ⟨k, hk, rfl, rfl, rfl, hb⟩ := hrel
      have HB := Lib.hid hb
      clear hb
      obtain ⟨m1, m2⟩ := ml_bd HOK.out ht k hk
      have l1 := lf_eq HOK.out ht k hk
      have l2 := sumTo_bd HOK.out k hk
      have L : 0 ≤ lf X t k ∧ lf X t k ≤ t := by omega
      obtain ⟨L1, L2⟩ := L
      have M : 0 ≤ ml X Y t k ∧ ml X Y t k ≤ 1100611139403776000 := by omega
      obtain ⟨M1, M2⟩ := M
      clear m1 m2 l1 l2
      by_cases c : k < n
      · have e0 : decide ((k : Int) < (n : Int)) = true := by rw [decide_eq_true_iff]; omega
        obtain ⟨g1, g2⟩ := (H.out.below HB.out).2 k c
        obtain ⟨r1, r2, r3, r4⟩ := (HOK.out k c).1
        obtain ⟨g, p, eg, ep, _, G1, G2, G3, P1, P2, E1, E2⟩ := raw_round HOK.out ht c
        have E := Lib.hid (And.intro E1 E2)
        clear E1 E2
        generalize ml X Y t k = m at *
        generalize lf X t k = l at *
        generalize X k = x at *
        generalize Y k = y at *
        go_wp2_with fail
        go_roundw
        case rel => exact ⟨k + 1, by omega, by go_num, by rw [E.out.2], by rw [E.out.1], balloc HB.out _⟩
        case measure => simp [intOf]; omega
      · have e0 : decide ((k : Int) < (n : Int)) = false := by rw [decide_eq_false_iff_not]; omega
        obtain rfl : k = n := by omega
        go_wp2_with fail
        go_ret2
        exact ⟨rfl, HB.out⟩
  · exact absurd HOK.out ho

set_option maxRecDepth 100000 in
set_option maxHeartbeats 1000000 in
theorem Raw_range (b off n cap : Nat) (X Y : Nat → Int) (t : Int) (w : World) (hn : n ≤ 9223372036854775807) (h : Legs w b off n X Y) (hok : okW n X Y) (ht : t < 0 ∨ sumTo X n < t) :
    Calls Try.prog 8 #[.slice (some ⟨b, off, none⟩) n cap, .int .i64 t] w fun e w' => e = .returned (.tuple #[.int .i64 0, .int .i64 2]) ∧ Below w.heap.size w w' := by
  have H := Lib.hid h
  have HOK := Lib.hid hok
  clear h hok
  by_cases c : t < 0
  · have e1 : decide (t < 0) = true := decide_eq_true c
    clear ht
    go_enter Try.func8, Try.ntmps8
    go_wp2_with fail
    refine (length_c b off n cap X Y _ hn H.out).mono ?_
    rintro e w1 ⟨⟨ho, rfl⟩ | ⟨ho, rfl⟩, hb1⟩
    · have HB1 := Lib.hid hb1
      clear ho hb1
      go_wp2_with fail
      go_ret2
      exact ⟨rfl, HB1.out⟩
    · exact absurd HOK.out ho
  · have e1 : decide (t < 0) = false := decide_eq_false c
    have c2 : sumTo X n < t := by omega
    have e2 : decide (sumTo X n < t) = true := decide_eq_true c2
    clear ht
    go_enter Try.func8, Try.ntmps8
    go_wp2_with fail
    refine (length_c b off n cap X Y _ hn H.out).mono ?_
    rintro e w1 ⟨⟨ho, rfl⟩ | ⟨ho, rfl⟩, hb1⟩
    · have HB1 := Lib.hid hb1
      clear ho hb1
      go_wp2_with fail
      go_ret2
      exact ⟨rfl, HB1.out⟩
    · exact absurd HOK.out ho

set_option maxRecDepth 100000 in
theorem Raw_bad (b off n cap : Nat) (X Y : Nat → Int) (t : Int) (w : World) (hn : n ≤ 9223372036854775807) (h : Legs w b off n X Y) (hok : ¬ okW n X Y) :
    Calls Try.prog 8 #[.slice (some ⟨b, off, none⟩) n cap, .int .i64 t] w fun e w' => e = .returned (.tuple #[.int .i64 0, .int .i64 3]) ∧ Below w.heap.size w w' := by
  have H := Lib.hid h
  have HOK := Lib.hid hok
  clear h hok
  go_enter Try.func8, Try.ntmps8
  go_wp2_with fail
  refine (length_c b off n cap X Y _ hn H.out).mono ?_
  rintro e w1 ⟨⟨ho, rfl⟩ | ⟨ho, rfl⟩, hb1⟩
  · exact absurd ho HOK.out
  · have HB1 := Lib.hid hb1
    clear ho hb1
    go_wp2_with fail
    go_ret2
    exact ⟨rfl, HB1.out⟩

set_option maxRecDepth 100000 in
theorem Raw_none (a : Option Addr) (cap : Nat) (t : Int) (w : World) :
    Calls Try.prog 8 #[.slice a 0 cap, .int .i64 t] w fun e w' => e = .returned (.tuple #[.int .i64 0, .int .i64 (if t = 0 then 0 else 2)]) ∧ Below w.heap.size w w' := by
  by_cases c : t = 0
  · subst c
    rw [if_pos rfl]
    go_enter Try.func8, Try.ntmps8
    go_wp2_with fail
    refine (length_none a cap _).mono ?_
    rintro e w1 ⟨rfl, hb1⟩
    have HB1 := Lib.hid hb1
    clear hb1
    go_wp2_with fail
    go_loopw [8, 9, 31] (fun m l i wr => i = .int .i64 0 ∧ m = .int .i64 0 ∧ Below w.heap.size w wr) (fun _ _ _ _ => 0)
    case atStart => exact ⟨rfl, rfl, HB1.out⟩
    case round =>
      obtain ⟨rfl, rfl, hb⟩ := hrel
      go_wp2_with fail
      go_ret2
      exact ⟨rfl, hb⟩
  · rw [if_neg c]
    by_cases c1 : t < 0
    · have e1 : decide (t < 0) = true := decide_eq_true c1
      go_enter Try.func8, Try.ntmps8
      go_wp2_with fail
      refine (length_none a cap _).mono ?_
      rintro e w1 ⟨rfl, hb1⟩
      have HB1 := Lib.hid hb1
      clear hb1
      go_wp2_with fail
      go_ret2
      exact ⟨rfl, HB1.out⟩
    · have e1 : decide (t < 0) = false := decide_eq_false c1
      have c2 : 0 < t := by omega
      have e2 : decide (0 < t) = true := decide_eq_true c2
      go_enter Try.func8, Try.ntmps8
      go_wp2_with fail
      refine (length_none a cap _).mono ?_
      rintro e w1 ⟨rfl, hb1⟩
      have HB1 := Lib.hid hb1
      clear hb1
      go_wp2_with fail
      go_ret2
      exact ⟨rfl, HB1.out⟩
end Go.Proofs.Ythdkkcibomigcaa.Fx
