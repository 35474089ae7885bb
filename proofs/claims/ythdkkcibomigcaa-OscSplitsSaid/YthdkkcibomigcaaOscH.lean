/-
  Ways by their values (empty or not), and the arithmetic of drift: what a count says bounds the true time that went by.
  Conditions: none.
-/
import Derived.Test.YthdkkcibomigcaaOscW
namespace Go.Proofs.Ythdkkcibomigcaa.Fx
open Go.RowKit

/-- a slice of n legs begins at a. -/
def WayS (w : World) (a : Option Addr) (n : Nat) (X Y : Nat → Int) : Prop := n ≤ 9223372036854775807 ∧ (0 < n → ∃ b off, a = some ⟨b, off, none⟩ ∧ Legs w b off n X Y)

theorem WayS.below {w w' : World} {a : Option Addr} {n : Nat} {X Y : Nat → Int} (h : WayS w a n X Y) (k : Below w.heap.size w w') : WayS w' a n X Y :=
  ⟨h.1, fun c => by obtain ⟨b, off, e, l⟩ := h.2 c; exact ⟨b, off, e, l.below k⟩⟩

theorem WayAt.split {w : World} {v : Value} {n : Nat} {X Y : Nat → Int} (h : WayAt w v n X Y) : ∃ a cap, v = .slice a n cap ∧ n ≤ cap + n ∧ WayS w a n X Y := by
  rcases h with ⟨rfl, a, cap, rfl⟩ | ⟨_, hn, b, off, cap, rfl, _, h⟩
  · exact ⟨a, cap, rfl, by omega, by omega, fun c => absurd c (by omega)⟩
  · exact ⟨_, cap, rfl, by omega, hn, fun _ => ⟨b, off, rfl, h⟩⟩

theorem Check_s (a : Option Addr) (n cap : Nat) (X Y : Nat → Int) (w : World) (h : WayS w a n X Y) :
    Calls Try.prog 10 #[.slice a n cap] w fun e w' => ((okW n X Y ∧ e = .returned (.int .i64 0)) ∨ (¬ okW n X Y ∧ e = .returned (.int .i64 3))) ∧ Below w.heap.size w w' := by
  by_cases c : 0 < n
  · obtain ⟨b, off, rfl, l⟩ := h.2 c
    exact Check2_c b off n cap X Y w h.1 l
  · obtain rfl : n = 0 := by omega
    refine (Check2_none a cap w).mono ?_
    rintro e w' ⟨rfl, hb⟩
    exact ⟨Or.inl ⟨okW_zero X Y, rfl⟩, hb⟩

theorem Raw_s (a : Option Addr) (n cap : Nat) (X Y : Nat → Int) (t : Int) (w : World) (h : WayS w a n X Y) (hok : okW n X Y) (ht : 0 ≤ t) (ht' : t ≤ sumTo X n) :
    Calls Try.prog 8 #[.slice a n cap, .int .i64 t] w fun e w' => e = .returned (.tuple #[.int .i64 (ml X Y t n / 1000000), .int .i64 0]) ∧ Below w.heap.size w w' := by
  by_cases c : 0 < n
  · obtain ⟨b, off, rfl, l⟩ := h.2 c
    exact Raw_ok b off n cap X Y t w h.1 l hok ht ht'
  · obtain rfl : n = 0 := by omega
    obtain rfl : t = 0 := by simp [sumTo] at ht'; omega
    exact Raw_none a cap 0 w

/-- no leg's Ppm is above rho or below -rho, up to leg k. -/
def slow (k : Nat) (Y : Nat → Int) (rho : Int) : Prop := ∀ i, i < k → -rho ≤ Y i ∧ Y i ≤ rho
theorem slow_zero (Y : Nat → Int) (rho : Int) : slow 0 Y rho := fun _ h => absurd h (Nat.not_lt_zero _)
theorem slow_succ {k : Nat} {Y : Nat → Int} {rho : Int} (h : slow k Y rho) (h1 : Y k ≤ rho) (h2 : -rho ≤ Y k) : slow (k + 1) Y rho := by
  intro i hi
  by_cases c : i < k
  · exact h i c
  · obtain rfl : i = k := by omega
    exact ⟨h2, h1⟩

theorem drift {n : Nat} {X Y : Nat → Int} {rho a b : Int} (h : okW n X Y) (hs : slow n Y rho) (ha : 0 ≤ a) (hab : a ≤ b) : ∀ k, k ≤ n →
    ((b - lf X b k) - (a - lf X a k)) * (1000000 - rho) ≤ ml X Y b k - ml X Y a k ∧ ml X Y b k - ml X Y a k ≤ ((b - lf X b k) - (a - lf X a k)) * (1000000 + rho) := by
  intro k hk
  induction k with
  | zero => simp [lf, ml]
  | succ k ih =>
    obtain ⟨i1, i2⟩ := ih (by omega)
    obtain ⟨y1, y2⟩ := hs k (by omega)
    have x1 := (h k (by omega)).1.1
    have la := lf_eq h ha k (by omega)
    have lb := lf_eq h (show 0 ≤ b by omega) k (by omega)
    rw [lf_succ, lf_succ, ml_succ, ml_succ]
    have g0 : 0 ≤ min (X k) (lf X b k) - min (X k) (lf X a k) := by omega
    obtain ⟨m1, m2⟩ := mul_bd (y := 1000000 + Y k) (lo := 1000000 - rho) (hi := 1000000 + rho) g0 (by omega) (by omega)
    have r1 : ∀ z, ((b - (lf X b k - min (X k) (lf X b k))) - (a - (lf X a k - min (X k) (lf X a k)))) * z = ((b - lf X b k) - (a - lf X a k)) * z + (min (X k) (lf X b k) - min (X k) (lf X a k)) * z := by
      intro z; rw [← Int.add_mul]; congr 1; omega
    have r2 : (min (X k) (lf X b k) - min (X k) (lf X a k)) * (1000000 + Y k) = min (X k) (lf X b k) * (1000000 + Y k) - min (X k) (lf X a k) * (1000000 + Y k) := Int.sub_mul _ _ _
    rw [r1, r1]
    rw [r2] at m1 m2
    omega

theorem high_mul {d rho : Int} (hr' : rho ≤ 1000) : (d + 1) * 1000000 ≤ highN d rho * (1000000 - rho) := by
  have e := Int.mul_ediv_add_emod ((d + 1) * 1000000) (1000000 - rho)
  have l := Int.emod_lt_of_pos ((d + 1) * 1000000) (show 0 < 1000000 - rho by omega)
  have g := Int.emod_nonneg ((d + 1) * 1000000) (show 1000000 - rho ≠ 0 by omega)
  unfold highN
  rw [Int.mul_comm] at e
  split
  · have k := Int.add_mul ((d + 1) * 1000000 / (1000000 - rho)) 1 (1000000 - rho)
    rw [k]; omega
  · omega

theorem low_le {d rho z : Int} (hr : 0 ≤ rho) (h : max (d - 1) 0 * 1000000 ≤ z * (1000000 + rho)) : lowN d rho ≤ z := by
  unfold lowN
  exact Int.ediv_le_of_le_mul (by omega) h

theorem le_high {d rho z : Int} (hr' : rho ≤ 1000) (h : z * (1000000 - rho) ≤ (d + 1) * 1000000) : z ≤ highN d rho :=
  Int.le_of_mul_le_mul_right (Int.le_trans h (high_mul hr')) (by omega)

/-- what the law of bounds asks. -/
theorem bounds_main {n : Nat} {X Y : Nat → Int} {rho a b : Int} (h : okW n X Y) (hs : slow n Y rho) (hr : 0 ≤ rho) (hr' : rho ≤ 1000) (ha : 0 ≤ a) (hab : a ≤ b) (hb : b ≤ sumTo X n) :
    ∃ x y lo hi : Int, ml X Y a n / 1000000 = x ∧ ml X Y b n / 1000000 = y ∧ elLo (y - x) rho = lo ∧ elHi (y - x) rho = hi ∧ 0 ≤ x ∧ x ≤ y ∧ y ≤ 1100611139403 ∧ lo ≤ b - a ∧ b - a ≤ hi ∧ shl a lo ≤ b ∧ b ≤ shh a hi := by
  obtain ⟨d1, d2⟩ := drift h hs ha hab n (Nat.le_refl _)
  have za := (lf_zero (t := a) h ha).1 (by omega)
  have zb := (lf_zero (t := b) h (by omega)).1 hb
  obtain ⟨p1, p2⟩ := ml_bd h ha n (Nat.le_refl _)
  obtain ⟨q1, q2⟩ := ml_bd (t := b) h (by omega) n (Nat.le_refl _)
  obtain ⟨s1, s2⟩ := sumTo_bd h n (Nat.le_refl _)
  rw [za] at d1 d2 p1 p2
  rw [zb] at d1 d2 q1 q2
  generalize ml X Y a n = A at *
  generalize ml X Y b n = B at *
  have g0 : 0 ≤ (b - a) * (1000000 - rho) := Int.mul_nonneg (by omega) (by omega)
  have e0 : b - 0 - (a - 0) = b - a := by omega
  rw [e0] at d1 d2
  have xy : A / 1000000 ≤ B / 1000000 := by omega
  have lo1 : elLo (B / 1000000 - A / 1000000) rho ≤ b - a := by
    unfold elLo
    split
    · omega
    · refine low_le hr ?_
      have := Int.mul_nonneg (show 0 ≤ b - a by omega) (show 0 ≤ 1000000 + rho by omega)
      omega
  have hi1 : b - a ≤ elHi (B / 1000000 - A / 1000000) rho := by
    unfold elHi
    split
    · omega
    · refine le_high hr' ?_
      omega
  obtain ⟨l0, _, _, h0⟩ := el_bd (d := B / 1000000 - A / 1000000) (by omega) hr hr'
  refine ⟨_, _, _, _, rfl, rfl, rfl, rfl, by omega, xy, by omega, lo1, hi1, ?_, ?_⟩
  · unfold shl
    rw [if_neg (by omega), bnd_in (by omega) (by omega)]
    omega
  · unfold shh
    rw [if_neg (by omega)]
    unfold bnd
    (repeat' split) <;> omega

/-- n brought to 0 .. w - 1. -/
theorem tmod_bd {n w : Int} (hw : 0 < w) : -w < n.tmod w ∧ n.tmod w < w := by
  by_cases c : 0 ≤ n
  · rw [Int.tmod_eq_emod_of_nonneg c]
    have := Int.emod_nonneg n (show w ≠ 0 by omega)
    have := Int.emod_lt_of_pos n hw
    omega
  · have e : n.tmod w = -((-n) % w) := by
      rw [← Int.tmod_eq_emod_of_nonneg (by omega), Int.neg_tmod, Int.neg_neg]
    have := Int.emod_nonneg (-n) (show w ≠ 0 by omega)
    have := Int.emod_lt_of_pos (-n) hw
    omega

set_option maxRecDepth 100000 in
theorem into_c (n m : Int) (w : World) (h1 : 0 < m) (h2 : m ≤ 2199023255552) :
    Calls Try.prog 16 #[.int .i64 n, .int .i64 m] w fun e w' => (∃ r, 0 ≤ r ∧ r < m ∧ e = .returned (.int .i64 r)) ∧ w = w' := by
  have z : (m == 0) = false := by simp; omega
  obtain ⟨r, er⟩ : ∃ r, n.tmod m = r := ⟨_, rfl⟩
  have hr := tmod_bd (n := n) h1
  rw [er] at hr
  obtain ⟨r1, r2⟩ := hr
  have q1 := Int.emod_nonneg (r + m) (show m ≠ 0 by omega)
  have q2 := Int.emod_lt_of_pos (r + m) h1
  have Q := Lib.hid (And.intro q1 q2)
  by_cases c : 0 ≤ n
  · have e2 : n % m = r := by rw [← er, Int.tmod_eq_emod_of_nonneg c]
    go_enter Try.func16, Try.ntmps16
    go_wp2_with fail
    go_ret
    exact ⟨⟨_, Q.out.1, Q.out.2, rfl⟩, rfl⟩
  · go_enter Try.func16, Try.ntmps16
    go_wp2_with fail
    go_ret
    exact ⟨⟨_, Int.emod_nonneg r (by omega), Int.emod_lt_of_pos r h1, rfl⟩, rfl⟩
end Go.Proofs.Ythdkkcibomigcaa.Fx
