/-
  The contracts of osc.length, osc.Check and sundialref02.Check: of a right way the sum of its Lens, else the error.
  Conditions: the slice's cells hold integers of their kinds.
-/
import Derived.Test.YthdkkcibomigcaaOscA
namespace Go.Proofs.Ythdkkcibomigcaa.Fx
open Go.RowKit

theorem not_okW {n k : Nat} {X Y : Nat → Int} (c : k < n) (h : ¬ (rt (X k) (Y k) ∧ sumTo X (k + 1) ≤ 1099511627776)) : ¬ okW n X Y := fun g => h (g k c)

set_option maxRecDepth 100000 in
set_option maxHeartbeats 1000000 in
theorem length_c (b off n cap : Nat) (X Y : Nat → Int) (w : World) (hn : n ≤ 9223372036854775807) (h : Legs w b off n X Y) :
    Calls Try.prog 17 #[.slice (some ⟨b, off, none⟩) n cap] w fun e w' => ((okW n X Y ∧ e = .returned (.tuple #[.int .i64 (sumTo X n), .int .i64 0])) ∨ (¬ okW n X Y ∧ e = .returned (.tuple #[.int .i64 0, .int .i64 3]))) ∧ Below w.heap.size w w' := by
  have H := Lib.hid h
  clear h
  go_enter Try.func17, Try.ntmps17
  go_wp2_with fail
  go_loopw [4, 9] (fun s i wr => ∃ k : Nat, k ≤ n ∧ i = .int .i64 k ∧ s = .int .i64 (sumTo X k) ∧ okW k X Y ∧ Below w.heap.size w wr) (fun _ i _ => n - (intOf i).toNat)
  case atStart => exact ⟨0, Nat.zero_le _, rfl, rfl, okW_zero X Y, brefl w⟩
  case round =>
    obtain ⟨k, hk, rfl, rfl, hok, hb⟩ := hrel
    have B := sumTo_bd hok k (Nat.le_refl _)
    have HOK := Lib.hid hok
    have HB := Lib.hid hb
    clear hok hb
    obtain ⟨B1, B2⟩ := B
    by_cases c : k < n
    · have e0 : decide ((k : Int) < (n : Int)) = true := by rw [decide_eq_true_iff]; omega
      obtain ⟨g1, g2⟩ := (H.out.below HB.out).2 k c
      have S := Lib.hid (sumTo_succ X k)
      have O := Lib.hid (And.intro (okW_succ HOK.out) (not_okW (X := X) (Y := Y) c))
      generalize sumTo X k = s at *
      by_cases c1 : rt (X k) (Y k)
      · have C1 := Lib.hid c1
        obtain ⟨r1, r2, r3, r4⟩ := c1
        by_cases c2 : s + X k ≤ 1099511627776
        · have e2 : decide (1099511627776 < s + X k) = false := by rw [decide_eq_false_iff_not]; omega
          have O2 : Hid (okW (k + 1) X Y) := O.out.1 C1.out (by rw [S.out]; exact c2)
          clear O
          generalize X k = x at *
          generalize Y k = y at *
          go_wp2_with fail
          refine (isRight_yes _ _ _ C1.out).mono ?_
          rintro e w1 ⟨rfl, hb1⟩
          have q1 := hb1.cell (p := ⟨wr.heap.size, 0, none⟩) (by simp)
          simp [go_sem] at q1
          have HB1 := Lib.hid hb1
          clear hb1
          go_wp2_with fail
          go_roundw
          case rel => exact ⟨k + 1, by omega, by go_num, by rw [S.out], O2.out, bstep (balloc HB.out _) HB1.out⟩
          case measure => simp [intOf]; omega
        · have e2 : decide (1099511627776 < s + X k) = true := by rw [decide_eq_true_iff]; omega
          have O2 : Hid (¬ okW n X Y) := O.out.2 (by rw [S.out]; exact fun g => c2 g.2)
          clear O
          generalize X k = x at *
          generalize Y k = y at *
          go_wp2_with fail
          refine (isRight_yes _ _ _ C1.out).mono ?_
          rintro e w1 ⟨rfl, hb1⟩
          have q1 := hb1.cell (p := ⟨wr.heap.size, 0, none⟩) (by simp)
          simp [go_sem] at q1
          have HB1 := Lib.hid hb1
          clear hb1
          go_wp2_with fail
          go_ret2
          exact ⟨Or.inr ⟨O2.out, rfl⟩, bstep (balloc HB.out _) HB1.out⟩
      · have C1 := Lib.hid c1
        have O2 : Hid (¬ okW n X Y) := O.out.2 (fun g => c1 g.1)
        clear O c1
        generalize X k = x at *
        generalize Y k = y at *
        go_wp2_with fail
        refine (isRight_no _ _ _ C1.out).mono ?_
        rintro e w1 ⟨rfl, hb1⟩
        have HB1 := Lib.hid hb1
        clear hb1
        go_wp2_with fail
        go_ret2
        exact ⟨Or.inr ⟨O2.out, rfl⟩, bstep (balloc HB.out _) HB1.out⟩
    · have e0 : decide ((k : Int) < (n : Int)) = false := by rw [decide_eq_false_iff_not]; omega
      obtain rfl : k = n := by omega
      go_wp2_with fail
      go_ret2
      exact ⟨Or.inl ⟨HOK.out, rfl⟩, HB.out⟩

theorem length_none (a : Option Addr) (cap : Nat) (w : World) :
    Calls Try.prog 17 #[.slice a 0 cap] w fun e w' => e = .returned (.tuple #[.int .i64 0, .int .i64 0]) ∧ Below w.heap.size w w' := by
  go_enter Try.func17, Try.ntmps17
  go_wp2_with fail
  go_loopw [4, 9] (fun s i wr => i = .int .i64 0 ∧ s = .int .i64 0 ∧ Below w.heap.size w wr) (fun _ _ _ => 0)
  case atStart => exact ⟨rfl, rfl, brefl w⟩
  case round =>
    obtain ⟨rfl, rfl, hb⟩ := hrel
    go_wp2_with fail
    go_ret2
    exact ⟨rfl, hb⟩

set_option maxRecDepth 100000 in
theorem Check2_c (b off n cap : Nat) (X Y : Nat → Int) (w : World) (hn : n ≤ 9223372036854775807) (h : Legs w b off n X Y) :
    Calls Try.prog 10 #[.slice (some ⟨b, off, none⟩) n cap] w fun e w' => ((okW n X Y ∧ e = .returned (.int .i64 0)) ∨ (¬ okW n X Y ∧ e = .returned (.int .i64 3))) ∧ Below w.heap.size w w' := by
  have H := Lib.hid h
  clear h
  go_enter Try.func10, Try.ntmps10
  go_wp2_with fail
  refine (length_c b off n cap X Y _ hn H.out).mono ?_
  rintro e w1 ⟨⟨ho, rfl⟩ | ⟨ho, rfl⟩, hb1⟩
  · have HO := Lib.hid ho
    clear ho
    go_wp2_with fail
    go_ret
    exact ⟨Or.inl ⟨HO.out, rfl⟩, hb1⟩
  · have HO := Lib.hid ho
    clear ho
    go_wp2_with fail
    go_ret
    exact ⟨Or.inr ⟨HO.out, rfl⟩, hb1⟩

theorem Check2_none (a : Option Addr) (cap : Nat) (w : World) :
    Calls Try.prog 10 #[.slice a 0 cap] w fun e w' => e = .returned (.int .i64 0) ∧ Below w.heap.size w w' := by
  go_enter Try.func10, Try.ntmps10
  go_wp2_with fail
  refine (length_none a cap _).mono ?_
  rintro e w1 ⟨rfl, hb1⟩
  go_wp2_with fail
  go_ret
  exact ⟨rfl, hb1⟩

set_option maxRecDepth 100000 in
set_option maxHeartbeats 1000000 in
theorem rCheck2_c (b off n cap : Nat) (X Y : Nat → Int) (w : World) (hn : n ≤ 9223372036854775807) (h : Legs w b off n X Y) :
    Calls Try.prog 11 #[.slice (some ⟨b, off, none⟩) n cap] w fun e w' => ((okW n X Y ∧ e = .returned (.int .i64 0)) ∨ (¬ okW n X Y ∧ e = .returned (.int .i64 3))) ∧ Below w.heap.size w w' := by
  have H := Lib.hid h
  clear h
  go_enter Try.func11, Try.ntmps11
  go_wp2_with fail
  go_loopw [3, 4] (fun s i wr => ∃ k : Nat, k ≤ n ∧ i = .int .i64 k ∧ s = .int .i64 (sumTo X k) ∧ okW k X Y ∧ Below w.heap.size w wr) (fun _ i _ => n - (intOf i).toNat)
  case atStart => exact ⟨0, Nat.zero_le _, rfl, rfl, okW_zero X Y, brefl w⟩
  case round =>
    obtain ⟨k, hk, rfl, rfl, hok, hb⟩ := hrel
    have B := sumTo_bd hok k (Nat.le_refl _)
    have HOK := Lib.hid hok
    have HB := Lib.hid hb
    clear hok hb
    obtain ⟨B1, B2⟩ := B
    by_cases c : k < n
    · have e0 : decide ((k : Int) < (n : Int)) = true := by rw [decide_eq_true_iff]; omega
      obtain ⟨g1, g2⟩ := (H.out.below HB.out).2 k c
      have S := Lib.hid (sumTo_succ X k)
      have O := Lib.hid (And.intro (okW_succ HOK.out) (not_okW (X := X) (Y := Y) c))
      generalize sumTo X k = s at *
      by_cases c1 : rt (X k) (Y k)
      · have C1 := Lib.hid c1
        obtain ⟨r1, r2, r3, r4⟩ := c1
        have d1 : decide (X k < 0) = false := by rw [decide_eq_false_iff_not]; omega
        have d2 : decide (1099511627776 < X k) = false := by rw [decide_eq_false_iff_not]; omega
        have d3 : decide (Y k < -1000) = false := by rw [decide_eq_false_iff_not]; omega
        have d4 : decide (1000 < Y k) = false := by rw [decide_eq_false_iff_not]; omega
        by_cases c2 : s + X k ≤ 1099511627776
        · have e2 : decide (1099511627776 < s + X k) = false := by rw [decide_eq_false_iff_not]; omega
          have O2 : Hid (okW (k + 1) X Y) := O.out.1 C1.out (by rw [S.out]; exact c2)
          clear O
          generalize X k = x at *
          generalize Y k = y at *
          go_wp2_with fail
          go_roundw
          case rel => exact ⟨k + 1, by omega, by go_num, by rw [S.out], O2.out, balloc HB.out _⟩
          case measure => simp [intOf]; omega
        · have e2 : decide (1099511627776 < s + X k) = true := by rw [decide_eq_true_iff]; omega
          have O2 : Hid (¬ okW n X Y) := O.out.2 (by rw [S.out]; exact fun g => c2 g.2)
          clear O
          generalize X k = x at *
          generalize Y k = y at *
          go_wp2_with fail
          go_ret
          exact ⟨Or.inr ⟨O2.out, rfl⟩, balloc HB.out _⟩
      · have O2 : Hid (¬ okW n X Y) := O.out.2 (fun g => c1 g.1)
        clear O
        unfold rt at c1
        generalize X k = x at *
        generalize Y k = y at *
        by_cases k1 : 0 ≤ x
        · have d1 : decide (x < 0) = false := by rw [decide_eq_false_iff_not]; omega
          by_cases k2 : x ≤ 1099511627776
          · have d2 : decide (1099511627776 < x) = false := by rw [decide_eq_false_iff_not]; omega
            by_cases k3 : -1000 ≤ y
            · have d3 : decide (y < -1000) = false := by rw [decide_eq_false_iff_not]; omega
              have d4 : decide (1000 < y) = true := by rw [decide_eq_true_iff]; omega
              clear c1
              go_wp2_with fail
              go_ret
              exact ⟨Or.inr ⟨O2.out, rfl⟩, balloc HB.out _⟩
            · have d3 : decide (y < -1000) = true := by rw [decide_eq_true_iff]; omega
              clear c1
              go_wp2_with fail
              go_ret
              exact ⟨Or.inr ⟨O2.out, rfl⟩, balloc HB.out _⟩
          · have d2 : decide (1099511627776 < x) = true := by rw [decide_eq_true_iff]; omega
            clear c1
            go_wp2_with fail
            go_ret
            exact ⟨Or.inr ⟨O2.out, rfl⟩, balloc HB.out _⟩
        · have d1 : decide (x < 0) = true := by rw [decide_eq_true_iff]; omega
          clear c1
          go_wp2_with fail
          go_ret
          exact ⟨Or.inr ⟨O2.out, rfl⟩, balloc HB.out _⟩
    · have e0 : decide ((k : Int) < (n : Int)) = false := by rw [decide_eq_false_iff_not]; omega
      obtain rfl : k = n := by omega
      go_wp2_with fail
      go_ret
      exact ⟨Or.inl ⟨HOK.out, rfl⟩, HB.out⟩

theorem rCheck2_none (a : Option Addr) (cap : Nat) (w : World) :
    Calls Try.prog 11 #[.slice a 0 cap] w fun e w' => e = .returned (.int .i64 0) ∧ Below w.heap.size w w' := by
  go_enter Try.func11, Try.ntmps11
  go_wp2_with fail
  go_loopw [3, 4] (fun s i wr => i = .int .i64 0 ∧ s = .int .i64 0 ∧ Below w.heap.size w wr) (fun _ _ _ => 0)
  case atStart => exact ⟨rfl, rfl, brefl w⟩
  case round =>
    obtain ⟨rfl, rfl, hb⟩ := hrel
    go_wp2_with fail
    go_ret
    exact ⟨rfl, hb⟩
end Go.Proofs.Ythdkkcibomigcaa.Fx
