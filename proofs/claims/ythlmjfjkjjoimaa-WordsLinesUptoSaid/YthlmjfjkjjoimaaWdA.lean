/-
  Whole numbers: the contracts of sundialref07.digits and Number.
  Conditions: none.
-/
import Derived.Test.YthlmjfjkjjoimaaProg
import Derived.WalkKit
import Derived.WalkLawsBesides
import Derived.Lib.Hide
import Derived.BigQuiet
import Derived.KernelRfl
namespace Go.Proofs.Ythlmjfjkjjoimaa.Wd
open Go.RowKit
set_option linter.unusedVariables false
set_option linter.unusedSimpArgs false

/-- the byte at i. -/
def gn (s : ByteArray) (i : Nat) : Nat := (s.data.toList.getD i 0).toNat
theorem gn_at (s : ByteArray) (p : Nat) (h : p < s.size) : (s[p]'h).toNat = gn s p := by
  unfold gn
  have h' : p < s.data.toList.length := by rw [Array.length_toList]; exact h
  rw [List.getD_eq_getElem?_getD, List.getElem?_eq_getElem h', Option.getD_some, Array.getElem_toList]
  rfl
theorem gn_lt (s : ByteArray) (i : Nat) : gn s i < 256 := (s.data.toList.getD i 0).toNat_lt
theorem gn_set (s : ByteArray) (p : Nat) (h : p < s.size) : s.data.toList[p]? = some (s.data.toList.getD p 0) := by
  have h' : p < s.data.toList.length := by rw [Array.length_toList]; exact h
  rw [List.getD_eq_getElem?_getD, List.getElem?_eq_getElem h', Option.getD_some]
def dig (x : Nat) : Bool := decide (48 ≤ x) && decide (x ≤ 57)
def dgs (s : ByteArray) : Bool := (List.range s.size).all (fun i => dig (gn s i)) && decide (0 < s.size)

theorem dgs_no {s : ByteArray} {k : Nat} (h : k < s.size) (hd : dig (gn s k) = false) : dgs s = false := by
  cases h' : dgs s with
  | false => rfl
  | true =>
    simp only [dgs, Bool.and_eq_true, List.all_eq_true, List.mem_range] at h'
    rw [h'.1 k h] at hd; cases hd
theorem dgs_all {s : ByteArray} (h : ∀ i, i < s.size → dig (gn s i) = true) : dgs s = decide (0 < s.size) := by
  have : ((List.range s.size).all fun i => dig (gn s i)) = true := by simp only [List.all_eq_true, List.mem_range]; exact h
  rw [dgs, this, Bool.true_and]

set_option maxRecDepth 100000 in
set_option maxHeartbeats 2000000 in
theorem digits_c (s : ByteArray) (w : World) (hs : s.size ≤ 9223372036854775807) :
    Calls Try.prog 23 #[.string s] w fun e w' => e = .returned (.bool (dgs s)) ∧ w' = w := by
  obtain ⟨r, HR⟩ : ∃ r, Hid (r = dgs s) := ⟨_, Lib.hid rfl⟩
  rw [← HR.out]
  go_enter Try.func23, Try.ntmps23
  go_wp2_with fail
  go_loopw [3] (fun i wr => ∃ k : Nat, k ≤ s.size ∧ i = .int .i64 k ∧ (∀ j, j < k → dig (gn s j) = true) ∧ wr = w) (fun i _ => s.size - (intOf i).toNat)
  case atStart => exact ⟨0, Nat.zero_le _, rfl, fun j hj => absurd hj (Nat.not_lt_zero _), rfl⟩
  case round =>
    obtain ⟨k, hk, rfl, hno, rfl⟩ := hrel
    have NO := Lib.hid hno
    clear hno
    by_cases c : k < s.size
    · have e0 : decide ((k : Int) < (s.size : Int)) = true := by rw [decide_eq_true_iff]; omega
      have ga := gn_at s k c
      have gl := gn_lt s k
      have HD : Hid (dig (gn s k) = (decide (48 ≤ gn s k) && decide (gn s k ≤ 57))) := Lib.hid rfl
      have NX : Hid (dig (gn s k) = true → ∀ j, j < k + 1 → dig (gn s j) = true) := Lib.hid (fun h j hj => by
        by_cases e : j = k
        · subst e; exact h
        · exact NO.out j (by omega))
      have NB : Hid (dig (gn s k) = false → r = false) := Lib.hid (fun h => by rw [HR.out]; exact dgs_no c h)
      generalize hx : gn s k = x at *
      clear hx
      by_cases d1 : x < 48
      · have e1 : decide ((x : Int) < 48) = true := by rw [decide_eq_true_iff]; omega
        have RF := NB.out (by rw [HD.out, decide_eq_false (show ¬ 48 ≤ x by omega)]; rfl)
        go_wp2_with fail
        go_ret
        exact ⟨by rw [RF]; rfl, rfl⟩
      · have e1 : decide ((x : Int) < 48) = false := by rw [decide_eq_false_iff_not]; omega
        by_cases d2 : 57 < x
        · have e2 : decide (57 < (x : Int)) = true := by rw [decide_eq_true_iff]; omega
          have RF := NB.out (by rw [HD.out, decide_eq_false (show ¬ x ≤ 57 by omega), Bool.and_false])
          go_wp2_with fail
          go_ret
          exact ⟨by rw [RF]; rfl, rfl⟩
        · have e2 : decide (57 < (x : Int)) = false := by rw [decide_eq_false_iff_not]; omega
          have NY := Lib.hid (NX.out (by rw [HD.out, decide_eq_true (show 48 ≤ x by omega), decide_eq_true (show x ≤ 57 by omega)]; rfl))
          go_wp2_with fail
          go_roundw
          case rel => exact ⟨k + 1, by omega, by go_num, NY.out, trivial⟩
          case measure => simp [intOf]; omega
    · have e0 : decide ((k : Int) < (s.size : Int)) = false := by rw [decide_eq_false_iff_not]; omega
      have ek : k = s.size := by omega
      have RF : Hid (r = decide (0 < s.size)) := Lib.hid (by rw [HR.out, dgs_all (fun i hi => NO.out i (by omega))])
      clear ek
      go_wp2_with fail
      go_ret
      exact ⟨by rw [RF.out]; rfl, rfl⟩

/-- a whole number. -/
def wn (s : ByteArray) : Bool := dgs s && decide (s.size ≤ 10) && !(decide (1 < s.size) && decide (gn s 0 = 48))
def va (s : ByteArray) : Nat → Nat
  | 0 => 0
  | k + 1 => 10 * va s k + (gn s k - 48)
theorem va_lt {s : ByteArray} : ∀ k, (∀ i, i < k → dig (gn s i) = true) → va s k < 10 ^ k
  | 0, _ => by simp [va]
  | k + 1, h => by
    have a := va_lt k (fun i hi => h i (by omega))
    have b := h k (by omega)
    simp [dig] at b
    rw [va, Nat.pow_succ]
    omega
theorem wn_dig {s : ByteArray} (h : wn s = true) : (∀ i, i < s.size → dig (gn s i) = true) ∧ s.size ≤ 10 ∧ 0 < s.size := by
  simp [wn, dgs] at h
  exact ⟨h.1.1.1, h.1.2, h.1.1.2⟩
theorem va_lt10 {s : ByteArray} (h : wn s = true) {k : Nat} (hk : k ≤ s.size) : va s k < 10000000000 := by
  obtain ⟨h1, h2, _⟩ := wn_dig h
  have a := va_lt k (fun i hi => h1 i (by omega))
  have b : 10 ^ k ≤ 10 ^ 10 := Nat.pow_le_pow_right (by omega) (by omega)
  have c : (10 : Nat) ^ 10 = 10000000000 := by decide
  omega

set_option maxRecDepth 100000 in
set_option maxHeartbeats 2000000 in
theorem rNumber_c (s : ByteArray) (w : World) (hs : s.size ≤ 9223372036854775807) :
    Calls Try.prog 12 #[.string s] w fun e w' => e = .returned (.tuple #[.int .i64 (if wn s = true then (va s s.size : Int) else 0), .int .i64 (if wn s = true then 0 else 4)]) ∧ w' = w := by
  have DC := Lib.hid (digits_c s w hs)
  obtain ⟨r, HR⟩ : ∃ r, Hid (r = (if wn s = true then (va s s.size : Int) else 0)) := ⟨_, Lib.hid rfl⟩
  obtain ⟨z, HZ⟩ : ∃ z, Hid (z = (if wn s = true then (0 : Int) else 4)) := ⟨_, Lib.hid rfl⟩
  rw [← HR.out, ← HZ.out]
  have BAD : Hid (wn s = false → r = 0 ∧ z = 4) := Lib.hid (fun h => by rw [HR.out, HZ.out, h]; exact ⟨rfl, rfl⟩)
  cases hd : dgs s with
  | false =>
    rw [hd] at DC
    obtain ⟨b1, b2⟩ := BAD.out (by rw [wn, hd]; rfl)
    go_enter Try.func12, Try.ntmps12
    go_wp2_with fail
    refine DC.out.mono ?_
    rintro e w' ⟨rfl, rfl⟩
    go_wp2_with fail
    go_ret2
    exact ⟨by rw [b1, b2]; rfl, rfl⟩
  | true =>
    rw [hd] at DC
    by_cases c1 : 10 < s.size
    · have e1 : decide (10 < (s.size : Int)) = true := by rw [decide_eq_true_iff]; omega
      obtain ⟨b1, b2⟩ := BAD.out (by rw [wn, decide_eq_false (show ¬ s.size ≤ 10 by omega), Bool.and_false, Bool.false_and])
      go_enter Try.func12, Try.ntmps12
      go_wp2_with fail
      refine DC.out.mono ?_
      rintro e w' ⟨rfl, rfl⟩
      go_wp2_with fail
      go_ret2
      exact ⟨by rw [b1, b2]; rfl, rfl⟩
    have e1 : decide (10 < (s.size : Int)) = false := by rw [decide_eq_false_iff_not]; omega
    have hpos : 0 < s.size := by simp [dgs] at hd; exact hd.2
    have ga := gn_at s 0 hpos
    by_cases c2 : 1 < s.size ∧ gn s 0 = 48
    · have e2 : decide (1 < (s.size : Int)) = true := by rw [decide_eq_true_iff]; omega
      obtain ⟨b1, b2⟩ := BAD.out (by rw [wn, decide_eq_true c2.1, decide_eq_true c2.2]; simp)
      rw [c2.2] at ga
      go_enter Try.func12, Try.ntmps12
      go_wp2_with fail
      refine DC.out.mono ?_
      rintro e w' ⟨rfl, rfl⟩
      go_wp2_with fail
      go_ret2
      exact ⟨by rw [b1, b2]; rfl, rfl⟩
    have W : Hid (wn s = true) := Lib.hid (by
      rw [wn, hd, decide_eq_true (show s.size ≤ 10 by omega)]
      by_cases h : 1 < s.size
      · rw [decide_eq_true h, decide_eq_false (fun e => c2 ⟨h, e⟩)]; rfl
      · rw [decide_eq_false h]; rfl)
    have GO : Hid (r = (va s s.size : Int) ∧ z = 0) := Lib.hid (by rw [HR.out, HZ.out, W.out]; exact ⟨rfl, rfl⟩)
    have T2 : (decide (1 < (s.size : Int)) = false) ∨ (decide (1 < (s.size : Int)) = true ∧ ((gn s 0 : Int) == 48) = false) := by
      by_cases h : 1 < s.size
      · exact .inr ⟨by rw [decide_eq_true_iff]; omega, by simp; have : ¬ gn s 0 = 48 := fun e => c2 ⟨h, e⟩; omega⟩
      · exact .inl (by rw [decide_eq_false_iff_not]; omega)
    clear BAD c2
    go_enter Try.func12, Try.ntmps12
    go_wp2_with fail
    refine DC.out.mono ?_
    rintro e w' ⟨rfl, rfl⟩
    have TT : Hid True := Lib.hid trivial
    generalize gn s 0 = y0 at *
    rcases T2 with e2 | ⟨e2, e3⟩
    all_goals
      go_wp2_with fail
      clear ga
      go_loopw [4, 5] (fun n i wr => ∃ k : Nat, k ≤ s.size ∧ i = .int .i64 k ∧ n = .int .i64 (va s k) ∧ wr = w') (fun _ i _ => s.size - (intOf i).toNat)
      case atStart => exact ⟨0, Nat.zero_le _, rfl, rfl, rfl⟩
      case round =>
        obtain ⟨k, hk, rfl, rfl, rfl⟩ := hrel
        by_cases c : k < s.size
        · have e4 : decide ((k : Int) < (s.size : Int)) = true := by rw [decide_eq_true_iff]; omega
          have ga := gn_at s k c
          have gd := (wn_dig W.out).1 k c
          have g1 : 48 ≤ gn s k ∧ gn s k ≤ 57 := by simpa [dig] using gd
          have v1 := va_lt10 W.out (show k ≤ s.size by omega)
          have VS : Hid (va s (k + 1) = 10 * va s k + (gn s k - 48)) := Lib.hid rfl
          clear gd
          generalize gn s k = x at *
          generalize va s k = u at *
          go_wp2_with fail
          go_roundw
          case rel => exact ⟨k + 1, by omega, by go_num, by rw [VS.out]; congr 1; omega, trivial⟩
          case measure => simp [intOf]; omega
        · have e4 : decide ((k : Int) < (s.size : Int)) = false := by rw [decide_eq_false_iff_not]; omega
          have ek : Hid (k = s.size) := Lib.hid (by omega)
          go_wp2_with fail
          go_ret2
          exact ⟨by rw [GO.out.1, GO.out.2, ← ek.out]; rfl, rfl⟩
end Go.Proofs.Ythlmjfjkjjoimaa.Wd
