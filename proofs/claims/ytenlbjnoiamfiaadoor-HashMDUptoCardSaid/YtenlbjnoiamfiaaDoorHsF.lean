/-
  Words that lie in memory, and the contract of sundialref04.bytes: the bytes of words, in a slice of the call's own.
  Conditions: at most sixteen words.
-/
import Derived.Test.YtenlbjnoiamfiaaDoorHsE
namespace Go.Proofs.YtenlbjnoiamfiaaDoor.Hs
open Go.RowKit
set_option linter.unusedVariables false
set_option linter.unusedSimpArgs false

/-- n words begin at b, off: word i is g i. -/
def Ws (w : World) (b off n : Nat) (g : Nat → Nat) : Prop :=
  b < w.heap.size ∧ (∀ i, i < n → g i < 4294967296) ∧ ∀ i, i < n → w.cell? ⟨b, off + i, none⟩ = some (.int .u32 (g i))
theorem Ws.below {w w' : World} {b off n : Nat} {g : Nat → Nat} (h : Ws w b off n g) (k : Below w.heap.size w w') : Ws w' b off n g :=
  ⟨Nat.lt_of_lt_of_le h.1 k.size, h.2.1, fun i hi => (k.cell (p := ⟨b, off + i, none⟩) h.1).trans (h.2.2 i hi)⟩
/-- byte j of a word. -/
def wbAt (low : Bool) (x j : Nat) : Nat := x / 2 ^ (if low then 8 * j else 24 - 8 * j) % 256
def wb (low : Bool) (x k : Nat) : List Nat := (List.range k).map (wbAt low x)
theorem wb_succ (low : Bool) (x k : Nat) : wb low x (k + 1) = wb low x k ++ [wbAt low x k] := by simp [wb, List.range_succ]
theorem wb_len (low : Bool) (x k : Nat) : (wb low x k).length = k := by simp [wb]
/-- the bytes of the first n words. -/
def ob (low : Bool) (g : Nat → Nat) : Nat → List Nat
  | 0 => []
  | n + 1 => ob low g n ++ wb low (g n) 4
theorem ob_len (low : Bool) (g : Nat → Nat) : ∀ n, (ob low g n).length = 4 * n
  | 0 => rfl
  | n + 1 => by simp only [ob, List.length_append, ob_len low g n, wb_len]; omega

set_option maxRecDepth 100000 in
set_option maxHeartbeats 2000000 in
theorem rbytes_low (b off n cap : Nat) (g : Nat → Nat) (w : World) (W : Ws w b off n g) (hn : n ≤ 16) :
    Calls Tryd.prog 26 #[.slice (some ⟨b, off, none⟩) n cap, .bool true] w fun e w' => (∃ v, e = .returned v ∧ Own w' w.heap.size v (ob true g n)) ∧ Below w.heap.size w w' := by
  have HW := Lib.hid W
  clear W
  have n1 : (n : Int) ≤ 16 := by omega
  go_enter Tryd.func26, Tryd.ntmps26
  go_wp2_with fail
  go_loopw [5, 6] (fun v i wr => ∃ m : Nat, m ≤ n ∧ i = .int .i64 m ∧ Own wr w.heap.size v (ob true g m) ∧ Below w.heap.size w wr ∧ w.heap.size ≤ wr.heap.size) (fun _ i _ => n - (intOf i).toNat)
  case atStart => exact ⟨0, Nat.zero_le _, rfl, Own.nil _ _, Below.refl _ _, Nat.le_refl _⟩
  case round =>
    obtain ⟨m, hm, rfl, ho, hb, hs⟩ := hrel
    have HO := Lib.hid ho
    have HB := Lib.hid hb
    have HS := Lib.hid hs
    clear ho hb hs
    by_cases c : m < n
    · have e0 : decide ((m : Int) < (n : Int)) = true := by rw [decide_eq_true_iff]; omega
      go_wp2_with fail
      clear e0
      go_loopw [5, 7] (fun v i w2 => ∃ k : Nat, k ≤ 4 ∧ i = .int .i64 k ∧ Own w2 w.heap.size v (ob true g m ++ wb true (g m) k) ∧ Below w.heap.size w w2 ∧ w.heap.size ≤ w2.heap.size) (fun _ i _ => 4 - (intOf i).toNat)
      case atStart => exact ⟨0, by omega, rfl, by rw [show wb true (g m) 0 = [] from rfl, List.append_nil]; exact HO.out, HB.out, HS.out⟩
      case round =>
        clear HO HB HS
        obtain ⟨k, hk, rfl, ho, hb, hs⟩ := hrel
        by_cases c4 : k < 4
        · have e0 : decide ((k : Int) < 4) = true := by rw [decide_eq_true_iff]; omega
          have le : (ob true g m ++ wb true (g m) k).length = 4 * m + k := by rw [List.length_append, ob_len, wb_len]
          have gw := HW.out.2.1 m c
          have gc := (HW.out.below hb).2.2 m c
          obtain ⟨v4, w4, r4, o4, b4, s4⟩ := app1 ho (wbAt true (g m) k) hs (by rw [le]; omega) 22
          rw [List.append_assoc, ← wb_succ] at o4
          have O4 := Lib.hid o4
          have B4 := Lib.hid (bstepB hb b4)
          have S4 := Lib.hid (Nat.le_trans hs s4)
          clear o4 b4 s4 ho hb hs
          have e4 : ((wbAt true (g m) k : Nat) : Int) = (g m : Int) / 2 ^ (8 * k) % 256 := by unfold wbAt; simp
          rw [e4] at r4
          generalize g m = x at *
          have k0 : (0 : Int) ≤ (k : Int) := by omega
          have k7 : (k : Int) ≤ 3 := by omega
          have m0 : (0 : Int) ≤ (m : Int) := by omega
          have m1 : (m : Int) < (n : Int) := by omega
          have x0 : (0 : Int) ≤ (x : Int) := by omega
          have x1 : (x : Int) < 4294967296 := by omega
          go_wp2_with (first | (at_builtin; refine wpList_append_eq rfl _ _ 22 rfl _ _ v4 w4 rfl rfl r4 ?_))
          go_roundw
          case rel => exact ⟨k + 1, by omega, by go_num, O4.out, B4.out, S4.out⟩
          case measure => simp [intOf]; omega
        · have e0 : decide ((k : Int) < 4) = false := by rw [decide_eq_false_iff_not]; omega
          obtain rfl : k = 4 := by omega
          have HO := Lib.hid ho
          have HB := Lib.hid hb
          have HS := Lib.hid hs
          clear ho hb hs
          go_wp2_with fail
          go_roundw
          case rel => exact ⟨m + 1, by omega, by go_num, HO.out, HB.out, HS.out⟩
          case measure => simp [intOf]; omega
    · have e0 : decide ((m : Int) < (n : Int)) = false := by rw [decide_eq_false_iff_not]; omega
      obtain rfl : m = n := by omega
      go_wp2_with fail
      go_ret
      exact ⟨⟨_, rfl, HO.out⟩, HB.out⟩

set_option maxRecDepth 100000 in
set_option maxHeartbeats 2000000 in
theorem rbytes_high (b off n cap : Nat) (g : Nat → Nat) (w : World) (W : Ws w b off n g) (hn : n ≤ 16) :
    Calls Tryd.prog 26 #[.slice (some ⟨b, off, none⟩) n cap, .bool false] w fun e w' => (∃ v, e = .returned v ∧ Own w' w.heap.size v (ob false g n)) ∧ Below w.heap.size w w' := by
  have HW := Lib.hid W
  clear W
  have n1 : (n : Int) ≤ 16 := by omega
  go_enter Tryd.func26, Tryd.ntmps26
  go_wp2_with fail
  go_loopw [5, 6] (fun v i wr => ∃ m : Nat, m ≤ n ∧ i = .int .i64 m ∧ Own wr w.heap.size v (ob false g m) ∧ Below w.heap.size w wr ∧ w.heap.size ≤ wr.heap.size) (fun _ i _ => n - (intOf i).toNat)
  case atStart => exact ⟨0, Nat.zero_le _, rfl, Own.nil _ _, Below.refl _ _, Nat.le_refl _⟩
  case round =>
    obtain ⟨m, hm, rfl, ho, hb, hs⟩ := hrel
    have HO := Lib.hid ho
    have HB := Lib.hid hb
    have HS := Lib.hid hs
    clear ho hb hs
    by_cases c : m < n
    · have e0 : decide ((m : Int) < (n : Int)) = true := by rw [decide_eq_true_iff]; omega
      go_wp2_with fail
      clear e0
      go_loopw [5, 7] (fun v i w2 => ∃ k : Nat, k ≤ 4 ∧ i = .int .i64 k ∧ Own w2 w.heap.size v (ob false g m ++ wb false (g m) k) ∧ Below w.heap.size w w2 ∧ w.heap.size ≤ w2.heap.size) (fun _ i _ => 4 - (intOf i).toNat)
      case atStart => exact ⟨0, by omega, rfl, by rw [show wb false (g m) 0 = [] from rfl, List.append_nil]; exact HO.out, HB.out, HS.out⟩
      case round =>
        clear HO HB HS
        obtain ⟨k, hk, rfl, ho, hb, hs⟩ := hrel
        by_cases c4 : k < 4
        · have e0 : decide ((k : Int) < 4) = true := by rw [decide_eq_true_iff]; omega
          have le : (ob false g m ++ wb false (g m) k).length = 4 * m + k := by rw [List.length_append, ob_len, wb_len]
          have gw := HW.out.2.1 m c
          have gc := (HW.out.below hb).2.2 m c
          obtain ⟨v4, w4, r4, o4, b4, s4⟩ := app1 ho (wbAt false (g m) k) hs (by rw [le]; omega) 22
          rw [List.append_assoc, ← wb_succ] at o4
          have O4 := Lib.hid o4
          have B4 := Lib.hid (bstepB hb b4)
          have S4 := Lib.hid (Nat.le_trans hs s4)
          clear o4 b4 s4 ho hb hs
          have e4 : ((wbAt false (g m) k : Nat) : Int) = (g m : Int) / 2 ^ (24 - 8 * k) % 256 := by unfold wbAt; simp
          rw [e4] at r4
          generalize g m = x at *
          have k0 : (0 : Int) ≤ (k : Int) := by omega
          have k7 : (k : Int) ≤ 3 := by omega
          have m0 : (0 : Int) ≤ (m : Int) := by omega
          have m1 : (m : Int) < (n : Int) := by omega
          have x0 : (0 : Int) ≤ (x : Int) := by omega
          have x1 : (x : Int) < 4294967296 := by omega
          go_wp2_with (first | (at_builtin; refine wpList_append_eq rfl _ _ 22 rfl _ _ v4 w4 rfl rfl r4 ?_))
          go_roundw
          case rel => exact ⟨k + 1, by omega, by go_num, O4.out, B4.out, S4.out⟩
          case measure => simp [intOf]; omega
        · have e0 : decide ((k : Int) < 4) = false := by rw [decide_eq_false_iff_not]; omega
          obtain rfl : k = 4 := by omega
          have HO := Lib.hid ho
          have HB := Lib.hid hb
          have HS := Lib.hid hs
          clear ho hb hs
          go_wp2_with fail
          go_roundw
          case rel => exact ⟨m + 1, by omega, by go_num, HO.out, HB.out, HS.out⟩
          case measure => simp [intOf]; omega
    · have e0 : decide ((m : Int) < (n : Int)) = false := by rw [decide_eq_false_iff_not]; omega
      obtain rfl : m = n := by omega
      go_wp2_with fail
      go_ret
      exact ⟨⟨_, rfl, HO.out⟩, HB.out⟩
end Go.Proofs.YtenlbjnoiamfiaaDoor.Hs
