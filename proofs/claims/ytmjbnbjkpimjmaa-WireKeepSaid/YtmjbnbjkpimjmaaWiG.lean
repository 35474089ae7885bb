/-
  The contract of slices.Backward's iterator at fields.
  Conditions: none.
-/
import Derived.Test.YtmjbnbjkpimjmaaWiE
import Derived.RangeFuncNested
import Derived.RangeFuncBound
import Derived.RangeFuncCalls
import Derived.RangeFuncLeaves
import Derived.Shelf.Abstract
import Derived.Shelf.RegionOpen
import Derived.WalkKit
import Derived.OwnWalkIn
import Derived.TacticsInMore
import Derived.LoopNIn
import Derived.LoopIn
namespace Go.Proofs.Ytmjbnbjkpimjmaa.Wi
open Go.RowKit Go.Shelf Go.ChangeShapes Go.WideShapes Go.ChangeAt Go.Joins By
attribute [local go_sem] Oper.semAt_some
set_option linter.unusedVariables false
set_option linter.unusedSimpArgs false

def dn (m r : Nat) : List Nat := (List.range r).map fun i => m - 1 - i
theorem dn_succ (m r : Nat) : dn m (r + 1) = dn m r ++ [m - 1 - r] := by simp [dn, List.range_succ]
theorem dn_len (m r : Nat) : (dn m r).length = r := by simp [dn]
/-- a round keeps what lay below n₀, and the box B. -/
def Kp (n₀ B : Nat) (t : TypeId) (x y : World) : Prop := Below n₀ x y ∧ ∀ v, Boxed x B t v → Boxed y B t v
theorem Kp.tr {n₀ B : Nat} {t : TypeId} {x y z : World} (h : Kp n₀ B t x y) (k : Kp n₀ B t y z) : Kp n₀ B t x z := ⟨h.1.trans k.1, fun v e => k.2 v (h.2 v e)⟩
theorem Kp.rf (n₀ B : Nat) (t : TypeId) (x : World) : Kp n₀ B t x x := ⟨Below.refl _ _, fun _ e => e⟩

set_option maxRecDepth 100000 in
set_option maxHeartbeats 4000000 in
theorem back1 (n : Nat) (hn : 1 ≤ n) (l B n₀ m cap : Nat) (a : Option Addr) (X : Nat → Int) (V : Nat → Value) (hm : m ≤ 9223372036854775807) (J Jx : List Nat → World → Prop)
    (hY : ∀ (pre : List Nat) (x : Nat) W, J pre W → pre.length < m → YieldAt Fence.wide (n - 1) Try.prog l #[.int .i64 (x : Int), .agg #[.int .i64 (X x), V x]] W fun e W' =>
      (e = .returned (.bool true) ∧ J (pre ++ [x]) W' ∧ Kp n₀ B 26 W W') ∨ (e = .returned (.bool false) ∧ Jx (pre ++ [x]) W'))
    (W : World) (hB : Boxed W B 26 (.slice a m cap)) (hc : 0 < m → ∃ b off, a = some ⟨b, off, none⟩ ∧ b < n₀ ∧ ∀ j, j < m → FAt W b (off + j * 2) (X j) (V j)) (h0 : J [] W) :
    CallsIn Fence.wide n Try.prog 42 #[.func (.yield l) #[] #[], .pointer (some ⟨B, 0, none⟩)] W fun e W' => (∃ v, e = .returned v) ∧
      ((∃ ys, ys = dn m m ∧ J ys W') ∨ (∃ pre, (∃ k, k ≤ m ∧ pre = dn m k) ∧ Jx pre W')) := by
  have HB := hB.cell
  have hm0 : (0 : Int) ≤ (m : Int) := by omega
  have hm1 : (m : Int) ≤ 9223372036854775807 := by omega
  refine callsIn_of_wp Try.func42 rfl trivial ?_ rfl
  simp only [Try.ntmps42, List.size_toArray, List.length_cons, List.length_nil, Nat.reduceAdd, Nat.reduceSub, Array.replicate_succ, Array.replicate_zero, List.push_toArray, List.append_toArray, List.nil_append, List.cons_append]
  gi_wp2
  clear HB
  gi_loopw [3] (fun i wr => ∃ k : Nat, k ≤ m ∧ i = .int .i64 ((k : Int) - 1) ∧ J (dn m (m - k)) wr ∧ Kp n₀ B 26 W wr) (fun i _ => (intOf i + 1).toNat)
  case atStart => exact ⟨m, Nat.le_refl _, rfl, by rw [Nat.sub_self]; exact h0, Kp.rf _ _ _ _⟩
  case round =>
    obtain ⟨k, hk, rfl, hJs, hK⟩ := hrel
    have HB := (hK.2 _ hB).cell
    cases k with
    | succ d =>
      obtain ⟨b, off, rfl, hb, hat⟩ := hc (by omega)
      obtain ⟨g0, g1⟩ := hat d (by omega)
      have g0 := (hK.1.cell (p := ⟨b, off + d * 2, none⟩) hb).trans g0
      have g1 := (hK.1.cell (p := ⟨b, off + d * 2 + 1, none⟩) hb).trans g1
      have hdm : (d : Int) < (m : Int) := by omega
      rw [show ((d + 1 : Nat) : Int) - 1 = (d : Int) by omega]
      obtain ⟨fn, tmps, assign, body, hy, hR⟩ := hY _ d wr hJs (by rw [dn_len]; omega)
      gi_wp2
      refine hR.mono ?_
      rintro e W3 (⟨rfl, hJ3, hk3⟩ | ⟨rfl, hJx3⟩)
      · gi_wp2
        go_roundw
        case rel => exact ⟨d, by omega, by simp, by rw [show m - d = (m - (d + 1)) + 1 by omega, dn_succ, show m - 1 - (m - (d + 1)) = d by omega]; exact hJ3, hK.tr hk3⟩
        case measure => simp [intOf]
      · gi_wp2
        refine bodyPost_ret (results_none rfl _ _ _) rfl ?_
        exact ⟨⟨_, rfl⟩, .inr ⟨_, ⟨m - d, by omega, by rw [show m - d = (m - (d + 1)) + 1 by omega, dn_succ, show m - 1 - (m - (d + 1)) = d by omega]⟩, hJx3⟩⟩
    | zero =>
      gi_wp2
      go_end0
      exact ⟨⟨_, rfl⟩, .inl ⟨_, rfl, hJs⟩⟩

set_option maxHeartbeats 1000000 in
theorem backward_in (n : Nat) (a : Option Addr) (len cap : Nat) (w : World) :
    CallsIn Fence.wide n Try.prog 36 #[.slice a len cap] w fun e w' => e = .returned (.func (.func 42) #[] #[.pointer (some ⟨w.heap.size, 0, none⟩)]) ∧ w' = w.alloc (.cells #[.slice a len cap] 26) := by
  refine callsIn_of_wp Try.func36 rfl trivial ?_ rfl
  simp only [Try.ntmps36, List.size_toArray, List.length_cons, List.length_nil, Nat.reduceAdd, Nat.reduceSub, Array.replicate_succ, Array.replicate_zero, List.push_toArray, List.append_toArray, List.nil_append, List.cons_append]
  gi_wp2
  go_ret
  exact ⟨rfl, rfl⟩
end Go.Proofs.Ytmjbnbjkpimjmaa.Wi
