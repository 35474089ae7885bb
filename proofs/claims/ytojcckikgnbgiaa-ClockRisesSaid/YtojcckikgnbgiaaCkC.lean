/-
  What the program's clock is to do (a premise of the texts that follow, paid by the program's own text); sundiallaw17.awake.
  Conditions: that premise.
-/
import Derived.Test.YtojcckikgnbgiaaCkB
namespace Go.Proofs.Ytojcckikgnbgiaa.Ck
open Go.RowKit Go.ChangeShapes Go.WideShapes Go.ChangeAt Go.Joins Fl
set_option linter.unusedVariables false
set_option linter.unusedSimpArgs false

/-- K w a X c: at a lies the program's clock, which is c; X: the blocks that are its own. -/
structure PC (K : World → Addr → (Nat → Prop) → Clk → Prop) : Prop where
  keep : ∀ (w w' : World) (a : Addr) (X Y : Nat → Prop) (c : Clk), K w a X c → Tu Y w w' → (∀ i, X i → ¬ Y i) → K w' a X c
  size : ∀ (w : World) (a : Addr) (X : Nat → Prop) (c : Clk), K w a X c → ∀ i, X i → i < w.heap.size
  new : ∀ (w : World) (r b f : Int), newE r b f = 0 → Calls Try.prog 8 #[.int .i64 r, .int .i64 b, .int .i64 f] w fun e w' => (∃ a X, e = .returned (.tuple #[.pointer (some a), .int .i64 0]) ∧ K w' a X (new r b f) ∧ ∀ i, X i → w.heap.size ≤ i) ∧ Below w.heap.size w w'
  bad : ∀ (w : World) (r b f : Int), newE r b f ≠ 0 → Calls Try.prog 8 #[.int .i64 r, .int .i64 b, .int .i64 f] w fun e w' => e = .returned (.tuple #[.pointer none, .int .i64 2]) ∧ Below w.heap.size w w'
  read : ∀ (w : World) (a : Addr) (X : Nat → Prop) (c : Clk) (k : Nat) (r : Int), K w a X c → k ≤ 1000 → In k c → (-9223372036854775808 ≤ r ∧ r ≤ 9223372036854775807) →
    Calls Try.prog 10 #[.pointer (some a), .int .i64 r] w fun e w' => e = rdE c r ∧ Below w.heap.size w w'
  upd : ∀ (w : World) (a : Addr) (X : Nat → Prop) (c : Clk) (k : Nat) (r o : Int), K w a X c → k ≤ 1000 → In k c → (-9223372036854775808 ≤ r ∧ r ≤ 9223372036854775807) → (-9223372036854775808 ≤ o ∧ o ≤ 9223372036854775807) →
    Calls Try.prog 12 #[.pointer (some a), .int .i64 r, .int .i64 o] w fun e w' => (e = udE c r o ∧ ∃ X', K w' a X' (Ck.upd c r o).1 ∧ ∀ i, X' i → X i ∨ w.heap.size ≤ i) ∧ Tu X w w'
  freq : ∀ (w : World) (a : Addr) (X : Nat → Prop) (c : Clk), K w a X c → Calls Try.prog 14 #[.pointer (some a)] w fun e w' => e = .returned (.int .i64 c.freq) ∧ Below w.heap.size w w'
  spik : ∀ (w : World) (a : Addr) (X : Nat → Prop) (c : Clk) (k : Nat), K w a X c → In k c → Calls Try.prog 15 #[.pointer (some a)] w fun e w' => e = .returned (.bool (decide (c.state = 2))) ∧ Below w.heap.size w w'
  nread : ∀ (w : World) (r : Int), Calls Try.prog 10 #[.pointer none, .int .i64 r] w fun e w' => e = .returned (.tuple #[.int .i64 0, .int .i64 1]) ∧ Below w.heap.size w w'
  nupd : ∀ (w : World) (r o : Int), Calls Try.prog 12 #[.pointer none, .int .i64 r, .int .i64 o] w fun e w' => e = .returned (.tuple #[.int .i64 0, .int .i64 1]) ∧ Below w.heap.size w w'
  nfreq : ∀ (w : World), Calls Try.prog 14 #[.pointer none] w fun e w' => e = .returned (.int .i64 0) ∧ Below w.heap.size w w'
  nspik : ∀ (w : World), Calls Try.prog 15 #[.pointer none] w fun e w' => e = .returned (.bool false) ∧ Below w.heap.size w w'
theorem new_in {r b f : Int} (h : newE r b f = 0) : In 0 (new r b f) := by
  unfold newE at h
  split at h
  · rename_i q
    unfold In new
    refine ⟨⟨?_, ?_⟩, ⟨?_, ?_⟩, ⟨?_, ?_⟩, ⟨?_, ?_⟩, ⟨?_, ?_⟩, ?_, ?_, ?_, ?_⟩ <;> simp <;> omega
  · cases h
set_option maxRecDepth 100000 in
set_option maxHeartbeats 2000000 in
theorem awake17_c {K : World → Addr → (Nat → Prop) → Clk → Prop} (pc : PC K) (w : World) : Calls Try.prog 7 #[] w fun e w' => e = .returned (.bool true) ∧ Below w.heap.size w w' := by
  have e0 : newE 0 1000 0 = 0 := by decide
  have PN := Lib.hid (pc.new w 0 1000 0 e0)
  have PU := Lib.hid (fun w a X (h : K w a X (new 0 1000 0)) => pc.upd w a X (new 0 1000 0) 0 500 2000000 h (by decide) (new_in e0) (by decide) (by decide))
  have PR := Lib.hid (fun w a X (h : K w a X (Ck.upd (new 0 1000 0) 500 2000000).1) => pc.read w a X _ 1 1500 h (by decide) ((new_in e0).upd (by decide) 500 2000000) (by decide))
  rw [show udE (new 0 1000 0) 500 2000000 = .returned (.tuple #[.int .i64 1, .int .i64 0]) by rfl] at PU
  rw [show rdE (Ck.upd (new 0 1000 0) 500 2000000).1 1500 = .returned (.tuple #[.int .i64 2002500, .int .i64 0]) by rfl] at PR
  generalize (Ck.upd (new 0 1000 0) 500 2000000).1 = c1 at *
  generalize new 0 1000 0 = c0 at *
  clear pc e0
  go_enter Try.func7, Try.ntmps7
  go_wp2_with fail
  refine PN.out.mono ?_
  rintro e w1 ⟨⟨a, X, rfl, hk, hx⟩, hb⟩
  have B1 := Lib.hid hb
  have K1 := Lib.hid hk
  have X1 := Lib.hid hx
  clear hb hk hx PN
  go_wp2_with fail
  refine (PU.out _ _ _ K1.out).mono ?_
  rintro e w2 ⟨⟨rfl, X', hk, hx⟩, ht⟩
  have B2 : Hid (Below w.heap.size w w2) := Lib.hid (B1.out.trans (ht.below X1.out B1.out.size))
  have K2 := Lib.hid hk
  clear hk hx ht B1 K1 X1 PU
  go_wp2_with fail
  refine (PR.out _ _ _ K2.out).mono ?_
  rintro e w3 ⟨rfl, hb⟩
  have B3 := Lib.hid (bstep B2.out hb)
  clear hb B2 PR K2
  go_wp2_with fail
  go_ret
  exact ⟨rfl, B3.out⟩
end Go.Proofs.Ytojcckikgnbgiaa.Ck
