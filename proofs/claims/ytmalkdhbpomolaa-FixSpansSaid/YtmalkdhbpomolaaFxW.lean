/-
  The contract of sundiallaw01.awake: it returns true, and nothing that was there changes.
  Conditions: none.
-/
import Derived.Test.YtmalkdhbpomolaaFxS
namespace Go.Proofs.Ytmalkdhbpomolaa.Fx
open Go.RowKit

theorem prt_awake : prt (-7) 1 2 false = -4 := by decide +kernel
theorem unf_awake : unfT 4097 0 = 1 := by decide +kernel
theorem hi_awake : unfHi 4097 1 = 2 := by decide +kernel
theorem short_awake : shortF 17 = 2 := by decide +kernel

set_option maxRecDepth 100000 in
set_option maxHeartbeats 1000000 in
theorem awake_c (w : World) : Calls Try.prog 9 #[] w fun e w' => e = .returned (.bool true) ∧ Below w.heap.size w w' := by
  go_enter Try.func9, Try.ntmps9
  go_wp2_with fail
  refine (Part_ok _ _ _ _ _ (by unfold okP; omega)).mono ?_
  rintro e w1 ⟨rfl, n, rfl⟩
  rw [prt_awake]
  go_wp2_with fail
  refine (Unfold_ok _ _ _ (by omega) (by omega) (by omega) (by omega)).mono ?_
  rintro e w1 ⟨rfl, hb⟩
  rw [unf_awake, hi_awake]
  go_wp2_with fail
  refine (Short_ok _ _ (by omega) (by omega)).mono ?_
  rintro e w' ⟨rfl, rfl⟩
  rw [short_awake]
  go_wp2_with fail
  refine (Check_ok _ _ _ (by unfold okS; omega)).mono ?_
  rintro e w2 ⟨rfl, hb2⟩
  go_wp2_with fail
  go_ret
  exact ⟨rfl, bstep (balloc (bstep (bdrew (brefl w) n) hb) _) hb2⟩
end Go.Proofs.Ytmalkdhbpomolaa.Fx
