/-
  The contract of sundiallaw02.awake: it returns true, and nothing that was there changes.
  Conditions: none.
-/
import Derived.Test.YthdkkcibomigcaaOscF
namespace Go.Proofs.Ythdkkcibomigcaa.Fx
open Go.RowKit

/-- awake's way. -/
def awX (_ : Nat) : Int := 10
def awY (i : Nat) : Int := if i = 0 then -1000 else 1000

theorem aw_ok : okW 2 awX awY := by
  intro i hi
  have h : i = 0 ∨ i = 1 := by omega
  rcases h with rfl | rfl
  · exact ⟨by unfold rt; decide, by decide⟩
  · exact ⟨by unfold rt; decide, by decide⟩
theorem aw_raw : ml awX awY 10 2 / 1000000 = 9 := by decide +kernel
theorem aw_lo : elLo 1000000 100 = 999899 := by decide +kernel
theorem aw_hi : elHi 1000000 100 = 1000102 := by decide +kernel
theorem aw_shl : shl 10 999899 = 999909 := by decide +kernel
theorem aw_shh : shh 20 1000102 = 1000122 := by decide +kernel

theorem aw_legs (w : World) : Legs (w.alloc (.cells #[.int .i64 10, .int .i64 (-1000), .int .i64 10, .int .i64 1000] 45)) w.heap.size 0 2 awX awY := by
  refine ⟨by simp, fun i hi => ?_⟩
  have h : i = 0 ∨ i = 1 := by omega
  rcases h with rfl | rfl
  · exact ⟨by simp [go_sem, awX], by simp [go_sem, awY]⟩
  · exact ⟨by simp [go_sem, awX], by simp [go_sem, awY]⟩

set_option maxRecDepth 100000 in
set_option maxHeartbeats 1000000 in
theorem awake2_c (w : World) : Calls Try.prog 7 #[] w fun e w' => e = .returned (.bool true) ∧ Below w.heap.size w w' := by
  go_enter Try.func7, Try.ntmps7
  go_wp2_with fail
  refine (Raw_ok w.heap.size 0 2 2 awX awY 10 _ (by omega) (aw_legs w) aw_ok (by omega) (by decide)).mono ?_
  rintro e w1 ⟨rfl, hb1⟩
  rw [aw_raw]
  have HB1 := Lib.hid (bstep (balloc (brefl w) _) hb1)
  clear hb1
  go_wp2_with fail
  refine (Elapsed_ok 1000000 100 _ (by omega) (by omega) (by omega)).mono ?_
  rintro e w2 ⟨rfl, hb2⟩
  rw [aw_lo, aw_hi]
  have HB2 := Lib.hid (bstep HB1.out hb2)
  clear hb2 HB1
  go_wp2_with fail
  refine (Age_ok 10 20 1000000 100 _ (by unfold okS; omega) (by omega) (by omega) (by omega)).mono ?_
  rintro e w3 ⟨rfl, hb3⟩
  rw [aw_lo, aw_hi, aw_shl, aw_shh]
  have HB3 := Lib.hid (bstep HB2.out hb3)
  clear hb3 HB2
  go_wp2_with fail
  go_ret
  exact ⟨rfl, balloc HB3.out _⟩
end Go.Proofs.Ythdkkcibomigcaa.Fx
