/-
  A slice of ints that comes in; into, with its answer ahead of the world.
  Conditions: none.
-/
import Derived.Test.YtkjolaoajbdomaaGreatDoorHiH
import Derived.ChangeSlices
namespace Go.Proofs.YtkjolaoajbdomaaGreatDoor.Hi
open Go.ChangeShapes Go.WideShapes Go.ChangeAt Go.RowKit Go.Joins By Ct Dk
set_option linter.unusedVariables false
set_option linter.unusedSimpArgs false

theorem into_f (n k : Int) (h1 : -9223372036854775808 ≤ n) (h2 : n ≤ 9223372036854775807) (h3 : 0 < k) (h4 : k ≤ 4611686018427387904) : ∃ r : Nat, (r : Int) < k ∧ ∀ w, Calls Tryz.prog 7 #[.int .i64 n, .int .i64 k] w fun e w' => e = .returned (.int .i64 r) ∧ w' = w := by
  have a1 := Int.tmod_lt_of_pos n h3
  have a2 : -k < n.tmod k := by
    have := Int.lt_tmod_of_pos n h3
    omega
  obtain ⟨t, ht⟩ : ∃ t, n.tmod k = t := ⟨_, rfl⟩
  have b0 : 0 ≤ t + k := by omega
  have b1 := Int.tmod_nonneg k b0
  have b2 := Int.tmod_lt_of_pos (t + k) h3
  obtain ⟨r, hr⟩ : ∃ r : Nat, (r : Int) = (t + k).tmod k := ⟨((t + k).tmod k).toNat, by omega⟩
  have R : Hid ((r : Int) < k) := Lib.hid (by omega)
  rw [ht] at a1 a2
  have W1 : IntKind.i64.wrap t = t := wrap_in (by omega) (by omega)
  have W2 : IntKind.i64.wrap (t + k) = t + k := wrap_in (by omega) (by omega)
  have W3 : IntKind.i64.wrap ((t + k).tmod k) = (r : Int) := by rw [← hr]; exact wrap_in (by omega) (by omega)
  have HR : Hid ((r : Int) = (t + k) % k) := Lib.hid (by rw [hr, Int.tmod_eq_emod_of_nonneg b0])
  have kz : ¬ k = 0 := by omega
  clear hr b0 b1 b2
  refine ⟨r, R.out, fun w => ?_⟩
  go_enter Tryz.func7, Tryz.ntmps7
  go_wp2_with fail
  go_ret
  exact ⟨by rw [HR.out]; rfl, rfl⟩
end Go.Proofs.YtkjolaoajbdomaaGreatDoor.Hi
