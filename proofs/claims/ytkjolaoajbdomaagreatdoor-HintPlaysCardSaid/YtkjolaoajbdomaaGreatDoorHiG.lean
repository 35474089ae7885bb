/-
  The calls whose answers the document fixes; what the row says of the variables that it lists.
  Conditions: the tables and the errors that the calls read lie as the program's text lays them.
-/
import Derived.Test.YtkjolaoajbdomaaGreatDoorHiF
import Derived.Deep.RegionHeld3
namespace Go.Proofs.YtkjolaoajbdomaaGreatDoor.Hi
open Go.ChangeShapes Go.WideShapes Go.ChangeAt Go.RowKit Go.Joins By Ct Dk
set_option linter.unusedVariables false
set_option linter.unusedSimpArgs false

theorem itoa5 : Lib.itoa (-12345) = [45, 49, 50, 51, 52, 53] := by
  rw [show (-12345 : Int) = -((12345 : Nat) : Int) from rfl]
  unfold Lib.itoa
  rw [if_pos (by decide), show (-((12345 : Nat) : Int)).natAbs = 12345 from rfl]
  simp [Lib.decDigits]
theorem txt5 : (⟨(txt (-12345)).toArray⟩ : ByteArray).size = 22 ∧ (⟨(txt (-12345)).toArray⟩ : ByteArray).extract 0 13 = ⟨#[100, 114, 105, 102, 116, 32, 45, 49, 50, 51, 52, 53, 32]⟩ := by
  refine ⟨by rw [ls_size, txt_len, itoa5]; rfl, ?_⟩
  apply ByteArray.ext
  rw [ByteArray.data_extract]
  apply Array.toList_inj.1
  unfold txt hd
  rw [itoa5]
  simp [drf]
set_option maxRecDepth 100000 in
set_option maxHeartbeats 8000000 in
theorem awake12_c (w : World) (G : Gt w) : Calls Tryz.prog 4 #[] w fun e w' => e = .returned (.bool true) ∧ Below w.heap.size w w' := by
  have L0 : load new = (0, 5) := load_has has_new rfl
  obtain ⟨S0, so⟩ := save_free (s := new) (n := 5) (by decide) rfl (by decide)
  obtain ⟨F', O', h1, h2⟩ := save_has (s := new) (n := 5) (by decide) rfl has_new
  have hF : F' = some 5 := by
    rcases h2 with ⟨_, q⟩ | ⟨q, _⟩
    · exact q
    · rw [S0] at q; cases q
  subst hF
  have L1 : load (saveS new 5) = (5, 0) := load_has h1 so
  obtain ⟨T1, T2⟩ := txt5
  have TX := Lib.hid (fun w' (q : Below w.heap.size w w') => Text_c (n := -12345) w' (G.below q) (by decide))
  generalize (⟨(txt (-12345)).toArray⟩ : ByteArray) = tx at *
  have HG := Lib.hid G
  clear G h1 h2 so
  go_enter Tryz.func4, Tryz.ntmps4
  go_wp2_with fail
  refine (New_d w w (brefl w)).mono ?_
  rintro e w1 ⟨d, rfl, hd1, hb1⟩
  have W1 := Lib.hid (Load_d HG.out hd1 hb1)
  rw [L0] at W1
  clear hd1 hb1
  go_wp2_with fail
  refine W1.out.mono ?_
  rintro e w2 ⟨rfl, hd2, hb2⟩
  have W2 := Lib.hid (Save_d (n := 5) HG.out hd2 hb2 (by decide))
  rw [S0] at W2
  clear hd2 hb2 W1
  go_wp2_with fail
  refine W2.out.mono ?_
  rintro e w3 ⟨rfl, hd3, hb3⟩
  have W3 := Lib.hid (Load_d HG.out hd3 hb3)
  rw [L1] at W3
  clear hd3 hb3 W2
  go_wp2_with fail
  refine W3.out.mono ?_
  rintro e w4 ⟨rfl, hd4, hb4⟩
  have B4 := Lib.hid hb4
  clear hd4 hb4 W3
  have W4 := Lib.hid (TX.out w4 B4.out)
  go_wp2_with fail
  refine W4.out.mono ?_
  rintro e w5 ⟨rfl, hb5⟩
  have B5 := Lib.hid (bstep B4.out hb5)
  clear hb5 W4 B4 TX
  have t13 : (13 : Int) ≤ (tx.size : Int) := by omega
  have t22 : (tx.size : Int) = 22 := by omega
  go_wp2_with fail
  go_ret
  exact ⟨rfl, B5.out⟩
end Go.Proofs.YtkjolaoajbdomaaGreatDoor.Hi
