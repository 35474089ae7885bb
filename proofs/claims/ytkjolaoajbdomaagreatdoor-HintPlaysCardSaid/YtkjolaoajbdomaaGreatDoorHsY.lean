/-
  What the laws of layer 4 share: the row's condition gives the tables; the start that meets it; bytes that come in, opened; append, conversion and Hex of them.
  Conditions: none.
-/
import Derived.Test.YtkjolaoajbdomaaGreatDoorRows
import Derived.Test.YtkjolaoajbdomaaGreatDoorHsX
import Derived.ProofKit
import Derived.LaidMore
import Derived.OpenShut
import Derived.Stop.Joined
import Derived.Stop.LaidErr
import Derived.Lib.LaidTab
import Derived.Lib.SmallJoins
import Derived.SizedLaws
namespace Go.Proofs.YtkjolaoajbdomaaGreatDoor.Hs
open Go.ChangeShapes Go.WideShapes Go.ChangeAt Go.RowKit Go.Joins
set_option linter.unusedVariables false
set_option linter.unusedSimpArgs false

theorem laidOut : laidOutB Tryz.prog = true := by kernel_rfl
theorem own : ownKnob Tryz.prog.godebug = none := by kernel_rfl

theorem door_met (os : Os) (args : Array Value) : laidMetH Tryz.prog Rows.hintPlaysRow.laid ((World.doorLaid Tryz.prog 76 os).forCall (fun _ _ => 0) ⟨#[], args, []⟩).memory :=
  laidMetH_of_parts3 (fuel := 8) (laidMet_of_run' 8 (by kernel_rfl) (by kernel_rfl)) (by kernel_rfl) (by kernel_rfl)

theorem cells4 : Tryz.prog.cellsOf 155 = 4 := by kernel_rfl
theorem cells16 : Tryz.prog.cellsOf 156 = 16 := by kernel_rfl
theorem cells1 : Tryz.prog.cellsOf 3 = 1 := by kernel_rfl
/-- the table of rotations, four rows of four. -/
theorem turns_cells {H : Type} {enc : TypeId × Value → H} {w : World} {base : Nat} {sp : Nat → Bool} {held : Bool} {fuel : Nat} {cs : List Value} {p : List MemPlace}
    (h : DataW.trod enc Tryz.prog w base sp held fuel 156 cs = some (Rows.laid_sundial_hash_md5Turns, p)) : ∀ i, i < 16 → cs[i]? = some (.int .i64 ((mdTs.getD i 0 : Nat) : Int)) := by
  cases fuel with
  | zero => simp [DataW.trod] at h
  | succ fuel =>
    simp only [DataW.trod, Tryz.underlying156, cells4, cells16] at h
    split at h
    · rename_i hl
      obtain ⟨xs, hm, hx⟩ := Option.map_eq_some_iff.1 h
      have hxs : xs.map (·.1) = [Lib.tabData .i64 [7, 12, 17, 22], Lib.tabData .i64 [5, 9, 14, 20], Lib.tabData .i64 [4, 11, 16, 23], Lib.tabData .i64 [6, 10, 15, 21]] := by
        have := congrArg Prod.fst hx
        simpa [Rows.laid_sundial_hash_md5Turns, Lib.tabData] using this
      have row : ∀ i, i < 4 → ∀ zs : List Int, [[7, 12, 17, 22], [5, 9, 14, 20], [4, 11, 16, 23], [6, 10, 15, 21]][i]? = some zs → (cs.drop (i * 4)).take 4 = zs.map fun z => Value.int .i64 z := by
        intro i hi zs hz
        obtain ⟨b, hb, hf⟩ := Lib.mapM_at hm i i (by simp [hi])
        have h2 : (xs.map (·.1))[i]? = some b.1 := by simp [hb]
        rw [hxs] at h2
        have h3 : b.1 = Lib.tabData .i64 zs := by
          match i, hi with
          | 0, _ => simp at h2 hz; rw [← h2, ← hz]
          | 1, _ => simp at h2 hz; rw [← h2, ← hz]
          | 2, _ => simp at h2 hz; rw [← h2, ← hz]
          | 3, _ => simp at h2 hz; rw [← h2, ← hz]
        obtain ⟨b1, b2⟩ := b
        simp only at h3
        subst h3
        exact Lib.cells_of_tab (n := 4) Tryz.underlying155 Tryz.underlying3 cells1 cells4 hf
      have r0 := row 0 (by omega) _ rfl
      have r1 := row 1 (by omega) _ rfl
      have r2 := row 2 (by omega) _ rfl
      have r3 := row 3 (by omega) _ rfl
      have get : ∀ q j, j < 4 → ((cs.drop (q * 4)).take 4)[j]? = cs[q * 4 + j]? := by
        intro q j hj
        rw [List.getElem?_take, if_pos hj, List.getElem?_drop]
      intro i hi
      have e := get (i / 4) (i % 4) (by omega)
      rw [show i / 4 * 4 + i % 4 = i from by omega] at e
      rw [← e]
      match i, hi with
      | 0, _ => show ((cs.drop (0 * 4)).take 4)[0]? = _; rw [r0]; rfl
      | 1, _ => show ((cs.drop (0 * 4)).take 4)[1]? = _; rw [r0]; rfl
      | 2, _ => show ((cs.drop (0 * 4)).take 4)[2]? = _; rw [r0]; rfl
      | 3, _ => show ((cs.drop (0 * 4)).take 4)[3]? = _; rw [r0]; rfl
      | 4, _ => show ((cs.drop (1 * 4)).take 4)[0]? = _; rw [r1]; rfl
      | 5, _ => show ((cs.drop (1 * 4)).take 4)[1]? = _; rw [r1]; rfl
      | 6, _ => show ((cs.drop (1 * 4)).take 4)[2]? = _; rw [r1]; rfl
      | 7, _ => show ((cs.drop (1 * 4)).take 4)[3]? = _; rw [r1]; rfl
      | 8, _ => show ((cs.drop (2 * 4)).take 4)[0]? = _; rw [r2]; rfl
      | 9, _ => show ((cs.drop (2 * 4)).take 4)[1]? = _; rw [r2]; rfl
      | 10, _ => show ((cs.drop (2 * 4)).take 4)[2]? = _; rw [r2]; rfl
      | 11, _ => show ((cs.drop (2 * 4)).take 4)[3]? = _; rw [r2]; rfl
      | 12, _ => show ((cs.drop (3 * 4)).take 4)[0]? = _; rw [r3]; rfl
      | 13, _ => show ((cs.drop (3 * 4)).take 4)[1]? = _; rw [r3]; rfl
      | 14, _ => show ((cs.drop (3 * 4)).take 4)[2]? = _; rw [r3]; rfl
      | 15, _ => show ((cs.drop (3 * 4)).take 4)[3]? = _; rw [r3]; rfl
      | _ + 16, h => exact absurd h (by omega)
    · cases h

end Go.Proofs.YtkjolaoajbdomaaGreatDoor.Hs
