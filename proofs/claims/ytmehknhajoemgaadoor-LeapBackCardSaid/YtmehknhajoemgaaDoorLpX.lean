/-
  What LeapBack's row says of the tables that it lists.
  Conditions: none.
-/
import Derived.Test.YtmehknhajoemgaaDoorHsY
import Derived.Test.YtmehknhajoemgaaDoorCvD
namespace Go.Proofs.YtmehknhajoemgaaDoor.Hs
open Go.ChangeShapes Go.WideShapes Go.ChangeAt Go.RowKit Go.Joins
set_option linter.unusedVariables false
set_option linter.unusedSimpArgs false

theorem back_of_laid {W : World} (h : laidMetH Tryd.prog Rows.leapBackRow.laid W) : Gl W ∧ Cv.Tab W := by
  rw [MakeChecks.laidMetH_plain _ _ _ (by kernel_rfl)] at h
  have h3 : laidMet Tryd.prog (("internal/strconv.uint64pow10", Lib.tabData .u64 Lib.pow10Tab) :: [("sundial/hash.md5Table", Rows.laid_sundial_hash_md5Table), ("sundial/hash.md5Turns", Rows.laid_sundial_hash_md5Turns)]) W := laidMet.tail (laidMet.tail h)
  have h1 : laidMet Tryd.prog (("sundial/hash.md5Table", Lib.tabData .u32 (mdKs.map fun (n : Nat) => (n : Int))) :: [("sundial/hash.md5Turns", Rows.laid_sundial_hash_md5Turns)]) W := laidMet.tail h3
  have h2 : laidMet Tryd.prog (("sundial/hash.md5Turns", Rows.laid_sundial_hash_md5Turns) :: []) W := laidMet.tail h1
  have t1 := Lib.tabIs_of_head (n := 64) (g := 1) (t := 136) (e := 94) (by kernel_rfl) (by kernel_rfl) Tryd.underlying136 Tryd.underlying94 (by kernel_rfl) (by kernel_rfl) h1
  refine ⟨⟨fun i hi => ?_, fun i hi => ?_, trivial⟩, Lib.tabIs_of_head (n := 20) (g := 0) (t := 131) (e := 98) (by kernel_rfl) (by kernel_rfl) Tryd.underlying131 Tryd.underlying98 (by kernel_rfl) (by kernel_rfl) h3⟩
  · have c := t1.cell (g := 1) (by kernel_rfl) i (by simpa [mdKs] using hi)
    rw [c]
    simp [mdK, List.getD_eq_getElem?_getD]
    cases mdKs[i]? <;> simp
  · obtain ⟨ps, ⟨g', t', cs, fuel, p, q, hg', ht', hvar, hd, _, _⟩, _⟩ := h2
    obtain rfl := Option.some.inj ((show Tryd.prog.globalNamed "sundial/hash.md5Turns" = some 2 by kernel_rfl).symm.trans hg')
    obtain rfl := Option.some.inj ((show (Tryd.prog.globals[2]?).map (·.type) = some 139 by kernel_rfl).symm.trans ht')
    rw [World.var?_cell hg' hvar i]
    simpa using turns_cells hd i hi
end Go.Proofs.YtmehknhajoemgaaDoor.Hs
