/-
  The digests of "abc", reckoned.
  Conditions: none.
-/
import Derived.Test.YtenlbjnoiamfiaaDoorHsV
namespace Go.Proofs.YtenlbjnoiamfiaaDoor.Hs
open Go.RowKit
set_option linter.unusedVariables false
set_option linter.unusedSimpArgs false

def abc (i : Nat) : Nat := [97, 98, 99].getD i 0
theorem abc_lt (i : Nat) : abc i < 256 := by
  unfold abc
  rw [List.getD_eq_getElem?_getD]
  cases e : [97, 98, 99][i]? with
  | none => simp
  | some x =>
    have := List.mem_of_getElem? e
    simp at this
    rcases this with rfl | rfl | rfl <;> simp
set_option maxRecDepth 100000 in
theorem md5_abc : hxL (fun i => (md5 abc 3).getD i 0) 16 = [57, 48, 48, 49, 53, 48, 57, 56, 51, 99, 100, 50, 52, 102, 98, 48, 100, 54, 57, 54, 51, 102, 55, 100, 50, 56, 101, 49, 55, 102, 55, 50] := by decide +kernel
set_option maxRecDepth 100000 in
theorem sha_abc : hxL (fun i => (sha256 abc 3).getD i 0) 32 = [98, 97, 55, 56, 49, 54, 98, 102, 56, 102, 48, 49, 99, 102, 101, 97, 52, 49, 52, 49, 52, 48, 100, 101, 53, 100, 97, 101, 50, 50, 50, 51, 98, 48, 48, 51, 54, 49, 97, 51, 57, 54, 49, 55, 55, 97, 57, 99, 98, 52, 49, 48, 102, 102, 54, 49, 102, 50, 48, 48, 49, 53, 97, 100] := by decide +kernel
end Go.Proofs.YtenlbjnoiamfiaaDoor.Hs
