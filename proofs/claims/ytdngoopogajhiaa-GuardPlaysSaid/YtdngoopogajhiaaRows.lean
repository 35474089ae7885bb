/-
  No cell of these rows narrows 'for every input' (looked for: loops, veiled, ifaces, maps, wideKeys, modest, calm, conditions, laid).
  DERIVED. THE GIVEN ROWS OF THIS SEAT. 4 by the template 'for every input the law returns true; each argument reads behind the call as it read before'; 0 by the template 'total and deterministic' (their statements: YtdngoopogajhiaaTotals.lean).
  GIVEN WITH THE SEED: the statements are not yours to turn. If you find one false, say at which input.
  Laid BY PROGRAM, IN A SANDBOX (cutbox-rows.mjs): the forced cells as the released guide's own fill.sh prints them over the translation e1b084d731f78aec… (all of the seat's roots in one cut). By AI agents, Wed Nov 11 2026. No macro, syntax, notation, axiom, sorry.
-/
import Derived.Test.YtdngoopogajhiaaChecked
import GoSem.Claim
import GoSem.ClaimJoined
import GoSem.ClaimMapViews
import Derived.JoinedTies
import Derived.KernelRfl
namespace Go.Proofs.Ytdngoopogajhiaa
/- THE CELL 'sum', in the pinned program and in every row, IS THE sha256 OF THE DUMP (.gsa) THAT YtdngoopogajhiaaProg.lean LOADS. Nothing in Lean hashes anything: it is a label: what it is worth is what the hold of that sum in a sandbox is worth. -/
noncomputable def Try.pinned : Pinned := { name := "ytdngoopogajhiaa", sum := "e1b084d731f78aec049e5fe2b385aa41881661e7ecf28c5382579ed06ffb437c", checked := Try.checked }
namespace Rows
def none {H : Type} : Left H := { results := [], args := [] }

/-- 'sundiallaw18.GuardPlays': WHATEVER THE INPUT: true; the input reads as it did. -/
def guardPlaysSpec : ChangeSpec := { name := "guardPlays", fn := fun _ => fun
  | [d1, d2] => { results := [.lit (.bool true)], args := [d1, d2] }
  | _ => none }
def guardPlaysRow : OpenClaim := { program := "ytdngoopogajhiaa", sum := "e1b084d731f78aec049e5fe2b385aa41881661e7ecf28c5382579ed06ffb437c", func := "sundial/sundiallaw18.GuardPlays", spec := "guardPlays", unfollowed := true, recurses := true, apart := false }
def GuardPlaysSaid : Prop := guardPlaysRow.holds Try.pinned (OpenSpec.ofChange guardPlaysSpec)

/-- ITS FALSE NEIGHBOUR: 'it returns false'. Refute it at one input. -/
def guardPlaysWrong : ChangeSpec := { name := "guardPlays", fn := fun _ => fun
  | [d1, d2] => { results := [.lit (.bool false)], args := [d1, d2] }
  | _ => none }
def GuardPlaysWrongFalsely : Prop := guardPlaysRow.holds Try.pinned (OpenSpec.ofChange guardPlaysWrong)

/-- 'sundiallaw18.GuardTable': WHATEVER THE INPUT: true; the input reads as it did. -/
def guardTableSpec : ChangeSpec := { name := "guardTable", fn := fun _ => fun
  | [d] => { results := [.lit (.bool true)], args := [d] }
  | _ => none }
def guardTableRow : OpenClaim := { program := "ytdngoopogajhiaa", sum := "e1b084d731f78aec049e5fe2b385aa41881661e7ecf28c5382579ed06ffb437c", func := "sundial/sundiallaw18.GuardTable", spec := "guardTable", unfollowed := true, recurses := true, apart := false }
def GuardTableSaid : Prop := guardTableRow.holds Try.pinned (OpenSpec.ofChange guardTableSpec)

/-- ITS FALSE NEIGHBOUR: 'it returns false'. Refute it at one input. -/
def guardTableWrong : ChangeSpec := { name := "guardTable", fn := fun _ => fun
  | [d] => { results := [.lit (.bool false)], args := [d] }
  | _ => none }
def GuardTableWrongFalsely : Prop := guardTableRow.holds Try.pinned (OpenSpec.ofChange guardTableWrong)

/-- 'sundiallaw18.GuardRate': WHATEVER THE INPUT: true; the input reads as it did. -/
def guardRateSpec : ChangeSpec := { name := "guardRate", fn := fun _ => fun
  | [d1, d2, d3] => { results := [.lit (.bool true)], args := [d1, d2, d3] }
  | _ => none }
def guardRateRow : OpenClaim := { program := "ytdngoopogajhiaa", sum := "e1b084d731f78aec049e5fe2b385aa41881661e7ecf28c5382579ed06ffb437c", func := "sundial/sundiallaw18.GuardRate", spec := "guardRate", unfollowed := true, recurses := true, apart := false }
def GuardRateSaid : Prop := guardRateRow.holds Try.pinned (OpenSpec.ofChange guardRateSpec)

/-- ITS FALSE NEIGHBOUR: 'it returns false'. Refute it at one input. -/
def guardRateWrong : ChangeSpec := { name := "guardRate", fn := fun _ => fun
  | [d1, d2, d3] => { results := [.lit (.bool false)], args := [d1, d2, d3] }
  | _ => none }
def GuardRateWrongFalsely : Prop := guardRateRow.holds Try.pinned (OpenSpec.ofChange guardRateWrong)

/-- 'sundiallaw18.GuardNil': WHATEVER THE INPUT: true; the input reads as it did. -/
def guardNilSpec : ChangeSpec := { name := "guardNil", fn := fun _ => fun
  | [d1, d2, d3] => { results := [.lit (.bool true)], args := [d1, d2, d3] }
  | _ => none }
def guardNilRow : OpenClaim := { program := "ytdngoopogajhiaa", sum := "e1b084d731f78aec049e5fe2b385aa41881661e7ecf28c5382579ed06ffb437c", func := "sundial/sundiallaw18.GuardNil", spec := "guardNil", unfollowed := true, recurses := true, apart := false }
def GuardNilSaid : Prop := guardNilRow.holds Try.pinned (OpenSpec.ofChange guardNilSpec)

/-- ITS FALSE NEIGHBOUR: 'it returns false'. Refute it at one input. -/
def guardNilWrong : ChangeSpec := { name := "guardNil", fn := fun _ => fun
  | [d1, d2, d3] => { results := [.lit (.bool false)], args := [d1, d2, d3] }
  | _ => none }
def GuardNilWrongFalsely : Prop := guardNilRow.holds Try.pinned (OpenSpec.ofChange guardNilWrong)

/- THE SECOND FORM. 'bulk': how many values and letters a reading holds, each counted each time it is reached (what is shared counts as often as it is met; a slice's spare places count too). A statement '..UptoSaid' is the law's where the arguments, and the package variables that the reading takes, are together of bulk at most 1048576: NARROWER than '..Said'. Prove '..Said' where nothing that the law and all that it calls make is longer than what came in: it says more and counts as full. Else prove '..UptoSaid'. A law counts once. -/
mutual
def uptoBulk {H : Type} : DataW H → Nat
  | .lit (.string bytes) => bytes.length + 1
  | .lit _ => 1
  | .nil => 1
  | .ptr d => uptoBulk d + 1
  | .slice elems spare => uptoBulkAll elems + uptoBulkAll spare + 1
  | .agg parts => uptoBulkAll parts + 1
  | .iface _ d => uptoBulk d + 1
  | .map entries => uptoBulkEntries entries + 1
  | .held _ => 1
def uptoBulkAll {H : Type} : List (DataW H) → Nat
  | [] => 0
  | d :: r => uptoBulk d + uptoBulkAll r
def uptoBulkEntries {H : Type} : List (Lit × DataW H) → Nat
  | [] => 0
  | x :: r => uptoBulkEntry x + uptoBulkEntries r
def uptoBulkEntry {H : Type} : Lit × DataW H → Nat
  | (.string bytes, d) => bytes.length + uptoBulk d + 1
  | (_, d) => uptoBulk d + 1
 end
def uptoSmall : (H : Type) → List (DataW H) → Bool := fun _ ds => decide (uptoBulkAll ds ≤ 1048576)
def OpenSpec.upto (s : _root_.Go.ChangeSpec) : _root_.Go.OpenSpec := { _root_.Go.OpenSpec.ofChange s with cond := some uptoSmall }

/-- 'sundiallaw18.GuardPlays', WHERE WHAT IT READS IS OF BULK AT MOST 1048576: true; the input reads as it did. -/
def guardPlaysUptoRow : OpenClaim := { program := "ytdngoopogajhiaa", sum := "e1b084d731f78aec049e5fe2b385aa41881661e7ecf28c5382579ed06ffb437c", func := "sundial/sundiallaw18.GuardPlays", spec := "guardPlays", unfollowed := true, recurses := true, apart := false, narrowed := true }
def GuardPlaysUptoSaid : Prop := guardPlaysUptoRow.holds Try.pinned (OpenSpec.upto guardPlaysSpec)

/-- 'sundiallaw18.GuardTable', WHERE WHAT IT READS IS OF BULK AT MOST 1048576: true; the input reads as it did. -/
def guardTableUptoRow : OpenClaim := { program := "ytdngoopogajhiaa", sum := "e1b084d731f78aec049e5fe2b385aa41881661e7ecf28c5382579ed06ffb437c", func := "sundial/sundiallaw18.GuardTable", spec := "guardTable", unfollowed := true, recurses := true, apart := false, narrowed := true }
def GuardTableUptoSaid : Prop := guardTableUptoRow.holds Try.pinned (OpenSpec.upto guardTableSpec)

/-- 'sundiallaw18.GuardRate', WHERE WHAT IT READS IS OF BULK AT MOST 1048576: true; the input reads as it did. -/
def guardRateUptoRow : OpenClaim := { program := "ytdngoopogajhiaa", sum := "e1b084d731f78aec049e5fe2b385aa41881661e7ecf28c5382579ed06ffb437c", func := "sundial/sundiallaw18.GuardRate", spec := "guardRate", unfollowed := true, recurses := true, apart := false, narrowed := true }
def GuardRateUptoSaid : Prop := guardRateUptoRow.holds Try.pinned (OpenSpec.upto guardRateSpec)

/-- 'sundiallaw18.GuardNil', WHERE WHAT IT READS IS OF BULK AT MOST 1048576: true; the input reads as it did. -/
def guardNilUptoRow : OpenClaim := { program := "ytdngoopogajhiaa", sum := "e1b084d731f78aec049e5fe2b385aa41881661e7ecf28c5382579ed06ffb437c", func := "sundial/sundiallaw18.GuardNil", spec := "guardNil", unfollowed := true, recurses := true, apart := false, narrowed := true }
def GuardNilUptoSaid : Prop := guardNilUptoRow.holds Try.pinned (OpenSpec.upto guardNilSpec)

end Rows
end Go.Proofs.Ytdngoopogajhiaa
