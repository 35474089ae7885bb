/-
  No cell of these rows narrows 'for every input' (looked for: loops, veiled, ifaces, maps, wideKeys, modest, calm, conditions, laid).
  DERIVED. THE GIVEN ROWS OF THIS SEAT. 5 by the template 'for every input the law returns true; each argument reads behind the call as it read before'; 0 by the template 'total and deterministic' (their statements: YtfefkakdhaecpaaTotals.lean).
  GIVEN WITH THE SEED: the statements are not yours to turn. If you find one false, say at which input.
  Laid BY PROGRAM, IN A SANDBOX (cutbox-rows.mjs): the forced cells as the released guide's own fill.sh prints them over the translation b830c8c2d9cb9a8c… (all of the seat's roots in one cut). By AI agents, Wed Nov 11 2026. No macro, syntax, notation, axiom, sorry.
-/
import Derived.Test.YtfefkakdhaecpaaChecked
import GoSem.Claim
import GoSem.ClaimJoined
import GoSem.ClaimMapViews
import Derived.JoinedTies
import Derived.KernelRfl
namespace Go.Proofs.Ytfefkakdhaecpaa
/- THE CELL 'sum', in the pinned program and in every row, IS THE sha256 OF THE DUMP (.gsa) THAT YtfefkakdhaecpaaProg.lean LOADS. Nothing in Lean hashes anything: it is a label: what it is worth is what the hold of that sum in a sandbox is worth. -/
noncomputable def Try.pinned : Pinned := { name := "ytfefkakdhaecpaa", sum := "b830c8c2d9cb9a8c20b4f2004e68fd1d779288ec0feaf1aa89065e36623c736b", checked := Try.checked }
namespace Rows
def none {H : Type} : Left H := { results := [], args := [] }

/-- 'sundiallaw05.AesBlocks': WHATEVER THE INPUT: true; the input reads as it did. -/
def aesBlocksSpec : ChangeSpec := { name := "aesBlocks", fn := fun _ => fun
  | [d1, d2] => { results := [.lit (.bool true)], args := [d1, d2] }
  | _ => none }
def aesBlocksRow : OpenClaim := { program := "ytfefkakdhaecpaa", sum := "b830c8c2d9cb9a8c20b4f2004e68fd1d779288ec0feaf1aa89065e36623c736b", func := "sundial/sundiallaw05.AesBlocks", spec := "aesBlocks", apart := false }
def AesBlocksSaid : Prop := aesBlocksRow.holds Try.pinned (OpenSpec.ofChange aesBlocksSpec)

/-- ITS FALSE NEIGHBOUR: 'it returns false'. Refute it at one input. -/
def aesBlocksWrong : ChangeSpec := { name := "aesBlocks", fn := fun _ => fun
  | [d1, d2] => { results := [.lit (.bool false)], args := [d1, d2] }
  | _ => none }
def AesBlocksWrongFalsely : Prop := aesBlocksRow.holds Try.pinned (OpenSpec.ofChange aesBlocksWrong)

/-- 'sundiallaw05.AesTags': WHATEVER THE INPUT: true; the input reads as it did. -/
def aesTagsSpec : ChangeSpec := { name := "aesTags", fn := fun _ => fun
  | [d1, d2] => { results := [.lit (.bool true)], args := [d1, d2] }
  | _ => none }
def aesTagsRow : OpenClaim := { program := "ytfefkakdhaecpaa", sum := "b830c8c2d9cb9a8c20b4f2004e68fd1d779288ec0feaf1aa89065e36623c736b", func := "sundial/sundiallaw05.AesTags", spec := "aesTags", apart := false }
def AesTagsSaid : Prop := aesTagsRow.holds Try.pinned (OpenSpec.ofChange aesTagsSpec)

/-- ITS FALSE NEIGHBOUR: 'it returns false'. Refute it at one input. -/
def aesTagsWrong : ChangeSpec := { name := "aesTags", fn := fun _ => fun
  | [d1, d2] => { results := [.lit (.bool false)], args := [d1, d2] }
  | _ => none }
def AesTagsWrongFalsely : Prop := aesTagsRow.holds Try.pinned (OpenSpec.ofChange aesTagsWrong)

/-- 'sundiallaw05.AesApart': WHATEVER THE INPUT: true; the input reads as it did. -/
def aesApartSpec : ChangeSpec := { name := "aesApart", fn := fun _ => fun
  | [d1, d2, d3] => { results := [.lit (.bool true)], args := [d1, d2, d3] }
  | _ => none }
def aesApartRow : OpenClaim := { program := "ytfefkakdhaecpaa", sum := "b830c8c2d9cb9a8c20b4f2004e68fd1d779288ec0feaf1aa89065e36623c736b", func := "sundial/sundiallaw05.AesApart", spec := "aesApart", apart := false }
def AesApartSaid : Prop := aesApartRow.holds Try.pinned (OpenSpec.ofChange aesApartSpec)

/-- ITS FALSE NEIGHBOUR: 'it returns false'. Refute it at one input. -/
def aesApartWrong : ChangeSpec := { name := "aesApart", fn := fun _ => fun
  | [d1, d2, d3] => { results := [.lit (.bool false)], args := [d1, d2, d3] }
  | _ => none }
def AesApartWrongFalsely : Prop := aesApartRow.holds Try.pinned (OpenSpec.ofChange aesApartWrong)

/-- 'sundiallaw05.AesChain': WHATEVER THE INPUT: true; the input reads as it did. -/
def aesChainSpec : ChangeSpec := { name := "aesChain", fn := fun _ => fun
  | [d1, d2, d3, d4] => { results := [.lit (.bool true)], args := [d1, d2, d3, d4] }
  | _ => none }
def aesChainRow : OpenClaim := { program := "ytfefkakdhaecpaa", sum := "b830c8c2d9cb9a8c20b4f2004e68fd1d779288ec0feaf1aa89065e36623c736b", func := "sundial/sundiallaw05.AesChain", spec := "aesChain", apart := false }
def AesChainSaid : Prop := aesChainRow.holds Try.pinned (OpenSpec.ofChange aesChainSpec)

/-- ITS FALSE NEIGHBOUR: 'it returns false'. Refute it at one input. -/
def aesChainWrong : ChangeSpec := { name := "aesChain", fn := fun _ => fun
  | [d1, d2, d3, d4] => { results := [.lit (.bool false)], args := [d1, d2, d3, d4] }
  | _ => none }
def AesChainWrongFalsely : Prop := aesChainRow.holds Try.pinned (OpenSpec.ofChange aesChainWrong)

/-- 'sundiallaw05.AesKeep': WHATEVER THE INPUT: true; the input reads as it did. -/
def aesKeepSpec : ChangeSpec := { name := "aesKeep", fn := fun _ => fun
  | [d1, d2] => { results := [.lit (.bool true)], args := [d1, d2] }
  | _ => none }
def aesKeepRow : OpenClaim := { program := "ytfefkakdhaecpaa", sum := "b830c8c2d9cb9a8c20b4f2004e68fd1d779288ec0feaf1aa89065e36623c736b", func := "sundial/sundiallaw05.AesKeep", spec := "aesKeep", apart := false }
def AesKeepSaid : Prop := aesKeepRow.holds Try.pinned (OpenSpec.ofChange aesKeepSpec)

/-- ITS FALSE NEIGHBOUR: 'it returns false'. Refute it at one input. -/
def aesKeepWrong : ChangeSpec := { name := "aesKeep", fn := fun _ => fun
  | [d1, d2] => { results := [.lit (.bool false)], args := [d1, d2] }
  | _ => none }
def AesKeepWrongFalsely : Prop := aesKeepRow.holds Try.pinned (OpenSpec.ofChange aesKeepWrong)

/- THE SECOND FORM. 'bulk': how many values and letters a reading holds, each counted each time it is reached (what is shared counts as often as it is met; a slice's spare places count too). A statement '..UptoSaid' is the law's where the arguments, and the package variables that the reading takes, are together of bulk at most 1048576: NARROWER than '..Said'. Prove '..Said' where nothing that the law and all that it calls make is longer than what came in: it says more and counts as full. Else prove '..UptoSaid'. A law counts once. -/
mutual
def uptoBulk {H : Type} : DataW H → Nat
  | .lit (.string bytes) => bytes.length + 1
  | .lit _ => 1
  | .nil => 1
  | .ptr d => uptoBulk d + 1
  | .slice elems spare => uptoBulkAll elems + uptoBulkAll spare + 1
  | .agg parts => uptoBulkAll parts + 1
  | .iface _ d => uptoBulk d + 1
  | .map entries => uptoBulkEntries entries + 1
  | .held _ => 1
def uptoBulkAll {H : Type} : List (DataW H) → Nat
  | [] => 0
  | d :: r => uptoBulk d + uptoBulkAll r
def uptoBulkEntries {H : Type} : List (Lit × DataW H) → Nat
  | [] => 0
  | x :: r => uptoBulkEntry x + uptoBulkEntries r
def uptoBulkEntry {H : Type} : Lit × DataW H → Nat
  | (.string bytes, d) => bytes.length + uptoBulk d + 1
  | (_, d) => uptoBulk d + 1
 end
def uptoSmall : (H : Type) → List (DataW H) → Bool := fun _ ds => decide (uptoBulkAll ds ≤ 1048576)
def OpenSpec.upto (s : _root_.Go.ChangeSpec) : _root_.Go.OpenSpec := { _root_.Go.OpenSpec.ofChange s with cond := some uptoSmall }

/-- 'sundiallaw05.AesBlocks', WHERE WHAT IT READS IS OF BULK AT MOST 1048576: true; the input reads as it did. -/
def aesBlocksUptoRow : OpenClaim := { program := "ytfefkakdhaecpaa", sum := "b830c8c2d9cb9a8c20b4f2004e68fd1d779288ec0feaf1aa89065e36623c736b", func := "sundial/sundiallaw05.AesBlocks", spec := "aesBlocks", apart := false, narrowed := true }
def AesBlocksUptoSaid : Prop := aesBlocksUptoRow.holds Try.pinned (OpenSpec.upto aesBlocksSpec)

/-- 'sundiallaw05.AesTags', WHERE WHAT IT READS IS OF BULK AT MOST 1048576: true; the input reads as it did. -/
def aesTagsUptoRow : OpenClaim := { program := "ytfefkakdhaecpaa", sum := "b830c8c2d9cb9a8c20b4f2004e68fd1d779288ec0feaf1aa89065e36623c736b", func := "sundial/sundiallaw05.AesTags", spec := "aesTags", apart := false, narrowed := true }
def AesTagsUptoSaid : Prop := aesTagsUptoRow.holds Try.pinned (OpenSpec.upto aesTagsSpec)

/-- 'sundiallaw05.AesApart', WHERE WHAT IT READS IS OF BULK AT MOST 1048576: true; the input reads as it did. -/
def aesApartUptoRow : OpenClaim := { program := "ytfefkakdhaecpaa", sum := "b830c8c2d9cb9a8c20b4f2004e68fd1d779288ec0feaf1aa89065e36623c736b", func := "sundial/sundiallaw05.AesApart", spec := "aesApart", apart := false, narrowed := true }
def AesApartUptoSaid : Prop := aesApartUptoRow.holds Try.pinned (OpenSpec.upto aesApartSpec)

/-- 'sundiallaw05.AesChain', WHERE WHAT IT READS IS OF BULK AT MOST 1048576: true; the input reads as it did. -/
def aesChainUptoRow : OpenClaim := { program := "ytfefkakdhaecpaa", sum := "b830c8c2d9cb9a8c20b4f2004e68fd1d779288ec0feaf1aa89065e36623c736b", func := "sundial/sundiallaw05.AesChain", spec := "aesChain", apart := false, narrowed := true }
def AesChainUptoSaid : Prop := aesChainUptoRow.holds Try.pinned (OpenSpec.upto aesChainSpec)

/-- 'sundiallaw05.AesKeep', WHERE WHAT IT READS IS OF BULK AT MOST 1048576: true; the input reads as it did. -/
def aesKeepUptoRow : OpenClaim := { program := "ytfefkakdhaecpaa", sum := "b830c8c2d9cb9a8c20b4f2004e68fd1d779288ec0feaf1aa89065e36623c736b", func := "sundial/sundiallaw05.AesKeep", spec := "aesKeep", apart := false, narrowed := true }
def AesKeepUptoSaid : Prop := aesKeepUptoRow.holds Try.pinned (OpenSpec.upto aesKeepSpec)

end Rows
end Go.Proofs.Ytfefkakdhaecpaa
