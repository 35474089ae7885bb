/-
  No cell of these rows narrows 'for every input' (looked for: loops, veiled, ifaces, maps, wideKeys, modest, calm, conditions, laid).
  DERIVED. THE GIVEN ROWS OF THIS SEAT. 4 by the template 'for every input the law returns true; each argument reads behind the call as it read before'; 0 by the template 'total and deterministic' (their statements: YtkmbeogmgehnfaaTotals.lean).
  GIVEN WITH THE SEED: the statements are not yours to turn. If you find one false, say at which input.
  Laid BY PROGRAM, IN A SANDBOX (cutbox-rows.mjs): the forced cells as the released guide's own fill.sh prints them over the translation 4d64dc9d46df17ba… (all of the seat's roots in one cut). By AI agents, Wed Nov 11 2026. No macro, syntax, notation, axiom, sorry.
-/
import Derived.Test.YtkmbeogmgehnfaaChecked
import GoSem.Claim
import GoSem.ClaimJoined
import GoSem.ClaimMapViews
import Derived.JoinedTies
import Derived.KernelRfl
namespace Go.Proofs.Ytkmbeogmgehnfaa
/- THE CELL 'sum', in the pinned program and in every row, IS THE sha256 OF THE DUMP (.gsa) THAT YtkmbeogmgehnfaaProg.lean LOADS. Nothing in Lean hashes anything: it is a label: what it is worth is what the hold of that sum in a sandbox is worth. -/
noncomputable def Try.pinned : Pinned := { name := "ytkmbeogmgehnfaa", sum := "4d64dc9d46df17ba748e87b6c0a7dd94cae57851c1f7b7952a6b5d53c328eba5", checked := Try.checked }
namespace Rows
def none {H : Type} : Left H := { results := [], args := [] }

/-- 'sundiallaw16.VoteAll': WHATEVER THE INPUT: true; the input reads as it did. -/
def voteAllSpec : ChangeSpec := { name := "voteAll", fn := fun _ => fun
  | [d1, d2] => { results := [.lit (.bool true)], args := [d1, d2] }
  | _ => none }
def voteAllRow : OpenClaim := { program := "ytkmbeogmgehnfaa", sum := "4d64dc9d46df17ba748e87b6c0a7dd94cae57851c1f7b7952a6b5d53c328eba5", func := "sundial/sundiallaw16.VoteAll", spec := "voteAll", unfollowed := true, recurses := true, apart := false }
def VoteAllSaid : Prop := voteAllRow.holds Try.pinned (OpenSpec.ofChange voteAllSpec)

/-- ITS FALSE NEIGHBOUR: 'it returns false'. Refute it at one input. -/
def voteAllWrong : ChangeSpec := { name := "voteAll", fn := fun _ => fun
  | [d1, d2] => { results := [.lit (.bool false)], args := [d1, d2] }
  | _ => none }
def VoteAllWrongFalsely : Prop := voteAllRow.holds Try.pinned (OpenSpec.ofChange voteAllWrong)

/-- 'sundiallaw16.VoteSure': WHATEVER THE INPUT: true; the input reads as it did. -/
def voteSureSpec : ChangeSpec := { name := "voteSure", fn := fun _ => fun
  | [d1, d2] => { results := [.lit (.bool true)], args := [d1, d2] }
  | _ => none }
def voteSureRow : OpenClaim := { program := "ytkmbeogmgehnfaa", sum := "4d64dc9d46df17ba748e87b6c0a7dd94cae57851c1f7b7952a6b5d53c328eba5", func := "sundial/sundiallaw16.VoteSure", spec := "voteSure", unfollowed := true, recurses := true, apart := false }
def VoteSureSaid : Prop := voteSureRow.holds Try.pinned (OpenSpec.ofChange voteSureSpec)

/-- ITS FALSE NEIGHBOUR: 'it returns false'. Refute it at one input. -/
def voteSureWrong : ChangeSpec := { name := "voteSure", fn := fun _ => fun
  | [d1, d2] => { results := [.lit (.bool false)], args := [d1, d2] }
  | _ => none }
def VoteSureWrongFalsely : Prop := voteSureRow.holds Try.pinned (OpenSpec.ofChange voteSureWrong)

/-- 'sundiallaw16.VoteAgree': WHATEVER THE INPUT: true; the input reads as it did. -/
def voteAgreeSpec : ChangeSpec := { name := "voteAgree", fn := fun _ => fun
  | [d1, d2] => { results := [.lit (.bool true)], args := [d1, d2] }
  | _ => none }
def voteAgreeRow : OpenClaim := { program := "ytkmbeogmgehnfaa", sum := "4d64dc9d46df17ba748e87b6c0a7dd94cae57851c1f7b7952a6b5d53c328eba5", func := "sundial/sundiallaw16.VoteAgree", spec := "voteAgree", unfollowed := true, recurses := true, apart := false }
def VoteAgreeSaid : Prop := voteAgreeRow.holds Try.pinned (OpenSpec.ofChange voteAgreeSpec)

/-- ITS FALSE NEIGHBOUR: 'it returns false'. Refute it at one input. -/
def voteAgreeWrong : ChangeSpec := { name := "voteAgree", fn := fun _ => fun
  | [d1, d2] => { results := [.lit (.bool false)], args := [d1, d2] }
  | _ => none }
def VoteAgreeWrongFalsely : Prop := voteAgreeRow.holds Try.pinned (OpenSpec.ofChange voteAgreeWrong)

/-- 'sundiallaw16.VoteMoves': WHATEVER THE INPUT: true; the input reads as it did. -/
def voteMovesSpec : ChangeSpec := { name := "voteMoves", fn := fun _ => fun
  | [d1, d2] => { results := [.lit (.bool true)], args := [d1, d2] }
  | _ => none }
def voteMovesRow : OpenClaim := { program := "ytkmbeogmgehnfaa", sum := "4d64dc9d46df17ba748e87b6c0a7dd94cae57851c1f7b7952a6b5d53c328eba5", func := "sundial/sundiallaw16.VoteMoves", spec := "voteMoves", unfollowed := true, recurses := true, apart := false }
def VoteMovesSaid : Prop := voteMovesRow.holds Try.pinned (OpenSpec.ofChange voteMovesSpec)

/-- ITS FALSE NEIGHBOUR: 'it returns false'. Refute it at one input. -/
def voteMovesWrong : ChangeSpec := { name := "voteMoves", fn := fun _ => fun
  | [d1, d2] => { results := [.lit (.bool false)], args := [d1, d2] }
  | _ => none }
def VoteMovesWrongFalsely : Prop := voteMovesRow.holds Try.pinned (OpenSpec.ofChange voteMovesWrong)

/- THE SECOND FORM. 'bulk': how many values and letters a reading holds, each counted each time it is reached (what is shared counts as often as it is met; a slice's spare places count too). A statement '..UptoSaid' is the law's where the arguments, and the package variables that the reading takes, are together of bulk at most 1048576: NARROWER than '..Said'. Prove '..Said' where nothing that the law and all that it calls make is longer than what came in: it says more and counts as full. Else prove '..UptoSaid'. A law counts once. -/
mutual
def uptoBulk {H : Type} : DataW H → Nat
  | .lit (.string bytes) => bytes.length + 1
  | .lit _ => 1
  | .nil => 1
  | .ptr d => uptoBulk d + 1
  | .slice elems spare => uptoBulkAll elems + uptoBulkAll spare + 1
  | .agg parts => uptoBulkAll parts + 1
  | .iface _ d => uptoBulk d + 1
  | .map entries => uptoBulkEntries entries + 1
  | .held _ => 1
def uptoBulkAll {H : Type} : List (DataW H) → Nat
  | [] => 0
  | d :: r => uptoBulk d + uptoBulkAll r
def uptoBulkEntries {H : Type} : List (Lit × DataW H) → Nat
  | [] => 0
  | x :: r => uptoBulkEntry x + uptoBulkEntries r
def uptoBulkEntry {H : Type} : Lit × DataW H → Nat
  | (.string bytes, d) => bytes.length + uptoBulk d + 1
  | (_, d) => uptoBulk d + 1
 end
def uptoSmall : (H : Type) → List (DataW H) → Bool := fun _ ds => decide (uptoBulkAll ds ≤ 1048576)
def OpenSpec.upto (s : _root_.Go.ChangeSpec) : _root_.Go.OpenSpec := { _root_.Go.OpenSpec.ofChange s with cond := some uptoSmall }

/-- 'sundiallaw16.VoteAll', WHERE WHAT IT READS IS OF BULK AT MOST 1048576: true; the input reads as it did. -/
def voteAllUptoRow : OpenClaim := { program := "ytkmbeogmgehnfaa", sum := "4d64dc9d46df17ba748e87b6c0a7dd94cae57851c1f7b7952a6b5d53c328eba5", func := "sundial/sundiallaw16.VoteAll", spec := "voteAll", unfollowed := true, recurses := true, apart := false, narrowed := true }
def VoteAllUptoSaid : Prop := voteAllUptoRow.holds Try.pinned (OpenSpec.upto voteAllSpec)

/-- 'sundiallaw16.VoteSure', WHERE WHAT IT READS IS OF BULK AT MOST 1048576: true; the input reads as it did. -/
def voteSureUptoRow : OpenClaim := { program := "ytkmbeogmgehnfaa", sum := "4d64dc9d46df17ba748e87b6c0a7dd94cae57851c1f7b7952a6b5d53c328eba5", func := "sundial/sundiallaw16.VoteSure", spec := "voteSure", unfollowed := true, recurses := true, apart := false, narrowed := true }
def VoteSureUptoSaid : Prop := voteSureUptoRow.holds Try.pinned (OpenSpec.upto voteSureSpec)

/-- 'sundiallaw16.VoteAgree', WHERE WHAT IT READS IS OF BULK AT MOST 1048576: true; the input reads as it did. -/
def voteAgreeUptoRow : OpenClaim := { program := "ytkmbeogmgehnfaa", sum := "4d64dc9d46df17ba748e87b6c0a7dd94cae57851c1f7b7952a6b5d53c328eba5", func := "sundial/sundiallaw16.VoteAgree", spec := "voteAgree", unfollowed := true, recurses := true, apart := false, narrowed := true }
def VoteAgreeUptoSaid : Prop := voteAgreeUptoRow.holds Try.pinned (OpenSpec.upto voteAgreeSpec)

/-- 'sundiallaw16.VoteMoves', WHERE WHAT IT READS IS OF BULK AT MOST 1048576: true; the input reads as it did. -/
def voteMovesUptoRow : OpenClaim := { program := "ytkmbeogmgehnfaa", sum := "4d64dc9d46df17ba748e87b6c0a7dd94cae57851c1f7b7952a6b5d53c328eba5", func := "sundial/sundiallaw16.VoteMoves", spec := "voteMoves", unfollowed := true, recurses := true, apart := false, narrowed := true }
def VoteMovesUptoSaid : Prop := voteMovesUptoRow.holds Try.pinned (OpenSpec.upto voteMovesSpec)

end Rows
end Go.Proofs.Ytkmbeogmgehnfaa
