/-
  DERIVED. GIVEN WITH THE SEED: THE CARDS: each row of YtoecgabdjpgleaaGreatDoorRows.lean that lists a variable, with what it lists TIED to the program's text (the seventh form; the later family's looks); each row that meets fmt, with fmt's text TOLD by the authors' own Lean function (tested against real Go, not proved from fmt's source: count such statements apart). THE CARD IS WHAT COUNTS. Prove the row's statement (the work); the ties are given (YtoecgabdjpgleaaGreatDoorTie.lean); close each card by the builder's one call (the guide's Derived/Test/ToyasCard.lean, 'card_holds'). Laid BY PROGRAM, IN A SANDBOX (cutbox-door.mjs). By AI agents, Wed Nov 11 2026. No macro, syntax, notation, axiom, sorry.
-/
import Derived.Test.YtoecgabdjpgleaaGreatDoorRows
import GoSem.ClaimSeven
namespace Go.Proofs.YtoecgabdjpgleaaGreatDoor
namespace Rows

/-- THE TIED CARD OF 'sundiallaw13.RadioLines'. -/
def radioLinesCard : Claim7 := { stood := { row := radioLinesRow, standIns := [], harness := (true, "9203b93e01dacbed5ea569c1a80da8a551401a8ed773b767dda809c89a7d23b8"), looks := false }, kinds := [], alts := [], laidByText := true, laidKinds := [.data, .pinned], laidTests := true, laidLooks := .later }
def RadioLinesCardSaid : Prop := Claim7.holds Tryz.pinned (.plain (OpenSpec.ofChange radioLinesSpec)) radioLinesCard

/-- THE TIED CARD OF 'sundiallaw13.RadioSums'. -/
def radioSumsCard : Claim7 := { stood := { row := radioSumsRow, standIns := [], harness := (true, "9203b93e01dacbed5ea569c1a80da8a551401a8ed773b767dda809c89a7d23b8"), looks := false }, kinds := [], alts := [], laidByText := true, laidKinds := [.data, .pinned], laidTests := true, laidLooks := .later }
def RadioSumsCardSaid : Prop := Claim7.holds Tryz.pinned (.plain (OpenSpec.ofChange radioSumsSpec)) radioSumsCard

/-- THE SECOND FORM's CARD OF 'sundiallaw13.RadioLines'. -/
def radioLinesUptoCard : Claim7 := { stood := { row := radioLinesUptoRow, standIns := [], harness := (true, "9203b93e01dacbed5ea569c1a80da8a551401a8ed773b767dda809c89a7d23b8"), looks := false }, kinds := [], alts := [], laidByText := true, laidKinds := [.data, .pinned], laidTests := true, laidLooks := .later }
def RadioLinesUptoCardSaid : Prop := Claim7.holds Tryz.pinned (.plain (OpenSpec.upto radioLinesSpec)) radioLinesUptoCard

/-- THE SECOND FORM's CARD OF 'sundiallaw13.RadioSums'. -/
def radioSumsUptoCard : Claim7 := { stood := { row := radioSumsUptoRow, standIns := [], harness := (true, "9203b93e01dacbed5ea569c1a80da8a551401a8ed773b767dda809c89a7d23b8"), looks := false }, kinds := [], alts := [], laidByText := true, laidKinds := [.data, .pinned], laidTests := true, laidLooks := .later }
def RadioSumsUptoCardSaid : Prop := Claim7.holds Tryz.pinned (.plain (OpenSpec.upto radioSumsSpec)) radioSumsUptoCard
end Rows
end Go.Proofs.YtoecgabdjpgleaaGreatDoor
