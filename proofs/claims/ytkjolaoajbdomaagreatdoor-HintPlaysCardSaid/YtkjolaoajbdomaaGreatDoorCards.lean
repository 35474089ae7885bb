/-
  DERIVED. GIVEN WITH THE SEED: THE CARDS: each row of YtkjolaoajbdomaaGreatDoorRows.lean that lists a variable, with what it lists TIED to the program's text (the seventh form; the later family's looks); each row that meets fmt, with fmt's text TOLD by the authors' own Lean function (tested against real Go, not proved from fmt's source: count such statements apart). THE CARD IS WHAT COUNTS. Prove the row's statement (the work); the ties are given (YtkjolaoajbdomaaGreatDoorTie.lean); close each card by the builder's one call (the guide's Derived/Test/ToyasCard.lean, 'card_holds'). Laid BY PROGRAM, IN A SANDBOX (cutbox-door.mjs). By AI agents, Wed Nov 11 2026. No macro, syntax, notation, axiom, sorry.
-/
import Derived.Test.YtkjolaoajbdomaaGreatDoorRows
import GoSem.ClaimSeven
namespace Go.Proofs.YtkjolaoajbdomaaGreatDoor
namespace Rows

/-- THE TIED CARD OF 'sundiallaw12.HintPlays'. -/
def hintPlaysCard : Claim7 := { stood := { row := hintPlaysRow, standIns := [], harness := (true, "d26c536aeeae7d798fa3a8f29e7e11253251b22f2ceb276ec99d06957389606e"), looks := true }, kinds := [], alts := [], laidByText := true, laidKinds := [.data, .data, .data, .data, .data, .sentinel, .sentinel], laidTests := true, laidLooks := .later }
def HintPlaysCardSaid : Prop := Claim7.holds Tryz.pinned (.plain (OpenSpec.ofChange hintPlaysSpec)) hintPlaysCard

/-- THE SECOND FORM's CARD OF 'sundiallaw12.HintPlays'. -/
def hintPlaysUptoCard : Claim7 := { stood := { row := hintPlaysUptoRow, standIns := [], harness := (true, "d26c536aeeae7d798fa3a8f29e7e11253251b22f2ceb276ec99d06957389606e"), looks := true }, kinds := [], alts := [], laidByText := true, laidKinds := [.data, .data, .data, .data, .data, .sentinel, .sentinel], laidTests := true, laidLooks := .later }
def HintPlaysUptoCardSaid : Prop := Claim7.holds Tryz.pinned (.plain (OpenSpec.upto hintPlaysSpec)) hintPlaysUptoCard
end Rows
end Go.Proofs.YtkjolaoajbdomaaGreatDoor
