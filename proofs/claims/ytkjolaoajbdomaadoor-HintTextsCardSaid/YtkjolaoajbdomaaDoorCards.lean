/-
  DERIVED. GIVEN WITH THE SEED: THE CARDS: each row of YtkjolaoajbdomaaDoorRows.lean that lists a variable, with what it lists TIED to the program's text (the seventh form; the later family's looks); each row that meets fmt, with fmt's text TOLD by the authors' own Lean function (tested against real Go, not proved from fmt's source: count such statements apart). THE CARD IS WHAT COUNTS. Prove the row's statement (the work); the ties are given (YtkjolaoajbdomaaDoorTie.lean); close each card by the builder's one call (the guide's Derived/Test/ToyasCard.lean, 'card_holds'). Laid BY PROGRAM, IN A SANDBOX (cutbox-door.mjs). By AI agents, Wed Nov 11 2026. No macro, syntax, notation, axiom, sorry.
-/
import Derived.Test.YtkjolaoajbdomaaDoorRows
import GoSem.ClaimSeven
namespace Go.Proofs.YtkjolaoajbdomaaDoor
namespace Rows

/-- THE TIED CARD OF 'sundiallaw12.HintTexts'. -/
def hintTextsCard : Claim7 := { stood := { row := hintTextsRow, standIns := [], harness := (true, "b48db528411b2a08f5c7e91ba7718890cfab81e6affc1a0da33c13916cee7a5f"), looks := true }, kinds := [], alts := [], laidByText := true, laidKinds := [.data, .data, .data, .data, .data, .sentinel, .sentinel], laidTests := true, laidLooks := .later }
def HintTextsCardSaid : Prop := Claim7.holds Tryd.pinned (.plain (OpenSpec.ofChange hintTextsSpec)) hintTextsCard

/-- THE TIED CARD OF 'sundiallaw12.HintCrash'. -/
def hintCrashCard : Claim7 := { stood := { row := hintCrashRow, standIns := [], harness := (true, "b48db528411b2a08f5c7e91ba7718890cfab81e6affc1a0da33c13916cee7a5f"), looks := true }, kinds := [], alts := [], laidByText := true, laidKinds := [.data, .data, .data, .data, .data, .sentinel, .sentinel], laidTests := true, laidLooks := .later }
def HintCrashCardSaid : Prop := Claim7.holds Tryd.pinned (.plain (OpenSpec.ofChange hintCrashSpec)) hintCrashCard

/-- THE TIED CARD OF 'sundiallaw12.HintBack'. -/
def hintBackCard : Claim7 := { stood := { row := hintBackRow, standIns := [], harness := (true, "b48db528411b2a08f5c7e91ba7718890cfab81e6affc1a0da33c13916cee7a5f"), looks := true }, kinds := [], alts := [], laidByText := true, laidKinds := [.data, .data, .data, .data, .data, .sentinel, .sentinel], laidTests := true, laidLooks := .later }
def HintBackCardSaid : Prop := Claim7.holds Tryd.pinned (.plain (OpenSpec.ofChange hintBackSpec)) hintBackCard

/-- THE SECOND FORM's CARD OF 'sundiallaw12.HintTexts'. -/
def hintTextsUptoCard : Claim7 := { stood := { row := hintTextsUptoRow, standIns := [], harness := (true, "b48db528411b2a08f5c7e91ba7718890cfab81e6affc1a0da33c13916cee7a5f"), looks := true }, kinds := [], alts := [], laidByText := true, laidKinds := [.data, .data, .data, .data, .data, .sentinel, .sentinel], laidTests := true, laidLooks := .later }
def HintTextsUptoCardSaid : Prop := Claim7.holds Tryd.pinned (.plain (OpenSpec.upto hintTextsSpec)) hintTextsUptoCard

/-- THE SECOND FORM's CARD OF 'sundiallaw12.HintCrash'. -/
def hintCrashUptoCard : Claim7 := { stood := { row := hintCrashUptoRow, standIns := [], harness := (true, "b48db528411b2a08f5c7e91ba7718890cfab81e6affc1a0da33c13916cee7a5f"), looks := true }, kinds := [], alts := [], laidByText := true, laidKinds := [.data, .data, .data, .data, .data, .sentinel, .sentinel], laidTests := true, laidLooks := .later }
def HintCrashUptoCardSaid : Prop := Claim7.holds Tryd.pinned (.plain (OpenSpec.upto hintCrashSpec)) hintCrashUptoCard

/-- THE SECOND FORM's CARD OF 'sundiallaw12.HintBack'. -/
def hintBackUptoCard : Claim7 := { stood := { row := hintBackUptoRow, standIns := [], harness := (true, "b48db528411b2a08f5c7e91ba7718890cfab81e6affc1a0da33c13916cee7a5f"), looks := true }, kinds := [], alts := [], laidByText := true, laidKinds := [.data, .data, .data, .data, .data, .sentinel, .sentinel], laidTests := true, laidLooks := .later }
def HintBackUptoCardSaid : Prop := Claim7.holds Tryd.pinned (.plain (OpenSpec.upto hintBackSpec)) hintBackUptoCard
end Rows
end Go.Proofs.YtkjolaoajbdomaaDoor
