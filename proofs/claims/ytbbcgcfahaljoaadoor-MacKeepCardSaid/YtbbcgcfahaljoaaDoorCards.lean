/-
  DERIVED. GIVEN WITH THE SEED: THE CARDS: each row of YtbbcgcfahaljoaaDoorRows.lean that lists a variable, with what it lists TIED to the program's text (the seventh form; the later family's looks); each row that meets fmt, with fmt's text TOLD by the authors' own Lean function (tested against real Go, not proved from fmt's source: count such statements apart). THE CARD IS WHAT COUNTS. Prove the row's statement (the work); the ties are given (YtbbcgcfahaljoaaDoorTie.lean); close each card by the builder's one call (the guide's Derived/Test/ToyasCard.lean, 'card_holds'). Laid BY PROGRAM, IN A SANDBOX (cutbox-door.mjs). By AI agents, Wed Nov 11 2026. No macro, syntax, notation, axiom, sorry.
-/
import Derived.Test.YtbbcgcfahaljoaaDoorRows
import GoSem.ClaimSeven
namespace Go.Proofs.YtbbcgcfahaljoaaDoor
namespace Rows

/-- THE TIED CARD OF 'sundiallaw06.MacRings'. -/
def macRingsCard : Claim7 := { stood := { row := macRingsRow, standIns := [], harness := (true, "91ef62e001e74223e38664f99c4f8a28f49d00cbe6c86b2a92bea9a504f9cc4d"), looks := false }, kinds := [], alts := [], laidByText := true, laidKinds := [.data, .data, .data], laidTests := true, laidLooks := .later }
def MacRingsCardSaid : Prop := Claim7.holds Tryd.pinned (.plain (OpenSpec.ofChange macRingsSpec)) macRingsCard

/-- THE TIED CARD OF 'sundiallaw06.MacMakes'. -/
def macMakesCard : Claim7 := { stood := { row := macMakesRow, standIns := [], harness := (true, "91ef62e001e74223e38664f99c4f8a28f49d00cbe6c86b2a92bea9a504f9cc4d"), looks := false }, kinds := [], alts := [], laidByText := true, laidKinds := [.data, .data, .data], laidTests := true, laidLooks := .later }
def MacMakesCardSaid : Prop := Claim7.holds Tryd.pinned (.plain (OpenSpec.ofChange macMakesSpec)) macMakesCard

/-- THE TIED CARD OF 'sundiallaw06.MacVerifies'. -/
def macVerifiesCard : Claim7 := { stood := { row := macVerifiesRow, standIns := [], harness := (true, "91ef62e001e74223e38664f99c4f8a28f49d00cbe6c86b2a92bea9a504f9cc4d"), looks := false }, kinds := [], alts := [], laidByText := true, laidKinds := [.data, .data, .data], laidTests := true, laidLooks := .later }
def MacVerifiesCardSaid : Prop := Claim7.holds Tryd.pinned (.plain (OpenSpec.ofChange macVerifiesSpec)) macVerifiesCard

/-- THE TIED CARD OF 'sundiallaw06.MacBack'. -/
def macBackCard : Claim7 := { stood := { row := macBackRow, standIns := [], harness := (true, "91ef62e001e74223e38664f99c4f8a28f49d00cbe6c86b2a92bea9a504f9cc4d"), looks := false }, kinds := [], alts := [], laidByText := true, laidKinds := [.data, .data, .data], laidTests := true, laidLooks := .later }
def MacBackCardSaid : Prop := Claim7.holds Tryd.pinned (.plain (OpenSpec.ofChange macBackSpec)) macBackCard

/-- THE TIED CARD OF 'sundiallaw06.MacKeep'. -/
def macKeepCard : Claim7 := { stood := { row := macKeepRow, standIns := [], harness := (true, "91ef62e001e74223e38664f99c4f8a28f49d00cbe6c86b2a92bea9a504f9cc4d"), looks := false }, kinds := [], alts := [], laidByText := true, laidKinds := [.data, .data, .data], laidTests := true, laidLooks := .later }
def MacKeepCardSaid : Prop := Claim7.holds Tryd.pinned (.plain (OpenSpec.ofChange macKeepSpec)) macKeepCard

/-- THE SECOND FORM's CARD OF 'sundiallaw06.MacRings'. -/
def macRingsUptoCard : Claim7 := { stood := { row := macRingsUptoRow, standIns := [], harness := (true, "91ef62e001e74223e38664f99c4f8a28f49d00cbe6c86b2a92bea9a504f9cc4d"), looks := false }, kinds := [], alts := [], laidByText := true, laidKinds := [.data, .data, .data], laidTests := true, laidLooks := .later }
def MacRingsUptoCardSaid : Prop := Claim7.holds Tryd.pinned (.plain (OpenSpec.upto macRingsSpec)) macRingsUptoCard

/-- THE SECOND FORM's CARD OF 'sundiallaw06.MacMakes'. -/
def macMakesUptoCard : Claim7 := { stood := { row := macMakesUptoRow, standIns := [], harness := (true, "91ef62e001e74223e38664f99c4f8a28f49d00cbe6c86b2a92bea9a504f9cc4d"), looks := false }, kinds := [], alts := [], laidByText := true, laidKinds := [.data, .data, .data], laidTests := true, laidLooks := .later }
def MacMakesUptoCardSaid : Prop := Claim7.holds Tryd.pinned (.plain (OpenSpec.upto macMakesSpec)) macMakesUptoCard

/-- THE SECOND FORM's CARD OF 'sundiallaw06.MacVerifies'. -/
def macVerifiesUptoCard : Claim7 := { stood := { row := macVerifiesUptoRow, standIns := [], harness := (true, "91ef62e001e74223e38664f99c4f8a28f49d00cbe6c86b2a92bea9a504f9cc4d"), looks := false }, kinds := [], alts := [], laidByText := true, laidKinds := [.data, .data, .data], laidTests := true, laidLooks := .later }
def MacVerifiesUptoCardSaid : Prop := Claim7.holds Tryd.pinned (.plain (OpenSpec.upto macVerifiesSpec)) macVerifiesUptoCard

/-- THE SECOND FORM's CARD OF 'sundiallaw06.MacBack'. -/
def macBackUptoCard : Claim7 := { stood := { row := macBackUptoRow, standIns := [], harness := (true, "91ef62e001e74223e38664f99c4f8a28f49d00cbe6c86b2a92bea9a504f9cc4d"), looks := false }, kinds := [], alts := [], laidByText := true, laidKinds := [.data, .data, .data], laidTests := true, laidLooks := .later }
def MacBackUptoCardSaid : Prop := Claim7.holds Tryd.pinned (.plain (OpenSpec.upto macBackSpec)) macBackUptoCard

/-- THE SECOND FORM's CARD OF 'sundiallaw06.MacKeep'. -/
def macKeepUptoCard : Claim7 := { stood := { row := macKeepUptoRow, standIns := [], harness := (true, "91ef62e001e74223e38664f99c4f8a28f49d00cbe6c86b2a92bea9a504f9cc4d"), looks := false }, kinds := [], alts := [], laidByText := true, laidKinds := [.data, .data, .data], laidTests := true, laidLooks := .later }
def MacKeepUptoCardSaid : Prop := Claim7.holds Tryd.pinned (.plain (OpenSpec.upto macKeepSpec)) macKeepUptoCard
end Rows
end Go.Proofs.YtbbcgcfahaljoaaDoor
