/-
  DERIVED. GIVEN WITH THE SEED: THE CARDS: each row of YtenlbjnoiamfiaaDoorRows.lean that lists a variable, with what it lists TIED to the program's text (the seventh form; the later family's looks); each row that meets fmt, with fmt's text TOLD by the authors' own Lean function (tested against real Go, not proved from fmt's source: count such statements apart). THE CARD IS WHAT COUNTS. Prove the row's statement (the work); the ties are given (YtenlbjnoiamfiaaDoorTie.lean); close each card by the builder's one call (the guide's Derived/Test/ToyasCard.lean, 'card_holds'). Laid BY PROGRAM, IN A SANDBOX (cutbox-door.mjs). By AI agents, Wed Nov 11 2026. No macro, syntax, notation, axiom, sorry.
-/
import Derived.Test.YtenlbjnoiamfiaaDoorRows
import GoSem.ClaimSeven
namespace Go.Proofs.YtenlbjnoiamfiaaDoor
namespace Rows

/-- THE TIED CARD OF 'sundiallaw04.HashMD'. -/
def hashMDCard : Claim7 := { stood := { row := hashMDRow, standIns := [], harness := (true, "dc8a5e593409ebfa7b314c5738e79b5a028e3d52fad2038f179de04bfac4966c"), looks := false }, kinds := [], alts := [], laidByText := true, laidKinds := [.data, .data, .data], laidTests := true, laidLooks := .later }
def HashMDCardSaid : Prop := Claim7.holds Tryd.pinned (.plain (OpenSpec.ofChange hashMDSpec)) hashMDCard

/-- THE TIED CARD OF 'sundiallaw04.HashSHA'. -/
def hashSHACard : Claim7 := { stood := { row := hashSHARow, standIns := [], harness := (true, "dc8a5e593409ebfa7b314c5738e79b5a028e3d52fad2038f179de04bfac4966c"), looks := false }, kinds := [], alts := [], laidByText := true, laidKinds := [.data, .data, .data], laidTests := true, laidLooks := .later }
def HashSHACardSaid : Prop := Claim7.holds Tryd.pinned (.plain (OpenSpec.ofChange hashSHASpec)) hashSHACard

/-- THE TIED CARD OF 'sundiallaw04.HashHex'. -/
def hashHexCard : Claim7 := { stood := { row := hashHexRow, standIns := [], harness := (true, "dc8a5e593409ebfa7b314c5738e79b5a028e3d52fad2038f179de04bfac4966c"), looks := false }, kinds := [], alts := [], laidByText := true, laidKinds := [.data, .data, .data], laidTests := true, laidLooks := .later }
def HashHexCardSaid : Prop := Claim7.holds Tryd.pinned (.plain (OpenSpec.ofChange hashHexSpec)) hashHexCard

/-- THE TIED CARD OF 'sundiallaw04.HashKeep'. -/
def hashKeepCard : Claim7 := { stood := { row := hashKeepRow, standIns := [], harness := (true, "dc8a5e593409ebfa7b314c5738e79b5a028e3d52fad2038f179de04bfac4966c"), looks := false }, kinds := [], alts := [], laidByText := true, laidKinds := [.data, .data, .data], laidTests := true, laidLooks := .later }
def HashKeepCardSaid : Prop := Claim7.holds Tryd.pinned (.plain (OpenSpec.ofChange hashKeepSpec)) hashKeepCard

/-- THE SECOND FORM's CARD OF 'sundiallaw04.HashMD'. -/
def hashMDUptoCard : Claim7 := { stood := { row := hashMDUptoRow, standIns := [], harness := (true, "dc8a5e593409ebfa7b314c5738e79b5a028e3d52fad2038f179de04bfac4966c"), looks := false }, kinds := [], alts := [], laidByText := true, laidKinds := [.data, .data, .data], laidTests := true, laidLooks := .later }
def HashMDUptoCardSaid : Prop := Claim7.holds Tryd.pinned (.plain (OpenSpec.upto hashMDSpec)) hashMDUptoCard

/-- THE SECOND FORM's CARD OF 'sundiallaw04.HashSHA'. -/
def hashSHAUptoCard : Claim7 := { stood := { row := hashSHAUptoRow, standIns := [], harness := (true, "dc8a5e593409ebfa7b314c5738e79b5a028e3d52fad2038f179de04bfac4966c"), looks := false }, kinds := [], alts := [], laidByText := true, laidKinds := [.data, .data, .data], laidTests := true, laidLooks := .later }
def HashSHAUptoCardSaid : Prop := Claim7.holds Tryd.pinned (.plain (OpenSpec.upto hashSHASpec)) hashSHAUptoCard

/-- THE SECOND FORM's CARD OF 'sundiallaw04.HashHex'. -/
def hashHexUptoCard : Claim7 := { stood := { row := hashHexUptoRow, standIns := [], harness := (true, "dc8a5e593409ebfa7b314c5738e79b5a028e3d52fad2038f179de04bfac4966c"), looks := false }, kinds := [], alts := [], laidByText := true, laidKinds := [.data, .data, .data], laidTests := true, laidLooks := .later }
def HashHexUptoCardSaid : Prop := Claim7.holds Tryd.pinned (.plain (OpenSpec.upto hashHexSpec)) hashHexUptoCard

/-- THE SECOND FORM's CARD OF 'sundiallaw04.HashKeep'. -/
def hashKeepUptoCard : Claim7 := { stood := { row := hashKeepUptoRow, standIns := [], harness := (true, "dc8a5e593409ebfa7b314c5738e79b5a028e3d52fad2038f179de04bfac4966c"), looks := false }, kinds := [], alts := [], laidByText := true, laidKinds := [.data, .data, .data], laidTests := true, laidLooks := .later }
def HashKeepUptoCardSaid : Prop := Claim7.holds Tryd.pinned (.plain (OpenSpec.upto hashKeepSpec)) hashKeepUptoCard
end Rows
end Go.Proofs.YtenlbjnoiamfiaaDoor
