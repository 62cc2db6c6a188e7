/-
  DERIVED. GIVEN WITH THE SEED: THE CARDS: each row of YtdcloekhmckpnaaDoorRows.lean that lists a variable, with what it lists TIED to the program's text (the seventh form; the later family's looks); each row that meets fmt, with fmt's text TOLD by the authors' own Lean function (tested against real Go, not proved from fmt's source: count such statements apart). THE CARD IS WHAT COUNTS. Prove the row's statement (the work); the ties are given (YtdcloekhmckpnaaDoorTie.lean); close each card by the builder's one call (the guide's Derived/Test/ToyasCard.lean, 'card_holds'). Laid BY PROGRAM, IN A SANDBOX (cutbox-door.mjs). By AI agents, Wed Nov 11 2026. No macro, syntax, notation, axiom, sorry.
-/
import Derived.Test.YtdcloekhmckpnaaDoorRows
import GoSem.ClaimSeven
namespace Go.Proofs.YtdcloekhmckpnaaDoor
namespace Rows

/-- THE TIED CARD OF 'wirelaw.PacketSays'. -/
def packetSaysCard : Claim7 := { stood := { row := packetSaysRow, standIns := [], harness := (true, "fef37547c92a84b74f9ef3ad3a0dcc222416a5aac94da82d02a1dc3370321dcd"), looks := false }, kinds := [], alts := [], laidByText := true, laidKinds := [.data, .data, .data], laidTests := true, laidLooks := .later }
def PacketSaysCardSaid : Prop := Claim7.holds Tryd.pinned (.plain (OpenSpec.ofChange packetSaysSpec)) packetSaysCard

/-- THE SECOND FORM's CARD OF 'wirelaw.PacketSays'. -/
def packetSaysUptoCard : Claim7 := { stood := { row := packetSaysUptoRow, standIns := [], harness := (true, "fef37547c92a84b74f9ef3ad3a0dcc222416a5aac94da82d02a1dc3370321dcd"), looks := false }, kinds := [], alts := [], laidByText := true, laidKinds := [.data, .data, .data], laidTests := true, laidLooks := .later }
def PacketSaysUptoCardSaid : Prop := Claim7.holds Tryd.pinned (.plain (OpenSpec.upto packetSaysSpec)) packetSaysUptoCard
end Rows
end Go.Proofs.YtdcloekhmckpnaaDoor
