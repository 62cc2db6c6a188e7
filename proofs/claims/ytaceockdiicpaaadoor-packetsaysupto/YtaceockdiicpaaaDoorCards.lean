/-
  DERIVED. GIVEN WITH THE SEED: THE CARDS: each row of YtaceockdiicpaaaDoorRows.lean that lists a variable, with what it lists TIED to the program's text (the seventh form; the later family's looks); each row that meets fmt, with fmt's text TOLD by the authors' own Lean function (tested against real Go, not proved from fmt's source: count such statements apart). THE CARD IS WHAT COUNTS. Prove the row's statement (the work); the ties are given (YtaceockdiicpaaaDoorTie.lean); close each card by the builder's one call (the guide's Derived/Test/ToyasCard.lean, 'card_holds'). Laid BY PROGRAM, IN A SANDBOX (cutbox-door.mjs). By AI agents, Wed Nov 11 2026. No macro, syntax, notation, axiom, sorry.
-/
import Derived.Test.YtaceockdiicpaaaDoorRows
import GoSem.ClaimSeven
namespace Go.Proofs.YtaceockdiicpaaaDoor
namespace Rows

/-- THE TIED CARD OF 'wirelaw.PacketSays'. -/
def packetSaysCard : Claim7 := { stood := { row := packetSaysRow, standIns := [], harness := (true, "204c92146f1bcebd49ff73225672f66f81f25d39f6a842b3e06d8f63580d8eba"), looks := false }, kinds := [], alts := [], laidByText := true, laidKinds := [.data, .data, .data], laidTests := true, laidLooks := .later }
def PacketSaysCardSaid : Prop := Claim7.holds Tryd.pinned (.plain (OpenSpec.ofChange packetSaysSpec)) packetSaysCard

/-- THE TIED CARD OF 'wirelaw.MatchSays'. -/
def matchSaysCard : Claim7 := { stood := { row := matchSaysRow, standIns := [], harness := (true, "204c92146f1bcebd49ff73225672f66f81f25d39f6a842b3e06d8f63580d8eba"), looks := false }, kinds := [], alts := [], laidByText := true, laidKinds := [.data, .data, .data, .data, .pinned], laidTests := true, laidLooks := .later }
def MatchSaysCardSaid : Prop := Claim7.holds Tryd.pinned (.plain (OpenSpec.ofChange matchSaysSpec)) matchSaysCard

/-- THE SECOND FORM's CARD OF 'wirelaw.PacketSays'. -/
def packetSaysUptoCard : Claim7 := { stood := { row := packetSaysUptoRow, standIns := [], harness := (true, "204c92146f1bcebd49ff73225672f66f81f25d39f6a842b3e06d8f63580d8eba"), looks := false }, kinds := [], alts := [], laidByText := true, laidKinds := [.data, .data, .data], laidTests := true, laidLooks := .later }
def PacketSaysUptoCardSaid : Prop := Claim7.holds Tryd.pinned (.plain (OpenSpec.upto packetSaysSpec)) packetSaysUptoCard

/-- THE SECOND FORM's CARD OF 'wirelaw.MatchSays'. -/
def matchSaysUptoCard : Claim7 := { stood := { row := matchSaysUptoRow, standIns := [], harness := (true, "204c92146f1bcebd49ff73225672f66f81f25d39f6a842b3e06d8f63580d8eba"), looks := false }, kinds := [], alts := [], laidByText := true, laidKinds := [.data, .data, .data, .data, .pinned], laidTests := true, laidLooks := .later }
def MatchSaysUptoCardSaid : Prop := Claim7.holds Tryd.pinned (.plain (OpenSpec.upto matchSaysSpec)) matchSaysUptoCard
end Rows
end Go.Proofs.YtaceockdiicpaaaDoor
