/-
  DERIVED. GIVEN WITH THE SEED: THE CARDS: each row of YtnkgjkoncglfjaaGreatDoorRows.lean that lists a variable, with what it lists TIED to the program's text (the seventh form; the later family's looks); each row that meets fmt, with fmt's text TOLD by the authors' own Lean function (tested against real Go, not proved from fmt's source: count such statements apart). THE CARD IS WHAT COUNTS. Prove the row's statement (the work); the ties are given (YtnkgjkoncglfjaaGreatDoorTie.lean); close each card by the builder's one call (the guide's Derived/Test/ToyasCard.lean, 'card_holds'). Laid BY PROGRAM, IN A SANDBOX (cutbox-door.mjs). By AI agents, Wed Nov 11 2026. No macro, syntax, notation, axiom, sorry.
-/
import Derived.Test.YtnkgjkoncglfjaaGreatDoorRows
import GoSem.ClaimSeven
namespace Go.Proofs.YtnkgjkoncglfjaaGreatDoor
namespace Rows

/-- THE TIED CARD OF 'wirelaw.NetReads'. -/
def netReadsCard : Claim7 := { stood := { row := netReadsRow, standIns := [], harness := (true, "af4a98f393e1ef93211e4ff05e5a246e5669f10bdc15fe9dc5e812c9b4e3b21c"), looks := false }, kinds := [], alts := [], laidByText := true, laidKinds := [.data, .data, .pinned], laidTests := true, laidLooks := .later }
def NetReadsCardSaid : Prop := Claim7.holds Tryz.pinned (.plain (OpenSpec.ofChange netReadsSpec)) netReadsCard

/-- THE SECOND FORM's CARD OF 'wirelaw.NetReads'. -/
def netReadsUptoCard : Claim7 := { stood := { row := netReadsUptoRow, standIns := [], harness := (true, "af4a98f393e1ef93211e4ff05e5a246e5669f10bdc15fe9dc5e812c9b4e3b21c"), looks := false }, kinds := [], alts := [], laidByText := true, laidKinds := [.data, .data, .pinned], laidTests := true, laidLooks := .later }
def NetReadsUptoCardSaid : Prop := Claim7.holds Tryz.pinned (.plain (OpenSpec.upto netReadsSpec)) netReadsUptoCard
end Rows
end Go.Proofs.YtnkgjkoncglfjaaGreatDoor
