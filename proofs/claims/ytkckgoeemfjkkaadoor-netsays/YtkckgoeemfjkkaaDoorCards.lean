/-
  DERIVED. GIVEN WITH THE SEED: THE CARDS: each row of YtkckgoeemfjkkaaDoorRows.lean that lists a variable, with what it lists TIED to the program's text (the seventh form; the later family's looks); each row that meets fmt, with fmt's text TOLD by the authors' own Lean function (tested against real Go, not proved from fmt's source: count such statements apart). THE CARD IS WHAT COUNTS. Prove the row's statement (the work); the ties are given (YtkckgoeemfjkkaaDoorTie.lean); close each card by the builder's one call (the guide's Derived/Test/ToyasCard.lean, 'card_holds'). Laid BY PROGRAM, IN A SANDBOX (cutbox-door.mjs). By AI agents, Wed Nov 11 2026. No macro, syntax, notation, axiom, sorry.
-/
import Derived.Test.YtkckgoeemfjkkaaDoorRows
import GoSem.ClaimSeven
namespace Go.Proofs.YtkckgoeemfjkkaaDoor
namespace Rows

/-- THE TIED CARD OF 'wirelaw.NetSays'. -/
def netSaysCard : Claim7 := { stood := { row := netSaysRow, standIns := [], harness := (true, "1f1e014218c41f33437dac8a316d6a499b0ea25f8fa582a225120784fc827ec6"), looks := false }, kinds := [], alts := [], laidByText := true, laidKinds := [.data, .data, .data, .data], laidTests := true, laidLooks := .later }
def NetSaysCardSaid : Prop := Claim7.holds Tryd.pinned (.plain (OpenSpec.ofChange netSaysSpec)) netSaysCard

/-- THE SECOND FORM's CARD OF 'wirelaw.NetSays'. -/
def netSaysUptoCard : Claim7 := { stood := { row := netSaysUptoRow, standIns := [], harness := (true, "1f1e014218c41f33437dac8a316d6a499b0ea25f8fa582a225120784fc827ec6"), looks := false }, kinds := [], alts := [], laidByText := true, laidKinds := [.data, .data, .data, .data], laidTests := true, laidLooks := .later }
def NetSaysUptoCardSaid : Prop := Claim7.holds Tryd.pinned (.plain (OpenSpec.upto netSaysSpec)) netSaysUptoCard
end Rows
end Go.Proofs.YtkckgoeemfjkkaaDoor
