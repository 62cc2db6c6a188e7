/-
  No cell of these rows narrows 'for every input' (looked for: loops, veiled, ifaces, maps, wideKeys, modest, calm, conditions, laid).
  DERIVED. THE GIVEN ROWS OF THIS SEAT. 4 by the template 'for every input the law returns true; each argument reads behind the call as it read before'; 0 by the template 'total and deterministic' (their statements: YtepfckicaafilaaTotals.lean).
  GIVEN WITH THE SEED: the statements are not yours to turn. If you find one false, say at which input.
  Laid BY PROGRAM, IN A SANDBOX (cutbox-rows.mjs): the forced cells as the released guide's own fill.sh prints them over the translation 3235830b8700236f… (all of the seat's roots in one cut). By AI agents, Wed Nov 11 2026. No macro, syntax, notation, axiom, sorry.
-/
import Derived.Test.YtepfckicaafilaaChecked
import GoSem.Claim
import GoSem.ClaimJoined
import GoSem.ClaimMapViews
import Derived.JoinedTies
import Derived.KernelRfl
namespace Go.Proofs.Ytepfckicaafilaa
/- THE CELL 'sum', in the pinned program and in every row, IS THE sha256 OF THE DUMP (.gsa) THAT YtepfckicaafilaaProg.lean LOADS. Nothing in Lean hashes anything: it is a label: what it is worth is what the hold of that sum in a sandbox is worth. -/
noncomputable def Try.pinned : Pinned := { name := "ytepfckicaafilaa", sum := "3235830b8700236f71a130124fd8b9912980e7dc41533576d9eb765dfc6a5c13", checked := Try.checked }
namespace Rows
def none {H : Type} : Left H := { results := [], args := [] }

/-- 'wirekeep.StepFire': WHATEVER THE INPUT: true; the input reads as it did. -/
def stepFireSpec : ChangeSpec := { name := "stepFire", fn := fun _ => fun
  | [d1, d2, d3] => { results := [.lit (.bool true)], args := [d1, d2, d3] }
  | _ => none }
def stepFireRow : OpenClaim := { program := "ytepfckicaafilaa", sum := "3235830b8700236f71a130124fd8b9912980e7dc41533576d9eb765dfc6a5c13", func := "wireward/wirekeep.StepFire", spec := "stepFire", unfollowed := true, recurses := true, plainKeys := false, apart := false }
def StepFireSaid : Prop := stepFireRow.holds Try.pinned (OpenSpec.ofChange stepFireSpec)

/-- ITS FALSE NEIGHBOUR: 'it returns false'. Refute it at one input. -/
def stepFireWrong : ChangeSpec := { name := "stepFire", fn := fun _ => fun
  | [d1, d2, d3] => { results := [.lit (.bool false)], args := [d1, d2, d3] }
  | _ => none }
def StepFireWrongFalsely : Prop := stepFireRow.holds Try.pinned (OpenSpec.ofChange stepFireWrong)

/-- 'wirekeep.StepNat': WHATEVER THE INPUT: true; the input reads as it did. -/
def stepNatSpec : ChangeSpec := { name := "stepNat", fn := fun _ => fun
  | [d1, d2, d3, d4] => { results := [.lit (.bool true)], args := [d1, d2, d3, d4] }
  | _ => none }
def stepNatRow : OpenClaim := { program := "ytepfckicaafilaa", sum := "3235830b8700236f71a130124fd8b9912980e7dc41533576d9eb765dfc6a5c13", func := "wireward/wirekeep.StepNat", spec := "stepNat", unfollowed := true, recurses := true, plainKeys := false, apart := false }
def StepNatSaid : Prop := stepNatRow.holds Try.pinned (OpenSpec.ofChange stepNatSpec)

/-- ITS FALSE NEIGHBOUR: 'it returns false'. Refute it at one input. -/
def stepNatWrong : ChangeSpec := { name := "stepNat", fn := fun _ => fun
  | [d1, d2, d3, d4] => { results := [.lit (.bool false)], args := [d1, d2, d3, d4] }
  | _ => none }
def StepNatWrongFalsely : Prop := stepNatRow.holds Try.pinned (OpenSpec.ofChange stepNatWrong)

/-- 'wirekeep.StepPins': WHATEVER THE INPUT: true; the input reads as it did. -/
def stepPinsSpec : ChangeSpec := { name := "stepPins", fn := fun _ => fun
  | [d1, d2, d3, d4, d5] => { results := [.lit (.bool true)], args := [d1, d2, d3, d4, d5] }
  | _ => none }
def stepPinsRow : OpenClaim := { program := "ytepfckicaafilaa", sum := "3235830b8700236f71a130124fd8b9912980e7dc41533576d9eb765dfc6a5c13", func := "wireward/wirekeep.StepPins", spec := "stepPins", unfollowed := true, recurses := true, plainKeys := false, apart := false }
def StepPinsSaid : Prop := stepPinsRow.holds Try.pinned (OpenSpec.ofChange stepPinsSpec)

/-- ITS FALSE NEIGHBOUR: 'it returns false'. Refute it at one input. -/
def stepPinsWrong : ChangeSpec := { name := "stepPins", fn := fun _ => fun
  | [d1, d2, d3, d4, d5] => { results := [.lit (.bool false)], args := [d1, d2, d3, d4, d5] }
  | _ => none }
def StepPinsWrongFalsely : Prop := stepPinsRow.holds Try.pinned (OpenSpec.ofChange stepPinsWrong)

/-- 'wirekeep.StepCopies': WHATEVER THE INPUT: true; the input reads as it did. -/
def stepCopiesSpec : ChangeSpec := { name := "stepCopies", fn := fun _ => fun
  | [d1, d2, d3] => { results := [.lit (.bool true)], args := [d1, d2, d3] }
  | _ => none }
def stepCopiesRow : OpenClaim := { program := "ytepfckicaafilaa", sum := "3235830b8700236f71a130124fd8b9912980e7dc41533576d9eb765dfc6a5c13", func := "wireward/wirekeep.StepCopies", spec := "stepCopies", inPlace := ["maps.clone"], unfollowed := true, recurses := true, plainKeys := false, apart := false }
def StepCopiesSaid : Prop := stepCopiesRow.holds Try.pinned (OpenSpec.ofChange stepCopiesSpec)

/-- ITS FALSE NEIGHBOUR: 'it returns false'. Refute it at one input. -/
def stepCopiesWrong : ChangeSpec := { name := "stepCopies", fn := fun _ => fun
  | [d1, d2, d3] => { results := [.lit (.bool false)], args := [d1, d2, d3] }
  | _ => none }
def StepCopiesWrongFalsely : Prop := stepCopiesRow.holds Try.pinned (OpenSpec.ofChange stepCopiesWrong)

/- THE SECOND FORM. 'bulk': how many values and letters a reading holds, each counted each time it is reached (what is shared counts as often as it is met; a slice's spare places count too). A statement '..UptoSaid' is the law's where the arguments, and the package variables that the reading takes, are together of bulk at most 1048576: NARROWER than '..Said'. Prove '..Said' where nothing that the law and all that it calls make is longer than what came in: it says more and counts as full. Else prove '..UptoSaid'. A law counts once. -/
mutual
def uptoBulk {H : Type} : DataW H → Nat
  | .lit (.string bytes) => bytes.length + 1
  | .lit _ => 1
  | .nil => 1
  | .ptr d => uptoBulk d + 1
  | .slice elems spare => uptoBulkAll elems + uptoBulkAll spare + 1
  | .agg parts => uptoBulkAll parts + 1
  | .iface _ d => uptoBulk d + 1
  | .map entries => uptoBulkEntries entries + 1
  | .held _ => 1
def uptoBulkAll {H : Type} : List (DataW H) → Nat
  | [] => 0
  | d :: r => uptoBulk d + uptoBulkAll r
def uptoBulkEntries {H : Type} : List (Lit × DataW H) → Nat
  | [] => 0
  | x :: r => uptoBulkEntry x + uptoBulkEntries r
def uptoBulkEntry {H : Type} : Lit × DataW H → Nat
  | (.string bytes, d) => bytes.length + uptoBulk d + 1
  | (_, d) => uptoBulk d + 1
 end
def uptoSmall : (H : Type) → List (DataW H) → Bool := fun _ ds => decide (uptoBulkAll ds ≤ 1048576)
def OpenSpec.upto (s : _root_.Go.ChangeSpec) : _root_.Go.OpenSpec := { _root_.Go.OpenSpec.ofChange s with cond := some uptoSmall }

/-- 'wirekeep.StepFire', WHERE WHAT IT READS IS OF BULK AT MOST 1048576: true; the input reads as it did. -/
def stepFireUptoRow : OpenClaim := { program := "ytepfckicaafilaa", sum := "3235830b8700236f71a130124fd8b9912980e7dc41533576d9eb765dfc6a5c13", func := "wireward/wirekeep.StepFire", spec := "stepFire", unfollowed := true, recurses := true, plainKeys := false, apart := false, narrowed := true }
def StepFireUptoSaid : Prop := stepFireUptoRow.holds Try.pinned (OpenSpec.upto stepFireSpec)

/-- 'wirekeep.StepNat', WHERE WHAT IT READS IS OF BULK AT MOST 1048576: true; the input reads as it did. -/
def stepNatUptoRow : OpenClaim := { program := "ytepfckicaafilaa", sum := "3235830b8700236f71a130124fd8b9912980e7dc41533576d9eb765dfc6a5c13", func := "wireward/wirekeep.StepNat", spec := "stepNat", unfollowed := true, recurses := true, plainKeys := false, apart := false, narrowed := true }
def StepNatUptoSaid : Prop := stepNatUptoRow.holds Try.pinned (OpenSpec.upto stepNatSpec)

/-- 'wirekeep.StepPins', WHERE WHAT IT READS IS OF BULK AT MOST 1048576: true; the input reads as it did. -/
def stepPinsUptoRow : OpenClaim := { program := "ytepfckicaafilaa", sum := "3235830b8700236f71a130124fd8b9912980e7dc41533576d9eb765dfc6a5c13", func := "wireward/wirekeep.StepPins", spec := "stepPins", unfollowed := true, recurses := true, plainKeys := false, apart := false, narrowed := true }
def StepPinsUptoSaid : Prop := stepPinsUptoRow.holds Try.pinned (OpenSpec.upto stepPinsSpec)

/-- 'wirekeep.StepCopies', WHERE WHAT IT READS IS OF BULK AT MOST 1048576: true; the input reads as it did. -/
def stepCopiesUptoRow : OpenClaim := { program := "ytepfckicaafilaa", sum := "3235830b8700236f71a130124fd8b9912980e7dc41533576d9eb765dfc6a5c13", func := "wireward/wirekeep.StepCopies", spec := "stepCopies", inPlace := ["maps.clone"], unfollowed := true, recurses := true, plainKeys := false, apart := false, narrowed := true }
def StepCopiesUptoSaid : Prop := stepCopiesUptoRow.holds Try.pinned (OpenSpec.upto stepCopiesSpec)

end Rows
end Go.Proofs.Ytepfckicaafilaa
