/-
  No cell of these rows narrows 'for every input' (looked for: loops, veiled, ifaces, maps, wideKeys, modest, calm, conditions, laid).
  DERIVED. THE GIVEN ROWS OF THIS SEAT. 6 by the template 'for every input the law returns true; each argument reads behind the call as it read before'; 0 by the template 'total and deterministic' (their statements: YtgcimcpcnoojnaaTotals.lean).
  GIVEN WITH THE SEED: the statements are not yours to turn. If you find one false, say at which input.
  Laid BY PROGRAM, IN A SANDBOX (cutbox-rows.mjs): the forced cells as the released guide's own fill.sh prints them over the translation 0c06b419f7fa20be… (all of the seat's roots in one cut). By AI agents, Wed Nov 11 2026. No macro, syntax, notation, axiom, sorry.
-/
import Derived.Test.YtgcimcpcnoojnaaChecked
import GoSem.Claim
import GoSem.ClaimJoined
import GoSem.ClaimMapViews
import Derived.JoinedTies
import Derived.KernelRfl
namespace Go.Proofs.Ytgcimcpcnoojnaa
/- THE CELL 'sum', in the pinned program and in every row, IS THE sha256 OF THE DUMP (.gsa) THAT YtgcimcpcnoojnaaProg.lean LOADS. Nothing in Lean hashes anything: it is a label: what it is worth is what the hold of that sum in a sandbox is worth. -/
noncomputable def Try.pinned : Pinned := { name := "ytgcimcpcnoojnaa", sum := "0c06b419f7fa20be8383f84439fd6e39953dc057564ef9428de240d35d8a1297", checked := Try.checked }
namespace Rows
def none {H : Type} : Left H := { results := [], args := [] }

/-- 'wirelaw.BddPlays': WHATEVER THE INPUT: true; the input reads as it did. -/
def bddPlaysSpec : ChangeSpec := { name := "bddPlays", fn := fun _ => fun
  | [d1, d2, d3] => { results := [.lit (.bool true)], args := [d1, d2, d3] }
  | _ => none }
def bddPlaysRow : OpenClaim := { program := "ytgcimcpcnoojnaa", sum := "0c06b419f7fa20be8383f84439fd6e39953dc057564ef9428de240d35d8a1297", func := "wireward/wirelaw.BddPlays", spec := "bddPlays", unfollowed := true, recurses := true, plainKeys := false, apart := false }
def BddPlaysSaid : Prop := bddPlaysRow.holds Try.pinned (OpenSpec.ofChange bddPlaysSpec)

/-- ITS FALSE NEIGHBOUR: 'it returns false'. Refute it at one input. -/
def bddPlaysWrong : ChangeSpec := { name := "bddPlays", fn := fun _ => fun
  | [d1, d2, d3] => { results := [.lit (.bool false)], args := [d1, d2, d3] }
  | _ => none }
def BddPlaysWrongFalsely : Prop := bddPlaysRow.holds Try.pinned (OpenSpec.ofChange bddPlaysWrong)

/-- 'wirelaw.MatchBuilds': WHATEVER THE INPUT: true; the input reads as it did. -/
def matchBuildsSpec : ChangeSpec := { name := "matchBuilds", fn := fun _ => fun
  | [d1, d2] => { results := [.lit (.bool true)], args := [d1, d2] }
  | _ => none }
def matchBuildsRow : OpenClaim := { program := "ytgcimcpcnoojnaa", sum := "0c06b419f7fa20be8383f84439fd6e39953dc057564ef9428de240d35d8a1297", func := "wireward/wirelaw.MatchBuilds", spec := "matchBuilds", unfollowed := true, recurses := true, plainKeys := false, apart := false }
def MatchBuildsSaid : Prop := matchBuildsRow.holds Try.pinned (OpenSpec.ofChange matchBuildsSpec)

/-- ITS FALSE NEIGHBOUR: 'it returns false'. Refute it at one input. -/
def matchBuildsWrong : ChangeSpec := { name := "matchBuilds", fn := fun _ => fun
  | [d1, d2] => { results := [.lit (.bool false)], args := [d1, d2] }
  | _ => none }
def MatchBuildsWrongFalsely : Prop := matchBuildsRow.holds Try.pinned (OpenSpec.ofChange matchBuildsWrong)

/-- 'wirelaw.AclSays': WHATEVER THE INPUT: true; the input reads as it did. -/
def aclSaysSpec : ChangeSpec := { name := "aclSays", fn := fun _ => fun
  | [d1, d2] => { results := [.lit (.bool true)], args := [d1, d2] }
  | _ => none }
def aclSaysRow : OpenClaim := { program := "ytgcimcpcnoojnaa", sum := "0c06b419f7fa20be8383f84439fd6e39953dc057564ef9428de240d35d8a1297", func := "wireward/wirelaw.AclSays", spec := "aclSays", unfollowed := true, recurses := true, plainKeys := false, apart := false }
def AclSaysSaid : Prop := aclSaysRow.holds Try.pinned (OpenSpec.ofChange aclSaysSpec)

/-- ITS FALSE NEIGHBOUR: 'it returns false'. Refute it at one input. -/
def aclSaysWrong : ChangeSpec := { name := "aclSays", fn := fun _ => fun
  | [d1, d2] => { results := [.lit (.bool false)], args := [d1, d2] }
  | _ => none }
def AclSaysWrongFalsely : Prop := aclSaysRow.holds Try.pinned (OpenSpec.ofChange aclSaysWrong)

/-- 'wirelaw.FibSays': WHATEVER THE INPUT: true; the input reads as it did. -/
def fibSaysSpec : ChangeSpec := { name := "fibSays", fn := fun _ => fun
  | [d1, d2, d3] => { results := [.lit (.bool true)], args := [d1, d2, d3] }
  | _ => none }
def fibSaysRow : OpenClaim := { program := "ytgcimcpcnoojnaa", sum := "0c06b419f7fa20be8383f84439fd6e39953dc057564ef9428de240d35d8a1297", func := "wireward/wirelaw.FibSays", spec := "fibSays", unfollowed := true, recurses := true, plainKeys := false, apart := false }
def FibSaysSaid : Prop := fibSaysRow.holds Try.pinned (OpenSpec.ofChange fibSaysSpec)

/-- ITS FALSE NEIGHBOUR: 'it returns false'. Refute it at one input. -/
def fibSaysWrong : ChangeSpec := { name := "fibSays", fn := fun _ => fun
  | [d1, d2, d3] => { results := [.lit (.bool false)], args := [d1, d2, d3] }
  | _ => none }
def FibSaysWrongFalsely : Prop := fibSaysRow.holds Try.pinned (OpenSpec.ofChange fibSaysWrong)

/-- 'wirekeep.BddLaws': WHATEVER THE INPUT: true; the input reads as it did. -/
def bddLawsSpec : ChangeSpec := { name := "bddLaws", fn := fun _ => fun
  | [d1, d2, d3, d4] => { results := [.lit (.bool true)], args := [d1, d2, d3, d4] }
  | _ => none }
def bddLawsRow : OpenClaim := { program := "ytgcimcpcnoojnaa", sum := "0c06b419f7fa20be8383f84439fd6e39953dc057564ef9428de240d35d8a1297", func := "wireward/wirekeep.BddLaws", spec := "bddLaws", recurses := true, plainKeys := false, apart := false }
def BddLawsSaid : Prop := bddLawsRow.holds Try.pinned (OpenSpec.ofChange bddLawsSpec)

/-- ITS FALSE NEIGHBOUR: 'it returns false'. Refute it at one input. -/
def bddLawsWrong : ChangeSpec := { name := "bddLaws", fn := fun _ => fun
  | [d1, d2, d3, d4] => { results := [.lit (.bool false)], args := [d1, d2, d3, d4] }
  | _ => none }
def BddLawsWrongFalsely : Prop := bddLawsRow.holds Try.pinned (OpenSpec.ofChange bddLawsWrong)

/-- 'wirekeep.AclDead': WHATEVER THE INPUT: true; the input reads as it did. -/
def aclDeadSpec : ChangeSpec := { name := "aclDead", fn := fun _ => fun
  | [d1, d2] => { results := [.lit (.bool true)], args := [d1, d2] }
  | _ => none }
def aclDeadRow : OpenClaim := { program := "ytgcimcpcnoojnaa", sum := "0c06b419f7fa20be8383f84439fd6e39953dc057564ef9428de240d35d8a1297", func := "wireward/wirekeep.AclDead", spec := "aclDead", unfollowed := true, recurses := true, plainKeys := false, apart := false }
def AclDeadSaid : Prop := aclDeadRow.holds Try.pinned (OpenSpec.ofChange aclDeadSpec)

/-- ITS FALSE NEIGHBOUR: 'it returns false'. Refute it at one input. -/
def aclDeadWrong : ChangeSpec := { name := "aclDead", fn := fun _ => fun
  | [d1, d2] => { results := [.lit (.bool false)], args := [d1, d2] }
  | _ => none }
def AclDeadWrongFalsely : Prop := aclDeadRow.holds Try.pinned (OpenSpec.ofChange aclDeadWrong)

/- THE SECOND FORM. 'bulk': how many values and letters a reading holds, each counted each time it is reached (what is shared counts as often as it is met; a slice's spare places count too). A statement '..UptoSaid' is the law's where the arguments, and the package variables that the reading takes, are together of bulk at most 1048576: NARROWER than '..Said'. Prove '..Said' where nothing that the law and all that it calls make is longer than what came in: it says more and counts as full. Else prove '..UptoSaid'. A law counts once. -/
mutual
def uptoBulk {H : Type} : DataW H → Nat
  | .lit (.string bytes) => bytes.length + 1
  | .lit _ => 1
  | .nil => 1
  | .ptr d => uptoBulk d + 1
  | .slice elems spare => uptoBulkAll elems + uptoBulkAll spare + 1
  | .agg parts => uptoBulkAll parts + 1
  | .iface _ d => uptoBulk d + 1
  | .map entries => uptoBulkEntries entries + 1
  | .held _ => 1
def uptoBulkAll {H : Type} : List (DataW H) → Nat
  | [] => 0
  | d :: r => uptoBulk d + uptoBulkAll r
def uptoBulkEntries {H : Type} : List (Lit × DataW H) → Nat
  | [] => 0
  | x :: r => uptoBulkEntry x + uptoBulkEntries r
def uptoBulkEntry {H : Type} : Lit × DataW H → Nat
  | (.string bytes, d) => bytes.length + uptoBulk d + 1
  | (_, d) => uptoBulk d + 1
 end
def uptoSmall : (H : Type) → List (DataW H) → Bool := fun _ ds => decide (uptoBulkAll ds ≤ 1048576)
def OpenSpec.upto (s : _root_.Go.ChangeSpec) : _root_.Go.OpenSpec := { _root_.Go.OpenSpec.ofChange s with cond := some uptoSmall }

/-- 'wirelaw.BddPlays', WHERE WHAT IT READS IS OF BULK AT MOST 1048576: true; the input reads as it did. -/
def bddPlaysUptoRow : OpenClaim := { program := "ytgcimcpcnoojnaa", sum := "0c06b419f7fa20be8383f84439fd6e39953dc057564ef9428de240d35d8a1297", func := "wireward/wirelaw.BddPlays", spec := "bddPlays", unfollowed := true, recurses := true, plainKeys := false, apart := false, narrowed := true }
def BddPlaysUptoSaid : Prop := bddPlaysUptoRow.holds Try.pinned (OpenSpec.upto bddPlaysSpec)

/-- 'wirelaw.MatchBuilds', WHERE WHAT IT READS IS OF BULK AT MOST 1048576: true; the input reads as it did. -/
def matchBuildsUptoRow : OpenClaim := { program := "ytgcimcpcnoojnaa", sum := "0c06b419f7fa20be8383f84439fd6e39953dc057564ef9428de240d35d8a1297", func := "wireward/wirelaw.MatchBuilds", spec := "matchBuilds", unfollowed := true, recurses := true, plainKeys := false, apart := false, narrowed := true }
def MatchBuildsUptoSaid : Prop := matchBuildsUptoRow.holds Try.pinned (OpenSpec.upto matchBuildsSpec)

/-- 'wirelaw.AclSays', WHERE WHAT IT READS IS OF BULK AT MOST 1048576: true; the input reads as it did. -/
def aclSaysUptoRow : OpenClaim := { program := "ytgcimcpcnoojnaa", sum := "0c06b419f7fa20be8383f84439fd6e39953dc057564ef9428de240d35d8a1297", func := "wireward/wirelaw.AclSays", spec := "aclSays", unfollowed := true, recurses := true, plainKeys := false, apart := false, narrowed := true }
def AclSaysUptoSaid : Prop := aclSaysUptoRow.holds Try.pinned (OpenSpec.upto aclSaysSpec)

/-- 'wirelaw.FibSays', WHERE WHAT IT READS IS OF BULK AT MOST 1048576: true; the input reads as it did. -/
def fibSaysUptoRow : OpenClaim := { program := "ytgcimcpcnoojnaa", sum := "0c06b419f7fa20be8383f84439fd6e39953dc057564ef9428de240d35d8a1297", func := "wireward/wirelaw.FibSays", spec := "fibSays", unfollowed := true, recurses := true, plainKeys := false, apart := false, narrowed := true }
def FibSaysUptoSaid : Prop := fibSaysUptoRow.holds Try.pinned (OpenSpec.upto fibSaysSpec)

/-- 'wirekeep.BddLaws', WHERE WHAT IT READS IS OF BULK AT MOST 1048576: true; the input reads as it did. -/
def bddLawsUptoRow : OpenClaim := { program := "ytgcimcpcnoojnaa", sum := "0c06b419f7fa20be8383f84439fd6e39953dc057564ef9428de240d35d8a1297", func := "wireward/wirekeep.BddLaws", spec := "bddLaws", recurses := true, plainKeys := false, apart := false, narrowed := true }
def BddLawsUptoSaid : Prop := bddLawsUptoRow.holds Try.pinned (OpenSpec.upto bddLawsSpec)

/-- 'wirekeep.AclDead', WHERE WHAT IT READS IS OF BULK AT MOST 1048576: true; the input reads as it did. -/
def aclDeadUptoRow : OpenClaim := { program := "ytgcimcpcnoojnaa", sum := "0c06b419f7fa20be8383f84439fd6e39953dc057564ef9428de240d35d8a1297", func := "wireward/wirekeep.AclDead", spec := "aclDead", unfollowed := true, recurses := true, plainKeys := false, apart := false, narrowed := true }
def AclDeadUptoSaid : Prop := aclDeadUptoRow.holds Try.pinned (OpenSpec.upto aclDeadSpec)

end Rows
end Go.Proofs.Ytgcimcpcnoojnaa
