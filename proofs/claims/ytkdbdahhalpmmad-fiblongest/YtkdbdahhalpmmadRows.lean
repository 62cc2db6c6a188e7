/-
  No cell of these rows narrows 'for every input' (looked for: loops, veiled, ifaces, maps, wideKeys, modest, calm, conditions, laid).
  DERIVED. THE GIVEN ROWS OF THIS SEAT. 5 by the template 'for every input the law returns true; each argument reads behind the call as it read before'; 0 by the template 'total and deterministic' (their statements: YtkdbdahhalpmmadTotals.lean).
  GIVEN WITH THE SEED: the statements are not yours to turn. If you find one false, say at which input.
  Laid BY PROGRAM, IN A SANDBOX (cutbox-rows.mjs): the forced cells as the released guide's own fill.sh prints them over the translation 90123af63020df42… (all of the seat's roots in one cut). By AI agents, Wed Nov 11 2026. No macro, syntax, notation, axiom, sorry.
-/
import Derived.Test.YtkdbdahhalpmmadChecked
import GoSem.Claim
import GoSem.ClaimJoined
import GoSem.ClaimMapViews
import Derived.JoinedTies
import Derived.KernelRfl
namespace Go.Proofs.Ytkdbdahhalpmmad
/- THE CELL 'sum', in the pinned program and in every row, IS THE sha256 OF THE DUMP (.gsa) THAT YtkdbdahhalpmmadProg.lean LOADS. Nothing in Lean hashes anything: it is a label: what it is worth is what the hold of that sum in a sandbox is worth. -/
noncomputable def Try.pinned : Pinned := { name := "ytkdbdahhalpmmad", sum := "90123af63020df429716f94f62bcbb5bf3b35373b8e853e43b654aed97b29d5a", checked := Try.checked }
namespace Rows
def none {H : Type} : Left H := { results := [], args := [] }

/-- 'wirekeep.BddLaws': WHATEVER THE INPUT: true; the input reads as it did. -/
def bddLawsSpec : ChangeSpec := { name := "bddLaws", fn := fun _ => fun
  | [d1, d2, d3, d4] => { results := [.lit (.bool true)], args := [d1, d2, d3, d4] }
  | _ => none }
def bddLawsRow : OpenClaim := { program := "ytkdbdahhalpmmad", sum := "90123af63020df429716f94f62bcbb5bf3b35373b8e853e43b654aed97b29d5a", func := "wireward/wirekeep.BddLaws", spec := "bddLaws", recurses := true, plainKeys := false, apart := false }
def BddLawsSaid : Prop := bddLawsRow.holds Try.pinned (OpenSpec.ofChange bddLawsSpec)

/-- ITS FALSE NEIGHBOUR: 'it returns false'. Refute it at one input. -/
def bddLawsWrong : ChangeSpec := { name := "bddLaws", fn := fun _ => fun
  | [d1, d2, d3, d4] => { results := [.lit (.bool false)], args := [d1, d2, d3, d4] }
  | _ => none }
def BddLawsWrongFalsely : Prop := bddLawsRow.holds Try.pinned (OpenSpec.ofChange bddLawsWrong)

/-- 'wirekeep.MatchMeets': WHATEVER THE INPUT: true; the input reads as it did. -/
def matchMeetsSpec : ChangeSpec := { name := "matchMeets", fn := fun _ => fun
  | [d1, d2, d3] => { results := [.lit (.bool true)], args := [d1, d2, d3] }
  | _ => none }
def matchMeetsRow : OpenClaim := { program := "ytkdbdahhalpmmad", sum := "90123af63020df429716f94f62bcbb5bf3b35373b8e853e43b654aed97b29d5a", func := "wireward/wirekeep.MatchMeets", spec := "matchMeets", plainKeys := false, apart := false }
def MatchMeetsSaid : Prop := matchMeetsRow.holds Try.pinned (OpenSpec.ofChange matchMeetsSpec)

/-- ITS FALSE NEIGHBOUR: 'it returns false'. Refute it at one input. -/
def matchMeetsWrong : ChangeSpec := { name := "matchMeets", fn := fun _ => fun
  | [d1, d2, d3] => { results := [.lit (.bool false)], args := [d1, d2, d3] }
  | _ => none }
def MatchMeetsWrongFalsely : Prop := matchMeetsRow.holds Try.pinned (OpenSpec.ofChange matchMeetsWrong)

/-- 'wirekeep.AclFirst': WHATEVER THE INPUT: true; the input reads as it did. -/
def aclFirstSpec : ChangeSpec := { name := "aclFirst", fn := fun _ => fun
  | [d1, d2, d3, d4] => { results := [.lit (.bool true)], args := [d1, d2, d3, d4] }
  | _ => none }
def aclFirstRow : OpenClaim := { program := "ytkdbdahhalpmmad", sum := "90123af63020df429716f94f62bcbb5bf3b35373b8e853e43b654aed97b29d5a", func := "wireward/wirekeep.AclFirst", spec := "aclFirst", plainKeys := false, apart := false }
def AclFirstSaid : Prop := aclFirstRow.holds Try.pinned (OpenSpec.ofChange aclFirstSpec)

/-- ITS FALSE NEIGHBOUR: 'it returns false'. Refute it at one input. -/
def aclFirstWrong : ChangeSpec := { name := "aclFirst", fn := fun _ => fun
  | [d1, d2, d3, d4] => { results := [.lit (.bool false)], args := [d1, d2, d3, d4] }
  | _ => none }
def AclFirstWrongFalsely : Prop := aclFirstRow.holds Try.pinned (OpenSpec.ofChange aclFirstWrong)

/-- 'wirekeep.AclDead': WHATEVER THE INPUT: true; the input reads as it did. -/
def aclDeadSpec : ChangeSpec := { name := "aclDead", fn := fun _ => fun
  | [d1, d2] => { results := [.lit (.bool true)], args := [d1, d2] }
  | _ => none }
def aclDeadRow : OpenClaim := { program := "ytkdbdahhalpmmad", sum := "90123af63020df429716f94f62bcbb5bf3b35373b8e853e43b654aed97b29d5a", func := "wireward/wirekeep.AclDead", spec := "aclDead", unfollowed := true, recurses := true, plainKeys := false, apart := false }
def AclDeadSaid : Prop := aclDeadRow.holds Try.pinned (OpenSpec.ofChange aclDeadSpec)

/-- ITS FALSE NEIGHBOUR: 'it returns false'. Refute it at one input. -/
def aclDeadWrong : ChangeSpec := { name := "aclDead", fn := fun _ => fun
  | [d1, d2] => { results := [.lit (.bool false)], args := [d1, d2] }
  | _ => none }
def AclDeadWrongFalsely : Prop := aclDeadRow.holds Try.pinned (OpenSpec.ofChange aclDeadWrong)

/-- 'wirekeep.FibLongest': WHATEVER THE INPUT: true; the input reads as it did. -/
def fibLongestSpec : ChangeSpec := { name := "fibLongest", fn := fun _ => fun
  | [d1, d2, d3] => { results := [.lit (.bool true)], args := [d1, d2, d3] }
  | _ => none }
def fibLongestRow : OpenClaim := { program := "ytkdbdahhalpmmad", sum := "90123af63020df429716f94f62bcbb5bf3b35373b8e853e43b654aed97b29d5a", func := "wireward/wirekeep.FibLongest", spec := "fibLongest", unfollowed := true, recurses := true, plainKeys := false, apart := false }
def FibLongestSaid : Prop := fibLongestRow.holds Try.pinned (OpenSpec.ofChange fibLongestSpec)

/-- ITS FALSE NEIGHBOUR: 'it returns false'. Refute it at one input. -/
def fibLongestWrong : ChangeSpec := { name := "fibLongest", fn := fun _ => fun
  | [d1, d2, d3] => { results := [.lit (.bool false)], args := [d1, d2, d3] }
  | _ => none }
def FibLongestWrongFalsely : Prop := fibLongestRow.holds Try.pinned (OpenSpec.ofChange fibLongestWrong)

/- THE SECOND FORM. 'bulk': how many values and letters a reading holds, each counted each time it is reached (what is shared counts as often as it is met; a slice's spare places count too). A statement '..UptoSaid' is the law's where the arguments, and the package variables that the reading takes, are together of bulk at most 1048576: NARROWER than '..Said'. Prove '..Said' where nothing that the law and all that it calls make is longer than what came in: it says more and counts as full. Else prove '..UptoSaid'. A law counts once. -/
mutual
def uptoBulk {H : Type} : DataW H → Nat
  | .lit (.string bytes) => bytes.length + 1
  | .lit _ => 1
  | .nil => 1
  | .ptr d => uptoBulk d + 1
  | .slice elems spare => uptoBulkAll elems + uptoBulkAll spare + 1
  | .agg parts => uptoBulkAll parts + 1
  | .iface _ d => uptoBulk d + 1
  | .map entries => uptoBulkEntries entries + 1
  | .held _ => 1
def uptoBulkAll {H : Type} : List (DataW H) → Nat
  | [] => 0
  | d :: r => uptoBulk d + uptoBulkAll r
def uptoBulkEntries {H : Type} : List (Lit × DataW H) → Nat
  | [] => 0
  | x :: r => uptoBulkEntry x + uptoBulkEntries r
def uptoBulkEntry {H : Type} : Lit × DataW H → Nat
  | (.string bytes, d) => bytes.length + uptoBulk d + 1
  | (_, d) => uptoBulk d + 1
 end
def uptoSmall : (H : Type) → List (DataW H) → Bool := fun _ ds => decide (uptoBulkAll ds ≤ 1048576)
def OpenSpec.upto (s : _root_.Go.ChangeSpec) : _root_.Go.OpenSpec := { _root_.Go.OpenSpec.ofChange s with cond := some uptoSmall }

/-- 'wirekeep.BddLaws', WHERE WHAT IT READS IS OF BULK AT MOST 1048576: true; the input reads as it did. -/
def bddLawsUptoRow : OpenClaim := { program := "ytkdbdahhalpmmad", sum := "90123af63020df429716f94f62bcbb5bf3b35373b8e853e43b654aed97b29d5a", func := "wireward/wirekeep.BddLaws", spec := "bddLaws", recurses := true, plainKeys := false, apart := false, narrowed := true }
def BddLawsUptoSaid : Prop := bddLawsUptoRow.holds Try.pinned (OpenSpec.upto bddLawsSpec)

/-- 'wirekeep.MatchMeets', WHERE WHAT IT READS IS OF BULK AT MOST 1048576: true; the input reads as it did. -/
def matchMeetsUptoRow : OpenClaim := { program := "ytkdbdahhalpmmad", sum := "90123af63020df429716f94f62bcbb5bf3b35373b8e853e43b654aed97b29d5a", func := "wireward/wirekeep.MatchMeets", spec := "matchMeets", plainKeys := false, apart := false, narrowed := true }
def MatchMeetsUptoSaid : Prop := matchMeetsUptoRow.holds Try.pinned (OpenSpec.upto matchMeetsSpec)

/-- 'wirekeep.AclFirst', WHERE WHAT IT READS IS OF BULK AT MOST 1048576: true; the input reads as it did. -/
def aclFirstUptoRow : OpenClaim := { program := "ytkdbdahhalpmmad", sum := "90123af63020df429716f94f62bcbb5bf3b35373b8e853e43b654aed97b29d5a", func := "wireward/wirekeep.AclFirst", spec := "aclFirst", plainKeys := false, apart := false, narrowed := true }
def AclFirstUptoSaid : Prop := aclFirstUptoRow.holds Try.pinned (OpenSpec.upto aclFirstSpec)

/-- 'wirekeep.AclDead', WHERE WHAT IT READS IS OF BULK AT MOST 1048576: true; the input reads as it did. -/
def aclDeadUptoRow : OpenClaim := { program := "ytkdbdahhalpmmad", sum := "90123af63020df429716f94f62bcbb5bf3b35373b8e853e43b654aed97b29d5a", func := "wireward/wirekeep.AclDead", spec := "aclDead", unfollowed := true, recurses := true, plainKeys := false, apart := false, narrowed := true }
def AclDeadUptoSaid : Prop := aclDeadUptoRow.holds Try.pinned (OpenSpec.upto aclDeadSpec)

/-- 'wirekeep.FibLongest', WHERE WHAT IT READS IS OF BULK AT MOST 1048576: true; the input reads as it did. -/
def fibLongestUptoRow : OpenClaim := { program := "ytkdbdahhalpmmad", sum := "90123af63020df429716f94f62bcbb5bf3b35373b8e853e43b654aed97b29d5a", func := "wireward/wirekeep.FibLongest", spec := "fibLongest", unfollowed := true, recurses := true, plainKeys := false, apart := false, narrowed := true }
def FibLongestUptoSaid : Prop := fibLongestUptoRow.holds Try.pinned (OpenSpec.upto fibLongestSpec)

end Rows
end Go.Proofs.Ytkdbdahhalpmmad
