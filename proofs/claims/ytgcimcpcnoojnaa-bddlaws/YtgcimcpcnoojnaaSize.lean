/-
  How many nodes an arena has.
-/
import Derived.Test.YtgcimcpcnoojnaaWalk1
namespace Go.Proofs.Ytgcimcpcnoojnaa
open Go.RowKit Go.Maps

section
variable {C : Cfg} {w : World} {ns : List Nd} {full : Bool} {N : Nat} {m1 : Nd → Option Nat} {m2 : Mx → Option Nat} {m3 : Nat → Option Nat}
variable {w0 w1 : World}
variable {base a M vars most : Nat} {w : World} {ns : List Nd}
set_option maxHeartbeats 1000000 in
theorem size_any (h : Ar base a M vars most w ns) : Calls Try.prog 14 #[.pointer (some ⟨a, 0, none⟩)] w fun e w' => e = .returned (.int .i64 (ns.length : Int)) ∧ w' = w := by
  obtain ⟨cap, a0, a1, a2, a3, af, an⟩ := h.reads
  clear h an
  go_enter Try.func14, Try.ntmps14
  go_wp2_with fail
  go_ret
  exact ⟨rfl, rfl⟩
end
end Go.Proofs.Ytgcimcpcnoojnaa


