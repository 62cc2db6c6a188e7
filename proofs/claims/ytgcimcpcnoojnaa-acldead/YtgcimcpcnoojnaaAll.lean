/-
  match.All.
-/
import Derived.Test.YtgcimcpcnoojnaaHas
namespace Go.Proofs.Ytgcimcpcnoojnaa
open Go.RowKit

theorem all_any (w : World) :
    Calls Try.prog 54 #[] w fun e w' => e = .returned (mt 65535 65535 255 255) ∧ Below w.heap.size w w' := by
  go_enter Try.func54, Try.ntmps54
  go_wp2_with fail
  exact bodyPost_ret (v := mt 65535 65535 255 255) (by simp [results, Try.results54, go_sem]) rfl ⟨rfl, by go_grown⟩

end Go.Proofs.Ytgcimcpcnoojnaa


