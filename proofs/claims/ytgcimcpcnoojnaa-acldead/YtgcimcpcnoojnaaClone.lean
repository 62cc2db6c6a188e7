/-
  slices.Clone of rules.
-/
import Derived.Test.YtgcimcpcnoojnaaApp
import Derived.Lib.SliceRun
namespace Go.Proofs.Ytgcimcpcnoojnaa
open Go.RowKit

set_option maxHeartbeats 1000000 in
set_option maxRecDepth 100000 in
theorem clone_any {v : Value} {xs : List Rl} (w : World) (h : Rules w.heap.size w v xs) (hs : xs.length ≤ 1099511627776) :
    Calls Try.prog 51 #[v] w fun e w' => ∃ v', e = .returned v' ∧ w'.ownsRow w.heap.size 78 5 v' xs.length (cellsR xs) ∧ Below w.heap.size w w' := by
  have q : ∀ (w : World) (a : Option Addr) (n c n' c' : Nat), (binOp .eql 57 (.slice a n c) (.slice none n' c')).run Try.prog w = .ok (.bool a.isNone) w := fun w a n c n' c' => Lib.run_eql_slice_nil w _ _ a n c n' c' Try.uRules
  have D0 := Below.alloc' (Below.refl w.heap.size w) (.cells #[] 78)
  have o0 : (w.alloc (.cells #[] 78)).ownsRow w.heap.size 78 5 (.slice (some ⟨w.heap.size, 0, none⟩) 0 0) ([] : List Rl).length (cellsR []) := World.ownsRow_made w #[] 0 (Nat.le_refl _) (Nat.zero_le _) (by simp)
  have hR := (h.below D0).mono (base' := (w.alloc (.cells #[] 78)).heap.size) (by simp)
  obtain ⟨v', w', hr, h4, h5⟩ := app_rules 57 o0 hR (by simpa using hs) (by simp)
  have D1 := Below.app D0 o0 h5 (Nat.le_refl _) (by simp)
  simp only [List.nil_append] at h4
  obtain ⟨A, cap, rfl, g0, g1, g2, g3⟩ := h
  cases A with
  | none =>
    have hx : xs = [] := by
      by_cases hn : xs = []
      · exact hn
      · obtain ⟨_, _, e, _⟩ := g3 hn
        cases e
    subst hx
    clear hr h4 h5 D1 hR hs
    go_enter Try.func51, Try.ntmps51
    go_wp2_with fail
    go_ret
    exact ⟨_, rfl, World.ownsRow_nil _ _ _ _, Below.refl _ _⟩
  | some ad =>
    have fin : Hid (w'.ownsRow w.heap.size 78 5 v' xs.length (cellsR xs) ∧ Below w.heap.size w w') := ⟨h4, D1⟩
    clear g0 g1 g2 g3 hR h5 hs o0 D0 h4 D1
    generalize xs.length = n at *
    go_enter Try.func51, Try.ntmps51
    go_wp2_with (at_builtin; refine append_run rfl _ _ 57 rfl rfl rfl hr ?_)
    go_ret
    exact ⟨_, rfl, fin.out⟩
end Go.Proofs.Ytgcimcpcnoojnaa


