/-
  The document's answer on nets: In, Ports, Peer.
-/
import Derived.Test.YtnkgjkoncglfjaaGreatDoorZC
namespace Go.Proofs.YtnkgjkoncglfjaaGreatDoor
open Go.RowKit

theorem inN (n lo hi : Int) (w : World) : Calls Tryz.prog 34 #[.int .i64 n, .int .i64 lo, .int .i64 hi] w fun e w' => e = .returned (.bool (decide (lo ≤ n) && decide (n ≤ hi))) ∧ w' = w := by
  by_cases h : lo ≤ n
  · go_enter Tryz.func34, Tryz.ntmps34
    go_wp2_with fail
    go_ret
    exact ⟨by simp [h], rfl⟩
  · have h' : decide (lo ≤ n) = false := by simp; omega
    go_enter Tryz.func34, Tryz.ntmps34
    go_wp2_with fail
    go_ret
    exact ⟨by simp, rfl⟩
set_option maxHeartbeats 1000000 in
theorem rports_any (k : Int) (w : World) : Calls Tryz.prog 36 #[.int .i64 k] w fun e w' => e = .returned (.int .i64 (portsV k)) ∧ Below w.heap.size w w' := by
  have IN : Hid (∀ w, Calls Tryz.prog 34 #[.int .i64 k, .int .i64 1, .int .i64 5] w fun e w' => e = .returned (.bool (decide (1 ≤ k) && decide (k ≤ 5))) ∧ w' = w) := fun w => inN k 1 5 w
  by_cases h : 1 ≤ k ∧ k ≤ 5
  · rw [show (decide (1 ≤ k) && decide (k ≤ 5)) = true by simp [h]] at IN
    have hk : k = 1 ∨ k = 2 ∨ k = 3 ∨ k = 4 ∨ k = 5 := by omega
    clear h
    rcases hk with rfl | rfl | rfl | rfl | rfl
    all_goals
      go_enter Tryz.func36, Tryz.ntmps36
      go_wp2_with fail
      refine (IN.out _).mono ?_
      rintro e w1 ⟨rfl, rfl⟩
      go_wp2_with fail
      go_ret
      exact ⟨rfl, Below.alN (Below.refl _ _) _⟩
  · rw [show (decide (1 ≤ k) && decide (k ≤ 5)) = false by
      rw [Bool.eq_false_iff]
      simp only [ne_eq, Bool.and_eq_true, decide_eq_true_eq]
      exact h] at IN
    have e : portsV k = 0 := by
      unfold portsV
      rw [if_neg (by omega), if_neg (by omega), if_neg (by omega)]
    rw [e]
    clear h e
    go_enter Tryz.func36, Tryz.ntmps36
    go_wp2_with fail
    refine (IN.out _).mono ?_
    rintro e w1 ⟨rfl, rfl⟩
    go_wp2_with fail
    go_ret
    exact ⟨rfl, Below.refl _ _⟩

end Go.Proofs.YtnkgjkoncglfjaaGreatDoor


