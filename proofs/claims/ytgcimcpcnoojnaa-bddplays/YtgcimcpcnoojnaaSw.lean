/-
  Bits with two variables exchanged, as settings; New at wrong arguments.
-/
import Derived.Test.YtgcimcpcnoojnaaRef5
namespace Go.Proofs.Ytgcimcpcnoojnaa
open Go.RowKit Go.Maps

theorem sw_test (b ki kj m : Nat) : (swBits b ki kj).testBit m = if m = ki then b.testBit kj else if m = kj then b.testBit ki else b.testBit m := by
  unfold swBits
  by_cases e1 : m = ki
  · subst e1
    by_cases e2 : m = kj
    · subst e2
      cases h1 : b.testBit m <;> simp [clr_test]
    · have e3 : ¬ kj = m := fun h => e2 h.symm
      cases h1 : b.testBit m <;> cases h2 : b.testBit kj <;> simp [clr_test, e3]
  · have e4 : ¬ ki = m := fun h => e1 h.symm
    by_cases e2 : m = kj
    · subst e2
      cases h1 : b.testBit ki <;> cases h2 : b.testBit m <;> simp [clr_test, e1, e4]
    · have e3 : ¬ kj = m := fun h => e2 h.symm
      cases h1 : b.testBit ki <;> cases h2 : b.testBit kj <;> simp [clr_test, e1, e2, e3, e4]
theorem envOf_sw {vars b i j x : Nat} (hi : i < vars) (hj : j < vars) (hx : x < vars) : envOf vars (swBits b (vars - 1 - i) (vars - 1 - j)) x = swE (envOf vars b) i j x := by
  unfold envOf swE
  rw [sw_test]
  have c1 : (vars - 1 - x = vars - 1 - i) ↔ x = i := by omega
  have c2 : (vars - 1 - x = vars - 1 - j) ↔ x = j := by omega
  simp only [c1, c2]

set_option maxHeartbeats 2000000 in
set_option maxRecDepth 100000 in
theorem new_wrong (v m : Int) (w : World) (h : ¬ ((1 ≤ v ∧ v ≤ 16) ∧ (2 ≤ m ∧ m ≤ 40000))) :
    Calls Try.prog 9 #[.int .i64 v, .int .i64 m] w fun e w' => e = .returned (.tuple #[.pointer none, .int .i64 1]) ∧ w' = w := by
  by_cases h1 : v < 1
  · have t1 : decide (v < 1) = true := by simp; omega
    clear h
    go_enter Try.func9, Try.ntmps9
    go_wp2_with fail
    go_ret2
    exact ⟨rfl, rfl⟩
  have t1 : decide (v < 1) = false := by simp; omega
  by_cases h2 : 16 < v
  · have t2 : decide (16 < v) = true := by simp; omega
    clear h
    go_enter Try.func9, Try.ntmps9
    go_wp2_with fail
    go_ret2
    exact ⟨rfl, rfl⟩
  have t2 : decide (16 < v) = false := by simp; omega
  by_cases h3 : m < 2
  · have t3 : decide (m < 2) = true := by simp; omega
    clear h
    go_enter Try.func9, Try.ntmps9
    go_wp2_with fail
    go_ret2
    exact ⟨rfl, rfl⟩
  have t3 : decide (m < 2) = false := by simp; omega
  have t4 : decide (40000 < m) = true := by simp; omega
  clear h
  go_enter Try.func9, Try.ntmps9
  go_wp2_with fail
  go_ret2
  exact ⟨rfl, rfl⟩
end Go.Proofs.Ytgcimcpcnoojnaa


