/-
  StepNat: the rest of a division.
-/
import Derived.Test.YtepfckicaafilaaSg1
namespace Go.Proofs.Ytepfckicaafilaa
open Go.RowKit Go.Maps

set_option maxHeartbeats 1000000 in
/-- The rest by 16, from 0 on. -/
theorem rest_any (x : Int) (w : World) : Calls Try.prog 16 #[.int .i64 x, .int .i64 16] w fun e w' => e = .returned (.int .i64 (x % 16)) ∧ Below w.heap.size w w' := by
  have D0 := Below.refl w.heap.size w
  have e1 : x.tmod 16 = if 0 ≤ x then x % 16 else -((-x) % 16) := by
    split
    · exact Int.tmod_eq_emod_of_nonneg (by assumption)
    · rw [show x.tmod 16 = -((-x).tmod 16) by rw [Int.neg_tmod, Int.neg_neg], Int.tmod_eq_emod_of_nonneg (by omega)]
  by_cases h : x.tmod 16 < 0
  · have u : decide (x.tmod 16 < 0) = true := by simpa using h
    go_enter Try.func16, Try.ntmps16
    go_wp2_with fail
    all_goals
      go_ret
      first
        | exact ⟨rfl, D0⟩
        | exact ⟨by rw [show -(-x % 16) + 16 = x % 16 by omega]; rfl, D0⟩
        | exact ⟨by rw [show -(-x % 16) = x % 16 by omega]; rfl, D0⟩
  · have u : decide (x.tmod 16 < 0) = false := by simpa using h
    go_enter Try.func16, Try.ntmps16
    go_wp2_with fail
    all_goals
      go_ret
      first
        | exact ⟨rfl, D0⟩
        | exact ⟨by rw [show -(-x % 16) + 16 = x % 16 by omega]; rfl, D0⟩
        | exact ⟨by rw [show -(-x % 16) = x % 16 by omega]; rfl, D0⟩
/-- A pool with its first port. -/
theorem bits_or1 (a : Nat) (ha : a < 256) : Go.bits .or .u8 (a : Int) 1 = ((a ||| 1 : Nat) : Int) := by
  have h : ∀ x : Fin 256, Go.bits .or .u8 ((x.val : Nat) : Int) 1 = ((x.val ||| 1 : Nat) : Int) := by decide +kernel
  exact h ⟨a, ha⟩
theorem or1_lt {a : Nat} (ha : a < 256) : a ||| 1 < 256 := Nat.or_lt_two_pow (n := 8) ha (by decide)
theorem or1_pos (a : Nat) : 0 < a ||| 1 := Nat.lt_of_lt_of_le (by decide : 0 < 1) (Nat.right_le_or)
theorem or1_bit (a : Nat) : (a ||| 1).testBit 0 = true := by simp
/-- A packet in memory. -/
def IsPk (cs : List Value) (p : Pk) : Prop := cs = [.int .i64 p.s, .int .i64 p.d, .int .i64 p.sp, .int .i64 p.dp]
end Go.Proofs.Ytepfckicaafilaa
