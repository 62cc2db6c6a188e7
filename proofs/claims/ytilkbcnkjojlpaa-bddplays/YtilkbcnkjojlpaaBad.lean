/-
  The arena's calls at arguments out of their bounds.
-/
import Derived.Test.YtilkbcnkjojlpaaWalk12
namespace Go.Proofs.Ytilkbcnkjojlpaa
open Go.RowKit Go.Maps

section
variable {base a M vars most : Nat} {w : World} {ns : List Nd}
set_option maxHeartbeats 2000000 in
set_option maxRecDepth 100000 in
theorem var_bad (h : Ar base a M vars most w ns) {i : Int} (hi : (decide ((0 : Int) ≤ i) && decide (i < (vars : Int))) = false) :
    Calls Try.prog 26 #[.pointer (some ⟨a, 0, none⟩), .int .i64 i] w fun e w' => e = .returned (.tuple #[.int .i64 0, .int .i64 1]) ∧ w' = w := by
  have ND : Go.RowKit.Hid (Calls Try.prog 37 #[.pointer (some ⟨a, 0, none⟩), .int .i64 i, .int .i64 0, .int .i64 1] w fun e w' => e = .returned (.tuple #[.int .i64 0, .int .i64 1]) ∧ w' = w) := by
    have hv : Calls Try.prog 37 #[.pointer (some ⟨a, 0, none⟩), .int .i64 i, .int .i64 0, .int .i64 1] w fun e w' => e = .returned (.tuple #[.int .i64 0, .int .i64 1]) ∧ w' = w := by
      have HV : Go.RowKit.Hid (Calls Try.prog 38 #[.pointer (some ⟨a, 0, none⟩), .int .i64 i] w fun e w' => e = .returned (.bool false) ∧ w' = w) := by
        have := hasVariable_any h i
        rw [hi] at this
        exact this
      clear hi h
      go_enter Try.func37, Try.ntmps37
      go_wp2_with (first
        | (go_at_call 38; refine HV.out.mono ?_; rintro e w' ⟨rfl, rfl⟩))
      go_ret2
      exact ⟨rfl, rfl⟩
    exact hv
  clear hi h
  go_enter Try.func26, Try.ntmps26
  go_wp2_with fail
  refine ND.out.mono ?_
  rintro e w' ⟨rfl, rfl⟩
  go_wp2_with fail
  go_ret2
  exact ⟨rfl, rfl⟩

set_option maxHeartbeats 2000000 in
set_option maxRecDepth 100000 in
theorem exists_bad (h : Ar base a M vars most w ns) {f : Nat} (hf : f < ns.length) {i : Int} (hi : (decide ((0 : Int) ≤ i) && decide (i < (vars : Int))) = false) :
    Calls Try.prog 29 #[.pointer (some ⟨a, 0, none⟩), .int .i64 (f : Int), .int .i64 i] w fun e w' => e = .returned (.tuple #[.int .i64 0, .int .i64 1]) ∧ w' = w := by
  have t1 : (decide ((0 : Int) ≤ (f : Int)) && decide ((f : Int) < (ns.length : Int))) = true := by simp; omega
  have HF : Go.RowKit.Hid (Calls Try.prog 34 #[.pointer (some ⟨a, 0, none⟩), .int .i64 (f : Int)] w fun e w' => e = .returned (.bool true) ∧ w' = w) := by
    have := hasFunction_any h (f : Int)
    rw [t1] at this
    exact this
  have HV : Go.RowKit.Hid (Calls Try.prog 38 #[.pointer (some ⟨a, 0, none⟩), .int .i64 i] w fun e w' => e = .returned (.bool false) ∧ w' = w) := by
    have := hasVariable_any h i
    rw [hi] at this
    exact this
  clear hi h t1 hf
  go_enter Try.func29, Try.ntmps29
  go_wp2_with (first
    | (go_at_call 34; refine HF.out.mono ?_; rintro e w' ⟨rfl, rfl⟩)
    | (go_at_call 38; refine HV.out.mono ?_; rintro e w' ⟨rfl, rfl⟩))
  go_ret2
  exact ⟨rfl, rfl⟩

set_option maxHeartbeats 2000000 in
set_option maxRecDepth 100000 in
theorem swap_bad (h : Ar base a M vars most w ns) {f : Nat} (hf : f < ns.length) {i j : Int} (hij : (decide ((0 : Int) ≤ i) && decide (i < (vars : Int))) = false ∨ (decide ((0 : Int) ≤ j) && decide (j < (vars : Int))) = false) :
    Calls Try.prog 30 #[.pointer (some ⟨a, 0, none⟩), .int .i64 (f : Int), .int .i64 i, .int .i64 j] w fun e w' => e = .returned (.tuple #[.int .i64 0, .int .i64 1]) ∧ w' = w := by
  have t1 : (decide ((0 : Int) ≤ (f : Int)) && decide ((f : Int) < (ns.length : Int))) = true := by simp; omega
  have HF : Go.RowKit.Hid (Calls Try.prog 34 #[.pointer (some ⟨a, 0, none⟩), .int .i64 (f : Int)] w fun e w' => e = .returned (.bool true) ∧ w' = w) := by
    have := hasFunction_any h (f : Int)
    rw [t1] at this
    exact this
  have HV : ∀ k : Int, Calls Try.prog 38 #[.pointer (some ⟨a, 0, none⟩), .int .i64 k] w fun e w' => e = .returned (.bool (decide ((0 : Int) ≤ k) && decide (k < (vars : Int)))) ∧ w' = w := fun k => hasVariable_any h k
  have HI : Go.RowKit.Hid (Calls Try.prog 38 #[.pointer (some ⟨a, 0, none⟩), .int .i64 i] w fun e w' => e = .returned (.bool (decide ((0 : Int) ≤ i) && decide (i < (vars : Int)))) ∧ w' = w) := HV i
  have HJ : Go.RowKit.Hid (Calls Try.prog 38 #[.pointer (some ⟨a, 0, none⟩), .int .i64 j] w fun e w' => e = .returned (.bool (decide ((0 : Int) ≤ j) && decide (j < (vars : Int)))) ∧ w' = w) := HV j
  clear HV h t1 hf
  generalize (decide ((0 : Int) ≤ i) && decide (i < (vars : Int))) = x at *
  generalize (decide ((0 : Int) ≤ j) && decide (j < (vars : Int))) = y at *
  cases x
  · go_enter Try.func30, Try.ntmps30
    go_wp2_with (first
      | (go_at_call 34; refine HF.out.mono ?_; rintro e w' ⟨rfl, rfl⟩)
      | (go_at_call_of 38 (Value.int .i64 i); refine HI.out.mono ?_; rintro e w' ⟨rfl, rfl⟩))
    go_ret2
    exact ⟨rfl, rfl⟩
  · obtain rfl : y = false := by simpa using hij
    go_enter Try.func30, Try.ntmps30
    go_wp2_with (first
      | (go_at_call 34; refine HF.out.mono ?_; rintro e w' ⟨rfl, rfl⟩)
      | (go_at_call_of 38 (Value.int .i64 i); refine HI.out.mono ?_; rintro e w' ⟨rfl, rfl⟩)
      | (go_at_call_of 38 (Value.int .i64 j); refine HJ.out.mono ?_; rintro e w' ⟨rfl, rfl⟩))
    go_ret2
    exact ⟨rfl, rfl⟩

set_option maxHeartbeats 2000000 in
set_option maxRecDepth 100000 in
theorem and_bad (h : Ar base a M vars most w ns) {f g : Int} (hfg : (decide ((0 : Int) ≤ f) && decide (f < (ns.length : Int))) = false ∨ (decide ((0 : Int) ≤ g) && decide (g < (ns.length : Int))) = false) :
    Calls Try.prog 10 #[.pointer (some ⟨a, 0, none⟩), .int .i64 f, .int .i64 g] w fun e w' => e = .returned (.tuple #[.int .i64 0, .int .i64 1]) ∧ w' = w := by
  have HI : Go.RowKit.Hid (Calls Try.prog 34 #[.pointer (some ⟨a, 0, none⟩), .int .i64 f] w fun e w' => e = .returned (.bool (decide ((0 : Int) ≤ f) && decide (f < (ns.length : Int)))) ∧ w' = w) := hasFunction_any h f
  have HJ : Go.RowKit.Hid (Calls Try.prog 34 #[.pointer (some ⟨a, 0, none⟩), .int .i64 g] w fun e w' => e = .returned (.bool (decide ((0 : Int) ≤ g) && decide (g < (ns.length : Int)))) ∧ w' = w) := hasFunction_any h g
  clear h
  generalize (decide ((0 : Int) ≤ f) && decide (f < (ns.length : Int))) = x at *
  generalize (decide ((0 : Int) ≤ g) && decide (g < (ns.length : Int))) = y at *
  have IT : Go.RowKit.Hid (Calls Try.prog 15 #[.pointer (some ⟨a, 0, none⟩), .int .i64 f, .int .i64 g, .int .i64 0] w fun e w' => e = .returned (.tuple #[.int .i64 0, .int .i64 1]) ∧ w' = w) := by
    have it : Calls Try.prog 15 #[.pointer (some ⟨a, 0, none⟩), .int .i64 f, .int .i64 g, .int .i64 0] w fun e w' => e = .returned (.tuple #[.int .i64 0, .int .i64 1]) ∧ w' = w := by
      cases x
      · go_enter Try.func15, Try.ntmps15
        go_wp2_with (first
          | (go_at_call_of 34 (Value.int .i64 f); refine HI.out.mono ?_; rintro e w' ⟨rfl, rfl⟩))
        go_ret2
        exact ⟨rfl, rfl⟩
      · obtain rfl : y = false := by simpa using hfg
        go_enter Try.func15, Try.ntmps15
        go_wp2_with (first
          | (go_at_call_of 34 (Value.int .i64 f); refine HI.out.mono ?_; rintro e w' ⟨rfl, rfl⟩)
          | (go_at_call_of 34 (Value.int .i64 g); refine HJ.out.mono ?_; rintro e w' ⟨rfl, rfl⟩))
        go_ret2
        exact ⟨rfl, rfl⟩
    exact it
  clear HI HJ hfg
  go_enter Try.func10, Try.ntmps10
  go_wp2_with fail
  refine IT.out.mono ?_
  rintro e w' ⟨rfl, rfl⟩
  go_wp2_with fail
  go_ret2
  exact ⟨rfl, rfl⟩
end
end Go.Proofs.Ytilkbcnkjojlpaa
