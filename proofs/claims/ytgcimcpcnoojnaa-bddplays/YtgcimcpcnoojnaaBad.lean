/-
  The arena's calls at arguments out of their bounds.
-/
import Derived.Test.YtgcimcpcnoojnaaWalk12
namespace Go.Proofs.Ytgcimcpcnoojnaa
open Go.RowKit Go.Maps

section
variable {base a M vars most : Nat} {w : World} {ns : List Nd}
set_option maxHeartbeats 2000000 in
set_option maxRecDepth 100000 in
theorem var_bad (h : Ar base a M vars most w ns) {i : Int} (hi : (decide ((0 : Int) ≤ i) && decide (i < (vars : Int))) = false) :
    Calls Try.prog 41 #[.pointer (some ⟨a, 0, none⟩), .int .i64 i] w fun e w' => e = .returned (.tuple #[.int .i64 0, .int .i64 1]) ∧ w' = w := by
  have ND : Go.RowKit.Hid (Calls Try.prog 85 #[.pointer (some ⟨a, 0, none⟩), .int .i64 i, .int .i64 0, .int .i64 1] w fun e w' => e = .returned (.tuple #[.int .i64 0, .int .i64 1]) ∧ w' = w) := by
    have hv : Calls Try.prog 85 #[.pointer (some ⟨a, 0, none⟩), .int .i64 i, .int .i64 0, .int .i64 1] w fun e w' => e = .returned (.tuple #[.int .i64 0, .int .i64 1]) ∧ w' = w := by
      have HV : Go.RowKit.Hid (Calls Try.prog 87 #[.pointer (some ⟨a, 0, none⟩), .int .i64 i] w fun e w' => e = .returned (.bool false) ∧ w' = w) := by
        have := hasVariable_any h i
        rw [hi] at this
        exact this
      clear hi h
      go_enter Try.func85, Try.ntmps85
      go_wp2_with (first
        | (go_at_call 87; refine HV.out.mono ?_; rintro e w' ⟨rfl, rfl⟩))
      go_ret2
      exact ⟨rfl, rfl⟩
    exact hv
  clear hi h
  go_enter Try.func41, Try.ntmps41
  go_wp2_with fail
  refine ND.out.mono ?_
  rintro e w' ⟨rfl, rfl⟩
  go_wp2_with fail
  go_ret2
  exact ⟨rfl, rfl⟩

set_option maxHeartbeats 2000000 in
set_option maxRecDepth 100000 in
theorem exists_bad (h : Ar base a M vars most w ns) {f : Nat} (hf : f < ns.length) {i : Int} (hi : (decide ((0 : Int) ≤ i) && decide (i < (vars : Int))) = false) :
    Calls Try.prog 44 #[.pointer (some ⟨a, 0, none⟩), .int .i64 (f : Int), .int .i64 i] w fun e w' => e = .returned (.tuple #[.int .i64 0, .int .i64 1]) ∧ w' = w := by
  have t1 : (decide ((0 : Int) ≤ (f : Int)) && decide ((f : Int) < (ns.length : Int))) = true := by simp; omega
  have HF : Go.RowKit.Hid (Calls Try.prog 86 #[.pointer (some ⟨a, 0, none⟩), .int .i64 (f : Int)] w fun e w' => e = .returned (.bool true) ∧ w' = w) := by
    have := hasFunction_any h (f : Int)
    rw [t1] at this
    exact this
  have HV : Go.RowKit.Hid (Calls Try.prog 87 #[.pointer (some ⟨a, 0, none⟩), .int .i64 i] w fun e w' => e = .returned (.bool false) ∧ w' = w) := by
    have := hasVariable_any h i
    rw [hi] at this
    exact this
  clear hi h t1 hf
  go_enter Try.func44, Try.ntmps44
  go_wp2_with (first
    | (go_at_call 86; refine HF.out.mono ?_; rintro e w' ⟨rfl, rfl⟩)
    | (go_at_call 87; refine HV.out.mono ?_; rintro e w' ⟨rfl, rfl⟩))
  go_ret2
  exact ⟨rfl, rfl⟩

set_option maxHeartbeats 2000000 in
set_option maxRecDepth 100000 in
theorem swap_bad (h : Ar base a M vars most w ns) {f : Nat} (hf : f < ns.length) {i j : Int} (hij : (decide ((0 : Int) ≤ i) && decide (i < (vars : Int))) = false ∨ (decide ((0 : Int) ≤ j) && decide (j < (vars : Int))) = false) :
    Calls Try.prog 45 #[.pointer (some ⟨a, 0, none⟩), .int .i64 (f : Int), .int .i64 i, .int .i64 j] w fun e w' => e = .returned (.tuple #[.int .i64 0, .int .i64 1]) ∧ w' = w := by
  have t1 : (decide ((0 : Int) ≤ (f : Int)) && decide ((f : Int) < (ns.length : Int))) = true := by simp; omega
  have HF : Go.RowKit.Hid (Calls Try.prog 86 #[.pointer (some ⟨a, 0, none⟩), .int .i64 (f : Int)] w fun e w' => e = .returned (.bool true) ∧ w' = w) := by
    have := hasFunction_any h (f : Int)
    rw [t1] at this
    exact this
  have HV : ∀ k : Int, Calls Try.prog 87 #[.pointer (some ⟨a, 0, none⟩), .int .i64 k] w fun e w' => e = .returned (.bool (decide ((0 : Int) ≤ k) && decide (k < (vars : Int)))) ∧ w' = w := fun k => hasVariable_any h k
  have HI : Go.RowKit.Hid (Calls Try.prog 87 #[.pointer (some ⟨a, 0, none⟩), .int .i64 i] w fun e w' => e = .returned (.bool (decide ((0 : Int) ≤ i) && decide (i < (vars : Int)))) ∧ w' = w) := HV i
  have HJ : Go.RowKit.Hid (Calls Try.prog 87 #[.pointer (some ⟨a, 0, none⟩), .int .i64 j] w fun e w' => e = .returned (.bool (decide ((0 : Int) ≤ j) && decide (j < (vars : Int)))) ∧ w' = w) := HV j
  clear HV h t1 hf
  generalize (decide ((0 : Int) ≤ i) && decide (i < (vars : Int))) = x at *
  generalize (decide ((0 : Int) ≤ j) && decide (j < (vars : Int))) = y at *
  cases x
  · go_enter Try.func45, Try.ntmps45
    go_wp2_with (first
      | (go_at_call 86; refine HF.out.mono ?_; rintro e w' ⟨rfl, rfl⟩)
      | (go_at_call_of 87 (Value.int .i64 i); refine HI.out.mono ?_; rintro e w' ⟨rfl, rfl⟩))
    go_ret2
    exact ⟨rfl, rfl⟩
  · obtain rfl : y = false := by simpa using hij
    go_enter Try.func45, Try.ntmps45
    go_wp2_with (first
      | (go_at_call 86; refine HF.out.mono ?_; rintro e w' ⟨rfl, rfl⟩)
      | (go_at_call_of 87 (Value.int .i64 i); refine HI.out.mono ?_; rintro e w' ⟨rfl, rfl⟩)
      | (go_at_call_of 87 (Value.int .i64 j); refine HJ.out.mono ?_; rintro e w' ⟨rfl, rfl⟩))
    go_ret2
    exact ⟨rfl, rfl⟩

set_option maxHeartbeats 2000000 in
set_option maxRecDepth 100000 in
theorem and_bad (h : Ar base a M vars most w ns) {f g : Int} (hfg : (decide ((0 : Int) ≤ f) && decide (f < (ns.length : Int))) = false ∨ (decide ((0 : Int) ≤ g) && decide (g < (ns.length : Int))) = false) :
    Calls Try.prog 15 #[.pointer (some ⟨a, 0, none⟩), .int .i64 f, .int .i64 g] w fun e w' => e = .returned (.tuple #[.int .i64 0, .int .i64 1]) ∧ w' = w := by
  have HI : Go.RowKit.Hid (Calls Try.prog 86 #[.pointer (some ⟨a, 0, none⟩), .int .i64 f] w fun e w' => e = .returned (.bool (decide ((0 : Int) ≤ f) && decide (f < (ns.length : Int)))) ∧ w' = w) := hasFunction_any h f
  have HJ : Go.RowKit.Hid (Calls Try.prog 86 #[.pointer (some ⟨a, 0, none⟩), .int .i64 g] w fun e w' => e = .returned (.bool (decide ((0 : Int) ≤ g) && decide (g < (ns.length : Int)))) ∧ w' = w) := hasFunction_any h g
  clear h
  generalize (decide ((0 : Int) ≤ f) && decide (f < (ns.length : Int))) = x at *
  generalize (decide ((0 : Int) ≤ g) && decide (g < (ns.length : Int))) = y at *
  have IT : Go.RowKit.Hid (Calls Try.prog 47 #[.pointer (some ⟨a, 0, none⟩), .int .i64 f, .int .i64 g, .int .i64 0] w fun e w' => e = .returned (.tuple #[.int .i64 0, .int .i64 1]) ∧ w' = w) := by
    have it : Calls Try.prog 47 #[.pointer (some ⟨a, 0, none⟩), .int .i64 f, .int .i64 g, .int .i64 0] w fun e w' => e = .returned (.tuple #[.int .i64 0, .int .i64 1]) ∧ w' = w := by
      cases x
      · go_enter Try.func47, Try.ntmps47
        go_wp2_with (first
          | (go_at_call_of 86 (Value.int .i64 f); refine HI.out.mono ?_; rintro e w' ⟨rfl, rfl⟩))
        go_ret2
        exact ⟨rfl, rfl⟩
      · obtain rfl : y = false := by simpa using hfg
        go_enter Try.func47, Try.ntmps47
        go_wp2_with (first
          | (go_at_call_of 86 (Value.int .i64 f); refine HI.out.mono ?_; rintro e w' ⟨rfl, rfl⟩)
          | (go_at_call_of 86 (Value.int .i64 g); refine HJ.out.mono ?_; rintro e w' ⟨rfl, rfl⟩))
        go_ret2
        exact ⟨rfl, rfl⟩
    exact it
  clear HI HJ hfg
  go_enter Try.func15, Try.ntmps15
  go_wp2_with fail
  refine IT.out.mono ?_
  rintro e w' ⟨rfl, rfl⟩
  go_wp2_with fail
  go_ret2
  exact ⟨rfl, rfl⟩
end
end Go.Proofs.Ytgcimcpcnoojnaa


