/-
  BddPlays: it returns true.
-/
import Derived.Test.YtgcimcpcnoojnaaOps
import Derived.Deep.RegionHeld3
namespace Go.Proofs.Ytgcimcpcnoojnaa
open Go.RowKit Go.Maps

set_option maxHeartbeats 2000000 in
set_option maxRecDepth 100000 in
/-- At wrong arguments. -/
theorem plays_wrong (v m : Int) (vl : Value) (w : World) (h : ¬ ((1 ≤ v ∧ v ≤ 16) ∧ (2 ≤ m ∧ m ≤ 40000))) :
    Calls Try.prog 3 #[.int .i64 v, .int .i64 m, vl] w fun e w' => e = .returned (.bool true) ∧ Below w.heap.size w w' := by
  have NW : Hid (Calls Try.prog 9 #[.int .i64 v, .int .i64 m] w fun e w' => e = .returned (.tuple #[.pointer none, .int .i64 1]) ∧ w' = w) := new_wrong v m w h
  have I0 : Hid (∀ w, Calls Try.prog 10 #[.int .i64 v, .int .i64 1, .int .i64 16] w fun e w' => e = .returned (.bool (decide (1 ≤ v) && decide (v ≤ 16))) ∧ w' = w) := fun w => in_any w v 1 16
  have I1 : Hid (∀ w, Calls Try.prog 10 #[.int .i64 m, .int .i64 2, .int .i64 40000] w fun e w' => e = .returned (.bool (decide (2 ≤ m) && decide (m ≤ 40000))) ∧ w' = w) := fun w => in_any w m 2 40000
  have hx : ((decide (1 ≤ v) && decide (v ≤ 16)) && (decide (2 ≤ m) && decide (m ≤ 40000))) = false := by
    rw [Bool.eq_false_iff]
    simp only [ne_eq, Bool.and_eq_true, decide_eq_true_eq]
    exact h
  clear h
  generalize (decide (1 ≤ v) && decide (v ≤ 16)) = x0 at *
  generalize (decide (2 ≤ m) && decide (m ≤ 40000)) = x1 at *
  cases x0
  · clear hx I1
    go_enter Try.func3, Try.ntmps3
    go_wp2_with fail
    refine NW.out.mono ?_
    rintro e w1 ⟨rfl, rfl⟩
    go_wp2_with (go_at_call 10; refine (I0.out _).mono ?_; rintro e w' ⟨rfl, rfl⟩)
    go_ret
    exact ⟨rfl, Below.refl _ _⟩
  · cases x1
    · clear hx
      go_enter Try.func3, Try.ntmps3
      go_wp2_with fail
      refine NW.out.mono ?_
      rintro e w1 ⟨rfl, rfl⟩
      go_wp2_with (first | (go_at_call_of 10 (Value.int .i64 v); refine (I0.out _).mono ?_; rintro e w' ⟨rfl, rfl⟩) | (go_at_call_of 10 (Value.int .i64 m); refine (I1.out _).mono ?_; rintro e w' ⟨rfl, rfl⟩))
      go_ret
      exact ⟨rfl, Below.refl _ _⟩
    · cases hx

/-- An op in a block of its own, which no call of the arena turns. -/
structure XB (C : Cfg) (w : World) (n : Nat) (q A B D : Int) : Prop where
  out : Out C w n
  c0 : w.cell? ⟨n, 0, none⟩ = some (.int .i64 q)
  c1 : w.cell? ⟨n, 1, none⟩ = some (.int .i64 A)
  c2 : w.cell? ⟨n, 2, none⟩ = some (.int .i64 B)
  c3 : w.cell? ⟨n, 3, none⟩ = some (.int .i64 D)
theorem XB.kp {C : Cfg} {w w' : World} {n : Nat} {q A B D : Int} (h : XB C w n q A B D) (k : Kp C w w') : XB C w' n q A B D :=
  ⟨h.out.kp k, (h.out.cell k 0).trans h.c0, (h.out.cell k 1).trans h.c1, (h.out.cell k 2).trans h.c2, (h.out.cell k 3).trans h.c3⟩
theorem xb_new {base a M vars most : Nat} {w : World} {ns : List Nd} (h : Ar base a M vars most w ns) (q A B D : Int) (t : TypeId) : XB (ca base a M vars most) (w.alloc (.cells #[.int .i64 q, .int .i64 A, .int .i64 B, .int .i64 D] t)) w.heap.size q A B D :=
  ⟨h.newOut (Below.al (Below.refl _ _) _) (Nat.le_refl _) (by simp), by simp [go_sem], by simp [go_sem], by simp [go_sem], by simp [go_sem]⟩

set_option maxHeartbeats 2000000 in
set_option maxRecDepth 100000 in
/-- Too many variables, or ops. -/
theorem plays_many (vars most : Nat) (Al : Option Addr) (n cap0 : Nat) (w : World) (h1 : 1 ≤ vars) (h16 : vars ≤ 16) (hm2 : 2 ≤ most) (hm4 : most ≤ 40000) (h : 8 < vars ∨ 40 < n) :
    Calls Try.prog 3 #[.int .i64 (vars : Int), .int .i64 (most : Int), .slice Al n cap0] w fun e w' => e = .returned (.bool true) ∧ Below w.heap.size w w' := by
  have NW : Hid (Calls Try.prog 9 #[.int .i64 (vars : Int), .int .i64 (most : Int)] w fun e w' => ∃ a M, e = .returned (.tuple #[.pointer (some ⟨a, 0, none⟩), .int .i64 0]) ∧ Ar w.heap.size a M vars most w' [(vars, 0, 0), (vars, 1, 1)] ∧ Below w.heap.size w w') := new_ok w h1 h16 hm2 hm4
  have I0 : Hid (∀ w, Calls Try.prog 10 #[.int .i64 (vars : Int), .int .i64 1, .int .i64 16] w fun e w' => e = .returned (.bool true) ∧ w' = w) := fun w => by
    have := in_any w (vars : Int) 1 16
    rw [show (decide ((1 : Int) ≤ (vars : Int)) && decide ((vars : Int) ≤ 16)) = true by simp; omega] at this
    exact this
  have I1 : Hid (∀ w, Calls Try.prog 10 #[.int .i64 (most : Int), .int .i64 2, .int .i64 40000] w fun e w' => e = .returned (.bool true) ∧ w' = w) := fun w => by
    have := in_any w (most : Int) 2 40000
    rw [show (decide ((2 : Int) ≤ (most : Int)) && decide ((most : Int) ≤ 40000)) = true by simp; omega] at this
    exact this
  by_cases h8 : 8 < vars
  · have u8 : decide ((8 : Int) < (vars : Int)) = true := by simp; omega
    clear h h8
    go_enter Try.func3, Try.ntmps3
    go_wp2_with fail
    refine NW.out.mono ?_
    rintro e w1 ⟨a, M, rfl, _, D1⟩
    go_wp2_with (first | (go_at_call_of 10 (Value.int .i64 (vars : Int)); refine (I0.out _).mono ?_; rintro e w' ⟨rfl, rfl⟩) | (go_at_call_of 10 (Value.int .i64 (most : Int)); refine (I1.out _).mono ?_; rintro e w' ⟨rfl, rfl⟩))
    go_ret
    exact ⟨rfl, D1⟩
  · have u8 : decide ((8 : Int) < (vars : Int)) = false := by simp; omega
    have u40 : decide ((40 : Int) < (n : Int)) = true := by simp; omega
    clear h h8
    go_enter Try.func3, Try.ntmps3
    go_wp2_with fail
    refine NW.out.mono ?_
    rintro e w1 ⟨a, M, rfl, _, D1⟩
    go_wp2_with (first | (go_at_call_of 10 (Value.int .i64 (vars : Int)); refine (I0.out _).mono ?_; rintro e w' ⟨rfl, rfl⟩) | (go_at_call_of 10 (Value.int .i64 (most : Int)); refine (I1.out _).mono ?_; rintro e w' ⟨rfl, rfl⟩))
    go_ret
    exact ⟨rfl, D1⟩
end Go.Proofs.Ytgcimcpcnoojnaa


