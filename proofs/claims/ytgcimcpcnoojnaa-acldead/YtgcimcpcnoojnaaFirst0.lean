/-
  What AclFirst calls besides: all, slices.Clone, R.Right.
-/
import Derived.Test.YtgcimcpcnoojnaaClone
import Derived.Test.YtgcimcpcnoojnaaAll
namespace Go.Proofs.Ytgcimcpcnoojnaa
open Go.RowKit

theorem five_new (w : World) (a b c d e : Value) (t : TypeId) : (w.alloc (.cells #[a, b, c, d, e] t)).cell? ⟨w.heap.size, 0, none⟩ = some a ∧ (w.alloc (.cells #[a, b, c, d, e] t)).cell? ⟨w.heap.size, 1, none⟩ = some b ∧ (w.alloc (.cells #[a, b, c, d, e] t)).cell? ⟨w.heap.size, 2, none⟩ = some c ∧ (w.alloc (.cells #[a, b, c, d, e] t)).cell? ⟨w.heap.size, 3, none⟩ = some d ∧ (w.alloc (.cells #[a, b, c, d, e] t)).cell? ⟨w.heap.size, 4, none⟩ = some e :=
  ⟨by simp [go_sem], by simp [go_sem], by simp [go_sem], by simp [go_sem], by simp [go_sem]⟩
/-- A new array of one rule. -/
theorem one_rule (w : World) (r : Rl) (t : TypeId) : RAt (w.alloc (.cells #[.bool r.ok, .int .u16 (r.a : Int), .int .u16 (r.b : Int), .int .u8 (r.c : Int), .int .u8 (r.d : Int)] t)) w.heap.size 0 [r] := by
  intro j u hj
  obtain ⟨h0, h1, h2, h3, h4⟩ := five_new w (.bool r.ok) (.int .u16 (r.a : Int)) (.int .u16 (r.b : Int)) (.int .u8 (r.c : Int)) (.int .u8 (r.d : Int)) t
  simp only [cellsR, List.flatMap_cons, List.flatMap_nil, List.append_nil] at hj
  rw [Nat.zero_add]
  match j, hj with
  | 0, hj => cases hj; exact h0
  | 1, hj => cases hj; exact h1
  | 2, hj => cases hj; exact h2
  | 3, hj => cases hj; exact h3
  | 4, hj => cases hj; exact h4
  | j + 5, hj => simp at hj

set_option maxHeartbeats 1000000 in
theorem all_r (ok : Bool) (w : World) : Calls Try.prog 48 #[.bool ok] w fun e w' => e = .returned (rv (allR ok)) ∧ Below w.heap.size w w' := by
  have D0 := Below.alloc' (Below.refl w.heap.size w) (.cells #[.bool false, .int .u16 0, .int .u16 0, .int .u8 0, .int .u8 0] 78)
  go_enter Try.func48, Try.ntmps48
  go_wp2_with fail
  refine (all_any _).mono ?_
  rintro e w2 ⟨rfl, hb⟩
  have lt : w.heap.size < w2.heap.size := by have := hb.size; simp at this; omega
  have D1 := chain hb D0
  have fz : ∀ j, w2.frozen? ⟨w.heap.size, j, none⟩ = false := fun j => (hb.frozen (p := ⟨w.heap.size, j, none⟩) (by simp)).trans (by simp [go_sem])
  obtain ⟨n0, n1, n2, n3, n4⟩ := five_new w (.bool false) (.int .u16 0) (.int .u16 0) (.int .u8 0) (.int .u8 0) 78
  have k0 := (hb.cell (p := ⟨w.heap.size, 0, none⟩) (by simp)).trans n0
  have k1 := (hb.cell (p := ⟨w.heap.size, 1, none⟩) (by simp)).trans n1
  have k2 := (hb.cell (p := ⟨w.heap.size, 2, none⟩) (by simp)).trans n2
  have k3 := (hb.cell (p := ⟨w.heap.size, 3, none⟩) (by simp)).trans n3
  have k4 := (hb.cell (p := ⟨w.heap.size, 4, none⟩) (by simp)).trans n4
  clear n0 n1 n2 n3 n4 hb D0
  go_wp2_with fail
  refine bodyPost_ret (v := rv (allR ok)) (by simp [results, Try.results48, go_sem, k0, k1, k2, k3, k4, allR]) rfl ⟨rfl, ?_⟩
  exact ((((D1.setCell (Nat.le_refl _) _).setCell (Nat.le_refl _) _).setCell (Nat.le_refl _) _).setCell (Nat.le_refl _) _).setCell (Nat.le_refl _) _

theorem rin_any (n lo hi : Int) (w : World) : Calls Try.prog 10 #[.int .i64 n, .int .i64 lo, .int .i64 hi] w fun e w' => e = .returned (.bool (decide (lo ≤ n) && decide (n ≤ hi))) ∧ w' = w := by
  by_cases h : lo ≤ n
  · go_enter Try.func10, Try.ntmps10
    go_wp2_with fail
    go_ret
    exact ⟨by simp [h], rfl⟩
  · have h' : decide (lo ≤ n) = false := by simp; omega
    go_enter Try.func10, Try.ntmps10
    go_wp2_with fail
    go_ret
    exact ⟨by simp, rfl⟩
def rightB (p q s t : Int) : Bool := (decide (0 ≤ p) && decide (p ≤ 15)) && (decide (0 ≤ q) && decide (q ≤ 15)) && (decide (0 ≤ s) && decide (s ≤ 7)) && (decide (0 ≤ t) && decide (t ≤ 7))
set_option maxHeartbeats 2000000 in
theorem right_case (p q s t : Int) (w : World) (x0 x1 x2 x3 : Bool)
    (h0 : Hid (∀ w, Calls Try.prog 10 #[.int .i64 p, .int .i64 0, .int .i64 15] w fun e w' => e = .returned (.bool x0) ∧ w' = w))
    (h1 : Hid (∀ w, Calls Try.prog 10 #[.int .i64 q, .int .i64 0, .int .i64 15] w fun e w' => e = .returned (.bool x1) ∧ w' = w))
    (h2 : Hid (∀ w, Calls Try.prog 10 #[.int .i64 s, .int .i64 0, .int .i64 7] w fun e w' => e = .returned (.bool x2) ∧ w' = w))
    (h3 : Hid (∀ w, Calls Try.prog 10 #[.int .i64 t, .int .i64 0, .int .i64 7] w fun e w' => e = .returned (.bool x3) ∧ w' = w)) :
    Calls Try.prog 49 #[pk p q s t] w fun e w' => e = .returned (.bool (x0 && x1 && x2 && x3)) ∧ Below w.heap.size w w' := by
  have D0 := Below.alloc' (Below.refl w.heap.size w) (.cells #[.int .i64 p, .int .i64 q, .int .i64 s, .int .i64 t] 53)
  cases x0 <;> cases x1 <;> cases x2 <;> cases x3
  all_goals
    go_enter Try.func49, Try.ntmps49
    go_wp2_with (first
      | (go_at_call_of 10 (Value.int .i64 p); refine (h0.out _).mono ?_; rintro e w' ⟨rfl, rfl⟩)
      | (go_at_call_of 10 (Value.int .i64 q); refine (h1.out _).mono ?_; rintro e w' ⟨rfl, rfl⟩)
      | (go_at_call_of 10 (Value.int .i64 s); refine (h2.out _).mono ?_; rintro e w' ⟨rfl, rfl⟩)
      | (go_at_call_of 10 (Value.int .i64 t); refine (h3.out _).mono ?_; rintro e w' ⟨rfl, rfl⟩))
    go_ret
    exact ⟨rfl, D0⟩
theorem right_any (p q s t : Int) (w : World) : Calls Try.prog 49 #[pk p q s t] w fun e w' => e = .returned (.bool (rightB p q s t)) ∧ Below w.heap.size w w' :=
  right_case p q s t w _ _ _ _ (fun w => rin_any p 0 15 w) (fun w => rin_any q 0 15 w) (fun w => rin_any s 0 7 w) (fun w => rin_any t 0 7 w)
end Go.Proofs.Ytgcimcpcnoojnaa


