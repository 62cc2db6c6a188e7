/-
  Package net: the other end of a link.
-/
import Derived.Test.YthofdiacncgbkaaGreatDoorNA
namespace Go.Proofs.YthofdiacncgbkaaGreatDoor
open Go.RowKit

theorem place_eq (a b c d : Int) (w : World) : (binOp .eql 122 (plA a b) (plA c d)).run Tryz.prog w = .ok (.bool ((a == c) && (b == d))) w := by
  cases h1 : (a == c) <;> cases h2 : (b == d)
  all_goals simp [go_sem, Tryz.underlying122, Tryz.underlying3, h1, h2]
theorem place_ne (a b c d : Int) (w : World) : (binOp .neq 122 (plA a b) (plA c d)).run Tryz.prog w = .ok (.bool (!((a == c) && (b == d)))) w := by
  cases h1 : (a == c) <;> cases h2 : (b == d)
  all_goals simp [go_sem, Tryz.underlying122, Tryz.underlying3, h1, h2]
theorem Box2.drew {w : World} {n : Nat} {x y : Value} (h : Box2 w n x y) : Box2 w.drew n x y := h
/-- A link's cells in a block of a call's own. -/
def Lk4 (w : World) (n : Nat) (a b c d : Value) : Prop := n < w.heap.size ∧ w.cell? ⟨n, 0, none⟩ = some a ∧ w.cell? ⟨n, 1, none⟩ = some b ∧ w.cell? ⟨n, 2, none⟩ = some c ∧ w.cell? ⟨n, 3, none⟩ = some d
theorem lk4_new (w : World) (a b c d : Value) (t : TypeId) : Lk4 (w.alloc (.cells #[a, b, c, d] t)) w.heap.size a b c d := ⟨by simp, by simp [go_sem], by simp [go_sem], by simp [go_sem], by simp [go_sem]⟩
theorem Lk4.below {B : Nat} {W w' : World} {n : Nat} {a b c d : Value} (h : Lk4 W n a b c d) (hb : Below B W w') (hB : n < B) : Lk4 w' n a b c d := by
  obtain ⟨h0, h1, h2, h3, h4⟩ := h
  exact ⟨Nat.lt_of_lt_of_le h0 hb.size, (hb.cell (p := ⟨n, 0, none⟩) hB).trans h1, (hb.cell (p := ⟨n, 1, none⟩) hB).trans h2, (hb.cell (p := ⟨n, 2, none⟩) hB).trans h3, (hb.cell (p := ⟨n, 3, none⟩) hB).trans h4⟩
theorem Lk4.alloc {w : World} {n : Nat} {a b c d : Value} (h : Lk4 w n a b c d) (o : Obj) : Lk4 (w.alloc o) n a b c d := h.below ((Below.refl _ _).alloc (Nat.le_refl _) o) h.1
theorem Lk4.drew {w : World} {n : Nat} {a b c d : Value} (h : Lk4 w n a b c d) : Lk4 w.drew n a b c d := h

end Go.Proofs.YthofdiacncgbkaaGreatDoor

