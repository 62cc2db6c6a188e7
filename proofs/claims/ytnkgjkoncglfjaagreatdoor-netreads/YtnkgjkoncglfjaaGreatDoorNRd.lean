/-
  NetReads: the document's answer: a rule's line, not read.
-/
import Derived.Test.YtnkgjkoncglfjaaGreatDoorZJ
namespace Go.Proofs.YtnkgjkoncglfjaaGreatDoor
open Go.RowKit

/-- How a net that is being read stands: without devices, with links, or open. -/
def NoD (n m : Nat) : Prop := n = 0 ∨ (0 < n ∧ 0 < m)
set_option maxHeartbeats 8000000 in
set_option maxRecDepth 1000000 in
theorem nl_rule_no (B rb g nr cw n m c1 c2 : Nat) (A C : Option Addr) (s0 J : ByteArray) (a b c d er : Nat) (w : World) (hB : B ≤ w.heap.size)
    (k0 : w.cell? ⟨rb, 0, none⟩ = some (.slice A n c1)) (k1 : w.cell? ⟨rb, 1, none⟩ = some (.slice C m c2)) (hn : n ≤ 5000) (hm : m ≤ 5000) (g0 : w.cell? ⟨g, 0, none⟩ = some (.string s0)) (hcw : nr ≤ cw) (hw : nr ≤ 5000) (hcm : cw ≤ 9223372036854775807)
    (hP : NoD n m ∨ ((∃ gd k, n = k + 1 ∧ A = some ⟨gd, 0, none⟩) ∧ m = 0 ∧ er ≠ 0))
    (q12 : (s0.toList == [112, 101, 114, 109, 105, 116]) = true ∨ ((s0.toList == [112, 101, 114, 109, 105, 116]) = false ∧ (s0.toList == [100, 101, 110, 121]) = true))
    (JO : Hid (∀ W, Below w.heap.size w W → ∀ (P : Option Addr) (k : Nat), (0 < nr → P = some ⟨g, 1, none⟩) → nr ≤ k → Calls Tryz.prog 29 #[.slice P nr k, .string ⟨#[32]⟩] W fun e w' => e = .returned (.string J) ∧ w' = W))
    (MP : Hid (∀ w, Calls Tryz.prog 28 #[.string J] w fun e w' => e = .returned (matV ((a, b, c, d), er)) ∧ Below w.heap.size w w')) :
    Calls Tryz.prog 11 #[.pointer (some ⟨rb, 0, none⟩), .slice (some ⟨g, 0, none⟩) (nr + 1) (cw + 1)] w fun e w' => LineN B rb w none e w' := by
  unfold matV mt at MP
  simp only at MP
  have hc0 : (cw = 0 ∧ nr = 0) ∨ ¬ cw = 0 := by omega
  have cases3 : (n = 0 ∧ (er = 0 ∨ ¬ er = 0)) ∨ ((¬ n = 0 ∧ (0 : Int) < (n : Int) ∧ ((m : Int) == 0) = false) ∧ (er = 0 ∨ ¬ er = 0)) ∨ ((∃ gd k, n = k + 1 ∧ A = some ⟨gd, 0, none⟩) ∧ m = 0 ∧ ¬ er = 0) := by
    have bb : er = 0 ∨ ¬ er = 0 := by omega
    rcases hP with (h | ⟨h1, h2⟩) | ⟨h1, h2, h3⟩
    · exact .inl ⟨h, bb⟩
    · exact .inr (.inl ⟨⟨by omega, by omega, by simp; omega⟩, bb⟩)
    · exact .inr (.inr ⟨h1, h2, h3⟩)
  clear hP
  have fin : ∀ {W : World}, Below w.heap.size w W → LineN B rb w none (.returned (.bool false)) (W.alloc (.cells #[.int .u16 (a : Int), .int .u16 (b : Int), .int .u8 (c : Int), .int .u8 (d : Int)] 55)) := fun {W} hb => ⟨(hb.mono hB).alloc (Nat.le_trans hB hb.size) _, rfl⟩
  have FIN : Hid (∀ {W : World}, Below w.heap.size w W → LineN B rb w none (.returned (.bool false)) (W.alloc (.cells #[.int .u16 (a : Int), .int .u16 (b : Int), .int .u8 (c : Int), .int .u8 (d : Int)] 55))) := fin
  clear fin
  rcases hc0 with ⟨rfl, rfl⟩ | hcw0 <;> rcases q12 with q1 | ⟨q1, q2⟩ <;> rcases cases3 with ⟨rfl, rfl | he⟩ | ⟨⟨_, hn1, hm1⟩, rfl | he⟩ | ⟨⟨gd, k, rfl, rfl⟩, rfl, he⟩
  all_goals
    go_enter Tryz.func11, Tryz.ntmps11
    repeat (first | go_guarded | go_step)
    try (have e1 : (((k + 1 : Nat) : Int) - 1) = (k : Int) := (by omega); have hk1 : ¬ ((k : Int) < 0) := (by omega); go_region; repeat (first | go_guarded | go_step))
    refine (JO.out _ (by first | exact Below.refl _ _ | exact (Below.refl _ _).drew) _ _ (by intro h; first | rfl | exact absurd h (Nat.lt_irrefl 0)) (by omega)).mono ?_
    rintro e w2 ⟨rfl, rfl⟩
    dsimp only
    repeat (first | go_guarded | go_step)
    refine (MP.out _).mono ?_
    rintro e w5 ⟨rfl, hb5⟩
    dsimp only
    have D6 := FIN.out (W := w5) (by first | exact hb5 | exact (Below.refl _ w).drew.trans hb5)
    clear hb5 JO MP k0 k1 g0
    repeat (first | go_guarded | go_step)
    go_ret
    exact D6
end Go.Proofs.YtnkgjkoncglfjaaGreatDoor
