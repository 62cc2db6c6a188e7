/-
  What a set of numbers has, and what a match has: package match's calls addrs, ports, has.
-/
import Derived.Test.YtnkgjkoncglfjaaGreatDoorProg
import Derived.WalkKit
import Derived.WalkSpells
import Derived.WalkLawsBesides
import Derived.Handy
import Derived.BigQuiet
import Derived.Deep.QuietTactic
import Derived.Deep.RegionHeld3
import Derived.Deep.DeepCutAuto
namespace Go.Proofs.YtnkgjkoncglfjaaGreatDoor
open Go.RowKit

/-- A set: its bits, its size. -/
abbrev st (b n : Int) : Value := .agg #[.int .i64 b, .int .i64 n]
/-- A match. -/
abbrev mt (a b c d : Nat) : Value := .agg #[.int .u16 (a : Int), .int .u16 (b : Int), .int .u8 (c : Int), .int .u8 (d : Int)]
abbrev pk (a b c d : Int) : Value := .agg #[.int .i64 a, .int .i64 b, .int .i64 c, .int .i64 d]
/-- Is a number in a set? -/
def hasB (b : Nat) (n : Int) : Bool := decide (0 ≤ n) && b.testBit n.toNat

theorem chain {W0 W w' : World} (hb : Below W.heap.size W w') (h : Below W0.heap.size W0 W) : Below W0.heap.size W0 w' := h.trans (hb.mono h.size)
theorem Below.alloc' {W0 w : World} (h : Below W0.heap.size W0 w) (o : Obj) : Below W0.heap.size W0 (w.alloc o) := h.alloc h.size o

/-- Four cells lie in a block of their own. -/
def Four (w : World) (n : Nat) (a b c d : Value) : Prop :=
  n < w.heap.size ∧ w.cell? ⟨n, 0, none⟩ = some a ∧ w.cell? ⟨n, 1, none⟩ = some b ∧ w.cell? ⟨n, 2, none⟩ = some c ∧ w.cell? ⟨n, 3, none⟩ = some d
theorem keepFour {W w' : World} {n : Nat} {a b c d : Value} (hb : Below W.heap.size W w') (h : Four W n a b c d) : Four w' n a b c d := by
  obtain ⟨h0, h1, h2, h3, h4⟩ := h
  exact ⟨Nat.lt_of_lt_of_le h0 hb.size, (hb.cell (p := ⟨n, 0, none⟩) h0).trans h1, (hb.cell (p := ⟨n, 1, none⟩) h0).trans h2, (hb.cell (p := ⟨n, 2, none⟩) h0).trans h3, (hb.cell (p := ⟨n, 3, none⟩) h0).trans h4⟩
theorem Four.drew {w : World} {n : Nat} {a b c d : Value} (h : Four w n a b c d) : Four w.drew n a b c d := h
theorem four_new (w : World) (a b c d : Value) (t : TypeId) : Four (w.alloc (.cells #[a, b, c, d] t)) w.heap.size a b c d :=
  ⟨by simp, by simp [go_sem], by simp [go_sem], by simp [go_sem], by simp [go_sem]⟩
theorem allocFour {w : World} {n : Nat} {a b c d : Value} (h : Four w n a b c d) (o : Obj) : Four (w.alloc o) n a b c d := keepFour ((Below.refl _ _).alloc (Nat.le_refl _) o) h
theorem shr_any (b n : Nat) (hb : b < 2 ^ 62) : Op.shift .shr .i64 (b : Int) .i64 (n : Int) = (pure (.int .i64 ((b >>> n : Nat) : Int)) : Sem Value) := by
  by_cases h : n ≤ 64
  · rw [shift_shr _ _ _ _ (by omega) (by show (n : Int) ≤ 64; omega), Nat.shiftRight_eq_div_pow, Int.toNat_natCast]
    simp
  · have hp : 2 ^ 64 ≤ 2 ^ n := Nat.pow_le_pow_right (by omega) (by omega)
    have e : b >>> n = 0 := by rw [Nat.shiftRight_eq_div_pow, Nat.div_eq_of_lt (by omega)]
    have hm : min n IntKind.i64.bits = 64 := by show min n 64 = 64; omega
    have hf : (b : Int).fdiv (2 ^ 64) = 0 := by
      rw [Int.fdiv_eq_ediv_of_nonneg _ (by decide), Int.ediv_eq_zero_of_lt (by omega) (by omega)]
    rw [e]
    simp only [Op.shift, Int.toNat_natCast, hm, hf]
    rw [if_neg (by omega)]
    rfl
theorem bits_one (q : Nat) (hq : q < 2 ^ 62) : (Go.bits .and .i64 (q : Int) 1 == 1) = (q % 2 == 1) := by
  have e1 : BitVec.ofInt 64 (q : Int) = BitVec.ofNat 64 q := by simp
  have hm : (BitVec.ofNat 64 q &&& BitVec.ofInt 64 1).toNat = q % 2 := by
    rw [show BitVec.ofInt 64 1 = BitVec.ofNat 64 1 by rfl, BitVec.toNat_and, BitVec.toNat_ofNat, BitVec.toNat_ofNat, Nat.mod_eq_of_lt (show q < 2 ^ 64 by omega)]
    exact Nat.and_one_is_mod q
  have e2 : Go.bits .and .i64 (q : Int) 1 = ((q % 2 : Nat) : Int) := by
    show IntKind.i64.wrap ((BitVec.ofInt 64 (q : Int) &&& BitVec.ofInt 64 1).toNat : Int) = _
    rw [e1, hm, IntWalk.i64_in _ (by omega)]
  rw [e2]
  have : q % 2 = 0 ∨ q % 2 = 1 := by omega
  rcases this with h | h <;> rw [h] <;> rfl

end Go.Proofs.YtnkgjkoncglfjaaGreatDoor


