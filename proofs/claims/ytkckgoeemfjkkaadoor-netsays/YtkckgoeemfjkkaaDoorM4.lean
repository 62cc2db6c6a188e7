/-
  parseSet: what it returns; no memory that was there turns.
-/
import Derived.Test.YtkckgoeemfjkkaaDoorM3
import Derived.Shelf.Strings.PiecesUse
namespace Go.Proofs.YtkckgoeemfjkkaaDoor
open Go.RowKit

/-- What parseSet tells. -/
def setV (size : Nat) : Option Nat → Value
  | none => .tuple #[st 0 0, .bool false]
  | some z => .tuple #[st (z : Int) (size : Int), .bool true]

/-- Two cells that may be written lie in a block of their own. -/
def Pair (w : World) (n : Nat) (a b : Value) : Prop :=
  n < w.heap.size ∧ (w.cell? ⟨n, 0, none⟩ = some a ∧ w.cell? ⟨n, 1, none⟩ = some b) ∧ (w.frozen? ⟨n, 0, none⟩ = false ∧ w.frozen? ⟨n, 1, none⟩ = false)
theorem keepPair {W w' : World} {n : Nat} {a b : Value} (hb : Below W.heap.size W w') (h : Pair W n a b) : Pair w' n a b := by
  obtain ⟨h0, ⟨h1, h2⟩, k1, k2⟩ := h
  exact ⟨Nat.lt_of_lt_of_le h0 hb.size, ⟨(hb.cell (p := ⟨n, 0, none⟩) h0).trans h1, (hb.cell (p := ⟨n, 1, none⟩) h0).trans h2⟩, (hb.frozen (p := ⟨n, 0, none⟩) h0).trans k1, (hb.frozen (p := ⟨n, 1, none⟩) h0).trans k2⟩
theorem pair_new (w : World) (a b : Value) (t : TypeId) : Pair (w.alloc (.cells #[a, b] t)) w.heap.size a b :=
  ⟨by simp, ⟨by simp [go_sem], by simp [go_sem]⟩, by simp [go_sem], by simp [go_sem]⟩
theorem below_set2 {B b : Nat} {a w : World} (h : Below B a w) (hb : B ≤ b) (v0 v1 : Value) : Below B a ((w.setCell ⟨b, 0, none⟩ v0).setCell ⟨b, 1, none⟩ v1) :=
  (h.setCell (p := ⟨b, 0, none⟩) hb v0).setCell (p := ⟨b, 1, none⟩) hb v1
theorem below_drewN {B : Nat} {a w : World} (h : Below B a w) (n : Nat) : Below B a (w.drewN n) := ⟨h.os, h.tape, h.output, h.size, h.block⟩

/-- Texts lie in a block. -/
def Texts (w : World) (g : Nat) (xs : List ByteArray) : Prop := g < w.heap.size ∧ ∀ (j : Nat) x, xs[j]? = some x → w.cell? ⟨g, j, none⟩ = some (.string x)
theorem keepTexts {W w' : World} {g : Nat} {xs : List ByteArray} (hb : Below W.heap.size W w') (h : Texts W g xs) : Texts w' g xs :=
  ⟨Nat.lt_of_lt_of_le h.1 hb.size, fun j x hx => (hb.cell (p := ⟨g, j, none⟩) h.1).trans (h.2 j x hx)⟩
theorem texts_new (w : World) (xs : List ByteArray) (t : TypeId) : Texts (w.alloc (.cells (xs.map Value.string).toArray t)) w.heap.size xs :=
  ⟨by simp, fun j x hx => by
    have := Lib.pieces_cell w xs t j x hx
    simpa using this⟩

theorem spl_len (c : UInt8) (l : List UInt8) : ∀ p ∈ Mt.spl c l, p.length ≤ l.length := by
  induction l with
  | nil => intro p hp; simp [Mt.spl] at hp; simp [hp]
  | cons x r ih =>
    obtain ⟨h, t, e⟩ := Mt.spl_ne c r
    intro p hp
    unfold Mt.spl at hp
    rw [e] at hp ih
    split at hp
    · rcases List.mem_cons.1 hp with rfl | k
      · simp
      · have := ih p k; simp; omega
    · rcases List.mem_cons.1 hp with rfl | k
      · have := ih h (by simp); simp; omega
      · have := ih p (by simp [k]); simp; omega

theorem or_mask (z a b : Nat) (hz : z < 2 ^ 16) (hab : a ≤ b) (hb : b < 16) :
    Go.bits .or .i64 (z : Int) (wrap64 (wrap64 (2 ^ (b + 1)) - wrap64 (2 ^ a))) = ((z ||| Mt.mask (a, b) : Nat) : Int) := by
  have hm := Mt.mask_le (a, b) 16 hb
  have p1 : 2 ^ (b + 1) ≤ 2 ^ 16 := Nat.pow_le_pow_right (by omega) (by omega)
  have p2 : 2 ^ a ≤ 2 ^ (b + 1) := Nat.pow_le_pow_right (by omega) (by omega)
  have e1 : wrap64 ((2 : Int) ^ (b + 1)) = ((2 ^ (b + 1) : Nat) : Int) := by
    rw [show (2 : Int) ^ (b + 1) = ((2 ^ (b + 1) : Nat) : Int) by simp, ← IntWalk.i64_left]
    generalize 2 ^ (b + 1) = q at *
    exact IntWalk.i64_in _ (by omega)
  have e2 : wrap64 ((2 : Int) ^ a) = ((2 ^ a : Nat) : Int) := by
    rw [show (2 : Int) ^ a = ((2 ^ a : Nat) : Int) by simp, ← IntWalk.i64_left]
    have : 2 ^ a ≤ 2 ^ 16 := Nat.le_trans p2 p1
    generalize 2 ^ a = q at *
    exact IntWalk.i64_in _ (by omega)
  have e3 : wrap64 (((2 ^ (b + 1) : Nat) : Int) - ((2 ^ a : Nat) : Int)) = ((Mt.mask (a, b) : Nat) : Int) := by
    have : ((2 ^ (b + 1) : Nat) : Int) - ((2 ^ a : Nat) : Int) = ((Mt.mask (a, b) : Nat) : Int) := by unfold Mt.mask; simp only; omega
    rw [this, ← IntWalk.i64_left]; exact IntWalk.i64_in _ (by omega)
  rw [e1, e2, e3]
  generalize Mt.mask (a, b) = m at *
  have hle : z ||| m < 2 ^ 16 := Nat.or_lt_two_pow hz hm
  have hmm : (BitVec.ofInt 64 (z : Int) ||| BitVec.ofInt 64 (m : Int)).toNat = z ||| m := by
    rw [show BitVec.ofInt 64 (z : Int) = BitVec.ofNat 64 z by simp, show BitVec.ofInt 64 (m : Int) = BitVec.ofNat 64 m by simp, BitVec.toNat_or, BitVec.toNat_ofNat, BitVec.toNat_ofNat, Nat.mod_eq_of_lt (by omega), Nat.mod_eq_of_lt (by omega)]
  show IntKind.i64.wrap ((BitVec.ofInt 64 (z : Int) ||| BitVec.ofInt 64 (m : Int)).toNat : Int) = _
  rw [hmm, IntWalk.i64_in _ (by omega)]

theorem bytes_of (s : ByteArray) (l : List UInt8) (h : s.data.toList = l) : s = ⟨l.toArray⟩ := by
  subst h; cases s; simp
end Go.Proofs.YtkckgoeemfjkkaaDoor


