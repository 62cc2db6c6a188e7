/-
  The document's answer: readRows.
-/
import Derived.Test.YtkckgoeemfjkkaaDoorR1
import Derived.Test.YtkckgoeemfjkkaaDoorR0
import Derived.Test.YtkckgoeemfjkkaaDoorM4
namespace Go.Proofs.YtkckgoeemfjkkaaDoor
open Go.RowKit

/-- A set's bits, or -1. -/
def optV (o : Option Nat) : Int := match o with
  | none => -1
  | some z => z

theorem or_bit (z n : Nat) (hz : z < 2 ^ 16) (hn : n < 16) : Go.bits .or .i64 (z : Int) (wrap64 (2 ^ n)) = ((z ||| 2 ^ n : Nat) : Int) := by
  have p1 : 2 ^ n < 2 ^ 16 := Nat.pow_lt_pow_right (by omega) hn
  have e1 : wrap64 ((2 : Int) ^ n) = ((2 ^ n : Nat) : Int) := by
    rw [show (2 : Int) ^ n = ((2 ^ n : Nat) : Int) by simp, ← IntWalk.i64_left]
    generalize 2 ^ n = q at *
    exact IntWalk.i64_in _ (by omega)
  rw [e1]
  generalize 2 ^ n = m at *
  have hle : z ||| m < 2 ^ 16 := Nat.or_lt_two_pow hz p1
  have hmm : (BitVec.ofInt 64 (z : Int) ||| BitVec.ofInt 64 (m : Int)).toNat = z ||| m := by
    rw [show BitVec.ofInt 64 (z : Int) = BitVec.ofNat 64 z by simp, show BitVec.ofInt 64 (m : Int) = BitVec.ofNat 64 m by simp, BitVec.toNat_or, BitVec.toNat_ofNat, BitVec.toNat_ofNat, Nat.mod_eq_of_lt (by omega), Nat.mod_eq_of_lt (by omega)]
  show IntKind.i64.wrap ((BitVec.ofInt 64 (z : Int) ||| BitVec.ofInt 64 (m : Int)).toNat : Int) = _
  rw [hmm, IntWalk.i64_in _ (by omega)]

theorem own_cell {w : World} {B g m cap : Nat} {ps : List (List UInt8)} (h : w.ownsRow B 9 1 (.slice (some ⟨g, 0, none⟩) m cap) m (strs ps)) (hm : m = ps.length) {j : Nat} {x : List UInt8} (hx : ps[j]? = some x) : w.cell? ⟨g, j, none⟩ = some (.string ⟨x.toArray⟩) := by
  have hj := (List.getElem?_eq_some_iff.1 hx).1
  rw [h.cellAt j (by omega)]
  unfold strs
  rw [List.getElem?_map, hx]
  rfl
theorem own_lt {w : World} {B g m cap : Nat} {xs : List Value} (h : w.ownsRow B 9 1 (.slice (some ⟨g, 0, none⟩) m cap) m xs) : g < w.heap.size := by
  rcases h.2 with ⟨h', _⟩ | ⟨g', cap', cur, h', _, hg, _⟩
  · cases h'
  · simp only [Value.slice.injEq, Option.some.injEq, Addr.mk.injEq, and_true, true_and] at h'
    obtain ⟨rfl, _⟩ := h'
    exact (Array.getElem?_eq_some_iff.1 hg).1

end Go.Proofs.YtkckgoeemfjkkaaDoor


