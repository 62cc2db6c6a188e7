/-
  strings.Cut at a separator of one byte, and number.Parse: what they return; no memory that was there turns.
-/
import Derived.Test.YtkckgoeemfjkkaaDoorM1
import Derived.Test.YtkckgoeemfjkkaaDoorShelf
import Derived.Test.YtkckgoeemfjkkaaDoorMt1
namespace Go.Proofs.YtkckgoeemfjkkaaDoor
open Go.RowKit

theorem extract_hit (s : ByteArray) (c : UInt8) (a b : List UInt8) (h : s.data.toList = a ++ c :: b) :
    s.extract 0 a.length = ⟨a.toArray⟩ ∧ s.extract (a.length + 1) s.size = ⟨b.toArray⟩ := by
  have hs : s.size = a.length + (b.length + 1) := by rw [Lib.size_eq, h]; simp
  constructor
  · rw [Lib.extract_eq, h]; simp
  · rw [Lib.extract_eq, h, hs]
    have e1 : List.drop (a.length + 1) (a ++ c :: b) = b := by
      rw [List.drop_append]; simp
    rw [e1, List.take_of_length_le (by omega)]

theorem ret_cut {x y x' y' : ByteArray} {b : Bool} (h : x = x') (k : y = y') : Ending.returned (.tuple #[.string x, .string y, .bool b]) = .returned (.tuple #[.string x', .string y', .bool b]) := by rw [h, k]

theorem head_of (s : ByteArray) (h : 0 < s.size) : s.data.toList.head? = some s[0] := by
  rw [List.head?_eq_getElem?, List.getElem?_eq_getElem (by rw [← Lib.size_eq]; exact h)]
  rfl
theorem drop_of (s : ByteArray) (k : Nat) (h : k < s.size) : s.data.toList.drop k = s[k] :: s.data.toList.drop (k + 1) := by
  rw [List.drop_eq_getElem_cons (by rw [← Lib.size_eq]; exact h)]
  rfl

theorem not_empty (s : ByteArray) (h : 0 < s.size) : ¬ s.toList = [] := by
  intro e
  rw [Lib.toList_data] at e
  have k := Lib.size_eq s
  rw [e, List.length_nil] at k
  omega

theorem digs_step (s : ByteArray) (n k : Nat) (h : k < s.size) (h1 : 48 ≤ (s[k].toNat : Int)) (h2 : (s[k].toNat : Int) ≤ 57) :
    Pk.digs n (s.data.toList.drop k) = Pk.digs (10 * n + (s[k].toNat - 48)) (s.data.toList.drop (k + 1)) := by
  rw [drop_of s k h, Pk.digs, if_pos (by omega)]
theorem digs_stop (s : ByteArray) (n k : Nat) (h : k < s.size) (h1 : (s[k].toNat : Int) < 48 ∨ 57 < (s[k].toNat : Int)) :
    Pk.digs n (s.data.toList.drop k) = none := by
  rw [drop_of s k h, Pk.digs, if_neg (by omega)]
theorem digs_end (s : ByteArray) (n k : Nat) (h : s.size ≤ k) : Pk.digs n (s.data.toList.drop k) = some n := by
  rw [List.drop_of_length_le (by rw [← Lib.size_eq]; exact h)]
  rfl

/-- What parseNumber tells. -/
def numV (o : Option Nat) : Value := .tuple #[.int .i64 (o.getD 0 : Nat), .bool o.isSome]

end Go.Proofs.YtkckgoeemfjkkaaDoor


