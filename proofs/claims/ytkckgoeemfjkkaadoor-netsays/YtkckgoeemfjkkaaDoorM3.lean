/-
  strings.Split at a separator of one byte, parseRow and parseSet: what they return; no memory that was there turns.
-/
import Derived.Test.YtkckgoeemfjkkaaDoorM2
import Derived.Shelf.Strings.Split
import Derived.Lib.IndexBytes
namespace Go.Proofs.YtkckgoeemfjkkaaDoor
open Go.RowKit

theorem splitK_spl (c : UInt8) : ∀ (k : Nat) (s : List UInt8), s.count c = k → Lib.splitK [c] 0 k s = Mt.spl c s := by
  intro k
  induction k with
  | zero =>
    intro s h
    rw [Mt.spl_no c s (List.count_eq_zero.1 h)]
    rfl
  | succ k ih =>
    intro s h
    cases hb : Pk.brk c s with
    | none =>
      rw [List.count_eq_zero.2 (Pk.brk_none c s hb)] at h
      omega
    | some q =>
      obtain ⟨a, b⟩ := q
      obtain ⟨h1, h2⟩ := Pk.brk_some c s a b hb
      have hc : b.count c = k := by
        rw [h1, List.count_append, List.count_cons_self, List.count_eq_zero.2 h2] at h
        omega
      have hi : Lib.index s [c] = (a.length : Int) := by rw [Lib.index_one, h1, Pk.indexByte_at c a b h2]
      rw [Lib.splitK, hi, if_neg (by simp), h1, Mt.spl_cons c a b h2, ← ih b hc]
      have e1 : (a ++ c :: b).take ((a.length : Int).toNat + 0) = a := by simp
      have e2 : (a ++ c :: b).drop ((a.length : Int).toNat + [c].length) = b := by
        rw [Int.toNat_natCast, List.length_singleton, List.drop_append]
        simp
      rw [e1, e2]

/-- What parseRow tells. -/
def rowN (l : List UInt8) : Nat × Nat × Bool :=
  match Pk.brk 45 l with
  | none => ((Pk.num l).getD 0, (Pk.num l).getD 0, (Pk.num l).isSome && (Pk.num l).isSome)
  | some (x, y) => ((Pk.num x).getD 0, (Pk.num y).getD 0, (Pk.num x).isSome && (Pk.num y).isSome)

theorem rowP_eq (size : Nat) (l : List UInt8) : Mt.rowP size l = if (rowN l).2.2 = true ∧ (rowN l).1 ≤ (rowN l).2.1 ∧ (rowN l).2.1 < size then some ((rowN l).1, (rowN l).2.1) else none := by
  unfold Mt.rowP rowN
  cases Pk.brk 45 l with
  | none =>
    simp only
    cases Pk.num l with
    | none => simp
    | some a => simp
  | some q =>
    obtain ⟨x, y⟩ := q
    simp only
    cases Pk.num x with
    | none => simp
    | some a =>
      cases Pk.num y with
      | none => simp
      | some b => simp

def rowV (q : Nat × Nat × Bool) : Value := .tuple #[.int .i64 (q.1 : Int), .int .i64 (q.2.1 : Int), .bool q.2.2]

end Go.Proofs.YtkckgoeemfjkkaaDoor


