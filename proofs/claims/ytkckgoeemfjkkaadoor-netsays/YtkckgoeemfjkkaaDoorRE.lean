/-
  The document's answer on nets: ends of links, as a row that grows.
-/
import Derived.Test.YtkckgoeemfjkkaaDoorNp
import Derived.Laws.AppendOwnNone
import Derived.Lib.SliceRun
import Derived.ChangeKeysEq
namespace Go.Proofs.YtkckgoeemfjkkaaDoor
open Go.RowKit

abbrev prV (a b : Int) : Value := .agg #[.int .i64 a, .int .i64 b]
def cellsP (xs : List (Int × Int)) : List Value := xs.flatMap fun p => [.int .i64 p.1, .int .i64 p.2]
theorem cellsP_cons (p : Int × Int) (l : List (Int × Int)) : cellsP (p :: l) = .int .i64 p.1 :: .int .i64 p.2 :: cellsP l := rfl
theorem cellsP_append (a b : List (Int × Int)) : cellsP (a ++ b) = cellsP a ++ cellsP b := by simp [cellsP]
theorem cellsP_length : ∀ xs : List (Int × Int), (cellsP xs).length = xs.length * 2
  | [] => rfl
  | p :: l => by
    have := cellsP_length l
    rw [cellsP_cons, List.length_cons, List.length_cons, this, List.length_cons]
    omega
theorem cellsP_at : ∀ (xs : List (Int × Int)) (k : Nat) (p : Int × Int), xs[k]? = some p → (cellsP xs)[k * 2]? = some (.int .i64 p.1) ∧ (cellsP xs)[k * 2 + 1]? = some (.int .i64 p.2)
  | [], k, p, h => by simp at h
  | x :: l, 0, p, h => by
    obtain rfl : x = p := by simpa using h
    exact ⟨rfl, rfl⟩
  | x :: l, k + 1, p, h => by
    have ih := cellsP_at l k p (by simpa using h)
    rw [cellsP_cons, show (k + 1) * 2 = k * 2 + 1 + 1 by omega, show k * 2 + 1 + 1 + 1 = (k * 2 + 1) + 1 + 1 by omega]
    exact ih
/-- A slice of pairs, read. -/
def Prs (base : Nat) (w : World) (v : Value) (xs : List (Int × Int)) : Prop :=
  ∃ A cap, v = .slice A xs.length cap ∧ xs.length ≤ cap ∧ cap ≤ maxLen ∧ (xs ≠ [] → ∃ b o, A = some ⟨b, o, none⟩ ∧ b < base ∧ ∀ k p, xs[k]? = some p → w.cell? ⟨b, o + k * 2, none⟩ = some (.int .i64 p.1) ∧ w.cell? ⟨b, o + k * 2 + 1, none⟩ = some (.int .i64 p.2))
theorem Prs.below {base : Nat} {w w' : World} {v : Value} {xs : List (Int × Int)} (h : Prs base w v xs) (hb : Below base w w') : Prs base w' v xs := by
  obtain ⟨A, cap, e, h1, h2, h3⟩ := h
  refine ⟨A, cap, e, h1, h2, fun hn => ?_⟩
  obtain ⟨b, o, ea, hl, hr⟩ := h3 hn
  refine ⟨b, o, ea, hl, fun k p hk => ?_⟩
  obtain ⟨c0, c1⟩ := hr k p hk
  exact ⟨(hb.cell (p := ⟨b, _, none⟩) hl).trans c0, (hb.cell (p := ⟨b, _, none⟩) hl).trans c1⟩
theorem Prs.mono {base base' : Nat} {w : World} {v : Value} {xs : List (Int × Int)} (h : Prs base w v xs) (hb : base ≤ base') : Prs base' w v xs := by
  obtain ⟨A, cap, e, h1, h2, h3⟩ := h
  refine ⟨A, cap, e, h1, h2, fun hn => ?_⟩
  obtain ⟨b, o, ea, hl, hr⟩ := h3 hn
  exact ⟨b, o, ea, by omega, hr⟩
theorem Prs.own {base : Nat} {w : World} {t : TypeId} {v : Value} {xs : List (Int × Int)} (h : w.ownsRow base t 2 v xs.length (cellsP xs)) : Prs w.heap.size w v xs := by
  have hh := h
  obtain ⟨hl, hc⟩ := h
  rcases hc with ⟨rfl, h0⟩ | ⟨g, cap, cur, rfl, hb, hg, hn, hcap, hs, ht⟩
  · exact ⟨none, 0, by rw [h0], by omega, by unfold maxLen; omega, fun hn => absurd (List.length_eq_zero_iff.1 h0) hn⟩
  · refine ⟨_, cap, rfl, hn, hcap, fun _ => ⟨g, 0, rfl, (Array.getElem?_eq_some_iff.1 hg).1, fun k p hk => ?_⟩⟩
    obtain ⟨c0, c1⟩ := cellsP_at xs k p hk
    have e0 := hh.cells (g := g) rfl _ _ c0
    have e1 := hh.cells (g := g) rfl _ _ c1
    rw [Addr.add_lit] at e0 e1
    exact ⟨e0, e1⟩
theorem Tryd.uPairs : Tryd.prog.underlying 44 = some (.slice 47) := by kernel_rfl
theorem Tryd.infoPair : (Tryd.prog.info? 47).map (fun i => (i.zero, i.size, i.bytes)) = some (some (.agg #[.int .i64 0, .int .i64 0]), 2, 16) := by kernel_rfl
theorem pair_eq (a b c d : Int) (w : World) : (binOp .eql 47 (prV a b) (prV c d)).run Tryd.prog w = .ok (.bool ((a == c) && (b == d))) w := by
  obtain ⟨i, hi⟩ : ∃ i, Tryd.prog.info? 3 = some i := by
    have h : (Tryd.prog.info? 3).isSome = true := by kernel_rfl
    exact Option.isSome_iff_exists.1 h
  rw [run_eql_struct, show (10000 : Nat) = 9998 + 1 + 1 from rfl, run_equalIn_array w (9998 + 1) _ _ Tryd.underlying47 hi, nInt, show List.range 2 = [0, 1] from rfl]
  have p0 : ∀ (x y : Int) (w : World), (part 3 #[.int .i64 x, .int .i64 y] (0 * 1)).run Tryd.prog w = .ok (.int .i64 x) w := fun _ _ _ => by kernel_rfl
  have p1 : ∀ (x y : Int) (w : World), (part 3 #[.int .i64 x, .int .i64 y] 1).run Tryd.prog w = .ok (.int .i64 y) w := fun _ _ _ => by kernel_rfl
  have q : ∀ (x y : Int) (w : World), (Op.equalIn 9999 3 (.int .i64 x) (.int .i64 y)).run Tryd.prog w = .ok (x == y) w := fun x y w => run_equalIn_int w 9998 3 .i64 .i64 x y Tryd.underlying3
  simp only [Op.eqItems, Sem.run_bind, p0, Result.andThen_ok, q]
  cases h1 : (a == c) <;> cases h2 : (b == d) <;> simp [p1, q, h2]
end Go.Proofs.YtkckgoeemfjkkaaDoor
