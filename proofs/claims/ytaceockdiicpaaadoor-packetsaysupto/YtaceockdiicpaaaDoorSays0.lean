/-
  Small facts on packets that lie in blocks of their own.
-/
import Derived.Test.YtaceockdiicpaaaDoorRef7
namespace Go.Proofs.YtaceockdiicpaaaDoor
open Go.RowKit

theorem setBox {w : World} {n : Nat} {a b c d : Int} (h : Box w n a b c d) (x y z u : Int) :
    Box ((((w.setCell ⟨n, 0, none⟩ (.int .i64 x)).setCell ⟨n, 1, none⟩ (.int .i64 y)).setCell ⟨n, 2, none⟩ (.int .i64 z)).setCell ⟨n, 3, none⟩ (.int .i64 u)) n x y z u := by
  obtain ⟨h0, ⟨h1, h2, h3, h4⟩, k1, k2, k3, k4⟩ := h
  refine ⟨by simpa using h0, ⟨?_, ?_, ?_, ?_⟩, ?_, ?_, ?_, ?_⟩ <;> simp [go_sem, h1, h2, h3, h4, k1, k2, k3, k4]
theorem otherBox {w : World} {n m : Nat} {a b c d : Int} (h : Box w m a b c d) (hm : m < n) (v0 v1 v2 v3 : Value) :
    Box ((((w.setCell ⟨n, 0, none⟩ v0).setCell ⟨n, 1, none⟩ v1).setCell ⟨n, 2, none⟩ v2).setCell ⟨n, 3, none⟩ v3) m a b c d := by
  have hb := below_set4 (Below.refl n w) (Nat.le_refl n) v0 v1 v2 v3
  obtain ⟨h0, ⟨h1, h2, h3, h4⟩, k1, k2, k3, k4⟩ := h
  exact ⟨Nat.lt_of_lt_of_le h0 hb.size, ⟨(hb.cell (p := ⟨m, 0, none⟩) hm).trans h1, (hb.cell (p := ⟨m, 1, none⟩) hm).trans h2, (hb.cell (p := ⟨m, 2, none⟩) hm).trans h3, (hb.cell (p := ⟨m, 3, none⟩) hm).trans h4⟩,
    (hb.frozen (p := ⟨m, 0, none⟩) hm).trans k1, (hb.frozen (p := ⟨m, 1, none⟩) hm).trans k2, (hb.frozen (p := ⟨m, 2, none⟩) hm).trans k3, (hb.frozen (p := ⟨m, 3, none⟩) hm).trans k4⟩
theorem Below.alloc' {W0 w : World} (h : Below W0.heap.size W0 w) (o : Obj) : Below W0.heap.size W0 (w.alloc o) := h.alloc h.size o

theorem five {w' : World} {n1 n2 n3 n4 n5 : Nat} {a1 b1 c1 d1 a2 b2 c2 d2 a3 b3 c3 d3 a4 b4 c4 d4 a5 b5 c5 d5 : Int}
    (h1 : Box w' n1 a1 b1 c1 d1) (h2 : Box w' n2 a2 b2 c2 d2) (h3 : Box w' n3 a3 b3 c3 d3) (h4 : Box w' n4 a4 b4 c4 d4) (h5 : Box w' n5 a5 b5 c5 d5) :
    w'.cell? ⟨n1, 0, none⟩ = some (.int .i64 a1) ∧ w'.cell? ⟨n1, 1, none⟩ = some (.int .i64 b1) ∧ w'.cell? ⟨n1, 2, none⟩ = some (.int .i64 c1) ∧ w'.cell? ⟨n1, 3, none⟩ = some (.int .i64 d1) ∧
    w'.cell? ⟨n2, 0, none⟩ = some (.int .i64 a2) ∧ w'.cell? ⟨n2, 1, none⟩ = some (.int .i64 b2) ∧ w'.cell? ⟨n2, 2, none⟩ = some (.int .i64 c2) ∧ w'.cell? ⟨n2, 3, none⟩ = some (.int .i64 d2) ∧
    w'.cell? ⟨n3, 0, none⟩ = some (.int .i64 a3) ∧ w'.cell? ⟨n3, 1, none⟩ = some (.int .i64 b3) ∧ w'.cell? ⟨n3, 2, none⟩ = some (.int .i64 c3) ∧ w'.cell? ⟨n3, 3, none⟩ = some (.int .i64 d3) ∧
    w'.cell? ⟨n4, 0, none⟩ = some (.int .i64 a4) ∧ w'.cell? ⟨n4, 1, none⟩ = some (.int .i64 b4) ∧ w'.cell? ⟨n4, 2, none⟩ = some (.int .i64 c4) ∧ w'.cell? ⟨n4, 3, none⟩ = some (.int .i64 d4) ∧
    w'.cell? ⟨n5, 0, none⟩ = some (.int .i64 a5) ∧ w'.cell? ⟨n5, 1, none⟩ = some (.int .i64 b5) ∧ w'.cell? ⟨n5, 2, none⟩ = some (.int .i64 c5) ∧ w'.cell? ⟨n5, 3, none⟩ = some (.int .i64 d5) :=
  ⟨h1.2.1.1, h1.2.1.2.1, h1.2.1.2.2.1, h1.2.1.2.2.2, h2.2.1.1, h2.2.1.2.1, h2.2.1.2.2.1, h2.2.1.2.2.2, h3.2.1.1, h3.2.1.2.1, h3.2.1.2.2.1, h3.2.1.2.2.2, h4.2.1.1, h4.2.1.2.1, h4.2.1.2.2.1, h4.2.1.2.2.2, h5.2.1.1, h5.2.1.2.1, h5.2.1.2.2.1, h5.2.1.2.2.2⟩

end Go.Proofs.YtaceockdiicpaaaDoor
