/-
  A slice of ops, opened.
-/
import Derived.Test.YtgcimcpcnoojnaaKnow
import Derived.ProofKit
import Derived.OpenShut
import Derived.Deep.Slices
namespace Go.Proofs.Ytgcimcpcnoojnaa
open Go.ChangeShapes Go.WideShapes Go.RowKit Go.Deep

theorem cells36 : Try.prog.cellsOf 36 = 4 := by kernel_rfl

theorem spot_none {w : World} {a : Addr} {v : Value} (h : w.cell? a = some v) : a.spot = none := by
  unfold World.cell? at h
  split at h
  · split at h
    · cases h
    · rename_i hs
      cases hp : a.spot
      · rfl
      · rw [hp] at hs; simp at hs
  · cases h

set_option maxRecDepth 100000 in
theorem ops_open {H : Type} {enc : TypeId × Value → H} {W : World} {sp : Nat → Bool} {held : Bool} {v : Value} {d : DataW H} {ps : List MemPlace} (h : DataW.Trod enc Try.prog W 0 sp held 22 v d ps) (hv : v.cells.toList = [v]) : SomeOk W.heap.size W v := by
  obtain ⟨fuel, h⟩ := h
  rw [hv] at h
  rcases open_slice Try.underlying22 h with ⟨h0, _⟩ | ⟨a, len, cap, m, n, D, Pl, h0, _, hl, hm, hmm, _, hx⟩
  · obtain rfl : v = .slice none 0 0 := by simpa using h0
    exact someOk_none _ _ _ _
  · obtain rfl : v = .slice (some a) len cap := by simpa using h0
    have hlm : len ≤ m := by rw [hmm]; split <;> omega
    by_cases h00 : len = 0
    · subst h00
      exact someOk_none _ _ _ _
    · have each : ∀ i, i < len → ∃ c0 c1 c2 c3 : Int, W.cell? (a.add (i * 4)) = some (.int .i64 c0) ∧ W.cell? ((a.add (i * 4)).add 1) = some (.int .i64 c1) ∧ W.cell? ((a.add (i * 4)).add 2) = some (.int .i64 c2) ∧ W.cell? ((a.add (i * 4)).add 3) = some (.int .i64 c3) := by
        intro i hi
        obtain ⟨cs', h1, h2⟩ := hx i (by omega)
        rw [cells36] at h1
        obtain ⟨_, hlen, hcell⟩ := World.cells?_some h1
        obtain ⟨xs, k, hk, hxy, _, hxl, hf⟩ := DataW.trod_struct Try.underlying36 h2
        match xs, hxl, cs', hlen with
        | [y0, y1, y2, y3], _, [v0, v1, v2, v3], _ =>
          have g0 := hf 0 _ rfl
          have g1 := hf 1 _ rfl
          have g2 := hf 2 _ rfl
          have g3 := hf 3 _ rfl
          simp [Try.cells3] at g0 g1 g2 g3
          obtain ⟨x0, q0, _, _⟩ := DataW.trod_int Try.underlying3 g0
          obtain ⟨x1, q1, _, _⟩ := DataW.trod_int Try.underlying3 g1
          obtain ⟨x2, q2, _, _⟩ := DataW.trod_int Try.underlying3 g2
          obtain ⟨x3, q3, _, _⟩ := DataW.trod_int Try.underlying3 g3
          have e0 := hcell 0 (by omega)
          have e1 := hcell 1 (by omega)
          have e2 := hcell 2 (by omega)
          have e3 := hcell 3 (by omega)
          simp only [List.cons.injEq, and_true] at q0 q1 q2 q3
          subst q0 q1 q2 q3
          exact ⟨x0, x1, x2, x3, by simpa [Addr.add] using e0, by simpa using e1, by simpa using e2, by simpa using e3⟩
      have hsp : a.spot = none := by
        obtain ⟨c0, _, _, _, e0, _⟩ := each 0 (by omega)
        exact spot_none (a := a) (by simpa [Addr.add] using e0)
      obtain ⟨b, o, sp'⟩ := a
      simp only [] at hsp
      subst hsp
      have padd : ∀ n, (⟨b, o, none⟩ : Addr).add n = ⟨b, o + n, none⟩ := fun n => by unfold Addr.add; split <;> simp_all
      have padd2 : ∀ n k, (⟨b, o + n, none⟩ : Addr).add k = ⟨b, o + n + k, none⟩ := fun n k => by unfold Addr.add; split <;> simp_all
      have hch : ∃ xs : Nat → Int × Int, ∀ i, i < len → ∃ p q, W.cell? ⟨b, o + i * 4, none⟩ = some (.int .i64 (xs i).1) ∧ W.cell? ⟨b, o + i * 4 + 1, none⟩ = some (.int .i64 (xs i).2) ∧ W.cell? ⟨b, o + i * 4 + 2, none⟩ = some (.int .i64 p) ∧ W.cell? ⟨b, o + i * 4 + 3, none⟩ = some (.int .i64 q) := by
        refine choose_lt (α := Int × Int) (p := fun i x => ∃ p q, W.cell? ⟨b, o + i * 4, none⟩ = some (.int .i64 x.1) ∧ W.cell? ⟨b, o + i * 4 + 1, none⟩ = some (.int .i64 x.2) ∧ W.cell? ⟨b, o + i * 4 + 2, none⟩ = some (.int .i64 p) ∧ W.cell? ⟨b, o + i * 4 + 3, none⟩ = some (.int .i64 q)) (fun i hi => ?_)
        obtain ⟨c0, c1, c2, c3, e0, e1, e2, e3⟩ := each i hi
        rw [padd] at e0
        rw [padd, padd2] at e1 e2 e3
        exact ⟨(c0, c1), c2, c3, e0, e1, e2, e3⟩
      obtain ⟨xs, hxs⟩ := hch
      have hlb : b < W.heap.size := by
        obtain ⟨_, _, e0, _⟩ := hxs 0 (by omega)
        exact World.block_lt_of_cell? W _ e0
      exact someOk_row (xs := xs) ⟨hlb, hxs⟩ hl hm
end Go.Proofs.Ytgcimcpcnoojnaa


