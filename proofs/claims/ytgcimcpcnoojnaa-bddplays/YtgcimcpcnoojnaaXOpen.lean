/-
  A slice of ops: opened.
-/
import Derived.Test.YtgcimcpcnoojnaaOps
import Derived.ProofKit
import Derived.OpenShut
import Derived.Deep.Slices
namespace Go.Proofs.Ytgcimcpcnoojnaa
open Go.ChangeShapes Go.WideShapes Go.RowKit Go.Deep

theorem cellsOp : Try.prog.cellsOf 36 = 4 := by kernel_rfl
theorem cellsInt : Try.prog.cellsOf 3 = 1 := by kernel_rfl
theorem spot_none {w : World} {a : Addr} {v : Value} (h : w.cell? a = some v) : a.spot = none := by
  unfold World.cell? at h
  split at h
  · split at h
    · cases h
    · rename_i hs
      cases hp : a.spot
      · rfl
      · rw [hp] at hs; simp at hs
  · cases h


theorem choose_ltX {n : Nat} {p : Nat → Ox → Prop} (h : ∀ i, i < n → ∃ x, p i x) : ∃ f : Nat → Ox, ∀ i, i < n → p i (f i) := by
  haveI : Inhabited Ox := ⟨⟨0, 0, 0, 0⟩⟩
  exact choose_lt h
abbrev oxcells (r : Ox) : List Value := [.int .i64 r.k, .int .i64 r.a, .int .i64 r.b, .int .i64 r.c]
theorem cellsX_split : ∀ (xs : List Ox) (k : Nat) (r : Ox), xs[k]? = some r → ∀ j, j < 4 → (cellsX xs)[k * 4 + j]? = (oxcells r)[j]? := by
  intro xs k r h j hj
  obtain ⟨h0, h1, h2, h3⟩ := cellsX_at xs k r h
  match j, hj with
  | 0, _ => exact h0
  | 1, _ => exact h1
  | 2, _ => exact h2
  | 3, _ => exact h3

section
variable {H : Type} {enc : TypeId × Value → H} {W : World} {sp : Nat → Bool} {held : Bool}
set_option maxRecDepth 100000 in
/-- Four cells that read as an op are an op's. -/
theorem op_cells {fuel : Nat} {cs : List Value} {x : DataW H × List MemPlace} (hl : cs.length = 4) (h : DataW.trod enc Try.prog W 0 sp held fuel 36 cs = some x) : ∃ r : Ox, cs = oxcells r := by
  obtain ⟨xs, k, hk, hxy, _, hxl, hf⟩ := DataW.trod_struct Try.underlying36 h
  match xs, hxl, cs, hl with
  | [y0, y1, y2, y3], _, [v0, v1, v2, v3], _ =>
    have g0 := hf 0 _ rfl
    have g1 := hf 1 _ rfl
    have g2 := hf 2 _ rfl
    have g3 := hf 3 _ rfl
    simp [cellsInt] at g0 g1 g2 g3
    obtain ⟨x0, e0, _⟩ := DataW.trod_int Try.underlying3 g0
    obtain ⟨x1, e1, _⟩ := DataW.trod_int Try.underlying3 g1
    obtain ⟨x2, e2, _⟩ := DataW.trod_int Try.underlying3 g2
    obtain ⟨x3, e3, _⟩ := DataW.trod_int Try.underlying3 g3
    simp only [List.cons.injEq, and_true] at e0 e1 e2 e3
    subst e0 e1 e2 e3
    exact ⟨⟨x0, x1, x2, x3⟩, rfl⟩

set_option maxRecDepth 100000 in
theorem ops_open {v : Value} {d : DataW H} {ps : List MemPlace} (h : DataW.Trod enc Try.prog W 0 sp held 22 v d ps) (hv : v.cells.toList = [v]) :
    ∃ xs : List Ox, Opsl W.heap.size W v xs := by
  obtain ⟨fuel, h⟩ := h
  rw [hv] at h
  rcases open_slice Try.underlying22 h with ⟨h0, h00⟩ | ⟨a, len, cap, m, n, D, Pl, h0, _, hl, hm, hmm, hd, hx⟩
  · obtain rfl : v = .slice none 0 0 := by simpa using h0
    exact ⟨[], ⟨none, 0, rfl, Nat.le_refl _, Nat.zero_le _, fun hn => absurd rfl hn⟩⟩
  · obtain rfl : v = .slice (some a) len cap := by simpa using h0
    have hlm : len ≤ m := by rw [hmm]; split <;> omega
    by_cases h00 : len = 0
    · subst h00
      exact ⟨[], ⟨some a, cap, rfl, hl, hm, fun hn => absurd rfl hn⟩⟩
    · have each : ∀ i, i < len → ∃ r : Ox, ∀ j u, (oxcells r)[j]? = some u → W.cell? ((a.add (i * 4)).add j) = some u := by
        intro i hi
        obtain ⟨cs', h1, h2⟩ := hx i (by omega)
        rw [cellsOp] at h1
        obtain ⟨_, hlen, hcell⟩ := World.cells?_some h1
        obtain ⟨r, rfl⟩ := op_cells hlen h2
        refine ⟨r, fun j u hj => ?_⟩
        have hj5 : j < 4 := by
          have := (List.getElem?_eq_some_iff.1 hj).1
          simpa using this
        have := hcell j hj5
        rw [hj] at this
        exact this
      have hsp : a.spot = none := by
        obtain ⟨r, e0⟩ := each 0 (by omega)
        have := e0 0 _ rfl
        exact spot_none (a := a) (by simpa [Addr.add] using this)
      obtain ⟨b, o, sp'⟩ := a
      simp only [] at hsp
      subst hsp
      obtain ⟨f, hf⟩ := choose_ltX each
      have hlb : b < W.heap.size := by
        have := hf 0 (by omega) 0 _ rfl
        rw [Addr.add_lit, Addr.add_lit] at this
        exact World.block_lt_of_cell? W _ this
      have hlen : ((List.range len).map f).length = len := by simp
      refine ⟨(List.range len).map f, ⟨some ⟨b, o, none⟩, cap, by rw [hlen], by rw [hlen]; exact hl, hm, fun _ => ⟨b, o, rfl, hlb, fun j u hj => ?_⟩⟩⟩
      have hjl : j < len * 4 := by
        have := (List.getElem?_eq_some_iff.1 hj).1
        rw [cellsX_length, hlen] at this
        exact this
      have hk : ((List.range len).map f)[j / 4]? = some (f (j / 4)) := by
        rw [List.getElem?_map, List.getElem?_range (by omega)]
        rfl
      have hsplit := cellsX_split _ _ _ hk (j % 4) (Nat.mod_lt _ (by omega))
      rw [show j / 4 * 4 + j % 4 = j by omega, hj] at hsplit
      have := hf (j / 4) (by omega) (j % 4) u hsplit.symm
      rw [Addr.add_lit, Addr.add_lit, show o + j / 4 * 4 + j % 4 = o + j by omega] at this
      exact this
end
end Go.Proofs.Ytgcimcpcnoojnaa


