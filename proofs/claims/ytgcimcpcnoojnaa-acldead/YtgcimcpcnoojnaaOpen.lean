/-
  A slice of rules, a rule, a packet: opened.
-/
import Derived.Test.YtgcimcpcnoojnaaLets
import Derived.ProofKit
import Derived.OpenShut
import Derived.Deep.Slices
namespace Go.Proofs.Ytgcimcpcnoojnaa
open Go.ChangeShapes Go.WideShapes Go.RowKit Go.Deep

theorem cellsRule : Try.prog.cellsOf 78 = 5 := by kernel_rfl
theorem cellsMatch : Try.prog.cellsOf 49 = 4 := by kernel_rfl
theorem cellsPacket : Try.prog.cellsOf 53 = 4 := by kernel_rfl
theorem cellsBool : Try.prog.cellsOf 4 = 1 := by kernel_rfl
theorem cellsU16 : Try.prog.cellsOf 47 = 1 := by kernel_rfl
theorem cellsU8 : Try.prog.cellsOf 5 = 1 := by kernel_rfl
theorem cellsInt : Try.prog.cellsOf 3 = 1 := by kernel_rfl
theorem nat_of {x : Int} {n : Nat} (h0 : 0 ≤ x) (h1 : x ≤ (n : Int)) : ∃ k : Nat, x = (k : Int) ∧ k < n + 1 := ⟨x.toNat, by omega, by omega⟩
theorem spot_none {w : World} {a : Addr} {v : Value} (h : w.cell? a = some v) : a.spot = none := by
  unfold World.cell? at h
  split at h
  · split at h
    · cases h
    · rename_i hs
      cases hp : a.spot
      · rfl
      · rw [hp] at hs; simp at hs
  · cases h

theorem choose_lt' {n : Nat} {p : Nat → Rl → Prop} (h : ∀ i, i < n → ∃ x, p i x) : ∃ f : Nat → Rl, ∀ i, i < n → p i (f i) := by
  haveI : Inhabited Rl := ⟨allR false⟩
  exact choose_lt h
theorem cellsR_split : ∀ (xs : List Rl) (k : Nat) (r : Rl), xs[k]? = some r → ∀ j, j < 5 → (cellsR xs)[k * 5 + j]? = (rcells r)[j]? := by
  intro xs k r h j hj
  obtain ⟨h0, h1, h2, h3, h4⟩ := cellsR_at xs k r h
  match j, hj with
  | 0, _ => exact h0
  | 1, _ => exact h1
  | 2, _ => exact h2
  | 3, _ => exact h3
  | 4, _ => exact h4

section
variable {H : Type} {enc : TypeId × Value → H} {W : World} {sp : Nat → Bool} {held : Bool}
set_option maxRecDepth 100000 in
/-- Five cells that read as a rule are a rule's. -/
theorem rule_cells {fuel : Nat} {cs : List Value} {x : DataW H × List MemPlace} (hl : cs.length = 5) (h : DataW.trod enc Try.prog W 0 sp held fuel 78 cs = some x) : ∃ r : Rl, cs = rcells r := by
  obtain ⟨xs, k, hk, hxy, _, hxl, hf⟩ := DataW.trod_struct Try.underlying78 h
  match xs, hxl, cs, hl with
  | [y0, y1], _, [v0, v1, v2, v3, v4], _ =>
    have g0 := hf 0 _ rfl
    have g1 := hf 1 _ rfl
    simp [cellsBool, cellsMatch] at g0 g1
    obtain ⟨ok, q0, _⟩ := DataW.trod_bool Try.underlying4 g0
    obtain ⟨xs, k, hk, hxy, _, hxl, hf⟩ := DataW.trod_struct Try.underlying49 g1
    match xs, hxl with
    | [z0, z1, z2, z3], _ =>
      have g0 := hf 0 _ rfl
      have g1 := hf 1 _ rfl
      have g2 := hf 2 _ rfl
      have g3 := hf 3 _ rfl
      simp [cellsU16, cellsU8] at g0 g1 g2 g3
      obtain ⟨x0, e0, _, w0⟩ := DataW.trod_int Try.underlying47 g0
      obtain ⟨x1, e1, _, w1⟩ := DataW.trod_int Try.underlying47 g1
      obtain ⟨x2, e2, _, w2⟩ := DataW.trod_int Try.underlying5 g2
      obtain ⟨x3, e3, _, w3⟩ := DataW.trod_int Try.underlying5 g3
      simp only [List.cons.injEq, and_true] at q0 e0 e1 e2 e3
      subst q0 e0 e1 e2 e3
      obtain ⟨na, rfl, la⟩ := nat_of (n := 65535) (bounds_u16 w0).1 (bounds_u16 w0).2
      obtain ⟨nb, rfl, lb⟩ := nat_of (n := 65535) (bounds_u16 w1).1 (bounds_u16 w1).2
      obtain ⟨nc, rfl, lc⟩ := nat_of (n := 255) (bounds_u8 w2).1 (bounds_u8 w2).2
      obtain ⟨nd', rfl, ld⟩ := nat_of (n := 255) (bounds_u8 w3).1 (bounds_u8 w3).2
      exact ⟨⟨ok, na, nb, nc, nd', by omega, by omega, by omega, by omega⟩, rfl⟩

set_option maxRecDepth 100000 in
theorem rules_open {v : Value} {d : DataW H} {ps : List MemPlace} (h : DataW.Trod enc Try.prog W 0 sp held 57 v d ps) (hv : v.cells.toList = [v]) :
    ∃ xs : List Rl, Rules W.heap.size W v xs ∧ ((d = .nil ∧ xs = []) ∨ ∃ es spare, d = .slice es spare ∧ es.length = xs.length) := by
  obtain ⟨fuel, h⟩ := h
  rw [hv] at h
  rcases open_slice Try.underlying57 h with ⟨h0, h00⟩ | ⟨a, len, cap, m, n, D, Pl, h0, _, hl, hm, hmm, hd, hx⟩
  · obtain rfl : v = .slice none 0 0 := by simpa using h0
    exact ⟨[], ⟨none, 0, rfl, fun _ => rfl, Nat.le_refl _, Nat.zero_le _, fun hn => absurd rfl hn⟩, .inl ⟨(Prod.mk.inj h00).1, rfl⟩⟩
  · obtain rfl : v = .slice (some a) len cap := by simpa using h0
    have hlm : len ≤ m := by rw [hmm]; split <;> omega
    obtain ⟨hd1, _⟩ := Prod.mk.inj hd
    by_cases h00 : len = 0
    · subst h00
      exact ⟨[], ⟨some a, cap, rfl, (fun e => by cases e), hl, hm, fun hn => absurd rfl hn⟩, .inr ⟨_, _, hd1, by simp⟩⟩
    · have each : ∀ i, i < len → ∃ r : Rl, ∀ j u, (rcells r)[j]? = some u → W.cell? ((a.add (i * 5)).add j) = some u := by
        intro i hi
        obtain ⟨cs', h1, h2⟩ := hx i (by omega)
        rw [cellsRule] at h1
        obtain ⟨_, hlen, hcell⟩ := World.cells?_some h1
        obtain ⟨r, rfl⟩ := rule_cells hlen h2
        refine ⟨r, fun j u hj => ?_⟩
        have hj5 : j < 5 := by
          have := (List.getElem?_eq_some_iff.1 hj).1
          simpa using this
        have := hcell j hj5
        rw [hj] at this
        exact this
      have hsp : a.spot = none := by
        obtain ⟨r, e0⟩ := each 0 (by omega)
        have := e0 0 _ rfl
        exact spot_none (a := a) (by simpa [Addr.add] using this)
      obtain ⟨b, o, sp'⟩ := a
      simp only [] at hsp
      subst hsp
      obtain ⟨f, hf⟩ := choose_lt' each
      have hlb : b < W.heap.size := by
        have := hf 0 (by omega) 0 _ rfl
        rw [Addr.add_lit, Addr.add_lit] at this
        exact World.block_lt_of_cell? W _ this
      have hlen : ((List.range len).map f).length = len := by simp
      refine ⟨(List.range len).map f, ⟨some ⟨b, o, none⟩, cap, by rw [hlen], (fun e => by cases e), by rw [hlen]; exact hl, hm, fun _ => ⟨b, o, rfl, hlb, fun j u hj => ?_⟩⟩, .inr ⟨_, _, hd1, by simp⟩⟩
      have hjl : j < len * 5 := by
        have := (List.getElem?_eq_some_iff.1 hj).1
        rw [cellsR_length, hlen] at this
        exact this
      have hk : ((List.range len).map f)[j / 5]? = some (f (j / 5)) := by
        rw [List.getElem?_map, List.getElem?_range (by omega)]
        rfl
      have hsplit := cellsR_split _ _ _ hk (j % 5) (Nat.mod_lt _ (by omega))
      rw [show j / 5 * 5 + j % 5 = j by omega, hj] at hsplit
      have := hf (j / 5) (by omega) (j % 5) u hsplit.symm
      rw [Addr.add_lit, Addr.add_lit, show o + j / 5 * 5 + j % 5 = o + j by omega] at this
      exact this

set_option maxRecDepth 100000 in
theorem rule_open {r : Reach} {b0 : Nat} {v : Value} {d : DataW H} {p : List MemPlace} (hv : Value.okWide Try.prog W r b0 78 v) (h : DataW.Trod enc Try.prog W 0 sp held 78 v d p) : ∃ x : Rl, v = rv x := by
  obtain ⟨cs, rfl, hsz⟩ := okWide_struct Try.underlying78 hv
  obtain ⟨fuel, h⟩ := h
  rw [cellsRule] at hsz
  obtain ⟨x, hx⟩ := rule_cells (cs := cs.toList) (by simpa using hsz) (by simpa [Value.cells] using h)
  refine ⟨x, ?_⟩
  congr 1
  cases cs
  simp only at hx
  rw [hx]
set_option maxRecDepth 100000 in
theorem packet_open {r : Reach} {b0 : Nat} {v : Value} {d : DataW H} {p : List MemPlace} (hv : Value.okWide Try.prog W r b0 53 v) (h : DataW.Trod enc Try.prog W 0 sp held 53 v d p) : ∃ a b c e : Int, v = pk a b c e := by
  obtain ⟨cs, rfl, hsz⟩ := okWide_struct Try.underlying53 hv
  obtain ⟨fuel, h⟩ := h
  rw [cellsPacket] at hsz
  obtain ⟨l⟩ := cs
  simp only [Value.cells] at h
  obtain ⟨xs, k, hk, hxy, _, hxl, hf⟩ := DataW.trod_struct Try.underlying53 h
  match xs, hxl, l, hsz with
  | [y0, y1, y2, y3], _, [v0, v1, v2, v3], _ =>
    have g0 := hf 0 _ rfl
    have g1 := hf 1 _ rfl
    have g2 := hf 2 _ rfl
    have g3 := hf 3 _ rfl
    simp [cellsInt] at g0 g1 g2 g3
    obtain ⟨x0, e0, _⟩ := DataW.trod_int Try.underlying3 g0
    obtain ⟨x1, e1, _⟩ := DataW.trod_int Try.underlying3 g1
    obtain ⟨x2, e2, _⟩ := DataW.trod_int Try.underlying3 g2
    obtain ⟨x3, e3, _⟩ := DataW.trod_int Try.underlying3 g3
    simp only [List.cons.injEq, and_true] at e0 e1 e2 e3
    subst e0 e1 e2 e3
    exact ⟨x0, x1, x2, x3, rfl⟩
end
end Go.Proofs.Ytgcimcpcnoojnaa


