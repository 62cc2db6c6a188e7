/-
  Package step: what the walks of the kinds take; route.
-/
import Derived.Test.YthioedgnambomaaSr
import Derived.Laws.CopyRow
namespace Go.Proofs.Ythioedgnambomaa
open Go.RowKit Go.Maps

/-- A block of cells of a call's own. -/
def Bk (w : World) (k : Nat) (c : Array Value) (t : TypeId) : Prop := w.heap[k]? = some (.cells c t (0, 0))
section
variable {w w' : World} {k : Nat} {c : Array Value} {t : TypeId}
theorem Bk.lt (h : Bk w k c t) : k < w.heap.size := (Array.getElem?_eq_some_iff.1 h).1
theorem Bk.below {B : Nat} (h : Bk w k c t) (hb : Below B w w') (hk : k < B) : Bk w' k c t := (hb.block k hk).trans h
theorem Bk.keep (hb : Below w.heap.size w w') (h : Bk w k c t) : Bk w' k c t := h.below hb h.lt
theorem Bk.alloc (h : Bk w k c t) (o : Obj) : Bk (w.alloc o) k c t := h.below ((Below.refl _ _).alloc (Nat.le_refl _) o) h.lt
theorem Bk.drew (h : Bk w k c t) : Bk w.drew k c t := h
theorem bk_new (w : World) (c : Array Value) (t : TypeId) : Bk (w.alloc (.cells c t)) w.heap.size c t := by
  show (w.heap.push _)[w.heap.size]? = _
  simp
theorem bk_new' (w : World) (c : Array Value) (t : TypeId) (k : Nat) (h : k = w.heap.size) : Bk (w.alloc (.cells c t)) k c t := by rw [h]; exact bk_new w c t
theorem Bk.at (h : Bk w k c t) (j : Nat) : w.cell? ⟨k, j, none⟩ = c[j]? := cell_of_row w k j _ _ _ h
theorem Bk.fz (h : Bk w k c t) (j : Nat) : w.frozen? ⟨k, j, none⟩ = false := by
  unfold Bk at h
  simp [World.frozen?, h]
end
/-- Block k alone was written. -/
structure Put (k : Nat) (w w' : World) : Prop where
  os : w'.os = w.os
  tape : w'.tape = w.tape
  output : w'.output = w.output
  size : w'.heap.size = w.heap.size
  block : ∀ b, b ≠ k → w'.heap[b]? = w.heap[b]?
theorem Put.below {k B : Nat} {w0 w w' : World} (h : Put k w w') (hb : Below B w0 w) (hk : B ≤ k) : Below B w0 w' :=
  hb.trans ⟨h.os, h.tape, h.output, by rw [h.size]; exact Nat.le_refl _, fun b hl => h.block b (by omega)⟩
theorem Put.bk {k j : Nat} {w w' : World} {c : Array Value} {t : TypeId} (h : Put k w w') (hb : Bk w j c t) (hj : j ≠ k) : Bk w' j c t := (h.block j hj).trans hb
theorem Bk.put {w : World} {k : Nat} {c : Array Value} {t : TypeId} (h : Bk w k c t) (ty : TypeId) (cells : Array Value) (hs : cells.size = c.size) (hi : (Try.prog.info? ty).map (·.size) = some cells.size) (h1 : cells.all (·.oneCell') = true) :
    ∃ w', (Instr.storeAt ty (.pointer (some ⟨k, 0, none⟩)) (.agg cells)).run Try.prog w = .ok () w' ∧ Bk w' k cells t ∧ Put k w w' := by
  refine ⟨w.setRow k cells, ?_, setRow_heap w k c cells t _ h, ⟨rfl, rfl, rfl, by simp, fun b hb => setRow_other w k b cells hb⟩⟩
  have hst := run_storeCells_at (P := Try.prog) k 0 t cells.toList 0 c w h (by simp; omega) (fun v hv => (Array.all_eq_true_iff_forall_mem.1 h1) v (by simpa using hv))
  have e : (c.toList.take (0 + 0) ++ cells.toList ++ c.toList.drop (0 + 0 + cells.toList.length)).toArray = cells := by
    rw [List.drop_eq_nil_of_le (by simp; omega)]
    simp
  rw [e] at hst
  cases hq : Try.prog.info? ty with
  | none => simp [hq] at hi
  | some i =>
    have hs : cells.size = i.size := by simp [hq] at hi; omega
    simp [Instr.storeAt, Instr.sureAddr, storeVar, sizeOf, typeInfo, hq, Value.cells, hs, hst]
theorem Bk.setO {w : World} {k b j : Nat} {c : Array Value} {t : TypeId} (h : Bk w k c t) (hne : k ≠ b) (u : Value) : Bk (w.setCell ⟨b, j, none⟩ u) k c t := (Below.heap_setCell w ⟨b, j, none⟩ u k hne).trans h
theorem Bk.drewN {w : World} {k : Nat} {c : Array Value} {t : TypeId} (h : Bk w k c t) (n : Nat) : Bk (w.drewN n) k c t := h
theorem Bk.setS {w : World} {k j : Nat} {c : Array Value} {t : TypeId} (h : Bk w k c t) (u : Value) : Bk (w.setCell ⟨k, j, none⟩ u) k (c.setIfInBounds j u) t := by
  unfold Bk at *
  simp [World.setCell, Array.getElem?_modify, h]
theorem infoLv : (Try.prog.info? 73).map (·.size) = some 6 := by kernel_rfl
/-- A packet in a block of a call's own. -/
theorem Bk.four {w : World} {k : Nat} {t : TypeId} {a b c d : Value} (h : Bk w k #[a, b, c, d] t) : w.cell? ⟨k, 0, none⟩ = some a ∧ w.cell? ⟨k, 1, none⟩ = some b ∧ w.cell? ⟨k, 2, none⟩ = some c ∧ w.cell? ⟨k, 3, none⟩ = some d ∧ w.frozen? ⟨k, 0, none⟩ = false ∧ w.frozen? ⟨k, 1, none⟩ = false ∧ w.frozen? ⟨k, 2, none⟩ = false ∧ w.frozen? ⟨k, 3, none⟩ = false := ⟨h.at 0, h.at 1, h.at 2, h.at 3, h.fz 0, h.fz 1, h.fz 2, h.fz 3⟩
theorem Bk.one {w : World} {k : Nat} {t : TypeId} {a : Value} (h : Bk w k #[a] t) : w.cell? ⟨k, 0, none⟩ = some a ∧ w.frozen? ⟨k, 0, none⟩ = false := ⟨h.at 0, h.fz 0⟩
theorem Bk.two {w : World} {k : Nat} {t : TypeId} {a b : Value} (h : Bk w k #[a, b] t) : w.cell? ⟨k, 0, none⟩ = some a ∧ w.cell? ⟨k, 1, none⟩ = some b := ⟨h.at 0, h.at 1⟩
theorem Bk.five {w : World} {k : Nat} {t : TypeId} {a b c d e : Value} (h : Bk w k #[a, b, c, d, e] t) : w.cell? ⟨k, 0, none⟩ = some a ∧ w.cell? ⟨k, 1, none⟩ = some b ∧ w.cell? ⟨k, 2, none⟩ = some c ∧ w.cell? ⟨k, 3, none⟩ = some d ∧ w.cell? ⟨k, 4, none⟩ = some e := ⟨h.at 0, h.at 1, h.at 2, h.at 3, h.at 4⟩
theorem Bk.six {w : World} {k : Nat} {t : TypeId} {a b c d e f : Value} (h : Bk w k #[a, b, c, d, e, f] t) : (w.cell? ⟨k, 0, none⟩ = some a ∧ w.cell? ⟨k, 1, none⟩ = some b ∧ w.cell? ⟨k, 2, none⟩ = some c ∧ w.cell? ⟨k, 3, none⟩ = some d ∧ w.cell? ⟨k, 4, none⟩ = some e ∧ w.cell? ⟨k, 5, none⟩ = some f) ∧ (w.frozen? ⟨k, 0, none⟩ = false ∧ w.frozen? ⟨k, 1, none⟩ = false ∧ w.frozen? ⟨k, 2, none⟩ = false ∧ w.frozen? ⟨k, 3, none⟩ = false ∧ w.frozen? ⟨k, 4, none⟩ = false ∧ w.frozen? ⟨k, 5, none⟩ = false) := ⟨⟨h.at 0, h.at 1, h.at 2, h.at 3, h.at 4, h.at 5⟩, ⟨h.fz 0, h.fz 1, h.fz 2, h.fz 3, h.fz 4, h.fz 5⟩⟩
theorem Bk.seven {w : World} {k : Nat} {t : TypeId} {a b c d e f g : Value} (h : Bk w k #[a, b, c, d, e, f, g] t) : w.cell? ⟨k, 0, none⟩ = some a ∧ w.cell? ⟨k, 1, none⟩ = some b ∧ w.cell? ⟨k, 2, none⟩ = some c ∧ w.cell? ⟨k, 3, none⟩ = some d ∧ w.cell? ⟨k, 4, none⟩ = some e ∧ w.cell? ⟨k, 5, none⟩ = some f ∧ w.cell? ⟨k, 6, none⟩ = some g := ⟨h.at 0, h.at 1, h.at 2, h.at 3, h.at 4, h.at 5, h.at 6⟩

abbrev lvC : Obj := .cells #[.int .i64 0, .int .i64 0, .int .i64 0, .int .i64 0, .int .i64 0, .nilFunc] 73
abbrev dvC (nm : ByteArray) (k ad : Int) (pl : Nat) (vb vr vt : Value) : Obj := .cells #[.string nm, .int .i64 k, .int .i64 ad, .int .u8 (pl : Int), vb, vr, vt] 42
/-- A function's value, or none. -/
def FV (v : Value) : Prop := v = .nilFunc ∨ ∃ fn cp, v = .func fn #[] cp
/-- What a function of a kind tells. -/
def SPost (m : Mp) (w : World) (r : SR) (e : Ending) (w' : World) : Prop :=
  ∃ (q : Int) (p : Pk) (fv : Value) (er : Int), e = .returned (.tuple #[lvA q p fv, .int .i64 er]) ∧ Hid (er = r.err ∧ FV fv ∧ (r.err = 0 → q = r.port ∧ p = r.p ∧ LrnAt w.heap.size w' m fv r.l)) ∧ Below w.heap.size w w'
theorem rules_of {base : Nat} {w : World} {v : Value} {xs : List NRule} (h : SlAt base w 5 IsRule v xs) : Rules base w v (xs.map fun r => ⟨r.ok, r.a, r.b, r.c, r.d, r.ha, r.hb, r.hc, r.hd⟩) := by
  obtain ⟨A, cap, rfl, h0, h1, h2, h3⟩ := h
  refine ⟨A, cap, by rw [List.length_map], h0, by rw [List.length_map]; exact h1, h2, fun hn => ?_⟩
  obtain ⟨b, o, ea, hl, hr⟩ := h3 (fun e => hn (by rw [e]; rfl))
  refine ⟨b, o, ea, hl, fun j u hj => ?_⟩
  have hjl := (List.getElem?_eq_some_iff.1 hj).1
  rw [cellsR_length, List.length_map] at hjl
  have hk : j / 5 < xs.length := by omega
  have hx : xs[j / 5]? = some xs[j / 5] := List.getElem?_eq_getElem hk
  obtain ⟨cs, _, rfl, hc⟩ := hr _ _ hx
  obtain ⟨c0, c1, c2, c3, c4⟩ := cellsR_at (xs.map fun r : NRule => (⟨r.ok, r.a, r.b, r.c, r.d, r.ha, r.hb, r.hc, r.hd⟩ : Rl)) (j / 5) _ (by rw [List.getElem?_map, hx]; rfl)
  have hm : j % 5 = 0 ∨ j % 5 = 1 ∨ j % 5 = 2 ∨ j % 5 = 3 ∨ j % 5 = 4 := by omega
  have eo : o + j = o + j / 5 * 5 + j % 5 := by omega
  rw [eo]
  rcases hm with hm | hm | hm | hm | hm
  · rw [show j = j / 5 * 5 by omega, c0] at hj
    rw [hm, ← Option.some.inj hj]
    exact hc 0 _ rfl
  · rw [show j = j / 5 * 5 + 1 by omega, c1] at hj
    rw [hm, ← Option.some.inj hj]
    exact hc 1 _ rfl
  · rw [show j = j / 5 * 5 + 2 by omega, c2] at hj
    rw [hm, ← Option.some.inj hj]
    exact hc 2 _ rfl
  · rw [show j = j / 5 * 5 + 3 by omega, c3] at hj
    rw [hm, ← Option.some.inj hj]
    exact hc 3 _ rfl
  · rw [show j = j / 5 * 5 + 4 by omega, c4] at hj
    rw [hm, ← Option.some.inj hj]
    exact hc 4 _ rfl
/-- A device of a memory's net, as it lies in memory. -/
structure DevAt (w : World) (d : Dv) (b o : Nat) (vb vr vt : Value) : Prop where
  c0 : w.cell? ⟨b, o, none⟩ = some (.string d.name)
  c1 : w.cell? ⟨b, o + 1, none⟩ = some (.int .i64 d.kind)
  c2 : w.cell? ⟨b, o + 2, none⟩ = some (.int .i64 d.addr)
  c3 : w.cell? ⟨b, o + 3, none⟩ = some (.int .u8 (d.pool : Int))
  c4 : w.cell? ⟨b, o + 4, none⟩ = some vb
  c5 : w.cell? ⟨b, o + 5, none⟩ = some vr
  c6 : w.cell? ⟨b, o + 6, none⟩ = some vt
  backs : SlAt w.heap.size w 1 IsI vb d.backs
  rules : Rules w.heap.size w vr (rulesOf d)
  routes : Routes w.heap.size w vt (routesOf d)
theorem MemAt.dev {w : World} {m : Mp} {ds : List Dv} {ls : List Lk} {n : Nat} {M : Mnd} (h : MemAt w m ds ls n M) {i : Nat} {d : Dv} (hx : ds[i]? = some d) :
    ∃ b o vb vr vt, m.A = some ⟨b, o, none⟩ ∧ DevAt w d b (o + i * 7) vb vr vt ∧ (0 : Int) ≤ (i : Int) ∧ (i : Int) < (ds.length : Int) := by
  obtain ⟨b, o, vb, vr, vt, eA, hb, s1, s2, s3, c0, c1, c2, c3, c4, c5, c6⟩ := h.devs.at hx
  have hi := (List.getElem?_eq_some_iff.1 hx).1
  exact ⟨b, o, vb, vr, vt, eA, ⟨c0, c1, c2, c3, c4, c5, c6, s1, rules_of s2, routes_of s3⟩, by omega, by omega⟩
end Go.Proofs.Ythioedgnambomaa
