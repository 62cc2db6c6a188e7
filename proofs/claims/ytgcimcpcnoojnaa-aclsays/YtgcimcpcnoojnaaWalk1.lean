/-
  The builder's readers.
-/
import Derived.Test.YtgcimcpcnoojnaaMem2
import Derived.Deep.RegionHeld3
import Derived.Deep.DeepCutAuto
import Derived.BigQuiet
namespace Go.Proofs.Ytgcimcpcnoojnaa
open Go.RowKit Go.Maps

section
variable {C : Cfg} {w : World} {ns : List Nd} {full : Bool} {N : Nat} {m1 : Nd → Option Nat} {m2 : Mx → Option Nat} {m3 : Nat → Option Nat}

theorem Bu.reads (h : Bu C w ns full N m1 m2 m3) : w.cell? ⟨C.b, 0, none⟩ = some (.pointer (some ⟨C.a, 0, none⟩)) ∧ w.cell? ⟨C.b, 1, none⟩ = some (.bool full) ∧ w.cell? ⟨C.b, 2, none⟩ = some (.map C.c1) ∧ w.cell? ⟨C.b, 3, none⟩ = some (.map C.c2) ∧
    w.cell? ⟨C.b, 4, none⟩ = some (.map C.c3) ∧ ∀ j, w.frozen? ⟨C.b, j, none⟩ = false := by
  have hb := h.blk
  refine ⟨?_, ?_, ?_, ?_, ?_, ?_⟩
  · rw [cell_of_row w C.b 0 _ _ _ hb]; rfl
  · rw [cell_of_row w C.b 1 _ _ _ hb]; rfl
  · rw [cell_of_row w C.b 2 _ _ _ hb]; rfl
  · rw [cell_of_row w C.b 3 _ _ _ hb]; rfl
  · rw [cell_of_row w C.b 4 _ _ _ hb]; rfl
  · intro j
    simp [World.frozen?, hb]

set_option maxHeartbeats 1000000 in
theorem variable_any (h : Bu C w ns full N m1 m2 m3) {f : Nat} (hf : f < ns.length) :
    Calls Try.prog 107 #[.pointer (some ⟨C.b, 0, none⟩), .int .i64 (f : Int)] w fun e w' => e = .returned (.int .i64 (nv ns f : Int)) ∧ w' = w := by
  obtain ⟨b0, b1, b2, b3, b4, bf⟩ := h.reads
  obtain ⟨cap, a0, a1, a2, a3, af, an⟩ := h.ar.reads
  obtain ⟨n0, n1, n2⟩ := an f hf
  have hl : ns.length ≤ 40000 := Nat.le_trans h.ar.le h.ar.most4
  clear h an
  generalize rowOf w C.a = g at *
  go_enter Try.func107, Try.ntmps107
  go_wp2_with fail
  go_ret
  exact ⟨rfl, rfl⟩

/-- A builder that is as it says, in a world that came from w0. -/
structure At (C : Cfg) (w0 w : World) (ns : List Nd) (full : Bool) (N : Nat) (m1 : Nd → Option Nat) (m2 : Mx → Option Nat) (m3 : Nat → Option Nat) : Prop where
  bu : Bu C w ns full N m1 m2 m3
  kp : Kp C w0 w
theorem At.refl (h : Bu C w ns full N m1 m2 m3) : At C w w ns full N m1 m2 m3 := ⟨h, Kp.refl C w⟩
variable {w0 w1 : World}
theorem At.alloc (h : At C w0 w ns full N m1 m2 m3) (o : Obj) : At C w0 (w.alloc o) ns full N m1 m2 m3 := ⟨h.bu.alloc o, h.kp.trans (h.bu.kalloc o)⟩
theorem At.drew (h : At C w0 w ns full N m1 m2 m3) : At C w0 w.drew ns full N m1 m2 m3 := ⟨h.bu.drew, h.kp.drew⟩
theorem At.then {ns' : List Nd} {full' : Bool} {N' : Nat} {m1' : Nd → Option Nat} {m2' : Mx → Option Nat} {m3' : Nat → Option Nat} (h : At C w0 w ns full N m1 m2 m3) (k : At C w w1 ns' full' N' m1' m2' m3') : At C w0 w1 ns' full' N' m1' m2' m3' :=
  ⟨k.bu, h.kp.trans k.kp⟩
theorem Out.set {i : Nat} (h : Out C w i) {p : Addr} (hp : p.block ≠ C.a) (u : Value) : Out C (w.setCell p u) i :=
  ⟨by simpa [World.setCell] using h.lt, h.not, by rw [rowOf_same (Below.heap_setCell w p u C.a hp.symm)]; exact h.ne⟩
theorem Out.nea {i : Nat} (h : Out C w i) : i ≠ C.a := fun e => h.not (Or.inl e)
theorem At.set (h : At C w0 w ns full N m1 m2 m3) {p : Addr} (ho : Out C w p.block) (hi : w0.heap.size ≤ p.block) (u : Value) : At C w0 (w.setCell p u) ns full N m1 m2 m3 := by
  have hr : rowOf (w.setCell p u) C.a = rowOf w C.a := rowOf_same (Below.heap_setCell w p u C.a ho.nea.symm)
  refine ⟨h.bu.same fun j _ hm => Below.heap_setCell w p u j (fun e => ?_), ⟨h.kp.os, h.kp.tape, h.kp.output, by simpa [World.setCell] using h.kp.size, fun j hj hm hn => ?_, ?_⟩⟩
  · rcases hm with hm | hm
    · exact ho.not (e ▸ hm)
    · exact ho.ne (e ▸ hm)
  · rw [Below.heap_setCell w p u j (by omega)]
    exact h.kp.blk j hj hm hn
  · rw [hr]
    exact h.kp.row
/-- What f is where variable v is val. -/
def partOf (ns : List Nd) (f v : Nat) (val : Bool) : Nat := if nv ns f = v then (if val then nh ns f else nl ns f) else f

set_option maxHeartbeats 1000000 in
theorem apart_any (h : Bu C w ns full N m1 m2 m3) {f v : Nat} (val : Bool) (hf : f < ns.length) (hv : v ≤ 16) :
    Calls Try.prog 111 #[.pointer (some ⟨C.a, 0, none⟩), .int .i64 (f : Int), .int .i64 (v : Int), .bool val] w fun e w' => e = .returned (.int .i64 (partOf ns f v val : Int)) ∧ At C w w' ns full N m1 m2 m3 := by
  have hA := At.refl h
  obtain ⟨b0, b1, b2, b3, b4, bf⟩ := h.reads
  obtain ⟨cap, a0, a1, a2, a3, af, an⟩ := h.ar.reads
  obtain ⟨n0, n1, n2⟩ := an f hf
  have hl : ns.length ≤ 40000 := Nat.le_trans h.ar.le h.ar.most4
  have hb3 := hA.alloc (.cells #[.int .i64 (nv ns f : Int), .int .i64 (nl ns f : Int), .int .i64 (nh ns f : Int)] 87)
  unfold partOf
  clear h an hA
  generalize rowOf w C.a = g at *
  by_cases he : nv ns f = v
  · subst he
    cases val
    · go_enter Try.func111, Try.ntmps111
      go_wp2_with fail
      go_ret
      exact ⟨by simp, hb3⟩
    · go_enter Try.func111, Try.ntmps111
      go_wp2_with fail
      go_ret
      exact ⟨by simp, hb3⟩
  · have he' : ((nv ns f : Int) != (v : Int)) = true := by simp; omega
    go_enter Try.func111, Try.ntmps111
    go_wp2_with fail
    go_ret
    exact ⟨by simp, hb3⟩

set_option maxHeartbeats 1000000 in
theorem part_any (h : Bu C w ns full N m1 m2 m3) {f v : Nat} (val : Bool) (hf : f < ns.length) (hv : v ≤ 16) :
    Calls Try.prog 104 #[.pointer (some ⟨C.b, 0, none⟩), .int .i64 (f : Int), .int .i64 (v : Int), .bool val] w fun e w' => e = .returned (.int .i64 (partOf ns f v val : Int)) ∧ At C w w' ns full N m1 m2 m3 := by
  have hp := apart_any h val hf hv
  obtain ⟨b0, b1, b2, b3, b4, bf⟩ := h.reads
  clear h
  generalize At C w = AA at *
  go_enter Try.func104, Try.ntmps104
  go_wp2_with fail
  refine hp.mono ?_
  rintro e w' ⟨rfl, hA⟩
  dsimp only
  go_wp2_with fail
  go_ret
  exact ⟨rfl, hA⟩

theorem answer_any (h : Bu C w ns full N m1 m2 m3) (f : Nat) :
    Calls Try.prog 88 #[.pointer (some ⟨C.b, 0, none⟩), .int .i64 (f : Int)] w fun e w' => e = .returned (.tuple #[.int .i64 ((if full then 0 else f : Nat) : Int), .int .i64 (if full then 6 else 0)]) ∧ w' = w := by
  obtain ⟨b0, b1, b2, b3, b4, bf⟩ := h.reads
  clear h
  cases full
  · go_enter Try.func88, Try.ntmps88
    go_wp2_with fail
    go_ret2
    exact ⟨rfl, rfl⟩
  · go_enter Try.func88, Try.ntmps88
    go_wp2_with fail
    go_ret2
    exact ⟨rfl, rfl⟩
end

section
variable {base a M vars most : Nat} {w : World} {ns : List Nd}
theorem hasFunction_any (h : Ar base a M vars most w ns) (f : Int) :
    Calls Try.prog 86 #[.pointer (some ⟨a, 0, none⟩), .int .i64 f] w fun e w' => e = .returned (.bool (decide (0 ≤ f) && decide (f < ns.length))) ∧ w' = w := by
  obtain ⟨cap, a0, a1, a2, a3, af, an⟩ := h.reads
  clear h an
  by_cases h0 : 0 ≤ f
  · go_enter Try.func86, Try.ntmps86
    go_wp2_with fail
    go_ret
    exact ⟨by simp [h0], rfl⟩
  · have h0' : decide (0 ≤ f) = false := by simp; omega
    go_enter Try.func86, Try.ntmps86
    go_wp2_with fail
    go_ret
    exact ⟨by simp, rfl⟩
theorem hasVariable_any (h : Ar base a M vars most w ns) (i : Int) :
    Calls Try.prog 87 #[.pointer (some ⟨a, 0, none⟩), .int .i64 i] w fun e w' => e = .returned (.bool (decide (0 ≤ i) && decide (i < vars))) ∧ w' = w := by
  obtain ⟨cap, a0, a1, a2, a3, af, an⟩ := h.reads
  clear h an
  by_cases h0 : 0 ≤ i
  · go_enter Try.func87, Try.ntmps87
    go_wp2_with fail
    go_ret
    exact ⟨by simp [h0], rfl⟩
  · have h0' : decide (0 ≤ i) = false := by simp; omega
    go_enter Try.func87, Try.ntmps87
    go_wp2_with fail
    go_ret
    exact ⟨by simp, rfl⟩
end
end Go.Proofs.Ytgcimcpcnoojnaa


