/-
  The parts of a choice and of a mix.
-/
import Derived.Test.YtgcimcpcnoojnaaWalk2
namespace Go.Proofs.Ytgcimcpcnoojnaa
open Go.RowKit Go.Maps

section
variable {C : Cfg} {w : World} {ns : List Nd} {full : Bool} {N : Nat} {m1 : Nd → Option Nat} {m2 : Mx → Option Nat} {m3 : Nat → Option Nat}

theorem Loc.reads {i : Nat} {x y z : Value} {t : TypeId} (h : Loc C w i #[x, y, z] t) :
    (w.cell? ⟨i, 0, none⟩ = some x ∧ w.cell? ⟨i, 1, none⟩ = some y ∧ w.cell? ⟨i, 2, none⟩ = some z) ∧ w.frozen? ⟨i, 0, none⟩ = false ∧ w.frozen? ⟨i, 1, none⟩ = false ∧ w.frozen? ⟨i, 2, none⟩ = false := by
  have hb := h.blk
  refine ⟨⟨?_, ?_, ?_⟩, ?_, ?_, ?_⟩
  · rw [cell_of_row w i 0 _ _ _ hb]; rfl
  · rw [cell_of_row w i 1 _ _ _ hb]; rfl
  · rw [cell_of_row w i 2 _ _ _ hb]; rfl
  · simp [World.frozen?, hb]
  · simp [World.frozen?, hb]
  · simp [World.frozen?, hb]
theorem Loc.set {i j : Nat} {cs : Array Value} {t : TypeId} (h : Loc C w i cs t) (u : Value) : Loc C (w.setCell ⟨i, j, none⟩ u) i (cs.setIfInBounds j u) t :=
  ⟨h.out.set (p := ⟨i, j, none⟩) h.out.nea u, heap_setCell_same w i j cs t u h.blk⟩
theorem Loc.setOther {i k j : Nat} {cs : Array Value} {t : TypeId} (h : Loc C w i cs t) (hk : Out C w k) (hne : i ≠ k) (u : Value) : Loc C (w.setCell ⟨k, j, none⟩ u) i cs t :=
  ⟨h.out.set (p := ⟨k, j, none⟩) hk.nea u, (Below.heap_setCell w _ u i hne).trans h.blk⟩
theorem Loc.alloc {i : Nat} {cs : Array Value} {t : TypeId} (h : Loc C w i cs t) (hb : Bu C w ns full N m1 m2 m3) (o : Obj) : Loc C (w.alloc o) i cs t := h.kp (hb.kalloc o)
theorem At.loc {w0 : World} (h : At C w0 w ns full N m1 m2 m3) (cs : Array Value) (t : TypeId) : Loc C (w.alloc (.cells cs t)) w.heap.size cs t := h.bu.loc cs t

theorem At.store3 {w0 : World} {i : Nat} {a b c : Value} {t : TypeId} (h : At C w0 w ns full N m1 m2 m3) (L : Loc C w i #[a, b, c] t) (hi : w0.heap.size ≤ i) (x y z : Value) :
    At C w0 (((w.setCell ⟨i, 0, none⟩ x).setCell ⟨i, 1, none⟩ y).setCell ⟨i, 2, none⟩ z) ns full N m1 m2 m3 ∧ Loc C (((w.setCell ⟨i, 0, none⟩ x).setCell ⟨i, 1, none⟩ y).setCell ⟨i, 2, none⟩ z) i #[x, y, z] t := by
  have L1 := L.set (j := 0) x
  have L2 := L1.set (j := 1) y
  have L3 := L2.set (j := 2) z
  refine ⟨((h.set (p := ⟨i, 0, none⟩) L.out hi x).set (p := ⟨i, 1, none⟩) L1.out hi y).set (p := ⟨i, 2, none⟩) L2.out hi z, ?_⟩
  simpa using L3

set_option maxHeartbeats 2000000 in
theorem partOfChoice_any (h : Bu C w ns full N m1 m2 m3) {c : Nd} {v : Nat} (val : Bool) (h1 : c.1 < ns.length) (h2 : c.2.1 < ns.length) (h3 : c.2.2 < ns.length) (hv : v ≤ 16) :
    Calls Try.prog 108 #[.pointer (some ⟨C.b, 0, none⟩), agg3 c, .int .i64 (v : Int), .bool val] w fun e w' => e = .returned (agg3 (partOf ns c.1 v val, partOf ns c.2.1 v val, partOf ns c.2.2 v val)) ∧ At C w w' ns full N m1 m2 m3 := by
  obtain ⟨x, y, z⟩ := c
  simp only [] at h1 h2 h3
  have hA0 := (At.refl h).alloc (.cells #[.int .i64 (x : Int), .int .i64 (y : Int), .int .i64 (z : Int)] 124)
  have L0 := h.loc #[.int .i64 (x : Int), .int .i64 (y : Int), .int .i64 (z : Int)] 124
  have hA := (hA0.alloc (.cells #[.int .i64 0, .int .i64 0, .int .i64 0] 124)).drew
  have L1 := (L0.alloc hA0.bu (.cells #[.int .i64 0, .int .i64 0, .int .i64 0] 124)).drew
  have L2 := (hA0.loc #[.int .i64 0, .int .i64 0, .int .i64 0] 124).drew
  rw [show (w.alloc (.cells #[.int .i64 (x : Int), .int .i64 (y : Int), .int .i64 (z : Int)] 124)).heap.size = w.heap.size + 1 by simp] at L2
  clear L0 hA0 h
  obtain ⟨⟨q0, q1, q2⟩, _⟩ := L1.reads
  go_enter Try.func108, Try.ntmps108
  go_wp2_with fail
  go_region_held3 (fun w' => w'.cell? ⟨w.heap.size, 0, none⟩ = some (.int .i64 (x : Int)) ∧ w'.cell? ⟨w.heap.size, 1, none⟩ = some (.int .i64 (y : Int)) ∧ w'.cell? ⟨w.heap.size, 2, none⟩ = some (.int .i64 (z : Int))) (go_keep)
    (first | (go_at_call 104; refine (part_any (At.bu (w0 := w) (by assumption)) val (by assumption) hv).mono ?_; rintro e wn ⟨rfl, hn⟩; have hA' := At.then (w0 := w) (by assumption) hn; have L1' := Loc.kp (i := w.heap.size) (by assumption) hn.kp; have L2' := Loc.kp (i := w.heap.size + 1) (by assumption) hn.kp; obtain ⟨⟨q0', q1', q2'⟩, _⟩ := L1'.reads; obtain ⟨_, p0', p1', p2'⟩ := L2'.reads))
  obtain ⟨hF, LF⟩ := At.store3 hA' L2' (Nat.le_succ _) (.int .i64 (partOf ns x v val : Int)) (.int .i64 (partOf ns y v val : Int)) (.int .i64 (partOf ns z v val : Int))
  obtain ⟨⟨r0, r1, r2⟩, _⟩ := LF.reads
  go_wp2_with fail
  refine bodyPost_ret (v := agg3 (partOf ns x v val, partOf ns y v val, partOf ns z v val)) (by simp [results, Try.results108, go_sem, r0, r1, r2]) rfl ⟨rfl, hF⟩
set_option maxHeartbeats 2000000 in
theorem partOfMix_any (h : Bu C w ns full N m1 m2 m3) {c : Mx} {v : Nat} (val : Bool) (h1 : c.1 < ns.length) (h2 : c.2.1 < ns.length) (hv : v ≤ 16) :
    Calls Try.prog 112 #[.pointer (some ⟨C.b, 0, none⟩), aggx c, .int .i64 (v : Int), .bool val] w fun e w' => e = .returned (aggx (partOf ns c.1 v val, partOf ns c.2.1 v val, c.2.2)) ∧ At C w w' ns full N m1 m2 m3 := by
  obtain ⟨x, y, z⟩ := c
  simp only [] at h1 h2
  have hA0 := (At.refl h).alloc (.cells #[.int .i64 (x : Int), .int .i64 (y : Int), .bool z] 139)
  have L0 := h.loc #[.int .i64 (x : Int), .int .i64 (y : Int), .bool z] 139
  have hA := (hA0.alloc (.cells #[.int .i64 0, .int .i64 0, .bool false] 139)).drew
  have L1 := (L0.alloc hA0.bu (.cells #[.int .i64 0, .int .i64 0, .bool false] 139)).drew
  have L2 := (hA0.loc #[.int .i64 0, .int .i64 0, .bool false] 139).drew
  rw [show (w.alloc (.cells #[.int .i64 (x : Int), .int .i64 (y : Int), .bool z] 139)).heap.size = w.heap.size + 1 by simp] at L2
  clear L0 hA0 h
  obtain ⟨⟨q0, q1, q2⟩, _⟩ := L1.reads
  go_enter Try.func112, Try.ntmps112
  go_wp2_with fail
  go_region_held3 (fun w' => w'.cell? ⟨w.heap.size, 0, none⟩ = some (.int .i64 (x : Int)) ∧ w'.cell? ⟨w.heap.size, 1, none⟩ = some (.int .i64 (y : Int)) ∧ w'.cell? ⟨w.heap.size, 2, none⟩ = some (.bool z)) (go_keep)
    (first | (go_at_call 104; refine (part_any (At.bu (w0 := w) (by assumption)) val (by assumption) hv).mono ?_; rintro e wn ⟨rfl, hn⟩; have hA' := At.then (w0 := w) (by assumption) hn; have L1' := Loc.kp (i := w.heap.size) (by assumption) hn.kp; have L2' := Loc.kp (i := w.heap.size + 1) (by assumption) hn.kp; obtain ⟨⟨q0', q1', q2'⟩, _⟩ := L1'.reads; obtain ⟨_, p0', p1', p2'⟩ := L2'.reads))
  obtain ⟨hF, LF⟩ := At.store3 hA' L2' (Nat.le_succ _) (.int .i64 (partOf ns x v val : Int)) (.int .i64 (partOf ns y v val : Int)) (.bool z)
  obtain ⟨⟨r0, r1, r2⟩, _⟩ := LF.reads
  go_wp2_with fail
  refine bodyPost_ret (v := aggx (partOf ns x v val, partOf ns y v val, z)) (by simp [results, Try.results112, go_sem, r0, r1, r2]) rfl ⟨rfl, hF⟩
end
end Go.Proofs.Ytgcimcpcnoojnaa


