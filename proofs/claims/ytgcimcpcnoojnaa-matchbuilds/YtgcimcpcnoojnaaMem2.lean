/-
  An arena and a builder in memory: what they are, and what keeps them.
-/
import Derived.Test.YtgcimcpcnoojnaaMem
namespace Go.Proofs.Ytgcimcpcnoojnaa
open Go.RowKit Go.Maps

def cellsOf (ns : List Nd) : List Value := ns.flatMap fun n => [.int .i64 (n.1 : Int), .int .i64 (n.2.1 : Int), .int .i64 (n.2.2 : Int)]
theorem cellsOf_append (a b : List Nd) : cellsOf (a ++ b) = cellsOf a ++ cellsOf b := by simp [cellsOf]
theorem cellsOf_length : ∀ ns : List Nd, (cellsOf ns).length = ns.length * 3
  | [] => rfl
  | n :: r => by
    have := cellsOf_length r
    simp only [cellsOf, List.flatMap_cons, List.length_append, List.length_cons, List.length_nil] at this ⊢
    omega
theorem cellsOf_at : ∀ (ns : List Nd) (f : Nat), f < ns.length →
    (cellsOf ns)[f * 3]? = some (.int .i64 (nv ns f : Int)) ∧ (cellsOf ns)[f * 3 + 1]? = some (.int .i64 (nl ns f : Int)) ∧ (cellsOf ns)[f * 3 + 2]? = some (.int .i64 (nh ns f : Int))
  | [], f, h => by simp at h
  | _ :: _, 0, _ => ⟨rfl, rfl, rfl⟩
  | n :: r, f + 1, h => by
    have ih := cellsOf_at r f (by simpa using h)
    have e : cellsOf (n :: r) = [.int .i64 (n.1 : Int), .int .i64 (n.2.1 : Int), .int .i64 (n.2.2 : Int)] ++ cellsOf r := rfl
    have en : nd (n :: r) (f + 1) = nd r f := by simp [nd]
    rw [e, nv, nl, nh, en]
    refine ⟨?_, ?_, ?_⟩
    · rw [List.getElem?_append_right (by simp; omega)]; simpa [show (f + 1) * 3 - 3 = f * 3 by omega] using ih.1
    · rw [List.getElem?_append_right (by simp; omega)]; simpa [show (f + 1) * 3 + 1 - 3 = f * 3 + 1 by omega] using ih.2.1
    · rw [List.getElem?_append_right (by simp; omega)]; simpa [show (f + 1) * 3 + 2 - 3 = f * 3 + 2 by omega] using ih.2.2

/-- The block of the nodes of the arena that lies in block a. -/
def rowOf (w : World) (a : Nat) : Nat :=
  match w.heap[a]? with
  | some (.cells cs _ _) => ((cs[2]?).bind Value.ownBlock).getD 0
  | _ => 0
theorem rowOf_same {w w' : World} {a : Nat} (h : w'.heap[a]? = w.heap[a]?) : rowOf w' a = rowOf w a := by simp only [rowOf, h]

def NumOk (ns : List Nd) (num : Nd → Option Nat) : Prop := ∀ n f, num n = some f ↔ 2 ≤ f ∧ f < ns.length ∧ nd ns f = n

/-- An arena, in block a, its map in block M. -/
structure Ar (base a M vars most : Nat) (w : World) (ns : List Nd) : Prop where
  wf : Wf vars ns
  le : ns.length ≤ most
  vars1 : 1 ≤ vars
  vars16 : vars ≤ 16
  most4 : most ≤ 40000
  lowA : base ≤ a
  lowM : base ≤ M
  blk : ∃ g cap, w.heap[a]? = some (.cells #[.int .i64 (vars : Int), .int .i64 (most : Int), .slice (some ⟨g, 0, none⟩) ns.length cap, .map (some M)] 91 (0, 0)) ∧
    w.ownsRow base 87 3 (.slice (some ⟨g, 0, none⟩) ns.length cap) ns.length (cellsOf ns)
  map : ∃ num, MapIs nodeE w M ns.length num ∧ NumOk ns num

section
variable {base a M vars most : Nat} {w w' : World} {ns : List Nd}

theorem Ar.lta (h : Ar base a M vars most w ns) : a < w.heap.size := by
  obtain ⟨g, cap, hb, _⟩ := h.blk
  exact (Array.getElem?_eq_some_iff.1 hb).1
theorem Ar.ltM (h : Ar base a M vars most w ns) : M < w.heap.size := by
  obtain ⟨num, hm, _⟩ := h.map
  exact hm.lt
theorem Ar.row (h : Ar base a M vars most w ns) : ∃ cur, w.heap[rowOf w a]? = some (.cells cur 87 (0, 0)) ∧ base ≤ rowOf w a ∧ rowOf w a < w.heap.size := by
  obtain ⟨g, cap, hb, hr⟩ := h.blk
  have e : rowOf w a = g := by simp [rowOf, hb, Value.ownBlock]
  rw [e]
  rcases hr.2 with ⟨hv, _⟩ | ⟨g', cap', cur, hv, hbase, hg, _⟩
  · cases hv
  · simp only [Value.slice.injEq, Option.some.injEq, Addr.mk.injEq, and_true, true_and] at hv
    obtain ⟨rfl, _⟩ := hv
    exact ⟨cur, hg, hbase, (Array.getElem?_eq_some_iff.1 hg).1⟩
theorem Ar.ne_row_a (h : Ar base a M vars most w ns) : rowOf w a ≠ a := fun e => by
  obtain ⟨cur, hg, _⟩ := h.row
  obtain ⟨g, cap, hb, _⟩ := h.blk
  rw [e, hb] at hg
  simp at hg
theorem Ar.ne_row_M (h : Ar base a M vars most w ns) : rowOf w a ≠ M := fun e => by
  obtain ⟨cur, hg, _⟩ := h.row
  obtain ⟨num, hm, _⟩ := h.map
  obtain ⟨es, clock, hb⟩ := hm.isMap
  rw [e, hb] at hg
  simp at hg
theorem Ar.ne_a_M (h : Ar base a M vars most w ns) : a ≠ M := fun e => by
  obtain ⟨num, hm, _⟩ := h.map
  obtain ⟨es, clock, hb⟩ := hm.isMap
  obtain ⟨g, cap, hb', _⟩ := h.blk
  rw [e, hb] at hb'
  simp at hb'
/-- The arena stays what it is where its three blocks do. -/
theorem Ar.same (h : Ar base a M vars most w ns) (ha : w'.heap[a]? = w.heap[a]?) (hM : w'.heap[M]? = w.heap[M]?) (hr : w'.heap[rowOf w a]? = w.heap[rowOf w a]?) : Ar base a M vars most w' ns := by
  obtain ⟨g, cap, hb, hrow⟩ := h.blk
  have e : rowOf w a = g := by simp [rowOf, hb, Value.ownBlock]
  rw [e] at hr
  refine ⟨h.wf, h.le, h.vars1, h.vars16, h.most4, h.lowA, h.lowM, ⟨g, cap, ha.trans hb, ?_⟩, ?_⟩
  · refine ⟨hrow.1, ?_⟩
    rcases hrow.2 with ⟨hv, _⟩ | ⟨g', cap', cur, hv, hbase, hg, rest⟩
    · cases hv
    · simp only [Value.slice.injEq, Option.some.injEq, Addr.mk.injEq, and_true, true_and] at hv
      obtain ⟨rfl, rfl⟩ := hv
      exact .inr ⟨g, cap, cur, rfl, hbase, hr.trans hg, rest⟩
  · obtain ⟨num, hm, hn⟩ := h.map
    exact ⟨num, hm.same hM, hn⟩

/-- What the walk reads of an arena. -/
theorem Ar.reads (h : Ar base a M vars most w ns) : ∃ cap, w.cell? ⟨a, 0, none⟩ = some (.int .i64 (vars : Int)) ∧ w.cell? ⟨a, 1, none⟩ = some (.int .i64 (most : Int)) ∧
    w.cell? ⟨a, 2, none⟩ = some (.slice (some ⟨rowOf w a, 0, none⟩) ns.length cap) ∧ w.cell? ⟨a, 3, none⟩ = some (.map (some M)) ∧ (∀ j, w.frozen? ⟨a, j, none⟩ = false) ∧
    ∀ f, f < ns.length → w.cell? ⟨rowOf w a, f * 3, none⟩ = some (.int .i64 (nv ns f : Int)) ∧ w.cell? ⟨rowOf w a, f * 3 + 1, none⟩ = some (.int .i64 (nl ns f : Int)) ∧ w.cell? ⟨rowOf w a, f * 3 + 2, none⟩ = some (.int .i64 (nh ns f : Int)) := by
  obtain ⟨g, cap, hb, hrow⟩ := h.blk
  have e : rowOf w a = g := by simp [rowOf, hb, Value.ownBlock]
  rw [e]
  refine ⟨cap, ?_, ?_, ?_, ?_, ?_, ?_⟩
  · rw [cell_of_row w a 0 _ _ _ hb]; rfl
  · rw [cell_of_row w a 1 _ _ _ hb]; rfl
  · rw [cell_of_row w a 2 _ _ _ hb]; rfl
  · rw [cell_of_row w a 3 _ _ _ hb]; rfl
  · intro j
    simp [World.frozen?, hb]
  · intro f hf
    obtain ⟨h1, h2, h3⟩ := cellsOf_at ns f hf
    refine ⟨?_, ?_, ?_⟩
    · rw [hrow.cellAt _ (by omega), h1]
    · rw [hrow.cellAt _ (by omega), h2]
    · rw [hrow.cellAt _ (by omega), h3]
end

/-- Where a builder and its arena lie. -/
structure Cfg where
  base : Nat
  a : Nat
  b : Nat
  M : Nat
  c1 : Option Nat
  c2 : Option Nat
  c3 : Option Nat
  vars : Nat
  most : Nat
def Cfg.mine (C : Cfg) (i : Nat) : Prop := i = C.a ∨ i = C.b ∨ i = C.M ∨ C.c1 = some i ∨ C.c2 = some i ∨ C.c3 = some i

def OMap {k : TypeId} {α : Type} (E : KeyEnc k α) (w : World) (c : Option Nat) (n : Nat) (f : α → Option Nat) : Prop := ∀ b, c = some b → MapIs E w b n f

structure Bu (C : Cfg) (w : World) (ns : List Nd) (full : Bool) (N : Nat) (m1 : Nd → Option Nat) (m2 : Mx → Option Nat) (m3 : Nat → Option Nat) : Prop where
  ar : Ar C.base C.a C.M C.vars C.most w ns
  blk : w.heap[C.b]? = some (.cells #[.pointer (some ⟨C.a, 0, none⟩), .bool full, .map C.c1, .map C.c2, .map C.c3] 119 (0, 0))
  lowB : C.base ≤ C.b
  o1 : OMap choiceE w C.c1 N m1
  o2 : OMap mixE w C.c2 N m2
  o3 : OMap intE w C.c3 N m3
  low1 : ∀ i, C.c1 = some i → C.base ≤ i ∧ i ≠ C.M ∧ C.c2 ≠ some i ∧ C.c3 ≠ some i
  low2 : ∀ i, C.c2 = some i → C.base ≤ i ∧ i ≠ C.M ∧ C.c1 ≠ some i ∧ C.c3 ≠ some i
  low3 : ∀ i, C.c3 = some i → C.base ≤ i ∧ i ≠ C.M ∧ C.c1 ≠ some i ∧ C.c2 ≠ some i
  full_len : full = true → ns.length = C.most

/-- From w to w' nothing has turned but what is the builder's, its arena's and new. -/
structure Kp (C : Cfg) (w w' : World) : Prop where
  os : w'.os = w.os
  tape : w'.tape = w.tape
  output : w'.output = w.output
  size : w.heap.size ≤ w'.heap.size
  blk : ∀ i, i < w.heap.size → ¬ C.mine i → i ≠ rowOf w C.a → w'.heap[i]? = w.heap[i]?
  row : rowOf w' C.a = rowOf w C.a ∨ w.heap.size ≤ rowOf w' C.a

section
variable {C : Cfg} {w w' w'' : World} {ns ns' : List Nd} {full full' : Bool} {N N' : Nat} {m1 m1' : Nd → Option Nat} {m2 m2' : Mx → Option Nat} {m3 m3' : Nat → Option Nat}

theorem Kp.refl (C : Cfg) (w : World) : Kp C w w := ⟨rfl, rfl, rfl, Nat.le_refl _, fun _ _ _ _ => rfl, Or.inl rfl⟩
theorem Kp.trans (h : Kp C w w') (k : Kp C w' w'') : Kp C w w'' := by
  refine ⟨k.os.trans h.os, k.tape.trans h.tape, k.output.trans h.output, Nat.le_trans h.size k.size, fun i hi hm hr => ?_, ?_⟩
  · have h1 := h.size
    refine (k.blk i (by omega) hm ?_).trans (h.blk i hi hm hr)
    rcases h.row with e | e
    · rw [e]; exact hr
    · omega
  · have h1 := h.size
    rcases k.row with e | e
    · rw [e]; exact h.row
    · exact Or.inr (by omega)
theorem Kp.drew (h : Kp C w w') : Kp C w w'.drew := ⟨h.os, h.tape, h.output, h.size, h.blk, h.row⟩
theorem Bu.drew (h : Bu C w ns full N m1 m2 m3) : Bu C w.drew ns full N m1 m2 m3 := ⟨h.ar.same rfl rfl rfl, h.blk, h.lowB, h.o1, h.o2, h.o3, h.low1, h.low2, h.low3, h.full_len⟩

theorem Bu.ltb (h : Bu C w ns full N m1 m2 m3) : C.b < w.heap.size := (Array.getElem?_eq_some_iff.1 h.blk).1
theorem Bu.ltm (h : Bu C w ns full N m1 m2 m3) : ∀ i, C.mine i → i < w.heap.size := by
  rintro i (rfl | rfl | rfl | e | e | e)
  · exact h.ar.lta
  · exact h.ltb
  · exact h.ar.ltM
  · exact (h.o1 i e).lt
  · exact (h.o2 i e).lt
  · exact (h.o3 i e).lt
theorem Bu.low (h : Bu C w ns full N m1 m2 m3) : ∀ i, C.mine i → C.base ≤ i := by
  rintro i (rfl | rfl | rfl | e | e | e)
  · exact h.ar.lowA
  · exact h.lowB
  · exact h.ar.lowM
  · exact (h.low1 i e).1
  · exact (h.low2 i e).1
  · exact (h.low3 i e).1
theorem Bu.ne_b_a (h : Bu C w ns full N m1 m2 m3) : C.b ≠ C.a := fun e => by
  obtain ⟨g, cap, hb, _⟩ := h.ar.blk
  rw [← e, h.blk] at hb
  simp at hb
theorem Bu.ne_b_row (h : Bu C w ns full N m1 m2 m3) : C.b ≠ rowOf w C.a := fun e => by
  obtain ⟨cur, hg, _⟩ := h.ar.row
  rw [← e, h.blk] at hg
  simp at hg
theorem Bu.b_noMap (h : Bu C w ns full N m1 m2 m3) {i : Nat} {es : Array MapEntry} {clock : Nat} (hi : w.heap[i]? = some (.map es clock)) : i ≠ C.b ∧ i ≠ C.a ∧ i ≠ rowOf w C.a := by
  refine ⟨fun e => ?_, fun e => ?_, fun e => ?_⟩
  · rw [e, h.blk] at hi; simp at hi
  · obtain ⟨g, cap, hb, _⟩ := h.ar.blk
    rw [e, hb] at hi; simp at hi
  · obtain ⟨cur, hg, _⟩ := h.ar.row
    rw [e, hg] at hi; simp at hi

/-- A builder stays what it is where its blocks do. -/
theorem Bu.same (h : Bu C w ns full N m1 m2 m3) (hs : ∀ i, i < w.heap.size → (C.mine i ∨ i = rowOf w C.a) → w'.heap[i]? = w.heap[i]?) : Bu C w' ns full N m1 m2 m3 := by
  obtain ⟨_, _, _, hrl⟩ := h.ar.row
  have L := h.ltm
  refine ⟨h.ar.same (hs _ (L _ (Or.inl rfl)) (Or.inl (Or.inl rfl))) (hs _ h.ar.ltM (Or.inl (Or.inr (Or.inr (Or.inl rfl))))) (hs _ hrl (Or.inr rfl)), ?_, h.lowB, ?_, ?_, ?_, h.low1, h.low2, h.low3, h.full_len⟩
  · exact (hs _ h.ltb (Or.inl (Or.inr (Or.inl rfl)))).trans h.blk
  · exact fun i e => (h.o1 i e).same (hs _ (h.o1 i e).lt (Or.inl (Or.inr (Or.inr (Or.inr (Or.inl e))))))
  · exact fun i e => (h.o2 i e).same (hs _ (h.o2 i e).lt (Or.inl (Or.inr (Or.inr (Or.inr (Or.inr (Or.inl e)))))))
  · exact fun i e => (h.o3 i e).same (hs _ (h.o3 i e).lt (Or.inl (Or.inr (Or.inr (Or.inr (Or.inr (Or.inr e)))))))

theorem Bu.alloc (h : Bu C w ns full N m1 m2 m3) (o : Obj) : Bu C (w.alloc o) ns full N m1 m2 m3 := h.same fun i hi _ => Below.heap_alloc w o i hi
theorem Bu.kalloc (h : Bu C w ns full N m1 m2 m3) (o : Obj) : Kp C w (w.alloc o) :=
  ⟨rfl, rfl, rfl, by simp, fun i hi _ _ => Below.heap_alloc w o i hi, Or.inl (rowOf_same (Below.heap_alloc w o _ h.ar.lta))⟩

/-- A block that is neither the builder's nor its arena's. -/
structure Out (C : Cfg) (w : World) (i : Nat) : Prop where
  lt : i < w.heap.size
  not : ¬ C.mine i
  ne : i ≠ rowOf w C.a
theorem Out.kp {i : Nat} (h : Out C w i) (k : Kp C w w') : Out C w' i := by
  have h1 := h.lt
  have h2 := k.size
  refine ⟨by omega, h.not, fun e => ?_⟩
  rcases k.row with r | r
  · exact h.ne (e.trans r)
  · omega
/-- A variable in a block of its own. -/
structure Loc (C : Cfg) (w : World) (i : Nat) (cs : Array Value) (t : TypeId) : Prop where
  out : Out C w i
  blk : w.heap[i]? = some (.cells cs t (0, 0))
theorem Loc.kp {i : Nat} {cs : Array Value} {t : TypeId} (h : Loc C w i cs t) (k : Kp C w w') : Loc C w' i cs t := ⟨h.out.kp k, (k.blk i h.out.lt h.out.not h.out.ne).trans h.blk⟩
theorem Loc.drew {i : Nat} {cs : Array Value} {t : TypeId} (h : Loc C w i cs t) : Loc C w.drew i cs t := ⟨⟨h.out.lt, h.out.not, h.out.ne⟩, h.blk⟩
theorem Bu.loc (h : Bu C w ns full N m1 m2 m3) (cs : Array Value) (t : TypeId) : Loc C (w.alloc (.cells cs t)) w.heap.size cs t := by
  refine ⟨⟨by simp, fun hm => Nat.lt_irrefl _ (h.ltm _ hm), fun e => ?_⟩, heap_alloc_new w _⟩
  rw [rowOf_same (Below.heap_alloc w _ _ h.ar.lta)] at e
  obtain ⟨_, _, _, hl⟩ := h.ar.row
  omega
end
end Go.Proofs.Ytgcimcpcnoojnaa


