/-
  numberOf: the function of a node.
-/
import Derived.Test.YtgcimcpcnoojnaaWalk1
import Derived.Deep.RegionLaw
namespace Go.Proofs.Ytgcimcpcnoojnaa
open Go.RowKit Go.Maps

section
variable {C : Cfg} {w : World} {ns : List Nd} {full : Bool} {N : Nat} {m1 : Nd → Option Nat} {m2 : Mx → Option Nat} {m3 : Nat → Option Nat}

set_option maxHeartbeats 1000000 in
set_option maxRecDepth 100000 in
theorem numberOf_same (h : Bu C w ns full N m1 m2 m3) {v l : Nat} :
    Calls Try.prog 103 #[.pointer (some ⟨C.b, 0, none⟩), agg3 (v, l, l)] w fun e w' => e = .returned (.int .i64 (l : Int)) ∧ At C w w' ns full N m1 m2 m3 := by
  have hA := (At.refl h).alloc (.cells #[.int .i64 (v : Int), .int .i64 (l : Int), .int .i64 (l : Int)] 87)
  obtain ⟨b0, b1, b2, b3, b4, bf⟩ := h.reads
  have lb := h.ltb
  clear h
  go_enter Try.func103, Try.ntmps103
  go_wp2_with fail
  go_ret
  exact ⟨rfl, hA⟩

set_option maxHeartbeats 1000000 in
set_option maxRecDepth 100000 in
theorem numberOf_there (h : Bu C w ns full N m1 m2 m3) {v l u f : Nat} (hne : l ≠ u) (ho : ok3 (v, l, u)) (h2 : 2 ≤ f) (hf : f < ns.length) (hn : nd ns f = (v, l, u)) :
    Calls Try.prog 103 #[.pointer (some ⟨C.b, 0, none⟩), agg3 (v, l, u)] w fun e w' => e = .returned (.int .i64 (f : Int)) ∧ At C w w' ns full N m1 m2 m3 := by
  have hA := ((At.refl h).alloc (.cells #[.int .i64 (v : Int), .int .i64 (l : Int), .int .i64 (u : Int)] 87)).drew
  obtain ⟨b0, b1, b2, b3, b4, bf⟩ := h.reads
  obtain ⟨cap, a0, a1, a2, a3, af, an⟩ := h.ar.reads
  have lb := h.ltb
  have la := h.ar.lta
  obtain ⟨num, hm, hk⟩ := hA.bu.ar.map
  have hlook := hm.look Try.u39 (x := (v, l, u)) ho
  rw [(hk (v, l, u) f).2 ⟨h2, hf, hn⟩] at hlook
  simp only [nodeE, Option.getD_some, Option.isSome_some] at hlook
  have hne' : ((l : Int) == (u : Int)) = false := by simp; omega
  clear h an hm hk
  go_enter Try.func103, Try.ntmps103
  go_wp2_with fail
  go_region
  all_goals
    go_wp2_with fail
    go_ret
    exact ⟨rfl, hA⟩

theorem At.setFull {w0 : World} (h : At C w0 w ns full N m1 m2 m3) (hl : ns.length = C.most) : At C w0 (w.setCell ⟨C.b, 1, none⟩ (.bool true)) ns true N m1 m2 m3 := by
  have hb := h.bu
  have ho : ∀ k, k ≠ C.b → (w.setCell ⟨C.b, 1, none⟩ (.bool true)).heap[k]? = w.heap[k]? := fun k hk => Below.heap_setCell w _ _ k hk
  have hbl := heap_setCell_same w C.b 1 _ _ (.bool true) hb.blk
  have noM : ∀ {i}, (∃ es clock, w.heap[i]? = some (.map es clock)) → i ≠ C.b := fun {i} hi => by
    obtain ⟨es, clock, hi⟩ := hi
    exact (hb.b_noMap hi).1
  obtain ⟨num, hM, _⟩ := hb.ar.map
  have hr : rowOf (w.setCell ⟨C.b, 1, none⟩ (.bool true)) C.a = rowOf w C.a := rowOf_same (ho _ hb.ne_b_a.symm)
  refine ⟨⟨hb.ar.same (ho _ hb.ne_b_a.symm) (ho _ (noM hM.isMap)) (ho _ hb.ne_b_row.symm), ?_, hb.lowB, ?_, ?_, ?_, hb.low1, hb.low2, hb.low3, fun _ => hl⟩, ?_⟩
  · rw [hbl]; rfl
  · exact fun i e => (hb.o1 i e).same (ho _ (noM (hb.o1 i e).isMap))
  · exact fun i e => (hb.o2 i e).same (ho _ (noM (hb.o2 i e).isMap))
  · exact fun i e => (hb.o3 i e).same (ho _ (noM (hb.o3 i e).isMap))
  · refine ⟨h.kp.os, h.kp.tape, h.kp.output, by simpa [World.setCell] using h.kp.size, fun i hi hm hn => ?_, ?_⟩
    · rw [ho i (fun e => hm (Or.inr (Or.inl e)))]
      exact h.kp.blk i hi hm hn
    · rw [hr]
      exact h.kp.row

set_option maxHeartbeats 1000000 in
set_option maxRecDepth 100000 in
theorem numberOf_full (h : Bu C w ns full N m1 m2 m3) {v l u : Nat} (hne : l ≠ u) (ho : ok3 (v, l, u)) (hn : ∀ f, 2 ≤ f → f < ns.length → nd ns f ≠ (v, l, u)) (hl : ns.length = C.most) :
    Calls Try.prog 103 #[.pointer (some ⟨C.b, 0, none⟩), agg3 (v, l, u)] w fun e w' => e = .returned (.int .i64 0) ∧ At C w w' ns true N m1 m2 m3 := by
  have hA := ((At.refl h).alloc (.cells #[.int .i64 (v : Int), .int .i64 (l : Int), .int .i64 (u : Int)] 87)).drew
  obtain ⟨b0, b1, b2, b3, b4, bf⟩ := h.reads
  obtain ⟨cap, a0, a1, a2, a3, af, an⟩ := h.ar.reads
  have lb := h.ltb
  have la := h.ar.lta
  obtain ⟨num, hm, hk⟩ := hA.bu.ar.map
  have hlook := hm.look Try.u39 (x := (v, l, u)) ho
  have hnone : num (v, l, u) = none := by
    cases hx : num (v, l, u) with
    | none => rfl
    | some f => obtain ⟨q1, q2, q3⟩ := (hk _ _).1 hx; exact (hn f q1 q2 q3).elim
  rw [hnone] at hlook
  simp only [nodeE, Option.getD_none, Option.isSome_none] at hlook
  have hne' : ((l : Int) == (u : Int)) = false := by simp; omega
  have hF := ((((At.refl h).setFull hl).alloc (.cells #[.int .i64 (v : Int), .int .i64 (l : Int), .int .i64 (u : Int)] 87)).drew).drew
  have hge : decide ((C.most : Int) ≤ (ns.length : Int)) = true := by simp; omega
  clear h an hm hk hnone hn
  go_enter Try.func103, Try.ntmps103
  go_wp2_with fail
  go_region
  all_goals
    go_wp2_with fail
    go_region
    all_goals
      go_wp2_with fail
      go_ret
      exact ⟨rfl, hF⟩

theorem Try.info37 : (Try.prog.info? 87).map (fun i => (i.zero, i.size, i.bytes)) = some (some (.agg #[.int .i64 0, .int .i64 0, .int .i64 0]), 3, 24) := by kernel_rfl

/-- The nodes lie in a row of the arena's own. -/
theorem Ar.owns {base a M vars most : Nat} (h : Ar base a M vars most w ns) : ∃ cap, w.cell? ⟨a, 2, none⟩ = some (.slice (some ⟨rowOf w a, 0, none⟩) ns.length cap) ∧ w.ownsRow base 87 3 (.slice (some ⟨rowOf w a, 0, none⟩) ns.length cap) ns.length (cellsOf ns) := by
  obtain ⟨g, cap, hb, hr⟩ := h.blk
  have e : rowOf w a = g := by simp [rowOf, hb, Value.ownBlock]
  rw [e]
  exact ⟨cap, by rw [cell_of_row w a 2 _ _ _ hb]; rfl, hr⟩

theorem numOk_snoc {n : Nd} {num : Nd → Option Nat} (h : NumOk ns num) (hnew : ∀ f, 2 ≤ f → f < ns.length → nd ns f ≠ n) (h2 : 2 ≤ ns.length) : NumOk (ns ++ [n]) (upd num n ns.length) := by
  intro m f
  have X : Ext ns (ns ++ [n]) := ⟨[n], rfl⟩
  have last : nd (ns ++ [n]) ns.length = n := by simp [nd]
  have len' : (ns ++ [n]).length = ns.length + 1 := by simp
  unfold upd
  by_cases e : m = n
  · subst e
    rw [if_pos rfl]
    constructor
    · intro hf
      obtain rfl : ns.length = f := by simpa using hf
      exact ⟨h2, by omega, last⟩
    · rintro ⟨f2, fl, hf⟩
      by_cases hl : f < ns.length
      · rw [X.nd hl] at hf
        exact (hnew f f2 hl hf).elim
      · rw [show f = ns.length by omega]
  · rw [if_neg e, h m f]
    constructor
    · rintro ⟨f2, fl, hf⟩
      exact ⟨f2, by omega, by rw [X.nd fl]; exact hf⟩
    · rintro ⟨f2, fl, hf⟩
      by_cases hl : f < ns.length
      · rw [X.nd hl] at hf
        exact ⟨f2, hl, hf⟩
      · obtain rfl : f = ns.length := by omega
        rw [last] at hf
        exact (e hf.symm).elim

/-- A node more: the row has it, the arena's slice, its map. -/
theorem At.grow {w0 w3 w5 : World} {n : Nd} {g g' cap' : Nat} (h : At C w0 w ns false N m1 m2 m3) (hg : rowOf w C.a = g) (hlt : ns.length < C.most) (hwf : Wf C.vars (ns ++ [n]))
    (hown : w3.ownsRow C.base 87 3 (.slice (some ⟨g', 0, none⟩) (ns.length + 1) cap') (ns.length + 1) (cellsOf ns ++ [.int .i64 (n.1 : Int), .int .i64 (n.2.1 : Int), .int .i64 (n.2.2 : Int)]))
    (hgrow : w.grownBy w3 (some g)) (hat : g = g' ∨ g' = w.heap.size) {num : Nd → Option Nat} (hnum : NumOk ns num) (hnew : ∀ f, 2 ≤ f → f < ns.length → nd ns f ≠ n)
    (hM : MapIs nodeE w5 C.M (ns.length + 1) (upd num n ns.length)) (hg5 : (w3.setCell ⟨C.a, 2, none⟩ (.slice (some ⟨g', 0, none⟩) (ns.length + 1) cap')).drew.grownBy w5 (some C.M)) :
    At C w0 w5 (ns ++ [n]) false N m1 m2 m3 := by
  subst hg
  have hb := h.bu
  have la := hb.ar.lta
  have lM := hb.ar.ltM
  have ra := hb.ar.ne_row_a
  have rM := hb.ar.ne_row_M
  have aM := hb.ar.ne_a_M
  obtain ⟨_, _, _, rl⟩ := hb.ar.row
  have sz3 := hgrow.size
  have sz5 := hg5.size
  simp only [heap_drew, World.size_setCell] at sz5
  have ga : g' ≠ C.a := by rcases hat with e | e <;> omega
  have gM : g' ≠ C.M := by rcases hat with e | e <;> omega
  have to5 : ∀ i, i < w.heap.size → i ≠ rowOf w C.a → i ≠ C.a → i ≠ C.M → w5.heap[i]? = w.heap[i]? := fun i hi h1 h2 h3 => by
    rw [hg5.block i (by simp; omega) (by simpa using h3), heap_drew, Below.heap_setCell _ _ _ _ h2, hgrow.block i hi (by simpa using h1)]
  obtain ⟨q, cap, hbl, hrow⟩ := hb.ar.blk
  have hbl5 : w5.heap[C.a]? = some (.cells #[.int .i64 (C.vars : Int), .int .i64 (C.most : Int), .slice (some ⟨g', 0, none⟩) (ns ++ [n]).length cap', .map (some C.M)] 91 (0, 0)) := by
    rw [hg5.block C.a (by simp; omega) (by simpa using aM), heap_drew, heap_setCell_same w3 C.a 2 _ _ _ ((hgrow.block C.a la (by simpa using ra.symm)).trans hbl)]
    simp
  have row5 : rowOf w5 C.a = g' := by simp [rowOf, hbl5, Value.ownBlock]
  have hown5 : w5.ownsRow C.base 87 3 (.slice (some ⟨g', 0, none⟩) (ns ++ [n]).length cap') (ns ++ [n]).length (cellsOf (ns ++ [n])) := by
    rw [cellsOf_append, show (ns ++ [n]).length = ns.length + 1 by simp, show cellsOf [n] = [.int .i64 (n.1 : Int), .int .i64 (n.2.1 : Int), .int .i64 (n.2.2 : Int)] from rfl]
    refine ⟨hown.1, ?_⟩
    rcases hown.2 with ⟨hv, _⟩ | ⟨g2, cap2, cur, hv, hbase, hg2, rest⟩
    · cases hv
    · simp only [Value.slice.injEq, Option.some.injEq, Addr.mk.injEq, and_true, true_and] at hv
      obtain ⟨rfl, rfl⟩ := hv
      have l3 := (Array.getElem?_eq_some_iff.1 hg2).1
      refine .inr ⟨g', cap', cur, rfl, hbase, ?_, rest⟩
      rw [hg5.block g' (by simpa using l3) (by simpa using gM), heap_drew, Below.heap_setCell _ _ _ _ ga]
      exact hg2
  refine ⟨⟨⟨hwf, by simp; omega, hb.ar.vars1, hb.ar.vars16, hb.ar.most4, hb.ar.lowA, hb.ar.lowM, ⟨g', cap', hbl5, hown5⟩, ⟨_, by simpa using hM, numOk_snoc hnum hnew hb.ar.wf.len⟩⟩, ?_, hb.lowB, ?_, ?_, ?_, hb.low1, hb.low2, hb.low3, fun e => by cases e⟩, h.kp.trans ?_⟩
  · rw [to5 C.b hb.ltb hb.ne_b_row hb.ne_b_a (fun e => by obtain ⟨num, hm, _⟩ := hb.ar.map; obtain ⟨es, clock, hm⟩ := hm.isMap; exact (hb.b_noMap hm).1 e.symm)]
    exact hb.blk
  · intro i e
    obtain ⟨es, clock, hm⟩ := (hb.o1 i e).isMap
    obtain ⟨_, k1, k2⟩ := hb.b_noMap hm
    exact (hb.o1 i e).same (to5 i (hb.o1 i e).lt k2 k1 (hb.low1 i e).2.1)
  · intro i e
    obtain ⟨es, clock, hm⟩ := (hb.o2 i e).isMap
    obtain ⟨_, k1, k2⟩ := hb.b_noMap hm
    exact (hb.o2 i e).same (to5 i (hb.o2 i e).lt k2 k1 (hb.low2 i e).2.1)
  · intro i e
    obtain ⟨es, clock, hm⟩ := (hb.o3 i e).isMap
    obtain ⟨_, k1, k2⟩ := hb.b_noMap hm
    exact (hb.o3 i e).same (to5 i (hb.o3 i e).lt k2 k1 (hb.low3 i e).2.1)
  · refine ⟨hg5.os.trans hgrow.os, hg5.tape.trans hgrow.tape, hg5.output.trans hgrow.output, by omega, fun i hi hm hr => to5 i hi hr (fun e => hm (Or.inl e)) (fun e => hm (Or.inr (Or.inr (Or.inl e)))), ?_⟩
    rw [row5]
    rcases hat with e | e
    · exact Or.inl e.symm
    · exact Or.inr (by omega)

set_option maxHeartbeats 2000000 in
set_option maxRecDepth 100000 in
theorem numberOf_new (h : Bu C w ns false N m1 m2 m3) {v l u : Nat} (hne : l ≠ u) (ho : ok3 (v, l, u)) (hn : ∀ f, 2 ≤ f → f < ns.length → nd ns f ≠ (v, l, u)) (hl : ns.length < C.most) (hwf : Wf C.vars (ns ++ [(v, l, u)])) :
    Calls Try.prog 103 #[.pointer (some ⟨C.b, 0, none⟩), agg3 (v, l, u)] w fun e w' => e = .returned (.int .i64 (ns.length : Int)) ∧ At C w w' (ns ++ [(v, l, u)]) false N m1 m2 m3 := by
  have hA := ((At.refl h).alloc (.cells #[.int .i64 (v : Int), .int .i64 (l : Int), .int .i64 (u : Int)] 87)).drew
  obtain ⟨b0, b1, b2, b3, b4, bf⟩ := h.reads
  obtain ⟨cap, a0, a1, a2, a3, af, an⟩ := h.ar.reads
  have lb := h.ltb
  have la := h.ar.lta
  obtain ⟨num, hm, hk⟩ := hA.bu.ar.map
  have hlook := hm.look Try.u39 (x := (v, l, u)) ho
  have hnone : num (v, l, u) = none := by
    cases hx : num (v, l, u) with
    | none => rfl
    | some f => obtain ⟨q1, q2, q3⟩ := (hk _ _).1 hx; exact (hn f q1 q2 q3).elim
  rw [hnone] at hlook
  simp only [nodeE, Option.getD_none, Option.isSome_none] at hlook
  have hne' : ((l : Int) == (u : Int)) = false := by simp; omega
  have hge : decide ((C.most : Int) ≤ (ns.length : Int)) = false := by simp; omega
  have hl4 : ns.length ≤ 40000 := Nat.le_trans h.ar.le h.ar.most4
  obtain ⟨i0, hi, hz0, hz1, hz2⟩ := info_parts Try.info37
  clear a2 cap
  obtain ⟨cap, a2, hown⟩ := h.ar.owns
  have rl := h.ar.row
  have nra := h.ar.ne_row_a
  have hlow := h.ar.lowA
  have hA2 := ((hA.alloc (.cells #[.int .i64 (v : Int), .int .i64 (l : Int), .int .i64 (u : Int)] 87)).drew).drew
  have rM := h.ar.ne_row_M
  have aM := h.ar.ne_a_M
  have lM := h.ar.ltM
  have hkeep : ∀ g' cap' w3, (((w.alloc (.cells #[.int .i64 (v : Int), .int .i64 (l : Int), .int .i64 (u : Int)] 87)).alloc (.cells #[.int .i64 (v : Int), .int .i64 (l : Int), .int .i64 (u : Int)] 87)).drew.drew.drew).grownBy w3 (some (rowOf w C.a)) → (some (rowOf w C.a) = some g' ∨ g' = (((w.alloc (.cells #[.int .i64 (v : Int), .int .i64 (l : Int), .int .i64 (u : Int)] 87)).alloc (.cells #[.int .i64 (v : Int), .int .i64 (l : Int), .int .i64 (u : Int)] 87)).drew.drew.drew).heap.size) →
      w3.ownsRow C.base 87 3 (.slice (some ⟨g', 0, none⟩) (ns.length + 1) cap') (ns.length + 1) (cellsOf ns ++ [.int .i64 (v : Int), .int .i64 (l : Int), .int .i64 (u : Int)]) → ∃ w5,
      w3.cell? ⟨C.a, 2, none⟩ = some (.slice (some ⟨rowOf w C.a, 0, none⟩) ns.length cap) ∧ w3.cell? ⟨C.a, 3, none⟩ = some (.map (some C.M)) ∧
      (w3.setCell ⟨C.a, 2, none⟩ (.slice (some ⟨g', 0, none⟩) (ns.length + 1) cap')).cell? ⟨w.heap.size, 0, none⟩ = some (.int .i64 (v : Int)) ∧ (w3.setCell ⟨C.a, 2, none⟩ (.slice (some ⟨g', 0, none⟩) (ns.length + 1) cap')).cell? ⟨w.heap.size, 1, none⟩ = some (.int .i64 (l : Int)) ∧ (w3.setCell ⟨C.a, 2, none⟩ (.slice (some ⟨g', 0, none⟩) (ns.length + 1) cap')).cell? ⟨w.heap.size, 2, none⟩ = some (.int .i64 (u : Int)) ∧ w3.frozen? ⟨C.a, 2, none⟩ = false ∧
      (Instr.mapUpdate 89 (.map (some C.M)) (agg3 (v, l, u)) (.int .i64 (ns.length : Int))).run Try.prog (w3.setCell ⟨C.a, 2, none⟩ (.slice (some ⟨g', 0, none⟩) (ns.length + 1) cap')).drew = .ok () w5 ∧ At C w w5 (ns ++ [(v, l, u)]) false N m1 m2 m3 := by
    intro g' cap' w3 hg hat hown3
    obtain ⟨_, _, _, rl⟩ := rl
    have hm3 : MapIs nodeE (w3.setCell ⟨C.a, 2, none⟩ (.slice (some ⟨g', 0, none⟩) (ns.length + 1) cap')).drew C.M ns.length num := by
      refine hm.same ?_
      rw [heap_drew, Below.heap_setCell _ _ _ _ (fun e => aM e.symm), hg.block C.M (by simp; omega) (by simpa using rM.symm), heap_drew, heap_drew, heap_drew, heap_drew, Below.heap_alloc _ _ _ (by simp; omega)]
    obtain ⟨w5, hrun, hM5, hg5⟩ := hm3.store Try.u39 (by unfold maxLen; omega) (x := (v, l, u)) ho (v := ns.length) (by omega)
    have hr2 : rowOf (((w.alloc (.cells #[.int .i64 (v : Int), .int .i64 (l : Int), .int .i64 (u : Int)] 87)).alloc (.cells #[.int .i64 (v : Int), .int .i64 (l : Int), .int .i64 (u : Int)] 87)).drew.drew.drew) C.a = rowOf w C.a := by
      refine rowOf_same ?_
      rw [heap_drew, heap_drew, heap_drew, Below.heap_alloc _ _ _ (by simp; omega), Below.heap_alloc _ _ _ la]
    have hfin := hA2.grow hr2 hl hwf hown3 hg (by simpa using hat) hk hn hM5 hg5
    refine ⟨w5, ?_, ?_, ?_, ?_, ?_, ?_, hrun, hfin⟩
    · rw [hg.cell_far ⟨C.a, 2, none⟩ (by simp; omega) (by simp; omega)]; simp [*, World.cell?_alloc_some]
    · rw [hg.cell_far ⟨C.a, 3, none⟩ (by simp; omega) (by simp; omega)]; simp [*, World.cell?_alloc_some]
    · rw [World.cell?_of_block (Below.heap_setCell _ _ _ _ (by simp; omega)), hg.cell_far ⟨w.heap.size, 0, none⟩ (by simp; omega) (by simp; omega)]; simp [*, World.cell?_alloc_some]
    · rw [World.cell?_of_block (Below.heap_setCell _ _ _ _ (by simp; omega)), hg.cell_far ⟨w.heap.size, 1, none⟩ (by simp; omega) (by simp; omega)]; simp [*, World.cell?_alloc_some]
    · rw [World.cell?_of_block (Below.heap_setCell _ _ _ _ (by simp; omega)), hg.cell_far ⟨w.heap.size, 2, none⟩ (by simp; omega) (by simp; omega)]; simp [*, World.cell?_alloc_some]
    · rw [hg.frozen_far ⟨C.a, 2, none⟩ (by simp; omega) (by simp; omega)]; simp [*, frozen?_alloc_cells]
  have own2 : (((w.alloc (.cells #[.int .i64 (v : Int), .int .i64 (l : Int), .int .i64 (u : Int)] 87)).alloc (.cells #[.int .i64 (v : Int), .int .i64 (l : Int), .int .i64 (u : Int)] 87)).drew.drew.drew).ownsRow C.base 87 3 (.slice (some ⟨rowOf w C.a, 0, none⟩) ns.length cap) ns.length (cellsOf ns) := (hown.alloc _).alloc _
  have news : ∀ j x, [Value.int .i64 (v : Int), .int .i64 (l : Int), .int .i64 (u : Int)][j]? = some x → (((w.alloc (.cells #[.int .i64 (v : Int), .int .i64 (l : Int), .int .i64 (u : Int)] 87)).alloc (.cells #[.int .i64 (v : Int), .int .i64 (l : Int), .int .i64 (u : Int)] 87)).drew.drew.drew).cell? ((⟨w.heap.size + 1, 0, none⟩ : Addr).add j) = some x :=
    World.news_of_block (w := (((w.alloc (.cells #[.int .i64 (v : Int), .int .i64 (l : Int), .int .i64 (u : Int)] 87)).alloc (.cells #[.int .i64 (v : Int), .int .i64 (l : Int), .int .i64 (u : Int)] 87)).drew.drew.drew)) (B := w.heap.size + 1) (cs := #[.int .i64 (v : Int), .int .i64 (l : Int), .int .i64 (u : Int)]) (t := 87) (fr := (0, 0)) (by rw [heap_drew, heap_drew, heap_drew, show w.heap.size + 1 = (w.alloc (.cells #[.int .i64 (v : Int), .int .i64 (l : Int), .int .i64 (u : Int)] 87)).heap.size by simp]; exact Go.heap_alloc_new _ _)
  have one : ∀ x ∈ [Value.int .i64 (v : Int), .int .i64 (l : Int), .int .i64 (u : Int)], x.oneCell' = true := by simp [Value.oneCell']
  have s1 : ns.length + 1 ≤ maxLen := by unfold maxLen; omega
  have s2 : (ns.length + 1) * 24 ≤ 140737488355328 := by omega
  have s3 : C.base ≤ (((w.alloc (.cells #[.int .i64 (v : Int), .int .i64 (l : Int), .int .i64 (u : Int)] 87)).alloc (.cells #[.int .i64 (v : Int), .int .i64 (l : Int), .int .i64 (u : Int)] 87)).drew.drew.drew).heap.size := by simp; omega
  clear h an hnone hn
  go_enter Try.func103, Try.ntmps103
  go_wp2_with fail
  go_region
  all_goals
    go_wp2_with fail
    go_region
    all_goals
      go_wp2_with fail
      go_region_law (refine step_append_lies _ rfl _ _ 88 rfl C.base 87 i0 _ 3 24 Try.u38 hi hz0 hz1 hz2 rfl (by decide) _ ns.length (cellsOf ns) rfl own2 ⟨w.heap.size + 1, 0, none⟩ 1 1 [.int .i64 (v : Int), .int .i64 (l : Int), .int .i64 (u : Int)] rfl rfl news one (by decide) s1 s2 s3 _ rfl ?_; intro g' cap' w3 hown3 hgrow3 hat3 hlt3; obtain ⟨w5, k1, k2, k3, k4, k5, k6, hrun, hfin⟩ := hkeep g' cap' w3 hgrow3 hat3 hown3; clear hown3 hgrow3 hat3 hlt3)
      all_goals
        go_wp2_with fail
        go_region
        all_goals
          go_wp2_with fail
          go_ret
          exact ⟨rfl, hfin⟩

/-- numberOf. -/
theorem numberOf_any (h : Bu C w ns full N m1 m2 m3) {v l u : Nat} (hv : v < C.vars) (hl : l < ns.length) (hu : u < ns.length) (hord : full = false → v < nv ns l ∧ v < nv ns u) :
    Calls Try.prog 103 #[.pointer (some ⟨C.b, 0, none⟩), agg3 (v, l, u)] w fun e w' => ∃ f ns' full', e = .returned (.int .i64 ((f : Nat) : Int)) ∧ At C w w' ns' full' N m1 m2 m3 ∧ Ext ns ns' ∧ ns'.length ≤ ns.length + 1 ∧ f < ns'.length ∧
      (full = true → full' = true) ∧ (full' = false → IsNode ns' v l u f) := by
  have hlen : ns.length ≤ 40000 := Nat.le_trans h.ar.le h.ar.most4
  have hv16 := h.ar.vars16
  have ho : ok3 (v, l, u) := ⟨by show v < _; omega, by show l < _; omega, by show u < _; omega⟩
  have h2 := h.ar.wf.len
  by_cases hne : l = u
  · subst hne
    refine (numberOf_same h).mono ?_
    rintro e w' ⟨rfl, hA⟩
    exact ⟨l, ns, full, rfl, hA, Ext.refl _, by omega, hl, id, fun hf => isNode_same hl (hord hf).1⟩
  · by_cases hex : ∃ f, 2 ≤ f ∧ f < ns.length ∧ nd ns f = (v, l, u)
    · obtain ⟨f, f2, fl, fn⟩ := hex
      refine (numberOf_there h hne ho f2 fl fn).mono ?_
      rintro e w' ⟨rfl, hA⟩
      exact ⟨f, ns, full, rfl, hA, Ext.refl _, by omega, fl, id, fun _ => isNode_there h.ar.wf f2 fl fn⟩
    · have hn : ∀ f, 2 ≤ f → f < ns.length → nd ns f ≠ (v, l, u) := fun f f2 fl fn => hex ⟨f, f2, fl, fn⟩
      by_cases hm : ns.length = C.most
      · refine (numberOf_full h hne ho hn hm).mono ?_
        rintro e w' ⟨rfl, hA⟩
        exact ⟨0, ns, true, rfl, hA, Ext.refl _, by omega, by omega, fun _ => rfl, fun e => by cases e⟩
      · have hle := h.ar.le
        obtain rfl : full = false := by
          cases full
          · rfl
          · exact (hm (h.full_len rfl)).elim
        have hwf := wf_snoc h.ar.wf (n := (v, l, u)) hv hl hu hne (hord rfl).1 (hord rfl).2 hn
        refine (numberOf_new h hne ho hn (by omega) hwf).mono ?_
        rintro e w' ⟨rfl, hA⟩
        have X : Ext ns (ns ++ [(v, l, u)]) := ⟨_, rfl⟩
        refine ⟨ns.length, _, false, rfl, hA, X, by simp, by simp, (fun e => by cases e), fun _ => isNode_there hwf h2 (by simp) (by simp [nd])⟩
end
end Go.Proofs.Ytgcimcpcnoojnaa


