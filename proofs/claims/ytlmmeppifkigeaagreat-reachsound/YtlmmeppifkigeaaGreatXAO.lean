/-
  XAO.
-/
import Derived.Test.YtlmmeppifkigeaaGreatXAN
import Derived.Deep.RegionLaw
set_option maxHeartbeats 8000000
set_option maxRecDepth 100000
namespace Go.Proofs.YtlmmeppifkigeaaGreat
open Go.RowKit Go.Maps
section
variable {C : Cfg} {w : World} {ns : List Nd} {full : Bool} {N : Nat} {m1 : Nd -> Option Nat} {m2 : Mx -> Option Nat} {m3 : Nat -> Option Nat}
theorem numberOf_same (h : Bu C w ns full N m1 m2 m3) {v l : Nat} :
  Calls Tryz.prog 141 #[.pointer (some ⟨C.b, 0, none⟩), agg3 (v, l, l)] w fun e w' => e = .returned (.int .i64 (l : Int)) ∧ At C w w' ns full N m1 m2 m3 := by
 have hA := (At.refl h).alloc (.cells #[.int .i64 (v : Int), .int .i64 (l : Int), .int .i64 (l : Int)] 134)
 obtain ⟨b0, b1, b2, b3, b4, bf⟩ := h.reads
 have lb := h.ltb
 clear h
 go_enter Tryz.func141, Tryz.ntmps141
 go_wp2_with fail
 go_ret
 exact ⟨rfl, hA⟩
theorem numberOf_there (h : Bu C w ns full N m1 m2 m3) {v l u f : Nat} (hne : l ≠ u) (ho : ok3 (v, l, u)) (h2 : 2 <= f) (hf : f < ns.length) (hn : nd ns f = (v, l, u)) :
  Calls Tryz.prog 141 #[.pointer (some ⟨C.b, 0, none⟩), agg3 (v, l, u)] w fun e w' => e = .returned (.int .i64 (f : Int)) ∧ At C w w' ns full N m1 m2 m3 := by
 have hA := ((At.refl h).alloc (.cells #[.int .i64 (v : Int), .int .i64 (l : Int), .int .i64 (u : Int)] 134)).drew
 obtain ⟨b0, b1, b2, b3, b4, bf⟩ := h.reads
 obtain ⟨cap, a0, a1, a2, a3, af, an⟩ := h.ar.reads
 have lb := h.ltb
 have la := h.ar.lta
 obtain ⟨num, hm, hk⟩ := hA.bu.ar.map
 have hlook := hm.look Tryz.u39 (x := (v, l, u)) ho
 rw [(hk (v, l, u) f).2 ⟨h2, hf, hn⟩] at hlook
 simp only [nodeE, Option.getD_some, Option.isSome_some] at hlook
 have hne' : ((l : Int) == (u : Int)) = false := by simp; omega
 clear h an hm hk
 go_enter Tryz.func141, Tryz.ntmps141
 go_wp2_with fail
 go_region
 all_goals
  go_wp2_with fail
  go_ret
  exact ⟨rfl, hA⟩
theorem At.setFull {w0 : World} (h : At C w0 w ns full N m1 m2 m3) (hl : ns.length = C.most) : At C w0 (w.setCell ⟨C.b, 1, none⟩ (.bool true)) ns true N m1 m2 m3 := by
 have hb := h.bu
 have ho : ∀ k, k ≠ C.b -> (w.setCell ⟨C.b, 1, none⟩ (.bool true)).heap[k]? = w.heap[k]? := fun k hk => Below.heap_setCell w _ _ k hk
 have hbl := heap_setCell_same w C.b 1 _ _ (.bool true) hb.blk
 have noM : ∀ {i}, (∃ es clock, w.heap[i]? = some (.map es clock)) -> i ≠ C.b := fun {i} hi => by
  obtain ⟨es, clock, hi⟩ := hi
  exact (hb.b_noMap hi).1
 obtain ⟨num, hM, _⟩ := hb.ar.map
 have hr : rowOf (w.setCell ⟨C.b, 1, none⟩ (.bool true)) C.a = rowOf w C.a := rowOf_same (ho _ hb.ne_b_a.symm)
 refine ⟨⟨hb.ar.same (ho _ hb.ne_b_a.symm) (ho _ (noM hM.isMap)) (ho _ hb.ne_b_row.symm), ?_, hb.lowB, ?_, ?_, ?_, hb.low1, hb.low2, hb.low3, fun _ => hl⟩, ?_⟩
 ·rw [hbl]; rfl
 ·exact fun i e => (hb.o1 i e).same (ho _ (noM (hb.o1 i e).isMap))
 ·exact fun i e => (hb.o2 i e).same (ho _ (noM (hb.o2 i e).isMap))
 ·exact fun i e => (hb.o3 i e).same (ho _ (noM (hb.o3 i e).isMap))
 ·refine ⟨h.kp.os, h.kp.tape, h.kp.output, by simpa [World.setCell] using h.kp.size, fun i hi hm hn => ?_, ?_, fun j hj => (cellB (ho _ hb.ne_b_a.symm)).trans (h.kp.post j hj)⟩
  ·rw [ho i (fun e => hm (Or.inr (Or.inl e)))]
   exact h.kp.blk i hi hm hn
  ·rw [hr]
   exact h.kp.row
theorem numberOf_full (h : Bu C w ns full N m1 m2 m3) {v l u : Nat} (hne : l ≠ u) (ho : ok3 (v, l, u)) (hn : ∀ f, 2 <= f -> f < ns.length -> nd ns f ≠ (v, l, u)) (hl : ns.length = C.most) :
  Calls Tryz.prog 141 #[.pointer (some ⟨C.b, 0, none⟩), agg3 (v, l, u)] w fun e w' => e = .returned (.int .i64 0) ∧ At C w w' ns true N m1 m2 m3 := by
 have hA := ((At.refl h).alloc (.cells #[.int .i64 (v : Int), .int .i64 (l : Int), .int .i64 (u : Int)] 134)).drew
 obtain ⟨b0, b1, b2, b3, b4, bf⟩ := h.reads
 obtain ⟨cap, a0, a1, a2, a3, af, an⟩ := h.ar.reads
 have lb := h.ltb
 have la := h.ar.lta
 obtain ⟨num, hm, hk⟩ := hA.bu.ar.map
 have hlook := hm.look Tryz.u39 (x := (v, l, u)) ho
 have hnone : num (v, l, u) = none := by
  cases hx : num (v, l, u) with
  | none => rfl
  | some f => obtain ⟨q1, q2, q3⟩ := (hk _ _).1 hx; exact (hn f q1 q2 q3).elim
 rw [hnone] at hlook
 simp only [nodeE, Option.getD_none, Option.isSome_none] at hlook
 have hne' : ((l : Int) == (u : Int)) = false := by simp; omega
 have hF := ((((At.refl h).setFull hl).alloc (.cells #[.int .i64 (v : Int), .int .i64 (l : Int), .int .i64 (u : Int)] 134)).drew).drew
 have hge : decide ((C.most : Int) <= (ns.length : Int)) = true := by simp; omega
 clear h an hm hk hnone hn
 go_enter Tryz.func141, Tryz.ntmps141
 go_wp2_with fail
 go_region
 all_goals
  go_wp2_with fail
  go_region
  all_goals
   go_wp2_with fail
   go_ret
   exact ⟨rfl, hF⟩
theorem Tryz.info37 : (Tryz.prog.info? 134).map (fun i => (i.zero, i.size, i.bytes)) = some (some (.agg #[.int .i64 0, .int .i64 0, .int .i64 0]), 3, 24) := by kernel_rfl
theorem Ar.owns {base a M vars most : Nat} (h : Ar base a M vars most w ns) : ∃ cap, w.cell? ⟨a, 2, none⟩ = some (.slice (some ⟨rowOf w a, 0, none⟩) ns.length cap) ∧ w.ownsRow base 134 3 (.slice (some ⟨rowOf w a, 0, none⟩) ns.length cap) ns.length (cellsOf ns) := by
 obtain ⟨g, cap, cs, t, hb, hc, hr⟩ := h.blk
 have e : rowOf w a = g := by simp [rowOf, hb, hc.c2, Value.ownBlock]
 rw [e]
 exact ⟨cap, by rw [cell_of_row w a 2 _ _ _ hb]; exact hc.c2, hr⟩
theorem numOk_snoc {n : Nd} {num : Nd -> Option Nat} (h : NumOk ns num) (hnew : ∀ f, 2 <= f -> f < ns.length -> nd ns f ≠ n) (h2 : 2 <= ns.length) : NumOk (ns ++ [n]) (upd num n ns.length) := by
 intro m f
 have X : Ext ns (ns ++ [n]) := ⟨[n], rfl⟩
 have last : nd (ns ++ [n]) ns.length = n := by simp [nd]
 have len' : (ns ++ [n]).length = ns.length + 1 := by simp
 unfold upd
 by_cases e : m = n
 ·subst e
  rw [if_pos rfl]
  constructor
  ·intro hf
   obtain rfl : ns.length = f := by simpa using hf
   exact ⟨h2, by omega, last⟩
  ·rintro ⟨f2, fl, hf⟩
   by_cases hl : f < ns.length
   ·rw [X.nd hl] at hf
    exact (hnew f f2 hl hf).elim
   ·rw [show f = ns.length by omega]
 ·rw [if_neg e, h m f]
  constructor
  ·rintro ⟨f2, fl, hf⟩
   exact ⟨f2, by omega, by rw [X.nd fl]; exact hf⟩
  ·rintro ⟨f2, fl, hf⟩
   by_cases hl : f < ns.length
   ·rw [X.nd hl] at hf
    exact ⟨f2, hl, hf⟩
   ·obtain rfl : f = ns.length := by omega
    rw [last] at hf
    exact (e hf.symm).elim
theorem At.grow {w0 w3 w5 : World} {n : Nd} {g g' cap' : Nat} (h : At C w0 w ns false N m1 m2 m3) (hg : rowOf w C.a = g) (hlt : ns.length < C.most) (hwf : Wf C.vars (ns ++ [n]))
  (hown : w3.ownsRow C.base 134 3 (.slice (some ⟨g', 0, none⟩) (ns.length + 1) cap') (ns.length + 1) (cellsOf ns ++ [.int .i64 (n.1 : Int), .int .i64 (n.2.1 : Int), .int .i64 (n.2.2 : Int)]))
  (hgrow : w.grownBy w3 (some g)) (hat : g = g' ∨ g' = w.heap.size) {num : Nd -> Option Nat} (hnum : NumOk ns num) (hnew : ∀ f, 2 <= f -> f < ns.length -> nd ns f ≠ n)
  (hM : MapIs nodeE w5 C.M (ns.length + 1) (upd num n ns.length)) (hg5 : (w3.setCell ⟨C.a, 2, none⟩ (.slice (some ⟨g', 0, none⟩) (ns.length + 1) cap')).drew.grownBy w5 (some C.M)) :
  At C w0 w5 (ns ++ [n]) false N m1 m2 m3 := by
 subst hg
 have hb := h.bu
 have la := hb.ar.lta
 have lM := hb.ar.ltM
 have ra := hb.ar.ne_row_a
 have rM := hb.ar.ne_row_M
 have aM := hb.ar.ne_a_M
 obtain ⟨_, _, _, rl⟩ := hb.ar.row
 have sz3 := hgrow.size
 have sz5 := hg5.size
 simp only [heap_drew, World.size_setCell] at sz5
 have ga : g' ≠ C.a := by rcases hat with e | e <;> omega
 have gM : g' ≠ C.M := by rcases hat with e | e <;> omega
 have to5 : ∀ i, i < w.heap.size -> i ≠ rowOf w C.a -> i ≠ C.a -> i ≠ C.M -> w5.heap[i]? = w.heap[i]? := fun i hi h1 h2 h3 => by
  rw [hg5.block i (by simp; omega) (by simpa using h3), heap_drew, Below.heap_setCell _ _ _ _ h2, hgrow.block i hi (by simpa using h1)]
 obtain ⟨q, cap, cs0, t0, hbl, hc0, hrow⟩ := hb.ar.blk
 have hbl5 : w5.heap[C.a]? = some (.cells (cs0.setIfInBounds 2 (.slice (some ⟨g', 0, none⟩) (ns ++ [n]).length cap')) t0 (0, 0)) := by
  rw [hg5.block C.a (by simp; omega) (by simpa using aM), heap_drew, heap_setCell_same w3 C.a 2 _ _ _ ((hgrow.block C.a la (by simpa using ra.symm)).trans hbl)]
  simp
 have l4 : 3 < cs0.size := (Array.getElem?_eq_some_iff.1 hc0.c3).1
 have hc5 : ArC C.vars C.most g' (ns ++ [n]).length cap' C.M (cs0.setIfInBounds 2 (.slice (some ⟨g', 0, none⟩) (ns ++ [n]).length cap')) t0 :=
  ⟨by rw [Array.getElem?_setIfInBounds]; simpa using hc0.c0, by rw [Array.getElem?_setIfInBounds]; simpa using hc0.c1, by rw [Array.getElem?_setIfInBounds, if_pos rfl, if_pos (by omega)], by rw [Array.getElem?_setIfInBounds]; simpa using hc0.c3, hc0.ty⟩
 have row5 : rowOf w5 C.a = g' := by simp only [rowOf, hbl5, hc5.c2]; rfl
 have hown5 : w5.ownsRow C.base 134 3 (.slice (some ⟨g', 0, none⟩) (ns ++ [n]).length cap') (ns ++ [n]).length (cellsOf (ns ++ [n])) := by
  rw [cellsOf_append, show (ns ++ [n]).length = ns.length + 1 by simp, show cellsOf [n] = [.int .i64 (n.1 : Int), .int .i64 (n.2.1 : Int), .int .i64 (n.2.2 : Int)] from rfl]
  refine ⟨hown.1, ?_⟩
  rcases hown.2 with ⟨hv, _⟩ | ⟨g2, cap2, cur, hv, hbase, hg2, rest⟩
  ·cases hv
  ·simp only [Value.slice.injEq, Option.some.injEq, Addr.mk.injEq, and_true, true_and] at hv
   obtain ⟨rfl, rfl⟩ := hv
   have l3 := (Array.getElem?_eq_some_iff.1 hg2).1
   refine .inr ⟨g', cap', cur, rfl, hbase, ?_, rest⟩
   rw [hg5.block g' (by simpa using l3) (by simpa using gM), heap_drew, Below.heap_setCell _ _ _ _ ga]
   exact hg2
 refine ⟨⟨⟨hwf, by simp; omega, hb.ar.vars1, hb.ar.vars16, hb.ar.most4, hb.ar.lowA, hb.ar.lowM, ⟨g', cap', _, _, hbl5, hc5, hown5⟩, ⟨_, by simpa using hM, numOk_snoc hnum hnew hb.ar.wf.len⟩⟩, ?_, hb.lowB, ?_, ?_, ?_, hb.low1, hb.low2, hb.low3, fun e => by cases e⟩, h.kp.trans ?_⟩
 ·rw [to5 C.b hb.ltb hb.ne_b_row hb.ne_b_a (fun e => by obtain ⟨num, hm, _⟩ := hb.ar.map; obtain ⟨es, clock, hm⟩ := hm.isMap; exact (hb.b_noMap hm).1 e.symm)]
  exact hb.blk
 ·intro i e
  obtain ⟨es, clock, hm⟩ := (hb.o1 i e).isMap
  obtain ⟨_, k1, k2⟩ := hb.b_noMap hm
  exact (hb.o1 i e).same (to5 i (hb.o1 i e).lt k2 k1 (hb.low1 i e).2.1)
 ·intro i e
  obtain ⟨es, clock, hm⟩ := (hb.o2 i e).isMap
  obtain ⟨_, k1, k2⟩ := hb.b_noMap hm
  exact (hb.o2 i e).same (to5 i (hb.o2 i e).lt k2 k1 (hb.low2 i e).2.1)
 ·intro i e
  obtain ⟨es, clock, hm⟩ := (hb.o3 i e).isMap
  obtain ⟨_, k1, k2⟩ := hb.b_noMap hm
  exact (hb.o3 i e).same (to5 i (hb.o3 i e).lt k2 k1 (hb.low3 i e).2.1)
 ·refine ⟨hg5.os.trans hgrow.os, hg5.tape.trans hgrow.tape, hg5.output.trans hgrow.output, by omega, fun i hi hm hr => to5 i hi hr (fun e => hm (Or.inl e)) (fun e => hm (Or.inr (Or.inr (Or.inl e)))), ?_, fun j hj => by
   have hne : ¬ 2 = j := by omega
   simp [World.cell?, hbl5, hbl, hne]⟩
  rw [row5]
  rcases hat with e | e
  ·exact Or.inl e.symm
  ·exact Or.inr (by omega)
theorem numberOf_new (h : Bu C w ns false N m1 m2 m3) {v l u : Nat} (hne : l ≠ u) (ho : ok3 (v, l, u)) (hn : ∀ f, 2 <= f -> f < ns.length -> nd ns f ≠ (v, l, u)) (hl : ns.length < C.most) (hwf : Wf C.vars (ns ++ [(v, l, u)])) :
  Calls Tryz.prog 141 #[.pointer (some ⟨C.b, 0, none⟩), agg3 (v, l, u)] w fun e w' => e = .returned (.int .i64 (ns.length : Int)) ∧ At C w w' (ns ++ [(v, l, u)]) false N m1 m2 m3 := by
 have hA := ((At.refl h).alloc (.cells #[.int .i64 (v : Int), .int .i64 (l : Int), .int .i64 (u : Int)] 134)).drew
 obtain ⟨b0, b1, b2, b3, b4, bf⟩ := h.reads
 obtain ⟨cap, a0, a1, a2, a3, af, an⟩ := h.ar.reads
 have lb := h.ltb
 have la := h.ar.lta
 obtain ⟨num, hm, hk⟩ := hA.bu.ar.map
 have hlook := hm.look Tryz.u39 (x := (v, l, u)) ho
 have hnone : num (v, l, u) = none := by
  cases hx : num (v, l, u) with
  | none => rfl
  | some f => obtain ⟨q1, q2, q3⟩ := (hk _ _).1 hx; exact (hn f q1 q2 q3).elim
 rw [hnone] at hlook
 simp only [nodeE, Option.getD_none, Option.isSome_none] at hlook
 have hne' : ((l : Int) == (u : Int)) = false := by simp; omega
 have hge : decide ((C.most : Int) <= (ns.length : Int)) = false := by simp; omega
 have hl4 : ns.length <= 40000 := Nat.le_trans h.ar.le h.ar.most4
 obtain ⟨i0, hi, hz0, hz1, hz2⟩ := info_parts Tryz.info37
 clear a2 cap
 obtain ⟨cap, a2, hown⟩ := h.ar.owns
 have rl := h.ar.row
 have nra := h.ar.ne_row_a
 have hlow := h.ar.lowA
 have hA2 := ((hA.alloc (.cells #[.int .i64 (v : Int), .int .i64 (l : Int), .int .i64 (u : Int)] 134)).drew).drew
 have rM := h.ar.ne_row_M
 have aM := h.ar.ne_a_M
 have lM := h.ar.ltM
 have hkeep : ∀ g' cap' w3, (((w.alloc (.cells #[.int .i64 (v : Int), .int .i64 (l : Int), .int .i64 (u : Int)] 134)).alloc (.cells #[.int .i64 (v : Int), .int .i64 (l : Int), .int .i64 (u : Int)] 134)).drew.drew.drew).grownBy w3 (some (rowOf w C.a)) -> (some (rowOf w C.a) = some g' ∨ g' = (((w.alloc (.cells #[.int .i64 (v : Int), .int .i64 (l : Int), .int .i64 (u : Int)] 134)).alloc (.cells #[.int .i64 (v : Int), .int .i64 (l : Int), .int .i64 (u : Int)] 134)).drew.drew.drew).heap.size) ->
   w3.ownsRow C.base 134 3 (.slice (some ⟨g', 0, none⟩) (ns.length + 1) cap') (ns.length + 1) (cellsOf ns ++ [.int .i64 (v : Int), .int .i64 (l : Int), .int .i64 (u : Int)]) -> ∃ w5,
   w3.cell? ⟨C.a, 2, none⟩ = some (.slice (some ⟨rowOf w C.a, 0, none⟩) ns.length cap) ∧ w3.cell? ⟨C.a, 3, none⟩ = some (.map (some C.M)) ∧
   (w3.setCell ⟨C.a, 2, none⟩ (.slice (some ⟨g', 0, none⟩) (ns.length + 1) cap')).cell? ⟨w.heap.size, 0, none⟩ = some (.int .i64 (v : Int)) ∧ (w3.setCell ⟨C.a, 2, none⟩ (.slice (some ⟨g', 0, none⟩) (ns.length + 1) cap')).cell? ⟨w.heap.size, 1, none⟩ = some (.int .i64 (l : Int)) ∧ (w3.setCell ⟨C.a, 2, none⟩ (.slice (some ⟨g', 0, none⟩) (ns.length + 1) cap')).cell? ⟨w.heap.size, 2, none⟩ = some (.int .i64 (u : Int)) ∧ w3.frozen? ⟨C.a, 2, none⟩ = false ∧
   (Instr.mapUpdate 91 (.map (some C.M)) (agg3 (v, l, u)) (.int .i64 (ns.length : Int))).run Tryz.prog (w3.setCell ⟨C.a, 2, none⟩ (.slice (some ⟨g', 0, none⟩) (ns.length + 1) cap')).drew = .ok () w5 ∧ At C w w5 (ns ++ [(v, l, u)]) false N m1 m2 m3 := by
  intro g' cap' w3 hg hat hown3
  obtain ⟨_, _, _, rl⟩ := rl
  have hm3 : MapIs nodeE (w3.setCell ⟨C.a, 2, none⟩ (.slice (some ⟨g', 0, none⟩) (ns.length + 1) cap')).drew C.M ns.length num := by
   refine hm.same ?_
   rw [heap_drew, Below.heap_setCell _ _ _ _ (fun e => aM e.symm), hg.block C.M (by simp; omega) (by simpa using rM.symm), heap_drew, heap_drew, heap_drew, heap_drew, Below.heap_alloc _ _ _ (by simp; omega)]
  obtain ⟨w5, hrun, hM5, hg5⟩ := hm3.store Tryz.u39 (by unfold maxLen; omega) (x := (v, l, u)) ho (v := ns.length) (by omega)
  have hr2 : rowOf (((w.alloc (.cells #[.int .i64 (v : Int), .int .i64 (l : Int), .int .i64 (u : Int)] 134)).alloc (.cells #[.int .i64 (v : Int), .int .i64 (l : Int), .int .i64 (u : Int)] 134)).drew.drew.drew) C.a = rowOf w C.a := by
   refine rowOf_same ?_
   rw [heap_drew, heap_drew, heap_drew, Below.heap_alloc _ _ _ (by simp; omega), Below.heap_alloc _ _ _ la]
  have hfin := hA2.grow hr2 hl hwf hown3 hg (by simpa using hat) hk hn hM5 hg5
  refine ⟨w5, ?_, ?_, ?_, ?_, ?_, ?_, hrun, hfin⟩
  ·rw [hg.cell_far ⟨C.a, 2, none⟩ (by simp; omega) (by simp; omega)]; simp [*, World.cell?_alloc_some]
  ·rw [hg.cell_far ⟨C.a, 3, none⟩ (by simp; omega) (by simp; omega)]; simp [*, World.cell?_alloc_some]
  ·rw [World.cell?_of_block (Below.heap_setCell _ _ _ _ (by simp; omega)), hg.cell_far ⟨w.heap.size, 0, none⟩ (by simp; omega) (by simp; omega)]; simp [*, World.cell?_alloc_some]
  ·rw [World.cell?_of_block (Below.heap_setCell _ _ _ _ (by simp; omega)), hg.cell_far ⟨w.heap.size, 1, none⟩ (by simp; omega) (by simp; omega)]; simp [*, World.cell?_alloc_some]
  ·rw [World.cell?_of_block (Below.heap_setCell _ _ _ _ (by simp; omega)), hg.cell_far ⟨w.heap.size, 2, none⟩ (by simp; omega) (by simp; omega)]; simp [*, World.cell?_alloc_some]
  ·rw [hg.frozen_far ⟨C.a, 2, none⟩ (by simp; omega) (by simp; omega)]; simp [*, frozen?_alloc_cells]
 have own2 : (((w.alloc (.cells #[.int .i64 (v : Int), .int .i64 (l : Int), .int .i64 (u : Int)] 134)).alloc (.cells #[.int .i64 (v : Int), .int .i64 (l : Int), .int .i64 (u : Int)] 134)).drew.drew.drew).ownsRow C.base 134 3 (.slice (some ⟨rowOf w C.a, 0, none⟩) ns.length cap) ns.length (cellsOf ns) := (hown.alloc _).alloc _
 have news : ∀ j x, [Value.int .i64 (v : Int), .int .i64 (l : Int), .int .i64 (u : Int)][j]? = some x -> (((w.alloc (.cells #[.int .i64 (v : Int), .int .i64 (l : Int), .int .i64 (u : Int)] 134)).alloc (.cells #[.int .i64 (v : Int), .int .i64 (l : Int), .int .i64 (u : Int)] 134)).drew.drew.drew).cell? ((⟨w.heap.size + 1, 0, none⟩ : Addr).add j) = some x :=
  World.news_of_block (w := (((w.alloc (.cells #[.int .i64 (v : Int), .int .i64 (l : Int), .int .i64 (u : Int)] 134)).alloc (.cells #[.int .i64 (v : Int), .int .i64 (l : Int), .int .i64 (u : Int)] 134)).drew.drew.drew)) (B := w.heap.size + 1) (cs := #[.int .i64 (v : Int), .int .i64 (l : Int), .int .i64 (u : Int)]) (t := 134) (fr := (0, 0)) (by rw [heap_drew, heap_drew, heap_drew, show w.heap.size + 1 = (w.alloc (.cells #[.int .i64 (v : Int), .int .i64 (l : Int), .int .i64 (u : Int)] 134)).heap.size by simp]; exact Go.heap_alloc_new _ _)
 have one : ∀ x ∈ [Value.int .i64 (v : Int), .int .i64 (l : Int), .int .i64 (u : Int)], x.oneCell' = true := by simp [Value.oneCell']
 have s1 : ns.length + 1 <= maxLen := by unfold maxLen; omega
 have s2 : (ns.length + 1) * 24 <= 140737488355328 := by omega
 have s3 : C.base <= (((w.alloc (.cells #[.int .i64 (v : Int), .int .i64 (l : Int), .int .i64 (u : Int)] 134)).alloc (.cells #[.int .i64 (v : Int), .int .i64 (l : Int), .int .i64 (u : Int)] 134)).drew.drew.drew).heap.size := by simp; omega
 clear h an hnone hn
 go_enter Tryz.func141, Tryz.ntmps141
 go_wp2_with fail
 go_region
 all_goals
  go_wp2_with fail
  go_region
  all_goals
   go_wp2_with fail
   go_region_law (refine step_append_lies _ rfl _ _ 90 rfl C.base 134 i0 _ 3 24 Tryz.u38 hi hz0 hz1 hz2 rfl (by decide) _ ns.length (cellsOf ns) rfl own2 ⟨w.heap.size + 1, 0, none⟩ 1 1 [.int .i64 (v : Int), .int .i64 (l : Int), .int .i64 (u : Int)] rfl rfl news one (by decide) s1 s2 s3 _ rfl ?_; intro g' cap' w3 hown3 hgrow3 hat3 hlt3; obtain ⟨w5, k1, k2, k3, k4, k5, k6, hrun, hfin⟩ := hkeep g' cap' w3 hgrow3 hat3 hown3; clear hown3 hgrow3 hat3 hlt3)
   all_goals
    go_wp2_with fail
    go_region
    all_goals
     go_wp2_with fail
     go_ret
     exact ⟨rfl, hfin⟩
theorem numberOf_any (h : Bu C w ns full N m1 m2 m3) {v l u : Nat} (hv : v < C.vars) (hl : l < ns.length) (hu : u < ns.length) (hord : full = false -> v < nv ns l ∧ v < nv ns u) :
  Calls Tryz.prog 141 #[.pointer (some ⟨C.b, 0, none⟩), agg3 (v, l, u)] w fun e w' => ∃ f ns' full', e = .returned (.int .i64 ((f : Nat) : Int)) ∧ At C w w' ns' full' N m1 m2 m3 ∧ Ext ns ns' ∧ ns'.length <= ns.length + 1 ∧ f < ns'.length ∧
   (full = true -> full' = true) ∧ (full' = false -> IsNode ns' v l u f) := by
 have hlen : ns.length <= 40000 := Nat.le_trans h.ar.le h.ar.most4
 have hv16 := h.ar.vars16
 have ho : ok3 (v, l, u) := ⟨by show v < _; omega, by show l < _; omega, by show u < _; omega⟩
 have h2 := h.ar.wf.len
 by_cases hne : l = u
 ·subst hne
  refine (numberOf_same h).mono ?_
  rintro e w' ⟨rfl, hA⟩
  exact ⟨l, ns, full, rfl, hA, Ext.refl _, by omega, hl, id, fun hf => isNode_same hl (hord hf).1⟩
 ·by_cases hex : ∃ f, 2 <= f ∧ f < ns.length ∧ nd ns f = (v, l, u)
  ·obtain ⟨f, f2, fl, fn⟩ := hex
   refine (numberOf_there h hne ho f2 fl fn).mono ?_
   rintro e w' ⟨rfl, hA⟩
   exact ⟨f, ns, full, rfl, hA, Ext.refl _, by omega, fl, id, fun _ => isNode_there h.ar.wf f2 fl fn⟩
  ·have hn : ∀ f, 2 <= f -> f < ns.length -> nd ns f ≠ (v, l, u) := fun f f2 fl fn => hex ⟨f, f2, fl, fn⟩
   by_cases hm : ns.length = C.most
   ·refine (numberOf_full h hne ho hn hm).mono ?_
    rintro e w' ⟨rfl, hA⟩
    exact ⟨0, ns, true, rfl, hA, Ext.refl _, by omega, by omega, fun _ => rfl, fun e => by cases e⟩
   ·have hle := h.ar.le
    obtain rfl : full = false := by
     cases full
     ·rfl
     ·exact (hm (h.full_len rfl)).elim
    have hwf := wf_snoc h.ar.wf (n := (v, l, u)) hv hl hu hne (hord rfl).1 (hord rfl).2 hn
    refine (numberOf_new h hne ho hn (by omega) hwf).mono ?_
    rintro e w' ⟨rfl, hA⟩
    have X : Ext ns (ns ++ [(v, l, u)]) := ⟨_, rfl⟩
    refine ⟨ns.length, _, false, rfl, hA, X, by simp, by simp, (fun e => by cases e), fun _ => isNode_there hwf h2 (by simp) (by simp [nd])⟩
end
section
variable {C : Cfg} {w : World} {ns : List Nd} {full : Bool} {N : Nat} {m1 : Nd -> Option Nat} {m2 : Mx -> Option Nat} {m3 : Nat -> Option Nat}
theorem Loc.reads {i : Nat} {x y z : Value} {t : TypeId} (h : Loc C w i #[x, y, z] t) :
  (w.cell? ⟨i, 0, none⟩ = some x ∧ w.cell? ⟨i, 1, none⟩ = some y ∧ w.cell? ⟨i, 2, none⟩ = some z) ∧ w.frozen? ⟨i, 0, none⟩ = false ∧ w.frozen? ⟨i, 1, none⟩ = false ∧ w.frozen? ⟨i, 2, none⟩ = false := by
 have hb := h.blk
 refine ⟨⟨?_, ?_, ?_⟩, ?_, ?_, ?_⟩
 ·rw [cell_of_row w i 0 _ _ _ hb]; rfl
 ·rw [cell_of_row w i 1 _ _ _ hb]; rfl
 ·rw [cell_of_row w i 2 _ _ _ hb]; rfl
 ·simp [World.frozen?, hb]
 ·simp [World.frozen?, hb]
 ·simp [World.frozen?, hb]
theorem Loc.set {i j : Nat} {cs : Array Value} {t : TypeId} (h : Loc C w i cs t) (u : Value) : Loc C (w.setCell ⟨i, j, none⟩ u) i (cs.setIfInBounds j u) t :=
 ⟨h.out.set (p := ⟨i, j, none⟩) h.out.nea u, heap_setCell_same w i j cs t u h.blk⟩
theorem Loc.setOther {i k j : Nat} {cs : Array Value} {t : TypeId} (h : Loc C w i cs t) (hk : Out C w k) (hne : i ≠ k) (u : Value) : Loc C (w.setCell ⟨k, j, none⟩ u) i cs t :=
 ⟨h.out.set (p := ⟨k, j, none⟩) hk.nea u, (Below.heap_setCell w _ u i hne).trans h.blk⟩
theorem Loc.alloc {i : Nat} {cs : Array Value} {t : TypeId} (h : Loc C w i cs t) (hb : Bu C w ns full N m1 m2 m3) (o : Obj) : Loc C (w.alloc o) i cs t := h.kp (hb.kalloc o)
theorem At.loc {w0 : World} (h : At C w0 w ns full N m1 m2 m3) (cs : Array Value) (t : TypeId) : Loc C (w.alloc (.cells cs t)) w.heap.size cs t := h.bu.loc cs t
theorem At.store3 {w0 : World} {i : Nat} {a b c : Value} {t : TypeId} (h : At C w0 w ns full N m1 m2 m3) (L : Loc C w i #[a, b, c] t) (hi : w0.heap.size <= i) (x y z : Value) :
  At C w0 (((w.setCell ⟨i, 0, none⟩ x).setCell ⟨i, 1, none⟩ y).setCell ⟨i, 2, none⟩ z) ns full N m1 m2 m3 ∧ Loc C (((w.setCell ⟨i, 0, none⟩ x).setCell ⟨i, 1, none⟩ y).setCell ⟨i, 2, none⟩ z) i #[x, y, z] t := by
 have L1 := L.set (j := 0) x
 have L2 := L1.set (j := 1) y
 have L3 := L2.set (j := 2) z
 refine ⟨((h.set (p := ⟨i, 0, none⟩) L.out hi x).set (p := ⟨i, 1, none⟩) L1.out hi y).set (p := ⟨i, 2, none⟩) L2.out hi z, ?_⟩
 simpa using L3
theorem partOfChoice_any (h : Bu C w ns full N m1 m2 m3) {c : Nd} {v : Nat} (val : Bool) (h1 : c.1 < ns.length) (h2 : c.2.1 < ns.length) (h3 : c.2.2 < ns.length) (hv : v <= 16) :
  Calls Tryz.prog 175 #[.pointer (some ⟨C.b, 0, none⟩), agg3 c, .int .i64 (v : Int), .bool val] w fun e w' => e = .returned (agg3 (partOf ns c.1 v val, partOf ns c.2.1 v val, partOf ns c.2.2 v val)) ∧ At C w w' ns full N m1 m2 m3 := by
 obtain ⟨x, y, z⟩ := c
 simp only [] at h1 h2 h3
 have hA0 := (At.refl h).alloc (.cells #[.int .i64 (x : Int), .int .i64 (y : Int), .int .i64 (z : Int)] 235)
 have L0 := h.loc #[.int .i64 (x : Int), .int .i64 (y : Int), .int .i64 (z : Int)] 235
 have hA := (hA0.alloc (.cells #[.int .i64 0, .int .i64 0, .int .i64 0] 235)).drew
 have L1 := (L0.alloc hA0.bu (.cells #[.int .i64 0, .int .i64 0, .int .i64 0] 235)).drew
 have L2 := (hA0.loc #[.int .i64 0, .int .i64 0, .int .i64 0] 235).drew
 rw [show (w.alloc (.cells #[.int .i64 (x : Int), .int .i64 (y : Int), .int .i64 (z : Int)] 235)).heap.size = w.heap.size + 1 by simp] at L2
 clear L0 hA0 h
 obtain ⟨⟨q0, q1, q2⟩, _⟩ := L1.reads
 go_enter Tryz.func175, Tryz.ntmps175
 go_wp2_with fail
 go_region_held3 (fun w' => w'.cell? ⟨w.heap.size, 0, none⟩ = some (.int .i64 (x : Int)) ∧ w'.cell? ⟨w.heap.size, 1, none⟩ = some (.int .i64 (y : Int)) ∧ w'.cell? ⟨w.heap.size, 2, none⟩ = some (.int .i64 (z : Int))) (go_keep)
  (first | (go_at_call 183; refine (part_any (At.bu (w0 := w) (by assumption)) val (by assumption) hv).mono ?_; rintro e wn ⟨rfl, hn⟩; have hA' := At.then (w0 := w) (by assumption) hn; have L1' := Loc.kp (i := w.heap.size) (by assumption) hn.kp; have L2' := Loc.kp (i := w.heap.size + 1) (by assumption) hn.kp; obtain ⟨⟨q0', q1', q2'⟩, _⟩ := L1'.reads; obtain ⟨_, p0', p1', p2'⟩ := L2'.reads))
 obtain ⟨hF, LF⟩ := At.store3 hA' L2' (Nat.le_succ _) (.int .i64 (partOf ns x v val : Int)) (.int .i64 (partOf ns y v val : Int)) (.int .i64 (partOf ns z v val : Int))
 obtain ⟨⟨r0, r1, r2⟩, _⟩ := LF.reads
 go_wp2_with fail
 refine bodyPost_ret (v := agg3 (partOf ns x v val, partOf ns y v val, partOf ns z v val)) (by simp [results, Tryz.results175, go_sem, r0, r1, r2]) rfl ⟨rfl, hF⟩
theorem partOfMix_any (h : Bu C w ns full N m1 m2 m3) {c : Mx} {v : Nat} (val : Bool) (h1 : c.1 < ns.length) (h2 : c.2.1 < ns.length) (hv : v <= 16) :
  Calls Tryz.prog 191 #[.pointer (some ⟨C.b, 0, none⟩), aggx c, .int .i64 (v : Int), .bool val] w fun e w' => e = .returned (aggx (partOf ns c.1 v val, partOf ns c.2.1 v val, c.2.2)) ∧ At C w w' ns full N m1 m2 m3 := by
 obtain ⟨x, y, z⟩ := c
 simp only [] at h1 h2
 have hA0 := (At.refl h).alloc (.cells #[.int .i64 (x : Int), .int .i64 (y : Int), .bool z] 257)
 have L0 := h.loc #[.int .i64 (x : Int), .int .i64 (y : Int), .bool z] 257
 have hA := (hA0.alloc (.cells #[.int .i64 0, .int .i64 0, .bool false] 257)).drew
 have L1 := (L0.alloc hA0.bu (.cells #[.int .i64 0, .int .i64 0, .bool false] 257)).drew
 have L2 := (hA0.loc #[.int .i64 0, .int .i64 0, .bool false] 257).drew
 rw [show (w.alloc (.cells #[.int .i64 (x : Int), .int .i64 (y : Int), .bool z] 257)).heap.size = w.heap.size + 1 by simp] at L2
 clear L0 hA0 h
 obtain ⟨⟨q0, q1, q2⟩, _⟩ := L1.reads
 go_enter Tryz.func191, Tryz.ntmps191
 go_wp2_with fail
 go_region_held3 (fun w' => w'.cell? ⟨w.heap.size, 0, none⟩ = some (.int .i64 (x : Int)) ∧ w'.cell? ⟨w.heap.size, 1, none⟩ = some (.int .i64 (y : Int)) ∧ w'.cell? ⟨w.heap.size, 2, none⟩ = some (.bool z)) (go_keep)
  (first | (go_at_call 183; refine (part_any (At.bu (w0 := w) (by assumption)) val (by assumption) hv).mono ?_; rintro e wn ⟨rfl, hn⟩; have hA' := At.then (w0 := w) (by assumption) hn; have L1' := Loc.kp (i := w.heap.size) (by assumption) hn.kp; have L2' := Loc.kp (i := w.heap.size + 1) (by assumption) hn.kp; obtain ⟨⟨q0', q1', q2'⟩, _⟩ := L1'.reads; obtain ⟨_, p0', p1', p2'⟩ := L2'.reads))
 obtain ⟨hF, LF⟩ := At.store3 hA' L2' (Nat.le_succ _) (.int .i64 (partOf ns x v val : Int)) (.int .i64 (partOf ns y v val : Int)) (.bool z)
 obtain ⟨⟨r0, r1, r2⟩, _⟩ := LF.reads
 go_wp2_with fail
 refine bodyPost_ret (v := aggx (partOf ns x v val, partOf ns y v val, z)) (by simp [results, Tryz.results191, go_sem, r0, r1, r2]) rfl ⟨rfl, hF⟩
end
end Go.Proofs.YtlmmeppifkigeaaGreat
namespace Go.Proofs.YtlmmeppifkigeaaGreat
variable {vars : Nat} {ns ns' : List Nd}
theorem partOf_lt (h : Wf vars ns) {f v : Nat} (hf : f < ns.length) (hv : v < vars) (val : Bool) : partOf ns f v val < ns.length := by
 unfold partOf
 by_cases e : nv ns f = v
 ·have f2 := va_lt h hf (by omega)
  have l1 := h.lo f f2 hf
  have l2 := h.hi f f2 hf
  rw [if_pos e]
  cases val
  ·simp only [Bool.false_eq_true, if_false]; exact Nat.lt_trans l1 hf
  ·simp only [if_true]; exact Nat.lt_trans l2 hf
 ·rw [if_neg e]; exact hf
theorem partOf_va (h : Wf vars ns) {f v : Nat} (hf : f < ns.length) (hv : v < vars) (hle : v <= nv ns f) (val : Bool) : v < nv ns (partOf ns f v val) := by
 unfold partOf
 by_cases e : nv ns f = v
 ·have f2 := va_lt h hf (by omega)
  have l1 := h.vlo f f2 hf
  have l2 := h.vhi f f2 hf
  rw [if_pos e]
  cases val
  ·simp only [Bool.false_eq_true, if_false]; exact e ▸ l1
  ·simp only [if_true]; exact e ▸ l2
 ·rw [if_neg e]; exact Nat.lt_of_le_of_ne hle (fun x => e x.symm)
theorem partOf_ev (h : Wf vars ns) {f v : Nat} (hf : f < ns.length) (hv : v < vars) (hle : v <= nv ns f) (val : Bool) (e : Env) : ev ns (partOf ns f v val) e = ev ns f (setE e v val) := by
 unfold partOf
 by_cases he : nv ns f = v
 ·have f2 := va_lt h hf (by omega)
  rw [if_pos he, <- he, ev_set h f2 hf]
  cases val <;> simp
 ·rw [if_neg he, ev_skip h hf (Nat.lt_of_le_of_ne hle (fun x => he x.symm))]
theorem partOf_ext (X : Ext ns ns') {f : Nat} (hf : f < ns.length) (v : Nat) (val : Bool) : partOf ns' f v val = partOf ns f v val := by
 unfold partOf
 rw [nv, nh, nl, X.nd hf]
theorem setE_at {e : Env} {v : Nat} {b : Bool} (h : e v = b) : setE e v b = e := by rw [<- h]; exact setE_self e v
def pc (ns : List Nd) (c : Nd) (v : Nat) (val : Bool) : Nd := (partOf ns c.1 v val, partOf ns c.2.1 v val, partOf ns c.2.2 v val)
def Inside (ns : List Nd) (c : Nd) : Prop := c.1 < ns.length ∧ c.2.1 < ns.length ∧ c.2.2 < ns.length
def min3 (ns : List Nd) (c : Nd) : Nat := min (min (nv ns c.1) (nv ns c.2.1)) (nv ns c.2.2)
theorem Inside.ext {c : Nd} (h : Inside ns c) (X : Ext ns ns') : Inside ns' c := by
 have := X.len
 obtain ⟨h1, h2, h3⟩ := h
 exact ⟨by omega, by omega, by omega⟩
theorem min3_ext {c : Nd} (h : Inside ns c) (X : Ext ns ns') : min3 ns' c = min3 ns c := by
 obtain ⟨h1, h2, h3⟩ := h
 unfold min3
 rw [X.va h1, X.va h2, X.va h3]
theorem pc_ext {c : Nd} (h : Inside ns c) (X : Ext ns ns') (v : Nat) (val : Bool) : pc ns' c v val = pc ns c v val := by
 obtain ⟨h1, h2, h3⟩ := h
 unfold pc
 rw [partOf_ext X h1, partOf_ext X h2, partOf_ext X h3]
theorem pc_inside (h : Wf vars ns) {c : Nd} (hc : Inside ns c) {v : Nat} (hv : v < vars) (val : Bool) : Inside ns (pc ns c v val) := ⟨partOf_lt h hc.1 hv val, partOf_lt h hc.2.1 hv val, partOf_lt h hc.2.2 hv val⟩
theorem pc_min3 (h : Wf vars ns) {c : Nd} (hc : Inside ns c) (hv : min3 ns c < vars) (val : Bool) : min3 ns c < min3 ns (pc ns c (min3 ns c) val) := by
 have a1 := partOf_va h hc.1 hv (by unfold min3; omega) val
 have a2 := partOf_va h hc.2.1 hv (by unfold min3; omega) val
 have a3 := partOf_va h hc.2.2 hv (by unfold min3; omega) val
 show _ < min (min (nv ns (partOf ns c.1 _ val)) (nv ns (partOf ns c.2.1 _ val))) (nv ns (partOf ns c.2.2 _ val))
 omega
structure IsIte (ns : List Nd) (c : Nd) (f : Nat) : Prop where
 inside : Inside ns c
 lt : f < ns.length
 ev : ∀ e, ev ns f e = if ev ns c.1 e then ev ns c.2.1 e else ev ns c.2.2 e
 va : min3 ns c <= nv ns f
theorem IsIte.ext {c : Nd} {f : Nat} (h : IsIte ns c f) (X : Ext ns ns') (wf : Wf vars ns) (wf' : Wf vars ns') : IsIte ns' c f := by
 have hl := X.len
 have lt := h.lt
 refine ⟨h.inside.ext X, by omega, fun e => ?_, ?_⟩
 ·rw [X.ev wf wf' _ h.lt, X.ev wf wf' _ h.inside.1, X.ev wf wf' _ h.inside.2.1, X.ev wf wf' _ h.inside.2.2]; exact h.ev e
 ·rw [min3_ext h.inside X, X.va h.lt]; exact h.va
theorem isIte_same {c : Nd} (hc : Inside ns c) (he : c.2.1 = c.2.2) : IsIte ns c c.2.1 := ⟨hc, hc.2.1, fun e => by rw [<- he]; simp, by unfold min3; omega⟩
theorem isIte_1 {c : Nd} (hc : Inside ns c) (he : c.1 = 1) : IsIte ns c c.2.1 := ⟨hc, hc.2.1, fun e => by rw [he, ev1]; simp, by unfold min3; omega⟩
theorem isIte_0 {c : Nd} (hc : Inside ns c) (he : c.1 = 0) : IsIte ns c c.2.2 := ⟨hc, hc.2.2, fun e => by rw [he, ev0]; simp, by unfold min3; omega⟩
theorem isIte_join (wf : Wf vars ns) {c : Nd} (hc : Inside ns c) (hv : min3 ns c < vars) {l u f : Nat} (h0 : IsIte ns (pc ns c (min3 ns c) false) l) (h1 : IsIte ns (pc ns c (min3 ns c) true) u) (hn : IsNode ns (min3 ns c) l u f) : IsIte ns c f := by
 refine ⟨hc, hn.lt, fun e => ?_, hn.va⟩
 have k1 : min3 ns c <= nv ns c.1 := by unfold min3; omega
 have k2 : min3 ns c <= nv ns c.2.1 := by unfold min3; omega
 have k3 : min3 ns c <= nv ns c.2.2 := by unfold min3; omega
 have e0 := h0.ev e
 have e1 := h1.ev e
 simp only [pc, partOf_ev wf hc.1 hv k1, partOf_ev wf hc.2.1 hv k2, partOf_ev wf hc.2.2 hv k3] at e0 e1
 rw [hn.ev, e0, e1]
 cases hb : e (min3 ns c)
 ·rw [setE_at hb]; simp
 ·rw [setE_at hb]; simp
def MemoC (ns : List Nd) (m : Nd -> Option Nat) : Prop := ∀ c f, m c = some f -> IsIte ns c f
theorem MemoC.ext {m : Nd -> Option Nat} (h : MemoC ns m) (X : Ext ns ns') (wf : Wf vars ns) (wf' : Wf vars ns') : MemoC ns' m := fun c f e => (h c f e).ext X wf wf'
theorem MemoC.upd {m : Nd -> Option Nat} (h : MemoC ns m) {c : Nd} {f : Nat} (hf : IsIte ns c f) : MemoC ns (upd m c f) := by
 intro d g hg
 unfold YtlmmeppifkigeaaGreat.upd at hg
 by_cases e : d = c
 ·subst e
  rw [if_pos rfl] at hg
  cases hg
  exact hf
 ·rw [if_neg e] at hg
  exact h d g hg
end Go.Proofs.YtlmmeppifkigeaaGreat
namespace Go.Proofs.YtlmmeppifkigeaaGreat
open Go.RowKit Go.Maps
section
variable {C : Cfg} {w : World} {ns : List Nd} {full : Bool} {N : Nat} {m1 : Nd -> Option Nat} {m2 : Mx -> Option Nat} {m3 : Nat -> Option Nat}
theorem choose_full (h : Bu C w ns true N m1 m2 m3) (c : Nd) :
  Calls Tryz.prog 160 #[.pointer (some ⟨C.b, 0, none⟩), agg3 c] w fun e w' => e = .returned (.int .i64 0) ∧ At C w w' ns true N m1 m2 m3 := by
 have hA := (At.refl h).alloc (.cells #[.int .i64 (c.1 : Int), .int .i64 (c.2.1 : Int), .int .i64 (c.2.2 : Int)] 235)
 obtain ⟨b0, b1, b2, b3, b4, bf⟩ := h.reads
 have lb := h.ltb
 clear h
 go_enter Tryz.func160, Tryz.ntmps160
 go_wp2_with fail
 go_ret
 exact ⟨rfl, hA⟩
theorem choose_1 (h : Bu C w ns false N m1 m2 m3) (y z : Nat) :
  Calls Tryz.prog 160 #[.pointer (some ⟨C.b, 0, none⟩), agg3 (1, y, z)] w fun e w' => e = .returned (.int .i64 (y : Int)) ∧ At C w w' ns false N m1 m2 m3 := by
 have hA := (At.refl h).alloc (.cells #[.int .i64 1, .int .i64 (y : Int), .int .i64 (z : Int)] 235)
 obtain ⟨b0, b1, b2, b3, b4, bf⟩ := h.reads
 have lb := h.ltb
 clear h
 go_enter Tryz.func160, Tryz.ntmps160
 go_wp2_with fail
 go_ret
 exact ⟨rfl, hA⟩
theorem choose_same (h : Bu C w ns false N m1 m2 m3) (x y : Nat) (hx : x ≠ 1) :
  Calls Tryz.prog 160 #[.pointer (some ⟨C.b, 0, none⟩), agg3 (x, y, y)] w fun e w' => e = .returned (.int .i64 (y : Int)) ∧ At C w w' ns false N m1 m2 m3 := by
 have hA := (At.refl h).alloc (.cells #[.int .i64 (x : Int), .int .i64 (y : Int), .int .i64 (y : Int)] 235)
 obtain ⟨b0, b1, b2, b3, b4, bf⟩ := h.reads
 have lb := h.ltb
 have x1 : ((x : Int) == 1) = false := by simp; omega
 clear h
 go_enter Tryz.func160, Tryz.ntmps160
 go_wp2_with fail
 go_ret
 exact ⟨rfl, hA⟩
theorem choose_0 (h : Bu C w ns false N m1 m2 m3) (y z : Nat) (hyz : y ≠ z) :
  Calls Tryz.prog 160 #[.pointer (some ⟨C.b, 0, none⟩), agg3 (0, y, z)] w fun e w' => e = .returned (.int .i64 (z : Int)) ∧ At C w w' ns false N m1 m2 m3 := by
 have hA := (At.refl h).alloc (.cells #[.int .i64 0, .int .i64 (y : Int), .int .i64 (z : Int)] 235)
 obtain ⟨b0, b1, b2, b3, b4, bf⟩ := h.reads
 have lb := h.ltb
 have hyz' : ((y : Int) == (z : Int)) = false := by simp; omega
 clear h
 go_enter Tryz.func160, Tryz.ntmps160
 go_wp2_with fail
 go_ret
 exact ⟨rfl, hA⟩
theorem choose_hit (h : Bu C w ns false N m1 m2 m3) {c1 : Nat} (hc1 : C.c1 = some c1) {x y z f : Nat} (ho : ok3 (x, y, z)) (hx : 2 <= x) (hyz : y ≠ z) (hf : m1 (x, y, z) = some f) :
  Calls Tryz.prog 160 #[.pointer (some ⟨C.b, 0, none⟩), agg3 (x, y, z)] w fun e w' => e = .returned (.int .i64 (f : Int)) ∧ At C w w' ns false N m1 m2 m3 := by
 have hA := ((At.refl h).alloc (.cells #[.int .i64 (x : Int), .int .i64 (y : Int), .int .i64 (z : Int)] 235)).drew
 obtain ⟨b0, b1, b2, b3, b4, bf⟩ := h.reads
 have lb := h.ltb
 have hlook := (hA.bu.o1 c1 hc1).look Tryz.u45 (x := (x, y, z)) ho
 rw [hf] at hlook
 simp only [choiceE, Option.getD_some, Option.isSome_some] at hlook
 rw [hc1] at b2
 have x1 : ((x : Int) == 1) = false := by simp; omega
 have x0 : ((x : Int) == 0) = false := by simp; omega
 have hyz' : ((y : Int) == (z : Int)) = false := by simp; omega
 clear h
 go_enter Tryz.func160, Tryz.ntmps160
 go_wp2_with fail
 go_region
 all_goals
  go_wp2_with fail
  go_ret
  exact ⟨rfl, hA⟩
end
end Go.Proofs.YtlmmeppifkigeaaGreat
namespace Go.Proofs.YtlmmeppifkigeaaGreat
def DepS (S : Nat -> Bool) (φ : Env -> Bool) : Prop := ∀ e e' : Env, (∀ i, S i = true -> e i = e' i) -> φ e = φ e'
def cnR (S : Nat -> Bool) : Nat -> Nat -> Nat
 | 0, _ => 0
 | d + 1, v => (if S v then 1 else 0) + cnR S d (v + 1)
def cnS (S : Nat -> Bool) (vars v : Nat) : Nat := cnR S (vars - v) v
section
variable {S T : Nat -> Bool} {vars : Nat} {ns ns' : List Nd}
theorem cnS_in {v : Nat} (hv : v < vars) (h : S v = true) : cnS S vars v = cnS S vars (v + 1) + 1 := by
 unfold cnS
 obtain ⟨d, hd⟩ : ∃ d, vars - v = d + 1 := ⟨vars - v - 1, by omega⟩
 rw [hd, cnR, if_pos h, show vars - (v + 1) = d by omega]
 omega
theorem cnS_step (v : Nat) : cnS S vars (v + 1) <= cnS S vars v := by
 unfold cnS
 by_cases h : v < vars
 ·obtain ⟨d, hd⟩ : ∃ d, vars - v = d + 1 := ⟨vars - v - 1, by omega⟩
  rw [hd, cnR, show vars - (v + 1) = d by omega]
  omega
 ·rw [show vars - (v + 1) = 0 by omega, cnR]
  omega
theorem cnS_anti {v v' : Nat} (h : v <= v') : cnS S vars v' <= cnS S vars v := by
 obtain ⟨d, rfl⟩ : ∃ d, v' = v + d := ⟨v' - v, by omega⟩
 clear h
 induction d with
 | zero => exact Nat.le_refl _
 | succ d ih => exact Nat.le_trans (cnS_step (v + d)) ih
theorem cnR_all (d v : Nat) : cnR (fun _ => true) d v = d := by
 induction d generalizing v with
 | zero => rfl
 | succ d ih => rw [cnR, ih]; simp; omega
theorem cnS_all (v : Nat) : cnS (fun _ => true) vars v = vars - v := cnR_all _ _
theorem cnR_up (d d' v : Nat) (h : d <= d') : cnR S d v <= cnR S d' v := by
 induction d generalizing d' v with
 | zero => rw [cnR]; omega
 | succ d ih =>
   obtain ⟨m, rfl⟩ : ∃ m, d' = m + 1 := ⟨d' - 1, by omega⟩
   rw [cnR, cnR]
   have := ih m (v + 1) (by omega)
   omega
theorem cnS_up {v vars' : Nat} (h : vars <= vars') : cnS S vars v <= cnS S vars' v := cnR_up _ _ _ (by omega)
theorem DepS.all (φ : Env -> Bool) : DepS (fun _ => true) φ := fun e e' h => by
 have : e = e' := funext fun i => h i rfl
 rw [this]
theorem DepS.mono {φ : Env -> Bool} (h : DepS S φ) (hs : ∀ i, S i = true -> T i = true) : DepS T φ := fun e e' he => h e e' fun i hi => he i (hs i hi)
theorem DepS.set {φ : Env -> Bool} (h : DepS S φ) (v : Nat) (b : Bool) : DepS S (fun e => φ (setE e v b)) := fun e e' he => h _ _ fun i hi => by
 unfold setE
 by_cases hv : i = v
 ·rw [if_pos hv, if_pos hv]
 ·rw [if_neg hv, if_neg hv]
  exact he i hi
theorem DepS.ext (wf : Wf vars ns) (wf' : Wf vars ns') (X : Ext ns ns') {f : Nat} (hf : f < ns.length) (h : DepS S (ev ns f)) : DepS S (ev ns' f) := fun e e' he => by
 rw [X.ev wf wf' f hf, X.ev wf wf' f hf]
 exact h e e' he
theorem DepS.part (wf : Wf vars ns) {f v : Nat} (hf : f < ns.length) (hv : v < vars) (hle : v <= nv ns f) (val : Bool) (h : DepS S (ev ns f)) : DepS S (ev ns (partOf ns f v val)) := fun e e' he => by
 rw [partOf_ev wf hf hv hle, partOf_ev wf hf hv hle]
 exact h.set v val e e' he
theorem DepS.var (wf : Wf vars ns) {f : Nat} (f2 : 2 <= f) (hf : f < ns.length) (h : DepS S (ev ns f)) : S (nv ns f) = true := by
 cases hs : S (nv ns f) with
 | true => rfl
 | false =>
   refine absurd (canon wf (Nat.lt_trans (wf.lo f f2 hf) hf) (Nat.lt_trans (wf.hi f f2 hf) hf) fun e => ?_) (wf.ne f f2 hf)
   have h0 := ev_set wf f2 hf e false
   have h1 := ev_set wf f2 hf e true
   simp only [Bool.false_eq_true, if_false, if_true] at h0 h1
   rw [<- h0, <- h1]
   refine h _ _ fun i hi => ?_
   have : i ≠ nv ns f := fun e => by rw [e, hs] at hi; cases hi
   rw [setE_ne _ _ this, setE_ne _ _ this]
structure Fit (S : Nat -> Bool) (vars : Nat) (ns : List Nd) (c : Nd) (k : Nat) : Prop where
 d1 : DepS S (ev ns c.1)
 d2 : DepS S (ev ns c.2.1)
 d3 : DepS S (ev ns c.2.2)
 le : cnS S vars (min3 ns c) <= k
theorem fit_all {c : Nd} {k : Nat} (h : vars <= min3 ns c + k) : Fit (fun _ => true) vars ns c k := ⟨DepS.all _, DepS.all _, DepS.all _, by rw [cnS_all]; omega⟩
theorem min3_in (wf : Wf vars ns) {c : Nd} (hc : Inside ns c) (hv : min3 ns c < vars) {k : Nat} (h : Fit S vars ns c k) : S (min3 ns c) = true := by
 obtain ⟨x, y, z⟩ := c
 have hm : min3 ns (x, y, z) = nv ns x ∨ min3 ns (x, y, z) = nv ns y ∨ min3 ns (x, y, z) = nv ns z := by simp only [min3]; omega
 rcases hm with e | e | e
 ·rw [e] at hv ⊢; exact h.d1.var wf (va_lt wf hc.1 hv) hc.1
 ·rw [e] at hv ⊢; exact h.d2.var wf (va_lt wf hc.2.1 hv) hc.2.1
 ·rw [e] at hv ⊢; exact h.d3.var wf (va_lt wf hc.2.2 hv) hc.2.2
theorem Fit.down (wf : Wf vars ns) {c : Nd} (hc : Inside ns c) (hv : min3 ns c < vars) {k : Nat} (h : Fit S vars ns c (k + 1)) (val : Bool) : Fit S vars ns (pc ns c (min3 ns c) val) k := by
 have k1 : min3 ns c <= nv ns c.1 := by unfold min3; omega
 have k2 : min3 ns c <= nv ns c.2.1 := by unfold min3; omega
 have k3 : min3 ns c <= nv ns c.2.2 := by unfold min3; omega
 refine ⟨h.d1.part wf hc.1 hv k1 val, h.d2.part wf hc.2.1 hv k2 val, h.d3.part wf hc.2.2 hv k3 val, ?_⟩
 have hm := pc_min3 wf hc hv val
 have h1 := cnS_in hv (min3_in wf hc hv h)
 have h2 := cnS_anti (S := S) (vars := vars) (show min3 ns c + 1 <= min3 ns (pc ns c (min3 ns c) val) from hm)
 have h3 := h.le
 omega
theorem Fit.zero (wf : Wf vars ns) {c : Nd} (hc : Inside ns c) (h : Fit S vars ns c 0) : vars <= min3 ns c := by
 by_cases hv : min3 ns c < vars
 ·have h1 := cnS_in hv (min3_in wf hc hv h)
  have h3 := h.le
  omega
 ·omega
theorem Fit.ext (wf : Wf vars ns) (wf' : Wf vars ns') {c : Nd} (hc : Inside ns c) (X : Ext ns ns') {k : Nat} (h : Fit S vars ns c k) : Fit S vars ns' c k :=
 ⟨h.d1.ext wf wf' X hc.1, h.d2.ext wf wf' X hc.2.1, h.d3.ext wf wf' X hc.2.2, by rw [min3_ext hc X]; exact h.le⟩
structure Fit1 (S : Nat -> Bool) (vars : Nat) (ns : List Nd) (f k : Nat) : Prop where
 d : DepS S (ev ns f)
 le : cnS S vars (nv ns f) <= k
theorem fit1_all {f k : Nat} (h : vars <= nv ns f + k) : Fit1 (fun _ => true) vars ns f k := ⟨DepS.all _, by rw [cnS_all]; omega⟩
theorem Fit1.zero (wf : Wf vars ns) {f : Nat} (hf : f < ns.length) (h : Fit1 S vars ns f 0) : f < 2 := by
 by_cases f2 : 2 <= f
 ·have h1 := cnS_in (wf.va f f2 hf) (h.d.var wf f2 hf)
  have := h.le
  omega
 ·omega
theorem ev_lo (wf : Wf vars ns) {f : Nat} (f2 : 2 <= f) (hf : f < ns.length) (e : Env) : ev ns (nl ns f) e = ev ns f (setE e (nv ns f) false) := by
 have := ev_set wf f2 hf e false
 simp only [Bool.false_eq_true, if_false] at this
 exact this.symm
theorem ev_hi (wf : Wf vars ns) {f : Nat} (f2 : 2 <= f) (hf : f < ns.length) (e : Env) : ev ns (nh ns f) e = ev ns f (setE e (nv ns f) true) := by
 have := ev_set wf f2 hf e true
 simp only [if_true] at this
 exact this.symm
theorem Fit1.lo (wf : Wf vars ns) {f k : Nat} (f2 : 2 <= f) (hf : f < ns.length) (h : Fit1 S vars ns f (k + 1)) : Fit1 S vars ns (nl ns f) k := by
 refine ⟨fun e e' he => by rw [ev_lo wf f2 hf, ev_lo wf f2 hf]; exact h.d.set _ _ e e' he, ?_⟩
 have h1 := cnS_in (wf.va f f2 hf) (h.d.var wf f2 hf)
 have h2 := cnS_anti (S := S) (vars := vars) (show nv ns f + 1 <= nv ns (nl ns f) from wf.vlo f f2 hf)
 have := h.le
 omega
theorem Fit1.hi (wf : Wf vars ns) {f k : Nat} (f2 : 2 <= f) (hf : f < ns.length) (h : Fit1 S vars ns f (k + 1)) : Fit1 S vars ns (nh ns f) k := by
 refine ⟨fun e e' he => by rw [ev_hi wf f2 hf, ev_hi wf f2 hf]; exact h.d.set _ _ e e' he, ?_⟩
 have h1 := cnS_in (wf.va f f2 hf) (h.d.var wf f2 hf)
 have h2 := cnS_anti (S := S) (vars := vars) (show nv ns f + 1 <= nv ns (nh ns f) from wf.vhi f f2 hf)
 have := h.le
 omega
end
end Go.Proofs.YtlmmeppifkigeaaGreat
