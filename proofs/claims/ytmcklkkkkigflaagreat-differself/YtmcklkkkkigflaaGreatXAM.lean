/-
  XAM.
-/
import Derived.Test.YtmcklkkkkigflaaGreatXAL
import Derived.Test.YtmcklkkkkigflaaGreatLy
import Derived.Great.BuildSlice
import Derived.Deep.CutRange
import Derived.Test.YtmcklkkkkigflaaGreatXAD
import Derived.Test.YtmcklkkkkigflaaGreatXAB
import Derived.Test.YtmcklkkkkigflaaGreatXAE
import Derived.Test.YtmcklkkkkigflaaGreatXAJ
import Derived.Laws.CopyRow
import Derived.Maps.OwnSet
set_option maxHeartbeats 8000000
set_option maxRecDepth 100000
namespace Go.Proofs.YtmcklkkkkigflaaGreat
open Go.RowKit Go.Maps
theorem Ar.setPost {base a M vars most : Nat} {w : World} {ns : List Nd} (h : Ar base a M vars most w ns) {j : Nat} (hj : 4 <= j) (u : Value) : Ar base a M vars most (w.setCell ⟨a, j, none⟩ u) ns := by
 have hF : ∀ i, i ≠ a -> (w.setCell ⟨a, j, none⟩ u).heap[i]? = w.heap[i]? := fun i hi => Below.heap_setCell w ⟨a, j, none⟩ u i hi
 obtain ⟨g, cap, cs, t, hb, hc, hrow⟩ := h.blk
 have hM : M ≠ a := fun e => by
  obtain ⟨num, ⟨D, ⟨es, clock, h1, _⟩, _⟩, _⟩ := h.map
  rw [e, hb] at h1
  cases h1
 have hb2 : (w.setCell ⟨a, j, none⟩ u).heap[a]? = some (.cells (cs.setIfInBounds j u) t (0, 0)) := Bz.set (W := w) (k := a) (j := j) (c := cs) (t := t) hb u
 refine ⟨h.wf, h.le, h.vars1, h.vars16, h.most4, h.lowA, h.lowM, ⟨g, cap, _, t, hb2, ⟨?_, ?_, ?_, ?_, hc.ty⟩, ?_⟩, ?_⟩
 ·rw [Array.getElem?_setIfInBounds_ne (by omega)]; exact hc.c0
 ·rw [Array.getElem?_setIfInBounds_ne (by omega)]; exact hc.c1
 ·rw [Array.getElem?_setIfInBounds_ne (by omega)]; exact hc.c2
 ·rw [Array.getElem?_setIfInBounds_ne (by omega)]; exact hc.c3
 ·refine ⟨hrow.1, ?_⟩
  rcases hrow.2 with ⟨hv, _⟩ | ⟨g', cap', cur, hv, hbase, hg, rest⟩
  ·cases hv
  ·simp only [Value.slice.injEq, Option.some.injEq, Addr.mk.injEq, and_true, true_and] at hv
   obtain ⟨rfl, rfl⟩ := hv
   have hga : g ≠ a := fun e => by
    rw [e, hb] at hg
    simp only [Option.some.injEq, Obj.cells.injEq] at hg
    have ht := hg.2.1
    rcases hc.ty with e2 | e2 <;> (rw [e2] at ht; revert ht; decide)
   exact .inr ⟨g, cap, cur, rfl, hbase, (hF g hga).trans hg, rest⟩
 ·obtain ⟨num, hm, hn⟩ := h.map
  exact ⟨num, hm.same (hF M hM), hn⟩
structure Nw (bR R MR most : Nat) (w : World) (u0 u1 : Value) (NB WB NN : Nat) (cw cn : Array Value) (sl : Value) (k : Nat) (xs : List Value) (ns : List Nd) (W : World) : Prop where
 ar : Ar bR R MR 14 most W ns
 low : w.heap.size <= bR
 be : Below w.heap.size w W
 c4 : W.cell? ⟨R, 4, none⟩ = some sl
 row : W.ownsRow bR 82 40 sl k xs
 bN : Bz W NB #[u0, u1] 25
 bw : Bz W WB cw 82
 bn : Bz W NN cn 82
 lw : bR <= WB
 ln : bR <= NN
 d1 : WB ≠ NN
 d2 : sl.ownBlock ≠ some WB
 d3 : sl.ownBlock ≠ some NN
section
variable {bR R MR most : Nat} {w W W' : World} {u0 u1 sl : Value} {NB WB NN k : Nat} {cw cn : Array Value} {xs : List Value} {ns ns' : List Nd}
theorem Nw.size (h : Nw bR R MR most w u0 u1 NB WB NN cw cn sl k xs ns W) : bR <= W.heap.size := Nat.le_trans h.ar.lowA (Nat.le_of_lt h.ar.lta)
theorem Nw.below (h : Nw bR R MR most w u0 u1 NB WB NN cw cn sl k xs ns W) (hb : Below W.heap.size W W') : Nw bR R MR most w u0 u1 NB WB NN cw cn sl k xs ns W' :=
 ⟨h.ar.below hb, h.low, h.be.trans (hb.mono h.be.size), (cellB (hb.block _ h.ar.lta)).trans h.c4, own_kept h.row (KeptB.of_below hb) (fun g _ => by simp), (hb.block _ h.bN.lt).trans h.bN, (hb.block _ h.bw.lt).trans h.bw, (hb.block _ h.bn.lt).trans h.bn, h.lw, h.ln, h.d1, h.d2, h.d3⟩
theorem Nw.tf (h : Nw bR R MR most w u0 u1 NB WB NN cw cn sl k xs ns W) (K : Kp (ca bR R MR 14 most) W W') {i : Nat} {c : Array Value} {t : TypeId} (hb : Bz W i c t) (ht : okT t) : Bz W' i c t := ((h.ar.outBox hb ht.1 ht.2.1).kp K).blk
theorem Nw.step (h : Nw bR R MR most w u0 u1 NB WB NN cw cn sl k xs ns W) (A' : Ar bR R MR 14 most W' ns') (K : Kp (ca bR R MR 14 most) W W') : Nw bR R MR most w u0 u1 NB WB NN cw cn sl k xs ns' W' := by
 refine ⟨A', h.low, h.be.trans ((h.ar.kp_below K).mono h.low), (K.post 4 (by omega)).trans h.c4, ?_, h.tf K h.bN (by decide), h.tf K h.bw (by decide), h.tf K h.bn (by decide), h.lw, h.ln, h.d1, h.d2, h.d3⟩
 refine ⟨h.row.1, ?_⟩
 rcases h.row.2 with e | ⟨g, cap, cur, h1, h2, h3, h4⟩
 ·exact Or.inl e
 ·exact Or.inr ⟨g, cap, cur, h1, h2, h.tf K (t := 82) h3 (by decide), h4⟩
theorem Nw.app {v' : Value} {W1 : World} (h : Nw bR R MR most w u0 u1 NB WB NN cw cn sl k xs ns W) (hr : W1.ownsRow bR 82 40 v' (k + 1) (xs ++ cn.toList)) (hb : Below bR W W1) (hk : KeptB W W1 sl.ownBlock) (hv : v'.ownBlock = sl.ownBlock ∨ ∃ g, v'.ownBlock = some g ∧ W.heap.size <= g) :
  Nw bR R MR most w u0 u1 NB WB NN cw cn v' (k + 1) (xs ++ cn.toList) ns (W1.setCell ⟨R, 4, none⟩ v') := by
 have nt : ∀ {i : Nat} {c : Array Value} {t : TypeId}, W.heap[i]? = some (.cells c t (0, 0)) -> t ≠ 82 -> some i ≠ sl.ownBlock := fun {i c t} hi ht e => by
  obtain ⟨_, _, cur, hc⟩ := own_block h.row e.symm
  rw [hi] at hc
  simp only [Option.some.injEq, Obj.cells.injEq] at hc
  exact ht hc.2.1
 obtain ⟨g0, cap0, cs0, t0, hR, hC, hrow0⟩ := h.ar.blk
 have nR : some R ≠ sl.ownBlock := nt hR (by rcases hC.ty with e | e <;> (rw [e]; decide))
 have nM : some MR ≠ sl.ownBlock := fun e => by
  obtain ⟨_, _, cur, hc⟩ := own_block h.row e.symm
  obtain ⟨num, ⟨D, ⟨es, clock, h1, _⟩, _⟩, _⟩ := h.ar.map
  rw [h1] at hc
  cases hc
 obtain ⟨cur, hcur, _, rl⟩ := h.ar.row
 have nr : some (rowOf W R) ≠ sl.ownBlock := nt hcur (by decide)
 have A1 : Ar bR R MR 14 most W1 ns := h.ar.same (hk.block _ h.ar.lta nR) (hk.block _ h.ar.ltM nM) (hk.block _ rl nr)
 have hF : ∀ i, i ≠ R -> (W1.setCell ⟨R, 4, none⟩ v').heap[i]? = W1.heap[i]? := fun i hi => Below.heap_setCell W1 ⟨R, 4, none⟩ v' i hi
 have bx : ∀ {i : Nat} {c : Array Value} {t : TypeId}, Bz W i c t -> some i ≠ sl.ownBlock -> t ≠ 78 ∧ t ≠ 75 -> Bz (W1.setCell ⟨R, 4, none⟩ v') i c t := fun {i c t} hi hn ht => by
  have hne : i ≠ R := fun e => by
   unfold Bz at hi
   rw [e, hR] at hi
   simp only [Option.some.injEq, Obj.cells.injEq] at hi
   rcases hC.ty with e2 | e2
   ·exact ht.2 (by rw [<- hi.2.1, e2])
   ·exact ht.1 (by rw [<- hi.2.1, e2])
  exact (hF i hne).trans ((hk.block i hi.lt hn).trans hi)
 have hvn : ∀ x, x < W.heap.size -> some x ≠ sl.ownBlock -> v'.ownBlock ≠ some x := fun x hx hn => by
  rcases hv with e | ⟨g, e, hg⟩
  ·rw [e]; exact fun e => hn e.symm
  ·rw [e]; intro e2; have := Option.some.inj e2; omega
 have be1 : Below w.heap.size w (W1.setCell ⟨R, 4, none⟩ v') := by
  have b1 := h.be.trans (hb.mono h.low)
  have lR := h.ar.lowA
  have lo := h.low
  exact ⟨b1.os, b1.tape, b1.output, by simp [World.setCell]; exact b1.size, fun i hi => (hF i (by omega)).trans (b1.block i hi)⟩
 refine ⟨A1.setPost (by omega) v', h.low, be1, ?_, ?_, bx h.bN (nt h.bN (by decide)) (by decide), bx h.bw (fun e => h.d2 e.symm) (by decide), bx h.bn (fun e => h.d3 e.symm) (by decide), h.lw, h.ln, h.d1, hvn _ h.bw.lt (fun e => h.d2 e.symm), hvn _ h.bn.lt (fun e => h.d3 e.symm)⟩
 ·have hc5 : 4 < cs0.size := by
   have := h.c4
   rw [cell_of_row W R 4 _ _ _ hR] at this
   exact (Array.getElem?_eq_some_iff.1 this).1
  have h1 : Bz W1 R cs0 t0 := (hk.block _ h.ar.lta nR).trans hR
  have h2 := h1.set (j := 4) v'
  exact h2.cell 4 _ (by simp [hc5])
 ·exact own_kept hr (kept_set W1 R 4 v') (fun g hg e => by
   obtain ⟨_, _, cur, hc⟩ := own_block hr hg
   obtain rfl := Option.some.inj e
   rw [hk.block _ h.ar.lta nR, hR] at hc
   simp only [Option.some.injEq, Obj.cells.injEq] at hc
   have ht := hc.2.1
   rcases hC.ty with e2 | e2 <;> (rw [e2] at ht; revert ht; decide))
theorem Nw.turn {cx : Array Value} (h : Nw bR R MR most w u0 u1 NB WB NN cw cn sl k xs ns W) : Nw bR R MR most w u0 u1 NB WB NN cn cx sl k xs ns ((W.setRow WB cn).setRow NN cx) := by
 have hA : ∀ i, (W.setRow WB cn).heap[i]? = if WB = i then some (.cells cn 82 (0, 0)) else W.heap[i]? := setRow_heap' W WB cw cn _ h.bw
 have bn1 : Bz (W.setRow WB cn) NN cn 82 := by
  show _ = _
  rw [hA, if_neg h.d1]
  exact h.bn
 have hB := setRow_heap' (W.setRow WB cn) NN cn cx _ bn1
 have hF : ∀ i, i ≠ WB -> i ≠ NN -> ((W.setRow WB cn).setRow NN cx).heap[i]? = W.heap[i]? := fun i h1 h2 => by rw [hB, if_neg (fun e => h2 e.symm), hA, if_neg (fun e => h1 e.symm)]
 have out : ∀ {i : Nat} {c : Array Value}, Bz W i c 82 -> R ≠ i ∧ MR ≠ i ∧ rowOf W R ≠ i ∧ NB ≠ i := fun {i c} hi => by
  have L := (h.ar.outBox hi (by decide) (by decide)).out
  refine ⟨fun e => L.not (Or.inl e.symm), fun e => L.not (Or.inr (Or.inr (Or.inl e.symm))), fun e => L.ne e.symm, fun e => ?_⟩
  have hn := h.bN
  unfold Bz at hn hi
  rw [e, hi] at hn
  simp only [Option.some.injEq, Obj.cells.injEq] at hn
  exact absurd hn.2.1 (by decide)
 obtain ⟨a1, a2, a3, a4⟩ := out h.bw
 obtain ⟨b1, b2, b3, b4⟩ := out h.bn
 have lo := h.low
 have l1 := h.lw
 have l2 := h.ln
 refine ⟨h.ar.same (hF _ a1 b1) (hF _ a2 b2) (hF _ a3 b3), h.low, ⟨h.be.os, h.be.tape, h.be.output, by simp [World.setRow]; exact h.be.size, fun i hi => (hF i (by omega) (by omega)).trans (h.be.block i hi)⟩, (cellB (hF _ a1 b1)).trans h.c4, ?_, (hF _ a4 b4).trans h.bN, ?_, ?_, h.lw, h.ln, h.d1, h.d2, h.d3⟩
 ·refine ⟨h.row.1, ?_⟩
  rcases h.row.2 with e | ⟨g, cap, cur, h1, h2, h3, h4⟩
  ·exact Or.inl e
  ·refine Or.inr ⟨g, cap, cur, h1, h2, (hF g (fun e => h.d2 ?_) (fun e => h.d3 ?_)).trans h3, h4⟩
   ·rw [h1, <- e]; rfl
   ·rw [h1, <- e]; rfl
 ·show _ = _
  rw [hB, if_neg (fun e => h.d1 e.symm), hA, if_pos rfl]
 ·show _ = _
  rw [hB, if_pos rfl]
end
theorem eqItems_run {d n : Nat} {e : TypeId} {xs ys : Array Value} {b : Nat -> Bool} {W : World} : ∀ (is : List Nat), (∀ j ∈ is, ∃ x y, (part e xs (j * n)).run Tryz.prog W = .ok x W ∧ (part e ys (j * n)).run Tryz.prog W = .ok y W ∧ (Op.equalIn d e x y).run Tryz.prog W = .ok (b j) W) -> (Op.eqItems d e n xs ys is).run Tryz.prog W = .ok (is.all b) W
 | [], _ => by simp [Op.eqItems]
 | j :: is, h => by
   obtain ⟨x, y, p1, p2, p3⟩ := h j List.mem_cons_self
   have ih := eqItems_run is fun i hi => h i (List.mem_cons_of_mem _ hi)
   simp only [Op.eqItems, Sem.run_bind, p1, p2, p3, Result.andThen_ok]
   cases hb : b j
   ·simp [hb]
   ·simp [hb, ih]
theorem part_ports (xs : Array Value) (off : Nat) (W : World) : (part 80 xs off).run Tryz.prog W = .ok (.agg (xs.extract off (off + 4))) W := by
 obtain ⟨i, hi⟩ : ∃ i, Tryz.prog.info? 80 = some i := by
  have h : (Tryz.prog.info? 80).isSome = true := by kernel_rfl
  exact Option.isSome_iff_exists.1 h
 have nI : Tryz.prog.cellsOf 80 = 4 := by kernel_rfl
 simp only [part, isAgg, Sem.run_bind, run_underlying Tryz.underlying80, Result.andThen_ok, Sem.run_pure, if_true, run_sizeOf W hi, nI]
open Classical in
theorem sets_eq {cx cn : Array Value} {sx sn : Nat -> Nat -> Nat} (h1 : SetsV cx sx) (h2 : SetsV cn sn) (W : World) : ∃ r : Bool, (binOp .eql 82 (.agg cx) (.agg cn)).run Tryz.prog W = .ok (.bool r) W ∧ (r = true ↔ ∀ a b, a < 10 -> b < 4 -> sx a b = sn a b) := by
 obtain ⟨i, hi⟩ : ∃ i, Tryz.prog.info? 80 = some i := by
  have h : (Tryz.prog.info? 80).isSome = true := by kernel_rfl
  exact Option.isSome_iff_exists.1 h
 obtain ⟨i2, hi2⟩ : ∃ i, Tryz.prog.info? 3 = some i := by
  have h : (Tryz.prog.info? 3).isSome = true := by kernel_rfl
  exact Option.isSome_iff_exists.1 h
 have nI : Tryz.prog.cellsOf 3 = 1 := by kernel_rfl
 have plainI : Tryz.prog.plainKey 3 = true := by kernel_rfl
 have nP : Tryz.prog.cellsOf 80 = 4 := by kernel_rfl
 refine ⟨(List.range 10).all fun a => (List.range 4).all fun b => decide (sx a b = sn a b), ?_, ?_⟩
 ·rw [run_eql_struct, show (10000 : Nat) = 9998 + 1 + 1 from rfl, run_equalIn_array W (9998 + 1) _ _ Tryz.underlying82 hi, nP, eqItems_run (b := fun a => (List.range 4).all fun b => decide (sx a b = sn a b)) (List.range 10) fun a ha => ?_]
  ·rfl
  have ha := List.mem_range.1 ha
  refine ⟨_, _, part_ports cx (a * 4) W, part_ports cn (a * 4) W, ?_⟩
  rw [run_equalIn_array W 9998 _ _ Tryz.underlying80 hi2, nI]
  refine eqItems_run _ fun b hb => ?_
  have hb := List.mem_range.1 hb
  have g : ∀ {c : Array Value} {s : Nat -> Nat -> Nat}, SetsV c s -> (c.extract (a * 4) (a * 4 + 4))[b * 1]? = some (.int .i64 (s a b : Int)) := fun {c s} h => by
   have e := h.2 a b ha hb
   have hs := h.1
   rw [Array.getElem?_extract, Nat.mul_one, if_pos (by omega), e]
  refine ⟨_, _, run_part_plain W plainI (g h1), run_part_plain W plainI (g h2), ?_⟩
  have q : ∀ (x y : Int), (Op.equalIn 9998 3 (.int .i64 x) (.int .i64 y)).run Tryz.prog W = .ok (x == y) W := fun x y => run_equalIn_int W 9997 3 .i64 .i64 x y Tryz.underlying3
  have hq : ((sx a b : Int) == (sn a b : Int)) = decide (sx a b = sn a b) := by
   rw [Bool.eq_iff_iff, beq_iff_eq, decide_eq_true_eq]
   omega
  exact (q _ _).trans (by rw [hq])
 ·simp only [List.all_eq_true, List.mem_range, decide_eq_true_eq]
  exact ⟨fun h a b ha hb => h a ha b hb, fun h a ha b hb => h a b ha hb⟩
def Hist (ds : List Dv) (ls : List Lk) (n : Nat) (xs : List Value) (ns : List Nd) : Prop :=
 ∃ s : Nat -> Nat -> Nat -> Nat, ∀ j a b, j < n -> a < 10 -> b < 4 -> xs[j * 40 + (a * 4 + b)]? = some (.int .i64 (s j a b : Int)) ∧ s j a b < ns.length ∧ ev ns (s j a b) = SetF ds ls j a b
section
variable {ds : List Dv} {ls : List Lk} {k : Nat} {xs : List Value} {ns ns' : List Nd} {cn : Array Value} {sw sn : Nat -> Nat -> Nat}
theorem Hist.ext (h : Hist ds ls k xs ns) (hW : Wf 14 ns) (hW' : Wf 14 ns') (X : Ext ns ns') : Hist ds ls k xs ns' := by
 obtain ⟨s, hs⟩ := h
 have hlen := X.len
 refine ⟨s, fun j a b hj ha hb => ?_⟩
 obtain ⟨h1, h2, h3⟩ := hs j a b hj ha hb
 refine ⟨h1, by omega, ?_⟩
 rw [<- h3]
 exact funext (X.ev hW hW' _ h2)
theorem Hist.app (h : Hist ds ls k xs ns) (hl : xs.length = k * 40) (N : NInv ds ls k ns sw sn) (hc : SetsV cn sn) : Hist ds ls (k + 1) (xs ++ cn.toList) ns := by
 obtain ⟨s, hs⟩ := h
 refine ⟨fun j => if j = k then sn else s j, fun j a b hj ha hb => ?_⟩
 by_cases e : j = k
 ·dsimp only
  rw [if_pos e]
  refine ⟨?_, N.ltn a b ha hb, by rw [N.fn a b ha hb, e]⟩
  rw [List.getElem?_append_right (by omega), show j * 40 + (a * 4 + b) - xs.length = a * 4 + b by omega, Array.getElem?_toList]
  exact hc.2 a b ha hb
 ·dsimp only
  rw [if_neg e]
  obtain ⟨h1, h2, h3⟩ := hs j a b (by omega) ha hb
  refine ⟨?_, h2, h3⟩
  rw [List.getElem?_append_left (by omega)]
  exact h1
theorem cnt_ge (h : ∀ j, j < k -> cntF ds ls j < cntF ds ls (j + 1)) : k <= cntF ds ls k := by
 induction k with
 | zero => omega
 | succ n ih =>
   have h1 := ih fun j hj => h j (by omega)
   have h2 := h n (by omega)
   omega
end
def RoomP (ds : List Dv) (ls : List Lk) (most gW : Nat) (E : Prop) : Prop :=
 ∃ k, (∀ j, j < k -> cntF ds ls j < cntF ds ls (j + 1)) ∧ (E ∨ most <= 2 + 44 * ds.length + gW * (4 * ds.length) * (k + 1))
def RNewOut (ds : List Dv) (ls : List Lk) (most : Nat) (EE : Prop) (w : World) (e : Ending) (w' : World) : Prop :=
 Below w.heap.size w w' ∧ ((∃ (bR R MR K : Nat) (sl : Value) (xs : List Value) (ns : List Nd), e = .returned (.tuple #[.pointer (some ⟨R, 0, none⟩), .int .i64 0]) ∧ w.heap.size <= bR ∧ Ar bR R MR 14 most w' ns ∧ w'.cell? ⟨R, 4, none⟩ = some sl ∧ w'.ownsRow bR 82 40 sl (K + 1) xs ∧ Hist ds ls (K + 1) xs ns ∧ (∀ j, j < K -> cntF ds ls j < cntF ds ls (j + 1)) ∧ (∀ a b, a < 10 -> b < 4 -> SetF ds ls (K + 1) a b = SetF ds ls K a b)) ∨
  (e = .returned (.tuple #[.pointer none, .int .i64 6]) ∧ EE))
theorem step_append_run {P : Program} {w : World} {ops : Array Oper} {o : Oper} {a : Act} {K : Act -> World -> Prop} {Q : Exit -> Act -> World -> Prop} {E : Prop} (hgd : o.guard = none) (s x : Operand) (t : TypeId)
  (ho : o.op = .call { callee := .builtin .append, args := #[s, x], argTypes := #[t, t] }) (v u v' : Value) (w' : World) (hs : a.eval s = v) (hx : a.eval x = u)
  (hr : (Builtin.append_ #[t, t] o.type #[v, u]).run P w = .ok v' w') (h : K (a.put o.dst v') w') :
  if Region.wanted o (yielded ops a.tmps) = true then Oper.wp P o a w K Q else E := by
 have hw : Region.wanted o (yielded ops a.tmps) = true := by simp [Region.wanted, hgd]
 rw [if_pos hw]
 unfold Oper.wp execOp
 simp only [ho, resolve, invoke, builtin, Sem.run_bind, Sem.run_pure, Result.andThen_ok, List.map_toArray, List.map_cons, List.map_nil, hs, hx, hr]
 exact h
theorem infoSets : ∃ ie, Tryz.prog.info? 82 = some ie ∧ ie.zero = some (.agg zeros40) ∧ ie.size = 40 := by
 obtain ⟨ie, h1, h2, h3, _⟩ := info_parts zSets
 exact ⟨ie, h1, h2, h3⟩
theorem wp_build_sets {o : Oper} {a : Act} {w : World} {K : Act -> World -> Prop} {Q : Exit -> Act -> World -> Prop} (x : Operand) (ho : o.op = .buildSlice 76 1 #[(0, x)]) (cn : Array Value) (hx : a.eval x = .agg cn) (h : cn.size = 40) (_h1 : cn.all (·.oneCell') = true)
  (hk : K (a.put o.dst (.slice (some ⟨w.heap.size, 0, none⟩) 1 1)) (w.alloc (.cells cn 82))) : o.wp Tryz.prog a w K Q := by
 obtain ⟨ie, hie, hz0, hs0⟩ := infoSets
 refine wp_buildSlice 76 82 1 _ ho cn ie (.agg zeros40) Tryz.underlying76 hie hz0 (by rw [hs0]; decide) (by rw [hs0]; decide) ?_ hk
 have e : (#[(0, x)].map fun (p : Nat × Operand) => match p with | (i, x) => (i, a.eval x)).toList = (([Value.agg cn] : List Value).zipIdx 0).map fun x => (x.2, x.1) := by simp [hx]
 rw [hs0]
 refine (congrArg _ e).trans ?_
 rw [Great.fill_whole (by omega) [Value.agg cn] _ (fun v hv => by obtain rfl := List.mem_singleton.1 hv; exact h) (by simp)]
 simp [Value.cells]
theorem setsV_one {c : Array Value} {s : Nat -> Nat -> Nat} (h : SetsV c s) : c.all (·.oneCell') = true := by
 rw [Array.all_eq_true_iff_forall_mem]
 intro x hx
 obtain ⟨n, hn, rfl⟩ := Array.mem_iff_getElem.1 hx
 have hs := h.1
 have h2 := h.2 (n / 4) (n % 4) (by omega) (by omega)
 rw [show n / 4 * 4 + n % 4 = n by omega] at h2
 rw [(Array.getElem?_eq_some_iff.1 h2).2]
 rfl
theorem eql_inv {t : TypeId} {c d : Array Value} {W : World} {r : Bool} (h : (binOp .eql t (.agg c) (.agg d)).run Tryz.prog W = .ok (.bool r) W) : (Op.equalIn 10000 t (.agg c) (.agg d)).run Tryz.prog W = .ok r W := by
 rw [run_eql_struct] at h
 generalize (Op.equalIn 10000 t (.agg c) (.agg d)).run Tryz.prog W = z at h
 cases z with
 | ok b w' =>
   simp at h
   obtain ⟨rfl, rfl⟩ := h
   rfl
 | halt x w' => simp at h
def lenAt (W : World) (R : Nat) : Nat := match W.cell? ⟨R, 4, none⟩ with
 | some (.slice _ n _) => n
 | _ => 0
theorem Nw.len {bR R MR most : Nat} {w W : World} {u0 u1 sl : Value} {NB WB NN k : Nat} {cw cn : Array Value} {xs : List Value} {ns : List Nd} (h : Nw bR R MR most w u0 u1 NB WB NN cw cn sl k xs ns W) : lenAt W R = k := by
 unfold lenAt
 rw [h.c4]
 rcases h.row.2 with ⟨rfl, rfl⟩ | ⟨g, cap, cur, rfl, _⟩ <;> rfl
def NKnow (ds : List Dv) (ls : List Lk) (EE : Prop) (G : Nat) (er : Int) (k : Nat) (cw cn : Array Value) (xs : List Value) (ns : List Nd) : Prop :=
 (cn.size = 40 ∧ cn.all (·.oneCell') = true) ∧ (cw.size = 40 ∧ cw.all (·.oneCell') = true) ∧ (Hist ds ls k xs ns ∧ ns.length <= 2 + 44 * ds.length + G * k) ∧ ((er = 0 ∧ (∀ j, j < k -> cntF ds ls j < cntF ds ls (j + 1)) ∧ ∃ sw sn, SetsV cw sw ∧ SetsV cn sn ∧ NInv ds ls k ns sw sn) ∨ (er = 6 ∧ EE))
section
variable {w : World}
theorem rnew_any (A B : Option Addr) (cap cap' : Nat) (ds : List Dv) (ls : List Lk) (most : Nat) (hm2 : 2 <= most) (hm4 : most <= 40000) (hz : Hid (netV ds ls = 0)) (hdv : Hid (∀ d ∈ ds, devC d = 0)) (hD : Hid (Devs w.heap.size w (.slice A ds.length cap) ds)) (hL : Hid (Links w.heap.size w (.slice B ls.length cap') ls)) (gW : Nat) (E : Prop) (HWB : Hid (∀ k, (∀ j, j < k -> cntF ds ls j < cntF ds ls (j + 1)) -> ∀ (i q a b : Nat) (d : Dv), ds[i]? = some d -> a < 10 -> b < 4 -> peerF ls i q = some ((a : Int), (b : Int)) -> WidB gW E d (q : Int) (SetF ds ls k a b) (SetF ds ls k i 0) (SetF ds ls k i 1) (SetF ds ls k i 2) (SetF ds ls k i 3))) :
  Calls Tryz.prog 14 #[.agg #[.slice A ds.length cap, .slice B ls.length cap'], .int .i64 (most : Int)] w (RNewOut ds ls most (RoomP ds ls most gW E) w) := by
 have D1 : Below w.heap.size w (w.alloc (.cells #[.slice A ds.length cap, .slice B ls.length cap'] 25)) := (Below.refl _ w).alloc (Nat.le_refl _) _
 have CK : Hid (Calls Tryz.prog 26 #[.agg #[.slice A ds.length cap, .slice B ls.length cap']] (w.alloc (.cells #[.slice A ds.length cap, .slice B ls.length cap'] 25)) fun e w' => e = .returned (.int .i64 0) ∧ Hid (Below w.heap.size w w' ∧ Bz w' w.heap.size #[.slice A ds.length cap, .slice B ls.length cap'] 25)) := (net_any _ _ ds ls _ ((hD.out.below D1).mono D1.size) ((hL.out.below D1).mono D1.size)).mono fun e w' h => ⟨by rw [h.1, hz.out], ⟨D1.trans (h.2.mono D1.size), (h.2.block _ (Bz.new w _ _ _ rfl).lt).trans (Bz.new w _ _ _ rfl)⟩⟩
 have BN : Hid (∀ W : World, Calls Tryz.prog 19 #[.int .i64 14, .int .i64 (most : Int)] W fun e w' => ∃ a M, e = .returned (.tuple #[.pointer (some ⟨a, 0, none⟩), .int .i64 0]) ∧ Hid (Ar W.heap.size a M 14 most w' [(14, 0, 0), (14, 1, 1)] ∧ Below W.heap.size W w')) := fun W => (new_ok (v := 14) (m := most) W (by omega) (by omega) hm2 hm4).mono fun e w' ⟨a, M, h1, h2, h3⟩ => ⟨a, M, h1, h2, h3⟩
 clear D1
 go_enter Tryz.func14, Tryz.ntmps14
 go_wp2_with fail
 with_reducible refine CK.out.mono ?_
 rintro e w1 ⟨rfl, H1⟩
 clear CK
 go_wp2_with fail
 with_reducible refine (BN.out _).mono ?_
 rintro e w2 ⟨a, M, rfl, H2⟩
 clear BN
 obtain ⟨g, cap0, a0, a1, a2, a3, CP⟩ := H2.out.1.copied
 have BL2 : Hid (Below w.heap.size w w2) := H1.out.1.trans (H2.out.2.mono H1.out.1.size)
 have BN2 : Hid (Bz w2 w.heap.size #[.slice A ds.length cap, .slice B ls.length cap'] 25) := (H2.out.2.block _ H1.out.2.lt).trans H1.out.2
 have A3 : Hid (Ar w1.heap.size w2.heap.size M 14 most (w2.alloc (.cells #[.int .i64 14, .int .i64 (most : Int), .slice (some ⟨g, 0, none⟩) 2 cap0, .map (some M), .slice none 0 0] 78)) [(14, 0, 0), (14, 1, 1)]) := CP w2 (Below.refl _ _)
 have A4 : Hid (Ar w1.heap.size w2.heap.size M 14 most ((w2.alloc (.cells #[.int .i64 14, .int .i64 (most : Int), .slice (some ⟨g, 0, none⟩) 2 cap0, .map (some M), .slice none 0 0] 78)).alloc (.cells zeros40 82)) [(14, 0, 0), (14, 1, 1)]) := A3.out.below ((Below.refl _ _).alloc (Nat.le_refl _) _)
 have B4 : Hid (Below w.heap.size w ((w2.alloc (.cells #[.int .i64 14, .int .i64 (most : Int), .slice (some ⟨g, 0, none⟩) 2 cap0, .map (some M), .slice none 0 0] 78)).alloc (.cells zeros40 82))) := (BL2.out.alloc BL2.out.size _).alloc (Nat.le_trans BL2.out.size (by simp)) _
 have N4 : Hid (Bz ((w2.alloc (.cells #[.int .i64 14, .int .i64 (most : Int), .slice (some ⟨g, 0, none⟩) 2 cap0, .map (some M), .slice none 0 0] 78)).alloc (.cells zeros40 82)) w.heap.size #[.slice A ds.length cap, .slice B ls.length cap'] 25) := (BN2.out.al _).al _
 have n0 : ((w2.alloc (.cells #[.int .i64 14, .int .i64 (most : Int), .slice (some ⟨g, 0, none⟩) 2 cap0, .map (some M), .slice none 0 0] 78)).alloc (.cells zeros40 82)).cell? ⟨w.heap.size, 0, none⟩ = some (.slice A ds.length cap) := N4.out.cell 0 _ rfl
 have n1 : ((w2.alloc (.cells #[.int .i64 14, .int .i64 (most : Int), .slice (some ⟨g, 0, none⟩) 2 cap0, .map (some M), .slice none 0 0] 78)).alloc (.cells zeros40 82)).cell? ⟨w.heap.size, 1, none⟩ = some (.slice B ls.length cap') := N4.out.cell 1 _ rfl
 have LO : Hid (w.heap.size <= w1.heap.size) := H1.out.1.size
 have SW : Hid (Calls Tryz.prog 27 #[.pointer (some ⟨w2.heap.size, 0, none⟩), .agg #[.slice A ds.length cap, .slice B ls.length cap']] ((w2.alloc (.cells #[.int .i64 14, .int .i64 (most : Int), .slice (some ⟨g, 0, none⟩) 2 cap0, .map (some M), .slice none 0 0] 78)).alloc (.cells zeros40 82)) fun e w' => ∃ (cx : Array Value) (er : Int) (ns : List Nd), e = .returned (.tuple #[.agg cx, .int .i64 er]) ∧ Hid (cx.size = 40 ∧ cx.all (·.oneCell') = true) ∧ Hid (Nw w1.heap.size w2.heap.size M most w (.slice A ds.length cap) (.slice B ls.length cap') w.heap.size (w2.heap.size + 1) w'.heap.size zeros40 cx (.slice none 0 0) 0 [] ns (w'.alloc (.cells cx 82))) ∧ Hid ((er = 0 ∧ ∃ sx, SetsV cx sx ∧ HInv ds ls ds.length ns sx) ∨ (er = 6 ∧ cx = zeros40 ∧ most <= 2 + 44 * ds.length)) ∧ Hid (ns.length <= 2 + 44 * ds.length)) := by
  refine (start_any A4.out A B cap cap' ds ls hz hdv ((hD.out.below B4.out).mono LO.out) ((hL.out.below B4.out).mono LO.out)).mono fun e w' h => ?_
  obtain ⟨cx, er, ns, e1, e2, e3, e4, e5, e6, e6', e7⟩ := h
  refine ⟨cx, er, ns, e1, e2, ?_, e7, e6'⟩
  have c4 : ((w2.alloc (.cells #[.int .i64 14, .int .i64 (most : Int), .slice (some ⟨g, 0, none⟩) 2 cap0, .map (some M), .slice none 0 0] 78)).alloc (.cells zeros40 82)).cell? ⟨w2.heap.size, 4, none⟩ = some (.slice none 0 0) := by
   have z : Bz ((w2.alloc (.cells #[.int .i64 14, .int .i64 (most : Int), .slice (some ⟨g, 0, none⟩) 2 cap0, .map (some M), .slice none 0 0] 78)).alloc (.cells zeros40 82)) w2.heap.size #[.int .i64 14, .int .i64 (most : Int), .slice (some ⟨g, 0, none⟩) 2 cap0, .map (some M), .slice none 0 0] 78 := (Bz.new w2 _ _ _ rfl).al _
   exact z.cell 4 _ rfl
  have zb : Bz ((w2.alloc (.cells #[.int .i64 14, .int .i64 (most : Int), .slice (some ⟨g, 0, none⟩) 2 cap0, .map (some M), .slice none 0 0] 78)).alloc (.cells zeros40 82)) (w2.heap.size + 1) zeros40 82 := Bz.new (w2.alloc (.cells #[.int .i64 14, .int .i64 (most : Int), .slice (some ⟨g, 0, none⟩) 2 cap0, .map (some M), .slice none 0 0] 78)) _ _ _ (by simp)
  have zw := e6 _ _ _ zb (by decide)
  have zn := e6 _ _ _ N4.out (by decide)
  have la := e3.lta
  have lA := e3.lowA
  have l2 := H2.out.2.size
  have hbl : Below w.heap.size w w' := B4.out.trans ((A4.out.kp_below e4).mono LO.out)
  exact ⟨e3.alloc _, LO.out, hbl.alloc hbl.size _, (cellB (Below.heap_alloc w' _ _ la)).trans ((e4.post 4 (by omega)).trans c4), ⟨rfl, Or.inl ⟨rfl, rfl⟩⟩, zn.al _, zw.al _, Bz.new w' _ _ _ rfl, by omega, by omega, fun e => (by have := zw.lt; omega), (by simp [Value.ownBlock]), (by simp [Value.ownBlock])⟩
 clear A3 A4 B4 N4 CP H1 H2 BL2 BN2
 go_upto_region 9 with fail
 go_wp2_with fail
 with_reducible refine SW.out.mono ?_
 rintro e w4 ⟨cx, er, ns, rfl, HC, NW4, HV, HLN⟩
 have ZA : Hid (∀ W : World, (W.alloc (.cells zeros40 82)).heap[W.heap.size]? = some (.cells zeros40 82 (0, 0))) := fun W => Go.heap_alloc_new W _
 have HN : Hid ((Tryz.prog.info? 82).map (·.size) = some cx.size) := iSets' HC.out.1
 have HZ : Hid (zeros40.size = cx.size) := by show _ = _; rw [HC.out.1]; rfl
 clear n0 n1 a0 a1 a2 a3 SW
 dsimp only
 iterate 14 go_step
 refine wp_store_row 82 _ _ rfl _ cx rfl rfl _ _ (ZA.out w4) HN.out HZ.out HC.out.2 ?_
 rw [World.setRow_alloc_new]
 simp only [Act.put]
 clear ZA HZ HN
 obtain ⟨V, hV⟩ : ∃ V : Array Value -> Array Value -> Value -> Nat -> List Value -> List Nd -> World -> Prop, V = fun cw cn sl k xs ns W => Nw w1.heap.size w2.heap.size M most w (.slice A ds.length cap) (.slice B ls.length cap') w.heap.size (w2.heap.size + 1) w4.heap.size cw cn sl k xs ns W := ⟨_, rfl⟩
 have V5 : V zeros40 cx (.slice none 0 0) 0 [] ns (w4.alloc (.cells cx 82)) := by rw [hV]; exact NW4.out
 have K5 : Hid (NKnow ds ls (RoomP ds ls most gW E) (gW * (4 * ds.length)) er 0 zeros40 cx [] ns) := by
  refine ⟨HC.out, ⟨rfl, zeros_one⟩, ⟨⟨fun _ _ _ => 0, fun j _ _ hj => by omega⟩, Nat.le_trans HLN.out (Nat.le_add_right _ _)⟩, ?_⟩
  rcases HV.out with ⟨rfl, sx, q1, q2⟩ | ⟨rfl, _, hm6⟩
  ·exact Or.inl ⟨rfl, fun j hj => by omega, _, sx, setsV_zero, q1, ninv_start q2 NW4.out.ar.wf⟩
  ·exact Or.inr ⟨rfl, 0, fun j hj => by omega, Or.inr (Nat.le_trans hm6 (Nat.le_add_right _ _))⟩
 clear NW4 HC HV HLN
 generalize w4.alloc (.cells cx 82) = W5 at *
 go_wp2_with fail
 go_loopw [8] (fun e wr => ∃ (er : Int) (k : Nat) (cw cn : Array Value) (sl : Value) (xs : List Value) (ns : List Nd), e = .int .i64 er ∧ V cw cn sl k xs ns wr ∧ Hid (NKnow ds ls (RoomP ds ls most gW E) (gW * (4 * ds.length)) er k cw cn xs ns)) (fun _ wr => 700000 - lenAt wr w2.heap.size)
 case atStart => exact ⟨er, 0, zeros40, cx, _, [], ns, rfl, V5, K5⟩
 case round =>
  clear V5 K5
  obtain ⟨er, k, cw, cn, sl, xs, ns, rfl, V1, K1⟩ := hrel
  by_cases he : er = 0
  rotate_left
  ·have HE : Hid (er = 6 ∧ RoomP ds ls most gW E) := by
    rcases K1.out.2.2.2 with ⟨h, _⟩ | h
    ·exact absurd h he
    ·exact h
   have HEE : Hid (RoomP ds ls most gW E) := HE.out.2
   obtain rfl := HE.out.1
   have FF : Hid (RNewOut ds ls most (RoomP ds ls most gW E) w (.returned (.tuple #[.pointer none, .int .i64 6])) wr) := by
    rw [hV] at V1
    exact ⟨V1.be, Or.inr ⟨rfl, HEE.out⟩⟩
   clear V1 K1 hV HE he HEE
   go_wp2_with fail
   go_ret2
   exact FF.out
  subst he
  go_wp2_with fail
  have N1 : Hid (Nw w1.heap.size w2.heap.size M most w (.slice A ds.length cap) (.slice B ls.length cap') w.heap.size (w2.heap.size + 1) w4.heap.size cw cn sl k xs ns wr) := by rw [hV] at V1; exact V1
  have GR : Hid (∀ j, j < k -> cntF ds ls j < cntF ds ls (j + 1)) := by
   rcases K1.out.2.2.2 with ⟨_, h, _⟩ | ⟨h, _⟩
   ·exact h
   ·cases h
  have hkk : Hid (k <= 655360) := Nat.le_trans (cnt_ge GR.out) (cntF_le k)
  have LW1 : Hid (lenAt wr w2.heap.size = k) := N1.out.len
  have HLL : Hid (xs.length = k * 40) := N1.out.row.1
  have BD : Hid (Below wr.heap.size wr wr.drew) := (Below.refl _ _).drew
  obtain ⟨v7, w7, r7, o7, b7, k7, x7⟩ := app_sets (t := 76) (w := wr.drew) (us := cn) Tryz.underlying76 76 N1.out.row K1.out.1.1 K1.out.1.2 (by have := hkk.out; omega) N1.out.size
  obtain ⟨A7, n7, c7, hv7⟩ : ∃ A n c, v7 = .slice A n c := by
   rcases o7.2 with ⟨h, _⟩ | ⟨g, cap, cur, h, _⟩
   ·exact ⟨_, _, _, h⟩
   ·exact ⟨_, _, _, h⟩
  subst hv7
  have V7 : Hid (V cw cn (.slice A7 n7 c7) (k + 1) (xs ++ cn.toList) ns (w7.setCell ⟨w2.heap.size, 4, none⟩ (.slice A7 n7 c7))) := by rw [hV]; exact (N1.out.below BD.out).app o7 b7 k7 x7
  have c4 : wr.drew.cell? ⟨w2.heap.size, 4, none⟩ = some sl := N1.out.c4
  have c4a : (wr.drew.alloc (.cells cn 82)).cell? ⟨w2.heap.size, 4, none⟩ = some sl := (cellB (Below.heap_alloc _ _ _ N1.out.ar.lta)).trans N1.out.c4
  have c4b : (wr.alloc (.cells cn 82)).cell? ⟨w2.heap.size, 4, none⟩ = some sl := c4a
  have nR : Hid (some w2.heap.size ≠ sl.ownBlock) := fun e => by
   obtain ⟨_, _, cur, hc⟩ := own_block N1.out.row e.symm
   obtain ⟨g0, cap0, cs0, t0, hR, hC, _⟩ := N1.out.ar.blk
   rw [hR] at hc
   simp only [Option.some.injEq, Obj.cells.injEq] at hc
   have ht := hc.2.1
   rcases hC.ty with e2 | e2 <;> (rw [e2] at ht; revert ht; decide)
  have e7 : w7.heap[w2.heap.size]? = wr.heap[w2.heap.size]? := k7.block _ N1.out.ar.lta nR.out
  have c47 : w7.cell? ⟨w2.heap.size, 4, none⟩ = some sl := (cellB e7).trans N1.out.c4
  have f47 : w7.frozen? ⟨w2.heap.size, 4, none⟩ = false := by
   obtain ⟨g0, cap0, cs0, t0, hR, hC, _⟩ := N1.out.ar.blk
   simp [World.frozen?, e7, hR]
  have z0 : Hid (Bz wr.drew w4.heap.size cn 82) := N1.out.bn
  have z1 : Hid (Bz (wr.drew.alloc (.cells cn 82)) w4.heap.size cn 82) := z0.out.al _
  have z7 : Hid (Bz w7 w4.heap.size cn 82) := (k7.block _ N1.out.bn.lt (fun e => N1.out.d3 e.symm)).trans N1.out.bn
  have z8 : Hid (Bz (w7.setCell ⟨w2.heap.size, 4, none⟩ (.slice A7 n7 c7)) w4.heap.size cn 82) := by
   have h := V7.out
   rw [hV] at h
   exact h.bn
  have hcn : cn.size = 40 := K1.out.1.1
  have h1c := K1.out.1.2
  clear o7 b7 k7 x7 e7 nR BD
  go_cut [44] from 38 to 68 (fun v44 wx => ∃ sl', V cw cn sl' (k + 1) (xs ++ cn.toList) ns wx)
  case first =>
   refine wp_region_held_drew (S := fun W => Bz W w4.heap.size cn 82) (by kernel_rfl) z0.out (fun hHeld => ?_)
   refine tk 0 ?_; try simp only [ly]
   refine tk 1 ?_; try simp only [ly]
   refine tk 2 ?_; try simp only [ly]
   refine tk 3 ?_; try simp only [ly]
   refine' wpAnyH_take (i := 5) (v := .agg cn) rfl (by kernel_rfl) (by kernel_rfl) (by kernel_rfl) (fun _ _ _ h => h) (yieldsIf_load_mid (by rfl) 82 _ rfl w4.heap.size 0 rfl cn.toList _ (fun W hS j v hj => by rw [Nat.zero_add]; exact Bz.cell hS j v (by simpa using hj)) uSets rfl (by rw [Array.length_toList, hcn]; exact iSets)) (by assumption) ?gr5
   try simp only [ly]
   refine wpAnyH_ready (rs := [4, 6]) (by kernel_rfl) (by simp) ?_
   refine AllReadyH.cons rfl (fun K hK => ?_) ?_
   ·go_simp
    clear hHeld
    refine hK.out _ _ (z0.out) (fun hHeld => ?_)
    clear hK K
    try simp only [ly]
    refine rd 6 (fun K hK => ?_)
    rw [if_pos (by rfl)]
    refine wp_build_sets _ rfl cn (by rfl) hcn h1c ?_
    clear hHeld
    refine hK.out _ _ (z1.out) (fun hHeld => ?_)
    clear hK K
    try simp only [ly]
    refine rd 7 (fun K hK => ?_)
    refine step_append_run (by rfl) _ _ 76 (by rfl) _ _ _ w7 (by rfl) (by rfl) r7 ?_
    clear hHeld
    refine hK.out _ _ (z7.out) (fun hHeld => ?_)
    clear hK K
    try simp only [ly]
    refine tk 8 ?_; try simp only [ly]
    refine tk 9 ?_; try simp only [ly]
    refine rd 10 (fun K hK => ?_)
    go_simp
    clear hHeld
    refine hK.out _ _ (z8.out) (fun hHeld => ?_)
    clear hK K
    try simp only [ly]
    refine wpAnyH_done (by kernel_rfl) ?_ _
    go_wp2_with fail
    go_meet
    case rel => exact ⟨_, V7.out⟩
   refine AllReadyH.cons rfl (fun K hK => ?_) AllReadyH.nil
   rw [if_pos (by rfl)]
   refine wp_build_sets _ rfl cn (by rfl) hcn h1c ?_
   clear hHeld
   refine hK.out _ _ (z1.out) (fun hHeld => ?_)
   clear hK K
   try simp only [ly]
   refine rd 4 (fun K hK => ?_)
   go_simp
   clear hHeld
   refine hK.out _ _ (z1.out) (fun hHeld => ?_)
   clear hK K
   try simp only [ly]
   refine rd 7 (fun K hK => ?_)
   refine step_append_run (by rfl) _ _ 76 (by rfl) _ _ _ w7 (by rfl) (by rfl) r7 ?_
   clear hHeld
   refine hK.out _ _ (z7.out) (fun hHeld => ?_)
   clear hK K
   try simp only [ly]
   refine tk 8 ?_; try simp only [ly]
   refine tk 9 ?_; try simp only [ly]
   refine rd 10 (fun K hK => ?_)
   go_simp
   clear hHeld
   refine hK.out _ _ (z8.out) (fun hHeld => ?_)
   clear hK K
   try simp only [ly]
   refine wpAnyH_done (by kernel_rfl) ?_ _
   go_wp2_with fail
   go_meet
   case rel => exact ⟨_, V7.out⟩
  case rest =>
  obtain ⟨sl', V8⟩ := hcut
  clear c4 c4a c4b c47 f47 z0 z1 z7 z8 V7 r7 N1
  have N8 : Hid (Nw w1.heap.size w2.heap.size M most w (.slice A ds.length cap) (.slice B ls.length cap') w.heap.size (w2.heap.size + 1) w4.heap.size cw cn sl' (k + 1) (xs ++ cn.toList) ns wc) := by rw [hV] at V8; exact V8
  have n0 : wc.cell? ⟨w.heap.size, 0, none⟩ = some (.slice A ds.length cap) := N8.out.bN.cell 0 _ rfl
  have n1 : wc.cell? ⟨w.heap.size, 1, none⟩ = some (.slice B ls.length cap') := N8.out.bN.cell 1 _ rfl
  have bw8 : Hid (Bz wc (w2.heap.size + 1) cw 82) := N8.out.bw
  have bn8 : Hid (Bz wc w4.heap.size cn 82) := N8.out.bn
  have HW : Hid ((Tryz.prog.info? 82).map (·.size) = some cw.size) := iSets' K1.out.2.1.1
  have HNN : Hid ((Tryz.prog.info? 82).map (·.size) = some cn.size) := iSets' K1.out.1.1
  obtain ⟨sw, sn, q1, q2, q3⟩ : ∃ sw sn, Hid (SetsV cw sw) ∧ Hid (SetsV cn sn) ∧ Hid (NInv ds ls k ns sw sn) := by
   rcases K1.out.2.2.2 with ⟨_, _, sw, sn, q1, q2, q3⟩ | ⟨h, _⟩
   ·exact ⟨sw, sn, q1, q2, q3⟩
   ·cases h
  have GW : Hid (Calls Tryz.prog 28 #[.pointer (some ⟨w2.heap.size, 0, none⟩), .agg #[.slice A ds.length cap, .slice B ls.length cap'], .agg cw, .agg cn] wc fun e w' => ∃ (cx : Array Value) (er : Int) (ns' : List Nd), e = .returned (.tuple #[.agg cx, .int .i64 er]) ∧ Hid (cx.size = 40 ∧ cx.all (·.oneCell') = true) ∧ Hid (V cw cn sl' (k + 1) (xs ++ cn.toList) ns' w') ∧ Hid (Ext ns ns' ∧ ns'.length <= ns.length + gW * (4 * ds.length)) ∧ Hid ((er = 0 ∧ ∃ sx, SetsV cx sx ∧ GInv ds ls (fun i => sn i 0 = sw i 0 ∧ sn i 1 = sw i 1 ∧ sn i 2 = sw i 2 ∧ sn i 3 = sw i 3) (fun a b => ev ns (sn a b)) ds.length 0 ns' sx) ∨ (er = 6 ∧ (E ∨ most <= ns.length + gW * (4 * ds.length))))) := by
   refine (grow_any N8.out.ar A B cap cap' ds ls cw cn sw sn hz hdv ((hD.out.below N8.out.be).mono N8.out.low) ((hL.out.below N8.out.be).mono N8.out.low) q1 q2 q3.out.ltn K1.out.1.2 gW E (fun i q a b d hd ha hb hp => by
    have hi : i < 10 := by
     have h1 := (List.getElem?_eq_some_iff.1 hd).1
     have h2 := (netV_links hz.out).1
     omega
    rw [q3.out.fn a b ha hb, q3.out.fn i 0 hi (by omega), q3.out.fn i 1 hi (by omega), q3.out.fn i 2 hi (by omega), q3.out.fn i 3 hi (by omega)]
    exact HWB.out k GR.out i q a b d hd ha hb hp)).mono fun e w' h => ?_
   obtain ⟨cx, er, ns', e1, e2, e3, e4, e5, _, e6, e7⟩ := h
   refine ⟨cx, er, ns', e1, ⟨e2, ?_⟩, ?_, ⟨e5, e6⟩, ?_⟩
   ·rcases e7.out with ⟨_, sx, q, _⟩ | ⟨_, q, _⟩
    ·exact setsV_one q
    ·rw [q]; exact zeros_one
   ·rw [hV]
    exact N8.out.step e3 e4
   ·rcases e7.out with q | ⟨q, _, q'⟩
    ·exact Or.inl q
    ·exact Or.inr ⟨q, q'⟩
  have WF1 : Hid (Wf 14 ns) := N8.out.ar.wf
  clear N8
  go_upto_region 12 with fail
  iterate 7 go_step
  refine wpList_load_row rfl 82 _ rfl _ rfl _ cw (0, 0) _ bw8.out uSets rfl HW.out ?_
  simp only [Act.put, List.setIfInBounds_toArray, List.set_cons_zero, List.set_cons_succ]
  refine wpList_load_row rfl 82 _ rfl _ rfl _ cn (0, 0) _ bn8.out uSets rfl HNN.out ?_
  simp only [Act.put, List.setIfInBounds_toArray, List.set_cons_zero, List.set_cons_succ]
  clear n0 n1 bw8 bn8 HW
  iterate 2 go_step
  with_reducible refine GW.out.mono ?_
  rintro e w9 ⟨cx', er', ns', rfl, HC9, V9, X9, G9⟩
  have ZA : Hid (∀ W : World, (W.alloc (.cells zeros40 82)).heap[W.heap.size]? = some (.cells zeros40 82 (0, 0))) := fun W => Go.heap_alloc_new W _
  have HN9 : Hid ((Tryz.prog.info? 82).map (·.size) = some cx'.size) := iSets' HC9.out.1
  have HZ : Hid (zeros40.size = cx'.size) := by show _ = _; rw [HC9.out.1]; rfl
  clear GW V8
  dsimp only
  iterate 14 go_step
  refine wp_store_row 82 _ _ rfl _ cx' rfl rfl _ _ (ZA.out w9) HN9.out HZ.out HC9.out.2 ?_
  rw [World.setRow_alloc_new]
  simp only [Act.put]
  have V10 : V cw cn sl' (k + 1) (xs ++ cn.toList) ns' (w9.alloc (.cells cx' 82)) := by
   have h := V9.out
   rw [hV] at h ⊢
   exact h.below ((Below.refl _ _).alloc (Nat.le_refl _) _)
  have b10 : Hid (Bz (w9.alloc (.cells cx' 82)) w9.heap.size cx' 82) := Bz.new w9 _ _ _ rfl
  have l10 : Hid (w1.heap.size <= w9.heap.size ∧ w9.heap.size ≠ w4.heap.size ∧ w9.heap.size ≠ w2.heap.size + 1) := by
   have h := V9.out
   rw [hV] at h
   have a1 := h.bn.lt
   have a2 := h.bw.lt
   have a3 := h.size
   exact ⟨a3, by omega, by omega⟩
  clear ZA HZ V9
  generalize w9.alloc (.cells cx' 82) = W10 at *
  generalize w9.heap.size = NX at *
  go_upto_region 13 with fail
  have h10 : Hid (ds.length <= 10) := (netV_links hz.out).1
  have N10 : Hid (Nw w1.heap.size w2.heap.size M most w (.slice A ds.length cap) (.slice B ls.length cap') w.heap.size (w2.heap.size + 1) w4.heap.size cw cn sl' (k + 1) (xs ++ cn.toList) ns' W10) := by
   have h := V10
   rw [hV] at h
   exact h
  have HH : Hid (Hist ds ls (k + 1) (xs ++ cn.toList) ns') := (K1.out.2.2.1.1.app HLL.out q3.out q2.out).ext WF1.out N10.out.ar.wf X9.out.1
  obtain ⟨r, hr⟩ : ∃ r : Bool, Hid ((r = true ∧ er' = 0 ∧ ∀ a b, a < 10 -> b < 4 -> SetF ds ls (k + 1) a b = SetF ds ls k a b) ∨ (r = false ∧ er' = 6 ∧ RoomP ds ls most gW E) ∨ (r = false ∧ er' = 0 ∧ cntF ds ls k < cntF ds ls (k + 1) ∧ ∃ sx, SetsV cx' sx ∧ NInv ds ls (k + 1) ns' sn sx)) ∧ Hid (er' = 0 -> (binOp .eql 82 (.agg cx') (.agg cn)).run Tryz.prog W10 = .ok (.bool r) W10) := by
   rcases G9.out with ⟨he, sx, g1, g2⟩ | ⟨he, he6⟩
   ·obtain ⟨r, e1, e2⟩ := sets_eq g1 q2.out W10
    refine ⟨r, ?_, fun _ => e1⟩
    cases r
    ·refine Or.inr (Or.inr ⟨rfl, he, ?_, sx, g1, ninv_next q3.out h10.out WF1.out N10.out.ar.wf X9.out.1 g2⟩)
     have hn : ¬ ∀ a b, a < 10 -> b < 4 -> sx a b = sn a b := fun h => by cases e2.2 h
     have hn2 : ∃ a b, a < 10 ∧ b < 4 ∧ sx a b ≠ sn a b := Classical.byContradiction fun hc => hn fun a b ha hb => Classical.byContradiction fun h2 => hc ⟨a, b, ha, hb, h2⟩
     obtain ⟨a, b, ha, hb, hne⟩ := hn2
     exact cnt_more q3.out h10.out WF1.out N10.out.ar.wf X9.out.1 g2 ha hb hne
    ·exact Or.inl ⟨rfl, he, ninv_end q3.out h10.out WF1.out N10.out.ar.wf X9.out.1 g2 (e2.1 rfl)⟩
   ·refine ⟨false, Or.inr (Or.inl ⟨rfl, he, k, GR.out, ?_⟩), fun h => by rw [he] at h; cases h⟩
    rcases he6 with h | h
    ·exact Or.inl h
    ·exact Or.inr (mul_step K1.out.2.2.1.2 h)
  obtain ⟨hr, hq⟩ := hr
  have bn10 : Hid (Bz W10 w4.heap.size cn 82) := N10.out.bn
  have Q2 : Hid (SetsV cn sn) := q2
  have LN : Hid (ns'.length <= 2 + 44 * ds.length + gW * (4 * ds.length) * (k + 1)) := mul_step K1.out.2.2.1.2 X9.out.2
  clear X9 G9 q1 q2 q3
  go_cut [64] from 38 to 68 (fun v64 wx => v64 = .bool r ∧ wx = W10)
  case first =>
   rcases (show Hid (er' = 0 ∨ (er' = 6 ∧ r = false)) by
    rcases hr.out with ⟨_, h, _⟩ | ⟨h1, h2, _⟩ | ⟨_, h, _⟩
    ·exact Or.inl h
    ·exact Or.inr ⟨h2, h1⟩
    ·exact Or.inl h).out with rfl | ⟨rfl, rfl⟩
   ·have EQ := eql_inv (hq.out rfl)
    clear hr hq
    iterate 10 go_step
    refine BigFrame.wpList_want (by rfl) (fun K hK => ?_)
    refine wp_load_row 82 _ rfl _ rfl _ cx' (0, 0) _ b10.out uSets rfl HN9.out ?_
    refine hK _ _ ?_
    clear hK K
    simp only [Act.put, List.setIfInBounds_toArray, List.set_cons_zero, List.set_cons_succ]
    refine BigFrame.wpList_want (by rfl) (fun K hK => ?_)
    refine wp_load_row 82 _ rfl _ rfl _ cn (0, 0) _ bn10.out uSets rfl HNN.out ?_
    refine hK _ _ ?_
    clear hK K
    simp only [Act.put, List.setIfInBounds_toArray, List.set_cons_zero, List.set_cons_succ]
    go_wp2_with fail
    go_meet
    case rel => exact ⟨rfl, rfl⟩
   ·clear hr hq
    go_wp2_with fail
    go_meet
    case rel => exact ⟨rfl, rfl⟩
  case rest =>
  obtain ⟨rfl, hwc⟩ := hcut
  obtain rfl := hwc.symm
  clear hq
  cases r
  rotate_left
  ·have FF : Hid (RNewOut ds ls most (RoomP ds ls most gW E) w (.returned (.tuple #[.pointer (some ⟨w2.heap.size, 0, none⟩), .int .i64 0])) W10) := by
    refine ⟨N10.out.be, Or.inl ⟨w1.heap.size, w2.heap.size, M, k, sl', xs ++ cn.toList, ns', rfl, N10.out.low, N10.out.ar, N10.out.c4, N10.out.row, HH.out, GR.out, ?_⟩⟩
    rcases hr.out with ⟨_, _, h⟩ | ⟨h, _⟩ | ⟨h, _⟩
    ·exact h
    ·cases h
    ·cases h
   clear hr N10 V10 bn10 b10 hV K1 HH
   go_wp2_with fail
   go_ret2
   exact FF.out
  have bw10 : Hid (Bz W10 (w2.heap.size + 1) cw 82) := N10.out.bw
  have HS1 : Hid (cw.size = cn.size) := by show _ = _; rw [K1.out.2.1.1, K1.out.1.1]
  have HS2 : Hid (cn.size = cx'.size) := by show _ = _; rw [K1.out.1.1, HC9.out.1]
  have h1n : Hid (cn.all (·.oneCell') = true) := K1.out.1.2
  have HX : Hid (∀ i, (W10.drew.setRow (w2.heap.size + 1) cn).heap[i]? = if w2.heap.size + 1 = i then some (.cells cn 82 (0, 0)) else W10.heap[i]?) := setRow_heap' W10.drew (w2.heap.size + 1) cw cn _ bw10.out
  have bnA : Hid (Bz (W10.drew.setRow (w2.heap.size + 1) cn) w4.heap.size cn 82) := by
   show _ = _
   rw [HX.out, if_neg N10.out.d1]
   exact bn10.out
  have sA : Hid (Bz (W10.drew.setRow (w2.heap.size + 1) cn) NX cx' 82) := by
   show _ = _
   rw [HX.out, if_neg (fun e => l10.out.2.2 e.symm)]
   exact b10.out
  have sB : Hid (Bz ((W10.drew.setRow (w2.heap.size + 1) cn).setRow w4.heap.size cx') NX cx' 82) := by
   show _ = _
   rw [setRow_heap' (W10.drew.setRow (w2.heap.size + 1) cn) w4.heap.size cn cx' _ bnA.out, if_neg (fun e => l10.out.2.1 e.symm)]
   exact sA.out
  have V11 : V cn cx' sl' (k + 1) (xs ++ cn.toList) ns' ((W10.drew.setRow (w2.heap.size + 1) cn).setRow w4.heap.size cx') := by
   rw [hV]
   exact (N10.out.below (Below.refl _ _).drew).turn
  have L11 : Hid (lenAt ((W10.drew.setRow (w2.heap.size + 1) cn).setRow w4.heap.size cx') w2.heap.size = k + 1) := by
   have h := V11
   rw [hV] at h
   exact h.len
  have L1 : Hid (lenAt wr w2.heap.size = k) := LW1.out
  have K11 : Hid (NKnow ds ls (RoomP ds ls most gW E) (gW * (4 * ds.length)) er' (k + 1) cn cx' (xs ++ cn.toList) ns') := by
   refine ⟨HC9.out, K1.out.1, ⟨HH.out, LN.out⟩, ?_⟩
   rcases hr.out with ⟨h, _⟩ | ⟨_, h, h'⟩ | ⟨_, h, h2, sx, h3, h4⟩
   ·cases h
   ·exact Or.inr ⟨h, h'⟩
   ·refine Or.inl ⟨h, fun j hj => ?_, sn, sx, Q2.out, h3, h4⟩
    by_cases e : j = k
    ·rw [e]; exact h2
    ·exact GR.out j (by omega)
  have sD : Hid (Bz W10.drew NX cx' 82) := b10.out
  have bnD : Hid (Bz W10.drew w4.heap.size cn 82) := bn10.out
  have bwD : Hid (Bz W10.drew (w2.heap.size + 1) cw 82) := bw10.out
  have h40 : cx'.size = 40 := HC9.out.1
  have hkn := hkk.out
  clear N10 V10 hr HX K1 HH GR
  go_upto_region 15 with fail
  refine wp_region_held_drew (S := fun W => Bz W NX cx' 82) (by kernel_rfl) sD.out (fun hHeld => ?_)
  refine tk 2 ?_; try simp only [ly]
  refine' wpAnyH_take (i := 1) (v := .agg cx') rfl (by kernel_rfl) (by kernel_rfl) (by kernel_rfl) (fun _ _ _ h => h) (yieldsIf_load_mid (by rfl) 82 _ rfl NX 0 rfl cx'.toList _ (fun W hS j v hj => by rw [Nat.zero_add]; exact Bz.cell hS j v (by simpa using hj)) uSets rfl (by rw [Array.length_toList, h40]; exact iSets)) (by assumption) ?gr11
  try simp only [ly]
  refine rd 0 (fun K hK => ?_)
  rw [if_pos (by rfl)]
  refine wp_load_row 82 _ rfl _ rfl _ cn (0, 0) _ bnD.out uSets rfl HNN.out ?_
  clear hHeld
  refine hK.out _ _ (sD.out) (fun hHeld => ?_)
  clear hK K
  try simp only [ly]
  refine rd 3 (fun K hK => ?_)
  rw [if_pos (by rfl)]
  refine wp_store_row 82 _ _ rfl _ cn rfl rfl _ _ bwD.out HNN.out HS1.out h1n.out ?_
  clear hHeld
  refine hK.out _ _ (sA.out) (fun hHeld => ?_)
  clear hK K
  try simp only [ly]
  refine rd 4 (fun K hK => ?_)
  rw [if_pos (by rfl)]
  refine wp_store_row 82 _ _ rfl _ cx' rfl rfl _ _ bnA.out HN9.out HS2.out HC9.out.2 ?_
  clear hHeld
  refine hK.out _ _ (sB.out) (fun hHeld => ?_)
  clear hK K
  try simp only [ly]
  refine tk 5 ?_; try simp only [ly]
  refine wpAnyH_done (by kernel_rfl) ?_ _
  go_wp2_with fail
  go_roundw
  case rel => exact ⟨er', k + 1, cn, cx', sl', xs ++ cn.toList, ns', rfl, V11, K11⟩
  case measure => rw [L11.out, L1.out]; omega
end
section
variable {base a M vars most : Nat} {w : World} {ns : List Nd}
theorem bit_ok (h : Ar base a M vars most w ns) {v : Nat} (hv : v < vars) : Calls Tryz.prog 35 #[.pointer (some ⟨a, 0, none⟩), .int .i64 (v : Int)] w fun e w' => e = .returned (.int .i64 ((2 ^ (vars - 1 - v) : Nat) : Int)) ∧ w' = w := by
 have v16 := h.vars16
 obtain ⟨cap, a0, a1, a2, a3, af, an⟩ := h.reads
 have wr1 : IntKind.i64.wrap ((vars : Int) - 1) = (vars : Int) - 1 := IntWalk.i64_in _ (by omega)
 have wr2 : IntKind.i64.wrap ((vars : Int) - 1 - (v : Int)) = (vars : Int) - 1 - (v : Int) := IntWalk.i64_in _ (by omega)
 have hp : 2 ^ (vars - 1 - v) <= 2 ^ 16 := Nat.pow_le_pow_right (by omega) (by omega)
 have hw : wrap64 (2 ^ (vars - 1 - v)) = ((2 ^ (vars - 1 - v) : Nat) : Int) := by
  have e : (2 : Int) ^ (vars - 1 - v) = ((2 ^ (vars - 1 - v) : Nat) : Int) := by simp
  rw [e, <- IntWalk.i64_left]
  generalize 2 ^ (vars - 1 - v) = p at *
  exact IntWalk.i64_in _ (by omega)
 have hw' := Hd.mk hw
 clear h an hw
 go_enter Tryz.func35, Tryz.ntmps35
 go_wp2_with fail
 go_ret
 refine ⟨?_, rfl⟩
 rw [<- hw'.out]
 rfl
theorem bit_q (h : Ar base a M vars most w ns) {v : Nat} (hv : v < vars) : Calls Tryz.prog 35 #[.pointer (some ⟨a, 0, none⟩), .int .i64 (v : Int)] w fun e w' => ∃ q : Nat, e = .returned (.int .i64 (q : Int)) ∧ Hd (q = 2 ^ (vars - 1 - v)) ∧ w' = w :=
 (bit_ok h hv).mono (fun _ _ ⟨h1, h2⟩ => ⟨_, h1, ⟨rfl⟩, h2⟩)
theorem and_two (b k : Nat) : b &&& 2 ^ k = if b.testBit k then 2 ^ k else 0 := by
 apply Nat.eq_of_testBit_eq
 intro i
 rw [Nat.testBit_and, Nat.testBit_two_pow]
 by_cases h : k = i
 ·subst h
  cases hb : b.testBit k
  ·simp
  ·simp
 ·cases hb : b.testBit k
  ·simp [h]
  ·simp [h]
theorem test_bit (vars v b : Nat) : ((b &&& 2 ^ (vars - 1 - v)) != 0) = envOf vars b v := by
 rw [and_two, envOf]
 have : 0 < 2 ^ (vars - 1 - v) := Nat.two_pow_pos _
 cases b.testBit (vars - 1 - v)
 ·simp
 ·simp
theorem eval_ok (h : Ar base a M vars most w ns) {f b : Nat} (hf : f < ns.length) (hb : b < 2 ^ vars) :
  Calls Tryz.prog 22 #[.pointer (some ⟨a, 0, none⟩), .int .i64 (f : Int), .int .i64 (b : Int)] w fun e w' => e = .returned (.tuple #[.bool (ev ns f (envOf vars b)), .int .i64 0]) ∧ Ar base a M vars most w' ns ∧ Kp (ca base a M vars most) w w' := by
 have v16 := h.vars16
 have wf := h.wf
 have hl4 : ns.length <= 40000 := Nat.le_trans h.le h.most4
 have hpw : 2 ^ vars <= 2 ^ 16 := Nat.pow_le_pow_right (by omega) v16
 have t1 : (decide ((0 : Int) <= (f : Int)) && decide ((f : Int) < (ns.length : Int))) = true := by simp; omega
 have t2 : decide ((b : Int) < 0) = false := by simp
 have hw : wrap64 (2 ^ vars) = ((2 ^ vars : Nat) : Int) := by
  have e : (2 : Int) ^ vars = ((2 ^ vars : Nat) : Int) := by simp
  rw [e, <- IntWalk.i64_left]
  generalize 2 ^ vars = p at *
  exact IntWalk.i64_in _ (by omega)
 have hw2 : IntKind.i64.wrap (2 ^ vars) = ((2 ^ vars : Nat) : Int) := by rw [IntWalk.i64_left]; exact hw
 have t3 : decide (((2 ^ vars : Nat) : Int) <= (b : Int)) = false := by simp only [decide_eq_false_iff_not]; omega
 obtain ⟨cap0, a0, _⟩ := h.reads
 generalize hpp : (2 : Nat) ^ vars = pp at *
 have t4 : decide (pp <= b) = false := by simp; omega
 go_enter Tryz.func22, Tryz.ntmps22
 go_wp2_with (go_at_call 33; refine (hasFunction_any h (f : Int)).mono ?_; rintro e w' ⟨rfl, rfl⟩; rw [t1])
 go_loopw [1] (fun g wr => ∃ F : Nat, g = .int .i64 (F : Int) ∧ F < ns.length ∧ ev ns F (envOf vars b) = ev ns f (envOf vars b) ∧ Ar base a M vars most wr ns ∧ Kp (ca base a M vars most) w' wr) (fun g _ => (intOf g).toNat)
 case atStart => exact ⟨f, rfl, hf, rfl, h, Kp.refl _ _⟩
 case round =>
  obtain ⟨F, rfl, hF, hE, hA, hK⟩ := hrel
  by_cases hF2 : 2 <= F
  ·have t5 : decide ((1 : Int) < (F : Int)) = true := by simp; omega
   obtain ⟨cap, c0, c1, c2, c3, cf, cn⟩ := hA.reads
   obtain ⟨n0, n1, n2⟩ := cn F hF
   have hlo := wf.lo F hF2 hF
   have hhi := wf.hi F hF2 hF
   have hva := wf.va F hF2 hF
   have hA1 := hA.alloc (.cells #[.int .i64 (nv ns F : Int), .int .i64 (nl ns F : Int), .int .i64 (nh ns F : Int)] 94)
   have hK1 := hK.trans (Ar.kalloc' hA (.cells #[.int .i64 (nv ns F : Int), .int .i64 (nl ns F : Int), .int .i64 (nh ns F : Int)] 94))
   have hev := ev_node wf hF2 hF (envOf vars b)
   have hb63 : b < 9223372036854775808 := by omega
   have hq63 : ∀ q : Nat, q = 2 ^ (vars - 1 - nv ns F) -> (Go.bits .and .i64 (b : Int) (q : Int) != 0) = envOf vars b (nv ns F) := fun q hq => by
    have h16 : 2 ^ (vars - 1 - nv ns F) <= 2 ^ 16 := Nat.pow_le_pow_right (by omega) (by omega)
    rw [intBits_and b q hb63 (by omega), <- test_bit vars (nv ns F) b, hq]
    generalize b &&& 2 ^ (vars - 1 - nv ns F) = z
    cases z <;> simp <;> omega
   have hq63' := Hd.mk hq63
   generalize rowOf wr a = g at *
   clear cn hq63
   cases hcase : envOf vars b (nv ns F)
   ·go_wp2_with (go_at_call 35; refine (bit_q hA1 hva).mono ?_; rintro e w2 ⟨q, rfl, hq, rfl⟩; have hbt := hq63'.out q hq.out; rw [hcase] at hbt)
    go_roundw
    case rel => exact ⟨nl ns F, rfl, by omega, by rw [<- hE, hev, hcase]; simp, hA1, hK1⟩
    case measure => simp [intOf]; omega
   ·go_wp2_with (go_at_call 35; refine (bit_q hA1 hva).mono ?_; rintro e w2 ⟨q, rfl, hq, rfl⟩; have hbt := hq63'.out q hq.out; rw [hcase] at hbt)
    go_roundw
    case rel => exact ⟨nh ns F, rfl, by omega, by rw [<- hE, hev, hcase]; simp, hA1, hK1⟩
    case measure => simp [intOf]; omega
  ·have t5 : decide ((1 : Int) < (F : Int)) = false := by simp; omega
   rcases (show F = 0 ∨ F = 1 by omega) with rfl | rfl
   ·go_wp2_with fail
    go_ret2
    exact ⟨by rw [<- hE, ev0]; rfl, hA, hK⟩
   ·go_wp2_with fail
    go_ret2
    exact ⟨by rw [<- hE, ev1]; rfl, hA, hK⟩
end
section
variable {base a M vars most : Nat} {w : World} {ns : List Nd}
end
structure Rc (bR R MR most : Nat) (sl : Value) (n : Nat) (xs : List Value) (ns : List Nd) (W : World) : Prop where
 ar : Ar bR R MR 14 most W ns
 c4 : W.cell? ⟨R, 4, none⟩ = some sl
 row : W.ownsRow bR 82 40 sl n xs
theorem Rc.below {bR R MR most n : Nat} {sl : Value} {xs : List Value} {ns : List Nd} {W W' : World} (h : Rc bR R MR most sl n xs ns W) (hb : Below W.heap.size W W') : Rc bR R MR most sl n xs ns W' :=
 ⟨h.ar.below hb, (cellB (hb.block _ h.ar.lta)).trans h.c4, own_kept h.row (KeptB.of_below hb) (fun g _ => by simp)⟩
theorem Rc.lt {bR R MR most n : Nat} {sl : Value} {xs : List Value} {ns : List Nd} {W : World} (h : Rc bR R MR most sl n xs ns W) : R < W.heap.size := h.ar.lta
theorem Rc.sl {bR R MR most n : Nat} {sl : Value} {xs : List Value} {ns : List Nd} {W : World} (h : Rc bR R MR most sl (n + 1) xs ns W) : ∃ g cap, sl = .slice (some ⟨g, 0, none⟩) (n + 1) cap ∧ g < W.heap.size ∧ n + 1 <= cap ∧ cap <= maxLen ∧ xs.length = (n + 1) * 40 ∧ ∀ j v, xs[j]? = some v -> W.cell? ⟨g, j, none⟩ = some v := by
 rcases h.row.2 with ⟨_, h0⟩ | ⟨g, cap, cur, h1, h2, h3, h4, h5, h6, h7⟩
 ·omega
 ·refine ⟨g, cap, h1, (Array.getElem?_eq_some_iff.1 h3).1, ?_, ?_, h.row.1, fun j v hj => ?_⟩
  ·first | exact h4 | exact h5 | omega
  ·first | exact h5 | exact h4 | omega
  ·have hl := (List.getElem?_eq_some_iff.1 hj).1
   have hr := h.row
   rw [h1] at hr
   rw [hr.cellAt j (by have := h.row.1; omega), hj]
theorem run_max (x : Nat) (ts : Array TypeId) (t : TypeId) (W : World) : (Builtin.max_ ts t #[.int .i64 (x : Int), .int .i64 0]).run Tryz.prog W = .ok (.int .i64 (x : Int)) W := by
 by_cases h : x = 0
 ·subst h
  simp [Builtin.max_, Builtin.max2]
 ·simp [Builtin.max_, Builtin.max2]
  omega
theorem rounds_any {bR R MR most n : Nat} {sl : Value} {xs : List Value} {ns : List Nd} {W : World} (h : Rc bR R MR most sl (n + 1) xs ns W) (hn : n < 1000000) :
  Calls Tryz.prog 29 #[.pointer (some ⟨R, 0, none⟩)] W fun e w' => e = .returned (.int .i64 (n : Int)) ∧ w' = W := by
 obtain ⟨g, cap, rfl, _⟩ := h.sl
 have c4 := h.c4
 have e1 : IntKind.i64.wrap (((n + 1 : Nat) : Int) - 1) = (n : Int) := by rw [IntKind.wrap_i64]; omega
 have hm := fun ts t W => run_max n ts t W
 clear h
 go_enter Tryz.func29, Tryz.ntmps29
 go_wp2_with fail
 go_ret
 exact ⟨rfl, rfl⟩
def atN (s : Nat -> Nat -> Nat) (p q : Int) : Nat := if (0 <= p ∧ p < 10) ∧ (0 <= q ∧ q < 4) then s p.toNat q.toNat else 0
theorem at_any (c : Array Value) (s : Nat -> Nat -> Nat) (p q : Int) (w : World) (hc : SetsV c s) :
  Calls Tryz.prog 30 #[.agg c, .agg #[.int .i64 p, .int .i64 q]] w fun e w' => e = .returned (.int .i64 (atN s p q : Int)) ∧ Below w.heap.size w w' := by
 by_cases h : (0 <= p ∧ p < 10) ∧ (0 <= q ∧ q < 4)
 ·obtain ⟨i, rfl⟩ : ∃ i : Nat, p = (i : Int) := ⟨p.toNat, by omega⟩
  obtain ⟨j, rfl⟩ : ∃ j : Nat, q = (j : Int) := ⟨q.toNat, by omega⟩
  have e : atN s (i : Int) (j : Int) = s i j := by unfold atN; rw [if_pos h]; rfl
  rw [e]
  exact at_in c s i j w hc (by omega) (by omega)
 ·have e : atN s p q = 0 := by unfold atN; rw [if_neg h]
  rw [e]
  have D0 : Below w.heap.size w ((w.alloc (.cells c 82)).alloc (.cells #[.int .i64 p, .int .i64 q] 54)) := ((Below.refl _ w).alloc (Nat.le_refl _) _).alloc (by simp) _
  by_cases a0 : p < 0
  ·have t0 : decide (p < 0) = true := by simp; omega
   clear h e hc
   go_enter Tryz.func30, Tryz.ntmps30
   go_wp2_with fail
   go_ret
   exact ⟨rfl, D0⟩
  have t0 : decide (p < 0) = false := by simp; omega
  by_cases a1 : 10 <= p
  ·have t1 : decide (10 <= p) = true := by simp; omega
   clear h e hc
   go_enter Tryz.func30, Tryz.ntmps30
   go_wp2_with fail
   go_ret
   exact ⟨rfl, D0⟩
  have t1 : decide (10 <= p) = false := by simp; omega
  by_cases a2 : q < 0
  ·have t2 : decide (q < 0) = true := by simp; omega
   clear h e hc
   go_enter Tryz.func30, Tryz.ntmps30
   go_wp2_with fail
   go_ret
   exact ⟨rfl, D0⟩
  have t2 : decide (q < 0) = false := by simp; omega
  have t3 : decide (4 <= q) = true := by simp; omega
  clear h e hc
  go_enter Tryz.func30, Tryz.ntmps30
  go_wp2_with fail
  go_ret
  exact ⟨rfl, D0⟩
theorem below_cell {V V' : World} (k : Below V.heap.size V V') {a : Addr} {v : Value} (h : V.cell? a = some v) : V'.cell? a = some v := (k.cell (World.block_lt_of_cell? _ _ h)).trans h
def HistN (s : Nat -> Nat -> Nat -> Nat) (n : Nat) (xs : List Value) (ns : List Nd) : Prop :=
 ∀ j a b, j < n -> a < 10 -> b < 4 -> xs[j * 40 + (a * 4 + b)]? = some (.int .i64 (s j a b : Int)) ∧ s j a b < ns.length
theorem HistN.sets {s : Nat -> Nat -> Nat -> Nat} {n i : Nat} {xs : List Value} {ns : List Nd} (h : HistN s n xs ns) (hi : i < n) (hl : xs.length = n * 40) : SetsV (((xs.drop (i * 40)).take 40).toArray) (s i) := by
 refine ⟨?_, fun a b ha hb => ?_⟩
 ·simp
  have : (i + 1) * 40 <= n * 40 := Nat.mul_le_mul_right 40 (by omega)
  omega
 ·have := (h i a b hi ha hb).1
  simp only [List.getElem?_toArray]
  rw [List.getElem?_take, if_pos (by omega), List.getElem?_drop]
  exact this
theorem HistN.at_lt {s : Nat -> Nat -> Nat -> Nat} {n i vars : Nat} {xs : List Value} {ns : List Nd} (h : HistN s n xs ns) (hi : i < n) (hw : Wf vars ns) (p q : Int) : atN (s i) p q < ns.length := by
 unfold atN
 split
 ·rename_i hc
  exact (h i _ _ hi (by omega) (by omega)).2
 ·have := hw.len
  omega
end Go.Proofs.YtmcklkkkkigflaaGreat
namespace Go.Proofs.YtmcklkkkkigflaaGreat
def T : Nat -> Nat -> (Env -> Bool) -> Env -> Nat
 | 0, _, g, e => if g e then 1 else 0
 | k + 1, i, g, e => T k (i + 1) g (setE e i false) + T k (i + 1) g (setE e i true)
def e00 : Env := fun _ => false
section
variable {vars : Nat} {ns ns' : List Nd}
def cn (vars : Nat) (ns : List Nd) (f : Nat) : Nat := T (vars - nv ns f) (nv ns f) (ev ns f) e00
end
def S : List Nat -> (Env -> Bool) -> Env -> Nat
 | [], g, e => if g e then 1 else 0
 | i :: l, g, e => S l g (setE e i false) + S l g (setE e i true)
end Go.Proofs.YtmcklkkkkigflaaGreat
namespace Go.Proofs.YtmcklkkkkigflaaGreat
open Go.RowKit Go.Maps
section
variable {base a M vars most : Nat} {w w' : World} {ns : List Nd} {K n : Nat} {mk : Nat -> Option Nat}
end
section
variable {base a M vars most : Nat} {w : World} {ns : List Nd}
end
section
variable {base a M vars most : Nat} {w : World} {ns : List Nd}
end
theorem four_last {a b c f : Prop} (h : a ∧ b ∧ c ∧ Hd f) : f := h.2.2.2.out
section
variable {ds : List Dv} {ls : List Lk}
noncomputable def atF (ds : List Dv) (ls : List Lk) (k : Nat) (p q : Int) : Env -> Bool := if (0 <= p ∧ p < 10) ∧ (0 <= q ∧ q < 4) then SetF ds ls k p.toNat q.toNat else fun _ => false
end
structure RcF (ds : List Dv) (ls : List Lk) (bR R MR most K : Nat) (sl : Value) (xs : List Value) (ns : List Nd) (s : Nat -> Nat -> Nat -> Nat) (W : World) : Prop where
 rc : Rc bR R MR most sl (K + 1) xs ns W
 hist : HistN s (K + 1) xs ns
 fn : ∀ j a b, j < K + 1 -> a < 10 -> b < 4 -> ev ns (s j a b) = SetF ds ls j a b
 up : ∀ j, j < K -> cntF ds ls j < cntF ds ls (j + 1)
 fix : ∀ a b, a < 10 -> b < 4 -> SetF ds ls (K + 1) a b = SetF ds ls K a b
section
variable {ds : List Dv} {ls : List Lk} {bR R MR most K : Nat} {sl : Value} {xs : List Value} {ns : List Nd} {s : Nat -> Nat -> Nat -> Nat} {W W' : World}
theorem RcF.below (h : RcF ds ls bR R MR most K sl xs ns s W) (hb : Below W.heap.size W W') : RcF ds ls bR R MR most K sl xs ns s W' := ⟨h.rc.below hb, h.hist, h.fn, h.up, h.fix⟩
theorem RcF.lt (h : RcF ds ls bR R MR most K sl xs ns s W) : K < 1000000 := by
 have h1 := cnt_ge h.up
 have h2 := cntF_le (ds := ds) (ls := ls) K
 omega
theorem RcF.at (h : RcF ds ls bR R MR most K sl xs ns s W) {j : Nat} (hj : j < K + 1) (p q : Int) : ev ns (atN (s j) p q) = atF ds ls j p q := by
 unfold atN atF
 split
 ·rename_i hc
  exact h.fn j _ _ hj (by omega) (by omega)
 ·exact funext fun x => ev0 _ x
theorem RNewOut.made {EE : Prop} {w : World} {e : Ending} {w' : World} (h : RNewOut ds ls most EE w e w') : Below w.heap.size w w' ∧ ((∃ (bR R MR K : Nat) (sl : Value) (xs : List Value) (ns : List Nd) (s : Nat -> Nat -> Nat -> Nat), e = .returned (.tuple #[.pointer (some ⟨R, 0, none⟩), .int .i64 0]) ∧ w.heap.size <= bR ∧ RcF ds ls bR R MR most K sl xs ns s w') ∨ (e = .returned (.tuple #[.pointer none, .int .i64 6]) ∧ EE)) := by
 refine ⟨h.1, ?_⟩
 rcases h.2 with ⟨bR, R, MR, K, sl, xs, ns, h1, h2, h3, h4, h5, ⟨s, hs⟩, h7, h8⟩ | h
 ·exact Or.inl ⟨bR, R, MR, K, sl, xs, ns, s, h1, h2, ⟨⟨h3, h4, h5⟩, fun j a b hj ha hb => ⟨(hs j a b hj ha hb).1, (hs j a b hj ha hb).2.1⟩, fun j a b hj ha hb => (hs j a b hj ha hb).2.2, h7, h8⟩⟩
 ·exact Or.inr h
end
end Go.Proofs.YtmcklkkkkigflaaGreat
namespace Go.Proofs.YtmcklkkkkigflaaGreat
structure Dif (vars : Nat) (ns : List Nd) (f g F G b : Nat) : Prop where
 lF : F < ns.length
 lG : G < ns.length
 ne : F ≠ G
 mul : 2 ^ (vars - min (nv ns F) (nv ns G)) ∣ b
 top : b + 2 ^ (vars - min (nv ns F) (nv ns G)) <= 2 ^ vars
 same : ∀ c, c < b -> ev ns f (envOf vars c) = ev ns g (envOf vars c)
 evF : ∀ c, b <= c -> c < b + 2 ^ (vars - min (nv ns F) (nv ns G)) -> ev ns f (envOf vars c) = ev ns F (envOf vars c)
 evG : ∀ c, b <= c -> c < b + 2 ^ (vars - min (nv ns F) (nv ns G)) -> ev ns g (envOf vars c) = ev ns G (envOf vars c)
theorem envOf_low {vars v b c : Nat} (hv : v < vars) (hm : 2 ^ (vars - v) ∣ b) (h1 : b <= c) (h2 : c < b + 2 ^ (vars - 1 - v)) : envOf vars c v = false := by
 obtain ⟨k, rfl⟩ := hm
 obtain ⟨d, rfl⟩ : ∃ d, c = 2 ^ (vars - v) * k + d := ⟨c - 2 ^ (vars - v) * k, by omega⟩
 have hd : d < 2 ^ (vars - 1 - v) := by omega
 unfold envOf
 rw [Nat.testBit_two_pow_mul_add _ (Nat.lt_of_lt_of_le hd (Nat.pow_le_pow_right (by omega) (by omega)))]
 rw [if_pos (by omega)]
 exact Nat.testBit_lt_two_pow hd
theorem envOf_high {vars v b c : Nat} (hv : v < vars) (hm : 2 ^ (vars - v) ∣ b) (h1 : b + 2 ^ (vars - 1 - v) <= c) (h2 : c < b + 2 ^ (vars - v)) : envOf vars c v = true := by
 obtain ⟨k, rfl⟩ := hm
 have hpos : 0 < 2 ^ (vars - 1 - v) := Nat.two_pow_pos _
 obtain ⟨d, rfl⟩ : ∃ d, c = 2 ^ (vars - v) * k + d := ⟨c - 2 ^ (vars - v) * k, by omega⟩
 have hd : d < 2 ^ (vars - v) := by omega
 have hd2 : 2 ^ (vars - 1 - v) <= d := by omega
 have e : vars - v = vars - 1 - v + 1 := by omega
 unfold envOf
 rw [Nat.testBit_two_pow_mul_add _ hd, if_pos (by omega)]
 rw [e] at hd
 rw [Nat.testBit_eq_decide_div_mod_eq]
 rw [Nat.pow_succ] at hd
 have h3 : d / 2 ^ (vars - 1 - v) = 1 := by
  have : 0 < 2 ^ (vars - 1 - v) := Nat.two_pow_pos _
  rw [Nat.div_eq_iff this]
  omega
 rw [h3]
 rfl
variable {vars : Nat} {ns : List Nd}
theorem partOf_low (h : Wf vars ns) {f v : Nat} (hf : f < ns.length) (hv : v < vars) (hle : v <= nv ns f) (val : Bool) {e : Env} (he : e v = val) : ev ns f e = ev ns (partOf ns f v val) e := by
 rw [partOf_ev h hf hv hle, setE_at he]
theorem partOf_le (h : Wf vars ns) {f v : Nat} (hf : f < ns.length) (hv : v < vars) (val : Bool) : partOf ns f v val <= f ∧ (nv ns f = v -> partOf ns f v val < f) := by
 unfold partOf
 split
 ·rename_i e
  have h2 := va_lt h hf (by omega)
  have := h.lo f h2 hf
  have := h.hi f h2 hf
  cases val <;> simp <;> omega
 ·rename_i e
  exact ⟨Nat.le_refl _, fun x => absurd x e⟩
theorem partOf_ne (h : Wf vars ns) {F G v : Nat} (lF : F < ns.length) (lG : G < ns.length) (hv : v < vars) (hne : F ≠ G) (hm : v = min (nv ns F) (nv ns G)) (he : partOf ns F v false = partOf ns G v false) : partOf ns F v true ≠ partOf ns G v true := by
 unfold partOf at *
 by_cases h1 : nv ns F = v
 ·by_cases h2 : nv ns G = v
  ·simp only [h1, h2, if_true, Bool.false_eq_true, if_false] at he ⊢
   intro h3
   have a := va_lt h lF (by omega)
   have b := va_lt h lG (by omega)
   refine hne (h.uniq F G a lF b lG ?_)
   exact Prod.ext (h1.trans h2.symm) (Prod.ext he h3)
  ·simp only [h1, h2, if_true, Bool.false_eq_true, if_false] at he ⊢
   have a := va_lt h lF (by omega)
   have := h.ne F a lF
   omega
 ·by_cases h2 : nv ns G = v
  ·simp only [h1, h2, if_true, Bool.false_eq_true, if_false] at he ⊢
   have b := va_lt h lG (by omega)
   have := h.ne G b lG
   omega
  ·omega
theorem Dif.start {f g : Nat} (lf : f < ns.length) (lg : g < ns.length) (hne : f ≠ g) : Dif vars ns f g f g 0 :=
 ⟨lf, lg, hne, Nat.dvd_zero _, by rw [Nat.zero_add]; exact Nat.pow_le_pow_right (by omega) (by omega), fun c hc => by omega, fun _ _ _ => rfl, fun _ _ _ => rfl⟩
theorem Dif.low (h : Wf vars ns) {f g F G b v : Nat} (D : Dif vars ns f g F G b) (hv : v < vars) (hm : v = min (nv ns F) (nv ns G)) (hne : partOf ns F v false ≠ partOf ns G v false) :
  Dif vars ns f g (partOf ns F v false) (partOf ns G v false) b := by
 have l1 := partOf_va h D.lF hv (by omega) false
 have l2 := partOf_va h D.lG hv (by omega) false
 have hlt : vars - min (nv ns (partOf ns F v false)) (nv ns (partOf ns G v false)) <= vars - 1 - v := by omega
 have hpw : 2 ^ (vars - min (nv ns (partOf ns F v false)) (nv ns (partOf ns G v false))) <= 2 ^ (vars - 1 - v) := Nat.pow_le_pow_right (by omega) hlt
 have hpv : 2 ^ (vars - 1 - v) <= 2 ^ (vars - v) := Nat.pow_le_pow_right (by omega) (by omega)
 have m0 := D.mul
 have t0 := D.top
 rw [<- hm] at m0 t0
 refine ⟨partOf_lt h D.lF hv false, partOf_lt h D.lG hv false, hne, Nat.dvd_trans (Nat.pow_dvd_pow 2 (by omega)) m0, by omega, D.same, fun c c1 c2 => ?_, fun c c1 c2 => ?_⟩
 ·rw [<- partOf_low h D.lF hv (by omega) false (envOf_low hv m0 c1 (by omega))]
  exact D.evF c c1 (by rw [<- hm]; omega)
 ·rw [<- partOf_low h D.lG hv (by omega) false (envOf_low hv m0 c1 (by omega))]
  exact D.evG c c1 (by rw [<- hm]; omega)
theorem Dif.high (h : Wf vars ns) {f g F G b v : Nat} (D : Dif vars ns f g F G b) (hv : v < vars) (hm : v = min (nv ns F) (nv ns G)) (he : partOf ns F v false = partOf ns G v false) :
  Dif vars ns f g (partOf ns F v true) (partOf ns G v true) (b + 2 ^ (vars - 1 - v)) := by
 have l1 := partOf_va h D.lF hv (by omega) true
 have l2 := partOf_va h D.lG hv (by omega) true
 have hlt : vars - min (nv ns (partOf ns F v true)) (nv ns (partOf ns G v true)) <= vars - 1 - v := by omega
 have hpw : 2 ^ (vars - min (nv ns (partOf ns F v true)) (nv ns (partOf ns G v true))) <= 2 ^ (vars - 1 - v) := Nat.pow_le_pow_right (by omega) hlt
 have hpv : 2 ^ (vars - v) = 2 ^ (vars - 1 - v) + 2 ^ (vars - 1 - v) := by
  rw [show vars - v = vars - 1 - v + 1 by omega, Nat.pow_succ]
  omega
 have m0 := D.mul
 have t0 := D.top
 rw [<- hm] at m0 t0
 refine ⟨partOf_lt h D.lF hv true, partOf_lt h D.lG hv true, partOf_ne h D.lF D.lG hv D.ne hm he, Nat.dvd_trans (Nat.pow_dvd_pow 2 hlt) (Nat.dvd_add (Nat.dvd_trans (Nat.pow_dvd_pow 2 (by omega)) m0) (Nat.dvd_refl _)), by omega, fun c hc => ?_, fun c c1 c2 => ?_, fun c c1 c2 => ?_⟩
 ·by_cases hb : c < b
  ·exact D.same c hb
  ·have lo := envOf_low hv m0 (by omega) hc
   rw [D.evF c (by omega) (by rw [<- hm]; omega), D.evG c (by omega) (by rw [<- hm]; omega), partOf_low h D.lF hv (by omega) false lo, partOf_low h D.lG hv (by omega) false lo, he]
 ·have up := envOf_high hv m0 c1 (by omega)
  rw [<- partOf_low h D.lF hv (by omega) true up]
  exact D.evF c (by omega) (by rw [<- hm]; omega)
 ·have up := envOf_high hv m0 c1 (by omega)
  rw [<- partOf_low h D.lG hv (by omega) true up]
  exact D.evG c (by omega) (by rw [<- hm]; omega)
theorem Dif.lt {f g F G b : Nat} (D : Dif vars ns f g F G b) : b < 2 ^ vars := by
 have := D.top
 have : 0 < 2 ^ (vars - min (nv ns F) (nv ns G)) := Nat.two_pow_pos _
 omega
def LeastD (n : Nat) (P Q : Nat -> Bool) (c : Nat) : Prop := c < n ∧ P c ≠ Q c ∧ ∀ d, d < c -> P d = Q d
theorem Dif.fin {f g F G b : Nat} (D : Dif vars ns f g F G b) (h1 : F <= 1) (h2 : G <= 1) : LeastD (2 ^ vars) (fun c => ev ns f (envOf vars c)) (fun c => ev ns g (envOf vars c)) b := by
 refine ⟨D.lt, ?_, D.same⟩
 have hp : 0 < 2 ^ (vars - min (nv ns F) (nv ns G)) := Nat.two_pow_pos _
 show ev ns f (envOf vars b) ≠ ev ns g (envOf vars b)
 rw [D.evF b (Nat.le_refl _) (by omega), D.evG b (Nat.le_refl _) (by omega)]
 have hn := D.ne
 match F, G, h1, h2 with
 | 0, 1, _, _ => rw [ev0, ev1]; decide
 | 1, 0, _, _ => rw [ev0, ev1]; decide
 | 0, 0, _, _ => exact absurd rfl hn
 | 1, 1, _, _ => exact absurd rfl hn
theorem or_add {vars v b : Nat} (hv : v < vars) (hm : 2 ^ (vars - v) ∣ b) : b ||| 2 ^ (vars - 1 - v) = b + 2 ^ (vars - 1 - v) := by
 obtain ⟨k, rfl⟩ := hm
 rw [Nat.two_pow_add_eq_or_of_lt]
 exact Nat.pow_lt_pow_right (by omega) (by omega)
end Go.Proofs.YtmcklkkkkigflaaGreat
namespace Go.Proofs.YtmcklkkkkigflaaGreat
open Go.RowKit Go.Maps
theorem run_min2D (x y : Nat) (ts : Array TypeId) (t : TypeId) (W : World) : (Builtin.min_ ts t #[.int .i64 (x : Int), .int .i64 (y : Int)]).run Tryz.prog W = .ok (.int .i64 ((min x y : Nat) : Int)) W := by
 have e : ((min x y : Nat) : Int) = if (y : Int) < (x : Int) then (y : Int) else (x : Int) := by split <;> omega
 rw [e]
 simp [Builtin.min_, Builtin.min2]
theorem intBits_orD (a b : Nat) (ha : a < 9223372036854775808) (hb : b < 9223372036854775808) : Go.bits .or .i64 (a : Int) (b : Int) = ((a ||| b : Nat) : Int) := by
 have e1 : BitVec.ofInt 64 (a : Int) = BitVec.ofNat 64 a := by simp
 have e2 : BitVec.ofInt 64 (b : Int) = BitVec.ofNat 64 b := by simp
 have hle : a ||| b < 2 ^ 63 := Nat.or_lt_two_pow ha hb
 have hm : (BitVec.ofNat 64 a ||| BitVec.ofNat 64 b).toNat = a ||| b := by
  simp [BitVec.toNat_or, Nat.mod_eq_of_lt (show a < 18446744073709551616 by omega), Nat.mod_eq_of_lt (show b < 18446744073709551616 by omega)]
 show IntKind.i64.wrap ((BitVec.ofInt 64 (a : Int) ||| BitVec.ofInt 64 (b : Int)).toNat : Int) = _
 rw [e1, e2, hm, IntWalk.i64_in _ (by omega)]
section
variable {base a M vars most : Nat} {w : World} {ns : List Nd}
theorem apart_ok (h : Ar base a M vars most w ns) {f v : Nat} (val : Bool) (hf : f < ns.length) (hv : v <= 16) :
  Calls Tryz.prog 34 #[.pointer (some ⟨a, 0, none⟩), .int .i64 (f : Int), .int .i64 (v : Int), .bool val] w fun e w' => e = .returned (.int .i64 (partOf ns f v val : Int)) ∧ Ar base a M vars most w' ns ∧ Kp (ca base a M vars most) w w' := by
 obtain ⟨cap, a0, a1, a2, a3, af, an⟩ := h.reads
 obtain ⟨n0, n1, n2⟩ := an f hf
 have hl : ns.length <= 40000 := Nat.le_trans h.le h.most4
 have hA1 := h.alloc (.cells #[.int .i64 (nv ns f : Int), .int .i64 (nl ns f : Int), .int .i64 (nh ns f : Int)] 94)
 have hK1 := Ar.kalloc' h (.cells #[.int .i64 (nv ns f : Int), .int .i64 (nl ns f : Int), .int .i64 (nh ns f : Int)] 94)
 unfold partOf
 clear h an
 generalize rowOf w a = g at *
 by_cases he : nv ns f = v
 ·subst he
  cases val
  ·go_enter Tryz.func34, Tryz.ntmps34
   go_wp2_with fail
   go_ret
   exact ⟨by simp, hA1, hK1⟩
  ·go_enter Tryz.func34, Tryz.ntmps34
   go_wp2_with fail
   go_ret
   exact ⟨by simp, hA1, hK1⟩
 ·have he' : ((nv ns f : Int) != (v : Int)) = true := by simp; omega
  go_enter Tryz.func34, Tryz.ntmps34
  go_wp2_with fail
  go_ret
  exact ⟨by simp, hA1, hK1⟩
def DTold (vars : Nat) (ns : List Nd) (f g : Nat) (c : Nat) (ok : Bool) : Prop :=
 (f = g ∧ c = 0 ∧ ok = false) ∨ (f ≠ g ∧ ok = true ∧ LeastD (2 ^ vars) (fun c => ev ns f (envOf vars c)) (fun c => ev ns g (envOf vars c)) c)
theorem differ_ok (h : Ar base a M vars most w ns) {f g : Nat} (hf : f < ns.length) (hg : g < ns.length) :
  Calls Tryz.prog 20 #[.pointer (some ⟨a, 0, none⟩), .int .i64 (f : Int), .int .i64 (g : Int)] w fun e w' => ∃ (c : Nat) (ok : Bool), e = .returned (.tuple #[.int .i64 (c : Int), .bool ok, .int .i64 0]) ∧ Hd (DTold vars ns f g c ok) ∧ Ar base a M vars most w' ns ∧ Kp (ca base a M vars most) w w' := by
 have v16 := h.vars16
 have wf := h.wf
 have hl4 : ns.length <= 40000 := Nat.le_trans h.le h.most4
 have t1 : (decide ((0 : Int) <= (f : Int)) && decide ((f : Int) < (ns.length : Int))) = true := by simp; omega
 have t2 : (decide ((0 : Int) <= (g : Int)) && decide ((g : Int) < (ns.length : Int))) = true := by simp; omega
 have hpw : 2 ^ vars <= 2 ^ 16 := Nat.pow_le_pow_right (by omega) v16
 by_cases hfg : f = g
 ·subst hfg
  go_enter Tryz.func20, Tryz.ntmps20
  go_wp2_with (go_at_call 33; refine (hasFunction_any h (f : Int)).mono ?_; rintro e w' ⟨rfl, rfl⟩; rw [t1])
  go_ret3
  exact ⟨0, false, rfl, ⟨.inl ⟨rfl, rfl, rfl⟩⟩, h, Kp.refl _ _⟩
 ·have tn : ((f : Int) == (g : Int)) = false := by simp; omega
  go_enter Tryz.func20, Tryz.ntmps20
  go_wp2_with (go_at_call 33; first | ((with_reducible refine (hasFunction_any h (f : Int)).mono ?_); rintro e w' ⟨rfl, rfl⟩; rw [t1]) | ((with_reducible refine (hasFunction_any h (g : Int)).mono ?_); rintro e w' ⟨rfl, rfl⟩; rw [t2]))
  go_loopw [1, 2, 9] (fun v1 v2 v9 wr => ∃ F G b : Nat, v1 = .int .i64 (F : Int) ∧ v2 = .int .i64 (G : Int) ∧ v9 = .int .i64 (b : Int) ∧ Hd (Dif vars ns f g F G b) ∧ Ar base a M vars most wr ns ∧ Kp (ca base a M vars most) w' wr) (fun v1 v2 _ _ => (intOf v1).toNat + (intOf v2).toNat)
  case atStart => exact ⟨f, g, 0, rfl, rfl, rfl, ⟨Dif.start hf hg hfg⟩, h, Kp.refl _ _⟩
  case round =>
   obtain ⟨F, G, b, rfl, rfl, rfl, hD, hA, hK⟩ := hrel
   have lF := hD.out.lF
   have lG := hD.out.lG
   by_cases hend : F <= 1 ∧ G <= 1
   ·have t5 : decide ((1 : Int) < (F : Int)) = false := by simp; omega
    have t6 : decide ((1 : Int) < (G : Int)) = false := by simp; omega
    have fin : Hd (DTold vars ns f g b true) := ⟨.inr ⟨hfg, rfl, hD.out.fin hend.1 hend.2⟩⟩
    go_wp2_with fail
    go_ret3
    exact ⟨b, true, rfl, fin, hA, hK⟩
   ·obtain ⟨cap, c0, c1, c2, c3, cf, cn⟩ := hA.reads
    obtain ⟨n0, n1, n2⟩ := cn F lF
    obtain ⟨m0, m1, m2⟩ := cn G lG
    have hvm : min (nv ns F) (nv ns G) < vars := by
     by_cases q : 2 <= F
     ·have := wf.va F q lF; omega
     ·have := wf.va G (by omega) lG; omega
    have hmn : ∀ (ts : Array TypeId) (t : TypeId) (W : World), (Builtin.min_ ts t #[.int .i64 (nv ns F : Int), .int .i64 (nv ns G : Int)]).run Tryz.prog W = .ok (.int .i64 ((min (nv ns F) (nv ns G) : Nat) : Int)) W := fun ts t W => run_min2D _ _ ts t W
    obtain ⟨v, hv⟩ : ∃ v, min (nv ns F) (nv ns G) = v := ⟨_, rfl⟩
    rw [hv] at hvm
    simp only [hv] at hmn
    have hv' := Hd.mk hv
    have tw : (decide ((1 : Int) < (F : Int)) = true) ∨ (decide ((1 : Int) < (F : Int)) = false ∧ decide ((1 : Int) < (G : Int)) = true) := by simp; omega
    clear hv n1 n2 m1 m2 cn
    have v16' : v <= 16 := by omega
    have P1 : Hd (∀ {W : World}, Ar base a M vars most W ns -> Calls Tryz.prog 34 #[.pointer (some ⟨a, 0, none⟩), .int .i64 (F : Int), .int .i64 (v : Int), .bool false] W fun e w' => e = .returned (.int .i64 (partOf ns F v false : Int)) ∧ Ar base a M vars most w' ns ∧ Kp (ca base a M vars most) W w') := ⟨fun h => apart_ok h false lF v16'⟩
    have P2 : Hd (∀ {W : World}, Ar base a M vars most W ns -> Calls Tryz.prog 34 #[.pointer (some ⟨a, 0, none⟩), .int .i64 (G : Int), .int .i64 (v : Int), .bool false] W fun e w' => e = .returned (.int .i64 (partOf ns G v false : Int)) ∧ Ar base a M vars most w' ns ∧ Kp (ca base a M vars most) W w') := ⟨fun h => apart_ok h false lG v16'⟩
    have P3 : Hd (∀ {W : World}, Ar base a M vars most W ns -> Calls Tryz.prog 34 #[.pointer (some ⟨a, 0, none⟩), .int .i64 (F : Int), .int .i64 (v : Int), .bool true] W fun e w' => e = .returned (.int .i64 (partOf ns F v true : Int)) ∧ Ar base a M vars most w' ns ∧ Kp (ca base a M vars most) W w') := ⟨fun h => apart_ok h true lF v16'⟩
    have P4 : Hd (∀ {W : World}, Ar base a M vars most W ns -> Calls Tryz.prog 34 #[.pointer (some ⟨a, 0, none⟩), .int .i64 (G : Int), .int .i64 (v : Int), .bool true] W fun e w' => e = .returned (.int .i64 (partOf ns G v true : Int)) ∧ Ar base a M vars most w' ns ∧ Kp (ca base a M vars most) W w') := ⟨fun h => apart_ok h true lG v16'⟩
    have D1 : Hd (partOf ns F v false ≠ partOf ns G v false -> Dif vars ns f g (partOf ns F v false) (partOf ns G v false) b) := ⟨fun q => hD.out.low wf hvm hv'.out.symm q⟩
    have D2 : Hd (partOf ns F v false = partOf ns G v false -> Dif vars ns f g (partOf ns F v true) (partOf ns G v true) (b + 2 ^ (vars - 1 - v))) := ⟨fun q => hD.out.high wf hvm hv'.out.symm q⟩
    have O1 : Hd (∀ q : Nat, q = 2 ^ (vars - 1 - v) -> Go.bits .or .i64 (b : Int) (q : Int) = ((b + 2 ^ (vars - 1 - v) : Nat) : Int)) := ⟨fun q hq => by
     have hm := hD.out.mul
     rw [hv'.out] at hm
     have h16 : 2 ^ (vars - 1 - v) <= 2 ^ 16 := Nat.pow_le_pow_right (by omega) (by omega)
     have hb := hD.out.lt
     rw [intBits_orD b q (by omega) (by omega), hq, or_add hvm hm]⟩
    have MS : Hd (∀ val, partOf ns F v val + partOf ns G v val < F + G) := ⟨fun val => by
     have a1 := partOf_le wf lF hvm val
     have a2 := partOf_le wf lG hvm val
     have a3 := hv'.out
     omega⟩
    have lo : Hd (partOf ns F v false + partOf ns G v false < F + G) := ⟨MS.out false⟩
    have up : Hd (partOf ns F v true + partOf ns G v true < F + G) := ⟨MS.out true⟩
    clear MS
    generalize partOf ns F v false = lf at *
    generalize partOf ns G v false = lg at *
    generalize partOf ns F v true = uf at *
    generalize partOf ns G v true = ug at *
    generalize b + 2 ^ (vars - 1 - v) = b2 at *
    generalize rowOf wr a = gr at *
    have hAd : Ar base a M vars most wr.drew ns := hA.same rfl rfl rfl
    have hKd : Kp (ca base a M vars most) w' wr.drew := hK.drew
    clear hK hA
    by_cases hlg : lf = lg
    ·subst hlg
     rcases tw with t5 | ⟨t5, t6⟩
     all_goals
      go_wp2_with fail
      go_region
      go_wp2_with fail
      refine (P1.out hAd).mono ?_
      rintro e w1 ⟨rfl, A1, K1⟩
      go_wp2_with fail
      refine (P2.out A1).mono ?_
      rintro e w2 ⟨rfl, A2, K2⟩
      go_wp2_with fail
      refine (P3.out A2).mono ?_
      rintro e w3 ⟨rfl, A3, K3⟩
      go_wp2_with fail
      refine (P4.out A3).mono ?_
      rintro e w4 ⟨rfl, A4, K4⟩
      go_wp2_with fail
      refine (bit_q A4 hvm).mono ?_
      rintro e w5 ⟨q, rfl, hq, rfl⟩
      have hor := O1.out q hq.out
      go_wp2_with fail
      go_roundw
      case rel => exact ⟨uf, ug, b2, rfl, rfl, rfl, ⟨D2.out (by first | trivial | rfl)⟩, A4, (((hKd.trans K1).trans K2).trans K3).trans K4⟩
      case measure => have := up.out; simp [intOf]; omega
    ·have tne : ((lf : Int) != (lg : Int)) = true := by simp; omega
     rcases tw with t5 | ⟨t5, t6⟩
     all_goals
      go_wp2_with fail
      go_region
      go_wp2_with fail
      refine (P1.out hAd).mono ?_
      rintro e w1 ⟨rfl, A1, K1⟩
      go_wp2_with fail
      refine (P2.out A1).mono ?_
      rintro e w2 ⟨rfl, A2, K2⟩
      go_wp2_with fail
      go_roundw
      case rel => exact ⟨lf, lg, b, rfl, rfl, rfl, ⟨D1.out hlg⟩, A2, (hKd.trans K1).trans K2⟩
      case measure => have := lo.out; simp [intOf]; omega
end
def BPm (base a M most : Nat) (w : World) (ns : List Nd) (xs : List Rl) (e : Ending) (w' : World) : Prop :=
 ∃ ns', Ar base a M 14 most w' ns' ∧ Kp (ca base a M 14 most) w w' ∧ Ext ns ns' ∧
   ((∃ f : Nat, e = .returned (.tuple #[.int .i64 (f : Int), .int .i64 0]) ∧ f < ns'.length ∧ ∀ x, ev ns' f x = letsF xs x) ∨ e = .returned (.tuple #[.int .i64 0, .int .i64 6]))
theorem abuild_m {base a M most : Nat} {w : World} {ns : List Nd} (h : Ar base a M 14 most w ns) (A : Option Addr) (n cap : Nat) (xs : List Rl) (hR : Rules w.heap.size w (.slice A n cap) xs) (hlen : xs.length <= 8) :
  Calls Tryz.prog 10 #[.pointer (some ⟨a, 0, none⟩), .slice A n cap] w (BPm base a M most w ns xs) := by
 have hn : n = xs.length := by
  obtain ⟨_, _, e, _⟩ := hR
  cases e
  rfl
 have CK : Hid (∀ w, Calls Tryz.prog 7 #[.slice A n cap] w fun e w' => e = .returned (.int .i64 0) ∧ w' = w) := fun w => by
  have := check_ok A n cap w
  rw [if_neg (by omega)] at this
  exact this
 have NW : Hid (Calls Tryz.prog 19 #[.int .i64 14, .int .i64 40000] w fun e w' => ∃ a2 M2, e = .returned (.tuple #[.pointer (some ⟨a2, 0, none⟩), .int .i64 0]) ∧ Ar w.heap.size a2 M2 14 40000 w' [(14, 0, 0), (14, 1, 1)] ∧ Below w.heap.size w w') := new_ok (v := 14) (m := 40000) w (by omega) (by omega) (by omega) (by omega)
 clear hn
 go_enter Tryz.func10, Tryz.ntmps10
 go_wp2_with (go_at_call 7; refine (CK.out _).mono ?_; rintro e w' ⟨rfl, rfl⟩)
 refine NW.out.mono ?_
 rintro e w2 ⟨a2, M2, rfl, A2, hb2⟩
 have JO : Hid (Calls Tryz.prog 23 #[.pointer (some ⟨a2, 0, none⟩), .slice A n cap] w2 fun e w' => ∃ ns', Ar _ a2 M2 14 40000 w' ns' ∧ Below _ w2 w' ∧
   ((∃ f : Nat, e = .returned (.tuple #[.int .i64 (f : Int), .int .i64 0]) ∧ f < ns'.length ∧ ∀ x, ev ns' f x = letsF xs x) ∨ (e = .returned (.tuple #[.int .i64 0, .int .i64 6]) ∧ _))) := join_ok A2 A n cap xs (hR.below hb2) hlen
 clear CK NW
 go_wp2_with fail
 refine JO.out.mono ?_
 rintro e w3 ⟨ns3, A3, hb3, hres⟩
 have D3 := hb2.trans hb3
 have H3 := h.below D3
 have K3 := h.kbelow D3
 clear JO hb2 hb3 A2
 rcases hres with ⟨f, rfl, lf, ef⟩ | ⟨rfl, _⟩
 ·obtain ⟨_, _, _, rl⟩ := h.row
  have hrow := rowOf_same (D3.block a h.lta)
  have TK : Hid (Calls Tryz.prog 24 #[.pointer (some ⟨a, 0, none⟩), .pointer (some ⟨a2, 0, none⟩), .int .i64 (f : Int)] w3 (OpPost base a M 14 most w3 ns (2 ^ 14 - 1) fun q => ev ns3 f q)) := take_ok H3 A3 (Nat.le_refl _) h.lta h.ltM (by rw [hrow]; exact rl) lf
  clear hrow rl A3
  go_wp2_with fail
  refine TK.out.mono ?_
  rintro e w4 hp
  obtain ⟨ns4, v4, er4, rfl, A4, K4, X4, _, d4⟩ := hp.pair
  have KK := K3.trans K4
  clear hp TK H3 K3 K4 D3
  have fin : Hid (BPm base a M most w' ns xs (.returned (.tuple #[.int .i64 v4, .int .i64 er4])) w4) := by
   rcases d4.out with ⟨rfl, f4, rfl, l4, e4⟩ | ⟨rfl, rfl, _⟩
   ·exact ⟨ns4, A4, KK, X4, .inl ⟨f4, rfl, l4, fun x => (e4 x).trans (ef x)⟩⟩
   ·exact ⟨ns4, A4, KK, X4, .inr rfl⟩
  clear d4 A4 KK X4 ef
  go_wp2_with fail
  go_ret2
  exact fin.out
 ·have fin : Hid (BPm base a M most w' ns xs (.returned (.tuple #[.int .i64 0, .int .i64 6])) w3) := ⟨ns, H3, K3, Ext.refl _, .inr rfl⟩
  clear H3 K3 D3 A3
  go_wp2_with fail
  go_ret2
  exact fin.out
def SPostD (E : Prop) (base a M most : Nat) (φ : Env -> Bool) (w : World) (ns : List Nd) (e : Ending) (w' : World) : Prop :=
 ∃ (ns' : List Nd) (v er : Int), e = .returned (.tuple #[.int .i64 v, .int .i64 er]) ∧ Ar base a M 14 most w' ns' ∧ Kp (ca base a M 14 most) w w' ∧ Ext ns ns' ∧
   Hd ((er = 0 ∧ ∃ f : Nat, v = (f : Int) ∧ f < ns'.length ∧ ∀ x, ev ns' f x = φ x) ∨ (er = 6 ∧ v = 0 ∧ E))
theorem BPm.set {base a M most : Nat} {w w' : World} {ns : List Nd} {xs : List Rl} {e : Ending} (h : BPm base a M most w ns xs e w') : SPostD True base a M most (letsF xs) w ns e w' := by
 obtain ⟨ns', r1, r2, r3, ⟨f, e1, e2, e3⟩ | e1⟩ := h
 ·exact ⟨ns', f, 0, e1, r1, r2, r3, ⟨Or.inl ⟨rfl, f, rfl, e2, e3⟩⟩⟩
 ·exact ⟨ns', 0, 6, e1, r1, r2, r3, ⟨Or.inr ⟨rfl, rfl, trivial⟩⟩⟩
theorem of_any (c : Nat) (w : World) (hc : c < 16384) :
  Calls Tryz.prog 21 #[.int .i64 (c : Int)] w fun e w' => e = .returned (.tuple #[pk ((c / 1024 : Nat) : Int) ((c / 64 % 16 : Nat) : Int) ((c / 8 % 8 : Nat) : Int) ((c % 8 : Nat) : Int), .int .i64 0]) ∧ Below w.heap.size w w' := by
 have t1 : decide ((c : Int) < 0) = false := by simp
 have t2 : decide ((16384 : Int) <= (c : Int)) = false := by simp; omega
 go_enter Tryz.func21, Tryz.ntmps21
 go_wp2_with fail
 exact bodyPost_ret (v := .tuple #[pk ((c / 1024 : Nat) : Int) ((c / 64 % 16 : Nat) : Int) ((c / 8 % 8 : Nat) : Int) ((c % 8 : Nat) : Int), .int .i64 0]) (by simp [results, Tryz.results21, go_sem]) rfl ⟨rfl, by go_grown⟩
theorem Ar.locOld {base a M vars most : Nat} {w : World} {ns : List Nd} (h : Ar base a M vars most w ns) {i : Nat} {cs : Array Value} {t : TypeId} (hi : i < base) (hb : w.heap[i]? = some (.cells cs t)) : Loc (ca base a M vars most) w i cs t := by
 obtain ⟨_, _, rb, _⟩ := h.row
 refine ⟨⟨(Array.getElem?_eq_some_iff.1 hb).1, ?_, by show i ≠ rowOf w a; omega⟩, hb⟩
 exact h.notMine hi
theorem Loc.four' {C : Cfg} {w : World} {i : Nat} {x y z u : Value} {t : TypeId} (h : Loc C w i #[x, y, z, u] t) : (w.cell? ⟨i, 0, none⟩ = some x ∧ w.cell? ⟨i, 1, none⟩ = some y ∧ w.cell? ⟨i, 2, none⟩ = some z ∧ w.cell? ⟨i, 3, none⟩ = some u) ∧ (∀ j, w.frozen? ⟨i, j, none⟩ = false) ∧ i < w.heap.size := by
 have hb := h.blk
 refine ⟨⟨?_, ?_, ?_, ?_⟩, fun j => by simp [World.frozen?, hb], h.out.lt⟩
 ·rw [cell_of_row w i 0 _ _ _ hb]; rfl
 ·rw [cell_of_row w i 1 _ _ _ hb]; rfl
 ·rw [cell_of_row w i 2 _ _ _ hb]; rfl
 ·rw [cell_of_row w i 3 _ _ _ hb]; rfl
abbrev zp : Value := .agg #[.int .i64 0, .int .i64 0, .int .i64 0, .int .i64 0]
abbrev zc : Obj := .cells #[.int .i64 0, .int .i64 0, .int .i64 0, .int .i64 0] 28
def BtPost (E : Prop) (φ ψ : Env -> Bool) (e : Ending) : Prop :=
 (e = .returned (.tuple #[zp, .int .i64 0, .int .i64 6]) ∧ E) ∨
 (e = .returned (.tuple #[zp, .int .i64 0, .int .i64 0]) ∧ ∀ x, φ x = ψ x) ∨
 ∃ c : Nat, e = .returned (.tuple #[pk ((c / 1024 : Nat) : Int) ((c / 64 % 16 : Nat) : Int) ((c / 8 % 8 : Nat) : Int) ((c % 8 : Nat) : Int), .int .i64 (if φ (envOf 14 c) then 1 else 2), .int .i64 0]) ∧ LeastD 16384 (fun c => φ (envOf 14 c)) (fun c => ψ (envOf 14 c)) c
def Bk (w : World) (k : Nat) (c : Array Value) (t : TypeId) : Prop := w.heap[k]? = some (.cells c t (0, 0))
section
variable {w w' : World} {k : Nat} {c : Array Value} {t : TypeId}
theorem Bk.lt (h : Bk w k c t) : k < w.heap.size := (Array.getElem?_eq_some_iff.1 h).1
theorem Bk.below {B : Nat} (h : Bk w k c t) (hb : Below B w w') (hk : k < B) : Bk w' k c t := (hb.block k hk).trans h
theorem Bk.keep (hb : Below w.heap.size w w') (h : Bk w k c t) : Bk w' k c t := h.below hb h.lt
theorem Bk.alloc (h : Bk w k c t) (o : Obj) : Bk (w.alloc o) k c t := h.below ((Below.refl _ _).alloc (Nat.le_refl _) o) h.lt
theorem Bk.drew (h : Bk w k c t) : Bk w.drew k c t := h
theorem bk_new (w : World) (c : Array Value) (t : TypeId) : Bk (w.alloc (.cells c t)) w.heap.size c t := by
 show (w.heap.push _)[w.heap.size]? = _
 simp
theorem bk_new' (w : World) (c : Array Value) (t : TypeId) (k : Nat) (h : k = w.heap.size) : Bk (w.alloc (.cells c t)) k c t := by rw [h]; exact bk_new w c t
theorem Bk.at (h : Bk w k c t) (j : Nat) : w.cell? ⟨k, j, none⟩ = c[j]? := cell_of_row w k j _ _ _ h
theorem Bk.fz (h : Bk w k c t) (j : Nat) : w.frozen? ⟨k, j, none⟩ = false := by
 unfold Bk at h
 simp [World.frozen?, h]
end
structure Put (k : Nat) (w w' : World) : Prop where
 os : w'.os = w.os
 tape : w'.tape = w.tape
 output : w'.output = w.output
 size : w'.heap.size = w.heap.size
 block : ∀ b, b ≠ k -> w'.heap[b]? = w.heap[b]?
theorem Bk.setO {w : World} {k b j : Nat} {c : Array Value} {t : TypeId} (h : Bk w k c t) (hne : k ≠ b) (u : Value) : Bk (w.setCell ⟨b, j, none⟩ u) k c t := (Below.heap_setCell w ⟨b, j, none⟩ u k hne).trans h
theorem Bk.setS {w : World} {k j : Nat} {c : Array Value} {t : TypeId} (h : Bk w k c t) (u : Value) : Bk (w.setCell ⟨k, j, none⟩ u) k (c.setIfInBounds j u) t := by
 unfold Bk at *
 simp [World.setCell, Array.getElem?_modify, h]
theorem Bk.four {w : World} {k : Nat} {t : TypeId} {a b c d : Value} (h : Bk w k #[a, b, c, d] t) : w.cell? ⟨k, 0, none⟩ = some a ∧ w.cell? ⟨k, 1, none⟩ = some b ∧ w.cell? ⟨k, 2, none⟩ = some c ∧ w.cell? ⟨k, 3, none⟩ = some d ∧ w.frozen? ⟨k, 0, none⟩ = false ∧ w.frozen? ⟨k, 1, none⟩ = false ∧ w.frozen? ⟨k, 2, none⟩ = false ∧ w.frozen? ⟨k, 3, none⟩ = false := ⟨h.at 0, h.at 1, h.at 2, h.at 3, h.fz 0, h.fz 1, h.fz 2, h.fz 3⟩
theorem Bk.one {w : World} {k : Nat} {t : TypeId} {a : Value} (h : Bk w k #[a] t) : w.cell? ⟨k, 0, none⟩ = some a ∧ w.frozen? ⟨k, 0, none⟩ = false := ⟨h.at 0, h.fz 0⟩
theorem Bk.two {w : World} {k : Nat} {t : TypeId} {a b : Value} (h : Bk w k #[a, b] t) : w.cell? ⟨k, 0, none⟩ = some a ∧ w.cell? ⟨k, 1, none⟩ = some b := ⟨h.at 0, h.at 1⟩
theorem nodup_lt : ∀ (n : Nat) (l : List Nat), l.Nodup -> (∀ x ∈ l, x < n) -> l.length <= n
 | 0, l, _, h => by
   cases l with
   | nil => simp
   | cons a l => exact absurd (h a (by simp)) (by omega)
 | n + 1, l, hn, h => by
   have h1 := nodup_lt n (l.erase n) (hn.erase n) (fun x hx => by
    have := (List.Nodup.mem_erase_iff hn).1 hx
    have := h x this.2
    omega)
   by_cases hm : n ∈ l
   ·rw [List.length_erase_of_mem hm] at h1
    omega
   ·rw [List.erase_of_not_mem hm] at h1
    omega
end Go.Proofs.YtmcklkkkkigflaaGreat
