/-
  XAF.
-/
import Derived.Test.YtmcklkkkkigflaaGreatXAD
import Derived.Test.YtmcklkkkkigflaaGreatXAE
import Derived.Test.YtmcklkkkkigflaaGreatProg
import Derived.WalkKit
import Derived.WalkSpells
import Derived.WalkLawsBesides
import Derived.Handy
import Derived.BigQuiet
import Derived.Deep.QuietTactic
import Derived.Deep.RegionHeld3
import Derived.Deep.DeepCutAuto
import Derived.ProofKit
import Derived.OpenShut
import Derived.Deep.Slices
set_option maxHeartbeats 8000000
set_option maxRecDepth 100000
namespace Go.Proofs.YtmcklkkkkigflaaGreat
open Go.RowKit Go.Maps
def Bz (W : World) (k : Nat) (c : Array Value) (t : TypeId) : Prop := W.heap[k]? = some (.cells c t (0, 0))
theorem Bz.lt {W : World} {k : Nat} {c : Array Value} {t : TypeId} (h : Bz W k c t) : k < W.heap.size := (Array.getElem?_eq_some_iff.1 h).1
theorem Bz.cell {W : World} {k : Nat} {c : Array Value} {t : TypeId} (h : Bz W k c t) (j : Nat) (v : Value) (hj : c[j]? = some v) : W.cell? ⟨k, j, none⟩ = some v := by
 unfold Bz at h
 simp [World.cell?, h, hj]
theorem Bz.free {W : World} {k : Nat} {c : Array Value} {t : TypeId} (h : Bz W k c t) (j : Nat) : W.frozen? ⟨k, j, none⟩ = false := by unfold Bz at h; simp [World.frozen?, h]
theorem Bz.set {W : World} {k j : Nat} {c : Array Value} {t : TypeId} (h : Bz W k c t) (u : Value) : Bz (W.setCell ⟨k, j, none⟩ u) k (c.setIfInBounds j u) t := by
 unfold Bz at *
 simp [World.setCell, Array.getElem?_modify, h]
theorem Bz.new (w : World) (c : Array Value) (t : TypeId) (k : Nat) (h : k = w.heap.size) : Bz (w.alloc (.cells c t)) k c t := by subst h; exact Go.heap_alloc_new w _
structure Bn (base q a M : Nat) (w0 w : World) (ns : List Nd) (er : Int) : Prop where
 ar : Ar base a M 14 40000 w ns
 blk : Bz w q #[.pointer (some ⟨a, 0, none⟩), .int .i64 er] 153
 lo : base <= q
 er6 : er = 0 ∨ er = 6
 bel : Below base w0 w
def Fn (ns : List Nd) (er : Int) (f : Nat) (φ : Env -> Bool) : Prop := f < ns.length ∧ (er = 0 -> ∀ x, ev ns f x = φ x)
def OPost (base a M : Nat) (w : World) (ns : List Nd) (g : Nat) (φ : Env -> Bool) (e : Ending) (w' : World) : Prop :=
 ∃ (ns' : List Nd) (v er : Int), e = .returned (.tuple #[.int .i64 v, .int .i64 er]) ∧ Ar base a M 14 40000 w' ns' ∧ Kp (ca base a M 14 40000) w w' ∧ Ext ns ns' ∧ ns'.length <= ns.length + g ∧
   Hid ((er = 0 ∧ ∃ f : Nat, v = (f : Int) ∧ f < ns'.length ∧ ∀ x, ev ns' f x = φ x) ∨ (er = 6 ∧ v = 0 ∧ 40000 <= ns.length + g))
theorem OpPost.o {base a M : Nat} {w w' : World} {ns : List Nd} {g : Nat} {φ : Env -> Bool} {e : Ending} (h : OpPost base a M 14 40000 w ns g φ e w') : OPost base a M w ns g φ e w' := by
 obtain ⟨ns', r1, r2, r3, r4, ⟨f, e1, e2⟩ | ⟨e1, e2⟩⟩ := h
 ·exact ⟨ns', f, 0, e1, r1, r2, r3, r4, Or.inl ⟨rfl, f, rfl, e2⟩⟩
 ·exact ⟨ns', 0, 6, e1, r1, r2, r3, r4, Or.inr ⟨rfl, rfl, by omega⟩⟩
theorem MkPost.o {base a M : Nat} {w w' : World} {ns : List Nd} {g i : Nat} {φ : Env -> Bool} {e : Ending} (h : MkPost base a M 14 40000 w ns g i φ e w') : OPost base a M w ns g φ e w' := by
 obtain ⟨ns', r1, r2, r3, r4, ⟨f, e1, e2, e3, e4⟩ | ⟨e1, e2⟩⟩ := h
 ·exact ⟨ns', f, 0, e1, r1, r2, r3, r4, Or.inl ⟨rfl, f, rfl, e2, e4⟩⟩
 ·exact ⟨ns', 0, 6, e1, r1, r2, r3, r4, Or.inr ⟨rfl, rfl, by omega⟩⟩
theorem BPost.o {base a M : Nat} {w w' : World} {ns : List Nd} {xs : List Rl} {e : Ending} (h : BPost True base a M w ns xs e w') : OPost base a M w ns 40000 (letsF xs) e w' := by
 obtain ⟨ns', r1, r2, r3, ⟨f, e1, e2⟩ | ⟨e1, e2⟩⟩ := h
 ·have := r1.le
  exact ⟨ns', f, 0, e1, r1, r2, r3, by omega, Or.inl ⟨rfl, f, rfl, e2⟩⟩
 ·have := r1.le
  exact ⟨ns', 0, 6, e1, r1, r2, r3, by omega, Or.inr ⟨rfl, rfl, by omega⟩⟩
def okT (t : TypeId) : Prop := (t ≠ 75 ∧ t ≠ 78) ∧ t ≠ 94 ∧ t ≠ 153
instance (t : TypeId) : Decidable (okT t) := by unfold okT; infer_instance
def TF (w w' : World) : Prop := ∀ i c t, Bz w i c t -> okT t -> Bz w' i c t
theorem TF.refl (w : World) : TF w w := fun _ _ _ h _ => h
theorem TF.trans {w w1 w2 : World} (h : TF w w1) (k : TF w1 w2) : TF w w2 := fun i c t hb ht => k i c t (h i c t hb ht) ht
theorem TF.below {w w' : World} (h : Below w.heap.size w w') : TF w w' := fun i _ _ hb _ => (h.block i hb.lt).trans hb
def BOut (base q a M : Nat) (w0 w : World) (ns : List Nd) (er : Int) (g : Nat) (φ : Env -> Bool) (e : Ending) (w' : World) : Prop :=
 ∃ (f : Nat) (ns' : List Nd) (er' : Int), e = .returned (.int .i64 (f : Int)) ∧ (Bn base q a M w0 w' ns' er' ∧ TF w w') ∧ Ext ns ns' ∧ (er' = 0 -> er = 0) ∧ Fn ns' er' f φ ∧ Hid (er = 0 -> ns'.length <= ns.length + g ∧ (er' ≠ 0 -> 40000 <= ns.length + g))
section
variable {base q a M : Nat} {w0 w w1 : World} {ns ns' : List Nd} {er er' : Int}
theorem Fn.step {f : Nat} {φ : Env -> Bool} (h : Fn ns er f φ) (A : Wf 14 ns) (A' : Wf 14 ns') (X : Ext ns ns') (he : er' = 0 -> er = 0) : Fn ns' er' f φ := by
 have := X.len
 exact ⟨by have := h.1; omega, fun e x => by rw [X.ev A A' f h.1]; exact h.2 (he e) x⟩
theorem Bn.keep (h : Bn base q a M w0 w ns er) (k : Kp (ca base a M 14 40000) w w1) : Bz w1 q #[.pointer (some ⟨a, 0, none⟩), .int .i64 er] 153 := ((h.ar.outBox h.blk (by decide) (by decide)).kp k).blk
theorem Ar.setQ {er2 : Value} {c : Array Value} (A : Ar base a M 14 40000 w ns) (hq : Bz w q c 153) : Ar base a M 14 40000 (w.setCell ⟨q, 1, none⟩ er2) ns := by
 have L := (A.outBox hq (by decide) (by decide)).out
 refine A.same (Below.heap_setCell w _ _ _ (fun e => L.not (Or.inl e.symm))) (Below.heap_setCell w _ _ _ (fun e => L.not (Or.inr (Or.inr (Or.inl e.symm))))) (Below.heap_setCell w _ _ _ (fun e => L.ne e.symm))
theorem keep_b (hq : Bz w q #[.pointer (some ⟨a, 0, none⟩), .int .i64 er] 153) (v e2 : Int) :
  Calls Tryz.prog 102 #[.pointer (some ⟨q, 0, none⟩), .int .i64 v, .int .i64 e2] w fun e w' => e = .returned (.int .i64 v) ∧ w' = if er = 0 then w.setCell ⟨q, 1, none⟩ (.int .i64 e2) else w := by
 have c1 := hq.cell 1 _ rfl
 have f1 := hq.free 1
 by_cases h : er = 0
 ·subst h
  rw [if_pos rfl]
  go_enter Tryz.func102, Tryz.ntmps102
  go_wp2_with fail
  go_ret
  exact ⟨rfl, rfl⟩
 ·have hb : (er == 0) = false := by simpa using h
  rw [if_neg h]
  go_enter Tryz.func102, Tryz.ntmps102
  go_wp2_with fail
  go_ret
  exact ⟨rfl, rfl⟩
theorem Bn.fin {g : Nat} {φ : Env -> Bool} {v e2 : Int} {w2 : World} (h : Bn base q a M w0 w ns er) (A1 : Ar base a M 14 40000 w1 ns') (k : Kp (ca base a M 14 40000) w w1) (X : Ext ns ns') (l : ns'.length <= ns.length + g)
  (hv : Hid ((e2 = 0 ∧ ∃ f : Nat, v = (f : Int) ∧ f < ns'.length ∧ ∀ x, ev ns' f x = φ x) ∨ (e2 = 6 ∧ v = 0 ∧ 40000 <= ns.length + g))) (hw : w2 = if er = 0 then w1.setCell ⟨q, 1, none⟩ (.int .i64 e2) else w1) : BOut base q a M w0 w ns er g φ (.returned (.int .i64 v)) w2 := by
 have hq := h.keep k
 have bl := h.bel.trans (h.ar.kp_below k)
 have hlen := A1.wf.len
 have tf1 : TF w w1 := fun i c t hb ht => ((h.ar.outBox hb ht.1 ht.2.1).kp k).blk
 have hvv : ∃ f : Nat, v = (f : Int) ∧ f < ns'.length ∧ (e2 = 0 -> ∀ x, ev ns' f x = φ x) ∧ (e2 = 0 ∨ e2 = 6) ∧ (e2 ≠ 0 -> 40000 <= ns.length + g) := by
  rcases hv.out with ⟨rfl, f, rfl, h1, h2⟩ | ⟨rfl, rfl, h3⟩
  ·exact ⟨f, rfl, h1, fun _ => h2, .inl rfl, fun h => absurd rfl h⟩
  ·exact ⟨0, rfl, by omega, fun h => by omega, .inr rfl, fun _ => h3⟩
 obtain ⟨f, rfl, h1, h2, h3, h4⟩ := hvv
 by_cases he : er = 0
 ·subst he
  rw [if_pos rfl] at hw
  subst hw
  exact ⟨f, ns', e2, rfl, ⟨⟨A1.setQ hq, hq.set (j := 1) _, h.lo, h3, bl.setCell (p := ⟨q, 1, none⟩) h.lo _⟩, fun i c t hb ht => (Below.heap_setCell w1 _ _ _ (fun e => by
   have e' : i = q := e
   have hb1 := tf1 i c t hb ht
   unfold Bz at hb1 hq
   rw [e', hq] at hb1
   simp only [Option.some.injEq, Obj.cells.injEq] at hb1
   exact ht.2.2 hb1.2.1.symm)).trans (tf1 i c t hb ht)⟩, X, fun _ => rfl, ⟨h1, h2⟩, fun _ => ⟨l, h4⟩⟩
 ·rw [if_neg he] at hw
  subst hw
  exact ⟨f, ns', er, rfl, ⟨⟨A1, hq, h.lo, h.er6, bl⟩, tf1⟩, X, id, ⟨h1, fun e => absurd e he⟩, fun e => absurd e he⟩
theorem newBench_b (w : World) : Calls Tryz.prog 77 #[] w fun e w' => ∃ q a M, e = .returned (.tuple #[.pointer (some ⟨q, 0, none⟩), .int .i64 0]) ∧ Bn w.heap.size q a M w w' [(14, 0, 0), (14, 1, 1)] 0 := by
 have NW : Hid (Calls Tryz.prog 19 #[.int .i64 14, .int .i64 40000] w fun e w' => ∃ a M, e = .returned (.tuple #[.pointer (some ⟨a, 0, none⟩), .int .i64 0]) ∧ Ar w.heap.size a M 14 40000 w' [(14, 0, 0), (14, 1, 1)] ∧ Below w.heap.size w w') := new_ok (v := 14) (m := 40000) w (by omega) (by omega) (by omega) (by omega)
 go_enter Tryz.func77, Tryz.ntmps77
 go_wp2_with fail
 refine NW.out.mono ?_
 rintro e w1 ⟨a, M, rfl, A1, hb1⟩
 have hfin : Bn w.heap.size w1.heap.size a M w (w1.alloc (.cells #[.pointer (some ⟨a, 0, none⟩), .int .i64 0] 153)) [(14, 0, 0), (14, 1, 1)] 0 := ⟨A1.alloc _, Bz.new w1 _ _ _ rfl, hb1.size, .inl rfl, hb1.alloc hb1.size _⟩
 clear NW A1 hb1
 go_wp2_with fail
 go_ret2
 exact ⟨_, _, _, rfl, hfin⟩
end
section
variable {base q a M : Nat} {w0 w : World} {ns : List Nd} {er : Int}
theorem BOut.bad {g g' : Nat} {φ φ' : Env -> Bool} {e : Ending} {w' : World} (he : er ≠ 0) (h : BOut base q a M w0 w ns er g φ e w') : BOut base q a M w0 w ns er g' φ' e w' := by
 obtain ⟨f, ns', er', h1, h2, h3, h4, h5, _⟩ := h
 exact ⟨f, ns', er', h1, h2, h3, h4, ⟨h5.1, fun e => absurd (h4 e) he⟩, fun e => absurd e he⟩
theorem BOut.of {g : Nat} {φ ψ : Env -> Bool} {e : Ending} {w' : World} (h : BOut base q a M w0 w ns er g φ e w') (hq : er = 0 -> ∀ x, φ x = ψ x) : BOut base q a M w0 w ns er g ψ e w' := by
 obtain ⟨f, ns', er', h1, h2, h3, h4, h5, h6⟩ := h
 exact ⟨f, ns', er', h1, h2, h3, h4, ⟨h5.1, fun e x => (h5.2 e x).trans (hq (h4 e) x)⟩, h6⟩
theorem BOut.seq {w1 : World} {ns1 : List Nd} {er1 : Int} {g1 g2 : Nat} {φ : Env -> Bool} {e : Ending} {w' : World} (X : Ext ns ns1) (he : er1 = 0 -> er = 0) (hg : Hid (er = 0 -> ns1.length <= ns.length + g1 ∧ (er1 ≠ 0 -> 40000 <= ns.length + g1))) (tf : TF w w1) (h : BOut base q a M w0 w1 ns1 er1 g2 φ e w') : BOut base q a M w0 w ns er (g1 + g2) φ e w' := by
 obtain ⟨f, ns', er', h1, h2, h3, h4, h5, h6⟩ := h
 refine ⟨f, ns', er', h1, ⟨h2.1, tf.trans h2.2⟩, X.trans h3, fun e => he (h4 e), h5, fun e0 => ?_⟩
 have a1 := hg.out e0
 have a2 := h2.1.ar.le
 by_cases e1 : er1 = 0
 ·have a3 := h6.out e1
  refine ⟨by omega, fun e2 => ?_⟩
  have := a3.2 e2
  omega
 ·have := a1.2 e1
  exact ⟨by omega, fun _ => by omega⟩
theorem BOut.from {w1 : World} {g : Nat} {φ : Env -> Bool} {e : Ending} {w' : World} (tf : TF w w1) (h : BOut base q a M w0 w1 ns er g φ e w') : BOut base q a M w0 w ns er g φ e w' := by
 obtain ⟨f, ns', er', h1, h2, h3⟩ := h
 exact ⟨f, ns', er', h1, ⟨h2.1, tf.trans h2.2⟩, h3⟩
theorem BOut.more {g g' : Nat} {φ : Env -> Bool} {e : Ending} {w' : World} (h : BOut base q a M w0 w ns er g φ e w') (hg : g <= g') : BOut base q a M w0 w ns er g' φ e w' := by
 obtain ⟨f, ns', er', h1, h2, h3, h4, h5, h6⟩ := h
 refine ⟨f, ns', er', h1, h2, h3, h4, h5, fun e0 => ?_⟩
 have := h6.out e0
 exact ⟨by omega, fun e1 => by have := this.2 e1; omega⟩
theorem and_w (h : Bn base q a M w0 w ns er) {f g : Nat} {g0 : Nat} {χ : Env -> Bool} (OP : Hid (Calls Tryz.prog 143 #[.pointer (some ⟨a, 0, none⟩), .int .i64 (f : Int), .int .i64 (g : Int)] w (OPost base a M w ns g0 χ))) :
  Calls Tryz.prog 127 #[.pointer (some ⟨q, 0, none⟩), .int .i64 (f : Int), .int .i64 (g : Int)] w (BOut base q a M w0 w ns er g0 χ) := by
 have c0 := h.blk.cell 0 _ rfl
 go_enter Tryz.func127, Tryz.ntmps127
 go_wp2_with fail
 refine OP.out.mono ?_
 rintro e w1 ⟨ns1, v, e2, rfl, A1, k1, X1, l1, hv⟩
 have KP := Hq.mk (keep_b (h.keep k1) v e2)
 have FN : Hq (∀ w2, w2 = (if er = 0 then w1.setCell ⟨q, 1, none⟩ (.int .i64 e2) else w1) -> BOut base q a M w0 w ns er g0 χ (.returned (.int .i64 v)) w2) := ⟨fun w2 hw => h.fin A1 k1 X1 l1 hv hw⟩
 clear c0 OP A1 k1 X1 l1 hv h
 go_wp2_with fail
 refine KP.out.mono ?_
 rintro e w2 ⟨rfl, hw⟩
 have F2 := FN.out w2 hw
 clear hw FN KP
 go_wp2_with fail
 go_ret
 exact F2
theorem or_w (h : Bn base q a M w0 w ns er) {f g : Nat} {g0 : Nat} {χ : Env -> Bool} (OP : Hid (Calls Tryz.prog 103 #[.pointer (some ⟨a, 0, none⟩), .int .i64 (f : Int), .int .i64 (g : Int)] w (OPost base a M w ns g0 χ))) :
  Calls Tryz.prog 79 #[.pointer (some ⟨q, 0, none⟩), .int .i64 (f : Int), .int .i64 (g : Int)] w (BOut base q a M w0 w ns er g0 χ) := by
 have c0 := h.blk.cell 0 _ rfl
 go_enter Tryz.func79, Tryz.ntmps79
 go_wp2_with fail
 refine OP.out.mono ?_
 rintro e w1 ⟨ns1, v, e2, rfl, A1, k1, X1, l1, hv⟩
 have KP := Hq.mk (keep_b (h.keep k1) v e2)
 have FN : Hq (∀ w2, w2 = (if er = 0 then w1.setCell ⟨q, 1, none⟩ (.int .i64 e2) else w1) -> BOut base q a M w0 w ns er g0 χ (.returned (.int .i64 v)) w2) := ⟨fun w2 hw => h.fin A1 k1 X1 l1 hv hw⟩
 clear c0 OP A1 k1 X1 l1 hv h
 go_wp2_with fail
 refine KP.out.mono ?_
 rintro e w2 ⟨rfl, hw⟩
 have F2 := FN.out w2 hw
 clear hw FN KP
 go_wp2_with fail
 go_ret
 exact F2
theorem take_w (h : Bn base q a M w0 w ns er) {a2 f : Nat} {g0 : Nat} {χ : Env -> Bool} (OP : Hid (Calls Tryz.prog 24 #[.pointer (some ⟨a, 0, none⟩), .pointer (some ⟨a2, 0, none⟩), .int .i64 (f : Int)] w (OPost base a M w ns g0 χ))) :
  Calls Tryz.prog 78 #[.pointer (some ⟨q, 0, none⟩), .pointer (some ⟨a2, 0, none⟩), .int .i64 (f : Int)] w (BOut base q a M w0 w ns er g0 χ) := by
 have c0 := h.blk.cell 0 _ rfl
 go_enter Tryz.func78, Tryz.ntmps78
 go_wp2_with fail
 refine OP.out.mono ?_
 rintro e w1 ⟨ns1, v, e2, rfl, A1, k1, X1, l1, hv⟩
 have KP := Hq.mk (keep_b (h.keep k1) v e2)
 have FN : Hq (∀ w2, w2 = (if er = 0 then w1.setCell ⟨q, 1, none⟩ (.int .i64 e2) else w1) -> BOut base q a M w0 w ns er g0 χ (.returned (.int .i64 v)) w2) := ⟨fun w2 hw => h.fin A1 k1 X1 l1 hv hw⟩
 clear c0 OP A1 k1 X1 l1 hv h
 go_wp2_with fail
 refine KP.out.mono ?_
 rintro e w2 ⟨rfl, hw⟩
 have F2 := FN.out w2 hw
 clear hw FN KP
 go_wp2_with fail
 go_ret
 exact F2
theorem and_b (S : Nat -> Bool) (h : Bn base q a M w0 w ns er) {f g : Nat} {φ ψ : Env -> Bool} (hf : Fn ns er f φ) (hg : Fn ns er g ψ) (hd : er = 0 -> DepS S φ ∧ DepS S ψ) :
  Calls Tryz.prog 127 #[.pointer (some ⟨q, 0, none⟩), .int .i64 (f : Int), .int .i64 (g : Int)] w (BOut base q a M w0 w ns er (2 ^ cnS S 14 0 - 1) (fun x => φ x && ψ x)) := by
 by_cases he : er = 0
 ·have e1 : ev ns f = φ := funext (hf.2 he)
  have e2 : ev ns g = ψ := funext (hg.2 he)
  refine (and_w h (OP := (and_fit S h.ar hf.1 hg.1 (e1 ▸ (hd he).1) (e2 ▸ (hd he).2)).mono fun _ _ hp => hp.o)).mono fun _ _ hp => hp.of fun _ x => ?_
  show (ev ns f x && ev ns g x) = _
  rw [e1, e2]
 ·exact (and_w h (OP := (and_fit (fun _ => true) h.ar hf.1 hg.1 (DepS.all _) (DepS.all _)).mono fun _ _ hp => hp.o)).mono fun _ _ hp => hp.bad he
theorem or_b (S : Nat -> Bool) (h : Bn base q a M w0 w ns er) {f g : Nat} {φ ψ : Env -> Bool} (hf : Fn ns er f φ) (hg : Fn ns er g ψ) (hd : er = 0 -> DepS S φ ∧ DepS S ψ) :
  Calls Tryz.prog 79 #[.pointer (some ⟨q, 0, none⟩), .int .i64 (f : Int), .int .i64 (g : Int)] w (BOut base q a M w0 w ns er (2 ^ cnS S 14 0 - 1) (fun x => φ x || ψ x)) := by
 by_cases he : er = 0
 ·have e1 : ev ns f = φ := funext (hf.2 he)
  have e2 : ev ns g = ψ := funext (hg.2 he)
  refine (or_w h (OP := (or_fit S h.ar hf.1 hg.1 (e1 ▸ (hd he).1) (e2 ▸ (hd he).2)).mono fun _ _ hp => hp.o)).mono fun _ _ hp => hp.of fun _ x => ?_
  show (ev ns f x || ev ns g x) = _
  rw [e1, e2]
 ·exact (or_w h (OP := (or_fit (fun _ => true) h.ar hf.1 hg.1 (DepS.all _) (DepS.all _)).mono fun _ _ hp => hp.o)).mono fun _ _ hp => hp.bad he
theorem take_b (S : Nat -> Bool) (h : Bn base q a M w0 w ns er) {base2 a2 M2 most2 f : Nat} {ns2 : List Nd} (h2 : Ar base2 a2 M2 14 most2 w ns2) (ap : ∀ i, i = a2 ∨ i = M2 ∨ i = rowOf w a2 -> i ≠ a ∧ i ≠ M ∧ i ≠ rowOf w a) (hf : f < ns2.length) (hd : DepS S (ev ns2 f)) :
  Calls Tryz.prog 78 #[.pointer (some ⟨q, 0, none⟩), .pointer (some ⟨a2, 0, none⟩), .int .i64 (f : Int)] w (BOut base q a M w0 w ns er (2 ^ cnS S 14 0 - 1) (ev ns2 f)) :=
 take_w h (OP := (take_fit S h.ar h2 (Nat.le_refl _) ap hf ⟨hd, cnS_anti (Nat.zero_le _)⟩ (Nat.le_trans (cnS_le 0) (by omega))).mono fun _ _ hp => hp.o)
theorem take_old (S : Nat -> Bool) (h : Bn base q a M w0 w ns er) {base2 a2 M2 most2 f : Nat} {ns2 : List Nd} (h2 : Ar base2 a2 M2 14 most2 w ns2) (p1 : a2 < base) (p2 : M2 < base) (p3 : rowOf w a2 < base) (hf : f < ns2.length) (hd : DepS S (ev ns2 f)) :
  Calls Tryz.prog 78 #[.pointer (some ⟨q, 0, none⟩), .pointer (some ⟨a2, 0, none⟩), .int .i64 (f : Int)] w (BOut base q a M w0 w ns er (2 ^ cnS S 14 0 - 1) (ev ns2 f)) :=
 take_b S h h2 (fun i hi => by
  have l1 := h.ar.lowA
  have l2 := h.ar.lowM
  have l3 := h.ar.row.choose_spec.2.1
  rcases hi with rfl | rfl | rfl <;> exact ⟨by omega, by omega, by omega⟩) hf hd
theorem Bn.alloc (h : Bn base q a M w0 w ns er) (o : Obj) : Bn base q a M w0 (w.alloc o) ns er := by
 have hs : base <= w.heap.size := Nat.le_trans h.lo (Nat.le_of_lt h.blk.lt)
 exact ⟨h.ar.alloc o, (Below.heap_alloc w o _ h.blk.lt).trans h.blk, h.lo, h.er6, h.bel.alloc hs o⟩
theorem Bn.drew (h : Bn base q a M w0 w ns er) : Bn base q a M w0 w.drew ns er := ⟨h.ar.drewT, h.blk, h.lo, h.er6, h.bel.drew⟩
theorem Bn.size (h : Bn base q a M w0 w ns er) : base <= w.heap.size := Nat.le_trans h.lo (Nat.le_of_lt h.blk.lt)
theorem keep_far {w1 w2 : World} {e2 : Int} (hw : w2 = if er = 0 then w1.setCell ⟨q, 1, none⟩ (.int .i64 e2) else w1) {i j : Nat} (hi : i ≠ q ∨ j = 0) : w2.cell? ⟨i, j, none⟩ = w1.cell? ⟨i, j, none⟩ := by
 by_cases he : er = 0
 ·rw [if_pos he] at hw
  subst hw
  rcases hi with hi | rfl
  ·exact World.cell?_setCell_far w1 ⟨q, 1, none⟩ ⟨i, j, none⟩ _ (Ne.symm hi)
  ·by_cases hq : i = q
   ·subst hq
    simp only [World.cell?, World.setCell, Array.getElem?_modify]
    simp only [if_true]
    cases h : w1.heap[i]? with
    | none => rfl
    | some o => cases o <;> simp
   ·exact World.cell?_setCell_far w1 ⟨q, 1, none⟩ ⟨i, 0, none⟩ _ (Ne.symm hq)
 ·rw [if_neg he] at hw
  rw [hw]
theorem match_b (h : Bn base q a M w0 w ns er) (sa sb sc sd : Nat) (ha : sa < 65536) (hb : sb < 65536) (hc : sc < 256) (hd : sd < 256) :
  Calls Tryz.prog 133 #[.pointer (some ⟨q, 0, none⟩), mt sa sb sc sd] w (BOut base q a M w0 w ns er 44 (phi sa sb sc sd)) := by
 have h1 := (h.alloc (.cells #[.int .u16 (sa : Int), .int .u16 (sb : Int), .int .u8 (sc : Int), .int .u8 (sd : Int)] 34)).drew
 have BM : Hq (Calls Tryz.prog 37 #[.pointer (some ⟨a, 0, none⟩), mt sa sb sc sd] _ (OPost base a M _ ns 44 (phi sa sb sc sd))) := ⟨(build_match h1.ar (Nat.le_refl _) sa sb sc sd ha hb hc hd).mono fun _ _ hp => hp.o⟩
 have Z : Bz (w.alloc (.cells #[.int .u16 (sa : Int), .int .u16 (sb : Int), .int .u8 (sc : Int), .int .u8 (sd : Int)] 34)).drew w.heap.size #[.int .u16 (sa : Int), .int .u16 (sb : Int), .int .u8 (sc : Int), .int .u8 (sd : Int)] 34 := Bz.new w _ _ _ rfl
 have hzq : w.heap.size ≠ q := fun e => by have := h.blk.lt; omega
 have c0 := h1.blk.cell 0 _ rfl
 have z0 := Z.cell 0 _ rfl
 have z1 := Z.cell 1 _ rfl
 have z2 := Z.cell 2 _ rfl
 have z3 := Z.cell 3 _ rfl
 have FN : Hq (∀ w1 ns1 (v e2 : Int), Ar base a M 14 40000 w1 ns1 -> Kp (ca base a M 14 40000) _ w1 -> Ext ns ns1 -> ns1.length <= ns.length + 44 -> Hid ((e2 = 0 ∧ ∃ f : Nat, v = (f : Int) ∧ f < ns1.length ∧ ∀ x, ev ns1 f x = phi sa sb sc sd x) ∨ (e2 = 6 ∧ v = 0 ∧ 40000 <= ns.length + 44)) -> (Bz w1 q #[.pointer (some ⟨a, 0, none⟩), .int .i64 er] 153 ∧ Bz w1 w.heap.size #[.int .u16 (sa : Int), .int .u16 (sb : Int), .int .u8 (sc : Int), .int .u8 (sd : Int)] 34) ∧ ∀ w2, w2 = (if er = 0 then w1.setCell ⟨q, 1, none⟩ (.int .i64 e2) else w1) -> BOut base q a M w0 w ns er 44 (phi sa sb sc sd) (.returned (.int .i64 v)) w2) := ⟨fun w1 ns1 v e2 A1 k1 X1 l1 hv => ⟨⟨h1.keep k1, ((h1.ar.outBox Z (by decide) (by decide)).kp k1).blk⟩, fun w2 hw => BOut.from ((TF.below ((Below.refl _ w).alloc (Nat.le_refl _) _)).trans (TF.below (Below.refl _ _).drew)) (h1.fin A1 k1 X1 l1 hv hw)⟩⟩
 unfold mt at BM ⊢
 clear h h1 Z
 go_enter Tryz.func133, Tryz.ntmps133
 go_wp2_with fail
 go_region_held3 (fun w' => w'.cell? ⟨q, 0, none⟩ = some (.pointer (some ⟨a, 0, none⟩)) ∧ w'.cell? ⟨w.heap.size, 0, none⟩ = some (.int .u16 (sa : Int)) ∧ w'.cell? ⟨w.heap.size, 1, none⟩ = some (.int .u16 (sb : Int)) ∧ w'.cell? ⟨w.heap.size, 2, none⟩ = some (.int .u8 (sc : Int)) ∧ w'.cell? ⟨w.heap.size, 3, none⟩ = some (.int .u8 (sd : Int))) (go_keep)
  ((first
    | (go_at_call 37; refine BM.out.mono ?_; rintro e w1 ⟨ns1, v, e2, rfl, A1, k1, X1, l1, hv⟩; obtain ⟨⟨Q1, Z1⟩, F1⟩ := FN.out w1 ns1 v e2 A1 k1 X1 l1 hv; have c0' := Q1.cell 0 _ rfl; have y0 := Z1.cell 0 _ rfl; have y1 := Z1.cell 1 _ rfl; have y2 := Z1.cell 2 _ rfl; have y3 := Z1.cell 3 _ rfl; have F1h := Hq.mk F1; clear F1 A1 k1 X1 l1 hv Z1)
    | (go_at_call 102; refine (keep_b Q1 v e2).mono ?_; rintro e w2 ⟨rfl, hw⟩; have F2 := F1h.out w2 hw; have d0 := (keep_far hw (i := q) (j := 0) (.inr rfl)).trans c0'; have x0 := (keep_far hw (i := w.heap.size) (j := 0) (.inl hzq)).trans y0; have x1 := (keep_far hw (i := w.heap.size) (j := 1) (.inl hzq)).trans y1; have x2 := (keep_far hw (i := w.heap.size) (j := 2) (.inl hzq)).trans y2; have x3 := (keep_far hw (i := w.heap.size) (j := 3) (.inl hzq)).trans y3; clear hw)))
 all_goals
  go_wp2_with fail
  go_ret
  exact F2
theorem rules_w (h : Bn base q a M w0 w ns er) {A : Option Addr} {n cap : Nat} {g0 : Nat} {χ : Env -> Bool} (OP : Hid (Calls Tryz.prog 10 #[.pointer (some ⟨a, 0, none⟩), .slice A n cap] w (OPost base a M w ns g0 χ))) :
  Calls Tryz.prog 129 #[.pointer (some ⟨q, 0, none⟩), .slice A n cap] w (BOut base q a M w0 w ns er g0 χ) := by
 have c0 := h.blk.cell 0 _ rfl
 go_enter Tryz.func129, Tryz.ntmps129
 go_wp2_with fail
 refine OP.out.mono ?_
 rintro e w1 ⟨ns1, v, e2, rfl, A1, k1, X1, l1, hv⟩
 have KP := Hq.mk (keep_b (h.keep k1) v e2)
 have FN : Hq (∀ w2, w2 = (if er = 0 then w1.setCell ⟨q, 1, none⟩ (.int .i64 e2) else w1) -> BOut base q a M w0 w ns er g0 χ (.returned (.int .i64 v)) w2) := ⟨fun w2 hw => h.fin A1 k1 X1 l1 hv hw⟩
 clear c0 OP A1 k1 X1 l1 hv h
 go_wp2_with fail
 refine KP.out.mono ?_
 rintro e w2 ⟨rfl, hw⟩
 have F2 := FN.out w2 hw
 clear hw FN KP
 go_wp2_with fail
 go_ret
 exact F2
theorem rules_b (h : Bn base q a M w0 w ns er) (A : Option Addr) (n cap : Nat) (xs : List Rl) (hR : Rules w.heap.size w (.slice A n cap) xs) (hlen : xs.length <= 8) :
  Calls Tryz.prog 129 #[.pointer (some ⟨q, 0, none⟩), .slice A n cap] w (BOut base q a M w0 w ns er 40000 (letsF xs)) :=
 rules_w h (OP := (abuild_ok h.ar A n cap xs hR hlen).mono fun _ _ hp => hp.o)
end
def exF (φ : Env -> Bool) (i j : Nat) : Nat -> Env -> Bool
 | 0 => φ
 | k + 1 => fun x => exF φ i j k (swE x (i + k) (j + k))
def anF (φ : Env -> Bool) (i : Nat) : Nat -> Env -> Bool
 | 0 => φ
 | k + 1 => fun x => anF φ i k (setE x (i + k) false) || anF φ i k (setE x (i + k) true)
section
variable {base q a M : Nat} {w0 w : World} {ns : List Nd} {er : Int}
theorem sw_o (S : Nat -> Bool) (h : Bn base q a M w0 w ns er) {f i j : Nat} {φ : Env -> Bool} (hf : Fn ns er f φ) (hi : i < 14) (hj : j < 14) (hd : er = 0 -> DepS S φ) :
  ∃ (g' : Nat) (χ : Env -> Bool), (er = 0 -> g' = 2 ^ cnS (wth S i j) 14 0 - 1 ∧ ∀ x, χ x = φ (swE x i j)) ∧ Calls Tryz.prog 149 #[.pointer (some ⟨a, 0, none⟩), .int .i64 (f : Int), .int .i64 (i : Int), .int .i64 (j : Int)] w (OPost base a M w ns g' χ) := by
 by_cases he : er = 0
 ·have e1 : ev ns f = φ := funext (hf.2 he)
  exact ⟨_, _, fun _ => ⟨rfl, fun x => by rw [e1]⟩, (swap_ok S h.ar hf.1 hi hj (e1 ▸ hd he)).mono fun _ _ hp => hp.o⟩
 ·exact ⟨_, _, fun e => absurd e he, (swap_ok (fun _ => true) h.ar hf.1 hi hj (DepS.all _)).mono fun _ _ hp => hp.o⟩
theorem ex_o (h : Bn base q a M w0 w ns er) {f i : Nat} {φ : Env -> Bool} (hf : Fn ns er f φ) (hi : i < 14) :
  ∃ χ : Env -> Bool, (er = 0 -> ∀ x, χ x = (φ (setE x i false) || φ (setE x i true))) ∧ Calls Tryz.prog 150 #[.pointer (some ⟨a, 0, none⟩), .int .i64 (f : Int), .int .i64 (i : Int)] w (OPost base a M w ns (2 ^ 14 - 1) χ) := by
 refine ⟨_, fun he x => ?_, (exists_ok h.ar hf.1 hi).mono fun _ _ hp => hp.o⟩
 show (ev ns f (setE x i false) || ev ns f (setE x i true)) = _
 rw [hf.2 he, hf.2 he]
theorem BOut.fit {g g' : Nat} {φ φ' : Env -> Bool} {e : Ending} {w' : World} (h : BOut base q a M w0 w ns er g φ e w') (hg : er = 0 -> g <= g' ∧ ∀ x, φ x = φ' x) : BOut base q a M w0 w ns er g' φ' e w' := by
 by_cases he : er = 0
 ·exact (h.more (hg he).1).of fun e x => (hg e).2 x
 ·exact h.bad he
theorem exchange_b (SS : Nat -> Nat -> Bool) (G : Nat) (h : Bn base q a M w0 w ns er) {f first second bits : Nat} {φ : Env -> Bool} (hf : Fn ns er f φ) (h1 : first + bits <= 14) (h2 : second + bits <= 14)
  (hd : er = 0 -> ∀ k, k < bits -> DepS (SS k) (exF φ first second k) ∧ 2 ^ cnS (wth (SS k) (first + k) (second + k)) 14 0 - 1 <= G) :
  Calls Tryz.prog 145 #[.pointer (some ⟨q, 0, none⟩), .int .i64 (f : Int), .int .i64 (first : Int), .int .i64 (second : Int), .int .i64 (bits : Int)] w (BOut base q a M w0 w ns er (bits * G) (exF φ first second bits)) := by
 have HD : Hq (er = 0 -> ∀ k, k < bits -> DepS (SS k) (exF φ first second k) ∧ 2 ^ cnS (wth (SS k) (first + k) (second + k)) 14 0 - 1 <= G) := ⟨hd⟩
 have HH := Hq.mk h
 have HF := Hq.mk hf
 clear hd h hf
 go_enter Tryz.func145, Tryz.ntmps145
 go_wp2_with fail
 go_loopw [1, 13] (fun v i wr => ∃ (k f' : Nat) (ns' : List Nd) (er' : Int), i = .int .i64 (k : Int) ∧ k <= bits ∧ v = .int .i64 (f' : Int) ∧ Hq ((Bn base q a M w0 wr ns' er' ∧ TF w wr) ∧ Ext ns ns' ∧ (er' = 0 -> er = 0) ∧ Fn ns' er' f' (exF φ first second k) ∧ Hid (er = 0 -> ns'.length <= ns.length + k * G ∧ (er' ≠ 0 -> 40000 <= ns.length + k * G)))) (fun _ i _ => bits - (intOf i).toNat)
 case atStart => exact ⟨0, f, ns, er, rfl, Nat.zero_le _, rfl, ⟨⟨HH.out, TF.refl _⟩, Ext.refl _, id, HF.out, fun e => ⟨by omega, fun h => absurd e h⟩⟩⟩
 case round =>
  obtain ⟨k, f', ns', er', rfl, hk, rfl, HS⟩ := hrel
  by_cases hlt : k < bits
  ·obtain ⟨⟨h', tf⟩, X, he, hf', hg⟩ := HS.out
   obtain ⟨g', χ, hx, SW⟩ := sw_o (SS k) h' hf' (i := first + k) (j := second + k) (by omega) (by omega) (fun e => ((HD.out (he e)) k hlt).1)
   have e1 : ((first + k : Nat) : Int) = (first : Int) + (k : Int) := by omega
   have e2 : ((second + k : Nat) : Int) = (second : Int) + (k : Int) := by omega
   rw [e1, e2] at SW
   have SWh := Hq.mk SW
   clear e1 e2
   have c0 := h'.blk.cell 0 _ rfl
   have FN : Hq (∀ w1 ns1 (v e2 : Int), Ar base a M 14 40000 w1 ns1 -> Kp (ca base a M 14 40000) wr w1 -> Ext ns' ns1 -> ns1.length <= ns'.length + g' -> Hid ((e2 = 0 ∧ ∃ f : Nat, v = (f : Int) ∧ f < ns1.length ∧ ∀ x, ev ns1 f x = χ x) ∨ (e2 = 6 ∧ v = 0 ∧ 40000 <= ns'.length + g')) -> Bz w1 q #[.pointer (some ⟨a, 0, none⟩), .int .i64 er'] 153 ∧ ∀ w2, w2 = (if er' = 0 then w1.setCell ⟨q, 1, none⟩ (.int .i64 e2) else w1) -> BOut base q a M w0 w ns er (k * G + G) (exF φ first second (k + 1)) (.returned (.int .i64 v)) w2) := ⟨fun w1 ns1 v e2 A1 k1 X1 l1 hv => ⟨h'.keep k1, fun w2 hw => by
    have B := (h'.fin A1 k1 X1 l1 hv hw).fit (g' := G) (φ' := exF φ first second (k + 1)) (fun e0 => by
     obtain ⟨q1, q2⟩ := hx e0
     refine ⟨by rw [q1]; exact ((HD.out (he e0)) k hlt).2, fun x => ?_⟩
     rw [q2]
     rfl)
    exact BOut.seq X he hg tf B⟩⟩
   have k2 : (k : Int) < (bits : Int) := by omega
   clear SW hx hf' hg h' X he tf
   go_wp2_with fail
   refine SWh.out.mono ?_
   rintro e w1 ⟨ns1, v, e2, rfl, A1, k1, X1, l1, hv⟩
   obtain ⟨Q1, F1⟩ := FN.out w1 ns1 v e2 A1 k1 X1 l1 hv
   have KP := Hq.mk (keep_b Q1 v e2)
   have F1h := Hq.mk F1
   clear F1 A1 k1 X1 l1 hv Q1 FN SWh c0
   go_wp2_with fail
   refine KP.out.mono ?_
   rintro e w2 ⟨rfl, hw⟩
   obtain ⟨f2, ns2, er2, hv2, b1, b2, b3, b4, b5⟩ := F1h.out w2 hw
   have hvv : v = (f2 : Int) := by simpa using hv2
   subst hvv
   have b5' : Hid (er = 0 -> ns2.length <= ns.length + (k + 1) * G ∧ (er2 ≠ 0 -> 40000 <= ns.length + (k + 1) * G)) := by
    rw [Nat.succ_mul]
    exact b5
   have HS2 := Hq.mk (And.intro b1 (And.intro b2 (And.intro b3 (And.intro b4 b5'))))
   clear hw F1h KP hv2 b1 b2 b3 b4 b5 b5' HS
   go_wp2_with fail
   go_roundw
   case rel => exact ⟨k + 1, f2, ns2, er2, by go_num, by omega, rfl, HS2⟩
   case measure => simp [intOf]; omega
  ·obtain rfl : k = bits := by omega
   have F : BOut base q a M w0 w ns er (k * G) (exF φ first second k) (.returned (.int .i64 (f' : Int))) wr := by
    obtain ⟨h', X, he, hf', hg⟩ := HS.out
    exact ⟨f', ns', er', rfl, h', X, he, hf', hg⟩
   clear HS HH HF HD
   go_wp2_with fail
   go_ret
   exact F
theorem anyOf_b (h : Bn base q a M w0 w ns er) {f first bits : Nat} {φ : Env -> Bool} (hf : Fn ns er f φ) (h1 : first + bits <= 14) :
  Calls Tryz.prog 146 #[.pointer (some ⟨q, 0, none⟩), .int .i64 (f : Int), .int .i64 (first : Int), .int .i64 (bits : Int)] w (BOut base q a M w0 w ns er (bits * 16383) (anF φ first bits)) := by
 have HH := Hq.mk h
 have HF := Hq.mk hf
 clear h hf
 go_enter Tryz.func146, Tryz.ntmps146
 go_wp2_with fail
 go_loopw [1, 11] (fun v i wr => ∃ (k f' : Nat) (ns' : List Nd) (er' : Int), i = .int .i64 (k : Int) ∧ k <= bits ∧ v = .int .i64 (f' : Int) ∧ Hq ((Bn base q a M w0 wr ns' er' ∧ TF w wr) ∧ Ext ns ns' ∧ (er' = 0 -> er = 0) ∧ Fn ns' er' f' (anF φ first k) ∧ Hid (er = 0 -> ns'.length <= ns.length + k * 16383 ∧ (er' ≠ 0 -> 40000 <= ns.length + k * 16383)))) (fun _ i _ => bits - (intOf i).toNat)
 case atStart => exact ⟨0, f, ns, er, rfl, Nat.zero_le _, rfl, ⟨⟨HH.out, TF.refl _⟩, Ext.refl _, id, HF.out, fun e => ⟨by omega, fun h => absurd e h⟩⟩⟩
 case round =>
  obtain ⟨k, f', ns', er', rfl, hk, rfl, HS⟩ := hrel
  by_cases hlt : k < bits
  ·obtain ⟨⟨h', tf⟩, X, he, hf', hg⟩ := HS.out
   obtain ⟨χ, hx, SW⟩ := ex_o h' hf' (i := first + k) (by omega)
   have e1 : ((first + k : Nat) : Int) = (first : Int) + (k : Int) := by omega
   rw [e1] at SW
   have SWh := Hq.mk SW
   clear e1
   have c0 := h'.blk.cell 0 _ rfl
   have FN : Hq (∀ w1 ns1 (v e2 : Int), Ar base a M 14 40000 w1 ns1 -> Kp (ca base a M 14 40000) wr w1 -> Ext ns' ns1 -> ns1.length <= ns'.length + (2 ^ 14 - 1) -> Hid ((e2 = 0 ∧ ∃ f : Nat, v = (f : Int) ∧ f < ns1.length ∧ ∀ x, ev ns1 f x = χ x) ∨ (e2 = 6 ∧ v = 0 ∧ 40000 <= ns'.length + (2 ^ 14 - 1))) -> Bz w1 q #[.pointer (some ⟨a, 0, none⟩), .int .i64 er'] 153 ∧ ∀ w2, w2 = (if er' = 0 then w1.setCell ⟨q, 1, none⟩ (.int .i64 e2) else w1) -> BOut base q a M w0 w ns er (k * 16383 + 16383) (anF φ first (k + 1)) (.returned (.int .i64 v)) w2) := ⟨fun w1 ns1 v e2 A1 k1 X1 l1 hv => ⟨h'.keep k1, fun w2 hw => by
    have B := (h'.fin A1 k1 X1 l1 hv hw).fit (g' := 16383) (φ' := anF φ first (k + 1)) (fun e0 => ⟨by omega, fun x => by rw [hx e0 x]; rfl⟩)
    exact BOut.seq X he hg tf B⟩⟩
   have k2 : (k : Int) < (bits : Int) := by omega
   clear SW hx hf' hg h' X he tf
   go_wp2_with fail
   refine SWh.out.mono ?_
   rintro e w1 ⟨ns1, v, e2, rfl, A1, k1, X1, l1, hv⟩
   obtain ⟨Q1, F1⟩ := FN.out w1 ns1 v e2 A1 k1 X1 l1 hv
   have KP := Hq.mk (keep_b Q1 v e2)
   have F1h := Hq.mk F1
   clear F1 A1 k1 X1 l1 hv Q1 FN SWh c0
   go_wp2_with fail
   refine KP.out.mono ?_
   rintro e w2 ⟨rfl, hw⟩
   obtain ⟨f2, ns2, er2, hv2, b1, b2, b3, b4, b5⟩ := F1h.out w2 hw
   have hvv : v = (f2 : Int) := by simpa using hv2
   subst hvv
   have b5' : Hid (er = 0 -> ns2.length <= ns.length + (k + 1) * 16383 ∧ (er2 ≠ 0 -> 40000 <= ns.length + (k + 1) * 16383)) := by
    rw [Nat.succ_mul]
    exact b5
   have HS2 := Hq.mk (And.intro b1 (And.intro b2 (And.intro b3 (And.intro b4 b5'))))
   clear hw F1h KP hv2 b1 b2 b3 b4 b5 b5' HS
   go_wp2_with fail
   go_roundw
   case rel => exact ⟨k + 1, f2, ns2, er2, by go_num, by omega, rfl, HS2⟩
   case measure => simp [intOf]; omega
  ·obtain rfl : k = bits := by omega
   have F : BOut base q a M w0 w ns er (k * 16383) (anF φ first k) (.returned (.int .i64 (f' : Int))) wr := by
    obtain ⟨h', X, he, hf', hg⟩ := HS.out
    exact ⟨f', ns', er', rfl, h', X, he, hf', hg⟩
   clear HS HH HF
   go_wp2_with fail
   go_ret
   exact F
theorem anySrc_b (h : Bn base q a M w0 w ns er) {f : Nat} {φ : Env -> Bool} (hf : Fn ns er f φ) :
  Calls Tryz.prog 131 #[.pointer (some ⟨q, 0, none⟩), .int .i64 (f : Int)] w (BOut base q a M w0 w ns er (4 * 16383) (anF φ 0 4)) := by
 have A := Hq.mk (anyOf_b h hf (first := 0) (bits := 4) (by omega))
 clear h hf
 go_enter Tryz.func131, Tryz.ntmps131
 go_wp2_with fail
 refine A.out.mono ?_
 rintro e w1 B
 have B2 := B
 obtain ⟨f1, ns1, er1, rfl, _⟩ := B2
 clear A
 go_wp2_with fail
 go_ret
 exact B
theorem anyDst_b (h : Bn base q a M w0 w ns er) {f : Nat} {φ : Env -> Bool} (hf : Fn ns er f φ) :
  Calls Tryz.prog 135 #[.pointer (some ⟨q, 0, none⟩), .int .i64 (f : Int)] w (BOut base q a M w0 w ns er (4 * 16383) (anF φ 4 4)) := by
 have A := Hq.mk (anyOf_b h hf (first := 4) (bits := 4) (by omega))
 clear h hf
 go_enter Tryz.func135, Tryz.ntmps135
 go_wp2_with fail
 refine A.out.mono ?_
 rintro e w1 B
 have B2 := B
 obtain ⟨f1, ns1, er1, rfl, _⟩ := B2
 clear A
 go_wp2_with fail
 go_ret
 exact B
theorem anySport_b (h : Bn base q a M w0 w ns er) {f : Nat} {φ : Env -> Bool} (hf : Fn ns er f φ) :
  Calls Tryz.prog 132 #[.pointer (some ⟨q, 0, none⟩), .int .i64 (f : Int)] w (BOut base q a M w0 w ns er (3 * 16383) (anF φ 8 3)) := by
 have A := Hq.mk (anyOf_b h hf (first := 8) (bits := 3) (by omega))
 clear h hf
 go_enter Tryz.func132, Tryz.ntmps132
 go_wp2_with fail
 refine A.out.mono ?_
 rintro e w1 B
 have B2 := B
 obtain ⟨f1, ns1, er1, rfl, _⟩ := B2
 clear A
 go_wp2_with fail
 go_ret
 exact B
theorem anyDport_b (h : Bn base q a M w0 w ns er) {f : Nat} {φ : Env -> Bool} (hf : Fn ns er f φ) :
  Calls Tryz.prog 136 #[.pointer (some ⟨q, 0, none⟩), .int .i64 (f : Int)] w (BOut base q a M w0 w ns er (3 * 16383) (anF φ 11 3)) := by
 have A := Hq.mk (anyOf_b h hf (first := 11) (bits := 3) (by omega))
 clear h hf
 go_enter Tryz.func136, Tryz.ntmps136
 go_wp2_with fail
 refine A.out.mono ?_
 rintro e w1 B
 have B2 := B
 obtain ⟨f1, ns1, er1, rfl, _⟩ := B2
 clear A
 go_wp2_with fail
 go_ret
 exact B
def flF (φ : Env -> Bool) : Env -> Bool := exF (exF φ 0 4 4) 8 11 3
theorem flip_b (S1 S2 : Nat -> Nat -> Bool) (G1 G2 : Nat) (h : Bn base q a M w0 w ns er) {f : Nat} {φ : Env -> Bool} (hf : Fn ns er f φ)
  (hd : er = 0 -> (∀ k, k < 4 -> DepS (S1 k) (exF φ 0 4 k) ∧ 2 ^ cnS (wth (S1 k) (0 + k) (4 + k)) 14 0 - 1 <= G1) ∧ (∀ k, k < 3 -> DepS (S2 k) (exF (exF φ 0 4 4) 8 11 k) ∧ 2 ^ cnS (wth (S2 k) (8 + k) (11 + k)) 14 0 - 1 <= G2)) :
  Calls Tryz.prog 130 #[.pointer (some ⟨q, 0, none⟩), .int .i64 (f : Int)] w (BOut base q a M w0 w ns er (4 * G1 + 3 * G2) (flF φ)) := by
 have A := Hq.mk (exchange_b S1 G1 h hf (first := 0) (second := 4) (bits := 4) (by omega) (by omega) (fun e => (hd e).1))
 have HD := Hq.mk hd
 clear h hf hd
 go_enter Tryz.func130, Tryz.ntmps130
 go_wp2_with fail
 refine A.out.mono ?_
 rintro e w1 ⟨f1, ns1, er1, rfl, ⟨h1, tf1⟩, X1, he1, hf1, hg1⟩
 have A2 := Hq.mk (exchange_b S2 G2 h1 hf1 (first := 8) (second := 11) (bits := 3) (by omega) (by omega) (fun e => (HD.out (he1 e)).2))
 have SQ : Hq (∀ e w', BOut base q a M w0 w1 ns1 er1 (3 * G2) (exF (exF φ 0 4 4) 8 11 3) e w' -> BOut base q a M w0 w ns er (4 * G1 + 3 * G2) (flF φ) e w') := ⟨fun e w' B => BOut.seq X1 he1 hg1 tf1 B⟩
 clear A h1 tf1 X1 he1 hf1 hg1 HD
 go_wp2_with fail
 refine A2.out.mono ?_
 rintro e w2 B
 have B2 := SQ.out _ _ B
 obtain ⟨f2, ns2, er2, rfl, _⟩ := B
 clear A2 SQ
 go_wp2_with fail
 go_ret
 exact B2
theorem flip_any (h : Bn base q a M w0 w ns er) {f : Nat} {φ : Env -> Bool} (hf : Fn ns er f φ) :
  Calls Tryz.prog 130 #[.pointer (some ⟨q, 0, none⟩), .int .i64 (f : Int)] w (BOut base q a M w0 w ns er (7 * 16383) (flF φ)) := by
 have le : ∀ S i j, 2 ^ cnS (wth S i j) 14 0 - 1 <= 16383 := fun S i j => by
  have := Nat.pow_le_pow_right (n := 2) (by omega) (cnS_le (S := wth S i j) (vars := 14) 0)
  omega
 exact (flip_b (fun _ _ => true) (fun _ _ => true) 16383 16383 h hf (fun _ => ⟨fun k _ => ⟨DepS.all _, le _ _ _⟩, fun k _ => ⟨DepS.all _, le _ _ _⟩⟩)).mono fun _ _ B => B.more (by omega)
end
end Go.Proofs.YtmcklkkkkigflaaGreat
namespace Go.Proofs.YtmcklkkkkigflaaGreat
open Go.ChangeShapes Go.WideShapes Go.RowKit Go.Deep
def SlAt {α : Type} (base : Nat) (w : World) (n : Nat) (R : List Value -> α -> Prop) (v : Value) (xs : List α) : Prop :=
 ∃ A cap, v = .slice A xs.length cap ∧ (A = none -> cap = 0) ∧ xs.length <= cap ∧ cap <= maxLen ∧
   (xs ≠ [] -> ∃ b o, A = some ⟨b, o, none⟩ ∧ b < base ∧ ∀ k x, xs[k]? = some x -> ∃ cs : List Value, cs.length = n ∧ R cs x ∧ ∀ j u, cs[j]? = some u -> w.cell? ⟨b, o + k * n + j, none⟩ = some u)
section
variable {α : Type} {base base' n : Nat} {w w' : World} {R R' : List Value -> α -> Prop} {v : Value} {xs : List α}
theorem SlAt.below (h : SlAt base w n R v xs) (hb : Below base w w') (hR : ∀ cs x, x ∈ xs -> R cs x -> R' cs x) : SlAt base w' n R' v xs := by
 obtain ⟨A, cap, e, h0, h1, h2, h3⟩ := h
 refine ⟨A, cap, e, h0, h1, h2, fun hn => ?_⟩
 obtain ⟨b, o, ea, hl, hr⟩ := h3 hn
 refine ⟨b, o, ea, hl, fun k x hx => ?_⟩
 obtain ⟨cs, c1, c2, c3⟩ := hr k x hx
 exact ⟨cs, c1, hR cs x (List.mem_of_getElem? hx) c2, fun j u hj => (hb.cell (p := ⟨b, _, none⟩) hl).trans (c3 j u hj)⟩
theorem SlAt.mono (h : SlAt base w n R v xs) (hb : base <= base') (hR : ∀ cs x, x ∈ xs -> R cs x -> R' cs x) : SlAt base' w n R' v xs := by
 obtain ⟨A, cap, e, h0, h1, h2, h3⟩ := h
 refine ⟨A, cap, e, h0, h1, h2, fun hn => ?_⟩
 obtain ⟨b, o, ea, hl, hr⟩ := h3 hn
 refine ⟨b, o, ea, by omega, fun k x hx => ?_⟩
 obtain ⟨cs, c1, c2, c3⟩ := hr k x hx
 exact ⟨cs, c1, hR cs x (List.mem_of_getElem? hx) c2, c3⟩
end
theorem spotN {w : World} {a : Addr} {v : Value} (h : w.cell? a = some v) : a.spot = none := by
 unfold World.cell? at h
 split at h
 ·split at h
  ·cases h
  ·rename_i hs
   cases hp : a.spot
   ·rfl
   ·rw [hp] at hs; simp at hs
 ·cases h
section
variable {H : Type} {enc : TypeId × Value -> H} {W : World} {sp : Nat -> Bool} {held : Bool}
theorem slice_open {α : Type} [Inhabited α] {S E : TypeId} {n : Nat} {R : List Value -> α -> Prop} (hu : Tryz.prog.underlying S = some (.slice E)) (hc : Tryz.prog.cellsOf E = n) (hn : 0 < n) (hR : ∀ fuel cs x, cs.length = n -> DataW.trod enc Tryz.prog W 0 sp held fuel E cs = some x -> ∃ y, R cs y)
  {fuel : Nat} {cs : List Value} {x : DataW H × List MemPlace} (h : DataW.trod enc Tryz.prog W 0 sp held fuel S cs = some x) : ∃ v xs, cs = [v] ∧ SlAt W.heap.size W n R v xs := by
 rcases open_slice hu h with ⟨h0, h00⟩ | ⟨a, len, cap, m, nn, D, Pl, h0, _, hl, hm, hmm, hd, hx⟩
 ·exact ⟨.slice none 0 0, [], h0, none, 0, rfl, fun _ => rfl, Nat.le_refl _, Nat.zero_le _, fun hn => absurd rfl hn⟩
 ·have hlm : len <= m := by rw [hmm]; split <;> omega
  by_cases h00 : len = 0
  ·subst h00
   exact ⟨.slice (some a) 0 cap, [], h0, some a, cap, rfl, (fun e => by cases e), hl, hm, fun hn => absurd rfl hn⟩
  ·have each : ∀ i, i < len -> ∃ y : α, ∃ cs' : List Value, cs'.length = n ∧ R cs' y ∧ ∀ j u, cs'[j]? = some u -> W.cell? ((a.add (i * n)).add j) = some u := by
    intro i hi
    obtain ⟨cs', h1, h2⟩ := hx i (by omega)
    rw [hc] at h1
    obtain ⟨_, hlen, hcell⟩ := World.cells?_some h1
    obtain ⟨y, hy⟩ := hR _ _ _ hlen h2
    refine ⟨y, cs', hlen, hy, fun j u hj => ?_⟩
    have hj5 : j < n := by
     have := (List.getElem?_eq_some_iff.1 hj).1
     omega
    have := hcell j hj5
    rw [hj] at this
    exact this
   have hfst : ∃ u, W.cell? a = some u := by
    obtain ⟨y, cs', hl', _, hc'⟩ := each 0 (by omega)
    obtain ⟨u, hu'⟩ : ∃ u, cs'[0]? = some u := ⟨_, List.getElem?_eq_getElem (by omega)⟩
    exact ⟨u, by simpa [Addr.add] using hc' 0 u hu'⟩
   obtain ⟨u0, hu0⟩ := hfst
   have hsp := spotN hu0
   obtain ⟨b, o, sp'⟩ := a
   simp only [] at hsp
   subst hsp
   obtain ⟨f, hf⟩ := choose_lt each
   have hlb : b < W.heap.size := World.block_lt_of_cell? W _ hu0
   have hlen : ((List.range len).map f).length = len := by simp
   refine ⟨_, (List.range len).map f, h0, some ⟨b, o, none⟩, cap, by rw [hlen], (fun e => by cases e), by rw [hlen]; exact hl, hm, fun _ => ⟨b, o, rfl, hlb, fun k y hy => ?_⟩⟩
   have hk : k < len := by
    have := (List.getElem?_eq_some_iff.1 hy).1
    rw [hlen] at this
    exact this
   obtain rfl : f k = y := by
    rw [List.getElem?_map, List.getElem?_range hk] at hy
    simpa using hy
   obtain ⟨cs', c1, c2, c3⟩ := hf k hk
   refine ⟨cs', c1, c2, fun j u hj => ?_⟩
   have := c3 j u hj
   rw [Addr.add_lit, Addr.add_lit] at this
   exact this
end
structure NRule where
 ok : Bool
 a : Nat
 b : Nat
 c : Nat
 d : Nat
 ha : a < 65536
 hb : b < 65536
 hc : c < 256
 hd : d < 256
structure NRoute where
 v : Int
 b : Int
 p : Int
structure Dv where
 name : ByteArray
 kind : Int
 addr : Int
 pool : Nat
 backs : List Int
 rules : List NRule
 routes : List NRoute
 hp : pool < 256
 hs : name.size <= maxLen
structure Lk where
 a : Int
 p : Int
 b : Int
 q : Int
instance : Inhabited NRule := ⟨⟨false, 0, 0, 0, 0, by omega, by omega, by omega, by omega⟩⟩
instance : Inhabited NRoute := ⟨⟨0, 0, 0⟩⟩
instance : Inhabited Lk := ⟨⟨0, 0, 0, 0⟩⟩
instance : Inhabited Dv := ⟨⟨⟨#[]⟩, 0, 0, 0, [], [], [], by omega, Nat.zero_le _⟩⟩
def IsI (cs : List Value) (x : Int) : Prop := cs = [.int .i64 x]
def IsRule (cs : List Value) (r : NRule) : Prop := cs = [.bool r.ok, .int .u16 (r.a : Int), .int .u16 (r.b : Int), .int .u8 (r.c : Int), .int .u8 (r.d : Int)]
def IsRoute (cs : List Value) (r : NRoute) : Prop := cs = [.int .i64 r.v, .int .i64 r.b, .int .i64 r.p]
def IsLk (cs : List Value) (l : Lk) : Prop := cs = [.int .i64 l.a, .int .i64 l.p, .int .i64 l.b, .int .i64 l.q]
def IsDv (base : Nat) (w : World) (cs : List Value) (d : Dv) : Prop :=
 ∃ vb vr vt, cs = [.string d.name, .int .i64 d.kind, .int .i64 d.addr, .int .u8 (d.pool : Int), vb, vr, vt] ∧ SlAt base w 1 IsI vb d.backs ∧ SlAt base w 5 IsRule vr d.rules ∧ SlAt base w 3 IsRoute vt d.routes
theorem IsDv.below {base : Nat} {w w' : World} {cs : List Value} {d : Dv} (h : IsDv base w cs d) (hb : Below base w w') : IsDv base w' cs d := by
 obtain ⟨vb, vr, vt, e, h1, h2, h3⟩ := h
 exact ⟨vb, vr, vt, e, h1.below hb (fun _ _ _ h => h), h2.below hb (fun _ _ _ h => h), h3.below hb (fun _ _ _ h => h)⟩
theorem IsDv.mono {base base' : Nat} {w : World} {cs : List Value} {d : Dv} (h : IsDv base w cs d) (hb : base <= base') : IsDv base' w cs d := by
 obtain ⟨vb, vr, vt, e, h1, h2, h3⟩ := h
 exact ⟨vb, vr, vt, e, h1.mono hb (fun _ _ _ h => h), h2.mono hb (fun _ _ _ h => h), h3.mono hb (fun _ _ _ h => h)⟩
def Devs (base : Nat) (w : World) (v : Value) (ds : List Dv) : Prop := SlAt base w 7 (IsDv base w) v ds
def Links (base : Nat) (w : World) (v : Value) (ls : List Lk) : Prop := SlAt base w 4 IsLk v ls
theorem Devs.below {base : Nat} {w w' : World} {v : Value} {ds : List Dv} (h : Devs base w v ds) (hb : Below base w w') : Devs base w' v ds := SlAt.below h hb (fun _ _ _ h => h.below hb)
theorem Devs.mono {base base' : Nat} {w : World} {v : Value} {ds : List Dv} (h : Devs base w v ds) (hb : base <= base') : Devs base' w v ds := SlAt.mono h hb (fun _ _ _ h => h.mono hb)
theorem Links.below {base : Nat} {w w' : World} {v : Value} {ls : List Lk} (h : Links base w v ls) (hb : Below base w w') : Links base w' v ls := SlAt.below h hb (fun _ _ _ h => h)
theorem Links.mono {base base' : Nat} {w : World} {v : Value} {ls : List Lk} (h : Links base w v ls) (hb : base <= base') : Links base' w v ls := SlAt.mono h hb (fun _ _ _ h => h)
theorem nInt : Tryz.prog.cellsOf 3 = 1 := by kernel_rfl
theorem nBool : Tryz.prog.cellsOf 4 = 1 := by kernel_rfl
theorem nU8 : Tryz.prog.cellsOf 5 = 1 := by kernel_rfl
theorem nU16 : Tryz.prog.cellsOf 32 = 1 := by kernel_rfl
theorem nStr : Tryz.prog.cellsOf 9 = 1 := by kernel_rfl
theorem nMatch : Tryz.prog.cellsOf 34 = 4 := by kernel_rfl
theorem nRule : Tryz.prog.cellsOf 36 = 5 := by kernel_rfl
theorem nRoute : Tryz.prog.cellsOf 166 = 3 := by kernel_rfl
theorem nLink : Tryz.prog.cellsOf 135 = 4 := by kernel_rfl
theorem nDevice : Tryz.prog.cellsOf 91 = 7 := by kernel_rfl
theorem nInts : Tryz.prog.cellsOf 66 = 1 := by kernel_rfl
theorem nRules : Tryz.prog.cellsOf 26 = 1 := by kernel_rfl
theorem nRoutes : Tryz.prog.cellsOf 89 = 1 := by kernel_rfl
theorem nDevices : Tryz.prog.cellsOf 22 = 1 := by kernel_rfl
theorem nLinks : Tryz.prog.cellsOf 23 = 1 := by kernel_rfl
theorem nNet : Tryz.prog.cellsOf 25 = 2 := by kernel_rfl
theorem nat_ofN {x : Int} {n : Nat} (h0 : 0 <= x) (h1 : x <= (n : Int)) : ∃ k : Nat, x = (k : Int) ∧ k < n + 1 := ⟨x.toNat, by omega, by omega⟩
section
variable {H : Type} {enc : TypeId × Value -> H} {W : World} {sp : Nat -> Bool} {held : Bool} {fuel : Nat} {cs : List Value} {x : DataW H × List MemPlace}
theorem int_openN (h : DataW.trod enc Tryz.prog W 0 sp held fuel 3 cs = some x) : ∃ y : Int, IsI cs y := by
 obtain ⟨y, e, _⟩ := DataW.trod_int Tryz.underlying3 h
 exact ⟨y, e⟩
theorem link_openN (hl : cs.length = 4) (h : DataW.trod enc Tryz.prog W 0 sp held fuel 135 cs = some x) : ∃ l : Lk, IsLk cs l := by
 obtain ⟨xs, k, hk, hxy, _, hxl, hf⟩ := DataW.trod_struct Tryz.underlying135 h
 match xs, hxl, cs, hl with
 | [y0, y1, y2, y3], _, [v0, v1, v2, v3], _ =>
   have g0 := hf 0 _ rfl
   have g1 := hf 1 _ rfl
   have g2 := hf 2 _ rfl
   have g3 := hf 3 _ rfl
   simp [nInt] at g0 g1 g2 g3
   obtain ⟨x0, e0, _⟩ := DataW.trod_int Tryz.underlying3 g0
   obtain ⟨x1, e1, _⟩ := DataW.trod_int Tryz.underlying3 g1
   obtain ⟨x2, e2, _⟩ := DataW.trod_int Tryz.underlying3 g2
   obtain ⟨x3, e3, _⟩ := DataW.trod_int Tryz.underlying3 g3
   simp only [List.cons.injEq, and_true] at e0 e1 e2 e3
   subst e0 e1 e2 e3
   exact ⟨⟨x0, x1, x2, x3⟩, rfl⟩
theorem route_openN (hl : cs.length = 3) (h : DataW.trod enc Tryz.prog W 0 sp held fuel 166 cs = some x) : ∃ r : NRoute, IsRoute cs r := by
 obtain ⟨xs, k, hk, hxy, _, hxl, hf⟩ := DataW.trod_struct Tryz.underlying166 h
 match xs, hxl, cs, hl with
 | [y0, y1, y2], _, [v0, v1, v2], _ =>
   have g0 := hf 0 _ rfl
   have g1 := hf 1 _ rfl
   have g2 := hf 2 _ rfl
   simp [nInt] at g0 g1 g2
   obtain ⟨x0, e0, _⟩ := DataW.trod_int Tryz.underlying3 g0
   obtain ⟨x1, e1, _⟩ := DataW.trod_int Tryz.underlying3 g1
   obtain ⟨x2, e2, _⟩ := DataW.trod_int Tryz.underlying3 g2
   simp only [List.cons.injEq, and_true] at e0 e1 e2
   subst e0 e1 e2
   exact ⟨⟨x0, x1, x2⟩, rfl⟩
theorem rule_openN (hl : cs.length = 5) (h : DataW.trod enc Tryz.prog W 0 sp held fuel 36 cs = some x) : ∃ r : NRule, IsRule cs r := by
 obtain ⟨xs, k, hk, hxy, _, hxl, hf⟩ := DataW.trod_struct Tryz.underlying36 h
 match xs, hxl, cs, hl with
 | [y0, y1], _, [v0, v1, v2, v3, v4], _ =>
   have g0 := hf 0 _ rfl
   have g1 := hf 1 _ rfl
   simp [nBool, nMatch] at g0 g1
   obtain ⟨ok, q0, _⟩ := DataW.trod_bool Tryz.underlying4 g0
   obtain ⟨xs, k, hk, hxy, _, hxl, hf⟩ := DataW.trod_struct Tryz.underlying34 g1
   match xs, hxl with
   | [z0, z1, z2, z3], _ =>
     have g0 := hf 0 _ rfl
     have g1 := hf 1 _ rfl
     have g2 := hf 2 _ rfl
     have g3 := hf 3 _ rfl
     simp [nU16, nU8] at g0 g1 g2 g3
     obtain ⟨x0, e0, _, w0⟩ := DataW.trod_int Tryz.underlying32 g0
     obtain ⟨x1, e1, _, w1⟩ := DataW.trod_int Tryz.underlying32 g1
     obtain ⟨x2, e2, _, w2⟩ := DataW.trod_int Tryz.underlying5 g2
     obtain ⟨x3, e3, _, w3⟩ := DataW.trod_int Tryz.underlying5 g3
     simp only [List.cons.injEq, and_true] at q0 e0 e1 e2 e3
     subst q0 e0 e1 e2 e3
     obtain ⟨na, rfl, la⟩ := nat_ofN (n := 65535) (bounds_u16 w0).1 (bounds_u16 w0).2
     obtain ⟨nb, rfl, lb⟩ := nat_ofN (n := 65535) (bounds_u16 w1).1 (bounds_u16 w1).2
     obtain ⟨nc, rfl, lc⟩ := nat_ofN (n := 255) (bounds_u8 w2).1 (bounds_u8 w2).2
     obtain ⟨nd', rfl, ld⟩ := nat_ofN (n := 255) (bounds_u8 w3).1 (bounds_u8 w3).2
     exact ⟨⟨ok, na, nb, nc, nd', by omega, by omega, by omega, by omega⟩, rfl⟩
theorem device_openN (hl : cs.length = 7) (h : DataW.trod enc Tryz.prog W 0 sp held fuel 91 cs = some x) : ∃ d : Dv, IsDv W.heap.size W cs d := by
 obtain ⟨xs, k, hk, hxy, _, hxl, hf⟩ := DataW.trod_struct Tryz.underlying91 h
 match xs, hxl, cs, hl with
 | [y0, y1, y2, y3, y4, y5, y6], _, [v0, v1, v2, v3, v4, v5, v6], _ =>
   have g0 := hf 0 _ rfl
   have g1 := hf 1 _ rfl
   have g2 := hf 2 _ rfl
   have g3 := hf 3 _ rfl
   have g4 := hf 4 _ rfl
   have g5 := hf 5 _ rfl
   have g6 := hf 6 _ rfl
   simp [nInt, nStr, nU8, nInts, nRules, nRoutes] at g0 g1 g2 g3 g4 g5 g6
   obtain ⟨s, e0, _, ls⟩ := DataW.trod_string Tryz.underlying9 g0
   obtain ⟨x1, e1, _⟩ := DataW.trod_int Tryz.underlying3 g1
   obtain ⟨x2, e2, _⟩ := DataW.trod_int Tryz.underlying3 g2
   obtain ⟨x3, e3, _, w3⟩ := DataW.trod_int Tryz.underlying5 g3
   obtain ⟨u4, b4, e4, s4⟩ := slice_open (n := 1) (R := IsI) Tryz.underlying66 nInt (by omega) (fun _ _ _ _ h => int_openN h) g4
   obtain ⟨u5, b5, e5, s5⟩ := slice_open (n := 5) (R := IsRule) Tryz.underlying26 nRule (by omega) (fun _ _ _ hl h => rule_openN hl h) g5
   obtain ⟨u6, b6, e6, s6⟩ := slice_open (n := 3) (R := IsRoute) Tryz.underlying89 nRoute (by omega) (fun _ _ _ hl h => route_openN hl h) g6
   simp only [List.cons.injEq, and_true] at e0 e1 e2 e3 e4 e5 e6
   subst e0 e1 e2 e3 e4 e5 e6
   obtain ⟨nc, rfl, lc⟩ := nat_ofN (n := 255) (bounds_u8 w3).1 (bounds_u8 w3).2
   exact ⟨⟨s, x1, x2, nc, b4, b5, b6, by omega, ls⟩, _, _, _, rfl, s4, s5, s6⟩
theorem net_open {r : Reach} {b0 : Nat} {v : Value} {d : DataW H} {p : List MemPlace} (hv : Value.okWide Tryz.prog W r b0 25 v) (h : DataW.Trod enc Tryz.prog W 0 sp held 25 v d p) :
  ∃ vd vl ds ls, v = .agg #[vd, vl] ∧ Devs W.heap.size W vd ds ∧ Links W.heap.size W vl ls := by
 obtain ⟨cs, rfl, hsz⟩ := okWide_struct Tryz.underlying25 hv
 obtain ⟨fuel, h⟩ := h
 rw [nNet] at hsz
 obtain ⟨l⟩ := cs
 simp only [Value.cells] at h
 obtain ⟨xs, k, hk, hxy, _, hxl, hf⟩ := DataW.trod_struct Tryz.underlying25 h
 match xs, hxl, l, hsz with
 | [y0, y1], _, [v0, v1], _ =>
   have g0 := hf 0 _ rfl
   have g1 := hf 1 _ rfl
   simp [nDevices, nLinks] at g0 g1
   obtain ⟨u0, ds, e0, s0⟩ := slice_open (n := 7) (R := IsDv W.heap.size W) Tryz.underlying22 nDevice (by omega) (fun _ _ _ hl h => device_openN hl h) g0
   obtain ⟨u1, ls, e1, s1⟩ := slice_open (n := 4) (R := IsLk) Tryz.underlying23 nLink (by omega) (fun _ _ _ hl h => link_openN hl h) g1
   simp only [List.cons.injEq, and_true] at e0 e1
   subst e0 e1
   exact ⟨_, _, ds, ls, rfl, s0, s1⟩
end
end Go.Proofs.YtmcklkkkkigflaaGreat
namespace Go.Proofs.YtmcklkkkkigflaaGreat
open Go.RowKit
theorem all_any (w : World) :
  Calls Tryz.prog 12 #[] w fun e w' => e = .returned (mt 65535 65535 255 255) ∧ Below w.heap.size w w' := by
 go_enter Tryz.func12, Tryz.ntmps12
 go_wp2_with fail
 exact bodyPost_ret (v := mt 65535 65535 255 255) (by simp [results, Tryz.results12, go_sem]) rfl ⟨rfl, by go_grown⟩
end Go.Proofs.YtmcklkkkkigflaaGreat
namespace Go.Proofs.YtmcklkkkkigflaaGreat
open Go.RowKit Go.Maps
def setL : List Int -> Nat -> Nat
 | [], z => z
 | x :: l, z => setL l (z ||| 2 ^ x.toNat)
theorem or_bitU (z n : Nat) (hz : z < 65536) (hn : n < 16) : Go.bits .or .u16 (z : Int) ((2 : Int) ^ n % 65536) = ((z ||| 2 ^ n : Nat) : Int) := by
 have p1 : 2 ^ n < 2 ^ 16 := Nat.pow_lt_pow_right (by omega) hn
 have e1 : ((2 : Int) ^ n % 65536) = ((2 ^ n : Nat) : Int) := by
  rw [show (2 : Int) ^ n = ((2 ^ n : Nat) : Int) by simp]
  generalize 2 ^ n = q at *
  omega
 rw [e1]
 generalize 2 ^ n = m at *
 have hle : z ||| m < 2 ^ 16 := Nat.or_lt_two_pow hz p1
 have hmm : (BitVec.ofInt 16 (z : Int) ||| BitVec.ofInt 16 (m : Int)).toNat = z ||| m := by
  rw [show BitVec.ofInt 16 (z : Int) = BitVec.ofNat 16 z by simp, show BitVec.ofInt 16 (m : Int) = BitVec.ofNat 16 m by simp, BitVec.toNat_or, BitVec.toNat_ofNat, BitVec.toNat_ofNat, Nat.mod_eq_of_lt (by omega), Nat.mod_eq_of_lt (by omega)]
 show IntKind.u16.wrap ((BitVec.ofInt 16 (z : Int) ||| BitVec.ofInt 16 (m : Int)).toNat : Int) = _
 rw [hmm]
 generalize z ||| m = r at *
 show ((r : Int) % 65536) = _
 omega
theorem or_ltU (z q : Nat) (hz : z < 65536) (hq : q < 16) : z ||| 2 ^ q < 65536 := Nat.or_lt_two_pow (n := 16) hz (Nat.pow_lt_pow_right (by omega) hq)
theorem setL_lt : ∀ (l : List Int) (z : Nat), (∀ x ∈ l, 0 <= x ∧ x < 16) -> z < 65536 -> setL l z < 65536
 | [], _, _, hz => hz
 | x :: l, z, h, hz => setL_lt l _ (fun y hy => h y (by simp [hy])) (or_ltU z _ hz (by have := h x (by simp); omega))
theorem setOf_any {base : Nat} (v : Value) (l : List Int) (w : World) (hv : SlAt base w 1 IsI v l) (hr : ∀ x ∈ l, 0 <= x ∧ x < 16) :
  Calls Tryz.prog 76 #[v] w fun e w' => e = .returned (.int .u16 (setL l 0 : Nat)) ∧ w' = w := by
 have HR : Hid (∀ x ∈ l, 0 <= x ∧ x < 16) := hr
 obtain ⟨A, cap, rfl, c0, c1, c2, c3⟩ := hv
 unfold maxLen at c2
 clear hr
 go_enter Tryz.func76, Tryz.ntmps76
 go_wp2_with fail
 go_loopw [3, 8] (fun z i wr => ∃ (k y : Nat), z = .int .u16 (y : Int) ∧ i = .int .i64 (k : Int) ∧ k <= l.length ∧ y < 65536 ∧ Hid (setL l 0 = setL (l.drop k) y) ∧ wr = w) (fun _ i _ => l.length - (intOf i).toNat)
 case atStart => exact ⟨0, 0, rfl, rfl, Nat.zero_le _, by omega, rfl, rfl⟩
 case round =>
  obtain ⟨k, y, rfl, rfl, hk, hy, HA, rfl⟩ := hrel
  by_cases hlt : k < l.length
  ·obtain ⟨x, hxk⟩ : ∃ x, l[k]? = some x := ⟨l[k], List.getElem?_eq_getElem hlt⟩
   obtain ⟨b, o, rfl, hbl, hr⟩ := c3 (by intro e; subst e; simp at hlt)
   obtain ⟨cs, e1, e2, e3⟩ := hr k x hxk
   have hx := HR.out x (List.mem_of_getElem? hxk)
   obtain ⟨q, rfl⟩ : ∃ q : Nat, x = (q : Int) := ⟨x.toNat, by omega⟩
   have hc : wr.cell? ⟨b, o + k, none⟩ = some (.int .i64 (q : Int)) := by
    have e4 : cs = [.int .i64 (q : Int)] := e2
    subst e4
    simpa using e3 0 _ rfl
   have hdrop : l.drop k = (q : Int) :: l.drop (k + 1) := by
    rw [List.drop_eq_getElem_cons hlt]
    congr 1
    rw [List.getElem?_eq_getElem hlt] at hxk
    exact Option.some.inj hxk
   have HV : Hid (setL l 0 = setL (l.drop (k + 1)) (y ||| 2 ^ q)) := by
    show _ = _
    rw [HA.out, hdrop, setL, Int.toNat_natCast]
   have k1 : (0 : Int) <= (q : Int) := by omega
   have k2 : (q : Int) < 16 := by omega
   have HM : Go.bits .or .u16 (y : Int) (IntKind.u16.wrap ((2 : Int) ^ q)) = ((y ||| 2 ^ q : Nat) : Int) := or_bitU y q hy (by omega)
   have HL := or_ltU y q hy (by omega)
   clear hr e1 e2 e3 c3 HA hdrop HR hxk
   go_wp2_with fail
   go_roundw
   case rel => exact ⟨k + 1, y ||| 2 ^ q, rfl, by go_num, by omega, HL, HV, trivial⟩
   case measure => simp [intOf]; omega
  ·have HV : Hid (setL l 0 = y) := by
    show _ = _
    rw [HA.out, List.drop_of_length_le (by omega), setL]
   clear HA HR c3
   go_wp2_with fail
   go_ret
   rw [HV.out]
   exact ⟨rfl, rfl⟩
theorem Bz.al {W : World} {k : Nat} {c : Array Value} {t : TypeId} (h : Bz W k c t) (o : Obj) : Bz (W.alloc o) k c t := (Below.heap_alloc W o k h.lt).trans h
theorem srcIn_any (v : Value) (l : List Int) (w : World) (hv : SlAt w.heap.size w 1 IsI v l) (hr : ∀ x ∈ l, 0 <= x ∧ x < 16) :
  Calls Tryz.prog 49 #[v] w fun e w' => e = .returned (mt (setL l 0) 65535 255 255) ∧ Below w.heap.size w w' := by
 have SO : Hid (∀ ww, Below w.heap.size w ww -> Calls Tryz.prog 76 #[v] ww fun e w' => e = .returned (.int .u16 (setL l 0 : Nat)) ∧ w' = ww) := fun ww hb => setOf_any v l ww (hv.below hb (fun _ _ _ h => h)) hr
 clear hv hr
 generalize setL l 0 = z at *
 go_enter Tryz.func49, Tryz.ntmps49
 go_wp2_with fail
 refine (all_any _).mono ?_
 rintro e w1 ⟨rfl, hb1⟩
 have Z0 : Bz (w.alloc (.cells #[.int .u16 0, .int .u16 0, .int .u8 0, .int .u8 0] 34)) w.heap.size _ _ := Bz.new w _ _ _ rfl
 have Z1 : Bz w1 w.heap.size _ _ := (hb1.block _ Z0.lt).trans Z0
 have D1 : Below w.heap.size w w1 := ((Below.refl _ w).alloc (Nat.le_refl _) _).trans (hb1.mono (Nat.le_of_lt Z0.lt))
 have lt1 := Z1.lt
 have z0 := Z1.cell 0 (.int .u16 0) rfl
 have z1 := Z1.cell 1 (.int .u16 0) rfl
 have z2 := Z1.cell 2 (.int .u8 0) rfl
 have z3 := Z1.cell 3 (.int .u8 0) rfl
 have f0 := Z1.free 0
 have f1 := Z1.free 1
 have f2 := Z1.free 2
 have f3 := Z1.free 3
 unfold mt at *
 have Z1h := Hq.mk Z1
 clear hb1 Z0 Z1
 go_wp2_with fail
 refine (SO.out _ (by go_grown)).mono ?_
 rintro e w2 ⟨rfl, rfl⟩
 clear SO
 go_wp2_with fail
 have Zf := ((((Z1h.out.set (j := 0) (.int .u16 (z : Int))).set (j := 1) (.int .u16 (65535 : Int))).set (j := 2) (.int .u8 255)).set (j := 3) (.int .u8 255)).al (.cells #[(.int .u16 (z : Int)), (.int .u16 (65535 : Int)), .int .u8 255, .int .u8 255] 34)
 have g0 := Zf.cell 0 (.int .u16 (z : Int)) rfl
 have g1 := Zf.cell 1 (.int .u16 (65535 : Int)) rfl
 have g2 := Zf.cell 2 (.int .u8 255) rfl
 have g3 := Zf.cell 3 (.int .u8 255) rfl
 exact bodyPost_ret (v := mt z 65535 255 255) (by simp [results, Tryz.results49, go_sem, g0, g1, g2, g3]) rfl ⟨rfl, by go_grown⟩
theorem dstIn_any (v : Value) (l : List Int) (w : World) (hv : SlAt w.heap.size w 1 IsI v l) (hr : ∀ x ∈ l, 0 <= x ∧ x < 16) :
  Calls Tryz.prog 134 #[v] w fun e w' => e = .returned (mt 65535 (setL l 0) 255 255) ∧ Below w.heap.size w w' := by
 have SO : Hid (∀ ww, Below w.heap.size w ww -> Calls Tryz.prog 76 #[v] ww fun e w' => e = .returned (.int .u16 (setL l 0 : Nat)) ∧ w' = ww) := fun ww hb => setOf_any v l ww (hv.below hb (fun _ _ _ h => h)) hr
 clear hv hr
 generalize setL l 0 = z at *
 go_enter Tryz.func134, Tryz.ntmps134
 go_wp2_with fail
 refine (all_any _).mono ?_
 rintro e w1 ⟨rfl, hb1⟩
 have Z0 : Bz (w.alloc (.cells #[.int .u16 0, .int .u16 0, .int .u8 0, .int .u8 0] 34)) w.heap.size _ _ := Bz.new w _ _ _ rfl
 have Z1 : Bz w1 w.heap.size _ _ := (hb1.block _ Z0.lt).trans Z0
 have D1 : Below w.heap.size w w1 := ((Below.refl _ w).alloc (Nat.le_refl _) _).trans (hb1.mono (Nat.le_of_lt Z0.lt))
 have lt1 := Z1.lt
 have z0 := Z1.cell 0 (.int .u16 0) rfl
 have z1 := Z1.cell 1 (.int .u16 0) rfl
 have z2 := Z1.cell 2 (.int .u8 0) rfl
 have z3 := Z1.cell 3 (.int .u8 0) rfl
 have f0 := Z1.free 0
 have f1 := Z1.free 1
 have f2 := Z1.free 2
 have f3 := Z1.free 3
 unfold mt at *
 have Z1h := Hq.mk Z1
 clear hb1 Z0 Z1
 go_wp2_with fail
 refine (SO.out _ (by go_grown)).mono ?_
 rintro e w2 ⟨rfl, rfl⟩
 clear SO
 go_wp2_with fail
 have Zf := ((((Z1h.out.set (j := 0) (.int .u16 (65535 : Int))).set (j := 1) (.int .u16 (z : Int))).set (j := 2) (.int .u8 255)).set (j := 3) (.int .u8 255)).al (.cells #[(.int .u16 (65535 : Int)), (.int .u16 (z : Int)), .int .u8 255, .int .u8 255] 34)
 have g0 := Zf.cell 0 (.int .u16 (65535 : Int)) rfl
 have g1 := Zf.cell 1 (.int .u16 (z : Int)) rfl
 have g2 := Zf.cell 2 (.int .u8 255) rfl
 have g3 := Zf.cell 3 (.int .u8 255) rfl
 exact bodyPost_ret (v := mt 65535 z 255 255) (by simp [results, Tryz.results134, go_sem, g0, g1, g2, g3]) rfl ⟨rfl, by go_grown⟩
section
variable {base q a M : Nat} {w0 w : World} {ns : List Nd} {er : Int}
def RulB (base q a M : Nat) (w0 : World) (v : Value) (g : Nat) (χ : Env -> Bool) : Prop :=
 ∀ w ns er, Bn base q a M w0 w ns er -> Calls Tryz.prog 129 #[.pointer (some ⟨q, 0, none⟩), v] w (BOut base q a M w0 w ns er g χ)
def AndB (base q a M : Nat) (w0 : World) (φ ψ : Env -> Bool) (g : Nat) : Prop :=
 ∀ w ns er (i j : Nat), Bn base q a M w0 w ns er -> Fn ns er i φ -> Fn ns er j ψ -> Calls Tryz.prog 127 #[.pointer (some ⟨q, 0, none⟩), .int .i64 (i : Int), .int .i64 (j : Int)] w (BOut base q a M w0 w ns er g (fun x => φ x && ψ x))
def OrB (base q a M : Nat) (w0 : World) (φ ψ : Env -> Bool) (g : Nat) : Prop :=
 ∀ w ns er (i j : Nat), Bn base q a M w0 w ns er -> Fn ns er i φ -> Fn ns er j ψ -> Calls Tryz.prog 79 #[.pointer (some ⟨q, 0, none⟩), .int .i64 (i : Int), .int .i64 (j : Int)] w (BOut base q a M w0 w ns er g (fun x => φ x || ψ x))
def FlB (base q a M : Nat) (w0 : World) (φ : Env -> Bool) (g : Nat) : Prop :=
 ∀ w ns er (i : Nat), Bn base q a M w0 w ns er -> Fn ns er i φ -> Calls Tryz.prog 130 #[.pointer (some ⟨q, 0, none⟩), .int .i64 (i : Int)] w (BOut base q a M w0 w ns er g (flF φ))
theorem rulB_any {A : Option Addr} {n cap : Nat} {xs : List Rl} (hR : Rules base w0 (.slice A n cap) xs) (hlen : xs.length <= 8) : RulB base q a M w0 (.slice A n cap) 40000 (letsF xs) :=
 fun _ _ _ h => rules_b h A n cap xs ((hR.below h.bel).mono h.size) hlen
theorem flB_any {φ : Env -> Bool} : FlB base q a M w0 φ (7 * 16383) := fun _ _ _ _ h hf => flip_any h hf
theorem tf_two (w : World) (o1 o2 : Obj) : TF w ((w.alloc o1).alloc o2) := (TF.below ((Below.refl _ w).alloc (Nat.le_refl _) o1)).trans (TF.below ((Below.refl _ _).alloc (Nat.le_refl _) o2))
theorem Bn.grow {w1 : World} (h : Bn base q a M w0 w ns er) (hb : Below w.heap.size w w1) : Bn base q a M w0 w1 ns er :=
 ⟨h.ar.same (hb.block _ h.ar.lta) (hb.block _ h.ar.ltM) (hb.block _ h.ar.row.choose_spec.2.2), (hb.block _ h.blk.lt).trans h.blk, h.lo, h.er6, h.bel.trans (hb.mono h.size)⟩
structure Stt (base q a M : Nat) (w0 T W : World) (ns : List Nd) (er : Int) (g : Nat) (w1 : World) (ns1 : List Nd) (er1 : Int) : Prop where
 bn : Bn base q a M w0 w1 ns1 er1
 tf : TF W w1
 tt : TF T w1
 ext : Ext ns ns1
 wf : Wf 14 ns
 ok : er1 = 0 -> er = 0
 fit : Hid (er = 0 -> ns1.length <= ns.length + g ∧ (er1 ≠ 0 -> 40000 <= ns.length + g))
theorem Stt.start {T : World} (h : Bn base q a M w0 w ns er) (t : TF T w) : Stt base q a M w0 T w ns er 0 w ns er := ⟨h, TF.refl _, t, Ext.refl _, h.ar.wf, id, fun e => ⟨by omega, fun h => absurd e h⟩⟩
variable {T W w1 : World} {ns1 : List Nd} {er1 : Int} {g : Nat}
def Nx (C : World -> Prop) (K : Nat -> World -> Prop) (e : Ending) (w : World) : Prop := ∃ f : Nat, e = .returned (.int .i64 (f : Int)) ∧ C w ∧ K f w
theorem Stt.call {F : FuncId} {args : Array Value} {g' : Nat} {φ : Env -> Bool} {C : World -> Prop} {K : Nat -> World -> Prop} (s : Stt base q a M w0 T W ns er g w1 ns1 er1) (hC : ∀ w', TF W w' -> C w') (c : Calls Tryz.prog F args w1 (BOut base q a M w0 w1 ns1 er1 g' φ))
  (k : ∀ f w2 ns2 er2, Stt base q a M w0 T W ns er (g + g') w2 ns2 er2 -> Fn ns2 er2 f φ -> (∀ {i : Nat} {ψ : Env -> Bool}, Fn ns1 er1 i ψ -> Fn ns2 er2 i ψ) -> K f w2) : Calls Tryz.prog F args w1 (Nx C K) := by
 refine c.mono fun e w2 B => ?_
 obtain ⟨f, ns2, er2, rfl, ⟨b1, tf⟩, X, ho, hf, hg⟩ := B
 refine ⟨f, rfl, hC _ (s.tf.trans tf), k f w2 ns2 er2 ⟨b1, s.tf.trans tf, s.tt.trans tf, s.ext.trans X, s.wf, fun e => s.ok (ho e), fun e0 => ?_⟩ hf fun hi => hi.step s.bn.ar.wf b1.ar.wf X ho⟩
 have a1 := s.fit.out e0
 have a2 := b1.ar.le
 by_cases e1 : er1 = 0
 ·have a3 := hg.out e1
  refine ⟨by omega, fun e2 => ?_⟩
  have := a3.2 e2
  omega
 ·have := a1.2 e1
  exact ⟨by omega, fun _ => by omega⟩
def Nv (C : World -> Prop) (v : Value) (K : World -> Prop) (e : Ending) (w : World) : Prop := e = .returned v ∧ C w ∧ K w
theorem Stt.grow {w2 : World} (s : Stt base q a M w0 T W ns er g w1 ns1 er1) (hb : Below w1.heap.size w1 w2) : Stt base q a M w0 T W ns er g w2 ns1 er1 :=
 ⟨s.bn.grow hb, s.tf.trans (TF.below hb), s.tt.trans (TF.below hb), s.ext, s.wf, s.ok, s.fit⟩
theorem Stt.quiet {F : FuncId} {args : Array Value} {v : Value} {C : World -> Prop} {K : World -> Prop} (s : Stt base q a M w0 T W ns er g w1 ns1 er1) (hC : ∀ w', TF W w' -> C w') (c : Calls Tryz.prog F args w1 fun e w' => e = .returned v ∧ Below w1.heap.size w1 w')
  (k : ∀ w2, Stt base q a M w0 T W ns er g w2 ns1 er1 -> K w2) : Calls Tryz.prog F args w1 (Nv C v K) := by
 refine c.mono fun e w2 B => ?_
 obtain ⟨rfl, hb⟩ := B
 have s2 := s.grow hb
 exact ⟨rfl, hC _ s2.tf, k w2 s2⟩
theorem Stt.fin {f : Nat} {φ : Env -> Bool} (s : Stt base q a M w0 T W ns er g w1 ns1 er1) (hf : Fn ns1 er1 f φ) : BOut base q a M w0 T ns er g φ (.returned (.int .i64 (f : Int))) w1 :=
 ⟨f, ns1, er1, rfl, ⟨s.bn, s.tt⟩, s.ext, s.ok, hf, s.fit⟩
theorem ask_b (h : Bn base q a M w0 w ns er) {nm : ByteArray} {kd ad pl : Int} {Ab A At : Option Addr} {nb cb n cap nt ct : Nat} {f0 f1 f2 f3 : Nat} {gR gA : Nat} {χ φ : Env -> Bool} (RB : RulB base q a M w0 (.slice A n cap) gR χ) (AB : AndB base q a M w0 φ χ gA) (hf : Fn ns er f0 φ) :
  Calls Tryz.prog 105 #[.pointer (some ⟨q, 0, none⟩), .agg #[.string nm, .int .i64 kd, .int .i64 ad, .int .u8 pl, .slice Ab nb cb, .slice A n cap, .slice At nt ct], .agg #[.int .i64 (f0 : Int), .int .i64 (f1 : Int), .int .i64 (f2 : Int), .int .i64 (f3 : Int)]] w (BOut base q a M w0 w ns er (0 + gR + gA) (fun x => φ x && χ x)) := by
 have h1 := ((h.alloc (.cells #[.string nm, .int .i64 kd, .int .i64 ad, .int .u8 pl, .slice Ab nb cb, .slice A n cap, .slice At nt ct] 91)).alloc (.cells #[.int .i64 (f0 : Int), .int .i64 (f1 : Int), .int .i64 (f2 : Int), .int .i64 (f3 : Int)] 80)).drew
 have Z1 : Bz ((w.alloc (.cells #[.string nm, .int .i64 kd, .int .i64 ad, .int .u8 pl, .slice Ab nb cb, .slice A n cap, .slice At nt ct] 91)).alloc (.cells #[.int .i64 (f0 : Int), .int .i64 (f1 : Int), .int .i64 (f2 : Int), .int .i64 (f3 : Int)] 80)).drew w.heap.size #[.string nm, .int .i64 kd, .int .i64 ad, .int .u8 pl, .slice Ab nb cb, .slice A n cap, .slice At nt ct] 91 := (Bz.new w _ _ _ rfl).al _
 have Z2 : Bz ((w.alloc (.cells #[.string nm, .int .i64 kd, .int .i64 ad, .int .u8 pl, .slice Ab nb cb, .slice A n cap, .slice At nt ct] 91)).alloc (.cells #[.int .i64 (f0 : Int), .int .i64 (f1 : Int), .int .i64 (f2 : Int), .int .i64 (f3 : Int)] 80)).drew (w.heap.size + 1) #[.int .i64 (f0 : Int), .int .i64 (f1 : Int), .int .i64 (f2 : Int), .int .i64 (f3 : Int)] 80 := Bz.new (w.alloc _) _ _ _ (by show _ = (w.heap.push _).size; rw [Array.size_push])
 have s0 := Stt.start h1 (T := w) (by exact (tf_two w _ _).trans (TF.below (Below.refl _ _).drew))
 have d5 := Z1.cell 5 (.slice A n cap) rfl
 have p0 := Z2.cell 0 (.int .i64 (f0 : Int)) rfl
 have CH : Hq (Calls Tryz.prog 129 #[.pointer (some ⟨q, 0, none⟩), .slice A n cap] ((w.alloc (.cells #[.string nm, .int .i64 kd, .int .i64 ad, .int .u8 pl, .slice Ab nb cb, .slice A n cap, .slice At nt ct] 91)).alloc (.cells #[.int .i64 (f0 : Int), .int .i64 (f1 : Int), .int .i64 (f2 : Int), .int .i64 (f3 : Int)] 80)).drew (Nx (fun w1 => w1.cell? ⟨w.heap.size, 5, none⟩ = some (.slice A n cap) ∧ w1.cell? ⟨w.heap.size + 1, 0, none⟩ = some (.int .i64 (f0 : Int))) fun fr w1 => Calls Tryz.prog 127 #[.pointer (some ⟨q, 0, none⟩), .int .i64 (f0 : Int), .int .i64 (fr : Int)] w1 (Nx (fun w1 => w1.cell? ⟨w.heap.size, 5, none⟩ = some (.slice A n cap) ∧ w1.cell? ⟨w.heap.size + 1, 0, none⟩ = some (.int .i64 (f0 : Int))) fun ff w2 => BOut base q a M w0 w ns er (0 + gR + gA) (fun x => φ x && χ x) (.returned (.int .i64 (ff : Int))) w2))) := ⟨by
  have hC : ∀ w1, TF ((w.alloc (.cells #[.string nm, .int .i64 kd, .int .i64 ad, .int .u8 pl, .slice Ab nb cb, .slice A n cap, .slice At nt ct] 91)).alloc (.cells #[.int .i64 (f0 : Int), .int .i64 (f1 : Int), .int .i64 (f2 : Int), .int .i64 (f3 : Int)] 80)).drew w1 -> (fun w1 => w1.cell? ⟨w.heap.size, 5, none⟩ = some (.slice A n cap) ∧ w1.cell? ⟨w.heap.size + 1, 0, none⟩ = some (.int .i64 (f0 : Int))) w1 := fun w1 tf => ⟨(tf _ _ _ Z1 (by decide)).cell 5 _ rfl, (tf _ _ _ Z2 (by decide)).cell 0 _ rfl⟩
  exact s0.call hC (RB _ _ _ s0.bn) fun fr w1 ns1 er1 s1 hr l1 => s1.call hC (AB _ _ _ _ _ s1.bn (l1 hf) hr) fun ff w2 ns2 er2 s2 ha _ => s2.fin ha⟩
 clear h h1 Z1 Z2 s0 RB AB hf
 go_enter Tryz.func105, Tryz.ntmps105
 go_wp2_with fail
 go_region_held3 (fun w' => w'.cell? ⟨w.heap.size, 5, none⟩ = some (.slice A n cap) ∧ w'.cell? ⟨w.heap.size + 1, 0, none⟩ = some (.int .i64 (f0 : Int))) (go_keep)
  ((first
    | (go_at_call 129; refine CH.out.mono ?_; rintro e w1 ⟨fr, rfl, ⟨y0, y1⟩, C2⟩; have CH2 := Hq.mk C2; clear C2)
    | (go_at_call 127; refine CH2.out.mono ?_; rintro e w2 ⟨ff, rfl, ⟨x0, x1⟩, FF⟩)))
 all_goals
  go_wp2_with fail
  go_ret
  exact FF
theorem answer_b (h : Bn base q a M w0 w ns er) {nm : ByteArray} {kd ad pl : Int} {Ab A At : Option Addr} {nb cb n cap nt ct : Nat} {f0 f1 f2 f3 : Nat} {gR gA gF gB : Nat} {χ φ ψ : Env -> Bool} (RB : RulB base q a M w0 (.slice A n cap) gR χ) (AB : AndB base q a M w0 φ χ gA) (FB : FlB base q a M w0 (fun x => φ x && χ x) gF) (BB : AndB base q a M w0 ψ (flF (fun x => φ x && χ x)) gB) (hf : Fn ns er f0 φ) (hg : Fn ns er f1 ψ) :
  Calls Tryz.prog 106 #[.pointer (some ⟨q, 0, none⟩), .agg #[.string nm, .int .i64 kd, .int .i64 ad, .int .u8 pl, .slice Ab nb cb, .slice A n cap, .slice At nt ct], .agg #[.int .i64 (f0 : Int), .int .i64 (f1 : Int), .int .i64 (f2 : Int), .int .i64 (f3 : Int)]] w (BOut base q a M w0 w ns er (0 + (0 + gR + gA) + gF + gB) (fun x => ψ x && flF (fun x => φ x && χ x) x)) := by
 have h1 := ((h.alloc (.cells #[.string nm, .int .i64 kd, .int .i64 ad, .int .u8 pl, .slice Ab nb cb, .slice A n cap, .slice At nt ct] 91)).alloc (.cells #[.int .i64 (f0 : Int), .int .i64 (f1 : Int), .int .i64 (f2 : Int), .int .i64 (f3 : Int)] 80)).drew
 have Z1 : Bz ((w.alloc (.cells #[.string nm, .int .i64 kd, .int .i64 ad, .int .u8 pl, .slice Ab nb cb, .slice A n cap, .slice At nt ct] 91)).alloc (.cells #[.int .i64 (f0 : Int), .int .i64 (f1 : Int), .int .i64 (f2 : Int), .int .i64 (f3 : Int)] 80)).drew w.heap.size #[.string nm, .int .i64 kd, .int .i64 ad, .int .u8 pl, .slice Ab nb cb, .slice A n cap, .slice At nt ct] 91 := (Bz.new w _ _ _ rfl).al _
 have Z2 : Bz ((w.alloc (.cells #[.string nm, .int .i64 kd, .int .i64 ad, .int .u8 pl, .slice Ab nb cb, .slice A n cap, .slice At nt ct] 91)).alloc (.cells #[.int .i64 (f0 : Int), .int .i64 (f1 : Int), .int .i64 (f2 : Int), .int .i64 (f3 : Int)] 80)).drew (w.heap.size + 1) #[.int .i64 (f0 : Int), .int .i64 (f1 : Int), .int .i64 (f2 : Int), .int .i64 (f3 : Int)] 80 := Bz.new (w.alloc _) _ _ _ (by show _ = (w.heap.push _).size; rw [Array.size_push])
 have s0 := Stt.start h1 (T := w) (by exact (tf_two w _ _).trans (TF.below (Below.refl _ _).drew))
 have d0 := Z1.cell 0 (.string nm) rfl
 have d1 := Z1.cell 1 (.int .i64 kd) rfl
 have d2 := Z1.cell 2 (.int .i64 ad) rfl
 have d3 := Z1.cell 3 (.int .u8 pl) rfl
 have d4 := Z1.cell 4 (.slice Ab nb cb) rfl
 have d5 := Z1.cell 5 (.slice A n cap) rfl
 have d6 := Z1.cell 6 (.slice At nt ct) rfl
 have p0 := Z2.cell 0 (.int .i64 (f0 : Int)) rfl
 have p1 := Z2.cell 1 (.int .i64 (f1 : Int)) rfl
 have p2 := Z2.cell 2 (.int .i64 (f2 : Int)) rfl
 have p3 := Z2.cell 3 (.int .i64 (f3 : Int)) rfl
 have CH : Hq (Calls Tryz.prog 105 #[.pointer (some ⟨q, 0, none⟩), .agg #[.string nm, .int .i64 kd, .int .i64 ad, .int .u8 pl, .slice Ab nb cb, .slice A n cap, .slice At nt ct], .agg #[.int .i64 (f0 : Int), .int .i64 (f1 : Int), .int .i64 (f2 : Int), .int .i64 (f3 : Int)]] ((w.alloc (.cells #[.string nm, .int .i64 kd, .int .i64 ad, .int .u8 pl, .slice Ab nb cb, .slice A n cap, .slice At nt ct] 91)).alloc (.cells #[.int .i64 (f0 : Int), .int .i64 (f1 : Int), .int .i64 (f2 : Int), .int .i64 (f3 : Int)] 80)).drew (Nx (fun w1 => w1.cell? ⟨w.heap.size, 0, none⟩ = some (.string nm) ∧ w1.cell? ⟨w.heap.size, 1, none⟩ = some (.int .i64 kd) ∧ w1.cell? ⟨w.heap.size, 2, none⟩ = some (.int .i64 ad) ∧ w1.cell? ⟨w.heap.size, 3, none⟩ = some (.int .u8 pl) ∧ w1.cell? ⟨w.heap.size, 4, none⟩ = some (.slice Ab nb cb) ∧ w1.cell? ⟨w.heap.size, 5, none⟩ = some (.slice A n cap) ∧ w1.cell? ⟨w.heap.size, 6, none⟩ = some (.slice At nt ct) ∧ w1.cell? ⟨w.heap.size + 1, 0, none⟩ = some (.int .i64 (f0 : Int)) ∧ w1.cell? ⟨w.heap.size + 1, 1, none⟩ = some (.int .i64 (f1 : Int)) ∧ w1.cell? ⟨w.heap.size + 1, 2, none⟩ = some (.int .i64 (f2 : Int)) ∧ w1.cell? ⟨w.heap.size + 1, 3, none⟩ = some (.int .i64 (f3 : Int))) fun fr w1 => Calls Tryz.prog 130 #[.pointer (some ⟨q, 0, none⟩), .int .i64 (fr : Int)] w1 (Nx (fun w1 => w1.cell? ⟨w.heap.size, 0, none⟩ = some (.string nm) ∧ w1.cell? ⟨w.heap.size, 1, none⟩ = some (.int .i64 kd) ∧ w1.cell? ⟨w.heap.size, 2, none⟩ = some (.int .i64 ad) ∧ w1.cell? ⟨w.heap.size, 3, none⟩ = some (.int .u8 pl) ∧ w1.cell? ⟨w.heap.size, 4, none⟩ = some (.slice Ab nb cb) ∧ w1.cell? ⟨w.heap.size, 5, none⟩ = some (.slice A n cap) ∧ w1.cell? ⟨w.heap.size, 6, none⟩ = some (.slice At nt ct) ∧ w1.cell? ⟨w.heap.size + 1, 0, none⟩ = some (.int .i64 (f0 : Int)) ∧ w1.cell? ⟨w.heap.size + 1, 1, none⟩ = some (.int .i64 (f1 : Int)) ∧ w1.cell? ⟨w.heap.size + 1, 2, none⟩ = some (.int .i64 (f2 : Int)) ∧ w1.cell? ⟨w.heap.size + 1, 3, none⟩ = some (.int .i64 (f3 : Int))) fun fl w2 => Calls Tryz.prog 127 #[.pointer (some ⟨q, 0, none⟩), .int .i64 (f1 : Int), .int .i64 (fl : Int)] w2 (Nx (fun w1 => w1.cell? ⟨w.heap.size, 0, none⟩ = some (.string nm) ∧ w1.cell? ⟨w.heap.size, 1, none⟩ = some (.int .i64 kd) ∧ w1.cell? ⟨w.heap.size, 2, none⟩ = some (.int .i64 ad) ∧ w1.cell? ⟨w.heap.size, 3, none⟩ = some (.int .u8 pl) ∧ w1.cell? ⟨w.heap.size, 4, none⟩ = some (.slice Ab nb cb) ∧ w1.cell? ⟨w.heap.size, 5, none⟩ = some (.slice A n cap) ∧ w1.cell? ⟨w.heap.size, 6, none⟩ = some (.slice At nt ct) ∧ w1.cell? ⟨w.heap.size + 1, 0, none⟩ = some (.int .i64 (f0 : Int)) ∧ w1.cell? ⟨w.heap.size + 1, 1, none⟩ = some (.int .i64 (f1 : Int)) ∧ w1.cell? ⟨w.heap.size + 1, 2, none⟩ = some (.int .i64 (f2 : Int)) ∧ w1.cell? ⟨w.heap.size + 1, 3, none⟩ = some (.int .i64 (f3 : Int))) fun ff w3 => BOut base q a M w0 w ns er (0 + (0 + gR + gA) + gF + gB) (fun x => ψ x && flF (fun x => φ x && χ x) x) (.returned (.int .i64 (ff : Int))) w3)))) := ⟨by
  have hC : ∀ w1, TF ((w.alloc (.cells #[.string nm, .int .i64 kd, .int .i64 ad, .int .u8 pl, .slice Ab nb cb, .slice A n cap, .slice At nt ct] 91)).alloc (.cells #[.int .i64 (f0 : Int), .int .i64 (f1 : Int), .int .i64 (f2 : Int), .int .i64 (f3 : Int)] 80)).drew w1 -> (fun w1 => w1.cell? ⟨w.heap.size, 0, none⟩ = some (.string nm) ∧ w1.cell? ⟨w.heap.size, 1, none⟩ = some (.int .i64 kd) ∧ w1.cell? ⟨w.heap.size, 2, none⟩ = some (.int .i64 ad) ∧ w1.cell? ⟨w.heap.size, 3, none⟩ = some (.int .u8 pl) ∧ w1.cell? ⟨w.heap.size, 4, none⟩ = some (.slice Ab nb cb) ∧ w1.cell? ⟨w.heap.size, 5, none⟩ = some (.slice A n cap) ∧ w1.cell? ⟨w.heap.size, 6, none⟩ = some (.slice At nt ct) ∧ w1.cell? ⟨w.heap.size + 1, 0, none⟩ = some (.int .i64 (f0 : Int)) ∧ w1.cell? ⟨w.heap.size + 1, 1, none⟩ = some (.int .i64 (f1 : Int)) ∧ w1.cell? ⟨w.heap.size + 1, 2, none⟩ = some (.int .i64 (f2 : Int)) ∧ w1.cell? ⟨w.heap.size + 1, 3, none⟩ = some (.int .i64 (f3 : Int))) w1 := fun w1 tf => ⟨(tf _ _ _ Z1 (by decide)).cell 0 _ rfl, (tf _ _ _ Z1 (by decide)).cell 1 _ rfl, (tf _ _ _ Z1 (by decide)).cell 2 _ rfl, (tf _ _ _ Z1 (by decide)).cell 3 _ rfl, (tf _ _ _ Z1 (by decide)).cell 4 _ rfl, (tf _ _ _ Z1 (by decide)).cell 5 _ rfl, (tf _ _ _ Z1 (by decide)).cell 6 _ rfl, (tf _ _ _ Z2 (by decide)).cell 0 _ rfl, (tf _ _ _ Z2 (by decide)).cell 1 _ rfl, (tf _ _ _ Z2 (by decide)).cell 2 _ rfl, (tf _ _ _ Z2 (by decide)).cell 3 _ rfl⟩
  exact s0.call hC (ask_b s0.bn RB AB hf) fun fr w1 ns1 er1 s1 hr l1 => s1.call hC (FB _ _ _ _ s1.bn hr) fun fl w2 ns2 er2 s2 ha l2 => s2.call hC (BB _ _ _ _ _ s2.bn (l2 (l1 hg)) ha) fun ff w3 ns3 er3 s3 hb _ => s3.fin hb⟩
 clear h h1 Z1 Z2 s0 RB AB hf FB BB hg
 go_enter Tryz.func106, Tryz.ntmps106
 go_wp2_with fail
 go_region_held3 (fun w' => w'.cell? ⟨w.heap.size, 0, none⟩ = some (.string nm) ∧ w'.cell? ⟨w.heap.size, 1, none⟩ = some (.int .i64 kd) ∧ w'.cell? ⟨w.heap.size, 2, none⟩ = some (.int .i64 ad) ∧ w'.cell? ⟨w.heap.size, 3, none⟩ = some (.int .u8 pl) ∧ w'.cell? ⟨w.heap.size, 4, none⟩ = some (.slice Ab nb cb) ∧ w'.cell? ⟨w.heap.size, 5, none⟩ = some (.slice A n cap) ∧ w'.cell? ⟨w.heap.size, 6, none⟩ = some (.slice At nt ct) ∧ w'.cell? ⟨w.heap.size + 1, 0, none⟩ = some (.int .i64 (f0 : Int)) ∧ w'.cell? ⟨w.heap.size + 1, 1, none⟩ = some (.int .i64 (f1 : Int)) ∧ w'.cell? ⟨w.heap.size + 1, 2, none⟩ = some (.int .i64 (f2 : Int)) ∧ w'.cell? ⟨w.heap.size + 1, 3, none⟩ = some (.int .i64 (f3 : Int))) (go_keep)
  ((first
    | (go_at_call 105; refine CH.out.mono ?_; rintro e w1 ⟨fr, rfl, ⟨y0, y1, y2, y3, y4, y5, y6, y7, y8, y9, y10⟩, C2⟩; have CH2 := Hq.mk C2; clear C2)
    | (go_at_call 130; refine CH2.out.mono ?_; rintro e w2 ⟨fl, rfl, ⟨x0, x1, x2, x3, x4, x5, x6, x7, x8, x9, x10⟩, C3⟩; have CH3 := Hq.mk C3; clear C3)
    | (go_at_call 127; refine CH3.out.mono ?_; rintro e w3 ⟨ff, rfl, ⟨z0, z1, z2, z3, z4, z5, z6, z7, z8, z9, z10⟩, FF⟩)))
 all_goals
  go_wp2_with fail
  go_ret
  exact FF
end
end Go.Proofs.YtmcklkkkkigflaaGreat
