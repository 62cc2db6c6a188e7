/-
  XAN.
-/
import Derived.Test.YtlmmeppifkigeaaGreatXAD
import Derived.RangeFuncNested
import Derived.RangeFuncBound
import Derived.RangeFuncCalls
import Derived.RangeFuncLeaves
import Derived.Shelf.Abstract
import Derived.Shelf.RegionOpen
import Derived.OwnWalkIn
import Derived.TacticsInMore
import Derived.LoopNIn
import Derived.LoopIn
import Derived.Test.YtlmmeppifkigeaaGreatProg
import Derived.Maps.OwnSet
import Derived.WalkKit
import Derived.DeepKeys5
import Derived.Deep.AppendLies
import Derived.Deep.RegionHeld3
import Derived.Deep.DeepCutAuto
import Derived.BigQuiet
set_option maxHeartbeats 8000000
set_option maxRecDepth 100000
namespace Go.Proofs.YtlmmeppifkigeaaGreat
open Go.RowKit Go.Shelf
attribute [local go_sem] Oper.semAt_some
abbrev IR := Nat × Rl
def encIR (x : IR) : Array Value := #[.int .i64 (x.1 : Int), rv x.2]
def came (xs : List Rl) (k : Nat) : List IR := (List.range k).map fun j => (xs.length - 1 - j, (xs[xs.length - 1 - j]?).getD (allR false))
theorem came_succ (xs : List Rl) (k : Nat) : came xs (k + 1) = came xs k ++ [(xs.length - 1 - k, (xs[xs.length - 1 - k]?).getD (allR false))] := by simp [came, List.range_succ]
theorem came_length (xs : List Rl) (k : Nat) : (came xs k).length = k := by simp [came]
def KpB (base Bs : Nat) (v : Value) (W W' : World) : Prop := Below base W W' ∧ (Boxed W Bs 59 v -> Boxed W' Bs 59 v)
theorem kpB_t {base Bs : Nat} {v : Value} {A B C : World} (h : KpB base Bs v A B) (k : KpB base Bs v B C) : KpB base Bs v A C := ⟨h.1.trans k.1, fun x => k.2 (h.2 x)⟩
theorem kpB_refl {base Bs : Nat} {v : Value} (A : World) : KpB base Bs v A A := ⟨Below.refl _ _, id⟩
theorem back1_in (F : Fence) (n : Nat) (hF : F.fn 189) (hro : F.round = none) (hn : 1 <= n) (l Bs base b o cap : Nat) (xs : List Rl) (hlen : xs.length <= 1099511627776) (hb : b < base) (J Jx : List IR -> World -> Prop)
  (hY : ∀ pre x W, J pre W -> pre.length < xs.length -> YieldAt F (n - 1) Tryz.prog l (encIR x) W fun e W' =>
    (e = .returned (.bool true) ∧ J (pre ++ [x]) W' ∧ KpB base Bs (.slice (some ⟨b, o, none⟩) xs.length cap) W W') ∨ (e = .returned (.bool false) ∧ Jx (pre ++ [x]) W'))
  (W : World) (hBs : Boxed W Bs 59 (.slice (some ⟨b, o, none⟩) xs.length cap)) (hr : RAt W b o xs) (h0 : J [] W) :
  CallsIn F n Tryz.prog 189 #[.func (.yield l) #[] #[], .pointer (some ⟨Bs, 0, none⟩)] W fun e W' => (∃ v, e = .returned v) ∧
   ((∃ ys, ys = came xs xs.length ∧ J ys W') ∨ (∃ pre, (∃ k, k <= xs.length ∧ pre = came xs k) ∧ Jx pre W')) := by
 have c0 := hBs.cell
 refine callsIn_of_wp Tryz.func189 rfl hF ?_ hro
 simp only [Tryz.ntmps189, List.size_toArray, List.length_cons, List.length_nil, Nat.reduceAdd, Nat.reduceSub, Array.replicate_succ, Array.replicate_zero, List.push_toArray, List.append_toArray, List.nil_append, List.cons_append]
 gi_wp2
 gi_loopw [3] (fun i wr => ∃ (m k : Nat) (I : Int), m + k = xs.length ∧ i = .int .i64 I ∧ I = (m : Int) - 1 ∧ J (came xs k) wr ∧ KpB base Bs (.slice (some ⟨b, o, none⟩) xs.length cap) W wr)
  (fun i _ => (intOf i + 1).toNat)
 case atStart => exact ⟨xs.length, 0, _, by omega, rfl, rfl, h0, kpB_refl _⟩
 case round =>
  obtain ⟨m, k, I, hmk, rfl, hI, hJs, hK⟩ := hrel
  have c1 := (hK.2 hBs).cell
  cases m with
  | zero =>
    obtain rfl : k = xs.length := by omega
    obtain rfl : I = -1 := by omega
    clear hI
    gi_wp2
    go_end0
    exact ⟨⟨_, rfl⟩, .inl ⟨_, rfl, hJs⟩⟩
  | succ j =>
    have hj : j < xs.length := by omega
    obtain ⟨r, hxj⟩ : ∃ r, xs[j]? = some r := ⟨_, List.getElem?_eq_getElem hj⟩
    obtain ⟨d0, d1, d2, d3, d4⟩ := (hr.below hK.1 hb).at hxj
    have hce : came xs (k + 1) = came xs k ++ [(j, r)] := by
     rw [came_succ, show xs.length - 1 - k = j by omega, hxj]
     rfl
    obtain ⟨fn, tmps, assign, body, hy, hR⟩ := hY _ (j, r) wr hJs (by rw [came_length]; omega)
    simp only [encIR] at hy
    obtain rfl : I = (j : Int) := by omega
    clear hI
    gi_wp2
    refine hR.mono ?_
    rintro e W3 (⟨rfl, hJ3, hk3⟩ | ⟨rfl, hJx3⟩)
    ·gi_wp2
     go_roundw
     case rel => exact ⟨j, k + 1, _, by omega, rfl, rfl, by rw [hce]; exact hJ3, kpB_t hK hk3⟩
     case measure => simp [intOf]
    ·gi_wp2
     refine bodyPost_ret (results_none rfl _ _ _) rfl ?_
     exact ⟨⟨_, rfl⟩, .inr ⟨_, ⟨k + 1, by omega, hce.symm⟩, hJx3⟩⟩
theorem back0_in (F : Fence) (n : Nat) (hF : F.fn 189) (hro : F.round = none) (l Bs : Nat) (A : Option Addr) (cap : Nat) (J : List IR -> World -> Prop) (W : World) (hBs : Boxed W Bs 59 (.slice A 0 cap)) (h0 : J [] W) :
  CallsIn F n Tryz.prog 189 #[.func (.yield l) #[] #[], .pointer (some ⟨Bs, 0, none⟩)] W fun e W' => (∃ v, e = .returned v) ∧ J [] W' := by
 have c0 := hBs.cell
 refine callsIn_of_wp Tryz.func189 rfl hF ?_ hro
 simp only [Tryz.ntmps189, List.size_toArray, List.length_cons, List.length_nil, Nat.reduceAdd, Nat.reduceSub, Array.replicate_succ, Array.replicate_zero, List.push_toArray, List.append_toArray, List.nil_append, List.cons_append]
 gi_wp2
 gi_loopw [3] (fun i wr => i = .int .i64 (-1) ∧ J [] wr) (fun _ _ => 0)
 case atStart => exact ⟨rfl, h0⟩
 case round =>
  obtain ⟨rfl, hJs⟩ := hrel
  gi_wp2
  go_end0
  exact ⟨⟨_, rfl⟩, hJs⟩
theorem back_in (F : Fence) (n : Nat) (hF : F.fn 184) (hro : F.round = none) (A : Option Addr) (len cap : Nat) (w : World) :
  CallsIn F n Tryz.prog 184 #[.slice A len cap] w fun e w' => e = .returned (.func (.func 189) #[] #[.pointer (some ⟨w.heap.size, 0, none⟩)]) ∧ w' = w.alloc (.cells #[.slice A len cap] 59) := by
 refine callsIn_of_wp Tryz.func184 rfl hF ?_ hro
 simp only [Tryz.ntmps184, List.size_toArray, List.length_cons, List.length_nil, Nat.reduceAdd, Nat.reduceSub, Array.replicate_succ, Array.replicate_zero, List.push_toArray, List.append_toArray, List.nil_append, List.cons_append]
 gi_wp2
 go_ret
 exact ⟨rfl, rfl⟩
theorem back_stops (F : Fence) (n : Nat) (hF : F.fn 189) (hro : F.round = none) (hn : 1 <= n) (Bs base : Nat) (v : Value) (xs : List Rl) (hlen : xs.length <= 1099511627776) (w : World) (hbase : base <= w.heap.size)
  (hB : Boxed w Bs 59 v) (hR : Rules base w v xs) :
  SeqStopsK F n Tryz.prog 189 #[.pointer (some ⟨Bs, 0, none⟩)] encIR (KpB base Bs v) (fun ys => ys = came xs xs.length)
   (fun pre => ∃ k, k <= xs.length ∧ pre = came xs k) xs.length w := fun l J Jx W hW _ _ hY h0 => by
 have hB' : Boxed W Bs 59 v := (hW.block Bs hB.lt).trans hB
 obtain ⟨A, cap, rfl, h1, h2, h3, h4⟩ := hR.below (hW.mono hbase)
 by_cases hx : xs = []
 ·subst hx
  exact (back0_in F n hF hro l Bs A cap J W hB' h0).mono fun e W' ⟨he, hj⟩ => ⟨he, .inl ⟨_, rfl, hj⟩⟩
 ·obtain ⟨b, o, rfl, hb, hr⟩ := h4 hx
  exact back1_in F n hF hro hn l Bs base b o cap xs hlen hb J Jx hY W hB' hr h0
end Go.Proofs.YtlmmeppifkigeaaGreat
namespace Go.Proofs.YtlmmeppifkigeaaGreat
abbrev Nd := Nat × Nat × Nat
def nd (ns : List Nd) (f : Nat) : Nd := ns.getD f (0, 0, 0)
abbrev nv (ns : List Nd) (f : Nat) : Nat := (nd ns f).1
abbrev nl (ns : List Nd) (f : Nat) : Nat := (nd ns f).2.1
abbrev nh (ns : List Nd) (f : Nat) : Nat := (nd ns f).2.2
structure Wf (vars : Nat) (ns : List Nd) : Prop where
 len : 2 <= ns.length
 n0 : nd ns 0 = (vars, 0, 0)
 n1 : nd ns 1 = (vars, 1, 1)
 va : ∀ f, 2 <= f -> f < ns.length -> nv ns f < vars
 lo : ∀ f, 2 <= f -> f < ns.length -> nl ns f < f
 hi : ∀ f, 2 <= f -> f < ns.length -> nh ns f < f
 ne : ∀ f, 2 <= f -> f < ns.length -> nl ns f ≠ nh ns f
 vlo : ∀ f, 2 <= f -> f < ns.length -> nv ns f < nv ns (nl ns f)
 vhi : ∀ f, 2 <= f -> f < ns.length -> nv ns f < nv ns (nh ns f)
 uniq : ∀ f g, 2 <= f -> f < ns.length -> 2 <= g -> g < ns.length -> nd ns f = nd ns g -> f = g
abbrev Env := Nat -> Bool
def setE (e : Env) (i : Nat) (b : Bool) : Env := fun j => if j = i then b else e j
theorem setE_same (e : Env) (i : Nat) (b : Bool) : setE e i b i = b := by simp [setE]
theorem setE_ne (e : Env) {i j : Nat} (b : Bool) (h : j ≠ i) : setE e i b j = e j := by simp [setE, h]
theorem setE_self (e : Env) (i : Nat) : setE e i (e i) = e := by
 funext j
 unfold setE
 split
 ·rename_i h; rw [h]
 ·rfl
def evF (ns : List Nd) : Nat -> Nat -> Env -> Bool
 | 0, f, _ => f == 1
 | k + 1, f, e => if f <= 1 then f == 1 else if e (nv ns f) then evF ns k (nh ns f) e else evF ns k (nl ns f) e
def ev (ns : List Nd) (f : Nat) (e : Env) : Bool := evF ns f f e
variable {vars : Nat} {ns ns' : List Nd}
theorem evF_enough (h : Wf vars ns) : ∀ (k f : Nat) (e : Env), f < ns.length -> f <= k -> evF ns k f e = ev ns f e := by
 intro k
 induction k using Nat.strongRecOn with
 | _ k ih =>
   intro f e hf hk
   by_cases h1 : f <= 1
   ·unfold ev
    match k, f, h1 with
    | 0, 0, _ => rfl
    | k + 1, 0, _ => rfl
    | 0, 1, _ => rfl
    | k + 1, 1, _ => rfl
   ·have l1 := h.lo f (by omega) hf
    have l2 := h.hi f (by omega) hf
    obtain ⟨m, rfl⟩ : ∃ m, f = m + 1 := ⟨f - 1, by omega⟩
    obtain ⟨k', rfl⟩ : ∃ k', k = k' + 1 := ⟨k - 1, by omega⟩
    unfold ev
    rw [evF, if_neg h1, evF, if_neg h1, ih k' (by omega) _ _ (by omega) (by omega), ih k' (by omega) _ _ (by omega) (by omega)]
    by_cases hm : m < k' + 1
    ·rw [ih m (by omega) _ _ (by omega) (by omega), ih m (by omega) _ _ (by omega) (by omega)]
    ·omega
theorem ev0 (ns : List Nd) (e : Env) : ev ns 0 e = false := rfl
theorem ev1 (ns : List Nd) (e : Env) : ev ns 1 e = true := by simp [ev, evF]
theorem ev_node (h : Wf vars ns) {f : Nat} (h2 : 2 <= f) (hf : f < ns.length) (e : Env) : ev ns f e = if e (nv ns f) then ev ns (nh ns f) e else ev ns (nl ns f) e := by
 have l1 := h.lo f h2 hf
 have l2 := h.hi f h2 hf
 have := evF_enough h (f + 1) f e hf (by omega)
 rw [<- this, evF, if_neg (by omega), evF_enough h f _ e (by omega) (by omega), evF_enough h f _ e (by omega) (by omega)]
theorem va_le (h : Wf vars ns) {f : Nat} (hf : f < ns.length) : nv ns f <= vars := by
 by_cases h2 : 2 <= f
 ·exact Nat.le_of_lt (h.va f h2 hf)
 ·match f, h2 with
  | 0, _ => simp [nv, h.n0]
  | 1, _ => simp [nv, h.n1]
  | f + 2, h2 => omega
theorem va_lt (h : Wf vars ns) {f : Nat} (hf : f < ns.length) (hv : nv ns f < vars) : 2 <= f := by
 by_cases h2 : 2 <= f
 ·exact h2
 ·match f, h2 with
  | 0, _ => simp [nv, h.n0] at hv
  | 1, _ => simp [nv, h.n1] at hv
  | f + 2, h2 => omega
theorem ev_dep (h : Wf vars ns) : ∀ (f : Nat), f < ns.length -> ∀ e e' : Env, (∀ i, nv ns f <= i -> i < vars -> e i = e' i) -> ev ns f e = ev ns f e' := by
 intro f
 induction f using Nat.strongRecOn with
 | _ f ih =>
   intro hf e e' he
   by_cases h2 : 2 <= f
   ·have l1 := h.lo f h2 hf
    have l2 := h.hi f h2 hf
    have v1 := h.vlo f h2 hf
    have v2 := h.vhi f h2 hf
    rw [ev_node h h2 hf, ev_node h h2 hf, he _ (Nat.le_refl _) (h.va f h2 hf)]
    rw [ih _ l2 (by omega) e e' (fun i hi hv => he i (by omega) hv), ih _ l1 (by omega) e e' (fun i hi hv => he i (by omega) hv)]
   ·match f, h2 with
    | 0, _ => rfl
    | 1, _ => rw [ev1, ev1]
    | f + 2, h2 => omega
theorem ev_skip (h : Wf vars ns) {f : Nat} (hf : f < ns.length) {i : Nat} (hi : i < nv ns f) (e : Env) (b : Bool) : ev ns f (setE e i b) = ev ns f e :=
 ev_dep h f hf _ _ (fun j hj _ => setE_ne e b (by omega))
theorem ev_set (h : Wf vars ns) {f : Nat} (h2 : 2 <= f) (hf : f < ns.length) (e : Env) (b : Bool) : ev ns f (setE e (nv ns f) b) = if b then ev ns (nh ns f) e else ev ns (nl ns f) e := by
 have l1 := h.lo f h2 hf
 have l2 := h.hi f h2 hf
 rw [ev_node h h2 hf, setE_same, ev_skip h (by omega) (h.vhi f h2 hf), ev_skip h (by omega) (h.vlo f h2 hf)]
theorem canon_to (h : Wf vars ns) : ∀ (n f g : Nat), f < n -> g < n -> f < ns.length -> g < ns.length -> (∀ e, ev ns f e = ev ns g e) -> f = g := by
 intro n
 induction n with
 | zero => intro f g hn; omega
 | succ n ih =>
   have one : ∀ f g, f < n + 1 -> 2 <= f -> f < ns.length -> g < ns.length -> nv ns f < nv ns g -> (∀ e, ev ns f e = ev ns g e) -> False := by
    intro f g hn h2 hf hg hv he
    have l1 := h.lo f h2 hf
    have l2 := h.hi f h2 hf
    refine h.ne f h2 hf (ih _ _ (by omega) (by omega) (by omega) (by omega) ?_)
    intro e
    have a1 := ev_set h h2 hf e false
    have a2 := ev_set h h2 hf e true
    simp only [if_true, Bool.false_eq_true, if_false] at a1 a2
    rw [<- a1, <- a2, he, he, ev_skip h hg hv, ev_skip h hg hv]
   intro f g hfn hgn hf hg he
   rcases Nat.lt_trichotomy (nv ns f) (nv ns g) with hv | hv | hv
   ·exact (one f g hfn (va_lt h hf (Nat.lt_of_lt_of_le hv (va_le h hg))) hf hg hv he).elim
   ·by_cases h2 : 2 <= f
    ·have g2 : 2 <= g := va_lt h hg (by rw [<- hv]; exact h.va f h2 hf)
     have l1 := h.lo f h2 hf
     have l2 := h.hi f h2 hf
     have m1 := h.lo g g2 hg
     have m2 := h.hi g g2 hg
     have e1 : nl ns f = nl ns g := ih _ _ (by omega) (by omega) (by omega) (by omega) (fun e => by
      have a1 := ev_set h h2 hf e false
      have a2 := ev_set h g2 hg e false
      simp only [Bool.false_eq_true, if_false] at a1 a2
      rw [<- a1, <- a2, he, hv])
     have e2 : nh ns f = nh ns g := ih _ _ (by omega) (by omega) (by omega) (by omega) (fun e => by
      have a1 := ev_set h h2 hf e true
      have a2 := ev_set h g2 hg e true
      simp only [if_true] at a1 a2
      rw [<- a1, <- a2, he, hv])
     exact h.uniq f g h2 hf g2 hg (Prod.ext hv (Prod.ext e1 e2))
    ·by_cases g2 : 2 <= g
     ·have := va_lt h hf (by rw [hv]; exact h.va g g2 hg)
      omega
     ·have e0 := he (fun _ => false)
      match f, g, h2, g2 with
      | 0, 0, _, _ => rfl
      | 1, 1, _, _ => rfl
      | 0, 1, _, _ => rw [ev0, ev1] at e0; cases e0
      | 1, 0, _, _ => rw [ev0, ev1] at e0; cases e0
      | f + 2, _, h2, _ => omega
      | _, g + 2, _, g2 => omega
   ·exact (one g f hgn (va_lt h hg (Nat.lt_of_lt_of_le hv (va_le h hf))) hg hf hv (fun e => (he e).symm)).elim
theorem canon (h : Wf vars ns) {f g : Nat} (hf : f < ns.length) (hg : g < ns.length) (he : ∀ e, ev ns f e = ev ns g e) : f = g :=
 canon_to h (max f g + 1) f g (by omega) (by omega) hf hg he
def Ext (ns ns' : List Nd) : Prop := ∃ more, ns' = ns ++ more
theorem Ext.refl (ns : List Nd) : Ext ns ns := ⟨[], by simp⟩
theorem Ext.trans {a b c : List Nd} (h : Ext a b) (k : Ext b c) : Ext a c := by
 obtain ⟨x, rfl⟩ := h
 obtain ⟨y, rfl⟩ := k
 exact ⟨x ++ y, by simp⟩
theorem Ext.len (h : Ext ns ns') : ns.length <= ns'.length := by
 obtain ⟨x, rfl⟩ := h
 simp
theorem Ext.nd (h : Ext ns ns') {f : Nat} (hf : f < ns.length) : nd ns' f = nd ns f := by
 obtain ⟨x, rfl⟩ := h
 simp [YtlmmeppifkigeaaGreat.nd, List.getElem?_append_left hf]
theorem Ext.va (h : Ext ns ns') {f : Nat} (hf : f < ns.length) : nv ns' f = nv ns f := by rw [nv, h.nd hf]
theorem Ext.ev (h : Ext ns ns') (wf : Wf vars ns) (wf' : Wf vars ns') : ∀ (f : Nat), f < ns.length -> ∀ e, ev ns' f e = ev ns f e := by
 intro f
 induction f using Nat.strongRecOn with
 | _ f ih =>
   intro hf e
   by_cases h2 : 2 <= f
   ·have l1 := wf.lo f h2 hf
    have l2 := wf.hi f h2 hf
    have hl := h.len
    rw [ev_node wf' h2 (by omega), ev_node wf h2 hf, show nv ns' f = nv ns f from h.va hf, show nh ns' f = nh ns f by rw [nh, h.nd hf], show nl ns' f = nl ns f by rw [nl, h.nd hf],
     ih _ l2 (by omega), ih _ l1 (by omega)]
   ·match f, h2 with
    | 0, _ => rfl
    | 1, _ => rw [ev1, ev1]
    | f + 2, h2 => omega
theorem wf_snoc (h : Wf vars ns) {n : Nd} (hv : n.1 < vars) (hlo : n.2.1 < ns.length) (hhi : n.2.2 < ns.length) (hne : n.2.1 ≠ n.2.2) (v1 : n.1 < nv ns n.2.1) (v2 : n.1 < nv ns n.2.2)
  (hnew : ∀ f, 2 <= f -> f < ns.length -> nd ns f ≠ n) : Wf vars (ns ++ [n]) := by
 have X : Ext ns (ns ++ [n]) := ⟨[n], rfl⟩
 have last : nd (ns ++ [n]) ns.length = n := by simp [nd]
 have len' : (ns ++ [n]).length = ns.length + 1 := by simp
 have h2 := h.len
 refine ⟨by rw [len']; omega, by rw [X.nd (by omega)]; exact h.n0, by rw [X.nd (by omega)]; exact h.n1, ?_, ?_, ?_, ?_, ?_, ?_, ?_⟩
 ·intro f f2 hf
  by_cases hl : f < ns.length
  ·rw [nv, X.nd hl]; exact h.va f f2 hl
  ·obtain rfl : f = ns.length := by omega
   rw [nv, last]; exact hv
 ·intro f f2 hf
  by_cases hl : f < ns.length
  ·rw [nl, X.nd hl]; exact h.lo f f2 hl
  ·obtain rfl : f = ns.length := by omega
   rw [nl, last]; exact hlo
 ·intro f f2 hf
  by_cases hl : f < ns.length
  ·rw [nh, X.nd hl]; exact h.hi f f2 hl
  ·obtain rfl : f = ns.length := by omega
   rw [nh, last]; exact hhi
 ·intro f f2 hf
  by_cases hl : f < ns.length
  ·rw [nl, nh, X.nd hl]; exact h.ne f f2 hl
  ·obtain rfl : f = ns.length := by omega
   rw [nl, nh, last]; exact hne
 ·intro f f2 hf
  by_cases hl : f < ns.length
  ·have := h.lo f f2 hl
   rw [nv, nl, X.nd hl, nv, X.nd (Nat.lt_trans this hl)]; exact h.vlo f f2 hl
  ·obtain rfl : f = ns.length := by omega
   rw [nv, nl, last, nv, X.nd hlo]; exact v1
 ·intro f f2 hf
  by_cases hl : f < ns.length
  ·have := h.hi f f2 hl
   rw [nv, nh, X.nd hl, nv, X.nd (Nat.lt_trans this hl)]; exact h.vhi f f2 hl
  ·obtain rfl : f = ns.length := by omega
   rw [nv, nh, last, nv, X.nd hhi]; exact v2
 ·intro f g f2 hf g2 hg he
  by_cases hl : f < ns.length
  ·by_cases gl : g < ns.length
   ·rw [X.nd hl, X.nd gl] at he
    exact h.uniq f g f2 hl g2 gl he
   ·obtain rfl : g = ns.length := by omega
    rw [X.nd hl, last] at he
    exact (hnew f f2 hl he).elim
  ·obtain rfl : f = ns.length := by omega
   by_cases gl : g < ns.length
   ·rw [X.nd gl, last] at he
    exact (hnew g g2 gl he.symm).elim
   ·omega
theorem wf_start (vars : Nat) : Wf vars [(vars, 0, 0), (vars, 1, 1)] := by
 refine ⟨by simp, rfl, rfl, ?_, ?_, ?_, ?_, ?_, ?_, ?_⟩ <;> (intro f; intros; simp only [List.length_cons, List.length_nil] at *; omega)
structure IsNode (ns : List Nd) (v l h f : Nat) : Prop where
 lt : f < ns.length
 ev : ∀ e, ev ns f e = if e v then ev ns h e else ev ns l e
 va : v <= nv ns f
theorem isNode_same {v l : Nat} (hl : l < ns.length) (hv : v < nv ns l) : IsNode ns v l l l := ⟨hl, fun e => by simp, Nat.le_of_lt hv⟩
theorem isNode_there (h : Wf vars ns) {v l u f : Nat} (f2 : 2 <= f) (hf : f < ns.length) (hn : nd ns f = (v, l, u)) : IsNode ns v l u f :=
 ⟨hf, fun e => by rw [ev_node h f2 hf]; simp only [nv, nl, nh, hn], by simp [nv, hn]⟩
end Go.Proofs.YtlmmeppifkigeaaGreat
namespace Go.Proofs.YtlmmeppifkigeaaGreat
open Go.RowKit Go.Maps
theorem Tryz.u3 : Tryz.prog.underlying 3 = some (.int .i64) := by kernel_rfl
theorem Tryz.u39 : Tryz.prog.underlying 91 = some (.map 134 3) := by kernel_rfl
theorem Tryz.u45 : Tryz.prog.underlying 210 = some (.map 235 3) := by kernel_rfl
theorem Tryz.u46 : Tryz.prog.underlying 211 = some (.map 257 3) := by kernel_rfl
theorem Tryz.u47 : Tryz.prog.underlying 170 = some (.map 3 3) := by kernel_rfl
theorem Tryz.u38 : Tryz.prog.underlying 90 = some (.slice 134) := by kernel_rfl
theorem zero3 (w : World) : (zeroValue 3).run Tryz.prog w = .ok (.int .i64 0) w := by kernel_rfl
theorem Tryz.laidOut : laidOutB Tryz.prog = true := by kernel_rfl
theorem Tryz.size : Tryz.prog.types.size = 276 := by kernel_rfl
theorem law3 : Keyed Tryz.prog 3 := int_keyed Tryz.u3
theorem Tryz.cells3 : Tryz.prog.cellsOf 3 = 1 := by kernel_rfl
theorem Tryz.cells4 : Tryz.prog.cellsOf 4 = 1 := by kernel_rfl
theorem law37 : Keyed Tryz.prog 134 := Keyed.of_law (deep_law_gate (k := 134) Tryz.laidOut (by rw [Tryz.size]; decide) (by rw [Tryz.size]; decide) (by kernel_rfl) (by kernel_rfl))
theorem law56 : Keyed Tryz.prog 235 := Keyed.of_law (deep_law_gate (k := 235) Tryz.laidOut (by rw [Tryz.size]; decide) (by rw [Tryz.size]; decide) (by kernel_rfl) (by kernel_rfl))
theorem law62 : Keyed Tryz.prog 257 := Keyed.of_law (deep_law_gate (k := 257) Tryz.laidOut (by rw [Tryz.size]; decide) (by rw [Tryz.size]; decide) (by kernel_rfl) (by kernel_rfl))
theorem wf_nat {n : Nat} (h : n < 9223372036854775808) : (Lit.int .i64 (n : Int)).wf = true := WalkArith.wf_i64 (by omega)
structure KeyEnc (k : TypeId) (α : Type) where
 enc : α -> Value
 ok : α -> Prop
 lit : α -> Lit
 law : Keyed Tryz.prog k
 key : ∀ x, ok x -> keyOf Tryz.prog k (enc x) = some (lit x)
 inj : ∀ x y, enc x = enc y -> x = y
def MapIs {k : TypeId} {α : Type} (E : KeyEnc k α) (w : World) (b n : Nat) (f : α -> Option Nat) : Prop :=
 ∃ D : DataW Unit, w.ownsMap Tryz.prog k (plainElem Tryz.prog 3) b n D ∧ ∀ x, E.ok x -> Maps.has D (E.lit x) = (f x).isSome ∧ D.atKey (E.lit x) (.lit (.int .i64 0)) = .lit (.int .i64 (((f x).getD 0 : Nat) : Int))
open Classical in
noncomputable def upd {α : Type} (f : α -> Option Nat) (x : α) (v : Nat) : α -> Option Nat := fun y => if y = x then some v else f y
section
variable {k : TypeId} {α : Type} {E : KeyEnc k α} {w w' : World} {b n : Nat} {f : α -> Option Nat}
theorem MapIs.lt (h : MapIs E w b n f) : b < w.heap.size := by
 obtain ⟨D, h, _⟩ := h
 exact h.lt
theorem MapIs.isMap (h : MapIs E w b n f) : ∃ es clock, w.heap[b]? = some (.map es clock) := by
 obtain ⟨D, ⟨es, clock, hb, _⟩, _⟩ := h
 exact ⟨es, clock, hb⟩
theorem MapIs.mono (h : MapIs E w b n f) {n' : Nat} (hn : n <= n') : MapIs E w b n' f := by
 obtain ⟨D, h, r⟩ := h
 exact ⟨D, h.mono hn, r⟩
theorem MapIs.same (h : MapIs E w b n f) (hb : w'.heap[b]? = w.heap[b]?) : MapIs E w' b n f := by
 obtain ⟨D, ⟨es, clock, h1, r⟩, r'⟩ := h
 exact ⟨D, ⟨es, clock, hb.trans h1, r⟩, r'⟩
theorem mapIs_made (E : KeyEnc k α) (w : World) : MapIs E (w.alloc (.map #[] 0)) w.heap.size 0 (fun _ => none) :=
 ⟨.map [], World.ownsMap_made w _ _ _, fun _ _ => ⟨rfl, rfl⟩⟩
theorem MapIs.look (h : MapIs E w b n f) {t : TypeId} (ht : Tryz.prog.underlying t = some (.map k 3)) {x : α} (hx : E.ok x) :
  (Instr.lookup t (.map (some b)) (E.enc x) true).run Tryz.prog w = .ok (.tuple #[.int .i64 (((f x).getD 0 : Nat) : Int), .bool (f x).isSome]) w := by
 obtain ⟨D, h, r⟩ := h
 obtain ⟨v, ps, hrun, hv⟩ := h.look_ok E.law ht (zero3 w) (plainElem_int Tryz.u3 (by decide)) (E.key x hx)
 rw [(r x hx).2] at hv
 obtain ⟨c, rfl, hc, _⟩ := plainElem_int_inv Tryz.u3 hv
 simp only [Prod.mk.injEq, DataW.lit.injEq, Lit.int.injEq, true_and] at hc
 rw [hrun, (r x hx).1, hc.1]
theorem MapIs.store (h : MapIs E w b n f) {t : TypeId} (ht : Tryz.prog.underlying t = some (.map k 3)) (hn : n < maxLen) {x : α} (hx : E.ok x) {v : Nat} (hv : v < 9223372036854775808) :
  ∃ w', (Instr.mapUpdate t (.map (some b)) (E.enc x) (.int .i64 (v : Int))).run Tryz.prog w = .ok () w' ∧ MapIs E w' b (n + 1) (upd f x v) ∧ w.grownBy w' (some b) := by
 obtain ⟨D, h, r⟩ := h
 obtain ⟨w', hrun, hown, hgrow⟩ := h.update E.law ht hn (E.key x hx) (plainElem_int Tryz.u3 (wf_nat hv))
 refine ⟨w', hrun, ⟨_, hown, fun y hy => ?_⟩, hgrow⟩
 by_cases e : y = x
 ·subst e
  rw [has_put_same h.isMap (E.law.key (E.key y hy)), atKey_put_same h.isMap (E.law.key (E.key y hy))]
  simp [upd]
 ·have hne : E.lit y ≠ E.lit x := fun hl => by
   have k1 := E.key y hy
   rw [hl] at k1
   exact e (E.inj _ _ (E.law.inj k1 (E.key x hx)))
  rw [has_put_other hne, atKey_put_other hne]
  simp [upd, e, r y hy]
end
def ok3 (n : Nd) : Prop := n.1 < 9223372036854775808 ∧ n.2.1 < 9223372036854775808 ∧ n.2.2 < 9223372036854775808
abbrev agg3 (n : Nd) : Value := .agg #[.int .i64 (n.1 : Int), .int .i64 (n.2.1 : Int), .int .i64 (n.2.2 : Int)]
theorem agg3_inj (x y : Nd) (h : agg3 x = agg3 y) : x = y := by
 obtain ⟨a, b, c⟩ := x
 obtain ⟨d, e, f⟩ := y
 simp at h
 simp
 omega
noncomputable def litOf (k : TypeId) (v : Value) : Lit := (keyOf Tryz.prog k v).getD (.bool false)
theorem litOf_some {k : TypeId} {v : Value} (hs : (keyOf Tryz.prog k v).isSome = true) : keyOf Tryz.prog k v = some (litOf k v) := by
 unfold litOf
 cases hk : keyOf Tryz.prog k v with
 | none => rw [hk] at hs; cases hs
 | some l => rfl
theorem Tryz.fuel : ∃ m, Tryz.prog.types.size + 1 = m + 2 := ⟨275, by rw [Tryz.size]⟩
theorem key37 (n : Nd) (h : ok3 n) : keyOf Tryz.prog 134 (agg3 n) = some (litOf 134 (agg3 n)) := by
 obtain ⟨h1, h2, h3⟩ := h
 have w1 := wf_nat h1
 have w2 := wf_nat h2
 have w3 := wf_nat h3
 obtain ⟨m, hm⟩ := Tryz.fuel
 refine litOf_some ?_
 unfold keyOf
 simp only [Tryz.underlying134]
 rw [if_pos (by kernel_rfl), hm]
 unfold Program.keyLits
 simp only [Tryz.underlying134, Value.cells]
 rw [if_pos ⟨by kernel_rfl, by kernel_rfl⟩]
 simp [Program.keyLits, Tryz.underlying3, w1, w2, w3, Tryz.cells3]
theorem key56 (n : Nd) (h : ok3 n) : keyOf Tryz.prog 235 (agg3 n) = some (litOf 235 (agg3 n)) := by
 obtain ⟨h1, h2, h3⟩ := h
 have w1 := wf_nat h1
 have w2 := wf_nat h2
 have w3 := wf_nat h3
 obtain ⟨m, hm⟩ := Tryz.fuel
 refine litOf_some ?_
 unfold keyOf
 simp only [Tryz.underlying235]
 rw [if_pos (by kernel_rfl), hm]
 unfold Program.keyLits
 simp only [Tryz.underlying235, Value.cells]
 rw [if_pos ⟨by kernel_rfl, by kernel_rfl⟩]
 simp [Program.keyLits, Tryz.underlying3, w1, w2, w3, Tryz.cells3]
abbrev Mx := Nat × Nat × Bool
def okx (n : Mx) : Prop := n.1 < 9223372036854775808 ∧ n.2.1 < 9223372036854775808
abbrev aggx (n : Mx) : Value := .agg #[.int .i64 (n.1 : Int), .int .i64 (n.2.1 : Int), .bool n.2.2]
theorem aggx_inj (x y : Mx) (h : aggx x = aggx y) : x = y := by
 obtain ⟨a, b, c⟩ := x
 obtain ⟨d, e, f⟩ := y
 simp at h
 obtain ⟨h1, h2, rfl⟩ := h
 simp
 omega
theorem key62 (n : Mx) (h : okx n) : keyOf Tryz.prog 257 (aggx n) = some (litOf 257 (aggx n)) := by
 obtain ⟨h1, h2⟩ := h
 have w1 := wf_nat h1
 have w2 := wf_nat h2
 obtain ⟨m, hm⟩ := Tryz.fuel
 refine litOf_some ?_
 unfold keyOf
 simp only [Tryz.underlying257]
 rw [if_pos (by kernel_rfl), hm]
 unfold Program.keyLits
 simp only [Tryz.underlying257, Value.cells]
 rw [if_pos ⟨by kernel_rfl, by kernel_rfl⟩]
 simp [Program.keyLits, Tryz.underlying3, Tryz.underlying4, w1, w2, Tryz.cells3, Tryz.cells4]
noncomputable def nodeE : KeyEnc 134 Nd := ⟨agg3, ok3, fun n => litOf 134 (agg3 n), law37, key37, agg3_inj⟩
noncomputable def choiceE : KeyEnc 235 Nd := ⟨agg3, ok3, fun n => litOf 235 (agg3 n), law56, key56, agg3_inj⟩
noncomputable def mixE : KeyEnc 257 Mx := ⟨aggx, okx, fun n => litOf 257 (aggx n), law62, key62, aggx_inj⟩
noncomputable def intE : KeyEnc 3 Nat := ⟨fun n => .int .i64 (n : Int), fun n => n < 9223372036854775808, fun n => .int .i64 (n : Int), law3, fun _ h => keyOf_int_mk Tryz.u3 (wf_nat h), fun x y h => by simp at h; omega⟩
def cellsOf (ns : List Nd) : List Value := ns.flatMap fun n => [.int .i64 (n.1 : Int), .int .i64 (n.2.1 : Int), .int .i64 (n.2.2 : Int)]
theorem cellsOf_append (a b : List Nd) : cellsOf (a ++ b) = cellsOf a ++ cellsOf b := by simp [cellsOf]
theorem cellsOf_at : ∀ (ns : List Nd) (f : Nat), f < ns.length ->
  (cellsOf ns)[f * 3]? = some (.int .i64 (nv ns f : Int)) ∧ (cellsOf ns)[f * 3 + 1]? = some (.int .i64 (nl ns f : Int)) ∧ (cellsOf ns)[f * 3 + 2]? = some (.int .i64 (nh ns f : Int))
 | [], f, h => by simp at h
 | _ :: _, 0, _ => ⟨rfl, rfl, rfl⟩
 | n :: r, f + 1, h => by
   have ih := cellsOf_at r f (by simpa using h)
   have e : cellsOf (n :: r) = [.int .i64 (n.1 : Int), .int .i64 (n.2.1 : Int), .int .i64 (n.2.2 : Int)] ++ cellsOf r := rfl
   have en : nd (n :: r) (f + 1) = nd r f := by simp [nd]
   rw [e, nv, nl, nh, en]
   refine ⟨?_, ?_, ?_⟩
   ·rw [List.getElem?_append_right (by simp; omega)]; simpa [show (f + 1) * 3 - 3 = f * 3 by omega] using ih.1
   ·rw [List.getElem?_append_right (by simp; omega)]; simpa [show (f + 1) * 3 + 1 - 3 = f * 3 + 1 by omega] using ih.2.1
   ·rw [List.getElem?_append_right (by simp; omega)]; simpa [show (f + 1) * 3 + 2 - 3 = f * 3 + 2 by omega] using ih.2.2
def rowOf (w : World) (a : Nat) : Nat :=
 match w.heap[a]? with
 | some (.cells cs _ _) => ((cs[2]?).bind Value.ownBlock).getD 0
 | _ => 0
theorem rowOf_same {w w' : World} {a : Nat} (h : w'.heap[a]? = w.heap[a]?) : rowOf w' a = rowOf w a := by simp only [rowOf, h]
def NumOk (ns : List Nd) (num : Nd -> Option Nat) : Prop := ∀ n f, num n = some f ↔ 2 <= f ∧ f < ns.length ∧ nd ns f = n
structure ArC (vars most g len cap M : Nat) (cs : Array Value) (t : TypeId) : Prop where
 c0 : cs[0]? = some (.int .i64 (vars : Int))
 c1 : cs[1]? = some (.int .i64 (most : Int))
 c2 : cs[2]? = some (.slice (some ⟨g, 0, none⟩) len cap)
 c3 : cs[3]? = some (.map (some M))
 ty : t = 93 ∨ t = 96
theorem cellB {w w' : World} {b o : Nat} (h : w'.heap[b]? = w.heap[b]?) : w'.cell? ⟨b, o, none⟩ = w.cell? ⟨b, o, none⟩ := by simp [World.cell?, h]
structure Ar (base a M vars most : Nat) (w : World) (ns : List Nd) : Prop where
 wf : Wf vars ns
 le : ns.length <= most
 vars1 : 1 <= vars
 vars16 : vars <= 16
 most4 : most <= 40000
 lowA : base <= a
 lowM : base <= M
 blk : ∃ g cap cs t, w.heap[a]? = some (.cells cs t (0, 0)) ∧ ArC vars most g ns.length cap M cs t ∧
  w.ownsRow base 134 3 (.slice (some ⟨g, 0, none⟩) ns.length cap) ns.length (cellsOf ns)
 map : ∃ num, MapIs nodeE w M ns.length num ∧ NumOk ns num
section
variable {base a M vars most : Nat} {w w' : World} {ns : List Nd}
theorem Ar.lta (h : Ar base a M vars most w ns) : a < w.heap.size := by
 obtain ⟨g, cap, cs, t, hb, _⟩ := h.blk
 exact (Array.getElem?_eq_some_iff.1 hb).1
theorem Ar.ltM (h : Ar base a M vars most w ns) : M < w.heap.size := by
 obtain ⟨num, hm, _⟩ := h.map
 exact hm.lt
theorem Ar.row (h : Ar base a M vars most w ns) : ∃ cur, w.heap[rowOf w a]? = some (.cells cur 134 (0, 0)) ∧ base <= rowOf w a ∧ rowOf w a < w.heap.size := by
 obtain ⟨g, cap, cs, t, hb, hc, hr⟩ := h.blk
 have e : rowOf w a = g := by simp [rowOf, hb, hc.c2, Value.ownBlock]
 rw [e]
 rcases hr.2 with ⟨hv, _⟩ | ⟨g', cap', cur, hv, hbase, hg, _⟩
 ·cases hv
 ·simp only [Value.slice.injEq, Option.some.injEq, Addr.mk.injEq, and_true, true_and] at hv
  obtain ⟨rfl, _⟩ := hv
  exact ⟨cur, hg, hbase, (Array.getElem?_eq_some_iff.1 hg).1⟩
theorem Ar.ne_row_a (h : Ar base a M vars most w ns) : rowOf w a ≠ a := fun e => by
 obtain ⟨cur, hg, _⟩ := h.row
 obtain ⟨g, cap, cs, t, hb, hc, _⟩ := h.blk
 rw [e, hb] at hg
 simp only [Option.some.injEq, Obj.cells.injEq] at hg
 have e2 := hg.2.1
 rcases hc.ty with e1 | e1 <;> (rw [e1] at e2; revert e2; decide)
theorem Ar.ne_row_M (h : Ar base a M vars most w ns) : rowOf w a ≠ M := fun e => by
 obtain ⟨cur, hg, _⟩ := h.row
 obtain ⟨num, hm, _⟩ := h.map
 obtain ⟨es, clock, hb⟩ := hm.isMap
 rw [e, hb] at hg
 simp at hg
theorem Ar.ne_a_M (h : Ar base a M vars most w ns) : a ≠ M := fun e => by
 obtain ⟨num, hm, _⟩ := h.map
 obtain ⟨es, clock, hb⟩ := hm.isMap
 obtain ⟨g, cap, cs, t, hb', _⟩ := h.blk
 rw [e, hb] at hb'
 simp at hb'
theorem Ar.same (h : Ar base a M vars most w ns) (ha : w'.heap[a]? = w.heap[a]?) (hM : w'.heap[M]? = w.heap[M]?) (hr : w'.heap[rowOf w a]? = w.heap[rowOf w a]?) : Ar base a M vars most w' ns := by
 obtain ⟨g, cap, cs, t, hb, hc, hrow⟩ := h.blk
 have e : rowOf w a = g := by simp [rowOf, hb, hc.c2, Value.ownBlock]
 rw [e] at hr
 refine ⟨h.wf, h.le, h.vars1, h.vars16, h.most4, h.lowA, h.lowM, ⟨g, cap, cs, t, ha.trans hb, hc, ?_⟩, ?_⟩
 ·refine ⟨hrow.1, ?_⟩
  rcases hrow.2 with ⟨hv, _⟩ | ⟨g', cap', cur, hv, hbase, hg, rest⟩
  ·cases hv
  ·simp only [Value.slice.injEq, Option.some.injEq, Addr.mk.injEq, and_true, true_and] at hv
   obtain ⟨rfl, rfl⟩ := hv
   exact .inr ⟨g, cap, cur, rfl, hbase, hr.trans hg, rest⟩
 ·obtain ⟨num, hm, hn⟩ := h.map
  exact ⟨num, hm.same hM, hn⟩
theorem Ar.reads (h : Ar base a M vars most w ns) : ∃ cap, w.cell? ⟨a, 0, none⟩ = some (.int .i64 (vars : Int)) ∧ w.cell? ⟨a, 1, none⟩ = some (.int .i64 (most : Int)) ∧
  w.cell? ⟨a, 2, none⟩ = some (.slice (some ⟨rowOf w a, 0, none⟩) ns.length cap) ∧ w.cell? ⟨a, 3, none⟩ = some (.map (some M)) ∧ (∀ j, w.frozen? ⟨a, j, none⟩ = false) ∧
  ∀ f, f < ns.length -> w.cell? ⟨rowOf w a, f * 3, none⟩ = some (.int .i64 (nv ns f : Int)) ∧ w.cell? ⟨rowOf w a, f * 3 + 1, none⟩ = some (.int .i64 (nl ns f : Int)) ∧ w.cell? ⟨rowOf w a, f * 3 + 2, none⟩ = some (.int .i64 (nh ns f : Int)) := by
 obtain ⟨g, cap, cs, t, hb, hc, hrow⟩ := h.blk
 have e : rowOf w a = g := by simp [rowOf, hb, hc.c2, Value.ownBlock]
 rw [e]
 refine ⟨cap, ?_, ?_, ?_, ?_, ?_, ?_⟩
 ·rw [cell_of_row w a 0 _ _ _ hb]; exact hc.c0
 ·rw [cell_of_row w a 1 _ _ _ hb]; exact hc.c1
 ·rw [cell_of_row w a 2 _ _ _ hb]; exact hc.c2
 ·rw [cell_of_row w a 3 _ _ _ hb]; exact hc.c3
 ·intro j
  simp [World.frozen?, hb]
 ·intro f hf
  obtain ⟨h1, h2, h3⟩ := cellsOf_at ns f hf
  refine ⟨?_, ?_, ?_⟩
  ·rw [hrow.cellAt _ (by omega), h1]
  ·rw [hrow.cellAt _ (by omega), h2]
  ·rw [hrow.cellAt _ (by omega), h3]
end
structure Cfg where
 base : Nat
 a : Nat
 b : Nat
 M : Nat
 c1 : Option Nat
 c2 : Option Nat
 c3 : Option Nat
 vars : Nat
 most : Nat
def Cfg.mine (C : Cfg) (i : Nat) : Prop := i = C.a ∨ i = C.b ∨ i = C.M ∨ C.c1 = some i ∨ C.c2 = some i ∨ C.c3 = some i
def OMap {k : TypeId} {α : Type} (E : KeyEnc k α) (w : World) (c : Option Nat) (n : Nat) (f : α -> Option Nat) : Prop := ∀ b, c = some b -> MapIs E w b n f
structure Bu (C : Cfg) (w : World) (ns : List Nd) (full : Bool) (N : Nat) (m1 : Nd -> Option Nat) (m2 : Mx -> Option Nat) (m3 : Nat -> Option Nat) : Prop where
 ar : Ar C.base C.a C.M C.vars C.most w ns
 blk : w.heap[C.b]? = some (.cells #[.pointer (some ⟨C.a, 0, none⟩), .bool full, .map C.c1, .map C.c2, .map C.c3] 213 (0, 0))
 lowB : C.base <= C.b
 o1 : OMap choiceE w C.c1 N m1
 o2 : OMap mixE w C.c2 N m2
 o3 : OMap intE w C.c3 N m3
 low1 : ∀ i, C.c1 = some i -> C.base <= i ∧ i ≠ C.M ∧ C.c2 ≠ some i ∧ C.c3 ≠ some i
 low2 : ∀ i, C.c2 = some i -> C.base <= i ∧ i ≠ C.M ∧ C.c1 ≠ some i ∧ C.c3 ≠ some i
 low3 : ∀ i, C.c3 = some i -> C.base <= i ∧ i ≠ C.M ∧ C.c1 ≠ some i ∧ C.c2 ≠ some i
 full_len : full = true -> ns.length = C.most
structure Kp (C : Cfg) (w w' : World) : Prop where
 os : w'.os = w.os
 tape : w'.tape = w.tape
 output : w'.output = w.output
 size : w.heap.size <= w'.heap.size
 blk : ∀ i, i < w.heap.size -> ¬ C.mine i -> i ≠ rowOf w C.a -> w'.heap[i]? = w.heap[i]?
 row : rowOf w' C.a = rowOf w C.a ∨ w.heap.size <= rowOf w' C.a
 post : ∀ j, 4 <= j -> w'.cell? ⟨C.a, j, none⟩ = w.cell? ⟨C.a, j, none⟩
section
variable {C : Cfg} {w w' w'' : World} {ns ns' : List Nd} {full full' : Bool} {N N' : Nat} {m1 m1' : Nd -> Option Nat} {m2 m2' : Mx -> Option Nat} {m3 m3' : Nat -> Option Nat}
theorem Kp.refl (C : Cfg) (w : World) : Kp C w w := ⟨rfl, rfl, rfl, Nat.le_refl _, fun _ _ _ _ => rfl, Or.inl rfl, fun _ _ => rfl⟩
theorem Kp.trans (h : Kp C w w') (k : Kp C w' w'') : Kp C w w'' := by
 refine ⟨k.os.trans h.os, k.tape.trans h.tape, k.output.trans h.output, Nat.le_trans h.size k.size, fun i hi hm hr => ?_, ?_, fun j hj => (k.post j hj).trans (h.post j hj)⟩
 ·have h1 := h.size
  refine (k.blk i (by omega) hm ?_).trans (h.blk i hi hm hr)
  rcases h.row with e | e
  ·rw [e]; exact hr
  ·omega
 ·have h1 := h.size
  rcases k.row with e | e
  ·rw [e]; exact h.row
  ·exact Or.inr (by omega)
theorem Kp.drew (h : Kp C w w') : Kp C w w'.drew := ⟨h.os, h.tape, h.output, h.size, h.blk, h.row, h.post⟩
theorem Bu.drew (h : Bu C w ns full N m1 m2 m3) : Bu C w.drew ns full N m1 m2 m3 := ⟨h.ar.same rfl rfl rfl, h.blk, h.lowB, h.o1, h.o2, h.o3, h.low1, h.low2, h.low3, h.full_len⟩
theorem Bu.ltb (h : Bu C w ns full N m1 m2 m3) : C.b < w.heap.size := (Array.getElem?_eq_some_iff.1 h.blk).1
theorem Bu.ltm (h : Bu C w ns full N m1 m2 m3) : ∀ i, C.mine i -> i < w.heap.size := by
 rintro i (rfl | rfl | rfl | e | e | e)
 ·exact h.ar.lta
 ·exact h.ltb
 ·exact h.ar.ltM
 ·exact (h.o1 i e).lt
 ·exact (h.o2 i e).lt
 ·exact (h.o3 i e).lt
theorem Bu.ne_b_a (h : Bu C w ns full N m1 m2 m3) : C.b ≠ C.a := fun e => by
 obtain ⟨g, cap, cs, t, hb, hc, _⟩ := h.ar.blk
 rw [<- e, h.blk] at hb
 simp only [Option.some.injEq, Obj.cells.injEq] at hb
 have e2 := hb.2.1
 rcases hc.ty with e1 | e1 <;> (rw [e1] at e2; revert e2; decide)
theorem Bu.ne_b_row (h : Bu C w ns full N m1 m2 m3) : C.b ≠ rowOf w C.a := fun e => by
 obtain ⟨cur, hg, _⟩ := h.ar.row
 rw [<- e, h.blk] at hg
 simp at hg
theorem Bu.b_noMap (h : Bu C w ns full N m1 m2 m3) {i : Nat} {es : Array MapEntry} {clock : Nat} (hi : w.heap[i]? = some (.map es clock)) : i ≠ C.b ∧ i ≠ C.a ∧ i ≠ rowOf w C.a := by
 refine ⟨fun e => ?_, fun e => ?_, fun e => ?_⟩
 ·rw [e, h.blk] at hi; simp at hi
 ·obtain ⟨g, cap, cs, t, hb, _⟩ := h.ar.blk
  rw [e, hb] at hi; simp at hi
 ·obtain ⟨cur, hg, _⟩ := h.ar.row
  rw [e, hg] at hi; simp at hi
theorem Bu.same (h : Bu C w ns full N m1 m2 m3) (hs : ∀ i, i < w.heap.size -> (C.mine i ∨ i = rowOf w C.a) -> w'.heap[i]? = w.heap[i]?) : Bu C w' ns full N m1 m2 m3 := by
 obtain ⟨_, _, _, hrl⟩ := h.ar.row
 have L := h.ltm
 refine ⟨h.ar.same (hs _ (L _ (Or.inl rfl)) (Or.inl (Or.inl rfl))) (hs _ h.ar.ltM (Or.inl (Or.inr (Or.inr (Or.inl rfl))))) (hs _ hrl (Or.inr rfl)), ?_, h.lowB, ?_, ?_, ?_, h.low1, h.low2, h.low3, h.full_len⟩
 ·exact (hs _ h.ltb (Or.inl (Or.inr (Or.inl rfl)))).trans h.blk
 ·exact fun i e => (h.o1 i e).same (hs _ (h.o1 i e).lt (Or.inl (Or.inr (Or.inr (Or.inr (Or.inl e))))))
 ·exact fun i e => (h.o2 i e).same (hs _ (h.o2 i e).lt (Or.inl (Or.inr (Or.inr (Or.inr (Or.inr (Or.inl e)))))))
 ·exact fun i e => (h.o3 i e).same (hs _ (h.o3 i e).lt (Or.inl (Or.inr (Or.inr (Or.inr (Or.inr (Or.inr e)))))))
theorem Bu.alloc (h : Bu C w ns full N m1 m2 m3) (o : Obj) : Bu C (w.alloc o) ns full N m1 m2 m3 := h.same fun i hi _ => Below.heap_alloc w o i hi
theorem Bu.kalloc (h : Bu C w ns full N m1 m2 m3) (o : Obj) : Kp C w (w.alloc o) :=
 ⟨rfl, rfl, rfl, by simp, fun i hi _ _ => Below.heap_alloc w o i hi, Or.inl (rowOf_same (Below.heap_alloc w o _ h.ar.lta)), fun _ _ => cellB (Below.heap_alloc w o _ h.ar.lta)⟩
structure Out (C : Cfg) (w : World) (i : Nat) : Prop where
 lt : i < w.heap.size
 not : ¬ C.mine i
 ne : i ≠ rowOf w C.a
theorem Out.kp {i : Nat} (h : Out C w i) (k : Kp C w w') : Out C w' i := by
 have h1 := h.lt
 have h2 := k.size
 refine ⟨by omega, h.not, fun e => ?_⟩
 rcases k.row with r | r
 ·exact h.ne (e.trans r)
 ·omega
structure Loc (C : Cfg) (w : World) (i : Nat) (cs : Array Value) (t : TypeId) : Prop where
 out : Out C w i
 blk : w.heap[i]? = some (.cells cs t (0, 0))
theorem Loc.kp {i : Nat} {cs : Array Value} {t : TypeId} (h : Loc C w i cs t) (k : Kp C w w') : Loc C w' i cs t := ⟨h.out.kp k, (k.blk i h.out.lt h.out.not h.out.ne).trans h.blk⟩
theorem Loc.drew {i : Nat} {cs : Array Value} {t : TypeId} (h : Loc C w i cs t) : Loc C w.drew i cs t := ⟨⟨h.out.lt, h.out.not, h.out.ne⟩, h.blk⟩
theorem Bu.loc (h : Bu C w ns full N m1 m2 m3) (cs : Array Value) (t : TypeId) : Loc C (w.alloc (.cells cs t)) w.heap.size cs t := by
 refine ⟨⟨by simp, fun hm => Nat.lt_irrefl _ (h.ltm _ hm), fun e => ?_⟩, heap_alloc_new w _⟩
 rw [rowOf_same (Below.heap_alloc w _ _ h.ar.lta)] at e
 obtain ⟨_, _, _, hl⟩ := h.ar.row
 omega
end
section
variable {C : Cfg} {w : World} {ns : List Nd} {full : Bool} {N : Nat} {m1 : Nd -> Option Nat} {m2 : Mx -> Option Nat} {m3 : Nat -> Option Nat}
theorem Bu.reads (h : Bu C w ns full N m1 m2 m3) : w.cell? ⟨C.b, 0, none⟩ = some (.pointer (some ⟨C.a, 0, none⟩)) ∧ w.cell? ⟨C.b, 1, none⟩ = some (.bool full) ∧ w.cell? ⟨C.b, 2, none⟩ = some (.map C.c1) ∧ w.cell? ⟨C.b, 3, none⟩ = some (.map C.c2) ∧
  w.cell? ⟨C.b, 4, none⟩ = some (.map C.c3) ∧ ∀ j, w.frozen? ⟨C.b, j, none⟩ = false := by
 have hb := h.blk
 refine ⟨?_, ?_, ?_, ?_, ?_, ?_⟩
 ·rw [cell_of_row w C.b 0 _ _ _ hb]; rfl
 ·rw [cell_of_row w C.b 1 _ _ _ hb]; rfl
 ·rw [cell_of_row w C.b 2 _ _ _ hb]; rfl
 ·rw [cell_of_row w C.b 3 _ _ _ hb]; rfl
 ·rw [cell_of_row w C.b 4 _ _ _ hb]; rfl
 ·intro j
  simp [World.frozen?, hb]
theorem variable_any (h : Bu C w ns full N m1 m2 m3) {f : Nat} (hf : f < ns.length) :
  Calls Tryz.prog 174 #[.pointer (some ⟨C.b, 0, none⟩), .int .i64 (f : Int)] w fun e w' => e = .returned (.int .i64 (nv ns f : Int)) ∧ w' = w := by
 obtain ⟨b0, b1, b2, b3, b4, bf⟩ := h.reads
 obtain ⟨cap, a0, a1, a2, a3, af, an⟩ := h.ar.reads
 obtain ⟨n0, n1, n2⟩ := an f hf
 have hl : ns.length <= 40000 := Nat.le_trans h.ar.le h.ar.most4
 clear h an
 generalize rowOf w C.a = g at *
 go_enter Tryz.func174, Tryz.ntmps174
 go_wp2_with fail
 go_ret
 exact ⟨rfl, rfl⟩
structure At (C : Cfg) (w0 w : World) (ns : List Nd) (full : Bool) (N : Nat) (m1 : Nd -> Option Nat) (m2 : Mx -> Option Nat) (m3 : Nat -> Option Nat) : Prop where
 bu : Bu C w ns full N m1 m2 m3
 kp : Kp C w0 w
theorem At.refl (h : Bu C w ns full N m1 m2 m3) : At C w w ns full N m1 m2 m3 := ⟨h, Kp.refl C w⟩
variable {w0 w1 : World}
theorem At.alloc (h : At C w0 w ns full N m1 m2 m3) (o : Obj) : At C w0 (w.alloc o) ns full N m1 m2 m3 := ⟨h.bu.alloc o, h.kp.trans (h.bu.kalloc o)⟩
theorem At.drew (h : At C w0 w ns full N m1 m2 m3) : At C w0 w.drew ns full N m1 m2 m3 := ⟨h.bu.drew, h.kp.drew⟩
theorem At.then {ns' : List Nd} {full' : Bool} {N' : Nat} {m1' : Nd -> Option Nat} {m2' : Mx -> Option Nat} {m3' : Nat -> Option Nat} (h : At C w0 w ns full N m1 m2 m3) (k : At C w w1 ns' full' N' m1' m2' m3') : At C w0 w1 ns' full' N' m1' m2' m3' :=
 ⟨k.bu, h.kp.trans k.kp⟩
theorem Out.set {i : Nat} (h : Out C w i) {p : Addr} (hp : p.block ≠ C.a) (u : Value) : Out C (w.setCell p u) i :=
 ⟨by simpa [World.setCell] using h.lt, h.not, by rw [rowOf_same (Below.heap_setCell w p u C.a hp.symm)]; exact h.ne⟩
theorem Out.nea {i : Nat} (h : Out C w i) : i ≠ C.a := fun e => h.not (Or.inl e)
theorem At.set (h : At C w0 w ns full N m1 m2 m3) {p : Addr} (ho : Out C w p.block) (hi : w0.heap.size <= p.block) (u : Value) : At C w0 (w.setCell p u) ns full N m1 m2 m3 := by
 have hr : rowOf (w.setCell p u) C.a = rowOf w C.a := rowOf_same (Below.heap_setCell w p u C.a ho.nea.symm)
 refine ⟨h.bu.same fun j _ hm => Below.heap_setCell w p u j (fun e => ?_), ⟨h.kp.os, h.kp.tape, h.kp.output, by simpa [World.setCell] using h.kp.size, fun j hj hm hn => ?_, ?_, fun j hj => (cellB (Below.heap_setCell w p u C.a ho.nea.symm)).trans (h.kp.post j hj)⟩⟩
 ·rcases hm with hm | hm
  ·exact ho.not (e ▸ hm)
  ·exact ho.ne (e ▸ hm)
 ·rw [Below.heap_setCell w p u j (by omega)]
  exact h.kp.blk j hj hm hn
 ·rw [hr]
  exact h.kp.row
def partOf (ns : List Nd) (f v : Nat) (val : Bool) : Nat := if nv ns f = v then (if val then nh ns f else nl ns f) else f
theorem apart_any (h : Bu C w ns full N m1 m2 m3) {f v : Nat} (val : Bool) (hf : f < ns.length) (hv : v <= 16) :
  Calls Tryz.prog 188 #[.pointer (some ⟨C.a, 0, none⟩), .int .i64 (f : Int), .int .i64 (v : Int), .bool val] w fun e w' => e = .returned (.int .i64 (partOf ns f v val : Int)) ∧ At C w w' ns full N m1 m2 m3 := by
 have hA := At.refl h
 obtain ⟨b0, b1, b2, b3, b4, bf⟩ := h.reads
 obtain ⟨cap, a0, a1, a2, a3, af, an⟩ := h.ar.reads
 obtain ⟨n0, n1, n2⟩ := an f hf
 have hl : ns.length <= 40000 := Nat.le_trans h.ar.le h.ar.most4
 have hb3 := hA.alloc (.cells #[.int .i64 (nv ns f : Int), .int .i64 (nl ns f : Int), .int .i64 (nh ns f : Int)] 134)
 unfold partOf
 clear h an hA
 generalize rowOf w C.a = g at *
 by_cases he : nv ns f = v
 ·subst he
  cases val
  ·go_enter Tryz.func188, Tryz.ntmps188
   go_wp2_with fail
   go_ret
   exact ⟨by simp, hb3⟩
  ·go_enter Tryz.func188, Tryz.ntmps188
   go_wp2_with fail
   go_ret
   exact ⟨by simp, hb3⟩
 ·have he' : ((nv ns f : Int) != (v : Int)) = true := by simp; omega
  go_enter Tryz.func188, Tryz.ntmps188
  go_wp2_with fail
  go_ret
  exact ⟨by simp, hb3⟩
theorem part_any (h : Bu C w ns full N m1 m2 m3) {f v : Nat} (val : Bool) (hf : f < ns.length) (hv : v <= 16) :
  Calls Tryz.prog 183 #[.pointer (some ⟨C.b, 0, none⟩), .int .i64 (f : Int), .int .i64 (v : Int), .bool val] w fun e w' => e = .returned (.int .i64 (partOf ns f v val : Int)) ∧ At C w w' ns full N m1 m2 m3 := by
 have hp := apart_any h val hf hv
 obtain ⟨b0, b1, b2, b3, b4, bf⟩ := h.reads
 clear h
 generalize At C w = AA at *
 go_enter Tryz.func183, Tryz.ntmps183
 go_wp2_with fail
 refine hp.mono ?_
 rintro e w' ⟨rfl, hA⟩
 dsimp only
 go_wp2_with fail
 go_ret
 exact ⟨rfl, hA⟩
theorem answer_any (h : Bu C w ns full N m1 m2 m3) (f : Nat) :
  Calls Tryz.prog 123 #[.pointer (some ⟨C.b, 0, none⟩), .int .i64 (f : Int)] w fun e w' => e = .returned (.tuple #[.int .i64 ((if full then 0 else f : Nat) : Int), .int .i64 (if full then 6 else 0)]) ∧ w' = w := by
 obtain ⟨b0, b1, b2, b3, b4, bf⟩ := h.reads
 clear h
 cases full
 ·go_enter Tryz.func123, Tryz.ntmps123
  go_wp2_with fail
  go_ret2
  exact ⟨rfl, rfl⟩
 ·go_enter Tryz.func123, Tryz.ntmps123
  go_wp2_with fail
  go_ret2
  exact ⟨rfl, rfl⟩
end
section
variable {base a M vars most : Nat} {w : World} {ns : List Nd}
theorem hasFunction_any (h : Ar base a M vars most w ns) (f : Int) :
  Calls Tryz.prog 63 #[.pointer (some ⟨a, 0, none⟩), .int .i64 f] w fun e w' => e = .returned (.bool (decide (0 <= f) && decide (f < ns.length))) ∧ w' = w := by
 obtain ⟨cap, a0, a1, a2, a3, af, an⟩ := h.reads
 clear h an
 by_cases h0 : 0 <= f
 ·go_enter Tryz.func63, Tryz.ntmps63
  go_wp2_with fail
  go_ret
  exact ⟨by simp [h0], rfl⟩
 ·have h0' : decide (0 <= f) = false := by simp; omega
  go_enter Tryz.func63, Tryz.ntmps63
  go_wp2_with fail
  go_ret
  exact ⟨by simp, rfl⟩
theorem hasVariable_any (h : Ar base a M vars most w ns) (i : Int) :
  Calls Tryz.prog 139 #[.pointer (some ⟨a, 0, none⟩), .int .i64 i] w fun e w' => e = .returned (.bool (decide (0 <= i) && decide (i < vars))) ∧ w' = w := by
 obtain ⟨cap, a0, a1, a2, a3, af, an⟩ := h.reads
 clear h an
 by_cases h0 : 0 <= i
 ·go_enter Tryz.func139, Tryz.ntmps139
  go_wp2_with fail
  go_ret
  exact ⟨by simp [h0], rfl⟩
 ·have h0' : decide (0 <= i) = false := by simp; omega
  go_enter Tryz.func139, Tryz.ntmps139
  go_wp2_with fail
  go_ret
  exact ⟨by simp, rfl⟩
end
end Go.Proofs.YtlmmeppifkigeaaGreat
