/-
  XAF.
-/
import Derived.Test.YtppbfikimalojaaGreatXAE
import Derived.Test.YtppbfikimalojaaGreatXAA
import Derived.RangeFuncNested
import Derived.RangeFuncBound
import Derived.RangeFuncCalls
import Derived.RangeFuncLeaves
import Derived.Shelf.Abstract
import Derived.Shelf.RegionOpen
import Derived.OwnWalkIn
import Derived.TacticsInMore
import Derived.LoopNIn
import Derived.LoopIn
set_option maxHeartbeats 8000000
set_option maxRecDepth 100000
namespace Go.Proofs.YtppbfikimalojaaGreat
open Go.RowKit Go.Maps
structure Hq (p : Prop) : Prop where
 out : p
def ChoosePost (C : Cfg) (w : World) (ns : List Nd) (full : Bool) (N : Nat) (m2 : Mx -> Option Nat) (m3 : Nat -> Option Nat) (c : Nd) (g : Nat) (e : Ending) (w' : World) : Prop :=
 ∃ f ns' full' N' m1', e = .returned (.int .i64 ((f : Nat) : Int)) ∧ At C w w' ns' full' N' m1' m2 m3 ∧ Ext ns ns' ∧ ns'.length <= ns.length + g ∧ N' <= N + g ∧ f < ns'.length ∧ (full = true -> full' = true) ∧ (full' = false -> MemoC ns' m1' ∧ IsIte ns' c f)
theorem run_min3 (x y z : Nat) (ts : Array TypeId) (t : TypeId) (W : World) : (Builtin.min_ ts t #[.int .i64 (x : Int), .int .i64 (y : Int), .int .i64 (z : Int)]).run Tryz.prog W = .ok (.int .i64 ((min (min x y) z : Nat) : Int)) W := by
 have e : ((min (min x y) z : Nat) : Int) = if (z : Int) < (if (y : Int) < (x : Int) then (y : Int) else (x : Int)) then (z : Int) else (if (y : Int) < (x : Int) then (y : Int) else (x : Int)) := by
  split <;> split <;> omega
 rw [e]
 simp [Builtin.min_, Builtin.min2]
section
variable {C : Cfg} {w : World} {ns : List Nd} {N : Nat} {m1 : Nd -> Option Nat} {m2 : Mx -> Option Nat} {m3 : Nat -> Option Nat}
theorem At.memo1 {w0 w' : World} {full : Bool} {m1' : Nd -> Option Nat} {c : Nat} (h : At C w0 w ns full N m1 m2 m3) (hc : C.c1 = some c) (hM : MapIs choiceE w' c (N + 1) m1') (hg : w.grownBy w' (some c)) : At C w0 w' ns full (N + 1) m1' m2 m3 := by
 have hb := h.bu
 have kt : ∀ i, i < w.heap.size -> i ≠ c -> w'.heap[i]? = w.heap[i]? := fun i hi hn => hg.block i hi (by simpa using hn)
 obtain ⟨es, clock, hm⟩ := (hb.o1 c hc).isMap
 obtain ⟨k1, k2, k3⟩ := hb.b_noMap hm
 obtain ⟨_, _, _, rl⟩ := hb.ar.row
 have hr : rowOf w' C.a = rowOf w C.a := rowOf_same (kt _ hb.ar.lta k2.symm)
 refine ⟨⟨hb.ar.same (kt _ hb.ar.lta k2.symm) (kt _ hb.ar.ltM (hb.low1 c hc).2.1.symm) (kt _ rl k3.symm), (kt _ hb.ltb k1.symm).trans hb.blk, hb.lowB, ?_, ?_, ?_, hb.low1, hb.low2, hb.low3, hb.full_len⟩, h.kp.trans ⟨hg.os, hg.tape, hg.output, hg.size, fun i hi hm' _ => kt i hi (fun e => hm' (by subst e; simp [Cfg.mine, hc])), Or.inl hr, fun j _ => cellB (kt _ hb.ar.lta k2.symm)⟩⟩
 ·intro i e
  rw [hc] at e
  cases e
  exact hM
 ·exact fun i e => ((hb.o2 i e).same (kt i (hb.o2 i e).lt (fun q => (hb.low2 i e).2.2.1 (q ▸ hc)))).mono (Nat.le_succ _)
 ·exact fun i e => ((hb.o3 i e).same (kt i (hb.o3 i e).lt (fun q => (hb.low3 i e).2.2.1 (q ▸ hc)))).mono (Nat.le_succ _)
theorem At.memo3 {w0 w' : World} {full : Bool} {m3' : Nat -> Option Nat} {c : Nat} (h : At C w0 w ns full N m1 m2 m3) (hc : C.c3 = some c) (hM : MapIs intE w' c (N + 1) m3') (hg : w.grownBy w' (some c)) : At C w0 w' ns full (N + 1) m1 m2 m3' := by
 have hb := h.bu
 have kt : ∀ i, i < w.heap.size -> i ≠ c -> w'.heap[i]? = w.heap[i]? := fun i hi hn => hg.block i hi (by simpa using hn)
 obtain ⟨es, clock, hm⟩ := (hb.o3 c hc).isMap
 obtain ⟨k1, k2, k3⟩ := hb.b_noMap hm
 obtain ⟨_, _, _, rl⟩ := hb.ar.row
 have hr : rowOf w' C.a = rowOf w C.a := rowOf_same (kt _ hb.ar.lta k2.symm)
 refine ⟨⟨hb.ar.same (kt _ hb.ar.lta k2.symm) (kt _ hb.ar.ltM (hb.low3 c hc).2.1.symm) (kt _ rl k3.symm), (kt _ hb.ltb k1.symm).trans hb.blk, hb.lowB, ?_, ?_, ?_, hb.low1, hb.low2, hb.low3, hb.full_len⟩, h.kp.trans ⟨hg.os, hg.tape, hg.output, hg.size, fun i hi hm' _ => kt i hi (fun e => hm' (by subst e; simp [Cfg.mine, hc])), Or.inl hr, fun j _ => cellB (kt _ hb.ar.lta k2.symm)⟩⟩
 ·exact fun i e => ((hb.o1 i e).same (kt i (hb.o1 i e).lt (fun q => (hb.low1 i e).2.2.2 (q ▸ hc)))).mono (Nat.le_succ _)
 ·exact fun i e => ((hb.o2 i e).same (kt i (hb.o2 i e).lt (fun q => (hb.low2 i e).2.2.2 (q ▸ hc)))).mono (Nat.le_succ _)
 ·intro i e
  rw [hc] at e
  cases e
  exact hM
theorem choose_miss (h : Bu C w ns false N m1 m2 m3) {c1 : Nat} (hc1 : C.c1 = some c1) {x y z k : Nat} (hin : Inside ns (x, y, z)) (hx : 2 <= x) (hyz : y ≠ z) (hf : m1 (x, y, z) = none) {S : Nat -> Bool} (hk : Fit S C.vars ns (x, y, z) (k + 1)) (hm : MemoC ns m1) (hN : N + 2 ^ (k + 1) <= 1099511627776)
  (ih : Hq (∀ w ns full N m1 c, Bu C w ns full N m1 m2 m3 -> Inside ns c -> Fit S C.vars ns c k -> (full = false -> MemoC ns m1) -> N + 2 ^ k <= 1099511627776 -> Calls Tryz.prog 206 #[.pointer (some ⟨C.b, 0, none⟩), agg3 c] w (ChoosePost C w ns full N m2 m3 c (2 ^ k - 1)))) :
  Calls Tryz.prog 206 #[.pointer (some ⟨C.b, 0, none⟩), agg3 (x, y, z)] w (ChoosePost C w ns false N m2 m3 (x, y, z) (2 ^ (k + 1) - 1)) := by
 have hl4 : ns.length <= 40000 := Nat.le_trans h.ar.le h.ar.most4
 obtain ⟨i1, i2, i3⟩ := id hin
 simp only [] at i1 i2 i3
 have ho : ok3 (x, y, z) := ⟨by show x < _; omega, by show y < _; omega, by show z < _; omega⟩
 have hA := ((At.refl h).alloc (.cells #[.int .i64 (x : Int), .int .i64 (y : Int), .int .i64 (z : Int)] 264)).drew
 have L := (h.loc #[.int .i64 (x : Int), .int .i64 (y : Int), .int .i64 (z : Int)] 264).drew
 obtain ⟨b0, b1, b2, b3, b4, bf⟩ := h.reads
 have lb := h.ltb
 have hlook := (hA.bu.o1 c1 hc1).look Tryz.u45 (x := (x, y, z)) ho
 rw [hf] at hlook
 simp only [choiceE, Option.getD_none, Option.isSome_none] at hlook
 rw [hc1] at b2
 have x1 : ((x : Int) == 1) = false := by simp; omega
 have x0 : ((x : Int) == 0) = false := by simp; omega
 have hyz' : ((y : Int) == (z : Int)) = false := by simp; omega
 have wf := h.ar.wf
 have hvm : min3 ns (x, y, z) < C.vars := by
  have := wf.va x hx i1
  simp only [min3]
  omega
 have v16 := h.ar.vars16
 have HF : Hq (∀ val, Fit S C.vars ns (pc ns (x, y, z) (min3 ns (x, y, z)) val) k) := ⟨fun val => hk.down wf hin hvm val⟩
 clear hk
 have hmn : ∀ (ts : Array TypeId) (t : TypeId) (W : World), (Builtin.min_ ts t #[.int .i64 (nv ns x : Int), .int .i64 (nv ns y : Int), .int .i64 (nv ns z : Int)]).run Tryz.prog W = .ok (.int .i64 (min3 ns (x, y, z) : Int)) W := fun ts t W => run_min3 _ _ _ ts t W
 clear h
 go_enter Tryz.func206, Tryz.ntmps206
 go_wp2_with fail
 go_cut [5, 6] (fun v5 v6 wx => v5 = .int .i64 0 ∧ v6 = .bool false ∧ At C w wx ns false N m1 m2 m3 ∧ Loc C wx w.heap.size #[.int .i64 (x : Int), .int .i64 (y : Int), .int .i64 (z : Int)] 264)
 case first =>
  go_region
  all_goals
   go_wp2_with fail
   go_meet
   exact ⟨rfl, rfl, hA, L⟩
 case rest =>
  obtain ⟨rfl, rfl, hA1, L1⟩ := hcut
  clear hA L hlook
  obtain ⟨⟨q0, q1, q2⟩, _⟩ := L1.reads
  go_wp2_with fail
  go_cut [7] (fun v7 wx => v7 = .int .i64 (min3 ns (x, y, z) : Int) ∧ At C w wx ns false N m1 m2 m3 ∧ Loc C wx w.heap.size #[.int .i64 (x : Int), .int .i64 (y : Int), .int .i64 (z : Int)] 264)
  case first =>
   have hA2 := hA1.drew
   go_region_held3 (fun w' => w'.cell? ⟨w.heap.size, 0, none⟩ = some (.int .i64 (x : Int)) ∧ w'.cell? ⟨w.heap.size, 1, none⟩ = some (.int .i64 (y : Int)) ∧ w'.cell? ⟨w.heap.size, 2, none⟩ = some (.int .i64 (z : Int))) (go_keep)
    (first | (go_at_call 218; refine (variable_any (At.bu (w0 := w) (by assumption)) (by assumption)).mono ?_; rintro e wn ⟨rfl, rfl⟩))
   go_wp2_with fail
   go_meet
   exact ⟨rfl, hA2, L1.drew⟩
  case rest =>
   obtain ⟨rfl, hA2, L2⟩ := hcut
   clear hA1 L1 q0 q1 q2 hmn
   generalize hv : min3 ns (x, y, z) = v at *
   obtain ⟨⟨q0, q1, q2⟩, _⟩ := L2.reads
   go_wp2_with fail
   refine (partOfChoice_any (c := (x, y, z)) hA2.bu false i1 i2 i3 (by omega)).mono ?_
   rintro e w3 ⟨rfl, hp⟩
   have hA3 := hA2.then hp
   have L3 := L2.kp hp.kp
   clear hp L2 hA2 q0 q1 q2
   go_wp2_with fail
   have hp2 : 2 ^ (k + 1) = 2 * 2 ^ k := by rw [Nat.pow_succ]; omega
   have hp1 : 1 <= 2 ^ k := Nat.one_le_two_pow
   have hpm : ∀ val, v < min3 ns (pc ns (x, y, z) v val) := fun val => by
    have := pc_min3 wf hin (by rw [hv]; exact hvm) val
    rw [hv] at this
    exact this
   refine (ih.out w3 ns false N m1 (pc ns (x, y, z) v false) hA3.bu (pc_inside wf hin hvm false) (HF.out false) (fun _ => hm) (by omega)).mono ?_
   rintro e w4 ⟨f0, ns1, full1, N1, m11, rfl, hp, X1, l1, n1, lt0, _, s1⟩
   have hA4 := hA3.then hp
   have L4 := L3.kp hp.kp
   clear hp L3 hA3
   have wf1 := hA4.bu.ar.wf
   have hin1 := hin.ext X1
   have pe1 := pc_ext hin X1 v true
   obtain ⟨j1, j2, j3⟩ := id hin1
   obtain ⟨⟨q0, q1, q2⟩, _⟩ := L4.reads
   go_wp2_with fail
   refine (partOfChoice_any (c := (x, y, z)) hA4.bu true j1 j2 j3 (by omega)).mono ?_
   rintro e w5 ⟨rfl, hp⟩
   have hA5 := hA4.then hp
   have L5 := L4.kp hp.kp
   clear hp L4 hA4 q0 q1 q2
   go_wp2_with fail
   refine (ih.out w5 ns1 full1 N1 m11 (pc ns1 (x, y, z) v true) hA5.bu (pc_inside wf1 hin1 hvm true) (by rw [pe1]; exact (HF.out true).ext wf wf1 (pc_inside wf hin hvm true) X1) (fun e => (s1 e).1) (by omega)).mono ?_
   rintro e w6 ⟨f1, ns2, full2, N2, m12, rfl, hp, X2, l2, n2, lt1, mo2, s2⟩
   have hA6 := hA5.then hp
   have L6 := L5.kp hp.kp
   clear hp L5 hA5
   have wf2 := hA6.bu.ar.wf
   have X2l := X2.len
   have sem2 : full2 = false -> MemoC ns2 m12 ∧ IsIte ns2 (pc ns (x, y, z) v false) f0 ∧ IsIte ns2 (pc ns (x, y, z) v true) f1 := fun e2 => by
    have e1 : full1 = false := by cases full1 <;> simp_all
    have a1 := (s1 e1).2.ext X2 wf1 wf2
    have a2 := s2 e2
    rw [pe1] at a2
    exact ⟨a2.1, a1, a2.2⟩
   go_wp2_with fail
   refine (numberOf_any hA6.bu (v := v) (l := f0) (u := f1) hvm (by omega) lt1 (fun e2 => ?_)).mono ?_
   ·obtain ⟨_, a1, a2⟩ := sem2 e2
    have b1 := a1.va
    have b2 := a2.va
    rw [min3_ext (pc_inside wf hin hvm _) (X1.trans X2)] at b1 b2
    have := hpm false
    have := hpm true
    omega
   rintro e w7 ⟨f, ns3, full3, rfl, hp, X3, l3, lt3, mo3, s3⟩
   have hA7 := (hA6.then hp).drew
   have L7 := (L6.kp hp.kp).drew
   clear hp L6 hA6
   have wf3 := hA7.bu.ar.wf
   have len3 : ns3.length <= 40000 := Nat.le_trans hA7.bu.ar.le hA7.bu.ar.most4
   obtain ⟨w8, hrun, hM8, hg8⟩ := (hA7.bu.o1 c1 hc1).store Tryz.u45 (by unfold maxLen; omega) (x := (x, y, z)) ho (v := f) (by omega)
   have hA8 := hA7.memo1 hc1 hM8 hg8
   obtain ⟨⟨q0, q1, q2⟩, _⟩ := L7.reads
   obtain ⟨d0, d1, d2, d3, d4, df⟩ := hA7.bu.reads
   rw [hc1] at d2
   simp only [choiceE] at hrun
   have hfin : ChoosePost C w ns false N m2 m3 (x, y, z) (2 ^ (k + 1) - 1) (.returned (.int .i64 (f : Int))) w8 := by
    refine ⟨f, ns3, full3, N2 + 1, _, rfl, hA8, (X1.trans X2).trans X3, by omega, by omega, lt3, (fun e => by cases e), fun e3 => ?_⟩
    have e2 : full2 = false := by cases full2 <;> simp_all
    obtain ⟨a0, a1, a2⟩ := sem2 e2
    have X03 := (X1.trans X2).trans X3
    have J : IsIte ns3 (x, y, z) f := by
     refine isIte_join wf3 (hin.ext X03) (by rw [min3_ext hin X03, hv]; exact hvm) ?_ ?_ (by rw [min3_ext hin X03, hv]; exact s3 e3)
     ·rw [min3_ext hin X03, hv, pc_ext hin X03]; exact a1.ext X3 wf2 wf3
     ·rw [min3_ext hin X03, hv, pc_ext hin X03]; exact a2.ext X3 wf2 wf3
    exact ⟨(a0.ext X3 wf2 wf3).upd J, J⟩
   clear hA7 hM8 hg8 L7 hA8
   go_wp2_with fail
   go_region
   all_goals
    go_wp2_with fail
    go_ret
    exact hfin
theorem choose_fit (S : Nat -> Bool) {c1 : Nat} (hc1 : C.c1 = some c1) : ∀ (k : Nat) (w : World) (ns : List Nd) (full : Bool) (N : Nat) (m1 : Nd -> Option Nat) (c : Nd), Bu C w ns full N m1 m2 m3 -> Inside ns c -> Fit S C.vars ns c k -> (full = false -> MemoC ns m1) ->
  N + 2 ^ k <= 1099511627776 -> Calls Tryz.prog 206 #[.pointer (some ⟨C.b, 0, none⟩), agg3 c] w (ChoosePost C w ns full N m2 m3 c (2 ^ k - 1)) := by
 intro k
 induction k with
 | zero =>
   intro w ns full N m1 c h hin hk0 hm hN
   have hk := hk0.zero h.ar.wf hin
   cases full
   ·obtain ⟨x, y, z⟩ := c
    have hx : x < 2 := by
     have := h.ar.wf.va x
     have k1 : min3 ns (x, y, z) <= nv ns x := by simp only [min3]; omega
     by_cases h2 : 2 <= x
     ·have := this h2 hin.1; omega
     ·omega
    by_cases h1 : x = 1
    ·subst h1
     refine (choose_1 h y z).mono ?_
     rintro e w' ⟨rfl, hA⟩
     exact ⟨y, ns, false, N, m1, rfl, hA, Ext.refl _, by omega, by omega, hin.2.1, id, fun _ => ⟨hm rfl, isIte_1 hin rfl⟩⟩
    ·obtain rfl : x = 0 := by omega
     by_cases hyz : y = z
     ·subst hyz
      refine (choose_same h 0 y h1).mono ?_
      rintro e w' ⟨rfl, hA⟩
      exact ⟨y, ns, false, N, m1, rfl, hA, Ext.refl _, by omega, by omega, hin.2.1, id, fun _ => ⟨hm rfl, isIte_same hin rfl⟩⟩
     ·refine (choose_0 h y z hyz).mono ?_
      rintro e w' ⟨rfl, hA⟩
      exact ⟨z, ns, false, N, m1, rfl, hA, Ext.refl _, by omega, by omega, hin.2.2, id, fun _ => ⟨hm rfl, isIte_0 hin rfl⟩⟩
   ·refine (choose_full h c).mono ?_
    rintro e w' ⟨rfl, hA⟩
    exact ⟨0, ns, true, N, m1, rfl, hA, Ext.refl _, by omega, by omega, (by have := h.ar.wf.len; omega), id, fun e => by cases e⟩
 | succ k ih =>
   intro w ns full N m1 c h hin hk hm hN
   cases full
   ·obtain ⟨x, y, z⟩ := c
    by_cases h1 : x = 1
    ·subst h1
     refine (choose_1 h y z).mono ?_
     rintro e w' ⟨rfl, hA⟩
     exact ⟨y, ns, false, N, m1, rfl, hA, Ext.refl _, by omega, by omega, hin.2.1, id, fun _ => ⟨hm rfl, isIte_1 hin rfl⟩⟩
    ·by_cases hyz : y = z
     ·subst hyz
      refine (choose_same h x y h1).mono ?_
      rintro e w' ⟨rfl, hA⟩
      exact ⟨y, ns, false, N, m1, rfl, hA, Ext.refl _, by omega, by omega, hin.2.1, id, fun _ => ⟨hm rfl, isIte_same hin rfl⟩⟩
     ·by_cases h0 : x = 0
      ·subst h0
       refine (choose_0 h y z hyz).mono ?_
       rintro e w' ⟨rfl, hA⟩
       exact ⟨z, ns, false, N, m1, rfl, hA, Ext.refl _, by omega, by omega, hin.2.2, id, fun _ => ⟨hm rfl, isIte_0 hin rfl⟩⟩
      ·have hl4 : ns.length <= 40000 := Nat.le_trans h.ar.le h.ar.most4
       obtain ⟨i1, i2, i3⟩ := id hin
       simp only [] at i1 i2 i3
       cases hf : m1 (x, y, z) with
       | none => exact choose_miss h hc1 hin (by omega) hyz hf hk (hm rfl) hN ⟨ih⟩
       | some f =>
         refine (choose_hit h hc1 ⟨by show x < _; omega, by show y < _; omega, by show z < _; omega⟩ (by omega) hyz hf).mono ?_
         rintro e w' ⟨rfl, hA⟩
         have J := hm rfl _ _ hf
         exact ⟨f, ns, false, N, m1, rfl, hA, Ext.refl _, by omega, by omega, J.lt, id, fun _ => ⟨hm rfl, J⟩⟩
   ·refine (choose_full h c).mono ?_
    rintro e w' ⟨rfl, hA⟩
    exact ⟨0, ns, true, N, m1, rfl, hA, Ext.refl _, by omega, by omega, (by have := h.ar.wf.len; omega), id, fun e => by cases e⟩
end
def ca (base a M vars most : Nat) : Cfg := ⟨base, a, a, M, none, none, none, vars, most⟩
def OpPost (base a M vars most : Nat) (w : World) (ns : List Nd) (g : Nat) (φ : Env -> Bool) (e : Ending) (w' : World) : Prop :=
 ∃ ns', Ar base a M vars most w' ns' ∧ Kp (ca base a M vars most) w w' ∧ Ext ns ns' ∧ ns'.length <= ns.length + g ∧
   ((∃ f : Nat, e = .returned (.tuple #[.int .i64 (f : Int), .int .i64 0]) ∧ f < ns'.length ∧ ∀ x, ev ns' f x = φ x) ∨ (e = .returned (.tuple #[.int .i64 0, .int .i64 6]) ∧ ns'.length = most))
def MkPost (base a M vars most : Nat) (w : World) (ns : List Nd) (g i : Nat) (φ : Env -> Bool) (e : Ending) (w' : World) : Prop :=
 ∃ ns', Ar base a M vars most w' ns' ∧ Kp (ca base a M vars most) w w' ∧ Ext ns ns' ∧ ns'.length <= ns.length + g ∧
   ((∃ f : Nat, e = .returned (.tuple #[.int .i64 (f : Int), .int .i64 0]) ∧ f < ns'.length ∧ i <= nv ns' f ∧ ∀ x, ev ns' f x = φ x) ∨ (e = .returned (.tuple #[.int .i64 0, .int .i64 6]) ∧ ns'.length = most))
section
variable {base a M vars most : Nat} {w w1 w2 : World} {ns : List Nd}
theorem Kp.outer {C : Cfg} (hK : Kp C w1 w2) (ha : C.a = a) (ho : w1.os = w.os) (ht : w1.tape = w.tape) (hp : w1.output = w.output) (hs : w.heap.size <= w1.heap.size) (hb : ∀ i, i < w.heap.size -> w1.heap[i]? = w.heap[i]?)
  (hn : ∀ i, C.mine i -> i = a ∨ i = M ∨ w.heap.size <= i) (la : a < w.heap.size) : Kp (ca base a M vars most) w w2 := by
 have hr : rowOf w1 a = rowOf w a := rowOf_same (hb a la)
 have hr2 := hK.row
 rw [ha] at hr2
 have hs2 := hK.size
 refine ⟨hK.os.trans ho, hK.tape.trans ht, hK.output.trans hp, by omega, fun i hi hm hne => ?_, ?_, fun j hj => by have := hK.post j hj; rw [ha] at this; exact this.trans (cellB (hb a la))⟩
 ·refine (hK.blk i (by omega) (fun hc => ?_) (by rw [ha, hr]; exact hne)).trans (hb i hi)
  rcases hn i hc with e | e | e
  ·exact hm (Or.inl e)
  ·exact hm (Or.inr (Or.inr (Or.inl e)))
  ·omega
 ·show rowOf w2 a = rowOf w a ∨ w.heap.size <= rowOf w2 a
  rcases hr2 with e | e
  ·exact Or.inl (e.trans hr)
  ·exact Or.inr (by omega)
theorem Ar.alloc (h : Ar base a M vars most w ns) (o : Obj) : Ar base a M vars most (w.alloc o) ns := by
 obtain ⟨_, _, _, rl⟩ := h.row
 exact h.same (Below.heap_alloc w o _ h.lta) (Below.heap_alloc w o _ h.ltM) (Below.heap_alloc w o _ rl)
theorem new_ok {v m : Nat} (w : World) (hv1 : 1 <= v) (hv2 : v <= 16) (hm1 : 2 <= m) (hm2 : m <= 40000) :
  Calls Tryz.prog 30 #[.int .i64 (v : Int), .int .i64 (m : Int)] w fun e w' => ∃ a M, e = .returned (.tuple #[.pointer (some ⟨a, 0, none⟩), .int .i64 0]) ∧ Ar w.heap.size a M v m w' [(v, 0, 0), (v, 1, 1)] ∧ Below w.heap.size w w' := by
 have hmm := @run_makeMap Tryz.prog
 have t1 : decide ((v : Int) < 1) = false := by simp; omega
 have t2 : decide ((16 : Int) < (v : Int)) = false := by simp; omega
 have t3 : decide ((m : Int) < 2) = false := by simp; omega
 have t4 : decide ((40000 : Int) < (m : Int)) = false := by simp; omega
 go_enter Tryz.func30, Tryz.ntmps30
 go_wp2_with fail
 go_ret2
 refine ⟨w.heap.size + 1 + 1, w.heap.size + 1, rfl, ?_, ?_⟩
 ·refine ⟨wf_start v, by simpa using hm1, hv1, hv2, hm2, by omega, by omega, ⟨w.heap.size, 2, #[.int .i64 (v : Int), .int .i64 (m : Int), .slice (some ⟨w.heap.size, 0, none⟩) 2 2, .map (some (w.heap.size + 1))], 82, ?_, ⟨rfl, rfl, rfl, rfl, .inl rfl⟩, ?_⟩, ⟨fun _ => none, ?_, ?_⟩⟩
  ·rw [show w.heap.size + 1 + 1 = ((w.alloc (.cells #[.int .i64 (v : Int), .int .i64 0, .int .i64 0, .int .i64 (v : Int), .int .i64 1, .int .i64 1] 143)).alloc (.map #[] 0)).heap.size by simp]
   exact Go.heap_alloc_new _ _
  ·refine ⟨by simp [cellsOf], .inr ⟨w.heap.size, 2, #[.int .i64 (v : Int), .int .i64 0, .int .i64 0, .int .i64 (v : Int), .int .i64 1, .int .i64 1], rfl, Nat.le_refl _, ?_, by simp, by decide, by simp, by simp [cellsOf]⟩⟩
   rw [Below.heap_alloc _ _ _ (by simp; omega), Below.heap_alloc _ _ _ (by simp)]
   exact Go.heap_alloc_new _ _
  ·have hM := mapIs_made nodeE (w.alloc (.cells #[.int .i64 (v : Int), .int .i64 0, .int .i64 0, .int .i64 (v : Int), .int .i64 1, .int .i64 1] 143))
   rw [show (w.alloc (.cells #[.int .i64 (v : Int), .int .i64 0, .int .i64 0, .int .i64 (v : Int), .int .i64 1, .int .i64 1] 143)).heap.size = w.heap.size + 1 by simp] at hM
   exact (hM.same (Below.heap_alloc _ _ _ (by simp))).mono (by simp)
  ·intro n f
   simp only [List.length_cons, List.length_nil]
   constructor
   ·intro h; cases h
   ·rintro ⟨h1, h2, _⟩; omega
 ·exact (((Below.refl _ _).alloc (Nat.le_refl _) _).alloc (by simp) _).alloc (by simp; omega) _
theorem bu_new {C : Cfg} {m1 : Nd -> Option Nat} {m2 : Mx -> Option Nat} {m3 : Nat -> Option Nat} (h : Ar C.base C.a C.M C.vars C.most w ns) (hb : C.b = w.heap.size) (hbase : C.base <= w.heap.size) (o1 : OMap choiceE w C.c1 0 m1) (o2 : OMap mixE w C.c2 0 m2) (o3 : OMap intE w C.c3 0 m3)
  (low1 : ∀ i, C.c1 = some i -> C.base <= i ∧ i ≠ C.M ∧ C.c2 ≠ some i ∧ C.c3 ≠ some i) (low2 : ∀ i, C.c2 = some i -> C.base <= i ∧ i ≠ C.M ∧ C.c1 ≠ some i ∧ C.c3 ≠ some i) (low3 : ∀ i, C.c3 = some i -> C.base <= i ∧ i ≠ C.M ∧ C.c1 ≠ some i ∧ C.c2 ≠ some i) :
  Bu C (w.alloc (.cells #[.pointer (some ⟨C.a, 0, none⟩), .bool false, .map C.c1, .map C.c2, .map C.c3] 221)) ns false 0 m1 m2 m3 :=
 ⟨h.alloc _, by rw [hb]; exact Go.heap_alloc_new _ _, by omega, fun i e => (o1 i e).same (Below.heap_alloc _ _ _ (o1 i e).lt), fun i e => (o2 i e).same (Below.heap_alloc _ _ _ (o2 i e).lt), fun i e => (o3 i e).same (Below.heap_alloc _ _ _ (o3 i e).lt), low1, low2, low3, fun e => by cases e⟩
theorem vars_any (h : Ar base a M vars most w ns) : Calls Tryz.prog 125 #[.pointer (some ⟨a, 0, none⟩)] w fun e w' => e = .returned (.int .i64 (vars : Int)) ∧ w' = w := by
 obtain ⟨cap, a0, a1, a2, a3, af, an⟩ := h.reads
 clear h an
 go_enter Tryz.func125, Tryz.ntmps125
 go_wp2_with fail
 go_ret
 exact ⟨rfl, rfl⟩
theorem hangs_ok (h : Ar base a M vars most w ns) {f i : Nat} (hf : f < ns.length) (hv : i < nv ns f) :
  Calls Tryz.prog 196 #[.pointer (some ⟨a, 0, none⟩), .int .i64 (f : Int), .int .i64 (i : Int)] w fun e w' => e = .returned (.bool true) ∧ w' = w := by
 have t1 : (decide ((0 : Int) <= (f : Int)) && decide ((f : Int) < (ns.length : Int))) = true := by simp; omega
 have t2 : decide ((i : Int) < (nv ns f : Int)) = true := by simp; omega
 have hl : ns.length <= 40000 := Nat.le_trans h.le h.most4
 have hF : Hid (Ar base a M vars most w ns) := h
 obtain ⟨cap, a0, a1, a2, a3, af, an⟩ := h.reads
 obtain ⟨n0, n1, n2⟩ := an f hf
 clear h an
 generalize rowOf w a = g at *
 go_enter Tryz.func196, Tryz.ntmps196
 go_wp2_with (go_at_call 82; refine (hasFunction_any hF.out (f : Int)).mono ?_; rintro e w' ⟨rfl, rfl⟩; rw [t1])
 go_ret
 exact ⟨by simp, rfl⟩
theorem node_ok (h : Ar base a M vars most w ns) {i lo up : Nat} (hi : i < vars) (l1 : lo < ns.length) (l2 : up < ns.length) (v1 : i < nv ns lo) (v2 : i < nv ns up) :
  Calls Tryz.prog 172 #[.pointer (some ⟨a, 0, none⟩), .int .i64 (i : Int), .int .i64 (lo : Int), .int .i64 (up : Int)] w (MkPost base a M vars most w ns 1 i fun x => if x i then ev ns up x else ev ns lo x) := by
 have la := h.lta
 have lM := h.ltM
 have wf := h.wf
 have hb := bu_new (C := ⟨base, a, w.heap.size, M, none, none, none, vars, most⟩) (m1 := fun _ => none) (m2 := fun _ => none) (m3 := fun _ => none) h rfl (by have := h.lowA; show base <= w.heap.size; omega) (fun _ e => by cases e) (fun _ e => by cases e) (fun _ e => by cases e) (fun _ e => by cases e) (fun _ e => by cases e) (fun _ e => by cases e)
 have t0 : (decide ((0 : Int) <= (i : Int)) && decide ((i : Int) < (vars : Int))) = true := by simp; omega
 go_enter Tryz.func172, Tryz.ntmps172
 go_wp2_with (first
  | (go_at_call 195; refine (hasVariable_any h (i : Int)).mono ?_; rintro e w' ⟨rfl, rfl⟩; rw [t0])
  | (go_at_call_of 196 (Value.int .i64 (lo : Int)); refine (hangs_ok h l1 v1).mono ?_; rintro e w' ⟨rfl, rfl⟩)
  | (go_at_call_of 196 (Value.int .i64 (up : Int)); refine (hangs_ok h l2 v2).mono ?_; rintro e w' ⟨rfl, rfl⟩))
 refine (numberOf_any (v := i) (l := lo) (u := up) hb hi l1 l2 (fun _ => ⟨v1, v2⟩)).mono ?_
 rintro e w2 ⟨f, ns', full', rfl, hp, X, l3, lt, mo, sm⟩
 have wf' := hp.bu.ar.wf
 have hK : Kp (ca base a M vars most) w' w2 := hp.kp.outer rfl rfl rfl rfl (by simp) (fun i hi => Below.heap_alloc _ _ _ hi) (by
  rintro i (e | e | e | e | e | e)
  ·exact Or.inl e
  ·exact Or.inr (Or.inr (by rw [e]; exact Nat.le_refl _))
  ·exact Or.inr (Or.inl e)
  ·cases e
  ·cases e
  ·cases e) la
 go_wp2_with fail
 cases full'
 ·refine (answer_any hp.bu f).mono ?_
  rintro e w3 ⟨rfl, rfl⟩
  have hfin : MkPost base a M vars most w' ns 1 i (fun x => if x i then ev ns up x else ev ns lo x) (.returned (.tuple #[.int .i64 (f : Int), .int .i64 0])) w3 :=
   ⟨ns', hp.bu.ar, hK, X, l3, Or.inl ⟨f, rfl, lt, (sm rfl).va, fun x => by rw [(sm rfl).ev x, X.ev wf wf' _ l1, X.ev wf wf' _ l2]⟩⟩
  clear hp hK
  go_wp2_with fail
  go_ret2
  exact hfin
 ·refine (answer_any hp.bu f).mono ?_
  rintro e w3 ⟨rfl, rfl⟩
  have hfin : MkPost base a M vars most w' ns 1 i (fun x => if x i then ev ns up x else ev ns lo x) (.returned (.tuple #[.int .i64 0, .int .i64 6])) w3 :=
   ⟨ns', hp.bu.ar, hK, X, l3, Or.inr ⟨rfl, hp.bu.full_len rfl⟩⟩
  clear hp hK
  go_wp2_with fail
  go_ret2
  exact hfin
theorem ite_fit (S : Nat -> Bool) (h : Ar base a M vars most w ns) {c : Nd} (hc : Inside ns c) {k : Nat} (hfit : Fit S vars ns c k) (hk16 : k <= 16) :
  Calls Tryz.prog 181 #[.pointer (some ⟨a, 0, none⟩), .int .i64 (c.1 : Int), .int .i64 (c.2.1 : Int), .int .i64 (c.2.2 : Int)] w (OpPost base a M vars most w ns (2 ^ k - 1) fun x => if ev ns c.1 x then ev ns c.2.1 x else ev ns c.2.2 x) := by
 have hmm := @run_makeMap Tryz.prog
 have la := h.lta
 have lM := h.ltM
 have hA := h.lowA
 have v16 := h.vars16
 have wf := h.wf
 have hs : (w.alloc (.map #[] 0)).heap.size = w.heap.size + 1 := by simp
 have hb := bu_new (w := w.alloc (.map #[] 0)) (C := ⟨base, a, w.heap.size + 1, M, some w.heap.size, none, none, vars, most⟩) (m1 := fun _ => none) (m2 := fun _ => none) (m3 := fun _ => none) (h.alloc _) (by simp) (by rw [hs]; show base <= _; omega)
  (fun i e => by cases e; exact mapIs_made choiceE w) (fun _ e => by cases e) (fun _ e => by cases e) (fun i e => by cases e; exact ⟨by show base <= _; omega, by show w.heap.size ≠ M; omega, (fun e => by cases e), (fun e => by cases e)⟩) (fun _ e => by cases e) (fun _ e => by cases e)
 obtain ⟨x, y, z⟩ := c
 have hch := choose_fit S (C := ⟨base, a, w.heap.size + 1, M, some w.heap.size, none, none, vars, most⟩) (c1 := w.heap.size) rfl k _ ns false 0 _ (x, y, z) hb hc hfit (fun _ _ _ e => by cases e) (by have := Nat.pow_le_pow_right (n := 2) (by omega) hk16; omega)
 obtain ⟨i1, i2, i3⟩ := id hc
 simp only [] at i1 i2 i3
 have t1 : (decide ((0 : Int) <= (x : Int)) && decide ((x : Int) < (ns.length : Int))) = true := by simp; omega
 have t2 : (decide ((0 : Int) <= (y : Int)) && decide ((y : Int) < (ns.length : Int))) = true := by simp; omega
 have t3 : (decide ((0 : Int) <= (z : Int)) && decide ((z : Int) < (ns.length : Int))) = true := by simp; omega
 have hch' := Hq.mk hch
 clear hch hb hfit
 simp only []
 go_enter Tryz.func181, Tryz.ntmps181
 go_wp2_with (first
  | (go_at_call_of 82 (Value.int .i64 (x : Int)); refine (hasFunction_any h (x : Int)).mono ?_; rintro e w' ⟨rfl, rfl⟩; rw [t1])
  | (go_at_call_of 82 (Value.int .i64 (y : Int)); refine (hasFunction_any h (y : Int)).mono ?_; rintro e w' ⟨rfl, rfl⟩; rw [t2])
  | (go_at_call_of 82 (Value.int .i64 (z : Int)); refine (hasFunction_any h (z : Int)).mono ?_; rintro e w' ⟨rfl, rfl⟩; rw [t3]))
 refine hch'.out.mono ?_
 rintro e w2 ⟨f, ns', full', N', m1', rfl, hp, X, l1, _, lt, _, sm⟩
 have wf' := hp.bu.ar.wf
 have hK : Kp (ca base a M vars most) w' w2 := hp.kp.outer rfl rfl rfl rfl (by simp; omega) (fun i hi => (Below.heap_alloc _ _ _ (by simp; omega)).trans (Below.heap_alloc _ _ _ hi)) (by
  rintro i (e | e | e | e | e | e)
  ·exact Or.inl e
  ·exact Or.inr (Or.inr (by rw [e]; show _ <= w'.heap.size + 1; omega))
  ·exact Or.inr (Or.inl e)
  ·cases e; exact Or.inr (Or.inr (Nat.le_refl _))
  ·cases e
  ·cases e) la
 go_wp2_with fail
 cases full'
 ·refine (answer_any hp.bu f).mono ?_
  rintro e w3 ⟨rfl, rfl⟩
  have hfin : OpPost base a M vars most w' ns (2 ^ k - 1) (fun q => if ev ns x q then ev ns y q else ev ns z q) (.returned (.tuple #[.int .i64 (f : Int), .int .i64 0])) w3 :=
   ⟨ns', hp.bu.ar, hK, X, l1, Or.inl ⟨f, rfl, lt, fun q => by rw [(sm rfl).2.ev q]; simp only [X.ev wf wf' _ i1, X.ev wf wf' _ i2, X.ev wf wf' _ i3]⟩⟩
  clear hp hK
  go_wp2_with fail
  go_ret2
  exact hfin
 ·refine (answer_any hp.bu f).mono ?_
  rintro e w3 ⟨rfl, rfl⟩
  have hfin : OpPost base a M vars most w' ns (2 ^ k - 1) (fun q => if ev ns x q then ev ns y q else ev ns z q) (.returned (.tuple #[.int .i64 0, .int .i64 6])) w3 :=
   ⟨ns', hp.bu.ar, hK, X, l1, Or.inr ⟨rfl, hp.bu.full_len rfl⟩⟩
  clear hp hK
  go_wp2_with fail
  go_ret2
  exact hfin
theorem ite_ok (h : Ar base a M vars most w ns) {c : Nd} (hc : Inside ns c) :
  Calls Tryz.prog 181 #[.pointer (some ⟨a, 0, none⟩), .int .i64 (c.1 : Int), .int .i64 (c.2.1 : Int), .int .i64 (c.2.2 : Int)] w (OpPost base a M vars most w ns (2 ^ vars - 1) fun x => if ev ns c.1 x then ev ns c.2.1 x else ev ns c.2.2 x) := ite_fit (fun _ => true) h hc (fit_all (Nat.le_add_left _ _)) h.vars16
theorem OpPost.of {w : World} {g : Nat} {φ ψ : Env -> Bool} {e : Ending} {w' : World} (h : OpPost base a M vars most w ns g φ e w') (hq : ∀ q, φ q = ψ q) : OpPost base a M vars most w ns g ψ e w' := by
 obtain ⟨ns', r1, r2, r3, r4, r5⟩ := h
 refine ⟨ns', r1, r2, r3, r4, ?_⟩
 rcases r5 with ⟨f, e1, e2, e3⟩ | r5
 ·exact Or.inl ⟨f, e1, e2, fun q => (e3 q).trans (hq q)⟩
 ·exact Or.inr r5
end
structure IsEx (ns : List Nd) (i f g : Nat) : Prop where
 ltf : f < ns.length
 lt : g < ns.length
 ev : ∀ e, ev ns g e = (ev ns f (setE e i false) || ev ns f (setE e i true))
 va : nv ns f <= nv ns g
section
variable {vars : Nat} {ns ns' : List Nd}
end
section
variable {C : Cfg} {w : World} {ns : List Nd} {N : Nat} {m1 : Nd -> Option Nat} {m2 : Mx -> Option Nat} {m3 : Nat -> Option Nat}
end
def InsideM (ns : List Nd) (x : Mx) : Prop := x.1 < ns.length ∧ x.2.1 < ns.length
def minb (ns : List Nd) (x : Mx) (late : Nat) : Nat := min (min (nv ns x.1) (nv ns x.2.1)) late
structure IsBl (ns : List Nd) (late : Nat) (x : Mx) (g : Nat) : Prop where
 inside : InsideM ns x
 lt : g < ns.length
 ev : ∀ e, ev ns g e = if e late then ev ns x.2.1 (setE e late x.2.2) else ev ns x.1 (setE e late x.2.2)
 va : minb ns x late <= nv ns g
section
variable {vars : Nat} {ns ns' : List Nd}
end
section
variable {C : Cfg} {w : World} {ns : List Nd} {N : Nat} {m1 : Nd -> Option Nat} {m2 : Mx -> Option Nat} {m3 : Nat -> Option Nat}
end
end Go.Proofs.YtppbfikimalojaaGreat
namespace Go.Proofs.YtppbfikimalojaaGreat
section
variable {S : Nat -> Bool} {vars : Nat} {ns ns' : List Nd}
structure FitM (S : Nat -> Bool) (late : Nat) (ns : List Nd) (x : Mx) (k : Nat) : Prop where
 d1 : DepS S (ev ns x.1)
 d2 : DepS S (ev ns x.2.1)
 hl : S late = true
 le : cnS S (late + 1) (minb ns x late) <= k
structure FitW (S : Nat -> Bool) (i j vars : Nat) (ns : List Nd) (f k : Nat) : Prop where
 d : DepS S (ev ns f)
 hi : S i = true
 hj : S j = true
 le : cnS S vars (min (nv ns f) i) <= k
end
end Go.Proofs.YtppbfikimalojaaGreat
namespace Go.Proofs.YtppbfikimalojaaGreat
open Go.RowKit Go.Maps
section
variable {C : Cfg} {w : World} {ns : List Nd} {N : Nat} {m1 : Nd -> Option Nat} {m2 : Mx -> Option Nat} {m3 : Nat -> Option Nat}
end
def swE (e : Env) (i j : Nat) : Env := fun x => if x = i then e j else if x = j then e i else e x
structure IsSw (ns : List Nd) (i j f g : Nat) : Prop where
 ltf : f < ns.length
 lt : g < ns.length
 ev : ∀ e, ev ns g e = ev ns f (swE e i j)
 va : min (nv ns f) i <= nv ns g
section
variable {vars : Nat} {ns ns' : List Nd}
end
section
variable {C : Cfg} {w : World} {ns : List Nd} {N : Nat} {m1 : Nd -> Option Nat} {m2 : Mx -> Option Nat} {m3 : Nat -> Option Nat}
end
section
variable {C : Cfg} {w : World} {ns : List Nd} {N : Nat} {m1 : Nd -> Option Nat} {m2 : Mx -> Option Nat} {m3 : Nat -> Option Nat}
end
theorem cnR_le (S : Nat -> Bool) : ∀ d v, cnR S d v <= d
 | 0, _ => Nat.le_refl _
 | d + 1, v => by
   have := cnR_le S d (v + 1)
   rw [cnR]
   split <;> omega
theorem cnS_le {S : Nat -> Bool} {vars : Nat} (v : Nat) : cnS S vars v <= vars := by
 have := cnR_le S (vars - v) v
 unfold cnS
 omega
section
variable {base a M vars most : Nat} {w : World} {ns : List Nd}
theorem and_fit (S : Nat -> Bool) (h : Ar base a M vars most w ns) {f g : Nat} (hf : f < ns.length) (hg : g < ns.length) (d1 : DepS S (ev ns f)) (d2 : DepS S (ev ns g)) :
  Calls Tryz.prog 138 #[.pointer (some ⟨a, 0, none⟩), .int .i64 (f : Int), .int .i64 (g : Int)] w (OpPost base a M vars most w ns (2 ^ cnS S vars 0 - 1) (fun q => ev ns f q && ev ns g q)) := by
 have l2 := h.wf.len
 have hc : Hq (Calls Tryz.prog 181 #[.pointer (some ⟨a, 0, none⟩), .int .i64 (f : Int), .int .i64 (g : Int), .int .i64 ((0 : Nat) : Int)] w (OpPost base a M vars most w ns (2 ^ cnS S vars 0 - 1) fun q => if ev ns f q then ev ns g q else ev ns 0 q)) := ⟨ite_fit S h (c := (f, g, 0)) ⟨hf, by show g < _; omega, by show 0 < _; omega⟩ ⟨d1, d2, (fun e e' _ => by rw [ev0, ev0]), cnS_anti (Nat.zero_le _)⟩ (Nat.le_trans (cnS_le 0) h.vars16)⟩
 clear d1 d2
 generalize cnS S vars 0 = kk at *
 go_enter Tryz.func138, Tryz.ntmps138
 go_wp2_with fail
 refine hc.out.mono ?_
 rintro e w' hp
 have hp2 : OpPost base a M vars most w ns (2 ^ kk - 1) (fun q => ev ns f q && ev ns g q) e w' := hp.of (fun q => by simp only [ev0]; cases ev ns f q <;> simp)
 clear hp
 have hp3 := hp2
 obtain ⟨ns', _, _, _, _, ⟨f', rfl, _⟩ | ⟨rfl, _⟩⟩ := hp2
 ·go_wp2_with fail
  go_ret2
  exact hp3
 ·go_wp2_with fail
  go_ret2
  exact hp3
end
structure IsTk (ns ns2 : List Nd) (f g : Nat) : Prop where
 ltf : f < ns2.length
 lt : g < ns.length
 ev : ∀ e, ev ns g e = ev ns2 f e
 va : nv ns2 f <= nv ns g
section
variable {vars v2 : Nat} {ns ns' ns2 : List Nd}
theorem IsTk.ext {f g : Nat} (h : IsTk ns ns2 f g) (X : Ext ns ns') (wf : Wf vars ns) (wf' : Wf vars ns') : IsTk ns' ns2 f g := by
 have hl := X.len
 have lt := h.lt
 refine ⟨h.ltf, by omega, fun e => ?_, ?_⟩
 ·rw [X.ev wf wf' _ h.lt]; exact h.ev e
 ·rw [X.va h.lt]; exact h.va
def MemoT (ns ns2 : List Nd) (m : Nat -> Option Nat) : Prop := ∀ f g, m f = some g -> IsTk ns ns2 f g
theorem MemoT.ext {m : Nat -> Option Nat} (h : MemoT ns ns2 m) (X : Ext ns ns') (wf : Wf vars ns) (wf' : Wf vars ns') : MemoT ns' ns2 m := fun c f e => (h c f e).ext X wf wf'
theorem MemoT.upd {m : Nat -> Option Nat} (h : MemoT ns ns2 m) {c f : Nat} (hf : IsTk ns ns2 c f) : MemoT ns ns2 (upd m c f) := by
 intro d g hg
 unfold YtppbfikimalojaaGreat.upd at hg
 by_cases e : d = c
 ·subst e
  rw [if_pos rfl] at hg
  cases hg
  exact hf
 ·rw [if_neg e] at hg
  exact h d g hg
theorem isTk_small (wf : Wf vars ns) (wf2 : Wf v2 ns2) (hv : v2 <= vars) {f : Nat} (hf : f <= 1) : IsTk ns ns2 f f := by
 have l1 := wf.len
 have l2 := wf2.len
 match f, hf with
 | 0, _ => exact ⟨by omega, by omega, fun e => rfl, by simp [nv, wf.n0, wf2.n0]; exact hv⟩
 | 1, _ => exact ⟨by omega, by omega, fun e => by rw [ev1, ev1], by simp [nv, wf.n1, wf2.n1]; exact hv⟩
theorem isTk_join (wf2 : Wf v2 ns2) {f l u g : Nat} (f2 : 2 <= f) (hf : f < ns2.length) (h0 : IsTk ns ns2 (nl ns2 f) l) (h1 : IsTk ns ns2 (nh ns2 f) u) (hn : IsNode ns (nv ns2 f) l u g) : IsTk ns ns2 f g :=
 ⟨hf, hn.lt, fun e => by rw [hn.ev, h0.ev, h1.ev, ev_node wf2 f2 hf], hn.va⟩
end
structure Fr (C : Cfg) (w : World) (base2 a2 M2 v2 most2 : Nat) (ns2 : List Nd) : Prop where
 ar : Ar base2 a2 M2 v2 most2 w ns2
 oa : Out C w a2
 oM : Out C w M2
 or : Out C w (rowOf w a2)
section
variable {C : Cfg} {w w' : World} {base2 a2 M2 v2 most2 : Nat} {ns2 : List Nd}
theorem Fr.kp (h : Fr C w base2 a2 M2 v2 most2 ns2) (k : Kp C w w') : Fr C w' base2 a2 M2 v2 most2 ns2 := by
 have e : w'.heap[a2]? = w.heap[a2]? := k.blk a2 h.oa.lt h.oa.not h.oa.ne
 refine ⟨h.ar.same e (k.blk M2 h.oM.lt h.oM.not h.oM.ne) (k.blk _ h.or.lt h.or.not h.or.ne), h.oa.kp k, h.oM.kp k, ?_⟩
 rw [rowOf_same e]
 exact h.or.kp k
def TakePost (C : Cfg) (w : World) (ns ns2 : List Nd) (full : Bool) (N : Nat) (m1 : Nd -> Option Nat) (m2 : Mx -> Option Nat) (f : Nat) (g : Nat) (e : Ending) (w' : World) : Prop :=
 ∃ r ns' full' N' m3', e = .returned (.int .i64 ((r : Nat) : Int)) ∧ At C w w' ns' full' N' m1 m2 m3' ∧ Ext ns ns' ∧ ns'.length <= ns.length + g ∧ N' <= N + g ∧ r < ns'.length ∧ (full = true -> full' = true) ∧ (full' = false -> MemoT ns' ns2 m3' ∧ IsTk ns' ns2 f r)
variable {ns : List Nd} {N : Nat} {m1 : Nd -> Option Nat} {m2 : Mx -> Option Nat} {m3 : Nat -> Option Nat}
theorem take_full (h : Bu C w ns true N m1 m2 m3) (f : Nat) :
  Calls Tryz.prog 143 #[.pointer (some ⟨C.b, 0, none⟩), .pointer (some ⟨a2, 0, none⟩), .int .i64 (f : Int)] w fun e w' => e = .returned (.int .i64 0) ∧ w' = w := by
 obtain ⟨b0, b1, b2, b3, b4, bf⟩ := h.reads
 clear h
 go_enter Tryz.func143, Tryz.ntmps143
 go_wp2_with fail
 go_ret
 exact ⟨rfl, rfl⟩
theorem take_small (h : Bu C w ns false N m1 m2 m3) {f : Nat} (hf : f <= 1) :
  Calls Tryz.prog 143 #[.pointer (some ⟨C.b, 0, none⟩), .pointer (some ⟨a2, 0, none⟩), .int .i64 (f : Int)] w fun e w' => e = .returned (.int .i64 (f : Int)) ∧ w' = w := by
 obtain ⟨b0, b1, b2, b3, b4, bf⟩ := h.reads
 have t1 : decide ((f : Int) <= 1) = true := by simp; omega
 clear h
 go_enter Tryz.func143, Tryz.ntmps143
 go_wp2_with fail
 go_ret
 exact ⟨rfl, rfl⟩
theorem take_hit (h : Bu C w ns false N m1 m2 m3) {c3 : Nat} (hc3 : C.c3 = some c3) {f r : Nat} (f2 : 2 <= f) (hf : f < 9223372036854775808) (hr : m3 f = some r) :
  Calls Tryz.prog 143 #[.pointer (some ⟨C.b, 0, none⟩), .pointer (some ⟨a2, 0, none⟩), .int .i64 (f : Int)] w fun e w' => e = .returned (.int .i64 (r : Int)) ∧ w' = w := by
 obtain ⟨b0, b1, b2, b3, b4, bf⟩ := h.reads
 have t1 : decide ((f : Int) <= 1) = false := by simp; omega
 have hlook := (h.o3 c3 hc3).look Tryz.u47 (x := f) (by show f < _; omega)
 rw [hr] at hlook
 simp only [intE, Option.getD_some, Option.isSome_some] at hlook
 rw [hc3] at b4
 clear h
 go_enter Tryz.func143, Tryz.ntmps143
 go_wp2_with fail
 go_ret
 exact ⟨rfl, rfl⟩
theorem take_miss (h : Bu C w ns false N m1 m2 m3) (F : Fr C w base2 a2 M2 v2 most2 ns2) (hv2 : v2 <= C.vars) {c3 : Nat} (hc3 : C.c3 = some c3) {f k : Nat} (f2 : 2 <= f) (hf : f < ns2.length) (hr : m3 f = none) {S : Nat -> Bool} (hk : Fit1 S v2 ns2 f (k + 1)) (hmt : MemoT ns ns2 m3) (hN : N + 2 ^ (k + 1) <= 1099511627776)
  (ih : Hq (∀ w ns full N m3 f, Bu C w ns full N m1 m2 m3 -> Fr C w base2 a2 M2 v2 most2 ns2 -> f < ns2.length -> Fit1 S v2 ns2 f k -> (full = false -> MemoT ns ns2 m3) -> N + 2 ^ k <= 1099511627776 -> Calls Tryz.prog 143 #[.pointer (some ⟨C.b, 0, none⟩), .pointer (some ⟨a2, 0, none⟩), .int .i64 (f : Int)] w (TakePost C w ns ns2 full N m1 m2 f (2 ^ k - 1)))) :
  Calls Tryz.prog 143 #[.pointer (some ⟨C.b, 0, none⟩), .pointer (some ⟨a2, 0, none⟩), .int .i64 (f : Int)] w (TakePost C w ns ns2 false N m1 m2 f (2 ^ (k + 1) - 1)) := by
 have hA := (At.refl h).alloc (.cells #[.int .i64 (nv ns2 f : Int), .int .i64 (nl ns2 f : Int), .int .i64 (nh ns2 f : Int)] 143)
 have L := h.loc #[.int .i64 (nv ns2 f : Int), .int .i64 (nl ns2 f : Int), .int .i64 (nh ns2 f : Int)] 143
 have F1 := F.kp hA.kp
 obtain ⟨b0, b1, b2, b3, b4, bf⟩ := h.reads
 obtain ⟨cap, a0, a1, ac2, a3, af, an⟩ := F.ar.reads
 obtain ⟨n0, n1, n2⟩ := an f hf
 have hl2 : ns2.length <= 40000 := Nat.le_trans F.ar.le F.ar.most4
 have hl : ns.length <= 40000 := Nat.le_trans h.ar.le h.ar.most4
 have lb := h.ltb
 have wf := h.ar.wf
 have wf2 := F.ar.wf
 have hlo := wf2.lo f f2 hf
 have hhi := wf2.hi f f2 hf
 have vlo := wf2.vlo f f2 hf
 have vhi := wf2.vhi f f2 hf
 have vva := wf2.va f f2 hf
 have HF : Hq (Fit1 S v2 ns2 (nl ns2 f) k ∧ Fit1 S v2 ns2 (nh ns2 f) k) := ⟨hk.lo wf2 f2 hf, hk.hi wf2 f2 hf⟩
 clear hk
 have hp2 : 2 ^ (k + 1) = 2 * 2 ^ k := by rw [Nat.pow_succ]; omega
 have hp1 : 1 <= 2 ^ k := Nat.one_le_two_pow
 have t1 : decide ((f : Int) <= 1) = false := by simp; omega
 have hlook := (h.o3 c3 hc3).look Tryz.u47 (x := f) (by show f < _; omega)
 rw [hr] at hlook
 simp only [intE, Option.getD_none, Option.isSome_none] at hlook
 rw [hc3] at b4
 clear h an F
 generalize rowOf w a2 = g at *
 go_enter Tryz.func143, Tryz.ntmps143
 go_wp2_with fail
 refine (ih.out _ ns false N m3 (nl ns2 f) hA.bu F1 (by omega) HF.out.1 (fun _ => hmt) (by omega)).mono ?_
 rintro e w4 ⟨f0, ns1, full1, N1, m31, rfl, hp, X1, l1, k1, lt0, _, s1⟩
 have hA4 := hA.then hp
 have L4 := L.kp hp.kp
 have F4 := F1.kp hp.kp
 clear hp hA L hlook b0 b1 b2 b3 b4 bf a0 a1 ac2 a3 af n0 n1 n2 F1
 have wf1 := hA4.bu.ar.wf
 have X1l := X1.len
 obtain ⟨⟨q0, q1, q2⟩, _⟩ := L4.reads
 go_wp2_with fail
 refine (ih.out _ ns1 full1 N1 m31 (nh ns2 f) hA4.bu F4 (by omega) HF.out.2 (fun e => (s1 e).1) (by omega)).mono ?_
 rintro e w6 ⟨f1, ns3, full2, N2, m32, rfl, hp, X2, l2, k2, lt1, mo2, s2⟩
 have hA6 := hA4.then hp
 have L6 := L4.kp hp.kp
 clear hp L4 hA4 q0 q1 q2 F4
 have wf3 := hA6.bu.ar.wf
 have X2l := X2.len
 have X02 := X1.trans X2
 have sem2 : full2 = false -> MemoT ns3 ns2 m32 ∧ IsTk ns3 ns2 (nl ns2 f) f0 ∧ IsTk ns3 ns2 (nh ns2 f) f1 := fun e2 => by
  have e1 : full1 = false := by cases full1 <;> simp_all
  exact ⟨(s2 e2).1, (s1 e1).2.ext X2 wf1 wf3, (s2 e2).2⟩
 obtain ⟨⟨q0, q1, q2⟩, _⟩ := L6.reads
 go_wp2_with fail
 refine (numberOf_any hA6.bu (v := nv ns2 f) (l := f0) (u := f1) (by omega) (by omega) lt1 (fun e2 => ?_)).mono ?_
 ·obtain ⟨_, a1, a2⟩ := sem2 e2
  have c1 := a1.va
  have c2 := a2.va
  omega
 rintro e w7 ⟨r, ns4, full3, rfl, hp, X3, l3, lt3, mo3, s3⟩
 have hA7 := hA6.then hp
 clear hp L6 hA6 q0 q1 q2
 have wf4 := hA7.bu.ar.wf
 have len3 : ns4.length <= 40000 := Nat.le_trans hA7.bu.ar.le hA7.bu.ar.most4
 obtain ⟨w8, hrun, hM8, hg8⟩ := (hA7.bu.o3 c3 hc3).store Tryz.u47 (by unfold maxLen; omega) (x := f) (by show f < _; omega) (v := r) (by omega)
 have hA8 := hA7.memo3 hc3 hM8 hg8
 obtain ⟨d0, d1, d2, d3, d4, df⟩ := hA7.bu.reads
 rw [hc3] at d4
 simp only [intE] at hrun
 have hfin : TakePost C w ns ns2 false N m1 m2 f (2 ^ (k + 1) - 1) (.returned (.int .i64 (r : Int))) w8 := by
  refine ⟨r, ns4, full3, N2 + 1, _, rfl, hA8, X02.trans X3, by omega, by omega, lt3, (fun e => by cases e), fun e3 => ?_⟩
  have e2 : full2 = false := by cases full2 <;> simp_all
  obtain ⟨a00, a1, a2⟩ := sem2 e2
  have J : IsTk ns4 ns2 f r := isTk_join wf2 f2 hf (a1.ext X3 wf3 wf4) (a2.ext X3 wf3 wf4) (s3 e3)
  exact ⟨(a00.ext X3 wf3 wf4).upd J, J⟩
 clear hA7 hM8 hg8 hA8
 go_wp2_with fail
 go_ret
 exact hfin
theorem take_fit1 (S : Nat -> Bool) {c3 : Nat} (hc3 : C.c3 = some c3) (hv2 : v2 <= C.vars) : ∀ (k : Nat) (w : World) (ns : List Nd) (full : Bool) (N : Nat) (m3 : Nat -> Option Nat) (f : Nat), Bu C w ns full N m1 m2 m3 -> Fr C w base2 a2 M2 v2 most2 ns2 -> f < ns2.length -> Fit1 S v2 ns2 f k ->
  (full = false -> MemoT ns ns2 m3) -> N + 2 ^ k <= 1099511627776 -> Calls Tryz.prog 143 #[.pointer (some ⟨C.b, 0, none⟩), .pointer (some ⟨a2, 0, none⟩), .int .i64 (f : Int)] w (TakePost C w ns ns2 full N m1 m2 f (2 ^ k - 1)) := by
 intro k
 induction k with
 | zero =>
   intro w ns full N m3 f h F hf hk hm hN
   have small : f <= 1 := by
    have := hk.zero F.ar.wf hf
    omega
   cases full
   ·refine (take_small h small).mono ?_
    rintro e w' ⟨rfl, rfl⟩
    exact ⟨f, ns, false, N, m3, rfl, At.refl h, Ext.refl _, by omega, by omega, (by have := h.ar.wf.len; omega), id, fun _ => ⟨hm rfl, isTk_small h.ar.wf F.ar.wf hv2 small⟩⟩
   ·refine (take_full h f).mono ?_
    rintro e w' ⟨rfl, rfl⟩
    exact ⟨0, ns, true, N, m3, rfl, At.refl h, Ext.refl _, by omega, by omega, (by have := h.ar.wf.len; omega), id, fun e => by cases e⟩
 | succ k ih =>
   intro w ns full N m3 f h F hf hk hm hN
   cases full
   ·rcases Nat.lt_or_ge f 2 with h2 | h2
    ·refine (take_small h (by omega)).mono ?_
     rintro e w' ⟨rfl, rfl⟩
     exact ⟨f, ns, false, N, m3, rfl, At.refl h, Ext.refl _, by omega, by omega, (by have := h.ar.wf.len; omega), id, fun _ => ⟨hm rfl, isTk_small h.ar.wf F.ar.wf hv2 (by omega)⟩⟩
    ·cases hr : m3 f with
     | none => exact take_miss h F hv2 hc3 h2 hf hr hk (hm rfl) hN ⟨ih⟩
     | some r =>
       have hl2 : ns2.length <= 40000 := Nat.le_trans F.ar.le F.ar.most4
       refine (take_hit h hc3 h2 (by omega) hr).mono ?_
       rintro e w' ⟨rfl, rfl⟩
       have J := hm rfl _ _ hr
       exact ⟨r, ns, false, N, m3, rfl, At.refl h, Ext.refl _, by omega, by omega, J.lt, id, fun _ => ⟨hm rfl, J⟩⟩
   ·refine (take_full h f).mono ?_
    rintro e w' ⟨rfl, rfl⟩
    exact ⟨0, ns, true, N, m3, rfl, At.refl h, Ext.refl _, by omega, by omega, (by have := h.ar.wf.len; omega), id, fun e => by cases e⟩
end
theorem Ar.drewT {base a M vars most : Nat} {w : World} {ns : List Nd} (h : Ar base a M vars most w ns) : Ar base a M vars most w.drew ns := h.same rfl rfl rfl
theorem take_fit (S : Nat -> Bool) {base a M vars most base2 a2 M2 v2 most2 : Nat} {w : World} {ns ns2 : List Nd} (h : Ar base a M vars most w ns) (h2 : Ar base2 a2 M2 v2 most2 w ns2) (hv2 : v2 <= vars) (ap : ∀ i, i = a2 ∨ i = M2 ∨ i = rowOf w a2 -> i ≠ a ∧ i ≠ M ∧ i ≠ rowOf w a) {f k : Nat} (hf : f < ns2.length) (hfit : Fit1 S v2 ns2 f k) (hk16 : k <= 16) :
  Calls Tryz.prog 94 #[.pointer (some ⟨a, 0, none⟩), .pointer (some ⟨a2, 0, none⟩), .int .i64 (f : Int)] w (OpPost base a M vars most w ns (2 ^ k - 1) fun q => ev ns2 f q) := by
 have hmm := @run_makeMap Tryz.prog
 have la := h.lta
 have lM := h.ltM
 have hA := h.lowA
 have wf := h.wf
 have t1 : (decide ((0 : Int) <= (f : Int)) && decide ((f : Int) < (ns2.length : Int))) = true := by simp; omega
 have HF : Hid (∀ w', Ar base2 a2 M2 v2 most2 w' ns2 -> Calls Tryz.prog 82 #[.pointer (some ⟨a2, 0, none⟩), .int .i64 (f : Int)] w' fun e w'' => e = .returned (.bool true) ∧ w'' = w') := fun w' h' => by
  have := hasFunction_any h' (f : Int)
  rw [t1] at this
  exact this
 have t2 : decide ((vars : Int) < (v2 : Int)) = false := by simp; omega
 have hs : ((w.drew).alloc (.map #[] 0)).heap.size = w.heap.size + 1 := by simp
 have hb := bu_new (w := (w.drew).alloc (.map #[] 0)) (C := ⟨base, a, w.heap.size + 1, M, none, none, some w.heap.size, vars, most⟩) (m1 := fun _ => none) (m2 := fun _ => none) (m3 := fun _ => none) ((h.drewT).alloc _) (by simp) (by rw [hs]; show base <= _; omega)
  (fun _ e => by cases e) (fun _ e => by cases e) (fun i e => by cases e; exact mapIs_made intE w.drew) (fun _ e => by cases e) (fun _ e => by cases e) (fun i e => by cases e; exact ⟨by show base <= _; omega, by show w.heap.size ≠ M; omega, (fun e => by cases e), (fun e => by cases e)⟩)
 obtain ⟨_, _, _, rl2⟩ := h2.row
 have la2 := h2.lta
 have lM2 := h2.ltM
 have hrow : rowOf (((w.drew).alloc (.map #[] 0)).alloc (.cells #[.pointer (some ⟨a, 0, none⟩), .bool false, .map none, .map none, .map (some w.heap.size)] 221)) a = rowOf w a := by
  rw [rowOf_same (Below.heap_alloc _ _ _ (by simp; omega)), rowOf_same (Below.heap_alloc w.drew _ _ la)]
  rfl
 have hrow2 : rowOf (((w.drew).alloc (.map #[] 0)).alloc (.cells #[.pointer (some ⟨a, 0, none⟩), .bool false, .map none, .map none, .map (some w.heap.size)] 221)) a2 = rowOf w a2 := by
  rw [rowOf_same (Below.heap_alloc _ _ _ (by simp; omega)), rowOf_same (Below.heap_alloc w.drew _ _ la2)]
  rfl
 have out : ∀ i, (i = a2 ∨ i = M2 ∨ i = rowOf w a2) -> i < w.heap.size -> Out ⟨base, a, w.heap.size + 1, M, none, none, some w.heap.size, vars, most⟩ (((w.drew).alloc (.map #[] 0)).alloc (.cells #[.pointer (some ⟨a, 0, none⟩), .bool false, .map none, .map none, .map (some w.heap.size)] 221)) i := by
  intro i h1 h2
  obtain ⟨z1, z2, z3⟩ := ap i h1
  refine ⟨by simp; omega, ?_, ?_⟩
  ·rintro (e | e | e | e | e | e)
   ·exact z1 e
   ·have e' : i = w.heap.size + 1 := e; omega
   ·exact z2 e
   ·cases e
   ·cases e
   ·cases e; omega
  ·show i ≠ rowOf _ a
   rw [hrow]
   exact z3
 have hFr : Fr ⟨base, a, w.heap.size + 1, M, none, none, some w.heap.size, vars, most⟩ (((w.drew).alloc (.map #[] 0)).alloc (.cells #[.pointer (some ⟨a, 0, none⟩), .bool false, .map none, .map none, .map (some w.heap.size)] 221)) base2 a2 M2 v2 most2 ns2 :=
  ⟨((h2.drewT).alloc _).alloc _, out a2 (.inl rfl) la2, out M2 (.inr (.inl rfl)) lM2, by rw [hrow2]; exact out _ (.inr (.inr rfl)) rl2⟩
 have hpw := Nat.pow_le_pow_right (n := 2) (by omega) hk16
 have hch := take_fit1 S (C := ⟨base, a, w.heap.size + 1, M, none, none, some w.heap.size, vars, most⟩) (c3 := w.heap.size) rfl hv2 k _ ns false 0 _ f hb hFr hf hfit (fun _ _ _ e => by cases e) (by omega)
 have hch' := Hq.mk hch
 obtain ⟨cap, a0, _⟩ := h.reads
 obtain ⟨cap2, b0, _⟩ := h2.reads
 have a0' : w.drew.cell? ⟨a, 0, none⟩ = some (.int .i64 (vars : Int)) := a0
 have b0' : w.drew.cell? ⟨a2, 0, none⟩ = some (.int .i64 (v2 : Int)) := b0
 have h2d := h2.drewT
 clear hch hb hFr out hrow hrow2 hpw ap hfit
 go_enter Tryz.func94, Tryz.ntmps94
 go_wp2_with fail
 go_region_held3 (fun w' => w'.cell? ⟨a, 0, none⟩ = some (.int .i64 (vars : Int)) ∧ w'.cell? ⟨a2, 0, none⟩ = some (.int .i64 (v2 : Int))) (exact ⟨by assumption, by assumption⟩)
  (first | (go_at_call 82; refine (HF.out _ (by assumption)).mono ?_; rintro e wn ⟨rfl, rfl⟩))
 go_wp2_with fail
 refine hch'.out.mono ?_
 rintro e w2 ⟨r, ns', full', N', m3', rfl, hp, X, l1, _, lt, _, sm⟩
 have wf' := hp.bu.ar.wf
 have hK : Kp (ca base a M vars most) w w2 := hp.kp.outer rfl rfl rfl rfl (by simp; omega) (fun i hi => (Below.heap_alloc _ _ _ (by simp; omega)).trans (Below.heap_alloc _ _ _ hi)) (by
  rintro i (e | e | e | e | e | e)
  ·exact Or.inl e
  ·exact Or.inr (Or.inr (by rw [e]; show _ <= w.heap.size + 1; omega))
  ·exact Or.inr (Or.inl e)
  ·cases e
  ·cases e
  ·cases e; exact Or.inr (Or.inr (Nat.le_refl _))) la
 go_wp2_with fail
 cases full'
 ·refine (answer_any hp.bu r).mono ?_
  rintro e w3 ⟨rfl, rfl⟩
  have hfin : OpPost base a M vars most w ns (2 ^ k - 1) (fun q => ev ns2 f q) (.returned (.tuple #[.int .i64 (r : Int), .int .i64 0])) w3 :=
   ⟨ns', hp.bu.ar, hK, X, l1, Or.inl ⟨r, rfl, lt, fun q => (sm rfl).2.ev q⟩⟩
  clear hp hK
  go_wp2_with fail
  go_ret2
  exact hfin
 ·refine (answer_any hp.bu r).mono ?_
  rintro e w3 ⟨rfl, rfl⟩
  have hfin : OpPost base a M vars most w ns (2 ^ k - 1) (fun q => ev ns2 f q) (.returned (.tuple #[.int .i64 0, .int .i64 6])) w3 :=
   ⟨ns', hp.bu.ar, hK, X, l1, Or.inr ⟨rfl, hp.bu.full_len rfl⟩⟩
  clear hp hK
  go_wp2_with fail
  go_ret2
  exact hfin
theorem take_ok {base a M vars most base2 a2 M2 v2 most2 : Nat} {w : World} {ns ns2 : List Nd} (h : Ar base a M vars most w ns) (h2 : Ar base2 a2 M2 v2 most2 w ns2) (hv2 : v2 <= vars) (p1 : a < base2) (p2 : M < base2) (p3 : rowOf w a < base2) {f : Nat} (hf : f < ns2.length) :
  Calls Tryz.prog 94 #[.pointer (some ⟨a, 0, none⟩), .pointer (some ⟨a2, 0, none⟩), .int .i64 (f : Int)] w (OpPost base a M vars most w ns (2 ^ v2 - 1) fun q => ev ns2 f q) :=
 take_fit (fun _ => true) h h2 hv2 (fun i hi => by
  have h1 : base2 <= i := by
   rcases hi with rfl | rfl | rfl
   ·exact h2.lowA
   ·exact h2.lowM
   ·exact h2.row.choose_spec.2.1
  refine ⟨by omega, by omega, by omega⟩) hf (fit1_all (Nat.le_add_left _ _)) h2.vars16
end Go.Proofs.YtppbfikimalojaaGreat
namespace Go.Proofs.YtppbfikimalojaaGreat
open Go.RowKit Go.Shelf
attribute [local go_sem] Oper.semAt_some
abbrev IR := Nat × Rl
def encIR (x : IR) : Array Value := #[.int .i64 (x.1 : Int), rv x.2]
def came (xs : List Rl) (k : Nat) : List IR := (List.range k).map fun j => (xs.length - 1 - j, (xs[xs.length - 1 - j]?).getD (allR false))
theorem came_succ (xs : List Rl) (k : Nat) : came xs (k + 1) = came xs k ++ [(xs.length - 1 - k, (xs[xs.length - 1 - k]?).getD (allR false))] := by simp [came, List.range_succ]
theorem came_length (xs : List Rl) (k : Nat) : (came xs k).length = k := by simp [came]
def KpB (base Bs : Nat) (v : Value) (W W' : World) : Prop := Below base W W' ∧ (Boxed W Bs 53 v -> Boxed W' Bs 53 v)
theorem kpB_t {base Bs : Nat} {v : Value} {A B C : World} (h : KpB base Bs v A B) (k : KpB base Bs v B C) : KpB base Bs v A C := ⟨h.1.trans k.1, fun x => k.2 (h.2 x)⟩
theorem kpB_refl {base Bs : Nat} {v : Value} (A : World) : KpB base Bs v A A := ⟨Below.refl _ _, id⟩
theorem back1_in (F : Fence) (n : Nat) (hF : F.fn 227) (hro : F.round = none) (hn : 1 <= n) (l Bs base b o cap : Nat) (xs : List Rl) (hlen : xs.length <= 1099511627776) (hb : b < base) (J Jx : List IR -> World -> Prop)
  (hY : ∀ pre x W, J pre W -> pre.length < xs.length -> YieldAt F (n - 1) Tryz.prog l (encIR x) W fun e W' =>
    (e = .returned (.bool true) ∧ J (pre ++ [x]) W' ∧ KpB base Bs (.slice (some ⟨b, o, none⟩) xs.length cap) W W') ∨ (e = .returned (.bool false) ∧ Jx (pre ++ [x]) W'))
  (W : World) (hBs : Boxed W Bs 53 (.slice (some ⟨b, o, none⟩) xs.length cap)) (hr : RAt W b o xs) (h0 : J [] W) :
  CallsIn F n Tryz.prog 227 #[.func (.yield l) #[] #[], .pointer (some ⟨Bs, 0, none⟩)] W fun e W' => (∃ v, e = .returned v) ∧
   ((∃ ys, ys = came xs xs.length ∧ J ys W') ∨ (∃ pre, (∃ k, k <= xs.length ∧ pre = came xs k) ∧ Jx pre W')) := by
 have c0 := hBs.cell
 refine callsIn_of_wp Tryz.func227 rfl hF ?_ hro
 simp only [Tryz.ntmps227, List.size_toArray, List.length_cons, List.length_nil, Nat.reduceAdd, Nat.reduceSub, Array.replicate_succ, Array.replicate_zero, List.push_toArray, List.append_toArray, List.nil_append, List.cons_append]
 gi_wp2
 gi_loopw [3] (fun i wr => ∃ (m k : Nat) (I : Int), m + k = xs.length ∧ i = .int .i64 I ∧ I = (m : Int) - 1 ∧ J (came xs k) wr ∧ KpB base Bs (.slice (some ⟨b, o, none⟩) xs.length cap) W wr)
  (fun i _ => (intOf i + 1).toNat)
 case atStart => exact ⟨xs.length, 0, _, by omega, rfl, rfl, h0, kpB_refl _⟩
 case round =>
  obtain ⟨m, k, I, hmk, rfl, hI, hJs, hK⟩ := hrel
  have c1 := (hK.2 hBs).cell
  cases m with
  | zero =>
    obtain rfl : k = xs.length := by omega
    obtain rfl : I = -1 := by omega
    clear hI
    gi_wp2
    go_end0
    exact ⟨⟨_, rfl⟩, .inl ⟨_, rfl, hJs⟩⟩
  | succ j =>
    have hj : j < xs.length := by omega
    obtain ⟨r, hxj⟩ : ∃ r, xs[j]? = some r := ⟨_, List.getElem?_eq_getElem hj⟩
    obtain ⟨d0, d1, d2, d3, d4⟩ := (hr.below hK.1 hb).at hxj
    have hce : came xs (k + 1) = came xs k ++ [(j, r)] := by
     rw [came_succ, show xs.length - 1 - k = j by omega, hxj]
     rfl
    obtain ⟨fn, tmps, assign, body, hy, hR⟩ := hY _ (j, r) wr hJs (by rw [came_length]; omega)
    simp only [encIR] at hy
    obtain rfl : I = (j : Int) := by omega
    clear hI
    gi_wp2
    refine hR.mono ?_
    rintro e W3 (⟨rfl, hJ3, hk3⟩ | ⟨rfl, hJx3⟩)
    ·gi_wp2
     go_roundw
     case rel => exact ⟨j, k + 1, _, by omega, rfl, rfl, by rw [hce]; exact hJ3, kpB_t hK hk3⟩
     case measure => simp [intOf]
    ·gi_wp2
     refine bodyPost_ret (results_none rfl _ _ _) rfl ?_
     exact ⟨⟨_, rfl⟩, .inr ⟨_, ⟨k + 1, by omega, hce.symm⟩, hJx3⟩⟩
theorem back0_in (F : Fence) (n : Nat) (hF : F.fn 227) (hro : F.round = none) (l Bs : Nat) (A : Option Addr) (cap : Nat) (J : List IR -> World -> Prop) (W : World) (hBs : Boxed W Bs 53 (.slice A 0 cap)) (h0 : J [] W) :
  CallsIn F n Tryz.prog 227 #[.func (.yield l) #[] #[], .pointer (some ⟨Bs, 0, none⟩)] W fun e W' => (∃ v, e = .returned v) ∧ J [] W' := by
 have c0 := hBs.cell
 refine callsIn_of_wp Tryz.func227 rfl hF ?_ hro
 simp only [Tryz.ntmps227, List.size_toArray, List.length_cons, List.length_nil, Nat.reduceAdd, Nat.reduceSub, Array.replicate_succ, Array.replicate_zero, List.push_toArray, List.append_toArray, List.nil_append, List.cons_append]
 gi_wp2
 gi_loopw [3] (fun i wr => i = .int .i64 (-1) ∧ J [] wr) (fun _ _ => 0)
 case atStart => exact ⟨rfl, h0⟩
 case round =>
  obtain ⟨rfl, hJs⟩ := hrel
  gi_wp2
  go_end0
  exact ⟨⟨_, rfl⟩, hJs⟩
theorem back_in (F : Fence) (n : Nat) (hF : F.fn 221) (hro : F.round = none) (A : Option Addr) (len cap : Nat) (w : World) :
  CallsIn F n Tryz.prog 221 #[.slice A len cap] w fun e w' => e = .returned (.func (.func 227) #[] #[.pointer (some ⟨w.heap.size, 0, none⟩)]) ∧ w' = w.alloc (.cells #[.slice A len cap] 53) := by
 refine callsIn_of_wp Tryz.func221 rfl hF ?_ hro
 simp only [Tryz.ntmps221, List.size_toArray, List.length_cons, List.length_nil, Nat.reduceAdd, Nat.reduceSub, Array.replicate_succ, Array.replicate_zero, List.push_toArray, List.append_toArray, List.nil_append, List.cons_append]
 gi_wp2
 go_ret
 exact ⟨rfl, rfl⟩
theorem back_stops (F : Fence) (n : Nat) (hF : F.fn 227) (hro : F.round = none) (hn : 1 <= n) (Bs base : Nat) (v : Value) (xs : List Rl) (hlen : xs.length <= 1099511627776) (w : World) (hbase : base <= w.heap.size)
  (hB : Boxed w Bs 53 v) (hR : Rules base w v xs) :
  SeqStopsK F n Tryz.prog 227 #[.pointer (some ⟨Bs, 0, none⟩)] encIR (KpB base Bs v) (fun ys => ys = came xs xs.length)
   (fun pre => ∃ k, k <= xs.length ∧ pre = came xs k) xs.length w := fun l J Jx W hW _ _ hY h0 => by
 have hB' : Boxed W Bs 53 v := (hW.block Bs hB.lt).trans hB
 obtain ⟨A, cap, rfl, h1, h2, h3, h4⟩ := hR.below (hW.mono hbase)
 by_cases hx : xs = []
 ·subst hx
  exact (back0_in F n hF hro l Bs A cap J W hB' h0).mono fun e W' ⟨he, hj⟩ => ⟨he, .inl ⟨_, rfl, hj⟩⟩
 ·obtain ⟨b, o, rfl, hb, hr⟩ := h4 hx
  exact back1_in F n hF hro hn l Bs base b o cap xs hlen hb J Jx hY W hB' hr h0
end Go.Proofs.YtppbfikimalojaaGreat
namespace Go.Proofs.YtppbfikimalojaaGreat
open Go.RowKit Go.Maps
structure Hd (p : Prop) : Prop where
 out : p
theorem intBits_and (a b : Nat) (ha : a < 9223372036854775808) (hb : b < 9223372036854775808) : Go.bits .and .i64 (a : Int) (b : Int) = ((a &&& b : Nat) : Int) := by
 have e1 : BitVec.ofInt 64 (a : Int) = BitVec.ofNat 64 a := by simp
 have e2 : BitVec.ofInt 64 (b : Int) = BitVec.ofNat 64 b := by simp
 have hle : a &&& b <= a := Nat.and_le_left
 have hm : (BitVec.ofNat 64 a &&& BitVec.ofNat 64 b).toNat = a &&& b := by
  simp [BitVec.toNat_and, Nat.mod_eq_of_lt (show a < 18446744073709551616 by omega), Nat.mod_eq_of_lt (show b < 18446744073709551616 by omega)]
 show IntKind.i64.wrap ((BitVec.ofInt 64 (a : Int) &&& BitVec.ofInt 64 (b : Int)).toNat : Int) = _
 rw [e1, e2, hm, IntWalk.i64_in _ (by omega)]
section
variable {base a M vars most : Nat} {w : World} {ns : List Nd}
theorem Ar.kalloc' {base a M vars most : Nat} {w : World} {ns : List Nd} (h : Ar base a M vars most w ns) (o : Obj) : Kp (ca base a M vars most) w (w.alloc o) :=
 ⟨rfl, rfl, rfl, by simp, fun i hi _ _ => Below.heap_alloc w o i hi, Or.inl (rowOf_same (Below.heap_alloc w o _ h.lta)), fun _ _ => cellB (Below.heap_alloc w o _ h.lta)⟩
end
def sel : Nat -> Nat -> Nat -> Env -> Bool
 | 0, bits, _, _ => bits.testBit 0
 | k + 1, bits, first, x => if x first then sel k (bits >>> 2 ^ k) (first + 1) x else sel k (bits &&& (2 ^ 2 ^ k - 1)) (first + 1) x
def val : Nat -> Nat -> Env -> Nat
 | 0, _, _ => 0
 | k + 1, first, x => (if x first then 2 ^ k else 0) + val k (first + 1) x
theorem val_lt (k first : Nat) (x : Env) : val k first x < 2 ^ k := by
 induction k generalizing first with
 | zero => simp [val]
 | succ k ih =>
   have := ih (first + 1)
   rw [val, Nat.pow_succ]
   split <;> omega
theorem sel_val (k bits first : Nat) (x : Env) : sel k bits first x = bits.testBit (val k first x) := by
 induction k generalizing bits first with
 | zero => rfl
 | succ k ih =>
   have h := val_lt k (first + 1) x
   rw [sel, val]
   split
   ·rw [ih, Nat.testBit_shiftRight]
   ·rw [ih, Nat.testBit_and, Nat.testBit_two_pow_sub_one, Nat.zero_add]
    simp [h]
section
variable {base a M vars most : Nat} {w w' : World} {ns : List Nd}
theorem Ar.below (h : Ar base a M vars most w ns) (hb : Below w.heap.size w w') : Ar base a M vars most w' ns := by
 obtain ⟨_, _, _, rl⟩ := h.row
 exact h.same (hb.block _ h.lta) (hb.block _ h.ltM) (hb.block _ rl)
theorem Ar.kbelow (h : Ar base a M vars most w ns) (hb : Below w.heap.size w w') : Kp (ca base a M vars most) w w' :=
 ⟨hb.os, hb.tape, hb.output, hb.size, fun i hi _ _ => hb.block i hi, Or.inl (rowOf_same (hb.block _ h.lta)), fun _ _ => cellB (hb.block _ h.lta)⟩
theorem Ar.loc (h : Ar base a M vars most w ns) (cs : Array Value) (t : TypeId) : Loc (ca base a M vars most) (w.alloc (.cells cs t)) w.heap.size cs t := by
 obtain ⟨_, _, _, rl⟩ := h.row
 have la := h.lta
 have lM := h.ltM
 refine ⟨⟨by simp, ?_, ?_⟩, Go.heap_alloc_new _ _⟩
 ·rintro (e | e | e | e | e | e)
  ·have : w.heap.size = a := e
   omega
  ·have : w.heap.size = a := e
   omega
  ·have : w.heap.size = M := e
   omega
  ·cases e
  ·cases e
  ·cases e
 ·have e : rowOf (w.alloc (.cells cs t)) a = rowOf w a := rowOf_same (Below.heap_alloc w _ _ la)
  show w.heap.size ≠ rowOf (w.alloc (.cells cs t)) a
  rw [e]
  omega
theorem Loc.two {C : Cfg} {w : World} {i : Nat} {x y : Value} {t : TypeId} (h : Loc C w i #[x, y] t) : w.cell? ⟨i, 0, none⟩ = some x ∧ w.cell? ⟨i, 1, none⟩ = some y :=
 ⟨by rw [cell_of_row w i 0 _ _ _ h.blk]; rfl, by rw [cell_of_row w i 1 _ _ _ h.blk]; rfl⟩
theorem Loc.below {w w' : World} {i : Nat} {cs : Array Value} {t : TypeId} (h : Loc (ca base a M vars most) w i cs t) (hA : Ar base a M vars most w ns) (hb : Below w.heap.size w w') : Loc (ca base a M vars most) w' i cs t := h.kp (hA.kbelow hb)
theorem MkPost.pair {g i : Nat} {φ : Env -> Bool} {e : Ending} (h : MkPost base a M vars most w ns g i φ e w') :
  ∃ (ns' : List Nd) (v er : Int), e = .returned (.tuple #[.int .i64 v, .int .i64 er]) ∧ Ar base a M vars most w' ns' ∧ Kp (ca base a M vars most) w w' ∧ Ext ns ns' ∧ ns'.length <= ns.length + g ∧
    Go.RowKit.Hid ((er = 0 ∧ ∃ f : Nat, v = (f : Int) ∧ f < ns'.length ∧ i <= nv ns' f ∧ ∀ x, ev ns' f x = φ x) ∨ (er = 6 ∧ v = 0 ∧ ns'.length = most)) := by
 obtain ⟨ns', r1, r2, r3, r4, ⟨f, e1, e2⟩ | ⟨e1, e2⟩⟩ := h
 ·exact ⟨ns', f, 0, e1, r1, r2, r3, r4, Or.inl ⟨rfl, f, rfl, e2⟩⟩
 ·exact ⟨ns', 0, 6, e1, r1, r2, r3, r4, Or.inr ⟨rfl, rfl, e2⟩⟩
theorem Ar.drew' (h : Ar base a M vars most w ns) : Ar base a M vars most w.drew ns := h.same rfl rfl rfl
theorem build_1 (h : Ar base a M vars most w ns) {bits first rest : Nat} (hbits : bits < 2) (hr : rest < ns.length) (hf : first <= nv ns rest) :
  Calls Tryz.prog 127 #[st (bits : Int) 1, .pointer (some ⟨a, 0, none⟩), .int .i64 (first : Int), .int .i64 (rest : Int)] w (MkPost base a M vars most w ns 0 first fun x => sel 0 bits first x && ev ns rest x) := by
 have l2 := h.wf.len
 have e0 : nv ns 0 = vars := by rw [nv, h.wf.n0]
 have hle := va_le h.wf hr
 have L0 := h.loc #[.int .i64 (bits : Int), .int .i64 1] 201
 have A0 := h.alloc (.cells #[.int .i64 (bits : Int), .int .i64 1] 201)
 have K0 := Ar.kalloc' h (.cells #[.int .i64 (bits : Int), .int .i64 1] 201)
 obtain ⟨c0, c1⟩ := L0.two
 have H0 : Go.RowKit.Hid (∀ w, Calls Tryz.prog 171 #[st (bits : Int) 1, .int .i64 0] w fun e w' => e = .returned (.bool (bits.testBit 0)) ∧ Below w.heap.size w w') := fun w => by
  have := has_any bits 0 1 w (by omega)
  rw [show hasB bits 0 = bits.testBit 0 by simp [hasB]] at this
  exact this
 cases ht : bits.testBit 0
 ·rw [ht] at H0
  go_enter Tryz.func127, Tryz.ntmps127
  go_wp2_with fail
  refine (H0.out _).mono ?_
  rintro e w1 ⟨rfl, hb⟩
  have fin : MkPost base a M vars most w ns 0 first (fun x => sel 0 bits first x && ev ns rest x) (.returned (.tuple #[.int .i64 0, .int .i64 0])) w1 :=
   ⟨ns, A0.below hb, K0.trans (A0.kbelow hb), Ext.refl _, by omega, Or.inl ⟨0, rfl, by omega, by omega, fun x => by rw [ev0]; show false = (bits.testBit 0 && _); rw [ht]; rfl⟩⟩
  clear A0 K0 L0 hb
  go_wp2_with fail
  go_ret2
  exact fin
 ·rw [ht] at H0
  go_enter Tryz.func127, Tryz.ntmps127
  go_wp2_with fail
  refine (H0.out _).mono ?_
  rintro e w1 ⟨rfl, hb⟩
  have fin : MkPost base a M vars most w ns 0 first (fun x => sel 0 bits first x && ev ns rest x) (.returned (.tuple #[.int .i64 (rest : Int), .int .i64 0])) w1 :=
   ⟨ns, A0.below hb, K0.trans (A0.kbelow hb), Ext.refl _, by omega, Or.inl ⟨rest, rfl, hr, hf, fun x => by show _ = (bits.testBit 0 && _); rw [ht]; rfl⟩⟩
  clear A0 K0 L0 hb
  go_wp2_with fail
  go_ret2
  exact fin
theorem low_2 (bits : Nat) (h : bits < 4) : Go.bits .and .i64 (bits : Int) 1 = ((bits &&& 1 : Nat) : Int) := intBits_and bits 1 (by omega) (by decide)
theorem high_2 (bits : Nat) : (bits : Int) / (2 : Int) = ((bits >>> 1 : Nat) : Int) := by rw [Nat.shiftRight_eq_div_pow]; simp
theorem build_2 (h : Ar base a M vars most w ns) {bits first rest : Nat} (hbits : bits < 4) (hv : first + 1 <= vars) (hr : rest < ns.length) (hf : first + 1 <= nv ns rest) :
  Calls Tryz.prog 127 #[st (bits : Int) 2, .pointer (some ⟨a, 0, none⟩), .int .i64 (first : Int), .int .i64 (rest : Int)] w (MkPost base a M vars most w ns 1 first fun x => sel 1 bits first x && ev ns rest x) := by
 have wf := h.wf
 have v16 := h.vars16
 have eL := low_2 bits hbits
 have eH := high_2 bits
 have hlo : bits &&& 1 < 2 := Nat.lt_of_le_of_lt Nat.and_le_right (by decide)
 have hhi : bits >>> 1 < 2 := by rw [Nat.shiftRight_eq_div_pow]; omega
 have hsel : Go.RowKit.Hid (∀ x, sel 1 bits first x = if x first then sel 0 (bits >>> 1) (first + 1) x else sel 0 (bits &&& 1) (first + 1) x) := fun x => rfl
 generalize bits &&& 1 = lo at *
 generalize bits >>> 1 = hi at *
 have L0 := h.loc #[.int .i64 (bits : Int), .int .i64 2] 201
 have A0 := h.alloc (.cells #[.int .i64 (bits : Int), .int .i64 2] 201)
 have K0 := Ar.kalloc' h (.cells #[.int .i64 (bits : Int), .int .i64 2] 201)
 obtain ⟨c0, c1⟩ := L0.two
 have hcast : ((first + 1 : Nat) : Int) = (first : Int) + 1 := by omega
 have IL : Go.RowKit.Hid (∀ (w' : World) (ns' : List Nd), Ar base a M vars most w' ns' -> rest < ns'.length -> first + 1 + 0 <= nv ns' rest -> Calls Tryz.prog 127 #[st (lo : Int) 1, .pointer (some ⟨a, 0, none⟩), .int .i64 ((first : Int) + 1), .int .i64 (rest : Int)] w' (MkPost base a M vars most w' ns' 0 (first + 1) fun x => sel 0 lo (first + 1) x && ev ns' rest x)) := fun w' ns' hA hr hn => by
  have := build_1 hA (first := first + 1) hlo hr (by omega)
  rw [hcast] at this
  exact this
 have IH : Go.RowKit.Hid (∀ (w' : World) (ns' : List Nd), Ar base a M vars most w' ns' -> rest < ns'.length -> first + 1 + 0 <= nv ns' rest -> Calls Tryz.prog 127 #[st (hi : Int) 1, .pointer (some ⟨a, 0, none⟩), .int .i64 ((first : Int) + 1), .int .i64 (rest : Int)] w' (MkPost base a M vars most w' ns' 0 (first + 1) fun x => sel 0 hi (first + 1) x && ev ns' rest x)) := fun w' ns' hA hr hn => by
  have := build_1 hA (first := first + 1) hhi hr (by omega)
  rw [hcast] at this
  exact this
 clear hcast
 have hwm : Go.RowKit.Hid (IntKind.i64.wrap (IntKind.i64.wrap 2 - 1) = 1) := by
  show _ = _
  rw [IntWalk.i64_in 2 (by omega), IntWalk.i64_in _ (by omega)]
  rfl
 have hwr : IntKind.i64.wrap ((first : Int) + 1) = (first : Int) + 1 := IntWalk.i64_in _ (by omega)
 have A0d := A0.drew'
 have L0d := L0.drew
 have K0d := K0.drew
 go_enter Tryz.func127, Tryz.ntmps127
 go_wp2_with fail
 go_region_held3 (fun w' => w'.cell? ⟨w.heap.size, 0, none⟩ = some (.int .i64 (bits : Int)) ∧ w'.cell? ⟨w.heap.size, 1, none⟩ = some (.int .i64 2))
  (exact Loc.two (by assumption))
  (first | (go_at_call 127; rw [hwm.out, eL]; refine (IL.out _ ns (by assumption) hr (by omega)).mono ?_; rintro e w2 hp2; obtain ⟨ns1, v1, er1, rfl, A1, K1, X1, l1, d1⟩ := hp2.pair; have L1 := L0d.kp K1; clear hp2))
 have wf1 := A1.wf
 have KK1 := K0d.trans K1
 obtain ⟨q0, q1⟩ := L1.two
 have hr1 : rest < ns1.length := Nat.lt_of_lt_of_le hr X1.len
 have hn1 : first + 1 + 0 <= nv ns1 rest := by rw [X1.va hr]; omega
 clear A0 K0 L0 c0 c1 A0d K0d L0d K1
 rcases d1.out with ⟨rfl, f1, rfl, lt1, va1, ev1'⟩ | ⟨rfl, rfl, full1⟩
 ·have E1 : Go.RowKit.Hid (∀ x, ev ns1 f1 x = (sel 0 lo (first + 1) x && ev ns rest x)) := ev1'
  clear ev1' d1
  go_wp2_with fail
  refine (IH.out _ ns1 A1 hr1 hn1).mono ?_
  rintro e w3 hp3
  obtain ⟨ns2, v2, er2, rfl, A2, K2, X2, l2, d2⟩ := hp3.pair
  clear hp3
  have wf2 := A2.wf
  have KK2 := KK1.trans K2
  rcases d2.out with ⟨rfl, f2, rfl, lt2, va2, ev2'⟩ | ⟨rfl, rfl, full2⟩
  ·have E2 : Go.RowKit.Hid (∀ x, ev ns2 f2 x = (sel 0 hi (first + 1) x && ev ns1 rest x)) := ev2'
   have lt1' : f1 < ns2.length := Nat.lt_of_lt_of_le lt1 X2.len
   have va1' : first < nv ns2 f1 := by rw [X2.va lt1]; omega
   have va2' : first < nv ns2 f2 := by omega
   clear ev2' d2 q0 q1 L1
   go_wp2_with fail
   refine (node_ok A2 (i := first) (lo := f1) (up := f2) (by omega) lt1' lt2 va1' va2').mono ?_
   rintro e w4 hp4
   have hp5 : MkPost base a M vars most w ns 1 first (fun x => sel 1 bits first x && ev ns rest x) e w4 := by
    obtain ⟨ns3, r1, r2, r3, r4, r5⟩ := hp4
    refine ⟨ns3, r1, KK2.trans r2, (X1.trans X2).trans r3, by omega, ?_⟩
    rcases r5 with ⟨f, e1, e2, e3, e4⟩ | r5
    ·refine Or.inl ⟨f, e1, e2, e3, fun x => ?_⟩
     rw [e4 x]
     show (if x first = true then ev ns2 f2 x else ev ns2 f1 x) = (sel 1 bits first x && ev ns rest x)
     rw [hsel.out x, E2.out x, X2.ev wf1 wf2 _ lt1, E1.out x, X1.ev wf wf1 _ hr]
     cases x first <;> rfl
    ·exact Or.inr r5
   clear hp4
   have hp6 := hp5
   obtain ⟨ns3, _, _, _, _, ⟨f', rfl, _⟩ | ⟨rfl, _⟩⟩ := hp5
   ·go_wp2_with fail
    go_ret2
    exact hp6
   ·go_wp2_with fail
    go_ret2
    exact hp6
  ·have fin : MkPost base a M vars most w ns 1 first (fun x => sel 1 bits first x && ev ns rest x) (.returned (.tuple #[.int .i64 0, .int .i64 6])) w3 :=
    ⟨ns2, A2, KK2, X1.trans X2, by omega, Or.inr ⟨rfl, full2⟩⟩
   clear d2 A2 K2 KK2
   go_wp2_with fail
   go_ret2
   exact fin
 ·have fin : MkPost base a M vars most w ns 1 first (fun x => sel 1 bits first x && ev ns rest x) (.returned (.tuple #[.int .i64 0, .int .i64 6])) w2 :=
   ⟨ns1, A1, KK1, X1, by omega, Or.inr ⟨rfl, full1⟩⟩
  clear d1 A1 KK1
  go_wp2_with fail
  go_ret2
  exact fin
theorem low_4 (bits : Nat) (h : bits < 16) : Go.bits .and .i64 (bits : Int) 3 = ((bits &&& 3 : Nat) : Int) := intBits_and bits 3 (by omega) (by decide)
theorem high_4 (bits : Nat) : (bits : Int) / (4 : Int) = ((bits >>> 2 : Nat) : Int) := by rw [Nat.shiftRight_eq_div_pow]; simp
theorem build_4 (h : Ar base a M vars most w ns) {bits first rest : Nat} (hbits : bits < 16) (hv : first + 2 <= vars) (hr : rest < ns.length) (hf : first + 2 <= nv ns rest) :
  Calls Tryz.prog 127 #[st (bits : Int) 4, .pointer (some ⟨a, 0, none⟩), .int .i64 (first : Int), .int .i64 (rest : Int)] w (MkPost base a M vars most w ns 3 first fun x => sel 2 bits first x && ev ns rest x) := by
 have wf := h.wf
 have v16 := h.vars16
 have eL := low_4 bits hbits
 have eH := high_4 bits
 have hlo : bits &&& 3 < 4 := Nat.lt_of_le_of_lt Nat.and_le_right (by decide)
 have hhi : bits >>> 2 < 4 := by rw [Nat.shiftRight_eq_div_pow]; omega
 have hsel : Go.RowKit.Hid (∀ x, sel 2 bits first x = if x first then sel 1 (bits >>> 2) (first + 1) x else sel 1 (bits &&& 3) (first + 1) x) := fun x => rfl
 generalize bits &&& 3 = lo at *
 generalize bits >>> 2 = hi at *
 have L0 := h.loc #[.int .i64 (bits : Int), .int .i64 4] 201
 have A0 := h.alloc (.cells #[.int .i64 (bits : Int), .int .i64 4] 201)
 have K0 := Ar.kalloc' h (.cells #[.int .i64 (bits : Int), .int .i64 4] 201)
 obtain ⟨c0, c1⟩ := L0.two
 have hcast : ((first + 1 : Nat) : Int) = (first : Int) + 1 := by omega
 have IL : Go.RowKit.Hid (∀ (w' : World) (ns' : List Nd), Ar base a M vars most w' ns' -> rest < ns'.length -> first + 1 + 1 <= nv ns' rest -> Calls Tryz.prog 127 #[st (lo : Int) 2, .pointer (some ⟨a, 0, none⟩), .int .i64 ((first : Int) + 1), .int .i64 (rest : Int)] w' (MkPost base a M vars most w' ns' 1 (first + 1) fun x => sel 1 lo (first + 1) x && ev ns' rest x)) := fun w' ns' hA hr hn => by
  have := build_2 hA (first := first + 1) hlo (by omega) hr (by omega)
  rw [hcast] at this
  exact this
 have IH : Go.RowKit.Hid (∀ (w' : World) (ns' : List Nd), Ar base a M vars most w' ns' -> rest < ns'.length -> first + 1 + 1 <= nv ns' rest -> Calls Tryz.prog 127 #[st (hi : Int) 2, .pointer (some ⟨a, 0, none⟩), .int .i64 ((first : Int) + 1), .int .i64 (rest : Int)] w' (MkPost base a M vars most w' ns' 1 (first + 1) fun x => sel 1 hi (first + 1) x && ev ns' rest x)) := fun w' ns' hA hr hn => by
  have := build_2 hA (first := first + 1) hhi (by omega) hr (by omega)
  rw [hcast] at this
  exact this
 clear hcast
 have hwm : Go.RowKit.Hid (IntKind.i64.wrap (IntKind.i64.wrap 4 - 1) = 3) := by
  show _ = _
  rw [IntWalk.i64_in 4 (by omega), IntWalk.i64_in _ (by omega)]
  rfl
 have hwr : IntKind.i64.wrap ((first : Int) + 1) = (first : Int) + 1 := IntWalk.i64_in _ (by omega)
 have A0d := A0.drew'
 have L0d := L0.drew
 have K0d := K0.drew
 go_enter Tryz.func127, Tryz.ntmps127
 go_wp2_with fail
 go_region_held3 (fun w' => w'.cell? ⟨w.heap.size, 0, none⟩ = some (.int .i64 (bits : Int)) ∧ w'.cell? ⟨w.heap.size, 1, none⟩ = some (.int .i64 4))
  (exact Loc.two (by assumption))
  (first | (go_at_call 127; rw [hwm.out, eL]; refine (IL.out _ ns (by assumption) hr (by omega)).mono ?_; rintro e w2 hp2; obtain ⟨ns1, v1, er1, rfl, A1, K1, X1, l1, d1⟩ := hp2.pair; have L1 := L0d.kp K1; clear hp2))
 have wf1 := A1.wf
 have KK1 := K0d.trans K1
 obtain ⟨q0, q1⟩ := L1.two
 have hr1 : rest < ns1.length := Nat.lt_of_lt_of_le hr X1.len
 have hn1 : first + 1 + 1 <= nv ns1 rest := by rw [X1.va hr]; omega
 clear A0 K0 L0 c0 c1 A0d K0d L0d K1
 rcases d1.out with ⟨rfl, f1, rfl, lt1, va1, ev1'⟩ | ⟨rfl, rfl, full1⟩
 ·have E1 : Go.RowKit.Hid (∀ x, ev ns1 f1 x = (sel 1 lo (first + 1) x && ev ns rest x)) := ev1'
  clear ev1' d1
  go_wp2_with fail
  refine (IH.out _ ns1 A1 hr1 hn1).mono ?_
  rintro e w3 hp3
  obtain ⟨ns2, v2, er2, rfl, A2, K2, X2, l2, d2⟩ := hp3.pair
  clear hp3
  have wf2 := A2.wf
  have KK2 := KK1.trans K2
  rcases d2.out with ⟨rfl, f2, rfl, lt2, va2, ev2'⟩ | ⟨rfl, rfl, full2⟩
  ·have E2 : Go.RowKit.Hid (∀ x, ev ns2 f2 x = (sel 1 hi (first + 1) x && ev ns1 rest x)) := ev2'
   have lt1' : f1 < ns2.length := Nat.lt_of_lt_of_le lt1 X2.len
   have va1' : first < nv ns2 f1 := by rw [X2.va lt1]; omega
   have va2' : first < nv ns2 f2 := by omega
   clear ev2' d2 q0 q1 L1
   go_wp2_with fail
   refine (node_ok A2 (i := first) (lo := f1) (up := f2) (by omega) lt1' lt2 va1' va2').mono ?_
   rintro e w4 hp4
   have hp5 : MkPost base a M vars most w ns 3 first (fun x => sel 2 bits first x && ev ns rest x) e w4 := by
    obtain ⟨ns3, r1, r2, r3, r4, r5⟩ := hp4
    refine ⟨ns3, r1, KK2.trans r2, (X1.trans X2).trans r3, by omega, ?_⟩
    rcases r5 with ⟨f, e1, e2, e3, e4⟩ | r5
    ·refine Or.inl ⟨f, e1, e2, e3, fun x => ?_⟩
     rw [e4 x]
     show (if x first = true then ev ns2 f2 x else ev ns2 f1 x) = (sel 2 bits first x && ev ns rest x)
     rw [hsel.out x, E2.out x, X2.ev wf1 wf2 _ lt1, E1.out x, X1.ev wf wf1 _ hr]
     cases x first <;> rfl
    ·exact Or.inr r5
   clear hp4
   have hp6 := hp5
   obtain ⟨ns3, _, _, _, _, ⟨f', rfl, _⟩ | ⟨rfl, _⟩⟩ := hp5
   ·go_wp2_with fail
    go_ret2
    exact hp6
   ·go_wp2_with fail
    go_ret2
    exact hp6
  ·have fin : MkPost base a M vars most w ns 3 first (fun x => sel 2 bits first x && ev ns rest x) (.returned (.tuple #[.int .i64 0, .int .i64 6])) w3 :=
    ⟨ns2, A2, KK2, X1.trans X2, by omega, Or.inr ⟨rfl, full2⟩⟩
   clear d2 A2 K2 KK2
   go_wp2_with fail
   go_ret2
   exact fin
 ·have fin : MkPost base a M vars most w ns 3 first (fun x => sel 2 bits first x && ev ns rest x) (.returned (.tuple #[.int .i64 0, .int .i64 6])) w2 :=
   ⟨ns1, A1, KK1, X1, by omega, Or.inr ⟨rfl, full1⟩⟩
  clear d1 A1 KK1
  go_wp2_with fail
  go_ret2
  exact fin
theorem low_8 (bits : Nat) (h : bits < 256) : Go.bits .and .i64 (bits : Int) 15 = ((bits &&& 15 : Nat) : Int) := intBits_and bits 15 (by omega) (by decide)
theorem high_8 (bits : Nat) : (bits : Int) / (16 : Int) = ((bits >>> 4 : Nat) : Int) := by rw [Nat.shiftRight_eq_div_pow]; simp
theorem build_8 (h : Ar base a M vars most w ns) {bits first rest : Nat} (hbits : bits < 256) (hv : first + 3 <= vars) (hr : rest < ns.length) (hf : first + 3 <= nv ns rest) :
  Calls Tryz.prog 127 #[st (bits : Int) 8, .pointer (some ⟨a, 0, none⟩), .int .i64 (first : Int), .int .i64 (rest : Int)] w (MkPost base a M vars most w ns 7 first fun x => sel 3 bits first x && ev ns rest x) := by
 have wf := h.wf
 have v16 := h.vars16
 have eL := low_8 bits hbits
 have eH := high_8 bits
 have hlo : bits &&& 15 < 16 := Nat.lt_of_le_of_lt Nat.and_le_right (by decide)
 have hhi : bits >>> 4 < 16 := by rw [Nat.shiftRight_eq_div_pow]; omega
 have hsel : Go.RowKit.Hid (∀ x, sel 3 bits first x = if x first then sel 2 (bits >>> 4) (first + 1) x else sel 2 (bits &&& 15) (first + 1) x) := fun x => rfl
 generalize bits &&& 15 = lo at *
 generalize bits >>> 4 = hi at *
 have L0 := h.loc #[.int .i64 (bits : Int), .int .i64 8] 201
 have A0 := h.alloc (.cells #[.int .i64 (bits : Int), .int .i64 8] 201)
 have K0 := Ar.kalloc' h (.cells #[.int .i64 (bits : Int), .int .i64 8] 201)
 obtain ⟨c0, c1⟩ := L0.two
 have hcast : ((first + 1 : Nat) : Int) = (first : Int) + 1 := by omega
 have IL : Go.RowKit.Hid (∀ (w' : World) (ns' : List Nd), Ar base a M vars most w' ns' -> rest < ns'.length -> first + 1 + 2 <= nv ns' rest -> Calls Tryz.prog 127 #[st (lo : Int) 4, .pointer (some ⟨a, 0, none⟩), .int .i64 ((first : Int) + 1), .int .i64 (rest : Int)] w' (MkPost base a M vars most w' ns' 3 (first + 1) fun x => sel 2 lo (first + 1) x && ev ns' rest x)) := fun w' ns' hA hr hn => by
  have := build_4 hA (first := first + 1) hlo (by omega) hr (by omega)
  rw [hcast] at this
  exact this
 have IH : Go.RowKit.Hid (∀ (w' : World) (ns' : List Nd), Ar base a M vars most w' ns' -> rest < ns'.length -> first + 1 + 2 <= nv ns' rest -> Calls Tryz.prog 127 #[st (hi : Int) 4, .pointer (some ⟨a, 0, none⟩), .int .i64 ((first : Int) + 1), .int .i64 (rest : Int)] w' (MkPost base a M vars most w' ns' 3 (first + 1) fun x => sel 2 hi (first + 1) x && ev ns' rest x)) := fun w' ns' hA hr hn => by
  have := build_4 hA (first := first + 1) hhi (by omega) hr (by omega)
  rw [hcast] at this
  exact this
 clear hcast
 have hwm : Go.RowKit.Hid (IntKind.i64.wrap (IntKind.i64.wrap 16 - 1) = 15) := by
  show _ = _
  rw [IntWalk.i64_in 16 (by omega), IntWalk.i64_in _ (by omega)]
  rfl
 have hwr : IntKind.i64.wrap ((first : Int) + 1) = (first : Int) + 1 := IntWalk.i64_in _ (by omega)
 have A0d := A0.drew'
 have L0d := L0.drew
 have K0d := K0.drew
 go_enter Tryz.func127, Tryz.ntmps127
 go_wp2_with fail
 go_region_held3 (fun w' => w'.cell? ⟨w.heap.size, 0, none⟩ = some (.int .i64 (bits : Int)) ∧ w'.cell? ⟨w.heap.size, 1, none⟩ = some (.int .i64 8))
  (exact Loc.two (by assumption))
  (first | (go_at_call 127; rw [hwm.out, eL]; refine (IL.out _ ns (by assumption) hr (by omega)).mono ?_; rintro e w2 hp2; obtain ⟨ns1, v1, er1, rfl, A1, K1, X1, l1, d1⟩ := hp2.pair; have L1 := L0d.kp K1; clear hp2))
 have wf1 := A1.wf
 have KK1 := K0d.trans K1
 obtain ⟨q0, q1⟩ := L1.two
 have hr1 : rest < ns1.length := Nat.lt_of_lt_of_le hr X1.len
 have hn1 : first + 1 + 2 <= nv ns1 rest := by rw [X1.va hr]; omega
 clear A0 K0 L0 c0 c1 A0d K0d L0d K1
 rcases d1.out with ⟨rfl, f1, rfl, lt1, va1, ev1'⟩ | ⟨rfl, rfl, full1⟩
 ·have E1 : Go.RowKit.Hid (∀ x, ev ns1 f1 x = (sel 2 lo (first + 1) x && ev ns rest x)) := ev1'
  clear ev1' d1
  go_wp2_with fail
  refine (IH.out _ ns1 A1 hr1 hn1).mono ?_
  rintro e w3 hp3
  obtain ⟨ns2, v2, er2, rfl, A2, K2, X2, l2, d2⟩ := hp3.pair
  clear hp3
  have wf2 := A2.wf
  have KK2 := KK1.trans K2
  rcases d2.out with ⟨rfl, f2, rfl, lt2, va2, ev2'⟩ | ⟨rfl, rfl, full2⟩
  ·have E2 : Go.RowKit.Hid (∀ x, ev ns2 f2 x = (sel 2 hi (first + 1) x && ev ns1 rest x)) := ev2'
   have lt1' : f1 < ns2.length := Nat.lt_of_lt_of_le lt1 X2.len
   have va1' : first < nv ns2 f1 := by rw [X2.va lt1]; omega
   have va2' : first < nv ns2 f2 := by omega
   clear ev2' d2 q0 q1 L1
   go_wp2_with fail
   refine (node_ok A2 (i := first) (lo := f1) (up := f2) (by omega) lt1' lt2 va1' va2').mono ?_
   rintro e w4 hp4
   have hp5 : MkPost base a M vars most w ns 7 first (fun x => sel 3 bits first x && ev ns rest x) e w4 := by
    obtain ⟨ns3, r1, r2, r3, r4, r5⟩ := hp4
    refine ⟨ns3, r1, KK2.trans r2, (X1.trans X2).trans r3, by omega, ?_⟩
    rcases r5 with ⟨f, e1, e2, e3, e4⟩ | r5
    ·refine Or.inl ⟨f, e1, e2, e3, fun x => ?_⟩
     rw [e4 x]
     show (if x first = true then ev ns2 f2 x else ev ns2 f1 x) = (sel 3 bits first x && ev ns rest x)
     rw [hsel.out x, E2.out x, X2.ev wf1 wf2 _ lt1, E1.out x, X1.ev wf wf1 _ hr]
     cases x first <;> rfl
    ·exact Or.inr r5
   clear hp4
   have hp6 := hp5
   obtain ⟨ns3, _, _, _, _, ⟨f', rfl, _⟩ | ⟨rfl, _⟩⟩ := hp5
   ·go_wp2_with fail
    go_ret2
    exact hp6
   ·go_wp2_with fail
    go_ret2
    exact hp6
  ·have fin : MkPost base a M vars most w ns 7 first (fun x => sel 3 bits first x && ev ns rest x) (.returned (.tuple #[.int .i64 0, .int .i64 6])) w3 :=
    ⟨ns2, A2, KK2, X1.trans X2, by omega, Or.inr ⟨rfl, full2⟩⟩
   clear d2 A2 K2 KK2
   go_wp2_with fail
   go_ret2
   exact fin
 ·have fin : MkPost base a M vars most w ns 7 first (fun x => sel 3 bits first x && ev ns rest x) (.returned (.tuple #[.int .i64 0, .int .i64 6])) w2 :=
   ⟨ns1, A1, KK1, X1, by omega, Or.inr ⟨rfl, full1⟩⟩
  clear d1 A1 KK1
  go_wp2_with fail
  go_ret2
  exact fin
theorem low_16 (bits : Nat) (h : bits < 65536) : Go.bits .and .i64 (bits : Int) 255 = ((bits &&& 255 : Nat) : Int) := intBits_and bits 255 (by omega) (by decide)
theorem high_16 (bits : Nat) : (bits : Int) / (256 : Int) = ((bits >>> 8 : Nat) : Int) := by rw [Nat.shiftRight_eq_div_pow]; simp
theorem build_16 (h : Ar base a M vars most w ns) {bits first rest : Nat} (hbits : bits < 65536) (hv : first + 4 <= vars) (hr : rest < ns.length) (hf : first + 4 <= nv ns rest) :
  Calls Tryz.prog 127 #[st (bits : Int) 16, .pointer (some ⟨a, 0, none⟩), .int .i64 (first : Int), .int .i64 (rest : Int)] w (MkPost base a M vars most w ns 15 first fun x => sel 4 bits first x && ev ns rest x) := by
 have wf := h.wf
 have v16 := h.vars16
 have eL := low_16 bits hbits
 have eH := high_16 bits
 have hlo : bits &&& 255 < 256 := Nat.lt_of_le_of_lt Nat.and_le_right (by decide)
 have hhi : bits >>> 8 < 256 := by rw [Nat.shiftRight_eq_div_pow]; omega
 have hsel : Go.RowKit.Hid (∀ x, sel 4 bits first x = if x first then sel 3 (bits >>> 8) (first + 1) x else sel 3 (bits &&& 255) (first + 1) x) := fun x => rfl
 generalize bits &&& 255 = lo at *
 generalize bits >>> 8 = hi at *
 have L0 := h.loc #[.int .i64 (bits : Int), .int .i64 16] 201
 have A0 := h.alloc (.cells #[.int .i64 (bits : Int), .int .i64 16] 201)
 have K0 := Ar.kalloc' h (.cells #[.int .i64 (bits : Int), .int .i64 16] 201)
 obtain ⟨c0, c1⟩ := L0.two
 have hcast : ((first + 1 : Nat) : Int) = (first : Int) + 1 := by omega
 have IL : Go.RowKit.Hid (∀ (w' : World) (ns' : List Nd), Ar base a M vars most w' ns' -> rest < ns'.length -> first + 1 + 3 <= nv ns' rest -> Calls Tryz.prog 127 #[st (lo : Int) 8, .pointer (some ⟨a, 0, none⟩), .int .i64 ((first : Int) + 1), .int .i64 (rest : Int)] w' (MkPost base a M vars most w' ns' 7 (first + 1) fun x => sel 3 lo (first + 1) x && ev ns' rest x)) := fun w' ns' hA hr hn => by
  have := build_8 hA (first := first + 1) hlo (by omega) hr (by omega)
  rw [hcast] at this
  exact this
 have IH : Go.RowKit.Hid (∀ (w' : World) (ns' : List Nd), Ar base a M vars most w' ns' -> rest < ns'.length -> first + 1 + 3 <= nv ns' rest -> Calls Tryz.prog 127 #[st (hi : Int) 8, .pointer (some ⟨a, 0, none⟩), .int .i64 ((first : Int) + 1), .int .i64 (rest : Int)] w' (MkPost base a M vars most w' ns' 7 (first + 1) fun x => sel 3 hi (first + 1) x && ev ns' rest x)) := fun w' ns' hA hr hn => by
  have := build_8 hA (first := first + 1) hhi (by omega) hr (by omega)
  rw [hcast] at this
  exact this
 clear hcast
 have hwm : Go.RowKit.Hid (IntKind.i64.wrap (IntKind.i64.wrap 256 - 1) = 255) := by
  show _ = _
  rw [IntWalk.i64_in 256 (by omega), IntWalk.i64_in _ (by omega)]
  rfl
 have hwr : IntKind.i64.wrap ((first : Int) + 1) = (first : Int) + 1 := IntWalk.i64_in _ (by omega)
 have A0d := A0.drew'
 have L0d := L0.drew
 have K0d := K0.drew
 go_enter Tryz.func127, Tryz.ntmps127
 go_wp2_with fail
 go_region_held3 (fun w' => w'.cell? ⟨w.heap.size, 0, none⟩ = some (.int .i64 (bits : Int)) ∧ w'.cell? ⟨w.heap.size, 1, none⟩ = some (.int .i64 16))
  (exact Loc.two (by assumption))
  (first | (go_at_call 127; rw [hwm.out, eL]; refine (IL.out _ ns (by assumption) hr (by omega)).mono ?_; rintro e w2 hp2; obtain ⟨ns1, v1, er1, rfl, A1, K1, X1, l1, d1⟩ := hp2.pair; have L1 := L0d.kp K1; clear hp2))
 have wf1 := A1.wf
 have KK1 := K0d.trans K1
 obtain ⟨q0, q1⟩ := L1.two
 have hr1 : rest < ns1.length := Nat.lt_of_lt_of_le hr X1.len
 have hn1 : first + 1 + 3 <= nv ns1 rest := by rw [X1.va hr]; omega
 clear A0 K0 L0 c0 c1 A0d K0d L0d K1
 rcases d1.out with ⟨rfl, f1, rfl, lt1, va1, ev1'⟩ | ⟨rfl, rfl, full1⟩
 ·have E1 : Go.RowKit.Hid (∀ x, ev ns1 f1 x = (sel 3 lo (first + 1) x && ev ns rest x)) := ev1'
  clear ev1' d1
  go_wp2_with fail
  refine (IH.out _ ns1 A1 hr1 hn1).mono ?_
  rintro e w3 hp3
  obtain ⟨ns2, v2, er2, rfl, A2, K2, X2, l2, d2⟩ := hp3.pair
  clear hp3
  have wf2 := A2.wf
  have KK2 := KK1.trans K2
  rcases d2.out with ⟨rfl, f2, rfl, lt2, va2, ev2'⟩ | ⟨rfl, rfl, full2⟩
  ·have E2 : Go.RowKit.Hid (∀ x, ev ns2 f2 x = (sel 3 hi (first + 1) x && ev ns1 rest x)) := ev2'
   have lt1' : f1 < ns2.length := Nat.lt_of_lt_of_le lt1 X2.len
   have va1' : first < nv ns2 f1 := by rw [X2.va lt1]; omega
   have va2' : first < nv ns2 f2 := by omega
   clear ev2' d2 q0 q1 L1
   go_wp2_with fail
   refine (node_ok A2 (i := first) (lo := f1) (up := f2) (by omega) lt1' lt2 va1' va2').mono ?_
   rintro e w4 hp4
   have hp5 : MkPost base a M vars most w ns 15 first (fun x => sel 4 bits first x && ev ns rest x) e w4 := by
    obtain ⟨ns3, r1, r2, r3, r4, r5⟩ := hp4
    refine ⟨ns3, r1, KK2.trans r2, (X1.trans X2).trans r3, by omega, ?_⟩
    rcases r5 with ⟨f, e1, e2, e3, e4⟩ | r5
    ·refine Or.inl ⟨f, e1, e2, e3, fun x => ?_⟩
     rw [e4 x]
     show (if x first = true then ev ns2 f2 x else ev ns2 f1 x) = (sel 4 bits first x && ev ns rest x)
     rw [hsel.out x, E2.out x, X2.ev wf1 wf2 _ lt1, E1.out x, X1.ev wf wf1 _ hr]
     cases x first <;> rfl
    ·exact Or.inr r5
   clear hp4
   have hp6 := hp5
   obtain ⟨ns3, _, _, _, _, ⟨f', rfl, _⟩ | ⟨rfl, _⟩⟩ := hp5
   ·go_wp2_with fail
    go_ret2
    exact hp6
   ·go_wp2_with fail
    go_ret2
    exact hp6
  ·have fin : MkPost base a M vars most w ns 15 first (fun x => sel 4 bits first x && ev ns rest x) (.returned (.tuple #[.int .i64 0, .int .i64 6])) w3 :=
    ⟨ns2, A2, KK2, X1.trans X2, by omega, Or.inr ⟨rfl, full2⟩⟩
   clear d2 A2 K2 KK2
   go_wp2_with fail
   go_ret2
   exact fin
 ·have fin : MkPost base a M vars most w ns 15 first (fun x => sel 4 bits first x && ev ns rest x) (.returned (.tuple #[.int .i64 0, .int .i64 6])) w2 :=
   ⟨ns1, A1, KK1, X1, by omega, Or.inr ⟨rfl, full1⟩⟩
  clear d1 A1 KK1
  go_wp2_with fail
  go_ret2
  exact fin
end
end Go.Proofs.YtppbfikimalojaaGreat
