/-
  XAP.
-/
import Derived.Test.YtlmmeppifkigeaaGreatXAO
import Derived.Test.YtlmmeppifkigeaaGreatXAD
set_option maxHeartbeats 8000000
set_option maxRecDepth 100000
namespace Go.Proofs.YtlmmeppifkigeaaGreat
open Go.RowKit Go.Maps
structure Hq (p : Prop) : Prop where
 out : p
def ChoosePost (C : Cfg) (w : World) (ns : List Nd) (full : Bool) (N : Nat) (m2 : Mx -> Option Nat) (m3 : Nat -> Option Nat) (c : Nd) (g : Nat) (e : Ending) (w' : World) : Prop :=
 ∃ f ns' full' N' m1', e = .returned (.int .i64 ((f : Nat) : Int)) ∧ At C w w' ns' full' N' m1' m2 m3 ∧ Ext ns ns' ∧ ns'.length <= ns.length + g ∧ N' <= N + g ∧ f < ns'.length ∧ (full = true -> full' = true) ∧ (full' = false -> MemoC ns' m1' ∧ IsIte ns' c f)
theorem run_min3 (x y z : Nat) (ts : Array TypeId) (t : TypeId) (W : World) : (Builtin.min_ ts t #[.int .i64 (x : Int), .int .i64 (y : Int), .int .i64 (z : Int)]).run Tryz.prog W = .ok (.int .i64 ((min (min x y) z : Nat) : Int)) W := by
 have e : ((min (min x y) z : Nat) : Int) = if (z : Int) < (if (y : Int) < (x : Int) then (y : Int) else (x : Int)) then (z : Int) else (if (y : Int) < (x : Int) then (y : Int) else (x : Int)) := by
  split <;> split <;> omega
 rw [e]
 simp [Builtin.min_, Builtin.min2]
section
variable {C : Cfg} {w : World} {ns : List Nd} {N : Nat} {m1 : Nd -> Option Nat} {m2 : Mx -> Option Nat} {m3 : Nat -> Option Nat}
theorem At.memo1 {w0 w' : World} {full : Bool} {m1' : Nd -> Option Nat} {c : Nat} (h : At C w0 w ns full N m1 m2 m3) (hc : C.c1 = some c) (hM : MapIs choiceE w' c (N + 1) m1') (hg : w.grownBy w' (some c)) : At C w0 w' ns full (N + 1) m1' m2 m3 := by
 have hb := h.bu
 have kt : ∀ i, i < w.heap.size -> i ≠ c -> w'.heap[i]? = w.heap[i]? := fun i hi hn => hg.block i hi (by simpa using hn)
 obtain ⟨es, clock, hm⟩ := (hb.o1 c hc).isMap
 obtain ⟨k1, k2, k3⟩ := hb.b_noMap hm
 obtain ⟨_, _, _, rl⟩ := hb.ar.row
 have hr : rowOf w' C.a = rowOf w C.a := rowOf_same (kt _ hb.ar.lta k2.symm)
 refine ⟨⟨hb.ar.same (kt _ hb.ar.lta k2.symm) (kt _ hb.ar.ltM (hb.low1 c hc).2.1.symm) (kt _ rl k3.symm), (kt _ hb.ltb k1.symm).trans hb.blk, hb.lowB, ?_, ?_, ?_, hb.low1, hb.low2, hb.low3, hb.full_len⟩, h.kp.trans ⟨hg.os, hg.tape, hg.output, hg.size, fun i hi hm' _ => kt i hi (fun e => hm' (by subst e; simp [Cfg.mine, hc])), Or.inl hr, fun j _ => cellB (kt _ hb.ar.lta k2.symm)⟩⟩
 ·intro i e
  rw [hc] at e
  cases e
  exact hM
 ·exact fun i e => ((hb.o2 i e).same (kt i (hb.o2 i e).lt (fun q => (hb.low2 i e).2.2.1 (q ▸ hc)))).mono (Nat.le_succ _)
 ·exact fun i e => ((hb.o3 i e).same (kt i (hb.o3 i e).lt (fun q => (hb.low3 i e).2.2.1 (q ▸ hc)))).mono (Nat.le_succ _)
theorem At.memo2 {w0 w' : World} {full : Bool} {m2' : Mx -> Option Nat} {c : Nat} (h : At C w0 w ns full N m1 m2 m3) (hc : C.c2 = some c) (hM : MapIs mixE w' c (N + 1) m2') (hg : w.grownBy w' (some c)) : At C w0 w' ns full (N + 1) m1 m2' m3 := by
 have hb := h.bu
 have kt : ∀ i, i < w.heap.size -> i ≠ c -> w'.heap[i]? = w.heap[i]? := fun i hi hn => hg.block i hi (by simpa using hn)
 obtain ⟨es, clock, hm⟩ := (hb.o2 c hc).isMap
 obtain ⟨k1, k2, k3⟩ := hb.b_noMap hm
 obtain ⟨_, _, _, rl⟩ := hb.ar.row
 have hr : rowOf w' C.a = rowOf w C.a := rowOf_same (kt _ hb.ar.lta k2.symm)
 refine ⟨⟨hb.ar.same (kt _ hb.ar.lta k2.symm) (kt _ hb.ar.ltM (hb.low2 c hc).2.1.symm) (kt _ rl k3.symm), (kt _ hb.ltb k1.symm).trans hb.blk, hb.lowB, ?_, ?_, ?_, hb.low1, hb.low2, hb.low3, hb.full_len⟩, h.kp.trans ⟨hg.os, hg.tape, hg.output, hg.size, fun i hi hm' _ => kt i hi (fun e => hm' (by subst e; simp [Cfg.mine, hc])), Or.inl hr, fun j _ => cellB (kt _ hb.ar.lta k2.symm)⟩⟩
 ·exact fun i e => ((hb.o1 i e).same (kt i (hb.o1 i e).lt (fun q => (hb.low1 i e).2.2.1 (q ▸ hc)))).mono (Nat.le_succ _)
 ·intro i e
  rw [hc] at e
  cases e
  exact hM
 ·exact fun i e => ((hb.o3 i e).same (kt i (hb.o3 i e).lt (fun q => (hb.low3 i e).2.2.2 (q ▸ hc)))).mono (Nat.le_succ _)
theorem At.memo3 {w0 w' : World} {full : Bool} {m3' : Nat -> Option Nat} {c : Nat} (h : At C w0 w ns full N m1 m2 m3) (hc : C.c3 = some c) (hM : MapIs intE w' c (N + 1) m3') (hg : w.grownBy w' (some c)) : At C w0 w' ns full (N + 1) m1 m2 m3' := by
 have hb := h.bu
 have kt : ∀ i, i < w.heap.size -> i ≠ c -> w'.heap[i]? = w.heap[i]? := fun i hi hn => hg.block i hi (by simpa using hn)
 obtain ⟨es, clock, hm⟩ := (hb.o3 c hc).isMap
 obtain ⟨k1, k2, k3⟩ := hb.b_noMap hm
 obtain ⟨_, _, _, rl⟩ := hb.ar.row
 have hr : rowOf w' C.a = rowOf w C.a := rowOf_same (kt _ hb.ar.lta k2.symm)
 refine ⟨⟨hb.ar.same (kt _ hb.ar.lta k2.symm) (kt _ hb.ar.ltM (hb.low3 c hc).2.1.symm) (kt _ rl k3.symm), (kt _ hb.ltb k1.symm).trans hb.blk, hb.lowB, ?_, ?_, ?_, hb.low1, hb.low2, hb.low3, hb.full_len⟩, h.kp.trans ⟨hg.os, hg.tape, hg.output, hg.size, fun i hi hm' _ => kt i hi (fun e => hm' (by subst e; simp [Cfg.mine, hc])), Or.inl hr, fun j _ => cellB (kt _ hb.ar.lta k2.symm)⟩⟩
 ·exact fun i e => ((hb.o1 i e).same (kt i (hb.o1 i e).lt (fun q => (hb.low1 i e).2.2.2 (q ▸ hc)))).mono (Nat.le_succ _)
 ·exact fun i e => ((hb.o2 i e).same (kt i (hb.o2 i e).lt (fun q => (hb.low2 i e).2.2.2 (q ▸ hc)))).mono (Nat.le_succ _)
 ·intro i e
  rw [hc] at e
  cases e
  exact hM
theorem choose_miss (h : Bu C w ns false N m1 m2 m3) {c1 : Nat} (hc1 : C.c1 = some c1) {x y z k : Nat} (hin : Inside ns (x, y, z)) (hx : 2 <= x) (hyz : y ≠ z) (hf : m1 (x, y, z) = none) {S : Nat -> Bool} (hk : Fit S C.vars ns (x, y, z) (k + 1)) (hm : MemoC ns m1) (hN : N + 2 ^ (k + 1) <= 1099511627776)
  (ih : Hq (∀ w ns full N m1 c, Bu C w ns full N m1 m2 m3 -> Inside ns c -> Fit S C.vars ns c k -> (full = false -> MemoC ns m1) -> N + 2 ^ k <= 1099511627776 -> Calls Tryz.prog 160 #[.pointer (some ⟨C.b, 0, none⟩), agg3 c] w (ChoosePost C w ns full N m2 m3 c (2 ^ k - 1)))) :
  Calls Tryz.prog 160 #[.pointer (some ⟨C.b, 0, none⟩), agg3 (x, y, z)] w (ChoosePost C w ns false N m2 m3 (x, y, z) (2 ^ (k + 1) - 1)) := by
 have hl4 : ns.length <= 40000 := Nat.le_trans h.ar.le h.ar.most4
 obtain ⟨i1, i2, i3⟩ := id hin
 simp only [] at i1 i2 i3
 have ho : ok3 (x, y, z) := ⟨by show x < _; omega, by show y < _; omega, by show z < _; omega⟩
 have hA := ((At.refl h).alloc (.cells #[.int .i64 (x : Int), .int .i64 (y : Int), .int .i64 (z : Int)] 235)).drew
 have L := (h.loc #[.int .i64 (x : Int), .int .i64 (y : Int), .int .i64 (z : Int)] 235).drew
 obtain ⟨b0, b1, b2, b3, b4, bf⟩ := h.reads
 have lb := h.ltb
 have hlook := (hA.bu.o1 c1 hc1).look Tryz.u45 (x := (x, y, z)) ho
 rw [hf] at hlook
 simp only [choiceE, Option.getD_none, Option.isSome_none] at hlook
 rw [hc1] at b2
 have x1 : ((x : Int) == 1) = false := by simp; omega
 have x0 : ((x : Int) == 0) = false := by simp; omega
 have hyz' : ((y : Int) == (z : Int)) = false := by simp; omega
 have wf := h.ar.wf
 have hvm : min3 ns (x, y, z) < C.vars := by
  have := wf.va x hx i1
  simp only [min3]
  omega
 have v16 := h.ar.vars16
 have HF : Hq (∀ val, Fit S C.vars ns (pc ns (x, y, z) (min3 ns (x, y, z)) val) k) := ⟨fun val => hk.down wf hin hvm val⟩
 clear hk
 have hmn : ∀ (ts : Array TypeId) (t : TypeId) (W : World), (Builtin.min_ ts t #[.int .i64 (nv ns x : Int), .int .i64 (nv ns y : Int), .int .i64 (nv ns z : Int)]).run Tryz.prog W = .ok (.int .i64 (min3 ns (x, y, z) : Int)) W := fun ts t W => run_min3 _ _ _ ts t W
 clear h
 go_enter Tryz.func160, Tryz.ntmps160
 go_wp2_with fail
 go_cut [5, 6] (fun v5 v6 wx => v5 = .int .i64 0 ∧ v6 = .bool false ∧ At C w wx ns false N m1 m2 m3 ∧ Loc C wx w.heap.size #[.int .i64 (x : Int), .int .i64 (y : Int), .int .i64 (z : Int)] 235)
 case first =>
  go_region
  all_goals
   go_wp2_with fail
   go_meet
   exact ⟨rfl, rfl, hA, L⟩
 case rest =>
  obtain ⟨rfl, rfl, hA1, L1⟩ := hcut
  clear hA L hlook
  obtain ⟨⟨q0, q1, q2⟩, _⟩ := L1.reads
  go_wp2_with fail
  go_cut [7] (fun v7 wx => v7 = .int .i64 (min3 ns (x, y, z) : Int) ∧ At C w wx ns false N m1 m2 m3 ∧ Loc C wx w.heap.size #[.int .i64 (x : Int), .int .i64 (y : Int), .int .i64 (z : Int)] 235)
  case first =>
   have hA2 := hA1.drew
   go_region_held3 (fun w' => w'.cell? ⟨w.heap.size, 0, none⟩ = some (.int .i64 (x : Int)) ∧ w'.cell? ⟨w.heap.size, 1, none⟩ = some (.int .i64 (y : Int)) ∧ w'.cell? ⟨w.heap.size, 2, none⟩ = some (.int .i64 (z : Int))) (go_keep)
    (first | (go_at_call 174; refine (variable_any (At.bu (w0 := w) (by assumption)) (by assumption)).mono ?_; rintro e wn ⟨rfl, rfl⟩))
   go_wp2_with fail
   go_meet
   exact ⟨rfl, hA2, L1.drew⟩
  case rest =>
   obtain ⟨rfl, hA2, L2⟩ := hcut
   clear hA1 L1 q0 q1 q2 hmn
   generalize hv : min3 ns (x, y, z) = v at *
   obtain ⟨⟨q0, q1, q2⟩, _⟩ := L2.reads
   go_wp2_with fail
   refine (partOfChoice_any (c := (x, y, z)) hA2.bu false i1 i2 i3 (by omega)).mono ?_
   rintro e w3 ⟨rfl, hp⟩
   have hA3 := hA2.then hp
   have L3 := L2.kp hp.kp
   clear hp L2 hA2 q0 q1 q2
   go_wp2_with fail
   have hp2 : 2 ^ (k + 1) = 2 * 2 ^ k := by rw [Nat.pow_succ]; omega
   have hp1 : 1 <= 2 ^ k := Nat.one_le_two_pow
   have hpm : ∀ val, v < min3 ns (pc ns (x, y, z) v val) := fun val => by
    have := pc_min3 wf hin (by rw [hv]; exact hvm) val
    rw [hv] at this
    exact this
   refine (ih.out w3 ns false N m1 (pc ns (x, y, z) v false) hA3.bu (pc_inside wf hin hvm false) (HF.out false) (fun _ => hm) (by omega)).mono ?_
   rintro e w4 ⟨f0, ns1, full1, N1, m11, rfl, hp, X1, l1, n1, lt0, _, s1⟩
   have hA4 := hA3.then hp
   have L4 := L3.kp hp.kp
   clear hp L3 hA3
   have wf1 := hA4.bu.ar.wf
   have hin1 := hin.ext X1
   have pe1 := pc_ext hin X1 v true
   obtain ⟨j1, j2, j3⟩ := id hin1
   obtain ⟨⟨q0, q1, q2⟩, _⟩ := L4.reads
   go_wp2_with fail
   refine (partOfChoice_any (c := (x, y, z)) hA4.bu true j1 j2 j3 (by omega)).mono ?_
   rintro e w5 ⟨rfl, hp⟩
   have hA5 := hA4.then hp
   have L5 := L4.kp hp.kp
   clear hp L4 hA4 q0 q1 q2
   go_wp2_with fail
   refine (ih.out w5 ns1 full1 N1 m11 (pc ns1 (x, y, z) v true) hA5.bu (pc_inside wf1 hin1 hvm true) (by rw [pe1]; exact (HF.out true).ext wf wf1 (pc_inside wf hin hvm true) X1) (fun e => (s1 e).1) (by omega)).mono ?_
   rintro e w6 ⟨f1, ns2, full2, N2, m12, rfl, hp, X2, l2, n2, lt1, mo2, s2⟩
   have hA6 := hA5.then hp
   have L6 := L5.kp hp.kp
   clear hp L5 hA5
   have wf2 := hA6.bu.ar.wf
   have X2l := X2.len
   have sem2 : full2 = false -> MemoC ns2 m12 ∧ IsIte ns2 (pc ns (x, y, z) v false) f0 ∧ IsIte ns2 (pc ns (x, y, z) v true) f1 := fun e2 => by
    have e1 : full1 = false := by cases full1 <;> simp_all
    have a1 := (s1 e1).2.ext X2 wf1 wf2
    have a2 := s2 e2
    rw [pe1] at a2
    exact ⟨a2.1, a1, a2.2⟩
   go_wp2_with fail
   refine (numberOf_any hA6.bu (v := v) (l := f0) (u := f1) hvm (by omega) lt1 (fun e2 => ?_)).mono ?_
   ·obtain ⟨_, a1, a2⟩ := sem2 e2
    have b1 := a1.va
    have b2 := a2.va
    rw [min3_ext (pc_inside wf hin hvm _) (X1.trans X2)] at b1 b2
    have := hpm false
    have := hpm true
    omega
   rintro e w7 ⟨f, ns3, full3, rfl, hp, X3, l3, lt3, mo3, s3⟩
   have hA7 := (hA6.then hp).drew
   have L7 := (L6.kp hp.kp).drew
   clear hp L6 hA6
   have wf3 := hA7.bu.ar.wf
   have len3 : ns3.length <= 40000 := Nat.le_trans hA7.bu.ar.le hA7.bu.ar.most4
   obtain ⟨w8, hrun, hM8, hg8⟩ := (hA7.bu.o1 c1 hc1).store Tryz.u45 (by unfold maxLen; omega) (x := (x, y, z)) ho (v := f) (by omega)
   have hA8 := hA7.memo1 hc1 hM8 hg8
   obtain ⟨⟨q0, q1, q2⟩, _⟩ := L7.reads
   obtain ⟨d0, d1, d2, d3, d4, df⟩ := hA7.bu.reads
   rw [hc1] at d2
   simp only [choiceE] at hrun
   have hfin : ChoosePost C w ns false N m2 m3 (x, y, z) (2 ^ (k + 1) - 1) (.returned (.int .i64 (f : Int))) w8 := by
    refine ⟨f, ns3, full3, N2 + 1, _, rfl, hA8, (X1.trans X2).trans X3, by omega, by omega, lt3, (fun e => by cases e), fun e3 => ?_⟩
    have e2 : full2 = false := by cases full2 <;> simp_all
    obtain ⟨a0, a1, a2⟩ := sem2 e2
    have X03 := (X1.trans X2).trans X3
    have J : IsIte ns3 (x, y, z) f := by
     refine isIte_join wf3 (hin.ext X03) (by rw [min3_ext hin X03, hv]; exact hvm) ?_ ?_ (by rw [min3_ext hin X03, hv]; exact s3 e3)
     ·rw [min3_ext hin X03, hv, pc_ext hin X03]; exact a1.ext X3 wf2 wf3
     ·rw [min3_ext hin X03, hv, pc_ext hin X03]; exact a2.ext X3 wf2 wf3
    exact ⟨(a0.ext X3 wf2 wf3).upd J, J⟩
   clear hA7 hM8 hg8 L7 hA8
   go_wp2_with fail
   go_region
   all_goals
    go_wp2_with fail
    go_ret
    exact hfin
theorem choose_fit (S : Nat -> Bool) {c1 : Nat} (hc1 : C.c1 = some c1) : ∀ (k : Nat) (w : World) (ns : List Nd) (full : Bool) (N : Nat) (m1 : Nd -> Option Nat) (c : Nd), Bu C w ns full N m1 m2 m3 -> Inside ns c -> Fit S C.vars ns c k -> (full = false -> MemoC ns m1) ->
  N + 2 ^ k <= 1099511627776 -> Calls Tryz.prog 160 #[.pointer (some ⟨C.b, 0, none⟩), agg3 c] w (ChoosePost C w ns full N m2 m3 c (2 ^ k - 1)) := by
 intro k
 induction k with
 | zero =>
   intro w ns full N m1 c h hin hk0 hm hN
   have hk := hk0.zero h.ar.wf hin
   cases full
   ·obtain ⟨x, y, z⟩ := c
    have hx : x < 2 := by
     have := h.ar.wf.va x
     have k1 : min3 ns (x, y, z) <= nv ns x := by simp only [min3]; omega
     by_cases h2 : 2 <= x
     ·have := this h2 hin.1; omega
     ·omega
    by_cases h1 : x = 1
    ·subst h1
     refine (choose_1 h y z).mono ?_
     rintro e w' ⟨rfl, hA⟩
     exact ⟨y, ns, false, N, m1, rfl, hA, Ext.refl _, by omega, by omega, hin.2.1, id, fun _ => ⟨hm rfl, isIte_1 hin rfl⟩⟩
    ·obtain rfl : x = 0 := by omega
     by_cases hyz : y = z
     ·subst hyz
      refine (choose_same h 0 y h1).mono ?_
      rintro e w' ⟨rfl, hA⟩
      exact ⟨y, ns, false, N, m1, rfl, hA, Ext.refl _, by omega, by omega, hin.2.1, id, fun _ => ⟨hm rfl, isIte_same hin rfl⟩⟩
     ·refine (choose_0 h y z hyz).mono ?_
      rintro e w' ⟨rfl, hA⟩
      exact ⟨z, ns, false, N, m1, rfl, hA, Ext.refl _, by omega, by omega, hin.2.2, id, fun _ => ⟨hm rfl, isIte_0 hin rfl⟩⟩
   ·refine (choose_full h c).mono ?_
    rintro e w' ⟨rfl, hA⟩
    exact ⟨0, ns, true, N, m1, rfl, hA, Ext.refl _, by omega, by omega, (by have := h.ar.wf.len; omega), id, fun e => by cases e⟩
 | succ k ih =>
   intro w ns full N m1 c h hin hk hm hN
   cases full
   ·obtain ⟨x, y, z⟩ := c
    by_cases h1 : x = 1
    ·subst h1
     refine (choose_1 h y z).mono ?_
     rintro e w' ⟨rfl, hA⟩
     exact ⟨y, ns, false, N, m1, rfl, hA, Ext.refl _, by omega, by omega, hin.2.1, id, fun _ => ⟨hm rfl, isIte_1 hin rfl⟩⟩
    ·by_cases hyz : y = z
     ·subst hyz
      refine (choose_same h x y h1).mono ?_
      rintro e w' ⟨rfl, hA⟩
      exact ⟨y, ns, false, N, m1, rfl, hA, Ext.refl _, by omega, by omega, hin.2.1, id, fun _ => ⟨hm rfl, isIte_same hin rfl⟩⟩
     ·by_cases h0 : x = 0
      ·subst h0
       refine (choose_0 h y z hyz).mono ?_
       rintro e w' ⟨rfl, hA⟩
       exact ⟨z, ns, false, N, m1, rfl, hA, Ext.refl _, by omega, by omega, hin.2.2, id, fun _ => ⟨hm rfl, isIte_0 hin rfl⟩⟩
      ·have hl4 : ns.length <= 40000 := Nat.le_trans h.ar.le h.ar.most4
       obtain ⟨i1, i2, i3⟩ := id hin
       simp only [] at i1 i2 i3
       cases hf : m1 (x, y, z) with
       | none => exact choose_miss h hc1 hin (by omega) hyz hf hk (hm rfl) hN ⟨ih⟩
       | some f =>
         refine (choose_hit h hc1 ⟨by show x < _; omega, by show y < _; omega, by show z < _; omega⟩ (by omega) hyz hf).mono ?_
         rintro e w' ⟨rfl, hA⟩
         have J := hm rfl _ _ hf
         exact ⟨f, ns, false, N, m1, rfl, hA, Ext.refl _, by omega, by omega, J.lt, id, fun _ => ⟨hm rfl, J⟩⟩
   ·refine (choose_full h c).mono ?_
    rintro e w' ⟨rfl, hA⟩
    exact ⟨0, ns, true, N, m1, rfl, hA, Ext.refl _, by omega, by omega, (by have := h.ar.wf.len; omega), id, fun e => by cases e⟩
theorem choose_any {c1 : Nat} (hc1 : C.c1 = some c1) : ∀ (k : Nat) (w : World) (ns : List Nd) (full : Bool) (N : Nat) (m1 : Nd -> Option Nat) (c : Nd), Bu C w ns full N m1 m2 m3 -> Inside ns c -> C.vars <= min3 ns c + k -> (full = false -> MemoC ns m1) ->
  N + 2 ^ k <= 1099511627776 -> Calls Tryz.prog 160 #[.pointer (some ⟨C.b, 0, none⟩), agg3 c] w (ChoosePost C w ns full N m2 m3 c (2 ^ k - 1)) := fun k w ns full N m1 c h hin hk hm hN => choose_fit (fun _ => true) hc1 k w ns full N m1 c h hin (fit_all hk) hm hN
end
def ca (base a M vars most : Nat) : Cfg := ⟨base, a, a, M, none, none, none, vars, most⟩
def OpPost (base a M vars most : Nat) (w : World) (ns : List Nd) (g : Nat) (φ : Env -> Bool) (e : Ending) (w' : World) : Prop :=
 ∃ ns', Ar base a M vars most w' ns' ∧ Kp (ca base a M vars most) w w' ∧ Ext ns ns' ∧ ns'.length <= ns.length + g ∧
   ((∃ f : Nat, e = .returned (.tuple #[.int .i64 (f : Int), .int .i64 0]) ∧ f < ns'.length ∧ ∀ x, ev ns' f x = φ x) ∨ (e = .returned (.tuple #[.int .i64 0, .int .i64 6]) ∧ ns'.length = most))
def MkPost (base a M vars most : Nat) (w : World) (ns : List Nd) (g i : Nat) (φ : Env -> Bool) (e : Ending) (w' : World) : Prop :=
 ∃ ns', Ar base a M vars most w' ns' ∧ Kp (ca base a M vars most) w w' ∧ Ext ns ns' ∧ ns'.length <= ns.length + g ∧
   ((∃ f : Nat, e = .returned (.tuple #[.int .i64 (f : Int), .int .i64 0]) ∧ f < ns'.length ∧ i <= nv ns' f ∧ ∀ x, ev ns' f x = φ x) ∨ (e = .returned (.tuple #[.int .i64 0, .int .i64 6]) ∧ ns'.length = most))
section
variable {base a M vars most : Nat} {w w1 w2 : World} {ns : List Nd}
theorem Kp.outer {C : Cfg} (hK : Kp C w1 w2) (ha : C.a = a) (ho : w1.os = w.os) (ht : w1.tape = w.tape) (hp : w1.output = w.output) (hs : w.heap.size <= w1.heap.size) (hb : ∀ i, i < w.heap.size -> w1.heap[i]? = w.heap[i]?)
  (hn : ∀ i, C.mine i -> i = a ∨ i = M ∨ w.heap.size <= i) (la : a < w.heap.size) : Kp (ca base a M vars most) w w2 := by
 have hr : rowOf w1 a = rowOf w a := rowOf_same (hb a la)
 have hr2 := hK.row
 rw [ha] at hr2
 have hs2 := hK.size
 refine ⟨hK.os.trans ho, hK.tape.trans ht, hK.output.trans hp, by omega, fun i hi hm hne => ?_, ?_, fun j hj => by have := hK.post j hj; rw [ha] at this; exact this.trans (cellB (hb a la))⟩
 ·refine (hK.blk i (by omega) (fun hc => ?_) (by rw [ha, hr]; exact hne)).trans (hb i hi)
  rcases hn i hc with e | e | e
  ·exact hm (Or.inl e)
  ·exact hm (Or.inr (Or.inr (Or.inl e)))
  ·omega
 ·show rowOf w2 a = rowOf w a ∨ w.heap.size <= rowOf w2 a
  rcases hr2 with e | e
  ·exact Or.inl (e.trans hr)
  ·exact Or.inr (by omega)
theorem Ar.alloc (h : Ar base a M vars most w ns) (o : Obj) : Ar base a M vars most (w.alloc o) ns := by
 obtain ⟨_, _, _, rl⟩ := h.row
 exact h.same (Below.heap_alloc w o _ h.lta) (Below.heap_alloc w o _ h.ltM) (Below.heap_alloc w o _ rl)
theorem new_ok {v m : Nat} (w : World) (hv1 : 1 <= v) (hv2 : v <= 16) (hm1 : 2 <= m) (hm2 : m <= 40000) :
  Calls Tryz.prog 26 #[.int .i64 (v : Int), .int .i64 (m : Int)] w fun e w' => ∃ a M, e = .returned (.tuple #[.pointer (some ⟨a, 0, none⟩), .int .i64 0]) ∧ Ar w.heap.size a M v m w' [(v, 0, 0), (v, 1, 1)] ∧ Below w.heap.size w w' := by
 have hmm := @run_makeMap Tryz.prog
 have t1 : decide ((v : Int) < 1) = false := by simp; omega
 have t2 : decide ((16 : Int) < (v : Int)) = false := by simp; omega
 have t3 : decide ((m : Int) < 2) = false := by simp; omega
 have t4 : decide ((40000 : Int) < (m : Int)) = false := by simp; omega
 go_enter Tryz.func26, Tryz.ntmps26
 go_wp2_with fail
 go_ret2
 refine ⟨w.heap.size + 1 + 1, w.heap.size + 1, rfl, ?_, ?_⟩
 ·refine ⟨wf_start v, by simpa using hm1, hv1, hv2, hm2, by omega, by omega, ⟨w.heap.size, 2, #[.int .i64 (v : Int), .int .i64 (m : Int), .slice (some ⟨w.heap.size, 0, none⟩) 2 2, .map (some (w.heap.size + 1))], 93, ?_, ⟨rfl, rfl, rfl, rfl, .inl rfl⟩, ?_⟩, ⟨fun _ => none, ?_, ?_⟩⟩
  ·rw [show w.heap.size + 1 + 1 = ((w.alloc (.cells #[.int .i64 (v : Int), .int .i64 0, .int .i64 0, .int .i64 (v : Int), .int .i64 1, .int .i64 1] 134)).alloc (.map #[] 0)).heap.size by simp]
   exact Go.heap_alloc_new _ _
  ·refine ⟨by simp [cellsOf], .inr ⟨w.heap.size, 2, #[.int .i64 (v : Int), .int .i64 0, .int .i64 0, .int .i64 (v : Int), .int .i64 1, .int .i64 1], rfl, Nat.le_refl _, ?_, by simp, by decide, by simp, by simp [cellsOf]⟩⟩
   rw [Below.heap_alloc _ _ _ (by simp; omega), Below.heap_alloc _ _ _ (by simp)]
   exact Go.heap_alloc_new _ _
  ·have hM := mapIs_made nodeE (w.alloc (.cells #[.int .i64 (v : Int), .int .i64 0, .int .i64 0, .int .i64 (v : Int), .int .i64 1, .int .i64 1] 134))
   rw [show (w.alloc (.cells #[.int .i64 (v : Int), .int .i64 0, .int .i64 0, .int .i64 (v : Int), .int .i64 1, .int .i64 1] 134)).heap.size = w.heap.size + 1 by simp] at hM
   exact (hM.same (Below.heap_alloc _ _ _ (by simp))).mono (by simp)
  ·intro n f
   simp only [List.length_cons, List.length_nil]
   constructor
   ·intro h; cases h
   ·rintro ⟨h1, h2, _⟩; omega
 ·exact (((Below.refl _ _).alloc (Nat.le_refl _) _).alloc (by simp) _).alloc (by simp; omega) _
theorem bu_new {C : Cfg} {m1 : Nd -> Option Nat} {m2 : Mx -> Option Nat} {m3 : Nat -> Option Nat} (h : Ar C.base C.a C.M C.vars C.most w ns) (hb : C.b = w.heap.size) (hbase : C.base <= w.heap.size) (o1 : OMap choiceE w C.c1 0 m1) (o2 : OMap mixE w C.c2 0 m2) (o3 : OMap intE w C.c3 0 m3)
  (low1 : ∀ i, C.c1 = some i -> C.base <= i ∧ i ≠ C.M ∧ C.c2 ≠ some i ∧ C.c3 ≠ some i) (low2 : ∀ i, C.c2 = some i -> C.base <= i ∧ i ≠ C.M ∧ C.c1 ≠ some i ∧ C.c3 ≠ some i) (low3 : ∀ i, C.c3 = some i -> C.base <= i ∧ i ≠ C.M ∧ C.c1 ≠ some i ∧ C.c2 ≠ some i) :
  Bu C (w.alloc (.cells #[.pointer (some ⟨C.a, 0, none⟩), .bool false, .map C.c1, .map C.c2, .map C.c3] 213)) ns false 0 m1 m2 m3 :=
 ⟨h.alloc _, by rw [hb]; exact Go.heap_alloc_new _ _, by omega, fun i e => (o1 i e).same (Below.heap_alloc _ _ _ (o1 i e).lt), fun i e => (o2 i e).same (Below.heap_alloc _ _ _ (o2 i e).lt), fun i e => (o3 i e).same (Below.heap_alloc _ _ _ (o3 i e).lt), low1, low2, low3, fun e => by cases e⟩
theorem vars_any (h : Ar base a M vars most w ns) : Calls Tryz.prog 86 #[.pointer (some ⟨a, 0, none⟩)] w fun e w' => e = .returned (.int .i64 (vars : Int)) ∧ w' = w := by
 obtain ⟨cap, a0, a1, a2, a3, af, an⟩ := h.reads
 clear h an
 go_enter Tryz.func86, Tryz.ntmps86
 go_wp2_with fail
 go_ret
 exact ⟨rfl, rfl⟩
theorem hangs_ok (h : Ar base a M vars most w ns) {f i : Nat} (hf : f < ns.length) (hv : i < nv ns f) :
  Calls Tryz.prog 140 #[.pointer (some ⟨a, 0, none⟩), .int .i64 (f : Int), .int .i64 (i : Int)] w fun e w' => e = .returned (.bool true) ∧ w' = w := by
 have t1 : (decide ((0 : Int) <= (f : Int)) && decide ((f : Int) < (ns.length : Int))) = true := by simp; omega
 have t2 : decide ((i : Int) < (nv ns f : Int)) = true := by simp; omega
 have hl : ns.length <= 40000 := Nat.le_trans h.le h.most4
 have hF : Hid (Ar base a M vars most w ns) := h
 obtain ⟨cap, a0, a1, a2, a3, af, an⟩ := h.reads
 obtain ⟨n0, n1, n2⟩ := an f hf
 clear h an
 generalize rowOf w a = g at *
 go_enter Tryz.func140, Tryz.ntmps140
 go_wp2_with (go_at_call 63; refine (hasFunction_any hF.out (f : Int)).mono ?_; rintro e w' ⟨rfl, rfl⟩; rw [t1])
 go_ret
 exact ⟨by simp, rfl⟩
theorem node_ok (h : Ar base a M vars most w ns) {i lo up : Nat} (hi : i < vars) (l1 : lo < ns.length) (l2 : up < ns.length) (v1 : i < nv ns lo) (v2 : i < nv ns up) :
  Calls Tryz.prog 114 #[.pointer (some ⟨a, 0, none⟩), .int .i64 (i : Int), .int .i64 (lo : Int), .int .i64 (up : Int)] w (MkPost base a M vars most w ns 1 i fun x => if x i then ev ns up x else ev ns lo x) := by
 have la := h.lta
 have lM := h.ltM
 have wf := h.wf
 have hb := bu_new (C := ⟨base, a, w.heap.size, M, none, none, none, vars, most⟩) (m1 := fun _ => none) (m2 := fun _ => none) (m3 := fun _ => none) h rfl (by have := h.lowA; show base <= w.heap.size; omega) (fun _ e => by cases e) (fun _ e => by cases e) (fun _ e => by cases e) (fun _ e => by cases e) (fun _ e => by cases e) (fun _ e => by cases e)
 have t0 : (decide ((0 : Int) <= (i : Int)) && decide ((i : Int) < (vars : Int))) = true := by simp; omega
 go_enter Tryz.func114, Tryz.ntmps114
 go_wp2_with (first
  | (go_at_call 139; refine (hasVariable_any h (i : Int)).mono ?_; rintro e w' ⟨rfl, rfl⟩; rw [t0])
  | (go_at_call_of 140 (Value.int .i64 (lo : Int)); refine (hangs_ok h l1 v1).mono ?_; rintro e w' ⟨rfl, rfl⟩)
  | (go_at_call_of 140 (Value.int .i64 (up : Int)); refine (hangs_ok h l2 v2).mono ?_; rintro e w' ⟨rfl, rfl⟩))
 refine (numberOf_any (v := i) (l := lo) (u := up) hb hi l1 l2 (fun _ => ⟨v1, v2⟩)).mono ?_
 rintro e w2 ⟨f, ns', full', rfl, hp, X, l3, lt, mo, sm⟩
 have wf' := hp.bu.ar.wf
 have hK : Kp (ca base a M vars most) w' w2 := hp.kp.outer rfl rfl rfl rfl (by simp) (fun i hi => Below.heap_alloc _ _ _ hi) (by
  rintro i (e | e | e | e | e | e)
  ·exact Or.inl e
  ·exact Or.inr (Or.inr (by rw [e]; exact Nat.le_refl _))
  ·exact Or.inr (Or.inl e)
  ·cases e
  ·cases e
  ·cases e) la
 go_wp2_with fail
 cases full'
 ·refine (answer_any hp.bu f).mono ?_
  rintro e w3 ⟨rfl, rfl⟩
  have hfin : MkPost base a M vars most w' ns 1 i (fun x => if x i then ev ns up x else ev ns lo x) (.returned (.tuple #[.int .i64 (f : Int), .int .i64 0])) w3 :=
   ⟨ns', hp.bu.ar, hK, X, l3, Or.inl ⟨f, rfl, lt, (sm rfl).va, fun x => by rw [(sm rfl).ev x, X.ev wf wf' _ l1, X.ev wf wf' _ l2]⟩⟩
  clear hp hK
  go_wp2_with fail
  go_ret2
  exact hfin
 ·refine (answer_any hp.bu f).mono ?_
  rintro e w3 ⟨rfl, rfl⟩
  have hfin : MkPost base a M vars most w' ns 1 i (fun x => if x i then ev ns up x else ev ns lo x) (.returned (.tuple #[.int .i64 0, .int .i64 6])) w3 :=
   ⟨ns', hp.bu.ar, hK, X, l3, Or.inr ⟨rfl, hp.bu.full_len rfl⟩⟩
  clear hp hK
  go_wp2_with fail
  go_ret2
  exact hfin
theorem ite_fit (S : Nat -> Bool) (h : Ar base a M vars most w ns) {c : Nd} (hc : Inside ns c) {k : Nat} (hfit : Fit S vars ns c k) (hk16 : k <= 16) :
  Calls Tryz.prog 133 #[.pointer (some ⟨a, 0, none⟩), .int .i64 (c.1 : Int), .int .i64 (c.2.1 : Int), .int .i64 (c.2.2 : Int)] w (OpPost base a M vars most w ns (2 ^ k - 1) fun x => if ev ns c.1 x then ev ns c.2.1 x else ev ns c.2.2 x) := by
 have hmm := @run_makeMap Tryz.prog
 have la := h.lta
 have lM := h.ltM
 have hA := h.lowA
 have v16 := h.vars16
 have wf := h.wf
 have hs : (w.alloc (.map #[] 0)).heap.size = w.heap.size + 1 := by simp
 have hb := bu_new (w := w.alloc (.map #[] 0)) (C := ⟨base, a, w.heap.size + 1, M, some w.heap.size, none, none, vars, most⟩) (m1 := fun _ => none) (m2 := fun _ => none) (m3 := fun _ => none) (h.alloc _) (by simp) (by rw [hs]; show base <= _; omega)
  (fun i e => by cases e; exact mapIs_made choiceE w) (fun _ e => by cases e) (fun _ e => by cases e) (fun i e => by cases e; exact ⟨by show base <= _; omega, by show w.heap.size ≠ M; omega, (fun e => by cases e), (fun e => by cases e)⟩) (fun _ e => by cases e) (fun _ e => by cases e)
 obtain ⟨x, y, z⟩ := c
 have hch := choose_fit S (C := ⟨base, a, w.heap.size + 1, M, some w.heap.size, none, none, vars, most⟩) (c1 := w.heap.size) rfl k _ ns false 0 _ (x, y, z) hb hc hfit (fun _ _ _ e => by cases e) (by have := Nat.pow_le_pow_right (n := 2) (by omega) hk16; omega)
 obtain ⟨i1, i2, i3⟩ := id hc
 simp only [] at i1 i2 i3
 have t1 : (decide ((0 : Int) <= (x : Int)) && decide ((x : Int) < (ns.length : Int))) = true := by simp; omega
 have t2 : (decide ((0 : Int) <= (y : Int)) && decide ((y : Int) < (ns.length : Int))) = true := by simp; omega
 have t3 : (decide ((0 : Int) <= (z : Int)) && decide ((z : Int) < (ns.length : Int))) = true := by simp; omega
 have hch' := Hq.mk hch
 clear hch hb hfit
 simp only []
 go_enter Tryz.func133, Tryz.ntmps133
 go_wp2_with (first
  | (go_at_call_of 63 (Value.int .i64 (x : Int)); refine (hasFunction_any h (x : Int)).mono ?_; rintro e w' ⟨rfl, rfl⟩; rw [t1])
  | (go_at_call_of 63 (Value.int .i64 (y : Int)); refine (hasFunction_any h (y : Int)).mono ?_; rintro e w' ⟨rfl, rfl⟩; rw [t2])
  | (go_at_call_of 63 (Value.int .i64 (z : Int)); refine (hasFunction_any h (z : Int)).mono ?_; rintro e w' ⟨rfl, rfl⟩; rw [t3]))
 refine hch'.out.mono ?_
 rintro e w2 ⟨f, ns', full', N', m1', rfl, hp, X, l1, _, lt, _, sm⟩
 have wf' := hp.bu.ar.wf
 have hK : Kp (ca base a M vars most) w' w2 := hp.kp.outer rfl rfl rfl rfl (by simp; omega) (fun i hi => (Below.heap_alloc _ _ _ (by simp; omega)).trans (Below.heap_alloc _ _ _ hi)) (by
  rintro i (e | e | e | e | e | e)
  ·exact Or.inl e
  ·exact Or.inr (Or.inr (by rw [e]; show _ <= w'.heap.size + 1; omega))
  ·exact Or.inr (Or.inl e)
  ·cases e; exact Or.inr (Or.inr (Nat.le_refl _))
  ·cases e
  ·cases e) la
 go_wp2_with fail
 cases full'
 ·refine (answer_any hp.bu f).mono ?_
  rintro e w3 ⟨rfl, rfl⟩
  have hfin : OpPost base a M vars most w' ns (2 ^ k - 1) (fun q => if ev ns x q then ev ns y q else ev ns z q) (.returned (.tuple #[.int .i64 (f : Int), .int .i64 0])) w3 :=
   ⟨ns', hp.bu.ar, hK, X, l1, Or.inl ⟨f, rfl, lt, fun q => by rw [(sm rfl).2.ev q]; simp only [X.ev wf wf' _ i1, X.ev wf wf' _ i2, X.ev wf wf' _ i3]⟩⟩
  clear hp hK
  go_wp2_with fail
  go_ret2
  exact hfin
 ·refine (answer_any hp.bu f).mono ?_
  rintro e w3 ⟨rfl, rfl⟩
  have hfin : OpPost base a M vars most w' ns (2 ^ k - 1) (fun q => if ev ns x q then ev ns y q else ev ns z q) (.returned (.tuple #[.int .i64 0, .int .i64 6])) w3 :=
   ⟨ns', hp.bu.ar, hK, X, l1, Or.inr ⟨rfl, hp.bu.full_len rfl⟩⟩
  clear hp hK
  go_wp2_with fail
  go_ret2
  exact hfin
theorem ite_ok (h : Ar base a M vars most w ns) {c : Nd} (hc : Inside ns c) :
  Calls Tryz.prog 133 #[.pointer (some ⟨a, 0, none⟩), .int .i64 (c.1 : Int), .int .i64 (c.2.1 : Int), .int .i64 (c.2.2 : Int)] w (OpPost base a M vars most w ns (2 ^ vars - 1) fun x => if ev ns c.1 x then ev ns c.2.1 x else ev ns c.2.2 x) := ite_fit (fun _ => true) h hc (fit_all (Nat.le_add_left _ _)) h.vars16
theorem OpPost.of {w : World} {g : Nat} {φ ψ : Env -> Bool} {e : Ending} {w' : World} (h : OpPost base a M vars most w ns g φ e w') (hq : ∀ q, φ q = ψ q) : OpPost base a M vars most w ns g ψ e w' := by
 obtain ⟨ns', r1, r2, r3, r4, r5⟩ := h
 refine ⟨ns', r1, r2, r3, r4, ?_⟩
 rcases r5 with ⟨f, e1, e2, e3⟩ | r5
 ·exact Or.inl ⟨f, e1, e2, fun q => (e3 q).trans (hq q)⟩
 ·exact Or.inr r5
end
structure Hd (p : Prop) : Prop where
 out : p
def envOf (vars b : Nat) : Env := fun i => b.testBit (vars - 1 - i)
theorem intBits_and (a b : Nat) (ha : a < 9223372036854775808) (hb : b < 9223372036854775808) : Go.bits .and .i64 (a : Int) (b : Int) = ((a &&& b : Nat) : Int) := by
 have e1 : BitVec.ofInt 64 (a : Int) = BitVec.ofNat 64 a := by simp
 have e2 : BitVec.ofInt 64 (b : Int) = BitVec.ofNat 64 b := by simp
 have hle : a &&& b <= a := Nat.and_le_left
 have hm : (BitVec.ofNat 64 a &&& BitVec.ofNat 64 b).toNat = a &&& b := by
  simp [BitVec.toNat_and, Nat.mod_eq_of_lt (show a < 18446744073709551616 by omega), Nat.mod_eq_of_lt (show b < 18446744073709551616 by omega)]
 show IntKind.i64.wrap ((BitVec.ofInt 64 (a : Int) &&& BitVec.ofInt 64 (b : Int)).toNat : Int) = _
 rw [e1, e2, hm, IntWalk.i64_in _ (by omega)]
section
variable {base a M vars most : Nat} {w : World} {ns : List Nd}
theorem Ar.kalloc' {base a M vars most : Nat} {w : World} {ns : List Nd} (h : Ar base a M vars most w ns) (o : Obj) : Kp (ca base a M vars most) w (w.alloc o) :=
 ⟨rfl, rfl, rfl, by simp, fun i hi _ _ => Below.heap_alloc w o i hi, Or.inl (rowOf_same (Below.heap_alloc w o _ h.lta)), fun _ _ => cellB (Below.heap_alloc w o _ h.lta)⟩
end
end Go.Proofs.YtlmmeppifkigeaaGreat
