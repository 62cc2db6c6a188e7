/-
  choose, where it goes down.
-/
import Derived.Test.YtgcimcpcnoojnaaWalk4
namespace Go.Proofs.Ytgcimcpcnoojnaa
open Go.RowKit Go.Maps

structure Hq (p : Prop) : Prop where
  out : p

/-- What choose leaves. -/
def ChoosePost (C : Cfg) (w : World) (ns : List Nd) (full : Bool) (N : Nat) (m2 : Mx → Option Nat) (m3 : Nat → Option Nat) (c : Nd) (g : Nat) (e : Ending) (w' : World) : Prop :=
  ∃ f ns' full' N' m1', e = .returned (.int .i64 ((f : Nat) : Int)) ∧ At C w w' ns' full' N' m1' m2 m3 ∧ Ext ns ns' ∧ ns'.length ≤ ns.length + g ∧ N' ≤ N + g ∧ f < ns'.length ∧ (full = true → full' = true) ∧ (full' = false → MemoC ns' m1' ∧ IsIte ns' c f)

theorem run_min3 (x y z : Nat) (ts : Array TypeId) (t : TypeId) (W : World) : (Builtin.min_ ts t #[.int .i64 (x : Int), .int .i64 (y : Int), .int .i64 (z : Int)]).run Try.prog W = .ok (.int .i64 ((min (min x y) z : Nat) : Int)) W := by
  have e : ((min (min x y) z : Nat) : Int) = if (z : Int) < (if (y : Int) < (x : Int) then (y : Int) else (x : Int)) then (z : Int) else (if (y : Int) < (x : Int) then (y : Int) else (x : Int)) := by
    split <;> split <;> omega
  rw [e]
  simp [Builtin.min_, Builtin.min2]

section
variable {C : Cfg} {w : World} {ns : List Nd} {N : Nat} {m1 : Nd → Option Nat} {m2 : Mx → Option Nat} {m3 : Nat → Option Nat}

theorem At.memo1 {w0 w' : World} {full : Bool} {m1' : Nd → Option Nat} {c : Nat} (h : At C w0 w ns full N m1 m2 m3) (hc : C.c1 = some c) (hM : MapIs choiceE w' c (N + 1) m1') (hg : w.grownBy w' (some c)) : At C w0 w' ns full (N + 1) m1' m2 m3 := by
  have hb := h.bu
  have kt : ∀ i, i < w.heap.size → i ≠ c → w'.heap[i]? = w.heap[i]? := fun i hi hn => hg.block i hi (by simpa using hn)
  obtain ⟨es, clock, hm⟩ := (hb.o1 c hc).isMap
  obtain ⟨k1, k2, k3⟩ := hb.b_noMap hm
  obtain ⟨_, _, _, rl⟩ := hb.ar.row
  have hr : rowOf w' C.a = rowOf w C.a := rowOf_same (kt _ hb.ar.lta k2.symm)
  refine ⟨⟨hb.ar.same (kt _ hb.ar.lta k2.symm) (kt _ hb.ar.ltM (hb.low1 c hc).2.1.symm) (kt _ rl k3.symm), (kt _ hb.ltb k1.symm).trans hb.blk, hb.lowB, ?_, ?_, ?_, hb.low1, hb.low2, hb.low3, hb.full_len⟩, h.kp.trans ⟨hg.os, hg.tape, hg.output, hg.size, fun i hi hm' _ => kt i hi (fun e => hm' (by subst e; simp [Cfg.mine, hc])), Or.inl hr⟩⟩
  · intro i e
    rw [hc] at e
    cases e
    exact hM
  · exact fun i e => ((hb.o2 i e).same (kt i (hb.o2 i e).lt (fun q => (hb.low2 i e).2.2.1 (q ▸ hc)))).mono (Nat.le_succ _)
  · exact fun i e => ((hb.o3 i e).same (kt i (hb.o3 i e).lt (fun q => (hb.low3 i e).2.2.1 (q ▸ hc)))).mono (Nat.le_succ _)

theorem At.memo2 {w0 w' : World} {full : Bool} {m2' : Mx → Option Nat} {c : Nat} (h : At C w0 w ns full N m1 m2 m3) (hc : C.c2 = some c) (hM : MapIs mixE w' c (N + 1) m2') (hg : w.grownBy w' (some c)) : At C w0 w' ns full (N + 1) m1 m2' m3 := by
  have hb := h.bu
  have kt : ∀ i, i < w.heap.size → i ≠ c → w'.heap[i]? = w.heap[i]? := fun i hi hn => hg.block i hi (by simpa using hn)
  obtain ⟨es, clock, hm⟩ := (hb.o2 c hc).isMap
  obtain ⟨k1, k2, k3⟩ := hb.b_noMap hm
  obtain ⟨_, _, _, rl⟩ := hb.ar.row
  have hr : rowOf w' C.a = rowOf w C.a := rowOf_same (kt _ hb.ar.lta k2.symm)
  refine ⟨⟨hb.ar.same (kt _ hb.ar.lta k2.symm) (kt _ hb.ar.ltM (hb.low2 c hc).2.1.symm) (kt _ rl k3.symm), (kt _ hb.ltb k1.symm).trans hb.blk, hb.lowB, ?_, ?_, ?_, hb.low1, hb.low2, hb.low3, hb.full_len⟩, h.kp.trans ⟨hg.os, hg.tape, hg.output, hg.size, fun i hi hm' _ => kt i hi (fun e => hm' (by subst e; simp [Cfg.mine, hc])), Or.inl hr⟩⟩
  · exact fun i e => ((hb.o1 i e).same (kt i (hb.o1 i e).lt (fun q => (hb.low1 i e).2.2.1 (q ▸ hc)))).mono (Nat.le_succ _)
  · intro i e
    rw [hc] at e
    cases e
    exact hM
  · exact fun i e => ((hb.o3 i e).same (kt i (hb.o3 i e).lt (fun q => (hb.low3 i e).2.2.2 (q ▸ hc)))).mono (Nat.le_succ _)

theorem At.memo3 {w0 w' : World} {full : Bool} {m3' : Nat → Option Nat} {c : Nat} (h : At C w0 w ns full N m1 m2 m3) (hc : C.c3 = some c) (hM : MapIs intE w' c (N + 1) m3') (hg : w.grownBy w' (some c)) : At C w0 w' ns full (N + 1) m1 m2 m3' := by
  have hb := h.bu
  have kt : ∀ i, i < w.heap.size → i ≠ c → w'.heap[i]? = w.heap[i]? := fun i hi hn => hg.block i hi (by simpa using hn)
  obtain ⟨es, clock, hm⟩ := (hb.o3 c hc).isMap
  obtain ⟨k1, k2, k3⟩ := hb.b_noMap hm
  obtain ⟨_, _, _, rl⟩ := hb.ar.row
  have hr : rowOf w' C.a = rowOf w C.a := rowOf_same (kt _ hb.ar.lta k2.symm)
  refine ⟨⟨hb.ar.same (kt _ hb.ar.lta k2.symm) (kt _ hb.ar.ltM (hb.low3 c hc).2.1.symm) (kt _ rl k3.symm), (kt _ hb.ltb k1.symm).trans hb.blk, hb.lowB, ?_, ?_, ?_, hb.low1, hb.low2, hb.low3, hb.full_len⟩, h.kp.trans ⟨hg.os, hg.tape, hg.output, hg.size, fun i hi hm' _ => kt i hi (fun e => hm' (by subst e; simp [Cfg.mine, hc])), Or.inl hr⟩⟩
  · exact fun i e => ((hb.o1 i e).same (kt i (hb.o1 i e).lt (fun q => (hb.low1 i e).2.2.2 (q ▸ hc)))).mono (Nat.le_succ _)
  · exact fun i e => ((hb.o2 i e).same (kt i (hb.o2 i e).lt (fun q => (hb.low2 i e).2.2.2 (q ▸ hc)))).mono (Nat.le_succ _)
  · intro i e
    rw [hc] at e
    cases e
    exact hM

set_option maxHeartbeats 4000000 in
theorem choose_miss (h : Bu C w ns false N m1 m2 m3) {c1 : Nat} (hc1 : C.c1 = some c1) {x y z k : Nat} (hin : Inside ns (x, y, z)) (hx : 2 ≤ x) (hyz : y ≠ z) (hf : m1 (x, y, z) = none) (hk : C.vars ≤ min3 ns (x, y, z) + (k + 1)) (hm : MemoC ns m1) (hN : N + 2 ^ (k + 1) ≤ 1099511627776)
    (ih : Hq (∀ w ns full N m1 c, Bu C w ns full N m1 m2 m3 → Inside ns c → C.vars ≤ min3 ns c + k → (full = false → MemoC ns m1) → N + 2 ^ k ≤ 1099511627776 → Calls Try.prog 92 #[.pointer (some ⟨C.b, 0, none⟩), agg3 c] w (ChoosePost C w ns full N m2 m3 c (2 ^ k - 1)))) :
    Calls Try.prog 92 #[.pointer (some ⟨C.b, 0, none⟩), agg3 (x, y, z)] w (ChoosePost C w ns false N m2 m3 (x, y, z) (2 ^ (k + 1) - 1)) := by
  have hl4 : ns.length ≤ 40000 := Nat.le_trans h.ar.le h.ar.most4
  obtain ⟨i1, i2, i3⟩ := id hin
  simp only [] at i1 i2 i3
  have ho : ok3 (x, y, z) := ⟨by show x < _; omega, by show y < _; omega, by show z < _; omega⟩
  have hA := ((At.refl h).alloc (.cells #[.int .i64 (x : Int), .int .i64 (y : Int), .int .i64 (z : Int)] 124)).drew
  have L := (h.loc #[.int .i64 (x : Int), .int .i64 (y : Int), .int .i64 (z : Int)] 124).drew
  obtain ⟨b0, b1, b2, b3, b4, bf⟩ := h.reads
  have lb := h.ltb
  have hlook := (hA.bu.o1 c1 hc1).look Try.u45 (x := (x, y, z)) ho
  rw [hf] at hlook
  simp only [choiceE, Option.getD_none, Option.isSome_none] at hlook
  rw [hc1] at b2
  have x1 : ((x : Int) == 1) = false := by simp; omega
  have x0 : ((x : Int) == 0) = false := by simp; omega
  have hyz' : ((y : Int) == (z : Int)) = false := by simp; omega
  have wf := h.ar.wf
  have hvm : min3 ns (x, y, z) < C.vars := by
    have := wf.va x hx i1
    simp only [min3]
    omega
  have v16 := h.ar.vars16
  have hmn : ∀ (ts : Array TypeId) (t : TypeId) (W : World), (Builtin.min_ ts t #[.int .i64 (nv ns x : Int), .int .i64 (nv ns y : Int), .int .i64 (nv ns z : Int)]).run Try.prog W = .ok (.int .i64 (min3 ns (x, y, z) : Int)) W := fun ts t W => run_min3 _ _ _ ts t W
  clear h
  go_enter Try.func92, Try.ntmps92
  go_wp2_with fail
  go_cut [5, 6] (fun v5 v6 wx => v5 = .int .i64 0 ∧ v6 = .bool false ∧ At C w wx ns false N m1 m2 m3 ∧ Loc C wx w.heap.size #[.int .i64 (x : Int), .int .i64 (y : Int), .int .i64 (z : Int)] 124)
  case first =>
    go_region
    all_goals
      go_wp2_with fail
      go_meet
      exact ⟨rfl, rfl, hA, L⟩
  case rest =>
    obtain ⟨rfl, rfl, hA1, L1⟩ := hcut
    clear hA L hlook
    obtain ⟨⟨q0, q1, q2⟩, _⟩ := L1.reads
    go_wp2_with fail
    go_cut [7] (fun v7 wx => v7 = .int .i64 (min3 ns (x, y, z) : Int) ∧ At C w wx ns false N m1 m2 m3 ∧ Loc C wx w.heap.size #[.int .i64 (x : Int), .int .i64 (y : Int), .int .i64 (z : Int)] 124)
    case first =>
      have hA2 := hA1.drew
      go_region_held3 (fun w' => w'.cell? ⟨w.heap.size, 0, none⟩ = some (.int .i64 (x : Int)) ∧ w'.cell? ⟨w.heap.size, 1, none⟩ = some (.int .i64 (y : Int)) ∧ w'.cell? ⟨w.heap.size, 2, none⟩ = some (.int .i64 (z : Int))) (go_keep)
        (first | (go_at_call 107; refine (variable_any (At.bu (w0 := w) (by assumption)) (by assumption)).mono ?_; rintro e wn ⟨rfl, rfl⟩))
      go_wp2_with fail
      go_meet
      exact ⟨rfl, hA2, L1.drew⟩
    case rest =>
      obtain ⟨rfl, hA2, L2⟩ := hcut
      clear hA1 L1 q0 q1 q2 hmn
      generalize hv : min3 ns (x, y, z) = v at *
      obtain ⟨⟨q0, q1, q2⟩, _⟩ := L2.reads
      go_wp2_with fail
      refine (partOfChoice_any (c := (x, y, z)) hA2.bu false i1 i2 i3 (by omega)).mono ?_
      rintro e w3 ⟨rfl, hp⟩
      have hA3 := hA2.then hp
      have L3 := L2.kp hp.kp
      clear hp L2 hA2 q0 q1 q2
      go_wp2_with fail
      have hp2 : 2 ^ (k + 1) = 2 * 2 ^ k := by rw [Nat.pow_succ]; omega
      have hp1 : 1 ≤ 2 ^ k := Nat.one_le_two_pow
      have hpm : ∀ val, v < min3 ns (pc ns (x, y, z) v val) := fun val => by
        have := pc_min3 wf hin (by rw [hv]; exact hvm) val
        rw [hv] at this
        exact this
      refine (ih.out w3 ns false N m1 (pc ns (x, y, z) v false) hA3.bu (pc_inside wf hin hvm false) (by have := hpm false; omega) (fun _ => hm) (by omega)).mono ?_
      rintro e w4 ⟨f0, ns1, full1, N1, m11, rfl, hp, X1, l1, n1, lt0, _, s1⟩
      have hA4 := hA3.then hp
      have L4 := L3.kp hp.kp
      clear hp L3 hA3
      have wf1 := hA4.bu.ar.wf
      have hin1 := hin.ext X1
      have pe1 := pc_ext hin X1 v true
      obtain ⟨j1, j2, j3⟩ := id hin1
      obtain ⟨⟨q0, q1, q2⟩, _⟩ := L4.reads
      go_wp2_with fail
      refine (partOfChoice_any (c := (x, y, z)) hA4.bu true j1 j2 j3 (by omega)).mono ?_
      rintro e w5 ⟨rfl, hp⟩
      have hA5 := hA4.then hp
      have L5 := L4.kp hp.kp
      clear hp L4 hA4 q0 q1 q2
      go_wp2_with fail
      refine (ih.out w5 ns1 full1 N1 m11 (pc ns1 (x, y, z) v true) hA5.bu (pc_inside wf1 hin1 hvm true) (by have := hpm true; rw [pe1, min3_ext (pc_inside wf hin hvm true) X1]; omega) (fun e => (s1 e).1) (by omega)).mono ?_
      rintro e w6 ⟨f1, ns2, full2, N2, m12, rfl, hp, X2, l2, n2, lt1, mo2, s2⟩
      have hA6 := hA5.then hp
      have L6 := L5.kp hp.kp
      clear hp L5 hA5
      have wf2 := hA6.bu.ar.wf
      have X2l := X2.len
      have sem2 : full2 = false → MemoC ns2 m12 ∧ IsIte ns2 (pc ns (x, y, z) v false) f0 ∧ IsIte ns2 (pc ns (x, y, z) v true) f1 := fun e2 => by
        have e1 : full1 = false := by cases full1 <;> simp_all
        have a1 := (s1 e1).2.ext X2 wf1 wf2
        have a2 := s2 e2
        rw [pe1] at a2
        exact ⟨a2.1, a1, a2.2⟩
      go_wp2_with fail
      refine (numberOf_any hA6.bu (v := v) (l := f0) (u := f1) hvm (by omega) lt1 (fun e2 => ?_)).mono ?_
      · obtain ⟨_, a1, a2⟩ := sem2 e2
        have b1 := a1.va
        have b2 := a2.va
        rw [min3_ext (pc_inside wf hin hvm _) (X1.trans X2)] at b1 b2
        have := hpm false
        have := hpm true
        omega
      rintro e w7 ⟨f, ns3, full3, rfl, hp, X3, l3, lt3, mo3, s3⟩
      have hA7 := (hA6.then hp).drew
      have L7 := (L6.kp hp.kp).drew
      clear hp L6 hA6
      have wf3 := hA7.bu.ar.wf
      have len3 : ns3.length ≤ 40000 := Nat.le_trans hA7.bu.ar.le hA7.bu.ar.most4
      obtain ⟨w8, hrun, hM8, hg8⟩ := (hA7.bu.o1 c1 hc1).store Try.u45 (by unfold maxLen; omega) (x := (x, y, z)) ho (v := f) (by omega)
      have hA8 := hA7.memo1 hc1 hM8 hg8
      obtain ⟨⟨q0, q1, q2⟩, _⟩ := L7.reads
      obtain ⟨d0, d1, d2, d3, d4, df⟩ := hA7.bu.reads
      rw [hc1] at d2
      simp only [choiceE] at hrun
      have hfin : ChoosePost C w ns false N m2 m3 (x, y, z) (2 ^ (k + 1) - 1) (.returned (.int .i64 (f : Int))) w8 := by
        refine ⟨f, ns3, full3, N2 + 1, _, rfl, hA8, (X1.trans X2).trans X3, by omega, by omega, lt3, (fun e => by cases e), fun e3 => ?_⟩
        have e2 : full2 = false := by cases full2 <;> simp_all
        obtain ⟨a0, a1, a2⟩ := sem2 e2
        have X03 := (X1.trans X2).trans X3
        have J : IsIte ns3 (x, y, z) f := by
          refine isIte_join wf3 (hin.ext X03) (by rw [min3_ext hin X03, hv]; exact hvm) ?_ ?_ (by rw [min3_ext hin X03, hv]; exact s3 e3)
          · rw [min3_ext hin X03, hv, pc_ext hin X03]; exact a1.ext X3 wf2 wf3
          · rw [min3_ext hin X03, hv, pc_ext hin X03]; exact a2.ext X3 wf2 wf3
        exact ⟨(a0.ext X3 wf2 wf3).upd J, J⟩
      clear hA7 hM8 hg8 L7 hA8
      go_wp2_with fail
      go_region
      all_goals
        go_wp2_with fail
        go_ret
        exact hfin

/-- choose. -/
theorem choose_any {c1 : Nat} (hc1 : C.c1 = some c1) : ∀ (k : Nat) (w : World) (ns : List Nd) (full : Bool) (N : Nat) (m1 : Nd → Option Nat) (c : Nd), Bu C w ns full N m1 m2 m3 → Inside ns c → C.vars ≤ min3 ns c + k → (full = false → MemoC ns m1) →
    N + 2 ^ k ≤ 1099511627776 → Calls Try.prog 92 #[.pointer (some ⟨C.b, 0, none⟩), agg3 c] w (ChoosePost C w ns full N m2 m3 c (2 ^ k - 1)) := by
  intro k
  induction k with
  | zero =>
    intro w ns full N m1 c h hin hk hm hN
    cases full
    · obtain ⟨x, y, z⟩ := c
      have hx : x < 2 := by
        have := h.ar.wf.va x
        have k1 : min3 ns (x, y, z) ≤ nv ns x := by simp only [min3]; omega
        by_cases h2 : 2 ≤ x
        · have := this h2 hin.1; omega
        · omega
      by_cases h1 : x = 1
      · subst h1
        refine (choose_1 h y z).mono ?_
        rintro e w' ⟨rfl, hA⟩
        exact ⟨y, ns, false, N, m1, rfl, hA, Ext.refl _, by omega, by omega, hin.2.1, id, fun _ => ⟨hm rfl, isIte_1 hin rfl⟩⟩
      · obtain rfl : x = 0 := by omega
        by_cases hyz : y = z
        · subst hyz
          refine (choose_same h 0 y h1).mono ?_
          rintro e w' ⟨rfl, hA⟩
          exact ⟨y, ns, false, N, m1, rfl, hA, Ext.refl _, by omega, by omega, hin.2.1, id, fun _ => ⟨hm rfl, isIte_same hin rfl⟩⟩
        · refine (choose_0 h y z hyz).mono ?_
          rintro e w' ⟨rfl, hA⟩
          exact ⟨z, ns, false, N, m1, rfl, hA, Ext.refl _, by omega, by omega, hin.2.2, id, fun _ => ⟨hm rfl, isIte_0 hin rfl⟩⟩
    · refine (choose_full h c).mono ?_
      rintro e w' ⟨rfl, hA⟩
      exact ⟨0, ns, true, N, m1, rfl, hA, Ext.refl _, by omega, by omega, (by have := h.ar.wf.len; omega), id, fun e => by cases e⟩
  | succ k ih =>
    intro w ns full N m1 c h hin hk hm hN
    cases full
    · obtain ⟨x, y, z⟩ := c
      by_cases h1 : x = 1
      · subst h1
        refine (choose_1 h y z).mono ?_
        rintro e w' ⟨rfl, hA⟩
        exact ⟨y, ns, false, N, m1, rfl, hA, Ext.refl _, by omega, by omega, hin.2.1, id, fun _ => ⟨hm rfl, isIte_1 hin rfl⟩⟩
      · by_cases hyz : y = z
        · subst hyz
          refine (choose_same h x y h1).mono ?_
          rintro e w' ⟨rfl, hA⟩
          exact ⟨y, ns, false, N, m1, rfl, hA, Ext.refl _, by omega, by omega, hin.2.1, id, fun _ => ⟨hm rfl, isIte_same hin rfl⟩⟩
        · by_cases h0 : x = 0
          · subst h0
            refine (choose_0 h y z hyz).mono ?_
            rintro e w' ⟨rfl, hA⟩
            exact ⟨z, ns, false, N, m1, rfl, hA, Ext.refl _, by omega, by omega, hin.2.2, id, fun _ => ⟨hm rfl, isIte_0 hin rfl⟩⟩
          · have hl4 : ns.length ≤ 40000 := Nat.le_trans h.ar.le h.ar.most4
            obtain ⟨i1, i2, i3⟩ := id hin
            simp only [] at i1 i2 i3
            cases hf : m1 (x, y, z) with
            | none => exact choose_miss h hc1 hin (by omega) hyz hf hk (hm rfl) hN ⟨ih⟩
            | some f =>
              refine (choose_hit h hc1 ⟨by show x < _; omega, by show y < _; omega, by show z < _; omega⟩ (by omega) hyz hf).mono ?_
              rintro e w' ⟨rfl, hA⟩
              have J := hm rfl _ _ hf
              exact ⟨f, ns, false, N, m1, rfl, hA, Ext.refl _, by omega, by omega, J.lt, id, fun _ => ⟨hm rfl, J⟩⟩
    · refine (choose_full h c).mono ?_
      rintro e w' ⟨rfl, hA⟩
      exact ⟨0, ns, true, N, m1, rfl, hA, Ext.refl _, by omega, by omega, (by have := h.ar.wf.len; omega), id, fun e => by cases e⟩
end
end Go.Proofs.Ytgcimcpcnoojnaa


