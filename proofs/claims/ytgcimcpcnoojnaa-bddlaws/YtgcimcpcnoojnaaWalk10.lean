/-
  swap, at the first of the two variables; swap whole.
-/
import Derived.Test.YtgcimcpcnoojnaaWalk9
namespace Go.Proofs.Ytgcimcpcnoojnaa
open Go.RowKit Go.Maps

section
variable {C : Cfg} {w : World} {ns : List Nd} {N : Nat} {m1 : Nd → Option Nat} {m2 : Mx → Option Nat} {m3 : Nat → Option Nat}

set_option maxHeartbeats 4000000 in
set_option maxRecDepth 100000 in
theorem swap_here (h : Bu C w ns false N m1 m2 m3) {c3 : Nat} (hc3 : C.c3 = some c3) {f i j k : Nat} (hij : i < j) (hj : j < C.vars) (hf : f < ns.length) (hi : i ≤ nv ns f) (hfj : nv ns f ≤ j) (hr : m3 f = none) (hk : C.vars ≤ i + (k + 1)) (hmb : MemoB ns j m2) (hms : MemoS ns i j m3) (hN : N + 2 ^ (k + 1) ≤ 1099511627776)
    (hbl : Hq (∀ w ns full N m2 x, Bu C w ns full N m1 m2 m3 → InsideM ns x → j + 1 ≤ minb ns x j + k → (full = false → MemoB ns j m2) → N + 2 ^ k ≤ 1099511627776 → Calls Try.prog 105 #[.pointer (some ⟨C.b, 0, none⟩), aggx x, .int .i64 (j : Int)] w (BlendPost C w ns full N m1 m3 j x (2 ^ k - 1)))) :
    Calls Try.prog 90 #[.pointer (some ⟨C.b, 0, none⟩), .int .i64 (f : Int), .int .i64 (i : Int), .int .i64 (j : Int)] w (SwapPost C w ns false N m1 i j f (2 ^ (k + 1) - 1)) := by
  have hA := (At.refl h).alloc (.cells #[.int .i64 (nv ns f : Int), .int .i64 (nl ns f : Int), .int .i64 (nh ns f : Int)] 87)
  have hA1 := hA.alloc (.cells #[.int .i64 (i : Int), .int .i64 0, .int .i64 0] 87)
  have M1 := hA.loc #[.int .i64 (i : Int), .int .i64 0, .int .i64 0] 87
  rw [show (w.alloc (.cells #[.int .i64 (nv ns f : Int), .int .i64 (nl ns f : Int), .int .i64 (nh ns f : Int)] 87)).heap.size = w.heap.size + 1 by simp] at M1
  obtain ⟨b0, b1, b2, b3, b4, bf⟩ := h.reads
  obtain ⟨cap, a0, a1, a2, a3, af, an⟩ := h.ar.reads
  obtain ⟨n0, n1, n2⟩ := an f hf
  have hl : ns.length ≤ 40000 := Nat.le_trans h.ar.le h.ar.most4
  have lb := h.ltb
  have wf := h.ar.wf
  have v16 := h.ar.vars16
  have hp2 : 2 ^ (k + 1) = 2 * 2 ^ k := by rw [Nat.pow_succ]; omega
  have hp1 : 1 ≤ 2 ^ k := Nat.one_le_two_pow
  have t1 : decide ((j : Int) < (nv ns f : Int)) = false := by simp; omega
  have t2 : decide ((nv ns f : Int) < (i : Int)) = false := by simp; omega
  have hmn : ∀ (ts : Array TypeId) (t : TypeId) (W : World), (Builtin.min_ ts t #[.int .i64 (nv ns f : Int), .int .i64 (i : Int)]).run Try.prog W = .ok (.int .i64 (i : Int)) W := fun ts t W => by
    have := run_min2 (nv ns f) i ts t W
    rw [show min (nv ns f) i = i by omega] at this
    exact this
  have hlook := (hA.bu.o3 c3 hc3).look Try.u47 (x := f) (by show f < _; omega)
  rw [hr] at hlook
  simp only [intE, Option.getD_none, Option.isSome_none] at hlook
  rw [hc3] at b4
  have hiv : i < C.vars := by omega
  have lp0 := partOf_lt wf hf hiv false
  have lp1 := partOf_lt wf hf hiv true
  have vp0 := partOf_va wf hf hiv hi false
  have vp1 := partOf_va wf hf hiv hi true
  clear h an
  generalize rowOf w C.a = g at *
  go_enter Try.func90, Try.ntmps90
  go_wp2_with fail
  refine (part_any hA1.bu false hf (by omega)).mono ?_
  rintro e w2 ⟨rfl, hp⟩
  have hA2 := hA1.then hp
  have M2 := M1.kp hp.kp
  clear hp hA hA1 M1 hlook b0 b1 b2 b3 b4 bf a0 a1 a2 a3 af n0 n1 n2 hmn
  go_wp2_with fail
  refine (part_any hA2.bu true hf (by omega)).mono ?_
  rintro e w3 ⟨rfl, hp⟩
  have hA3 := hA2.then hp
  have M3 := M2.kp hp.kp
  clear hp hA2 M2
  generalize hq0 : partOf ns f i false = x0 at *
  generalize hq1 : partOf ns f i true = x1 at *
  have hin : ∀ z, InsideM ns (x0, x1, z) := fun z => ⟨lp0, lp1⟩
  have hmi : ∀ z, i < minb ns (x0, x1, z) j := fun z => by simp only [minb]; omega
  go_wp2_with fail
  refine (hbl.out _ ns false N m2 (x0, x1, false) hA3.bu (hin false) (by have := hmi false; omega) (fun _ => hmb) (by omega)).mono ?_
  rintro e w4 ⟨f0, ns1, full1, N1, m21, rfl, hp, X1, l1, k1, lt0, _, s1⟩
  have hA4 := hA3.then hp
  have M4 := M3.kp hp.kp
  clear hp hA3 M3
  have wf1 := hA4.bu.ar.wf
  have X1l := X1.len
  obtain ⟨⟨p0, p1, p2⟩, g0, g1, g2⟩ := M4.reads
  have hA5 := hA4.set (p := ⟨w.heap.size + 1, 1, none⟩) M4.out (Nat.le_succ _) (.int .i64 (f0 : Int))
  have M5 := M4.set (j := 1) (.int .i64 (f0 : Int))
  simp only [List.setIfInBounds_toArray, List.set_cons_succ, List.set_cons_zero] at M5
  go_wp2_with fail
  refine (hbl.out _ ns1 full1 N1 m21 (x0, x1, true) hA5.bu ((hin true).ext X1) (by rw [minb_ext (hin true) X1]; have := hmi true; omega) (fun e => (s1 e).1) (by omega)).mono ?_
  rintro e w6 ⟨f1, ns2, full2, N2, m22, rfl, hp, X2, l2, k2, lt1, mo2, s2⟩
  have hA6 := hA5.then hp
  have M6 := M5.kp hp.kp
  clear hp M4 hA4 p0 p1 p2 g0 g1 g2 hA5 M5
  have wf2 := hA6.bu.ar.wf
  have X2l := X2.len
  have X02 := X1.trans X2
  have sem2 : full2 = false → MemoB ns2 j m22 ∧ IsBl ns2 j (x0, x1, false) f0 ∧ IsBl ns2 j (x0, x1, true) f1 := fun e2 => by
    have e1 : full1 = false := by cases full1 <;> simp_all
    exact ⟨(s2 e2).1, (s1 e1).2.ext X2 wf1 wf2, (s2 e2).2⟩
  obtain ⟨⟨p0, p1, p2⟩, g0, g1, g2⟩ := M6.reads
  have hA7 := hA6.set (p := ⟨w.heap.size + 1, 2, none⟩) M6.out (Nat.le_succ _) (.int .i64 (f1 : Int))
  have M7 := M6.set (j := 2) (.int .i64 (f1 : Int))
  simp only [List.setIfInBounds_toArray, List.set_cons_succ, List.set_cons_zero] at M7
  obtain ⟨⟨p0', p1', p2'⟩, _⟩ := M7.reads
  go_wp2_with fail
  refine (numberOf_any hA7.bu (v := i) (l := f0) (u := f1) (by omega) (by omega) lt1 (fun e2 => ?_)).mono ?_
  · obtain ⟨_, a1, a2⟩ := sem2 e2
    have c1 := a1.va
    have c2 := a2.va
    rw [minb_ext (hin _) X02] at c1 c2
    have := hmi false
    have := hmi true
    omega
  rintro e w7 ⟨r, ns3, full3, rfl, hp, X3, l3, lt3, mo3, s3⟩
  have hA8 := hA7.then hp
  clear hp M6 hA6 hA7 M7 p0 p1 p2 g0 g1 g2 p0' p1' p2'
  have wf3 := hA8.bu.ar.wf
  have len3 : ns3.length ≤ 40000 := Nat.le_trans hA8.bu.ar.le hA8.bu.ar.most4
  obtain ⟨w8, hrun, hM8, hg8⟩ := (hA8.bu.o3 c3 hc3).store Try.u47 (by unfold maxLen; omega) (x := f) (by show f < _; omega) (v := r) (by omega)
  have hA9 := hA8.memo3 hc3 hM8 hg8
  obtain ⟨d0, d1, d2, d3, d4, df⟩ := hA8.bu.reads
  rw [hc3] at d4
  simp only [intE] at hrun
  have hfin : SwapPost C w ns false N m1 i j f (2 ^ (k + 1) - 1) (.returned (.int .i64 (r : Int))) w8 := by
    refine ⟨r, ns3, full3, N2 + 1, m22, _, rfl, hA9, X02.trans X3, by omega, by omega, lt3, (fun e => by cases e), fun e3 => ?_⟩
    have e2 : full2 = false := by cases full2 <;> simp_all
    obtain ⟨a0, a1, a2⟩ := sem2 e2
    have X03 := X02.trans X3
    have X03l := X03.len
    have J : IsSw ns3 i j f r := by
      refine isSw_here (l := f0) (u := f1) wf3 hij hj (by omega) (by rw [X03.va hf]; exact hi) ?_ ?_ (s3 e3)
      · rw [partOf_ext X03 hf, partOf_ext X03 hf, hq0, hq1]; exact a1.ext X3 wf2 wf3
      · rw [partOf_ext X03 hf, partOf_ext X03 hf, hq0, hq1]; exact a2.ext X3 wf2 wf3
    exact ⟨a0.ext X3 wf2 wf3, (hms.ext X03 wf wf3).upd J, J⟩
  clear hA8 hM8 hg8 hA9
  go_wp2_with fail
  go_ret
  exact hfin

theorem swap_any {c2 c3 : Nat} (hc2 : C.c2 = some c2) (hc3 : C.c3 = some c3) {i j : Nat} (hij : i < j) (hj : j < C.vars) : ∀ (k : Nat) (w : World) (ns : List Nd) (full : Bool) (N : Nat) (m2 : Mx → Option Nat) (m3 : Nat → Option Nat) (f : Nat), Bu C w ns full N m1 m2 m3 → f < ns.length → C.vars ≤ min (nv ns f) i + k →
    (full = false → MemoB ns j m2 ∧ MemoS ns i j m3) → N + 2 ^ k ≤ 1099511627776 → Calls Try.prog 90 #[.pointer (some ⟨C.b, 0, none⟩), .int .i64 (f : Int), .int .i64 (i : Int), .int .i64 (j : Int)] w (SwapPost C w ns full N m1 i j f (2 ^ k - 1)) := by
  intro k
  induction k with
  | zero =>
    intro w ns full N m2 m3 f h hf hk
    omega
  | succ k ih =>
    intro w ns full N m2 m3 f h hf hk hm hN
    cases full
    · by_cases hfj : j < nv ns f
      · refine (swap_far h hf hfj).mono ?_
        rintro e w' ⟨rfl, hA⟩
        exact ⟨f, ns, false, N, m2, m3, rfl, hA, Ext.refl _, by omega, by omega, hf, id, fun _ => ⟨(hm rfl).1, (hm rfl).2, isSw_far h.ar.wf hij hf hfj⟩⟩
      · cases hr : m3 f with
        | none =>
          by_cases hi : nv ns f < i
          · exact swap_up h hc3 hij hj hf hi hr hk (hm rfl).1 (hm rfl).2 hN ⟨ih⟩
          · exact swap_here h hc3 hij hj hf (by omega) (by omega) hr (by omega) (hm rfl).1 (hm rfl).2 hN ⟨fun w ns full N m2 x => blend_any hc2 hj k w ns full N m2 x⟩
        | some r =>
          refine (swap_hit h hc3 hf (by omega) hr).mono ?_
          rintro e w' ⟨rfl, hA⟩
          have J := (hm rfl).2 _ _ hr
          exact ⟨r, ns, false, N, m2, m3, rfl, hA, Ext.refl _, by omega, by omega, J.lt, id, fun _ => ⟨(hm rfl).1, (hm rfl).2, J⟩⟩
    · refine (swap_full h hf i j).mono ?_
      rintro e w' ⟨rfl, hA⟩
      exact ⟨0, ns, true, N, m2, m3, rfl, hA, Ext.refl _, by omega, by omega, (by have := h.ar.wf.len; omega), id, fun e => by cases e⟩
end
end Go.Proofs.Ytgcimcpcnoojnaa


