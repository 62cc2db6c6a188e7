/-
  exists.
-/
import Derived.Test.YtgcimcpcnoojnaaWalk5
namespace Go.Proofs.Ytgcimcpcnoojnaa
open Go.RowKit Go.Maps

/-- g is true where f is with variable i false, or with it true. -/
structure IsEx (ns : List Nd) (i f g : Nat) : Prop where
  ltf : f < ns.length
  lt : g < ns.length
  ev : ∀ e, ev ns g e = (ev ns f (setE e i false) || ev ns f (setE e i true))
  va : nv ns f ≤ nv ns g
section
variable {vars : Nat} {ns ns' : List Nd}
theorem IsEx.ext {i f g : Nat} (h : IsEx ns i f g) (X : Ext ns ns') (wf : Wf vars ns) (wf' : Wf vars ns') : IsEx ns' i f g := by
  have hl := X.len
  have lt := h.lt
  have ltf := h.ltf
  refine ⟨by omega, by omega, fun e => ?_, ?_⟩
  · rw [X.ev wf wf' _ h.lt, X.ev wf wf' _ h.ltf, X.ev wf wf' _ h.ltf]; exact h.ev e
  · rw [X.va h.ltf, X.va h.lt]; exact h.va
def MemoE (ns : List Nd) (i : Nat) (m : Nat → Option Nat) : Prop := ∀ f g, m f = some g → IsEx ns i f g
theorem MemoE.ext {i : Nat} {m : Nat → Option Nat} (h : MemoE ns i m) (X : Ext ns ns') (wf : Wf vars ns) (wf' : Wf vars ns') : MemoE ns' i m := fun c f e => (h c f e).ext X wf wf'
theorem MemoE.upd {i : Nat} {m : Nat → Option Nat} (h : MemoE ns i m) {c f : Nat} (hf : IsEx ns i c f) : MemoE ns i (upd m c f) := by
  intro d g hg
  unfold Ytgcimcpcnoojnaa.upd at hg
  by_cases e : d = c
  · subst e
    rw [if_pos rfl] at hg
    cases hg
    exact hf
  · rw [if_neg e] at hg
    exact h d g hg
theorem isEx_far (wf : Wf vars ns) {i f : Nat} (hf : f < ns.length) (hi : i < nv ns f) : IsEx ns i f f := ⟨hf, hf, fun e => by rw [ev_skip wf hf hi, ev_skip wf hf hi]; simp, Nat.le_refl _⟩
theorem isEx_here (wf : Wf vars ns) {f g : Nat} (f2 : 2 ≤ f) (hf : f < ns.length) (h : IsIte ns (nl ns f, 1, nh ns f) g) : IsEx ns (nv ns f) f g := by
  refine ⟨hf, h.lt, fun e => ?_, ?_⟩
  · rw [ev_set wf f2 hf, ev_set wf f2 hf, h.ev e]
    simp only [ev1]
    cases ev ns (nl ns f) e <;> simp
  · have a := h.va
    have v1 := wf.vlo f f2 hf
    have v2 := wf.vhi f f2 hf
    have v0 := wf.va f f2 hf
    have e1 : nv ns 1 = vars := by rw [nv, wf.n1]
    simp only [min3, e1] at a
    omega
theorem setE_comm (e : Env) {i j : Nat} (h : i ≠ j) (a b : Bool) : setE (setE e i a) j b = setE (setE e j b) i a := by
  funext x
  unfold setE
  by_cases h1 : x = j <;> by_cases h2 : x = i <;> simp_all
theorem isEx_join (wf : Wf vars ns) {i f l u g : Nat} (f2 : 2 ≤ f) (hf : f < ns.length) (hi : nv ns f < i) (h0 : IsEx ns i (nl ns f) l) (h1 : IsEx ns i (nh ns f) u) (hn : IsNode ns (nv ns f) l u g) : IsEx ns i f g := by
  refine ⟨hf, hn.lt, fun e => ?_, hn.va⟩
  have ne : nv ns f ≠ i := by omega
  rw [hn.ev, h0.ev, h1.ev, ev_node wf f2 hf, ev_node wf f2 hf, setE_ne e _ ne, setE_ne e _ ne]
  cases e (nv ns f) <;> simp
end

/-- What exists leaves. -/
def ExistsPost (C : Cfg) (w : World) (ns : List Nd) (full : Bool) (N : Nat) (m2 : Mx → Option Nat) (i f : Nat) (g : Nat) (e : Ending) (w' : World) : Prop :=
  ∃ r ns' full' N' m1' m3', e = .returned (.int .i64 ((r : Nat) : Int)) ∧ At C w w' ns' full' N' m1' m2 m3' ∧ Ext ns ns' ∧ ns'.length ≤ ns.length + g ∧ N' ≤ N + g ∧ r < ns'.length ∧ (full = true → full' = true) ∧ (full' = false → MemoC ns' m1' ∧ MemoE ns' i m3' ∧ IsEx ns' i f r)

section
variable {C : Cfg} {w : World} {ns : List Nd} {N : Nat} {m1 : Nd → Option Nat} {m2 : Mx → Option Nat} {m3 : Nat → Option Nat}

set_option maxHeartbeats 1000000 in
set_option maxRecDepth 100000 in
theorem exists_full (h : Bu C w ns true N m1 m2 m3) {f : Nat} (hf : f < ns.length) (i : Nat) :
    Calls Try.prog 89 #[.pointer (some ⟨C.b, 0, none⟩), .int .i64 (f : Int), .int .i64 (i : Int)] w fun e w' => e = .returned (.int .i64 0) ∧ At C w w' ns true N m1 m2 m3 := by
  have hA := (At.refl h).alloc (.cells #[.int .i64 (nv ns f : Int), .int .i64 (nl ns f : Int), .int .i64 (nh ns f : Int)] 87)
  obtain ⟨b0, b1, b2, b3, b4, bf⟩ := h.reads
  obtain ⟨cap, a0, a1, a2, a3, af, an⟩ := h.ar.reads
  obtain ⟨n0, n1, n2⟩ := an f hf
  have hl : ns.length ≤ 40000 := Nat.le_trans h.ar.le h.ar.most4
  have lb := h.ltb
  clear h an
  generalize rowOf w C.a = g at *
  go_enter Try.func89, Try.ntmps89
  go_wp2_with fail
  go_ret
  exact ⟨rfl, hA⟩

set_option maxHeartbeats 1000000 in
set_option maxRecDepth 100000 in
theorem exists_far (h : Bu C w ns false N m1 m2 m3) {f i : Nat} (hf : f < ns.length) (hi : i < nv ns f) :
    Calls Try.prog 89 #[.pointer (some ⟨C.b, 0, none⟩), .int .i64 (f : Int), .int .i64 (i : Int)] w fun e w' => e = .returned (.int .i64 (f : Int)) ∧ At C w w' ns false N m1 m2 m3 := by
  have hA := (At.refl h).alloc (.cells #[.int .i64 (nv ns f : Int), .int .i64 (nl ns f : Int), .int .i64 (nh ns f : Int)] 87)
  obtain ⟨b0, b1, b2, b3, b4, bf⟩ := h.reads
  obtain ⟨cap, a0, a1, a2, a3, af, an⟩ := h.ar.reads
  obtain ⟨n0, n1, n2⟩ := an f hf
  have hl : ns.length ≤ 40000 := Nat.le_trans h.ar.le h.ar.most4
  have lb := h.ltb
  have t1 : decide ((i : Int) < (nv ns f : Int)) = true := by simp; omega
  clear h an
  generalize rowOf w C.a = g at *
  go_enter Try.func89, Try.ntmps89
  go_wp2_with fail
  go_ret
  exact ⟨rfl, hA⟩

set_option maxHeartbeats 2000000 in
set_option maxRecDepth 100000 in
theorem exists_here (h : Bu C w ns false N m1 m2 m3) {f i k : Nat} (f2 : 2 ≤ f) (hf : f < ns.length) (hi : nv ns f = i) (hme : MemoE ns i m3)
    (hch : Hq (∀ w, Bu C w ns false N m1 m2 m3 → Calls Try.prog 92 #[.pointer (some ⟨C.b, 0, none⟩), agg3 (nl ns f, 1, nh ns f)] w (ChoosePost C w ns false N m2 m3 (nl ns f, 1, nh ns f) (2 ^ k - 1)))) :
    Calls Try.prog 89 #[.pointer (some ⟨C.b, 0, none⟩), .int .i64 (f : Int), .int .i64 (i : Int)] w (ExistsPost C w ns false N m2 i f (2 ^ k - 1)) := by
  subst hi
  have hA := (At.refl h).alloc (.cells #[.int .i64 (nv ns f : Int), .int .i64 (nl ns f : Int), .int .i64 (nh ns f : Int)] 87)
  obtain ⟨b0, b1, b2, b3, b4, bf⟩ := h.reads
  obtain ⟨cap, a0, a1, a2, a3, af, an⟩ := h.ar.reads
  obtain ⟨n0, n1, n2⟩ := an f hf
  have hl : ns.length ≤ 40000 := Nat.le_trans h.ar.le h.ar.most4
  have lb := h.ltb
  have wf := h.ar.wf
  clear h an
  generalize rowOf w C.a = g at *
  go_enter Try.func89, Try.ntmps89
  go_wp2_with fail
  refine (hch.out _ hA.bu).mono ?_
  rintro e w4 ⟨r, ns1, full1, N1, m11, rfl, hp, X1, l1, n1, lt0, mo, s1⟩
  have hA4 := hA.then hp
  have wf1 := hA4.bu.ar.wf
  have hfin : ExistsPost C w ns false N m2 (nv ns f) f (2 ^ k - 1) (.returned (.int .i64 (r : Int))) w4 := by
    refine ⟨r, ns1, full1, N1, m11, m3, rfl, hA4, X1, l1, n1, lt0, mo, fun e1 => ⟨(s1 e1).1, hme.ext X1 wf wf1, ?_⟩⟩
    have j := (s1 e1).2
    have en : nd ns1 f = nd ns f := X1.nd hf
    have := X1.len
    have q := isEx_here wf1 f2 (by omega) (by rw [nl, nh, en]; exact j)
    rw [nv, en] at q
    exact q
  clear hp hA4
  go_wp2_with fail
  go_ret
  exact hfin

set_option maxHeartbeats 1000000 in
set_option maxRecDepth 100000 in
theorem exists_hit (h : Bu C w ns false N m1 m2 m3) {c3 : Nat} (hc3 : C.c3 = some c3) {f i r : Nat} (hf : f < ns.length) (hi : nv ns f < i) (hr : m3 f = some r) :
    Calls Try.prog 89 #[.pointer (some ⟨C.b, 0, none⟩), .int .i64 (f : Int), .int .i64 (i : Int)] w fun e w' => e = .returned (.int .i64 (r : Int)) ∧ At C w w' ns false N m1 m2 m3 := by
  have hA := (At.refl h).alloc (.cells #[.int .i64 (nv ns f : Int), .int .i64 (nl ns f : Int), .int .i64 (nh ns f : Int)] 87)
  obtain ⟨b0, b1, b2, b3, b4, bf⟩ := h.reads
  obtain ⟨cap, a0, a1, a2, a3, af, an⟩ := h.ar.reads
  obtain ⟨n0, n1, n2⟩ := an f hf
  have hl : ns.length ≤ 40000 := Nat.le_trans h.ar.le h.ar.most4
  have lb := h.ltb
  have t1 : decide ((i : Int) < (nv ns f : Int)) = false := by simp; omega
  have t2 : ((nv ns f : Int) == (i : Int)) = false := by simp; omega
  have hlook := (hA.bu.o3 c3 hc3).look Try.u47 (x := f) (by show f < _; omega)
  rw [hr] at hlook
  simp only [intE, Option.getD_some, Option.isSome_some] at hlook
  rw [hc3] at b4
  clear h an
  generalize rowOf w C.a = g at *
  go_enter Try.func89, Try.ntmps89
  go_wp2_with fail
  go_ret
  exact ⟨rfl, hA⟩

set_option maxHeartbeats 4000000 in
set_option maxRecDepth 100000 in
theorem exists_miss (h : Bu C w ns false N m1 m2 m3) {c3 : Nat} (hc3 : C.c3 = some c3) {f i k : Nat} (hf : f < ns.length) (hi : nv ns f < i) (hiv : i < C.vars) (hr : m3 f = none) (hk : C.vars ≤ nv ns f + (k + 1)) (hmc : MemoC ns m1) (hme : MemoE ns i m3) (hN : N + 2 ^ (k + 1) ≤ 1099511627776)
    (ih : Hq (∀ w ns full N m1 m3 f, Bu C w ns full N m1 m2 m3 → f < ns.length → C.vars ≤ nv ns f + k → (full = false → MemoC ns m1 ∧ MemoE ns i m3) → N + 2 ^ k ≤ 1099511627776 → Calls Try.prog 89 #[.pointer (some ⟨C.b, 0, none⟩), .int .i64 (f : Int), .int .i64 (i : Int)] w (ExistsPost C w ns full N m2 i f (2 ^ k - 1)))) :
    Calls Try.prog 89 #[.pointer (some ⟨C.b, 0, none⟩), .int .i64 (f : Int), .int .i64 (i : Int)] w (ExistsPost C w ns false N m2 i f (2 ^ (k + 1) - 1)) := by
  have hA := (At.refl h).alloc (.cells #[.int .i64 (nv ns f : Int), .int .i64 (nl ns f : Int), .int .i64 (nh ns f : Int)] 87)
  have L := h.loc #[.int .i64 (nv ns f : Int), .int .i64 (nl ns f : Int), .int .i64 (nh ns f : Int)] 87
  obtain ⟨b0, b1, b2, b3, b4, bf⟩ := h.reads
  obtain ⟨cap, a0, a1, a2, a3, af, an⟩ := h.ar.reads
  obtain ⟨n0, n1, n2⟩ := an f hf
  have hl : ns.length ≤ 40000 := Nat.le_trans h.ar.le h.ar.most4
  have lb := h.ltb
  have wf := h.ar.wf
  have f2 : 2 ≤ f := va_lt wf hf (by omega)
  have hlo := wf.lo f f2 hf
  have hhi := wf.hi f f2 hf
  have vlo := wf.vlo f f2 hf
  have vhi := wf.vhi f f2 hf
  have hp2 : 2 ^ (k + 1) = 2 * 2 ^ k := by rw [Nat.pow_succ]; omega
  have hp1 : 1 ≤ 2 ^ k := Nat.one_le_two_pow
  have t1 : decide ((i : Int) < (nv ns f : Int)) = false := by simp; omega
  have t2 : ((nv ns f : Int) == (i : Int)) = false := by simp; omega
  have hlook := (hA.bu.o3 c3 hc3).look Try.u47 (x := f) (by show f < _; omega)
  rw [hr] at hlook
  simp only [intE, Option.getD_none, Option.isSome_none] at hlook
  rw [hc3] at b4
  clear h an
  generalize rowOf w C.a = g at *
  go_enter Try.func89, Try.ntmps89
  go_wp2_with fail
  refine (ih.out _ ns false N m1 m3 (nl ns f) hA.bu (by omega) (by omega) (fun _ => ⟨hmc, hme⟩) (by omega)).mono ?_
  rintro e w4 ⟨f0, ns1, full1, N1, m11, m31, rfl, hp, X1, l1, k1, lt0, _, s1⟩
  have hA4 := hA.then hp
  have L4 := L.kp hp.kp
  clear hp hA L hlook b0 b1 b2 b3 b4 bf a0 a1 a2 a3 af n0 n1 n2
  have wf1 := hA4.bu.ar.wf
  have X1l := X1.len
  obtain ⟨⟨q0, q1, q2⟩, _⟩ := L4.reads
  go_wp2_with fail
  refine (ih.out _ ns1 full1 N1 m11 m31 (nh ns f) hA4.bu (by omega) (by rw [X1.va (by omega)]; omega) (fun e => ⟨(s1 e).1, (s1 e).2.1⟩) (by omega)).mono ?_
  rintro e w6 ⟨f1, ns2, full2, N2, m12, m32, rfl, hp, X2, l2, k2, lt1, mo2, s2⟩
  have hA6 := hA4.then hp
  have L6 := L4.kp hp.kp
  clear hp L4 hA4 q0 q1 q2
  have wf2 := hA6.bu.ar.wf
  have X2l := X2.len
  have X02 := X1.trans X2
  have sem2 : full2 = false → MemoC ns2 m12 ∧ MemoE ns2 i m32 ∧ IsEx ns2 i (nl ns f) f0 ∧ IsEx ns2 i (nh ns f) f1 := fun e2 => by
    have e1 : full1 = false := by cases full1 <;> simp_all
    exact ⟨(s2 e2).1, (s2 e2).2.1, (s1 e1).2.2.ext X2 wf1 wf2, (s2 e2).2.2⟩
  obtain ⟨⟨q0, q1, q2⟩, _⟩ := L6.reads
  go_wp2_with fail
  refine (numberOf_any hA6.bu (v := nv ns f) (l := f0) (u := f1) (by omega) (by omega) lt1 (fun e2 => ?_)).mono ?_
  · obtain ⟨_, _, a1, a2⟩ := sem2 e2
    have c1 := a1.va
    have c2 := a2.va
    rw [X02.va (by omega)] at c1 c2
    omega
  rintro e w7 ⟨r, ns3, full3, rfl, hp, X3, l3, lt3, mo3, s3⟩
  have hA7 := hA6.then hp
  clear hp L6 hA6 q0 q1 q2
  have wf3 := hA7.bu.ar.wf
  have len3 : ns3.length ≤ 40000 := Nat.le_trans hA7.bu.ar.le hA7.bu.ar.most4
  obtain ⟨w8, hrun, hM8, hg8⟩ := (hA7.bu.o3 c3 hc3).store Try.u47 (by unfold maxLen; omega) (x := f) (by show f < _; omega) (v := r) (by omega)
  have hA8 := hA7.memo3 hc3 hM8 hg8
  obtain ⟨d0, d1, d2, d3, d4, df⟩ := hA7.bu.reads
  rw [hc3] at d4
  simp only [intE] at hrun
  have hfin : ExistsPost C w ns false N m2 i f (2 ^ (k + 1) - 1) (.returned (.int .i64 (r : Int))) w8 := by
    refine ⟨r, ns3, full3, N2 + 1, m12, _, rfl, hA8, X02.trans X3, by omega, by omega, lt3, (fun e => by cases e), fun e3 => ?_⟩
    have e2 : full2 = false := by cases full2 <;> simp_all
    obtain ⟨a0, a00, a1, a2⟩ := sem2 e2
    have X03 := X02.trans X3
    have X03l := X03.len
    have en : nd ns3 f = nd ns f := X03.nd hf
    have J : IsEx ns3 i f r := by
      refine isEx_join (l := f0) (u := f1) wf3 f2 (by omega) ?_ ?_ ?_ ?_
      · rw [nv, en]; exact hi
      · rw [nl, en]; exact a1.ext X3 wf2 wf3
      · rw [nh, en]; exact a2.ext X3 wf2 wf3
      · rw [nv, en]; exact s3 e3
    exact ⟨a0.ext X3 wf2 wf3, (a00.ext X3 wf2 wf3).upd J, J⟩
  clear hA7 hM8 hg8 hA8
  go_wp2_with fail
  go_ret
  exact hfin

theorem exists_any {c1 c3 : Nat} (hc1 : C.c1 = some c1) (hc3 : C.c3 = some c3) {i : Nat} (hiv : i < C.vars) : ∀ (k : Nat) (w : World) (ns : List Nd) (full : Bool) (N : Nat) (m1 : Nd → Option Nat) (m3 : Nat → Option Nat) (f : Nat), Bu C w ns full N m1 m2 m3 → f < ns.length → C.vars ≤ nv ns f + k →
    (full = false → MemoC ns m1 ∧ MemoE ns i m3) → N + 2 ^ k ≤ 1099511627776 → Calls Try.prog 89 #[.pointer (some ⟨C.b, 0, none⟩), .int .i64 (f : Int), .int .i64 (i : Int)] w (ExistsPost C w ns full N m2 i f (2 ^ k - 1)) := by
  intro k
  induction k with
  | zero =>
    intro w ns full N m1 m3 f h hf hk hm hN
    cases full
    · refine (exists_far h hf (by omega)).mono ?_
      rintro e w' ⟨rfl, hA⟩
      exact ⟨f, ns, false, N, m1, m3, rfl, hA, Ext.refl _, by omega, by omega, hf, id, fun _ => ⟨(hm rfl).1, (hm rfl).2, isEx_far h.ar.wf hf (by omega)⟩⟩
    · refine (exists_full h hf i).mono ?_
      rintro e w' ⟨rfl, hA⟩
      exact ⟨0, ns, true, N, m1, m3, rfl, hA, Ext.refl _, by omega, by omega, (by have := h.ar.wf.len; omega), id, fun e => by cases e⟩
  | succ k ih =>
    intro w ns full N m1 m3 f h hf hk hm hN
    cases full
    · rcases Nat.lt_trichotomy i (nv ns f) with hi | hi | hi
      · refine (exists_far h hf hi).mono ?_
        rintro e w' ⟨rfl, hA⟩
        exact ⟨f, ns, false, N, m1, m3, rfl, hA, Ext.refl _, by omega, by omega, hf, id, fun _ => ⟨(hm rfl).1, (hm rfl).2, isEx_far h.ar.wf hf hi⟩⟩
      · have f2 := va_lt h.ar.wf hf (by omega)
        have l2 := h.ar.wf.len
        have hlo := h.ar.wf.lo f f2 hf
        have hhi := h.ar.wf.hi f f2 hf
        refine exists_here h f2 hf hi.symm (hm rfl).2 ⟨fun w' hb => choose_any hc1 (k + 1) w' ns false N m1 _ hb ⟨by show nl ns f < _; omega, by show 1 < _; omega, by show nh ns f < _; omega⟩ ?_ (fun _ => (hm rfl).1) hN⟩
        have v1 := h.ar.wf.vlo f f2 hf
        have v2 := h.ar.wf.vhi f f2 hf
        have e1 : nv ns 1 = C.vars := by rw [nv, h.ar.wf.n1]
        simp only [min3, e1]
        omega
      · cases hr : m3 f with
        | none => exact exists_miss h hc3 hf hi hiv hr hk (hm rfl).1 (hm rfl).2 hN ⟨ih⟩
        | some r =>
          refine (exists_hit h hc3 hf hi hr).mono ?_
          rintro e w' ⟨rfl, hA⟩
          have J := (hm rfl).2 _ _ hr
          exact ⟨r, ns, false, N, m1, m3, rfl, hA, Ext.refl _, by omega, by omega, J.lt, id, fun _ => ⟨(hm rfl).1, (hm rfl).2, J⟩⟩
    · refine (exists_full h hf i).mono ?_
      rintro e w' ⟨rfl, hA⟩
      exact ⟨0, ns, true, N, m1, m3, rfl, hA, Ext.refl _, by omega, by omega, (by have := h.ar.wf.len; omega), id, fun e => by cases e⟩
end
end Go.Proofs.Ytgcimcpcnoojnaa


