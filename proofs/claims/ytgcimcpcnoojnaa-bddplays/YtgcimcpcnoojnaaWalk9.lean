/-
  swap.
-/
import Derived.Test.YtgcimcpcnoojnaaWalk8
namespace Go.Proofs.Ytgcimcpcnoojnaa
open Go.RowKit Go.Maps

def swE (e : Env) (i j : Nat) : Env := fun x => if x = i then e j else if x = j then e i else e x
/-- g is f with variables i and j exchanged. -/
structure IsSw (ns : List Nd) (i j f g : Nat) : Prop where
  ltf : f < ns.length
  lt : g < ns.length
  ev : ∀ e, ev ns g e = ev ns f (swE e i j)
  va : min (nv ns f) i ≤ nv ns g
section
variable {vars : Nat} {ns ns' : List Nd}
theorem IsSw.ext {i j f g : Nat} (h : IsSw ns i j f g) (X : Ext ns ns') (wf : Wf vars ns) (wf' : Wf vars ns') : IsSw ns' i j f g := by
  have hl := X.len
  have lt := h.lt
  have ltf := h.ltf
  refine ⟨by omega, by omega, fun e => ?_, ?_⟩
  · rw [X.ev wf wf' _ h.lt, X.ev wf wf' _ h.ltf]; exact h.ev e
  · rw [X.va h.ltf, X.va h.lt]; exact h.va
def MemoS (ns : List Nd) (i j : Nat) (m : Nat → Option Nat) : Prop := ∀ f g, m f = some g → IsSw ns i j f g
theorem MemoS.ext {i j : Nat} {m : Nat → Option Nat} (h : MemoS ns i j m) (X : Ext ns ns') (wf : Wf vars ns) (wf' : Wf vars ns') : MemoS ns' i j m := fun c f e => (h c f e).ext X wf wf'
theorem MemoS.upd {i j : Nat} {m : Nat → Option Nat} (h : MemoS ns i j m) {c f : Nat} (hf : IsSw ns i j c f) : MemoS ns i j (upd m c f) := by
  intro d g hg
  unfold Ytgcimcpcnoojnaa.upd at hg
  by_cases e : d = c
  · subst e
    rw [if_pos rfl] at hg
    cases hg
    exact hf
  · rw [if_neg e] at hg
    exact h d g hg
theorem isSw_far (wf : Wf vars ns) {i j f : Nat} (hij : i < j) (hf : f < ns.length) (hj : j < nv ns f) : IsSw ns i j f f :=
  ⟨hf, hf, fun e => ev_dep wf f hf _ _ (fun x hx _ => by unfold swE; rw [if_neg (by omega), if_neg (by omega)]), by omega⟩
theorem isSw_join (wf : Wf vars ns) {i j f l u g : Nat} (hij : i < j) (f2 : 2 ≤ f) (hf : f < ns.length) (hi : nv ns f < i) (h0 : IsSw ns i j (nl ns f) l) (h1 : IsSw ns i j (nh ns f) u) (hn : IsNode ns (nv ns f) l u g) : IsSw ns i j f g := by
  refine ⟨hf, hn.lt, fun e => ?_, by have := hn.va; omega⟩
  have e0 : swE e i j (nv ns f) = e (nv ns f) := by unfold swE; rw [if_neg (by omega), if_neg (by omega)]
  rw [hn.ev, h0.ev, h1.ev, ev_node wf f2 hf, e0]
theorem isSw_here (wf : Wf vars ns) {i j f l u g : Nat} (hij : i < j) (hj : j < vars) (hf : f < ns.length) (hi : i ≤ nv ns f) (h0 : IsBl ns j (partOf ns f i false, partOf ns f i true, false) l) (h1 : IsBl ns j (partOf ns f i false, partOf ns f i true, true) u) (hn : IsNode ns i l u g) : IsSw ns i j f g := by
  refine ⟨hf, hn.lt, fun e => ?_, by have := hn.va; omega⟩
  have hiv : i < vars := by omega
  have e0 := h0.ev e
  have e1 := h1.ev e
  simp only [partOf_ev wf hf hiv hi] at e0 e1
  rw [hn.ev, e0, e1]
  have sw : ∀ a b, e i = a → e j = b → setE (setE e j a) i b = swE e i j := by
    intro a b ha hb
    funext x
    unfold setE swE
    by_cases h1 : x = i
    · simp [h1, hb]
    · by_cases h2 : x = j
      · simp [h2, ha, show j ≠ i by omega]
      · simp [h1, h2]
  cases ha : e i <;> cases hb : e j
  · rw [← sw _ _ ha hb]; simp
  · rw [← sw _ _ ha hb]; simp
  · rw [← sw _ _ ha hb]; simp
  · rw [← sw _ _ ha hb]; simp
end

/-- What swap leaves. -/
def SwapPost (C : Cfg) (w : World) (ns : List Nd) (full : Bool) (N : Nat) (m1 : Nd → Option Nat) (i j f : Nat) (g : Nat) (e : Ending) (w' : World) : Prop :=
  ∃ r ns' full' N' m2' m3', e = .returned (.int .i64 ((r : Nat) : Int)) ∧ At C w w' ns' full' N' m1 m2' m3' ∧ Ext ns ns' ∧ ns'.length ≤ ns.length + g ∧ N' ≤ N + g ∧ r < ns'.length ∧ (full = true → full' = true) ∧ (full' = false → MemoB ns' j m2' ∧ MemoS ns' i j m3' ∧ IsSw ns' i j f r)

theorem run_min2 (x y : Nat) (ts : Array TypeId) (t : TypeId) (W : World) : (Builtin.min_ ts t #[.int .i64 (x : Int), .int .i64 (y : Int)]).run Try.prog W = .ok (.int .i64 ((min x y : Nat) : Int)) W := by
  have e : ((min x y : Nat) : Int) = if (y : Int) < (x : Int) then (y : Int) else (x : Int) := by split <;> omega
  rw [e]
  simp [Builtin.min_, Builtin.min2]

section
variable {C : Cfg} {w : World} {ns : List Nd} {N : Nat} {m1 : Nd → Option Nat} {m2 : Mx → Option Nat} {m3 : Nat → Option Nat}

set_option maxHeartbeats 1000000 in
set_option maxRecDepth 100000 in
theorem swap_full (h : Bu C w ns true N m1 m2 m3) {f : Nat} (hf : f < ns.length) (i j : Nat) :
    Calls Try.prog 90 #[.pointer (some ⟨C.b, 0, none⟩), .int .i64 (f : Int), .int .i64 (i : Int), .int .i64 (j : Int)] w fun e w' => e = .returned (.int .i64 0) ∧ At C w w' ns true N m1 m2 m3 := by
  have hA := (At.refl h).alloc (.cells #[.int .i64 (nv ns f : Int), .int .i64 (nl ns f : Int), .int .i64 (nh ns f : Int)] 87)
  obtain ⟨b0, b1, b2, b3, b4, bf⟩ := h.reads
  obtain ⟨cap, a0, a1, a2, a3, af, an⟩ := h.ar.reads
  obtain ⟨n0, n1, n2⟩ := an f hf
  have hl : ns.length ≤ 40000 := Nat.le_trans h.ar.le h.ar.most4
  have lb := h.ltb
  clear h an
  generalize rowOf w C.a = g at *
  go_enter Try.func90, Try.ntmps90
  go_wp2_with fail
  go_ret
  exact ⟨rfl, hA⟩

set_option maxHeartbeats 1000000 in
set_option maxRecDepth 100000 in
theorem swap_far (h : Bu C w ns false N m1 m2 m3) {f i j : Nat} (hf : f < ns.length) (hi : j < nv ns f) :
    Calls Try.prog 90 #[.pointer (some ⟨C.b, 0, none⟩), .int .i64 (f : Int), .int .i64 (i : Int), .int .i64 (j : Int)] w fun e w' => e = .returned (.int .i64 (f : Int)) ∧ At C w w' ns false N m1 m2 m3 := by
  have hA := (At.refl h).alloc (.cells #[.int .i64 (nv ns f : Int), .int .i64 (nl ns f : Int), .int .i64 (nh ns f : Int)] 87)
  obtain ⟨b0, b1, b2, b3, b4, bf⟩ := h.reads
  obtain ⟨cap, a0, a1, a2, a3, af, an⟩ := h.ar.reads
  obtain ⟨n0, n1, n2⟩ := an f hf
  have hl : ns.length ≤ 40000 := Nat.le_trans h.ar.le h.ar.most4
  have lb := h.ltb
  have t1 : decide ((j : Int) < (nv ns f : Int)) = true := by simp; omega
  clear h an
  generalize rowOf w C.a = g at *
  go_enter Try.func90, Try.ntmps90
  go_wp2_with fail
  go_ret
  exact ⟨rfl, hA⟩

set_option maxHeartbeats 1000000 in
set_option maxRecDepth 100000 in
theorem swap_hit (h : Bu C w ns false N m1 m2 m3) {c3 : Nat} (hc3 : C.c3 = some c3) {f i j r : Nat} (hf : f < ns.length) (hi : nv ns f ≤ j) (hr : m3 f = some r) :
    Calls Try.prog 90 #[.pointer (some ⟨C.b, 0, none⟩), .int .i64 (f : Int), .int .i64 (i : Int), .int .i64 (j : Int)] w fun e w' => e = .returned (.int .i64 (r : Int)) ∧ At C w w' ns false N m1 m2 m3 := by
  have hA := (At.refl h).alloc (.cells #[.int .i64 (nv ns f : Int), .int .i64 (nl ns f : Int), .int .i64 (nh ns f : Int)] 87)
  obtain ⟨b0, b1, b2, b3, b4, bf⟩ := h.reads
  obtain ⟨cap, a0, a1, a2, a3, af, an⟩ := h.ar.reads
  obtain ⟨n0, n1, n2⟩ := an f hf
  have hl : ns.length ≤ 40000 := Nat.le_trans h.ar.le h.ar.most4
  have lb := h.ltb
  have t1 : decide ((j : Int) < (nv ns f : Int)) = false := by simp; omega
  have hlook := (hA.bu.o3 c3 hc3).look Try.u47 (x := f) (by show f < _; omega)
  rw [hr] at hlook
  simp only [intE, Option.getD_some, Option.isSome_some] at hlook
  rw [hc3] at b4
  clear h an
  generalize rowOf w C.a = g at *
  go_enter Try.func90, Try.ntmps90
  go_wp2_with fail
  go_ret
  exact ⟨rfl, hA⟩

set_option maxHeartbeats 4000000 in
set_option maxRecDepth 100000 in
theorem swap_up (h : Bu C w ns false N m1 m2 m3) {c3 : Nat} (hc3 : C.c3 = some c3) {f i j k : Nat} (hij : i < j) (hj : j < C.vars) (hf : f < ns.length) (hi : nv ns f < i) (hr : m3 f = none) (hk : C.vars ≤ min (nv ns f) i + (k + 1)) (hmb : MemoB ns j m2) (hms : MemoS ns i j m3) (hN : N + 2 ^ (k + 1) ≤ 1099511627776)
    (ih : Hq (∀ w ns full N m2 m3 f, Bu C w ns full N m1 m2 m3 → f < ns.length → C.vars ≤ min (nv ns f) i + k → (full = false → MemoB ns j m2 ∧ MemoS ns i j m3) → N + 2 ^ k ≤ 1099511627776 → Calls Try.prog 90 #[.pointer (some ⟨C.b, 0, none⟩), .int .i64 (f : Int), .int .i64 (i : Int), .int .i64 (j : Int)] w (SwapPost C w ns full N m1 i j f (2 ^ k - 1)))) :
    Calls Try.prog 90 #[.pointer (some ⟨C.b, 0, none⟩), .int .i64 (f : Int), .int .i64 (i : Int), .int .i64 (j : Int)] w (SwapPost C w ns false N m1 i j f (2 ^ (k + 1) - 1)) := by
  have hA := (At.refl h).alloc (.cells #[.int .i64 (nv ns f : Int), .int .i64 (nl ns f : Int), .int .i64 (nh ns f : Int)] 87)
  have L := h.loc #[.int .i64 (nv ns f : Int), .int .i64 (nl ns f : Int), .int .i64 (nh ns f : Int)] 87
  have hA1 := hA.alloc (.cells #[.int .i64 (nv ns f : Int), .int .i64 0, .int .i64 0] 87)
  have L1 := L.alloc hA.bu (.cells #[.int .i64 (nv ns f : Int), .int .i64 0, .int .i64 0] 87)
  have M1 := hA.loc #[.int .i64 (nv ns f : Int), .int .i64 0, .int .i64 0] 87
  rw [show (w.alloc (.cells #[.int .i64 (nv ns f : Int), .int .i64 (nl ns f : Int), .int .i64 (nh ns f : Int)] 87)).heap.size = w.heap.size + 1 by simp] at M1
  obtain ⟨b0, b1, b2, b3, b4, bf⟩ := h.reads
  obtain ⟨cap, a0, a1, a2, a3, af, an⟩ := h.ar.reads
  obtain ⟨n0, n1, n2⟩ := an f hf
  have hl : ns.length ≤ 40000 := Nat.le_trans h.ar.le h.ar.most4
  have lb := h.ltb
  have wf := h.ar.wf
  have f2 : 2 ≤ f := va_lt wf hf (by omega)
  have hlo := wf.lo f f2 hf
  have hhi := wf.hi f f2 hf
  have vlo := wf.vlo f f2 hf
  have vhi := wf.vhi f f2 hf
  have hp2 : 2 ^ (k + 1) = 2 * 2 ^ k := by rw [Nat.pow_succ]; omega
  have hp1 : 1 ≤ 2 ^ k := Nat.one_le_two_pow
  have t1 : decide ((j : Int) < (nv ns f : Int)) = false := by simp; omega
  have t2 : decide ((nv ns f : Int) < (i : Int)) = true := by simp; omega
  have hmn : ∀ (ts : Array TypeId) (t : TypeId) (W : World), (Builtin.min_ ts t #[.int .i64 (nv ns f : Int), .int .i64 (i : Int)]).run Try.prog W = .ok (.int .i64 (nv ns f : Int)) W := fun ts t W => by
    have := run_min2 (nv ns f) i ts t W
    rw [show min (nv ns f) i = nv ns f by omega] at this
    exact this
  have hlook := (hA.bu.o3 c3 hc3).look Try.u47 (x := f) (by show f < _; omega)
  rw [hr] at hlook
  simp only [intE, Option.getD_none, Option.isSome_none] at hlook
  rw [hc3] at b4
  clear h an
  generalize rowOf w C.a = g at *
  go_enter Try.func90, Try.ntmps90
  go_wp2_with fail
  refine (ih.out _ ns false N m2 m3 (nl ns f) hA1.bu (by omega) (by omega) (fun _ => ⟨hmb, hms⟩) (by omega)).mono ?_
  rintro e w4 ⟨f0, ns1, full1, N1, m21, m31, rfl, hp, X1, l1, k1, lt0, _, s1⟩
  have hA4 := hA1.then hp
  have L4 := L1.kp hp.kp
  have M4 := M1.kp hp.kp
  clear hp hA L hA1 L1 M1 hlook b0 b1 b2 b3 b4 bf a0 a1 a2 a3 af n0 n1 n2 hmn
  have wf1 := hA4.bu.ar.wf
  have X1l := X1.len
  obtain ⟨⟨p0, p1, p2⟩, g0, g1, g2⟩ := M4.reads
  have hA5 := hA4.set (p := ⟨w.heap.size + 1, 1, none⟩) M4.out (Nat.le_succ _) (.int .i64 (f0 : Int))
  have L5 := L4.setOther (j := 1) M4.out (by omega) (.int .i64 (f0 : Int))
  have M5 := M4.set (j := 1) (.int .i64 (f0 : Int))
  simp only [List.setIfInBounds_toArray, List.set_cons_succ, List.set_cons_zero] at M5
  obtain ⟨⟨q0, q1, q2⟩, _⟩ := L5.reads
  go_wp2_with fail
  refine (ih.out _ ns1 full1 N1 m21 m31 (nh ns f) hA5.bu (by omega) (by rw [X1.va (by omega)]; omega) (fun e => ⟨(s1 e).1, (s1 e).2.1⟩) (by omega)).mono ?_
  rintro e w6 ⟨f1, ns2, full2, N2, m22, m32, rfl, hp, X2, l2, k2, lt1, mo2, s2⟩
  have hA6 := hA5.then hp
  have M6 := M5.kp hp.kp
  clear hp L4 M4 hA4 q0 q1 q2 p0 p1 p2 g0 g1 g2 hA5 L5 M5
  have wf2 := hA6.bu.ar.wf
  have X2l := X2.len
  have X02 := X1.trans X2
  have sem2 : full2 = false → MemoB ns2 j m22 ∧ MemoS ns2 i j m32 ∧ IsSw ns2 i j (nl ns f) f0 ∧ IsSw ns2 i j (nh ns f) f1 := fun e2 => by
    have e1 : full1 = false := by cases full1 <;> simp_all
    exact ⟨(s2 e2).1, (s2 e2).2.1, (s1 e1).2.2.ext X2 wf1 wf2, (s2 e2).2.2⟩
  obtain ⟨⟨p0, p1, p2⟩, g0, g1, g2⟩ := M6.reads
  have hA7 := hA6.set (p := ⟨w.heap.size + 1, 2, none⟩) M6.out (Nat.le_succ _) (.int .i64 (f1 : Int))
  have M7 := M6.set (j := 2) (.int .i64 (f1 : Int))
  simp only [List.setIfInBounds_toArray, List.set_cons_succ, List.set_cons_zero] at M7
  obtain ⟨⟨p0', p1', p2'⟩, _⟩ := M7.reads
  go_wp2_with fail
  refine (numberOf_any hA7.bu (v := nv ns f) (l := f0) (u := f1) (by omega) (by omega) lt1 (fun e2 => ?_)).mono ?_
  · obtain ⟨_, _, a1, a2⟩ := sem2 e2
    have c1 := a1.va
    have c2 := a2.va
    rw [X02.va (by omega)] at c1 c2
    omega
  rintro e w7 ⟨r, ns3, full3, rfl, hp, X3, l3, lt3, mo3, s3⟩
  have hA8 := hA7.then hp
  clear hp M6 hA6 hA7 M7 p0 p1 p2 g0 g1 g2 p0' p1' p2'
  have wf3 := hA8.bu.ar.wf
  have len3 : ns3.length ≤ 40000 := Nat.le_trans hA8.bu.ar.le hA8.bu.ar.most4
  obtain ⟨w8, hrun, hM8, hg8⟩ := (hA8.bu.o3 c3 hc3).store Try.u47 (by unfold maxLen; omega) (x := f) (by show f < _; omega) (v := r) (by omega)
  have hA9 := hA8.memo3 hc3 hM8 hg8
  obtain ⟨d0, d1, d2, d3, d4, df⟩ := hA8.bu.reads
  rw [hc3] at d4
  simp only [intE] at hrun
  have hfin : SwapPost C w ns false N m1 i j f (2 ^ (k + 1) - 1) (.returned (.int .i64 (r : Int))) w8 := by
    refine ⟨r, ns3, full3, N2 + 1, m22, _, rfl, hA9, X02.trans X3, by omega, by omega, lt3, (fun e => by cases e), fun e3 => ?_⟩
    have e2 : full2 = false := by cases full2 <;> simp_all
    obtain ⟨a0, a00, a1, a2⟩ := sem2 e2
    have X03 := X02.trans X3
    have X03l := X03.len
    have en : nd ns3 f = nd ns f := X03.nd hf
    have J : IsSw ns3 i j f r := by
      refine isSw_join (l := f0) (u := f1) wf3 hij f2 (by omega) ?_ ?_ ?_ ?_
      · rw [nv, en]; exact hi
      · rw [nl, en]; exact a1.ext X3 wf2 wf3
      · rw [nh, en]; exact a2.ext X3 wf2 wf3
      · rw [nv, en]; exact s3 e3
    exact ⟨a0.ext X3 wf2 wf3, (a00.ext X3 wf2 wf3).upd J, J⟩
  clear hA8 hM8 hg8 hA9
  go_wp2_with fail
  go_ret
  exact hfin
end
end Go.Proofs.Ytgcimcpcnoojnaa


