/-
  builder.take, Arena.Take: a function of another arena.
-/
import Derived.Test.YtgcimcpcnoojnaaArn
namespace Go.Proofs.Ytgcimcpcnoojnaa
open Go.RowKit Go.Maps

/-- g is, in ns, what f is in ns2. -/
structure IsTk (ns ns2 : List Nd) (f g : Nat) : Prop where
  ltf : f < ns2.length
  lt : g < ns.length
  ev : ∀ e, ev ns g e = ev ns2 f e
  va : nv ns2 f ≤ nv ns g
section
variable {vars v2 : Nat} {ns ns' ns2 : List Nd}
theorem IsTk.ext {f g : Nat} (h : IsTk ns ns2 f g) (X : Ext ns ns') (wf : Wf vars ns) (wf' : Wf vars ns') : IsTk ns' ns2 f g := by
  have hl := X.len
  have lt := h.lt
  refine ⟨h.ltf, by omega, fun e => ?_, ?_⟩
  · rw [X.ev wf wf' _ h.lt]; exact h.ev e
  · rw [X.va h.lt]; exact h.va
def MemoT (ns ns2 : List Nd) (m : Nat → Option Nat) : Prop := ∀ f g, m f = some g → IsTk ns ns2 f g
theorem MemoT.ext {m : Nat → Option Nat} (h : MemoT ns ns2 m) (X : Ext ns ns') (wf : Wf vars ns) (wf' : Wf vars ns') : MemoT ns' ns2 m := fun c f e => (h c f e).ext X wf wf'
theorem MemoT.upd {m : Nat → Option Nat} (h : MemoT ns ns2 m) {c f : Nat} (hf : IsTk ns ns2 c f) : MemoT ns ns2 (upd m c f) := by
  intro d g hg
  unfold Ytgcimcpcnoojnaa.upd at hg
  by_cases e : d = c
  · subst e
    rw [if_pos rfl] at hg
    cases hg
    exact hf
  · rw [if_neg e] at hg
    exact h d g hg
theorem isTk_small (wf : Wf vars ns) (wf2 : Wf v2 ns2) (hv : v2 ≤ vars) {f : Nat} (hf : f ≤ 1) : IsTk ns ns2 f f := by
  have l1 := wf.len
  have l2 := wf2.len
  match f, hf with
  | 0, _ => exact ⟨by omega, by omega, fun e => rfl, by simp [nv, wf.n0, wf2.n0]; exact hv⟩
  | 1, _ => exact ⟨by omega, by omega, fun e => by rw [ev1, ev1], by simp [nv, wf.n1, wf2.n1]; exact hv⟩
theorem isTk_join (wf2 : Wf v2 ns2) {f l u g : Nat} (f2 : 2 ≤ f) (hf : f < ns2.length) (h0 : IsTk ns ns2 (nl ns2 f) l) (h1 : IsTk ns ns2 (nh ns2 f) u) (hn : IsNode ns (nv ns2 f) l u g) : IsTk ns ns2 f g :=
  ⟨hf, hn.lt, fun e => by rw [hn.ev, h0.ev, h1.ev, ev_node wf2 f2 hf], hn.va⟩
end

/-- The other arena, apart from what the builder turns. -/
structure Fr (C : Cfg) (w : World) (base2 a2 M2 v2 most2 : Nat) (ns2 : List Nd) : Prop where
  ar : Ar base2 a2 M2 v2 most2 w ns2
  oa : Out C w a2
  oM : Out C w M2
  or : Out C w (rowOf w a2)
section
variable {C : Cfg} {w w' : World} {base2 a2 M2 v2 most2 : Nat} {ns2 : List Nd}
theorem Fr.kp (h : Fr C w base2 a2 M2 v2 most2 ns2) (k : Kp C w w') : Fr C w' base2 a2 M2 v2 most2 ns2 := by
  have e : w'.heap[a2]? = w.heap[a2]? := k.blk a2 h.oa.lt h.oa.not h.oa.ne
  refine ⟨h.ar.same e (k.blk M2 h.oM.lt h.oM.not h.oM.ne) (k.blk _ h.or.lt h.or.not h.or.ne), h.oa.kp k, h.oM.kp k, ?_⟩
  rw [rowOf_same e]
  exact h.or.kp k

/-- What take leaves. -/
def TakePost (C : Cfg) (w : World) (ns ns2 : List Nd) (full : Bool) (N : Nat) (m1 : Nd → Option Nat) (m2 : Mx → Option Nat) (f : Nat) (g : Nat) (e : Ending) (w' : World) : Prop :=
  ∃ r ns' full' N' m3', e = .returned (.int .i64 ((r : Nat) : Int)) ∧ At C w w' ns' full' N' m1 m2 m3' ∧ Ext ns ns' ∧ ns'.length ≤ ns.length + g ∧ N' ≤ N + g ∧ r < ns'.length ∧ (full = true → full' = true) ∧ (full' = false → MemoT ns' ns2 m3' ∧ IsTk ns' ns2 f r)

variable {ns : List Nd} {N : Nat} {m1 : Nd → Option Nat} {m2 : Mx → Option Nat} {m3 : Nat → Option Nat}

set_option maxHeartbeats 1000000 in
theorem take_full (h : Bu C w ns true N m1 m2 m3) (f : Nat) :
    Calls Try.prog 98 #[.pointer (some ⟨C.b, 0, none⟩), .pointer (some ⟨a2, 0, none⟩), .int .i64 (f : Int)] w fun e w' => e = .returned (.int .i64 0) ∧ w' = w := by
  obtain ⟨b0, b1, b2, b3, b4, bf⟩ := h.reads
  clear h
  go_enter Try.func98, Try.ntmps98
  go_wp2_with fail
  go_ret
  exact ⟨rfl, rfl⟩

set_option maxHeartbeats 1000000 in
theorem take_small (h : Bu C w ns false N m1 m2 m3) {f : Nat} (hf : f ≤ 1) :
    Calls Try.prog 98 #[.pointer (some ⟨C.b, 0, none⟩), .pointer (some ⟨a2, 0, none⟩), .int .i64 (f : Int)] w fun e w' => e = .returned (.int .i64 (f : Int)) ∧ w' = w := by
  obtain ⟨b0, b1, b2, b3, b4, bf⟩ := h.reads
  have t1 : decide ((f : Int) ≤ 1) = true := by simp; omega
  clear h
  go_enter Try.func98, Try.ntmps98
  go_wp2_with fail
  go_ret
  exact ⟨rfl, rfl⟩

set_option maxHeartbeats 1000000 in
theorem take_hit (h : Bu C w ns false N m1 m2 m3) {c3 : Nat} (hc3 : C.c3 = some c3) {f r : Nat} (f2 : 2 ≤ f) (hf : f < 9223372036854775808) (hr : m3 f = some r) :
    Calls Try.prog 98 #[.pointer (some ⟨C.b, 0, none⟩), .pointer (some ⟨a2, 0, none⟩), .int .i64 (f : Int)] w fun e w' => e = .returned (.int .i64 (r : Int)) ∧ w' = w := by
  obtain ⟨b0, b1, b2, b3, b4, bf⟩ := h.reads
  have t1 : decide ((f : Int) ≤ 1) = false := by simp; omega
  have hlook := (h.o3 c3 hc3).look Try.u47 (x := f) (by show f < _; omega)
  rw [hr] at hlook
  simp only [intE, Option.getD_some, Option.isSome_some] at hlook
  rw [hc3] at b4
  clear h
  go_enter Try.func98, Try.ntmps98
  go_wp2_with fail
  go_ret
  exact ⟨rfl, rfl⟩

set_option maxHeartbeats 4000000 in
theorem take_miss (h : Bu C w ns false N m1 m2 m3) (F : Fr C w base2 a2 M2 v2 most2 ns2) (hv2 : v2 ≤ C.vars) {c3 : Nat} (hc3 : C.c3 = some c3) {f k : Nat} (f2 : 2 ≤ f) (hf : f < ns2.length) (hr : m3 f = none) (hk : v2 ≤ nv ns2 f + (k + 1)) (hmt : MemoT ns ns2 m3) (hN : N + 2 ^ (k + 1) ≤ 1099511627776)
    (ih : Hq (∀ w ns full N m3 f, Bu C w ns full N m1 m2 m3 → Fr C w base2 a2 M2 v2 most2 ns2 → f < ns2.length → v2 ≤ nv ns2 f + k → (full = false → MemoT ns ns2 m3) → N + 2 ^ k ≤ 1099511627776 → Calls Try.prog 98 #[.pointer (some ⟨C.b, 0, none⟩), .pointer (some ⟨a2, 0, none⟩), .int .i64 (f : Int)] w (TakePost C w ns ns2 full N m1 m2 f (2 ^ k - 1)))) :
    Calls Try.prog 98 #[.pointer (some ⟨C.b, 0, none⟩), .pointer (some ⟨a2, 0, none⟩), .int .i64 (f : Int)] w (TakePost C w ns ns2 false N m1 m2 f (2 ^ (k + 1) - 1)) := by
  have hA := (At.refl h).alloc (.cells #[.int .i64 (nv ns2 f : Int), .int .i64 (nl ns2 f : Int), .int .i64 (nh ns2 f : Int)] 87)
  have L := h.loc #[.int .i64 (nv ns2 f : Int), .int .i64 (nl ns2 f : Int), .int .i64 (nh ns2 f : Int)] 87
  have F1 := F.kp hA.kp
  obtain ⟨b0, b1, b2, b3, b4, bf⟩ := h.reads
  obtain ⟨cap, a0, a1, ac2, a3, af, an⟩ := F.ar.reads
  obtain ⟨n0, n1, n2⟩ := an f hf
  have hl2 : ns2.length ≤ 40000 := Nat.le_trans F.ar.le F.ar.most4
  have hl : ns.length ≤ 40000 := Nat.le_trans h.ar.le h.ar.most4
  have lb := h.ltb
  have wf := h.ar.wf
  have wf2 := F.ar.wf
  have hlo := wf2.lo f f2 hf
  have hhi := wf2.hi f f2 hf
  have vlo := wf2.vlo f f2 hf
  have vhi := wf2.vhi f f2 hf
  have vva := wf2.va f f2 hf
  have hp2 : 2 ^ (k + 1) = 2 * 2 ^ k := by rw [Nat.pow_succ]; omega
  have hp1 : 1 ≤ 2 ^ k := Nat.one_le_two_pow
  have t1 : decide ((f : Int) ≤ 1) = false := by simp; omega
  have hlook := (h.o3 c3 hc3).look Try.u47 (x := f) (by show f < _; omega)
  rw [hr] at hlook
  simp only [intE, Option.getD_none, Option.isSome_none] at hlook
  rw [hc3] at b4
  clear h an F
  generalize rowOf w a2 = g at *
  go_enter Try.func98, Try.ntmps98
  go_wp2_with fail
  refine (ih.out _ ns false N m3 (nl ns2 f) hA.bu F1 (by omega) (by omega) (fun _ => hmt) (by omega)).mono ?_
  rintro e w4 ⟨f0, ns1, full1, N1, m31, rfl, hp, X1, l1, k1, lt0, _, s1⟩
  have hA4 := hA.then hp
  have L4 := L.kp hp.kp
  have F4 := F1.kp hp.kp
  clear hp hA L hlook b0 b1 b2 b3 b4 bf a0 a1 ac2 a3 af n0 n1 n2 F1
  have wf1 := hA4.bu.ar.wf
  have X1l := X1.len
  obtain ⟨⟨q0, q1, q2⟩, _⟩ := L4.reads
  go_wp2_with fail
  refine (ih.out _ ns1 full1 N1 m31 (nh ns2 f) hA4.bu F4 (by omega) (by omega) (fun e => (s1 e).1) (by omega)).mono ?_
  rintro e w6 ⟨f1, ns3, full2, N2, m32, rfl, hp, X2, l2, k2, lt1, mo2, s2⟩
  have hA6 := hA4.then hp
  have L6 := L4.kp hp.kp
  clear hp L4 hA4 q0 q1 q2 F4
  have wf3 := hA6.bu.ar.wf
  have X2l := X2.len
  have X02 := X1.trans X2
  have sem2 : full2 = false → MemoT ns3 ns2 m32 ∧ IsTk ns3 ns2 (nl ns2 f) f0 ∧ IsTk ns3 ns2 (nh ns2 f) f1 := fun e2 => by
    have e1 : full1 = false := by cases full1 <;> simp_all
    exact ⟨(s2 e2).1, (s1 e1).2.ext X2 wf1 wf3, (s2 e2).2⟩
  obtain ⟨⟨q0, q1, q2⟩, _⟩ := L6.reads
  go_wp2_with fail
  refine (numberOf_any hA6.bu (v := nv ns2 f) (l := f0) (u := f1) (by omega) (by omega) lt1 (fun e2 => ?_)).mono ?_
  · obtain ⟨_, a1, a2⟩ := sem2 e2
    have c1 := a1.va
    have c2 := a2.va
    omega
  rintro e w7 ⟨r, ns4, full3, rfl, hp, X3, l3, lt3, mo3, s3⟩
  have hA7 := hA6.then hp
  clear hp L6 hA6 q0 q1 q2
  have wf4 := hA7.bu.ar.wf
  have len3 : ns4.length ≤ 40000 := Nat.le_trans hA7.bu.ar.le hA7.bu.ar.most4
  obtain ⟨w8, hrun, hM8, hg8⟩ := (hA7.bu.o3 c3 hc3).store Try.u47 (by unfold maxLen; omega) (x := f) (by show f < _; omega) (v := r) (by omega)
  have hA8 := hA7.memo3 hc3 hM8 hg8
  obtain ⟨d0, d1, d2, d3, d4, df⟩ := hA7.bu.reads
  rw [hc3] at d4
  simp only [intE] at hrun
  have hfin : TakePost C w ns ns2 false N m1 m2 f (2 ^ (k + 1) - 1) (.returned (.int .i64 (r : Int))) w8 := by
    refine ⟨r, ns4, full3, N2 + 1, _, rfl, hA8, X02.trans X3, by omega, by omega, lt3, (fun e => by cases e), fun e3 => ?_⟩
    have e2 : full2 = false := by cases full2 <;> simp_all
    obtain ⟨a00, a1, a2⟩ := sem2 e2
    have J : IsTk ns4 ns2 f r := isTk_join wf2 f2 hf (a1.ext X3 wf3 wf4) (a2.ext X3 wf3 wf4) (s3 e3)
    exact ⟨(a00.ext X3 wf3 wf4).upd J, J⟩
  clear hA7 hM8 hg8 hA8
  go_wp2_with fail
  go_ret
  exact hfin

theorem take_any {c3 : Nat} (hc3 : C.c3 = some c3) (hv2 : v2 ≤ C.vars) : ∀ (k : Nat) (w : World) (ns : List Nd) (full : Bool) (N : Nat) (m3 : Nat → Option Nat) (f : Nat), Bu C w ns full N m1 m2 m3 → Fr C w base2 a2 M2 v2 most2 ns2 → f < ns2.length → v2 ≤ nv ns2 f + k →
    (full = false → MemoT ns ns2 m3) → N + 2 ^ k ≤ 1099511627776 → Calls Try.prog 98 #[.pointer (some ⟨C.b, 0, none⟩), .pointer (some ⟨a2, 0, none⟩), .int .i64 (f : Int)] w (TakePost C w ns ns2 full N m1 m2 f (2 ^ k - 1)) := by
  intro k
  induction k with
  | zero =>
    intro w ns full N m3 f h F hf hk hm hN
    have small : f ≤ 1 := by
      rcases Nat.lt_or_ge f 2 with h2 | h2
      · omega
      · have := F.ar.wf.va f h2 hf
        omega
    cases full
    · refine (take_small h small).mono ?_
      rintro e w' ⟨rfl, rfl⟩
      exact ⟨f, ns, false, N, m3, rfl, At.refl h, Ext.refl _, by omega, by omega, (by have := h.ar.wf.len; omega), id, fun _ => ⟨hm rfl, isTk_small h.ar.wf F.ar.wf hv2 small⟩⟩
    · refine (take_full h f).mono ?_
      rintro e w' ⟨rfl, rfl⟩
      exact ⟨0, ns, true, N, m3, rfl, At.refl h, Ext.refl _, by omega, by omega, (by have := h.ar.wf.len; omega), id, fun e => by cases e⟩
  | succ k ih =>
    intro w ns full N m3 f h F hf hk hm hN
    cases full
    · rcases Nat.lt_or_ge f 2 with h2 | h2
      · refine (take_small h (by omega)).mono ?_
        rintro e w' ⟨rfl, rfl⟩
        exact ⟨f, ns, false, N, m3, rfl, At.refl h, Ext.refl _, by omega, by omega, (by have := h.ar.wf.len; omega), id, fun _ => ⟨hm rfl, isTk_small h.ar.wf F.ar.wf hv2 (by omega)⟩⟩
      · cases hr : m3 f with
        | none => exact take_miss h F hv2 hc3 h2 hf hr hk (hm rfl) hN ⟨ih⟩
        | some r =>
          have hl2 : ns2.length ≤ 40000 := Nat.le_trans F.ar.le F.ar.most4
          refine (take_hit h hc3 h2 (by omega) hr).mono ?_
          rintro e w' ⟨rfl, rfl⟩
          have J := hm rfl _ _ hr
          exact ⟨r, ns, false, N, m3, rfl, At.refl h, Ext.refl _, by omega, by omega, J.lt, id, fun _ => ⟨hm rfl, J⟩⟩
    · refine (take_full h f).mono ?_
      rintro e w' ⟨rfl, rfl⟩
      exact ⟨0, ns, true, N, m3, rfl, At.refl h, Ext.refl _, by omega, by omega, (by have := h.ar.wf.len; omega), id, fun e => by cases e⟩
end
end Go.Proofs.Ytgcimcpcnoojnaa


