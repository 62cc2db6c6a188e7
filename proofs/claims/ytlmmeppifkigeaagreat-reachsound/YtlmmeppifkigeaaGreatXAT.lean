/-
  XAT.
-/
import Derived.Test.YtlmmeppifkigeaaGreatXAS
import Derived.Test.YtlmmeppifkigeaaGreatXAP
import Derived.Test.YtlmmeppifkigeaaGreatXAR
set_option maxHeartbeats 8000000
set_option maxRecDepth 100000
namespace Go.Proofs.YtlmmeppifkigeaaGreat
open Go.RowKit Go.Maps
section
variable {C : Cfg} {w : World} {ns : List Nd} {N : Nat} {m1 : Nd -> Option Nat} {m2 : Mx -> Option Nat} {m3 : Nat -> Option Nat}
theorem swap_here (h : Bu C w ns false N m1 m2 m3) {c3 : Nat} (hc3 : C.c3 = some c3) {f i j k : Nat} (hij : i < j) (hj : j < C.vars) (hf : f < ns.length) (hi : i <= nv ns f) (hfj : nv ns f <= j) (hr : m3 f = none) {S : Nat -> Bool} (hk : FitW S i j C.vars ns f (k + 1)) (hmb : MemoB ns j m2) (hms : MemoS ns i j m3) (hN : N + 2 ^ (k + 1) <= 1099511627776)
  (hbl : Hq (∀ w ns full N m2 x, Bu C w ns full N m1 m2 m3 -> InsideM ns x -> FitM S j ns x k -> (full = false -> MemoB ns j m2) -> N + 2 ^ k <= 1099511627776 -> Calls Tryz.prog 190 #[.pointer (some ⟨C.b, 0, none⟩), aggx x, .int .i64 (j : Int)] w (BlendPost C w ns full N m1 m3 j x (2 ^ k - 1)))) :
  Calls Tryz.prog 186 #[.pointer (some ⟨C.b, 0, none⟩), .int .i64 (f : Int), .int .i64 (i : Int), .int .i64 (j : Int)] w (SwapPost C w ns false N m1 i j f (2 ^ (k + 1) - 1)) := by
 have hA := (At.refl h).alloc (.cells #[.int .i64 (nv ns f : Int), .int .i64 (nl ns f : Int), .int .i64 (nh ns f : Int)] 134)
 have hA1 := hA.alloc (.cells #[.int .i64 (i : Int), .int .i64 0, .int .i64 0] 134)
 have M1 := hA.loc #[.int .i64 (i : Int), .int .i64 0, .int .i64 0] 134
 rw [show (w.alloc (.cells #[.int .i64 (nv ns f : Int), .int .i64 (nl ns f : Int), .int .i64 (nh ns f : Int)] 134)).heap.size = w.heap.size + 1 by simp] at M1
 obtain ⟨b0, b1, b2, b3, b4, bf⟩ := h.reads
 obtain ⟨cap, a0, a1, a2, a3, af, an⟩ := h.ar.reads
 obtain ⟨n0, n1, n2⟩ := an f hf
 have hl : ns.length <= 40000 := Nat.le_trans h.ar.le h.ar.most4
 have lb := h.ltb
 have wf := h.ar.wf
 have v16 := h.ar.vars16
 have hp2 : 2 ^ (k + 1) = 2 * 2 ^ k := by rw [Nat.pow_succ]; omega
 have hp1 : 1 <= 2 ^ k := Nat.one_le_two_pow
 have t1 : decide ((j : Int) < (nv ns f : Int)) = false := by simp; omega
 have t2 : decide ((nv ns f : Int) < (i : Int)) = false := by simp; omega
 have hmn : ∀ (ts : Array TypeId) (t : TypeId) (W : World), (Builtin.min_ ts t #[.int .i64 (nv ns f : Int), .int .i64 (i : Int)]).run Tryz.prog W = .ok (.int .i64 (i : Int)) W := fun ts t W => by
  have := run_min2 (nv ns f) i ts t W
  rw [show min (nv ns f) i = i by omega] at this
  exact this
 have hlook := (hA.bu.o3 c3 hc3).look Tryz.u47 (x := f) (by show f < _; omega)
 rw [hr] at hlook
 simp only [intE, Option.getD_none, Option.isSome_none] at hlook
 rw [hc3] at b4
 have hiv : i < C.vars := by omega
 have lp0 := partOf_lt wf hf hiv false
 have lp1 := partOf_lt wf hf hiv true
 have vp0 := partOf_va wf hf hiv hi false
 have vp1 := partOf_va wf hf hiv hi true
 have HF : Hq (∀ z, FitM S j ns (partOf ns f i false, partOf ns f i true, z) k) := ⟨fun z => hk.mix wf hij hj hf hi z⟩
 clear h an hk
 generalize rowOf w C.a = g at *
 go_enter Tryz.func186, Tryz.ntmps186
 go_wp2_with fail
 refine (part_any hA1.bu false hf (by omega)).mono ?_
 rintro e w2 ⟨rfl, hp⟩
 have hA2 := hA1.then hp
 have M2 := M1.kp hp.kp
 clear hp hA hA1 M1 hlook b0 b1 b2 b3 b4 bf a0 a1 a2 a3 af n0 n1 n2 hmn
 go_wp2_with fail
 refine (part_any hA2.bu true hf (by omega)).mono ?_
 rintro e w3 ⟨rfl, hp⟩
 have hA3 := hA2.then hp
 have M3 := M2.kp hp.kp
 clear hp hA2 M2
 generalize hq0 : partOf ns f i false = x0 at *
 generalize hq1 : partOf ns f i true = x1 at *
 have hin : ∀ z, InsideM ns (x0, x1, z) := fun z => ⟨lp0, lp1⟩
 have hmi : ∀ z, i < minb ns (x0, x1, z) j := fun z => by simp only [minb]; omega
 go_wp2_with fail
 refine (hbl.out _ ns false N m2 (x0, x1, false) hA3.bu (hin false) (HF.out false) (fun _ => hmb) (by omega)).mono ?_
 rintro e w4 ⟨f0, ns1, full1, N1, m21, rfl, hp, X1, l1, k1, lt0, _, s1⟩
 have hA4 := hA3.then hp
 have M4 := M3.kp hp.kp
 clear hp hA3 M3
 have wf1 := hA4.bu.ar.wf
 have X1l := X1.len
 obtain ⟨⟨p0, p1, p2⟩, g0, g1, g2⟩ := M4.reads
 have hA5 := hA4.set (p := ⟨w.heap.size + 1, 1, none⟩) M4.out (Nat.le_succ _) (.int .i64 (f0 : Int))
 have M5 := M4.set (j := 1) (.int .i64 (f0 : Int))
 simp only [List.setIfInBounds_toArray, List.set_cons_succ, List.set_cons_zero] at M5
 go_wp2_with fail
 refine (hbl.out _ ns1 full1 N1 m21 (x0, x1, true) hA5.bu ((hin true).ext X1) ((HF.out true).ext wf hA5.bu.ar.wf (hin true) X1) (fun e => (s1 e).1) (by omega)).mono ?_
 rintro e w6 ⟨f1, ns2, full2, N2, m22, rfl, hp, X2, l2, k2, lt1, mo2, s2⟩
 have hA6 := hA5.then hp
 have M6 := M5.kp hp.kp
 clear hp M4 hA4 p0 p1 p2 g0 g1 g2 hA5 M5
 have wf2 := hA6.bu.ar.wf
 have X2l := X2.len
 have X02 := X1.trans X2
 have sem2 : full2 = false -> MemoB ns2 j m22 ∧ IsBl ns2 j (x0, x1, false) f0 ∧ IsBl ns2 j (x0, x1, true) f1 := fun e2 => by
  have e1 : full1 = false := by cases full1 <;> simp_all
  exact ⟨(s2 e2).1, (s1 e1).2.ext X2 wf1 wf2, (s2 e2).2⟩
 obtain ⟨⟨p0, p1, p2⟩, g0, g1, g2⟩ := M6.reads
 have hA7 := hA6.set (p := ⟨w.heap.size + 1, 2, none⟩) M6.out (Nat.le_succ _) (.int .i64 (f1 : Int))
 have M7 := M6.set (j := 2) (.int .i64 (f1 : Int))
 simp only [List.setIfInBounds_toArray, List.set_cons_succ, List.set_cons_zero] at M7
 obtain ⟨⟨p0', p1', p2'⟩, _⟩ := M7.reads
 go_wp2_with fail
 refine (numberOf_any hA7.bu (v := i) (l := f0) (u := f1) (by omega) (by omega) lt1 (fun e2 => ?_)).mono ?_
 ·obtain ⟨_, a1, a2⟩ := sem2 e2
  have c1 := a1.va
  have c2 := a2.va
  rw [minb_ext (hin _) X02] at c1 c2
  have := hmi false
  have := hmi true
  omega
 rintro e w7 ⟨r, ns3, full3, rfl, hp, X3, l3, lt3, mo3, s3⟩
 have hA8 := hA7.then hp
 clear hp M6 hA6 hA7 M7 p0 p1 p2 g0 g1 g2 p0' p1' p2'
 have wf3 := hA8.bu.ar.wf
 have len3 : ns3.length <= 40000 := Nat.le_trans hA8.bu.ar.le hA8.bu.ar.most4
 obtain ⟨w8, hrun, hM8, hg8⟩ := (hA8.bu.o3 c3 hc3).store Tryz.u47 (by unfold maxLen; omega) (x := f) (by show f < _; omega) (v := r) (by omega)
 have hA9 := hA8.memo3 hc3 hM8 hg8
 obtain ⟨d0, d1, d2, d3, d4, df⟩ := hA8.bu.reads
 rw [hc3] at d4
 simp only [intE] at hrun
 have hfin : SwapPost C w ns false N m1 i j f (2 ^ (k + 1) - 1) (.returned (.int .i64 (r : Int))) w8 := by
  refine ⟨r, ns3, full3, N2 + 1, m22, _, rfl, hA9, X02.trans X3, by omega, by omega, lt3, (fun e => by cases e), fun e3 => ?_⟩
  have e2 : full2 = false := by cases full2 <;> simp_all
  obtain ⟨a0, a1, a2⟩ := sem2 e2
  have X03 := X02.trans X3
  have X03l := X03.len
  have J : IsSw ns3 i j f r := by
   refine isSw_here (l := f0) (u := f1) wf3 hij hj (by omega) (by rw [X03.va hf]; exact hi) ?_ ?_ (s3 e3)
   ·rw [partOf_ext X03 hf, partOf_ext X03 hf, hq0, hq1]; exact a1.ext X3 wf2 wf3
   ·rw [partOf_ext X03 hf, partOf_ext X03 hf, hq0, hq1]; exact a2.ext X3 wf2 wf3
  exact ⟨a0.ext X3 wf2 wf3, (hms.ext X03 wf wf3).upd J, J⟩
 clear hA8 hM8 hg8 hA9
 go_wp2_with fail
 go_ret
 exact hfin
theorem swap_fit (S : Nat -> Bool) {c2 c3 : Nat} (hc2 : C.c2 = some c2) (hc3 : C.c3 = some c3) {i j : Nat} (hij : i < j) (hj : j < C.vars) : ∀ (k : Nat) (w : World) (ns : List Nd) (full : Bool) (N : Nat) (m2 : Mx -> Option Nat) (m3 : Nat -> Option Nat) (f : Nat), Bu C w ns full N m1 m2 m3 -> f < ns.length -> FitW S i j C.vars ns f k ->
  (full = false -> MemoB ns j m2 ∧ MemoS ns i j m3) -> N + 2 ^ k <= 1099511627776 -> Calls Tryz.prog 186 #[.pointer (some ⟨C.b, 0, none⟩), .int .i64 (f : Int), .int .i64 (i : Int), .int .i64 (j : Int)] w (SwapPost C w ns full N m1 i j f (2 ^ k - 1)) := by
 intro k
 induction k with
 | zero =>
   intro w ns full N m2 m3 f h hf hk
   have := hk.pos (show i < C.vars by omega)
   omega
 | succ k ih =>
   intro w ns full N m2 m3 f h hf hk hm hN
   cases full
   ·by_cases hfj : j < nv ns f
    ·refine (swap_far h hf hfj).mono ?_
     rintro e w' ⟨rfl, hA⟩
     exact ⟨f, ns, false, N, m2, m3, rfl, hA, Ext.refl _, by omega, by omega, hf, id, fun _ => ⟨(hm rfl).1, (hm rfl).2, isSw_far h.ar.wf hij hf hfj⟩⟩
    ·cases hr : m3 f with
     | none =>
       by_cases hi : nv ns f < i
       ·exact swap_up h hc3 hij hj hf hi hr hk (hm rfl).1 (hm rfl).2 hN ⟨ih⟩
       ·exact swap_here h hc3 hij hj hf (by omega) (by omega) hr hk (hm rfl).1 (hm rfl).2 hN ⟨fun w ns full N m2 x => blend_fit S hc2 hj k w ns full N m2 x⟩
     | some r =>
       refine (swap_hit h hc3 hf (by omega) hr).mono ?_
       rintro e w' ⟨rfl, hA⟩
       have J := (hm rfl).2 _ _ hr
       exact ⟨r, ns, false, N, m2, m3, rfl, hA, Ext.refl _, by omega, by omega, J.lt, id, fun _ => ⟨(hm rfl).1, (hm rfl).2, J⟩⟩
   ·refine (swap_full h hf i j).mono ?_
    rintro e w' ⟨rfl, hA⟩
    exact ⟨0, ns, true, N, m2, m3, rfl, hA, Ext.refl _, by omega, by omega, (by have := h.ar.wf.len; omega), id, fun e => by cases e⟩
end
def wth (S : Nat -> Bool) (i j : Nat) : Nat -> Bool := fun x => S x || x == i || x == j
theorem cnR_le (S : Nat -> Bool) : ∀ d v, cnR S d v <= d
 | 0, _ => Nat.le_refl _
 | d + 1, v => by
   have := cnR_le S d (v + 1)
   rw [cnR]
   split <;> omega
theorem cnS_le {S : Nat -> Bool} {vars : Nat} (v : Nat) : cnS S vars v <= vars := by
 have := cnR_le S (vars - v) v
 unfold cnS
 omega
theorem fitW_with {S : Nat -> Bool} {vars i j f : Nat} {ns : List Nd} (hd : DepS S (ev ns f)) : FitW (wth S i j) (min i j) (max i j) vars ns f (cnS (wth S i j) vars 0) := by
 have hi : wth S i j i = true := by simp [wth]
 have hj : wth S i j j = true := by simp [wth]
 refine ⟨hd.mono fun x hx => by simp [wth, hx], ?_, ?_, cnS_anti (Nat.zero_le _)⟩
 ·rcases Nat.le_total i j with h | h
  ·rw [Nat.min_eq_left h]; exact hi
  ·rw [Nat.min_eq_right h]; exact hj
 ·rcases Nat.le_total i j with h | h
  ·rw [Nat.max_eq_right h]; exact hj
  ·rw [Nat.max_eq_left h]; exact hi
section
variable {base a M vars most : Nat} {w : World} {ns : List Nd}
theorem and_fit (S : Nat -> Bool) (h : Ar base a M vars most w ns) {f g : Nat} (hf : f < ns.length) (hg : g < ns.length) (d1 : DepS S (ev ns f)) (d2 : DepS S (ev ns g)) :
  Calls Tryz.prog 98 #[.pointer (some ⟨a, 0, none⟩), .int .i64 (f : Int), .int .i64 (g : Int)] w (OpPost base a M vars most w ns (2 ^ cnS S vars 0 - 1) (fun q => ev ns f q && ev ns g q)) := by
 have l2 := h.wf.len
 have hc : Hq (Calls Tryz.prog 133 #[.pointer (some ⟨a, 0, none⟩), .int .i64 (f : Int), .int .i64 (g : Int), .int .i64 ((0 : Nat) : Int)] w (OpPost base a M vars most w ns (2 ^ cnS S vars 0 - 1) fun q => if ev ns f q then ev ns g q else ev ns 0 q)) := ⟨ite_fit S h (c := (f, g, 0)) ⟨hf, by show g < _; omega, by show 0 < _; omega⟩ ⟨d1, d2, (fun e e' _ => by rw [ev0, ev0]), cnS_anti (Nat.zero_le _)⟩ (Nat.le_trans (cnS_le 0) h.vars16)⟩
 clear d1 d2
 generalize cnS S vars 0 = kk at *
 go_enter Tryz.func98, Tryz.ntmps98
 go_wp2_with fail
 refine hc.out.mono ?_
 rintro e w' hp
 have hp2 : OpPost base a M vars most w ns (2 ^ kk - 1) (fun q => ev ns f q && ev ns g q) e w' := hp.of (fun q => by simp only [ev0]; cases ev ns f q <;> simp)
 clear hp
 have hp3 := hp2
 obtain ⟨ns', _, _, _, _, ⟨f', rfl, _⟩ | ⟨rfl, _⟩⟩ := hp2
 ·go_wp2_with fail
  go_ret2
  exact hp3
 ·go_wp2_with fail
  go_ret2
  exact hp3
theorem or_fit (S : Nat -> Bool) (h : Ar base a M vars most w ns) {f g : Nat} (hf : f < ns.length) (hg : g < ns.length) (d1 : DepS S (ev ns f)) (d2 : DepS S (ev ns g)) :
  Calls Tryz.prog 115 #[.pointer (some ⟨a, 0, none⟩), .int .i64 (f : Int), .int .i64 (g : Int)] w (OpPost base a M vars most w ns (2 ^ cnS S vars 0 - 1) (fun q => ev ns f q || ev ns g q)) := by
 have l2 := h.wf.len
 have hc : Hq (Calls Tryz.prog 133 #[.pointer (some ⟨a, 0, none⟩), .int .i64 (f : Int), .int .i64 ((1 : Nat) : Int), .int .i64 (g : Int)] w (OpPost base a M vars most w ns (2 ^ cnS S vars 0 - 1) fun q => if ev ns f q then ev ns 1 q else ev ns g q)) := ⟨ite_fit S h (c := (f, 1, g)) ⟨hf, by show 1 < _; omega, by show g < _; omega⟩ ⟨d1, (fun e e' _ => by rw [ev1, ev1]), d2, cnS_anti (Nat.zero_le _)⟩ (Nat.le_trans (cnS_le 0) h.vars16)⟩
 clear d1 d2
 generalize cnS S vars 0 = kk at *
 go_enter Tryz.func115, Tryz.ntmps115
 go_wp2_with fail
 refine hc.out.mono ?_
 rintro e w' hp
 have hp2 : OpPost base a M vars most w ns (2 ^ kk - 1) (fun q => ev ns f q || ev ns g q) e w' := hp.of (fun q => by simp only [ev1]; cases ev ns f q <;> simp)
 clear hp
 have hp3 := hp2
 obtain ⟨ns', _, _, _, _, ⟨f', rfl, _⟩ | ⟨rfl, _⟩⟩ := hp2
 ·go_wp2_with fail
  go_ret2
  exact hp3
 ·go_wp2_with fail
  go_ret2
  exact hp3
theorem exists_ok (h : Ar base a M vars most w ns) {f i : Nat} (hf : f < ns.length) (hi : i < vars) :
  Calls Tryz.prog 182 #[.pointer (some ⟨a, 0, none⟩), .int .i64 (f : Int), .int .i64 (i : Int)] w (OpPost base a M vars most w ns (2 ^ vars - 1) fun q => ev ns f (setE q i false) || ev ns f (setE q i true)) := by
 have hmm := @run_makeMap Tryz.prog
 have la := h.lta
 have lM := h.ltM
 have hA := h.lowA
 have v16 := h.vars16
 have wf := h.wf
 have hs : ((w.alloc (.map #[] 0)).alloc (.map #[] 0)).heap.size = w.heap.size + 2 := by simp
 have hs1 : (w.alloc (.map #[] 0)).heap.size = w.heap.size + 1 := by simp
 have hpw := Nat.pow_le_pow_right (n := 2) (by omega) v16
 have hb := bu_new (w := (w.alloc (.map #[] 0)).alloc (.map #[] 0)) (C := ⟨base, a, w.heap.size + 2, M, some w.heap.size, none, some (w.heap.size + 1), vars, most⟩) (m1 := fun _ => none) (m2 := fun _ => none) (m3 := fun _ => none) ((h.alloc _).alloc _) (by simp) (by rw [hs]; show base <= _; omega)
  (fun i e => by cases e; exact (mapIs_made choiceE w).same (Below.heap_alloc _ _ _ (by simp))) (fun _ e => by cases e) (fun i e => by cases e; have hq := mapIs_made intE (w.alloc (.map #[] 0)); rw [hs1] at hq; exact hq)
  (fun i e => by cases e; exact ⟨by show base <= w.heap.size; omega, by show w.heap.size ≠ M; omega, (fun e => by simp at e), (fun e => by simp at e)⟩) (fun _ e => by cases e) (fun i e => by cases e; exact ⟨by show base <= w.heap.size + 1; omega, by show w.heap.size + 1 ≠ M; omega, (fun e => by simp at e), (fun e => by simp at e)⟩)
 have hch := exists_any (C := ⟨base, a, w.heap.size + 2, M, some w.heap.size, none, some (w.heap.size + 1), vars, most⟩) (c1 := w.heap.size) (c3 := w.heap.size + 1) rfl rfl hi vars _ ns false 0 _ _ f hb hf (Nat.le_add_left _ _) (fun _ => ⟨(fun _ _ e => by cases e), (fun _ _ e => by cases e)⟩) (by omega)
 have t1 : (decide ((0 : Int) <= (f : Int)) && decide ((f : Int) < (ns.length : Int))) = true := by simp; omega
 have t2 : (decide ((0 : Int) <= (i : Int)) && decide ((i : Int) < (vars : Int))) = true := by simp; omega
 have hch' := Hq.mk hch
 clear hch hb hpw
 go_enter Tryz.func182, Tryz.ntmps182
 go_wp2_with (first
  | (go_at_call 63; refine (hasFunction_any h (f : Int)).mono ?_; rintro e w' ⟨rfl, rfl⟩; rw [t1])
  | (go_at_call 139; refine (hasVariable_any h (i : Int)).mono ?_; rintro e w' ⟨rfl, rfl⟩; rw [t2]))
 refine hch'.out.mono ?_
 rintro e w2 ⟨r, ns', full', N', m1', m3', rfl, hp, X, l1, _, lt, _, sm⟩
 have wf' := hp.bu.ar.wf
 have hK : Kp (ca base a M vars most) w' w2 := hp.kp.outer rfl rfl rfl rfl (by simp; omega) (fun i hi => (Below.heap_alloc _ _ _ (by simp; omega)).trans ((Below.heap_alloc _ _ _ (by simp; omega)).trans (Below.heap_alloc _ _ _ hi))) (by
  rintro i (e | e | e | e | e | e)
  ·exact Or.inl e
  ·exact Or.inr (Or.inr (by rw [e]; show _ <= w'.heap.size + 2; omega))
  ·exact Or.inr (Or.inl e)
  ·cases e; exact Or.inr (Or.inr (Nat.le_refl _))
  ·cases e
  ·cases e; exact Or.inr (Or.inr (Nat.le_succ _))) la
 go_wp2_with fail
 cases full'
 ·refine (answer_any hp.bu r).mono ?_
  rintro e w3 ⟨rfl, rfl⟩
  have hfin : OpPost base a M vars most w' ns (2 ^ vars - 1) (fun q => ev ns f (setE q i false) || ev ns f (setE q i true)) (.returned (.tuple #[.int .i64 (r : Int), .int .i64 0])) w3 :=
   ⟨ns', hp.bu.ar, hK, X, l1, Or.inl ⟨r, rfl, lt, fun q => by rw [(sm rfl).2.2.ev q, X.ev wf wf' _ hf, X.ev wf wf' _ hf]⟩⟩
  clear hp hK
  go_wp2_with fail
  go_ret2
  exact hfin
 ·refine (answer_any hp.bu r).mono ?_
  rintro e w3 ⟨rfl, rfl⟩
  have hfin : OpPost base a M vars most w' ns (2 ^ vars - 1) (fun q => ev ns f (setE q i false) || ev ns f (setE q i true)) (.returned (.tuple #[.int .i64 0, .int .i64 6])) w3 :=
   ⟨ns', hp.bu.ar, hK, X, l1, Or.inr ⟨rfl, hp.bu.full_len rfl⟩⟩
  clear hp hK
  go_wp2_with fail
  go_ret2
  exact hfin
theorem swE_comm (e : Env) (i j : Nat) : swE e i j = swE e j i := by
 funext x
 unfold swE
 by_cases h1 : x = i <;> by_cases h2 : x = j <;> simp_all
theorem swE_same (e : Env) (i : Nat) : swE e i i = e := by
 funext x
 unfold swE
 by_cases h1 : x = i <;> simp_all
theorem run_max2 (x y : Nat) (ts : Array TypeId) (t : TypeId) (W : World) : (Builtin.max_ ts t #[.int .i64 (x : Int), .int .i64 (y : Int)]).run Tryz.prog W = .ok (.int .i64 ((max x y : Nat) : Int)) W := by
 have e : ((max x y : Nat) : Int) = if (x : Int) < (y : Int) then (y : Int) else (x : Int) := by split <;> omega
 rw [e]
 simp [Builtin.max_, Builtin.max2]
theorem swap_one (h : Ar base a M vars most w ns) {f i : Nat} (hf : f < ns.length) (hi : i < vars) :
  Calls Tryz.prog 181 #[.pointer (some ⟨a, 0, none⟩), .int .i64 (f : Int), .int .i64 (i : Int), .int .i64 (i : Int)] w fun e w' => e = .returned (.tuple #[.int .i64 (f : Int), .int .i64 0]) ∧ w' = w := by
 have t1 : (decide ((0 : Int) <= (f : Int)) && decide ((f : Int) < (ns.length : Int))) = true := by simp; omega
 have t2 : (decide ((0 : Int) <= (i : Int)) && decide ((i : Int) < (vars : Int))) = true := by simp; omega
 go_enter Tryz.func181, Tryz.ntmps181
 go_wp2_with (first
  | (go_at_call 63; refine (hasFunction_any h (f : Int)).mono ?_; rintro e w' ⟨rfl, rfl⟩; rw [t1])
  | (go_at_call 139; refine (hasVariable_any h (i : Int)).mono ?_; rintro e w' ⟨rfl, rfl⟩; rw [t2]))
 go_ret2
 exact ⟨rfl, rfl⟩
theorem swap_two (S : Nat -> Bool) (h : Ar base a M vars most w ns) {f i j : Nat} (hf : f < ns.length) (hi : i < vars) (hj : j < vars) (hij : i ≠ j) (hd : DepS S (ev ns f)) :
  Calls Tryz.prog 181 #[.pointer (some ⟨a, 0, none⟩), .int .i64 (f : Int), .int .i64 (i : Int), .int .i64 (j : Int)] w (OpPost base a M vars most w ns (2 ^ cnS (wth S i j) vars 0 - 1) fun q => ev ns f (swE q i j)) := by
 have hmm := @run_makeMap Tryz.prog
 have la := h.lta
 have lM := h.ltM
 have hA := h.lowA
 have v16 := h.vars16
 have wf := h.wf
 have hs : ((w.alloc (.map #[] 0)).alloc (.map #[] 0)).heap.size = w.heap.size + 2 := by simp
 have hs1 : (w.alloc (.map #[] 0)).heap.size = w.heap.size + 1 := by simp
 have hpw := Nat.pow_le_pow_right (n := 2) (by omega) (Nat.le_trans (cnS_le (S := wth S i j) (vars := vars) 0) v16)
 have hb := bu_new (w := (w.alloc (.map #[] 0)).alloc (.map #[] 0)) (C := ⟨base, a, w.heap.size + 2, M, none, some (w.heap.size + 1), some w.heap.size, vars, most⟩) (m1 := fun _ => none) (m2 := fun _ => none) (m3 := fun _ => none) ((h.alloc _).alloc _) (by simp) (by rw [hs]; show base <= _; omega)
  (fun _ e => by cases e) (fun i e => by cases e; have hq := mapIs_made mixE (w.alloc (.map #[] 0)); rw [hs1] at hq; exact hq) (fun i e => by cases e; exact (mapIs_made intE w).same (Below.heap_alloc _ _ _ (by simp)))
  (fun _ e => by cases e) (fun i e => by cases e; exact ⟨by show base <= w.heap.size + 1; omega, by show w.heap.size + 1 ≠ M; omega, (fun e => by simp at e), (fun e => by simp at e)⟩) (fun i e => by cases e; exact ⟨by show base <= w.heap.size; omega, by show w.heap.size ≠ M; omega, (fun e => by simp at e), (fun e => by simp at e)⟩)
 have hch := swap_fit (wth S i j) (C := ⟨base, a, w.heap.size + 2, M, none, some (w.heap.size + 1), some w.heap.size, vars, most⟩) (m1 := fun _ => none) (c2 := w.heap.size + 1) (c3 := w.heap.size) rfl rfl (i := min i j) (j := max i j) (by omega) (by show max i j < vars; omega) (cnS (wth S i j) vars 0) _ ns false 0 _ _ f hb hf (fitW_with hd) (fun _ => ⟨(fun _ _ e => by cases e), (fun _ _ e => by cases e)⟩) (by omega)
 have t1 : (decide ((0 : Int) <= (f : Int)) && decide ((f : Int) < (ns.length : Int))) = true := by simp; omega
 have t2 : (decide ((0 : Int) <= (i : Int)) && decide ((i : Int) < (vars : Int))) = true := by simp; omega
 have t3 : (decide ((0 : Int) <= (j : Int)) && decide ((j : Int) < (vars : Int))) = true := by simp; omega
 have t4 : ((i : Int) == (j : Int)) = false := by simp; omega
 have hsw : ∀ q, swE q (min i j) (max i j) = swE q i j := fun q => by
  rcases Nat.le_total i j with hle | hle
  ·rw [Nat.min_eq_left hle, Nat.max_eq_right hle]
  ·rw [Nat.min_eq_right hle, Nat.max_eq_left hle, swE_comm]
 have hmn : ∀ (ts : Array TypeId) (t : TypeId) (W : World), (Builtin.min_ ts t #[.int .i64 (i : Int), .int .i64 (j : Int)]).run Tryz.prog W = .ok (.int .i64 ((min i j : Nat) : Int)) W := fun ts t W => run_min2 i j ts t W
 have hmx : ∀ (ts : Array TypeId) (t : TypeId) (W : World), (Builtin.max_ ts t #[.int .i64 (i : Int), .int .i64 (j : Int)]).run Tryz.prog W = .ok (.int .i64 ((max i j : Nat) : Int)) W := fun ts t W => run_max2 i j ts t W
 generalize cnS (wth S i j) vars 0 = kk at *
 generalize min i j = lo at *
 generalize max i j = up at *
 have hch' := Hq.mk hch
 have hsw' := Hq.mk hsw
 clear hch hb hpw hsw hd
 go_enter Tryz.func181, Tryz.ntmps181
 go_wp2_with (first
  | (go_at_call 63; refine (hasFunction_any h (f : Int)).mono ?_; rintro e w' ⟨rfl, rfl⟩; rw [t1])
  | (go_at_call_of 139 (Value.int .i64 (i : Int)); refine (hasVariable_any h (i : Int)).mono ?_; rintro e w' ⟨rfl, rfl⟩; rw [t2])
  | (go_at_call_of 139 (Value.int .i64 (j : Int)); refine (hasVariable_any h (j : Int)).mono ?_; rintro e w' ⟨rfl, rfl⟩; rw [t3]))
 refine hch'.out.mono ?_
 rintro e w2 ⟨r, ns', full', N', m2', m3', rfl, hp, X, l1, _, lt, _, sm⟩
 have wf' := hp.bu.ar.wf
 have hK : Kp (ca base a M vars most) w' w2 := hp.kp.outer rfl rfl rfl rfl (by simp; omega) (fun i hi => (Below.heap_alloc _ _ _ (by simp; omega)).trans ((Below.heap_alloc _ _ _ (by simp; omega)).trans (Below.heap_alloc _ _ _ hi))) (by
  rintro i (e | e | e | e | e | e)
  ·exact Or.inl e
  ·exact Or.inr (Or.inr (by rw [e]; show _ <= w'.heap.size + 2; omega))
  ·exact Or.inr (Or.inl e)
  ·cases e
  ·cases e; exact Or.inr (Or.inr (Nat.le_succ _))
  ·cases e; exact Or.inr (Or.inr (Nat.le_refl _))) la
 go_wp2_with fail
 cases full'
 ·refine (answer_any hp.bu r).mono ?_
  rintro e w3 ⟨rfl, rfl⟩
  have hfin : OpPost base a M vars most w' ns (2 ^ kk - 1) (fun q => ev ns f (swE q i j)) (.returned (.tuple #[.int .i64 (r : Int), .int .i64 0])) w3 :=
   ⟨ns', hp.bu.ar, hK, X, l1, Or.inl ⟨r, rfl, lt, fun q => by rw [(sm rfl).2.2.ev q, X.ev wf wf' _ hf, hsw'.out]⟩⟩
  clear hp hK
  go_wp2_with fail
  go_ret2
  exact hfin
 ·refine (answer_any hp.bu r).mono ?_
  rintro e w3 ⟨rfl, rfl⟩
  have hfin : OpPost base a M vars most w' ns (2 ^ kk - 1) (fun q => ev ns f (swE q i j)) (.returned (.tuple #[.int .i64 0, .int .i64 6])) w3 :=
   ⟨ns', hp.bu.ar, hK, X, l1, Or.inr ⟨rfl, hp.bu.full_len rfl⟩⟩
  clear hp hK
  go_wp2_with fail
  go_ret2
  exact hfin
theorem swap_ok (S : Nat -> Bool) (h : Ar base a M vars most w ns) {f i j : Nat} (hf : f < ns.length) (hi : i < vars) (hj : j < vars) (hd : DepS S (ev ns f)) :
  Calls Tryz.prog 181 #[.pointer (some ⟨a, 0, none⟩), .int .i64 (f : Int), .int .i64 (i : Int), .int .i64 (j : Int)] w (OpPost base a M vars most w ns (2 ^ cnS (wth S i j) vars 0 - 1) fun q => ev ns f (swE q i j)) := by
 by_cases e : i = j
 ·subst e
  refine (swap_one h hf hi).mono ?_
  rintro e w' ⟨rfl, rfl⟩
  exact ⟨ns, h, Kp.refl _ _, Ext.refl _, Nat.le_add_right _ _, Or.inl ⟨f, rfl, hf, fun q => by show ev ns f q = ev ns f (swE q i i); rw [swE_same]⟩⟩
 ·exact swap_two S h hf hi hj e hd
end
def Bz (W : World) (k : Nat) (c : Array Value) (t : TypeId) : Prop := W.heap[k]? = some (.cells c t (0, 0))
theorem Bz.lt {W : World} {k : Nat} {c : Array Value} {t : TypeId} (h : Bz W k c t) : k < W.heap.size := (Array.getElem?_eq_some_iff.1 h).1
theorem Bz.cell {W : World} {k : Nat} {c : Array Value} {t : TypeId} (h : Bz W k c t) (j : Nat) (v : Value) (hj : c[j]? = some v) : W.cell? ⟨k, j, none⟩ = some v := by
 unfold Bz at h
 simp [World.cell?, h, hj]
theorem Bz.free {W : World} {k : Nat} {c : Array Value} {t : TypeId} (h : Bz W k c t) (j : Nat) : W.frozen? ⟨k, j, none⟩ = false := by unfold Bz at h; simp [World.frozen?, h]
theorem Bz.set {W : World} {k j : Nat} {c : Array Value} {t : TypeId} (h : Bz W k c t) (u : Value) : Bz (W.setCell ⟨k, j, none⟩ u) k (c.setIfInBounds j u) t := by
 unfold Bz at *
 simp [World.setCell, Array.getElem?_modify, h]
theorem Bz.new (w : World) (c : Array Value) (t : TypeId) (k : Nat) (h : k = w.heap.size) : Bz (w.alloc (.cells c t)) k c t := by subst h; exact Go.heap_alloc_new w _
structure Bn (base q a M : Nat) (w0 w : World) (ns : List Nd) (er : Int) : Prop where
 ar : Ar base a M 14 40000 w ns
 blk : Bz w q #[.pointer (some ⟨a, 0, none⟩), .int .i64 er] 162
 lo : base <= q
 er6 : er = 0 ∨ er = 6
 bel : Below base w0 w
def Fn (ns : List Nd) (er : Int) (f : Nat) (φ : Env -> Bool) : Prop := f < ns.length ∧ (er = 0 -> ∀ x, ev ns f x = φ x)
def OPost (base a M : Nat) (w : World) (ns : List Nd) (g : Nat) (φ : Env -> Bool) (e : Ending) (w' : World) : Prop :=
 ∃ (ns' : List Nd) (v er : Int), e = .returned (.tuple #[.int .i64 v, .int .i64 er]) ∧ Ar base a M 14 40000 w' ns' ∧ Kp (ca base a M 14 40000) w w' ∧ Ext ns ns' ∧ ns'.length <= ns.length + g ∧
   Hid ((er = 0 ∧ ∃ f : Nat, v = (f : Int) ∧ f < ns'.length ∧ ∀ x, ev ns' f x = φ x) ∨ (er = 6 ∧ v = 0 ∧ 40000 <= ns.length + g))
theorem OpPost.o {base a M : Nat} {w w' : World} {ns : List Nd} {g : Nat} {φ : Env -> Bool} {e : Ending} (h : OpPost base a M 14 40000 w ns g φ e w') : OPost base a M w ns g φ e w' := by
 obtain ⟨ns', r1, r2, r3, r4, ⟨f, e1, e2⟩ | ⟨e1, e2⟩⟩ := h
 ·exact ⟨ns', f, 0, e1, r1, r2, r3, r4, Or.inl ⟨rfl, f, rfl, e2⟩⟩
 ·exact ⟨ns', 0, 6, e1, r1, r2, r3, r4, Or.inr ⟨rfl, rfl, by omega⟩⟩
theorem MkPost.o {base a M : Nat} {w w' : World} {ns : List Nd} {g i : Nat} {φ : Env -> Bool} {e : Ending} (h : MkPost base a M 14 40000 w ns g i φ e w') : OPost base a M w ns g φ e w' := by
 obtain ⟨ns', r1, r2, r3, r4, ⟨f, e1, e2, e3, e4⟩ | ⟨e1, e2⟩⟩ := h
 ·exact ⟨ns', f, 0, e1, r1, r2, r3, r4, Or.inl ⟨rfl, f, rfl, e2, e4⟩⟩
 ·exact ⟨ns', 0, 6, e1, r1, r2, r3, r4, Or.inr ⟨rfl, rfl, by omega⟩⟩
theorem BPost.o {base a M : Nat} {w w' : World} {ns : List Nd} {xs : List Rl} {e : Ending} (h : BPost True base a M w ns xs e w') : OPost base a M w ns 40000 (letsF xs) e w' := by
 obtain ⟨ns', r1, r2, r3, ⟨f, e1, e2⟩ | ⟨e1, e2⟩⟩ := h
 ·have := r1.le
  exact ⟨ns', f, 0, e1, r1, r2, r3, by omega, Or.inl ⟨rfl, f, rfl, e2⟩⟩
 ·have := r1.le
  exact ⟨ns', 0, 6, e1, r1, r2, r3, by omega, Or.inr ⟨rfl, rfl, by omega⟩⟩
def okT (t : TypeId) : Prop := (t ≠ 93 ∧ t ≠ 96) ∧ t ≠ 134 ∧ t ≠ 162
instance (t : TypeId) : Decidable (okT t) := by unfold okT; infer_instance
def TF (w w' : World) : Prop := ∀ i c t, Bz w i c t -> okT t -> Bz w' i c t
theorem TF.refl (w : World) : TF w w := fun _ _ _ h _ => h
theorem TF.trans {w w1 w2 : World} (h : TF w w1) (k : TF w1 w2) : TF w w2 := fun i c t hb ht => k i c t (h i c t hb ht) ht
theorem TF.below {w w' : World} (h : Below w.heap.size w w') : TF w w' := fun i _ _ hb _ => (h.block i hb.lt).trans hb
def BOut (base q a M : Nat) (w0 w : World) (ns : List Nd) (er : Int) (g : Nat) (φ : Env -> Bool) (e : Ending) (w' : World) : Prop :=
 ∃ (f : Nat) (ns' : List Nd) (er' : Int), e = .returned (.int .i64 (f : Int)) ∧ (Bn base q a M w0 w' ns' er' ∧ TF w w') ∧ Ext ns ns' ∧ (er' = 0 -> er = 0) ∧ Fn ns' er' f φ ∧ Hid (er = 0 -> ns'.length <= ns.length + g ∧ (er' ≠ 0 -> 40000 <= ns.length + g))
section
variable {base q a M : Nat} {w0 w w1 : World} {ns ns' : List Nd} {er er' : Int}
theorem Fn.step {f : Nat} {φ : Env -> Bool} (h : Fn ns er f φ) (A : Wf 14 ns) (A' : Wf 14 ns') (X : Ext ns ns') (he : er' = 0 -> er = 0) : Fn ns' er' f φ := by
 have := X.len
 exact ⟨by have := h.1; omega, fun e x => by rw [X.ev A A' f h.1]; exact h.2 (he e) x⟩
theorem Bn.keep (h : Bn base q a M w0 w ns er) (k : Kp (ca base a M 14 40000) w w1) : Bz w1 q #[.pointer (some ⟨a, 0, none⟩), .int .i64 er] 162 := ((h.ar.outBox h.blk (by decide) (by decide)).kp k).blk
theorem Ar.setQ {er2 : Value} {c : Array Value} (A : Ar base a M 14 40000 w ns) (hq : Bz w q c 162) : Ar base a M 14 40000 (w.setCell ⟨q, 1, none⟩ er2) ns := by
 have L := (A.outBox hq (by decide) (by decide)).out
 refine A.same (Below.heap_setCell w _ _ _ (fun e => L.not (Or.inl e.symm))) (Below.heap_setCell w _ _ _ (fun e => L.not (Or.inr (Or.inr (Or.inl e.symm))))) (Below.heap_setCell w _ _ _ (fun e => L.ne e.symm))
theorem keep_b (hq : Bz w q #[.pointer (some ⟨a, 0, none⟩), .int .i64 er] 162) (v e2 : Int) :
  Calls Tryz.prog 97 #[.pointer (some ⟨q, 0, none⟩), .int .i64 v, .int .i64 e2] w fun e w' => e = .returned (.int .i64 v) ∧ w' = if er = 0 then w.setCell ⟨q, 1, none⟩ (.int .i64 e2) else w := by
 have c1 := hq.cell 1 _ rfl
 have f1 := hq.free 1
 by_cases h : er = 0
 ·subst h
  rw [if_pos rfl]
  go_enter Tryz.func97, Tryz.ntmps97
  go_wp2_with fail
  go_ret
  exact ⟨rfl, rfl⟩
 ·have hb : (er == 0) = false := by simpa using h
  rw [if_neg h]
  go_enter Tryz.func97, Tryz.ntmps97
  go_wp2_with fail
  go_ret
  exact ⟨rfl, rfl⟩
theorem Bn.fin {g : Nat} {φ : Env -> Bool} {v e2 : Int} {w2 : World} (h : Bn base q a M w0 w ns er) (A1 : Ar base a M 14 40000 w1 ns') (k : Kp (ca base a M 14 40000) w w1) (X : Ext ns ns') (l : ns'.length <= ns.length + g)
  (hv : Hid ((e2 = 0 ∧ ∃ f : Nat, v = (f : Int) ∧ f < ns'.length ∧ ∀ x, ev ns' f x = φ x) ∨ (e2 = 6 ∧ v = 0 ∧ 40000 <= ns.length + g))) (hw : w2 = if er = 0 then w1.setCell ⟨q, 1, none⟩ (.int .i64 e2) else w1) : BOut base q a M w0 w ns er g φ (.returned (.int .i64 v)) w2 := by
 have hq := h.keep k
 have bl := h.bel.trans (h.ar.kp_below k)
 have hlen := A1.wf.len
 have tf1 : TF w w1 := fun i c t hb ht => ((h.ar.outBox hb ht.1 ht.2.1).kp k).blk
 have hvv : ∃ f : Nat, v = (f : Int) ∧ f < ns'.length ∧ (e2 = 0 -> ∀ x, ev ns' f x = φ x) ∧ (e2 = 0 ∨ e2 = 6) ∧ (e2 ≠ 0 -> 40000 <= ns.length + g) := by
  rcases hv.out with ⟨rfl, f, rfl, h1, h2⟩ | ⟨rfl, rfl, h3⟩
  ·exact ⟨f, rfl, h1, fun _ => h2, .inl rfl, fun h => absurd rfl h⟩
  ·exact ⟨0, rfl, by omega, fun h => by omega, .inr rfl, fun _ => h3⟩
 obtain ⟨f, rfl, h1, h2, h3, h4⟩ := hvv
 by_cases he : er = 0
 ·subst he
  rw [if_pos rfl] at hw
  subst hw
  exact ⟨f, ns', e2, rfl, ⟨⟨A1.setQ hq, hq.set (j := 1) _, h.lo, h3, bl.setCell (p := ⟨q, 1, none⟩) h.lo _⟩, fun i c t hb ht => (Below.heap_setCell w1 _ _ _ (fun e => by
   have e' : i = q := e
   have hb1 := tf1 i c t hb ht
   unfold Bz at hb1 hq
   rw [e', hq] at hb1
   simp only [Option.some.injEq, Obj.cells.injEq] at hb1
   exact ht.2.2 hb1.2.1.symm)).trans (tf1 i c t hb ht)⟩, X, fun _ => rfl, ⟨h1, h2⟩, fun _ => ⟨l, h4⟩⟩
 ·rw [if_neg he] at hw
  subst hw
  exact ⟨f, ns', er, rfl, ⟨⟨A1, hq, h.lo, h.er6, bl⟩, tf1⟩, X, id, ⟨h1, fun e => absurd e he⟩, fun e => absurd e he⟩
theorem newBench_b (w : World) : Calls Tryz.prog 65 #[] w fun e w' => ∃ q a M, e = .returned (.tuple #[.pointer (some ⟨q, 0, none⟩), .int .i64 0]) ∧ Bn w.heap.size q a M w w' [(14, 0, 0), (14, 1, 1)] 0 := by
 have NW : Hid (Calls Tryz.prog 26 #[.int .i64 14, .int .i64 40000] w fun e w' => ∃ a M, e = .returned (.tuple #[.pointer (some ⟨a, 0, none⟩), .int .i64 0]) ∧ Ar w.heap.size a M 14 40000 w' [(14, 0, 0), (14, 1, 1)] ∧ Below w.heap.size w w') := new_ok (v := 14) (m := 40000) w (by omega) (by omega) (by omega) (by omega)
 go_enter Tryz.func65, Tryz.ntmps65
 go_wp2_with fail
 refine NW.out.mono ?_
 rintro e w1 ⟨a, M, rfl, A1, hb1⟩
 have hfin : Bn w.heap.size w1.heap.size a M w (w1.alloc (.cells #[.pointer (some ⟨a, 0, none⟩), .int .i64 0] 162)) [(14, 0, 0), (14, 1, 1)] 0 := ⟨A1.alloc _, Bz.new w1 _ _ _ rfl, hb1.size, .inl rfl, hb1.alloc hb1.size _⟩
 clear NW A1 hb1
 go_wp2_with fail
 go_ret2
 exact ⟨_, _, _, rfl, hfin⟩
end
section
variable {base q a M : Nat} {w0 w : World} {ns : List Nd} {er : Int}
theorem BOut.bad {g g' : Nat} {φ φ' : Env -> Bool} {e : Ending} {w' : World} (he : er ≠ 0) (h : BOut base q a M w0 w ns er g φ e w') : BOut base q a M w0 w ns er g' φ' e w' := by
 obtain ⟨f, ns', er', h1, h2, h3, h4, h5, _⟩ := h
 exact ⟨f, ns', er', h1, h2, h3, h4, ⟨h5.1, fun e => absurd (h4 e) he⟩, fun e => absurd e he⟩
theorem BOut.of {g : Nat} {φ ψ : Env -> Bool} {e : Ending} {w' : World} (h : BOut base q a M w0 w ns er g φ e w') (hq : er = 0 -> ∀ x, φ x = ψ x) : BOut base q a M w0 w ns er g ψ e w' := by
 obtain ⟨f, ns', er', h1, h2, h3, h4, h5, h6⟩ := h
 exact ⟨f, ns', er', h1, h2, h3, h4, ⟨h5.1, fun e x => (h5.2 e x).trans (hq (h4 e) x)⟩, h6⟩
theorem BOut.seq {w1 : World} {ns1 : List Nd} {er1 : Int} {g1 g2 : Nat} {φ : Env -> Bool} {e : Ending} {w' : World} (X : Ext ns ns1) (he : er1 = 0 -> er = 0) (hg : Hid (er = 0 -> ns1.length <= ns.length + g1 ∧ (er1 ≠ 0 -> 40000 <= ns.length + g1))) (tf : TF w w1) (h : BOut base q a M w0 w1 ns1 er1 g2 φ e w') : BOut base q a M w0 w ns er (g1 + g2) φ e w' := by
 obtain ⟨f, ns', er', h1, h2, h3, h4, h5, h6⟩ := h
 refine ⟨f, ns', er', h1, ⟨h2.1, tf.trans h2.2⟩, X.trans h3, fun e => he (h4 e), h5, fun e0 => ?_⟩
 have a1 := hg.out e0
 have a2 := h2.1.ar.le
 by_cases e1 : er1 = 0
 ·have a3 := h6.out e1
  refine ⟨by omega, fun e2 => ?_⟩
  have := a3.2 e2
  omega
 ·have := a1.2 e1
  exact ⟨by omega, fun _ => by omega⟩
theorem BOut.from {w1 : World} {g : Nat} {φ : Env -> Bool} {e : Ending} {w' : World} (tf : TF w w1) (h : BOut base q a M w0 w1 ns er g φ e w') : BOut base q a M w0 w ns er g φ e w' := by
 obtain ⟨f, ns', er', h1, h2, h3⟩ := h
 exact ⟨f, ns', er', h1, ⟨h2.1, tf.trans h2.2⟩, h3⟩
theorem BOut.more {g g' : Nat} {φ : Env -> Bool} {e : Ending} {w' : World} (h : BOut base q a M w0 w ns er g φ e w') (hg : g <= g') : BOut base q a M w0 w ns er g' φ e w' := by
 obtain ⟨f, ns', er', h1, h2, h3, h4, h5, h6⟩ := h
 refine ⟨f, ns', er', h1, h2, h3, h4, h5, fun e0 => ?_⟩
 have := h6.out e0
 exact ⟨by omega, fun e1 => by have := this.2 e1; omega⟩
theorem and_w (h : Bn base q a M w0 w ns er) {f g : Nat} {g0 : Nat} {χ : Env -> Bool} (OP : Hid (Calls Tryz.prog 98 #[.pointer (some ⟨a, 0, none⟩), .int .i64 (f : Int), .int .i64 (g : Int)] w (OPost base a M w ns g0 χ))) :
  Calls Tryz.prog 66 #[.pointer (some ⟨q, 0, none⟩), .int .i64 (f : Int), .int .i64 (g : Int)] w (BOut base q a M w0 w ns er g0 χ) := by
 have c0 := h.blk.cell 0 _ rfl
 go_enter Tryz.func66, Tryz.ntmps66
 go_wp2_with fail
 refine OP.out.mono ?_
 rintro e w1 ⟨ns1, v, e2, rfl, A1, k1, X1, l1, hv⟩
 have KP := Hq.mk (keep_b (h.keep k1) v e2)
 have FN : Hq (∀ w2, w2 = (if er = 0 then w1.setCell ⟨q, 1, none⟩ (.int .i64 e2) else w1) -> BOut base q a M w0 w ns er g0 χ (.returned (.int .i64 v)) w2) := ⟨fun w2 hw => h.fin A1 k1 X1 l1 hv hw⟩
 clear c0 OP A1 k1 X1 l1 hv h
 go_wp2_with fail
 refine KP.out.mono ?_
 rintro e w2 ⟨rfl, hw⟩
 have F2 := FN.out w2 hw
 clear hw FN KP
 go_wp2_with fail
 go_ret
 exact F2
theorem or_w (h : Bn base q a M w0 w ns er) {f g : Nat} {g0 : Nat} {χ : Env -> Bool} (OP : Hid (Calls Tryz.prog 115 #[.pointer (some ⟨a, 0, none⟩), .int .i64 (f : Int), .int .i64 (g : Int)] w (OPost base a M w ns g0 χ))) :
  Calls Tryz.prog 91 #[.pointer (some ⟨q, 0, none⟩), .int .i64 (f : Int), .int .i64 (g : Int)] w (BOut base q a M w0 w ns er g0 χ) := by
 have c0 := h.blk.cell 0 _ rfl
 go_enter Tryz.func91, Tryz.ntmps91
 go_wp2_with fail
 refine OP.out.mono ?_
 rintro e w1 ⟨ns1, v, e2, rfl, A1, k1, X1, l1, hv⟩
 have KP := Hq.mk (keep_b (h.keep k1) v e2)
 have FN : Hq (∀ w2, w2 = (if er = 0 then w1.setCell ⟨q, 1, none⟩ (.int .i64 e2) else w1) -> BOut base q a M w0 w ns er g0 χ (.returned (.int .i64 v)) w2) := ⟨fun w2 hw => h.fin A1 k1 X1 l1 hv hw⟩
 clear c0 OP A1 k1 X1 l1 hv h
 go_wp2_with fail
 refine KP.out.mono ?_
 rintro e w2 ⟨rfl, hw⟩
 have F2 := FN.out w2 hw
 clear hw FN KP
 go_wp2_with fail
 go_ret
 exact F2
theorem take_w (h : Bn base q a M w0 w ns er) {a2 f : Nat} {g0 : Nat} {χ : Env -> Bool} (OP : Hid (Calls Tryz.prog 93 #[.pointer (some ⟨a, 0, none⟩), .pointer (some ⟨a2, 0, none⟩), .int .i64 (f : Int)] w (OPost base a M w ns g0 χ))) :
  Calls Tryz.prog 67 #[.pointer (some ⟨q, 0, none⟩), .pointer (some ⟨a2, 0, none⟩), .int .i64 (f : Int)] w (BOut base q a M w0 w ns er g0 χ) := by
 have c0 := h.blk.cell 0 _ rfl
 go_enter Tryz.func67, Tryz.ntmps67
 go_wp2_with fail
 refine OP.out.mono ?_
 rintro e w1 ⟨ns1, v, e2, rfl, A1, k1, X1, l1, hv⟩
 have KP := Hq.mk (keep_b (h.keep k1) v e2)
 have FN : Hq (∀ w2, w2 = (if er = 0 then w1.setCell ⟨q, 1, none⟩ (.int .i64 e2) else w1) -> BOut base q a M w0 w ns er g0 χ (.returned (.int .i64 v)) w2) := ⟨fun w2 hw => h.fin A1 k1 X1 l1 hv hw⟩
 clear c0 OP A1 k1 X1 l1 hv h
 go_wp2_with fail
 refine KP.out.mono ?_
 rintro e w2 ⟨rfl, hw⟩
 have F2 := FN.out w2 hw
 clear hw FN KP
 go_wp2_with fail
 go_ret
 exact F2
theorem and_b (S : Nat -> Bool) (h : Bn base q a M w0 w ns er) {f g : Nat} {φ ψ : Env -> Bool} (hf : Fn ns er f φ) (hg : Fn ns er g ψ) (hd : er = 0 -> DepS S φ ∧ DepS S ψ) :
  Calls Tryz.prog 66 #[.pointer (some ⟨q, 0, none⟩), .int .i64 (f : Int), .int .i64 (g : Int)] w (BOut base q a M w0 w ns er (2 ^ cnS S 14 0 - 1) (fun x => φ x && ψ x)) := by
 by_cases he : er = 0
 ·have e1 : ev ns f = φ := funext (hf.2 he)
  have e2 : ev ns g = ψ := funext (hg.2 he)
  refine (and_w h (OP := (and_fit S h.ar hf.1 hg.1 (e1 ▸ (hd he).1) (e2 ▸ (hd he).2)).mono fun _ _ hp => hp.o)).mono fun _ _ hp => hp.of fun _ x => ?_
  show (ev ns f x && ev ns g x) = _
  rw [e1, e2]
 ·exact (and_w h (OP := (and_fit (fun _ => true) h.ar hf.1 hg.1 (DepS.all _) (DepS.all _)).mono fun _ _ hp => hp.o)).mono fun _ _ hp => hp.bad he
theorem or_b (S : Nat -> Bool) (h : Bn base q a M w0 w ns er) {f g : Nat} {φ ψ : Env -> Bool} (hf : Fn ns er f φ) (hg : Fn ns er g ψ) (hd : er = 0 -> DepS S φ ∧ DepS S ψ) :
  Calls Tryz.prog 91 #[.pointer (some ⟨q, 0, none⟩), .int .i64 (f : Int), .int .i64 (g : Int)] w (BOut base q a M w0 w ns er (2 ^ cnS S 14 0 - 1) (fun x => φ x || ψ x)) := by
 by_cases he : er = 0
 ·have e1 : ev ns f = φ := funext (hf.2 he)
  have e2 : ev ns g = ψ := funext (hg.2 he)
  refine (or_w h (OP := (or_fit S h.ar hf.1 hg.1 (e1 ▸ (hd he).1) (e2 ▸ (hd he).2)).mono fun _ _ hp => hp.o)).mono fun _ _ hp => hp.of fun _ x => ?_
  show (ev ns f x || ev ns g x) = _
  rw [e1, e2]
 ·exact (or_w h (OP := (or_fit (fun _ => true) h.ar hf.1 hg.1 (DepS.all _) (DepS.all _)).mono fun _ _ hp => hp.o)).mono fun _ _ hp => hp.bad he
theorem take_b (S : Nat -> Bool) (h : Bn base q a M w0 w ns er) {base2 a2 M2 most2 f : Nat} {ns2 : List Nd} (h2 : Ar base2 a2 M2 14 most2 w ns2) (ap : ∀ i, i = a2 ∨ i = M2 ∨ i = rowOf w a2 -> i ≠ a ∧ i ≠ M ∧ i ≠ rowOf w a) (hf : f < ns2.length) (hd : DepS S (ev ns2 f)) :
  Calls Tryz.prog 67 #[.pointer (some ⟨q, 0, none⟩), .pointer (some ⟨a2, 0, none⟩), .int .i64 (f : Int)] w (BOut base q a M w0 w ns er (2 ^ cnS S 14 0 - 1) (ev ns2 f)) :=
 take_w h (OP := (take_fit S h.ar h2 (Nat.le_refl _) ap hf ⟨hd, cnS_anti (Nat.zero_le _)⟩ (Nat.le_trans (cnS_le 0) (by omega))).mono fun _ _ hp => hp.o)
theorem take_old (S : Nat -> Bool) (h : Bn base q a M w0 w ns er) {base2 a2 M2 most2 f : Nat} {ns2 : List Nd} (h2 : Ar base2 a2 M2 14 most2 w ns2) (p1 : a2 < base) (p2 : M2 < base) (p3 : rowOf w a2 < base) (hf : f < ns2.length) (hd : DepS S (ev ns2 f)) :
  Calls Tryz.prog 67 #[.pointer (some ⟨q, 0, none⟩), .pointer (some ⟨a2, 0, none⟩), .int .i64 (f : Int)] w (BOut base q a M w0 w ns er (2 ^ cnS S 14 0 - 1) (ev ns2 f)) :=
 take_b S h h2 (fun i hi => by
  have l1 := h.ar.lowA
  have l2 := h.ar.lowM
  have l3 := h.ar.row.choose_spec.2.1
  rcases hi with rfl | rfl | rfl <;> exact ⟨by omega, by omega, by omega⟩) hf hd
theorem Bn.alloc (h : Bn base q a M w0 w ns er) (o : Obj) : Bn base q a M w0 (w.alloc o) ns er := by
 have hs : base <= w.heap.size := Nat.le_trans h.lo (Nat.le_of_lt h.blk.lt)
 exact ⟨h.ar.alloc o, (Below.heap_alloc w o _ h.blk.lt).trans h.blk, h.lo, h.er6, h.bel.alloc hs o⟩
theorem Bn.drew (h : Bn base q a M w0 w ns er) : Bn base q a M w0 w.drew ns er := ⟨h.ar.drewT, h.blk, h.lo, h.er6, h.bel.drew⟩
theorem Bn.size (h : Bn base q a M w0 w ns er) : base <= w.heap.size := Nat.le_trans h.lo (Nat.le_of_lt h.blk.lt)
theorem keep_far {w1 w2 : World} {e2 : Int} (hw : w2 = if er = 0 then w1.setCell ⟨q, 1, none⟩ (.int .i64 e2) else w1) {i j : Nat} (hi : i ≠ q ∨ j = 0) : w2.cell? ⟨i, j, none⟩ = w1.cell? ⟨i, j, none⟩ := by
 by_cases he : er = 0
 ·rw [if_pos he] at hw
  subst hw
  rcases hi with hi | rfl
  ·exact World.cell?_setCell_far w1 ⟨q, 1, none⟩ ⟨i, j, none⟩ _ (Ne.symm hi)
  ·by_cases hq : i = q
   ·subst hq
    simp only [World.cell?, World.setCell, Array.getElem?_modify]
    simp only [if_true]
    cases h : w1.heap[i]? with
    | none => rfl
    | some o => cases o <;> simp
   ·exact World.cell?_setCell_far w1 ⟨q, 1, none⟩ ⟨i, 0, none⟩ _ (Ne.symm hq)
 ·rw [if_neg he] at hw
  rw [hw]
theorem match_b (h : Bn base q a M w0 w ns er) (sa sb sc sd : Nat) (ha : sa < 65536) (hb : sb < 65536) (hc : sc < 256) (hd : sd < 256) :
  Calls Tryz.prog 68 #[.pointer (some ⟨q, 0, none⟩), mt sa sb sc sd] w (BOut base q a M w0 w ns er 44 (phi sa sb sc sd)) := by
 have h1 := (h.alloc (.cells #[.int .u16 (sa : Int), .int .u16 (sb : Int), .int .u8 (sc : Int), .int .u8 (sd : Int)] 50)).drew
 have BM : Hq (Calls Tryz.prog 52 #[.pointer (some ⟨a, 0, none⟩), mt sa sb sc sd] _ (OPost base a M _ ns 44 (phi sa sb sc sd))) := ⟨(build_match h1.ar (Nat.le_refl _) sa sb sc sd ha hb hc hd).mono fun _ _ hp => hp.o⟩
 have Z : Bz (w.alloc (.cells #[.int .u16 (sa : Int), .int .u16 (sb : Int), .int .u8 (sc : Int), .int .u8 (sd : Int)] 50)).drew w.heap.size #[.int .u16 (sa : Int), .int .u16 (sb : Int), .int .u8 (sc : Int), .int .u8 (sd : Int)] 50 := Bz.new w _ _ _ rfl
 have hzq : w.heap.size ≠ q := fun e => by have := h.blk.lt; omega
 have c0 := h1.blk.cell 0 _ rfl
 have z0 := Z.cell 0 _ rfl
 have z1 := Z.cell 1 _ rfl
 have z2 := Z.cell 2 _ rfl
 have z3 := Z.cell 3 _ rfl
 have FN : Hq (∀ w1 ns1 (v e2 : Int), Ar base a M 14 40000 w1 ns1 -> Kp (ca base a M 14 40000) _ w1 -> Ext ns ns1 -> ns1.length <= ns.length + 44 -> Hid ((e2 = 0 ∧ ∃ f : Nat, v = (f : Int) ∧ f < ns1.length ∧ ∀ x, ev ns1 f x = phi sa sb sc sd x) ∨ (e2 = 6 ∧ v = 0 ∧ 40000 <= ns.length + 44)) -> (Bz w1 q #[.pointer (some ⟨a, 0, none⟩), .int .i64 er] 162 ∧ Bz w1 w.heap.size #[.int .u16 (sa : Int), .int .u16 (sb : Int), .int .u8 (sc : Int), .int .u8 (sd : Int)] 50) ∧ ∀ w2, w2 = (if er = 0 then w1.setCell ⟨q, 1, none⟩ (.int .i64 e2) else w1) -> BOut base q a M w0 w ns er 44 (phi sa sb sc sd) (.returned (.int .i64 v)) w2) := ⟨fun w1 ns1 v e2 A1 k1 X1 l1 hv => ⟨⟨h1.keep k1, ((h1.ar.outBox Z (by decide) (by decide)).kp k1).blk⟩, fun w2 hw => BOut.from ((TF.below ((Below.refl _ w).alloc (Nat.le_refl _) _)).trans (TF.below (Below.refl _ _).drew)) (h1.fin A1 k1 X1 l1 hv hw)⟩⟩
 unfold mt at BM ⊢
 clear h h1 Z
 go_enter Tryz.func68, Tryz.ntmps68
 go_wp2_with fail
 go_region_held3 (fun w' => w'.cell? ⟨q, 0, none⟩ = some (.pointer (some ⟨a, 0, none⟩)) ∧ w'.cell? ⟨w.heap.size, 0, none⟩ = some (.int .u16 (sa : Int)) ∧ w'.cell? ⟨w.heap.size, 1, none⟩ = some (.int .u16 (sb : Int)) ∧ w'.cell? ⟨w.heap.size, 2, none⟩ = some (.int .u8 (sc : Int)) ∧ w'.cell? ⟨w.heap.size, 3, none⟩ = some (.int .u8 (sd : Int))) (go_keep)
  ((first
    | (go_at_call 52; refine BM.out.mono ?_; rintro e w1 ⟨ns1, v, e2, rfl, A1, k1, X1, l1, hv⟩; obtain ⟨⟨Q1, Z1⟩, F1⟩ := FN.out w1 ns1 v e2 A1 k1 X1 l1 hv; have c0' := Q1.cell 0 _ rfl; have y0 := Z1.cell 0 _ rfl; have y1 := Z1.cell 1 _ rfl; have y2 := Z1.cell 2 _ rfl; have y3 := Z1.cell 3 _ rfl; have F1h := Hq.mk F1; clear F1 A1 k1 X1 l1 hv Z1)
    | (go_at_call 97; refine (keep_b Q1 v e2).mono ?_; rintro e w2 ⟨rfl, hw⟩; have F2 := F1h.out w2 hw; have d0 := (keep_far hw (i := q) (j := 0) (.inr rfl)).trans c0'; have x0 := (keep_far hw (i := w.heap.size) (j := 0) (.inl hzq)).trans y0; have x1 := (keep_far hw (i := w.heap.size) (j := 1) (.inl hzq)).trans y1; have x2 := (keep_far hw (i := w.heap.size) (j := 2) (.inl hzq)).trans y2; have x3 := (keep_far hw (i := w.heap.size) (j := 3) (.inl hzq)).trans y3; clear hw)))
 all_goals
  go_wp2_with fail
  go_ret
  exact F2
theorem rules_w (h : Bn base q a M w0 w ns er) {A : Option Addr} {n cap : Nat} {g0 : Nat} {χ : Env -> Bool} (OP : Hid (Calls Tryz.prog 168 #[.pointer (some ⟨a, 0, none⟩), .slice A n cap] w (OPost base a M w ns g0 χ))) :
  Calls Tryz.prog 143 #[.pointer (some ⟨q, 0, none⟩), .slice A n cap] w (BOut base q a M w0 w ns er g0 χ) := by
 have c0 := h.blk.cell 0 _ rfl
 go_enter Tryz.func143, Tryz.ntmps143
 go_wp2_with fail
 refine OP.out.mono ?_
 rintro e w1 ⟨ns1, v, e2, rfl, A1, k1, X1, l1, hv⟩
 have KP := Hq.mk (keep_b (h.keep k1) v e2)
 have FN : Hq (∀ w2, w2 = (if er = 0 then w1.setCell ⟨q, 1, none⟩ (.int .i64 e2) else w1) -> BOut base q a M w0 w ns er g0 χ (.returned (.int .i64 v)) w2) := ⟨fun w2 hw => h.fin A1 k1 X1 l1 hv hw⟩
 clear c0 OP A1 k1 X1 l1 hv h
 go_wp2_with fail
 refine KP.out.mono ?_
 rintro e w2 ⟨rfl, hw⟩
 have F2 := FN.out w2 hw
 clear hw FN KP
 go_wp2_with fail
 go_ret
 exact F2
theorem rules_b (h : Bn base q a M w0 w ns er) (A : Option Addr) (n cap : Nat) (xs : List Rl) (hR : Rules w.heap.size w (.slice A n cap) xs) (hlen : xs.length <= 8) :
  Calls Tryz.prog 143 #[.pointer (some ⟨q, 0, none⟩), .slice A n cap] w (BOut base q a M w0 w ns er 40000 (letsF xs)) :=
 rules_w h (OP := (abuild_ok h.ar A n cap xs hR hlen).mono fun _ _ hp => hp.o)
end
end Go.Proofs.YtlmmeppifkigeaaGreat
