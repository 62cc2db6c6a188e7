/-
  XAD.
-/
import Derived.Test.YtmcklkkkkigflaaGreatXAC
import Derived.Test.YtmcklkkkkigflaaGreatXAB
import Derived.Test.YtmcklkkkkigflaaGreatProg
import Derived.WalkKit
import Derived.WalkSpells
import Derived.WalkLawsBesides
import Derived.Handy
import Derived.BigQuiet
import Derived.Deep.QuietTactic
import Derived.Deep.RegionHeld3
import Derived.Deep.DeepCutAuto
import Derived.Laws.AppendOwn
import Derived.RangeFuncNested
import Derived.RangeFuncBound
import Derived.RangeFuncCalls
import Derived.RangeFuncLeaves
import Derived.Shelf.Abstract
import Derived.Shelf.RegionOpen
import Derived.OwnWalkIn
import Derived.TacticsInMore
import Derived.LoopNIn
import Derived.LoopIn
set_option maxHeartbeats 8000000
set_option maxRecDepth 100000
namespace Go.Proofs.YtmcklkkkkigflaaGreat
open Go.RowKit Go.Maps
section
variable {C : Cfg} {w : World} {ns : List Nd} {N : Nat} {m1 : Nd -> Option Nat} {m2 : Mx -> Option Nat} {m3 : Nat -> Option Nat}
theorem swap_here (h : Bu C w ns false N m1 m2 m3) {c3 : Nat} (hc3 : C.c3 = some c3) {f i j k : Nat} (hij : i < j) (hj : j < C.vars) (hf : f < ns.length) (hi : i <= nv ns f) (hfj : nv ns f <= j) (hr : m3 f = none) {S : Nat -> Bool} (hk : FitW S i j C.vars ns f (k + 1)) (hmb : MemoB ns j m2) (hms : MemoS ns i j m3) (hN : N + 2 ^ (k + 1) <= 1099511627776)
  (hbl : Hq (∀ w ns full N m2 x, Bu C w ns full N m1 m2 m3 -> InsideM ns x -> FitM S j ns x k -> (full = false -> MemoB ns j m2) -> N + 2 ^ k <= 1099511627776 -> Calls Tryz.prog 155 #[.pointer (some ⟨C.b, 0, none⟩), aggx x, .int .i64 (j : Int)] w (BlendPost C w ns full N m1 m3 j x (2 ^ k - 1)))) :
  Calls Tryz.prog 152 #[.pointer (some ⟨C.b, 0, none⟩), .int .i64 (f : Int), .int .i64 (i : Int), .int .i64 (j : Int)] w (SwapPost C w ns false N m1 i j f (2 ^ (k + 1) - 1)) := by
 have hA := (At.refl h).alloc (.cells #[.int .i64 (nv ns f : Int), .int .i64 (nl ns f : Int), .int .i64 (nh ns f : Int)] 94)
 have hA1 := hA.alloc (.cells #[.int .i64 (i : Int), .int .i64 0, .int .i64 0] 94)
 have M1 := hA.loc #[.int .i64 (i : Int), .int .i64 0, .int .i64 0] 94
 rw [show (w.alloc (.cells #[.int .i64 (nv ns f : Int), .int .i64 (nl ns f : Int), .int .i64 (nh ns f : Int)] 94)).heap.size = w.heap.size + 1 by simp] at M1
 obtain ⟨b0, b1, b2, b3, b4, bf⟩ := h.reads
 obtain ⟨cap, a0, a1, a2, a3, af, an⟩ := h.ar.reads
 obtain ⟨n0, n1, n2⟩ := an f hf
 have hl : ns.length <= 40000 := Nat.le_trans h.ar.le h.ar.most4
 have lb := h.ltb
 have wf := h.ar.wf
 have v16 := h.ar.vars16
 have hp2 : 2 ^ (k + 1) = 2 * 2 ^ k := by rw [Nat.pow_succ]; omega
 have hp1 : 1 <= 2 ^ k := Nat.one_le_two_pow
 have t1 : decide ((j : Int) < (nv ns f : Int)) = false := by simp; omega
 have t2 : decide ((nv ns f : Int) < (i : Int)) = false := by simp; omega
 have hmn : ∀ (ts : Array TypeId) (t : TypeId) (W : World), (Builtin.min_ ts t #[.int .i64 (nv ns f : Int), .int .i64 (i : Int)]).run Tryz.prog W = .ok (.int .i64 (i : Int)) W := fun ts t W => by
  have := run_min2 (nv ns f) i ts t W
  rw [show min (nv ns f) i = i by omega] at this
  exact this
 have hlook := (hA.bu.o3 c3 hc3).look Tryz.u47 (x := f) (by show f < _; omega)
 rw [hr] at hlook
 simp only [intE, Option.getD_none, Option.isSome_none] at hlook
 rw [hc3] at b4
 have hiv : i < C.vars := by omega
 have lp0 := partOf_lt wf hf hiv false
 have lp1 := partOf_lt wf hf hiv true
 have vp0 := partOf_va wf hf hiv hi false
 have vp1 := partOf_va wf hf hiv hi true
 have HF : Hq (∀ z, FitM S j ns (partOf ns f i false, partOf ns f i true, z) k) := ⟨fun z => hk.mix wf hij hj hf hi z⟩
 clear h an hk
 generalize rowOf w C.a = g at *
 go_enter Tryz.func152, Tryz.ntmps152
 go_wp2_with fail
 refine (part_any hA1.bu false hf (by omega)).mono ?_
 rintro e w2 ⟨rfl, hp⟩
 have hA2 := hA1.then hp
 have M2 := M1.kp hp.kp
 clear hp hA hA1 M1 hlook b0 b1 b2 b3 b4 bf a0 a1 a2 a3 af n0 n1 n2 hmn
 go_wp2_with fail
 refine (part_any hA2.bu true hf (by omega)).mono ?_
 rintro e w3 ⟨rfl, hp⟩
 have hA3 := hA2.then hp
 have M3 := M2.kp hp.kp
 clear hp hA2 M2
 generalize hq0 : partOf ns f i false = x0 at *
 generalize hq1 : partOf ns f i true = x1 at *
 have hin : ∀ z, InsideM ns (x0, x1, z) := fun z => ⟨lp0, lp1⟩
 have hmi : ∀ z, i < minb ns (x0, x1, z) j := fun z => by simp only [minb]; omega
 go_wp2_with fail
 refine (hbl.out _ ns false N m2 (x0, x1, false) hA3.bu (hin false) (HF.out false) (fun _ => hmb) (by omega)).mono ?_
 rintro e w4 ⟨f0, ns1, full1, N1, m21, rfl, hp, X1, l1, k1, lt0, _, s1⟩
 have hA4 := hA3.then hp
 have M4 := M3.kp hp.kp
 clear hp hA3 M3
 have wf1 := hA4.bu.ar.wf
 have X1l := X1.len
 obtain ⟨⟨p0, p1, p2⟩, g0, g1, g2⟩ := M4.reads
 have hA5 := hA4.set (p := ⟨w.heap.size + 1, 1, none⟩) M4.out (Nat.le_succ _) (.int .i64 (f0 : Int))
 have M5 := M4.set (j := 1) (.int .i64 (f0 : Int))
 simp only [List.setIfInBounds_toArray, List.set_cons_succ, List.set_cons_zero] at M5
 go_wp2_with fail
 refine (hbl.out _ ns1 full1 N1 m21 (x0, x1, true) hA5.bu ((hin true).ext X1) ((HF.out true).ext wf hA5.bu.ar.wf (hin true) X1) (fun e => (s1 e).1) (by omega)).mono ?_
 rintro e w6 ⟨f1, ns2, full2, N2, m22, rfl, hp, X2, l2, k2, lt1, mo2, s2⟩
 have hA6 := hA5.then hp
 have M6 := M5.kp hp.kp
 clear hp M4 hA4 p0 p1 p2 g0 g1 g2 hA5 M5
 have wf2 := hA6.bu.ar.wf
 have X2l := X2.len
 have X02 := X1.trans X2
 have sem2 : full2 = false -> MemoB ns2 j m22 ∧ IsBl ns2 j (x0, x1, false) f0 ∧ IsBl ns2 j (x0, x1, true) f1 := fun e2 => by
  have e1 : full1 = false := by cases full1 <;> simp_all
  exact ⟨(s2 e2).1, (s1 e1).2.ext X2 wf1 wf2, (s2 e2).2⟩
 obtain ⟨⟨p0, p1, p2⟩, g0, g1, g2⟩ := M6.reads
 have hA7 := hA6.set (p := ⟨w.heap.size + 1, 2, none⟩) M6.out (Nat.le_succ _) (.int .i64 (f1 : Int))
 have M7 := M6.set (j := 2) (.int .i64 (f1 : Int))
 simp only [List.setIfInBounds_toArray, List.set_cons_succ, List.set_cons_zero] at M7
 obtain ⟨⟨p0', p1', p2'⟩, _⟩ := M7.reads
 go_wp2_with fail
 refine (numberOf_any hA7.bu (v := i) (l := f0) (u := f1) (by omega) (by omega) lt1 (fun e2 => ?_)).mono ?_
 ·obtain ⟨_, a1, a2⟩ := sem2 e2
  have c1 := a1.va
  have c2 := a2.va
  rw [minb_ext (hin _) X02] at c1 c2
  have := hmi false
  have := hmi true
  omega
 rintro e w7 ⟨r, ns3, full3, rfl, hp, X3, l3, lt3, mo3, s3⟩
 have hA8 := hA7.then hp
 clear hp M6 hA6 hA7 M7 p0 p1 p2 g0 g1 g2 p0' p1' p2'
 have wf3 := hA8.bu.ar.wf
 have len3 : ns3.length <= 40000 := Nat.le_trans hA8.bu.ar.le hA8.bu.ar.most4
 obtain ⟨w8, hrun, hM8, hg8⟩ := (hA8.bu.o3 c3 hc3).store Tryz.u47 (by unfold maxLen; omega) (x := f) (by show f < _; omega) (v := r) (by omega)
 have hA9 := hA8.memo3 hc3 hM8 hg8
 obtain ⟨d0, d1, d2, d3, d4, df⟩ := hA8.bu.reads
 rw [hc3] at d4
 simp only [intE] at hrun
 have hfin : SwapPost C w ns false N m1 i j f (2 ^ (k + 1) - 1) (.returned (.int .i64 (r : Int))) w8 := by
  refine ⟨r, ns3, full3, N2 + 1, m22, _, rfl, hA9, X02.trans X3, by omega, by omega, lt3, (fun e => by cases e), fun e3 => ?_⟩
  have e2 : full2 = false := by cases full2 <;> simp_all
  obtain ⟨a0, a1, a2⟩ := sem2 e2
  have X03 := X02.trans X3
  have X03l := X03.len
  have J : IsSw ns3 i j f r := by
   refine isSw_here (l := f0) (u := f1) wf3 hij hj (by omega) (by rw [X03.va hf]; exact hi) ?_ ?_ (s3 e3)
   ·rw [partOf_ext X03 hf, partOf_ext X03 hf, hq0, hq1]; exact a1.ext X3 wf2 wf3
   ·rw [partOf_ext X03 hf, partOf_ext X03 hf, hq0, hq1]; exact a2.ext X3 wf2 wf3
  exact ⟨a0.ext X3 wf2 wf3, (hms.ext X03 wf wf3).upd J, J⟩
 clear hA8 hM8 hg8 hA9
 go_wp2_with fail
 go_ret
 exact hfin
theorem swap_fit (S : Nat -> Bool) {c2 c3 : Nat} (hc2 : C.c2 = some c2) (hc3 : C.c3 = some c3) {i j : Nat} (hij : i < j) (hj : j < C.vars) : ∀ (k : Nat) (w : World) (ns : List Nd) (full : Bool) (N : Nat) (m2 : Mx -> Option Nat) (m3 : Nat -> Option Nat) (f : Nat), Bu C w ns full N m1 m2 m3 -> f < ns.length -> FitW S i j C.vars ns f k ->
  (full = false -> MemoB ns j m2 ∧ MemoS ns i j m3) -> N + 2 ^ k <= 1099511627776 -> Calls Tryz.prog 152 #[.pointer (some ⟨C.b, 0, none⟩), .int .i64 (f : Int), .int .i64 (i : Int), .int .i64 (j : Int)] w (SwapPost C w ns full N m1 i j f (2 ^ k - 1)) := by
 intro k
 induction k with
 | zero =>
   intro w ns full N m2 m3 f h hf hk
   have := hk.pos (show i < C.vars by omega)
   omega
 | succ k ih =>
   intro w ns full N m2 m3 f h hf hk hm hN
   cases full
   ·by_cases hfj : j < nv ns f
    ·refine (swap_far h hf hfj).mono ?_
     rintro e w' ⟨rfl, hA⟩
     exact ⟨f, ns, false, N, m2, m3, rfl, hA, Ext.refl _, by omega, by omega, hf, id, fun _ => ⟨(hm rfl).1, (hm rfl).2, isSw_far h.ar.wf hij hf hfj⟩⟩
    ·cases hr : m3 f with
     | none =>
       by_cases hi : nv ns f < i
       ·exact swap_up h hc3 hij hj hf hi hr hk (hm rfl).1 (hm rfl).2 hN ⟨ih⟩
       ·exact swap_here h hc3 hij hj hf (by omega) (by omega) hr hk (hm rfl).1 (hm rfl).2 hN ⟨fun w ns full N m2 x => blend_fit S hc2 hj k w ns full N m2 x⟩
     | some r =>
       refine (swap_hit h hc3 hf (by omega) hr).mono ?_
       rintro e w' ⟨rfl, hA⟩
       have J := (hm rfl).2 _ _ hr
       exact ⟨r, ns, false, N, m2, m3, rfl, hA, Ext.refl _, by omega, by omega, J.lt, id, fun _ => ⟨(hm rfl).1, (hm rfl).2, J⟩⟩
   ·refine (swap_full h hf i j).mono ?_
    rintro e w' ⟨rfl, hA⟩
    exact ⟨0, ns, true, N, m2, m3, rfl, hA, Ext.refl _, by omega, by omega, (by have := h.ar.wf.len; omega), id, fun e => by cases e⟩
end
def wth (S : Nat -> Bool) (i j : Nat) : Nat -> Bool := fun x => S x || x == i || x == j
theorem cnR_le (S : Nat -> Bool) : ∀ d v, cnR S d v <= d
 | 0, _ => Nat.le_refl _
 | d + 1, v => by
   have := cnR_le S d (v + 1)
   rw [cnR]
   split <;> omega
theorem cnS_le {S : Nat -> Bool} {vars : Nat} (v : Nat) : cnS S vars v <= vars := by
 have := cnR_le S (vars - v) v
 unfold cnS
 omega
theorem fitW_with {S : Nat -> Bool} {vars i j f : Nat} {ns : List Nd} (hd : DepS S (ev ns f)) : FitW (wth S i j) (min i j) (max i j) vars ns f (cnS (wth S i j) vars 0) := by
 have hi : wth S i j i = true := by simp [wth]
 have hj : wth S i j j = true := by simp [wth]
 refine ⟨hd.mono fun x hx => by simp [wth, hx], ?_, ?_, cnS_anti (Nat.zero_le _)⟩
 ·rcases Nat.le_total i j with h | h
  ·rw [Nat.min_eq_left h]; exact hi
  ·rw [Nat.min_eq_right h]; exact hj
 ·rcases Nat.le_total i j with h | h
  ·rw [Nat.max_eq_right h]; exact hj
  ·rw [Nat.max_eq_left h]; exact hi
section
variable {base a M vars most : Nat} {w : World} {ns : List Nd}
theorem and_fit (S : Nat -> Bool) (h : Ar base a M vars most w ns) {f g : Nat} (hf : f < ns.length) (hg : g < ns.length) (d1 : DepS S (ev ns f)) (d2 : DepS S (ev ns g)) :
  Calls Tryz.prog 143 #[.pointer (some ⟨a, 0, none⟩), .int .i64 (f : Int), .int .i64 (g : Int)] w (OpPost base a M vars most w ns (2 ^ cnS S vars 0 - 1) (fun q => ev ns f q && ev ns g q)) := by
 have l2 := h.wf.len
 have hc : Hq (Calls Tryz.prog 38 #[.pointer (some ⟨a, 0, none⟩), .int .i64 (f : Int), .int .i64 (g : Int), .int .i64 ((0 : Nat) : Int)] w (OpPost base a M vars most w ns (2 ^ cnS S vars 0 - 1) fun q => if ev ns f q then ev ns g q else ev ns 0 q)) := ⟨ite_fit S h (c := (f, g, 0)) ⟨hf, by show g < _; omega, by show 0 < _; omega⟩ ⟨d1, d2, (fun e e' _ => by rw [ev0, ev0]), cnS_anti (Nat.zero_le _)⟩ (Nat.le_trans (cnS_le 0) h.vars16)⟩
 clear d1 d2
 generalize cnS S vars 0 = kk at *
 go_enter Tryz.func143, Tryz.ntmps143
 go_wp2_with fail
 refine hc.out.mono ?_
 rintro e w' hp
 have hp2 : OpPost base a M vars most w ns (2 ^ kk - 1) (fun q => ev ns f q && ev ns g q) e w' := hp.of (fun q => by simp only [ev0]; cases ev ns f q <;> simp)
 clear hp
 have hp3 := hp2
 obtain ⟨ns', _, _, _, _, ⟨f', rfl, _⟩ | ⟨rfl, _⟩⟩ := hp2
 ·go_wp2_with fail
  go_ret2
  exact hp3
 ·go_wp2_with fail
  go_ret2
  exact hp3
theorem or_fit (S : Nat -> Bool) (h : Ar base a M vars most w ns) {f g : Nat} (hf : f < ns.length) (hg : g < ns.length) (d1 : DepS S (ev ns f)) (d2 : DepS S (ev ns g)) :
  Calls Tryz.prog 103 #[.pointer (some ⟨a, 0, none⟩), .int .i64 (f : Int), .int .i64 (g : Int)] w (OpPost base a M vars most w ns (2 ^ cnS S vars 0 - 1) (fun q => ev ns f q || ev ns g q)) := by
 have l2 := h.wf.len
 have hc : Hq (Calls Tryz.prog 38 #[.pointer (some ⟨a, 0, none⟩), .int .i64 (f : Int), .int .i64 ((1 : Nat) : Int), .int .i64 (g : Int)] w (OpPost base a M vars most w ns (2 ^ cnS S vars 0 - 1) fun q => if ev ns f q then ev ns 1 q else ev ns g q)) := ⟨ite_fit S h (c := (f, 1, g)) ⟨hf, by show 1 < _; omega, by show g < _; omega⟩ ⟨d1, (fun e e' _ => by rw [ev1, ev1]), d2, cnS_anti (Nat.zero_le _)⟩ (Nat.le_trans (cnS_le 0) h.vars16)⟩
 clear d1 d2
 generalize cnS S vars 0 = kk at *
 go_enter Tryz.func103, Tryz.ntmps103
 go_wp2_with fail
 refine hc.out.mono ?_
 rintro e w' hp
 have hp2 : OpPost base a M vars most w ns (2 ^ kk - 1) (fun q => ev ns f q || ev ns g q) e w' := hp.of (fun q => by simp only [ev1]; cases ev ns f q <;> simp)
 clear hp
 have hp3 := hp2
 obtain ⟨ns', _, _, _, _, ⟨f', rfl, _⟩ | ⟨rfl, _⟩⟩ := hp2
 ·go_wp2_with fail
  go_ret2
  exact hp3
 ·go_wp2_with fail
  go_ret2
  exact hp3
theorem exists_ok (h : Ar base a M vars most w ns) {f i : Nat} (hf : f < ns.length) (hi : i < vars) :
  Calls Tryz.prog 150 #[.pointer (some ⟨a, 0, none⟩), .int .i64 (f : Int), .int .i64 (i : Int)] w (OpPost base a M vars most w ns (2 ^ vars - 1) fun q => ev ns f (setE q i false) || ev ns f (setE q i true)) := by
 have hmm := @run_makeMap Tryz.prog
 have la := h.lta
 have lM := h.ltM
 have hA := h.lowA
 have v16 := h.vars16
 have wf := h.wf
 have hs : ((w.alloc (.map #[] 0)).alloc (.map #[] 0)).heap.size = w.heap.size + 2 := by simp
 have hs1 : (w.alloc (.map #[] 0)).heap.size = w.heap.size + 1 := by simp
 have hpw := Nat.pow_le_pow_right (n := 2) (by omega) v16
 have hb := bu_new (w := (w.alloc (.map #[] 0)).alloc (.map #[] 0)) (C := ⟨base, a, w.heap.size + 2, M, some w.heap.size, none, some (w.heap.size + 1), vars, most⟩) (m1 := fun _ => none) (m2 := fun _ => none) (m3 := fun _ => none) ((h.alloc _).alloc _) (by simp) (by rw [hs]; show base <= _; omega)
  (fun i e => by cases e; exact (mapIs_made choiceE w).same (Below.heap_alloc _ _ _ (by simp))) (fun _ e => by cases e) (fun i e => by cases e; have hq := mapIs_made intE (w.alloc (.map #[] 0)); rw [hs1] at hq; exact hq)
  (fun i e => by cases e; exact ⟨by show base <= w.heap.size; omega, by show w.heap.size ≠ M; omega, (fun e => by simp at e), (fun e => by simp at e)⟩) (fun _ e => by cases e) (fun i e => by cases e; exact ⟨by show base <= w.heap.size + 1; omega, by show w.heap.size + 1 ≠ M; omega, (fun e => by simp at e), (fun e => by simp at e)⟩)
 have hch := exists_any (C := ⟨base, a, w.heap.size + 2, M, some w.heap.size, none, some (w.heap.size + 1), vars, most⟩) (c1 := w.heap.size) (c3 := w.heap.size + 1) rfl rfl hi vars _ ns false 0 _ _ f hb hf (Nat.le_add_left _ _) (fun _ => ⟨(fun _ _ e => by cases e), (fun _ _ e => by cases e)⟩) (by omega)
 have t1 : (decide ((0 : Int) <= (f : Int)) && decide ((f : Int) < (ns.length : Int))) = true := by simp; omega
 have t2 : (decide ((0 : Int) <= (i : Int)) && decide ((i : Int) < (vars : Int))) = true := by simp; omega
 have hch' := Hq.mk hch
 clear hch hb hpw
 go_enter Tryz.func150, Tryz.ntmps150
 go_wp2_with (first
  | (go_at_call 33; refine (hasFunction_any h (f : Int)).mono ?_; rintro e w' ⟨rfl, rfl⟩; rw [t1])
  | (go_at_call 111; refine (hasVariable_any h (i : Int)).mono ?_; rintro e w' ⟨rfl, rfl⟩; rw [t2]))
 refine hch'.out.mono ?_
 rintro e w2 ⟨r, ns', full', N', m1', m3', rfl, hp, X, l1, _, lt, _, sm⟩
 have wf' := hp.bu.ar.wf
 have hK : Kp (ca base a M vars most) w' w2 := hp.kp.outer rfl rfl rfl rfl (by simp; omega) (fun i hi => (Below.heap_alloc _ _ _ (by simp; omega)).trans ((Below.heap_alloc _ _ _ (by simp; omega)).trans (Below.heap_alloc _ _ _ hi))) (by
  rintro i (e | e | e | e | e | e)
  ·exact Or.inl e
  ·exact Or.inr (Or.inr (by rw [e]; show _ <= w'.heap.size + 2; omega))
  ·exact Or.inr (Or.inl e)
  ·cases e; exact Or.inr (Or.inr (Nat.le_refl _))
  ·cases e
  ·cases e; exact Or.inr (Or.inr (Nat.le_succ _))) la
 go_wp2_with fail
 cases full'
 ·refine (answer_any hp.bu r).mono ?_
  rintro e w3 ⟨rfl, rfl⟩
  have hfin : OpPost base a M vars most w' ns (2 ^ vars - 1) (fun q => ev ns f (setE q i false) || ev ns f (setE q i true)) (.returned (.tuple #[.int .i64 (r : Int), .int .i64 0])) w3 :=
   ⟨ns', hp.bu.ar, hK, X, l1, Or.inl ⟨r, rfl, lt, fun q => by rw [(sm rfl).2.2.ev q, X.ev wf wf' _ hf, X.ev wf wf' _ hf]⟩⟩
  clear hp hK
  go_wp2_with fail
  go_ret2
  exact hfin
 ·refine (answer_any hp.bu r).mono ?_
  rintro e w3 ⟨rfl, rfl⟩
  have hfin : OpPost base a M vars most w' ns (2 ^ vars - 1) (fun q => ev ns f (setE q i false) || ev ns f (setE q i true)) (.returned (.tuple #[.int .i64 0, .int .i64 6])) w3 :=
   ⟨ns', hp.bu.ar, hK, X, l1, Or.inr ⟨rfl, hp.bu.full_len rfl⟩⟩
  clear hp hK
  go_wp2_with fail
  go_ret2
  exact hfin
theorem swE_comm (e : Env) (i j : Nat) : swE e i j = swE e j i := by
 funext x
 unfold swE
 by_cases h1 : x = i <;> by_cases h2 : x = j <;> simp_all
theorem swE_same (e : Env) (i : Nat) : swE e i i = e := by
 funext x
 unfold swE
 by_cases h1 : x = i <;> simp_all
theorem run_max2 (x y : Nat) (ts : Array TypeId) (t : TypeId) (W : World) : (Builtin.max_ ts t #[.int .i64 (x : Int), .int .i64 (y : Int)]).run Tryz.prog W = .ok (.int .i64 ((max x y : Nat) : Int)) W := by
 have e : ((max x y : Nat) : Int) = if (x : Int) < (y : Int) then (y : Int) else (x : Int) := by split <;> omega
 rw [e]
 simp [Builtin.max_, Builtin.max2]
theorem swap_one (h : Ar base a M vars most w ns) {f i : Nat} (hf : f < ns.length) (hi : i < vars) :
  Calls Tryz.prog 149 #[.pointer (some ⟨a, 0, none⟩), .int .i64 (f : Int), .int .i64 (i : Int), .int .i64 (i : Int)] w fun e w' => e = .returned (.tuple #[.int .i64 (f : Int), .int .i64 0]) ∧ w' = w := by
 have t1 : (decide ((0 : Int) <= (f : Int)) && decide ((f : Int) < (ns.length : Int))) = true := by simp; omega
 have t2 : (decide ((0 : Int) <= (i : Int)) && decide ((i : Int) < (vars : Int))) = true := by simp; omega
 go_enter Tryz.func149, Tryz.ntmps149
 go_wp2_with (first
  | (go_at_call 33; refine (hasFunction_any h (f : Int)).mono ?_; rintro e w' ⟨rfl, rfl⟩; rw [t1])
  | (go_at_call 111; refine (hasVariable_any h (i : Int)).mono ?_; rintro e w' ⟨rfl, rfl⟩; rw [t2]))
 go_ret2
 exact ⟨rfl, rfl⟩
theorem swap_two (S : Nat -> Bool) (h : Ar base a M vars most w ns) {f i j : Nat} (hf : f < ns.length) (hi : i < vars) (hj : j < vars) (hij : i ≠ j) (hd : DepS S (ev ns f)) :
  Calls Tryz.prog 149 #[.pointer (some ⟨a, 0, none⟩), .int .i64 (f : Int), .int .i64 (i : Int), .int .i64 (j : Int)] w (OpPost base a M vars most w ns (2 ^ cnS (wth S i j) vars 0 - 1) fun q => ev ns f (swE q i j)) := by
 have hmm := @run_makeMap Tryz.prog
 have la := h.lta
 have lM := h.ltM
 have hA := h.lowA
 have v16 := h.vars16
 have wf := h.wf
 have hs : ((w.alloc (.map #[] 0)).alloc (.map #[] 0)).heap.size = w.heap.size + 2 := by simp
 have hs1 : (w.alloc (.map #[] 0)).heap.size = w.heap.size + 1 := by simp
 have hpw := Nat.pow_le_pow_right (n := 2) (by omega) (Nat.le_trans (cnS_le (S := wth S i j) (vars := vars) 0) v16)
 have hb := bu_new (w := (w.alloc (.map #[] 0)).alloc (.map #[] 0)) (C := ⟨base, a, w.heap.size + 2, M, none, some (w.heap.size + 1), some w.heap.size, vars, most⟩) (m1 := fun _ => none) (m2 := fun _ => none) (m3 := fun _ => none) ((h.alloc _).alloc _) (by simp) (by rw [hs]; show base <= _; omega)
  (fun _ e => by cases e) (fun i e => by cases e; have hq := mapIs_made mixE (w.alloc (.map #[] 0)); rw [hs1] at hq; exact hq) (fun i e => by cases e; exact (mapIs_made intE w).same (Below.heap_alloc _ _ _ (by simp)))
  (fun _ e => by cases e) (fun i e => by cases e; exact ⟨by show base <= w.heap.size + 1; omega, by show w.heap.size + 1 ≠ M; omega, (fun e => by simp at e), (fun e => by simp at e)⟩) (fun i e => by cases e; exact ⟨by show base <= w.heap.size; omega, by show w.heap.size ≠ M; omega, (fun e => by simp at e), (fun e => by simp at e)⟩)
 have hch := swap_fit (wth S i j) (C := ⟨base, a, w.heap.size + 2, M, none, some (w.heap.size + 1), some w.heap.size, vars, most⟩) (m1 := fun _ => none) (c2 := w.heap.size + 1) (c3 := w.heap.size) rfl rfl (i := min i j) (j := max i j) (by omega) (by show max i j < vars; omega) (cnS (wth S i j) vars 0) _ ns false 0 _ _ f hb hf (fitW_with hd) (fun _ => ⟨(fun _ _ e => by cases e), (fun _ _ e => by cases e)⟩) (by omega)
 have t1 : (decide ((0 : Int) <= (f : Int)) && decide ((f : Int) < (ns.length : Int))) = true := by simp; omega
 have t2 : (decide ((0 : Int) <= (i : Int)) && decide ((i : Int) < (vars : Int))) = true := by simp; omega
 have t3 : (decide ((0 : Int) <= (j : Int)) && decide ((j : Int) < (vars : Int))) = true := by simp; omega
 have t4 : ((i : Int) == (j : Int)) = false := by simp; omega
 have hsw : ∀ q, swE q (min i j) (max i j) = swE q i j := fun q => by
  rcases Nat.le_total i j with hle | hle
  ·rw [Nat.min_eq_left hle, Nat.max_eq_right hle]
  ·rw [Nat.min_eq_right hle, Nat.max_eq_left hle, swE_comm]
 have hmn : ∀ (ts : Array TypeId) (t : TypeId) (W : World), (Builtin.min_ ts t #[.int .i64 (i : Int), .int .i64 (j : Int)]).run Tryz.prog W = .ok (.int .i64 ((min i j : Nat) : Int)) W := fun ts t W => run_min2 i j ts t W
 have hmx : ∀ (ts : Array TypeId) (t : TypeId) (W : World), (Builtin.max_ ts t #[.int .i64 (i : Int), .int .i64 (j : Int)]).run Tryz.prog W = .ok (.int .i64 ((max i j : Nat) : Int)) W := fun ts t W => run_max2 i j ts t W
 generalize cnS (wth S i j) vars 0 = kk at *
 generalize min i j = lo at *
 generalize max i j = up at *
 have hch' := Hq.mk hch
 have hsw' := Hq.mk hsw
 clear hch hb hpw hsw hd
 go_enter Tryz.func149, Tryz.ntmps149
 go_wp2_with (first
  | (go_at_call 33; refine (hasFunction_any h (f : Int)).mono ?_; rintro e w' ⟨rfl, rfl⟩; rw [t1])
  | (go_at_call_of 111 (Value.int .i64 (i : Int)); refine (hasVariable_any h (i : Int)).mono ?_; rintro e w' ⟨rfl, rfl⟩; rw [t2])
  | (go_at_call_of 111 (Value.int .i64 (j : Int)); refine (hasVariable_any h (j : Int)).mono ?_; rintro e w' ⟨rfl, rfl⟩; rw [t3]))
 refine hch'.out.mono ?_
 rintro e w2 ⟨r, ns', full', N', m2', m3', rfl, hp, X, l1, _, lt, _, sm⟩
 have wf' := hp.bu.ar.wf
 have hK : Kp (ca base a M vars most) w' w2 := hp.kp.outer rfl rfl rfl rfl (by simp; omega) (fun i hi => (Below.heap_alloc _ _ _ (by simp; omega)).trans ((Below.heap_alloc _ _ _ (by simp; omega)).trans (Below.heap_alloc _ _ _ hi))) (by
  rintro i (e | e | e | e | e | e)
  ·exact Or.inl e
  ·exact Or.inr (Or.inr (by rw [e]; show _ <= w'.heap.size + 2; omega))
  ·exact Or.inr (Or.inl e)
  ·cases e
  ·cases e; exact Or.inr (Or.inr (Nat.le_succ _))
  ·cases e; exact Or.inr (Or.inr (Nat.le_refl _))) la
 go_wp2_with fail
 cases full'
 ·refine (answer_any hp.bu r).mono ?_
  rintro e w3 ⟨rfl, rfl⟩
  have hfin : OpPost base a M vars most w' ns (2 ^ kk - 1) (fun q => ev ns f (swE q i j)) (.returned (.tuple #[.int .i64 (r : Int), .int .i64 0])) w3 :=
   ⟨ns', hp.bu.ar, hK, X, l1, Or.inl ⟨r, rfl, lt, fun q => by rw [(sm rfl).2.2.ev q, X.ev wf wf' _ hf, hsw'.out]⟩⟩
  clear hp hK
  go_wp2_with fail
  go_ret2
  exact hfin
 ·refine (answer_any hp.bu r).mono ?_
  rintro e w3 ⟨rfl, rfl⟩
  have hfin : OpPost base a M vars most w' ns (2 ^ kk - 1) (fun q => ev ns f (swE q i j)) (.returned (.tuple #[.int .i64 0, .int .i64 6])) w3 :=
   ⟨ns', hp.bu.ar, hK, X, l1, Or.inr ⟨rfl, hp.bu.full_len rfl⟩⟩
  clear hp hK
  go_wp2_with fail
  go_ret2
  exact hfin
theorem swap_ok (S : Nat -> Bool) (h : Ar base a M vars most w ns) {f i j : Nat} (hf : f < ns.length) (hi : i < vars) (hj : j < vars) (hd : DepS S (ev ns f)) :
  Calls Tryz.prog 149 #[.pointer (some ⟨a, 0, none⟩), .int .i64 (f : Int), .int .i64 (i : Int), .int .i64 (j : Int)] w (OpPost base a M vars most w ns (2 ^ cnS (wth S i j) vars 0 - 1) fun q => ev ns f (swE q i j)) := by
 by_cases e : i = j
 ·subst e
  refine (swap_one h hf hi).mono ?_
  rintro e w' ⟨rfl, rfl⟩
  exact ⟨ns, h, Kp.refl _ _, Ext.refl _, Nat.le_add_right _ _, Or.inl ⟨f, rfl, hf, fun q => by show ev ns f q = ev ns f (swE q i i); rw [swE_same]⟩⟩
 ·exact swap_two S h hf hi hj e hd
end
structure IsTk (ns ns2 : List Nd) (f g : Nat) : Prop where
 ltf : f < ns2.length
 lt : g < ns.length
 ev : ∀ e, ev ns g e = ev ns2 f e
 va : nv ns2 f <= nv ns g
section
variable {vars v2 : Nat} {ns ns' ns2 : List Nd}
theorem IsTk.ext {f g : Nat} (h : IsTk ns ns2 f g) (X : Ext ns ns') (wf : Wf vars ns) (wf' : Wf vars ns') : IsTk ns' ns2 f g := by
 have hl := X.len
 have lt := h.lt
 refine ⟨h.ltf, by omega, fun e => ?_, ?_⟩
 ·rw [X.ev wf wf' _ h.lt]; exact h.ev e
 ·rw [X.va h.lt]; exact h.va
def MemoT (ns ns2 : List Nd) (m : Nat -> Option Nat) : Prop := ∀ f g, m f = some g -> IsTk ns ns2 f g
theorem MemoT.ext {m : Nat -> Option Nat} (h : MemoT ns ns2 m) (X : Ext ns ns') (wf : Wf vars ns) (wf' : Wf vars ns') : MemoT ns' ns2 m := fun c f e => (h c f e).ext X wf wf'
theorem MemoT.upd {m : Nat -> Option Nat} (h : MemoT ns ns2 m) {c f : Nat} (hf : IsTk ns ns2 c f) : MemoT ns ns2 (upd m c f) := by
 intro d g hg
 unfold YtmcklkkkkigflaaGreat.upd at hg
 by_cases e : d = c
 ·subst e
  rw [if_pos rfl] at hg
  cases hg
  exact hf
 ·rw [if_neg e] at hg
  exact h d g hg
theorem isTk_small (wf : Wf vars ns) (wf2 : Wf v2 ns2) (hv : v2 <= vars) {f : Nat} (hf : f <= 1) : IsTk ns ns2 f f := by
 have l1 := wf.len
 have l2 := wf2.len
 match f, hf with
 | 0, _ => exact ⟨by omega, by omega, fun e => rfl, by simp [nv, wf.n0, wf2.n0]; exact hv⟩
 | 1, _ => exact ⟨by omega, by omega, fun e => by rw [ev1, ev1], by simp [nv, wf.n1, wf2.n1]; exact hv⟩
theorem isTk_join (wf2 : Wf v2 ns2) {f l u g : Nat} (f2 : 2 <= f) (hf : f < ns2.length) (h0 : IsTk ns ns2 (nl ns2 f) l) (h1 : IsTk ns ns2 (nh ns2 f) u) (hn : IsNode ns (nv ns2 f) l u g) : IsTk ns ns2 f g :=
 ⟨hf, hn.lt, fun e => by rw [hn.ev, h0.ev, h1.ev, ev_node wf2 f2 hf], hn.va⟩
end
structure Fr (C : Cfg) (w : World) (base2 a2 M2 v2 most2 : Nat) (ns2 : List Nd) : Prop where
 ar : Ar base2 a2 M2 v2 most2 w ns2
 oa : Out C w a2
 oM : Out C w M2
 or : Out C w (rowOf w a2)
section
variable {C : Cfg} {w w' : World} {base2 a2 M2 v2 most2 : Nat} {ns2 : List Nd}
theorem Fr.kp (h : Fr C w base2 a2 M2 v2 most2 ns2) (k : Kp C w w') : Fr C w' base2 a2 M2 v2 most2 ns2 := by
 have e : w'.heap[a2]? = w.heap[a2]? := k.blk a2 h.oa.lt h.oa.not h.oa.ne
 refine ⟨h.ar.same e (k.blk M2 h.oM.lt h.oM.not h.oM.ne) (k.blk _ h.or.lt h.or.not h.or.ne), h.oa.kp k, h.oM.kp k, ?_⟩
 rw [rowOf_same e]
 exact h.or.kp k
def TakePost (C : Cfg) (w : World) (ns ns2 : List Nd) (full : Bool) (N : Nat) (m1 : Nd -> Option Nat) (m2 : Mx -> Option Nat) (f : Nat) (g : Nat) (e : Ending) (w' : World) : Prop :=
 ∃ r ns' full' N' m3', e = .returned (.int .i64 ((r : Nat) : Int)) ∧ At C w w' ns' full' N' m1 m2 m3' ∧ Ext ns ns' ∧ ns'.length <= ns.length + g ∧ N' <= N + g ∧ r < ns'.length ∧ (full = true -> full' = true) ∧ (full' = false -> MemoT ns' ns2 m3' ∧ IsTk ns' ns2 f r)
variable {ns : List Nd} {N : Nat} {m1 : Nd -> Option Nat} {m2 : Mx -> Option Nat} {m3 : Nat -> Option Nat}
theorem take_full (h : Bu C w ns true N m1 m2 m3) (f : Nat) :
  Calls Tryz.prog 41 #[.pointer (some ⟨C.b, 0, none⟩), .pointer (some ⟨a2, 0, none⟩), .int .i64 (f : Int)] w fun e w' => e = .returned (.int .i64 0) ∧ w' = w := by
 obtain ⟨b0, b1, b2, b3, b4, bf⟩ := h.reads
 clear h
 go_enter Tryz.func41, Tryz.ntmps41
 go_wp2_with fail
 go_ret
 exact ⟨rfl, rfl⟩
theorem take_small (h : Bu C w ns false N m1 m2 m3) {f : Nat} (hf : f <= 1) :
  Calls Tryz.prog 41 #[.pointer (some ⟨C.b, 0, none⟩), .pointer (some ⟨a2, 0, none⟩), .int .i64 (f : Int)] w fun e w' => e = .returned (.int .i64 (f : Int)) ∧ w' = w := by
 obtain ⟨b0, b1, b2, b3, b4, bf⟩ := h.reads
 have t1 : decide ((f : Int) <= 1) = true := by simp; omega
 clear h
 go_enter Tryz.func41, Tryz.ntmps41
 go_wp2_with fail
 go_ret
 exact ⟨rfl, rfl⟩
theorem take_hit (h : Bu C w ns false N m1 m2 m3) {c3 : Nat} (hc3 : C.c3 = some c3) {f r : Nat} (f2 : 2 <= f) (hf : f < 9223372036854775808) (hr : m3 f = some r) :
  Calls Tryz.prog 41 #[.pointer (some ⟨C.b, 0, none⟩), .pointer (some ⟨a2, 0, none⟩), .int .i64 (f : Int)] w fun e w' => e = .returned (.int .i64 (r : Int)) ∧ w' = w := by
 obtain ⟨b0, b1, b2, b3, b4, bf⟩ := h.reads
 have t1 : decide ((f : Int) <= 1) = false := by simp; omega
 have hlook := (h.o3 c3 hc3).look Tryz.u47 (x := f) (by show f < _; omega)
 rw [hr] at hlook
 simp only [intE, Option.getD_some, Option.isSome_some] at hlook
 rw [hc3] at b4
 clear h
 go_enter Tryz.func41, Tryz.ntmps41
 go_wp2_with fail
 go_ret
 exact ⟨rfl, rfl⟩
theorem take_miss (h : Bu C w ns false N m1 m2 m3) (F : Fr C w base2 a2 M2 v2 most2 ns2) (hv2 : v2 <= C.vars) {c3 : Nat} (hc3 : C.c3 = some c3) {f k : Nat} (f2 : 2 <= f) (hf : f < ns2.length) (hr : m3 f = none) {S : Nat -> Bool} (hk : Fit1 S v2 ns2 f (k + 1)) (hmt : MemoT ns ns2 m3) (hN : N + 2 ^ (k + 1) <= 1099511627776)
  (ih : Hq (∀ w ns full N m3 f, Bu C w ns full N m1 m2 m3 -> Fr C w base2 a2 M2 v2 most2 ns2 -> f < ns2.length -> Fit1 S v2 ns2 f k -> (full = false -> MemoT ns ns2 m3) -> N + 2 ^ k <= 1099511627776 -> Calls Tryz.prog 41 #[.pointer (some ⟨C.b, 0, none⟩), .pointer (some ⟨a2, 0, none⟩), .int .i64 (f : Int)] w (TakePost C w ns ns2 full N m1 m2 f (2 ^ k - 1)))) :
  Calls Tryz.prog 41 #[.pointer (some ⟨C.b, 0, none⟩), .pointer (some ⟨a2, 0, none⟩), .int .i64 (f : Int)] w (TakePost C w ns ns2 false N m1 m2 f (2 ^ (k + 1) - 1)) := by
 have hA := (At.refl h).alloc (.cells #[.int .i64 (nv ns2 f : Int), .int .i64 (nl ns2 f : Int), .int .i64 (nh ns2 f : Int)] 94)
 have L := h.loc #[.int .i64 (nv ns2 f : Int), .int .i64 (nl ns2 f : Int), .int .i64 (nh ns2 f : Int)] 94
 have F1 := F.kp hA.kp
 obtain ⟨b0, b1, b2, b3, b4, bf⟩ := h.reads
 obtain ⟨cap, a0, a1, ac2, a3, af, an⟩ := F.ar.reads
 obtain ⟨n0, n1, n2⟩ := an f hf
 have hl2 : ns2.length <= 40000 := Nat.le_trans F.ar.le F.ar.most4
 have hl : ns.length <= 40000 := Nat.le_trans h.ar.le h.ar.most4
 have lb := h.ltb
 have wf := h.ar.wf
 have wf2 := F.ar.wf
 have hlo := wf2.lo f f2 hf
 have hhi := wf2.hi f f2 hf
 have vlo := wf2.vlo f f2 hf
 have vhi := wf2.vhi f f2 hf
 have vva := wf2.va f f2 hf
 have HF : Hq (Fit1 S v2 ns2 (nl ns2 f) k ∧ Fit1 S v2 ns2 (nh ns2 f) k) := ⟨hk.lo wf2 f2 hf, hk.hi wf2 f2 hf⟩
 clear hk
 have hp2 : 2 ^ (k + 1) = 2 * 2 ^ k := by rw [Nat.pow_succ]; omega
 have hp1 : 1 <= 2 ^ k := Nat.one_le_two_pow
 have t1 : decide ((f : Int) <= 1) = false := by simp; omega
 have hlook := (h.o3 c3 hc3).look Tryz.u47 (x := f) (by show f < _; omega)
 rw [hr] at hlook
 simp only [intE, Option.getD_none, Option.isSome_none] at hlook
 rw [hc3] at b4
 clear h an F
 generalize rowOf w a2 = g at *
 go_enter Tryz.func41, Tryz.ntmps41
 go_wp2_with fail
 refine (ih.out _ ns false N m3 (nl ns2 f) hA.bu F1 (by omega) HF.out.1 (fun _ => hmt) (by omega)).mono ?_
 rintro e w4 ⟨f0, ns1, full1, N1, m31, rfl, hp, X1, l1, k1, lt0, _, s1⟩
 have hA4 := hA.then hp
 have L4 := L.kp hp.kp
 have F4 := F1.kp hp.kp
 clear hp hA L hlook b0 b1 b2 b3 b4 bf a0 a1 ac2 a3 af n0 n1 n2 F1
 have wf1 := hA4.bu.ar.wf
 have X1l := X1.len
 obtain ⟨⟨q0, q1, q2⟩, _⟩ := L4.reads
 go_wp2_with fail
 refine (ih.out _ ns1 full1 N1 m31 (nh ns2 f) hA4.bu F4 (by omega) HF.out.2 (fun e => (s1 e).1) (by omega)).mono ?_
 rintro e w6 ⟨f1, ns3, full2, N2, m32, rfl, hp, X2, l2, k2, lt1, mo2, s2⟩
 have hA6 := hA4.then hp
 have L6 := L4.kp hp.kp
 clear hp L4 hA4 q0 q1 q2 F4
 have wf3 := hA6.bu.ar.wf
 have X2l := X2.len
 have X02 := X1.trans X2
 have sem2 : full2 = false -> MemoT ns3 ns2 m32 ∧ IsTk ns3 ns2 (nl ns2 f) f0 ∧ IsTk ns3 ns2 (nh ns2 f) f1 := fun e2 => by
  have e1 : full1 = false := by cases full1 <;> simp_all
  exact ⟨(s2 e2).1, (s1 e1).2.ext X2 wf1 wf3, (s2 e2).2⟩
 obtain ⟨⟨q0, q1, q2⟩, _⟩ := L6.reads
 go_wp2_with fail
 refine (numberOf_any hA6.bu (v := nv ns2 f) (l := f0) (u := f1) (by omega) (by omega) lt1 (fun e2 => ?_)).mono ?_
 ·obtain ⟨_, a1, a2⟩ := sem2 e2
  have c1 := a1.va
  have c2 := a2.va
  omega
 rintro e w7 ⟨r, ns4, full3, rfl, hp, X3, l3, lt3, mo3, s3⟩
 have hA7 := hA6.then hp
 clear hp L6 hA6 q0 q1 q2
 have wf4 := hA7.bu.ar.wf
 have len3 : ns4.length <= 40000 := Nat.le_trans hA7.bu.ar.le hA7.bu.ar.most4
 obtain ⟨w8, hrun, hM8, hg8⟩ := (hA7.bu.o3 c3 hc3).store Tryz.u47 (by unfold maxLen; omega) (x := f) (by show f < _; omega) (v := r) (by omega)
 have hA8 := hA7.memo3 hc3 hM8 hg8
 obtain ⟨d0, d1, d2, d3, d4, df⟩ := hA7.bu.reads
 rw [hc3] at d4
 simp only [intE] at hrun
 have hfin : TakePost C w ns ns2 false N m1 m2 f (2 ^ (k + 1) - 1) (.returned (.int .i64 (r : Int))) w8 := by
  refine ⟨r, ns4, full3, N2 + 1, _, rfl, hA8, X02.trans X3, by omega, by omega, lt3, (fun e => by cases e), fun e3 => ?_⟩
  have e2 : full2 = false := by cases full2 <;> simp_all
  obtain ⟨a00, a1, a2⟩ := sem2 e2
  have J : IsTk ns4 ns2 f r := isTk_join wf2 f2 hf (a1.ext X3 wf3 wf4) (a2.ext X3 wf3 wf4) (s3 e3)
  exact ⟨(a00.ext X3 wf3 wf4).upd J, J⟩
 clear hA7 hM8 hg8 hA8
 go_wp2_with fail
 go_ret
 exact hfin
theorem take_fit1 (S : Nat -> Bool) {c3 : Nat} (hc3 : C.c3 = some c3) (hv2 : v2 <= C.vars) : ∀ (k : Nat) (w : World) (ns : List Nd) (full : Bool) (N : Nat) (m3 : Nat -> Option Nat) (f : Nat), Bu C w ns full N m1 m2 m3 -> Fr C w base2 a2 M2 v2 most2 ns2 -> f < ns2.length -> Fit1 S v2 ns2 f k ->
  (full = false -> MemoT ns ns2 m3) -> N + 2 ^ k <= 1099511627776 -> Calls Tryz.prog 41 #[.pointer (some ⟨C.b, 0, none⟩), .pointer (some ⟨a2, 0, none⟩), .int .i64 (f : Int)] w (TakePost C w ns ns2 full N m1 m2 f (2 ^ k - 1)) := by
 intro k
 induction k with
 | zero =>
   intro w ns full N m3 f h F hf hk hm hN
   have small : f <= 1 := by
    have := hk.zero F.ar.wf hf
    omega
   cases full
   ·refine (take_small h small).mono ?_
    rintro e w' ⟨rfl, rfl⟩
    exact ⟨f, ns, false, N, m3, rfl, At.refl h, Ext.refl _, by omega, by omega, (by have := h.ar.wf.len; omega), id, fun _ => ⟨hm rfl, isTk_small h.ar.wf F.ar.wf hv2 small⟩⟩
   ·refine (take_full h f).mono ?_
    rintro e w' ⟨rfl, rfl⟩
    exact ⟨0, ns, true, N, m3, rfl, At.refl h, Ext.refl _, by omega, by omega, (by have := h.ar.wf.len; omega), id, fun e => by cases e⟩
 | succ k ih =>
   intro w ns full N m3 f h F hf hk hm hN
   cases full
   ·rcases Nat.lt_or_ge f 2 with h2 | h2
    ·refine (take_small h (by omega)).mono ?_
     rintro e w' ⟨rfl, rfl⟩
     exact ⟨f, ns, false, N, m3, rfl, At.refl h, Ext.refl _, by omega, by omega, (by have := h.ar.wf.len; omega), id, fun _ => ⟨hm rfl, isTk_small h.ar.wf F.ar.wf hv2 (by omega)⟩⟩
    ·cases hr : m3 f with
     | none => exact take_miss h F hv2 hc3 h2 hf hr hk (hm rfl) hN ⟨ih⟩
     | some r =>
       have hl2 : ns2.length <= 40000 := Nat.le_trans F.ar.le F.ar.most4
       refine (take_hit h hc3 h2 (by omega) hr).mono ?_
       rintro e w' ⟨rfl, rfl⟩
       have J := hm rfl _ _ hr
       exact ⟨r, ns, false, N, m3, rfl, At.refl h, Ext.refl _, by omega, by omega, J.lt, id, fun _ => ⟨hm rfl, J⟩⟩
   ·refine (take_full h f).mono ?_
    rintro e w' ⟨rfl, rfl⟩
    exact ⟨0, ns, true, N, m3, rfl, At.refl h, Ext.refl _, by omega, by omega, (by have := h.ar.wf.len; omega), id, fun e => by cases e⟩
end
theorem Ar.drewT {base a M vars most : Nat} {w : World} {ns : List Nd} (h : Ar base a M vars most w ns) : Ar base a M vars most w.drew ns := h.same rfl rfl rfl
theorem take_fit (S : Nat -> Bool) {base a M vars most base2 a2 M2 v2 most2 : Nat} {w : World} {ns ns2 : List Nd} (h : Ar base a M vars most w ns) (h2 : Ar base2 a2 M2 v2 most2 w ns2) (hv2 : v2 <= vars) (ap : ∀ i, i = a2 ∨ i = M2 ∨ i = rowOf w a2 -> i ≠ a ∧ i ≠ M ∧ i ≠ rowOf w a) {f k : Nat} (hf : f < ns2.length) (hfit : Fit1 S v2 ns2 f k) (hk16 : k <= 16) :
  Calls Tryz.prog 24 #[.pointer (some ⟨a, 0, none⟩), .pointer (some ⟨a2, 0, none⟩), .int .i64 (f : Int)] w (OpPost base a M vars most w ns (2 ^ k - 1) fun q => ev ns2 f q) := by
 have hmm := @run_makeMap Tryz.prog
 have la := h.lta
 have lM := h.ltM
 have hA := h.lowA
 have wf := h.wf
 have t1 : (decide ((0 : Int) <= (f : Int)) && decide ((f : Int) < (ns2.length : Int))) = true := by simp; omega
 have HF : Hid (∀ w', Ar base2 a2 M2 v2 most2 w' ns2 -> Calls Tryz.prog 33 #[.pointer (some ⟨a2, 0, none⟩), .int .i64 (f : Int)] w' fun e w'' => e = .returned (.bool true) ∧ w'' = w') := fun w' h' => by
  have := hasFunction_any h' (f : Int)
  rw [t1] at this
  exact this
 have t2 : decide ((vars : Int) < (v2 : Int)) = false := by simp; omega
 have hs : ((w.drew).alloc (.map #[] 0)).heap.size = w.heap.size + 1 := by simp
 have hb := bu_new (w := (w.drew).alloc (.map #[] 0)) (C := ⟨base, a, w.heap.size + 1, M, none, none, some w.heap.size, vars, most⟩) (m1 := fun _ => none) (m2 := fun _ => none) (m3 := fun _ => none) ((h.drewT).alloc _) (by simp) (by rw [hs]; show base <= _; omega)
  (fun _ e => by cases e) (fun _ e => by cases e) (fun i e => by cases e; exact mapIs_made intE w.drew) (fun _ e => by cases e) (fun _ e => by cases e) (fun i e => by cases e; exact ⟨by show base <= _; omega, by show w.heap.size ≠ M; omega, (fun e => by cases e), (fun e => by cases e)⟩)
 obtain ⟨_, _, _, rl2⟩ := h2.row
 have la2 := h2.lta
 have lM2 := h2.ltM
 have hrow : rowOf (((w.drew).alloc (.map #[] 0)).alloc (.cells #[.pointer (some ⟨a, 0, none⟩), .bool false, .map none, .map none, .map (some w.heap.size)] 108)) a = rowOf w a := by
  rw [rowOf_same (Below.heap_alloc _ _ _ (by simp; omega)), rowOf_same (Below.heap_alloc w.drew _ _ la)]
  rfl
 have hrow2 : rowOf (((w.drew).alloc (.map #[] 0)).alloc (.cells #[.pointer (some ⟨a, 0, none⟩), .bool false, .map none, .map none, .map (some w.heap.size)] 108)) a2 = rowOf w a2 := by
  rw [rowOf_same (Below.heap_alloc _ _ _ (by simp; omega)), rowOf_same (Below.heap_alloc w.drew _ _ la2)]
  rfl
 have out : ∀ i, (i = a2 ∨ i = M2 ∨ i = rowOf w a2) -> i < w.heap.size -> Out ⟨base, a, w.heap.size + 1, M, none, none, some w.heap.size, vars, most⟩ (((w.drew).alloc (.map #[] 0)).alloc (.cells #[.pointer (some ⟨a, 0, none⟩), .bool false, .map none, .map none, .map (some w.heap.size)] 108)) i := by
  intro i h1 h2
  obtain ⟨z1, z2, z3⟩ := ap i h1
  refine ⟨by simp; omega, ?_, ?_⟩
  ·rintro (e | e | e | e | e | e)
   ·exact z1 e
   ·have e' : i = w.heap.size + 1 := e; omega
   ·exact z2 e
   ·cases e
   ·cases e
   ·cases e; omega
  ·show i ≠ rowOf _ a
   rw [hrow]
   exact z3
 have hFr : Fr ⟨base, a, w.heap.size + 1, M, none, none, some w.heap.size, vars, most⟩ (((w.drew).alloc (.map #[] 0)).alloc (.cells #[.pointer (some ⟨a, 0, none⟩), .bool false, .map none, .map none, .map (some w.heap.size)] 108)) base2 a2 M2 v2 most2 ns2 :=
  ⟨((h2.drewT).alloc _).alloc _, out a2 (.inl rfl) la2, out M2 (.inr (.inl rfl)) lM2, by rw [hrow2]; exact out _ (.inr (.inr rfl)) rl2⟩
 have hpw := Nat.pow_le_pow_right (n := 2) (by omega) hk16
 have hch := take_fit1 S (C := ⟨base, a, w.heap.size + 1, M, none, none, some w.heap.size, vars, most⟩) (c3 := w.heap.size) rfl hv2 k _ ns false 0 _ f hb hFr hf hfit (fun _ _ _ e => by cases e) (by omega)
 have hch' := Hq.mk hch
 obtain ⟨cap, a0, _⟩ := h.reads
 obtain ⟨cap2, b0, _⟩ := h2.reads
 have a0' : w.drew.cell? ⟨a, 0, none⟩ = some (.int .i64 (vars : Int)) := a0
 have b0' : w.drew.cell? ⟨a2, 0, none⟩ = some (.int .i64 (v2 : Int)) := b0
 have h2d := h2.drewT
 clear hch hb hFr out hrow hrow2 hpw ap hfit
 go_enter Tryz.func24, Tryz.ntmps24
 go_wp2_with fail
 go_region_held3 (fun w' => w'.cell? ⟨a, 0, none⟩ = some (.int .i64 (vars : Int)) ∧ w'.cell? ⟨a2, 0, none⟩ = some (.int .i64 (v2 : Int))) (exact ⟨by assumption, by assumption⟩)
  (first | (go_at_call 33; refine (HF.out _ (by assumption)).mono ?_; rintro e wn ⟨rfl, rfl⟩))
 go_wp2_with fail
 refine hch'.out.mono ?_
 rintro e w2 ⟨r, ns', full', N', m3', rfl, hp, X, l1, _, lt, _, sm⟩
 have wf' := hp.bu.ar.wf
 have hK : Kp (ca base a M vars most) w w2 := hp.kp.outer rfl rfl rfl rfl (by simp; omega) (fun i hi => (Below.heap_alloc _ _ _ (by simp; omega)).trans (Below.heap_alloc _ _ _ hi)) (by
  rintro i (e | e | e | e | e | e)
  ·exact Or.inl e
  ·exact Or.inr (Or.inr (by rw [e]; show _ <= w.heap.size + 1; omega))
  ·exact Or.inr (Or.inl e)
  ·cases e
  ·cases e
  ·cases e; exact Or.inr (Or.inr (Nat.le_refl _))) la
 go_wp2_with fail
 cases full'
 ·refine (answer_any hp.bu r).mono ?_
  rintro e w3 ⟨rfl, rfl⟩
  have hfin : OpPost base a M vars most w ns (2 ^ k - 1) (fun q => ev ns2 f q) (.returned (.tuple #[.int .i64 (r : Int), .int .i64 0])) w3 :=
   ⟨ns', hp.bu.ar, hK, X, l1, Or.inl ⟨r, rfl, lt, fun q => (sm rfl).2.ev q⟩⟩
  clear hp hK
  go_wp2_with fail
  go_ret2
  exact hfin
 ·refine (answer_any hp.bu r).mono ?_
  rintro e w3 ⟨rfl, rfl⟩
  have hfin : OpPost base a M vars most w ns (2 ^ k - 1) (fun q => ev ns2 f q) (.returned (.tuple #[.int .i64 0, .int .i64 6])) w3 :=
   ⟨ns', hp.bu.ar, hK, X, l1, Or.inr ⟨rfl, hp.bu.full_len rfl⟩⟩
  clear hp hK
  go_wp2_with fail
  go_ret2
  exact hfin
theorem take_ok {base a M vars most base2 a2 M2 v2 most2 : Nat} {w : World} {ns ns2 : List Nd} (h : Ar base a M vars most w ns) (h2 : Ar base2 a2 M2 v2 most2 w ns2) (hv2 : v2 <= vars) (p1 : a < base2) (p2 : M < base2) (p3 : rowOf w a < base2) {f : Nat} (hf : f < ns2.length) :
  Calls Tryz.prog 24 #[.pointer (some ⟨a, 0, none⟩), .pointer (some ⟨a2, 0, none⟩), .int .i64 (f : Int)] w (OpPost base a M vars most w ns (2 ^ v2 - 1) fun q => ev ns2 f q) :=
 take_fit (fun _ => true) h h2 hv2 (fun i hi => by
  have h1 : base2 <= i := by
   rcases hi with rfl | rfl | rfl
   ·exact h2.lowA
   ·exact h2.lowM
   ·exact h2.row.choose_spec.2.1
  refine ⟨by omega, by omega, by omega⟩) hf (fit1_all (Nat.le_add_left _ _)) h2.vars16
theorem Ar.kalloc2 {base a M vars most : Nat} {w : World} {ns : List Nd} (h : Ar base a M vars most w ns) (o : Obj) : Kp (ca base a M vars most) w (w.alloc o) :=
 ⟨rfl, rfl, rfl, by simp, fun i hi _ _ => Below.heap_alloc w o i hi, Or.inl (rowOf_same (Below.heap_alloc w o _ h.lta)), fun _ _ => cellB (Below.heap_alloc w o _ h.lta)⟩
theorem take_const {base a M vars most base2 a2 M2 v2 most2 : Nat} {w : World} {ns ns2 : List Nd} (h : Ar base a M vars most w ns) (h2 : Ar base2 a2 M2 v2 most2 w ns2) (hv2 : v2 <= vars) {f : Nat} (hf1 : f <= 1) :
  Calls Tryz.prog 24 #[.pointer (some ⟨a, 0, none⟩), .pointer (some ⟨a2, 0, none⟩), .int .i64 (f : Int)] w fun e w' => e = .returned (.tuple #[.int .i64 (f : Int), .int .i64 0]) ∧ Ar base a M vars most w' ns ∧ Kp (ca base a M vars most) w w' := by
 have hf : f < ns2.length := by have := h2.wf.len; omega
 have hmm := @run_makeMap Tryz.prog
 have la := h.lta
 have lM := h.ltM
 have hA := h.lowA
 have t1 : (decide ((0 : Int) <= (f : Int)) && decide ((f : Int) < (ns2.length : Int))) = true := by simp; omega
 have HF : Hid (∀ w', Ar base2 a2 M2 v2 most2 w' ns2 -> Calls Tryz.prog 33 #[.pointer (some ⟨a2, 0, none⟩), .int .i64 (f : Int)] w' fun e w'' => e = .returned (.bool true) ∧ w'' = w') := fun w' h' => by
  have := hasFunction_any h' (f : Int)
  rw [t1] at this
  exact this
 have t2 : decide ((vars : Int) < (v2 : Int)) = false := by simp; omega
 have hs : ((w.drew).alloc (.map #[] 0)).heap.size = w.heap.size + 1 := by simp
 have hb := bu_new (w := (w.drew).alloc (.map #[] 0)) (C := ⟨base, a, w.heap.size + 1, M, none, none, some w.heap.size, vars, most⟩) (m1 := fun _ => none) (m2 := fun _ => none) (m3 := fun _ => none) ((h.drewT).alloc _) (by simp) (by rw [hs]; show base <= _; omega)
  (fun _ e => by cases e) (fun _ e => by cases e) (fun i e => by cases e; exact mapIs_made intE w.drew) (fun _ e => by cases e) (fun _ e => by cases e) (fun i e => by cases e; exact ⟨by show base <= _; omega, by show w.heap.size ≠ M; omega, (fun e => by cases e), (fun e => by cases e)⟩)
 have hch := take_small (a2 := a2) hb hf1
 have hch' := Hq.mk hch
 obtain ⟨cap, a0, _⟩ := h.reads
 obtain ⟨cap2, b0, _⟩ := h2.reads
 have a0' : w.drew.cell? ⟨a, 0, none⟩ = some (.int .i64 (vars : Int)) := a0
 have b0' : w.drew.cell? ⟨a2, 0, none⟩ = some (.int .i64 (v2 : Int)) := b0
 have h2d := h2.drewT
 have hb' := Hq.mk hb
 clear hch hb
 go_enter Tryz.func24, Tryz.ntmps24
 go_wp2_with fail
 go_region_held3 (fun w' => w'.cell? ⟨a, 0, none⟩ = some (.int .i64 (vars : Int)) ∧ w'.cell? ⟨a2, 0, none⟩ = some (.int .i64 (v2 : Int))) (exact ⟨by assumption, by assumption⟩)
  (first | (go_at_call 33; refine (HF.out _ (by assumption)).mono ?_; rintro e wn ⟨rfl, rfl⟩))
 go_wp2_with fail
 refine hch'.out.mono ?_
 rintro e w2 ⟨rfl, rfl⟩
 have hK : Kp (ca base a M vars most) w (((w.drew).alloc (.map #[] 0)).alloc (.cells #[.pointer (some ⟨a, 0, none⟩), .bool false, .map none, .map none, .map (some w.heap.size)] 108)) := (Kp.refl (ca base a M vars most) w).drew.trans ((h.drewT.kalloc2 _).trans ((h.drewT.alloc _).kalloc2 _))
 have hA9 := ((h.drewT).alloc (.map #[] 0)).alloc (.cells #[.pointer (some ⟨a, 0, none⟩), .bool false, .map none, .map none, .map (some w.heap.size)] 108)
 go_wp2_with fail
 refine (answer_any hb'.out f).mono ?_
 rintro e w3 ⟨rfl, rfl⟩
 have fin := Hq.mk (And.intro hA9 hK)
 clear hA9 hK hb'
 go_wp2_with fail
 go_ret2
 exact ⟨rfl, fin.out⟩
end Go.Proofs.YtmcklkkkkigflaaGreat
namespace Go.Proofs.YtmcklkkkkigflaaGreat
open Go.RowKit
abbrev st (b n : Int) : Value := .agg #[.int .i64 b, .int .i64 n]
abbrev mt (a b c d : Nat) : Value := .agg #[.int .u16 (a : Int), .int .u16 (b : Int), .int .u8 (c : Int), .int .u8 (d : Int)]
abbrev pk (a b c d : Int) : Value := .agg #[.int .i64 a, .int .i64 b, .int .i64 c, .int .i64 d]
def hasB (b : Nat) (n : Int) : Bool := decide (0 <= n) && b.testBit n.toNat
theorem chain {W0 W w' : World} (hb : Below W.heap.size W w') (h : Below W0.heap.size W0 W) : Below W0.heap.size W0 w' := h.trans (hb.mono h.size)
theorem Below.alloc' {W0 w : World} (h : Below W0.heap.size W0 w) (o : Obj) : Below W0.heap.size W0 (w.alloc o) := h.alloc h.size o
def Four (w : World) (n : Nat) (a b c d : Value) : Prop :=
 n < w.heap.size ∧ w.cell? ⟨n, 0, none⟩ = some a ∧ w.cell? ⟨n, 1, none⟩ = some b ∧ w.cell? ⟨n, 2, none⟩ = some c ∧ w.cell? ⟨n, 3, none⟩ = some d
theorem keepFour {W w' : World} {n : Nat} {a b c d : Value} (hb : Below W.heap.size W w') (h : Four W n a b c d) : Four w' n a b c d := by
 obtain ⟨h0, h1, h2, h3, h4⟩ := h
 exact ⟨Nat.lt_of_lt_of_le h0 hb.size, (hb.cell (p := ⟨n, 0, none⟩) h0).trans h1, (hb.cell (p := ⟨n, 1, none⟩) h0).trans h2, (hb.cell (p := ⟨n, 2, none⟩) h0).trans h3, (hb.cell (p := ⟨n, 3, none⟩) h0).trans h4⟩
theorem four_new (w : World) (a b c d : Value) (t : TypeId) : Four (w.alloc (.cells #[a, b, c, d] t)) w.heap.size a b c d :=
 ⟨by simp, by simp [go_sem], by simp [go_sem], by simp [go_sem], by simp [go_sem]⟩
theorem addrs_any (b : Nat) (w : World) (h1 : b < 65536) :
  Calls Tryz.prog 56 #[.int .u16 (b : Int)] w fun e w' => e = .returned (st b 16) ∧ Below w.heap.size w w' := by
 go_enter Tryz.func56, Tryz.ntmps56
 go_wp2_with fail
 exact bodyPost_ret (v := st b 16) (by simp [results, Tryz.results56, go_sem]) rfl ⟨rfl, by go_grown⟩
theorem ports_any (b : Nat) (w : World) (h1 : b < 256) :
  Calls Tryz.prog 54 #[.int .u8 (b : Int)] w fun e w' => e = .returned (st b 8) ∧ Below w.heap.size w w' := by
 go_enter Tryz.func54, Tryz.ntmps54
 go_wp2_with fail
 exact bodyPost_ret (v := st b 8) (by simp [results, Tryz.results54, go_sem]) rfl ⟨rfl, by go_grown⟩
theorem shr_any (b n : Nat) (hb : b < 2 ^ 62) : Op.shift .shr .i64 (b : Int) .i64 (n : Int) = (pure (.int .i64 ((b >>> n : Nat) : Int)) : Sem Value) := by
 by_cases h : n <= 64
 ·rw [shift_shr _ _ _ _ (by omega) (by show (n : Int) <= 64; omega), Nat.shiftRight_eq_div_pow, Int.toNat_natCast]
  simp
 ·have hp : 2 ^ 64 <= 2 ^ n := Nat.pow_le_pow_right (by omega) (by omega)
  have e : b >>> n = 0 := by rw [Nat.shiftRight_eq_div_pow, Nat.div_eq_of_lt (by omega)]
  have hm : min n IntKind.i64.bits = 64 := by show min n 64 = 64; omega
  have hf : (b : Int).fdiv (2 ^ 64) = 0 := by
   rw [Int.fdiv_eq_ediv_of_nonneg _ (by decide), Int.ediv_eq_zero_of_lt (by omega) (by omega)]
  rw [e]
  simp only [Op.shift, Int.toNat_natCast, hm, hf]
  rw [if_neg (by omega)]
  rfl
theorem bits_one (q : Nat) (hq : q < 2 ^ 62) : (Go.bits .and .i64 (q : Int) 1 == 1) = (q % 2 == 1) := by
 have e1 : BitVec.ofInt 64 (q : Int) = BitVec.ofNat 64 q := by simp
 have hm : (BitVec.ofNat 64 q &&& BitVec.ofInt 64 1).toNat = q % 2 := by
  rw [show BitVec.ofInt 64 1 = BitVec.ofNat 64 1 by rfl, BitVec.toNat_and, BitVec.toNat_ofNat, BitVec.toNat_ofNat, Nat.mod_eq_of_lt (show q < 2 ^ 64 by omega)]
  exact Nat.and_one_is_mod q
 have e2 : Go.bits .and .i64 (q : Int) 1 = ((q % 2 : Nat) : Int) := by
  show IntKind.i64.wrap ((BitVec.ofInt 64 (q : Int) &&& BitVec.ofInt 64 1).toNat : Int) = _
  rw [e1, hm, IntWalk.i64_in _ (by omega)]
 rw [e2]
 have : q % 2 = 0 ∨ q % 2 = 1 := by omega
 rcases this with h | h <;> rw [h] <;> rfl
theorem has_any (b : Nat) (n z : Int) (w : World) (h1 : b < 65536) :
  Calls Tryz.prog 81 #[st b z, .int .i64 n] w fun e w' => e = .returned (.bool (hasB b n)) ∧ Below w.heap.size w w' := by
 by_cases hn : 0 <= n
 ·obtain ⟨k, rfl⟩ : ∃ k : Nat, n = k := ⟨n.toNat, by omega⟩
  have t : decide (0 <= (k : Int)) = true := by simp
  have hs := shr_any b k (by omega)
  have hle : b >>> k <= b := by rw [Nat.shiftRight_eq_div_pow]; exact Nat.div_le_self _ _
  have he : Hid ((Go.bits .and .i64 ((b >>> k : Nat) : Int) 1 == 1) = hasB b k) := by
   show _ = _
   rw [bits_one _ (by omega), hasB, t, Bool.true_and, Int.toNat_natCast, Nat.testBit, Nat.one_and_eq_mod_two]
   have : (b >>> k) % 2 = 0 ∨ (b >>> k) % 2 = 1 := by omega
   rcases this with h | h <;> rw [h] <;> rfl
  clear hn hle
  generalize b >>> k = q at *
  go_enter Tryz.func81, Tryz.ntmps81
  go_wp2_with fail
  go_ret
  refine ⟨?_, by go_grown⟩
  rw [<- he.out]
  simp
 ·have t : decide (0 <= n) = false := by simp; omega
  have e : hasB b n = false := by unfold hasB; rw [t, Bool.false_and]
  rw [e]
  go_enter Tryz.func81, Tryz.ntmps81
  go_wp2_with fail
  go_ret
  exact ⟨rfl, by go_grown⟩
structure Rl where
 ok : Bool
 a : Nat
 b : Nat
 c : Nat
 d : Nat
 ha : a < 65536
 hb : b < 65536
 hc : c < 256
 hd : d < 256
def allR (ok : Bool) : Rl := ⟨ok, 65535, 65535, 255, 255, by omega, by omega, by omega, by omega⟩
abbrev rcells (r : Rl) : List Value := [.bool r.ok, .int .u16 (r.a : Int), .int .u16 (r.b : Int), .int .u8 (r.c : Int), .int .u8 (r.d : Int)]
abbrev rv (r : Rl) : Value := .agg #[.bool r.ok, .int .u16 (r.a : Int), .int .u16 (r.b : Int), .int .u8 (r.c : Int), .int .u8 (r.d : Int)]
def cellsR (xs : List Rl) : List Value := xs.flatMap fun r => rcells r
theorem cellsR_cons (r : Rl) (l : List Rl) : cellsR (r :: l) = rcells r ++ cellsR l := rfl
theorem cellsR_length : ∀ xs : List Rl, (cellsR xs).length = xs.length * 5
 | [] => rfl
 | r :: l => by
   have := cellsR_length l
   rw [cellsR_cons, List.length_append, this]
   simp
   omega
theorem cellsR_at : ∀ (xs : List Rl) (k : Nat) (r : Rl), xs[k]? = some r ->
  (cellsR xs)[k * 5]? = some (.bool r.ok) ∧ (cellsR xs)[k * 5 + 1]? = some (.int .u16 (r.a : Int)) ∧ (cellsR xs)[k * 5 + 2]? = some (.int .u16 (r.b : Int)) ∧ (cellsR xs)[k * 5 + 3]? = some (.int .u8 (r.c : Int)) ∧ (cellsR xs)[k * 5 + 4]? = some (.int .u8 (r.d : Int))
 | [], k, r, h => by simp at h
 | x :: l, 0, r, h => by
   obtain rfl : x = r := by simpa using h
   exact ⟨rfl, rfl, rfl, rfl, rfl⟩
 | x :: l, k + 1, r, h => by
   have ih := cellsR_at l k r (by simpa using h)
   have sh : ∀ j, (cellsR (x :: l))[(k + 1) * 5 + j]? = (cellsR l)[k * 5 + j]? := fun j => by
    rw [cellsR_cons, List.getElem?_append_right (by simp; omega)]
    congr 1
    simp
    omega
   have s0 := sh 0
   simp only [Nat.add_zero] at s0
   rw [s0, sh 1, sh 2, sh 3, sh 4]
   exact ih
def RAt (w : World) (b o : Nat) (xs : List Rl) : Prop := ∀ j u, (cellsR xs)[j]? = some u -> w.cell? ⟨b, o + j, none⟩ = some u
def Rules (base : Nat) (w : World) (v : Value) (xs : List Rl) : Prop :=
 ∃ A cap, v = .slice A xs.length cap ∧ (A = none -> cap = 0) ∧ xs.length <= cap ∧ cap <= maxLen ∧ (xs ≠ [] -> ∃ b o, A = some ⟨b, o, none⟩ ∧ b < base ∧ RAt w b o xs)
theorem RAt.at {w : World} {b o : Nat} {xs : List Rl} (h : RAt w b o xs) {k : Nat} {r : Rl} (hk : xs[k]? = some r) :
  w.cell? ⟨b, o + k * 5, none⟩ = some (.bool r.ok) ∧ w.cell? ⟨b, o + k * 5 + 1, none⟩ = some (.int .u16 (r.a : Int)) ∧ w.cell? ⟨b, o + k * 5 + 2, none⟩ = some (.int .u16 (r.b : Int)) ∧ w.cell? ⟨b, o + k * 5 + 3, none⟩ = some (.int .u8 (r.c : Int)) ∧ w.cell? ⟨b, o + k * 5 + 4, none⟩ = some (.int .u8 (r.d : Int)) := by
 obtain ⟨h0, h1, h2, h3, h4⟩ := cellsR_at xs k r hk
 exact ⟨h _ _ h0, h _ _ h1, h _ _ h2, h _ _ h3, h _ _ h4⟩
theorem RAt.below {base : Nat} {w w' : World} {b o : Nat} {xs : List Rl} (h : RAt w b o xs) (hb : Below base w w') (hl : b < base) : RAt w' b o xs :=
 fun j u hj => (hb.cell (p := ⟨b, _, none⟩) hl).trans (h j u hj)
theorem Rules.below {base : Nat} {w w' : World} {v : Value} {xs : List Rl} (h : Rules base w v xs) (hb : Below base w w') : Rules base w' v xs := by
 obtain ⟨A, cap, e, h0, h1, h2, h3⟩ := h
 refine ⟨A, cap, e, h0, h1, h2, fun hn => ?_⟩
 obtain ⟨b, o, ea, hl, hr⟩ := h3 hn
 exact ⟨b, o, ea, hl, hr.below hb hl⟩
theorem Rules.mono {base base' : Nat} {w : World} {v : Value} {xs : List Rl} (h : Rules base w v xs) (hb : base <= base') : Rules base' w v xs := by
 obtain ⟨A, cap, e, h0, h1, h2, h3⟩ := h
 refine ⟨A, cap, e, h0, h1, h2, fun hn => ?_⟩
 obtain ⟨b, o, ea, hl, hr⟩ := h3 hn
 exact ⟨b, o, ea, by omega, hr⟩
end Go.Proofs.YtmcklkkkkigflaaGreat
namespace Go.Proofs.YtmcklkkkkigflaaGreat
open Go.RowKit Go.Shelf
attribute [local go_sem] Oper.semAt_some
abbrev IR := Nat × Rl
def encIR (x : IR) : Array Value := #[.int .i64 (x.1 : Int), rv x.2]
def came (xs : List Rl) (k : Nat) : List IR := (List.range k).map fun j => (xs.length - 1 - j, (xs[xs.length - 1 - j]?).getD (allR false))
theorem came_succ (xs : List Rl) (k : Nat) : came xs (k + 1) = came xs k ++ [(xs.length - 1 - k, (xs[xs.length - 1 - k]?).getD (allR false))] := by simp [came, List.range_succ]
theorem came_length (xs : List Rl) (k : Nat) : (came xs k).length = k := by simp [came]
def KpB (base Bs : Nat) (v : Value) (W W' : World) : Prop := Below base W W' ∧ (Boxed W Bs 26 v -> Boxed W' Bs 26 v)
theorem kpB_t {base Bs : Nat} {v : Value} {A B C : World} (h : KpB base Bs v A B) (k : KpB base Bs v B C) : KpB base Bs v A C := ⟨h.1.trans k.1, fun x => k.2 (h.2 x)⟩
theorem kpB_refl {base Bs : Nat} {v : Value} (A : World) : KpB base Bs v A A := ⟨Below.refl _ _, id⟩
theorem back1_in (F : Fence) (n : Nat) (hF : F.fn 52) (hro : F.round = none) (hn : 1 <= n) (l Bs base b o cap : Nat) (xs : List Rl) (hlen : xs.length <= 1099511627776) (hb : b < base) (J Jx : List IR -> World -> Prop)
  (hY : ∀ pre x W, J pre W -> pre.length < xs.length -> YieldAt F (n - 1) Tryz.prog l (encIR x) W fun e W' =>
    (e = .returned (.bool true) ∧ J (pre ++ [x]) W' ∧ KpB base Bs (.slice (some ⟨b, o, none⟩) xs.length cap) W W') ∨ (e = .returned (.bool false) ∧ Jx (pre ++ [x]) W'))
  (W : World) (hBs : Boxed W Bs 26 (.slice (some ⟨b, o, none⟩) xs.length cap)) (hr : RAt W b o xs) (h0 : J [] W) :
  CallsIn F n Tryz.prog 52 #[.func (.yield l) #[] #[], .pointer (some ⟨Bs, 0, none⟩)] W fun e W' => (∃ v, e = .returned v) ∧
   ((∃ ys, ys = came xs xs.length ∧ J ys W') ∨ (∃ pre, (∃ k, k <= xs.length ∧ pre = came xs k) ∧ Jx pre W')) := by
 have c0 := hBs.cell
 refine callsIn_of_wp Tryz.func52 rfl hF ?_ hro
 simp only [Tryz.ntmps52, List.size_toArray, List.length_cons, List.length_nil, Nat.reduceAdd, Nat.reduceSub, Array.replicate_succ, Array.replicate_zero, List.push_toArray, List.append_toArray, List.nil_append, List.cons_append]
 gi_wp2
 gi_loopw [3] (fun i wr => ∃ (m k : Nat) (I : Int), m + k = xs.length ∧ i = .int .i64 I ∧ I = (m : Int) - 1 ∧ J (came xs k) wr ∧ KpB base Bs (.slice (some ⟨b, o, none⟩) xs.length cap) W wr)
  (fun i _ => (intOf i + 1).toNat)
 case atStart => exact ⟨xs.length, 0, _, by omega, rfl, rfl, h0, kpB_refl _⟩
 case round =>
  obtain ⟨m, k, I, hmk, rfl, hI, hJs, hK⟩ := hrel
  have c1 := (hK.2 hBs).cell
  cases m with
  | zero =>
    obtain rfl : k = xs.length := by omega
    obtain rfl : I = -1 := by omega
    clear hI
    gi_wp2
    go_end0
    exact ⟨⟨_, rfl⟩, .inl ⟨_, rfl, hJs⟩⟩
  | succ j =>
    have hj : j < xs.length := by omega
    obtain ⟨r, hxj⟩ : ∃ r, xs[j]? = some r := ⟨_, List.getElem?_eq_getElem hj⟩
    obtain ⟨d0, d1, d2, d3, d4⟩ := (hr.below hK.1 hb).at hxj
    have hce : came xs (k + 1) = came xs k ++ [(j, r)] := by
     rw [came_succ, show xs.length - 1 - k = j by omega, hxj]
     rfl
    obtain ⟨fn, tmps, assign, body, hy, hR⟩ := hY _ (j, r) wr hJs (by rw [came_length]; omega)
    simp only [encIR] at hy
    obtain rfl : I = (j : Int) := by omega
    clear hI
    gi_wp2
    refine hR.mono ?_
    rintro e W3 (⟨rfl, hJ3, hk3⟩ | ⟨rfl, hJx3⟩)
    ·gi_wp2
     go_roundw
     case rel => exact ⟨j, k + 1, _, by omega, rfl, rfl, by rw [hce]; exact hJ3, kpB_t hK hk3⟩
     case measure => simp [intOf]
    ·gi_wp2
     refine bodyPost_ret (results_none rfl _ _ _) rfl ?_
     exact ⟨⟨_, rfl⟩, .inr ⟨_, ⟨k + 1, by omega, hce.symm⟩, hJx3⟩⟩
theorem back0_in (F : Fence) (n : Nat) (hF : F.fn 52) (hro : F.round = none) (l Bs : Nat) (A : Option Addr) (cap : Nat) (J : List IR -> World -> Prop) (W : World) (hBs : Boxed W Bs 26 (.slice A 0 cap)) (h0 : J [] W) :
  CallsIn F n Tryz.prog 52 #[.func (.yield l) #[] #[], .pointer (some ⟨Bs, 0, none⟩)] W fun e W' => (∃ v, e = .returned v) ∧ J [] W' := by
 have c0 := hBs.cell
 refine callsIn_of_wp Tryz.func52 rfl hF ?_ hro
 simp only [Tryz.ntmps52, List.size_toArray, List.length_cons, List.length_nil, Nat.reduceAdd, Nat.reduceSub, Array.replicate_succ, Array.replicate_zero, List.push_toArray, List.append_toArray, List.nil_append, List.cons_append]
 gi_wp2
 gi_loopw [3] (fun i wr => i = .int .i64 (-1) ∧ J [] wr) (fun _ _ => 0)
 case atStart => exact ⟨rfl, h0⟩
 case round =>
  obtain ⟨rfl, hJs⟩ := hrel
  gi_wp2
  go_end0
  exact ⟨⟨_, rfl⟩, hJs⟩
theorem back_in (F : Fence) (n : Nat) (hF : F.fn 36) (hro : F.round = none) (A : Option Addr) (len cap : Nat) (w : World) :
  CallsIn F n Tryz.prog 36 #[.slice A len cap] w fun e w' => e = .returned (.func (.func 52) #[] #[.pointer (some ⟨w.heap.size, 0, none⟩)]) ∧ w' = w.alloc (.cells #[.slice A len cap] 26) := by
 refine callsIn_of_wp Tryz.func36 rfl hF ?_ hro
 simp only [Tryz.ntmps36, List.size_toArray, List.length_cons, List.length_nil, Nat.reduceAdd, Nat.reduceSub, Array.replicate_succ, Array.replicate_zero, List.push_toArray, List.append_toArray, List.nil_append, List.cons_append]
 gi_wp2
 go_ret
 exact ⟨rfl, rfl⟩
theorem back_stops (F : Fence) (n : Nat) (hF : F.fn 52) (hro : F.round = none) (hn : 1 <= n) (Bs base : Nat) (v : Value) (xs : List Rl) (hlen : xs.length <= 1099511627776) (w : World) (hbase : base <= w.heap.size)
  (hB : Boxed w Bs 26 v) (hR : Rules base w v xs) :
  SeqStopsK F n Tryz.prog 52 #[.pointer (some ⟨Bs, 0, none⟩)] encIR (KpB base Bs v) (fun ys => ys = came xs xs.length)
   (fun pre => ∃ k, k <= xs.length ∧ pre = came xs k) xs.length w := fun l J Jx W hW _ _ hY h0 => by
 have hB' : Boxed W Bs 26 v := (hW.block Bs hB.lt).trans hB
 obtain ⟨A, cap, rfl, h1, h2, h3, h4⟩ := hR.below (hW.mono hbase)
 by_cases hx : xs = []
 ·subst hx
  exact (back0_in F n hF hro l Bs A cap J W hB' h0).mono fun e W' ⟨he, hj⟩ => ⟨he, .inl ⟨_, rfl, hj⟩⟩
 ·obtain ⟨b, o, rfl, hb, hr⟩ := h4 hx
  exact back1_in F n hF hro hn l Bs base b o cap xs hlen hb J Jx hY W hB' hr h0
end Go.Proofs.YtmcklkkkkigflaaGreat
namespace Go.Proofs.YtmcklkkkkigflaaGreat
open Go.RowKit Go.Maps
structure Hd (p : Prop) : Prop where
 out : p
def envOf (vars b : Nat) : Env := fun i => b.testBit (vars - 1 - i)
theorem intBits_and (a b : Nat) (ha : a < 9223372036854775808) (hb : b < 9223372036854775808) : Go.bits .and .i64 (a : Int) (b : Int) = ((a &&& b : Nat) : Int) := by
 have e1 : BitVec.ofInt 64 (a : Int) = BitVec.ofNat 64 a := by simp
 have e2 : BitVec.ofInt 64 (b : Int) = BitVec.ofNat 64 b := by simp
 have hle : a &&& b <= a := Nat.and_le_left
 have hm : (BitVec.ofNat 64 a &&& BitVec.ofNat 64 b).toNat = a &&& b := by
  simp [BitVec.toNat_and, Nat.mod_eq_of_lt (show a < 18446744073709551616 by omega), Nat.mod_eq_of_lt (show b < 18446744073709551616 by omega)]
 show IntKind.i64.wrap ((BitVec.ofInt 64 (a : Int) &&& BitVec.ofInt 64 (b : Int)).toNat : Int) = _
 rw [e1, e2, hm, IntWalk.i64_in _ (by omega)]
section
variable {base a M vars most : Nat} {w : World} {ns : List Nd}
theorem Ar.kalloc' {base a M vars most : Nat} {w : World} {ns : List Nd} (h : Ar base a M vars most w ns) (o : Obj) : Kp (ca base a M vars most) w (w.alloc o) :=
 ⟨rfl, rfl, rfl, by simp, fun i hi _ _ => Below.heap_alloc w o i hi, Or.inl (rowOf_same (Below.heap_alloc w o _ h.lta)), fun _ _ => cellB (Below.heap_alloc w o _ h.lta)⟩
end
end Go.Proofs.YtmcklkkkkigflaaGreat
