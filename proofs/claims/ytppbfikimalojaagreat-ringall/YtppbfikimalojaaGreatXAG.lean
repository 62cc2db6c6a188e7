/-
  XAG.
-/
import Derived.Test.YtppbfikimalojaaGreatXAF
import Derived.Test.YtppbfikimalojaaGreatProg
import Derived.WalkKit
import Derived.OrdersIn
import Derived.RangeFuncCalls
import Derived.Deep.RegionHeld
import Derived.Test.YtppbfikimalojaaGreatXLy
import Derived.Test.YtppbfikimalojaaGreatXAA
import Derived.Test.YtppbfikimalojaaGreatXAD
import Derived.Deep.DeepCutAuto
set_option maxHeartbeats 8000000
set_option maxRecDepth 100000
namespace Go.Proofs.YtppbfikimalojaaGreat
open Go.RowKit Go.Maps
def phi (sa sb sc sd : Nat) (x : Env) : Bool := sel 4 sa 0 x && (sel 4 sb 4 x && (sel 3 sc 8 x && (sel 3 sd 11 x && true)))
theorem sel_zero (k first : Nat) (x : Env) : sel k 0 first x = false := by rw [sel_val]; simp
section
variable {base a M vars most : Nat} {w w' : World} {ns : List Nd}
theorem Loc.four {C : Cfg} {w : World} {i : Nat} {x y z u : Value} {t : TypeId} (h : Loc C w i #[x, y, z, u] t) : w.cell? ⟨i, 0, none⟩ = some x ∧ w.cell? ⟨i, 1, none⟩ = some y ∧ w.cell? ⟨i, 2, none⟩ = some z ∧ w.cell? ⟨i, 3, none⟩ = some u :=
 ⟨by rw [cell_of_row w i 0 _ _ _ h.blk]; rfl, by rw [cell_of_row w i 1 _ _ _ h.blk]; rfl, by rw [cell_of_row w i 2 _ _ _ h.blk]; rfl, by rw [cell_of_row w i 3 _ _ _ h.blk]; rfl⟩
theorem build_none (h : Ar base a M vars most w ns) (hv : 14 <= vars) (sa sb sc sd : Nat) (hz : sa = 0 ∨ sb = 0 ∨ sc = 0 ∨ sd = 0) :
  Calls Tryz.prog 68 #[.pointer (some ⟨a, 0, none⟩), mt sa sb sc sd] w (MkPost base a M vars most w ns 44 0 (phi sa sb sc sd)) := by
 have l2 := h.wf.len
 have L0 := h.loc #[.int .u16 (sa : Int), .int .u16 (sb : Int), .int .u8 (sc : Int), .int .u8 (sd : Int)] 32
 have A0 := h.alloc (.cells #[.int .u16 (sa : Int), .int .u16 (sb : Int), .int .u8 (sc : Int), .int .u8 (sd : Int)] 32)
 have K0 := Ar.kalloc' h (.cells #[.int .u16 (sa : Int), .int .u16 (sb : Int), .int .u8 (sc : Int), .int .u8 (sd : Int)] 32)
 have t1 : decide ((vars : Int) < 14) = false := by simp; omega
 have fin : MkPost base a M vars most w ns 44 0 (phi sa sb sc sd) (.returned (.tuple #[.int .i64 0, .int .i64 0])) (w.alloc (.cells #[.int .u16 (sa : Int), .int .u16 (sb : Int), .int .u8 (sc : Int), .int .u8 (sd : Int)] 32)) :=
  ⟨ns, A0, K0, Ext.refl _, by omega, Or.inl ⟨0, rfl, by omega, Nat.zero_le _, fun x => by
   rw [ev0]
   unfold phi
   rcases hz with rfl | rfl | rfl | rfl <;> simp [sel_zero]⟩⟩
 clear L0 K0
 by_cases za : sa = 0
 ·subst za
  go_enter Tryz.func68, Tryz.ntmps68
  go_wp2_with fail
  refine (vars_any A0).mono ?_
  rintro e w1 ⟨rfl, rfl⟩
  go_wp2_with fail
  go_ret2
  exact fin
 by_cases zb : sb = 0
 ·subst zb
  go_enter Tryz.func68, Tryz.ntmps68
  go_wp2_with fail
  refine (vars_any A0).mono ?_
  rintro e w1 ⟨rfl, rfl⟩
  go_wp2_with fail
  go_ret2
  exact fin
 by_cases zc : sc = 0
 ·subst zc
  go_enter Tryz.func68, Tryz.ntmps68
  go_wp2_with fail
  refine (vars_any A0).mono ?_
  rintro e w1 ⟨rfl, rfl⟩
  go_wp2_with fail
  go_ret2
  exact fin
 ·obtain rfl : sd = 0 := by omega
  go_enter Tryz.func68, Tryz.ntmps68
  go_wp2_with fail
  refine (vars_any A0).mono ?_
  rintro e w1 ⟨rfl, rfl⟩
  go_wp2_with fail
  go_ret2
  exact fin
theorem build_some (h : Ar base a M vars most w ns) (hv : 14 <= vars) (sa sb sc sd : Nat) (ha : sa < 65536) (hb : sb < 65536) (hc : sc < 256) (hd : sd < 256) (za : sa ≠ 0) (zb : sb ≠ 0) (zc : sc ≠ 0) (zd : sd ≠ 0) :
  Calls Tryz.prog 68 #[.pointer (some ⟨a, 0, none⟩), mt sa sb sc sd] w (MkPost base a M vars most w ns 44 0 (phi sa sb sc sd)) := by
 have l2 := h.wf.len
 have wf := h.wf
 have n1 : nv ns 1 = vars := by rw [nv, h.wf.n1]
 have L0 := h.loc #[.int .u16 (sa : Int), .int .u16 (sb : Int), .int .u8 (sc : Int), .int .u8 (sd : Int)] 32
 have A0 := h.alloc (.cells #[.int .u16 (sa : Int), .int .u16 (sb : Int), .int .u8 (sc : Int), .int .u8 (sd : Int)] 32)
 have K0 := Ar.kalloc' h (.cells #[.int .u16 (sa : Int), .int .u16 (sb : Int), .int .u8 (sc : Int), .int .u8 (sd : Int)] 32)
 have t1 : decide ((vars : Int) < 14) = false := by simp; omega
 have e1 : ((sa : Int) == 0) = false := by simp; omega
 have e2 : ((sb : Int) == 0) = false := by simp; omega
 have e3 : ((sc : Int) == 0) = false := by simp; omega
 have e4 : ((sd : Int) == 0) = false := by simp; omega
 have pA : Go.RowKit.Hid (∀ w, Calls Tryz.prog 128 #[.int .u16 (sa : Int)] w fun e w' => e = .returned (st sa 16) ∧ Below w.heap.size w w') := fun w => addrs_any sa w ha
 have pB : Go.RowKit.Hid (∀ w, Calls Tryz.prog 128 #[.int .u16 (sb : Int)] w fun e w' => e = .returned (st sb 16) ∧ Below w.heap.size w w') := fun w => addrs_any sb w hb
 have pC : Go.RowKit.Hid (∀ w, Calls Tryz.prog 126 #[.int .u8 (sc : Int)] w fun e w' => e = .returned (st sc 8) ∧ Below w.heap.size w w') := fun w => ports_any sc w hc
 have pD : Go.RowKit.Hid (∀ w, Calls Tryz.prog 126 #[.int .u8 (sd : Int)] w fun e w' => e = .returned (st sd 8) ∧ Below w.heap.size w w') := fun w => ports_any sd w hd
 have bD : Go.RowKit.Hid (∀ (w' : World) (ns' : List Nd) (rest : Nat), Ar base a M vars most w' ns' -> rest < ns'.length -> 11 + 3 <= nv ns' rest -> Calls Tryz.prog 127 #[st (sd : Int) 8, .pointer (some ⟨a, 0, none⟩), .int .i64 11, .int .i64 (rest : Int)] w' (MkPost base a M vars most w' ns' 7 11 fun x => sel 3 sd 11 x && ev ns' rest x)) := fun w' ns' rest hA h1 h2 => build_8 hA (first := 11) hd (by omega) h1 h2
 have bC : Go.RowKit.Hid (∀ (w' : World) (ns' : List Nd) (rest : Nat), Ar base a M vars most w' ns' -> rest < ns'.length -> 8 + 3 <= nv ns' rest -> Calls Tryz.prog 127 #[st (sc : Int) 8, .pointer (some ⟨a, 0, none⟩), .int .i64 8, .int .i64 (rest : Int)] w' (MkPost base a M vars most w' ns' 7 8 fun x => sel 3 sc 8 x && ev ns' rest x)) := fun w' ns' rest hA h1 h2 => build_8 hA (first := 8) hc (by omega) h1 h2
 have bB : Go.RowKit.Hid (∀ (w' : World) (ns' : List Nd) (rest : Nat), Ar base a M vars most w' ns' -> rest < ns'.length -> 4 + 4 <= nv ns' rest -> Calls Tryz.prog 127 #[st (sb : Int) 16, .pointer (some ⟨a, 0, none⟩), .int .i64 4, .int .i64 (rest : Int)] w' (MkPost base a M vars most w' ns' 15 4 fun x => sel 4 sb 4 x && ev ns' rest x)) := fun w' ns' rest hA h1 h2 => build_16 hA (first := 4) hb (by omega) h1 h2
 have bA : Go.RowKit.Hid (∀ (w' : World) (ns' : List Nd) (rest : Nat), Ar base a M vars most w' ns' -> rest < ns'.length -> 0 + 4 <= nv ns' rest -> Calls Tryz.prog 127 #[st (sa : Int) 16, .pointer (some ⟨a, 0, none⟩), .int .i64 0, .int .i64 (rest : Int)] w' (MkPost base a M vars most w' ns' 15 0 fun x => sel 4 sa 0 x && ev ns' rest x)) := fun w' ns' rest hA h1 h2 => build_16 hA (first := 0) ha (by omega) h1 h2
 obtain ⟨c0, c1, c2, c3⟩ := L0.four
 clear ha hb hc hd za zb zc zd
 go_enter Tryz.func68, Tryz.ntmps68
 go_wp2_with fail
 refine (vars_any A0).mono ?_
 rintro e w0 ⟨rfl, hw0⟩
 subst hw0
 go_wp2_with fail
 refine (pD.out _).mono ?_
 rintro e u1 ⟨rfl, hb1⟩
 have B1 := A0.below hb1
 have M1 := Loc.below L0 A0 hb1
 have J1 := K0.trans (A0.kbelow hb1)
 clear c0 c1 c2 c3
 clear hb1 A0 L0 K0
 go_wp2_with fail
 refine (bD.out _ ns 1 B1 (by omega) (by rw [n1]; omega)).mono ?_
 rintro e x1 hp1
 obtain ⟨ns1, v1, er1, rfl, A1, K1, X1, l1, d1⟩ := hp1.pair
 have wf1 := A1.wf
 have KK1 := J1.trans K1
 have L1 := M1.kp K1
 obtain ⟨c0, c1, c2, c3⟩ := L1.four
 have XX1 := X1
 clear hp1 B1 M1 J1 K1
 rcases d1.out with ⟨rfl, f1, rfl, lt1, va1, ev1x⟩ | ⟨rfl, rfl, full1⟩
 ·have E1 : Go.RowKit.Hid (∀ x, ev ns1 f1 x = (sel 3 sd 11 x && true)) := fun x => by rw [ev1x x, ev1]
  clear ev1x d1
  go_wp2_with fail
  refine (pC.out _).mono ?_
  rintro e u2 ⟨rfl, hb2⟩
  have B2 := A1.below hb2
  have M2 := Loc.below L1 A1 hb2
  have J2 := KK1.trans (A1.kbelow hb2)
  clear c0 c1 c2 c3
  clear hb2 A1 L1 KK1
  go_wp2_with fail
  refine (bC.out _ ns1 f1 B2 lt1 (by omega)).mono ?_
  rintro e x2 hp2
  obtain ⟨ns2, v2, er2, rfl, A2, K2, X2, l2, d2⟩ := hp2.pair
  have wf2 := A2.wf
  have KK2 := J2.trans K2
  have L2 := M2.kp K2
  obtain ⟨c0, c1, c2, c3⟩ := L2.four
  have XX2 := (XX1.trans X2)
  clear hp2 B2 M2 J2 K2
  rcases d2.out with ⟨rfl, f2, rfl, lt2, va2, ev2x⟩ | ⟨rfl, rfl, full2⟩
  ·have E2 : Go.RowKit.Hid (∀ x, ev ns2 f2 x = (sel 3 sc 8 x && (sel 3 sd 11 x && true))) := fun x => by rw [ev2x x, E1.out x]
   clear ev2x d2
   go_wp2_with fail
   refine (pB.out _).mono ?_
   rintro e u3 ⟨rfl, hb3⟩
   have B3 := A2.below hb3
   have M3 := Loc.below L2 A2 hb3
   have J3 := KK2.trans (A2.kbelow hb3)
   clear c0 c1 c2 c3
   clear hb3 A2 L2 KK2
   go_wp2_with fail
   refine (bB.out _ ns2 f2 B3 lt2 (by omega)).mono ?_
   rintro e x3 hp3
   obtain ⟨ns3, v3, er3, rfl, A3, K3, X3, l3, d3⟩ := hp3.pair
   have wf3 := A3.wf
   have KK3 := J3.trans K3
   have L3 := M3.kp K3
   obtain ⟨c0, c1, c2, c3⟩ := L3.four
   have XX3 := (XX2.trans X3)
   clear hp3 B3 M3 J3 K3
   rcases d3.out with ⟨rfl, f3, rfl, lt3, va3, ev3x⟩ | ⟨rfl, rfl, full3⟩
   ·have E3 : Go.RowKit.Hid (∀ x, ev ns3 f3 x = (sel 4 sb 4 x && (sel 3 sc 8 x && (sel 3 sd 11 x && true)))) := fun x => by rw [ev3x x, E2.out x]
    clear ev3x d3
    go_wp2_with fail
    refine (pA.out _).mono ?_
    rintro e u4 ⟨rfl, hb4⟩
    have B4 := A3.below hb4
    have M4 := Loc.below L3 A3 hb4
    have J4 := KK3.trans (A3.kbelow hb4)
    clear c0 c1 c2 c3
    clear hb4 A3 L3 KK3
    go_wp2_with fail
    refine (bA.out _ ns3 f3 B4 lt3 (by omega)).mono ?_
    rintro e x4 hp4
    obtain ⟨ns4, v4, er4, rfl, A4, K4, X4, l4, d4⟩ := hp4.pair
    have wf4 := A4.wf
    have KK4 := J4.trans K4
    have L4 := M4.kp K4
    obtain ⟨c0, c1, c2, c3⟩ := L4.four
    have XX4 := (XX3.trans X4)
    clear hp4 B4 M4 J4 K4
    rcases d4.out with ⟨rfl, f4, rfl, lt4, va4, ev4x⟩ | ⟨rfl, rfl, full4⟩
    ·have E4 : Go.RowKit.Hid (∀ x, ev ns4 f4 x = (sel 4 sa 0 x && (sel 4 sb 4 x && (sel 3 sc 8 x && (sel 3 sd 11 x && true))))) := fun x => by rw [ev4x x, E3.out x]
     clear ev4x d4
     have fin : MkPost base a M vars most w ns 44 0 (phi sa sb sc sd) (.returned (.tuple #[.int .i64 (f4 : Int), .int .i64 0])) x4 :=
      ⟨ns4, A4, KK4, XX4, by omega, Or.inl ⟨f4, rfl, lt4, Nat.zero_le _, E4.out⟩⟩
     clear A4 KK4 L4 c0 c1 c2 c3
     go_wp2_with fail
     go_ret2
     exact fin
    ·have fin : MkPost base a M vars most w ns 44 0 (phi sa sb sc sd) (.returned (.tuple #[.int .i64 0, .int .i64 6])) x4 :=
      ⟨ns4, A4, KK4, XX4, by omega, Or.inr ⟨rfl, full4⟩⟩
     clear d4 A4 KK4 L4 c0 c1 c2 c3
     go_wp2_with fail
     go_ret2
     exact fin
   ·have fin : MkPost base a M vars most w ns 44 0 (phi sa sb sc sd) (.returned (.tuple #[.int .i64 0, .int .i64 6])) x3 :=
     ⟨ns3, A3, KK3, XX3, by omega, Or.inr ⟨rfl, full3⟩⟩
    clear d3 A3 KK3 L3 c0 c1 c2 c3
    go_wp2_with fail
    go_ret2
    exact fin
  ·have fin : MkPost base a M vars most w ns 44 0 (phi sa sb sc sd) (.returned (.tuple #[.int .i64 0, .int .i64 6])) x2 :=
    ⟨ns2, A2, KK2, XX2, by omega, Or.inr ⟨rfl, full2⟩⟩
   clear d2 A2 KK2 L2 c0 c1 c2 c3
   go_wp2_with fail
   go_ret2
   exact fin
 ·have fin : MkPost base a M vars most w ns 44 0 (phi sa sb sc sd) (.returned (.tuple #[.int .i64 0, .int .i64 6])) x1 :=
   ⟨ns1, A1, KK1, XX1, by omega, Or.inr ⟨rfl, full1⟩⟩
  clear d1 A1 KK1 L1 c0 c1 c2 c3
  go_wp2_with fail
  go_ret2
  exact fin
theorem build_match (h : Ar base a M vars most w ns) (hv : 14 <= vars) (sa sb sc sd : Nat) (ha : sa < 65536) (hb : sb < 65536) (hc : sc < 256) (hd : sd < 256) :
  Calls Tryz.prog 68 #[.pointer (some ⟨a, 0, none⟩), mt sa sb sc sd] w (MkPost base a M vars most w ns 44 0 (phi sa sb sc sd)) := by
 by_cases hz : sa = 0 ∨ sb = 0 ∨ sc = 0 ∨ sd = 0
 ·exact build_none h hv sa sb sc sd hz
 ·exact build_some h hv sa sb sc sd ha hb hc hd (by omega) (by omega) (by omega) (by omega)
end
end Go.Proofs.YtppbfikimalojaaGreat
namespace Go.Proofs.YtppbfikimalojaaGreat
open Go
theorem wpIn_of_wp {P : Program} {o : Oper} {a : Act} {w : World} {K : Act -> World -> Prop} {Q : Exit -> Act -> World -> Prop} (l n : Nat) (hd : ∀ c, o.op ≠ .defer c) (h : o.wp P a w K Q) : o.wpIn (Fence.wide.inRound l) n P a w K Q := by
 refine ⟨fun _ _ => trivial, ?_⟩
 rw [Oper.semAt_eq _ _ _ hd]
 unfold Oper.wp at h
 generalize (execOp a.eval o).run P w = r at h ⊢
 cases r with
 | ok x w' =>
   cases x with
   | value v => exact h
   | skip => exact h
   | defer d => exact h
   | enter f args => exact ⟨(fun e => by cases e), CallsIn.inRound l (callsIn_wide.2 h)⟩
   | row row args => exact ⟨(fun e => by cases e), fun c cs _ => let ⟨v, w'', r, s⟩ := h c cs; ⟨v, w'', r, stepsIn_wide.2 s⟩⟩
   | _ => exact h.elim
 | halt x w' => cases x <;> exact h
theorem wpAnyIn_of {P : Program} {md : Region.Mode} {ops : Array Oper} {Q : Exit -> Act -> World -> Prop} (l n : Nat) (hd : ∀ (i : Nat) (o : Oper), ops[i]? = some o -> ∀ c, o.op ≠ .defer c) (hQ : ¬ LetsOut Q) : ∀ (fuel : Nat) (listed : Array Bool) (a : Act) (w : World), wpAny P md ops Q fuel listed a w -> wpAnyIn (Fence.wide.inRound l) n P md ops Q fuel listed a w := by
 intro fuel
 induction fuel with
 | zero => exact fun _ _ _ h => h
 | succ fuel ih =>
   intro listed a w h
   refine ⟨h.1, fun i hi => ?_⟩
   have hh := h.2 i hi
   unfold wpOp at hh
   unfold wpOpIn
   cases ho : ops[i]? with
   | none => rw [ho] at hh; exact ih _ _ _ hh
   | some o =>
     rw [ho] at hh
     simp only at hh ⊢
     split
     ·rename_i hw
      rw [if_pos hw] at hh
      rcases hh with hh | ⟨_, hh⟩
      ·exact Oper.wpIn_mono (fun a w hk => ih _ _ _ hk) (wpIn_of_wp l n (hd i o ho) hh)
      ·exact absurd hh hQ
     ·rename_i hw
      rw [if_neg hw] at hh
      exact ⟨fun _ _ => trivial, ih _ _ _ hh⟩
def noDefer (ops : Array Oper) : Bool := ops.all fun o => match o.op with | .defer _ => false | _ => true
theorem noDefer_spec {ops : Array Oper} (h : noDefer ops = true) (i : Nat) (o : Oper) (ho : ops[i]? = some o) : ∀ c, o.op ≠ .defer c := by
 intro c e
 obtain ⟨hi, rfl⟩ := Array.getElem?_eq_some_iff.1 ho
 have := (Array.all_eq_true.1 h) i hi
 rw [e] at this
 cases this
theorem region_held_in {P : Program} {ops : Array Oper} {Q : Exit -> Act -> World -> Prop} {S : World -> Prop} {id l n : Nat} {a : Act} {w : World} (hm : P.follows .mixedOrders = true) (hd : noDefer ops = true) (hQ : ¬ LetsOut Q) (hS : S w.drew)
  (h : S w.drew -> wpAnyH P .any ops Q S ops.size (Array.replicate ops.size false) a w.drew) : (Code.region id ops true).wpIn (Fence.wide.inRound l) n P Q a w :=
 wpIn_region_any hm (wpAnyIn_of l n (noDefer_spec hd) hQ _ _ _ _ (wpAny_of_held _ _ _ _ (h hS)))
end Go.Proofs.YtppbfikimalojaaGreat
namespace Go.Proofs.YtppbfikimalojaaGreat
open Go.RowKit Go.Shelf Go.Maps
attribute [local go_sem] Oper.semAt_some
def letsF : List Rl -> Env -> Bool
 | [], _ => false
 | r :: l, x => if phi r.a r.b r.c r.d x then r.ok else letsF l x
theorem came_all (xs : List Rl) : ((came xs xs.length).map Prod.snd).reverse = xs := by
 apply List.ext_getElem
 ·simp [came]
 ·intro i h1 h2
  simp [came]
  rw [show xs.length - 1 - (xs.length - 1 - i) = i by omega, List.getElem?_eq_getElem h2]
  rfl
theorem letsF_snoc (pre : List IR) (x : IR) (e : Env) : letsF ((pre ++ [x]).map Prod.snd).reverse e = if phi x.2.a x.2.b x.2.c x.2.d e then x.2.ok else letsF (pre.map Prod.snd).reverse e := by
 simp [letsF]
theorem answer_r (r : Rl) (w : World) : Calls Tryz.prog 222 #[rv r] w fun e w' => e = .returned (.int .i64 ((if r.ok then 1 else 0 : Nat) : Int)) ∧ Below w.heap.size w w' := by
 have D0 := Below.alloc' (Below.refl w.heap.size w) (.cells #[.bool r.ok, .int .u16 (r.a : Int), .int .u16 (r.b : Int), .int .u8 (r.c : Int), .int .u8 (r.d : Int)] 212)
 obtain ⟨ok, ra, rb, rc, rd, _, _, _, _⟩ := r
 cases ok
 ·go_enter Tryz.func222, Tryz.ntmps222
  go_wp2_with fail
  go_ret
  exact ⟨rfl, D0⟩
 ·go_enter Tryz.func222, Tryz.ntmps222
  go_wp2_with fail
  go_ret
  exact ⟨rfl, D0⟩
theorem answer_q (r : Rl) (w : World) : Calls Tryz.prog 222 #[rv r] w fun e w' => ∃ q : Nat, e = .returned (.int .i64 (q : Int)) ∧ Hid (q = if r.ok then 1 else 0) ∧ Below w.heap.size w w' :=
 (answer_r r w).mono fun _ _ ⟨h1, h2⟩ => ⟨_, h1, rfl, h2⟩
def Box5 (W : World) (B : Nat) (r : Rl) : Prop := W.heap[B]? = some (.cells #[.bool r.ok, .int .u16 (r.a : Int), .int .u16 (r.b : Int), .int .u8 (r.c : Int), .int .u8 (r.d : Int)] 212 (0, 0))
theorem Box5.cells {W : World} {B : Nat} {r : Rl} (h : Box5 W B r) : W.cell? ⟨B, 0, none⟩ = some (.bool r.ok) ∧ W.cell? ⟨B, 1, none⟩ = some (.int .u16 (r.a : Int)) ∧ W.cell? ⟨B, 2, none⟩ = some (.int .u16 (r.b : Int)) ∧ W.cell? ⟨B, 3, none⟩ = some (.int .u8 (r.c : Int)) ∧ W.cell? ⟨B, 4, none⟩ = some (.int .u8 (r.d : Int)) := by
 refine ⟨?_, ?_, ?_, ?_, ?_⟩ <;> (rw [cell_of_row W B _ _ _ _ h]; rfl)
section
variable {base a M : Nat} {W W' : World} {ns : List Nd}
theorem Ar.book {vars most B : Nat} {row : Option Nat} (h : Ar base a M vars most W ns) (hg : W.grownBy W' row) (hr : ∀ r, row = some r -> B <= r ∧ ∃ o : Obj, W.heap[r]? = some o ∧ o.isCells = false) (hM : M < B) : Ar base a M vars most W' ns := by
 obtain ⟨cur, hrow, _, rl⟩ := h.row
 obtain ⟨g, cap, cs, t, hb, _⟩ := h.blk
 refine h.same (hg.block a h.lta (fun e => ?_)) (hg.block M h.ltM (fun e => ?_)) (hg.block _ rl (fun e => ?_))
 ·obtain ⟨_, o, ho, hc⟩ := hr a e.symm
  rw [hb] at ho
  cases ho
  cases hc
 ·have := (hr M e.symm).1
  omega
 ·obtain ⟨_, o, ho, hc⟩ := hr _ e.symm
  rw [hrow] at ho
  cases ho
  cases hc
theorem Ar.outBox {vars most i : Nat} {cs : Array Value} {t : TypeId} (h : Ar base a M vars most W ns) (hb : W.heap[i]? = some (.cells cs t (0, 0))) (h1 : t ≠ 82 ∧ t ≠ 85) (h2 : t ≠ 143) : Loc (ca base a M vars most) W i cs t := by
 refine ⟨⟨(Array.getElem?_eq_some_iff.1 hb).1, ?_, fun e => ?_⟩, hb⟩
 ·have na : i ≠ a := fun e => by
   obtain ⟨g, cap, cs, t, ha, hc, _⟩ := h.blk
   rw [e, ha] at hb
   simp only [Option.some.injEq, Obj.cells.injEq] at hb
   rcases hc.ty with e1 | e1
   ·exact h1.1 (hb.2.1.symm.trans e1)
   ·exact h1.2 (hb.2.1.symm.trans e1)
  rintro (e | e | e | e | e | e)
  ·exact na e
  ·exact na e
  ·have e' : i = M := e
   obtain ⟨num, hm, _⟩ := h.map
   obtain ⟨es, clock, hM⟩ := hm.isMap
   rw [e', hM] at hb
   simp at hb
  ·cases e
  ·cases e
  ·cases e
 ·have e' : i = rowOf W a := e
  obtain ⟨cur, hrow, _⟩ := h.row
  rw [e', hrow] at hb
  simp only [Option.some.injEq, Obj.cells.injEq] at hb
  exact h2 hb.2.1.symm
theorem Kp.keepsFrom {vars most B : Nat} (k : Kp (ca base a M vars most) W W') (h : Ar base a M vars most W ns) (hM : M < B) : KeepsFrom B W W' := by
 refine ⟨k.size, fun i o hB hi ho => ?_⟩
 obtain ⟨cur, hrow, _, rl⟩ := h.row
 obtain ⟨g, cap, cs, t, hb, _⟩ := h.blk
 refine (k.blk i (Array.getElem?_eq_some_iff.1 hi).1 ?_ (fun e => ?_)).trans hi
 ·have na : i ≠ a := fun e => by
   rw [e, hb] at hi
   cases hi
   cases ho
  rintro (e | e | e | e | e | e)
  ·exact na e
  ·exact na e
  ·have e' : i = M := e
   omega
  ·cases e
  ·cases e
  ·cases e
 ·have e' : i = rowOf W a := e
  rw [e', hrow] at hi
  cases hi
  cases ho
end
theorem OpPost.pair {base a M vars most : Nat} {w w' : World} {ns : List Nd} {g : Nat} {φ : Env -> Bool} {e : Ending} (h : OpPost base a M vars most w ns g φ e w') :
  ∃ (ns' : List Nd) (v er : Int), e = .returned (.tuple #[.int .i64 v, .int .i64 er]) ∧ Ar base a M vars most w' ns' ∧ Kp (ca base a M vars most) w w' ∧ Ext ns ns' ∧ ns'.length <= ns.length + g ∧
    Hid ((er = 0 ∧ ∃ f : Nat, v = (f : Int) ∧ f < ns'.length ∧ ∀ x, ev ns' f x = φ x) ∨ (er = 6 ∧ v = 0 ∧ ns'.length = most)) := by
 obtain ⟨ns', r1, r2, r3, r4, ⟨f, e1, e2⟩ | ⟨e1, e2⟩⟩ := h
 ·exact ⟨ns', f, 0, e1, r1, r2, r3, r4, Or.inl ⟨rfl, f, rfl, e2⟩⟩
 ·exact ⟨ns', 0, 6, e1, r1, r2, r3, r4, Or.inr ⟨rfl, rfl, e2⟩⟩
theorem Ar.notMine {base a M vars most : Nat} {w : World} {ns : List Nd} (h : Ar base a M vars most w ns) {i : Nat} (hi : i < base) : ¬ (ca base a M vars most).mine i := by
 have h1 := h.lowA
 have h2 := h.lowM
 rintro (e | e | e | e | e | e)
 ·have : i = a := e
  omega
 ·have : i = a := e
  omega
 ·have : i = M := e
  omega
 ·cases e
 ·cases e
 ·cases e
theorem Ar.kp_below {base a M vars most : Nat} {w w' : World} {ns : List Nd} (h : Ar base a M vars most w ns) (k : Kp (ca base a M vars most) w w') : Below base w w' := by
 obtain ⟨_, _, rb, rl⟩ := h.row
 have h1 := h.lowA
 have h2 := h.lta
 exact ⟨k.os, k.tape, k.output, k.size, fun i hi => k.blk i (by omega) (h.notMine hi) (by show i ≠ rowOf w a; omega)⟩
def JI (base a M n0 L : Nat) (v : Value) (w : World) (pre : List IR) (W : World) : Prop :=
 ∃ (ns : List Nd) (F : Nat), Ar base a M 14 40000 W ns ∧ F < ns.length ∧ (∀ x, ev ns F x = letsF (pre.map Prod.snd).reverse x) ∧ ns.length <= L + pre.length * 16427 ∧
   Boxed W n0 76 (.pointer (some ⟨a, 0, none⟩)) ∧ Boxed W (n0 + 1) 3 (.int .i64 0) ∧ Boxed W (n0 + 1 + 1) 34 (.int .i64 0) ∧ Boxed W (n0 + 1 + 1 + 1) 3 (.int .i64 (F : Int)) ∧ Boxed W (n0 + 1 + 1 + 1 + 1) 53 v ∧ Below base w W
def JX (base a M n0 L k : Nat) (w : World) (c : Code) (W : World) : Prop :=
 c = .ret ∧ 40000 <= L + k * 16427 ∧ ∃ ns : List Nd, Ar base a M 14 40000 W ns ∧ Boxed W (n0 + 1) 3 (.int .i64 0) ∧ Boxed W (n0 + 1 + 1) 34 (.int .i64 6) ∧ Below base w W
theorem Box5.own {B : Nat} {r : Rl} {W W' : World} {row : Option Nat} (h : Box5 W B r) (hg : W.grownBy W' row) (hr : ∀ r, row = some r -> ∃ o : Obj, W.heap[r]? = some o ∧ o.isCells = false) : Box5 W' B r :=
 (grownBy_keeps_cells hg hr h rfl).trans h
theorem Ar.box {base a M vars most i : Nat} {W W' : World} {ns : List Nd} {t : TypeId} {v : Value} (h : Ar base a M vars most W ns) (k : Kp (ca base a M vars most) W W') (hb : Boxed W i t v) (h1 : t ≠ 82 ∧ t ≠ 85) (h2 : t ≠ 143) : Boxed W' i t v := ((h.outBox hb h1 h2).kp k).blk
theorem Ar.box5 {base a M vars most i : Nat} {W W' : World} {ns : List Nd} {r : Rl} (h : Ar base a M vars most W ns) (k : Kp (ca base a M vars most) W W') (hb : Box5 W i r) : Box5 W' i r := ((h.outBox hb (by decide) (by decide)).kp k).blk
theorem JI.own {base a M n0 L B : Nat} {v : Value} {w : World} (hM : M < B) (hb : base <= w.heap.size) (hB : base <= B) : OwnFrom B (JI base a M n0 L v w) := by
 rintro pre W W' row ⟨ns, F, h1, h2, h3, hL, b0, b1, b2, b3, b4, D⟩ hg hr
 have hr' : ∀ r, row = some r -> ∃ o : Obj, W.heap[r]? = some o ∧ o.isCells = false := fun r e => (hr r e).2
 exact ⟨ns, F, h1.book hg hr hM, h2, h3, hL, boxed_own n0 _ (fun _ : Unit => _) () W W' row b0 hg hr', boxed_own _ _ (fun _ : Unit => _) () W W' row b1 hg hr', boxed_own _ _ (fun _ : Unit => _) () W W' row b2 hg hr', boxed_own _ _ (fun _ : Unit => _) () W W' row b3 hg hr', boxed_own _ _ (fun _ : Unit => _) () W W' row b4 hg hr', ownFrom_below hb hB () W W' row D hg hr⟩
theorem JX.own {base a M n0 L B : Nat} {w : World} (hM : M < B) (hb : base <= w.heap.size) (hB : base <= B) (c : Code) : OwnFrom B (fun (pre : List IR) W => JX base a M n0 L pre.length w c W) := by
 rintro pre W W' row ⟨e, hL, ns, h1, b1, b2, D⟩ hg hr
 have hr' : ∀ r, row = some r -> ∃ o : Obj, W.heap[r]? = some o ∧ o.isCells = false := fun r e => (hr r e).2
 exact ⟨e, hL, ns, h1.book hg hr hM, boxed_own _ _ (fun _ : Unit => _) () W W' row b1 hg hr', boxed_own _ _ (fun _ : Unit => _) () W W' row b2 hg hr', ownFrom_below hb hB () W W' row D hg hr⟩
structure RS (base a M n0 B Bx F : Nat) (r : Rl) (v : Value) (w W1 : World) (ns : List Nd) (W : World) : Prop where
 ar : Ar base a M 14 40000 W ns
 b0 : Boxed W n0 76 (.pointer (some ⟨a, 0, none⟩))
 b1 : Boxed W (n0 + 1) 3 (.int .i64 0)
 b2 : Boxed W (n0 + 1 + 1) 34 (.int .i64 0)
 b3 : Boxed W (n0 + 1 + 1 + 1) 3 (.int .i64 (F : Int))
 b4 : Boxed W (n0 + 1 + 1 + 1 + 1) 53 v
 bx : Box5 W Bx r
 low : Below base w W
 kf : KeepsFrom B W1 W
 kb : Below base W1 W
 mB : M < B
 bn : base <= n0
section
variable {base a M n0 B Bx F : Nat} {r : Rl} {v : Value} {w W1 W W' : World} {ns ns' : List Nd}
theorem RS.step (h : RS base a M n0 B Bx F r v w W1 ns W) (k : Kp (ca base a M 14 40000) W W') (A : Ar base a M 14 40000 W' ns') : RS base a M n0 B Bx F r v w W1 ns' W' :=
 ⟨A, h.ar.box k h.b0 (by decide) (by decide), h.ar.box k h.b1 (by decide) (by decide), h.ar.box k h.b2 (by decide) (by decide), h.ar.box k h.b3 (by decide) (by decide), h.ar.box k h.b4 (by decide) (by decide), h.ar.box5 k h.bx,
  h.low.trans (h.ar.kp_below k), h.kf.trans (k.keepsFrom h.ar h.mB), h.kb.trans (h.ar.kp_below k), h.mB, h.bn⟩
theorem RS.below (h : RS base a M n0 B Bx F r v w W1 ns W) (hb : Below W.heap.size W W') : RS base a M n0 B Bx F r v w W1 ns W' := h.step (h.ar.kbelow hb) (h.ar.below hb)
theorem RS.drew (h : RS base a M n0 B Bx F r v w W1 ns W) : RS base a M n0 B Bx F r v w W1 ns W.drew :=
 ⟨h.ar.drew', h.b0, h.b1, h.b2, h.b3, h.b4, h.bx, h.low.drew, h.kf.trans ((KeepsOthers.drew _).from _), h.kb.drew, h.mB, h.bn⟩
theorem RS.four (h : RS base a M n0 B Bx F r v w W1 ns W) : W.cell? ⟨n0, 0, none⟩ = some (.pointer (some ⟨a, 0, none⟩)) ∧ W.cell? ⟨Bx, 0, none⟩ = some (.bool r.ok) ∧ W.cell? ⟨Bx, 1, none⟩ = some (.int .u16 (r.a : Int)) ∧ W.cell? ⟨Bx, 2, none⟩ = some (.int .u16 (r.b : Int)) ∧ W.cell? ⟨Bx, 3, none⟩ = some (.int .u8 (r.c : Int)) ∧ W.cell? ⟨Bx, 4, none⟩ = some (.int .u8 (r.d : Int)) := ⟨h.b0.cell, h.bx.cells⟩
structure RT (base a M n0 B Bx : Nat) (u : Int) (r : Rl) (v : Value) (w W1 : World) (ns : List Nd) (W : World) : Prop where
 ar : Ar base a M 14 40000 W ns
 b0 : Boxed W n0 76 (.pointer (some ⟨a, 0, none⟩))
 b1 : Boxed W (n0 + 1) 3 (.int .i64 0)
 b2 : Boxed W (n0 + 1 + 1) 34 (.int .i64 0)
 b3 : Boxed W (n0 + 1 + 1 + 1) 3 (.int .i64 u)
 b4 : Boxed W (n0 + 1 + 1 + 1 + 1) 53 v
 bx : Box5 W Bx r
 low : Below base w W
 kf : KeepsFrom B W1 W
 kb : Below base W1 W
theorem RT.four {u : Int} (h : RT base a M n0 B Bx u r v w W1 ns W) : W.cell? ⟨n0, 0, none⟩ = some (.pointer (some ⟨a, 0, none⟩)) ∧ W.cell? ⟨Bx, 0, none⟩ = some (.bool r.ok) ∧ W.cell? ⟨Bx, 1, none⟩ = some (.int .u16 (r.a : Int)) ∧ W.cell? ⟨Bx, 2, none⟩ = some (.int .u16 (r.b : Int)) ∧ W.cell? ⟨Bx, 3, none⟩ = some (.int .u8 (r.c : Int)) ∧ W.cell? ⟨Bx, 4, none⟩ = some (.int .u8 (r.d : Int)) := ⟨h.b0.cell, h.bx.cells⟩
theorem Ar.setBox {vars most i : Nat} {t : TypeId} {x : Value} (h : Ar base a M vars most W ns) (hb : Boxed W i t x) (h1 : t ≠ 82 ∧ t ≠ 85) (h2 : t ≠ 143) (u : Value) : Ar base a M vars most (W.setCell ⟨i, 0, none⟩ u) ns := by
 have L := h.outBox hb h1 h2
 obtain ⟨_, _, _, rl⟩ := h.row
 exact h.same (Below.heap_setCell W _ u a (fun e => L.out.not (Or.inl e.symm))) (Below.heap_setCell W _ u M (fun e => L.out.not (Or.inr (Or.inr (Or.inl e.symm))))) (Below.heap_setCell W _ u _ (fun e => L.out.ne e.symm))
theorem RS.set (h : RS base a M n0 B Bx F r v w W1 ns W) (u : Int) : RT base a M n0 B Bx u r v w W1 ns (W.setCell ⟨n0 + 1 + 1 + 1, 0, none⟩ (.int .i64 u)) := by
 have hx : n0 + 1 + 1 + 1 ≠ Bx := fun e => by
  have h1 := h.b3
  have h2 := h.bx
  unfold Boxed at h1
  unfold Box5 at h2
  rw [e, h2] at h1
  simp at h1
 have hbn := h.bn
 exact ⟨h.ar.setBox h.b3 (by decide) (by decide) _, h.b0.other (by omega) _, h.b1.other (by omega) _, h.b2.other (by omega) _, h.b3.set _, h.b4.other (by omega) _, (Below.heap_setCell W _ _ Bx (fun e => hx e.symm)).trans h.bx,
  h.low.setCell (p := ⟨n0 + 1 + 1 + 1, 0, none⟩) (by show base <= n0 + 1 + 1 + 1; omega) _, h.kf.trans ((KeepsOthers.setCell _ _ _).from _), h.kb.setCell (p := ⟨n0 + 1 + 1 + 1, 0, none⟩) (by show base <= n0 + 1 + 1 + 1; omega) _⟩
theorem RS.rt (h : RS base a M n0 B Bx F r v w W1 ns W) : RT base a M n0 B Bx (F : Int) r v w W1 ns W := ⟨h.ar, h.b0, h.b1, h.b2, h.b3, h.b4, h.bx, h.low, h.kf, h.kb⟩
theorem RT.two {u : Int} (h : RT base a M n0 B Bx u r v w W1 ns W) : W.cell? ⟨n0 + 1, 0, none⟩ = some (.int .i64 0) ∧ W.frozen? ⟨n0 + 1, 0, none⟩ = false ∧ (W.setCell ⟨n0 + 1, 0, none⟩ (.int .i64 0)).cell? ⟨n0 + 1 + 1, 0, none⟩ = some (.int .i64 0) ∧ (W.setCell ⟨n0 + 1, 0, none⟩ (.int .i64 0)).frozen? ⟨n0 + 1 + 1, 0, none⟩ = false :=
 ⟨h.b1.cell, h.b1.frozen, (h.b2.other (by omega) _).cell, (h.b2.other (by omega) _).frozen⟩
theorem RT.err {u : Int} {L k : Nat} (h : RT base a M n0 B Bx u r v w W1 ns W) (bn : base <= n0) (hL : 40000 <= L + k * 16427) : KeepsFrom B W1 ((W.setCell ⟨n0 + 1, 0, none⟩ (.int .i64 0)).setCell ⟨n0 + 1 + 1, 0, none⟩ (.int .i64 6)) ∧ JX base a M n0 L k w .ret ((W.setCell ⟨n0 + 1, 0, none⟩ (.int .i64 0)).setCell ⟨n0 + 1 + 1, 0, none⟩ (.int .i64 6)) := by
 have b2' := h.b2.other (B' := n0 + 1) (by omega) (.int .i64 0)
 refine ⟨h.kf.trans (((KeepsOthers.setCell _ _ _).trans (KeepsOthers.setCell _ _ _)).from _), rfl, hL, ns, (h.ar.setBox h.b1 (by decide) (by decide) _).setBox b2' (by decide) (by decide) _, (h.b1.set _).other (by omega) _, b2'.set _, ?_⟩
 exact (h.low.setCell (p := ⟨n0 + 1, 0, none⟩) (by show base <= n0 + 1; omega) _).setCell (p := ⟨n0 + 1 + 1, 0, none⟩) (by show base <= n0 + 1 + 1; omega) _
end
theorem putD {base a M n0 D : Nat} {w W : World} {ns : List Nd} {u x : Value} {o : Obj} (A : Ar base a M 14 40000 W ns) (b1 : Boxed W (n0 + 1) 3 u) (b2 : Boxed W (n0 + 1 + 1) 34 x) (D1 : Below base w W) (hK : W.heap[D]? = some (.deferred (some []))) (hD : n0 + 5 <= D) (hM : M < n0) (hb : base <= n0) :
  Ar base a M 14 40000 (W.putObj D o) ns ∧ (W.putObj D o).cell? ⟨n0 + 1, 0, none⟩ = some u ∧ (W.putObj D o).cell? ⟨n0 + 1 + 1, 0, none⟩ = some x ∧ Below base w (W.putObj D o) := by
 have g := grownBy_putObj' W D o
 have hD' : D < W.heap.size := (Array.getElem?_eq_some_iff.1 hK).1
 exact ⟨A.book (B := n0) g (fun r e => by cases e; exact ⟨by omega, _, hK, rfl⟩) hM, (b1.kept g (fun e => by cases e; omega)).cell, (b2.kept g (fun e => by cases e; omega)).cell, D1.grown g (by omega) (fun k e => by cases e; omega)⟩
theorem join_ok {base a M : Nat} {w : World} {ns : List Nd} (h : Ar base a M 14 40000 w ns) (A : Option Addr) (len cap : Nat) (xs : List Rl) (hR : Rules base w (.slice A len cap) xs) (hlen : xs.length <= 8) :
  Calls Tryz.prog 208 #[.pointer (some ⟨a, 0, none⟩), .slice A len cap] w fun e w' => ∃ ns', Ar base a M 14 40000 w' ns' ∧ Below base w w' ∧
   ((∃ f : Nat, e = .returned (.tuple #[.int .i64 (f : Int), .int .i64 0]) ∧ f < ns'.length ∧ ∀ x, ev ns' f x = letsF xs x) ∨ (e = .returned (.tuple #[.int .i64 0, .int .i64 6]) ∧ 40000 <= ns.length + xs.length * 16427)) := by
 refine (callsIn_wide (n := 4)).1 ?_
 refine callsIn_of_wp_marks Tryz.func208 rfl trivial ?_ rfl
 simp only [Tryz.ntmps208, List.size_toArray, List.length_cons, List.length_nil, Nat.reduceAdd, Nat.reduceSub, Array.replicate_succ, Array.replicate_zero, List.push_toArray, List.append_toArray, List.nil_append, List.cons_append]
 gi_wp2_with (refine ⟨trivial, ?_⟩; gi_at_call 221; refine (back_in Fence.wide _ trivial rfl _ _ _ _).mono ?_; rintro e w' ⟨rfl, rfl⟩)
 have ltM := h.ltM
 have lta := h.lta
 have lowA := h.lowA
 have q0 := ((((Boxed.new w 76 (.pointer (some ⟨a, 0, none⟩))).alloc (.cells #[.int .i64 0] 3)).alloc (.cells #[.int .i64 0] 34)).alloc (.cells #[.int .i64 0] 3)).alloc (.cells #[.slice A len cap] 53)
 have q1 := (((Boxed.new (w.alloc (.cells #[.pointer (some ⟨a, 0, none⟩)] 76)) 3 (.int .i64 0)).alloc (.cells #[.int .i64 0] 34)).alloc (.cells #[.int .i64 0] 3)).alloc (.cells #[.slice A len cap] 53)
 have q2 := ((Boxed.new ((w.alloc (.cells #[.pointer (some ⟨a, 0, none⟩)] 76)).alloc (.cells #[.int .i64 0] 3)) 34 (.int .i64 0)).alloc (.cells #[.int .i64 0] 3)).alloc (.cells #[.slice A len cap] 53)
 have q3 := (Boxed.new (((w.alloc (.cells #[.pointer (some ⟨a, 0, none⟩)] 76)).alloc (.cells #[.int .i64 0] 3)).alloc (.cells #[.int .i64 0] 34)) 3 (.int .i64 0)).alloc (.cells #[.slice A len cap] 53)
 have q4 := Boxed.new ((((w.alloc (.cells #[.pointer (some ⟨a, 0, none⟩)] 76)).alloc (.cells #[.int .i64 0] 3)).alloc (.cells #[.int .i64 0] 34)).alloc (.cells #[.int .i64 0] 3)) 53 (.slice A len cap)
 simp only [World.size_alloc] at q1 q2 q3 q4
 have D0 : Below base w (((((w.alloc (.cells #[.pointer (some ⟨a, 0, none⟩)] 76)).alloc (.cells #[.int .i64 0] 3)).alloc (.cells #[.int .i64 0] 34)).alloc (.cells #[.int .i64 0] 3)).alloc (.cells #[.slice A len cap] 53)) :=
  (((((Below.refl _ w).alloc (by omega) _).alloc (by simp; omega) _).alloc (by simp; omega) _).alloc (by simp; omega) _).alloc (by simp; omega) _
 have A0 : Ar base a M 14 40000 (((((w.alloc (.cells #[.pointer (some ⟨a, 0, none⟩)] 76)).alloc (.cells #[.int .i64 0] 3)).alloc (.cells #[.int .i64 0] 34)).alloc (.cells #[.int .i64 0] 3)).alloc (.cells #[.slice A len cap] 53)) ns := ((((h.alloc _).alloc _).alloc _).alloc _).alloc _
 have hsz : (((((w.alloc (.cells #[.pointer (some ⟨a, 0, none⟩)] 76)).alloc (.cells #[.int .i64 0] 3)).alloc (.cells #[.int .i64 0] 34)).alloc (.cells #[.int .i64 0] 3)).alloc (.cells #[.slice A len cap] 53)).heap.size = w.heap.size + 5 := by simp
 obtain ⟨W0, hW0⟩ : ∃ W0, (((((w.alloc (.cells #[.pointer (some ⟨a, 0, none⟩)] 76)).alloc (.cells #[.int .i64 0] 3)).alloc (.cells #[.int .i64 0] 34)).alloc (.cells #[.int .i64 0] 3)).alloc (.cells #[.slice A len cap] 53)) = W0 := ⟨_, rfl⟩
 rw [hW0] at q0 q1 q2 q3 q4 D0 A0 hsz ⊢
 clear hW0
 have l2 := h.wf.len
 refine wpIn_rangeFunc_ownH rfl (by omega) (gf := 227) (lb := #[.pointer (some ⟨w.heap.size + 1 + 1 + 1 + 1, 0, none⟩)]) rfl trivial (enters_of Tryz.func227 (by kernel_rfl) rfl)
  (back_stops Fence.wide 3 trivial rfl (by omega) (w.heap.size + 1 + 1 + 1 + 1) base (.slice A len cap) xs (by omega) W0 (by omega) q4 (hR.below D0)) kpB_t
  (fun W l o o' hl ho hc _ => ⟨(Below.refl base W).grown (grownBy_putObj' W l o') (by have := (Array.getElem?_eq_some_iff.1 ho).1; omega) (fun k e => by cases e; omega), fun b => b.kept (grownBy_putObj' W l o') (fun e => by cases e; omega)⟩)
  (Below.refl _ _) (fun _ => rfl)
  (JI base a M w.heap.size ns.length (.slice A len cap) w) (fun c pre W => JX base a M w.heap.size ns.length pre.length w c W)
  (JI.own (by omega) (by omega) (by omega)) (fun c => JX.own (by omega) (by omega) (by omega) c)
  ⟨ns, 0, A0, by omega, (fun x => rfl), by simp, q0, q1, q2, q3, q4, D0⟩
  (fun x a' W => ∃ Bx, Box5 W Bx x.2 ∧ a' = { tmps := #[.pointer (some ⟨a, 0, none⟩), .slice A len cap, .pointer (some ⟨w.heap.size, 0, none⟩), undef, .pointer (some ⟨w.heap.size + 1, 0, none⟩), .pointer (some ⟨w.heap.size + 1 + 1, 0, none⟩), .pointer (some ⟨w.heap.size + 1 + 1 + 1, 0, none⟩), undef, .pointer (some ⟨Bx, 0, none⟩), undef, undef, .slice A len cap, .func (.func 227) #[] #[.pointer (some ⟨w.heap.size + 1 + 1 + 1 + 1, 0, none⟩)], .int .i64 (x.1 : Int), rv x.2, undef, undef, undef, undef, undef, undef, undef, undef, undef, undef, undef, undef, undef, undef, undef, undef, undef, undef, undef, undef, undef, undef, undef], defers := [] })
  (fun x a' _ X Y row hs hg hr => by obtain ⟨Bx, h1, h2⟩ := hs; exact ⟨Bx, h1.own hg (fun r e => (hr r e).2), h2⟩)
  ?assign ?body ?done ?stop
 case assign =>
  rintro l pre x W K ⟨ns1, F1, A1, lF, eF, hL, b0, b1, b2, b3, b4, D1⟩ hK
  have hsW := D1.size
  obtain ⟨i, ⟨ok, ra, rb, rc, rd, g1, g2, g3, g4⟩⟩ := x
  dsimp only [encIR]
  gi_wp2
  exact hK _ _ ((KeepsOthers.alloc _ _).from _) ⟨(Below.refl _ W).alloc (by omega) _, fun b => b.alloc _⟩ ⟨ns1, F1, A1.alloc _, lF, eF, hL, b0.alloc _, b1.alloc _, b2.alloc _, b3.alloc _, b4.alloc _, D1.alloc (by omega) _⟩ ⟨W.heap.size, Go.heap_alloc_new W _, rfl⟩
 case body =>
  rintro l pre x a' W hl ⟨r0, hr0⟩ ⟨ns1, F1, A1, lF, eF, hL, b0, b1, b2, b3, b4, D1⟩ ⟨Bx, bX, rfl⟩ hlt
  obtain ⟨xi, r⟩ := x
  have s1 : RS base a M w.heap.size W0.heap.size Bx F1 r (.slice A len cap) w W ns1 W := ⟨A1, b0, b1, b2, b3, b4, bX, D1, KeepsFrom.refl _ _, Below.refl _ _, by omega, by omega⟩
  clear A1 b0 b1 b2 b3 b4 bX
  obtain ⟨cA, x0, x1, x2, x3, x4⟩ := s1.four
  gi_wp2
  refine ⟨trivial, (CallsIn.inRound l (callsIn_wide.2 (build_match s1.ar (Nat.le_refl _) r.a r.b r.c r.d r.ha r.hb r.hc r.hd))).mono ?_⟩
  rintro e W2 hp2
  obtain ⟨ns2, g2, er2, rfl, A2, K2, X2, hL2, d2⟩ := hp2.pair
  have s2 := s1.step K2 A2
  have wf1 := s1.ar.wf
  clear hp2 A2 K2 cA x0 x1 x2 x3 x4 s1
  obtain ⟨cA, x0, x1, x2, x3, x4⟩ := s2.four
  obtain ⟨c1, f1, c2, f2⟩ := s2.rt.two
  have c3 := s2.b3.cell
  rcases d2.out with ⟨rfl, F2, rfl, lt2, _, ev2⟩ | ⟨rfl, rfl, full2⟩
  ·have lF2 : F1 < ns2.length := Nat.lt_of_lt_of_le lF X2.len
   have wf2 := s2.ar.wf
   have l2' := wf2.len
   have EF : Hid (∀ x, ev ns2 F1 x = letsF (pre.map Prod.snd).reverse x) := fun x => (X2.ev wf1 wf2 _ lF x).trans (eF x)
   have EV : Hid (∀ x, ev ns2 F2 x = phi r.a r.b r.c r.d x) := ev2
   have IT : Hid (∀ w' (q : Nat), Hid (q = if r.ok then 1 else 0) -> RS base a M w.heap.size W0.heap.size Bx F1 r (.slice A len cap) w W ns2 w' -> Calls Tryz.prog 181 #[.pointer (some ⟨a, 0, none⟩), .int .i64 (F2 : Int), .int .i64 (q : Int), .int .i64 (F1 : Int)] w' fun e w'' => ∃ (ns' : List Nd) (v er : Int), e = .returned (.tuple #[.int .i64 v, .int .i64 er]) ∧ Ar base a M 14 40000 w'' ns' ∧ Kp (ca base a M 14 40000) w' w'' ∧ Ext ns2 ns' ∧ ns'.length <= ns2.length + (2 ^ 14 - 1) ∧
     Hid ((er = 0 ∧ ∃ f : Nat, v = (f : Int) ∧ f < ns'.length ∧ ∀ x, ev ns' f x = letsF ((pre ++ [(xi, r)]).map Prod.snd).reverse x) ∨ (er = 6 ∧ v = 0 ∧ ns'.length = 40000))) := fun w' q hq hs => by
    have hq' : q = if r.ok then 1 else 0 := hq
    refine (ite_ok hs.ar (c := (F2, q, F1)) ⟨lt2, by show q < _; rw [hq']; split <;> omega, lF2⟩).mono fun e w'' hp => (hp.of (ψ := fun x => letsF ((pre ++ [(xi, r)]).map Prod.snd).reverse x) (fun x => ?_)).pair
    rw [letsF_snoc, <- EF.out, EV.out, hq']
    cases r.ok
    ·simp [ev0]
    ·simp [ev1]
   have s2d := s2.drew
   clear ev2 eF d2 EF EV
   gi_wp2
   refine region_held_in (S := (fun w' => w'.cell? ⟨w.heap.size, 0, none⟩ = some (.pointer (some ⟨a, 0, none⟩)) ∧ w'.cell? ⟨Bx, 0, none⟩ = some (.bool r.ok) ∧ w'.cell? ⟨Bx, 1, none⟩ = some (.int .u16 (r.a : Int)) ∧ w'.cell? ⟨Bx, 2, none⟩ = some (.int .u16 (r.b : Int)) ∧ w'.cell? ⟨Bx, 3, none⟩ = some (.int .u8 (r.c : Int)) ∧ w'.cell? ⟨Bx, 4, none⟩ = some (.int .u8 (r.d : Int)))) (by kernel_rfl) (by kernel_rfl) (fun ⟨_, _, e⟩ => e) (RS.four (by assumption)) (fun hHeld => ?_)
   refine tk 0 ?_; try simp only [ly]
   refine tk 1 ?_; try simp only [ly]
   refine tk 2 ?_; try simp only [ly]
   refine wpAnyH_ready (rs := [3, 4]) (by kernel_rfl) (by simp) ?_
   refine AllReadyH.cons rfl (fun K hK => ?_) ?_
   ·go_simp
    refine (answer_q r _).mono ?_; rintro e wz ⟨q, rfl, hq, hbz⟩; have sz := RS.below (F := F1) (by assumption) hbz; clear hbz; have cz := sz.b3.cell
    try go_wp2_with fail
    clear hHeld
    refine hK.out _ _ (by first | exact RS.four (by assumption) | exact RT.four (by assumption)) (fun hHeld => ?_)
    clear hK K
    try simp only [ly]
    refine rd 4 (fun K hK => ?_)
    go_simp
    skip
    try go_wp2_with fail
    clear hHeld
    refine hK.out _ _ (by first | exact RS.four (by assumption) | exact RT.four (by assumption)) (fun hHeld => ?_)
    clear hK K
    try simp only [ly]
    refine rd 5 (fun K hK => ?_)
    go_simp
    refine (IT.out _ q hq (by assumption)).mono ?_; rintro e wy ⟨ns3, v3, er3, rfl, A3, K3, X3, hL3, d3⟩; have sy := RS.step (F := F1) (by assumption) K3 A3; have cy := sy.b3.cell; have fy := sy.b3.frozen; clear K3 A3
    try go_wp2_with fail
    clear hHeld
    refine hK.out _ _ (by first | exact RS.four (by assumption) | exact RT.four (by assumption)) (fun hHeld => ?_)
    clear hK K
    try simp only [ly]
    refine tk 6 ?_; try simp only [ly]
    refine tk 7 ?_; try simp only [ly]
    refine tk 8 ?_; try simp only [ly]
    refine rd 9 (fun K hK => ?_)
    go_simp
    have su := RS.set (F := F1) (by assumption) v3
    try go_wp2_with fail
    clear hHeld
    refine hK.out _ _ (by first | exact RS.four (by assumption) | exact RT.four (by assumption)) (fun hHeld => ?_)
    clear hK K
    try simp only [ly]
    refine tk 10 ?_; try simp only [ly]
    refine wpAnyH_done (by kernel_rfl) ?_ _
    obtain ⟨y1, y2, y3, y4⟩ := su.two
    have hlp : (pre ++ [(xi, r)]).length = pre.length + 1 := by simp
    have hL4 : ns3.length <= ns.length + (pre ++ [(xi, r)]).length * 16427 := by rw [hlp]; omega
    rcases d3.out with ⟨rfl, F3, rfl, lt3, ev3⟩ | ⟨rfl, rfl, full3⟩
    ·have fin : Hid (JI base a M w.heap.size ns.length (.slice A len cap) w (pre ++ [(xi, r)]) (wy.setCell ⟨w.heap.size + 1 + 1 + 1, 0, none⟩ (.int .i64 (F3 : Int)))) := ⟨ns3, F3, su.ar, lt3, ev3, hL4, su.b0, su.b1, su.b2, su.b3, su.b4, su.low⟩
     have kf := su.kf
     have kb := su.kb
     have b4 := su.b4
     clear su d3 ev3 sy IT hL4 hlp
     gi_wp2
     exact ⟨kf, ⟨kb, fun _ => b4⟩, fin.out⟩
    ·have fin : Hid _ := su.err (L := ns.length) (k := (pre ++ [(xi, r)]).length) (by omega) (by omega)
     clear d3 sy IT hL4 hlp
     gi_wp2
     exact fin.out
   refine AllReadyH.cons rfl (fun K hK => ?_) AllReadyH.nil
   go_simp
   skip
   try go_wp2_with fail
   clear hHeld
   refine hK.out _ _ (by first | exact RS.four (by assumption) | exact RT.four (by assumption)) (fun hHeld => ?_)
   clear hK K
   try simp only [ly]
   refine rd 3 (fun K hK => ?_)
   go_simp
   refine (answer_q r _).mono ?_; rintro e wz ⟨q, rfl, hq, hbz⟩; have sz := RS.below (F := F1) (by assumption) hbz; clear hbz; have cz := sz.b3.cell
   try go_wp2_with fail
   clear hHeld
   refine hK.out _ _ (by first | exact RS.four (by assumption) | exact RT.four (by assumption)) (fun hHeld => ?_)
   clear hK K
   try simp only [ly]
   refine rd 5 (fun K hK => ?_)
   go_simp
   refine (IT.out _ q hq (by assumption)).mono ?_; rintro e wy ⟨ns3, v3, er3, rfl, A3, K3, X3, hL3, d3⟩; have sy := RS.step (F := F1) (by assumption) K3 A3; have cy := sy.b3.cell; have fy := sy.b3.frozen; clear K3 A3
   try go_wp2_with fail
   clear hHeld
   refine hK.out _ _ (by first | exact RS.four (by assumption) | exact RT.four (by assumption)) (fun hHeld => ?_)
   clear hK K
   try simp only [ly]
   refine tk 6 ?_; try simp only [ly]
   refine tk 7 ?_; try simp only [ly]
   refine tk 8 ?_; try simp only [ly]
   refine rd 9 (fun K hK => ?_)
   go_simp
   have su := RS.set (F := F1) (by assumption) v3
   try go_wp2_with fail
   clear hHeld
   refine hK.out _ _ (by first | exact RS.four (by assumption) | exact RT.four (by assumption)) (fun hHeld => ?_)
   clear hK K
   try simp only [ly]
   refine tk 10 ?_; try simp only [ly]
   refine wpAnyH_done (by kernel_rfl) ?_ _
   obtain ⟨y1, y2, y3, y4⟩ := su.two
   have hlp : (pre ++ [(xi, r)]).length = pre.length + 1 := by simp
   have hL4 : ns3.length <= ns.length + (pre ++ [(xi, r)]).length * 16427 := by rw [hlp]; omega
   rcases d3.out with ⟨rfl, F3, rfl, lt3, ev3⟩ | ⟨rfl, rfl, full3⟩
   ·have fin : Hid (JI base a M w.heap.size ns.length (.slice A len cap) w (pre ++ [(xi, r)]) (wy.setCell ⟨w.heap.size + 1 + 1 + 1, 0, none⟩ (.int .i64 (F3 : Int)))) := ⟨ns3, F3, su.ar, lt3, ev3, hL4, su.b0, su.b1, su.b2, su.b3, su.b4, su.low⟩
    have kf := su.kf
    have kb := su.kb
    have b4 := su.b4
    clear su d3 ev3 sy IT hL4 hlp
    gi_wp2
    exact ⟨kf, ⟨kb, fun _ => b4⟩, fin.out⟩
   ·have fin : Hid _ := su.err (L := ns.length) (k := (pre ++ [(xi, r)]).length) (by omega) (by omega)
    clear d3 sy IT hL4 hlp
    gi_wp2
    exact fin.out
  ·have fin := s2.rt.err (L := ns.length) (k := (pre ++ [(xi, r)]).length) (by omega) (by simp; omega)
   clear d2
   gi_wp2
   exact fin
 case done =>
  rintro D ys W hD rfl ⟨ns1, F1, A1, lF, eF, _, b0, b1, b2, b3, b4, D1⟩ hK
  have eF' : Hid (∀ x, ev ns1 F1 x = letsF xs x) := fun x => by rw [eF x, came_all]
  clear eF
  have hD' : D < W.heap.size := (Array.getElem?_eq_some_iff.1 hK).1
  have e1 := (b1.set (.int .i64 (F1 : Int))).other (B' := w.heap.size + 1 + 1) (by omega) (.int .i64 0)
  have b2' := b2.other (B' := w.heap.size + 1) (by omega) (.int .i64 (F1 : Int))
  have e2 := b2'.set (.int .i64 0)
  have A2 := (A1.setBox b1 (by decide) (by decide) (.int .i64 (F1 : Int))).setBox b2' (by decide) (by decide) (.int .i64 0)
  have D2 := (D1.setCell (p := ⟨w.heap.size + 1, 0, none⟩) (by show base <= w.heap.size + 1; omega) (.int .i64 (F1 : Int))).setCell (p := ⟨w.heap.size + 1 + 1, 0, none⟩) (by show base <= w.heap.size + 1 + 1; omega) (.int .i64 0)
  have hK' := ((KeepsOthers.setCell W ⟨w.heap.size + 1, 0, none⟩ (.int .i64 (F1 : Int))).trans (KeepsOthers.setCell _ ⟨w.heap.size + 1 + 1, 0, none⟩ (.int .i64 0))).same D _ hK rfl
  have c1 := b1.cell
  have f1 := b1.frozen
  have c2 := b2'.cell
  have f2 := b2'.frozen
  have c3 := b3.cell
  gi_wp2
  refine ⟨by simp, .inl ⟨_, _, rfl, run_takeDeferred hK', ?_⟩⟩
  obtain ⟨A3, r1, r2, D3⟩ := putD (o := .deferred none) A2 e1 e2 D2 hK' (by omega) (by omega) (by omega)
  exact ⟨.tuple #[.int .i64 (F1 : Int), .int .i64 0], by simp [results, Tryz.results208, go_sem, r1, r2], ns1, A3, D3, .inl ⟨F1, rfl, lF, eF'.out⟩⟩
 case stop =>
  rintro D c pre W hD ⟨k, hk, rfl⟩ ⟨rfl, hL, ns1, A1, b1, b2, D1⟩ hK
  rw [came_length] at hL
  have hL' : 40000 <= ns.length + xs.length * 16427 := by
   have := Nat.mul_le_mul_right 16427 hk
   omega
  gi_wp2
  refine ⟨by simp, .inl ⟨_, _, rfl, run_takeDeferred hK, ?_⟩⟩
  obtain ⟨A3, r1, r2, D3⟩ := putD (o := .deferred none) A1 b1 b2 D1 hK (by omega) (by omega) (by omega)
  exact ⟨.tuple #[.int .i64 0, .int .i64 6], by simp [results, Tryz.results208, go_sem, r1, r2], ns1, A3, D3, .inr ⟨rfl, hL'⟩⟩
end Go.Proofs.YtppbfikimalojaaGreat
namespace Go.Proofs.YtppbfikimalojaaGreat
open Go.RowKit Go.Maps
theorem check_ok (A : Option Addr) (n cap : Nat) (w : World) : Calls Tryz.prog 117 #[.slice A n cap] w fun e w' => e = .returned (.int .i64 (if 8 < n then 2 else 0)) ∧ w' = w := by
 by_cases h : 8 < n
 ·have t : decide ((8 : Int) < (n : Int)) = true := by simp; omega
  rw [if_pos h]
  go_enter Tryz.func117, Tryz.ntmps117
  go_wp2_with fail
  go_ret
  exact ⟨rfl, rfl⟩
 ·have t : decide ((8 : Int) < (n : Int)) = false := by simp; omega
  rw [if_neg h]
  go_enter Tryz.func117, Tryz.ntmps117
  go_wp2_with fail
  go_ret
  exact ⟨rfl, rfl⟩
def BPost (E : Prop) (base a M : Nat) (w : World) (ns : List Nd) (xs : List Rl) (e : Ending) (w' : World) : Prop :=
 ∃ ns', Ar base a M 14 40000 w' ns' ∧ Kp (ca base a M 14 40000) w w' ∧ Ext ns ns' ∧
   ((∃ f : Nat, e = .returned (.tuple #[.int .i64 (f : Int), .int .i64 0]) ∧ f < ns'.length ∧ ∀ x, ev ns' f x = letsF xs x) ∨ (e = .returned (.tuple #[.int .i64 0, .int .i64 6]) ∧ E))
theorem abuild_ok {base a M : Nat} {w : World} {ns : List Nd} (h : Ar base a M 14 40000 w ns) (A : Option Addr) (n cap : Nat) (xs : List Rl) (hR : Rules w.heap.size w (.slice A n cap) xs) (hlen : xs.length <= 8) :
  Calls Tryz.prog 183 #[.pointer (some ⟨a, 0, none⟩), .slice A n cap] w (BPost True base a M w ns xs) := by
 have hn : n = xs.length := by
  obtain ⟨_, _, e, _⟩ := hR
  cases e
  rfl
 have CK : Hid (∀ w, Calls Tryz.prog 117 #[.slice A n cap] w fun e w' => e = .returned (.int .i64 0) ∧ w' = w) := fun w => by
  have := check_ok A n cap w
  rw [if_neg (by omega)] at this
  exact this
 have NW : Hid (Calls Tryz.prog 30 #[.int .i64 14, .int .i64 40000] w fun e w' => ∃ a2 M2, e = .returned (.tuple #[.pointer (some ⟨a2, 0, none⟩), .int .i64 0]) ∧ Ar w.heap.size a2 M2 14 40000 w' [(14, 0, 0), (14, 1, 1)] ∧ Below w.heap.size w w') := new_ok (v := 14) (m := 40000) w (by omega) (by omega) (by omega) (by omega)
 clear hn
 go_enter Tryz.func183, Tryz.ntmps183
 go_wp2_with (go_at_call 117; refine (CK.out _).mono ?_; rintro e w' ⟨rfl, rfl⟩)
 refine NW.out.mono ?_
 rintro e w2 ⟨a2, M2, rfl, A2, hb2⟩
 have JO : Hid (Calls Tryz.prog 208 #[.pointer (some ⟨a2, 0, none⟩), .slice A n cap] w2 fun e w' => ∃ ns', Ar _ a2 M2 14 40000 w' ns' ∧ Below _ w2 w' ∧
   ((∃ f : Nat, e = .returned (.tuple #[.int .i64 (f : Int), .int .i64 0]) ∧ f < ns'.length ∧ ∀ x, ev ns' f x = letsF xs x) ∨ (e = .returned (.tuple #[.int .i64 0, .int .i64 6]) ∧ _))) := join_ok A2 A n cap xs (hR.below hb2) hlen
 clear CK NW
 go_wp2_with fail
 refine JO.out.mono ?_
 rintro e w3 ⟨ns3, A3, hb3, hres⟩
 have D3 := hb2.trans hb3
 have H3 := h.below D3
 have K3 := h.kbelow D3
 clear JO hb2 hb3 A2
 rcases hres with ⟨f, rfl, lf, ef⟩ | ⟨rfl, _⟩
 ·obtain ⟨_, _, _, rl⟩ := h.row
  have hrow := rowOf_same (D3.block a h.lta)
  have TK : Hid (Calls Tryz.prog 94 #[.pointer (some ⟨a, 0, none⟩), .pointer (some ⟨a2, 0, none⟩), .int .i64 (f : Int)] w3 (OpPost base a M 14 40000 w3 ns (2 ^ 14 - 1) fun q => ev ns3 f q)) := take_ok H3 A3 (Nat.le_refl _) h.lta h.ltM (by rw [hrow]; exact rl) lf
  clear hrow rl A3
  go_wp2_with fail
  refine TK.out.mono ?_
  rintro e w4 hp
  obtain ⟨ns4, v4, er4, rfl, A4, K4, X4, _, d4⟩ := hp.pair
  have KK := K3.trans K4
  clear hp TK H3 K3 K4 D3
  have fin : Hid (BPost True base a M w' ns xs (.returned (.tuple #[.int .i64 v4, .int .i64 er4])) w4) := by
   rcases d4.out with ⟨rfl, f4, rfl, l4, e4⟩ | ⟨rfl, rfl, _⟩
   ·exact ⟨ns4, A4, KK, X4, .inl ⟨f4, rfl, l4, fun x => (e4 x).trans (ef x)⟩⟩
   ·exact ⟨ns4, A4, KK, X4, .inr ⟨rfl, trivial⟩⟩
  clear d4 A4 KK X4 ef
  go_wp2_with fail
  go_ret2
  exact fin.out
 ·have fin : Hid (BPost True base a M w' ns xs (.returned (.tuple #[.int .i64 0, .int .i64 6])) w3) := ⟨ns, H3, K3, Ext.refl _, .inr ⟨rfl, trivial⟩⟩
  clear H3 K3 D3 A3
  go_wp2_with fail
  go_ret2
  exact fin.out
def Bz (W : World) (k : Nat) (c : Array Value) (t : TypeId) : Prop := W.heap[k]? = some (.cells c t (0, 0))
theorem Bz.lt {W : World} {k : Nat} {c : Array Value} {t : TypeId} (h : Bz W k c t) : k < W.heap.size := (Array.getElem?_eq_some_iff.1 h).1
theorem Bz.cell {W : World} {k : Nat} {c : Array Value} {t : TypeId} (h : Bz W k c t) (j : Nat) (v : Value) (hj : c[j]? = some v) : W.cell? ⟨k, j, none⟩ = some v := by
 unfold Bz at h
 simp [World.cell?, h, hj]
theorem Bz.free {W : World} {k : Nat} {c : Array Value} {t : TypeId} (h : Bz W k c t) (j : Nat) : W.frozen? ⟨k, j, none⟩ = false := by unfold Bz at h; simp [World.frozen?, h]
theorem Bz.set {W : World} {k j : Nat} {c : Array Value} {t : TypeId} (h : Bz W k c t) (u : Value) : Bz (W.setCell ⟨k, j, none⟩ u) k (c.setIfInBounds j u) t := by
 unfold Bz at *
 simp [World.setCell, Array.getElem?_modify, h]
theorem Bz.new (w : World) (c : Array Value) (t : TypeId) (k : Nat) (h : k = w.heap.size) : Bz (w.alloc (.cells c t)) k c t := by subst h; exact Go.heap_alloc_new w _
structure Bn (base q a M : Nat) (w0 w : World) (ns : List Nd) (er : Int) : Prop where
 ar : Ar base a M 14 40000 w ns
 blk : Bz w q #[.pointer (some ⟨a, 0, none⟩), .int .i64 er] 166
 lo : base <= q
 er6 : er = 0 ∨ er = 6
 bel : Below base w0 w
def Fn (ns : List Nd) (er : Int) (f : Nat) (φ : Env -> Bool) : Prop := f < ns.length ∧ (er = 0 -> ∀ x, ev ns f x = φ x)
def okT (t : TypeId) : Prop := (t ≠ 82 ∧ t ≠ 85) ∧ t ≠ 143 ∧ t ≠ 166
instance (t : TypeId) : Decidable (okT t) := by unfold okT; infer_instance
def TF (w w' : World) : Prop := ∀ i c t, Bz w i c t -> okT t -> Bz w' i c t
section
variable {base q a M : Nat} {w0 w w1 : World} {ns ns' : List Nd} {er er' : Int}
end
section
variable {base q a M : Nat} {w0 w : World} {ns : List Nd} {er : Int}
end
def exF (φ : Env -> Bool) (i j : Nat) : Nat -> Env -> Bool
 | 0 => φ
 | k + 1 => fun x => exF φ i j k (swE x (i + k) (j + k))
def anF (φ : Env -> Bool) (i : Nat) : Nat -> Env -> Bool
 | 0 => φ
 | k + 1 => fun x => anF φ i k (setE x (i + k) false) || anF φ i k (setE x (i + k) true)
section
variable {base q a M : Nat} {w0 w : World} {ns : List Nd} {er : Int}
def flF (φ : Env -> Bool) : Env -> Bool := exF (exF φ 0 4 4) 8 11 3
end
def setL : List Int -> Nat -> Nat
 | [], z => z
 | x :: l, z => setL l (z ||| 2 ^ x.toNat)
theorem Bz.al {W : World} {k : Nat} {c : Array Value} {t : TypeId} (h : Bz W k c t) (o : Obj) : Bz (W.alloc o) k c t := (Below.heap_alloc W o k h.lt).trans h
section
variable {base q a M : Nat} {w0 w : World} {ns : List Nd} {er : Int}
structure Stt (base q a M : Nat) (w0 T W : World) (ns : List Nd) (er : Int) (g : Nat) (w1 : World) (ns1 : List Nd) (er1 : Int) : Prop where
 bn : Bn base q a M w0 w1 ns1 er1
 tf : TF W w1
 tt : TF T w1
 ext : Ext ns ns1
 wf : Wf 14 ns
 ok : er1 = 0 -> er = 0
 fit : Hid (er = 0 -> ns1.length <= ns.length + g ∧ (er1 ≠ 0 -> 40000 <= ns.length + g))
variable {T W w1 : World} {ns1 : List Nd} {er1 : Int} {g : Nat}
end
section
variable {base q a M : Nat} {w0 w : World} {ns : List Nd} {er : Int}
end
section
variable {base q a M : Nat} {w0 w : World} {ns : List Nd} {er : Int}
abbrev Bx := Nat × Array Value × TypeId
structure Qs (base q a M : Nat) (w0 T : World) (ns : List Nd) (er : Int) (g : Nat) (fs : List (Nat × (Env -> Bool))) (bx : List Bx) (W : World) : Prop where
 st : ∃ ns1 er1, Stt base q a M w0 T T ns er g W ns1 er1 ∧ ∀ x ∈ fs, Fn ns1 er1 x.1 x.2
 bz : ∀ b ∈ bx, Bz W b.1 b.2.1 b.2.2 ∧ okT b.2.2
 bT : base <= T.heap.size
variable {T W W' : World} {g g' : Nat} {fs : List (Nat × (Env -> Bool))} {bx : List Bx}
end
def sentB (xs : List Rt) (q : Int) (i : Nat) : Bool := outB xs (i : Int) && (outN xs (i : Int) == q)
theorem or_u16 (z c : Nat) (hz : z < 65536) (hc : c < 16) : Go.bits .or .u16 (z : Int) (IntKind.u16.wrap (2 ^ c)) = ((z ||| 2 ^ c : Nat) : Int) ∧ z ||| 2 ^ c < 65536 := by
 have hp : 2 ^ c < 65536 := Nat.pow_lt_pow_right (a := 2) (by omega) (show c < 16 by omega)
 have hlt : z ||| 2 ^ c < 65536 := Nat.or_lt_two_pow (n := 16) hz hp
 have e0 : IntKind.u16.wrap (2 ^ c) = ((2 ^ c : Nat) : Int) := by
  have e : (2 : Int) ^ c = ((2 ^ c : Nat) : Int) := by simp
  rw [e]
  exact IntWalk.u16_in _ ⟨Int.natCast_nonneg _, by have := Int.ofNat_lt.2 hp; omega⟩
 refine ⟨?_, hlt⟩
 rw [e0]
 generalize 2 ^ c = p at *
 have e1 : BitVec.ofInt 16 (z : Int) = BitVec.ofNat 16 z := by simp
 have e2 : BitVec.ofInt 16 (p : Int) = BitVec.ofNat 16 p := by simp
 have hm : (BitVec.ofNat 16 z ||| BitVec.ofNat 16 p).toNat = z ||| p := by
  simp [BitVec.toNat_or, Nat.mod_eq_of_lt hz, Nat.mod_eq_of_lt hp]
 show IntKind.u16.wrap ((BitVec.ofInt 16 (z : Int) ||| BitVec.ofInt 16 (p : Int)).toNat : Int) = _
 rw [e1, e2, hm]
 exact IntWalk.u16_in _ (by omega)
theorem sent_any {v : Value} {xs : List Rt} (q : Int) (w : World) (h : Hid (Routes w.heap.size w v xs)) :
  Calls Tryz.prog 220 #[v, .int .i64 q] w fun e w' => ∃ s : Nat, e = .returned (.int .u16 (s : Int)) ∧ s < 65536 ∧ Hid (∀ i, i < 16 -> s.testBit i = sentB xs q i) ∧ Below w.heap.size w w' := by
 go_enter Tryz.func220, Tryz.ntmps220
 go_wp2_with fail
 go_loopw [5, 9] (fun s i wr => ∃ c z : Nat, i = .int .i64 (c : Int) ∧ s = .int .u16 (z : Int) ∧ c <= 16 ∧ z < 65536 ∧ Below w.heap.size w wr ∧ Hid (∀ i, z.testBit i = (decide (i < c) && sentB xs q i))) (fun _ i _ => 16 - (intOf i).toNat)
 case atStart => exact ⟨0, 0, rfl, rfl, by omega, by omega, Below.refl _ _, fun i => by simp⟩
 case round =>
  obtain ⟨c, z, rfl, rfl, hc, hz, D1, hb⟩ := hrel
  by_cases hlt : c < 16
  ·have OU : Hid (Calls Tryz.prog 226 #[v, .int .i64 (c : Int)] wr fun e w'' => e = .returned (.tuple #[.int .i64 (outN xs (c : Int)), .bool (outB xs (c : Int))]) ∧ Below wr.heap.size wr w'') := out_any (c : Int) wr ((h.out.below D1).mono D1.size)
   have HS : Hid (sentB xs q c = (outB xs (c : Int) && (outN xs (c : Int) == q))) := rfl
   obtain ⟨o1, o2⟩ := or_u16 z c hz hlt
   have NO : Hid (sentB xs q c = false -> ∀ i, z.testBit i = (decide (i < c + 1) && sentB xs q i)) := fun hn i => by
    rw [hb.out i]
    by_cases hi : i = c
    ·subst hi
     rw [hn]
     simp
    ·congr 1
     rw [decide_eq_decide]
     omega
   have YES : Hid (sentB xs q c = true -> ∀ i, (z ||| 2 ^ c).testBit i = (decide (i < c + 1) && sentB xs q i)) := fun hy i => by
    rw [Nat.testBit_or, hb.out i, Nat.testBit_two_pow]
    by_cases hi : i = c
    ·subst hi
     rw [hy]
     simp
    ·have e1 : decide (i < c + 1) = decide (i < c) := by rw [decide_eq_decide]; omega
     have e2 : decide (c = i) = false := by simp; omega
     rw [e1, e2, Bool.or_false]
   clear hb
   generalize outN xs (c : Int) = n0 at *
   generalize outB xs (c : Int) = k0 at *
   go_wp2_with fail
   refine OU.out.mono ?_
   rintro e w2 ⟨rfl, hb2⟩
   have D2 := chn hb2 D1
   clear OU hb2 D1
   cases k0
   ·have NO' : Hid (∀ i, z.testBit i = (decide (i < c + 1) && sentB xs q i)) := NO.out (by rw [HS.out]; rfl)
    clear NO YES HS o1 o2
    go_wp2_with fail
    go_roundw
    case rel => exact ⟨c + 1, z, by go_num, rfl, by omega, hz, D2, NO'⟩
    case measure => simp [intOf]; omega
   ·cases hq : (n0 == q)
    ·have NO' : Hid (∀ i, z.testBit i = (decide (i < c + 1) && sentB xs q i)) := NO.out (by rw [HS.out, hq]; rfl)
     clear NO YES HS o1 o2
     go_wp2_with fail
     go_roundw
     case rel => exact ⟨c + 1, z, by go_num, rfl, by omega, hz, D2, NO'⟩
     case measure => simp [intOf]; omega
    ·have YES' : Hid (∀ i, (z ||| 2 ^ c).testBit i = (decide (i < c + 1) && sentB xs q i)) := YES.out (by rw [HS.out, hq]; rfl)
     have O1 : Hid (Go.bits .or .u16 (z : Int) (IntKind.u16.wrap (2 ^ c)) = ((z ||| 2 ^ c : Nat) : Int)) := o1
     clear NO YES HS o1
     go_wp2_with fail
     go_roundw
     case rel => exact ⟨c + 1, z ||| 2 ^ c, by go_num, congrArg (Value.int .u16) O1.out, by omega, o2, D2, YES'⟩
     case measure => simp [intOf]; omega
  ·obtain rfl : c = 16 := by omega
   have fin : Hid (∀ i, i < 16 -> z.testBit i = sentB xs q i) := fun i hi => by
    rw [hb.out i, decide_eq_true hi]
    rfl
   clear hb
   go_wp2_with fail
   go_ret
   exact ⟨z, rfl, hz, fin, D1⟩
theorem four_set (w : World) (n : Nat) (x : Value) (a b c d : Value) (h : Four w n a b c d) : (w.setCell ⟨n, 1, none⟩ x).cell? ⟨n, 0, none⟩ = some a ∧ (w.setCell ⟨n, 1, none⟩ x).cell? ⟨n, 1, none⟩ = some x ∧ (w.setCell ⟨n, 1, none⟩ x).cell? ⟨n, 2, none⟩ = some c ∧ (w.setCell ⟨n, 1, none⟩ x).cell? ⟨n, 3, none⟩ = some d := by
 obtain ⟨h0, h1, h2, h3, h4⟩ := h
 refine ⟨?_, ?_, ?_, ?_⟩ <;> simp [go_sem, h1, h2, h3, h4]
section
variable {base a M : Nat} {w : World} {ns : List Nd}
theorem fbuild_ok (h : Ar base a M 14 40000 w ns) {v : Value} {xs : List Rt} (q : Int) (hR : Hid (Routes w.heap.size w v xs)) (hc : checkV xs = 0) :
  Calls Tryz.prog 207 #[.pointer (some ⟨a, 0, none⟩), v, .int .i64 q] w fun e w' => ∃ s : Nat, (s < 65536 ∧ Hid (∀ i, i < 16 -> s.testBit i = sentB xs q i)) ∧ MkPost base a M 14 40000 w ns 44 0 (phi 65535 s 255 255) e w' := by
 have CK : Hid (Calls Tryz.prog 118 #[v] w fun e w'' => e = .returned (.int .i64 0) ∧ Below w.heap.size w w'') := by
  have := check_any w hR.out
  rw [hc] at this
  exact this
 clear hc
 go_enter Tryz.func207, Tryz.ntmps207
 go_wp2_with fail
 refine CK.out.mono ?_
 rintro e w1 ⟨rfl, D1⟩
 clear CK
 go_wp2_with fail
 refine (all_any _).mono ?_
 rintro e w2 ⟨rfl, hb2⟩
 have D2 := chn hb2 D1
 have D3 := Below.al D2 (.cells #[.int .u16 65535, .int .u16 65535, .int .u8 255, .int .u8 255] 32)
 have F3 := four_new w2 (.int .u16 65535) (.int .u16 65535) (.int .u8 255) (.int .u8 255) 32
 have fz3 : (w2.alloc (.cells #[.int .u16 65535, .int .u16 65535, .int .u8 255, .int .u8 255] 32)).frozen? ⟨w2.heap.size, 1, none⟩ = false := by simp [go_sem]
 have z2 := D2.size
 have SE : Hid (Calls Tryz.prog 220 #[v, .int .i64 q] (w2.alloc (.cells #[.int .u16 65535, .int .u16 65535, .int .u8 255, .int .u8 255] 32)) fun e w' => ∃ s : Nat, e = .returned (.int .u16 (s : Int)) ∧ s < 65536 ∧ Hid (∀ i, i < 16 -> s.testBit i = sentB xs q i) ∧ Below (w2.alloc (.cells #[.int .u16 65535, .int .u16 65535, .int .u8 255, .int .u8 255] 32)).heap.size (w2.alloc (.cells #[.int .u16 65535, .int .u16 65535, .int .u8 255, .int .u8 255] 32)) w') := sent_any q _ ((hR.out.below D3).mono D3.size)
 clear hb2 D1 D2 hR
 go_wp2_with fail
 refine SE.out.mono ?_
 rintro e w4 ⟨s, rfl, hs, hbits, hb4⟩
 have D4 := chn hb4 D3
 have F4 := keepFour hb4 F3
 have fz4 : w4.frozen? ⟨w2.heap.size, 1, none⟩ = false := (hb4.frozen (p := ⟨w2.heap.size, 1, none⟩) (by simp)).trans fz3
 have F5 := four_set w4 w2.heap.size (.int .u16 (s : Int)) _ _ _ _ F4
 have D5 := D4.setCell (p := ⟨w2.heap.size, 1, none⟩) z2 (.int .u16 (s : Int))
 have A5 := h.below D5
 have K5 := h.kbelow D5
 obtain ⟨_, x0, x1, x2, x3⟩ := id F4
 obtain ⟨y0, y1, y2, y3⟩ := F5
 have BM : Hid (Calls Tryz.prog 68 #[.pointer (some ⟨a, 0, none⟩), mt 65535 s 255 255] (w4.setCell ⟨w2.heap.size, 1, none⟩ (.int .u16 (s : Int))) (MkPost base a M 14 40000 (w4.setCell ⟨w2.heap.size, 1, none⟩ (.int .u16 (s : Int))) ns 44 0 (phi 65535 s 255 255))) := build_match A5 (Nat.le_refl _) 65535 s 255 255 (by omega) hs (by omega) (by omega)
 clear SE F3 fz3 D3 hb4 D4 A5 D5
 go_wp2_with fail
 refine BM.out.mono ?_
 rintro e w6 hp
 obtain ⟨ns6, v6, er6, rfl, A6, K6, X6, l6, d6⟩ := hp.pair
 have fin : Hid (MkPost base a M 14 40000 w ns 44 0 (phi 65535 s 255 255) (.returned (.tuple #[.int .i64 v6, .int .i64 er6])) w6) := by
  refine ⟨ns6, A6, K5.trans K6, X6, l6, ?_⟩
  rcases d6.out with ⟨rfl, f, rfl, r⟩ | ⟨rfl, rfl, r⟩
  ·exact Or.inl ⟨f, rfl, r⟩
  ·exact Or.inr ⟨rfl, r⟩
 clear BM hp d6 A6 K6 K5 X6 y0 y1 y2 y3 x0 x1 x2 x3 F4 h
 go_wp2_with fail
 go_ret2
 exact ⟨s, ⟨hs, hbits⟩, fin.out⟩
end
def sentN (xs : List Rt) (q : Int) : Nat -> Nat
 | 0 => 0
 | c + 1 => if sentB xs q c then sentN xs q c ||| 2 ^ c else sentN xs q c
theorem sentN_bit (xs : List Rt) (q : Int) : ∀ (c i : Nat), (sentN xs q c).testBit i = (decide (i < c) && sentB xs q i)
 | 0, i => by simp [sentN]
 | c + 1, i => by
   unfold sentN
   cases hs : sentB xs q c
   ·rw [if_neg (by simp), sentN_bit xs q c i]
    by_cases hi : i = c
    ·subst hi
     rw [hs]
     simp
    ·congr 1
     rw [decide_eq_decide]
     omega
   ·rw [if_pos rfl, Nat.testBit_or, sentN_bit xs q c i, Nat.testBit_two_pow]
    by_cases hi : i = c
    ·subst hi
     rw [hs]
     simp
    ·have e1 : decide (i < c + 1) = decide (i < c) := by rw [decide_eq_decide]; omega
     have e2 : decide (c = i) = false := by simp; omega
     rw [e1, e2, Bool.or_false]
theorem sent_eq {xs : List Rt} {q : Int} {s : Nat} (hs : s < 65536) (hb : ∀ i, i < 16 -> s.testBit i = sentB xs q i) : s = sentN xs q 16 := Nat.eq_of_testBit_eq fun i => by
 rw [sentN_bit]
 by_cases hi : i < 16
 ·rw [hb i hi, decide_eq_true hi]
  rfl
 ·rw [decide_eq_false hi, Nat.testBit_lt_two_pow (Nat.lt_of_lt_of_le hs (Nat.pow_le_pow_right (n := 2) (by omega) (show 16 <= i by omega)))]
  rfl
section
variable {base q a M : Nat} {w0 w : World} {ns : List Nd} {er : Int}
end
end Go.Proofs.YtppbfikimalojaaGreat
namespace Go.Proofs.YtppbfikimalojaaGreat
def T : Nat -> Nat -> (Env -> Bool) -> Env -> Nat
 | 0, _, g, e => if g e then 1 else 0
 | k + 1, i, g, e => T k (i + 1) g (setE e i false) + T k (i + 1) g (setE e i true)
def Dep (l vars : Nat) (g : Env -> Bool) : Prop := ∀ e e' : Env, (∀ x, l <= x -> x < vars -> e x = e' x) -> g e = g e'
theorem T_congr {l vars : Nat} {g : Env -> Bool} (hd : Dep l vars g) : ∀ (k i : Nat) (e e' : Env), (∀ x, l <= x -> x < vars -> (x < i ∨ i + k <= x) -> e x = e' x) -> T k i g e = T k i g e'
 | 0, i, e, e', h => by
   rw [T, T, hd e e' (fun x h1 h2 => h x h1 h2 (by omega))]
 | k + 1, i, e, e', h => by
   rw [T, T]
   have step : ∀ b, T k (i + 1) g (setE e i b) = T k (i + 1) g (setE e' i b) := fun b => by
    refine T_congr hd k (i + 1) _ _ (fun x h1 h2 h3 => ?_)
    by_cases hx : x = i
    ·subst hx; rw [setE_same, setE_same]
    ·rw [setE_ne _ _ hx, setE_ne _ _ hx]; exact h x h1 h2 (by omega)
   rw [step, step]
theorem T_eq {g g' : Env -> Bool} {v : Nat} {b : Bool} (hg : ∀ e : Env, e v = b -> g e = g' e) : ∀ (k i : Nat) (e : Env), v < i -> e v = b -> T k i g e = T k i g' e
 | 0, i, e, _, he => by rw [T, T, hg e he]
 | k + 1, i, e, hi, he => by
   rw [T, T, T_eq hg k (i + 1) _ (by omega) (by rw [setE_ne _ _ (by omega)]; exact he), T_eq hg k (i + 1) _ (by omega) (by rw [setE_ne _ _ (by omega)]; exact he)]
theorem T_le (g : Env -> Bool) : ∀ (k i : Nat) (e : Env), T k i g e <= 2 ^ k
 | 0, i, e => by rw [T]; split <;> simp
 | k + 1, i, e => by
   rw [T, Nat.pow_succ]
   have := T_le g k (i + 1) (setE e i false)
   have := T_le g k (i + 1) (setE e i true)
   omega
theorem T_ext {g g' : Env -> Bool} (h : ∀ e, g e = g' e) (k i : Nat) (e : Env) : T k i g e = T k i g' e := by rw [funext h]
def e00 : Env := fun _ => false
section
variable {vars : Nat} {ns ns' : List Nd}
theorem dep_ev (wf : Wf vars ns) {f : Nat} (hf : f < ns.length) : Dep (nv ns f) vars (ev ns f) := fun e e' h => ev_dep wf f hf e e' h
def cn (vars : Nat) (ns : List Nd) (f : Nat) : Nat := T (vars - nv ns f) (nv ns f) (ev ns f) e00
theorem cn_skip (wf : Wf vars ns) {f : Nat} (hf : f < ns.length) : ∀ (d i : Nat) (e : Env), i + d = nv ns f -> T (vars - i) i (ev ns f) e = cn vars ns f * 2 ^ d
 | 0, i, e, h => by
   have hi : i = nv ns f := by omega
   have := va_le wf hf
   rw [cn, <- hi, Nat.pow_zero, Nat.mul_one]
   exact T_congr (dep_ev wf hf) _ _ _ _ (fun x h1 h2 h3 => by omega)
 | d + 1, i, e, h => by
   have := va_le wf hf
   rw [show vars - i = (vars - (i + 1)) + 1 by omega, T, cn_skip wf hf d (i + 1) _ (by omega), cn_skip wf hf d (i + 1) _ (by omega), Nat.pow_succ, <- Nat.mul_assoc]
   omega
theorem cn_0 (wf : Wf vars ns) : cn vars ns 0 = 0 := by
 rw [cn, show nv ns 0 = vars by rw [nv, wf.n0], Nat.sub_self, T, ev0]
 rfl
theorem cn_1 (wf : Wf vars ns) : cn vars ns 1 = 1 := by
 rw [cn, show nv ns 1 = vars by rw [nv, wf.n1], Nat.sub_self, T, ev1]
 rfl
theorem cn_node (wf : Wf vars ns) {f : Nat} (f2 : 2 <= f) (hf : f < ns.length) : cn vars ns f = cn vars ns (nl ns f) * 2 ^ (nv ns (nl ns f) - nv ns f - 1) + cn vars ns (nh ns f) * 2 ^ (nv ns (nh ns f) - nv ns f - 1) := by
 have hv := wf.va f f2 hf
 have l1 := wf.lo f f2 hf
 have l2 := wf.hi f f2 hf
 have v1 := wf.vlo f f2 hf
 have v2 := wf.vhi f f2 hf
 have w1 := va_le wf (f := nl ns f) (by omega)
 have w2 := va_le wf (f := nh ns f) (by omega)
 rw [cn, show vars - nv ns f = (vars - (nv ns f + 1)) + 1 by omega, T]
 rw [T_eq (g' := ev ns (nl ns f)) (v := nv ns f) (b := false) (fun e he => by rw [ev_node wf f2 hf, he]; simp) _ _ _ (by omega) (setE_same _ _ _)]
 rw [T_eq (g' := ev ns (nh ns f)) (v := nv ns f) (b := true) (fun e he => by rw [ev_node wf f2 hf, he]; simp) _ _ _ (by omega) (setE_same _ _ _)]
 rw [cn_skip wf (by omega) (nv ns (nl ns f) - nv ns f - 1) _ _ (by omega), cn_skip wf (by omega) (nv ns (nh ns f) - nv ns f - 1) _ _ (by omega)]
theorem cn_le (f : Nat) : cn vars ns f <= 2 ^ (vars - nv ns f) := T_le _ _ _ _
theorem cn_all (wf : Wf vars ns) {f : Nat} (hf : f < ns.length) (e : Env) : cn vars ns f * 2 ^ nv ns f = T vars 0 (ev ns f) e := by
 have := cn_skip wf hf (nv ns f) 0 e (by omega)
 rw [Nat.sub_zero] at this
 exact this.symm
end
def S : List Nat -> (Env -> Bool) -> Env -> Nat
 | [], g, e => if g e then 1 else 0
 | i :: l, g, e => S l g (setE e i false) + S l g (setE e i true)
end Go.Proofs.YtppbfikimalojaaGreat
namespace Go.Proofs.YtppbfikimalojaaGreat
open Go.RowKit Go.Maps
theorem val_test : ∀ (k first : Nat) (x : Env) (j : Nat), j < k -> (val k first x).testBit (k - 1 - j) = x (first + j) := by
 intro k
 induction k with
 | zero => intro first x j h; omega
 | succ k ih =>
   intro first x j h
   have hlt := val_lt k (first + 1) x
   have e : val (k + 1) first x = (if x first then 2 ^ k else 0) + val k (first + 1) x := rfl
   rw [e]
   by_cases h0 : j = 0
   ·subst h0
    rw [show k + 1 - 1 - 0 = k by omega, Nat.add_zero]
    cases x first
    ·simp [Nat.testBit_lt_two_pow hlt]
    ·simp only [if_true]
     rw [Nat.testBit_two_pow_add_eq, Nat.testBit_lt_two_pow hlt]
     rfl
   ·have e2 : k + 1 - 1 - j = k - 1 - (j - 1) := by omega
    have e3 := ih (first + 1) x (j - 1) (by omega)
    rw [show first + 1 + (j - 1) = first + j by omega] at e3
    rw [e2]
    cases x first
    ·simpa using e3
    ·simp only [if_true]
     rw [Nat.testBit_two_pow_add_gt (by omega)]
     exact e3
def pkE (p : Pk) : Env := fun v => if v < 4 then p.s.toNat.testBit (3 - v) else if v < 8 then p.d.toNat.testBit (7 - v) else if v < 11 then p.sp.toNat.testBit (10 - v) else if v < 14 then p.dp.toNat.testBit (13 - v) else false
theorem val_of {k first n : Nat} {x : Env} (hn : n < 2 ^ k) (h : ∀ j, j < k -> x (first + j) = n.testBit (k - 1 - j)) : val k first x = n := by
 refine Nat.eq_of_testBit_eq fun i => ?_
 by_cases hi : i < k
 ·have e := val_test k first x (k - 1 - i) (by omega)
  rw [h _ (by omega), show k - 1 - (k - 1 - i) = i by omega] at e
  exact e
 ·rw [Nat.testBit_lt_two_pow (Nat.lt_of_lt_of_le (val_lt k first x) (Nat.pow_le_pow_right (by omega) (by omega))), Nat.testBit_lt_two_pow (Nat.lt_of_lt_of_le hn (Nat.pow_le_pow_right (by omega) (by omega)))]
theorem pk_bounds {p : Pk} (h : pkOk p = true) : (0 <= p.s ∧ p.s < 16) ∧ (0 <= p.d ∧ p.d < 16) ∧ (0 <= p.sp ∧ p.sp < 8) ∧ (0 <= p.dp ∧ p.dp < 8) := by
 unfold pkOk adB poB at h
 simp only [Bool.and_eq_true, decide_eq_true_eq] at h
 obtain ⟨⟨⟨h1, h2⟩, h3⟩, h4⟩ := h
 exact ⟨h1, h2, h3, h4⟩
theorem pk_made {p : Pk} (h1 : 0 <= p.s ∧ p.s < 16) (h2 : 0 <= p.d ∧ p.d < 16) (h3 : 0 <= p.sp ∧ p.sp < 8) (h4 : 0 <= p.dp ∧ p.dp < 8) : pkOk p = true := by
 unfold pkOk adB poB
 simp only [Bool.and_eq_true, decide_eq_true_eq]
 exact ⟨⟨⟨h1, h2⟩, h3⟩, h4⟩
theorem phi_pk (sa sb sc sd : Nat) {p : Pk} (h : pkOk p = true) : phi sa sb sc sd (pkE p) = (sa.testBit p.s.toNat && (sb.testBit p.d.toNat && (sc.testBit p.sp.toNat && sd.testBit p.dp.toNat))) := by
 obtain ⟨h1, h2, h3, h4⟩ := pk_bounds h
 unfold phi
 rw [sel_val, sel_val, sel_val, sel_val, Bool.and_true,
  val_of (k := 4) (first := 0) (n := p.s.toNat) (by show _ < 16; omega) (fun j hj => by unfold pkE; rw [if_pos (by omega)]; congr 1; omega),
  val_of (k := 4) (first := 4) (n := p.d.toNat) (by show _ < 16; omega) (fun j hj => by unfold pkE; rw [if_neg (by omega), if_pos (by omega)]; congr 1; omega),
  val_of (k := 3) (first := 8) (n := p.sp.toNat) (by show _ < 8; omega) (fun j hj => by unfold pkE; rw [if_neg (by omega), if_neg (by omega), if_pos (by omega)]; congr 1; omega),
  val_of (k := 3) (first := 11) (n := p.dp.toNat) (by show _ < 8; omega) (fun j hj => by unfold pkE; rw [if_neg (by omega), if_neg (by omega), if_neg (by omega), if_pos (by omega)]; congr 1; omega)]
theorem letsF_pk : ∀ (xs : List Rl) {p : Pk}, pkOk p = true -> letsF xs (pkE p) = letsB xs p.s p.d p.sp p.dp
 | [], _, _ => rfl
 | r :: l, p, h => by
   have e : phi r.a r.b r.c r.d (pkE p) = inR r p.s p.d p.sp p.dp := by
    rw [phi_pk _ _ _ _ h]
    obtain ⟨h1, h2, h3, h4⟩ := pk_bounds h
    unfold inR inB hasB
    rw [decide_eq_true h1.1, decide_eq_true h2.1, decide_eq_true h3.1, decide_eq_true h4.1]
    simp [Bool.and_assoc]
   rw [letsF, letsB, e, letsF_pk l h]
theorem full16 {n : Int} (h : 0 <= n ∧ n < 16) : Nat.testBit 65535 n.toNat = true := by
 have : ∀ m, m < 16 -> Nat.testBit 65535 m = true := by decide
 exact this _ (by omega)
theorem full8 {n : Int} (h : 0 <= n ∧ n < 8) : Nat.testBit 255 n.toNat = true := by
 have : ∀ m, m < 8 -> Nat.testBit 255 m = true := by decide
 exact this _ (by omega)
def updE (e : Env) (i k c : Nat) : Env := fun v => if i <= v ∧ v < i + k then c.testBit (i + k - 1 - v) else e v
def cntB (f : Nat -> Bool) : Nat -> Nat
 | 0 => 0
 | c + 1 => cntB f c + if f c = true then 1 else 0
theorem cntB_congr {f g : Nat -> Bool} : ∀ n, (∀ c, c < n -> f c = g c) -> cntB f n = cntB g n
 | 0, _ => rfl
 | n + 1, h => by
   unfold cntB
   rw [cntB_congr n (fun c hc => h c (by omega)), h n (by omega)]
theorem cntB_add (f : Nat -> Bool) (a : Nat) : ∀ b, cntB f (a + b) = cntB f a + cntB (fun c => f (a + c)) b
 | 0 => rfl
 | b + 1 => by
   show cntB f (a + b) + _ = cntB f a + (cntB (fun c => f (a + c)) b + _)
   rw [cntB_add f a b, Nat.add_assoc]
   rfl
theorem T_cnt (g : Env -> Bool) : ∀ (k i : Nat) (e : Env), T k i g e = cntB (fun c => g (updE e i k c)) (2 ^ k)
 | 0, i, e => by
   have : updE e i 0 0 = e := by
    funext v
    unfold updE
    rw [if_neg (by omega)]
   show (if g e = true then 1 else 0) = 0 + if g (updE e i 0 0) = true then 1 else 0
   rw [this, Nat.zero_add]
 | k + 1, i, e => by
   rw [T, T_cnt g k (i + 1) (setE e i false), T_cnt g k (i + 1) (setE e i true), Nat.pow_succ, Nat.mul_two, cntB_add]
   congr 1
   ·refine cntB_congr _ fun c hc => congrArg g (funext fun v => ?_)
    unfold updE setE
    by_cases h : i + 1 <= v ∧ v < i + 1 + k
    ·rw [if_pos h, if_pos (by omega), show i + (k + 1) - 1 - v = i + 1 + k - 1 - v by omega]
    ·rw [if_neg h]
     by_cases e : v = i
     ·subst e
      rw [if_pos rfl, if_pos (by omega), show v + (k + 1) - 1 - v = k by omega, Nat.testBit_lt_two_pow hc]
     ·rw [if_neg e, if_neg (by omega)]
   ·refine cntB_congr _ fun c hc => congrArg g (funext fun v => ?_)
    unfold updE setE
    by_cases h : i + 1 <= v ∧ v < i + 1 + k
    ·rw [if_pos h, if_pos (by omega), show i + (k + 1) - 1 - v = i + 1 + k - 1 - v by omega, Nat.testBit_two_pow_add_gt (by omega)]
    ·rw [if_neg h]
     by_cases e : v = i
     ·subst e
      rw [if_pos rfl, if_pos (by omega), show v + (k + 1) - 1 - v = k by omega, Nat.testBit_two_pow_add_eq, Nat.testBit_lt_two_pow hc]
      rfl
     ·rw [if_neg e, if_neg (by omega)]
def pkN (c : Nat) : Pk := ⟨((c / 1024 : Nat) : Int), ((c / 64 % 16 : Nat) : Int), ((c / 8 % 8 : Nat) : Int), ((c % 8 : Nat) : Int)⟩
theorem pkN_ok {c : Nat} (h : c < 16384) : pkOk (pkN c) = true := by
 unfold pkN
 exact pk_made (by dsimp only; omega) (by dsimp only; omega) (by dsimp only; omega) (by dsimp only; omega)
theorem bit_part (c k n m : Nat) (h : m < n) : (c / 2 ^ k % 2 ^ n).testBit m = c.testBit (k + m) := by
 rw [Nat.testBit_mod_two_pow, decide_eq_true h, Bool.true_and, Nat.testBit_div_two_pow, Nat.add_comm]
theorem pkE_code {c : Nat} (hc : c < 16384) : pkE (pkN c) = updE e00 0 14 c := by
 funext v
 unfold pkE updE pkN
 dsimp only
 by_cases h1 : v < 4
 ·rw [if_pos h1, if_pos (by omega)]
  have := bit_part c 10 4 (3 - v) (by omega)
  rw [Nat.mod_eq_of_lt (show c / 2 ^ 10 < 2 ^ 4 by omega)] at this
  rw [show ((((c / 1024 : Nat) : Int)).toNat) = c / 2 ^ 10 by omega, this]
  congr 1
  omega
 ·rw [if_neg h1]
  by_cases h2 : v < 8
  ·rw [if_pos h2, if_pos (by omega)]
   have := bit_part c 6 4 (7 - v) (by omega)
   rw [show ((((c / 64 % 16 : Nat) : Int)).toNat) = c / 2 ^ 6 % 2 ^ 4 by omega, this]
   congr 1
   omega
  ·rw [if_neg h2]
   by_cases h3 : v < 11
   ·rw [if_pos h3, if_pos (by omega)]
    have := bit_part c 3 3 (10 - v) (by omega)
    rw [show ((((c / 8 % 8 : Nat) : Int)).toNat) = c / 2 ^ 3 % 2 ^ 3 by omega, this]
    congr 1
    omega
   ·rw [if_neg h3]
    by_cases h4 : v < 14
    ·rw [if_pos h4, if_pos (by omega)]
     have := bit_part c 0 3 (13 - v) (by omega)
     rw [show ((((c % 8 : Nat) : Int)).toNat) = c / 2 ^ 0 % 2 ^ 3 by omega, this]
     congr 1
     omega
    ·rw [if_neg h4, if_neg (by omega)]
     rfl
def routedF (ds : List Dv) (ls : List Lk) (G : Nat -> Env -> Bool) (d : Dv) (i : Nat) : Nat -> Env -> Bool
 | 0 => fun _ => false
 | k + 1 => fun x => match peerF ls i (k : Int) with
   | none => routedF ds ls G d i k x
   | some t => if phi 65535 (sentN (routesOf d) (k : Int) 16) 255 255 x then G t.1.toNat x else routedF ds ls G d i k x
def hopF (ds : List Dv) (ls : List Lk) (G : Nat -> Env -> Bool) (i : Nat) : Env -> Bool :=
 match ds[i]? with
 | none => fun _ => false
 | some d => fun x => routedF ds ls G d i (portsV d.kind).toNat x && letsF (rulesOf d) x
def FF (ds : List Dv) (ls : List Lk) : Nat -> Nat -> Env -> Bool
 | 0 => fun _ _ => true
 | k + 1 => hopF ds ls (FF ds ls k)
section
variable {ds : List Dv} {ls : List Lk}
theorem sent_phi (xs : List Rt) (q : Int) {p : Pk} (hp : pkOk p = true) : phi 65535 (sentN xs q 16) 255 255 (pkE p) = (outB xs p.d && (outN xs p.d == q)) := by
 obtain ⟨h1, h2, h3, h4⟩ := pk_bounds hp
 rw [phi_pk _ _ _ _ hp, full16 h1, full8 h3, full8 h4, sentN_bit, decide_eq_true (show p.d.toNat < 16 by omega)]
 unfold sentB
 rw [show ((p.d.toNat : Nat) : Int) = p.d by omega]
 simp
theorem routed_in (G : Nat -> Env -> Bool) (d : Dv) (i : Nat) {p : Pk} (hp : pkOk p = true) : ∀ k, routedF ds ls G d i k (pkE p) = true ↔ (outB (routesOf d) p.d = true ∧ 0 <= outN (routesOf d) p.d ∧ outN (routesOf d) p.d < (k : Int) ∧ ∃ t, peerF ls i (outN (routesOf d) p.d) = some t ∧ G t.1.toNat (pkE p) = true)
 | 0 => by
   constructor
   ·intro h
    cases h
   ·rintro ⟨_, h1, h2, _⟩
    omega
 | k + 1 => by
   have ih := routed_in G d i hp k
   unfold routedF
   cases hx : peerF ls (i : Int) (k : Int) with
   | none =>
     dsimp only
     rw [ih]
     constructor
     ·rintro ⟨a, b, c, e⟩
      exact ⟨a, b, by omega, e⟩
     ·rintro ⟨a, b, c, t, e, e2⟩
      by_cases ek : outN (routesOf d) p.d = (k : Int)
      ·rw [ek, hx] at e
       cases e
      ·exact ⟨a, b, by omega, t, e, e2⟩
   | some t =>
     dsimp only
     rw [sent_phi _ _ hp]
     by_cases hc : (outB (routesOf d) p.d && (outN (routesOf d) p.d == (k : Int))) = true
     ·rw [if_pos hc]
      rw [Bool.and_eq_true, beq_iff_eq] at hc
      constructor
      ·intro h
       exact ⟨hc.1, by omega, by omega, t, by rw [hc.2]; exact hx, h⟩
      ·rintro ⟨_, _, _, t', e, e2⟩
       rw [hc.2, hx] at e
       cases e
       exact e2
     ·rw [if_neg hc, ih]
      rw [Bool.and_eq_true, beq_iff_eq] at hc
      constructor
      ·rintro ⟨a, b, c, e⟩
       exact ⟨a, b, by omega, e⟩
      ·rintro ⟨a, b, c, e⟩
       have hne : outN (routesOf d) p.d ≠ (k : Int) := fun e => hc ⟨a, e⟩
       exact ⟨a, b, by omega, e⟩
theorem host_none {d : Dv} (hd : devC d = 0) (hk : d.kind = 1) : d.routes = [] := by
 unfold devC devV at hd
 rw [hk] at hd
 by_cases hr : 0 < d.routes.length
 ·rw [decide_eq_true hr] at hd
  simp at hd
  repeat' (split at hd <;> first | (exfalso; exact absurd hd (by omega)) | skip)
 ·exact List.length_eq_zero_iff.1 (by omega)
theorem port_of (hz : netV ds ls = 0) {i : Nat} {o : Int} {t : Plc} (h : peerF ls (i : Int) o = some t) : isPl ds (i : Int) o = true := by
 obtain ⟨l, hl, he⟩ := peerF_of h
 have hp := (netV_links hz).2.2.2 l hl
 rcases endOf_ends he with ⟨e, _⟩ | ⟨e, _⟩
 ·have := hp.1
  rw [e.1, e.2] at this
  exact this
 ·have := hp.2
  rw [e.1, e.2] at this
  exact this
theorem nx_router {i : Nat} {q : Int} {d : Dv} {p : Pk} (hd : ds[i]? = some d) (hk : d.kind = 2) (hp : pkOk p = true) (hpl : isPl ds (i : Int) q = true) (t : Plc) : nxF ds ls p ((i : Int), q) = some t ↔ (outB (routesOf d) p.d = true ∧ letsB (rulesOf d) p.s p.d p.sp p.dp = true) ∧ peerF ls i (outN (routesOf d) p.d) = some t := by
 have hg : ds.getD (i : Int).toNat default = d := by
  rw [show (i : Int).toNat = i by omega, List.getD_eq_getElem?_getD, hd]
  rfl
 unfold nxF handleP
 dsimp only
 rw [if_pos hpl, if_pos hp, hg]
 unfold sendP
 rw [if_pos hk]
 unfold routeP
 cases hb : (outB (routesOf d) p.d && letsB (rulesOf d) p.s p.d p.sp p.dp)
 ·simp [stayR, badH]
  intro h1 h2
  rw [h1, h2] at hb
  cases hb
 ·rw [Bool.and_eq_true] at hb
  simp only [if_true, passR]
  cases hx : peerF ls (i : Int) (outN (routesOf d) p.d) with
  | none => simp [badH]
  | some t' => simp [hb.1, hb.2]
theorem nx_host {i : Nat} {q : Int} {d : Dv} {p : Pk} (hd : ds[i]? = some d) (hk : d.kind = 1) (hp : pkOk p = true) (hpl : isPl ds (i : Int) q = true) : nxF ds ls p ((i : Int), q) = none := by
 have hg : ds.getD (i : Int).toNat default = d := by
  rw [show (i : Int).toNat = i by omega, List.getD_eq_getElem?_getD, hd]
  rfl
 unfold nxF handleP
 dsimp only
 rw [if_pos hpl, if_pos hp, hg]
 unfold sendP
 rw [hk]
 simp [stayR, badH]
theorem hop_nx (hz : netV ds ls = 0) (hk : PlainD ds) (hdv : ∀ d ∈ ds, devC d = 0) (G : Nat -> Env -> Bool) {i : Nat} {q : Int} {p : Pk} (hp : pkOk p = true) (hpl : isPl ds (i : Int) q = true) : hopF ds ls G i (pkE p) = true ↔ ∃ t, nxF ds ls p ((i : Int), q) = some t ∧ G t.1.toNat (pkE p) = true := by
 have hi : i < ds.length := by
  have := (isPl_b hpl).2.1
  omega
 obtain ⟨d, hd⟩ : ∃ d, ds[i]? = some d := ⟨_, List.getElem?_eq_getElem hi⟩
 unfold hopF
 rw [hd]
 dsimp only
 rw [Bool.and_eq_true, routed_in G d i hp, letsF_pk _ hp]
 rcases hk d (List.mem_of_getElem? hd) with k1 | k2
 ·rw [nx_host hd k1 hp hpl]
  have hr : routesOf d = [] := by
   unfold routesOf
   rw [host_none (hdv d (List.mem_of_getElem? hd)) k1]
   rfl
  rw [hr]
  constructor
  ·rintro ⟨⟨h1, _⟩, _⟩
   simp [outB, bestOf] at h1
  ·rintro ⟨t, h, _⟩
   cases h
 ·have hport : ((portsV d.kind).toNat : Int) = 4 := by rw [k2]; rfl
  constructor
  ·rintro ⟨⟨h1, h2, h3, t, h4, h5⟩, h6⟩
   exact ⟨t, (nx_router hd k2 hp hpl t).2 ⟨⟨h1, h6⟩, h4⟩, h5⟩
  ·rintro ⟨t, h4, h5⟩
   obtain ⟨⟨h1, h6⟩, h4⟩ := (nx_router hd k2 hp hpl t).1 h4
   have ho := port_of hz h4
   have hb := isPl_b ho
   exact ⟨⟨h1, hb.2.2.1, by omega, t, h4, h5⟩, h6⟩
def iterN (nx : Plc -> Option Plc) : Nat -> Plc -> Option Plc
 | 0, t => some t
 | k + 1, t => (nx t).bind (iterN nx k)
theorem ff_iter (hz : netV ds ls = 0) (hk : PlainD ds) (hdv : ∀ d ∈ ds, devC d = 0) {p : Pk} (hp : pkOk p = true) : ∀ (k : Nat) (t : Plc), isPl ds t.1 t.2 = true -> (FF ds ls k t.1.toNat (pkE p) = true ↔ (iterN (nxF ds ls p) k t).isSome = true)
 | 0, t, _ => by simp [FF, iterN]
 | k + 1, t, hpl => by
   have hb := isPl_b hpl
   have h := hop_nx hz hk hdv (FF ds ls k) (i := t.1.toNat) (q := t.2) hp (by rw [show ((t.1.toNat : Nat) : Int) = t.1 by omega]; exact hpl)
   rw [show ((t.1.toNat : Nat) : Int) = t.1 by omega] at h
   show hopF ds ls (FF ds ls k) t.1.toNat (pkE p) = true ↔ ((nxF ds ls p t).bind (iterN (nxF ds ls p) k)).isSome = true
   rw [h]
   constructor
   ·rintro ⟨t', h1, h2⟩
    have := (ff_iter hz hk hdv hp k t' (nx_place hz h1)).1 h2
    have e : nxF ds ls p t = some t' := h1
    rw [e]
    exact this
   ·intro h1
    cases e : nxF ds ls p t with
    | none => rw [e] at h1; cases h1
    | some t' =>
      rw [e] at h1
      exact ⟨t', rfl, (ff_iter hz hk hdv hp k t' (nx_place hz e)).2 h1⟩
theorem nx_same (hk : PlainD ds) {p : Pk} (hp : pkOk p = true) {t u : Plc} (h1 : isPl ds t.1 t.2 = true) (h2 : isPl ds u.1 u.2 = true) (e : t.1 = u.1) : nxF ds ls p t = nxF ds ls p u := by
 obtain ⟨i, q⟩ := t
 obtain ⟨j, r⟩ := u
 dsimp only at *
 subst e
 have hb := isPl_b h1
 obtain ⟨n, rfl⟩ : ∃ n : Nat, i = (n : Int) := ⟨i.toNat, by omega⟩
 obtain ⟨d, hd⟩ : ∃ d, ds[n]? = some d := ⟨_, List.getElem?_eq_getElem (by omega)⟩
 rcases hk d (List.mem_of_getElem? hd) with k1 | k2
 ·rw [nx_host hd k1 hp h1, nx_host hd k1 hp h2]
 ·refine Option.ext fun t => ?_
  rw [nx_router hd k2 hp h1, nx_router hd k2 hp h2]
theorem iter_at {nx : Plc -> Option Plc} {t0 : Plc} {l : List Plc} {r : Bool} {D : List Dv} (h : Ended D nx t0 l r) : ∀ k x, l[k]? = some x -> iterN nx k t0 = some x := by
 have snoc : ∀ k t, iterN nx (k + 1) t = (iterN nx k t).bind nx := fun k => by
  induction k with
  | zero => intro t; show (nx t).bind some = nx t; cases nx t <;> rfl
  | succ k ih =>
    intro t
    show (nx t).bind (iterN nx (k + 1)) = ((nx t).bind (iterN nx k)).bind nx
    cases nx t with
    | none => rfl
    | some u => exact ih u
 intro k
 induction k with
 | zero =>
   intro x hx
   rw [h.head] at hx
   exact hx
 | succ k ih =>
   intro x hx
   have hl := (List.getElem?_eq_some_iff.1 hx).1
   obtain ⟨y, hy⟩ : ∃ y, l[k]? = some y := ⟨_, List.getElem?_eq_getElem (by omega)⟩
   obtain ⟨z, h1, h2⟩ := h.on k y hy hl
   rw [hx] at h1
   cases h1
   rw [snoc, ih y hy]
   exact h2
theorem round_iter {nx : Plc -> Option Plc} {t0 : Plc} {l : List Plc} {D : List Dv} (h : Ended D nx t0 l true) : ∀ k, ∃ x ∈ l, iterN nx k t0 = some x := by
 have step : ∀ x ∈ l, ∃ y ∈ l, nx x = some y := fun x hx => by
  obtain ⟨k, hk, e⟩ := List.mem_iff_getElem.1 hx
  have hx' : l[k]? = some x := by rw [List.getElem?_eq_getElem hk, e]
  by_cases hl : k + 1 < l.length
  ·obtain ⟨y, h1, h2⟩ := h.on k x hx' hl
   exact ⟨y, List.mem_of_getElem? h1, h2⟩
  ·obtain ⟨y, h1, h2⟩ := h.rnd rfl x (by rw [show l.length - 1 = k by omega]; exact hx')
   exact ⟨y, h2, h1⟩
 have go : ∀ k x, x ∈ l -> ∃ y ∈ l, iterN nx k x = some y := fun k => by
  induction k with
  | zero => exact fun x hx => ⟨x, hx, rfl⟩
  | succ k ih =>
    intro x hx
    obtain ⟨y, h1, h2⟩ := step x hx
    obtain ⟨z, h3, h4⟩ := ih y h1
    refine ⟨z, h3, ?_⟩
    show (nx x).bind (iterN nx k) = some z
    rw [h2]
    exact h4
 intro k
 exact go k t0 (List.mem_of_getElem? h.head)
theorem iter_none {nx : Plc -> Option Plc} {t : Plc} {j : Nat} (h : iterN nx j t = none) : ∀ k, j <= k -> iterN nx k t = none := by
 induction j generalizing t with
 | zero => cases h
 | succ j ih =>
   intro k hk
   cases k with
   | zero => omega
   | succ k =>
     show (nx t).bind (iterN nx k) = none
     have h' : (nx t).bind (iterN nx j) = none := h
     cases e : nx t with
     | none => rfl
     | some u =>
       rw [e] at h'
       exact ih h' k (by omega)
theorem goes_round (hz : netV ds ls = 0) (hk : PlainD ds) (hdv : ∀ d ∈ ds, devC d = 0) {p : Pk} (hp : pkOk p = true) {t : Plc} (ht : isPl ds t.1 t.2 = true) : (wayP ds ls p t).2 = FF ds ls ds.length t.1.toNat (pkE p) := by
 rw [Bool.eq_iff_iff, ff_iter hz hk hdv hp _ t ht]
 have h := way_ended (ls := ls) hz (p := p) ht
 generalize wayP ds ls p t = z at h
 obtain ⟨l, r⟩ := z
 dsimp only at h ⊢
 cases r with
 | true =>
   obtain ⟨x, _, h2⟩ := round_iter h ds.length
   rw [h2]
   simp
 | false =>
   have hne : 0 < l.length := (List.getElem?_eq_some_iff.1 h.head).1
   obtain ⟨x, hx⟩ : ∃ x, l[l.length - 1]? = some x := ⟨_, List.getElem?_eq_getElem (by omega)⟩
   have hi := iter_at h _ _ hx
   have hn := h.rest rfl x hx
   have inj : ∀ (a b : Nat) (u v : Plc), l[a]? = some u -> l[b]? = some v -> a < b -> u.1 ≠ v.1 := fun a b u v ha hb hlt e => by
    have hbl := (List.getElem?_eq_some_iff.1 hb).1
    have en := nx_same (ls := ls) hk hp (h.pl u (List.mem_of_getElem? ha)) (h.pl v (List.mem_of_getElem? hb)) e
    obtain ⟨y, h1, h2⟩ := h.on a u ha (by omega)
    by_cases hl : b + 1 < l.length
    ·obtain ⟨z, h3, h4⟩ := h.on b v hb hl
     rw [<- en, h2] at h4
     cases h4
     have := (List.getElem?_inj (by omega) h.nd).1 (h1.trans h3.symm)
     omega
    ·rw [show b = l.length - 1 by omega, hx] at hb
     cases hb
     rw [<- en, h2] at hn
     cases hn
   have hlen : l.length <= ds.length := by
    have hnd : (l.map fun x => x.1.toNat).Nodup := by
     rw [List.Nodup, List.pairwise_map, List.pairwise_iff_getElem]
     intro a b ha hb hab e
     have p1 := isPl_b (h.pl l[a] (List.getElem_mem ha))
     have p2 := isPl_b (h.pl l[b] (List.getElem_mem hb))
     exact inj a b _ _ (List.getElem?_eq_getElem ha) (List.getElem?_eq_getElem hb) hab (by omega)
    have := nodup_lt ds.length _ hnd (fun y hy => by
     obtain ⟨x, hx, rfl⟩ := List.mem_map.1 hy
     have := isPl_b (h.pl x hx)
     omega)
    simpa using this
   have snoc : ∀ k t, iterN (nxF ds ls p) (k + 1) t = (iterN (nxF ds ls p) k t).bind (nxF ds ls p) := fun k => by
    induction k with
    | zero => intro t; show (nxF ds ls p t).bind some = nxF ds ls p t; cases nxF ds ls p t <;> rfl
    | succ k ih =>
      intro t
      show (nxF ds ls p t).bind (iterN (nxF ds ls p) (k + 1)) = ((nxF ds ls p t).bind (iterN (nxF ds ls p) k)).bind (nxF ds ls p)
      cases nxF ds ls p t with
      | none => rfl
      | some u => exact ih u
   have h0 : iterN (nxF ds ls p) l.length t = none := by
    have := snoc (l.length - 1) t
    rw [show l.length - 1 + 1 = l.length by omega, hi] at this
    rw [this]
    exact hn
   rw [iter_none h0 _ hlen]
   simp
end
section
variable {base q a M : Nat} {w0 w : World} {ns : List Nd} {er : Int}
def orP (φ0 φ1 φ2 φ3 : Env -> Bool) : Nat -> Env -> Bool
 | 0 => fun _ => false
 | 1 => fun x => false || φ0 x
 | 2 => fun x => (false || φ0 x) || φ1 x
 | 3 => fun x => ((false || φ0 x) || φ1 x) || φ2 x
 | _ => fun x => (((false || φ0 x) || φ1 x) || φ2 x) || φ3 x
end
section
variable {base q a M : Nat} {w0 w : World} {ns : List Nd} {er : Int}
end
end Go.Proofs.YtppbfikimalojaaGreat
