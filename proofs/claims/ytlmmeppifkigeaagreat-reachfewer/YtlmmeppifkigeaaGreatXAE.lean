/-
  Build of a match; New at wrong arguments.
-/
import Derived.Test.YtlmmeppifkigeaaGreatXAD
import Derived.Test.YtlmmeppifkigeaaGreatProg
import Derived.WalkKit
import Derived.OrdersIn
import Derived.RangeFuncCalls
import Derived.Deep.RegionHeld
import Derived.Test.YtlmmeppifkigeaaGreatLy
import Derived.Test.YtlmmeppifkigeaaGreatXAC
namespace Go.Proofs.YtlmmeppifkigeaaGreat
open Go.RowKit Go.Maps

/-- What Build makes. -/
def phi (sa sb sc sd : Nat) (x : Env) : Bool := sel 4 sa 0 x && (sel 4 sb 4 x && (sel 3 sc 8 x && (sel 3 sd 11 x && true)))
theorem sel_zero (k first : Nat) (x : Env) : sel k 0 first x = false := by rw [sel_val]; simp

section
variable {base a M vars most : Nat} {w w' : World} {ns : List Nd}
theorem Loc.four {C : Cfg} {w : World} {i : Nat} {x y z u : Value} {t : TypeId} (h : Loc C w i #[x, y, z, u] t) : w.cell? ⟨i, 0, none⟩ = some x ∧ w.cell? ⟨i, 1, none⟩ = some y ∧ w.cell? ⟨i, 2, none⟩ = some z ∧ w.cell? ⟨i, 3, none⟩ = some u :=
  ⟨by rw [cell_of_row w i 0 _ _ _ h.blk]; rfl, by rw [cell_of_row w i 1 _ _ _ h.blk]; rfl, by rw [cell_of_row w i 2 _ _ _ h.blk]; rfl, by rw [cell_of_row w i 3 _ _ _ h.blk]; rfl⟩

theorem new_bad (v : Int) (w : World) (h : v < 1 ∨ 16 < v) : Calls Tryz.prog 26 #[.int .i64 v, .int .i64 40] w fun e w' => e = .returned (.tuple #[.pointer none, .int .i64 1]) ∧ w' = w := by
  by_cases h1 : v < 1
  · have t1 : decide (v < 1) = true := by simp [h1]
    go_enter Tryz.func26, Tryz.ntmps26
    go_wp2_with fail
    go_ret2
    exact ⟨rfl, rfl⟩
  · have h2 : 16 < v := by omega
    have t1 : decide (v < 1) = false := by simp [h1]
    have t2 : decide (16 < v) = true := by simp [h2]
    go_enter Tryz.func26, Tryz.ntmps26
    go_wp2_with fail
    go_ret2
    exact ⟨rfl, rfl⟩

set_option maxHeartbeats 1000000 in
theorem build_few (h : Ar base a M vars most w ns) (hv : vars < 14) (sa sb sc sd : Nat) :
    Calls Tryz.prog 52 #[.pointer (some ⟨a, 0, none⟩), mt sa sb sc sd] w fun e w' => e = .returned (.tuple #[.int .i64 0, .int .i64 1]) ∧ Below w.heap.size w w' := by
  have A0 := h.alloc (.cells #[.int .u16 (sa : Int), .int .u16 (sb : Int), .int .u8 (sc : Int), .int .u8 (sd : Int)] 50)
  have t1 : decide ((vars : Int) < 14) = true := by simp; omega
  go_enter Tryz.func52, Tryz.ntmps52
  go_wp2_with fail
  refine (vars_any A0).mono ?_
  rintro e w1 ⟨rfl, rfl⟩
  go_wp2_with fail
  go_ret2
  exact ⟨rfl, by go_grown⟩

set_option maxHeartbeats 2000000 in
theorem build_none (h : Ar base a M vars most w ns) (hv : 14 ≤ vars) (sa sb sc sd : Nat) (hz : sa = 0 ∨ sb = 0 ∨ sc = 0 ∨ sd = 0) :
    Calls Tryz.prog 52 #[.pointer (some ⟨a, 0, none⟩), mt sa sb sc sd] w (MkPost base a M vars most w ns 44 0 (phi sa sb sc sd)) := by
  have l2 := h.wf.len
  have L0 := h.loc #[.int .u16 (sa : Int), .int .u16 (sb : Int), .int .u8 (sc : Int), .int .u8 (sd : Int)] 50
  have A0 := h.alloc (.cells #[.int .u16 (sa : Int), .int .u16 (sb : Int), .int .u8 (sc : Int), .int .u8 (sd : Int)] 50)
  have K0 := Ar.kalloc' h (.cells #[.int .u16 (sa : Int), .int .u16 (sb : Int), .int .u8 (sc : Int), .int .u8 (sd : Int)] 50)
  have t1 : decide ((vars : Int) < 14) = false := by simp; omega
  have fin : MkPost base a M vars most w ns 44 0 (phi sa sb sc sd) (.returned (.tuple #[.int .i64 0, .int .i64 0])) (w.alloc (.cells #[.int .u16 (sa : Int), .int .u16 (sb : Int), .int .u8 (sc : Int), .int .u8 (sd : Int)] 50)) :=
    ⟨ns, A0, K0, Ext.refl _, by omega, Or.inl ⟨0, rfl, by omega, Nat.zero_le _, fun x => by
      rw [ev0]
      unfold phi
      rcases hz with rfl | rfl | rfl | rfl <;> simp [sel_zero]⟩⟩
  clear L0 K0
  by_cases za : sa = 0
  · subst za
    go_enter Tryz.func52, Tryz.ntmps52
    go_wp2_with fail
    refine (vars_any A0).mono ?_
    rintro e w1 ⟨rfl, rfl⟩
    go_wp2_with fail
    go_ret2
    exact fin
  by_cases zb : sb = 0
  · subst zb
    go_enter Tryz.func52, Tryz.ntmps52
    go_wp2_with fail
    refine (vars_any A0).mono ?_
    rintro e w1 ⟨rfl, rfl⟩
    go_wp2_with fail
    go_ret2
    exact fin
  by_cases zc : sc = 0
  · subst zc
    go_enter Tryz.func52, Tryz.ntmps52
    go_wp2_with fail
    refine (vars_any A0).mono ?_
    rintro e w1 ⟨rfl, rfl⟩
    go_wp2_with fail
    go_ret2
    exact fin
  · obtain rfl : sd = 0 := by omega
    go_enter Tryz.func52, Tryz.ntmps52
    go_wp2_with fail
    refine (vars_any A0).mono ?_
    rintro e w1 ⟨rfl, rfl⟩
    go_wp2_with fail
    go_ret2
    exact fin

set_option maxHeartbeats 4000000 in
set_option maxRecDepth 100000 in
theorem build_some (h : Ar base a M vars most w ns) (hv : 14 ≤ vars) (sa sb sc sd : Nat) (ha : sa < 65536) (hb : sb < 65536) (hc : sc < 256) (hd : sd < 256) (za : sa ≠ 0) (zb : sb ≠ 0) (zc : sc ≠ 0) (zd : sd ≠ 0) :
    Calls Tryz.prog 52 #[.pointer (some ⟨a, 0, none⟩), mt sa sb sc sd] w (MkPost base a M vars most w ns 44 0 (phi sa sb sc sd)) := by
  have l2 := h.wf.len
  have wf := h.wf
  have n1 : nv ns 1 = vars := by rw [nv, h.wf.n1]
  have L0 := h.loc #[.int .u16 (sa : Int), .int .u16 (sb : Int), .int .u8 (sc : Int), .int .u8 (sd : Int)] 50
  have A0 := h.alloc (.cells #[.int .u16 (sa : Int), .int .u16 (sb : Int), .int .u8 (sc : Int), .int .u8 (sd : Int)] 50)
  have K0 := Ar.kalloc' h (.cells #[.int .u16 (sa : Int), .int .u16 (sb : Int), .int .u8 (sc : Int), .int .u8 (sd : Int)] 50)
  have t1 : decide ((vars : Int) < 14) = false := by simp; omega
  have e1 : ((sa : Int) == 0) = false := by simp; omega
  have e2 : ((sb : Int) == 0) = false := by simp; omega
  have e3 : ((sc : Int) == 0) = false := by simp; omega
  have e4 : ((sd : Int) == 0) = false := by simp; omega
  have pA : Go.RowKit.Hid (∀ w, Calls Tryz.prog 89 #[.int .u16 (sa : Int)] w fun e w' => e = .returned (st sa 16) ∧ Below w.heap.size w w') := fun w => addrs_any sa w ha
  have pB : Go.RowKit.Hid (∀ w, Calls Tryz.prog 89 #[.int .u16 (sb : Int)] w fun e w' => e = .returned (st sb 16) ∧ Below w.heap.size w w') := fun w => addrs_any sb w hb
  have pC : Go.RowKit.Hid (∀ w, Calls Tryz.prog 87 #[.int .u8 (sc : Int)] w fun e w' => e = .returned (st sc 8) ∧ Below w.heap.size w w') := fun w => ports_any sc w hc
  have pD : Go.RowKit.Hid (∀ w, Calls Tryz.prog 87 #[.int .u8 (sd : Int)] w fun e w' => e = .returned (st sd 8) ∧ Below w.heap.size w w') := fun w => ports_any sd w hd
  have bD : Go.RowKit.Hid (∀ (w' : World) (ns' : List Nd) (rest : Nat), Ar base a M vars most w' ns' → rest < ns'.length → 11 + 3 ≤ nv ns' rest → Calls Tryz.prog 88 #[st (sd : Int) 8, .pointer (some ⟨a, 0, none⟩), .int .i64 11, .int .i64 (rest : Int)] w' (MkPost base a M vars most w' ns' 7 11 fun x => sel 3 sd 11 x && ev ns' rest x)) := fun w' ns' rest hA h1 h2 => build_8 hA (first := 11) hd (by omega) h1 h2
  have bC : Go.RowKit.Hid (∀ (w' : World) (ns' : List Nd) (rest : Nat), Ar base a M vars most w' ns' → rest < ns'.length → 8 + 3 ≤ nv ns' rest → Calls Tryz.prog 88 #[st (sc : Int) 8, .pointer (some ⟨a, 0, none⟩), .int .i64 8, .int .i64 (rest : Int)] w' (MkPost base a M vars most w' ns' 7 8 fun x => sel 3 sc 8 x && ev ns' rest x)) := fun w' ns' rest hA h1 h2 => build_8 hA (first := 8) hc (by omega) h1 h2
  have bB : Go.RowKit.Hid (∀ (w' : World) (ns' : List Nd) (rest : Nat), Ar base a M vars most w' ns' → rest < ns'.length → 4 + 4 ≤ nv ns' rest → Calls Tryz.prog 88 #[st (sb : Int) 16, .pointer (some ⟨a, 0, none⟩), .int .i64 4, .int .i64 (rest : Int)] w' (MkPost base a M vars most w' ns' 15 4 fun x => sel 4 sb 4 x && ev ns' rest x)) := fun w' ns' rest hA h1 h2 => build_16 hA (first := 4) hb (by omega) h1 h2
  have bA : Go.RowKit.Hid (∀ (w' : World) (ns' : List Nd) (rest : Nat), Ar base a M vars most w' ns' → rest < ns'.length → 0 + 4 ≤ nv ns' rest → Calls Tryz.prog 88 #[st (sa : Int) 16, .pointer (some ⟨a, 0, none⟩), .int .i64 0, .int .i64 (rest : Int)] w' (MkPost base a M vars most w' ns' 15 0 fun x => sel 4 sa 0 x && ev ns' rest x)) := fun w' ns' rest hA h1 h2 => build_16 hA (first := 0) ha (by omega) h1 h2
  obtain ⟨c0, c1, c2, c3⟩ := L0.four
  clear ha hb hc hd za zb zc zd
  go_enter Tryz.func52, Tryz.ntmps52
  go_wp2_with fail
  refine (vars_any A0).mono ?_
  rintro e w0 ⟨rfl, hw0⟩
  subst hw0
  go_wp2_with fail
  refine (pD.out _).mono ?_
  rintro e u1 ⟨rfl, hb1⟩
  have B1 := A0.below hb1
  have M1 := Loc.below L0 A0 hb1
  have J1 := K0.trans (A0.kbelow hb1)
  clear c0 c1 c2 c3
  clear hb1 A0 L0 K0
  go_wp2_with fail
  refine (bD.out _ ns 1 B1 (by omega) (by rw [n1]; omega)).mono ?_
  rintro e x1 hp1
  obtain ⟨ns1, v1, er1, rfl, A1, K1, X1, l1, d1⟩ := hp1.pair
  have wf1 := A1.wf
  have KK1 := J1.trans K1
  have L1 := M1.kp K1
  obtain ⟨c0, c1, c2, c3⟩ := L1.four
  have XX1 := X1
  clear hp1 B1 M1 J1 K1
  rcases d1.out with ⟨rfl, f1, rfl, lt1, va1, ev1x⟩ | ⟨rfl, rfl, full1⟩
  · have E1 : Go.RowKit.Hid (∀ x, ev ns1 f1 x = (sel 3 sd 11 x && true)) := fun x => by rw [ev1x x, ev1]
    clear ev1x d1
    go_wp2_with fail
    refine (pC.out _).mono ?_
    rintro e u2 ⟨rfl, hb2⟩
    have B2 := A1.below hb2
    have M2 := Loc.below L1 A1 hb2
    have J2 := KK1.trans (A1.kbelow hb2)
    clear c0 c1 c2 c3
    clear hb2 A1 L1 KK1
    go_wp2_with fail
    refine (bC.out _ ns1 f1 B2 lt1 (by omega)).mono ?_
    rintro e x2 hp2
    obtain ⟨ns2, v2, er2, rfl, A2, K2, X2, l2, d2⟩ := hp2.pair
    have wf2 := A2.wf
    have KK2 := J2.trans K2
    have L2 := M2.kp K2
    obtain ⟨c0, c1, c2, c3⟩ := L2.four
    have XX2 := (XX1.trans X2)
    clear hp2 B2 M2 J2 K2
    rcases d2.out with ⟨rfl, f2, rfl, lt2, va2, ev2x⟩ | ⟨rfl, rfl, full2⟩
    · have E2 : Go.RowKit.Hid (∀ x, ev ns2 f2 x = (sel 3 sc 8 x && (sel 3 sd 11 x && true))) := fun x => by rw [ev2x x, E1.out x]
      clear ev2x d2
      go_wp2_with fail
      refine (pB.out _).mono ?_
      rintro e u3 ⟨rfl, hb3⟩
      have B3 := A2.below hb3
      have M3 := Loc.below L2 A2 hb3
      have J3 := KK2.trans (A2.kbelow hb3)
      clear c0 c1 c2 c3
      clear hb3 A2 L2 KK2
      go_wp2_with fail
      refine (bB.out _ ns2 f2 B3 lt2 (by omega)).mono ?_
      rintro e x3 hp3
      obtain ⟨ns3, v3, er3, rfl, A3, K3, X3, l3, d3⟩ := hp3.pair
      have wf3 := A3.wf
      have KK3 := J3.trans K3
      have L3 := M3.kp K3
      obtain ⟨c0, c1, c2, c3⟩ := L3.four
      have XX3 := (XX2.trans X3)
      clear hp3 B3 M3 J3 K3
      rcases d3.out with ⟨rfl, f3, rfl, lt3, va3, ev3x⟩ | ⟨rfl, rfl, full3⟩
      · have E3 : Go.RowKit.Hid (∀ x, ev ns3 f3 x = (sel 4 sb 4 x && (sel 3 sc 8 x && (sel 3 sd 11 x && true)))) := fun x => by rw [ev3x x, E2.out x]
        clear ev3x d3
        go_wp2_with fail
        refine (pA.out _).mono ?_
        rintro e u4 ⟨rfl, hb4⟩
        have B4 := A3.below hb4
        have M4 := Loc.below L3 A3 hb4
        have J4 := KK3.trans (A3.kbelow hb4)
        clear c0 c1 c2 c3
        clear hb4 A3 L3 KK3
        go_wp2_with fail
        refine (bA.out _ ns3 f3 B4 lt3 (by omega)).mono ?_
        rintro e x4 hp4
        obtain ⟨ns4, v4, er4, rfl, A4, K4, X4, l4, d4⟩ := hp4.pair
        have wf4 := A4.wf
        have KK4 := J4.trans K4
        have L4 := M4.kp K4
        obtain ⟨c0, c1, c2, c3⟩ := L4.four
        have XX4 := (XX3.trans X4)
        clear hp4 B4 M4 J4 K4
        rcases d4.out with ⟨rfl, f4, rfl, lt4, va4, ev4x⟩ | ⟨rfl, rfl, full4⟩
        · have E4 : Go.RowKit.Hid (∀ x, ev ns4 f4 x = (sel 4 sa 0 x && (sel 4 sb 4 x && (sel 3 sc 8 x && (sel 3 sd 11 x && true))))) := fun x => by rw [ev4x x, E3.out x]
          clear ev4x d4
          have fin : MkPost base a M vars most w ns 44 0 (phi sa sb sc sd) (.returned (.tuple #[.int .i64 (f4 : Int), .int .i64 0])) x4 :=
            ⟨ns4, A4, KK4, XX4, by omega, Or.inl ⟨f4, rfl, lt4, Nat.zero_le _, E4.out⟩⟩
          clear A4 KK4 L4 c0 c1 c2 c3
          go_wp2_with fail
          go_ret2
          exact fin
        · have fin : MkPost base a M vars most w ns 44 0 (phi sa sb sc sd) (.returned (.tuple #[.int .i64 0, .int .i64 6])) x4 :=
            ⟨ns4, A4, KK4, XX4, by omega, Or.inr ⟨rfl, full4⟩⟩
          clear d4 A4 KK4 L4 c0 c1 c2 c3
          go_wp2_with fail
          go_ret2
          exact fin
      · have fin : MkPost base a M vars most w ns 44 0 (phi sa sb sc sd) (.returned (.tuple #[.int .i64 0, .int .i64 6])) x3 :=
          ⟨ns3, A3, KK3, XX3, by omega, Or.inr ⟨rfl, full3⟩⟩
        clear d3 A3 KK3 L3 c0 c1 c2 c3
        go_wp2_with fail
        go_ret2
        exact fin
    · have fin : MkPost base a M vars most w ns 44 0 (phi sa sb sc sd) (.returned (.tuple #[.int .i64 0, .int .i64 6])) x2 :=
        ⟨ns2, A2, KK2, XX2, by omega, Or.inr ⟨rfl, full2⟩⟩
      clear d2 A2 KK2 L2 c0 c1 c2 c3
      go_wp2_with fail
      go_ret2
      exact fin
  · have fin : MkPost base a M vars most w ns 44 0 (phi sa sb sc sd) (.returned (.tuple #[.int .i64 0, .int .i64 6])) x1 :=
      ⟨ns1, A1, KK1, XX1, by omega, Or.inr ⟨rfl, full1⟩⟩
    clear d1 A1 KK1 L1 c0 c1 c2 c3
    go_wp2_with fail
    go_ret2
    exact fin

theorem build_match (h : Ar base a M vars most w ns) (hv : 14 ≤ vars) (sa sb sc sd : Nat) (ha : sa < 65536) (hb : sb < 65536) (hc : sc < 256) (hd : sd < 256) :
    Calls Tryz.prog 52 #[.pointer (some ⟨a, 0, none⟩), mt sa sb sc sd] w (MkPost base a M vars most w ns 44 0 (phi sa sb sc sd)) := by
  by_cases hz : sa = 0 ∨ sb = 0 ∨ sc = 0 ∨ sd = 0
  · exact build_none h hv sa sb sc sd hz
  · exact build_some h hv sa sb sc sd ha hb hc hd (by omega) (by omega) (by omega) (by omega)
end
end Go.Proofs.YtlmmeppifkigeaaGreat

namespace Go.Proofs.YtlmmeppifkigeaaGreat
open Go

theorem wpIn_of_wp {P : Program} {o : Oper} {a : Act} {w : World} {K : Act → World → Prop} {Q : Exit → Act → World → Prop} (l n : Nat) (hd : ∀ c, o.op ≠ .defer c) (h : o.wp P a w K Q) : o.wpIn (Fence.wide.inRound l) n P a w K Q := by
  refine ⟨fun _ _ => trivial, ?_⟩
  rw [Oper.semAt_eq _ _ _ hd]
  unfold Oper.wp at h
  generalize (execOp a.eval o).run P w = r at h ⊢
  cases r with
  | ok x w' =>
    cases x with
    | value v => exact h
    | skip => exact h
    | defer d => exact h
    | enter f args => exact ⟨(fun e => by cases e), CallsIn.inRound l (callsIn_wide.2 h)⟩
    | row row args => exact ⟨(fun e => by cases e), fun c cs _ => let ⟨v, w'', r, s⟩ := h c cs; ⟨v, w'', r, stepsIn_wide.2 s⟩⟩
    | _ => exact h.elim
  | halt x w' => cases x <;> exact h

theorem wpAnyIn_of {P : Program} {md : Region.Mode} {ops : Array Oper} {Q : Exit → Act → World → Prop} (l n : Nat) (hd : ∀ (i : Nat) (o : Oper), ops[i]? = some o → ∀ c, o.op ≠ .defer c) (hQ : ¬ LetsOut Q) : ∀ (fuel : Nat) (listed : Array Bool) (a : Act) (w : World), wpAny P md ops Q fuel listed a w → wpAnyIn (Fence.wide.inRound l) n P md ops Q fuel listed a w := by
  intro fuel
  induction fuel with
  | zero => exact fun _ _ _ h => h
  | succ fuel ih =>
    intro listed a w h
    refine ⟨h.1, fun i hi => ?_⟩
    have hh := h.2 i hi
    unfold wpOp at hh
    unfold wpOpIn
    cases ho : ops[i]? with
    | none => rw [ho] at hh; exact ih _ _ _ hh
    | some o =>
      rw [ho] at hh
      simp only at hh ⊢
      split
      · rename_i hw
        rw [if_pos hw] at hh
        rcases hh with hh | ⟨_, hh⟩
        · exact Oper.wpIn_mono (fun a w hk => ih _ _ _ hk) (wpIn_of_wp l n (hd i o ho) hh)
        · exact absurd hh hQ
      · rename_i hw
        rw [if_neg hw] at hh
        exact ⟨fun _ _ => trivial, ih _ _ _ hh⟩
def noDefer (ops : Array Oper) : Bool := ops.all fun o => match o.op with | .defer _ => false | _ => true
theorem noDefer_spec {ops : Array Oper} (h : noDefer ops = true) (i : Nat) (o : Oper) (ho : ops[i]? = some o) : ∀ c, o.op ≠ .defer c := by
  intro c e
  obtain ⟨hi, rfl⟩ := Array.getElem?_eq_some_iff.1 ho
  have := (Array.all_eq_true.1 h) i hi
  rw [e] at this
  cases this

/-- The beginning of such a region's walk. -/
theorem region_held_in {P : Program} {ops : Array Oper} {Q : Exit → Act → World → Prop} {S : World → Prop} {id l n : Nat} {a : Act} {w : World} (hm : P.follows .mixedOrders = true) (hd : noDefer ops = true) (hQ : ¬ LetsOut Q) (hS : S w.drew)
    (h : S w.drew → wpAnyH P .any ops Q S ops.size (Array.replicate ops.size false) a w.drew) : (Code.region id ops true).wpIn (Fence.wide.inRound l) n P Q a w :=
  wpIn_region_any hm (wpAnyIn_of l n (noDefer_spec hd) hQ _ _ _ _ (wpAny_of_held _ _ _ _ (h hS)))
end Go.Proofs.YtlmmeppifkigeaaGreat

namespace Go.Proofs.YtlmmeppifkigeaaGreat
open Go.RowKit Go.Shelf Go.Maps
attribute [local go_sem] Oper.semAt_some

/-- The function of the packets that a list of rules lets through. -/
def letsF : List Rl → Env → Bool
  | [], _ => false
  | r :: l, x => if phi r.a r.b r.c r.d x then r.ok else letsF l x
theorem came_all (xs : List Rl) : ((came xs xs.length).map Prod.snd).reverse = xs := by
  apply List.ext_getElem
  · simp [came]
  · intro i h1 h2
    simp [came]
    rw [show xs.length - 1 - (xs.length - 1 - i) = i by omega, List.getElem?_eq_getElem h2]
    rfl
theorem letsF_snoc (pre : List IR) (x : IR) (e : Env) : letsF ((pre ++ [x]).map Prod.snd).reverse e = if phi x.2.a x.2.b x.2.c x.2.d e then x.2.ok else letsF (pre.map Prod.snd).reverse e := by
  simp [letsF]

set_option maxHeartbeats 1000000 in
theorem answer_r (r : Rl) (w : World) : Calls Tryz.prog 185 #[rv r] w fun e w' => e = .returned (.int .i64 ((if r.ok then 1 else 0 : Nat) : Int)) ∧ Below w.heap.size w w' := by
  have D0 := Below.alloc' (Below.refl w.heap.size w) (.cells #[.bool r.ok, .int .u16 (r.a : Int), .int .u16 (r.b : Int), .int .u8 (r.c : Int), .int .u8 (r.d : Int)] 71)
  obtain ⟨ok, ra, rb, rc, rd, _, _, _, _⟩ := r
  cases ok
  · go_enter Tryz.func185, Tryz.ntmps185
    go_wp2_with fail
    go_ret
    exact ⟨rfl, D0⟩
  · go_enter Tryz.func185, Tryz.ntmps185
    go_wp2_with fail
    go_ret
    exact ⟨rfl, D0⟩

theorem answer_q (r : Rl) (w : World) : Calls Tryz.prog 185 #[rv r] w fun e w' => ∃ q : Nat, e = .returned (.int .i64 (q : Int)) ∧ Hid (q = if r.ok then 1 else 0) ∧ Below w.heap.size w w' :=
  (answer_r r w).mono fun _ _ ⟨h1, h2⟩ => ⟨_, h1, rfl, h2⟩

/-- A rule in a block of its own. -/
def Box5 (W : World) (B : Nat) (r : Rl) : Prop := W.heap[B]? = some (.cells #[.bool r.ok, .int .u16 (r.a : Int), .int .u16 (r.b : Int), .int .u8 (r.c : Int), .int .u8 (r.d : Int)] 71 (0, 0))
theorem Box5.cells {W : World} {B : Nat} {r : Rl} (h : Box5 W B r) : W.cell? ⟨B, 0, none⟩ = some (.bool r.ok) ∧ W.cell? ⟨B, 1, none⟩ = some (.int .u16 (r.a : Int)) ∧ W.cell? ⟨B, 2, none⟩ = some (.int .u16 (r.b : Int)) ∧ W.cell? ⟨B, 3, none⟩ = some (.int .u8 (r.c : Int)) ∧ W.cell? ⟨B, 4, none⟩ = some (.int .u8 (r.d : Int)) := by
  refine ⟨?_, ?_, ?_, ?_, ?_⟩ <;> (rw [cell_of_row W B _ _ _ _ h]; rfl)

section
variable {base a M : Nat} {W W' : World} {ns : List Nd}
/-- An arena abides what the loop's book-keeping turns. -/
theorem Ar.book {vars most B : Nat} {row : Option Nat} (h : Ar base a M vars most W ns) (hg : W.grownBy W' row) (hr : ∀ r, row = some r → B ≤ r ∧ ∃ o : Obj, W.heap[r]? = some o ∧ o.isCells = false) (hM : M < B) : Ar base a M vars most W' ns := by
  obtain ⟨cur, hrow, _, rl⟩ := h.row
  obtain ⟨g, cap, cs, t, hb, _⟩ := h.blk
  refine h.same (hg.block a h.lta (fun e => ?_)) (hg.block M h.ltM (fun e => ?_)) (hg.block _ rl (fun e => ?_))
  · obtain ⟨_, o, ho, hc⟩ := hr a e.symm
    rw [hb] at ho
    cases ho
    cases hc
  · have := (hr M e.symm).1
    omega
  · obtain ⟨_, o, ho, hc⟩ := hr _ e.symm
    rw [hrow] at ho
    cases ho
    cases hc
/-- A variable of another type than the arena's blocks lies outside it. -/
theorem Ar.outBox {vars most i : Nat} {cs : Array Value} {t : TypeId} (h : Ar base a M vars most W ns) (hb : W.heap[i]? = some (.cells cs t (0, 0))) (h1 : t ≠ 93 ∧ t ≠ 96) (h2 : t ≠ 134) : Loc (ca base a M vars most) W i cs t := by
  refine ⟨⟨(Array.getElem?_eq_some_iff.1 hb).1, ?_, fun e => ?_⟩, hb⟩
  · have na : i ≠ a := fun e => by
      obtain ⟨g, cap, cs, t, ha, hc, _⟩ := h.blk
      rw [e, ha] at hb
      simp only [Option.some.injEq, Obj.cells.injEq] at hb
      rcases hc.ty with e1 | e1
      · exact h1.1 (hb.2.1.symm.trans e1)
      · exact h1.2 (hb.2.1.symm.trans e1)
    rintro (e | e | e | e | e | e)
    · exact na e
    · exact na e
    · have e' : i = M := e
      obtain ⟨num, hm, _⟩ := h.map
      obtain ⟨es, clock, hM⟩ := hm.isMap
      rw [e', hM] at hb
      simp at hb
    · cases e
    · cases e
    · cases e
  · have e' : i = rowOf W a := e
    obtain ⟨cur, hrow, _⟩ := h.row
    rw [e', hrow] at hb
    simp only [Option.some.injEq, Obj.cells.injEq] at hb
    exact h2 hb.2.1.symm
/-- What no cells are stays behind the loop's beginning. -/
theorem Kp.keepsFrom {vars most B : Nat} (k : Kp (ca base a M vars most) W W') (h : Ar base a M vars most W ns) (hM : M < B) : KeepsFrom B W W' := by
  refine ⟨k.size, fun i o hB hi ho => ?_⟩
  obtain ⟨cur, hrow, _, rl⟩ := h.row
  obtain ⟨g, cap, cs, t, hb, _⟩ := h.blk
  refine (k.blk i (Array.getElem?_eq_some_iff.1 hi).1 ?_ (fun e => ?_)).trans hi
  · have na : i ≠ a := fun e => by
      rw [e, hb] at hi
      cases hi
      cases ho
    rintro (e | e | e | e | e | e)
    · exact na e
    · exact na e
    · have e' : i = M := e
      omega
    · cases e
    · cases e
    · cases e
  · have e' : i = rowOf W a := e
    rw [e', hrow] at hi
    cases hi
    cases ho
end

theorem OpPost.pair {base a M vars most : Nat} {w w' : World} {ns : List Nd} {g : Nat} {φ : Env → Bool} {e : Ending} (h : OpPost base a M vars most w ns g φ e w') :
    ∃ (ns' : List Nd) (v er : Int), e = .returned (.tuple #[.int .i64 v, .int .i64 er]) ∧ Ar base a M vars most w' ns' ∧ Kp (ca base a M vars most) w w' ∧ Ext ns ns' ∧ ns'.length ≤ ns.length + g ∧
      Hid ((er = 0 ∧ ∃ f : Nat, v = (f : Int) ∧ f < ns'.length ∧ ∀ x, ev ns' f x = φ x) ∨ (er = 6 ∧ v = 0 ∧ ns'.length = most)) := by
  obtain ⟨ns', r1, r2, r3, r4, ⟨f, e1, e2⟩ | ⟨e1, e2⟩⟩ := h
  · exact ⟨ns', f, 0, e1, r1, r2, r3, r4, Or.inl ⟨rfl, f, rfl, e2⟩⟩
  · exact ⟨ns', 0, 6, e1, r1, r2, r3, r4, Or.inr ⟨rfl, rfl, e2⟩⟩
theorem Ar.notMine {base a M vars most : Nat} {w : World} {ns : List Nd} (h : Ar base a M vars most w ns) {i : Nat} (hi : i < base) : ¬ (ca base a M vars most).mine i := by
  have h1 := h.lowA
  have h2 := h.lowM
  rintro (e | e | e | e | e | e)
  · have : i = a := e
    omega
  · have : i = a := e
    omega
  · have : i = M := e
    omega
  · cases e
  · cases e
  · cases e
theorem Ar.kp_below {base a M vars most : Nat} {w w' : World} {ns : List Nd} (h : Ar base a M vars most w ns) (k : Kp (ca base a M vars most) w w') : Below base w w' := by
  obtain ⟨_, _, rb, rl⟩ := h.row
  have h1 := h.lowA
  have h2 := h.lta
  exact ⟨k.os, k.tape, k.output, k.size, fun i hi => k.blk i (by omega) (h.notMine hi) (by show i ≠ rowOf w a; omega)⟩

/-- Between two rounds. -/
def JI (base a M n0 L : Nat) (v : Value) (w : World) (pre : List IR) (W : World) : Prop :=
  ∃ (ns : List Nd) (F : Nat), Ar base a M 14 40000 W ns ∧ F < ns.length ∧ (∀ x, ev ns F x = letsF (pre.map Prod.snd).reverse x) ∧ ns.length ≤ L + pre.length * 16427 ∧
    Boxed W n0 87 (.pointer (some ⟨a, 0, none⟩)) ∧ Boxed W (n0 + 1) 3 (.int .i64 0) ∧ Boxed W (n0 + 1 + 1) 29 (.int .i64 0) ∧ Boxed W (n0 + 1 + 1 + 1) 3 (.int .i64 (F : Int)) ∧ Boxed W (n0 + 1 + 1 + 1 + 1) 59 v ∧ Below base w W
/-- Where a round has left. -/
def JX (base a M n0 L k : Nat) (w : World) (c : Code) (W : World) : Prop :=
  c = .ret ∧ 40000 ≤ L + k * 16427 ∧ ∃ ns : List Nd, Ar base a M 14 40000 W ns ∧ Boxed W (n0 + 1) 3 (.int .i64 0) ∧ Boxed W (n0 + 1 + 1) 29 (.int .i64 6) ∧ Below base w W
theorem Box5.own {B : Nat} {r : Rl} {W W' : World} {row : Option Nat} (h : Box5 W B r) (hg : W.grownBy W' row) (hr : ∀ r, row = some r → ∃ o : Obj, W.heap[r]? = some o ∧ o.isCells = false) : Box5 W' B r :=
  (grownBy_keeps_cells hg hr h rfl).trans h
theorem Ar.box {base a M vars most i : Nat} {W W' : World} {ns : List Nd} {t : TypeId} {v : Value} (h : Ar base a M vars most W ns) (k : Kp (ca base a M vars most) W W') (hb : Boxed W i t v) (h1 : t ≠ 93 ∧ t ≠ 96) (h2 : t ≠ 134) : Boxed W' i t v := ((h.outBox hb h1 h2).kp k).blk
theorem Ar.box5 {base a M vars most i : Nat} {W W' : World} {ns : List Nd} {r : Rl} (h : Ar base a M vars most W ns) (k : Kp (ca base a M vars most) W W') (hb : Box5 W i r) : Box5 W' i r := ((h.outBox hb (by decide) (by decide)).kp k).blk
theorem JI.own {base a M n0 L B : Nat} {v : Value} {w : World} (hM : M < B) (hb : base ≤ w.heap.size) (hB : base ≤ B) : OwnFrom B (JI base a M n0 L v w) := by
  rintro pre W W' row ⟨ns, F, h1, h2, h3, hL, b0, b1, b2, b3, b4, D⟩ hg hr
  have hr' : ∀ r, row = some r → ∃ o : Obj, W.heap[r]? = some o ∧ o.isCells = false := fun r e => (hr r e).2
  exact ⟨ns, F, h1.book hg hr hM, h2, h3, hL, boxed_own n0 _ (fun _ : Unit => _) () W W' row b0 hg hr', boxed_own _ _ (fun _ : Unit => _) () W W' row b1 hg hr', boxed_own _ _ (fun _ : Unit => _) () W W' row b2 hg hr', boxed_own _ _ (fun _ : Unit => _) () W W' row b3 hg hr', boxed_own _ _ (fun _ : Unit => _) () W W' row b4 hg hr', ownFrom_below hb hB () W W' row D hg hr⟩
theorem JX.own {base a M n0 L B : Nat} {w : World} (hM : M < B) (hb : base ≤ w.heap.size) (hB : base ≤ B) (c : Code) : OwnFrom B (fun (pre : List IR) W => JX base a M n0 L pre.length w c W) := by
  rintro pre W W' row ⟨e, hL, ns, h1, b1, b2, D⟩ hg hr
  have hr' : ∀ r, row = some r → ∃ o : Obj, W.heap[r]? = some o ∧ o.isCells = false := fun r e => (hr r e).2
  exact ⟨e, hL, ns, h1.book hg hr hM, boxed_own _ _ (fun _ : Unit => _) () W W' row b1 hg hr', boxed_own _ _ (fun _ : Unit => _) () W W' row b2 hg hr', ownFrom_below hb hB () W W' row D hg hr⟩

/-- In a round. -/
structure RS (base a M n0 B Bx F : Nat) (r : Rl) (v : Value) (w W1 : World) (ns : List Nd) (W : World) : Prop where
  ar : Ar base a M 14 40000 W ns
  b0 : Boxed W n0 87 (.pointer (some ⟨a, 0, none⟩))
  b1 : Boxed W (n0 + 1) 3 (.int .i64 0)
  b2 : Boxed W (n0 + 1 + 1) 29 (.int .i64 0)
  b3 : Boxed W (n0 + 1 + 1 + 1) 3 (.int .i64 (F : Int))
  b4 : Boxed W (n0 + 1 + 1 + 1 + 1) 59 v
  bx : Box5 W Bx r
  low : Below base w W
  kf : KeepsFrom B W1 W
  kb : Below base W1 W
  mB : M < B
  bn : base ≤ n0
section
variable {base a M n0 B Bx F : Nat} {r : Rl} {v : Value} {w W1 W W' : World} {ns ns' : List Nd}
theorem RS.step (h : RS base a M n0 B Bx F r v w W1 ns W) (k : Kp (ca base a M 14 40000) W W') (A : Ar base a M 14 40000 W' ns') : RS base a M n0 B Bx F r v w W1 ns' W' :=
  ⟨A, h.ar.box k h.b0 (by decide) (by decide), h.ar.box k h.b1 (by decide) (by decide), h.ar.box k h.b2 (by decide) (by decide), h.ar.box k h.b3 (by decide) (by decide), h.ar.box k h.b4 (by decide) (by decide), h.ar.box5 k h.bx,
    h.low.trans (h.ar.kp_below k), h.kf.trans (k.keepsFrom h.ar h.mB), h.kb.trans (h.ar.kp_below k), h.mB, h.bn⟩
theorem RS.below (h : RS base a M n0 B Bx F r v w W1 ns W) (hb : Below W.heap.size W W') : RS base a M n0 B Bx F r v w W1 ns W' := h.step (h.ar.kbelow hb) (h.ar.below hb)
theorem RS.drew (h : RS base a M n0 B Bx F r v w W1 ns W) : RS base a M n0 B Bx F r v w W1 ns W.drew :=
  ⟨h.ar.drew', h.b0, h.b1, h.b2, h.b3, h.b4, h.bx, h.low.drew, h.kf.trans ((KeepsOthers.drew _).from _), h.kb.drew, h.mB, h.bn⟩
theorem RS.four (h : RS base a M n0 B Bx F r v w W1 ns W) : W.cell? ⟨n0, 0, none⟩ = some (.pointer (some ⟨a, 0, none⟩)) ∧ W.cell? ⟨Bx, 0, none⟩ = some (.bool r.ok) ∧ W.cell? ⟨Bx, 1, none⟩ = some (.int .u16 (r.a : Int)) ∧ W.cell? ⟨Bx, 2, none⟩ = some (.int .u16 (r.b : Int)) ∧ W.cell? ⟨Bx, 3, none⟩ = some (.int .u8 (r.c : Int)) ∧ W.cell? ⟨Bx, 4, none⟩ = some (.int .u8 (r.d : Int)) := ⟨h.b0.cell, h.bx.cells⟩
/-- Behind the store into f. -/
structure RT (base a M n0 B Bx : Nat) (u : Int) (r : Rl) (v : Value) (w W1 : World) (ns : List Nd) (W : World) : Prop where
  ar : Ar base a M 14 40000 W ns
  b0 : Boxed W n0 87 (.pointer (some ⟨a, 0, none⟩))
  b1 : Boxed W (n0 + 1) 3 (.int .i64 0)
  b2 : Boxed W (n0 + 1 + 1) 29 (.int .i64 0)
  b3 : Boxed W (n0 + 1 + 1 + 1) 3 (.int .i64 u)
  b4 : Boxed W (n0 + 1 + 1 + 1 + 1) 59 v
  bx : Box5 W Bx r
  low : Below base w W
  kf : KeepsFrom B W1 W
  kb : Below base W1 W
theorem RT.four {u : Int} (h : RT base a M n0 B Bx u r v w W1 ns W) : W.cell? ⟨n0, 0, none⟩ = some (.pointer (some ⟨a, 0, none⟩)) ∧ W.cell? ⟨Bx, 0, none⟩ = some (.bool r.ok) ∧ W.cell? ⟨Bx, 1, none⟩ = some (.int .u16 (r.a : Int)) ∧ W.cell? ⟨Bx, 2, none⟩ = some (.int .u16 (r.b : Int)) ∧ W.cell? ⟨Bx, 3, none⟩ = some (.int .u8 (r.c : Int)) ∧ W.cell? ⟨Bx, 4, none⟩ = some (.int .u8 (r.d : Int)) := ⟨h.b0.cell, h.bx.cells⟩
theorem Ar.setBox {vars most i : Nat} {t : TypeId} {x : Value} (h : Ar base a M vars most W ns) (hb : Boxed W i t x) (h1 : t ≠ 93 ∧ t ≠ 96) (h2 : t ≠ 134) (u : Value) : Ar base a M vars most (W.setCell ⟨i, 0, none⟩ u) ns := by
  have L := h.outBox hb h1 h2
  obtain ⟨_, _, _, rl⟩ := h.row
  exact h.same (Below.heap_setCell W _ u a (fun e => L.out.not (Or.inl e.symm))) (Below.heap_setCell W _ u M (fun e => L.out.not (Or.inr (Or.inr (Or.inl e.symm))))) (Below.heap_setCell W _ u _ (fun e => L.out.ne e.symm))
theorem RS.set (h : RS base a M n0 B Bx F r v w W1 ns W) (u : Int) : RT base a M n0 B Bx u r v w W1 ns (W.setCell ⟨n0 + 1 + 1 + 1, 0, none⟩ (.int .i64 u)) := by
  have hx : n0 + 1 + 1 + 1 ≠ Bx := fun e => by
    have h1 := h.b3
    have h2 := h.bx
    unfold Boxed at h1
    unfold Box5 at h2
    rw [e, h2] at h1
    simp at h1
  have hbn := h.bn
  exact ⟨h.ar.setBox h.b3 (by decide) (by decide) _, h.b0.other (by omega) _, h.b1.other (by omega) _, h.b2.other (by omega) _, h.b3.set _, h.b4.other (by omega) _, (Below.heap_setCell W _ _ Bx (fun e => hx e.symm)).trans h.bx,
    h.low.setCell (p := ⟨n0 + 1 + 1 + 1, 0, none⟩) (by show base ≤ n0 + 1 + 1 + 1; omega) _, h.kf.trans ((KeepsOthers.setCell _ _ _).from _), h.kb.setCell (p := ⟨n0 + 1 + 1 + 1, 0, none⟩) (by show base ≤ n0 + 1 + 1 + 1; omega) _⟩
theorem RS.rt (h : RS base a M n0 B Bx F r v w W1 ns W) : RT base a M n0 B Bx (F : Int) r v w W1 ns W := ⟨h.ar, h.b0, h.b1, h.b2, h.b3, h.b4, h.bx, h.low, h.kf, h.kb⟩
/-- What the walk reads where it stores both results. -/
theorem RT.two {u : Int} (h : RT base a M n0 B Bx u r v w W1 ns W) : W.cell? ⟨n0 + 1, 0, none⟩ = some (.int .i64 0) ∧ W.frozen? ⟨n0 + 1, 0, none⟩ = false ∧ (W.setCell ⟨n0 + 1, 0, none⟩ (.int .i64 0)).cell? ⟨n0 + 1 + 1, 0, none⟩ = some (.int .i64 0) ∧ (W.setCell ⟨n0 + 1, 0, none⟩ (.int .i64 0)).frozen? ⟨n0 + 1 + 1, 0, none⟩ = false :=
  ⟨h.b1.cell, h.b1.frozen, (h.b2.other (by omega) _).cell, (h.b2.other (by omega) _).frozen⟩
theorem RT.err {u : Int} {L k : Nat} (h : RT base a M n0 B Bx u r v w W1 ns W) (bn : base ≤ n0) (hL : 40000 ≤ L + k * 16427) : KeepsFrom B W1 ((W.setCell ⟨n0 + 1, 0, none⟩ (.int .i64 0)).setCell ⟨n0 + 1 + 1, 0, none⟩ (.int .i64 6)) ∧ JX base a M n0 L k w .ret ((W.setCell ⟨n0 + 1, 0, none⟩ (.int .i64 0)).setCell ⟨n0 + 1 + 1, 0, none⟩ (.int .i64 6)) := by
  have b2' := h.b2.other (B' := n0 + 1) (by omega) (.int .i64 0)
  refine ⟨h.kf.trans (((KeepsOthers.setCell _ _ _).trans (KeepsOthers.setCell _ _ _)).from _), rfl, hL, ns, (h.ar.setBox h.b1 (by decide) (by decide) _).setBox b2' (by decide) (by decide) _, (h.b1.set _).other (by omega) _, b2'.set _, ?_⟩
  exact (h.low.setCell (p := ⟨n0 + 1, 0, none⟩) (by show base ≤ n0 + 1; omega) _).setCell (p := ⟨n0 + 1 + 1, 0, none⟩) (by show base ≤ n0 + 1 + 1; omega) _
end

/-- Behind the loop's last book-keeping. -/
theorem putD {base a M n0 D : Nat} {w W : World} {ns : List Nd} {u x : Value} {o : Obj} (A : Ar base a M 14 40000 W ns) (b1 : Boxed W (n0 + 1) 3 u) (b2 : Boxed W (n0 + 1 + 1) 29 x) (D1 : Below base w W) (hK : W.heap[D]? = some (.deferred (some []))) (hD : n0 + 5 ≤ D) (hM : M < n0) (hb : base ≤ n0) :
    Ar base a M 14 40000 (W.putObj D o) ns ∧ (W.putObj D o).cell? ⟨n0 + 1, 0, none⟩ = some u ∧ (W.putObj D o).cell? ⟨n0 + 1 + 1, 0, none⟩ = some x ∧ Below base w (W.putObj D o) := by
  have g := grownBy_putObj' W D o
  have hD' : D < W.heap.size := (Array.getElem?_eq_some_iff.1 hK).1
  exact ⟨A.book (B := n0) g (fun r e => by cases e; exact ⟨by omega, _, hK, rfl⟩) hM, (b1.kept g (fun e => by cases e; omega)).cell, (b2.kept g (fun e => by cases e; omega)).cell, D1.grown g (by omega) (fun k e => by cases e; omega)⟩

set_option maxHeartbeats 8000000 in
set_option maxRecDepth 100000 in
theorem join_ok {base a M : Nat} {w : World} {ns : List Nd} (h : Ar base a M 14 40000 w ns) (A : Option Addr) (len cap : Nat) (xs : List Rl) (hR : Rules base w (.slice A len cap) xs) (hlen : xs.length ≤ 8) :
    Calls Tryz.prog 180 #[.pointer (some ⟨a, 0, none⟩), .slice A len cap] w fun e w' => ∃ ns', Ar base a M 14 40000 w' ns' ∧ Below base w w' ∧
      ((∃ f : Nat, e = .returned (.tuple #[.int .i64 (f : Int), .int .i64 0]) ∧ f < ns'.length ∧ ∀ x, ev ns' f x = letsF xs x) ∨ (e = .returned (.tuple #[.int .i64 0, .int .i64 6]) ∧ 40000 ≤ ns.length + xs.length * 16427)) := by
  refine (callsIn_wide (n := 4)).1 ?_
  refine callsIn_of_wp_marks Tryz.func180 rfl trivial ?_ rfl
  simp only [Tryz.ntmps180, List.size_toArray, List.length_cons, List.length_nil, Nat.reduceAdd, Nat.reduceSub, Array.replicate_succ, Array.replicate_zero, List.push_toArray, List.append_toArray, List.nil_append, List.cons_append]
  gi_wp2_with (refine ⟨trivial, ?_⟩; gi_at_call 184; refine (back_in Fence.wide _ trivial rfl _ _ _ _).mono ?_; rintro e w' ⟨rfl, rfl⟩)
  have ltM := h.ltM
  have lta := h.lta
  have lowA := h.lowA
  have q0 := ((((Boxed.new w 87 (.pointer (some ⟨a, 0, none⟩))).alloc (.cells #[.int .i64 0] 3)).alloc (.cells #[.int .i64 0] 29)).alloc (.cells #[.int .i64 0] 3)).alloc (.cells #[.slice A len cap] 59)
  have q1 := (((Boxed.new (w.alloc (.cells #[.pointer (some ⟨a, 0, none⟩)] 87)) 3 (.int .i64 0)).alloc (.cells #[.int .i64 0] 29)).alloc (.cells #[.int .i64 0] 3)).alloc (.cells #[.slice A len cap] 59)
  have q2 := ((Boxed.new ((w.alloc (.cells #[.pointer (some ⟨a, 0, none⟩)] 87)).alloc (.cells #[.int .i64 0] 3)) 29 (.int .i64 0)).alloc (.cells #[.int .i64 0] 3)).alloc (.cells #[.slice A len cap] 59)
  have q3 := (Boxed.new (((w.alloc (.cells #[.pointer (some ⟨a, 0, none⟩)] 87)).alloc (.cells #[.int .i64 0] 3)).alloc (.cells #[.int .i64 0] 29)) 3 (.int .i64 0)).alloc (.cells #[.slice A len cap] 59)
  have q4 := Boxed.new ((((w.alloc (.cells #[.pointer (some ⟨a, 0, none⟩)] 87)).alloc (.cells #[.int .i64 0] 3)).alloc (.cells #[.int .i64 0] 29)).alloc (.cells #[.int .i64 0] 3)) 59 (.slice A len cap)
  simp only [World.size_alloc] at q1 q2 q3 q4
  have D0 : Below base w (((((w.alloc (.cells #[.pointer (some ⟨a, 0, none⟩)] 87)).alloc (.cells #[.int .i64 0] 3)).alloc (.cells #[.int .i64 0] 29)).alloc (.cells #[.int .i64 0] 3)).alloc (.cells #[.slice A len cap] 59)) :=
    (((((Below.refl _ w).alloc (by omega) _).alloc (by simp; omega) _).alloc (by simp; omega) _).alloc (by simp; omega) _).alloc (by simp; omega) _
  have A0 : Ar base a M 14 40000 (((((w.alloc (.cells #[.pointer (some ⟨a, 0, none⟩)] 87)).alloc (.cells #[.int .i64 0] 3)).alloc (.cells #[.int .i64 0] 29)).alloc (.cells #[.int .i64 0] 3)).alloc (.cells #[.slice A len cap] 59)) ns := ((((h.alloc _).alloc _).alloc _).alloc _).alloc _
  have hsz : (((((w.alloc (.cells #[.pointer (some ⟨a, 0, none⟩)] 87)).alloc (.cells #[.int .i64 0] 3)).alloc (.cells #[.int .i64 0] 29)).alloc (.cells #[.int .i64 0] 3)).alloc (.cells #[.slice A len cap] 59)).heap.size = w.heap.size + 5 := by simp
  obtain ⟨W0, hW0⟩ : ∃ W0, (((((w.alloc (.cells #[.pointer (some ⟨a, 0, none⟩)] 87)).alloc (.cells #[.int .i64 0] 3)).alloc (.cells #[.int .i64 0] 29)).alloc (.cells #[.int .i64 0] 3)).alloc (.cells #[.slice A len cap] 59)) = W0 := ⟨_, rfl⟩
  rw [hW0] at q0 q1 q2 q3 q4 D0 A0 hsz ⊢
  clear hW0
  have l2 := h.wf.len
  refine wpIn_rangeFunc_ownH rfl (by omega) (gf := 189) (lb := #[.pointer (some ⟨w.heap.size + 1 + 1 + 1 + 1, 0, none⟩)]) rfl trivial (enters_of Tryz.func189 (by kernel_rfl) rfl)
    (back_stops Fence.wide 3 trivial rfl (by omega) (w.heap.size + 1 + 1 + 1 + 1) base (.slice A len cap) xs (by omega) W0 (by omega) q4 (hR.below D0)) kpB_t
    (fun W l o o' hl ho hc _ => ⟨(Below.refl base W).grown (grownBy_putObj' W l o') (by have := (Array.getElem?_eq_some_iff.1 ho).1; omega) (fun k e => by cases e; omega), fun b => b.kept (grownBy_putObj' W l o') (fun e => by cases e; omega)⟩)
    (Below.refl _ _) (fun _ => rfl)
    (JI base a M w.heap.size ns.length (.slice A len cap) w) (fun c pre W => JX base a M w.heap.size ns.length pre.length w c W)
    (JI.own (by omega) (by omega) (by omega)) (fun c => JX.own (by omega) (by omega) (by omega) c)
    ⟨ns, 0, A0, by omega, (fun x => rfl), by simp, q0, q1, q2, q3, q4, D0⟩
    (fun x a' W => ∃ Bx, Box5 W Bx x.2 ∧ a' = { tmps := #[.pointer (some ⟨a, 0, none⟩), .slice A len cap, .pointer (some ⟨w.heap.size, 0, none⟩), undef, .pointer (some ⟨w.heap.size + 1, 0, none⟩), .pointer (some ⟨w.heap.size + 1 + 1, 0, none⟩), .pointer (some ⟨w.heap.size + 1 + 1 + 1, 0, none⟩), undef, .pointer (some ⟨Bx, 0, none⟩), undef, undef, .slice A len cap, .func (.func 189) #[] #[.pointer (some ⟨w.heap.size + 1 + 1 + 1 + 1, 0, none⟩)], .int .i64 (x.1 : Int), rv x.2, undef, undef, undef, undef, undef, undef, undef, undef, undef, undef, undef, undef, undef, undef, undef, undef, undef, undef, undef, undef, undef, undef, undef], defers := [] })
    (fun x a' _ X Y row hs hg hr => by obtain ⟨Bx, h1, h2⟩ := hs; exact ⟨Bx, h1.own hg (fun r e => (hr r e).2), h2⟩)
    ?assign ?body ?done ?stop
  case assign =>
    rintro l pre x W K ⟨ns1, F1, A1, lF, eF, hL, b0, b1, b2, b3, b4, D1⟩ hK
    have hsW := D1.size
    obtain ⟨i, ⟨ok, ra, rb, rc, rd, g1, g2, g3, g4⟩⟩ := x
    dsimp only [encIR]
    gi_wp2
    exact hK _ _ ((KeepsOthers.alloc _ _).from _) ⟨(Below.refl _ W).alloc (by omega) _, fun b => b.alloc _⟩ ⟨ns1, F1, A1.alloc _, lF, eF, hL, b0.alloc _, b1.alloc _, b2.alloc _, b3.alloc _, b4.alloc _, D1.alloc (by omega) _⟩ ⟨W.heap.size, Go.heap_alloc_new W _, rfl⟩
  case body =>
    rintro l pre x a' W hl ⟨r0, hr0⟩ ⟨ns1, F1, A1, lF, eF, hL, b0, b1, b2, b3, b4, D1⟩ ⟨Bx, bX, rfl⟩ hlt
    obtain ⟨xi, r⟩ := x
    have s1 : RS base a M w.heap.size W0.heap.size Bx F1 r (.slice A len cap) w W ns1 W := ⟨A1, b0, b1, b2, b3, b4, bX, D1, KeepsFrom.refl _ _, Below.refl _ _, by omega, by omega⟩
    clear A1 b0 b1 b2 b3 b4 bX
    obtain ⟨cA, x0, x1, x2, x3, x4⟩ := s1.four
    gi_wp2
    refine ⟨trivial, (CallsIn.inRound l (callsIn_wide.2 (build_match s1.ar (Nat.le_refl _) r.a r.b r.c r.d r.ha r.hb r.hc r.hd))).mono ?_⟩
    rintro e W2 hp2
    obtain ⟨ns2, g2, er2, rfl, A2, K2, X2, hL2, d2⟩ := hp2.pair
    have s2 := s1.step K2 A2
    have wf1 := s1.ar.wf
    clear hp2 A2 K2 cA x0 x1 x2 x3 x4 s1
    obtain ⟨cA, x0, x1, x2, x3, x4⟩ := s2.four
    obtain ⟨c1, f1, c2, f2⟩ := s2.rt.two
    have c3 := s2.b3.cell
    rcases d2.out with ⟨rfl, F2, rfl, lt2, _, ev2⟩ | ⟨rfl, rfl, full2⟩
    · have lF2 : F1 < ns2.length := Nat.lt_of_lt_of_le lF X2.len
      have wf2 := s2.ar.wf
      have l2' := wf2.len
      have EF : Hid (∀ x, ev ns2 F1 x = letsF (pre.map Prod.snd).reverse x) := fun x => (X2.ev wf1 wf2 _ lF x).trans (eF x)
      have EV : Hid (∀ x, ev ns2 F2 x = phi r.a r.b r.c r.d x) := ev2
      have IT : Hid (∀ w' (q : Nat), Hid (q = if r.ok then 1 else 0) → RS base a M w.heap.size W0.heap.size Bx F1 r (.slice A len cap) w W ns2 w' → Calls Tryz.prog 133 #[.pointer (some ⟨a, 0, none⟩), .int .i64 (F2 : Int), .int .i64 (q : Int), .int .i64 (F1 : Int)] w' fun e w'' => ∃ (ns' : List Nd) (v er : Int), e = .returned (.tuple #[.int .i64 v, .int .i64 er]) ∧ Ar base a M 14 40000 w'' ns' ∧ Kp (ca base a M 14 40000) w' w'' ∧ Ext ns2 ns' ∧ ns'.length ≤ ns2.length + (2 ^ 14 - 1) ∧
          Hid ((er = 0 ∧ ∃ f : Nat, v = (f : Int) ∧ f < ns'.length ∧ ∀ x, ev ns' f x = letsF ((pre ++ [(xi, r)]).map Prod.snd).reverse x) ∨ (er = 6 ∧ v = 0 ∧ ns'.length = 40000))) := fun w' q hq hs => by
        have hq' : q = if r.ok then 1 else 0 := hq
        refine (ite_ok hs.ar (c := (F2, q, F1)) ⟨lt2, by show q < _; rw [hq']; split <;> omega, lF2⟩).mono fun e w'' hp => (hp.of (ψ := fun x => letsF ((pre ++ [(xi, r)]).map Prod.snd).reverse x) (fun x => ?_)).pair
        rw [letsF_snoc, ← EF.out, EV.out, hq']
        cases r.ok
        · simp [ev0]
        · simp [ev1]
      have s2d := s2.drew
      clear ev2 eF d2 EF EV
      gi_wp2
      refine region_held_in (S := (fun w' => w'.cell? ⟨w.heap.size, 0, none⟩ = some (.pointer (some ⟨a, 0, none⟩)) ∧ w'.cell? ⟨Bx, 0, none⟩ = some (.bool r.ok) ∧ w'.cell? ⟨Bx, 1, none⟩ = some (.int .u16 (r.a : Int)) ∧ w'.cell? ⟨Bx, 2, none⟩ = some (.int .u16 (r.b : Int)) ∧ w'.cell? ⟨Bx, 3, none⟩ = some (.int .u8 (r.c : Int)) ∧ w'.cell? ⟨Bx, 4, none⟩ = some (.int .u8 (r.d : Int)))) (by kernel_rfl) (by kernel_rfl) (fun ⟨_, _, e⟩ => e) (RS.four (by assumption)) (fun hHeld => ?_)
      refine' tk 0 rfl (by kernel_rfl) (fun _ _ _ h => h) (by rfl) (by assumption) ?y1 ?r1
      case y1 => (intro w h; (try dsimp only at h); go_simp; (try with_reducible rfl))
      try simp only [lays]
      refine' tk 1 rfl (by kernel_rfl) (fun _ _ _ h => h) (by rfl) (by assumption) ?y2 ?r2
      case y2 => (intro w h; (try dsimp only at h); go_simp; (try with_reducible rfl))
      try simp only [lays]
      refine' tk 2 rfl (by kernel_rfl) (fun _ _ _ h => h) (by rfl) (by assumption) ?y3 ?r3
      case y3 => (intro w h; (try dsimp only at h); go_simp; (try with_reducible rfl))
      try simp only [lays]
      refine wpAnyH_ready (rs := [3, 4]) (by kernel_rfl) (by simp) ?_
      refine AllReadyH.cons rfl (fun K hK => ?_) ?_
      · go_simp
        refine (answer_q r _).mono ?_; rintro e wz ⟨q, rfl, hq, hbz⟩; have sz := RS.below (F := F1) (by assumption) hbz; clear hbz; have cz := sz.b3.cell
        try go_wp2_with fail
        clear hHeld
        refine hK.out _ _ (by first | exact RS.four (by assumption) | exact RT.four (by assumption)) (fun hHeld => ?_)
        clear hK K
        try simp only [lays]
        refine wpAnyH_ready (rs := [4]) (by kernel_rfl) (by simp) (AllReadyH.cons rfl (fun K hK => ?_) AllReadyH.nil)
        go_simp
        skip
        try go_wp2_with fail
        clear hHeld
        refine hK.out _ _ (by first | exact RS.four (by assumption) | exact RT.four (by assumption)) (fun hHeld => ?_)
        clear hK K
        try simp only [lays]
        refine wpAnyH_ready (rs := [5]) (by kernel_rfl) (by simp) (AllReadyH.cons rfl (fun K hK => ?_) AllReadyH.nil)
        go_simp
        refine (IT.out _ q hq (by assumption)).mono ?_; rintro e wy ⟨ns3, v3, er3, rfl, A3, K3, X3, hL3, d3⟩; have sy := RS.step (F := F1) (by assumption) K3 A3; have cy := sy.b3.cell; have fy := sy.b3.frozen; clear K3 A3
        try go_wp2_with fail
        clear hHeld
        refine hK.out _ _ (by first | exact RS.four (by assumption) | exact RT.four (by assumption)) (fun hHeld => ?_)
        clear hK K
        try simp only [lays]
        refine' tk 6 rfl (by kernel_rfl) (fun _ _ _ h => h) (by rfl) (by assumption) ?y7 ?r7
        case y7 => (intro w h; (try dsimp only at h); go_simp; (try with_reducible rfl))
        try simp only [lays]
        refine' tk 7 rfl (by kernel_rfl) (fun _ _ _ h => h) (by rfl) (by assumption) ?y8 ?r8
        case y8 => (intro w h; (try dsimp only at h); go_simp; (try with_reducible rfl))
        try simp only [lays]
        refine' tk 8 rfl (by kernel_rfl) (fun _ _ _ h => h) (by rfl) (by assumption) ?y9 ?r9
        case y9 => (intro w h; (try dsimp only at h); go_simp; (try with_reducible rfl))
        try simp only [lays]
        refine wpAnyH_ready (rs := [9]) (by kernel_rfl) (by simp) (AllReadyH.cons rfl (fun K hK => ?_) AllReadyH.nil)
        go_simp
        have su := RS.set (F := F1) (by assumption) v3
        try go_wp2_with fail
        clear hHeld
        refine hK.out _ _ (by first | exact RS.four (by assumption) | exact RT.four (by assumption)) (fun hHeld => ?_)
        clear hK K
        try simp only [lays]
        refine' tk 10 rfl (by kernel_rfl) (fun _ _ _ h => h) (by rfl) (by assumption) ?y11 ?r11
        case y11 => (intro w h; (try dsimp only at h); go_simp; (try with_reducible rfl))
        try simp only [lays]
        refine wpAnyH_done (by kernel_rfl) ?_ _
        obtain ⟨y1, y2, y3, y4⟩ := su.two
        have hlp : (pre ++ [(xi, r)]).length = pre.length + 1 := by simp
        have hL4 : ns3.length ≤ ns.length + (pre ++ [(xi, r)]).length * 16427 := by rw [hlp]; omega
        rcases d3.out with ⟨rfl, F3, rfl, lt3, ev3⟩ | ⟨rfl, rfl, full3⟩
        · have fin : Hid (JI base a M w.heap.size ns.length (.slice A len cap) w (pre ++ [(xi, r)]) (wy.setCell ⟨w.heap.size + 1 + 1 + 1, 0, none⟩ (.int .i64 (F3 : Int)))) := ⟨ns3, F3, su.ar, lt3, ev3, hL4, su.b0, su.b1, su.b2, su.b3, su.b4, su.low⟩
          have kf := su.kf
          have kb := su.kb
          have b4 := su.b4
          clear su d3 ev3 sy IT hL4 hlp
          gi_wp2
          exact ⟨kf, ⟨kb, fun _ => b4⟩, fin.out⟩
        · have fin : Hid _ := su.err (L := ns.length) (k := (pre ++ [(xi, r)]).length) (by omega) (by omega)
          clear d3 sy IT hL4 hlp
          gi_wp2
          exact fin.out
      refine AllReadyH.cons rfl (fun K hK => ?_) AllReadyH.nil
      go_simp
      skip
      try go_wp2_with fail
      clear hHeld
      refine hK.out _ _ (by first | exact RS.four (by assumption) | exact RT.four (by assumption)) (fun hHeld => ?_)
      clear hK K
      try simp only [lays]
      refine wpAnyH_ready (rs := [3]) (by kernel_rfl) (by simp) (AllReadyH.cons rfl (fun K hK => ?_) AllReadyH.nil)
      go_simp
      refine (answer_q r _).mono ?_; rintro e wz ⟨q, rfl, hq, hbz⟩; have sz := RS.below (F := F1) (by assumption) hbz; clear hbz; have cz := sz.b3.cell
      try go_wp2_with fail
      clear hHeld
      refine hK.out _ _ (by first | exact RS.four (by assumption) | exact RT.four (by assumption)) (fun hHeld => ?_)
      clear hK K
      try simp only [lays]
      refine wpAnyH_ready (rs := [5]) (by kernel_rfl) (by simp) (AllReadyH.cons rfl (fun K hK => ?_) AllReadyH.nil)
      go_simp
      refine (IT.out _ q hq (by assumption)).mono ?_; rintro e wy ⟨ns3, v3, er3, rfl, A3, K3, X3, hL3, d3⟩; have sy := RS.step (F := F1) (by assumption) K3 A3; have cy := sy.b3.cell; have fy := sy.b3.frozen; clear K3 A3
      try go_wp2_with fail
      clear hHeld
      refine hK.out _ _ (by first | exact RS.four (by assumption) | exact RT.four (by assumption)) (fun hHeld => ?_)
      clear hK K
      try simp only [lays]
      refine' tk 6 rfl (by kernel_rfl) (fun _ _ _ h => h) (by rfl) (by assumption) ?y15 ?r15
      case y15 => (intro w h; (try dsimp only at h); go_simp; (try with_reducible rfl))
      try simp only [lays]
      refine' tk 7 rfl (by kernel_rfl) (fun _ _ _ h => h) (by rfl) (by assumption) ?y16 ?r16
      case y16 => (intro w h; (try dsimp only at h); go_simp; (try with_reducible rfl))
      try simp only [lays]
      refine' tk 8 rfl (by kernel_rfl) (fun _ _ _ h => h) (by rfl) (by assumption) ?y17 ?r17
      case y17 => (intro w h; (try dsimp only at h); go_simp; (try with_reducible rfl))
      try simp only [lays]
      refine wpAnyH_ready (rs := [9]) (by kernel_rfl) (by simp) (AllReadyH.cons rfl (fun K hK => ?_) AllReadyH.nil)
      go_simp
      have su := RS.set (F := F1) (by assumption) v3
      try go_wp2_with fail
      clear hHeld
      refine hK.out _ _ (by first | exact RS.four (by assumption) | exact RT.four (by assumption)) (fun hHeld => ?_)
      clear hK K
      try simp only [lays]
      refine' tk 10 rfl (by kernel_rfl) (fun _ _ _ h => h) (by rfl) (by assumption) ?y19 ?r19
      case y19 => (intro w h; (try dsimp only at h); go_simp; (try with_reducible rfl))
      try simp only [lays]
      refine wpAnyH_done (by kernel_rfl) ?_ _
      obtain ⟨y1, y2, y3, y4⟩ := su.two
      have hlp : (pre ++ [(xi, r)]).length = pre.length + 1 := by simp
      have hL4 : ns3.length ≤ ns.length + (pre ++ [(xi, r)]).length * 16427 := by rw [hlp]; omega
      rcases d3.out with ⟨rfl, F3, rfl, lt3, ev3⟩ | ⟨rfl, rfl, full3⟩
      · have fin : Hid (JI base a M w.heap.size ns.length (.slice A len cap) w (pre ++ [(xi, r)]) (wy.setCell ⟨w.heap.size + 1 + 1 + 1, 0, none⟩ (.int .i64 (F3 : Int)))) := ⟨ns3, F3, su.ar, lt3, ev3, hL4, su.b0, su.b1, su.b2, su.b3, su.b4, su.low⟩
        have kf := su.kf
        have kb := su.kb
        have b4 := su.b4
        clear su d3 ev3 sy IT hL4 hlp
        gi_wp2
        exact ⟨kf, ⟨kb, fun _ => b4⟩, fin.out⟩
      · have fin : Hid _ := su.err (L := ns.length) (k := (pre ++ [(xi, r)]).length) (by omega) (by omega)
        clear d3 sy IT hL4 hlp
        gi_wp2
        exact fin.out
    · have fin := s2.rt.err (L := ns.length) (k := (pre ++ [(xi, r)]).length) (by omega) (by simp; omega)
      clear d2
      gi_wp2
      exact fin
  case done =>
    rintro D ys W hD rfl ⟨ns1, F1, A1, lF, eF, _, b0, b1, b2, b3, b4, D1⟩ hK
    have eF' : Hid (∀ x, ev ns1 F1 x = letsF xs x) := fun x => by rw [eF x, came_all]
    clear eF
    have hD' : D < W.heap.size := (Array.getElem?_eq_some_iff.1 hK).1
    have e1 := (b1.set (.int .i64 (F1 : Int))).other (B' := w.heap.size + 1 + 1) (by omega) (.int .i64 0)
    have b2' := b2.other (B' := w.heap.size + 1) (by omega) (.int .i64 (F1 : Int))
    have e2 := b2'.set (.int .i64 0)
    have A2 := (A1.setBox b1 (by decide) (by decide) (.int .i64 (F1 : Int))).setBox b2' (by decide) (by decide) (.int .i64 0)
    have D2 := (D1.setCell (p := ⟨w.heap.size + 1, 0, none⟩) (by show base ≤ w.heap.size + 1; omega) (.int .i64 (F1 : Int))).setCell (p := ⟨w.heap.size + 1 + 1, 0, none⟩) (by show base ≤ w.heap.size + 1 + 1; omega) (.int .i64 0)
    have hK' := ((KeepsOthers.setCell W ⟨w.heap.size + 1, 0, none⟩ (.int .i64 (F1 : Int))).trans (KeepsOthers.setCell _ ⟨w.heap.size + 1 + 1, 0, none⟩ (.int .i64 0))).same D _ hK rfl
    have c1 := b1.cell
    have f1 := b1.frozen
    have c2 := b2'.cell
    have f2 := b2'.frozen
    have c3 := b3.cell
    gi_wp2
    refine ⟨by simp, .inl ⟨_, _, rfl, run_takeDeferred hK', ?_⟩⟩
    obtain ⟨A3, r1, r2, D3⟩ := putD (o := .deferred none) A2 e1 e2 D2 hK' (by omega) (by omega) (by omega)
    exact ⟨.tuple #[.int .i64 (F1 : Int), .int .i64 0], by simp [results, Tryz.results180, go_sem, r1, r2], ns1, A3, D3, .inl ⟨F1, rfl, lF, eF'.out⟩⟩
  case stop =>
    rintro D c pre W hD ⟨k, hk, rfl⟩ ⟨rfl, hL, ns1, A1, b1, b2, D1⟩ hK
    rw [came_length] at hL
    have hL' : 40000 ≤ ns.length + xs.length * 16427 := by
      have := Nat.mul_le_mul_right 16427 hk
      omega
    gi_wp2
    refine ⟨by simp, .inl ⟨_, _, rfl, run_takeDeferred hK, ?_⟩⟩
    obtain ⟨A3, r1, r2, D3⟩ := putD (o := .deferred none) A1 b1 b2 D1 hK (by omega) (by omega) (by omega)
    exact ⟨.tuple #[.int .i64 0, .int .i64 6], by simp [results, Tryz.results180, go_sem, r1, r2], ns1, A3, D3, .inr ⟨rfl, hL'⟩⟩
end Go.Proofs.YtlmmeppifkigeaaGreat

namespace Go.Proofs.YtlmmeppifkigeaaGreat
open Go.RowKit

theorem letsB_drop {xs : List Rl} {k : Nat} {r : Rl} (h : xs[k]? = some r) (p q s t : Int) : letsB (xs.drop k) p q s t = if inR r p q s t then r.ok else letsB (xs.drop (k + 1)) p q s t := by
  obtain ⟨hk, e⟩ := List.getElem?_eq_some_iff.1 h
  rw [List.drop_eq_getElem_cons hk, e]
  rfl

set_option maxHeartbeats 4000000 in
theorem lets_row (b o cap : Nat) (xs : List Rl) (p q s t : Int) (w : World) (hb : b < w.heap.size) (hn : xs.length ≤ cap) (hcap : cap ≤ maxLen) (hr : RAt w b o xs) :
    Calls Tryz.prog 152 #[.slice (some ⟨b, o, none⟩) xs.length cap, pk p q s t] w fun e w' => e = .returned (.bool (letsB xs p q s t)) ∧ Below w.heap.size w w' := by
  unfold maxLen at hcap
  have D0 := Below.alloc' (Below.refl w.heap.size w) (.cells #[.int .i64 p, .int .i64 q, .int .i64 s, .int .i64 t] 36)
  have F0 := four_new w (.int .i64 p) (.int .i64 q) (.int .i64 s) (.int .i64 t) 36
  go_enter Tryz.func152, Tryz.ntmps152
  go_wp2_with fail
  go_loopw [9] (fun i wr => ∃ k : Nat, i = .int .i64 (k : Int) ∧ k ≤ xs.length ∧ Below w.heap.size w wr ∧ Four wr w.heap.size (.int .i64 p) (.int .i64 q) (.int .i64 s) (.int .i64 t) ∧ letsB xs p q s t = letsB (xs.drop k) p q s t) (fun i _ => xs.length - (intOf i).toNat)
  case atStart => exact ⟨0, rfl, by omega, D0, F0, rfl⟩
  case round =>
    obtain ⟨k, rfl, hk, D1, F1, hl⟩ := hrel
    have Hl : Hid (letsB xs p q s t = letsB (xs.drop k) p q s t) := hl
    clear hl
    by_cases hlt : k < xs.length
    · obtain ⟨r, hxk⟩ : ∃ r, xs[k]? = some r := ⟨_, List.getElem?_eq_getElem hlt⟩
      obtain ⟨c0, c1, c2, c3, c4⟩ := (hr.below D1 hb).at hxk
      have Hd : Hid (letsB (xs.drop k) p q s t = if inR r p q s t then r.ok else letsB (xs.drop (k + 1)) p q s t) := letsB_drop hxk p q s t
      have IN : Hid (∀ w, Calls Tryz.prog 172 #[mt r.a r.b r.c r.d, pk p q s t] w fun e w' => e = .returned (.bool (inR r p q s t)) ∧ Below w.heap.size w w') := fun w => in_any r.a r.b r.c r.d p q s t w r.ha r.hb r.hc r.hd
      have D2 := Below.alloc' D1 (.cells #[.bool r.ok, .int .u16 (r.a : Int), .int .u16 (r.b : Int), .int .u8 (r.c : Int), .int .u8 (r.d : Int)] 71)
      have F2 := allocFour F1 (.cells #[.bool r.ok, .int .u16 (r.a : Int), .int .u16 (r.b : Int), .int .u8 (r.c : Int), .int .u8 (r.d : Int)] 71)
      have B2 : (wr.alloc (.cells #[.bool r.ok, .int .u16 (r.a : Int), .int .u16 (r.b : Int), .int .u8 (r.c : Int), .int .u8 (r.d : Int)] 71)).cell? ⟨wr.heap.size, 0, none⟩ = some (.bool r.ok) := by simp [go_sem]
      obtain ⟨l0, g0, g1, g2, g3⟩ := id F1
      have lw := D1.size
      clear hr hxk
      generalize inR r p q s t = v at *
      generalize r.ok = ok at *
      generalize r.a = ra at *
      generalize r.b = rb at *
      generalize r.c = rc at *
      generalize r.d = rd at *
      go_wp2_with fail
      refine (IN.out _).mono ?_
      rintro e w3 ⟨rfl, hb3⟩
      have D3 := chain hb3 D2
      have F3 := keepFour hb3 F2
      have c5 : w3.cell? ⟨wr.heap.size, 0, none⟩ = some (.bool ok) := (hb3.cell (p := ⟨wr.heap.size, 0, none⟩) (by simp)).trans B2
      clear hb3 D2 F2 F1 D1 B2 IN c0 c1 c2 c3 c4 g0 g1 g2 g3
      cases v
      · go_wp2_with fail
        go_roundw
        case rel => exact ⟨k + 1, by go_num, by omega, D3, F3, by rw [Hl.out, Hd.out]; simp⟩
        case measure => simp [intOf]; omega
      · go_wp2_with fail
        go_ret
        exact ⟨by rw [Hl.out, Hd.out]; simp, D3⟩
    · go_wp2_with fail
      go_ret
      exact ⟨by rw [Hl.out, List.drop_eq_nil_of_le (by omega)]; rfl, D1⟩

set_option maxHeartbeats 1000000 in
theorem lets_none (A : Option Addr) (cap : Nat) (p q s t : Int) (w : World) :
    Calls Tryz.prog 152 #[.slice A 0 cap, pk p q s t] w fun e w' => e = .returned (.bool false) ∧ Below w.heap.size w w' := by
  have D0 := Below.alloc' (Below.refl w.heap.size w) (.cells #[.int .i64 p, .int .i64 q, .int .i64 s, .int .i64 t] 36)
  go_enter Tryz.func152, Tryz.ntmps152
  go_wp2_with fail
  go_loopw [9] (fun i wr => i = .int .i64 0 ∧ Below w.heap.size w wr) (fun i _ => 0)
  case atStart => exact ⟨rfl, D0⟩
  case round =>
    obtain ⟨rfl, D1⟩ := hrel
    go_wp2_with fail
    go_ret
    exact ⟨rfl, D1⟩

/-- Lets. -/
theorem lets_any {v : Value} {xs : List Rl} (p q s t : Int) (w : World) (h : Rules w.heap.size w v xs) :
    Calls Tryz.prog 152 #[v, pk p q s t] w fun e w' => e = .returned (.bool (letsB xs p q s t)) ∧ Below w.heap.size w w' := by
  obtain ⟨A, cap, rfl, _, h1, h2, h3⟩ := h
  by_cases hx : xs = []
  · subst hx
    exact lets_none A cap p q s t w
  · obtain ⟨b, o, rfl, hb, hr⟩ := h3 hx
    exact lets_row b o cap xs p q s t w hb h1 h2 hr
end Go.Proofs.YtlmmeppifkigeaaGreat

namespace Go.Proofs.YtlmmeppifkigeaaGreat
open Go.RowKit Go.Maps

theorem check_ok (A : Option Addr) (n cap : Nat) (w : World) : Calls Tryz.prog 78 #[.slice A n cap] w fun e w' => e = .returned (.int .i64 (if 8 < n then 2 else 0)) ∧ w' = w := by
  by_cases h : 8 < n
  · have t : decide ((8 : Int) < (n : Int)) = true := by simp; omega
    rw [if_pos h]
    go_enter Tryz.func78, Tryz.ntmps78
    go_wp2_with fail
    go_ret
    exact ⟨rfl, rfl⟩
  · have t : decide ((8 : Int) < (n : Int)) = false := by simp; omega
    rw [if_neg h]
    go_enter Tryz.func78, Tryz.ntmps78
    go_wp2_with fail
    go_ret
    exact ⟨rfl, rfl⟩

/-- What Build leaves. -/
def BPost (E : Prop) (base a M : Nat) (w : World) (ns : List Nd) (xs : List Rl) (e : Ending) (w' : World) : Prop :=
  ∃ ns', Ar base a M 14 40000 w' ns' ∧ Kp (ca base a M 14 40000) w w' ∧ Ext ns ns' ∧
    ((∃ f : Nat, e = .returned (.tuple #[.int .i64 (f : Int), .int .i64 0]) ∧ f < ns'.length ∧ ∀ x, ev ns' f x = letsF xs x) ∨ (e = .returned (.tuple #[.int .i64 0, .int .i64 6]) ∧ E))

theorem BPost.pair {E : Prop} {base a M : Nat} {w w' : World} {ns : List Nd} {xs : List Rl} {e : Ending} (h : BPost E base a M w ns xs e w') :
    ∃ (ns' : List Nd) (v er : Int), e = .returned (.tuple #[.int .i64 v, .int .i64 er]) ∧ Ar base a M 14 40000 w' ns' ∧ Kp (ca base a M 14 40000) w w' ∧ Ext ns ns' ∧
      Hid ((er = 0 ∧ ∃ f : Nat, v = (f : Int) ∧ f < ns'.length ∧ ∀ x, ev ns' f x = letsF xs x) ∨ (er = 6 ∧ v = 0 ∧ E)) := by
  obtain ⟨ns', r1, r2, r3, ⟨f, e1, e2⟩ | ⟨e1, e2⟩⟩ := h
  · exact ⟨ns', f, 0, e1, r1, r2, r3, Or.inl ⟨rfl, f, rfl, e2⟩⟩
  · exact ⟨ns', 0, 6, e1, r1, r2, r3, Or.inr ⟨rfl, rfl, e2⟩⟩

set_option maxHeartbeats 1000000 in
theorem abuild_large (p : Value) (A : Option Addr) (n cap : Nat) (hn : 8 < n) (w : World) :
    Calls Tryz.prog 168 #[p, .slice A n cap] w fun e w' => e = .returned (.tuple #[.int .i64 0, .int .i64 2]) ∧ w' = w := by
  have CK : Hid (∀ w, Calls Tryz.prog 78 #[.slice A n cap] w fun e w' => e = .returned (.int .i64 2) ∧ w' = w) := fun w => by
    have := check_ok A n cap w
    rw [if_pos hn] at this
    exact this
  clear hn
  go_enter Tryz.func168, Tryz.ntmps168
  go_wp2_with (go_at_call 78; refine (CK.out _).mono ?_; rintro e w' ⟨rfl, rfl⟩)
  go_ret2
  exact ⟨rfl, rfl⟩

set_option maxHeartbeats 4000000 in
set_option maxRecDepth 100000 in
theorem abuild_ok {base a M : Nat} {w : World} {ns : List Nd} (h : Ar base a M 14 40000 w ns) (A : Option Addr) (n cap : Nat) (xs : List Rl) (hR : Rules w.heap.size w (.slice A n cap) xs) (hlen : xs.length ≤ 8) :
    Calls Tryz.prog 168 #[.pointer (some ⟨a, 0, none⟩), .slice A n cap] w (BPost True base a M w ns xs) := by
  have hn : n = xs.length := by
    obtain ⟨_, _, e, _⟩ := hR
    cases e
    rfl
  have CK : Hid (∀ w, Calls Tryz.prog 78 #[.slice A n cap] w fun e w' => e = .returned (.int .i64 0) ∧ w' = w) := fun w => by
    have := check_ok A n cap w
    rw [if_neg (by omega)] at this
    exact this
  have NW : Hid (Calls Tryz.prog 26 #[.int .i64 14, .int .i64 40000] w fun e w' => ∃ a2 M2, e = .returned (.tuple #[.pointer (some ⟨a2, 0, none⟩), .int .i64 0]) ∧ Ar w.heap.size a2 M2 14 40000 w' [(14, 0, 0), (14, 1, 1)] ∧ Below w.heap.size w w') := new_ok (v := 14) (m := 40000) w (by omega) (by omega) (by omega) (by omega)
  clear hn
  go_enter Tryz.func168, Tryz.ntmps168
  go_wp2_with (go_at_call 78; refine (CK.out _).mono ?_; rintro e w' ⟨rfl, rfl⟩)
  refine NW.out.mono ?_
  rintro e w2 ⟨a2, M2, rfl, A2, hb2⟩
  have JO : Hid (Calls Tryz.prog 180 #[.pointer (some ⟨a2, 0, none⟩), .slice A n cap] w2 fun e w' => ∃ ns', Ar _ a2 M2 14 40000 w' ns' ∧ Below _ w2 w' ∧
      ((∃ f : Nat, e = .returned (.tuple #[.int .i64 (f : Int), .int .i64 0]) ∧ f < ns'.length ∧ ∀ x, ev ns' f x = letsF xs x) ∨ (e = .returned (.tuple #[.int .i64 0, .int .i64 6]) ∧ _))) := join_ok A2 A n cap xs (hR.below hb2) hlen
  clear CK NW
  go_wp2_with fail
  refine JO.out.mono ?_
  rintro e w3 ⟨ns3, A3, hb3, hres⟩
  have D3 := hb2.trans hb3
  have H3 := h.below D3
  have K3 := h.kbelow D3
  clear JO hb2 hb3 A2
  rcases hres with ⟨f, rfl, lf, ef⟩ | ⟨rfl, _⟩
  · obtain ⟨_, _, _, rl⟩ := h.row
    have hrow := rowOf_same (D3.block a h.lta)
    have TK : Hid (Calls Tryz.prog 93 #[.pointer (some ⟨a, 0, none⟩), .pointer (some ⟨a2, 0, none⟩), .int .i64 (f : Int)] w3 (OpPost base a M 14 40000 w3 ns (2 ^ 14 - 1) fun q => ev ns3 f q)) := take_ok H3 A3 (Nat.le_refl _) h.lta h.ltM (by rw [hrow]; exact rl) lf
    clear hrow rl A3
    go_wp2_with fail
    refine TK.out.mono ?_
    rintro e w4 hp
    obtain ⟨ns4, v4, er4, rfl, A4, K4, X4, _, d4⟩ := hp.pair
    have KK := K3.trans K4
    clear hp TK H3 K3 K4 D3
    have fin : Hid (BPost True base a M w' ns xs (.returned (.tuple #[.int .i64 v4, .int .i64 er4])) w4) := by
      rcases d4.out with ⟨rfl, f4, rfl, l4, e4⟩ | ⟨rfl, rfl, _⟩
      · exact ⟨ns4, A4, KK, X4, .inl ⟨f4, rfl, l4, fun x => (e4 x).trans (ef x)⟩⟩
      · exact ⟨ns4, A4, KK, X4, .inr ⟨rfl, trivial⟩⟩
    clear d4 A4 KK X4 ef
    go_wp2_with fail
    go_ret2
    exact fin.out
  · have fin : Hid (BPost True base a M w' ns xs (.returned (.tuple #[.int .i64 0, .int .i64 6])) w3) := ⟨ns, H3, K3, Ext.refl _, .inr ⟨rfl, trivial⟩⟩
    clear H3 K3 D3 A3
    go_wp2_with fail
    go_ret2
    exact fin.out
set_option maxHeartbeats 4000000 in
set_option maxRecDepth 100000 in
/-- Build, of at most two rules whose function hangs on nothing: it finds room. -/
theorem abuild_const {base a M : Nat} {w : World} {ns : List Nd} (h : Ar base a M 14 40000 w ns) (A : Option Addr) (n cap : Nat) (xs : List Rl) (hR : Rules w.heap.size w (.slice A n cap) xs) (hlen : xs.length ≤ 2) (b : Bool) (hc : ∀ x, letsF xs x = b) :
    Calls Tryz.prog 168 #[.pointer (some ⟨a, 0, none⟩), .slice A n cap] w (BPost False base a M w ns xs) := by
  have hn : n = xs.length := by
    obtain ⟨_, _, e, _⟩ := hR
    cases e
    rfl
  have CK : Hid (∀ w, Calls Tryz.prog 78 #[.slice A n cap] w fun e w' => e = .returned (.int .i64 0) ∧ w' = w) := fun w => by
    have := check_ok A n cap w
    rw [if_neg (by omega)] at this
    exact this
  have NW : Hid (Calls Tryz.prog 26 #[.int .i64 14, .int .i64 40000] w fun e w' => ∃ a2 M2, e = .returned (.tuple #[.pointer (some ⟨a2, 0, none⟩), .int .i64 0]) ∧ Ar w.heap.size a2 M2 14 40000 w' [(14, 0, 0), (14, 1, 1)] ∧ Below w.heap.size w w') := new_ok (v := 14) (m := 40000) w (by omega) (by omega) (by omega) (by omega)
  clear hn
  go_enter Tryz.func168, Tryz.ntmps168
  go_wp2_with (go_at_call 78; refine (CK.out _).mono ?_; rintro e w' ⟨rfl, rfl⟩)
  refine NW.out.mono ?_
  rintro e w2 ⟨a2, M2, rfl, A2, hb2⟩
  have JO : Hid (Calls Tryz.prog 180 #[.pointer (some ⟨a2, 0, none⟩), .slice A n cap] w2 fun e w' => ∃ ns', Ar _ a2 M2 14 40000 w' ns' ∧ Below _ w2 w' ∧
      ((∃ f : Nat, e = .returned (.tuple #[.int .i64 (f : Int), .int .i64 0]) ∧ f < ns'.length ∧ ∀ x, ev ns' f x = letsF xs x) ∨ (e = .returned (.tuple #[.int .i64 0, .int .i64 6]) ∧ _))) := join_ok A2 A n cap xs (hR.below hb2) (by omega)
  clear CK NW
  go_wp2_with fail
  refine JO.out.mono ?_
  rintro e w3 ⟨ns3, A3, hb3, hres⟩
  have D3 := hb2.trans hb3
  have H3 := h.below D3
  have K3 := h.kbelow D3
  clear JO hb2 hb3 A2
  obtain ⟨f, rfl, lf, ef⟩ : ∃ f : Nat, e = .returned (.tuple #[.int .i64 (f : Int), .int .i64 0]) ∧ f < ns3.length ∧ ∀ x, ev ns3 f x = letsF xs x := by
    rcases hres with h | ⟨_, h⟩
    · exact h
    · simp only [List.length_cons, List.length_nil] at h
      omega
  have l3 := A3.wf.len
  have hf : f = if b then 1 else 0 := by
    refine canon A3.wf lf (by split <;> omega) (fun x => ?_)
    rw [ef x, hc x]
    cases b
    · rfl
    · simp [ev1]
  have TK : Hid (Calls Tryz.prog 93 #[.pointer (some ⟨a, 0, none⟩), .pointer (some ⟨a2, 0, none⟩), .int .i64 (f : Int)] w3 fun e w' => e = .returned (.tuple #[.int .i64 (f : Int), .int .i64 0]) ∧ Ar base a M 14 40000 w' ns ∧ Kp (ca base a M 14 40000) w3 w') := take_const H3 A3 (Nat.le_refl _) (by rw [hf]; split <;> omega)
  have h2 := h.wf.len
  have hlt : f < ns.length := by rw [hf]; split <;> omega
  have hev : ∀ x, ev ns f x = letsF xs x := fun x => by
    rw [hc x, hf]
    cases b
    · rfl
    · simp [ev1]
  have EV : Hid (∀ x, ev ns f x = letsF xs x) := hev
  clear hf hev ef A3 H3 hc hres
  go_wp2_with fail
  refine TK.out.mono ?_
  rintro e w4 ⟨rfl, A4, K4⟩
  have fin : Hid (BPost False base a M w' ns xs (.returned (.tuple #[.int .i64 (f : Int), .int .i64 0])) w4) := ⟨ns, A4, K3.trans K4, Ext.refl _, .inl ⟨f, rfl, hlt, EV.out⟩⟩
  clear A4 K4 K3 TK EV D3
  go_wp2_with fail
  go_ret2
  exact fin.out
end Go.Proofs.YtlmmeppifkigeaaGreat

namespace Go.Proofs.YtlmmeppifkigeaaGreat
open Go.RowKit Go.Maps

def Bz (W : World) (k : Nat) (c : Array Value) (t : TypeId) : Prop := W.heap[k]? = some (.cells c t (0, 0))
theorem Bz.lt {W : World} {k : Nat} {c : Array Value} {t : TypeId} (h : Bz W k c t) : k < W.heap.size := (Array.getElem?_eq_some_iff.1 h).1
theorem Bz.cell {W : World} {k : Nat} {c : Array Value} {t : TypeId} (h : Bz W k c t) (j : Nat) (v : Value) (hj : c[j]? = some v) : W.cell? ⟨k, j, none⟩ = some v := by
  unfold Bz at h
  simp [World.cell?, h, hj]
theorem Bz.free {W : World} {k : Nat} {c : Array Value} {t : TypeId} (h : Bz W k c t) (j : Nat) : W.frozen? ⟨k, j, none⟩ = false := by unfold Bz at h; simp [World.frozen?, h]
theorem Bz.set {W : World} {k j : Nat} {c : Array Value} {t : TypeId} (h : Bz W k c t) (u : Value) : Bz (W.setCell ⟨k, j, none⟩ u) k (c.setIfInBounds j u) t := by
  unfold Bz at *
  simp [World.setCell, Array.getElem?_modify, h]
theorem Bz.new (w : World) (c : Array Value) (t : TypeId) (k : Nat) (h : k = w.heap.size) : Bz (w.alloc (.cells c t)) k c t := by subst h; exact Go.heap_alloc_new w _
/-- A bench, in block q, made when the heap had base blocks. -/
structure Bn (base q a M : Nat) (w0 w : World) (ns : List Nd) (er : Int) : Prop where
  ar : Ar base a M 14 40000 w ns
  blk : Bz w q #[.pointer (some ⟨a, 0, none⟩), .int .i64 er] 162
  lo : base ≤ q
  er6 : er = 0 ∨ er = 6
  bel : Below base w0 w
/-- A function's number; what it is, unless there was no room. -/
def Fn (ns : List Nd) (er : Int) (f : Nat) (φ : Env → Bool) : Prop := f < ns.length ∧ (er = 0 → ∀ x, ev ns f x = φ x)
/-- What a call of an arena leaves. -/
def OPost (base a M : Nat) (w : World) (ns : List Nd) (g : Nat) (φ : Env → Bool) (e : Ending) (w' : World) : Prop :=
  ∃ (ns' : List Nd) (v er : Int), e = .returned (.tuple #[.int .i64 v, .int .i64 er]) ∧ Ar base a M 14 40000 w' ns' ∧ Kp (ca base a M 14 40000) w w' ∧ Ext ns ns' ∧ ns'.length ≤ ns.length + g ∧
    Hid ((er = 0 ∧ ∃ f : Nat, v = (f : Int) ∧ f < ns'.length ∧ ∀ x, ev ns' f x = φ x) ∨ (er = 6 ∧ v = 0 ∧ 40000 ≤ ns.length + g))
theorem OpPost.o {base a M : Nat} {w w' : World} {ns : List Nd} {g : Nat} {φ : Env → Bool} {e : Ending} (h : OpPost base a M 14 40000 w ns g φ e w') : OPost base a M w ns g φ e w' := by
  obtain ⟨ns', r1, r2, r3, r4, ⟨f, e1, e2⟩ | ⟨e1, e2⟩⟩ := h
  · exact ⟨ns', f, 0, e1, r1, r2, r3, r4, Or.inl ⟨rfl, f, rfl, e2⟩⟩
  · exact ⟨ns', 0, 6, e1, r1, r2, r3, r4, Or.inr ⟨rfl, rfl, by omega⟩⟩
theorem MkPost.o {base a M : Nat} {w w' : World} {ns : List Nd} {g i : Nat} {φ : Env → Bool} {e : Ending} (h : MkPost base a M 14 40000 w ns g i φ e w') : OPost base a M w ns g φ e w' := by
  obtain ⟨ns', r1, r2, r3, r4, ⟨f, e1, e2, e3, e4⟩ | ⟨e1, e2⟩⟩ := h
  · exact ⟨ns', f, 0, e1, r1, r2, r3, r4, Or.inl ⟨rfl, f, rfl, e2, e4⟩⟩
  · exact ⟨ns', 0, 6, e1, r1, r2, r3, r4, Or.inr ⟨rfl, rfl, by omega⟩⟩
theorem BPost.o {base a M : Nat} {w w' : World} {ns : List Nd} {xs : List Rl} {e : Ending} (h : BPost True base a M w ns xs e w') : OPost base a M w ns 40000 (letsF xs) e w' := by
  obtain ⟨ns', r1, r2, r3, ⟨f, e1, e2⟩ | ⟨e1, e2⟩⟩ := h
  · have := r1.le
    exact ⟨ns', f, 0, e1, r1, r2, r3, by omega, Or.inl ⟨rfl, f, rfl, e2⟩⟩
  · have := r1.le
    exact ⟨ns', 0, 6, e1, r1, r2, r3, by omega, Or.inr ⟨rfl, rfl, by omega⟩⟩
/-- Types of what a bench doesn't touch. -/
def okT (t : TypeId) : Prop := (t ≠ 93 ∧ t ≠ 96) ∧ t ≠ 134 ∧ t ≠ 162
instance (t : TypeId) : Decidable (okT t) := by unfold okT; infer_instance
/-- Variables of other types stay. -/
def TF (w w' : World) : Prop := ∀ i c t, Bz w i c t → okT t → Bz w' i c t
theorem TF.refl (w : World) : TF w w := fun _ _ _ h _ => h
theorem TF.trans {w w1 w2 : World} (h : TF w w1) (k : TF w1 w2) : TF w w2 := fun i c t hb ht => k i c t (h i c t hb ht) ht
theorem TF.below {w w' : World} (h : Below w.heap.size w w') : TF w w' := fun i _ _ hb _ => (h.block i hb.lt).trans hb
/-- What a call of a bench leaves. -/
def BOut (base q a M : Nat) (w0 w : World) (ns : List Nd) (er : Int) (g : Nat) (φ : Env → Bool) (e : Ending) (w' : World) : Prop :=
  ∃ (f : Nat) (ns' : List Nd) (er' : Int), e = .returned (.int .i64 (f : Int)) ∧ (Bn base q a M w0 w' ns' er' ∧ TF w w') ∧ Ext ns ns' ∧ (er' = 0 → er = 0) ∧ Fn ns' er' f φ ∧ Hid (er = 0 → ns'.length ≤ ns.length + g ∧ (er' ≠ 0 → 40000 ≤ ns.length + g))
section
variable {base q a M : Nat} {w0 w w1 : World} {ns ns' : List Nd} {er er' : Int}
theorem Fn.step {f : Nat} {φ : Env → Bool} (h : Fn ns er f φ) (A : Wf 14 ns) (A' : Wf 14 ns') (X : Ext ns ns') (he : er' = 0 → er = 0) : Fn ns' er' f φ := by
  have := X.len
  exact ⟨by have := h.1; omega, fun e x => by rw [X.ev A A' f h.1]; exact h.2 (he e) x⟩
theorem Bn.keep (h : Bn base q a M w0 w ns er) (k : Kp (ca base a M 14 40000) w w1) : Bz w1 q #[.pointer (some ⟨a, 0, none⟩), .int .i64 er] 162 := ((h.ar.outBox h.blk (by decide) (by decide)).kp k).blk
theorem Ar.setQ {er2 : Value} {c : Array Value} (A : Ar base a M 14 40000 w ns) (hq : Bz w q c 162) : Ar base a M 14 40000 (w.setCell ⟨q, 1, none⟩ er2) ns := by
  have L := (A.outBox hq (by decide) (by decide)).out
  refine A.same (Below.heap_setCell w _ _ _ (fun e => L.not (Or.inl e.symm))) (Below.heap_setCell w _ _ _ (fun e => L.not (Or.inr (Or.inr (Or.inl e.symm))))) (Below.heap_setCell w _ _ _ (fun e => L.ne e.symm))
set_option maxHeartbeats 1000000 in
theorem keep_b (hq : Bz w q #[.pointer (some ⟨a, 0, none⟩), .int .i64 er] 162) (v e2 : Int) :
    Calls Tryz.prog 97 #[.pointer (some ⟨q, 0, none⟩), .int .i64 v, .int .i64 e2] w fun e w' => e = .returned (.int .i64 v) ∧ w' = if er = 0 then w.setCell ⟨q, 1, none⟩ (.int .i64 e2) else w := by
  have c1 := hq.cell 1 _ rfl
  have f1 := hq.free 1
  by_cases h : er = 0
  · subst h
    rw [if_pos rfl]
    go_enter Tryz.func97, Tryz.ntmps97
    go_wp2_with fail
    go_ret
    exact ⟨rfl, rfl⟩
  · have hb : (er == 0) = false := by simpa using h
    rw [if_neg h]
    go_enter Tryz.func97, Tryz.ntmps97
    go_wp2_with fail
    go_ret
    exact ⟨rfl, rfl⟩
/-- A call of the arena, then keep. -/
theorem Bn.fin {g : Nat} {φ : Env → Bool} {v e2 : Int} {w2 : World} (h : Bn base q a M w0 w ns er) (A1 : Ar base a M 14 40000 w1 ns') (k : Kp (ca base a M 14 40000) w w1) (X : Ext ns ns') (l : ns'.length ≤ ns.length + g)
    (hv : Hid ((e2 = 0 ∧ ∃ f : Nat, v = (f : Int) ∧ f < ns'.length ∧ ∀ x, ev ns' f x = φ x) ∨ (e2 = 6 ∧ v = 0 ∧ 40000 ≤ ns.length + g))) (hw : w2 = if er = 0 then w1.setCell ⟨q, 1, none⟩ (.int .i64 e2) else w1) : BOut base q a M w0 w ns er g φ (.returned (.int .i64 v)) w2 := by
  have hq := h.keep k
  have bl := h.bel.trans (h.ar.kp_below k)
  have hlen := A1.wf.len
  have tf1 : TF w w1 := fun i c t hb ht => ((h.ar.outBox hb ht.1 ht.2.1).kp k).blk
  have hvv : ∃ f : Nat, v = (f : Int) ∧ f < ns'.length ∧ (e2 = 0 → ∀ x, ev ns' f x = φ x) ∧ (e2 = 0 ∨ e2 = 6) ∧ (e2 ≠ 0 → 40000 ≤ ns.length + g) := by
    rcases hv.out with ⟨rfl, f, rfl, h1, h2⟩ | ⟨rfl, rfl, h3⟩
    · exact ⟨f, rfl, h1, fun _ => h2, .inl rfl, fun h => absurd rfl h⟩
    · exact ⟨0, rfl, by omega, fun h => by omega, .inr rfl, fun _ => h3⟩
  obtain ⟨f, rfl, h1, h2, h3, h4⟩ := hvv
  by_cases he : er = 0
  · subst he
    rw [if_pos rfl] at hw
    subst hw
    exact ⟨f, ns', e2, rfl, ⟨⟨A1.setQ hq, hq.set (j := 1) _, h.lo, h3, bl.setCell (p := ⟨q, 1, none⟩) h.lo _⟩, fun i c t hb ht => (Below.heap_setCell w1 _ _ _ (fun e => by
      have e' : i = q := e
      have hb1 := tf1 i c t hb ht
      unfold Bz at hb1 hq
      rw [e', hq] at hb1
      simp only [Option.some.injEq, Obj.cells.injEq] at hb1
      exact ht.2.2 hb1.2.1.symm)).trans (tf1 i c t hb ht)⟩, X, fun _ => rfl, ⟨h1, h2⟩, fun _ => ⟨l, h4⟩⟩
  · rw [if_neg he] at hw
    subst hw
    exact ⟨f, ns', er, rfl, ⟨⟨A1, hq, h.lo, h.er6, bl⟩, tf1⟩, X, id, ⟨h1, fun e => absurd e he⟩, fun e => absurd e he⟩
set_option maxHeartbeats 1000000 in
/-- A new bench. -/
theorem newBench_b (w : World) : Calls Tryz.prog 65 #[] w fun e w' => ∃ q a M, e = .returned (.tuple #[.pointer (some ⟨q, 0, none⟩), .int .i64 0]) ∧ Bn w.heap.size q a M w w' [(14, 0, 0), (14, 1, 1)] 0 := by
  have NW : Hid (Calls Tryz.prog 26 #[.int .i64 14, .int .i64 40000] w fun e w' => ∃ a M, e = .returned (.tuple #[.pointer (some ⟨a, 0, none⟩), .int .i64 0]) ∧ Ar w.heap.size a M 14 40000 w' [(14, 0, 0), (14, 1, 1)] ∧ Below w.heap.size w w') := new_ok (v := 14) (m := 40000) w (by omega) (by omega) (by omega) (by omega)
  go_enter Tryz.func65, Tryz.ntmps65
  go_wp2_with fail
  refine NW.out.mono ?_
  rintro e w1 ⟨a, M, rfl, A1, hb1⟩
  have hfin : Bn w.heap.size w1.heap.size a M w (w1.alloc (.cells #[.pointer (some ⟨a, 0, none⟩), .int .i64 0] 162)) [(14, 0, 0), (14, 1, 1)] 0 := ⟨A1.alloc _, Bz.new w1 _ _ _ rfl, hb1.size, .inl rfl, hb1.alloc hb1.size _⟩
  clear NW A1 hb1
  go_wp2_with fail
  go_ret2
  exact ⟨_, _, _, rfl, hfin⟩
end
end Go.Proofs.YtlmmeppifkigeaaGreat
