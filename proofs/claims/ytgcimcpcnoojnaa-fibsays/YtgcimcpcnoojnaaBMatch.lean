/-
  Build of a match; New at wrong arguments.
-/
import Derived.Test.YtgcimcpcnoojnaaBBuild
namespace Go.Proofs.Ytgcimcpcnoojnaa
open Go.RowKit Go.Maps

/-- What Build makes. -/
def phi (sa sb sc sd : Nat) (x : Env) : Bool := sel 4 sa 0 x && (sel 4 sb 4 x && (sel 3 sc 8 x && (sel 3 sd 11 x && true)))
theorem sel_zero (k first : Nat) (x : Env) : sel k 0 first x = false := by rw [sel_val]; simp

section
variable {base a M vars most : Nat} {w w' : World} {ns : List Nd}
theorem Loc.four {C : Cfg} {w : World} {i : Nat} {x y z u : Value} {t : TypeId} (h : Loc C w i #[x, y, z, u] t) : w.cell? ⟨i, 0, none⟩ = some x ∧ w.cell? ⟨i, 1, none⟩ = some y ∧ w.cell? ⟨i, 2, none⟩ = some z ∧ w.cell? ⟨i, 3, none⟩ = some u :=
  ⟨by rw [cell_of_row w i 0 _ _ _ h.blk]; rfl, by rw [cell_of_row w i 1 _ _ _ h.blk]; rfl, by rw [cell_of_row w i 2 _ _ _ h.blk]; rfl, by rw [cell_of_row w i 3 _ _ _ h.blk]; rfl⟩

theorem new_bad (v : Int) (w : World) (h : v < 1 ∨ 16 < v) : Calls Try.prog 9 #[.int .i64 v, .int .i64 40] w fun e w' => e = .returned (.tuple #[.pointer none, .int .i64 1]) ∧ w' = w := by
  by_cases h1 : v < 1
  · have t1 : decide (v < 1) = true := by simp [h1]
    go_enter Try.func9, Try.ntmps9
    go_wp2_with fail
    go_ret2
    exact ⟨rfl, rfl⟩
  · have h2 : 16 < v := by omega
    have t1 : decide (v < 1) = false := by simp [h1]
    have t2 : decide (16 < v) = true := by simp [h2]
    go_enter Try.func9, Try.ntmps9
    go_wp2_with fail
    go_ret2
    exact ⟨rfl, rfl⟩

set_option maxHeartbeats 1000000 in
theorem build_few (h : Ar base a M vars most w ns) (hv : vars < 14) (sa sb sc sd : Nat) :
    Calls Try.prog 20 #[.pointer (some ⟨a, 0, none⟩), mt sa sb sc sd] w fun e w' => e = .returned (.tuple #[.int .i64 0, .int .i64 1]) ∧ Below w.heap.size w w' := by
  have A0 := h.alloc (.cells #[.int .u16 (sa : Int), .int .u16 (sb : Int), .int .u8 (sc : Int), .int .u8 (sd : Int)] 49)
  have t1 : decide ((vars : Int) < 14) = true := by simp; omega
  go_enter Try.func20, Try.ntmps20
  go_wp2_with fail
  refine (vars_any A0).mono ?_
  rintro e w1 ⟨rfl, rfl⟩
  go_wp2_with fail
  go_ret2
  exact ⟨rfl, by go_grown⟩

set_option maxHeartbeats 2000000 in
theorem build_none (h : Ar base a M vars most w ns) (hv : 14 ≤ vars) (sa sb sc sd : Nat) (hz : sa = 0 ∨ sb = 0 ∨ sc = 0 ∨ sd = 0) :
    Calls Try.prog 20 #[.pointer (some ⟨a, 0, none⟩), mt sa sb sc sd] w (MkPost base a M vars most w ns 44 0 (phi sa sb sc sd)) := by
  have l2 := h.wf.len
  have L0 := h.loc #[.int .u16 (sa : Int), .int .u16 (sb : Int), .int .u8 (sc : Int), .int .u8 (sd : Int)] 49
  have A0 := h.alloc (.cells #[.int .u16 (sa : Int), .int .u16 (sb : Int), .int .u8 (sc : Int), .int .u8 (sd : Int)] 49)
  have K0 := Ar.kalloc' h (.cells #[.int .u16 (sa : Int), .int .u16 (sb : Int), .int .u8 (sc : Int), .int .u8 (sd : Int)] 49)
  have t1 : decide ((vars : Int) < 14) = false := by simp; omega
  have fin : MkPost base a M vars most w ns 44 0 (phi sa sb sc sd) (.returned (.tuple #[.int .i64 0, .int .i64 0])) (w.alloc (.cells #[.int .u16 (sa : Int), .int .u16 (sb : Int), .int .u8 (sc : Int), .int .u8 (sd : Int)] 49)) :=
    ⟨ns, A0, K0, Ext.refl _, by omega, Or.inl ⟨0, rfl, by omega, Nat.zero_le _, fun x => by
      rw [ev0]
      unfold phi
      rcases hz with rfl | rfl | rfl | rfl <;> simp [sel_zero]⟩⟩
  clear L0 K0
  by_cases za : sa = 0
  · subst za
    go_enter Try.func20, Try.ntmps20
    go_wp2_with fail
    refine (vars_any A0).mono ?_
    rintro e w1 ⟨rfl, rfl⟩
    go_wp2_with fail
    go_ret2
    exact fin
  by_cases zb : sb = 0
  · subst zb
    go_enter Try.func20, Try.ntmps20
    go_wp2_with fail
    refine (vars_any A0).mono ?_
    rintro e w1 ⟨rfl, rfl⟩
    go_wp2_with fail
    go_ret2
    exact fin
  by_cases zc : sc = 0
  · subst zc
    go_enter Try.func20, Try.ntmps20
    go_wp2_with fail
    refine (vars_any A0).mono ?_
    rintro e w1 ⟨rfl, rfl⟩
    go_wp2_with fail
    go_ret2
    exact fin
  · obtain rfl : sd = 0 := by omega
    go_enter Try.func20, Try.ntmps20
    go_wp2_with fail
    refine (vars_any A0).mono ?_
    rintro e w1 ⟨rfl, rfl⟩
    go_wp2_with fail
    go_ret2
    exact fin

set_option maxHeartbeats 4000000 in
set_option maxRecDepth 100000 in
theorem build_some (h : Ar base a M vars most w ns) (hv : 14 ≤ vars) (sa sb sc sd : Nat) (ha : sa < 65536) (hb : sb < 65536) (hc : sc < 256) (hd : sd < 256) (za : sa ≠ 0) (zb : sb ≠ 0) (zc : sc ≠ 0) (zd : sd ≠ 0) :
    Calls Try.prog 20 #[.pointer (some ⟨a, 0, none⟩), mt sa sb sc sd] w (MkPost base a M vars most w ns 44 0 (phi sa sb sc sd)) := by
  have l2 := h.wf.len
  have wf := h.wf
  have n1 : nv ns 1 = vars := by rw [nv, h.wf.n1]
  have L0 := h.loc #[.int .u16 (sa : Int), .int .u16 (sb : Int), .int .u8 (sc : Int), .int .u8 (sd : Int)] 49
  have A0 := h.alloc (.cells #[.int .u16 (sa : Int), .int .u16 (sb : Int), .int .u8 (sc : Int), .int .u8 (sd : Int)] 49)
  have K0 := Ar.kalloc' h (.cells #[.int .u16 (sa : Int), .int .u16 (sb : Int), .int .u8 (sc : Int), .int .u8 (sd : Int)] 49)
  have t1 : decide ((vars : Int) < 14) = false := by simp; omega
  have e1 : ((sa : Int) == 0) = false := by simp; omega
  have e2 : ((sb : Int) == 0) = false := by simp; omega
  have e3 : ((sc : Int) == 0) = false := by simp; omega
  have e4 : ((sd : Int) == 0) = false := by simp; omega
  have pA : Go.RowKit.Hid (∀ w, Calls Try.prog 70 #[.int .u16 (sa : Int)] w fun e w' => e = .returned (st sa 16) ∧ Below w.heap.size w w') := fun w => addrs_any sa w ha
  have pB : Go.RowKit.Hid (∀ w, Calls Try.prog 70 #[.int .u16 (sb : Int)] w fun e w' => e = .returned (st sb 16) ∧ Below w.heap.size w w') := fun w => addrs_any sb w hb
  have pC : Go.RowKit.Hid (∀ w, Calls Try.prog 68 #[.int .u8 (sc : Int)] w fun e w' => e = .returned (st sc 8) ∧ Below w.heap.size w w') := fun w => ports_any sc w hc
  have pD : Go.RowKit.Hid (∀ w, Calls Try.prog 68 #[.int .u8 (sd : Int)] w fun e w' => e = .returned (st sd 8) ∧ Below w.heap.size w w') := fun w => ports_any sd w hd
  have bD : Go.RowKit.Hid (∀ (w' : World) (ns' : List Nd) (rest : Nat), Ar base a M vars most w' ns' → rest < ns'.length → 11 + 3 ≤ nv ns' rest → Calls Try.prog 69 #[st (sd : Int) 8, .pointer (some ⟨a, 0, none⟩), .int .i64 11, .int .i64 (rest : Int)] w' (MkPost base a M vars most w' ns' 7 11 fun x => sel 3 sd 11 x && ev ns' rest x)) := fun w' ns' rest hA h1 h2 => build_8 hA (first := 11) hd (by omega) h1 h2
  have bC : Go.RowKit.Hid (∀ (w' : World) (ns' : List Nd) (rest : Nat), Ar base a M vars most w' ns' → rest < ns'.length → 8 + 3 ≤ nv ns' rest → Calls Try.prog 69 #[st (sc : Int) 8, .pointer (some ⟨a, 0, none⟩), .int .i64 8, .int .i64 (rest : Int)] w' (MkPost base a M vars most w' ns' 7 8 fun x => sel 3 sc 8 x && ev ns' rest x)) := fun w' ns' rest hA h1 h2 => build_8 hA (first := 8) hc (by omega) h1 h2
  have bB : Go.RowKit.Hid (∀ (w' : World) (ns' : List Nd) (rest : Nat), Ar base a M vars most w' ns' → rest < ns'.length → 4 + 4 ≤ nv ns' rest → Calls Try.prog 69 #[st (sb : Int) 16, .pointer (some ⟨a, 0, none⟩), .int .i64 4, .int .i64 (rest : Int)] w' (MkPost base a M vars most w' ns' 15 4 fun x => sel 4 sb 4 x && ev ns' rest x)) := fun w' ns' rest hA h1 h2 => build_16 hA (first := 4) hb (by omega) h1 h2
  have bA : Go.RowKit.Hid (∀ (w' : World) (ns' : List Nd) (rest : Nat), Ar base a M vars most w' ns' → rest < ns'.length → 0 + 4 ≤ nv ns' rest → Calls Try.prog 69 #[st (sa : Int) 16, .pointer (some ⟨a, 0, none⟩), .int .i64 0, .int .i64 (rest : Int)] w' (MkPost base a M vars most w' ns' 15 0 fun x => sel 4 sa 0 x && ev ns' rest x)) := fun w' ns' rest hA h1 h2 => build_16 hA (first := 0) ha (by omega) h1 h2
  obtain ⟨c0, c1, c2, c3⟩ := L0.four
  clear ha hb hc hd za zb zc zd
  go_enter Try.func20, Try.ntmps20
  go_wp2_with fail
  refine (vars_any A0).mono ?_
  rintro e w0 ⟨rfl, hw0⟩
  subst hw0
  go_wp2_with fail
  refine (pD.out _).mono ?_
  rintro e u1 ⟨rfl, hb1⟩
  have B1 := A0.below hb1
  have M1 := Loc.below L0 A0 hb1
  have J1 := K0.trans (A0.kbelow hb1)
  clear c0 c1 c2 c3
  clear hb1 A0 L0 K0
  go_wp2_with fail
  refine (bD.out _ ns 1 B1 (by omega) (by rw [n1]; omega)).mono ?_
  rintro e x1 hp1
  obtain ⟨ns1, v1, er1, rfl, A1, K1, X1, l1, d1⟩ := hp1.pair
  have wf1 := A1.wf
  have KK1 := J1.trans K1
  have L1 := M1.kp K1
  obtain ⟨c0, c1, c2, c3⟩ := L1.four
  have XX1 := X1
  clear hp1 B1 M1 J1 K1
  rcases d1.out with ⟨rfl, f1, rfl, lt1, va1, ev1x⟩ | ⟨rfl, rfl, full1⟩
  · have E1 : Go.RowKit.Hid (∀ x, ev ns1 f1 x = (sel 3 sd 11 x && true)) := fun x => by rw [ev1x x, ev1]
    clear ev1x d1
    go_wp2_with fail
    refine (pC.out _).mono ?_
    rintro e u2 ⟨rfl, hb2⟩
    have B2 := A1.below hb2
    have M2 := Loc.below L1 A1 hb2
    have J2 := KK1.trans (A1.kbelow hb2)
    clear c0 c1 c2 c3
    clear hb2 A1 L1 KK1
    go_wp2_with fail
    refine (bC.out _ ns1 f1 B2 lt1 (by omega)).mono ?_
    rintro e x2 hp2
    obtain ⟨ns2, v2, er2, rfl, A2, K2, X2, l2, d2⟩ := hp2.pair
    have wf2 := A2.wf
    have KK2 := J2.trans K2
    have L2 := M2.kp K2
    obtain ⟨c0, c1, c2, c3⟩ := L2.four
    have XX2 := (XX1.trans X2)
    clear hp2 B2 M2 J2 K2
    rcases d2.out with ⟨rfl, f2, rfl, lt2, va2, ev2x⟩ | ⟨rfl, rfl, full2⟩
    · have E2 : Go.RowKit.Hid (∀ x, ev ns2 f2 x = (sel 3 sc 8 x && (sel 3 sd 11 x && true))) := fun x => by rw [ev2x x, E1.out x]
      clear ev2x d2
      go_wp2_with fail
      refine (pB.out _).mono ?_
      rintro e u3 ⟨rfl, hb3⟩
      have B3 := A2.below hb3
      have M3 := Loc.below L2 A2 hb3
      have J3 := KK2.trans (A2.kbelow hb3)
      clear c0 c1 c2 c3
      clear hb3 A2 L2 KK2
      go_wp2_with fail
      refine (bB.out _ ns2 f2 B3 lt2 (by omega)).mono ?_
      rintro e x3 hp3
      obtain ⟨ns3, v3, er3, rfl, A3, K3, X3, l3, d3⟩ := hp3.pair
      have wf3 := A3.wf
      have KK3 := J3.trans K3
      have L3 := M3.kp K3
      obtain ⟨c0, c1, c2, c3⟩ := L3.four
      have XX3 := (XX2.trans X3)
      clear hp3 B3 M3 J3 K3
      rcases d3.out with ⟨rfl, f3, rfl, lt3, va3, ev3x⟩ | ⟨rfl, rfl, full3⟩
      · have E3 : Go.RowKit.Hid (∀ x, ev ns3 f3 x = (sel 4 sb 4 x && (sel 3 sc 8 x && (sel 3 sd 11 x && true)))) := fun x => by rw [ev3x x, E2.out x]
        clear ev3x d3
        go_wp2_with fail
        refine (pA.out _).mono ?_
        rintro e u4 ⟨rfl, hb4⟩
        have B4 := A3.below hb4
        have M4 := Loc.below L3 A3 hb4
        have J4 := KK3.trans (A3.kbelow hb4)
        clear c0 c1 c2 c3
        clear hb4 A3 L3 KK3
        go_wp2_with fail
        refine (bA.out _ ns3 f3 B4 lt3 (by omega)).mono ?_
        rintro e x4 hp4
        obtain ⟨ns4, v4, er4, rfl, A4, K4, X4, l4, d4⟩ := hp4.pair
        have wf4 := A4.wf
        have KK4 := J4.trans K4
        have L4 := M4.kp K4
        obtain ⟨c0, c1, c2, c3⟩ := L4.four
        have XX4 := (XX3.trans X4)
        clear hp4 B4 M4 J4 K4
        rcases d4.out with ⟨rfl, f4, rfl, lt4, va4, ev4x⟩ | ⟨rfl, rfl, full4⟩
        · have E4 : Go.RowKit.Hid (∀ x, ev ns4 f4 x = (sel 4 sa 0 x && (sel 4 sb 4 x && (sel 3 sc 8 x && (sel 3 sd 11 x && true))))) := fun x => by rw [ev4x x, E3.out x]
          clear ev4x d4
          have fin : MkPost base a M vars most w ns 44 0 (phi sa sb sc sd) (.returned (.tuple #[.int .i64 (f4 : Int), .int .i64 0])) x4 :=
            ⟨ns4, A4, KK4, XX4, by omega, Or.inl ⟨f4, rfl, lt4, Nat.zero_le _, E4.out⟩⟩
          clear A4 KK4 L4 c0 c1 c2 c3
          go_wp2_with fail
          go_ret2
          exact fin
        · have fin : MkPost base a M vars most w ns 44 0 (phi sa sb sc sd) (.returned (.tuple #[.int .i64 0, .int .i64 6])) x4 :=
            ⟨ns4, A4, KK4, XX4, by omega, Or.inr ⟨rfl, full4⟩⟩
          clear d4 A4 KK4 L4 c0 c1 c2 c3
          go_wp2_with fail
          go_ret2
          exact fin
      · have fin : MkPost base a M vars most w ns 44 0 (phi sa sb sc sd) (.returned (.tuple #[.int .i64 0, .int .i64 6])) x3 :=
          ⟨ns3, A3, KK3, XX3, by omega, Or.inr ⟨rfl, full3⟩⟩
        clear d3 A3 KK3 L3 c0 c1 c2 c3
        go_wp2_with fail
        go_ret2
        exact fin
    · have fin : MkPost base a M vars most w ns 44 0 (phi sa sb sc sd) (.returned (.tuple #[.int .i64 0, .int .i64 6])) x2 :=
        ⟨ns2, A2, KK2, XX2, by omega, Or.inr ⟨rfl, full2⟩⟩
      clear d2 A2 KK2 L2 c0 c1 c2 c3
      go_wp2_with fail
      go_ret2
      exact fin
  · have fin : MkPost base a M vars most w ns 44 0 (phi sa sb sc sd) (.returned (.tuple #[.int .i64 0, .int .i64 6])) x1 :=
      ⟨ns1, A1, KK1, XX1, by omega, Or.inr ⟨rfl, full1⟩⟩
    clear d1 A1 KK1 L1 c0 c1 c2 c3
    go_wp2_with fail
    go_ret2
    exact fin

theorem build_match (h : Ar base a M vars most w ns) (hv : 14 ≤ vars) (sa sb sc sd : Nat) (ha : sa < 65536) (hb : sb < 65536) (hc : sc < 256) (hd : sd < 256) :
    Calls Try.prog 20 #[.pointer (some ⟨a, 0, none⟩), mt sa sb sc sd] w (MkPost base a M vars most w ns 44 0 (phi sa sb sc sd)) := by
  by_cases hz : sa = 0 ∨ sb = 0 ∨ sc = 0 ∨ sd = 0
  · exact build_none h hv sa sb sc sd hz
  · exact build_some h hv sa sb sc sd ha hb hc hd (by omega) (by omega) (by omega) (by omega)
end
end Go.Proofs.Ytgcimcpcnoojnaa


