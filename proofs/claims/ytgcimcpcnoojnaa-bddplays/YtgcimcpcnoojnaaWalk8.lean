/-
  blend, where it goes down; blend whole.
-/
import Derived.Test.YtgcimcpcnoojnaaWalk7
namespace Go.Proofs.Ytgcimcpcnoojnaa
open Go.RowKit Go.Maps

section
variable {C : Cfg} {w : World} {ns : List Nd} {N : Nat} {m1 : Nd → Option Nat} {m2 : Mx → Option Nat} {m3 : Nat → Option Nat}

set_option maxHeartbeats 4000000 in
set_option maxRecDepth 100000 in
theorem blend_down (h : Bu C w ns false N m1 m2 m3) {c2 : Nat} (hc2 : C.c2 = some c2) {x y late k : Nat} {z : Bool} (hin : InsideM ns (x, y, z)) (hf : m2 (x, y, z) = none) (hl : late < C.vars) (hml : minb ns (x, y, z) late < late) (hk : late + 1 ≤ minb ns (x, y, z) late + (k + 1)) (hm : MemoB ns late m2) (hN : N + 2 ^ (k + 1) ≤ 1099511627776)
    (ih : Hq (∀ w ns full N m2 x, Bu C w ns full N m1 m2 m3 → InsideM ns x → late + 1 ≤ minb ns x late + k → (full = false → MemoB ns late m2) → N + 2 ^ k ≤ 1099511627776 → Calls Try.prog 105 #[.pointer (some ⟨C.b, 0, none⟩), aggx x, .int .i64 (late : Int)] w (BlendPost C w ns full N m1 m3 late x (2 ^ k - 1)))) :
    Calls Try.prog 105 #[.pointer (some ⟨C.b, 0, none⟩), aggx (x, y, z), .int .i64 (late : Int)] w (BlendPost C w ns false N m1 m3 late (x, y, z) (2 ^ (k + 1) - 1)) := by
  have hl4 : ns.length ≤ 40000 := Nat.le_trans h.ar.le h.ar.most4
  obtain ⟨i1, i2⟩ := id hin
  simp only [] at i1 i2
  have ho : okx (x, y, z) := ⟨by show x < _; omega, by show y < _; omega⟩
  have hA := ((At.refl h).alloc (.cells #[.int .i64 (x : Int), .int .i64 (y : Int), .bool z] 139)).drew
  have L := (h.loc #[.int .i64 (x : Int), .int .i64 (y : Int), .bool z] 139).drew
  obtain ⟨b0, b1, b2, b3, b4, bf⟩ := h.reads
  have lb := h.ltb
  have hlook := (hA.bu.o2 c2 hc2).look Try.u46 (x := (x, y, z)) ho
  rw [hf] at hlook
  simp only [mixE, Option.getD_none, Option.isSome_none] at hlook
  rw [hc2] at b3
  have wf := h.ar.wf
  have v16 := h.ar.vars16
  have hp2 : 2 ^ (k + 1) = 2 * 2 ^ k := by rw [Nat.pow_succ]; omega
  have hp1 : 1 ≤ 2 ^ k := Nat.one_le_two_pow
  have hpm : ∀ val, minb ns (x, y, z) late < minb ns (pm ns (x, y, z) (minb ns (x, y, z) late) val) late := fun val => pm_minb wf hin hl hml val
  have hmn : ∀ (ts : Array TypeId) (t : TypeId) (W : World), (Builtin.min_ ts t #[.int .i64 (nv ns x : Int), .int .i64 (nv ns y : Int), .int .i64 (late : Int)]).run Try.prog W = .ok (.int .i64 (minb ns (x, y, z) late : Int)) W := fun ts t W => run_min3 (nv ns x) (nv ns y) late ts t W
  generalize hv : minb ns (x, y, z) late = v at *
  have hvl : ((v : Int) == (late : Int)) = false := by simp; omega
  clear h
  go_enter Try.func105, Try.ntmps105
  go_wp2_with fail
  go_cut [7, 8] (fun v5 v6 wx => v5 = .int .i64 0 ∧ v6 = .bool false ∧ Down C w wx ns N m1 m2 m3 x y z)
  case first =>
    go_region
    all_goals
      go_wp2_with fail
      go_meet
      exact ⟨rfl, rfl, hA, L⟩
  case rest =>
    obtain ⟨rfl, rfl, hA1, L1⟩ := hcut
    clear hA L hlook
    obtain ⟨⟨q0, q1, q2⟩, _⟩ := L1.reads
    go_wp2_with fail
    go_cut [9] (fun v7 wx => v7 = .int .i64 (v : Int) ∧ Down C w wx ns N m1 m2 m3 x y z)
    case first =>
      have hA2 := hA1.drew
      go_region_held3 (fun w' => w'.cell? ⟨w.heap.size, 0, none⟩ = some (.int .i64 (x : Int)) ∧ w'.cell? ⟨w.heap.size, 1, none⟩ = some (.int .i64 (y : Int))) (go_keep)
        (first | (go_at_call 107; refine (variable_any (At.bu (w0 := w) (by assumption)) (by assumption)).mono ?_; rintro e wn ⟨rfl, rfl⟩))
      go_wp2_with fail
      go_meet
      exact ⟨rfl, hA2, L1.drew⟩
    case rest =>
      obtain ⟨rfl, hA2, L2⟩ := hcut
      clear hA1 L1 q0 q1 q2 hmn
      have hs2 := hA2.kp.size
      have hA3 := hA2.alloc (.cells #[.int .i64 (v : Int), .int .i64 0, .int .i64 0] 87)
      have L3 := L2.alloc hA2.bu (.cells #[.int .i64 (v : Int), .int .i64 0, .int .i64 0] 87)
      have M3 := hA2.loc #[.int .i64 (v : Int), .int .i64 0, .int .i64 0] 87
      have hne : w.heap.size ≠ wc.heap.size := by have := L2.out.lt; omega
      obtain ⟨⟨q0, q1, q2⟩, _⟩ := L3.reads
      go_wp2_with fail
      refine (partOfMix_any (c := (x, y, z)) hA3.bu false i1 i2 (by omega)).mono ?_
      rintro e w3 ⟨rfl, hp⟩
      have hA4 := hA3.then hp
      have L4 := L3.kp hp.kp
      have M4 := M3.kp hp.kp
      clear hp L3 M3 hA3 q0 q1 q2
      go_wp2_with fail
      refine (ih.out w3 ns false N m2 (pm ns (x, y, z) v false) hA4.bu (pm_inside wf hin (by omega) false) (by have := hpm false; omega) (fun _ => hm) (by omega)).mono ?_
      rintro e w4 ⟨f0, ns1, full1, N1, m21, rfl, hp, X1, l1, n1, lt0, _, s1⟩
      have hA5 := hA4.then hp
      have L5 := L4.kp hp.kp
      have M5 := M4.kp hp.kp
      clear hp L4 M4 hA4
      have wf1 := hA5.bu.ar.wf
      have hin1 := hin.ext X1
      have pe1 := pm_ext hin X1 v true
      obtain ⟨j1, j2⟩ := id hin1
      obtain ⟨⟨p0, p1, p2⟩, g0, g1, g2⟩ := M5.reads
      have hA6 := hA5.set (p := ⟨wc.heap.size, 1, none⟩) M5.out hs2 (.int .i64 (f0 : Int))
      have L6 := L5.setOther (j := 1) M5.out hne (.int .i64 (f0 : Int))
      have M6 := M5.set (j := 1) (.int .i64 (f0 : Int))
      simp only [List.setIfInBounds_toArray, List.set_cons_succ, List.set_cons_zero] at M6
      obtain ⟨⟨q0, q1, q2⟩, _⟩ := L6.reads
      go_wp2_with fail
      refine (partOfMix_any (c := (x, y, z)) hA6.bu true j1 j2 (by omega)).mono ?_
      rintro e w5 ⟨rfl, hp⟩
      have hA7 := hA6.then hp
      have L7 := L6.kp hp.kp
      have M7 := M6.kp hp.kp
      clear hp L5 M5 hA5 L6 M6 hA6 q0 q1 q2 p0 p1 p2 g0 g1 g2
      go_wp2_with fail
      refine (ih.out w5 ns1 full1 N1 m21 (pm ns1 (x, y, z) v true) hA7.bu (pm_inside wf1 hin1 (by omega) true) (by have := hpm true; rw [pe1, minb_ext (pm_inside wf hin (by omega) true) X1]; omega) (fun e => (s1 e).1) (by omega)).mono ?_
      rintro e w6 ⟨f1, ns2, full2, N2, m22, rfl, hp, X2, l2, n2, lt1, mo2, s2⟩
      have hA8 := hA7.then hp
      have L8 := L7.kp hp.kp
      have M8 := M7.kp hp.kp
      clear hp L7 M7 hA7
      have wf2 := hA8.bu.ar.wf
      have X2l := X2.len
      have sem2 : full2 = false → MemoB ns2 late m22 ∧ IsBl ns2 late (pm ns (x, y, z) v false) f0 ∧ IsBl ns2 late (pm ns (x, y, z) v true) f1 := fun e2 => by
        have e1 : full1 = false := by cases full1 <;> simp_all
        have a1 := (s1 e1).2.ext X2 wf1 wf2
        have a2 := s2 e2
        rw [pe1] at a2
        exact ⟨a2.1, a1, a2.2⟩
      obtain ⟨⟨p0, p1, p2⟩, g0, g1, g2⟩ := M8.reads
      have hA9 := hA8.set (p := ⟨wc.heap.size, 2, none⟩) M8.out hs2 (.int .i64 (f1 : Int))
      have L9 := L8.setOther (j := 2) M8.out hne (.int .i64 (f1 : Int))
      have M9 := M8.set (j := 2) (.int .i64 (f1 : Int))
      simp only [List.setIfInBounds_toArray, List.set_cons_succ, List.set_cons_zero] at M9
      obtain ⟨⟨p0', p1', p2'⟩, _⟩ := M9.reads
      go_wp2_with fail
      refine (numberOf_any hA9.bu (v := v) (l := f0) (u := f1) (by omega) (by omega) lt1 (fun e2 => ?_)).mono ?_
      · obtain ⟨_, a1, a2⟩ := sem2 e2
        have b1 := a1.va
        have b2 := a2.va
        rw [minb_ext (pm_inside wf hin (by omega) _) (X1.trans X2)] at b1 b2
        have := hpm false
        have := hpm true
        omega
      rintro e w8 ⟨f, ns3, full3, rfl, hp, X3, l3, lt3, mo3, s3⟩
      have hA10 := (hA9.then hp).drew
      have L10 := (L9.kp hp.kp).drew
      clear hp L9 hA9 M9 M8 hA8 L8 p0 p1 p2 g0 g1 g2 p0' p1' p2'
      have wf3 := hA10.bu.ar.wf
      have len3 : ns3.length ≤ 40000 := Nat.le_trans hA10.bu.ar.le hA10.bu.ar.most4
      obtain ⟨w9, hrun, hM9, hg9⟩ := (hA10.bu.o2 c2 hc2).store Try.u46 (by unfold maxLen; omega) (x := (x, y, z)) ho (v := f) (by omega)
      have hA11 := hA10.memo2 hc2 hM9 hg9
      obtain ⟨⟨q0, q1, q2⟩, _⟩ := L10.reads
      obtain ⟨d0, d1, d2, d3, d4, df⟩ := hA10.bu.reads
      rw [hc2] at d3
      simp only [mixE] at hrun
      have hfin : BlendPost C w ns false N m1 m3 late (x, y, z) (2 ^ (k + 1) - 1) (.returned (.int .i64 (f : Int))) w9 := by
        have X03 := (X1.trans X2).trans X3
        refine ⟨f, ns3, full3, N2 + 1, _, rfl, hA11, X03, by omega, by omega, lt3, (fun e => by cases e), fun e3 => ?_⟩
        have e2 : full2 = false := by cases full2 <;> simp_all
        obtain ⟨a0, a1, a2⟩ := sem2 e2
        have hv3 : minb ns3 (x, y, z) late = v := by rw [minb_ext hin X03]; exact hv
        have J : IsBl ns3 late (x, y, z) f := by
          refine isBl_join (l := f0) (u := f1) wf3 (hin.ext X03) hl (by rw [hv3]; omega) ?_ ?_ (by rw [hv3]; exact s3 e3)
          · rw [hv3, pm_ext hin X03]; exact a1.ext X3 wf2 wf3
          · rw [hv3, pm_ext hin X03]; exact a2.ext X3 wf2 wf3
        exact ⟨(a0.ext X3 wf2 wf3).upd J, J⟩
      clear hA10 hM9 hg9 L10 hA11
      go_wp2_with fail
      go_region
      all_goals
        go_wp2_with fail
        go_ret
        exact hfin

theorem blend_any {c2 : Nat} (hc2 : C.c2 = some c2) {late : Nat} (hl : late < C.vars) : ∀ (k : Nat) (w : World) (ns : List Nd) (full : Bool) (N : Nat) (m2 : Mx → Option Nat) (x : Mx), Bu C w ns full N m1 m2 m3 → InsideM ns x → late + 1 ≤ minb ns x late + k → (full = false → MemoB ns late m2) →
    N + 2 ^ k ≤ 1099511627776 → Calls Try.prog 105 #[.pointer (some ⟨C.b, 0, none⟩), aggx x, .int .i64 (late : Int)] w (BlendPost C w ns full N m1 m3 late x (2 ^ k - 1)) := by
  intro k
  induction k with
  | zero =>
    intro w ns full N m2 x _ _ hk
    unfold minb at hk
    omega
  | succ k ih =>
    intro w ns full N m2 c h hin hk hm hN
    cases full
    · obtain ⟨x, y, z⟩ := c
      have hl4 : ns.length ≤ 40000 := Nat.le_trans h.ar.le h.ar.most4
      obtain ⟨i1, i2⟩ := id hin
      simp only [] at i1 i2
      have hp2 : 2 ^ (k + 1) = 2 * 2 ^ k := by rw [Nat.pow_succ]; omega
      have hp1 : 1 ≤ 2 ^ k := Nat.one_le_two_pow
      cases hf : m2 (x, y, z) with
      | none =>
        by_cases hml : minb ns (x, y, z) late < late
        · exact blend_down h hc2 hin hf hl hml hk (hm rfl) hN ⟨ih⟩
        · have he : minb ns (x, y, z) late = late := by
            have : minb ns (x, y, z) late ≤ late := by unfold minb; omega
            omega
          refine (blend_late h hc2 hin hf hl he (hm rfl) (by omega)).mono ?_
          rintro e w' ⟨r, ns', full', N', m2', q1, q2, q3, q4, q5, q6⟩
          exact ⟨r, ns', full', N', m2', q1, q2, q3, by omega, by omega, q6⟩
      | some f =>
        refine (blend_hit h hc2 late ⟨by show x < _; omega, by show y < _; omega⟩ hf).mono ?_
        rintro e w' ⟨rfl, hA⟩
        have J := hm rfl _ _ hf
        exact ⟨f, ns, false, N, m2, rfl, hA, Ext.refl _, by omega, by omega, J.lt, id, fun _ => ⟨hm rfl, J⟩⟩
    · refine (blend_full h c late).mono ?_
      rintro e w' ⟨rfl, hA⟩
      exact ⟨0, ns, true, N, m2, rfl, hA, Ext.refl _, by omega, by omega, (by have := h.ar.wf.len; omega), id, fun e => by cases e⟩
end
end Go.Proofs.Ytgcimcpcnoojnaa


