/-
  blend.
-/
import Derived.Test.YtgcimcpcnoojnaaWalk6
namespace Go.Proofs.Ytgcimcpcnoojnaa
open Go.RowKit Go.Maps

def pm (ns : List Nd) (x : Mx) (v : Nat) (val : Bool) : Mx := (partOf ns x.1 v val, partOf ns x.2.1 v val, x.2.2)
def InsideM (ns : List Nd) (x : Mx) : Prop := x.1 < ns.length ∧ x.2.1 < ns.length
def minb (ns : List Nd) (x : Mx) (late : Nat) : Nat := min (min (nv ns x.1) (nv ns x.2.1)) late
/-- g: variable late chooses between x's functions, taken where that variable is x's value. -/
structure IsBl (ns : List Nd) (late : Nat) (x : Mx) (g : Nat) : Prop where
  inside : InsideM ns x
  lt : g < ns.length
  ev : ∀ e, ev ns g e = if e late then ev ns x.2.1 (setE e late x.2.2) else ev ns x.1 (setE e late x.2.2)
  va : minb ns x late ≤ nv ns g
section
variable {vars : Nat} {ns ns' : List Nd}
theorem InsideM.ext {x : Mx} (h : InsideM ns x) (X : Ext ns ns') : InsideM ns' x := by
  have := X.len
  obtain ⟨h1, h2⟩ := h
  exact ⟨by omega, by omega⟩
theorem minb_ext {x : Mx} (h : InsideM ns x) (X : Ext ns ns') (late : Nat) : minb ns' x late = minb ns x late := by
  unfold minb
  rw [X.va h.1, X.va h.2]
theorem pm_ext {x : Mx} (h : InsideM ns x) (X : Ext ns ns') (v : Nat) (val : Bool) : pm ns' x v val = pm ns x v val := by
  unfold pm
  rw [partOf_ext X h.1, partOf_ext X h.2]
theorem pm_inside (wf : Wf vars ns) {x : Mx} (h : InsideM ns x) {v : Nat} (hv : v < vars) (val : Bool) : InsideM ns (pm ns x v val) := ⟨partOf_lt wf h.1 hv val, partOf_lt wf h.2 hv val⟩
theorem pm_minb (wf : Wf vars ns) {x : Mx} (h : InsideM ns x) {late : Nat} (hl : late < vars) (hv : minb ns x late < late) (val : Bool) : minb ns x late < minb ns (pm ns x (minb ns x late) val) late := by
  have a1 := partOf_va wf h.1 (v := minb ns x late) (by omega) (by unfold minb; omega) val
  have a2 := partOf_va wf h.2 (v := minb ns x late) (by omega) (by unfold minb; omega) val
  show _ < min (min (nv ns (partOf ns x.1 _ val)) (nv ns (partOf ns x.2.1 _ val))) late
  omega
theorem IsBl.ext {late g : Nat} {x : Mx} (h : IsBl ns late x g) (X : Ext ns ns') (wf : Wf vars ns) (wf' : Wf vars ns') : IsBl ns' late x g := by
  have hl := X.len
  have lt := h.lt
  refine ⟨h.inside.ext X, by omega, fun e => ?_, ?_⟩
  · rw [X.ev wf wf' _ h.lt, X.ev wf wf' _ h.inside.1, X.ev wf wf' _ h.inside.2]; exact h.ev e
  · rw [minb_ext h.inside X, X.va h.lt]; exact h.va
def MemoB (ns : List Nd) (late : Nat) (m : Mx → Option Nat) : Prop := ∀ x g, m x = some g → IsBl ns late x g
theorem MemoB.ext {i : Nat} {m : Mx → Option Nat} (h : MemoB ns i m) (X : Ext ns ns') (wf : Wf vars ns) (wf' : Wf vars ns') : MemoB ns' i m := fun c f e => (h c f e).ext X wf wf'
theorem MemoB.upd {i : Nat} {m : Mx → Option Nat} (h : MemoB ns i m) {c : Mx} {f : Nat} (hf : IsBl ns i c f) : MemoB ns i (upd m c f) := by
  intro d g hg
  unfold Ytgcimcpcnoojnaa.upd at hg
  by_cases e : d = c
  · subst e
    rw [if_pos rfl] at hg
    cases hg
    exact hf
  · rw [if_neg e] at hg
    exact h d g hg
theorem isBl_late (wf : Wf vars ns) {late g : Nat} {x : Mx} (h : InsideM ns x) (hl : late < vars) (hm : minb ns x late = late) (hn : IsNode ns late (partOf ns x.1 late x.2.2) (partOf ns x.2.1 late x.2.2) g) : IsBl ns late x g := by
  have k1 : late ≤ nv ns x.1 := by unfold minb at hm; omega
  have k2 : late ≤ nv ns x.2.1 := by unfold minb at hm; omega
  refine ⟨h, hn.lt, fun e => ?_, by rw [hm]; exact hn.va⟩
  rw [hn.ev, partOf_ev wf h.1 hl k1, partOf_ev wf h.2 hl k2]
theorem isBl_join (wf : Wf vars ns) {late l u g : Nat} {x : Mx} (h : InsideM ns x) (hl : late < vars) (hv : minb ns x late < late) (h0 : IsBl ns late (pm ns x (minb ns x late) false) l) (h1 : IsBl ns late (pm ns x (minb ns x late) true) u) (hn : IsNode ns (minb ns x late) l u g) : IsBl ns late x g := by
  refine ⟨h, hn.lt, fun e => ?_, hn.va⟩
  have k1 : minb ns x late ≤ nv ns x.1 := by unfold minb; omega
  have k2 : minb ns x late ≤ nv ns x.2.1 := by unfold minb; omega
  have hv' : minb ns x late < vars := by omega
  have e0 := h0.ev e
  have e1 := h1.ev e
  simp only [pm, partOf_ev wf h.1 hv' k1, partOf_ev wf h.2 hv' k2] at e0 e1
  rw [hn.ev, e0, e1]
  have ne : minb ns x late ≠ late := by omega
  cases hb : e (minb ns x late)
  · rw [setE_at (e := setE e late x.2.2) (b := false) (by rw [setE_ne _ _ ne]; exact hb)]; simp
  · rw [setE_at (e := setE e late x.2.2) (b := true) (by rw [setE_ne _ _ ne]; exact hb)]; simp
end

/-- What blend leaves. -/
def BlendPost (C : Cfg) (w : World) (ns : List Nd) (full : Bool) (N : Nat) (m1 : Nd → Option Nat) (m3 : Nat → Option Nat) (late : Nat) (x : Mx) (g : Nat) (e : Ending) (w' : World) : Prop :=
  ∃ r ns' full' N' m2', e = .returned (.int .i64 ((r : Nat) : Int)) ∧ At C w w' ns' full' N' m1 m2' m3 ∧ Ext ns ns' ∧ ns'.length ≤ ns.length + g ∧ N' ≤ N + g ∧ r < ns'.length ∧ (full = true → full' = true) ∧ (full' = false → MemoB ns' late m2' ∧ IsBl ns' late x r)

section
variable {C : Cfg} {w : World} {ns : List Nd} {N : Nat} {m1 : Nd → Option Nat} {m2 : Mx → Option Nat} {m3 : Nat → Option Nat}

set_option maxHeartbeats 1000000 in
set_option maxRecDepth 100000 in
theorem blend_full (h : Bu C w ns true N m1 m2 m3) (x : Mx) (late : Nat) :
    Calls Try.prog 105 #[.pointer (some ⟨C.b, 0, none⟩), aggx x, .int .i64 (late : Int)] w fun e w' => e = .returned (.int .i64 0) ∧ At C w w' ns true N m1 m2 m3 := by
  have hA := (At.refl h).alloc (.cells #[.int .i64 (x.1 : Int), .int .i64 (x.2.1 : Int), .bool x.2.2] 139)
  obtain ⟨b0, b1, b2, b3, b4, bf⟩ := h.reads
  have lb := h.ltb
  clear h
  go_enter Try.func105, Try.ntmps105
  go_wp2_with fail
  go_ret
  exact ⟨rfl, hA⟩

set_option maxHeartbeats 1000000 in
set_option maxRecDepth 100000 in
theorem blend_hit (h : Bu C w ns false N m1 m2 m3) {c2 : Nat} (hc2 : C.c2 = some c2) {x y f : Nat} {z : Bool} (late : Nat) (ho : okx (x, y, z)) (hf : m2 (x, y, z) = some f) :
    Calls Try.prog 105 #[.pointer (some ⟨C.b, 0, none⟩), aggx (x, y, z), .int .i64 (late : Int)] w fun e w' => e = .returned (.int .i64 (f : Int)) ∧ At C w w' ns false N m1 m2 m3 := by
  have hA := ((At.refl h).alloc (.cells #[.int .i64 (x : Int), .int .i64 (y : Int), .bool z] 139)).drew
  obtain ⟨b0, b1, b2, b3, b4, bf⟩ := h.reads
  have lb := h.ltb
  have hlook := (hA.bu.o2 c2 hc2).look Try.u46 (x := (x, y, z)) ho
  rw [hf] at hlook
  simp only [mixE, Option.getD_some, Option.isSome_some] at hlook
  rw [hc2] at b3
  clear h
  go_enter Try.func105, Try.ntmps105
  go_wp2_with fail
  go_region
  all_goals
    go_wp2_with fail
    go_ret
    exact ⟨rfl, hA⟩

/-- The way down to blend's made node: x and made lie in blocks of their own. -/
def Down (C : Cfg) (w wx : World) (ns : List Nd) (N : Nat) (m1 : Nd → Option Nat) (m2 : Mx → Option Nat) (m3 : Nat → Option Nat) (x y : Nat) (z : Bool) : Prop :=
  At C w wx ns false N m1 m2 m3 ∧ Loc C wx w.heap.size #[.int .i64 (x : Int), .int .i64 (y : Int), .bool z] 139

set_option maxHeartbeats 4000000 in
set_option maxRecDepth 100000 in
theorem blend_late (h : Bu C w ns false N m1 m2 m3) {c2 : Nat} (hc2 : C.c2 = some c2) {x y late : Nat} {z : Bool} (hin : InsideM ns (x, y, z)) (hf : m2 (x, y, z) = none) (hl : late < C.vars) (hml : minb ns (x, y, z) late = late) (hm : MemoB ns late m2) (hN : N + 1 ≤ 1099511627776) :
    Calls Try.prog 105 #[.pointer (some ⟨C.b, 0, none⟩), aggx (x, y, z), .int .i64 (late : Int)] w (BlendPost C w ns false N m1 m3 late (x, y, z) 1) := by
  have hl4 : ns.length ≤ 40000 := Nat.le_trans h.ar.le h.ar.most4
  obtain ⟨i1, i2⟩ := id hin
  simp only [] at i1 i2
  have ho : okx (x, y, z) := ⟨by show x < _; omega, by show y < _; omega⟩
  have hA := ((At.refl h).alloc (.cells #[.int .i64 (x : Int), .int .i64 (y : Int), .bool z] 139)).drew
  have L := (h.loc #[.int .i64 (x : Int), .int .i64 (y : Int), .bool z] 139).drew
  obtain ⟨b0, b1, b2, b3, b4, bf⟩ := h.reads
  have lb := h.ltb
  have hlook := (hA.bu.o2 c2 hc2).look Try.u46 (x := (x, y, z)) ho
  rw [hf] at hlook
  simp only [mixE, Option.getD_none, Option.isSome_none] at hlook
  rw [hc2] at b3
  have wf := h.ar.wf
  have v16 := h.ar.vars16
  have hmn : ∀ (ts : Array TypeId) (t : TypeId) (W : World), (Builtin.min_ ts t #[.int .i64 (nv ns x : Int), .int .i64 (nv ns y : Int), .int .i64 (late : Int)]).run Try.prog W = .ok (.int .i64 (late : Int)) W := fun ts t W => by
    have := run_min3 (nv ns x) (nv ns y) late ts t W
    rw [show min (min (nv ns x) (nv ns y)) late = late from hml] at this
    exact this
  have hml' : Hq (minb ns (x, y, z) late = late) := ⟨hml⟩
  clear h hml
  go_enter Try.func105, Try.ntmps105
  go_wp2_with fail
  go_cut [7, 8] (fun v5 v6 wx => v5 = .int .i64 0 ∧ v6 = .bool false ∧ Down C w wx ns N m1 m2 m3 x y z)
  case first =>
    go_region
    all_goals
      go_wp2_with fail
      go_meet
      exact ⟨rfl, rfl, hA, L⟩
  case rest =>
    obtain ⟨rfl, rfl, hA1, L1⟩ := hcut
    clear hA L hlook
    obtain ⟨⟨q0, q1, q2⟩, _⟩ := L1.reads
    go_wp2_with fail
    go_cut [9] (fun v7 wx => v7 = .int .i64 (late : Int) ∧ Down C w wx ns N m1 m2 m3 x y z)
    case first =>
      have hA2 := hA1.drew
      go_region_held3 (fun w' => w'.cell? ⟨w.heap.size, 0, none⟩ = some (.int .i64 (x : Int)) ∧ w'.cell? ⟨w.heap.size, 1, none⟩ = some (.int .i64 (y : Int))) (go_keep)
        (first | (go_at_call 107; refine (variable_any (At.bu (w0 := w) (by assumption)) (by assumption)).mono ?_; rintro e wn ⟨rfl, rfl⟩))
      go_wp2_with fail
      go_meet
      exact ⟨rfl, hA2, L1.drew⟩
    case rest =>
      obtain ⟨rfl, hA2, L2⟩ := hcut
      clear hA1 L1 q0 q1 q2 hmn
      have hs2 := hA2.kp.size
      have hA3 := hA2.alloc (.cells #[.int .i64 (late : Int), .int .i64 0, .int .i64 0] 87)
      have L3 := L2.alloc hA2.bu (.cells #[.int .i64 (late : Int), .int .i64 0, .int .i64 0] 87)
      have M3 := hA2.loc #[.int .i64 (late : Int), .int .i64 0, .int .i64 0] 87
      have hne : w.heap.size ≠ wc.heap.size := by have := L2.out.lt; omega
      obtain ⟨⟨q0, q1, q2⟩, _⟩ := L3.reads
      go_wp2_with fail
      refine (part_any hA3.bu z i1 (by omega)).mono ?_
      rintro e w4 ⟨rfl, hp⟩
      have hA4 := hA3.then hp
      have L4 := L3.kp hp.kp
      have M4 := M3.kp hp.kp
      clear hp L3 M3 hA3 q0 q1 q2
      obtain ⟨⟨q0, q1, q2⟩, _⟩ := L4.reads
      obtain ⟨⟨p0, p1, p2⟩, g0, g1, g2⟩ := M4.reads
      generalize hp0 : partOf ns x late z = f0 at *
      have hA5 := hA4.set (p := ⟨wc.heap.size, 1, none⟩) M4.out hs2 (.int .i64 (f0 : Int))
      have L5 := L4.setOther (j := 1) M4.out hne (.int .i64 (f0 : Int))
      have M5 := M4.set (j := 1) (.int .i64 (f0 : Int))
      simp only [List.setIfInBounds_toArray, List.set_cons_succ, List.set_cons_zero] at M5
      obtain ⟨⟨q0', q1', q2'⟩, _⟩ := L5.reads
      go_wp2_with fail
      refine (part_any hA5.bu z i2 (by omega)).mono ?_
      rintro e w6 ⟨rfl, hp⟩
      have hA6 := hA5.then hp
      have L6 := L5.kp hp.kp
      have M6 := M5.kp hp.kp
      clear hp L5 M5 hA5 L4 M4 hA4 q0 q1 q2 p0 p1 p2 g0 g1 g2 q0' q1' q2'
      obtain ⟨⟨p0, p1, p2⟩, g0, g1, g2⟩ := M6.reads
      generalize hp1 : partOf ns y late z = f1 at *
      have hA7 := hA6.set (p := ⟨wc.heap.size, 2, none⟩) M6.out hs2 (.int .i64 (f1 : Int))
      have L7 := L6.setOther (j := 2) M6.out hne (.int .i64 (f1 : Int))
      have M7 := M6.set (j := 2) (.int .i64 (f1 : Int))
      simp only [List.setIfInBounds_toArray, List.set_cons_succ, List.set_cons_zero] at M7
      obtain ⟨⟨p0', p1', p2'⟩, _⟩ := M7.reads
      go_wp2_with fail
      have lt0 : f0 < ns.length := by rw [← hp0]; exact partOf_lt wf i1 hl z
      have lt1 : f1 < ns.length := by rw [← hp1]; exact partOf_lt wf i2 hl z
      have k1 : late ≤ nv ns x := by have := hml'.out; simp only [minb] at this; omega
      have k2 : late ≤ nv ns y := by have := hml'.out; simp only [minb] at this; omega
      refine (numberOf_any hA7.bu (v := late) (l := f0) (u := f1) hl lt0 lt1 (fun _ => ⟨by rw [← hp0]; exact partOf_va wf i1 hl k1 z, by rw [← hp1]; exact partOf_va wf i2 hl k2 z⟩)).mono ?_
      rintro e w8 ⟨f, ns3, full3, rfl, hp, X3, l3, lt3, mo3, s3⟩
      have hA8 := (hA7.then hp).drew
      have L8 := (L7.kp hp.kp).drew
      clear hp L7 hA7 M7 M6 hA6 L6 p0 p1 p2 g0 g1 g2 p0' p1' p2'
      have wf3 := hA8.bu.ar.wf
      have len3 : ns3.length ≤ 40000 := Nat.le_trans hA8.bu.ar.le hA8.bu.ar.most4
      obtain ⟨w9, hrun, hM9, hg9⟩ := (hA8.bu.o2 c2 hc2).store Try.u46 (by unfold maxLen; omega) (x := (x, y, z)) ho (v := f) (by omega)
      have hA9 := hA8.memo2 hc2 hM9 hg9
      obtain ⟨⟨q0, q1, q2⟩, _⟩ := L8.reads
      obtain ⟨d0, d1, d2, d3, d4, df⟩ := hA8.bu.reads
      rw [hc2] at d3
      simp only [mixE] at hrun
      have hfin : BlendPost C w ns false N m1 m3 late (x, y, z) 1 (.returned (.int .i64 (f : Int))) w9 := by
        refine ⟨f, ns3, full3, N + 1, _, rfl, hA9, X3, by omega, by omega, lt3, (fun e => by cases e), fun e3 => ?_⟩
        have J : IsBl ns3 late (x, y, z) f := by
          refine isBl_late wf3 (hin.ext X3) hl (by rw [minb_ext hin X3]; exact hml'.out) ?_
          rw [partOf_ext X3 hin.1, partOf_ext X3 hin.2]
          show IsNode ns3 late (partOf ns x late z) (partOf ns y late z) f
          rw [hp0, hp1]
          exact s3 e3
        exact ⟨(hm.ext X3 wf wf3).upd J, J⟩
      clear hA8 hM9 hg9 L8 hA9
      go_wp2_with fail
      go_region
      all_goals
        go_wp2_with fail
        go_ret
        exact hfin
end
end Go.Proofs.Ytgcimcpcnoojnaa


