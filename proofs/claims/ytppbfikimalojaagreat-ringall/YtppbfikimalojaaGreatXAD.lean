/-
  XAD.
-/
import Derived.Test.YtppbfikimalojaaGreatXLy
import Derived.Test.YtppbfikimalojaaGreatXAC
import Derived.Test.YtppbfikimalojaaGreatXAA
import Derived.Maps.AppendAt
import Derived.Deep.Heap
import Derived.OneCell
import Derived.Deep.RegionHeldLaw
set_option maxHeartbeats 8000000
set_option maxRecDepth 100000
namespace Go.Proofs.YtppbfikimalojaaGreat
open Go.RowKit
theorem hasPlace_any (d p : Int) (A : Option Addr) (n cap : Nat) (vl : Value) (ds : List Dv) (w : World) (hD : Hid (Devs w.heap.size w (.slice A n cap) ds)) :
  Calls Tryz.prog 119 #[.agg #[.slice A n cap, vl], plA d p] w fun e w' => e = .returned (.bool (isPl ds d p)) ∧ Below w.heap.size w w' := by
 obtain ⟨rfl, hc, hm⟩ := hD.out.len
 unfold maxLen at hm
 have D0 := Below.alN (Below.alN (Below.refl w.heap.size w) (.cells #[.slice A ds.length cap, vl] 25)) (.cells #[.int .i64 d, .int .i64 p] 27)
 have B1 := (box2_new w (.slice A ds.length cap) vl 25).alloc (.cells #[.int .i64 d, .int .i64 p] 27)
 have B0 := box2_new (w.alloc (.cells #[.slice A ds.length cap, vl] 25)) (.int .i64 d) (.int .i64 p) 27
 rw [World.size_alloc] at B0
 obtain ⟨_, q0, q1, _⟩ := id B0
 obtain ⟨_, q2, _, _⟩ := id B1
 unfold isPl
 cases h0 : decide (0 <= d)
 ·go_enter Tryz.func119, Tryz.ntmps119
  go_wp2_with fail
  go_quiet (fail)
  go_wp2_with fail
  go_ret
  exact ⟨by simp, belowNN D0 _⟩
 cases h1 : decide (d < (ds.length : Int))
 ·go_enter Tryz.func119, Tryz.ntmps119
  go_wp2_with fail
  go_quiet (fail)
  go_wp2_with fail
  go_ret
  exact ⟨by simp, belowNN D0 _⟩
 cases h2 : decide (0 <= p)
 ·go_enter Tryz.func119, Tryz.ntmps119
  go_wp2_with fail
  go_quiet (fail)
  go_wp2_with fail
  go_ret
  exact ⟨by simp, belowNN D0 _⟩
 have hd0 : 0 <= d := by simpa using h0
 have hd1 : d < (ds.length : Int) := by simpa using h1
 obtain ⟨i, rfl⟩ : ∃ i : Nat, d = (i : Int) := ⟨d.toNat, by omega⟩
 have hi : i < ds.length := by omega
 obtain ⟨x, hx⟩ : ∃ x, ds[i]? = some x := ⟨_, List.getElem?_eq_getElem hi⟩
 obtain ⟨b, o, vb, vr, vt, rfl, hb, _, _, _, c0, c1, c2, c3, c4, c5, c6⟩ := (hD.out.below D0).at hx
 have ek : kindAt ds (i : Int) = x.kind := by
  unfold kindAt
  rw [Int.toNat_natCast, hx]
  rfl
 rw [ek]
 have PO : Hid (∀ w, Calls Tryz.prog 54 #[.int .i64 x.kind] w fun e w' => e = .returned (.int .i64 (portsV x.kind)) ∧ w' = w) := fun w => nports_any x.kind w
 clear hD hx ek c0 c2 c3 c4 c5 c6 hd0 hd1
 generalize portsV x.kind = pk at *
 generalize x.kind = kd at *
 go_enter Tryz.func119, Tryz.ntmps119
 go_wp2_with fail
 go_quiet ((go_at_call 54; exact Calls.quiet_of_same (PO.out _)))
 go_wp2_with fail
 go_ret
 exact ⟨by simp, belowNN D0 _⟩
def LB (w : World) (n : Nat) (x y a b c d : Value) : Prop := Box2 w n x y ∧ Lk4 w (n + 1) a b c d
theorem LB.cells {w : World} {n : Nat} {x y a b c d : Value} (H : LB w n x y a b c d) : w.cell? ⟨n, 0, none⟩ = some x ∧ w.cell? ⟨n, 1, none⟩ = some y ∧ w.cell? ⟨n + 1, 0, none⟩ = some a ∧ w.cell? ⟨n + 1, 1, none⟩ = some b ∧ w.cell? ⟨n + 1, 2, none⟩ = some c ∧ w.cell? ⟨n + 1, 3, none⟩ = some d := by
 obtain ⟨⟨_, h1, h2, _⟩, ⟨_, h5, h6, h7, h8⟩⟩ := H
 exact ⟨h1, h2, h5, h6, h7, h8⟩
theorem LB.keep {W w' : World} {n : Nat} {x y a b c d : Value} (hb : Below W.heap.size W w') (H : LB W n x y a b c d) : LB w' n x y a b c d := ⟨H.1.below hb H.1.1, H.2.below hb H.2.1⟩
theorem LB.drew {w : World} {n : Nat} {x y a b c d : Value} (H : LB w n x y a b c d) : LB w.drew n x y a b c d := H
theorem lb_new (w : World) (x y a b c d : Value) (s t : TypeId) : LB ((w.alloc (.cells #[x, y] s)).alloc (.cells #[a, b, c, d] t)) w.heap.size x y a b c d := by
 refine ⟨(box2_new w x y s).alloc _, ?_⟩
 have := lk4_new (w.alloc (.cells #[x, y] s)) a b c d t
 rw [World.size_alloc] at this
 exact this
def linkTold (ds : List Dv) (ahead : List Lk) (l : Lk) : Int := if isPl ds l.a l.p && isPl ds l.b l.q then (if selfB l || ahead.any (fun m => meetB m l) then 5 else 0) else 1
theorem checkLink_any (A B : Option Addr) (cap cap' : Nat) (ds : List Dv) (ls : List Lk) (j : Nat) (l : Lk) (w : World) (hx : Hid (ls[j]? = some l)) (hD : Hid (Devs w.heap.size w (.slice A ds.length cap) ds)) (hL : Hid (Links w.heap.size w (.slice B ls.length cap') ls)) :
  Calls Tryz.prog 66 #[.agg #[.slice A ds.length cap, .slice B ls.length cap'], .int .i64 (j : Int)] w fun e w' => e = .returned (.int .i64 (linkTold ds (ls.take j) l)) ∧ Below w.heap.size w w' := by
 have hj : j < ls.length := (List.getElem?_eq_some_iff.1 hx.out).1
 obtain ⟨_, hc, hm⟩ := hL.out.len
 unfold maxLen at hm
 have D0 := Below.alN (Below.refl w.heap.size w) (.cells #[.slice A ds.length cap, .slice B ls.length cap'] 25)
 obtain ⟨b, o, rfl, hb, c0, c1, c2, c3⟩ := (hL.out.below D0).at hx.out
 have k1 : (0 : Int) <= (j : Int) := by omega
 have k2 : (j : Int) < (ls.length : Int) := by omega
 have k3 : (j : Int) <= (cap' : Int) := by omega
 have FL : Hid (∀ w, Calls Tryz.prog 120 #[lkA l.a l.p l.b l.q] w fun e w' => e = .returned (plA l.a l.p) ∧ Below w.heap.size w w') := fun w => from_any _ _ _ _ w
 have TL : Hid (∀ w, Calls Tryz.prog 121 #[lkA l.a l.p l.b l.q] w fun e w' => e = .returned (plA l.b l.q) ∧ Below w.heap.size w w') := fun w => to_any _ _ _ _ w
 have I1 : Hid (∀ W, Below w.heap.size w W -> Calls Tryz.prog 119 #[.agg #[.slice A ds.length cap, .slice (some ⟨b, o, none⟩) ls.length cap'], plA l.a l.p] W fun e w' => e = .returned (.bool (isPl ds l.a l.p)) ∧ Below W.heap.size W w') := fun W h => hasPlace_any _ _ _ _ _ _ _ W ((hD.out.below h).mono h.size)
 have I2 : Hid (∀ W, Below w.heap.size w W -> Calls Tryz.prog 119 #[.agg #[.slice A ds.length cap, .slice (some ⟨b, o, none⟩) ls.length cap'], plA l.b l.q] W fun e w' => e = .returned (.bool (isPl ds l.b l.q)) ∧ Below W.heap.size W w') := fun W h => hasPlace_any _ _ _ _ _ _ _ W ((hD.out.below h).mono h.size)
 have CO : Hid (∀ W, Below w.heap.size w W -> LB W w.heap.size (.slice A ds.length cap) (.slice (some ⟨b, o, none⟩) ls.length cap') (.int .i64 l.a) (.int .i64 l.p) (.int .i64 l.b) (.int .i64 l.q) -> Calls Tryz.prog 122 #[.slice (some ⟨b, o, none⟩) j cap', .func (.func 123) #[] #[.pointer (some ⟨w.heap.size + 1, 0, none⟩)]] W fun e w' => e = .returned (.bool ((ls.take j).any (fun m => meetB m l))) ∧ Below W.heap.size W w') := fun W h hT => linkHas_any _ _ _ _ l _ W (Links.mono (SlAt.take (hL.out.below h) j (by omega)) h.size) hT.2
 have PE : ∀ w, (binOp .eql 27 (plA l.a l.p) (plA l.b l.q)).run Tryz.prog w = .ok (.bool (selfB l)) w := fun w => place_eq _ _ _ _ w
 generalize hres : linkTold ds (ls.take j) l = res
 have HR : Hid (res = if isPl ds l.a l.p && isPl ds l.b l.q then (if selfB l || (ls.take j).any (fun m => meetB m l) then 5 else 0) else 1) := hres.symm
 clear hres hL hD hx
 generalize isPl ds l.a l.p = x0 at *
 generalize isPl ds l.b l.q = x1 at *
 generalize selfB l = x2 at *
 generalize (ls.take j).any (fun m => meetB m l) = x3 at *
 generalize l.a = la at *
 generalize l.p = lp at *
 generalize l.b = lb at *
 generalize l.q = lq at *
 have D1 := (Below.alN D0 (.cells #[.int .i64 la, .int .i64 lp, .int .i64 lb, .int .i64 lq] 96)).drew
 have M1 := (lb_new w (.slice A ds.length cap) (.slice (some ⟨b, o, none⟩) ls.length cap') (.int .i64 la) (.int .i64 lp) (.int .i64 lb) (.int .i64 lq) 25 96).drew
 clear D0
 go_enter Tryz.func66, Tryz.ntmps66
 go_wp2_with fail
 go_region
 clear c0 c1 c2 c3
 have D2 := D1.drew
 have M2 := M1.drew
 clear D1 M1
 cases x0
 ·have HV : Hid (res = 1) := by show _ = _; rw [HR.out]; rfl
  clear HR I2 CO PE TL
  go_wp2_with fail
  refine wp_region_held_drew (S := (fun w' => w'.cell? ⟨w.heap.size, 0, none⟩ = some (.slice A ds.length cap) ∧ w'.cell? ⟨w.heap.size, 1, none⟩ = some (.slice (some ⟨b, o, none⟩) ls.length cap') ∧ w'.cell? ⟨w.heap.size + 1, 0, none⟩ = some (.int .i64 la) ∧ w'.cell? ⟨w.heap.size + 1, 1, none⟩ = some (.int .i64 lp) ∧ w'.cell? ⟨w.heap.size + 1, 2, none⟩ = some (.int .i64 lb) ∧ w'.cell? ⟨w.heap.size + 1, 3, none⟩ = some (.int .i64 lq))) (by kernel_rfl) (LB.cells (n := w.heap.size) (by assumption)) (fun hHeld => ?_)
  refine tk 0 ?_; try simp only [ly]
  refine tk 1 ?_; try simp only [ly]
  refine rd 2 (fun K hK => ?_)
  go_simp
  refine (FL.out _).mono ?_; rintro e wz ⟨rfl, hbz⟩; have Dz := chnN (W0 := w) hbz (by assumption); have Pz := LB.keep (n := w.heap.size) hbz (by assumption); clear hbz
  try go_wp2_with fail
  clear hHeld
  refine hK.out _ _ (LB.cells (n := w.heap.size) (by assumption)) (fun hHeld => ?_)
  clear hK K
  try simp only [ly]
  refine rd 3 (fun K hK => ?_)
  go_simp
  refine (I1.out _ (by assumption)).mono ?_; rintro e wz ⟨rfl, hbz⟩; have Dz := chnN (W0 := w) hbz (by assumption); have Pz := LB.keep (n := w.heap.size) hbz (by assumption); clear hbz
  try go_wp2_with fail
  clear hHeld
  refine hK.out _ _ (LB.cells (n := w.heap.size) (by assumption)) (fun hHeld => ?_)
  clear hK K
  try simp only [ly]
  refine tk 4 ?_; try simp only [ly]
  refine tk 5 ?_; try simp only [ly]
  refine tk0 6 ?_; try simp only [ly]
  refine tk0 7 ?_; try simp only [ly]
  refine tk0 8 ?_; try simp only [ly]
  refine tk0 9 ?_; try simp only [ly]
  refine tk0 10 ?_; try simp only [ly]
  refine tk 11 ?_; try simp only [ly]
  refine wpAnyH_done (by kernel_rfl) ?_ _
  go_wp2_with fail
  go_ret
  exact ⟨by rw [HV.out]; rfl, by assumption⟩
 ·have HR1 : Hid (res = if x1 then (if x2 || x3 then 5 else 0) else 1) := by show _ = _; rw [HR.out]; rfl
  clear HR
  go_wp2_with fail
  refine wp_region_held_drew (S := (fun w' => w'.cell? ⟨w.heap.size, 0, none⟩ = some (.slice A ds.length cap) ∧ w'.cell? ⟨w.heap.size, 1, none⟩ = some (.slice (some ⟨b, o, none⟩) ls.length cap') ∧ w'.cell? ⟨w.heap.size + 1, 0, none⟩ = some (.int .i64 la) ∧ w'.cell? ⟨w.heap.size + 1, 1, none⟩ = some (.int .i64 lp) ∧ w'.cell? ⟨w.heap.size + 1, 2, none⟩ = some (.int .i64 lb) ∧ w'.cell? ⟨w.heap.size + 1, 3, none⟩ = some (.int .i64 lq))) (by kernel_rfl) (LB.cells (n := w.heap.size) (by assumption)) (fun hHeld => ?_)
  refine tk 0 ?_; try simp only [ly]
  refine tk 1 ?_; try simp only [ly]
  refine rd 2 (fun K hK => ?_)
  go_simp
  refine (FL.out _).mono ?_; rintro e wz ⟨rfl, hbz⟩; have Dz := chnN (W0 := w) hbz (by assumption); have Pz := LB.keep (n := w.heap.size) hbz (by assumption); clear hbz
  try go_wp2_with fail
  clear hHeld
  refine hK.out _ _ (LB.cells (n := w.heap.size) (by assumption)) (fun hHeld => ?_)
  clear hK K
  try simp only [ly]
  refine rd 3 (fun K hK => ?_)
  go_simp
  refine (I1.out _ (by assumption)).mono ?_; rintro e wz ⟨rfl, hbz⟩; have Dz := chnN (W0 := w) hbz (by assumption); have Pz := LB.keep (n := w.heap.size) hbz (by assumption); clear hbz
  try go_wp2_with fail
  clear hHeld
  refine hK.out _ _ (LB.cells (n := w.heap.size) (by assumption)) (fun hHeld => ?_)
  clear hK K
  try simp only [ly]
  refine tk 4 ?_; try simp only [ly]
  refine tk 5 ?_; try simp only [ly]
  refine tk 6 ?_; try simp only [ly]
  refine tk 7 ?_; try simp only [ly]
  refine rd 8 (fun K hK => ?_)
  go_simp
  refine (TL.out _).mono ?_; rintro e wz ⟨rfl, hbz⟩; have Dz := chnN (W0 := w) hbz (by assumption); have Pz := LB.keep (n := w.heap.size) hbz (by assumption); clear hbz
  try go_wp2_with fail
  clear hHeld
  refine hK.out _ _ (LB.cells (n := w.heap.size) (by assumption)) (fun hHeld => ?_)
  clear hK K
  try simp only [ly]
  refine rd 9 (fun K hK => ?_)
  go_simp
  refine (I2.out _ (by assumption)).mono ?_; rintro e wz ⟨rfl, hbz⟩; have Dz := chnN (W0 := w) hbz (by assumption); have Pz := LB.keep (n := w.heap.size) hbz (by assumption); clear hbz
  try go_wp2_with fail
  clear hHeld
  refine hK.out _ _ (LB.cells (n := w.heap.size) (by assumption)) (fun hHeld => ?_)
  clear hK K
  try simp only [ly]
  refine tk 10 ?_; try simp only [ly]
  refine tk 11 ?_; try simp only [ly]
  refine wpAnyH_done (by kernel_rfl) ?_ _
  cases x1
  ·go_wp2_with fail
   go_ret
   exact ⟨by rw [HR1.out]; rfl, by assumption⟩
  clear D2 M2
  cases x2
  ·have HV : Hid (res = if x3 then 5 else 0) := by show _ = _; rw [HR1.out]; rfl
   clear HR1
   go_wp2_with fail
   refine wp_region_held_drew (S := (fun w' => w'.cell? ⟨w.heap.size, 0, none⟩ = some (.slice A ds.length cap) ∧ w'.cell? ⟨w.heap.size, 1, none⟩ = some (.slice (some ⟨b, o, none⟩) ls.length cap') ∧ w'.cell? ⟨w.heap.size + 1, 0, none⟩ = some (.int .i64 la) ∧ w'.cell? ⟨w.heap.size + 1, 1, none⟩ = some (.int .i64 lp) ∧ w'.cell? ⟨w.heap.size + 1, 2, none⟩ = some (.int .i64 lb) ∧ w'.cell? ⟨w.heap.size + 1, 3, none⟩ = some (.int .i64 lq))) (by kernel_rfl) (LB.cells (n := w.heap.size) (by first | assumption | exact Below.drew (by assumption) | exact LB.drew (by assumption))) (fun hHeld => ?_)
   refine tk 0 ?_ (hS := by first | assumption | exact Below.drew (by assumption) | exact LB.drew (by assumption)); try simp only [ly]
   refine tk 2 ?_ (hS := by first | assumption | exact Below.drew (by assumption) | exact LB.drew (by assumption)); try simp only [ly]
   refine rd 1 (fun K hK => ?_)
   go_simp
   refine (FL.out _).mono ?_; rintro e wz ⟨rfl, hbz⟩; have Dz := chnN (W0 := w) hbz (by first | assumption | exact Below.drew (by assumption) | exact LB.drew (by assumption)); have Pz := LB.keep (n := w.heap.size) hbz (by first | assumption | exact Below.drew (by assumption) | exact LB.drew (by assumption)); clear hbz
   try go_wp2_with fail
   clear hHeld
   refine hK.out _ _ (LB.cells (n := w.heap.size) (by first | assumption | exact Below.drew (by assumption) | exact LB.drew (by assumption))) (fun hHeld => ?_)
   clear hK K
   try simp only [ly]
   refine rd 3 (fun K hK => ?_)
   go_simp
   refine (TL.out _).mono ?_; rintro e wz ⟨rfl, hbz⟩; have Dz := chnN (W0 := w) hbz (by first | assumption | exact Below.drew (by assumption) | exact LB.drew (by assumption)); have Pz := LB.keep (n := w.heap.size) hbz (by first | assumption | exact Below.drew (by assumption) | exact LB.drew (by assumption)); clear hbz
   try go_wp2_with fail
   clear hHeld
   refine hK.out _ _ (LB.cells (n := w.heap.size) (by first | assumption | exact Below.drew (by assumption) | exact LB.drew (by assumption))) (fun hHeld => ?_)
   clear hK K
   try simp only [ly]
   refine tk 4 ?_ (hS := by first | assumption | exact Below.drew (by assumption) | exact LB.drew (by assumption)); try simp only [ly]
   refine tk 5 ?_ (hS := by first | assumption | exact Below.drew (by assumption) | exact LB.drew (by assumption)); try simp only [ly]
   refine tk 6 ?_ (hS := by first | assumption | exact Below.drew (by assumption) | exact LB.drew (by assumption)); try simp only [ly]
   refine tk 7 ?_ (hS := by first | assumption | exact Below.drew (by assumption) | exact LB.drew (by assumption)); try simp only [ly]
   refine rd 8 (fun K hK => ?_)
   go_simp
   refine (CO.out _ (by first | assumption | exact Below.drew (by assumption) | exact LB.drew (by assumption)) (by first | assumption | exact Below.drew (by assumption) | exact LB.drew (by assumption))).mono ?_; rintro e wz ⟨rfl, hbz⟩; have Dz := chnN (W0 := w) hbz (by first | assumption | exact Below.drew (by assumption) | exact LB.drew (by assumption)); have Pz := LB.keep (n := w.heap.size) hbz (by first | assumption | exact Below.drew (by assumption) | exact LB.drew (by assumption)); clear hbz
   try go_wp2_with fail
   clear hHeld
   refine hK.out _ _ (LB.cells (n := w.heap.size) (by first | assumption | exact Below.drew (by assumption) | exact LB.drew (by assumption))) (fun hHeld => ?_)
   clear hK K
   try simp only [ly]
   refine tk 9 ?_ (hS := by first | assumption | exact Below.drew (by assumption) | exact LB.drew (by assumption)); try simp only [ly]
   refine wpAnyH_done (by kernel_rfl) ?_ _
   cases x3
   ·go_wp2_with fail
    go_ret
    exact ⟨by rw [HV.out]; rfl, by first | assumption | exact Below.drew (by assumption) | exact LB.drew (by assumption)⟩
   ·go_wp2_with fail
    go_ret
    exact ⟨by rw [HV.out]; rfl, by first | assumption | exact Below.drew (by assumption) | exact LB.drew (by assumption)⟩
  ·have HV : Hid (res = 5) := by show _ = _; rw [HR1.out]; rfl
   clear HR1
   go_wp2_with fail
   refine wp_region_held_drew (S := (fun w' => w'.cell? ⟨w.heap.size, 0, none⟩ = some (.slice A ds.length cap) ∧ w'.cell? ⟨w.heap.size, 1, none⟩ = some (.slice (some ⟨b, o, none⟩) ls.length cap') ∧ w'.cell? ⟨w.heap.size + 1, 0, none⟩ = some (.int .i64 la) ∧ w'.cell? ⟨w.heap.size + 1, 1, none⟩ = some (.int .i64 lp) ∧ w'.cell? ⟨w.heap.size + 1, 2, none⟩ = some (.int .i64 lb) ∧ w'.cell? ⟨w.heap.size + 1, 3, none⟩ = some (.int .i64 lq))) (by kernel_rfl) (LB.cells (n := w.heap.size) (by first | assumption | exact Below.drew (by assumption) | exact LB.drew (by assumption))) (fun hHeld => ?_)
   refine tk 0 ?_ (hS := by first | assumption | exact Below.drew (by assumption) | exact LB.drew (by assumption)); try simp only [ly]
   refine tk 2 ?_ (hS := by first | assumption | exact Below.drew (by assumption) | exact LB.drew (by assumption)); try simp only [ly]
   refine rd 1 (fun K hK => ?_)
   go_simp
   refine (FL.out _).mono ?_; rintro e wz ⟨rfl, hbz⟩; have Dz := chnN (W0 := w) hbz (by first | assumption | exact Below.drew (by assumption) | exact LB.drew (by assumption)); have Pz := LB.keep (n := w.heap.size) hbz (by first | assumption | exact Below.drew (by assumption) | exact LB.drew (by assumption)); clear hbz
   try go_wp2_with fail
   clear hHeld
   refine hK.out _ _ (LB.cells (n := w.heap.size) (by first | assumption | exact Below.drew (by assumption) | exact LB.drew (by assumption))) (fun hHeld => ?_)
   clear hK K
   try simp only [ly]
   refine rd 3 (fun K hK => ?_)
   go_simp
   refine (TL.out _).mono ?_; rintro e wz ⟨rfl, hbz⟩; have Dz := chnN (W0 := w) hbz (by first | assumption | exact Below.drew (by assumption) | exact LB.drew (by assumption)); have Pz := LB.keep (n := w.heap.size) hbz (by first | assumption | exact Below.drew (by assumption) | exact LB.drew (by assumption)); clear hbz
   try go_wp2_with fail
   clear hHeld
   refine hK.out _ _ (LB.cells (n := w.heap.size) (by first | assumption | exact Below.drew (by assumption) | exact LB.drew (by assumption))) (fun hHeld => ?_)
   clear hK K
   try simp only [ly]
   refine tk 4 ?_ (hS := by first | assumption | exact Below.drew (by assumption) | exact LB.drew (by assumption)); try simp only [ly]
   refine tk 5 ?_ (hS := by first | assumption | exact Below.drew (by assumption) | exact LB.drew (by assumption)); try simp only [ly]
   refine' wpAnyH_take (i := 6) (v := undef) rfl (by kernel_rfl) (by kernel_rfl) (by kernel_rfl) (fun _ _ _ h => h) (Or.inr ⟨by rfl, rfl⟩) (by first | assumption | exact Below.drew (by assumption) | exact LB.drew (by assumption)) ?gr31
   try simp only [ly]
   refine' wpAnyH_take (i := 7) (v := undef) rfl (by kernel_rfl) (by kernel_rfl) (by kernel_rfl) (fun _ _ _ h => h) (Or.inr ⟨by rfl, rfl⟩) (by first | assumption | exact Below.drew (by assumption) | exact LB.drew (by assumption)) ?gr32
   try simp only [ly]
   refine' wpAnyH_take (i := 8) (v := undef) rfl (by kernel_rfl) (by kernel_rfl) (by kernel_rfl) (fun _ _ _ h => h) (Or.inr ⟨by rfl, rfl⟩) (by first | assumption | exact Below.drew (by assumption) | exact LB.drew (by assumption)) ?gr33
   try simp only [ly]
   refine tk 9 ?_ (hS := by first | assumption | exact Below.drew (by assumption) | exact LB.drew (by assumption)); try simp only [ly]
   refine wpAnyH_done (by kernel_rfl) ?_ _
   go_wp2_with fail
   go_ret
   exact ⟨by rw [HV.out]; rfl, by first | assumption | exact Below.drew (by assumption) | exact LB.drew (by assumption)⟩
end Go.Proofs.YtppbfikimalojaaGreat
namespace Go.Proofs.YtppbfikimalojaaGreat
open Go.RowKit Go.Maps
abbrev arV (t : Int × Int) (p : Pk) : Value := .agg #[.int .i64 t.1, .int .i64 t.2, .int .i64 p.s, .int .i64 p.d, .int .i64 p.sp, .int .i64 p.dp]
end Go.Proofs.YtppbfikimalojaaGreat
namespace Go.Proofs.YtppbfikimalojaaGreat
open Go.RowKit
theorem indexI_any (A : Option Addr) (n cap : Nat) (bs : List Int) (x : Int) (base : Nat) (w : World) (hB : Hid (SlAt base w 1 IsI (.slice A n cap) bs)) :
  Calls Tryz.prog 26 #[.slice A n cap, .int .i64 x] w fun e w' => ∃ j : Int, e = .returned (.int .i64 j) ∧ Hid (decide (0 <= j) = bs.any (fun y => y == x)) ∧ w' = w := by
 obtain ⟨A', cap', e, _, h1, h2, _⟩ := id hB.out
 cases e
 unfold maxLen at h2
 generalize hres : bs.any (fun y => y == x) = res
 have HR : Hid (bs.any (fun y => y == x) = res) := hres
 clear hres
 go_enter Tryz.func26, Tryz.ntmps26
 go_wp2_with fail
 go_loop [8] (fun i => ∃ k : Nat, i = .int .i64 (k : Int) ∧ k <= bs.length ∧ Hid ((bs.take k).any (fun y => y == x) = false)) (fun i => bs.length - (intOf i).toNat)
 case atStart => exact ⟨0, rfl, by omega, rfl⟩
 case round =>
  obtain ⟨k, rfl, hk, hno⟩ := hrel
  by_cases hlt : k < bs.length
  ·obtain ⟨y, hxk⟩ : ∃ y, bs[k]? = some y := ⟨_, List.getElem?_eq_getElem hlt⟩
   obtain ⟨b, o, rfl, _, hcell⟩ := Ints.at hB.out hxk
   have c0 := hcell k y hxk
   have HT : Hid ((bs.take (k + 1)).any (fun z => z == x) = ((bs.take k).any (fun z => z == x) || (y == x))) := any_takeI hxk
   have HM : Hid (y == x -> bs.any (fun y => y == x) = true) := fun h => List.any_eq_true.2 ⟨y, List.mem_of_getElem? hxk, h⟩
   have k1 : (0 : Int) <= (k : Int) := by omega
   have k2 : (k : Int) < (bs.length : Int) := by omega
   clear hxk hcell hB
   cases hv : (y == x)
   ·have hv2 : (x == y) = false := by rw [BEq.comm]; exact hv
    have HV : Hid ((bs.take (k + 1)).any (fun z => z == x) = false) := by
     show _ = _
     rw [HT.out, hno.out, hv]
     rfl
    clear HT HM hno hv
    go_wp2_with fail
    go_round
    case rel => exact ⟨k + 1, by go_num, by omega, HV⟩
    case measure => simp [intOf]; omega
   ·have hv2 : (x == y) = true := by rw [BEq.comm]; exact hv
    have HV : Hid (res = true) := by
     show _ = _
     rw [<- HR.out, HM.out hv]
    clear HT HM hno hv
    go_wp2_with fail
    go_ret
    exact ⟨_, rfl, (by show _ = _; rw [HV.out]; simp), rfl⟩
  ·have HV : Hid (res = false) := by
    show _ = _
    rw [<- HR.out]
    have := hno.out
    rw [show k = bs.length by omega, List.take_length] at this
    exact this
   go_wp2_with fail
   go_ret
   exact ⟨_, rfl, (by show _ = _; rw [HV.out]; simp), rfl⟩
theorem containsI_any (A : Option Addr) (n cap : Nat) (bs : List Int) (x : Int) (base : Nat) (w : World) (hB : Hid (SlAt base w 1 IsI (.slice A n cap) bs)) :
  Calls Tryz.prog 63 #[.slice A n cap, .int .i64 x] w fun e w' => e = .returned (.bool (bs.any (fun y => y == x))) ∧ w' = w := by
 have IX : Hid (∀ w', w' = w -> Calls Tryz.prog 26 #[.slice A n cap, .int .i64 x] w' fun e w' => ∃ j : Int, e = .returned (.int .i64 j) ∧ Hid (decide (0 <= j) = bs.any (fun y => y == x)) ∧ w' = w) := fun w' h => by subst h; exact indexI_any A n cap bs x base w' hB
 clear hB
 generalize bs.any (fun y => y == x) = v at *
 go_enter Tryz.func63, Tryz.ntmps63
 go_wp2_with fail
 refine (IX.out _ rfl).mono ?_
 rintro e w2 ⟨j, rfl, hj, rfl⟩
 clear IX
 go_wp2_with fail
 go_ret
 exact ⟨by rw [<- hj.out]; rfl, rfl⟩
theorem backsFrom_vals (bs : List Int) (ad : Int) : ∀ (m k : Nat), bs.length - k <= m -> backsFrom bs ad k = 0 ∨ backsFrom bs ad k = 1
 | 0, k, h => by rw [backsFrom_end (by omega)]; simp
 | m + 1, k, h => by
   by_cases hk : k < bs.length
   ·rw [backsFrom_at (List.getElem?_eq_getElem hk)]
    split
    ·exact backsFrom_vals bs ad m (k + 1) (by omega)
    ·simp
   ·rw [backsFrom_end (by omega)]; simp
def backsF (k ad : Int) (bs : List Int) : Bool := (decide (0 < bs.length) == (k == 5)) && decide (backsFrom bs ad 0 = 0)
theorem backsFit_loop (nm : ByteArray) (k ad : Int) (pl : Nat) (A : Option Addr) (cap : Nat) (bs : List Int) (vr vt : Value) (res : Bool) (w : World) (hB : Hid (SlAt w.heap.size w 1 IsI (.slice A bs.length cap) bs)) (hcap : bs.length <= cap) (hmax : cap <= maxLen) (hne : (decide (0 < bs.length) == (k == 5)) = true) (HR : Hid (decide (backsFrom bs ad 0 = 0) = res)) :
  Calls Tryz.prog 115 #[devA nm k ad pl (.slice A bs.length cap) vr vt] w fun e w' => e = .returned (.bool res) ∧ Below w.heap.size w w' := by
 unfold maxLen at hmax
 have D0 := Below.alN (Below.refl w.heap.size w) (.cells #[.string nm, .int .i64 k, .int .i64 ad, .int .u8 (pl : Int), .slice A bs.length cap, vr, vt] 56)
 have V0 := seven_new w (.string nm) (.int .i64 k) (.int .i64 ad) (.int .u8 (pl : Int)) (.slice A bs.length cap) vr vt 56
 have BW := SlAt.below hB.out D0 (fun _ _ _ h => h)
 have hne2 : (decide ((0 : Int) < (bs.length : Int)) == (k == 5)) = true := by
  rw [<- hne]
  congr 1
  rw [decide_eq_decide]
  omega
 have hne3 : (decide (0 < bs.length)) = (k == 5) := eq_of_beq hne
 have hne4 : (decide ((0 : Int) < (bs.length : Int))) = (k == 5) := eq_of_beq hne2
 cases h5 : (k == 5)
 all_goals
  rw [h5] at hne3 hne4
  clear hne hne2
  go_enter Tryz.func115, Tryz.ntmps115
  go_wp2_with fail
  go_loop [16] (fun i => ∃ j : Nat, i = .int .i64 (j : Int) ∧ j <= bs.length ∧ Hid (decide (backsFrom bs ad j = 0) = res)) (fun i => bs.length - (intOf i).toNat)
  case atStart => exact ⟨0, rfl, by omega, HR⟩
  case round =>
   obtain ⟨j, rfl, hj, hl⟩ := hrel
   by_cases hlt : j < bs.length
   ·obtain ⟨x, hxk⟩ : ∃ x, bs[j]? = some x := ⟨_, List.getElem?_eq_getElem hlt⟩
    obtain ⟨b, o, rfl, _, hcell⟩ := Ints.at BW hxk
    have c0 := hcell j x hxk
    have HT : Hid (backsFrom bs ad j = if (decide (0 <= x) && decide (x <= 15)) && !(x == ad) && !((bs.take j).any (fun y => y == x)) then backsFrom bs ad (j + 1) else 1) := backsFrom_at hxk
    have IA : Hid (∀ w, Calls Tryz.prog 165 #[.int .i64 x] w fun e w' => e = .returned (.bool (addrB x)) ∧ w' = w) := fun w => isAddr_any x w
    have CO : Hid (Calls Tryz.prog 63 #[.slice (some ⟨b, o, none⟩) j cap, .int .i64 x] (w.alloc (.cells #[.string nm, .int .i64 k, .int .i64 ad, .int .u8 (pl : Int), .slice (some ⟨b, o, none⟩) bs.length cap, vr, vt] 56)) fun e w' => e = .returned (.bool ((bs.take j).any (fun y => y == x))) ∧ w' = (w.alloc (.cells #[.string nm, .int .i64 k, .int .i64 ad, .int .u8 (pl : Int), .slice (some ⟨b, o, none⟩) bs.length cap, vr, vt] 56))) := containsI_any _ j cap (bs.take j) x w.heap.size _ (SlAt.take BW j (by omega))
    have ea : (decide (0 <= x) && decide (x <= 15)) = addrB x := by
     unfold addrB
     congr 1
     rw [decide_eq_decide]
     omega
    rw [ea] at HT
    have k1 : (0 : Int) <= (j : Int) := by omega
    have k2 : (j : Int) < (bs.length : Int) := by omega
    have k3 : (j : Int) <= (cap : Int) := by omega
    obtain ⟨_, q0, q1, q2, q3, q4, q5, q6⟩ := id V0
    clear hxk hcell hB ea BW
    generalize addrB x = x0 at *
    generalize (bs.take j).any (fun y => y == x) = x2 at *
    cases x0
    ·have HV : Hid (res = false) := by
      show _ = _
      rw [<- hl.out, HT.out]
      simp
     clear HT hl
     go_wp2_with (go_at_call 165; refine (IA.out _).mono ?_; rintro e w' ⟨rfl, rfl⟩)
     go_ret
     exact ⟨by rw [HV.out]; rfl, D0⟩
    ·cases x1 : (x == ad)
     ·cases x2
      ·have HV : Hid (decide (backsFrom bs ad (j + 1) = 0) = res) := by
        show _ = _
        rw [<- hl.out, HT.out, x1]
        simp
       clear HT hl
       go_wp2_with (first | (go_at_call 165; refine (IA.out _).mono ?_; rintro e w' ⟨rfl, rfl⟩) | (go_at_call 63; refine CO.out.mono ?_; rintro e w' ⟨rfl, rfl⟩))
       go_round
       case rel => exact ⟨j + 1, by go_num, by omega, HV⟩
       case measure => simp [intOf]; omega
      ·have HV : Hid (res = false) := by
        show _ = _
        rw [<- hl.out, HT.out, x1]
        simp
       clear HT hl
       go_wp2_with (first | (go_at_call 165; refine (IA.out _).mono ?_; rintro e w' ⟨rfl, rfl⟩) | (go_at_call 63; refine CO.out.mono ?_; rintro e w' ⟨rfl, rfl⟩))
       go_ret
       exact ⟨by rw [HV.out]; rfl, D0⟩
     ·have HV : Hid (res = false) := by
       show _ = _
       rw [<- hl.out, HT.out, x1]
       simp
      clear HT hl
      go_wp2_with (go_at_call 165; refine (IA.out _).mono ?_; rintro e w' ⟨rfl, rfl⟩)
      go_ret
      exact ⟨by rw [HV.out]; rfl, D0⟩
   ·have HV : Hid (res = true) := by
     show _ = _
     rw [<- hl.out, backsFrom_end (by omega)]
     rfl
    go_wp2_with fail
    go_ret
    exact ⟨by rw [HV.out]; rfl, D0⟩
theorem backsFit_any (nm : ByteArray) (k ad : Int) (pl : Nat) (A : Option Addr) (cap : Nat) (bs : List Int) (vr vt : Value) (w : World) (hB : SlAt w.heap.size w 1 IsI (.slice A bs.length cap) bs) (hcap : bs.length <= cap) (hmax : cap <= maxLen) :
  Calls Tryz.prog 115 #[devA nm k ad pl (.slice A bs.length cap) vr vt] w fun e w' => e = .returned (.bool (backsF k ad bs)) ∧ Below w.heap.size w w' := by
 unfold backsF
 cases hne : (decide (0 < bs.length) == (k == 5))
 ·rw [Bool.false_and]
  have D0 := Below.alN (Below.refl w.heap.size w) (.cells #[.string nm, .int .i64 k, .int .i64 ad, .int .u8 (pl : Int), .slice A bs.length cap, vr, vt] 56)
  have e1 : decide (0 < bs.length) = decide ((0 : Int) < (bs.length : Int)) := by
   rw [decide_eq_decide]
   omega
  rw [e1] at hne
  clear e1 hB hcap hmax
  cases h5 : (k == 5) <;> cases h0 : decide ((0 : Int) < (bs.length : Int))
  ·rw [h5, h0] at hne; cases hne
  ·clear hne
   have n0 : 0 < bs.length := by simpa using h0
   go_enter Tryz.func115, Tryz.ntmps115
   go_wp2_with fail
   go_ret
   exact ⟨rfl, D0⟩
  ·clear hne
   have n0 : ¬ 0 < bs.length := by simpa using h0
   go_enter Tryz.func115, Tryz.ntmps115
   go_wp2_with fail
   go_ret
   exact ⟨rfl, D0⟩
  ·rw [h5, h0] at hne; cases hne
 ·rw [Bool.true_and]
  exact backsFit_loop nm k ad pl A cap bs vr vt _ w hB hcap hmax hne rfl
theorem same_any (r s : Rt) (w : World) : Calls Tryz.prog 169 #[rtw r.v r.b r.p, rtw s.v s.b s.p] w fun e w' => e = .returned (.bool (sameA r s)) ∧ Below w.heap.size w w' := by
 obtain ⟨v, b, p⟩ := r
 obtain ⟨v', b', p'⟩ := s
 unfold sameA
 simp only
 cases h : (v == v')
 ·go_enter Tryz.func169, Tryz.ntmps169
  go_wp2_with fail
  go_ret
  exact ⟨by simp, by go_grown⟩
 ·go_enter Tryz.func169, Tryz.ntmps169
  go_wp2_with fail
  go_ret
  exact ⟨by simp, by go_grown⟩
theorem pred_any (a r : Rt) (n0 : Nat) (w : World) (hT : Three w n0 (.int .i64 r.v) (.int .i64 r.b) (.int .i64 r.p)) :
  Calls Tryz.prog 168 #[rtw a.v a.b a.p, .pointer (some ⟨n0, 0, none⟩)] w fun e w' => e = .returned (.bool (sameA a r)) ∧ Below w.heap.size w w' := by
 have D0 := Below.al (Below.refl w.heap.size w) (.cells #[.int .i64 a.v, .int .i64 a.b, .int .i64 a.p] 210)
 have T1 := allocThree hT (.cells #[.int .i64 a.v, .int .i64 a.b, .int .i64 a.p] 210)
 obtain ⟨l0, g0, g1, g2⟩ := T1
 obtain ⟨_, q0, q1, q2⟩ := id hT
 have SM : Hid (∀ w, Calls Tryz.prog 169 #[rtw a.v a.b a.p, rtw r.v r.b r.p] w fun e w' => e = .returned (.bool (sameA a r)) ∧ Below w.heap.size w w') := fun w => same_any a r w
 have hn := hT.1
 clear hT
 generalize sameA a r = x at *
 generalize a.v = av at *
 generalize a.b = ab at *
 generalize a.p = ap at *
 generalize r.v = rv at *
 generalize r.b = rb at *
 generalize r.p = rp at *
 go_enter Tryz.func168, Tryz.ntmps168
 go_wp2_with fail
 refine (SM.out _).mono ?_
 rintro e w1 ⟨rfl, hb1⟩
 have D1 := chn hb1 D0
 clear D0 hb1 g0 g1 g2 q0 q1 q2 SM
 go_wp2_with fail
 go_ret
 exact ⟨rfl, D1⟩
theorem any_take {xs : List Rt} {k : Nat} {a r : Rt} (h : xs[k]? = some a) : (xs.take (k + 1)).any (fun a => sameA a r) = ((xs.take k).any (fun a => sameA a r) || sameA a r) := by
 obtain ⟨hk, e⟩ := List.getElem?_eq_some_iff.1 h
 rw [List.take_succ_eq_append_getElem hk, e]
 simp
theorem any_here {xs : List Rt} {k : Nat} {a r : Rt} (h : xs[k]? = some a) (hs : sameA a r = true) : xs.any (fun a => sameA a r) = true :=
 List.any_eq_true.2 ⟨a, List.mem_of_getElem? h, hs⟩
theorem indexFunc_row (b o cap n0 : Nat) (xs : List Rt) (r : Rt) (w : World) (hb : b < w.heap.size) (hn : xs.length <= cap) (hcap : cap <= maxLen) (hr : Hid (TAt w b o xs)) (hT : Hid (Three w n0 (.int .i64 r.v) (.int .i64 r.b) (.int .i64 r.p))) :
  Calls Tryz.prog 194 #[.slice (some ⟨b, o, none⟩) xs.length cap, .func (.func 168) #[] #[.pointer (some ⟨n0, 0, none⟩)]] w fun e w' => ∃ j : Int, e = .returned (.int .i64 j) ∧ Hid (decide (0 <= j) = xs.any (fun a => sameA a r)) ∧ Below w.heap.size w w' := by
 unfold maxLen at hcap
 go_enter Tryz.func194, Tryz.ntmps194
 go_wp2_with fail
 go_loopw [8] (fun i wr => ∃ k : Nat, i = .int .i64 (k : Int) ∧ k <= xs.length ∧ Below w.heap.size w wr ∧ Hid ((xs.take k).any (fun a => sameA a r) = false)) (fun i _ => xs.length - (intOf i).toNat)
 case atStart => exact ⟨0, rfl, by omega, Below.refl _ _, rfl⟩
 case round =>
  obtain ⟨k, rfl, hk, D1, hno⟩ := hrel
  by_cases hlt : k < xs.length
  ·obtain ⟨a, hxk⟩ : ∃ a, xs[k]? = some a := ⟨_, List.getElem?_eq_getElem hlt⟩
   obtain ⟨c0, c1, c2⟩ := (hr.out.below D1 hb).at hxk
   have PR : Hid (Calls Tryz.prog 168 #[rtw a.v a.b a.p, .pointer (some ⟨n0, 0, none⟩)] wr fun e w' => e = .returned (.bool (sameA a r)) ∧ Below wr.heap.size wr w') := pred_any a r n0 wr (keepThree D1 hT.out.1 hT.out)
   have HX : Hid (xs[k]? = some a) := hxk
   clear hr hxk
   cases hv : sameA a r
   ·rw [hv] at PR
    have HV : Hid ((xs.take (k + 1)).any (fun a => sameA a r) = false) := by show _ = _; rw [any_take HX.out, hno.out, hv]; rfl
    clear hv hno HX hT
    generalize a.v = av at *
    generalize a.b = ab at *
    generalize a.p = ap at *
    go_wp2_with fail
    refine PR.out.mono ?_
    rintro e w2 ⟨rfl, hb2⟩
    have D2 := chn hb2 D1
    clear hb2 D1 c0 c1 c2 PR
    go_wp2_with fail
    go_roundw
    case rel => exact ⟨k + 1, by go_num, by omega, D2, HV⟩
    case measure => simp [intOf]; omega
   ·rw [hv] at PR
    have fin : Hid (xs.any (fun a => sameA a r) = true) := any_here HX.out hv
    clear hv hno HX hT
    generalize a.v = av at *
    generalize a.b = ab at *
    generalize a.p = ap at *
    go_wp2_with fail
    refine PR.out.mono ?_
    rintro e w2 ⟨rfl, hb2⟩
    have D2 := chn hb2 D1
    clear hb2 D1 c0 c1 c2 PR
    go_wp2_with fail
    go_ret
    exact ⟨_, rfl, (by show _ = _; rw [fin.out]; simp), D2⟩
  ·obtain rfl : k = xs.length := by omega
   have fin : Hid (xs.any (fun a => sameA a r) = false) := by
    have := hno.out
    rw [List.take_length] at this
    exact this
   go_wp2_with fail
   go_ret
   exact ⟨_, rfl, (by show _ = _; rw [fin.out]; simp), D1⟩
theorem contains_any (b o cap n0 : Nat) (xs : List Rt) (r : Rt) (w : World) (hb : b < w.heap.size) (hn : xs.length <= cap) (hcap : cap <= maxLen) (hr : Hid (TAt w b o xs)) (hT : Hid (Three w n0 (.int .i64 r.v) (.int .i64 r.b) (.int .i64 r.p))) :
  Calls Tryz.prog 167 #[.slice (some ⟨b, o, none⟩) xs.length cap, .func (.func 168) #[] #[.pointer (some ⟨n0, 0, none⟩)]] w fun e w' => e = .returned (.bool (xs.any (fun a => sameA a r))) ∧ Below w.heap.size w w' := by
 have IX : Hid (Calls Tryz.prog 194 #[.slice (some ⟨b, o, none⟩) xs.length cap, .func (.func 168) #[] #[.pointer (some ⟨n0, 0, none⟩)]] w fun e w' => ∃ j : Int, e = .returned (.int .i64 j) ∧ Hid (decide (0 <= j) = xs.any (fun a => sameA a r)) ∧ Below w.heap.size w w') := indexFunc_row b o cap n0 xs r w hb hn hcap hr hT
 clear hr hT hn hcap hb
 generalize xs.any (fun a => sameA a r) = x at *
 generalize xs.length = n at *
 go_enter Tryz.func167, Tryz.ntmps167
 go_wp2_with fail
 refine IX.out.mono ?_
 rintro e w2 ⟨j, rfl, hj, hb2⟩
 clear IX
 go_wp2_with fail
 go_ret
 exact ⟨by rw [hj.out]; rfl, hb2⟩
theorem check_row (b o cap : Nat) (xs : List Rt) (w : World) (hb : b < w.heap.size) (hn : xs.length <= cap) (hcap : cap <= maxLen) (hr : Hid (TAt w b o xs)) (h8 : xs.length <= 8) :
  Calls Tryz.prog 118 #[.slice (some ⟨b, o, none⟩) xs.length cap] w fun e w' => e = .returned (.int .i64 (checkFrom xs 0)) ∧ Below w.heap.size w w' := by
 have hcap' := hcap
 unfold maxLen at hcap
 have t8 : decide ((8 : Int) < (xs.length : Int)) = false := by simp; omega
 go_enter Tryz.func118, Tryz.ntmps118
 go_wp2_with fail
 go_loopw [10] (fun i wr => ∃ k : Nat, i = .int .i64 (k : Int) ∧ k <= xs.length ∧ Below w.heap.size w wr ∧ Hid (checkFrom xs 0 = checkFrom xs k)) (fun i _ => xs.length - (intOf i).toNat)
 case atStart => exact ⟨0, rfl, by omega, Below.refl _ _, rfl⟩
 case round =>
  obtain ⟨k, rfl, hk, D1, hl⟩ := hrel
  by_cases hlt : k < xs.length
  ·obtain ⟨r, hxk⟩ : ∃ r, xs[k]? = some r := ⟨_, List.getElem?_eq_getElem hlt⟩
   obtain ⟨c0, c1, c2⟩ := (hr.out.below D1 hb).at hxk
   have hlen : (xs.take k).length = k := by rw [List.length_take]; omega
   have Hd : Hid (checkFrom xs k = if (if isR r then (if (xs.take k).any (fun a => sameA a r) then 5 else 0) else 1 : Int) = 0 then checkFrom xs (k + 1) else (if isR r then (if (xs.take k).any (fun a => sameA a r) then 5 else 0) else 1 : Int)) := checkFrom_at hxk
   have IS : Hid (∀ w, Calls Tryz.prog 166 #[rtw r.v r.b r.p] w fun e w' => e = .returned (.bool (isR r)) ∧ Below w.heap.size w w') := fun w => isRoute_any r w
   have CO : Hid (∀ w', Below w.heap.size w w' -> Three w' wr.heap.size (.int .i64 r.v) (.int .i64 r.b) (.int .i64 r.p) -> Calls Tryz.prog 167 #[.slice (some ⟨b, o, none⟩) k cap, .func (.func 168) #[] #[.pointer (some ⟨wr.heap.size, 0, none⟩)]] w' fun e w'' => e = .returned (.bool ((xs.take k).any (fun a => sameA a r))) ∧ Below w'.heap.size w' w'') := fun w' hw hT => by
    have := contains_any b o cap wr.heap.size (xs.take k) r w' (Nat.lt_of_lt_of_le hb hw.size) (by omega) hcap' ((hr.out.below hw hb).take k) hT
    rw [hlen] at this
    exact this
   have D2 := Below.al D1 (.cells #[.int .i64 r.v, .int .i64 r.b, .int .i64 r.p] 210)
   have T2 := three_new wr (.int .i64 r.v) (.int .i64 r.b) (.int .i64 r.p) 210
   have lw := D1.size
   clear hxk D1 hr hlen hcap'
   generalize isR r = x at *
   generalize (xs.take k).any (fun a => sameA a r) = y at *
   generalize r.v = rv0 at *
   generalize r.b = rb0 at *
   generalize r.p = rp0 at *
   go_wp2_with fail
   refine (IS.out _).mono ?_
   rintro e w3 ⟨rfl, hb3⟩
   have D3 := chn hb3 D2
   have T3 := keepThree hb3 (by simp) T2
   clear hb3 D2 T2 c0 c1 c2 IS
   cases x
   ·go_wp2_with fail
    go_ret
    exact ⟨by rw [hl.out, Hd.out]; simp, D3⟩
   ·go_wp2_with fail
    refine (CO.out _ D3 T3).mono ?_
    rintro e w4 ⟨rfl, hb4⟩
    have D4 := chn hb4 D3
    clear hb4 D3 T3 CO
    cases y
    ·go_wp2_with fail
     go_roundw
     case rel => exact ⟨k + 1, by go_num, by omega, D4, by show _ = _; rw [hl.out, Hd.out]; simp⟩
     case measure => simp [intOf]; omega
    ·go_wp2_with fail
     go_ret
     exact ⟨by rw [hl.out, Hd.out]; simp, D4⟩
  ·have fin : Hid (checkFrom xs 0 = 0) := by show _ = _; rw [hl.out, checkFrom_end (by omega)]
   go_wp2_with fail
   go_ret
   exact ⟨by rw [fin.out]; rfl, D1⟩
theorem check_none (A : Option Addr) (cap : Nat) (w : World) :
  Calls Tryz.prog 118 #[.slice A 0 cap] w fun e w' => e = .returned (.int .i64 0) ∧ Below w.heap.size w w' := by
 go_enter Tryz.func118, Tryz.ntmps118
 go_wp2_with fail
 go_loopw [10] (fun i wr => i = .int .i64 0 ∧ Below w.heap.size w wr) (fun i _ => 0)
 case atStart => exact ⟨rfl, Below.refl _ _⟩
 case round =>
  obtain ⟨rfl, D1⟩ := hrel
  go_wp2_with fail
  go_ret
  exact ⟨rfl, D1⟩
theorem check_large (A : Option Addr) (n cap : Nat) (w : World) (h : 8 < n) :
  Calls Tryz.prog 118 #[.slice A n cap] w fun e w' => e = .returned (.int .i64 2) ∧ Below w.heap.size w w' := by
 have t8 : decide ((8 : Int) < (n : Int)) = true := by simp; omega
 go_enter Tryz.func118, Tryz.ntmps118
 go_wp2_with fail
 go_ret
 exact ⟨rfl, Below.refl _ _⟩
theorem check_any {v : Value} {xs : List Rt} (w : World) (h : Routes w.heap.size w v xs) :
  Calls Tryz.prog 118 #[v] w fun e w' => e = .returned (.int .i64 (checkV xs)) ∧ Below w.heap.size w w' := by
 obtain ⟨A, cap, rfl, _, h1, h2, h3⟩ := h
 unfold checkV
 by_cases h8 : 8 < xs.length
 ·rw [if_pos h8]
  exact check_large A xs.length cap w h8
 ·rw [if_neg h8]
  by_cases hx : xs = []
  ·subst hx
   rw [checkFrom_end (by simp)]
   exact check_none A cap w
  ·obtain ⟨b, o, rfl, hb, hr⟩ := h3 hx
   exact check_row b o cap xs w hb h1 h2 hr (by omega)
def progDev (k ad : Int) (pl : Nat) (bs : List Int) (nr nt : Nat) (c : Int) : Int :=
 if (portsV k == 0) || !addrF k ad || !poolF k pl then 1 else if 3 < bs.length then 2 else if !backsF k ad bs || !listsF k nr nt then 1 else if 8 < nr then 2 else c
theorem progDev_eq (k ad : Int) (pl : Nat) (bs : List Int) (nr nt : Nat) (c : Int) : progDev k ad pl bs nr nt c = devV k ad pl bs nr nt c := by
 have ea : addrB ad = (decide (0 <= ad) && decide (ad <= 15)) := by
  unfold addrB
  congr 1
  rw [decide_eq_decide]
  omega
 have eb : decide (backsFrom bs ad 0 = 0) = !decide (backsFrom bs ad 0 = 1) := by
  rcases backsFrom_vals bs ad bs.length 0 (by omega) with h | h <;> rw [h] <;> rfl
 have ep : (!((pl : Int) == 0)) = decide (0 < pl) := by
  rw [Bool.eq_iff_iff]
  simp
  omega
 have el : decide (0 < bs.length) = !decide (bs.length = 0) := by
  rw [Bool.eq_iff_iff]
  simp only [decide_eq_true_eq, Bool.not_eq_true', decide_eq_false_iff_not]
  omega
 have er : decide (nr = 0) = !decide (0 < nr) := by
  rw [Bool.eq_iff_iff]
  simp
 have et : decide (nt = 0) = !decide (0 < nt) := by
  rw [Bool.eq_iff_iff]
  simp
 unfold progDev devV addrF poolF backsF listsF
 rw [ea, eb, ep, el, er, et]
 have ek : (portsV k == 0) = !(decide (1 <= k) && decide (k <= 5)) := by
  unfold portsV
  rw [Bool.eq_iff_iff]
  simp only [beq_iff_eq, Bool.not_eq_true', Bool.and_eq_false_iff, decide_eq_false_iff_not]
  split
  ·omega
  ·split
   ·omega
   ·split <;> omega
 rw [ek]
 cases hk : (decide (1 <= k) && decide (k <= 5))
 ·simp
 ·have hk' : 1 <= k ∧ k <= 5 := by simpa using hk
  generalize (decide (0 <= ad) && decide (ad <= 15)) = x1
  generalize decide (0 < pl) = x2
  generalize decide (bs.length = 0) = x3
  generalize decide (0 < nr) = x5
  generalize decide (0 < nt) = x6
  generalize (ad == 0) = x7
  by_cases h4 : backsFrom bs ad 0 = 1
  all_goals
   simp only [h4, decide_true, decide_false, if_true, if_false]
   have hkk : k = 1 ∨ k = 2 ∨ k = 3 ∨ k = 4 ∨ k = 5 := by omega
   rcases hkk with rfl | rfl | rfl | rfl | rfl <;> simp only [hasAddr] <;> cases x1 <;> cases x2 <;> cases x3 <;> cases x5 <;> cases x6 <;> cases x7 <;> simp
def devTold (ahead : List Dv) (d : Dv) : Int := if nameOk d.name then (if ahead.any (fun x => x.name.toList == d.name.toList) then 5 else devC d) else 3
theorem checkDevice_any (d : Dv) (vb vr vt : Value) (A : Option Addr) (n cap : Nat) (ahead : List Dv) (w : World) (hA : Devs w.heap.size w (.slice A n cap) ahead) (hb : SlAt w.heap.size w 1 IsI vb d.backs) (hr : SlAt w.heap.size w 5 IsRule vr d.rules) (ht : SlAt w.heap.size w 3 IsRoute vt d.routes) :
  Calls Tryz.prog 65 #[devA d.name d.kind d.addr d.pool vb vr vt, .slice A n cap] w fun e w' => e = .returned (.int .i64 (devTold ahead d)) ∧ Below w.heap.size w w' := by
 have FC : Hid (∀ W, Below w.heap.size w W -> Calls Tryz.prog 118 #[vt] W fun e w' => e = .returned (.int .i64 (checkV (d.routes.map rtOf))) ∧ Below W.heap.size W w') := fun W h => check_any W (routes_of (SlAt.mono (SlAt.below ht h (fun _ _ _ h => h)) h.size (fun _ _ _ h => h)))
 have FI : Hid (∀ W, Below w.heap.size w W -> Calls Tryz.prog 112 #[.slice A n cap, .string d.name] W fun e w' => e = .returned (.tuple #[.int .i64 (if 0 <= findFrom ahead d.name.toList 0 then findFrom ahead d.name.toList 0 else 0), .bool (ahead.any (fun x => x.name.toList == d.name.toList))]) ∧ Below W.heap.size W w') := fun W h => by
  have := find_any A n cap ahead d.name W ((hA.below h).mono h.size)
  rw [findFrom_some] at this
  exact this
 have hb0 := hb
 obtain ⟨Ab, cb, rfl, _, b1, b2, _⟩ := hb
 obtain ⟨Ar, cr, rfl, _, r1, r2, _⟩ := hr
 obtain ⟨At, ct, rfl, _, t1, t2, _⟩ := ht
 have BF : Hid (∀ W, Below w.heap.size w W -> Calls Tryz.prog 115 #[devA d.name d.kind d.addr d.pool (.slice Ab d.backs.length cb) (.slice Ar d.rules.length cr) (.slice At d.routes.length ct)] W fun e w' => e = .returned (.bool (backsF d.kind d.addr d.backs)) ∧ Below W.heap.size W w') := fun W h => backsFit_any _ _ _ _ _ _ _ _ _ W (SlAt.mono (SlAt.below hb0 h (fun _ _ _ h => h)) h.size (fun _ _ _ h => h)) b1 b2
 have NM : Hid (∀ w, Calls Tryz.prog 111 #[.string d.name] w fun e w' => e = .returned (.bool (nameOk d.name)) ∧ w' = w) := fun w => isName_any d.name w
 have PO : Hid (∀ w, Calls Tryz.prog 54 #[.int .i64 d.kind] w fun e w' => e = .returned (.int .i64 (portsV d.kind)) ∧ w' = w) := fun w => nports_any d.kind w
 have AF : Hid (∀ W, Calls Tryz.prog 113 #[devA d.name d.kind d.addr d.pool (.slice Ab d.backs.length cb) (.slice Ar d.rules.length cr) (.slice At d.routes.length ct)] W fun e w' => e = .returned (.bool (addrF d.kind d.addr)) ∧ Below W.heap.size W w') := fun W => addrFits_any _ _ _ _ _ _ _ W
 have PF : Hid (∀ W, Calls Tryz.prog 114 #[devA d.name d.kind d.addr d.pool (.slice Ab d.backs.length cb) (.slice Ar d.rules.length cr) (.slice At d.routes.length ct)] W fun e w' => e = .returned (.bool (poolF d.kind d.pool)) ∧ Below W.heap.size W w') := fun W => poolFits_any _ _ _ _ _ _ _ W
 have LF : Hid (∀ W, Calls Tryz.prog 116 #[devA d.name d.kind d.addr d.pool (.slice Ab d.backs.length cb) (.slice Ar d.rules.length cr) (.slice At d.routes.length ct)] W fun e w' => e = .returned (.bool (listsF d.kind d.rules.length d.routes.length)) ∧ Below W.heap.size W w') := fun W => listsFit_any _ _ _ _ _ _ _ _ _ _ _ W
 have AC : Hid (∀ w, Calls Tryz.prog 117 #[.slice Ar d.rules.length cr] w fun e w' => e = .returned (.int .i64 (if 8 < d.rules.length then 2 else 0)) ∧ w' = w) := fun w => aclCheck_any _ _ _ w
 generalize hres : devTold ahead d = res
 have HR : Hid (res = if nameOk d.name then (if ahead.any (fun x => x.name.toList == d.name.toList) then 5 else if (portsV d.kind == 0) || !addrF d.kind d.addr || !poolF d.kind d.pool then 1 else if 3 < d.backs.length then 2 else if !backsF d.kind d.addr d.backs || !listsF d.kind d.rules.length d.routes.length then 1 else if 8 < d.rules.length then 2 else checkV (d.routes.map rtOf)) else 3) := by
  show _ = _
  rw [<- hres]
  unfold devTold devC
  rw [<- progDev_eq]
  rfl
 clear hres hA hb0
 have D0 := Below.alN (Below.refl w.heap.size w) (.cells #[.string d.name, .int .i64 d.kind, .int .i64 d.addr, .int .u8 (d.pool : Int), .slice Ab d.backs.length cb, .slice Ar d.rules.length cr, .slice At d.routes.length ct] 56)
 have V0 := seven_new w (.string d.name) (.int .i64 d.kind) (.int .i64 d.addr) (.int .u8 (d.pool : Int)) (.slice Ab d.backs.length cb) (.slice Ar d.rules.length cr) (.slice At d.routes.length ct) 56
 generalize nameOk d.name = x0 at *
 generalize ahead.any (fun x => x.name.toList == d.name.toList) = x1 at *
 generalize (if 0 <= findFrom ahead d.name.toList 0 then findFrom ahead d.name.toList 0 else 0) = fi at *
 generalize portsV d.kind = pk at *
 generalize addrF d.kind d.addr = x3 at *
 generalize poolF d.kind d.pool = x4 at *
 generalize backsF d.kind d.addr d.backs = x5 at *
 generalize listsF d.kind d.rules.length d.routes.length = x6 at *
 generalize checkV (d.routes.map rtOf) = cv at *
 generalize d.backs.length = nb at *
 generalize d.rules.length = nr at *
 generalize d.routes.length = nt at *
 generalize d.name = nm at *
 generalize d.kind = kd at *
 generalize d.addr = ad at *
 generalize d.pool = pl at *
 go_enter Tryz.func65, Tryz.ntmps65
 go_wp2_with fail
 refine (NM.out _).mono ?_
 rintro e w' ⟨rfl, rfl⟩
 cases x0
 ·go_wp2_with fail
  go_ret
  exact ⟨by rw [HR.out]; rfl, D0⟩
 go_wp2_with fail
 refine (FI.out _ D0).mono ?_
 rintro e w1 ⟨rfl, hb1⟩
 have D1 := chnN hb1 D0
 have V1 := V0.below hb1 V0.1
 clear hb1 D0 V0 FI NM
 obtain ⟨l1, q0, q1, q2, q3, q4, q5, q6⟩ := id V1
 cases x1
 ·go_wp2_with fail
  refine (PO.out _).mono ?_
  rintro e w2 ⟨rfl, rfl⟩
  cases hpk : (pk == 0)
  ·go_wp2_with fail
   refine (AF.out _).mono ?_
   rintro e w3 ⟨rfl, hb3⟩
   have D3 := chnN hb3 D1
   have V3 := V1.below hb3 V1.1
   clear hb3 D1 V1 AF PO q0 q1 q2 q3 q4 q5 q6
   obtain ⟨l3, q0, q1, q2, q3, q4, q5, q6⟩ := id V3
   cases x3
   ·go_wp2_with fail
    go_ret
    exact ⟨by rw [HR.out, hpk]; rfl, D3⟩
   go_wp2_with fail
   refine (PF.out _).mono ?_
   rintro e w4 ⟨rfl, hb4⟩
   have D4 := chnN hb4 D3
   have V4 := V3.below hb4 V3.1
   clear hb4 D3 V3 PF q0 q1 q2 q3 q4 q5 q6
   obtain ⟨l4, q0, q1, q2, q3, q4, q5, q6⟩ := id V4
   cases x4
   ·go_wp2_with fail
    go_ret
    exact ⟨by rw [HR.out, hpk]; rfl, D4⟩
   by_cases n3 : 3 < nb
   ·have u3 : decide ((3 : Int) < (nb : Int)) = true := by simp; omega
    have HV : Hid (res = 2) := by show _ = _; rw [HR.out, hpk]; simp [n3]
    go_wp2_with fail
    go_ret
    exact ⟨by rw [HV.out]; rfl, D4⟩
   have u3 : decide ((3 : Int) < (nb : Int)) = false := by simp; omega
   have HR2 : Hid (res = if !x5 || !x6 then 1 else if 8 < nr then 2 else cv) := by show _ = _; rw [HR.out, hpk]; simp [n3]
   clear HR hpk
   go_wp2_with fail
   refine (BF.out _ D4).mono ?_
   rintro e w5 ⟨rfl, hb5⟩
   have D5 := chnN hb5 D4
   have V5 := V4.below hb5 V4.1
   clear hb5 D4 V4 BF q0 q1 q2 q3 q4 q5 q6
   obtain ⟨l5, q0, q1, q2, q3, q4, q5, q6⟩ := id V5
   cases x5
   ·go_wp2_with fail
    go_ret
    exact ⟨by rw [HR2.out]; rfl, D5⟩
   go_wp2_with fail
   refine (LF.out _).mono ?_
   rintro e w6 ⟨rfl, hb6⟩
   have D6 := chnN hb6 D5
   have V6 := V5.below hb6 V5.1
   clear hb6 D5 V5 LF q0 q1 q2 q3 q4 q5 q6
   obtain ⟨l6, q0, q1, q2, q3, q4, q5, q6⟩ := id V6
   cases x6
   ·go_wp2_with fail
    go_ret
    exact ⟨by rw [HR2.out]; rfl, D6⟩
   by_cases h8 : 8 < nr
   ·have HV : Hid (res = 2) := by show _ = _; rw [HR2.out]; simp [h8]
    rw [if_pos h8] at AC
    go_wp2_with fail
    refine (AC.out _).mono ?_
    rintro e w7 ⟨rfl, rfl⟩
    go_wp2_with fail
    go_ret
    exact ⟨by rw [HV.out]; rfl, D6⟩
   ·have HV : Hid (res = cv) := by show _ = _; rw [HR2.out]; simp [h8]
    rw [if_neg h8] at AC
    go_wp2_with fail
    refine (AC.out _).mono ?_
    rintro e w7 ⟨rfl, rfl⟩
    go_wp2_with fail
    refine (FC.out _ D6).mono ?_
    rintro e w8 ⟨rfl, hb8⟩
    have D8 := chnN hb8 D6
    go_wp2_with fail
    go_ret
    exact ⟨by rw [HV.out]; rfl, D8⟩
  ·go_wp2_with fail
   go_ret
   exact ⟨by rw [HR.out, hpk]; rfl, D1⟩
 ·go_wp2_with fail
  go_ret
  exact ⟨by rw [HR.out]; rfl, D1⟩
theorem Seven.drew {w : World} {n : Nat} {a b c d e f g : Value} (h : Seven w n a b c d e f g) : Seven w.drew n a b c d e f g := h
theorem net_row (A B : Option Addr) (cap cap' : Nat) (ds : List Dv) (ls : List Lk) (res : Int) (w : World) (hD : Hid (Devs w.heap.size w (.slice A ds.length cap) ds)) (hL : Hid (Links w.heap.size w (.slice B ls.length cap') ls)) (h10 : ds.length <= 10) (h15 : ls.length <= 15) (HR : Hid (res = if devsFrom ds 0 = 0 then linksFrom ds ls 0 else devsFrom ds 0)) :
  Calls Tryz.prog 29 #[.agg #[.slice A ds.length cap, .slice B ls.length cap']] w fun e w' => e = .returned (.int .i64 res) ∧ Below w.heap.size w w' := by
 obtain ⟨_, hc, hm⟩ := hD.out.len
 obtain ⟨_, hc', hm'⟩ := hL.out.len
 unfold maxLen at hm hm'
 have t10 : decide ((10 : Int) < (ds.length : Int)) = false := by simp; omega
 have t15 : decide ((15 : Int) < (ls.length : Int)) = false := by simp; omega
 have D0 := Below.alN (Below.refl w.heap.size w) (.cells #[.slice A ds.length cap, .slice B ls.length cap'] 25)
 have B0 := box2_new w (.slice A ds.length cap) (.slice B ls.length cap') 25
 go_enter Tryz.func29, Tryz.ntmps29
 go_wp2_with fail
 go_loopw [21] (fun i wr => ∃ k : Nat, i = .int .i64 (k : Int) ∧ k <= ds.length ∧ Below w.heap.size w wr ∧ Box2 wr w.heap.size (.slice A ds.length cap) (.slice B ls.length cap') ∧ Hid (devsFrom ds 0 = devsFrom ds k)) (fun i _ => ds.length - (intOf i).toNat)
 case atStart => exact ⟨0, rfl, by omega, D0, B0, rfl⟩
 case round =>
  clear D0 B0
  obtain ⟨k, rfl, hk, D1, B1, hl⟩ := hrel
  by_cases hlt : k < ds.length
  ·obtain ⟨d, hxk⟩ : ∃ d, ds[k]? = some d := ⟨_, List.getElem?_eq_getElem hlt⟩
   obtain ⟨b, o, vb, vr, vt, rfl, hb, z1, z2, z3, c0, c1, c2, c3, c4, c5, c6⟩ := (hD.out.below D1).at hxk
   obtain ⟨Ab, cb, rfl, _, _, _, _⟩ := z1
   obtain ⟨Ar, cr, rfl, _, _, _, _⟩ := z2
   obtain ⟨At, ct, rfl, _, _, _, _⟩ := z3
   have HF : Hid (devsFrom ds k = if devTold (ds.take k) d = 0 then devsFrom ds (k + 1) else devTold (ds.take k) d) := devsFrom_at hxk
   have CD : Hid (∀ W, Below w.heap.size w W -> Calls Tryz.prog 65 #[devA d.name d.kind d.addr d.pool (.slice Ab d.backs.length cb) (.slice Ar d.rules.length cr) (.slice At d.routes.length ct), .slice (some ⟨b, o, none⟩) k cap] W fun e w' => e = .returned (.int .i64 (devTold (ds.take k) d)) ∧ Below W.heap.size W w') := fun W h => by
    have hd := hD.out.below h
    obtain ⟨b', o', vb', vr', vt', e1, _, s1, s2, s3, q0, q1, q2, q3, q4, q5, q6⟩ := hd.at hxk
    cases e1
    have g4 := (D1.cell (p := ⟨b, o + k * 7 + 4, none⟩) hb).symm.trans c4
    have g5 := (D1.cell (p := ⟨b, o + k * 7 + 5, none⟩) hb).symm.trans c5
    have g6 := (D1.cell (p := ⟨b, o + k * 7 + 6, none⟩) hb).symm.trans c6
    have f4 := (h.cell (p := ⟨b, o + k * 7 + 4, none⟩) hb).symm.trans q4
    have f5 := (h.cell (p := ⟨b, o + k * 7 + 5, none⟩) hb).symm.trans q5
    have f6 := (h.cell (p := ⟨b, o + k * 7 + 6, none⟩) hb).symm.trans q6
    obtain rfl := Option.some.inj (g4.symm.trans f4)
    obtain rfl := Option.some.inj (g5.symm.trans f5)
    obtain rfl := Option.some.inj (g6.symm.trans f6)
    exact checkDevice_any d _ _ _ _ k cap (ds.take k) W (Devs.mono (SlAt.take hd k (by omega)) h.size) (SlAt.mono s1 h.size (fun _ _ _ h => h)) (SlAt.mono s2 h.size (fun _ _ _ h => h)) (SlAt.mono s3 h.size (fun _ _ _ h => h))
   have k1 : (0 : Int) <= (k : Int) := by omega
   have k2 : (k : Int) < (ds.length : Int) := by omega
   have k3 : (k : Int) <= (cap : Int) := by omega
   have lw := D1.size
   clear hxk
   generalize devTold (ds.take k) d = dv at *
   generalize d.backs.length = nb at *
   generalize d.rules.length = nr at *
   generalize d.routes.length = nt at *
   generalize d.name = nm at *
   generalize d.kind = kd at *
   generalize d.addr = ad at *
   generalize d.pool = pl at *
   have D2 := Below.alN D1 (.cells #[.string nm, .int .i64 kd, .int .i64 ad, .int .u8 (pl : Int), .slice Ab nb cb, .slice Ar nr cr, .slice At nt ct] 56)
   have B2 := B1.alloc (.cells #[.string nm, .int .i64 kd, .int .i64 ad, .int .u8 (pl : Int), .slice Ab nb cb, .slice Ar nr cr, .slice At nt ct] 56)
   have V2 := seven_new wr (.string nm) (.int .i64 kd) (.int .i64 ad) (.int .u8 (pl : Int)) (.slice Ab nb cb) (.slice Ar nr cr) (.slice At nt ct) 56
   have D3 := D2.drew
   obtain ⟨_, f0, f1, _⟩ := id B2
   obtain ⟨_, v0, v1, v2, v3, v4, v5, v6⟩ := id V2
   clear hD hL
   go_wp2_with fail
   go_region_held3 (fun w' => w'.cell? ⟨w.heap.size, 0, none⟩ = some (.slice (some ⟨b, o, none⟩) ds.length cap) ∧ w'.cell? ⟨wr.heap.size, 0, none⟩ = some (.string nm) ∧ w'.cell? ⟨wr.heap.size, 1, none⟩ = some (.int .i64 kd) ∧ w'.cell? ⟨wr.heap.size, 2, none⟩ = some (.int .i64 ad) ∧ w'.cell? ⟨wr.heap.size, 3, none⟩ = some (.int .u8 (pl : Int)) ∧ w'.cell? ⟨wr.heap.size, 4, none⟩ = some (.slice Ab nb cb) ∧ w'.cell? ⟨wr.heap.size, 5, none⟩ = some (.slice Ar nr cr) ∧ w'.cell? ⟨wr.heap.size, 6, none⟩ = some (.slice At nt ct)) (go_keep) ((go_at_call 65; refine (CD.out _ D3).mono ?_; rintro e w2 ⟨rfl, hb2⟩; have D4 := chnN hb2 D3; have B4 := B2.drew.below hb2 B2.1; have V4 := V2.drew.below hb2 V2.1; obtain ⟨_, p0, p1, _⟩ := id B4; obtain ⟨_, r0, r1, r2, r3, r4, r5, r6⟩ := id V4))
   clear c0 c1 c2 c3 c4 c5 c6 f0 f1 v0 v1 v2 v3 v4 v5 v6 D1 D2 D3 B1 B2 V2 hb2 CD
   cases h0 : (dv == 0)
   ·have HV : Hid (res = dv) := by
     have hne : ¬ dv = 0 := by simpa using h0
     show _ = _
     rw [HR.out, hl.out, HF.out, if_neg hne, if_neg hne]
    go_wp2_with fail
    go_ret
    exact ⟨by rw [HV.out]; rfl, D4⟩
   ·have HV : Hid (devsFrom ds 0 = devsFrom ds (k + 1)) := by
     have he : dv = 0 := by simpa using h0
     show _ = _
     rw [hl.out, HF.out, if_pos he]
    go_wp2_with fail
    go_roundw
    case rel => exact ⟨k + 1, by go_num, by omega, D4, B4, HV⟩
    case measure => simp [intOf]; omega
  ·have HZ : Hid (res = linksFrom ds ls 0) := by
    show _ = _
    rw [HR.out, hl.out, devsFrom_end (by omega), if_pos rfl]
   clear hl HR
   obtain ⟨_, g0, g1, _⟩ := id B1
   go_wp2_with fail
   go_loopw [39] (fun i wr => ∃ k : Nat, i = .int .i64 (k : Int) ∧ k <= ls.length ∧ Below w.heap.size w wr ∧ Box2 wr w.heap.size (.slice A ds.length cap) (.slice B ls.length cap') ∧ Hid (res = linksFrom ds ls k)) (fun i _ => ls.length - (intOf i).toNat)
   case atStart => exact ⟨0, rfl, by omega, D1, B1, HZ⟩
   case round =>
    clear D1 B1 HZ g0 g1
    obtain ⟨j, rfl, hj, D1, B1, hl⟩ := hrel
    by_cases hjl : j < ls.length
    ·obtain ⟨l, hxk⟩ : ∃ l, ls[j]? = some l := ⟨_, List.getElem?_eq_getElem hjl⟩
     have HF : Hid (linksFrom ds ls j = if linkTold ds (ls.take j) l = 0 then linksFrom ds ls (j + 1) else linkTold ds (ls.take j) l) := linksFrom_at hxk
     have HX : Hid (ls[j]? = some l) := hxk
     have CD : Hid (∀ W, Below w.heap.size w W -> Calls Tryz.prog 66 #[.agg #[.slice A ds.length cap, .slice B ls.length cap'], .int .i64 (j : Int)] W fun e w' => e = .returned (.int .i64 (linkTold ds (ls.take j) l)) ∧ Below W.heap.size W w') := fun W h => checkLink_any A B cap cap' ds ls j l W HX ((hD.out.below h).mono h.size) ((hL.out.below h).mono h.size)
     have lw := D1.size
     obtain ⟨_, g0, g1, _⟩ := id B1
     clear hxk HX hD hL
     generalize linkTold ds (ls.take j) l = dv at *
     go_wp2_with fail
     refine (CD.out _ D1).mono ?_
     rintro e w2 ⟨rfl, hb2⟩
     have D4 := chnN hb2 D1
     have B4 := B1.below hb2 B1.1
     clear D1 B1 hb2 CD g0 g1
     cases h0 : (dv == 0)
     ·have HV : Hid (res = dv) := by
       have hne : ¬ dv = 0 := by simpa using h0
       show _ = _
       rw [hl.out, HF.out, if_neg hne]
      go_wp2_with fail
      go_ret
      exact ⟨by rw [HV.out]; rfl, D4⟩
     ·have HV : Hid (res = linksFrom ds ls (j + 1)) := by
       have he : dv = 0 := by simpa using h0
       show _ = _
       rw [hl.out, HF.out, if_pos he]
      go_wp2_with fail
      go_roundw
      case rel => exact ⟨j + 1, by go_num, by omega, D4, B4, HV⟩
      case measure => simp [intOf]; omega
    ·have HV : Hid (res = 0) := by
      show _ = _
      rw [hl.out, linksFrom_end (by omega)]
     go_wp2_with fail
     go_ret
     exact ⟨by rw [HV.out]; rfl, D1⟩
theorem net_any (vd vl : Value) (ds : List Dv) (ls : List Lk) (w : World) (hD : Devs w.heap.size w vd ds) (hL : Links w.heap.size w vl ls) :
  Calls Tryz.prog 29 #[.agg #[vd, vl]] w fun e w' => e = .returned (.int .i64 (netV ds ls)) ∧ Below w.heap.size w w' := by
 have hD0 := hD
 have hL0 := hL
 obtain ⟨A, cap, rfl, _, _, _, _⟩ := hD
 obtain ⟨B, cap', rfl, _, _, _, _⟩ := hL
 unfold netV
 by_cases h : 10 < ds.length ∨ 15 < ls.length
 ·rw [if_pos h]
  have D0 := Below.alN (Below.refl w.heap.size w) (.cells #[.slice A ds.length cap, .slice B ls.length cap'] 25)
  clear hD0 hL0
  by_cases h10 : 10 < ds.length
  ·have t10 : decide ((10 : Int) < (ds.length : Int)) = true := by simp; omega
   clear h
   go_enter Tryz.func29, Tryz.ntmps29
   go_wp2_with fail
   go_ret
   exact ⟨rfl, D0⟩
  ·have t10 : decide ((10 : Int) < (ds.length : Int)) = false := by simp; omega
   have t15 : decide ((15 : Int) < (ls.length : Int)) = true := by simp; omega
   clear h
   go_enter Tryz.func29, Tryz.ntmps29
   go_wp2_with fail
   go_ret
   exact ⟨rfl, D0⟩
 ·rw [if_neg h]
  exact net_row A B cap cap' ds ls _ w hD0 hL0 (by omega) (by omega) rfl
end Go.Proofs.YtppbfikimalojaaGreat
namespace Go.Proofs.YtppbfikimalojaaGreat
open Go.RowKit Go.Maps
theorem devsFrom_all {ds : List Dv} : ∀ (m k : Nat), ds.length - k <= m -> devsFrom ds k = 0 -> ∀ j d, k <= j -> ds[j]? = some d -> devWrong ds j d = 0
 | 0, k, h, _, j, d, hj, hd => by
   have := (List.getElem?_eq_some_iff.1 hd).1
   omega
 | m + 1, k, h, h0, j, d, hj, hd => by
   have hjl := (List.getElem?_eq_some_iff.1 hd).1
   have hk : k < ds.length := by omega
   rw [devsFrom_at (List.getElem?_eq_getElem hk)] at h0
   split at h0
   ·rename_i hw
    by_cases e : j = k
    ·subst e
     rw [List.getElem?_eq_getElem hk, Option.some.injEq] at hd
     rw [<- hd]
     exact hw
    ·exact devsFrom_all m (k + 1) (by omega) h0 j d (by omega) hd
   ·rename_i hw
    exact absurd h0 hw
theorem netV_devs {ds : List Dv} {ls : List Lk} (h : netV ds ls = 0) : ∀ d ∈ ds, devC d = 0 := by
 intro d hd
 obtain ⟨k, hk, e⟩ := List.mem_iff_getElem.1 hd
 unfold netV at h
 split at h
 ·simp at h
 ·split at h
  ·rename_i hz
   have := devsFrom_all ds.length 0 (by omega) hz k d (Nat.zero_le _) (by rw [List.getElem?_eq_getElem hk, e])
   unfold devWrong at this
   split at this
   ·split at this
    ·simp at this
    ·exact this
   ·simp at this
  ·rename_i hz
   exact absurd h hz
def noM : Mnd := ⟨fun _ => none, fun _ => none, fun _ => none⟩
structure KeptB (w w' : World) (row : Option Nat) : Prop where
 size : w.heap.size <= w'.heap.size
 block : ∀ k, k < w.heap.size -> some k ≠ row -> w'.heap[k]? = w.heap[k]?
theorem KeptB.of_below {w w' : World} (h : Below w.heap.size w w') : KeptB w w' none := ⟨h.size, fun k hk _ => h.block k hk⟩
section
variable {w w' : World} {B e size n : Nat} {v : Value} {xs : List Value} {row : Option Nat}
theorem own_block (h : w.ownsRow B e size v n xs) {g : Nat} (hg : v.ownBlock = some g) : g < w.heap.size ∧ B <= g ∧ ∃ cur, w.heap[g]? = some (.cells cur e (0, 0)) := by
 rcases h.2 with ⟨rfl, _⟩ | ⟨g', cap, cur, rfl, hb, hh, _⟩
 ·cases hg
 ·obtain rfl : g' = g := by simpa [Value.ownBlock] using hg
  exact ⟨(Array.getElem?_eq_some_iff.1 hh).1, hb, cur, hh⟩
theorem own_keptBut (h : w.ownsRow B e size v n xs) (hk : ∀ g, v.ownBlock = some g -> w'.heap[g]? = w.heap[g]?) : w'.ownsRow B e size v n xs := by
 refine ⟨h.1, ?_⟩
 rcases h.2 with k | ⟨g, cap, cur, h1, h2, h3, h4⟩
 ·exact Or.inl k
 ·exact Or.inr ⟨g, cap, cur, h1, h2, (hk g (by rw [h1]; rfl)).trans h3, h4⟩
theorem own_kept (h : w.ownsRow B e size v n xs) (hk : KeptB w w' row) (hr : ∀ g, v.ownBlock = some g -> row ≠ some g) : w'.ownsRow B e size v n xs :=
 own_keptBut h (fun g hg => hk.block g (own_block h hg).1 (fun e => hr g hg e.symm))
theorem own_below (h : w.ownsRow B e size v n xs) (hb : Below w.heap.size w w') : w'.ownsRow B e size v n xs := own_keptBut h (fun g hg => hb.block g (own_block h hg).1)
end
theorem app_el {t e : TypeId} {z : Value} {size bytes : Nat} (hu : Tryz.prog.underlying t = some (.slice e)) (hinfo : (Tryz.prog.info? e).map (fun i => (i.zero, i.size, i.bytes)) = some (some z, size, bytes)) (hz1 : z.cells.size = size) (hs0 : 0 < size) (hby : bytes <= 128)
  {base n : Nat} {w : World} {v : Value} {xs us : List Value} (ty : TypeId) (h : w.ownsRow base e size v n xs) (hus : us.length = size) (h1 : ∀ u ∈ us, u.oneCell' = true) (hn : n <= 5000) (hb : base <= w.heap.size) :
  ∃ v' w', (Builtin.append_ #[t, t] ty #[v, .slice (some ⟨w.heap.size, 0, none⟩) 1 1]).run Tryz.prog (w.alloc (.cells us.toArray e)) = .ok v' w' ∧ w'.ownsRow base e size v' (n + 1) (xs ++ us) ∧ Below base w w' ∧ KeptB w w' v.ownBlock ∧ (v'.ownBlock = v.ownBlock ∨ ∃ g, v'.ownBlock = some g ∧ w.heap.size <= g) := by
 obtain ⟨i0, hi, hz0, hz1', hz2⟩ := info_parts hinfo
 have hA : Below w.heap.size w (w.alloc (.cells us.toArray e)) := (Below.refl _ _).alloc (Nat.le_refl _) _
 have ho : (w.alloc (.cells us.toArray e)).ownsRow base e size v n xs := own_kept h (KeptB.of_below hA) (fun g _ => by simp)
 obtain ⟨v', w', hr, h4, h5, _, h7⟩ := run_append_own_at (P := Tryz.prog) (w.alloc (.cells us.toArray e)) base t ty e i0 z size bytes hu hi hz0 hz1' hz2 hz1 hs0 v n xs ho ⟨w.heap.size, 0, none⟩ 1 1 us (by rw [hus, Nat.one_mul]) (fun j x hj => by
  have hg : (w.alloc (.cells us.toArray e)).heap[w.heap.size]? = some (.cells us.toArray e) := Go.Deep.blk_alloc_new w _
  rw [Addr.add_lit, Nat.zero_add]
  simp only [World.cell?, hg]
  simp [hj]) h1 (by unfold maxLen; omega) (by
   have : (n + 1) * bytes <= 5001 * 128 := Nat.mul_le_mul (by omega) hby
   omega) (by simp; omega)
 have hsz : (w.alloc (.cells us.toArray e)).heap.size = w.heap.size + 1 := Go.Deep.nblk_alloc w _
 refine ⟨v', w', hr, h4, ?_, ⟨by have := h5.size; omega, fun k hk hne => ?_⟩, ?_⟩
 ·exact ((Below.refl base w).alloc hb (.cells us.toArray e)).grown h5 (by simp; omega) (fun k e => (ho.lt k e).1)
 ·rw [h5.block k (by omega) hne, Go.Deep.blk_alloc_lt w _ k hk]
 ·rcases h7 with h7 | h7
  ·exact Or.inl h7
  ·exact Or.inr ⟨_, h7, by omega⟩
theorem step_append_run {P : Program} {w : World} {ops : Array Oper} {o : Oper} {a : Act} {K : Act -> World -> Prop} {Q : Exit -> Act -> World -> Prop} {E : Prop} (hgd : o.guard = none) (s x : Operand) (t : TypeId)
  (ho : o.op = .call { callee := .builtin .append, args := #[s, x], argTypes := #[t, t] }) (v u v' : Value) (w' : World) (hs : a.eval s = v) (hx : a.eval x = u)
  (hr : (Builtin.append_ #[t, t] o.type #[v, u]).run P w = .ok v' w') (h : K (a.put o.dst v') w') :
  if Region.wanted o (yielded ops a.tmps) = true then Oper.wp P o a w K Q else E := by
 have hw : Region.wanted o (yielded ops a.tmps) = true := by simp [Region.wanted, hgd]
 rw [if_pos hw]
 unfold Oper.wp execOp
 simp only [ho, resolve, invoke, builtin, Sem.run_bind, Sem.run_pure, Result.andThen_ok, List.map_toArray, List.map_cons, List.map_nil, hs, hx, hr]
 exact h
def SG (S S' : Option Addr) (N : Nat) : Prop := ∀ a', S' = some a' -> (∃ a, S = some a ∧ a.block = a'.block) ∨ N <= a'.block
theorem SG.refl (S : Option Addr) (N : Nat) : SG S S N := fun a h => Or.inl ⟨a, h, rfl⟩
theorem own_sl {w : World} {B e size n : Nat} {v : Value} {xs : List Value} (h : w.ownsRow B e size v n xs) : ∃ A cap, v = .slice A n cap ∧ ∀ a, A = some a -> v.ownBlock = some a.block := by
 rcases h.2 with ⟨rfl, h0⟩ | ⟨g, cap, cur, rfl, _⟩
 ·refine ⟨none, 0, ?_, fun a e => by cases e⟩
  first
   | rfl
   | (rw [h0])
   | simp_all
 ·exact ⟨some ⟨g, 0, none⟩, cap, rfl, fun a e => by cases e; rfl⟩
theorem endOf_place {l : Lk} {ds : List Dv} {d p : Int} {t : Int × Int} (h : endOf l d p = some t) (h1 : isPl ds l.a l.p = true) (h2 : isPl ds l.b l.q = true) : isPl ds t.1 t.2 = true := by
 unfold endOf at h
 split at h
 ·cases h; exact h2
 ·split at h
  ·cases h; exact h1
  ·cases h
theorem peerF_place {ds : List Dv} : ∀ (ls : List Lk) (d p : Int) (t : Int × Int), (∀ l ∈ ls, isPl ds l.a l.p = true ∧ isPl ds l.b l.q = true) -> peerF ls d p = some t -> isPl ds t.1 t.2 = true
 | [], d, p, t, _, h => by cases h
 | l :: ls, d, p, t, hl, h => by
   have h' : (endOf l d p).or (peerF ls d p) = some t := h
   cases he : endOf l d p with
   | some t' =>
     rw [he] at h'
     cases h'
     exact endOf_place he (hl l (by simp)).1 (hl l (by simp)).2
   | none =>
     rw [he] at h'
     exact peerF_place ls d p t (fun m hm => hl m (by simp [hm])) h'
def KT (T : Nat) (W W' : World) : Prop := ∀ b, b < T -> (∀ es c, W.heap[b]? ≠ some (.map es c)) -> W'.heap[b]? = W.heap[b]?
theorem KT.of_below {T : Nat} {W W' : World} (hb : Below W.heap.size W W') (hT : T <= W.heap.size) : KT T W W' := fun b h _ => hb.block b (by omega)
theorem KT.cell {T : Nat} {W W' : World} (h : KT T W W') {b o : Nat} {v : Value} (hb : b < T) (hc : W.cell? ⟨b, o, none⟩ = some v) : W'.cell? ⟨b, o, none⟩ = some v := by
 have e := h b hb (fun es c e => by
  unfold World.cell? at hc
  rw [e] at hc
  cases hc)
 unfold World.cell? at hc ⊢
 rw [e]
 exact hc
theorem SlAt.kt {α : Type} {T k : Nat} {w w' : World} {R R' : List Value -> α -> Prop} {v : Value} {xs : List α} (h : SlAt T w k R v xs) (hb : KT T w w') (hR : ∀ cs x, x ∈ xs -> R cs x -> R' cs x) : SlAt T w' k R' v xs := by
 obtain ⟨A, cap, e, h0, h1, h2, h3⟩ := h
 refine ⟨A, cap, e, h0, h1, h2, fun hn => ?_⟩
 obtain ⟨b, o, ea, hl, hr⟩ := h3 hn
 refine ⟨b, o, ea, hl, fun k x hx => ?_⟩
 obtain ⟨cs, c1, c2, c3⟩ := hr k x hx
 exact ⟨cs, c1, hR cs x (List.mem_of_getElem? hx) c2, fun j u hj => hb.cell hl (c3 j u hj)⟩
theorem IsDv.kt {T : Nat} {w w' : World} {cs : List Value} {d : Dv} (h : IsDv T w cs d) (hb : KT T w w') : IsDv T w' cs d := by
 obtain ⟨vb, vr, vt, e, h1, h2, h3⟩ := h
 exact ⟨vb, vr, vt, e, h1.kt hb (fun _ _ _ h => h), h2.kt hb (fun _ _ _ h => h), h3.kt hb (fun _ _ _ h => h)⟩
theorem Devs.kt {T : Nat} {w w' : World} {v : Value} {ds : List Dv} (h : Devs T w v ds) (hb : KT T w w') : Devs T w' v ds := SlAt.kt h hb (fun _ _ _ h => h.kt hb)
theorem Links.kt {T : Nat} {w w' : World} {v : Value} {ls : List Lk} (h : Links T w v ls) (hb : KT T w w') : Links T w' v ls := SlAt.kt h hb (fun _ _ _ h => h)
abbrev Plc := Int × Int
abbrev plC (x : Plc) : List Value := [.int .i64 x.1, .int .i64 x.2]
def IsPlc (cs : List Value) (x : Plc) : Prop := cs = plC x
theorem plC_one (x : Plc) : ∀ u ∈ plC x, u.oneCell' = true := by
 intro u hu
 simp only [plC, List.mem_cons, List.not_mem_nil, or_false] at hu
 rcases hu with rfl | rfl <;> rfl
theorem flatP_at : ∀ (ar : List Plc) (k : Nat) (x : Plc), ar[k]? = some x -> (((ar.flatMap plC).drop (k * 2)).take 2) = plC x
 | [], k, x, h => by simp at h
 | y :: ys, 0, x, h => by
   obtain rfl := Option.some.inj h
   rfl
 | y :: ys, k + 1, x, h => by
   have e : ((y :: ys).flatMap plC).drop ((k + 1) * 2) = (ys.flatMap plC).drop (k * 2) := by
    rw [List.flatMap_cons, show (k + 1) * 2 = (plC y).length + k * 2 by show (k + 1) * 2 = 2 + k * 2; omega, List.drop_append]
    simp
   rw [e]
   exact flatP_at ys k x (by simpa using h)
theorem uPls : Tryz.prog.underlying 58 = some (.slice 27) := by kernel_rfl
theorem infoPl : (Tryz.prog.info? 27).map (fun i => (i.zero, i.size, i.bytes)) = some (some (.agg #[.int .i64 0, .int .i64 0]), 2, 16) := by kernel_rfl
theorem SlAt.plc {base : Nat} {w : World} {A : Option Addr} {c : Nat} {xs : List Plc} (h : SlAt base w 2 IsPlc (.slice A xs.length c) xs) {k : Nat} {x : Plc} (hx : xs[k]? = some x) : ∃ b o, A = some ⟨b, o, none⟩ ∧ w.cell? ⟨b, o + k * 2, none⟩ = some (.int .i64 x.1) ∧ w.cell? ⟨b, o + k * 2 + 1, none⟩ = some (.int .i64 x.2) := by
 obtain ⟨A', c', e, h0, h1, h2, h3⟩ := h
 cases e
 obtain ⟨b, o, ea, hl, hr⟩ := h3 (fun e => by rw [e] at hx; cases hx)
 obtain ⟨cs, _, hc, c3⟩ := hr k x hx
 unfold IsPlc at hc
 subst hc
 exact ⟨b, o, ea, c3 0 _ rfl, c3 1 _ rfl⟩
def plB (a b : Plc) : Bool := (a.1 == b.1) && (a.2 == b.2)
theorem plB_iff {a b : Plc} : plB a b = true ↔ a = b := by
 obtain ⟨i, q⟩ := a
 obtain ⟨i', q'⟩ := b
 unfold plB
 simp
theorem plB_comm (a b : Plc) : plB a b = plB b a := by
 rw [Bool.eq_iff_iff, plB_iff, plB_iff]
 exact eq_comm
theorem any_plB (ar : List Plc) (f : Plc) : ar.any (fun x => plB x f) = decide (f ∈ ar) := by
 rw [Bool.eq_iff_iff, List.any_eq_true, decide_eq_true_iff]
 constructor
 ·rintro ⟨x, hx, h⟩
  rw [<- plB_iff.1 h]
  exact hx
 ·intro h
  exact ⟨f, h, plB_iff.2 rfl⟩
theorem any_takePl {ar : List Plc} {k : Nat} {x : Plc} {p : Plc -> Bool} (h : ar[k]? = some x) : (ar.take (k + 1)).any p = ((ar.take k).any p || p x) := by
 rw [List.take_add_one, h]
 simp
theorem pl_eq (a b : Plc) (w : World) : (binOp .eql 27 (.agg #[.int .i64 a.1, .int .i64 a.2]) (.agg #[.int .i64 b.1, .int .i64 b.2])).run Tryz.prog w = .ok (.bool (plB a b)) w := by
 obtain ⟨i, s⟩ := a
 obtain ⟨i', s'⟩ := b
 unfold plB
 cases h0 : (i == i') <;> cases h1 : (s == s')
 all_goals simp [go_sem, Tryz.underlying27, Tryz.underlying3, h0, h1]
theorem index_pl (A : Option Addr) (cap : Nat) (FL : List Plc) (f : Plc) (base : Nat) (w : World) (hb0 : base <= w.heap.size) (hL : Hid (SlAt base w 2 IsPlc (.slice A FL.length cap) FL)) :
  Calls Tryz.prog 104 #[.slice A FL.length cap, .agg #[.int .i64 f.1, .int .i64 f.2]] w fun e w' => ∃ j : Int, e = .returned (.int .i64 j) ∧ Hid (decide (0 <= j) = FL.any (fun x => plB f x)) ∧ Below w.heap.size w w' := by
 have hm : FL.length <= maxLen := by obtain ⟨_, _, e, _, a, b, _⟩ := hL.out; cases e; omega
 unfold maxLen at hm
 have X1 := bk_new w #[.int .i64 f.1, .int .i64 f.2] 27
 have D0 := Below.alN (Below.refl w.heap.size w) (.cells #[.int .i64 f.1, .int .i64 f.2] 27)
 go_enter Tryz.func104, Tryz.ntmps104
 go_wp2_with fail
 have X1' : Hid (Bk (w.alloc (.cells #[.int .i64 f.1, .int .i64 f.2] 27)) w.heap.size #[.int .i64 f.1, .int .i64 f.2] 27) := X1
 clear X1
 go_loopw [8] (fun i wr => ∃ k : Nat, i = .int .i64 (k : Int) ∧ k <= FL.length ∧ Below w.heap.size w wr ∧ Bk wr w.heap.size #[.int .i64 f.1, .int .i64 f.2] 27 ∧ Hid ((FL.take k).any (fun x => plB f x) = false)) (fun i _ => FL.length - (intOf i).toNat)
 case atStart => exact ⟨0, rfl, by omega, D0, X1'.out, rfl⟩
 case round =>
  clear D0 X1'
  obtain ⟨k, rfl, hk, D1, Y1, hno⟩ := hrel
  by_cases hlt : k < FL.length
  ·obtain ⟨x, hxk⟩ : ∃ x, FL[k]? = some x := ⟨_, List.getElem?_eq_getElem hlt⟩
   obtain ⟨b, o, rfl, c0, d1⟩ := (SlAt.below hL.out (D1.mono hb0) (fun _ _ _ h => h)).plc hxk
   obtain ⟨y0, y1⟩ := Y1.two
   have FE := fun w => pl_eq f x w
   have HX : Hid (FL[k]? = some x) := hxk
   have k1 : (0 : Int) <= (k : Int) := by omega
   have k2 : (k : Int) < (FL.length : Int) := by omega
   have D2 := D1.drew
   have Y2 := Y1.drew
   clear hL hxk
   cases hv : plB f x
   ·rw [hv] at FE
    have HV : Hid ((FL.take (k + 1)).any (fun x => plB f x) = false) := by show _ = _; rw [any_takePl HX.out, hno.out, hv]; rfl
    clear hv hno HX
    obtain ⟨fi, fs⟩ := f
    obtain ⟨xi, xs⟩ := x
    dsimp only at *
    go_wp2_with fail
    go_region
    all_goals
     go_wp2_with fail
     go_roundw
     case rel => exact ⟨k + 1, by go_num, by omega, by first | exact D2 | exact D1, by first | exact Y2 | exact Y1, HV⟩
     case measure => simp [intOf]; omega
   ·rw [hv] at FE
    have fin : Hid (FL.any (fun x => plB f x) = true) := List.any_eq_true.2 ⟨x, List.mem_of_getElem? HX.out, hv⟩
    clear hv hno HX
    obtain ⟨fi, fs⟩ := f
    obtain ⟨xi, xs⟩ := x
    dsimp only at *
    go_wp2_with fail
    go_region
    all_goals
     go_wp2_with fail
     go_ret
     exact ⟨_, rfl, (by show _ = _; rw [fin.out]; simp), by first | exact D2 | exact D1⟩
  ·have fin : Hid (FL.any (fun x => plB f x) = false) := by
    have := hno.out
    rw [show k = FL.length by omega, List.take_length] at this
    exact this
   go_wp2_with fail
   go_ret
   exact ⟨_, rfl, (by show _ = _; rw [fin.out]; simp), D1⟩
theorem contains_pl (A : Option Addr) (cap : Nat) (FL : List Plc) (f : Plc) (base : Nat) (w : World) (hb0 : base <= w.heap.size) (hL : Hid (SlAt base w 2 IsPlc (.slice A FL.length cap) FL)) :
  Calls Tryz.prog 56 #[.slice A FL.length cap, .agg #[.int .i64 f.1, .int .i64 f.2]] w fun e w' => e = .returned (.bool (decide (f ∈ FL))) ∧ Below w.heap.size w w' := by
 have X1 := bk_new w #[.int .i64 f.1, .int .i64 f.2] 27
 have D1 := Below.alN (Below.refl w.heap.size w) (.cells #[.int .i64 f.1, .int .i64 f.2] 27)
 have IX : Hid (∀ W, Below w.heap.size w W -> Calls Tryz.prog 104 #[.slice A FL.length cap, .agg #[.int .i64 f.1, .int .i64 f.2]] W fun e w' => ∃ j : Int, e = .returned (.int .i64 j) ∧ Hid (decide (0 <= j) = decide (f ∈ FL)) ∧ Below W.heap.size W w') := fun W h => (index_pl A cap FL f base W (Nat.le_trans hb0 h.size) (SlAt.below hL.out (h.mono hb0) (fun _ _ _ h => h))).mono fun e w' ⟨j, h1, h2, h3⟩ => ⟨j, h1, by
  show _ = _
  rw [h2.out, <- any_plB]
  congr 1
  funext x
  exact plB_comm f x, h3⟩
 obtain ⟨x0, x1⟩ := X1.two
 obtain ⟨fi, fs⟩ := f
 generalize decide ((fi, fs) ∈ FL) = r at *
 dsimp only at *
 clear hL X1
 go_enter Tryz.func56, Tryz.ntmps56
 go_wp2_with fail
 with_reducible refine (IX.out _ D1).mono ?_
 rintro e w2 ⟨j, rfl, hj, hb2⟩
 have D2 := chnN hb2 D1
 go_wp2_with fail
 go_ret
 exact ⟨by rw [<- hj.out]; first | rfl | simp, D2⟩
noncomputable def nxF (ds : List Dv) (ls : List Lk) (p : Pk) (t : Plc) : Option Plc := if (handleP ds ls noM t.1 t.2 p 0).err = 0 then some (handleP ds ls noM t.1 t.2 p 0).tp else none
def PlainD (ds : List Dv) : Prop := ∀ d ∈ ds, d.kind = 1 ∨ d.kind = 2
theorem nx_place {ds : List Dv} {ls : List Lk} (hz : netV ds ls = 0) {p : Pk} {t t' : Plc} (h : nxF ds ls p t = some t') : isPl ds t'.1 t'.2 = true := by
 unfold nxF at h
 split at h
 ·rename_i he
  cases h
  unfold handleP at he ⊢
  cases hpl : isPl ds t.1 t.2
  ·rw [hpl] at he
   exact absurd (show (4 : Int) = 0 from he) (by decide)
  rw [hpl, if_pos rfl] at he
  rw [if_pos rfl]
  cases hpk : pkOk p
  ·rw [hpk] at he
   exact absurd (show (1 : Int) = 0 from he) (by decide)
  rw [hpk, if_pos rfl] at he
  rw [if_pos rfl]
  split at he
  ·rename_i h0
   rw [if_pos h0]
   cases hpe : peerF ls t.1 (sendP (ds.getD t.1.toNat default) noM t.1 t.2 p 0).port with
   | some u => exact peerF_place ls _ _ u (netV_links hz).2.2.2 hpe
   | none =>
     rw [hpe] at he
     exact absurd (show (7 : Int) = 0 from he) (by decide)
  ·rename_i h0
   exact absurd he h0
 ·cases h
theorem nodup_lt : ∀ (n : Nat) (l : List Nat), l.Nodup -> (∀ x ∈ l, x < n) -> l.length <= n
 | 0, l, _, h => by
   cases l with
   | nil => simp
   | cons a l => exact absurd (h a (by simp)) (by omega)
 | n + 1, l, hn, h => by
   have h1 := nodup_lt n (l.erase n) (hn.erase n) (fun x hx => by
    have := (List.Nodup.mem_erase_iff hn).1 hx
    have := h x this.2
    omega)
   by_cases hm : n ∈ l
   ·rw [List.length_erase_of_mem hm] at h1
    omega
   ·rw [List.erase_of_not_mem hm] at h1
    omega
def plN (x : Plc) : Nat := 4 * x.1.toNat + x.2.toNat
theorem portsV_le (k : Int) : portsV k <= 4 := by
 unfold portsV
 split
 ·omega
 split
 ·omega
 split <;> omega
theorem isPl_b {ds : List Dv} {x y : Int} (h : isPl ds x y = true) : 0 <= x ∧ x < (ds.length : Int) ∧ 0 <= y ∧ y < 4 := by
 unfold isPl at h
 simp only [Bool.and_eq_true, decide_eq_true_eq] at h
 have := portsV_le (kindAt ds x)
 omega
theorem places_len {ds : List Dv} (hd : ds.length <= 10) {acc : List Plc} (hn : acc.Nodup) (hp : ∀ x ∈ acc, isPl ds x.1 x.2 = true) : acc.length <= 40 := by
 have h := nodup_lt 40 (acc.map plN) (by
  refine List.pairwise_map.2 (List.Pairwise.imp_of_mem ?_ hn)
  intro a b ha hb hab e
  have h1 := isPl_b (hp a ha)
  have h2 := isPl_b (hp b hb)
  unfold plN at e
  refine hab (Prod.ext ?_ ?_)
  ·omega
  ·omega) (fun x hx => by
  obtain ⟨y, hy, rfl⟩ := List.mem_map.1 hx
  have := isPl_b (hp y hy)
  unfold plN
  omega)
 simpa using h
def goW (nx : Plc -> Option Plc) : Nat -> List Plc -> Plc -> List Plc × Bool
 | 0, acc, _ => (acc, false)
 | F + 1, acc, t => if t ∈ acc then (acc, true) else (nx t).elim (acc ++ [t], false) (goW nx F (acc ++ [t]))
theorem goW_in {nx : Plc -> Option Plc} {F : Nat} {acc : List Plc} {t : Plc} (h : t ∈ acc) : goW nx (F + 1) acc t = (acc, true) := by rw [goW, if_pos h]
theorem goW_no {nx : Plc -> Option Plc} {F : Nat} {acc : List Plc} {t : Plc} (h : t ∉ acc) (hx : nx t = none) : goW nx (F + 1) acc t = (acc ++ [t], false) := by
 rw [goW, if_neg h, hx]
 rfl
theorem goW_on {nx : Plc -> Option Plc} {F : Nat} {acc : List Plc} {t t' : Plc} (h : t ∉ acc) (hx : nx t = some t') : goW nx (F + 1) acc t = goW nx F (acc ++ [t]) t' := by
 rw [goW, if_neg h, hx]
 rfl
structure WInv (ds : List Dv) (nx : Plc -> Option Plc) (res : List Plc × Bool) (acc : List Plc) (t : Plc) : Prop where
 eq : goW nx (41 - acc.length) acc t = res
 nd : acc.Nodup
 pl : ∀ x ∈ acc, isPl ds x.1 x.2 = true
 tp : isPl ds t.1 t.2 = true
 d10 : ds.length <= 10
section
variable {ds : List Dv} {nx : Plc -> Option Plc} {res : List Plc × Bool} {acc : List Plc} {t t' : Plc}
theorem WInv.len (h : WInv ds nx res acc t) : acc.length <= 40 := places_len h.d10 h.nd h.pl
theorem winv_start (hd : ds.length <= 10) (ht : isPl ds t.1 t.2 = true) : WInv ds nx (goW nx 41 [] t) [] t := ⟨rfl, List.nodup_nil, (fun x hx => by cases hx), ht, hd⟩
theorem WInv.fuel (h : WInv ds nx res acc t) : 41 - acc.length = (40 - acc.length) + 1 := by
 have := h.len
 omega
theorem WInv.round (h : WInv ds nx res acc t) (hm : t ∈ acc) : res = (acc, true) := by
 rw [<- h.eq, h.fuel, goW_in hm]
theorem WInv.stop (h : WInv ds nx res acc t) (hm : t ∉ acc) (hx : nx t = none) : res = (acc ++ [t], false) := by
 rw [<- h.eq, h.fuel, goW_no hm hx]
theorem WInv.next (h : WInv ds nx res acc t) (hm : t ∉ acc) (hx : nx t = some t') (hp : isPl ds t'.1 t'.2 = true) : WInv ds nx res (acc ++ [t]) t' := by
 refine ⟨?_, ?_, ?_, hp, h.d10⟩
 ·rw [<- h.eq, h.fuel, goW_on hm hx]
  congr 1
  simp <;> omega
 ·rw [List.nodup_append]
  refine ⟨h.nd, by simp, ?_⟩
  intro a ha b hb e
  rw [List.mem_singleton.1 hb] at e
  exact hm (e ▸ ha)
 ·intro x hx
  rcases List.mem_append.1 hx with hx | hx
  ·exact h.pl x hx
  ·rw [List.mem_singleton.1 hx]
   exact h.tp
end
structure Ended (ds : List Dv) (nx : Plc -> Option Plc) (t0 : Plc) (l : List Plc) (r : Bool) : Prop where
 head : l[0]? = some t0
 nd : l.Nodup
 on : ∀ k x, l[k]? = some x -> k + 1 < l.length -> ∃ y, l[k + 1]? = some y ∧ nx x = some y
 rnd : r = true -> ∀ x, l[l.length - 1]? = some x -> ∃ y, nx x = some y ∧ y ∈ l
 rest : r = false -> ∀ x, l[l.length - 1]? = some x -> nx x = none
 pl : ∀ x ∈ l, isPl ds x.1 x.2 = true
theorem goW_ended {ds : List Dv} {nx : Plc -> Option Plc} {t0 : Plc} (hpl : ∀ x y, nx x = some y -> isPl ds y.1 y.2 = true) : ∀ (F : Nat) (acc : List Plc) (t : Plc) (res : List Plc × Bool), F = 41 - acc.length -> WInv ds nx res acc t -> (acc ++ [t])[0]? = some t0 -> (∀ k x, acc[k]? = some x -> ∃ y, (acc ++ [t])[k + 1]? = some y ∧ nx x = some y) -> Ended ds nx t0 res.1 res.2
 | 0, acc, t, res, hF, h, _, _ => by
   have := h.len
   omega
 | F + 1, acc, t, res, hF, h, h0, hc => by
   by_cases hm : t ∈ acc
   ·obtain rfl := h.round hm
    have hne : 0 < acc.length := List.length_pos_of_mem hm
    refine ⟨?_, h.nd, ?_, ?_, (fun e => by cases e), h.pl⟩
    ·rw [List.getElem?_append_left hne] at h0
     exact h0
    ·intro k x hk hl
     obtain ⟨y, h1, h2⟩ := hc k x hk
     have hl' : k + 1 < acc.length := hl
     rw [List.getElem?_append_left hl'] at h1
     exact ⟨y, h1, h2⟩
    ·intro _ x hx
     obtain ⟨y, h1, h2⟩ := hc _ x hx
     have hl : acc.length - 1 + 1 = acc.length := by omega
     rw [hl, List.getElem?_append_right (Nat.le_refl _)] at h1
     simp at h1
     exact ⟨y, h2, h1 ▸ hm⟩
   ·have hon : ∀ (k : Nat) (x : Plc), (acc ++ [t])[k]? = some x -> k + 1 < (acc ++ [t]).length -> ∃ y, (acc ++ [t])[k + 1]? = some y ∧ nx x = some y := by
     intro k x hk hl
     have hl' : k < acc.length := by simpa using hl
     rw [List.getElem?_append_left hl'] at hk
     exact hc k x hk
    have hnd : (acc ++ [t]).Nodup := by
     rw [List.nodup_append]
     refine ⟨h.nd, by simp, ?_⟩
     intro a ha b hb e
     rw [List.mem_singleton.1 hb] at e
     exact hm (e ▸ ha)
    cases hx : nx t with
    | none =>
      obtain rfl := h.stop hm hx
      refine ⟨h0, hnd, hon, (fun e => by cases e), ?_, ?_⟩
      rotate_left
      ·intro x hx'
       rcases List.mem_append.1 hx' with h' | h'
       ·exact h.pl x h'
       ·rw [List.mem_singleton.1 h']
        exact h.tp
      intro _ x hk
      have e : (acc ++ [t]).length - 1 = acc.length := by simp
      have hk' : (acc ++ [t])[(acc ++ [t]).length - 1]? = some x := hk
      rw [e, List.getElem?_append_right (Nat.le_refl _)] at hk'
      simp at hk'
      rw [<- hk']
      exact hx
    | some t' =>
      refine goW_ended hpl F (acc ++ [t]) t' res (by simp; omega) (h.next hm hx (hpl _ _ hx)) ?_ ?_
      ·rw [List.getElem?_append_left (by simp)]
       exact h0
      ·intro k x hk
       by_cases hl : k + 1 < (acc ++ [t]).length
       ·obtain ⟨y, h1, h2⟩ := hon k x hk hl
        exact ⟨y, by rw [List.getElem?_append_left hl]; exact h1, h2⟩
       ·have hk2 := (List.getElem?_eq_some_iff.1 hk).1
        have e : k = acc.length := by simp at hl hk2; omega
        subst e
        rw [List.getElem?_append_right (Nat.le_refl _)] at hk
        simp at hk
        subst hk
        refine ⟨t', ?_, hx⟩
        rw [List.getElem?_append_right (by simp)]
        simp
noncomputable def wayP (ds : List Dv) (ls : List Lk) (p : Pk) (t : Plc) : List Plc × Bool := goW (nxF ds ls p) 41 [] t
theorem way_ended {ds : List Dv} {ls : List Lk} (hz : netV ds ls = 0) {p : Pk} {t : Plc} (ht : isPl ds t.1 t.2 = true) : Ended ds (nxF ds ls p) t (wayP ds ls p t).1 (wayP ds ls p t).2 :=
 goW_ended (ds := ds) (fun _ _ h => nx_place hz h) 41 [] t _ rfl (winv_start (netV_links hz).1 ht) rfl (fun k x h => by simp at h)
end Go.Proofs.YtppbfikimalojaaGreat
namespace Go.Proofs.YtppbfikimalojaaGreat
open Go.RowKit
theorem all_any (w : World) :
  Calls Tryz.prog 129 #[] w fun e w' => e = .returned (mt 65535 65535 255 255) ∧ Below w.heap.size w w' := by
 go_enter Tryz.func129, Tryz.ntmps129
 go_wp2_with fail
 exact bodyPost_ret (v := mt 65535 65535 255 255) (by simp [results, Tryz.results129, go_sem]) rfl ⟨rfl, by go_grown⟩
end Go.Proofs.YtppbfikimalojaaGreat
