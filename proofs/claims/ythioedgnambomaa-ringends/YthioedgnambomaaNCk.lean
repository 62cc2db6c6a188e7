/-
  Package net: HasPlace, checkLink.
-/
import Derived.Test.YthioedgnambomaaNC
namespace Go.Proofs.Ythioedgnambomaa
open Go.RowKit

set_option maxHeartbeats 4000000 in
set_option maxRecDepth 100000 in
theorem hasPlace_any (d p : Int) (A : Option Addr) (n cap : Nat) (vl : Value) (ds : List Dv) (w : World) (hD : Hid (Devs w.heap.size w (.slice A n cap) ds)) :
    Calls Try.prog 13 #[.agg #[.slice A n cap, vl], plA d p] w fun e w' => e = .returned (.bool (isPl ds d p)) ∧ Below w.heap.size w w' := by
  obtain ⟨rfl, hc, hm⟩ := hD.out.len
  unfold maxLen at hm
  have D0 := Below.alN (Below.alN (Below.refl w.heap.size w) (.cells #[.slice A ds.length cap, vl] 25)) (.cells #[.int .i64 d, .int .i64 p] 27)
  have B1 := (box2_new w (.slice A ds.length cap) vl 25).alloc (.cells #[.int .i64 d, .int .i64 p] 27)
  have B0 := box2_new (w.alloc (.cells #[.slice A ds.length cap, vl] 25)) (.int .i64 d) (.int .i64 p) 27
  rw [World.size_alloc] at B0
  obtain ⟨_, q0, q1, _⟩ := id B0
  obtain ⟨_, q2, _, _⟩ := id B1
  unfold isPl
  cases h0 : decide (0 ≤ d)
  · go_enter Try.func13, Try.ntmps13
    go_wp2_with fail
    go_quiet (fail)
    go_wp2_with fail
    go_ret
    exact ⟨by simp, belowNN D0 _⟩
  cases h1 : decide (d < (ds.length : Int))
  · go_enter Try.func13, Try.ntmps13
    go_wp2_with fail
    go_quiet (fail)
    go_wp2_with fail
    go_ret
    exact ⟨by simp, belowNN D0 _⟩
  cases h2 : decide (0 ≤ p)
  · go_enter Try.func13, Try.ntmps13
    go_wp2_with fail
    go_quiet (fail)
    go_wp2_with fail
    go_ret
    exact ⟨by simp, belowNN D0 _⟩
  have hd0 : 0 ≤ d := by simpa using h0
  have hd1 : d < (ds.length : Int) := by simpa using h1
  obtain ⟨i, rfl⟩ : ∃ i : Nat, d = (i : Int) := ⟨d.toNat, by omega⟩
  have hi : i < ds.length := by omega
  obtain ⟨x, hx⟩ : ∃ x, ds[i]? = some x := ⟨_, List.getElem?_eq_getElem hi⟩
  obtain ⟨b, o, vb, vr, vt, rfl, hb, _, _, _, c0, c1, c2, c3, c4, c5, c6⟩ := (hD.out.below D0).at hx
  have ek : kindAt ds (i : Int) = x.kind := by
    unfold kindAt
    rw [Int.toNat_natCast, hx]
    rfl
  rw [ek]
  have PO : Hid (∀ w, Calls Try.prog 23 #[.int .i64 x.kind] w fun e w' => e = .returned (.int .i64 (portsV x.kind)) ∧ w' = w) := fun w => nports_any x.kind w
  clear hD hx ek c0 c2 c3 c4 c5 c6 hd0 hd1
  generalize portsV x.kind = pk at *
  generalize x.kind = kd at *
  go_enter Try.func13, Try.ntmps13
  go_wp2_with fail
  go_quiet ((go_at_call 23; exact Calls.quiet_of_same (PO.out _)))
  go_wp2_with fail
  go_ret
  exact ⟨by simp, belowNN D0 _⟩

/-- A net and a link in blocks of a call's own, one behind the other. -/
def LB (w : World) (n : Nat) (x y a b c d : Value) : Prop := Box2 w n x y ∧ Lk4 w (n + 1) a b c d
theorem LB.cells {w : World} {n : Nat} {x y a b c d : Value} (H : LB w n x y a b c d) : w.cell? ⟨n, 0, none⟩ = some x ∧ w.cell? ⟨n, 1, none⟩ = some y ∧ w.cell? ⟨n + 1, 0, none⟩ = some a ∧ w.cell? ⟨n + 1, 1, none⟩ = some b ∧ w.cell? ⟨n + 1, 2, none⟩ = some c ∧ w.cell? ⟨n + 1, 3, none⟩ = some d := by
  obtain ⟨⟨_, h1, h2, _⟩, ⟨_, h5, h6, h7, h8⟩⟩ := H
  exact ⟨h1, h2, h5, h6, h7, h8⟩
theorem LB.keep {W w' : World} {n : Nat} {x y a b c d : Value} (hb : Below W.heap.size W w') (H : LB W n x y a b c d) : LB w' n x y a b c d := ⟨H.1.below hb H.1.1, H.2.below hb H.2.1⟩
theorem LB.drew {w : World} {n : Nat} {x y a b c d : Value} (H : LB w n x y a b c d) : LB w.drew n x y a b c d := H
theorem lb_new (w : World) (x y a b c d : Value) (s t : TypeId) : LB ((w.alloc (.cells #[x, y] s)).alloc (.cells #[a, b, c, d] t)) w.heap.size x y a b c d := by
  refine ⟨(box2_new w x y s).alloc _, ?_⟩
  have := lk4_new (w.alloc (.cells #[x, y] s)) a b c d t
  rw [World.size_alloc] at this
  exact this
/-- What checkLink tells. -/
def linkTold (ds : List Dv) (ahead : List Lk) (l : Lk) : Int := if isPl ds l.a l.p && isPl ds l.b l.q then (if selfB l || ahead.any (fun m => meetB m l) then 5 else 0) else 1
set_option maxHeartbeats 8000000 in
set_option maxRecDepth 100000 in
theorem checkLink_any (A B : Option Addr) (cap cap' : Nat) (ds : List Dv) (ls : List Lk) (j : Nat) (l : Lk) (w : World) (hx : Hid (ls[j]? = some l)) (hD : Hid (Devs w.heap.size w (.slice A ds.length cap) ds)) (hL : Hid (Links w.heap.size w (.slice B ls.length cap') ls)) :
    Calls Try.prog 27 #[.agg #[.slice A ds.length cap, .slice B ls.length cap'], .int .i64 (j : Int)] w fun e w' => e = .returned (.int .i64 (linkTold ds (ls.take j) l)) ∧ Below w.heap.size w w' := by
  have hj : j < ls.length := (List.getElem?_eq_some_iff.1 hx.out).1
  obtain ⟨_, hc, hm⟩ := hL.out.len
  unfold maxLen at hm
  have D0 := Below.alN (Below.refl w.heap.size w) (.cells #[.slice A ds.length cap, .slice B ls.length cap'] 25)
  obtain ⟨b, o, rfl, hb, c0, c1, c2, c3⟩ := (hL.out.below D0).at hx.out
  have k1 : (0 : Int) ≤ (j : Int) := by omega
  have k2 : (j : Int) < (ls.length : Int) := by omega
  have k3 : (j : Int) ≤ (cap' : Int) := by omega
  have FL : Hid (∀ w, Calls Try.prog 41 #[lkA l.a l.p l.b l.q] w fun e w' => e = .returned (plA l.a l.p) ∧ Below w.heap.size w w') := fun w => from_any _ _ _ _ w
  have TL : Hid (∀ w, Calls Try.prog 42 #[lkA l.a l.p l.b l.q] w fun e w' => e = .returned (plA l.b l.q) ∧ Below w.heap.size w w') := fun w => to_any _ _ _ _ w
  have I1 : Hid (∀ W, Below w.heap.size w W → Calls Try.prog 13 #[.agg #[.slice A ds.length cap, .slice (some ⟨b, o, none⟩) ls.length cap'], plA l.a l.p] W fun e w' => e = .returned (.bool (isPl ds l.a l.p)) ∧ Below W.heap.size W w') := fun W h => hasPlace_any _ _ _ _ _ _ _ W ((hD.out.below h).mono h.size)
  have I2 : Hid (∀ W, Below w.heap.size w W → Calls Try.prog 13 #[.agg #[.slice A ds.length cap, .slice (some ⟨b, o, none⟩) ls.length cap'], plA l.b l.q] W fun e w' => e = .returned (.bool (isPl ds l.b l.q)) ∧ Below W.heap.size W w') := fun W h => hasPlace_any _ _ _ _ _ _ _ W ((hD.out.below h).mono h.size)
  have CO : Hid (∀ W, Below w.heap.size w W → LB W w.heap.size (.slice A ds.length cap) (.slice (some ⟨b, o, none⟩) ls.length cap') (.int .i64 l.a) (.int .i64 l.p) (.int .i64 l.b) (.int .i64 l.q) → Calls Try.prog 52 #[.slice (some ⟨b, o, none⟩) j cap', .func (.func 53) #[] #[.pointer (some ⟨w.heap.size + 1, 0, none⟩)]] W fun e w' => e = .returned (.bool ((ls.take j).any (fun m => meetB m l))) ∧ Below W.heap.size W w') := fun W h hT => linkHas_any _ _ _ _ l _ W (Links.mono (SlAt.take (hL.out.below h) j (by omega)) h.size) hT.2
  have PE : ∀ w, (binOp .eql 27 (plA l.a l.p) (plA l.b l.q)).run Try.prog w = .ok (.bool (selfB l)) w := fun w => place_eq _ _ _ _ w
  generalize hres : linkTold ds (ls.take j) l = res
  have HR : Hid (res = if isPl ds l.a l.p && isPl ds l.b l.q then (if selfB l || (ls.take j).any (fun m => meetB m l) then 5 else 0) else 1) := hres.symm
  clear hres hL hD hx
  generalize isPl ds l.a l.p = x0 at *
  generalize isPl ds l.b l.q = x1 at *
  generalize selfB l = x2 at *
  generalize (ls.take j).any (fun m => meetB m l) = x3 at *
  generalize l.a = la at *
  generalize l.p = lp at *
  generalize l.b = lb at *
  generalize l.q = lq at *
  have D1 := (Below.alN D0 (.cells #[.int .i64 la, .int .i64 lp, .int .i64 lb, .int .i64 lq] 44)).drew
  have M1 := (lb_new w (.slice A ds.length cap) (.slice (some ⟨b, o, none⟩) ls.length cap') (.int .i64 la) (.int .i64 lp) (.int .i64 lb) (.int .i64 lq) 25 44).drew
  clear D0
  go_enter Try.func27, Try.ntmps27
  go_wp2_with fail
  go_region
  clear c0 c1 c2 c3
  have D2 := D1.drew
  have M2 := M1.drew
  clear D1 M1
  cases x0
  · have HV : Hid (res = 1) := by show _ = _; rw [HR.out]; rfl
    clear HR I2 CO PE TL
    go_wp2_with fail
    refine wp_region_held_drew (S := (fun w' => w'.cell? ⟨w.heap.size, 0, none⟩ = some (.slice A ds.length cap) ∧ w'.cell? ⟨w.heap.size, 1, none⟩ = some (.slice (some ⟨b, o, none⟩) ls.length cap') ∧ w'.cell? ⟨w.heap.size + 1, 0, none⟩ = some (.int .i64 la) ∧ w'.cell? ⟨w.heap.size + 1, 1, none⟩ = some (.int .i64 lp) ∧ w'.cell? ⟨w.heap.size + 1, 2, none⟩ = some (.int .i64 lb) ∧ w'.cell? ⟨w.heap.size + 1, 3, none⟩ = some (.int .i64 lq))) (by kernel_rfl) (LB.cells (n := w.heap.size) (by assumption)) (fun hHeld => ?_)
    refine' wpAnyH_take (i := 0) (v := _) rfl (by kernel_rfl) (by kernel_rfl) (by kernel_rfl) (fun _ _ _ h => h) (Or.inl ⟨by rfl, ?gy1⟩) (by assumption) ?gr1
    case gy1 => (intro w hSw; (try dsimp only at hSw); go_simp; (try with_reducible rfl))
    try simp only [List.getElem_toArray, List.getElem_cons_zero, Act.put, List.setIfInBounds_toArray, List.set_cons_zero, List.set_cons_succ]
    refine' wpAnyH_take (i := 1) (v := _) rfl (by kernel_rfl) (by kernel_rfl) (by kernel_rfl) (fun _ _ _ h => h) (Or.inl ⟨by rfl, ?gy2⟩) (by assumption) ?gr2
    case gy2 => (intro w hSw; (try dsimp only at hSw); go_simp; (try with_reducible rfl))
    try simp only [List.getElem_toArray, List.getElem_cons_zero, List.getElem_cons_succ, Act.put, List.setIfInBounds_toArray, List.set_cons_zero, List.set_cons_succ]
    refine wpAnyH_ready (rs := [2]) (by kernel_rfl) (by simp) (AllReadyH.cons rfl (fun K hK => ?_) AllReadyH.nil)
    go_simp
    refine (FL.out _).mono ?_; rintro e wz ⟨rfl, hbz⟩; have Dz := chnN (W0 := w) hbz (by assumption); have Pz := LB.keep (n := w.heap.size) hbz (by assumption); clear hbz
    try go_wp2_with fail
    clear hHeld
    refine hK.out _ _ (LB.cells (n := w.heap.size) (by assumption)) (fun hHeld => ?_)
    clear hK K
    try simp only [List.getElem_toArray, List.getElem_cons_zero, List.getElem_cons_succ, Act.put, List.setIfInBounds_toArray, List.set_cons_zero, List.set_cons_succ]
    refine wpAnyH_ready (rs := [3]) (by kernel_rfl) (by simp) (AllReadyH.cons rfl (fun K hK => ?_) AllReadyH.nil)
    go_simp
    refine (I1.out _ (by assumption)).mono ?_; rintro e wz ⟨rfl, hbz⟩; have Dz := chnN (W0 := w) hbz (by assumption); have Pz := LB.keep (n := w.heap.size) hbz (by assumption); clear hbz
    try go_wp2_with fail
    clear hHeld
    refine hK.out _ _ (LB.cells (n := w.heap.size) (by assumption)) (fun hHeld => ?_)
    clear hK K
    try simp only [List.getElem_toArray, List.getElem_cons_zero, List.getElem_cons_succ, Act.put, List.setIfInBounds_toArray, List.set_cons_zero, List.set_cons_succ]
    refine' wpAnyH_take (i := 4) (v := _) rfl (by kernel_rfl) (by kernel_rfl) (by kernel_rfl) (fun _ _ _ h => h) (Or.inl ⟨by rfl, ?gy5⟩) (by assumption) ?gr5
    case gy5 => (intro w hSw; (try dsimp only at hSw); go_simp; (try with_reducible rfl))
    try simp only [List.getElem_toArray, List.getElem_cons_zero, List.getElem_cons_succ, Act.put, List.setIfInBounds_toArray, List.set_cons_zero, List.set_cons_succ]
    refine' wpAnyH_take (i := 5) (v := _) rfl (by kernel_rfl) (by kernel_rfl) (by kernel_rfl) (fun _ _ _ h => h) (Or.inl ⟨by rfl, ?gy6⟩) (by assumption) ?gr6
    case gy6 => (intro w hSw; (try dsimp only at hSw); go_simp; (try with_reducible rfl))
    try simp only [List.getElem_toArray, List.getElem_cons_zero, List.getElem_cons_succ, Act.put, List.setIfInBounds_toArray, List.set_cons_zero, List.set_cons_succ]
    refine' wpAnyH_take (i := 6) (v := undef) rfl (by kernel_rfl) (by kernel_rfl) (by kernel_rfl) (fun _ _ _ h => h) (Or.inr ⟨by rfl, rfl⟩) (by assumption) ?gr7
    try simp only [List.getElem_toArray, List.getElem_cons_zero, List.getElem_cons_succ, Act.put, List.setIfInBounds_toArray, List.set_cons_zero, List.set_cons_succ]
    refine' wpAnyH_take (i := 7) (v := undef) rfl (by kernel_rfl) (by kernel_rfl) (by kernel_rfl) (fun _ _ _ h => h) (Or.inr ⟨by rfl, rfl⟩) (by assumption) ?gr8
    try simp only [List.getElem_toArray, List.getElem_cons_zero, List.getElem_cons_succ, Act.put, List.setIfInBounds_toArray, List.set_cons_zero, List.set_cons_succ]
    refine' wpAnyH_take (i := 8) (v := undef) rfl (by kernel_rfl) (by kernel_rfl) (by kernel_rfl) (fun _ _ _ h => h) (Or.inr ⟨by rfl, rfl⟩) (by assumption) ?gr9
    try simp only [List.getElem_toArray, List.getElem_cons_zero, List.getElem_cons_succ, Act.put, List.setIfInBounds_toArray, List.set_cons_zero, List.set_cons_succ]
    refine' wpAnyH_take (i := 9) (v := undef) rfl (by kernel_rfl) (by kernel_rfl) (by kernel_rfl) (fun _ _ _ h => h) (Or.inr ⟨by rfl, rfl⟩) (by assumption) ?gr10
    try simp only [List.getElem_toArray, List.getElem_cons_zero, List.getElem_cons_succ, Act.put, List.setIfInBounds_toArray, List.set_cons_zero, List.set_cons_succ]
    refine' wpAnyH_take (i := 10) (v := undef) rfl (by kernel_rfl) (by kernel_rfl) (by kernel_rfl) (fun _ _ _ h => h) (Or.inr ⟨by rfl, rfl⟩) (by assumption) ?gr11
    try simp only [List.getElem_toArray, List.getElem_cons_zero, List.getElem_cons_succ, Act.put, List.setIfInBounds_toArray, List.set_cons_zero, List.set_cons_succ]
    refine' wpAnyH_take (i := 11) (v := _) rfl (by kernel_rfl) (by kernel_rfl) (by kernel_rfl) (fun _ _ _ h => h) (Or.inl ⟨by rfl, ?gy12⟩) (by assumption) ?gr12
    case gy12 => (intro w hSw; (try dsimp only at hSw); go_simp; (try with_reducible rfl))
    try simp only [List.getElem_toArray, List.getElem_cons_zero, List.getElem_cons_succ, Act.put, List.setIfInBounds_toArray, List.set_cons_zero, List.set_cons_succ]
    refine wpAnyH_done (by kernel_rfl) ?_ _
    go_wp2_with fail
    go_ret
    exact ⟨by rw [HV.out]; rfl, by assumption⟩
  · have HR1 : Hid (res = if x1 then (if x2 || x3 then 5 else 0) else 1) := by show _ = _; rw [HR.out]; rfl
    clear HR
    go_wp2_with fail
    refine wp_region_held_drew (S := (fun w' => w'.cell? ⟨w.heap.size, 0, none⟩ = some (.slice A ds.length cap) ∧ w'.cell? ⟨w.heap.size, 1, none⟩ = some (.slice (some ⟨b, o, none⟩) ls.length cap') ∧ w'.cell? ⟨w.heap.size + 1, 0, none⟩ = some (.int .i64 la) ∧ w'.cell? ⟨w.heap.size + 1, 1, none⟩ = some (.int .i64 lp) ∧ w'.cell? ⟨w.heap.size + 1, 2, none⟩ = some (.int .i64 lb) ∧ w'.cell? ⟨w.heap.size + 1, 3, none⟩ = some (.int .i64 lq))) (by kernel_rfl) (LB.cells (n := w.heap.size) (by assumption)) (fun hHeld => ?_)
    refine' wpAnyH_take (i := 0) (v := _) rfl (by kernel_rfl) (by kernel_rfl) (by kernel_rfl) (fun _ _ _ h => h) (Or.inl ⟨by rfl, ?gy36⟩) (by assumption) ?gr36
    case gy36 => (intro w hSw; (try dsimp only at hSw); go_simp; (try with_reducible rfl))
    try simp only [List.getElem_toArray, List.getElem_cons_zero, Act.put, List.setIfInBounds_toArray, List.set_cons_zero, List.set_cons_succ]
    refine' wpAnyH_take (i := 1) (v := _) rfl (by kernel_rfl) (by kernel_rfl) (by kernel_rfl) (fun _ _ _ h => h) (Or.inl ⟨by rfl, ?gy37⟩) (by assumption) ?gr37
    case gy37 => (intro w hSw; (try dsimp only at hSw); go_simp; (try with_reducible rfl))
    try simp only [List.getElem_toArray, List.getElem_cons_zero, List.getElem_cons_succ, Act.put, List.setIfInBounds_toArray, List.set_cons_zero, List.set_cons_succ]
    refine wpAnyH_ready (rs := [2]) (by kernel_rfl) (by simp) (AllReadyH.cons rfl (fun K hK => ?_) AllReadyH.nil)
    go_simp
    refine (FL.out _).mono ?_; rintro e wz ⟨rfl, hbz⟩; have Dz := chnN (W0 := w) hbz (by assumption); have Pz := LB.keep (n := w.heap.size) hbz (by assumption); clear hbz
    try go_wp2_with fail
    clear hHeld
    refine hK.out _ _ (LB.cells (n := w.heap.size) (by assumption)) (fun hHeld => ?_)
    clear hK K
    try simp only [List.getElem_toArray, List.getElem_cons_zero, List.getElem_cons_succ, Act.put, List.setIfInBounds_toArray, List.set_cons_zero, List.set_cons_succ]
    refine wpAnyH_ready (rs := [3]) (by kernel_rfl) (by simp) (AllReadyH.cons rfl (fun K hK => ?_) AllReadyH.nil)
    go_simp
    refine (I1.out _ (by assumption)).mono ?_; rintro e wz ⟨rfl, hbz⟩; have Dz := chnN (W0 := w) hbz (by assumption); have Pz := LB.keep (n := w.heap.size) hbz (by assumption); clear hbz
    try go_wp2_with fail
    clear hHeld
    refine hK.out _ _ (LB.cells (n := w.heap.size) (by assumption)) (fun hHeld => ?_)
    clear hK K
    try simp only [List.getElem_toArray, List.getElem_cons_zero, List.getElem_cons_succ, Act.put, List.setIfInBounds_toArray, List.set_cons_zero, List.set_cons_succ]
    refine' wpAnyH_take (i := 4) (v := _) rfl (by kernel_rfl) (by kernel_rfl) (by kernel_rfl) (fun _ _ _ h => h) (Or.inl ⟨by rfl, ?gy40⟩) (by assumption) ?gr40
    case gy40 => (intro w hSw; (try dsimp only at hSw); go_simp; (try with_reducible rfl))
    try simp only [List.getElem_toArray, List.getElem_cons_zero, List.getElem_cons_succ, Act.put, List.setIfInBounds_toArray, List.set_cons_zero, List.set_cons_succ]
    refine' wpAnyH_take (i := 5) (v := _) rfl (by kernel_rfl) (by kernel_rfl) (by kernel_rfl) (fun _ _ _ h => h) (Or.inl ⟨by rfl, ?gy41⟩) (by assumption) ?gr41
    case gy41 => (intro w hSw; (try dsimp only at hSw); go_simp; (try with_reducible rfl))
    try simp only [List.getElem_toArray, List.getElem_cons_zero, List.getElem_cons_succ, Act.put, List.setIfInBounds_toArray, List.set_cons_zero, List.set_cons_succ]
    refine' wpAnyH_take (i := 6) (v := _) rfl (by kernel_rfl) (by kernel_rfl) (by kernel_rfl) (fun _ _ _ h => h) (Or.inl ⟨by rfl, ?gy42⟩) (by assumption) ?gr42
    case gy42 => (intro w hSw; (try dsimp only at hSw); go_simp; (try with_reducible rfl))
    try simp only [List.getElem_toArray, List.getElem_cons_zero, List.getElem_cons_succ, Act.put, List.setIfInBounds_toArray, List.set_cons_zero, List.set_cons_succ]
    refine' wpAnyH_take (i := 7) (v := _) rfl (by kernel_rfl) (by kernel_rfl) (by kernel_rfl) (fun _ _ _ h => h) (Or.inl ⟨by rfl, ?gy43⟩) (by assumption) ?gr43
    case gy43 => (intro w hSw; (try dsimp only at hSw); go_simp; (try with_reducible rfl))
    try simp only [List.getElem_toArray, List.getElem_cons_zero, List.getElem_cons_succ, Act.put, List.setIfInBounds_toArray, List.set_cons_zero, List.set_cons_succ]
    refine wpAnyH_ready (rs := [8]) (by kernel_rfl) (by simp) (AllReadyH.cons rfl (fun K hK => ?_) AllReadyH.nil)
    go_simp
    refine (TL.out _).mono ?_; rintro e wz ⟨rfl, hbz⟩; have Dz := chnN (W0 := w) hbz (by assumption); have Pz := LB.keep (n := w.heap.size) hbz (by assumption); clear hbz
    try go_wp2_with fail
    clear hHeld
    refine hK.out _ _ (LB.cells (n := w.heap.size) (by assumption)) (fun hHeld => ?_)
    clear hK K
    try simp only [List.getElem_toArray, List.getElem_cons_zero, List.getElem_cons_succ, Act.put, List.setIfInBounds_toArray, List.set_cons_zero, List.set_cons_succ]
    refine wpAnyH_ready (rs := [9]) (by kernel_rfl) (by simp) (AllReadyH.cons rfl (fun K hK => ?_) AllReadyH.nil)
    go_simp
    refine (I2.out _ (by assumption)).mono ?_; rintro e wz ⟨rfl, hbz⟩; have Dz := chnN (W0 := w) hbz (by assumption); have Pz := LB.keep (n := w.heap.size) hbz (by assumption); clear hbz
    try go_wp2_with fail
    clear hHeld
    refine hK.out _ _ (LB.cells (n := w.heap.size) (by assumption)) (fun hHeld => ?_)
    clear hK K
    try simp only [List.getElem_toArray, List.getElem_cons_zero, List.getElem_cons_succ, Act.put, List.setIfInBounds_toArray, List.set_cons_zero, List.set_cons_succ]
    refine' wpAnyH_take (i := 10) (v := _) rfl (by kernel_rfl) (by kernel_rfl) (by kernel_rfl) (fun _ _ _ h => h) (Or.inl ⟨by rfl, ?gy46⟩) (by assumption) ?gr46
    case gy46 => (intro w hSw; (try dsimp only at hSw); go_simp; (try with_reducible rfl))
    try simp only [List.getElem_toArray, List.getElem_cons_zero, List.getElem_cons_succ, Act.put, List.setIfInBounds_toArray, List.set_cons_zero, List.set_cons_succ]
    refine' wpAnyH_take (i := 11) (v := _) rfl (by kernel_rfl) (by kernel_rfl) (by kernel_rfl) (fun _ _ _ h => h) (Or.inl ⟨by rfl, ?gy47⟩) (by assumption) ?gr47
    case gy47 => (intro w hSw; (try dsimp only at hSw); go_simp; (try with_reducible rfl))
    try simp only [List.getElem_toArray, List.getElem_cons_zero, List.getElem_cons_succ, Act.put, List.setIfInBounds_toArray, List.set_cons_zero, List.set_cons_succ]
    refine wpAnyH_done (by kernel_rfl) ?_ _
    cases x1
    · go_wp2_with fail
      go_ret
      exact ⟨by rw [HR1.out]; rfl, by assumption⟩
    clear D2 M2
    cases x2
    · have HV : Hid (res = if x3 then 5 else 0) := by show _ = _; rw [HR1.out]; rfl
      clear HR1
      go_wp2_with fail
      refine wp_region_held_drew (S := (fun w' => w'.cell? ⟨w.heap.size, 0, none⟩ = some (.slice A ds.length cap) ∧ w'.cell? ⟨w.heap.size, 1, none⟩ = some (.slice (some ⟨b, o, none⟩) ls.length cap') ∧ w'.cell? ⟨w.heap.size + 1, 0, none⟩ = some (.int .i64 la) ∧ w'.cell? ⟨w.heap.size + 1, 1, none⟩ = some (.int .i64 lp) ∧ w'.cell? ⟨w.heap.size + 1, 2, none⟩ = some (.int .i64 lb) ∧ w'.cell? ⟨w.heap.size + 1, 3, none⟩ = some (.int .i64 lq))) (by kernel_rfl) (LB.cells (n := w.heap.size) (by first | assumption | exact Below.drew (by assumption) | exact LB.drew (by assumption))) (fun hHeld => ?_)
      refine' wpAnyH_take (i := 0) (v := _) rfl (by kernel_rfl) (by kernel_rfl) (by kernel_rfl) (fun _ _ _ h => h) (Or.inl ⟨by rfl, ?gy14⟩) (by first | assumption | exact Below.drew (by assumption) | exact LB.drew (by assumption)) ?gr14
      case gy14 => (intro w hSw; (try dsimp only at hSw); go_simp; (try with_reducible rfl))
      try simp only [List.getElem_toArray, List.getElem_cons_zero, Act.put, List.setIfInBounds_toArray, List.set_cons_zero, List.set_cons_succ]
      refine' wpAnyH_take (i := 2) (v := _) rfl (by kernel_rfl) (by kernel_rfl) (by kernel_rfl) (fun _ _ _ h => h) (Or.inl ⟨by rfl, ?gy15⟩) (by first | assumption | exact Below.drew (by assumption) | exact LB.drew (by assumption)) ?gr15
      case gy15 => (intro w hSw; (try dsimp only at hSw); go_simp; (try with_reducible rfl))
      try simp only [List.getElem_toArray, List.getElem_cons_zero, List.getElem_cons_succ, Act.put, List.setIfInBounds_toArray, List.set_cons_zero, List.set_cons_succ]
      refine wpAnyH_ready (rs := [1]) (by kernel_rfl) (by simp) (AllReadyH.cons rfl (fun K hK => ?_) AllReadyH.nil)
      go_simp
      refine (FL.out _).mono ?_; rintro e wz ⟨rfl, hbz⟩; have Dz := chnN (W0 := w) hbz (by first | assumption | exact Below.drew (by assumption) | exact LB.drew (by assumption)); have Pz := LB.keep (n := w.heap.size) hbz (by first | assumption | exact Below.drew (by assumption) | exact LB.drew (by assumption)); clear hbz
      try go_wp2_with fail
      clear hHeld
      refine hK.out _ _ (LB.cells (n := w.heap.size) (by first | assumption | exact Below.drew (by assumption) | exact LB.drew (by assumption))) (fun hHeld => ?_)
      clear hK K
      try simp only [List.getElem_toArray, List.getElem_cons_zero, List.getElem_cons_succ, Act.put, List.setIfInBounds_toArray, List.set_cons_zero, List.set_cons_succ]
      refine wpAnyH_ready (rs := [3]) (by kernel_rfl) (by simp) (AllReadyH.cons rfl (fun K hK => ?_) AllReadyH.nil)
      go_simp
      refine (TL.out _).mono ?_; rintro e wz ⟨rfl, hbz⟩; have Dz := chnN (W0 := w) hbz (by first | assumption | exact Below.drew (by assumption) | exact LB.drew (by assumption)); have Pz := LB.keep (n := w.heap.size) hbz (by first | assumption | exact Below.drew (by assumption) | exact LB.drew (by assumption)); clear hbz
      try go_wp2_with fail
      clear hHeld
      refine hK.out _ _ (LB.cells (n := w.heap.size) (by first | assumption | exact Below.drew (by assumption) | exact LB.drew (by assumption))) (fun hHeld => ?_)
      clear hK K
      try simp only [List.getElem_toArray, List.getElem_cons_zero, List.getElem_cons_succ, Act.put, List.setIfInBounds_toArray, List.set_cons_zero, List.set_cons_succ]
      refine' wpAnyH_take (i := 4) (v := _) rfl (by kernel_rfl) (by kernel_rfl) (by kernel_rfl) (fun _ _ _ h => h) (Or.inl ⟨by rfl, ?gy18⟩) (by first | assumption | exact Below.drew (by assumption) | exact LB.drew (by assumption)) ?gr18
      case gy18 => (intro w hSw; (try dsimp only at hSw); go_simp; (try with_reducible rfl))
      try simp only [List.getElem_toArray, List.getElem_cons_zero, List.getElem_cons_succ, Act.put, List.setIfInBounds_toArray, List.set_cons_zero, List.set_cons_succ]
      refine' wpAnyH_take (i := 5) (v := _) rfl (by kernel_rfl) (by kernel_rfl) (by kernel_rfl) (fun _ _ _ h => h) (Or.inl ⟨by rfl, ?gy19⟩) (by first | assumption | exact Below.drew (by assumption) | exact LB.drew (by assumption)) ?gr19
      case gy19 => (intro w hSw; (try dsimp only at hSw); go_simp; (try with_reducible rfl))
      try simp only [List.getElem_toArray, List.getElem_cons_zero, List.getElem_cons_succ, Act.put, List.setIfInBounds_toArray, List.set_cons_zero, List.set_cons_succ]
      refine' wpAnyH_take (i := 6) (v := _) rfl (by kernel_rfl) (by kernel_rfl) (by kernel_rfl) (fun _ _ _ h => h) (Or.inl ⟨by rfl, ?gy20⟩) (by first | assumption | exact Below.drew (by assumption) | exact LB.drew (by assumption)) ?gr20
      case gy20 => (intro w hSw; (try dsimp only at hSw); go_simp; (try with_reducible rfl))
      try simp only [List.getElem_toArray, List.getElem_cons_zero, List.getElem_cons_succ, Act.put, List.setIfInBounds_toArray, List.set_cons_zero, List.set_cons_succ]
      refine' wpAnyH_take (i := 7) (v := _) rfl (by kernel_rfl) (by kernel_rfl) (by kernel_rfl) (fun _ _ _ h => h) (Or.inl ⟨by rfl, ?gy21⟩) (by first | assumption | exact Below.drew (by assumption) | exact LB.drew (by assumption)) ?gr21
      case gy21 => (intro w hSw; (try dsimp only at hSw); go_simp; (try with_reducible rfl))
      try simp only [List.getElem_toArray, List.getElem_cons_zero, List.getElem_cons_succ, Act.put, List.setIfInBounds_toArray, List.set_cons_zero, List.set_cons_succ]
      refine wpAnyH_ready (rs := [8]) (by kernel_rfl) (by simp) (AllReadyH.cons rfl (fun K hK => ?_) AllReadyH.nil)
      go_simp
      refine (CO.out _ (by first | assumption | exact Below.drew (by assumption) | exact LB.drew (by assumption)) (by first | assumption | exact Below.drew (by assumption) | exact LB.drew (by assumption))).mono ?_; rintro e wz ⟨rfl, hbz⟩; have Dz := chnN (W0 := w) hbz (by first | assumption | exact Below.drew (by assumption) | exact LB.drew (by assumption)); have Pz := LB.keep (n := w.heap.size) hbz (by first | assumption | exact Below.drew (by assumption) | exact LB.drew (by assumption)); clear hbz
      try go_wp2_with fail
      clear hHeld
      refine hK.out _ _ (LB.cells (n := w.heap.size) (by first | assumption | exact Below.drew (by assumption) | exact LB.drew (by assumption))) (fun hHeld => ?_)
      clear hK K
      try simp only [List.getElem_toArray, List.getElem_cons_zero, List.getElem_cons_succ, Act.put, List.setIfInBounds_toArray, List.set_cons_zero, List.set_cons_succ]
      refine' wpAnyH_take (i := 9) (v := _) rfl (by kernel_rfl) (by kernel_rfl) (by kernel_rfl) (fun _ _ _ h => h) (Or.inl ⟨by rfl, ?gy23⟩) (by first | assumption | exact Below.drew (by assumption) | exact LB.drew (by assumption)) ?gr23
      case gy23 => (intro w hSw; (try dsimp only at hSw); go_simp; (try with_reducible rfl))
      try simp only [List.getElem_toArray, List.getElem_cons_zero, List.getElem_cons_succ, Act.put, List.setIfInBounds_toArray, List.set_cons_zero, List.set_cons_succ]
      refine wpAnyH_done (by kernel_rfl) ?_ _
      cases x3
      · go_wp2_with fail
        go_ret
        exact ⟨by rw [HV.out]; rfl, by first | assumption | exact Below.drew (by assumption) | exact LB.drew (by assumption)⟩
      · go_wp2_with fail
        go_ret
        exact ⟨by rw [HV.out]; rfl, by first | assumption | exact Below.drew (by assumption) | exact LB.drew (by assumption)⟩
    · have HV : Hid (res = 5) := by show _ = _; rw [HR1.out]; rfl
      clear HR1
      go_wp2_with fail
      refine wp_region_held_drew (S := (fun w' => w'.cell? ⟨w.heap.size, 0, none⟩ = some (.slice A ds.length cap) ∧ w'.cell? ⟨w.heap.size, 1, none⟩ = some (.slice (some ⟨b, o, none⟩) ls.length cap') ∧ w'.cell? ⟨w.heap.size + 1, 0, none⟩ = some (.int .i64 la) ∧ w'.cell? ⟨w.heap.size + 1, 1, none⟩ = some (.int .i64 lp) ∧ w'.cell? ⟨w.heap.size + 1, 2, none⟩ = some (.int .i64 lb) ∧ w'.cell? ⟨w.heap.size + 1, 3, none⟩ = some (.int .i64 lq))) (by kernel_rfl) (LB.cells (n := w.heap.size) (by first | assumption | exact Below.drew (by assumption) | exact LB.drew (by assumption))) (fun hHeld => ?_)
      refine' wpAnyH_take (i := 0) (v := _) rfl (by kernel_rfl) (by kernel_rfl) (by kernel_rfl) (fun _ _ _ h => h) (Or.inl ⟨by rfl, ?gy25⟩) (by first | assumption | exact Below.drew (by assumption) | exact LB.drew (by assumption)) ?gr25
      case gy25 => (intro w hSw; (try dsimp only at hSw); go_simp; (try with_reducible rfl))
      try simp only [List.getElem_toArray, List.getElem_cons_zero, Act.put, List.setIfInBounds_toArray, List.set_cons_zero, List.set_cons_succ]
      refine' wpAnyH_take (i := 2) (v := _) rfl (by kernel_rfl) (by kernel_rfl) (by kernel_rfl) (fun _ _ _ h => h) (Or.inl ⟨by rfl, ?gy26⟩) (by first | assumption | exact Below.drew (by assumption) | exact LB.drew (by assumption)) ?gr26
      case gy26 => (intro w hSw; (try dsimp only at hSw); go_simp; (try with_reducible rfl))
      try simp only [List.getElem_toArray, List.getElem_cons_zero, List.getElem_cons_succ, Act.put, List.setIfInBounds_toArray, List.set_cons_zero, List.set_cons_succ]
      refine wpAnyH_ready (rs := [1]) (by kernel_rfl) (by simp) (AllReadyH.cons rfl (fun K hK => ?_) AllReadyH.nil)
      go_simp
      refine (FL.out _).mono ?_; rintro e wz ⟨rfl, hbz⟩; have Dz := chnN (W0 := w) hbz (by first | assumption | exact Below.drew (by assumption) | exact LB.drew (by assumption)); have Pz := LB.keep (n := w.heap.size) hbz (by first | assumption | exact Below.drew (by assumption) | exact LB.drew (by assumption)); clear hbz
      try go_wp2_with fail
      clear hHeld
      refine hK.out _ _ (LB.cells (n := w.heap.size) (by first | assumption | exact Below.drew (by assumption) | exact LB.drew (by assumption))) (fun hHeld => ?_)
      clear hK K
      try simp only [List.getElem_toArray, List.getElem_cons_zero, List.getElem_cons_succ, Act.put, List.setIfInBounds_toArray, List.set_cons_zero, List.set_cons_succ]
      refine wpAnyH_ready (rs := [3]) (by kernel_rfl) (by simp) (AllReadyH.cons rfl (fun K hK => ?_) AllReadyH.nil)
      go_simp
      refine (TL.out _).mono ?_; rintro e wz ⟨rfl, hbz⟩; have Dz := chnN (W0 := w) hbz (by first | assumption | exact Below.drew (by assumption) | exact LB.drew (by assumption)); have Pz := LB.keep (n := w.heap.size) hbz (by first | assumption | exact Below.drew (by assumption) | exact LB.drew (by assumption)); clear hbz
      try go_wp2_with fail
      clear hHeld
      refine hK.out _ _ (LB.cells (n := w.heap.size) (by first | assumption | exact Below.drew (by assumption) | exact LB.drew (by assumption))) (fun hHeld => ?_)
      clear hK K
      try simp only [List.getElem_toArray, List.getElem_cons_zero, List.getElem_cons_succ, Act.put, List.setIfInBounds_toArray, List.set_cons_zero, List.set_cons_succ]
      refine' wpAnyH_take (i := 4) (v := _) rfl (by kernel_rfl) (by kernel_rfl) (by kernel_rfl) (fun _ _ _ h => h) (Or.inl ⟨by rfl, ?gy29⟩) (by first | assumption | exact Below.drew (by assumption) | exact LB.drew (by assumption)) ?gr29
      case gy29 => (intro w hSw; (try dsimp only at hSw); go_simp; (try with_reducible rfl))
      try simp only [List.getElem_toArray, List.getElem_cons_zero, List.getElem_cons_succ, Act.put, List.setIfInBounds_toArray, List.set_cons_zero, List.set_cons_succ]
      refine' wpAnyH_take (i := 5) (v := _) rfl (by kernel_rfl) (by kernel_rfl) (by kernel_rfl) (fun _ _ _ h => h) (Or.inl ⟨by rfl, ?gy30⟩) (by first | assumption | exact Below.drew (by assumption) | exact LB.drew (by assumption)) ?gr30
      case gy30 => (intro w hSw; (try dsimp only at hSw); go_simp; (try with_reducible rfl))
      try simp only [List.getElem_toArray, List.getElem_cons_zero, List.getElem_cons_succ, Act.put, List.setIfInBounds_toArray, List.set_cons_zero, List.set_cons_succ]
      refine' wpAnyH_take (i := 6) (v := undef) rfl (by kernel_rfl) (by kernel_rfl) (by kernel_rfl) (fun _ _ _ h => h) (Or.inr ⟨by rfl, rfl⟩) (by first | assumption | exact Below.drew (by assumption) | exact LB.drew (by assumption)) ?gr31
      try simp only [List.getElem_toArray, List.getElem_cons_zero, List.getElem_cons_succ, Act.put, List.setIfInBounds_toArray, List.set_cons_zero, List.set_cons_succ]
      refine' wpAnyH_take (i := 7) (v := undef) rfl (by kernel_rfl) (by kernel_rfl) (by kernel_rfl) (fun _ _ _ h => h) (Or.inr ⟨by rfl, rfl⟩) (by first | assumption | exact Below.drew (by assumption) | exact LB.drew (by assumption)) ?gr32
      try simp only [List.getElem_toArray, List.getElem_cons_zero, List.getElem_cons_succ, Act.put, List.setIfInBounds_toArray, List.set_cons_zero, List.set_cons_succ]
      refine' wpAnyH_take (i := 8) (v := undef) rfl (by kernel_rfl) (by kernel_rfl) (by kernel_rfl) (fun _ _ _ h => h) (Or.inr ⟨by rfl, rfl⟩) (by first | assumption | exact Below.drew (by assumption) | exact LB.drew (by assumption)) ?gr33
      try simp only [List.getElem_toArray, List.getElem_cons_zero, List.getElem_cons_succ, Act.put, List.setIfInBounds_toArray, List.set_cons_zero, List.set_cons_succ]
      refine' wpAnyH_take (i := 9) (v := _) rfl (by kernel_rfl) (by kernel_rfl) (by kernel_rfl) (fun _ _ _ h => h) (Or.inl ⟨by rfl, ?gy34⟩) (by first | assumption | exact Below.drew (by assumption) | exact LB.drew (by assumption)) ?gr34
      case gy34 => (intro w hSw; (try dsimp only at hSw); go_simp; (try with_reducible rfl))
      try simp only [List.getElem_toArray, List.getElem_cons_zero, List.getElem_cons_succ, Act.put, List.setIfInBounds_toArray, List.set_cons_zero, List.set_cons_succ]
      refine wpAnyH_done (by kernel_rfl) ?_ _
      go_wp2_with fail
      go_ret
      exact ⟨by rw [HV.out]; rfl, by first | assumption | exact Below.drew (by assumption) | exact LB.drew (by assumption)⟩
end Go.Proofs.Ythioedgnambomaa
