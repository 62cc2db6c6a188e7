/-
  XAG.
-/
import Derived.Test.YtlmmeppifkigeaaGreatXAF
set_option maxHeartbeats 8000000
set_option maxRecDepth 100000
namespace Go.Proofs.YtlmmeppifkigeaaGreat
open Go.RowKit Go.Maps
theorem sendW_hide (m : Mp) (ds : List Dv) (ls : List Lk) (n : Nat) (M : Mnd) (i : Nat) (d : Dv) (q : Int) (p : Pk) (c : Int) (r : SR) (w : World) (hM : Hid (MemAt w m ds ls n M)) (hx : Hid (ds[i]? = some d)) (hk : d.kind = 4) (hq : (q == 0) = true)
  (CF : Hid (∀ W, MemAt W m ds ls n M -> Calls Tryz.prog 128 #[.pointer (some ⟨m.B, m.z, none⟩), .int .i64 (i : Int), pkV p, .int .i64 c] W (SPost m W r))) :
  Calls Tryz.prog 96 #[.pointer (some ⟨m.B, m.z, none⟩), plA (i : Int) q, pkV p, .int .i64 c] w (SPost m w r) := by
 have M2 := ((hM.out.alloc (.cells #[.int .i64 (i : Int), .int .i64 q] 43)).alloc (pkC p)).alloc lvC
 have D2 := Below.alN (Below.alN (Below.alN (Below.refl w.heap.size w) (.cells #[.int .i64 (i : Int), .int .i64 q] 43)) (pkC p)) lvC
 have L2 := bk_new' ((w.alloc (.cells #[.int .i64 (i : Int), .int .i64 q] 43)).alloc (pkC p)) #[.int .i64 0, .int .i64 0, .int .i64 0, .int .i64 0, .int .i64 0, .nilFunc] 190 (w.heap.size + 1 + 1) (by simp)
 obtain ⟨q0, _, _, _, _⟩ := M2.cells
 obtain ⟨b, o, vb, vr, vt, eA, HD, k1, k2⟩ := M2.dev hx.out
 rw [eA] at q0
 obtain ⟨c0, c1, c2, c3, c4, c5, c6, s1, s2, s3⟩ := HD
 rw [hk] at c1
 obtain ⟨s, dd, sp, dp⟩ := p
 clear hM hx eA s1 s2 s3 c0 c2 c3 c4 c5 c6
 go_enter Tryz.func96, Tryz.ntmps96
 go_wp2_with fail
 go_region
 clear c1 q0
 go_wp2_with fail
 refine (CF.out _ M2.drew).mono ?_
 rintro e w5 ⟨q2, p2, fv, er, rfl, HQ, hb5⟩
 have D5 := chnN hb5 D2.drew
 have L5 := L2.drew.keep hb5
 have zN : w.heap.size + 1 + 1 < (World.heap (((w.alloc (.cells #[.int .i64 (i : Int), .int .i64 q] 43)).alloc (pkC ⟨s, dd, sp, dp⟩)).alloc lvC).drew).size := L2.lt
 have zM : w.heap.size <= (World.heap (((w.alloc (.cells #[.int .i64 (i : Int), .int .i64 q] 43)).alloc (pkC ⟨s, dd, sp, dp⟩)).alloc lvC).drew).size := by omega
 obtain ⟨⟨l0, l1, l2, l3, l4, l5⟩, ⟨f0, f1, f2, f3, f4, f5⟩⟩ := L5.six
 obtain ⟨ps, pd, psp, pdp⟩ := p2
 rcases HQ.out.2.1 with rfl | ⟨fn, cp, rfl⟩
 ·go_wp2_with fail
  refine bodyPost_ret (v := .tuple #[.agg #[.int .i64 q2, .int .i64 ps, .int .i64 pd, .int .i64 psp, .int .i64 pdp, .nilFunc], .int .i64 er]) (by simp [results, Tryz.results96, go_sem, l0, l1, l2, l3, l4, l5]) rfl ⟨q2, ⟨ps, pd, psp, pdp⟩, _, er, rfl, ?_, ?_⟩
  ·exact spost_up HQ.out zN zM (fun b hb => set6_block hb _ _ _ _ _ _)
  ·go_grown
 ·go_wp2_with fail
  refine bodyPost_ret (v := .tuple #[.agg #[.int .i64 q2, .int .i64 ps, .int .i64 pd, .int .i64 psp, .int .i64 pdp, .func fn #[] cp], .int .i64 er]) (by simp [results, Tryz.results96, go_sem, l0, l1, l2, l3, l4, l5]) rfl ⟨q2, ⟨ps, pd, psp, pdp⟩, _, er, rfl, ?_, ?_⟩
  ·exact spost_up HQ.out zN zM (fun b hb => set6_block hb _ _ _ _ _ _)
  ·go_grown
theorem sendW_unhide (m : Mp) (ds : List Dv) (ls : List Lk) (n : Nat) (M : Mnd) (i : Nat) (d : Dv) (q : Int) (p : Pk) (c : Int) (r : SR) (w : World) (hM : Hid (MemAt w m ds ls n M)) (hx : Hid (ds[i]? = some d)) (hk : d.kind = 4) (hq : (q == 0) = false)
  (CF : Hid (∀ W, MemAt W m ds ls n M -> Calls Tryz.prog 129 #[.pointer (some ⟨m.B, m.z, none⟩), .int .i64 (i : Int), pkV p] W (SPost m W r))) :
  Calls Tryz.prog 96 #[.pointer (some ⟨m.B, m.z, none⟩), plA (i : Int) q, pkV p, .int .i64 c] w (SPost m w r) := by
 have M2 := ((hM.out.alloc (.cells #[.int .i64 (i : Int), .int .i64 q] 43)).alloc (pkC p)).alloc lvC
 have D2 := Below.alN (Below.alN (Below.alN (Below.refl w.heap.size w) (.cells #[.int .i64 (i : Int), .int .i64 q] 43)) (pkC p)) lvC
 have L2 := bk_new' ((w.alloc (.cells #[.int .i64 (i : Int), .int .i64 q] 43)).alloc (pkC p)) #[.int .i64 0, .int .i64 0, .int .i64 0, .int .i64 0, .int .i64 0, .nilFunc] 190 (w.heap.size + 1 + 1) (by simp)
 obtain ⟨q0, _, _, _, _⟩ := M2.cells
 obtain ⟨b, o, vb, vr, vt, eA, HD, k1, k2⟩ := M2.dev hx.out
 rw [eA] at q0
 obtain ⟨c0, c1, c2, c3, c4, c5, c6, s1, s2, s3⟩ := HD
 rw [hk] at c1
 obtain ⟨s, dd, sp, dp⟩ := p
 clear hM hx eA s1 s2 s3 c0 c2 c3 c4 c5 c6
 go_enter Tryz.func96, Tryz.ntmps96
 go_wp2_with fail
 go_region
 clear c1 q0
 go_wp2_with fail
 refine (CF.out _ M2.drew).mono ?_
 rintro e w5 ⟨q2, p2, fv, er, rfl, HQ, hb5⟩
 have D5 := chnN hb5 D2.drew
 have L5 := L2.drew.keep hb5
 have zN : w.heap.size + 1 + 1 < (World.heap (((w.alloc (.cells #[.int .i64 (i : Int), .int .i64 q] 43)).alloc (pkC ⟨s, dd, sp, dp⟩)).alloc lvC).drew).size := L2.lt
 have zM : w.heap.size <= (World.heap (((w.alloc (.cells #[.int .i64 (i : Int), .int .i64 q] 43)).alloc (pkC ⟨s, dd, sp, dp⟩)).alloc lvC).drew).size := by omega
 obtain ⟨⟨l0, l1, l2, l3, l4, l5⟩, ⟨f0, f1, f2, f3, f4, f5⟩⟩ := L5.six
 obtain ⟨ps, pd, psp, pdp⟩ := p2
 rcases HQ.out.2.1 with rfl | ⟨fn, cp, rfl⟩
 ·go_wp2_with fail
  refine bodyPost_ret (v := .tuple #[.agg #[.int .i64 q2, .int .i64 ps, .int .i64 pd, .int .i64 psp, .int .i64 pdp, .nilFunc], .int .i64 er]) (by simp [results, Tryz.results96, go_sem, l0, l1, l2, l3, l4, l5]) rfl ⟨q2, ⟨ps, pd, psp, pdp⟩, _, er, rfl, ?_, ?_⟩
  ·exact spost_up HQ.out zN zM (fun b hb => set6_block hb _ _ _ _ _ _)
  ·go_grown
 ·go_wp2_with fail
  refine bodyPost_ret (v := .tuple #[.agg #[.int .i64 q2, .int .i64 ps, .int .i64 pd, .int .i64 psp, .int .i64 pdp, .func fn #[] cp], .int .i64 er]) (by simp [results, Tryz.results96, go_sem, l0, l1, l2, l3, l4, l5]) rfl ⟨q2, ⟨ps, pd, psp, pdp⟩, _, er, rfl, ?_, ?_⟩
  ·exact spost_up HQ.out zN zM (fun b hb => set6_block hb _ _ _ _ _ _)
  ·go_grown
theorem sendW_spread (m : Mp) (ds : List Dv) (ls : List Lk) (n : Nat) (M : Mnd) (i : Nat) (d : Dv) (q : Int) (p : Pk) (c : Int) (r : SR) (w : World) (hM : Hid (MemAt w m ds ls n M)) (hx : Hid (ds[i]? = some d)) (hk : d.kind = 5) (hq : (q == 0) = true)
  (CF : Hid (∀ W, MemAt W m ds ls n M -> Calls Tryz.prog 130 #[.pointer (some ⟨m.B, m.z, none⟩), .int .i64 (i : Int), pkV p, .int .i64 c] W (SPost m W r))) :
  Calls Tryz.prog 96 #[.pointer (some ⟨m.B, m.z, none⟩), plA (i : Int) q, pkV p, .int .i64 c] w (SPost m w r) := by
 have M2 := ((hM.out.alloc (.cells #[.int .i64 (i : Int), .int .i64 q] 43)).alloc (pkC p)).alloc lvC
 have D2 := Below.alN (Below.alN (Below.alN (Below.refl w.heap.size w) (.cells #[.int .i64 (i : Int), .int .i64 q] 43)) (pkC p)) lvC
 have L2 := bk_new' ((w.alloc (.cells #[.int .i64 (i : Int), .int .i64 q] 43)).alloc (pkC p)) #[.int .i64 0, .int .i64 0, .int .i64 0, .int .i64 0, .int .i64 0, .nilFunc] 190 (w.heap.size + 1 + 1) (by simp)
 obtain ⟨q0, _, _, _, _⟩ := M2.cells
 obtain ⟨b, o, vb, vr, vt, eA, HD, k1, k2⟩ := M2.dev hx.out
 rw [eA] at q0
 obtain ⟨c0, c1, c2, c3, c4, c5, c6, s1, s2, s3⟩ := HD
 rw [hk] at c1
 obtain ⟨s, dd, sp, dp⟩ := p
 clear hM hx eA s1 s2 s3 c0 c2 c3 c4 c5 c6
 go_enter Tryz.func96, Tryz.ntmps96
 go_wp2_with fail
 go_region
 clear c1 q0
 go_wp2_with fail
 refine (CF.out _ M2.drew).mono ?_
 rintro e w5 ⟨q2, p2, fv, er, rfl, HQ, hb5⟩
 have D5 := chnN hb5 D2.drew
 have L5 := L2.drew.keep hb5
 have zN : w.heap.size + 1 + 1 < (World.heap (((w.alloc (.cells #[.int .i64 (i : Int), .int .i64 q] 43)).alloc (pkC ⟨s, dd, sp, dp⟩)).alloc lvC).drew).size := L2.lt
 have zM : w.heap.size <= (World.heap (((w.alloc (.cells #[.int .i64 (i : Int), .int .i64 q] 43)).alloc (pkC ⟨s, dd, sp, dp⟩)).alloc lvC).drew).size := by omega
 obtain ⟨⟨l0, l1, l2, l3, l4, l5⟩, ⟨f0, f1, f2, f3, f4, f5⟩⟩ := L5.six
 obtain ⟨ps, pd, psp, pdp⟩ := p2
 rcases HQ.out.2.1 with rfl | ⟨fn, cp, rfl⟩
 ·go_wp2_with fail
  refine bodyPost_ret (v := .tuple #[.agg #[.int .i64 q2, .int .i64 ps, .int .i64 pd, .int .i64 psp, .int .i64 pdp, .nilFunc], .int .i64 er]) (by simp [results, Tryz.results96, go_sem, l0, l1, l2, l3, l4, l5]) rfl ⟨q2, ⟨ps, pd, psp, pdp⟩, _, er, rfl, ?_, ?_⟩
  ·exact spost_up HQ.out zN zM (fun b hb => set6_block hb _ _ _ _ _ _)
  ·go_grown
 ·go_wp2_with fail
  refine bodyPost_ret (v := .tuple #[.agg #[.int .i64 q2, .int .i64 ps, .int .i64 pd, .int .i64 psp, .int .i64 pdp, .func fn #[] cp], .int .i64 er]) (by simp [results, Tryz.results96, go_sem, l0, l1, l2, l3, l4, l5]) rfl ⟨q2, ⟨ps, pd, psp, pdp⟩, _, er, rfl, ?_, ?_⟩
  ·exact spost_up HQ.out zN zM (fun b hb => set6_block hb _ _ _ _ _ _)
  ·go_grown
theorem sendW_gather (m : Mp) (ds : List Dv) (ls : List Lk) (n : Nat) (M : Mnd) (i : Nat) (d : Dv) (q : Int) (p : Pk) (c : Int) (r : SR) (w : World) (hM : Hid (MemAt w m ds ls n M)) (hx : Hid (ds[i]? = some d)) (hk : d.kind = 5) (hq : (q == 0) = false)
  (CF : Hid (∀ W, MemAt W m ds ls n M -> Calls Tryz.prog 131 #[.pointer (some ⟨m.B, m.z, none⟩), .int .i64 (i : Int), pkV p] W (SPost m W r))) :
  Calls Tryz.prog 96 #[.pointer (some ⟨m.B, m.z, none⟩), plA (i : Int) q, pkV p, .int .i64 c] w (SPost m w r) := by
 have M2 := ((hM.out.alloc (.cells #[.int .i64 (i : Int), .int .i64 q] 43)).alloc (pkC p)).alloc lvC
 have D2 := Below.alN (Below.alN (Below.alN (Below.refl w.heap.size w) (.cells #[.int .i64 (i : Int), .int .i64 q] 43)) (pkC p)) lvC
 have L2 := bk_new' ((w.alloc (.cells #[.int .i64 (i : Int), .int .i64 q] 43)).alloc (pkC p)) #[.int .i64 0, .int .i64 0, .int .i64 0, .int .i64 0, .int .i64 0, .nilFunc] 190 (w.heap.size + 1 + 1) (by simp)
 obtain ⟨q0, _, _, _, _⟩ := M2.cells
 obtain ⟨b, o, vb, vr, vt, eA, HD, k1, k2⟩ := M2.dev hx.out
 rw [eA] at q0
 obtain ⟨c0, c1, c2, c3, c4, c5, c6, s1, s2, s3⟩ := HD
 rw [hk] at c1
 obtain ⟨s, dd, sp, dp⟩ := p
 clear hM hx eA s1 s2 s3 c0 c2 c3 c4 c5 c6
 go_enter Tryz.func96, Tryz.ntmps96
 go_wp2_with fail
 go_region
 clear c1 q0
 go_wp2_with fail
 refine (CF.out _ M2.drew).mono ?_
 rintro e w5 ⟨q2, p2, fv, er, rfl, HQ, hb5⟩
 have D5 := chnN hb5 D2.drew
 have L5 := L2.drew.keep hb5
 have zN : w.heap.size + 1 + 1 < (World.heap (((w.alloc (.cells #[.int .i64 (i : Int), .int .i64 q] 43)).alloc (pkC ⟨s, dd, sp, dp⟩)).alloc lvC).drew).size := L2.lt
 have zM : w.heap.size <= (World.heap (((w.alloc (.cells #[.int .i64 (i : Int), .int .i64 q] 43)).alloc (pkC ⟨s, dd, sp, dp⟩)).alloc lvC).drew).size := by omega
 obtain ⟨⟨l0, l1, l2, l3, l4, l5⟩, ⟨f0, f1, f2, f3, f4, f5⟩⟩ := L5.six
 obtain ⟨ps, pd, psp, pdp⟩ := p2
 rcases HQ.out.2.1 with rfl | ⟨fn, cp, rfl⟩
 ·go_wp2_with fail
  refine bodyPost_ret (v := .tuple #[.agg #[.int .i64 q2, .int .i64 ps, .int .i64 pd, .int .i64 psp, .int .i64 pdp, .nilFunc], .int .i64 er]) (by simp [results, Tryz.results96, go_sem, l0, l1, l2, l3, l4, l5]) rfl ⟨q2, ⟨ps, pd, psp, pdp⟩, _, er, rfl, ?_, ?_⟩
  ·exact spost_up HQ.out zN zM (fun b hb => set6_block hb _ _ _ _ _ _)
  ·go_grown
 ·go_wp2_with fail
  refine bodyPost_ret (v := .tuple #[.agg #[.int .i64 q2, .int .i64 ps, .int .i64 pd, .int .i64 psp, .int .i64 pdp, .func fn #[] cp], .int .i64 er]) (by simp [results, Tryz.results96, go_sem, l0, l1, l2, l3, l4, l5]) rfl ⟨q2, ⟨ps, pd, psp, pdp⟩, _, er, rfl, ?_, ?_⟩
  ·exact spost_up HQ.out zN zM (fun b hb => set6_block hb _ _ _ _ _ _)
  ·go_grown
theorem send_stay (m : Mp) (ds : List Dv) (ls : List Lk) (n : Nat) (M : Mnd) (i : Nat) (d : Dv) (q : Int) (p : Pk) (c : Int) (r : SR) (w : World) (hM : Hid (MemAt w m ds ls n M)) (hx : Hid (ds[i]? = some d)) (hk : ¬ (d.kind = 2 ∨ d.kind = 3 ∨ d.kind = 4 ∨ d.kind = 5))
  (CF : Hid (∀ W, MemAt W m ds ls n M -> Calls Tryz.prog 132 #[] W (SPost m W r))) :
  Calls Tryz.prog 96 #[.pointer (some ⟨m.B, m.z, none⟩), plA (i : Int) q, pkV p, .int .i64 c] w (SPost m w r) := by
 have M2 := ((hM.out.alloc (.cells #[.int .i64 (i : Int), .int .i64 q] 43)).alloc (pkC p)).alloc lvC
 have D2 := Below.alN (Below.alN (Below.alN (Below.refl w.heap.size w) (.cells #[.int .i64 (i : Int), .int .i64 q] 43)) (pkC p)) lvC
 have L2 := bk_new' ((w.alloc (.cells #[.int .i64 (i : Int), .int .i64 q] 43)).alloc (pkC p)) #[.int .i64 0, .int .i64 0, .int .i64 0, .int .i64 0, .int .i64 0, .nilFunc] 190 (w.heap.size + 1 + 1) (by simp)
 obtain ⟨q0, _, _, _, _⟩ := M2.cells
 obtain ⟨b, o, vb, vr, vt, eA, HD, k1, k2⟩ := M2.dev hx.out
 rw [eA] at q0
 obtain ⟨c0, c1, c2, c3, c4, c5, c6, s1, s2, s3⟩ := HD
 have kk2 : (d.kind == 2) = false := by simp; omega
 have kk3 : (d.kind == 3) = false := by simp; omega
 have kk4 : (d.kind == 4) = false := by simp; omega
 have kk5 : (d.kind == 5) = false := by simp; omega
 clear hk
 generalize d.kind = kd at *
 obtain ⟨s, dd, sp, dp⟩ := p
 clear hM hx eA s1 s2 s3 c0 c2 c3 c4 c5 c6
 go_enter Tryz.func96, Tryz.ntmps96
 go_wp2_with fail
 go_region
 clear c1 q0
 go_wp2_with fail
 refine (CF.out _ M2.drew).mono ?_
 rintro e w5 ⟨q2, p2, fv, er, rfl, HQ, hb5⟩
 have D5 := chnN hb5 D2.drew
 have L5 := L2.drew.keep hb5
 have zN : w.heap.size + 1 + 1 < (World.heap (((w.alloc (.cells #[.int .i64 (i : Int), .int .i64 q] 43)).alloc (pkC ⟨s, dd, sp, dp⟩)).alloc lvC).drew).size := L2.lt
 have zM : w.heap.size <= (World.heap (((w.alloc (.cells #[.int .i64 (i : Int), .int .i64 q] 43)).alloc (pkC ⟨s, dd, sp, dp⟩)).alloc lvC).drew).size := by omega
 obtain ⟨⟨l0, l1, l2, l3, l4, l5⟩, ⟨f0, f1, f2, f3, f4, f5⟩⟩ := L5.six
 obtain ⟨ps, pd, psp, pdp⟩ := p2
 rcases HQ.out.2.1 with rfl | ⟨fn, cp, rfl⟩
 ·go_wp2_with fail
  refine bodyPost_ret (v := .tuple #[.agg #[.int .i64 q2, .int .i64 ps, .int .i64 pd, .int .i64 psp, .int .i64 pdp, .nilFunc], .int .i64 er]) (by simp [results, Tryz.results96, go_sem, l0, l1, l2, l3, l4, l5]) rfl ⟨q2, ⟨ps, pd, psp, pdp⟩, _, er, rfl, ?_, ?_⟩
  ·exact spost_up HQ.out zN zM (fun b hb => set6_block hb _ _ _ _ _ _)
  ·go_grown
 ·go_wp2_with fail
  refine bodyPost_ret (v := .tuple #[.agg #[.int .i64 q2, .int .i64 ps, .int .i64 pd, .int .i64 psp, .int .i64 pdp, .func fn #[] cp], .int .i64 er]) (by simp [results, Tryz.results96, go_sem, l0, l1, l2, l3, l4, l5]) rfl ⟨q2, ⟨ps, pd, psp, pdp⟩, _, er, rfl, ?_, ?_⟩
  ·exact spost_up HQ.out zN zM (fun b hb => set6_block hb _ _ _ _ _ _)
  ·go_grown
theorem route_any (m : Mp) (ds : List Dv) (ls : List Lk) (n : Nat) (M : Mnd) (i : Nat) (d : Dv) (p : Pk) (w : World) (hM : Hid (MemAt w m ds ls n M)) (hx : Hid (ds[i]? = some d)) :
  Calls Tryz.prog 125 #[.pointer (some ⟨m.B, m.z, none⟩), .int .i64 (i : Int), pkV p] w (SPost m w (routeP d p)) := by
 have M2 := (hM.out.alloc (pkC p)).alloc lvC
 have D2 := Below.alN (Below.alN (Below.refl w.heap.size w) (pkC p)) lvC
 have P2 := (bk_new w #[.int .i64 p.s, .int .i64 p.d, .int .i64 p.sp, .int .i64 p.dp] 36).alloc lvC
 have L2 := bk_new (w.alloc (pkC p)) #[.int .i64 0, .int .i64 0, .int .i64 0, .int .i64 0, .int .i64 0, .nilFunc] 190
 rw [World.size_alloc] at L2
 obtain ⟨q0, _, _, _, _⟩ := M2.cells
 obtain ⟨b, o, vb, vr, vt, eA, HD, k1, k2⟩ := M2.dev hx.out
 rw [eA] at q0
 obtain ⟨c0, c1, c2, c3, c4, c5, c6, s1, s2, s3⟩ := HD
 have FO : Hid (∀ W, Below ((w.alloc (pkC p)).alloc lvC).heap.size ((w.alloc (pkC p)).alloc lvC) W -> Calls Tryz.prog 151 #[vt, .int .i64 p.d] W fun e w' => e = .returned (.tuple #[.int .i64 (outN (routesOf d) p.d), .bool (outB (routesOf d) p.d)]) ∧ Below W.heap.size W w') := fun W h => out_any _ W ((s3.below h).mono h.size)
 have LT : Hid (∀ W, Below ((w.alloc (pkC p)).alloc lvC).heap.size ((w.alloc (pkC p)).alloc lvC) W -> Calls Tryz.prog 152 #[vr, pkV p] W fun e w' => e = .returned (.bool (letsB (rulesOf d) p.s p.d p.sp p.dp)) ∧ Below W.heap.size W w') := fun W h => lets_any _ _ _ _ W ((s2.below h).mono h.size)
 obtain ⟨Ab, cb, rfl, _, _, _, _⟩ := s1
 obtain ⟨Ar, cr, rfl, _, _, _, _⟩ := s2
 obtain ⟨At, ct, rfl, _, _, _, _⟩ := s3
 have PS : Hid (∀ (q : Int) (p : Pk) W, Calls Tryz.prog 153 #[.int .i64 q, pkV p] W fun e w' => e = .returned (.tuple #[lvA q p (.func (.func 173) #[] #[]), .int .i64 0]) ∧ Below W.heap.size W w') := fun q p W => pass_any q p W
 have SY : Hid (∀ W, Calls Tryz.prog 132 #[] W fun e w' => e = .returned (.tuple #[lvA 0 zeroP .nilFunc, .int .i64 7]) ∧ Below W.heap.size W w') := fun W => stay_any W
 generalize hr : routeP d p = r
 have HR : Hid (r = if outB (routesOf d) p.d && letsB (rulesOf d) p.s p.d p.sp p.dp then passR (outN (routesOf d) p.d) p else stayR 7) := hr.symm
 clear hr hx hM eA
 have E0 := Below.refl ((w.alloc (pkC p)).alloc lvC).heap.size ((w.alloc (pkC p)).alloc lvC)
 generalize outB (routesOf d) p.d = x0 at *
 generalize outN (routesOf d) p.d = q at *
 generalize letsB (rulesOf d) p.s p.d p.sp p.dp = x1 at *
 generalize (rulesOf d).length = nr at *
 generalize (routesOf d).length = nt at *
 generalize d.backs.length = nb at *
 generalize d.name = nm at *
 generalize d.kind = kd at *
 generalize d.addr = ad at *
 generalize d.pool = pl at *
 obtain ⟨s, dd, sp, dp⟩ := p
 simp only at *
 have E1 := Below.alN E0 (dvC nm kd ad pl (.slice Ab nb cb) (.slice Ar nr cr) (.slice At nt ct))
 have D3 := Below.alN D2 (dvC nm kd ad pl (.slice Ab nb cb) (.slice Ar nr cr) (.slice At nt ct))
 have P3 := P2.alloc (dvC nm kd ad pl (.slice Ab nb cb) (.slice Ar nr cr) (.slice At nt ct))
 have L3 := L2.alloc (dvC nm kd ad pl (.slice Ab nb cb) (.slice Ar nr cr) (.slice At nt ct))
 have V3 := bk_new ((w.alloc (pkC ⟨s, dd, sp, dp⟩)).alloc lvC) #[.string nm, .int .i64 kd, .int .i64 ad, .int .u8 (pl : Int), .slice Ab nb cb, .slice Ar nr cr, .slice At nt ct] 62
 simp only [World.size_alloc] at V3
 clear E0 D2 P2 L2 M2
 go_enter Tryz.func125, Tryz.ntmps125
 go_wp2_with fail
 refine (FO.out _ E1).mono ?_
 rintro e w4 ⟨rfl, hb4⟩
 have D4 := chnN hb4 D3
 have E4 := chnN hb4 E1
 have P4 := P3.keep hb4
 have L4 := L3.keep hb4
 have V4 := V3.keep hb4
 clear hb4 D3 E1 P3 L3 V3 c0 c1 c2 c3 c4 c5 c6 q0
 obtain ⟨p0, p1, p2, p3, _⟩ := P4.four
 obtain ⟨v0, v1, v2, v3, v4, v5, v6⟩ := V4.seven
 have z4 : w.heap.size + 1 < w4.heap.size := L4.lt
 cases x0
 ·have HV : Hid (r = stayR 7) := by show _ = _; rw [HR.out]; rfl
  go_wp2_with fail
  refine (SY.out _).mono ?_
  rintro e w9 ⟨rfl, hb9⟩
  have D9 := chnN hb9 D4
  have L9 := L4.keep hb9
  obtain ⟨⟨l0, l1, l2, l3, l4, l5⟩, ⟨f0, f1, f2, f3, f4, f5⟩⟩ := L9.six
  go_wp2_with fail
  refine bodyPost_ret (v := .tuple #[lvA 0 zeroP .nilFunc, .int .i64 7]) (by simp [results, Tryz.results125, go_sem, l0, l1, l2, l3, l4, l5]) rfl ⟨0, zeroP, .nilFunc, 7, rfl, ?_, ?_⟩
  ·rw [HV.out]
   exact ⟨rfl, Or.inl rfl, fun h => by cases h⟩
  ·go_grown
 go_wp2_with fail
 refine (LT.out _ E4).mono ?_
 rintro e w5 ⟨rfl, hb5⟩
 have D5 := chnN hb5 D4
 have P5 := P4.keep hb5
 have L5 := L4.keep hb5
 clear hb5 D4 P4 L4 V4 p0 p1 p2 p3 v0 v1 v2 v3 v4 v5 v6
 obtain ⟨p0, p1, p2, p3, _⟩ := P5.four
 have z5 : w.heap.size + 1 < w5.heap.size := L5.lt
 cases x1
 ·have HV : Hid (r = stayR 7) := by show _ = _; rw [HR.out]; rfl
  go_wp2_with fail
  refine (SY.out _).mono ?_
  rintro e w9 ⟨rfl, hb9⟩
  have D9 := chnN hb9 D5
  have L9 := L5.keep hb9
  obtain ⟨⟨l0, l1, l2, l3, l4, l5⟩, ⟨f0, f1, f2, f3, f4, f5⟩⟩ := L9.six
  go_wp2_with fail
  refine bodyPost_ret (v := .tuple #[lvA 0 zeroP .nilFunc, .int .i64 7]) (by simp [results, Tryz.results125, go_sem, l0, l1, l2, l3, l4, l5]) rfl ⟨0, zeroP, .nilFunc, 7, rfl, ?_, ?_⟩
  ·rw [HV.out]
   exact ⟨rfl, Or.inl rfl, fun h => by cases h⟩
  ·go_grown
 have HV : Hid (r = passR q ⟨s, dd, sp, dp⟩) := by show _ = _; rw [HR.out]; rfl
 go_wp2_with fail
 refine (PS.out _ ⟨s, dd, sp, dp⟩ _).mono ?_
 rintro e w9 ⟨rfl, hb9⟩
 have D9 := chnN hb9 D5
 have L9 := L5.keep hb9
 obtain ⟨⟨l0, l1, l2, l3, l4, l5⟩, ⟨f0, f1, f2, f3, f4, f5⟩⟩ := L9.six
 go_wp2_with fail
 refine bodyPost_ret (v := .tuple #[lvA q ⟨s, dd, sp, dp⟩ (.func (.func 173) #[] #[]), .int .i64 0]) (by simp [results, Tryz.results125, go_sem, l0, l1, l2, l3, l4, l5]) rfl ⟨_, _, _, 0, rfl, ?_, ?_⟩
 ·rw [HV.out]
  exact ⟨rfl, Or.inr ⟨_, _, rfl⟩, fun _ => ⟨rfl, rfl, rfl⟩⟩
 ·go_grown
theorem ask_any (m : Mp) (ds : List Dv) (ls : List Lk) (n : Nat) (M : Mnd) (i : Nat) (d : Dv) (p : Pk) (w : World) (hM : Hid (MemAt w m ds ls n M)) (hx : Hid (ds[i]? = some d)) (hp : Hid p.ok) (hi : Hid (i64ok (i : Int))) :
  Calls Tryz.prog 126 #[.pointer (some ⟨m.B, m.z, none⟩), .int .i64 (i : Int), pkV p] w (SPost m w (askP d i p)) := by
 have M2 := ((hM.out.alloc (.cells #[.pointer (some ⟨m.B, m.z, none⟩)] 74)).alloc (pkC p)).alloc lvC
 have D2 := Below.alN (Below.alN (Below.alN (Below.refl w.heap.size w) (.cells #[.pointer (some ⟨m.B, m.z, none⟩)] 74)) (pkC p)) lvC
 have B2 := ((bk_new w #[.pointer (some ⟨m.B, m.z, none⟩)] 74).alloc (pkC p)).alloc lvC
 have P2 := (bk_new (w.alloc (.cells #[.pointer (some ⟨m.B, m.z, none⟩)] 74)) #[.int .i64 p.s, .int .i64 p.d, .int .i64 p.sp, .int .i64 p.dp] 36).alloc lvC
 have L2 := bk_new ((w.alloc (.cells #[.pointer (some ⟨m.B, m.z, none⟩)] 74)).alloc (pkC p)) #[.int .i64 0, .int .i64 0, .int .i64 0, .int .i64 0, .int .i64 0, .nilFunc] 190
 simp only [World.size_alloc] at P2 L2
 obtain ⟨q0, _, _, _, _⟩ := M2.cells
 obtain ⟨b, o, vb, vr, vt, eA, HD, k1, k2⟩ := M2.dev hx.out
 rw [eA] at q0
 obtain ⟨c0, c1, c2, c3, c4, c5, c6, s1, s2, s3⟩ := HD
 have LT : Hid (∀ W, Below (((w.alloc (.cells #[.pointer (some ⟨m.B, m.z, none⟩)] 74)).alloc (pkC p)).alloc lvC).heap.size (((w.alloc (.cells #[.pointer (some ⟨m.B, m.z, none⟩)] 74)).alloc (pkC p)).alloc lvC) W -> Calls Tryz.prog 152 #[vr, pkV p] W fun e w' => e = .returned (.bool (letsB (rulesOf d) p.s p.d p.sp p.dp)) ∧ Below W.heap.size W w') := fun W h => lets_any _ _ _ _ W ((s2.below h).mono h.size)
 obtain ⟨Ab, cb, rfl, _, _, _, _⟩ := s1
 obtain ⟨Ar, cr, rfl, _, _, _, _⟩ := s2
 obtain ⟨At, ct, rfl, _, _, _, _⟩ := s3
 have SY : Hid (∀ W, Calls Tryz.prog 132 #[] W fun e w' => e = .returned (.tuple #[lvA 0 zeroP .nilFunc, .int .i64 7]) ∧ Below W.heap.size W w') := fun W => stay_any W
 generalize hr : askP d i p = r
 have HR : Hid (r = if letsB (rulesOf d) p.s p.d p.sp p.dp then ⟨0, 1, p, .flow i p⟩ else stayR 7) := hr.symm
 clear hr hx hM eA
 have E0 := (Below.refl (((w.alloc (.cells #[.pointer (some ⟨m.B, m.z, none⟩)] 74)).alloc (pkC p)).alloc lvC).heap.size (((w.alloc (.cells #[.pointer (some ⟨m.B, m.z, none⟩)] 74)).alloc (pkC p)).alloc lvC)).drew
 generalize letsB (rulesOf d) p.s p.d p.sp p.dp = x1 at *
 generalize (rulesOf d).length = nr at *
 generalize (routesOf d).length = nt at *
 generalize d.backs.length = nb at *
 generalize d.name = nm at *
 generalize d.kind = kd at *
 generalize d.addr = ad at *
 generalize d.pool = pl at *
 obtain ⟨s, dd, sp, dp⟩ := p
 simp only at *
 have B3 := B2.drew
 have P3 := P2.drew
 have L3 := L2.drew
 have D3 := D2.drew
 have Q0 : (((w.alloc (.cells #[.pointer (some ⟨m.B, m.z, none⟩)] 74)).alloc (pkC ⟨s, dd, sp, dp⟩)).alloc lvC).drew.cell? ⟨m.B, m.z, none⟩ = some (.slice (some ⟨b, o, none⟩) ds.length m.cap) := q0
 have C5 : (((w.alloc (.cells #[.pointer (some ⟨m.B, m.z, none⟩)] 74)).alloc (pkC ⟨s, dd, sp, dp⟩)).alloc lvC).drew.cell? ⟨b, o + i * 7 + 5, none⟩ = some (.slice Ar nr cr) := c5
 clear D2 M2
 obtain ⟨b0, _⟩ := B2.one
 obtain ⟨p0, p1, p2, p3, _⟩ := P2.four
 go_enter Tryz.func126, Tryz.ntmps126
 go_wp2_with fail
 go_region_held3 (fun w' => w'.cell? ⟨w.heap.size, 0, none⟩ = some (.pointer (some ⟨m.B, m.z, none⟩)) ∧ w'.cell? ⟨m.B, m.z, none⟩ = some (.slice (some ⟨b, o, none⟩) ds.length m.cap) ∧ w'.cell? ⟨b, o + i * 7 + 5, none⟩ = some (.slice Ar nr cr) ∧ w'.cell? ⟨w.heap.size + 1, 0, none⟩ = some (.int .i64 s) ∧ w'.cell? ⟨w.heap.size + 1, 1, none⟩ = some (.int .i64 dd) ∧ w'.cell? ⟨w.heap.size + 1, 2, none⟩ = some (.int .i64 sp) ∧ w'.cell? ⟨w.heap.size + 1, 3, none⟩ = some (.int .i64 dp)) (go_keep) ((go_at_call 152; refine (LT.out _ E0).mono ?_; rintro e w5 ⟨rfl, hb5⟩; have D5 := chnN hb5 D3; have B5 := B3.keep hb5; have P5 := P3.keep hb5; have L5 := L3.keep hb5; have q5 := (CK.of_below hb5).cell Q0; have c9 := (CK.of_below hb5).cell C5; obtain ⟨b5, _⟩ := B5.one; obtain ⟨g0, g1, g2, g3, _⟩ := P5.four))
 clear B3 P3 L3 D3 B2 P2 L2 b0 p0 p1 p2 p3 Q0 C5 q0 c0 c1 c2 c3 c4 c5 c6 q5 c9 hb5 LT E0
 have z5 : w.heap.size + 1 + 1 < w5.heap.size := L5.lt
 have z6 : w.heap.size + 1 < w5.heap.size := P5.lt
 have z7 : w.heap.size < w5.heap.size := B5.lt
 cases x1
 ·have HV : Hid (r = stayR 7) := by show _ = _; rw [HR.out]; rfl
  go_wp2_with fail
  refine (SY.out _).mono ?_
  rintro e w9 ⟨rfl, hb9⟩
  have D9 := chnN hb9 D5
  have L9 := L5.keep hb9
  obtain ⟨⟨l0, l1, l2, l3, l4, l5⟩, ⟨f0, f1, f2, f3, f4, f5⟩⟩ := L9.six
  go_wp2_with fail
  refine bodyPost_ret (v := .tuple #[lvA 0 zeroP .nilFunc, .int .i64 7]) (by simp [results, Tryz.results126, go_sem, l0, l1, l2, l3, l4, l5]) rfl ⟨0, zeroP, .nilFunc, 7, rfl, ?_, ?_⟩
  ·rw [HV.out]
   exact ⟨rfl, Or.inl rfl, fun h => by cases h⟩
  ·go_grown
 have HV : Hid (r = ⟨0, 1, ⟨s, dd, sp, dp⟩, .flow i ⟨s, dd, sp, dp⟩⟩) := by show _ = _; rw [HR.out]; rfl
 go_upto_region 3 with fail
 go_cut [8] (fun v8 wx => ∃ g, v8 = .pointer (some ⟨g, 0, none⟩) ∧ Bk wx g #[.int .i64 (i : Int), .int .i64 s, .int .i64 dd, .int .i64 sp, .int .i64 dp] 146 ∧ w.heap.size + 1 + 1 < g ∧ Bk wx w.heap.size #[.pointer (some ⟨m.B, m.z, none⟩)] 74 ∧ Bk wx (w.heap.size + 1) #[.int .i64 s, .int .i64 dd, .int .i64 sp, .int .i64 dp] 36 ∧ Bk wx (w.heap.size + 1 + 1) #[.int .i64 0, .int .i64 0, .int .i64 0, .int .i64 0, .int .i64 0, .nilFunc] 190 ∧ Below w.heap.size w wx)
 case first =>
  go_wp2_with fail
  go_meet
  exact ⟨_, rfl, bk_new w5 _ _, z5, B5.alloc _, P5.alloc _, L5.alloc _, Below.alN D5 _⟩
 case rest =>
  clear D5 B5 P5 L5 z5 z6 z7 b5 g0 g1 g2 g3
  obtain ⟨g, rfl, F6, zg, B6, P6, L6, D6⟩ := hcut
  obtain ⟨g0, g1, g2, g3, _⟩ := P6.four
  obtain ⟨⟨l0, l1, l2, l3, l4, l5⟩, ⟨f0, f1, f2, f3, f4, f5⟩⟩ := L6.six
  go_wp2_with fail
  refine bodyPost_ret (v := .tuple #[lvA 1 ⟨s, dd, sp, dp⟩ (.func (.func 154) #[] #[.pointer (some ⟨w.heap.size, 0, none⟩), .pointer (some ⟨g, 0, none⟩)]), .int .i64 0]) (by simp [results, Tryz.results126, go_sem, l0, l1, l2, l3, l4, l5]) rfl ⟨_, _, _, 0, rfl, ?_, ?_⟩
  ·rw [HV.out]
   obtain ⟨b0, _⟩ := B6.one
   obtain ⟨e0, e1, e2, e3, e4⟩ := F6.five
   exact ⟨rfl, Or.inr ⟨_, _, rfl⟩, fun _ => ⟨rfl, rfl, hi.out, hp.out, _, _, rfl, by omega, by omega, by simp [go_sem, b0], by simp [go_sem, e0], by simp [go_sem, e1], by simp [go_sem, e2], by simp [go_sem, e3], by simp [go_sem, e4]⟩⟩
  ·go_grown
theorem ansS {w' : World} {m : Mp} {ds : List Dv} {ls : List Lk} {n N : Nat} {M : Mnd} {i : Int} {s dd sp dp : Int} {x0 : Bool} (hM : MemAt w' m ds ls n M) (hP : Bk w' N #[.int .i64 s, .int .i64 dd, .int .i64 sp, .int .i64 dp] 36) (hi : i64ok i) (hp : (⟨s, dd, sp, dp⟩ : Pk).ok) (hx : (M.fl (i, ⟨dd, s, dp, sp⟩)).isSome = x0) :
  w'.cell? ⟨m.B, m.z + 2, none⟩ = some (.map (some m.f)) ∧ w'.cell? ⟨N, 0, none⟩ = some (.int .i64 s) ∧ w'.cell? ⟨N, 1, none⟩ = some (.int .i64 dd) ∧ w'.cell? ⟨N, 2, none⟩ = some (.int .i64 sp) ∧ w'.cell? ⟨N, 3, none⟩ = some (.int .i64 dp) ∧ (Instr.lookup 78 (.map (some m.f)) (.agg #[.int .i64 i, .int .i64 dd, .int .i64 s, .int .i64 dp, .int .i64 sp]) true).run Tryz.prog w' = .ok (.tuple #[.agg #[], .bool x0]) w' := by
 obtain ⟨p0, p1, p2, p3, _⟩ := hP.four
 have := hM.lookF (p := ⟨dd, s, dp, sp⟩) hi ⟨hp.d, hp.s, hp.dp, hp.sp⟩
 rw [hx] at this
 exact ⟨hM.cells.2.2.1, p0, p1, p2, p3, this⟩
theorem answerW_any (m : Mp) (ds : List Dv) (ls : List Lk) (n : Nat) (M : Mnd) (i : Nat) (p : Pk) (w : World) (hM : Hid (MemAt w m ds ls n M)) (hp : Hid p.ok) (hi : Hid (i64ok (i : Int))) :
  Calls Tryz.prog 127 #[.pointer (some ⟨m.B, m.z, none⟩), .int .i64 (i : Int), pkV p] w (SPost m w (answerP M i p)) := by
 have M2 := (hM.out.alloc (pkC p)).alloc lvC
 have D2 := Below.alN (Below.alN (Below.refl w.heap.size w) (pkC p)) lvC
 have P2 := (bk_new w #[.int .i64 p.s, .int .i64 p.d, .int .i64 p.sp, .int .i64 p.dp] 36).alloc lvC
 have L2 := bk_new (w.alloc (pkC p)) #[.int .i64 0, .int .i64 0, .int .i64 0, .int .i64 0, .int .i64 0, .nilFunc] 190
 rw [World.size_alloc] at L2
 have SY : Hid (∀ W, Calls Tryz.prog 132 #[] W fun e w' => e = .returned (.tuple #[lvA 0 zeroP .nilFunc, .int .i64 7]) ∧ Below W.heap.size W w') := fun W => stay_any W
 have PS : Hid (∀ (q : Int) (p : Pk) W, Calls Tryz.prog 153 #[.int .i64 q, pkV p] W fun e w' => e = .returned (.tuple #[lvA q p (.func (.func 173) #[] #[]), .int .i64 0]) ∧ Below W.heap.size W w') := fun q p W => pass_any q p W
 obtain ⟨s, dd, sp, dp⟩ := p
 simp only at *
 have FL : Hid (∀ w, Calls Tryz.prog 155 #[.agg #[.int .i64 s, .int .i64 dd, .int .i64 sp, .int .i64 dp]] w fun e w' => e = .returned (.agg #[.int .i64 dd, .int .i64 s, .int .i64 dp, .int .i64 sp]) ∧ Below w.heap.size w w') := fun w => pflip_any ⟨s, dd, sp, dp⟩ w
 generalize hr : answerP M i ⟨s, dd, sp, dp⟩ = r
 generalize hx : (M.fl ((i : Int), (⟨dd, s, dp, sp⟩ : Pk))).isSome = x0
 have HR : Hid (r = if x0 then passR 0 ⟨s, dd, sp, dp⟩ else stayR 7) := by
  show _ = _
  rw [<- hr, <- hx]
  rfl
 have HX : Hid ((M.fl ((i : Int), (⟨dd, s, dp, sp⟩ : Pk))).isSome = x0) := hx
 clear hr hx hM
 have D3 := D2.drew
 have M3 := M2.drew
 have P3 := P2.drew
 have L3 := L2.drew
 have D3a := (Below.alN D2 (.cells #[] 119)).drew
 have M3a := (M2.alloc (.cells #[] 119)).drew
 have P3a := (P2.alloc (.cells #[] 119)).drew
 have L3a := (L2.alloc (.cells #[] 119)).drew
 have S2 := ansS M2 P2 hi.out hp.out HX.out
 clear D2 M2 P2 L2
 obtain ⟨q0, p0, p1, p2, p3, lk⟩ := S2
 go_enter Tryz.func127, Tryz.ntmps127
 go_wp2_with fail
 go_cut [9] (fun v9 wx => v9 = .bool x0 ∧ Below w.heap.size w wx ∧ Bk wx w.heap.size #[.int .i64 s, .int .i64 dd, .int .i64 sp, .int .i64 dp] 36 ∧ Bk wx (w.heap.size + 1) #[.int .i64 0, .int .i64 0, .int .i64 0, .int .i64 0, .int .i64 0, .nilFunc] 190)
 case first =>
  go_region_held3 (fun w' => w'.cell? ⟨m.B, m.z + 2, none⟩ = some (.map (some m.f)) ∧ w'.cell? ⟨w.heap.size, 0, none⟩ = some (.int .i64 s) ∧ w'.cell? ⟨w.heap.size, 1, none⟩ = some (.int .i64 dd) ∧ w'.cell? ⟨w.heap.size, 2, none⟩ = some (.int .i64 sp) ∧ w'.cell? ⟨w.heap.size, 3, none⟩ = some (.int .i64 dp) ∧ (Instr.lookup 78 (.map (some m.f)) (.agg #[.int .i64 (i : Int), .int .i64 dd, .int .i64 s, .int .i64 dp, .int .i64 sp]) true).run Tryz.prog w' = .ok (.tuple #[.agg #[], .bool x0]) w') (exact ansS (by first | assumption | exact MemAt.alloc (by assumption) _) (by first | assumption | exact Bk.alloc (by assumption) _) hi.out hp.out HX.out) (first | (go_at_call 155; refine (FL.out _).mono ?_; rintro e w5 ⟨rfl, hb5⟩; have D5 := chnN hb5 D3; have M5 := M3.below hb5; have P5 := P3.keep hb5; have L5 := L3.keep hb5) | (go_at_call 155; refine (FL.out _).mono ?_; rintro e w5 ⟨rfl, hb5⟩; have D5 := chnN hb5 D3a; have M5 := M3a.below hb5; have P5 := P3a.keep hb5; have L5 := L3a.keep hb5))
  all_goals
   go_wp2_with fail
   go_meet
   exact ⟨rfl, by first | exact D5 | exact Below.alN D5 _, by first | exact P5 | exact P5.alloc _, by first | exact L5 | exact L5.alloc _⟩
 case rest =>
  clear D3 M3 P3 L3 D3a M3a P3a L3a q0 p0 p1 p2 p3 lk FL
  obtain ⟨rfl, D5, P5, L5⟩ := hcut
  obtain ⟨p0, p1, p2, p3, _⟩ := P5.four
  have z5 : w.heap.size + 1 < wc.heap.size := L5.lt
  cases x0
  ·have HV : Hid (r = stayR 7) := by show _ = _; rw [HR.out]; rfl
   go_wp2_with fail
   refine (SY.out _).mono ?_
   rintro e w9 ⟨rfl, hb9⟩
   have D9 := chnN hb9 D5
   have L9 := L5.keep hb9
   obtain ⟨⟨l0, l1, l2, l3, l4, l5⟩, ⟨f0, f1, f2, f3, f4, f5⟩⟩ := L9.six
   go_wp2_with fail
   refine bodyPost_ret (v := .tuple #[lvA 0 zeroP .nilFunc, .int .i64 7]) (by simp [results, Tryz.results127, go_sem, l0, l1, l2, l3, l4, l5]) rfl ⟨0, zeroP, .nilFunc, 7, rfl, ?_, ?_⟩
   ·rw [HV.out]
    exact ⟨rfl, Or.inl rfl, fun h => by cases h⟩
   ·go_grown
  have HV : Hid (r = passR 0 ⟨s, dd, sp, dp⟩) := by show _ = _; rw [HR.out]; rfl
  go_wp2_with fail
  refine (PS.out _ ⟨s, dd, sp, dp⟩ _).mono ?_
  rintro e w9 ⟨rfl, hb9⟩
  have D9 := chnN hb9 D5
  have L9 := L5.keep hb9
  obtain ⟨⟨l0, l1, l2, l3, l4, l5⟩, ⟨f0, f1, f2, f3, f4, f5⟩⟩ := L9.six
  go_wp2_with fail
  refine bodyPost_ret (v := .tuple #[lvA 0 ⟨s, dd, sp, dp⟩ (.func (.func 173) #[] #[]), .int .i64 0]) (by simp [results, Tryz.results127, go_sem, l0, l1, l2, l3, l4, l5]) rfl ⟨_, _, _, 0, rfl, ?_, ?_⟩
  ·rw [HV.out]
   exact ⟨rfl, Or.inr ⟨_, _, rfl⟩, fun _ => ⟨rfl, rfl, rfl⟩⟩
  ·go_grown
theorem gather_any (m : Mp) (ds : List Dv) (ls : List Lk) (n : Nat) (M : Mnd) (i : Nat) (d : Dv) (p : Pk) (w : World) (hM : Hid (MemAt w m ds ls n M)) (hx : Hid (ds[i]? = some d)) (hp : Hid p.ok) (hi : Hid (i64ok (i : Int))) (ha : Hid (i64ok d.addr)) :
  Calls Tryz.prog 131 #[.pointer (some ⟨m.B, m.z, none⟩), .int .i64 (i : Int), pkV p] w (SPost m w (gatherP d M i p)) := by
 have M2 := (hM.out.alloc (pkC p)).alloc lvC
 have D2 := Below.alN (Below.alN (Below.refl w.heap.size w) (pkC p)) lvC
 have P2 := (bk_new w #[.int .i64 p.s, .int .i64 p.d, .int .i64 p.sp, .int .i64 p.dp] 36).alloc lvC
 have L2 := bk_new (w.alloc (pkC p)) #[.int .i64 0, .int .i64 0, .int .i64 0, .int .i64 0, .int .i64 0, .nilFunc] 190
 rw [World.size_alloc] at L2
 obtain ⟨q0, _, _, _, _⟩ := M2.cells
 obtain ⟨b, o, vb, vr, vt, eA, HD, k1, k2⟩ := M2.dev hx.out
 rw [eA] at q0
 obtain ⟨c0, c1, c2, c3, c4, c5, c6, s1, s2, s3⟩ := HD
 obtain ⟨Ab, cb, rfl, _, _, _, _⟩ := s1
 obtain ⟨Ar, cr, rfl, _, _, _, _⟩ := s2
 obtain ⟨At, ct, rfl, _, _, _, _⟩ := s3
 have PS : Hid (∀ (q : Int) (p : Pk) W, Calls Tryz.prog 153 #[.int .i64 q, pkV p] W fun e w' => e = .returned (.tuple #[lvA q p (.func (.func 173) #[] #[]), .int .i64 0]) ∧ Below W.heap.size W w') := fun q p W => pass_any q p W
 obtain ⟨s, dd, sp, dp⟩ := p
 generalize hr : gatherP d M i ⟨s, dd, sp, dp⟩ = r
 have HR : Hid (r = passR 0 (if M.bk ((i : Int), ⟨dd, d.addr, dp, sp⟩) = some s then ⟨d.addr, dd, sp, dp⟩ else ⟨s, dd, sp, dp⟩)) := hr.symm
 have HL : Hid (∀ W, MemAt W m ds ls n M -> (Instr.lookup 80 (.map (some m.k)) (.agg #[.int .i64 (i : Int), .int .i64 dd, .int .i64 d.addr, .int .i64 dp, .int .i64 sp]) true).run Tryz.prog W = .ok (.tuple #[.int .i64 ((M.bk ((i : Int), ⟨dd, d.addr, dp, sp⟩)).getD 0), .bool (M.bk ((i : Int), ⟨dd, d.addr, dp, sp⟩)).isSome]) W) := fun W h => h.lookB (p := ⟨dd, d.addr, dp, sp⟩) hi.out ⟨hp.out.d, ha.out, hp.out.dp, hp.out.sp⟩
 clear hr hx hM eA ha
 simp only at *
 generalize M.bk ((i : Int), ⟨dd, d.addr, dp, sp⟩) = y at *
 generalize (rulesOf d).length = nr at *
 generalize (routesOf d).length = nt at *
 generalize d.backs.length = nb at *
 generalize d.name = nm at *
 generalize d.kind = kd at *
 generalize d.addr = ad at *
 generalize d.pool = pl at *
 have lk := HL.out _ (M2.alloc (.cells #[.int .i64 dd, .int .i64 ad, .int .i64 dp, .int .i64 sp] 36)).drew
 obtain ⟨_, _, _, _, q4⟩ := (M2.alloc (.cells #[.int .i64 dd, .int .i64 ad, .int .i64 dp, .int .i64 sp] 36)).cells
 have D3 := (Below.alN D2 (.cells #[.int .i64 dd, .int .i64 ad, .int .i64 dp, .int .i64 sp] 36)).drew
 have L3 := (L2.alloc (.cells #[.int .i64 dd, .int .i64 ad, .int .i64 dp, .int .i64 sp] 36)).drew
 clear HL M2 P2
 cases y with
 | none =>
   have HV : Hid (r = passR 0 ⟨s, dd, sp, dp⟩) := by show _ = _; rw [HR.out]; rfl
   simp only [Option.getD_none, Option.isSome_none] at lk
   go_enter Tryz.func131, Tryz.ntmps131
   go_wp2_with fail
   go_region
   go_wp2_with fail
   refine (PS.out _ ⟨s, dd, sp, dp⟩ _).mono ?_
   rintro e w9 ⟨rfl, hb9⟩
   have D9 := chnN hb9 D3
   have L9 := L3.keep hb9
   obtain ⟨⟨l0, l1, l2, l3, l4, l5⟩, ⟨f0, f1, f2, f3, f4, f5⟩⟩ := L9.six
   go_wp2_with fail
   refine bodyPost_ret (v := .tuple #[lvA 0 ⟨s, dd, sp, dp⟩ (.func (.func 173) #[] #[]), .int .i64 0]) (by simp [results, Tryz.results131, go_sem, l0, l1, l2, l3, l4, l5]) rfl ⟨_, _, _, 0, rfl, ?_, ?_⟩
   ·rw [HV.out]
    exact ⟨rfl, Or.inr ⟨_, _, rfl⟩, fun _ => ⟨rfl, rfl, rfl⟩⟩
   ·go_grown
 | some x =>
   simp only [Option.getD_some, Option.isSome_some] at lk
   cases hxs : (x == s)
   ·have HV : Hid (r = passR 0 ⟨s, dd, sp, dp⟩) := by
     show _ = _
     rw [HR.out, if_neg (fun e => by cases e; simp at hxs)]
    go_enter Tryz.func131, Tryz.ntmps131
    go_wp2_with fail
    go_region
    go_wp2_with fail
    refine (PS.out _ ⟨s, dd, sp, dp⟩ _).mono ?_
    rintro e w9 ⟨rfl, hb9⟩
    have D9 := chnN hb9 D3
    have L9 := L3.keep hb9
    obtain ⟨⟨l0, l1, l2, l3, l4, l5⟩, ⟨f0, f1, f2, f3, f4, f5⟩⟩ := L9.six
    go_wp2_with fail
    refine bodyPost_ret (v := .tuple #[lvA 0 ⟨s, dd, sp, dp⟩ (.func (.func 173) #[] #[]), .int .i64 0]) (by simp [results, Tryz.results131, go_sem, l0, l1, l2, l3, l4, l5]) rfl ⟨_, _, _, 0, rfl, ?_, ?_⟩
    ·rw [HV.out]
     exact ⟨rfl, Or.inr ⟨_, _, rfl⟩, fun _ => ⟨rfl, rfl, rfl⟩⟩
    ·go_grown
   ·have HV : Hid (r = passR 0 ⟨ad, dd, sp, dp⟩) := by
     show _ = _
     rw [HR.out, if_pos (by rw [eq_of_beq hxs])]
    have D4 := (Below.alN (Below.alN (Below.alN (Below.refl w.heap.size w) (pkC ⟨ad, dd, sp, dp⟩)) lvC) (.cells #[.int .i64 dd, .int .i64 ad, .int .i64 dp, .int .i64 sp] 36)).drew
    have L4 := (bk_new (w.alloc (pkC ⟨ad, dd, sp, dp⟩)) #[.int .i64 0, .int .i64 0, .int .i64 0, .int .i64 0, .int .i64 0, .nilFunc] 190).alloc (.cells #[.int .i64 dd, .int .i64 ad, .int .i64 dp, .int .i64 sp] 36)
    rw [World.size_alloc] at L4
    have L5 := L4.drew
    go_enter Tryz.func131, Tryz.ntmps131
    go_wp2_with fail
    go_region
    go_wp2_with fail
    refine (PS.out _ ⟨ad, dd, sp, dp⟩ _).mono ?_
    rintro e w9 ⟨rfl, hb9⟩
    have D9 := chnN hb9 D4
    have L9 := L5.keep hb9
    obtain ⟨⟨l0, l1, l2, l3, l4, l5⟩, ⟨f0, f1, f2, f3, f4, f5⟩⟩ := L9.six
    go_wp2_with fail
    refine bodyPost_ret (v := .tuple #[lvA 0 ⟨ad, dd, sp, dp⟩ (.func (.func 173) #[] #[]), .int .i64 0]) (by simp [results, Tryz.results131, go_sem, l0, l1, l2, l3, l4, l5]) rfl ⟨_, _, _, 0, rfl, ?_, ?_⟩
    ·rw [HV.out]
     exact ⟨rfl, Or.inr ⟨_, _, rfl⟩, fun _ => ⟨rfl, rfl, rfl⟩⟩
    ·go_grown
theorem unhide_any (m : Mp) (ds : List Dv) (ls : List Lk) (n : Nat) (M : Mnd) (i : Nat) (d : Dv) (p : Pk) (w : World) (hM : Hid (MemAt w m ds ls n M)) (hx : Hid (ds[i]? = some d)) (hp : Hid p.ok) (hi : Hid (i64ok (i : Int))) :
  Calls Tryz.prog 129 #[.pointer (some ⟨m.B, m.z, none⟩), .int .i64 (i : Int), pkV p] w (SPost m w (unhideP d M i p)) := by
 have M2 := (hM.out.alloc (pkC p)).alloc lvC
 have D2 := Below.alN (Below.alN (Below.refl w.heap.size w) (pkC p)) lvC
 have P2 := (bk_new w #[.int .i64 p.s, .int .i64 p.d, .int .i64 p.sp, .int .i64 p.dp] 36).alloc lvC
 have L2 := bk_new (w.alloc (pkC p)) #[.int .i64 0, .int .i64 0, .int .i64 0, .int .i64 0, .int .i64 0, .nilFunc] 190
 rw [World.size_alloc] at L2
 have PS : Hid (∀ (q : Int) (p : Pk) W, Calls Tryz.prog 153 #[.int .i64 q, pkV p] W fun e w' => e = .returned (.tuple #[lvA q p (.func (.func 173) #[] #[]), .int .i64 0]) ∧ Below W.heap.size W w') := fun q p W => pass_any q p W
 have SY : Hid (∀ W, Calls Tryz.prog 132 #[] W fun e w' => e = .returned (.tuple #[lvA 0 zeroP .nilFunc, .int .i64 7]) ∧ Below W.heap.size W w') := fun W => stay_any W
 obtain ⟨s, dd, sp, dp⟩ := p
 generalize hr : unhideP d M i ⟨s, dd, sp, dp⟩ = r
 have HR : Hid (r = match M.ow ((i : Int), dp) with | some z => if dd == d.addr then passR 0 ⟨s, z.1, sp, z.2⟩ else stayR 7 | none => stayR 7) := hr.symm
 have lk := (M2.alloc (.cells #[.int .i64 0, .int .i64 0] 151)).drew.lookO (i := (i : Int)) (k := dp) hi.out hp.out.dp
 have lk2 := M2.drew.lookO (i := (i : Int)) (k := dp) hi.out hp.out.dp
 simp only at *
 obtain ⟨_, _, _, qo, _⟩ := (M2.alloc (.cells #[.int .i64 0, .int .i64 0] 151)).cells
 obtain ⟨_, _, _, qo2, _⟩ := M2.cells
 generalize M.ow ((i : Int), dp) = y at *
 obtain ⟨ea, eb, x0, hea, heb, hx0⟩ : ∃ ea eb x0, (y.getD (0, 0)).1 = ea ∧ (y.getD (0, 0)).2 = eb ∧ y.isSome = x0 := ⟨_, _, _, rfl, rfl, rfl⟩
 have HR2 : Hid (r = if x0 then (if dd == d.addr then passR 0 ⟨s, ea, sp, eb⟩ else stayR 7) else stayR 7) := by
  show _ = _
  rw [HR.out, <- hea, <- heb, <- hx0]
  cases y <;> rfl
 rw [hea, heb, hx0] at lk lk2
 clear hr hM hea heb hx0 HR
 go_enter Tryz.func129, Tryz.ntmps129
 go_wp2_with fail
 go_cut [8, 9] (fun v8 v9 wx => ∃ g, v8 = .pointer (some ⟨g, 0, none⟩) ∧ v9 = .bool x0 ∧ Bk wx g #[.int .i64 ea, .int .i64 eb] 151 ∧ w.heap.size + 1 < g ∧ Bk wx w.heap.size #[.int .i64 s, .int .i64 dd, .int .i64 sp, .int .i64 dp] 36 ∧ Bk wx (w.heap.size + 1) #[.int .i64 0, .int .i64 0, .int .i64 0, .int .i64 0, .int .i64 0, .nilFunc] 190 ∧ MemAt wx m ds ls n M ∧ Below w.heap.size w wx)
 case first =>
  go_region
  all_goals
   go_wp2_with fail
   go_meet
   exact ⟨_, rfl, rfl, (bk_new' _ _ _ _ (by simp)).drew, by simp, (P2.alloc _).drew, (L2.alloc _).drew, (M2.alloc _).drew, (Below.alN D2 _).drew⟩
 case rest =>
  clear lk lk2 qo qo2 M2 P2 L2 D2
  obtain ⟨g, rfl, rfl, E4, zg, P4, L4, M4, D4⟩ := hcut
  obtain ⟨p0, p1, p2, p3, pf0, pf1, pf2, pf3⟩ := P4.four
  obtain ⟨e0, e1⟩ := E4.two
  have z4 : w.heap.size < wc.heap.size := P4.lt
  cases x0
  ·have HV : Hid (r = stayR 7) := HR2.out
   clear HR2 hx
   go_wp2_with fail
   go_quiet (fail)
   go_wp2_with fail
   refine (SY.out _).mono ?_
   rintro e w9 ⟨rfl, hb9⟩
   have D9 := chnN (W0 := w) hb9 (by first | (go_grown; done) | exact belowNN (by assumption) _ | (go_grown <;> exact belowNN (by assumption) _))
   have L9 := L4.keep hb9
   obtain ⟨⟨l0, l1, l2, l3, l4, l5⟩, ⟨f0, f1, f2, f3, f4, f5⟩⟩ := L9.six
   go_wp2_with fail
   refine bodyPost_ret (v := .tuple #[lvA 0 zeroP .nilFunc, .int .i64 7]) (by simp [results, Tryz.results129, go_sem, l0, l1, l2, l3, l4, l5]) rfl ⟨0, zeroP, .nilFunc, 7, rfl, ?_, ?_⟩
   ·rw [HV.out]
    exact ⟨rfl, Or.inl rfl, fun h => by cases h⟩
   ·go_grown
  obtain ⟨q0, _, _, _, _⟩ := M4.cells
  obtain ⟨b, o, vb, vr, vt, eA, HD, k1, k2⟩ := M4.dev hx.out
  rw [eA] at q0
  obtain ⟨c0, c1, c2, c3, c4, c5, c6, _, _, _⟩ := HD
  clear hx eA M4 c0 c1 c3 c4 c5 c6
  generalize d.addr = ad at *
  cases ha : (dd == ad)
  ·have HV : Hid (r = stayR 7) := by show _ = _; rw [HR2.out, ha]; rfl
   clear HR2
   go_wp2_with fail
   go_quiet (fail)
   go_wp2_with fail
   refine (SY.out _).mono ?_
   rintro e w9 ⟨rfl, hb9⟩
   have D9 := chnN (W0 := w) hb9 (by first | (go_grown; done) | exact belowNN (by assumption) _ | (go_grown <;> exact belowNN (by assumption) _))
   have L9 := L4.keep hb9
   obtain ⟨⟨l0, l1, l2, l3, l4, l5⟩, ⟨f0, f1, f2, f3, f4, f5⟩⟩ := L9.six
   go_wp2_with fail
   refine bodyPost_ret (v := .tuple #[lvA 0 zeroP .nilFunc, .int .i64 7]) (by simp [results, Tryz.results129, go_sem, l0, l1, l2, l3, l4, l5]) rfl ⟨0, zeroP, .nilFunc, 7, rfl, ?_, ?_⟩
   ·rw [HV.out]
    exact ⟨rfl, Or.inl rfl, fun h => by cases h⟩
   ·go_grown
  ·have HV : Hid (r = passR 0 ⟨s, ea, sp, eb⟩) := by show _ = _; rw [HR2.out, ha]; rfl
   clear HR2
   go_wp2_with fail
   go_quiet (fail)
   go_wp2_with fail
   go_region
   go_wp2_with fail
   refine (PS.out _ ⟨s, ea, sp, eb⟩ _).mono ?_
   rintro e w9 ⟨rfl, hb9⟩
   have D9 := chnN (W0 := w) hb9 (by first | (go_grown; done) | exact belowNN (by assumption) _ | (go_grown <;> exact belowNN (by assumption) _))
   have L9 := ((L4.setO (by omega) _).setO (by omega) _).keep hb9
   obtain ⟨⟨l0, l1, l2, l3, l4, l5⟩, ⟨f0, f1, f2, f3, f4, f5⟩⟩ := L9.six
   go_wp2_with fail
   refine bodyPost_ret (v := .tuple #[lvA 0 ⟨s, ea, sp, eb⟩ (.func (.func 173) #[] #[]), .int .i64 0]) (by simp [results, Tryz.results129, go_sem, l0, l1, l2, l3, l4, l5]) rfl ⟨_, _, _, 0, rfl, ?_, ?_⟩
   ·rw [HV.out]
    exact ⟨rfl, Or.inr ⟨_, _, rfl⟩, fun _ => ⟨rfl, rfl, rfl⟩⟩
   ·go_grown
theorem ownFrom_at (M : Mnd) (i : Int) (s : Int × Int) {k : Nat} (h : k < 8) : ownFrom M i s k = if M.ow (i, (k : Int)) = some s then some k else ownFrom M i s (k + 1) := by rw [ownFrom, dif_pos h]
theorem ownFrom_end (M : Mnd) (i : Int) (s : Int × Int) {k : Nat} (h : 8 <= k) : ownFrom M i s k = none := by rw [ownFrom, dif_neg (by omega)]
theorem end_eq (a b c d : Int) (w : World) : (binOp .eql 151 (.agg #[.int .i64 a, .int .i64 b]) (.agg #[.int .i64 c, .int .i64 d])).run Tryz.prog w = .ok (.bool ((a == c) && (b == d))) w := by
 cases h1 : (a == c) <;> cases h2 : (b == d)
 all_goals simp [go_sem, Tryz.underlying151, Tryz.underlying3, h1, h2]
theorem i64ok_nat {k : Nat} (h : k < 8) : i64ok (k : Int) := i64ok_of (by omega) (by omega)
theorem ownPort_any (m : Mp) (ds : List Dv) (ls : List Lk) (n : Nat) (M : Mnd) (i : Int) (sa sb : Int) (w : World) (hM : Hid (MemAt w m ds ls n M)) (hi : Hid (i64ok i)) :
  Calls Tryz.prog 156 #[.pointer (some ⟨m.B, m.z, none⟩), .int .i64 i, .agg #[.int .i64 sa, .int .i64 sb]] w fun e w' => e = .returned (.tuple #[.int .i64 (((ownFrom M i (sa, sb) 0).getD 0 : Nat) : Int), .bool (ownFrom M i (sa, sb) 0).isSome]) ∧ Below w.heap.size w w' := by
 have M0 := hM.out.alloc (.cells #[.int .i64 sa, .int .i64 sb] 151)
 have D0 := Below.alN (Below.refl w.heap.size w) (.cells #[.int .i64 sa, .int .i64 sb] 151)
 have S0 := bk_new w #[.int .i64 sa, .int .i64 sb] 151
 clear hM
 generalize hres : ownFrom M i (sa, sb) 0 = res
 have HR : Hid (ownFrom M i (sa, sb) 0 = res) := hres
 clear hres
 go_enter Tryz.func156, Tryz.ntmps156
 go_wp2_with fail
 go_loopw [11] (fun c wr => ∃ k : Nat, c = .int .i64 (k : Int) ∧ k <= 8 ∧ Below w.heap.size w wr ∧ MemAt wr m ds ls n M ∧ Bk wr w.heap.size #[.int .i64 sa, .int .i64 sb] 151 ∧ Hid (res = ownFrom M i (sa, sb) k)) (fun c _ => 8 - (intOf c).toNat)
 case atStart => exact ⟨0, rfl, by omega, D0, M0, S0, HR.out.symm⟩
 case round =>
  clear D0 M0 S0 HR
  obtain ⟨k, rfl, hk, D1, M1, S1, hl⟩ := hrel
  by_cases hlt : k < 8
  ·have HF : Hid (ownFrom M i (sa, sb) k = if M.ow (i, (k : Int)) = some (sa, sb) then some k else ownFrom M i (sa, sb) (k + 1)) := ownFrom_at M i (sa, sb) hlt
   have lk := M1.lookO hi.out (i64ok_nat hlt)
   obtain ⟨_, _, _, q0, _⟩ := M1.cells
   obtain ⟨s0, s1⟩ := S1.two
   have k8 : decide ((k : Int) < 8) = true := by simp; omega
   have zs := S1.lt
   cases y : M.ow (i, (k : Int)) with
   | none =>
     have HV : Hid (res = ownFrom M i (sa, sb) (k + 1)) := by
      show _ = _
      rw [hl.out, HF.out, y, if_neg (by simp)]
     rw [y] at lk
     simp only [Option.getD_none, Option.isSome_none] at lk
     have D2 := Below.alN D1 (.cells #[.int .i64 0, .int .i64 0] 151)
     have M2 := M1.alloc (.cells #[.int .i64 0, .int .i64 0] 151)
     have S2 := S1.alloc (.cells #[.int .i64 0, .int .i64 0] 151)
     clear y HF hl D1 M1 S1
     go_wp2_with fail
     go_roundw
     case rel => exact ⟨k + 1, by go_num, by omega, D2, M2, S2, HV⟩
     case measure => simp [intOf]; omega
   | some z =>
     obtain ⟨a, b⟩ := z
     rw [y] at lk
     simp only [Option.getD_some, Option.isSome_some] at lk
     have D2 := Below.alN D1 (.cells #[.int .i64 a, .int .i64 b] 151)
     have M2 := M1.alloc (.cells #[.int .i64 a, .int .i64 b] 151)
     have S2 := S1.alloc (.cells #[.int .i64 a, .int .i64 b] 151)
     have EQ := fun w => end_eq a b sa sb w
     cases he : ((a == sa) && (b == sb))
     ·have HV : Hid (res = ownFrom M i (sa, sb) (k + 1)) := by
       show _ = _
       rw [hl.out, HF.out, y, if_neg (fun e => by cases e; simp at he)]
      simp only [he] at EQ
      clear y HF hl D1 M1 S1 he
      go_wp2_with fail
      go_roundw
      case rel => exact ⟨k + 1, by go_num, by omega, D2, M2, S2, HV⟩
      case measure => simp [intOf]; omega
     ·have HV : Hid (res = some k) := by
       show _ = _
       simp only [Bool.and_eq_true, beq_iff_eq] at he
       rw [hl.out, HF.out, y, if_pos (by rw [he.1, he.2])]
      simp only [he] at EQ
      clear y HF hl D1 M1 S1 he
      go_wp2_with fail
      go_ret2
      exact ⟨by rw [HV.out]; rfl, D2⟩
  ·have HV : Hid (res = none) := by
    show _ = _
    rw [hl.out, ownFrom_end _ _ _ (by omega)]
   have k8 : decide ((k : Int) < 8) = false := by simp; omega
   go_wp2_with fail
   go_ret2
   exact ⟨by rw [HV.out]; rfl, D1⟩
theorem bits_u8 (a : Nat) (ha : a < 256) : Go.bits .and .u8 (a : Int) 1 = ((a % 2 : Nat) : Int) := by
 have h : ∀ x : Fin 256, Go.bits .and .u8 ((x.val : Nat) : Int) 1 = ((x.val % 2 : Nat) : Int) := by decide +kernel
 exact h ⟨a, ha⟩
theorem pool_bit (pl : Nat) (hp : pl < 256) (k : Nat) : (Go.bits .and .u8 (((pl / 2 ^ k : Nat) : Int)) 1 == 1) = pl.testBit k := by
 have h1 : pl / 2 ^ k < 256 := Nat.lt_of_le_of_lt (Nat.div_le_self _ _) hp
 rw [bits_u8 _ h1, Nat.testBit_eq_decide_div_mod_eq, Bool.eq_iff_iff]
 simp only [beq_iff_eq, decide_eq_true_eq]
 generalize pl / 2 ^ k = q
 omega
theorem inPool_0 (nm : ByteArray) (kd ad : Int) (pl : Nat) (vb vr vt : Value) (w : World) (hp : pl < 256) : Calls Tryz.prog 157 #[.agg #[.string nm, .int .i64 kd, .int .i64 ad, .int .u8 (pl : Int), vb, vr, vt], .int .i64 0] w fun e w' => e = .returned (.bool (pl.testBit 0)) ∧ Below w.heap.size w w' := by
 have D0 := Below.alN (Below.refl w.heap.size w) (dvC nm kd ad pl vb vr vt)
 have hb := pool_bit pl hp 0
 go_enter Tryz.func157, Tryz.ntmps157
 go_wp2_with fail
 go_ret
 exact ⟨by rw [<- hb]; first | rfl | simp, D0⟩
theorem inPool_1 (nm : ByteArray) (kd ad : Int) (pl : Nat) (vb vr vt : Value) (w : World) (hp : pl < 256) : Calls Tryz.prog 157 #[.agg #[.string nm, .int .i64 kd, .int .i64 ad, .int .u8 (pl : Int), vb, vr, vt], .int .i64 1] w fun e w' => e = .returned (.bool (pl.testBit 1)) ∧ Below w.heap.size w w' := by
 have D0 := Below.alN (Below.refl w.heap.size w) (dvC nm kd ad pl vb vr vt)
 have hb := pool_bit pl hp 1
 go_enter Tryz.func157, Tryz.ntmps157
 go_wp2_with fail
 go_ret
 exact ⟨by rw [<- hb]; first | rfl | simp, D0⟩
theorem inPool_2 (nm : ByteArray) (kd ad : Int) (pl : Nat) (vb vr vt : Value) (w : World) (hp : pl < 256) : Calls Tryz.prog 157 #[.agg #[.string nm, .int .i64 kd, .int .i64 ad, .int .u8 (pl : Int), vb, vr, vt], .int .i64 2] w fun e w' => e = .returned (.bool (pl.testBit 2)) ∧ Below w.heap.size w w' := by
 have D0 := Below.alN (Below.refl w.heap.size w) (dvC nm kd ad pl vb vr vt)
 have hb := pool_bit pl hp 2
 go_enter Tryz.func157, Tryz.ntmps157
 go_wp2_with fail
 go_ret
 exact ⟨by rw [<- hb]; first | rfl | simp, D0⟩
theorem inPool_3 (nm : ByteArray) (kd ad : Int) (pl : Nat) (vb vr vt : Value) (w : World) (hp : pl < 256) : Calls Tryz.prog 157 #[.agg #[.string nm, .int .i64 kd, .int .i64 ad, .int .u8 (pl : Int), vb, vr, vt], .int .i64 3] w fun e w' => e = .returned (.bool (pl.testBit 3)) ∧ Below w.heap.size w w' := by
 have D0 := Below.alN (Below.refl w.heap.size w) (dvC nm kd ad pl vb vr vt)
 have hb := pool_bit pl hp 3
 go_enter Tryz.func157, Tryz.ntmps157
 go_wp2_with fail
 go_ret
 exact ⟨by rw [<- hb]; first | rfl | simp, D0⟩
theorem inPool_4 (nm : ByteArray) (kd ad : Int) (pl : Nat) (vb vr vt : Value) (w : World) (hp : pl < 256) : Calls Tryz.prog 157 #[.agg #[.string nm, .int .i64 kd, .int .i64 ad, .int .u8 (pl : Int), vb, vr, vt], .int .i64 4] w fun e w' => e = .returned (.bool (pl.testBit 4)) ∧ Below w.heap.size w w' := by
 have D0 := Below.alN (Below.refl w.heap.size w) (dvC nm kd ad pl vb vr vt)
 have hb := pool_bit pl hp 4
 go_enter Tryz.func157, Tryz.ntmps157
 go_wp2_with fail
 go_ret
 exact ⟨by rw [<- hb]; first | rfl | simp, D0⟩
theorem inPool_5 (nm : ByteArray) (kd ad : Int) (pl : Nat) (vb vr vt : Value) (w : World) (hp : pl < 256) : Calls Tryz.prog 157 #[.agg #[.string nm, .int .i64 kd, .int .i64 ad, .int .u8 (pl : Int), vb, vr, vt], .int .i64 5] w fun e w' => e = .returned (.bool (pl.testBit 5)) ∧ Below w.heap.size w w' := by
 have D0 := Below.alN (Below.refl w.heap.size w) (dvC nm kd ad pl vb vr vt)
 have hb := pool_bit pl hp 5
 go_enter Tryz.func157, Tryz.ntmps157
 go_wp2_with fail
 go_ret
 exact ⟨by rw [<- hb]; first | rfl | simp, D0⟩
theorem inPool_6 (nm : ByteArray) (kd ad : Int) (pl : Nat) (vb vr vt : Value) (w : World) (hp : pl < 256) : Calls Tryz.prog 157 #[.agg #[.string nm, .int .i64 kd, .int .i64 ad, .int .u8 (pl : Int), vb, vr, vt], .int .i64 6] w fun e w' => e = .returned (.bool (pl.testBit 6)) ∧ Below w.heap.size w w' := by
 have D0 := Below.alN (Below.refl w.heap.size w) (dvC nm kd ad pl vb vr vt)
 have hb := pool_bit pl hp 6
 go_enter Tryz.func157, Tryz.ntmps157
 go_wp2_with fail
 go_ret
 exact ⟨by rw [<- hb]; first | rfl | simp, D0⟩
theorem inPool_7 (nm : ByteArray) (kd ad : Int) (pl : Nat) (vb vr vt : Value) (w : World) (hp : pl < 256) : Calls Tryz.prog 157 #[.agg #[.string nm, .int .i64 kd, .int .i64 ad, .int .u8 (pl : Int), vb, vr, vt], .int .i64 7] w fun e w' => e = .returned (.bool (pl.testBit 7)) ∧ Below w.heap.size w w' := by
 have D0 := Below.alN (Below.refl w.heap.size w) (dvC nm kd ad pl vb vr vt)
 have hb := pool_bit pl hp 7
 go_enter Tryz.func157, Tryz.ntmps157
 go_wp2_with fail
 go_ret
 exact ⟨by rw [<- hb]; first | rfl | simp, D0⟩
theorem inPool_any (nm : ByteArray) (kd ad : Int) (pl : Nat) (vb vr vt : Value) (c : Int) (w : World) (hp : pl < 256) : Calls Tryz.prog 157 #[.agg #[.string nm, .int .i64 kd, .int .i64 ad, .int .u8 (pl : Int), vb, vr, vt], .int .i64 c] w fun e w' => e = .returned (.bool (poB c && pl.testBit c.toNat)) ∧ Below w.heap.size w w' := by
 have D0 := Below.alN (Below.refl w.heap.size w) (dvC nm kd ad pl vb vr vt)
 unfold poB
 cases h0 : decide (0 <= c)
 ·go_enter Tryz.func157, Tryz.ntmps157
  go_wp2_with fail
  go_ret
  exact ⟨by simp, D0⟩
 cases h1 : decide (c < 8)
 ·go_enter Tryz.func157, Tryz.ntmps157
  go_wp2_with fail
  go_ret
  exact ⟨by simp, D0⟩
 have hc : c = 0 ∨ c = 1 ∨ c = 2 ∨ c = 3 ∨ c = 4 ∨ c = 5 ∨ c = 6 ∨ c = 7 := by
  simp at h0 h1
  omega
 simp only [Bool.true_and]
 rcases hc with rfl | rfl | rfl | rfl | rfl | rfl | rfl | rfl
 ·exact inPool_0 nm kd ad pl vb vr vt w hp
 ·exact inPool_1 nm kd ad pl vb vr vt w hp
 ·exact inPool_2 nm kd ad pl vb vr vt w hp
 ·exact inPool_3 nm kd ad pl vb vr vt w hp
 ·exact inPool_4 nm kd ad pl vb vr vt w hp
 ·exact inPool_5 nm kd ad pl vb vr vt w hp
 ·exact inPool_6 nm kd ad pl vb vr vt w hp
 ·exact inPool_7 nm kd ad pl vb vr vt w hp
end Go.Proofs.YtlmmeppifkigeaaGreat
