/-
  Package step: send, the rest.
-/
import Derived.Test.YthioedgnambomaaSu1
namespace Go.Proofs.Ythioedgnambomaa
open Go.RowKit Go.Maps

set_option maxHeartbeats 4000000 in
set_option maxRecDepth 100000 in
theorem send_hide (m : Mp) (ds : List Dv) (ls : List Lk) (n : Nat) (M : Mnd) (i : Nat) (d : Dv) (q : Int) (p : Pk) (c : Int) (r : SR) (w : World) (hM : Hid (MemAt w m ds ls n M)) (hx : Hid (ds[i]? = some d)) (hk : d.kind = 4) (hq : (q == 0) = true)
    (CF : Hid (∀ W, MemAt W m ds ls n M → Calls Try.prog 36 #[.pointer (some ⟨m.B, m.z, none⟩), .int .i64 (i : Int), pkV p, .int .i64 c] W (SPost m W r))) :
    Calls Try.prog 18 #[.pointer (some ⟨m.B, m.z, none⟩), plA (i : Int) q, pkV p, .int .i64 c] w (SPost m w r) := by
  have M2 := ((hM.out.alloc (.cells #[.int .i64 (i : Int), .int .i64 q] 27)).alloc (pkC p)).alloc lvC
  have D2 := Below.alN (Below.alN (Below.alN (Below.refl w.heap.size w) (.cells #[.int .i64 (i : Int), .int .i64 q] 27)) (pkC p)) lvC
  have L2 := bk_new' ((w.alloc (.cells #[.int .i64 (i : Int), .int .i64 q] 27)).alloc (pkC p)) #[.int .i64 0, .int .i64 0, .int .i64 0, .int .i64 0, .int .i64 0, .nilFunc] 73 (w.heap.size + 1 + 1) (by simp)
  obtain ⟨q0, _, _, _, _⟩ := M2.cells
  obtain ⟨b, o, vb, vr, vt, eA, HD, k1, k2⟩ := M2.dev hx.out
  rw [eA] at q0
  obtain ⟨c0, c1, c2, c3, c4, c5, c6, s1, s2, s3⟩ := HD
  rw [hk] at c1
  obtain ⟨s, dd, sp, dp⟩ := p
  clear hM hx eA s1 s2 s3 c0 c2 c3 c4 c5 c6
  go_enter Try.func18, Try.ntmps18
  go_wp2_with fail
  go_region
  clear c1 q0
  go_wp2_with fail
  refine (CF.out _ M2.drew).mono ?_
  rintro e w5 ⟨q2, p2, fv, er, rfl, HQ, hb5⟩
  have D5 := chnN hb5 D2.drew
  have L5 := L2.drew.keep hb5
  have zN : w.heap.size + 1 + 1 < (World.heap (((w.alloc (.cells #[.int .i64 (i : Int), .int .i64 q] 27)).alloc (pkC ⟨s, dd, sp, dp⟩)).alloc lvC).drew).size := L2.lt
  have zM : w.heap.size ≤ (World.heap (((w.alloc (.cells #[.int .i64 (i : Int), .int .i64 q] 27)).alloc (pkC ⟨s, dd, sp, dp⟩)).alloc lvC).drew).size := by omega
  obtain ⟨⟨l0, l1, l2, l3, l4, l5⟩, ⟨f0, f1, f2, f3, f4, f5⟩⟩ := L5.six
  obtain ⟨ps, pd, psp, pdp⟩ := p2
  rcases HQ.out.2.1 with rfl | ⟨fn, cp, rfl⟩
  · go_wp2_with fail
    refine bodyPost_ret (v := .tuple #[.agg #[.int .i64 q2, .int .i64 ps, .int .i64 pd, .int .i64 psp, .int .i64 pdp, .nilFunc], .int .i64 er]) (by simp [results, Try.results18, go_sem, l0, l1, l2, l3, l4, l5]) rfl ⟨q2, ⟨ps, pd, psp, pdp⟩, _, er, rfl, ?_, ?_⟩
    · exact spost_up HQ.out zN zM (fun b hb => set6_block hb _ _ _ _ _ _)
    · go_grown
  · go_wp2_with fail
    refine bodyPost_ret (v := .tuple #[.agg #[.int .i64 q2, .int .i64 ps, .int .i64 pd, .int .i64 psp, .int .i64 pdp, .func fn #[] cp], .int .i64 er]) (by simp [results, Try.results18, go_sem, l0, l1, l2, l3, l4, l5]) rfl ⟨q2, ⟨ps, pd, psp, pdp⟩, _, er, rfl, ?_, ?_⟩
    · exact spost_up HQ.out zN zM (fun b hb => set6_block hb _ _ _ _ _ _)
    · go_grown
set_option maxHeartbeats 4000000 in
set_option maxRecDepth 100000 in
theorem send_unhide (m : Mp) (ds : List Dv) (ls : List Lk) (n : Nat) (M : Mnd) (i : Nat) (d : Dv) (q : Int) (p : Pk) (c : Int) (r : SR) (w : World) (hM : Hid (MemAt w m ds ls n M)) (hx : Hid (ds[i]? = some d)) (hk : d.kind = 4) (hq : (q == 0) = false)
    (CF : Hid (∀ W, MemAt W m ds ls n M → Calls Try.prog 37 #[.pointer (some ⟨m.B, m.z, none⟩), .int .i64 (i : Int), pkV p] W (SPost m W r))) :
    Calls Try.prog 18 #[.pointer (some ⟨m.B, m.z, none⟩), plA (i : Int) q, pkV p, .int .i64 c] w (SPost m w r) := by
  have M2 := ((hM.out.alloc (.cells #[.int .i64 (i : Int), .int .i64 q] 27)).alloc (pkC p)).alloc lvC
  have D2 := Below.alN (Below.alN (Below.alN (Below.refl w.heap.size w) (.cells #[.int .i64 (i : Int), .int .i64 q] 27)) (pkC p)) lvC
  have L2 := bk_new' ((w.alloc (.cells #[.int .i64 (i : Int), .int .i64 q] 27)).alloc (pkC p)) #[.int .i64 0, .int .i64 0, .int .i64 0, .int .i64 0, .int .i64 0, .nilFunc] 73 (w.heap.size + 1 + 1) (by simp)
  obtain ⟨q0, _, _, _, _⟩ := M2.cells
  obtain ⟨b, o, vb, vr, vt, eA, HD, k1, k2⟩ := M2.dev hx.out
  rw [eA] at q0
  obtain ⟨c0, c1, c2, c3, c4, c5, c6, s1, s2, s3⟩ := HD
  rw [hk] at c1
  obtain ⟨s, dd, sp, dp⟩ := p
  clear hM hx eA s1 s2 s3 c0 c2 c3 c4 c5 c6
  go_enter Try.func18, Try.ntmps18
  go_wp2_with fail
  go_region
  clear c1 q0
  go_wp2_with fail
  refine (CF.out _ M2.drew).mono ?_
  rintro e w5 ⟨q2, p2, fv, er, rfl, HQ, hb5⟩
  have D5 := chnN hb5 D2.drew
  have L5 := L2.drew.keep hb5
  have zN : w.heap.size + 1 + 1 < (World.heap (((w.alloc (.cells #[.int .i64 (i : Int), .int .i64 q] 27)).alloc (pkC ⟨s, dd, sp, dp⟩)).alloc lvC).drew).size := L2.lt
  have zM : w.heap.size ≤ (World.heap (((w.alloc (.cells #[.int .i64 (i : Int), .int .i64 q] 27)).alloc (pkC ⟨s, dd, sp, dp⟩)).alloc lvC).drew).size := by omega
  obtain ⟨⟨l0, l1, l2, l3, l4, l5⟩, ⟨f0, f1, f2, f3, f4, f5⟩⟩ := L5.six
  obtain ⟨ps, pd, psp, pdp⟩ := p2
  rcases HQ.out.2.1 with rfl | ⟨fn, cp, rfl⟩
  · go_wp2_with fail
    refine bodyPost_ret (v := .tuple #[.agg #[.int .i64 q2, .int .i64 ps, .int .i64 pd, .int .i64 psp, .int .i64 pdp, .nilFunc], .int .i64 er]) (by simp [results, Try.results18, go_sem, l0, l1, l2, l3, l4, l5]) rfl ⟨q2, ⟨ps, pd, psp, pdp⟩, _, er, rfl, ?_, ?_⟩
    · exact spost_up HQ.out zN zM (fun b hb => set6_block hb _ _ _ _ _ _)
    · go_grown
  · go_wp2_with fail
    refine bodyPost_ret (v := .tuple #[.agg #[.int .i64 q2, .int .i64 ps, .int .i64 pd, .int .i64 psp, .int .i64 pdp, .func fn #[] cp], .int .i64 er]) (by simp [results, Try.results18, go_sem, l0, l1, l2, l3, l4, l5]) rfl ⟨q2, ⟨ps, pd, psp, pdp⟩, _, er, rfl, ?_, ?_⟩
    · exact spost_up HQ.out zN zM (fun b hb => set6_block hb _ _ _ _ _ _)
    · go_grown
set_option maxHeartbeats 4000000 in
set_option maxRecDepth 100000 in
theorem send_spread (m : Mp) (ds : List Dv) (ls : List Lk) (n : Nat) (M : Mnd) (i : Nat) (d : Dv) (q : Int) (p : Pk) (c : Int) (r : SR) (w : World) (hM : Hid (MemAt w m ds ls n M)) (hx : Hid (ds[i]? = some d)) (hk : d.kind = 5) (hq : (q == 0) = true)
    (CF : Hid (∀ W, MemAt W m ds ls n M → Calls Try.prog 38 #[.pointer (some ⟨m.B, m.z, none⟩), .int .i64 (i : Int), pkV p, .int .i64 c] W (SPost m W r))) :
    Calls Try.prog 18 #[.pointer (some ⟨m.B, m.z, none⟩), plA (i : Int) q, pkV p, .int .i64 c] w (SPost m w r) := by
  have M2 := ((hM.out.alloc (.cells #[.int .i64 (i : Int), .int .i64 q] 27)).alloc (pkC p)).alloc lvC
  have D2 := Below.alN (Below.alN (Below.alN (Below.refl w.heap.size w) (.cells #[.int .i64 (i : Int), .int .i64 q] 27)) (pkC p)) lvC
  have L2 := bk_new' ((w.alloc (.cells #[.int .i64 (i : Int), .int .i64 q] 27)).alloc (pkC p)) #[.int .i64 0, .int .i64 0, .int .i64 0, .int .i64 0, .int .i64 0, .nilFunc] 73 (w.heap.size + 1 + 1) (by simp)
  obtain ⟨q0, _, _, _, _⟩ := M2.cells
  obtain ⟨b, o, vb, vr, vt, eA, HD, k1, k2⟩ := M2.dev hx.out
  rw [eA] at q0
  obtain ⟨c0, c1, c2, c3, c4, c5, c6, s1, s2, s3⟩ := HD
  rw [hk] at c1
  obtain ⟨s, dd, sp, dp⟩ := p
  clear hM hx eA s1 s2 s3 c0 c2 c3 c4 c5 c6
  go_enter Try.func18, Try.ntmps18
  go_wp2_with fail
  go_region
  clear c1 q0
  go_wp2_with fail
  refine (CF.out _ M2.drew).mono ?_
  rintro e w5 ⟨q2, p2, fv, er, rfl, HQ, hb5⟩
  have D5 := chnN hb5 D2.drew
  have L5 := L2.drew.keep hb5
  have zN : w.heap.size + 1 + 1 < (World.heap (((w.alloc (.cells #[.int .i64 (i : Int), .int .i64 q] 27)).alloc (pkC ⟨s, dd, sp, dp⟩)).alloc lvC).drew).size := L2.lt
  have zM : w.heap.size ≤ (World.heap (((w.alloc (.cells #[.int .i64 (i : Int), .int .i64 q] 27)).alloc (pkC ⟨s, dd, sp, dp⟩)).alloc lvC).drew).size := by omega
  obtain ⟨⟨l0, l1, l2, l3, l4, l5⟩, ⟨f0, f1, f2, f3, f4, f5⟩⟩ := L5.six
  obtain ⟨ps, pd, psp, pdp⟩ := p2
  rcases HQ.out.2.1 with rfl | ⟨fn, cp, rfl⟩
  · go_wp2_with fail
    refine bodyPost_ret (v := .tuple #[.agg #[.int .i64 q2, .int .i64 ps, .int .i64 pd, .int .i64 psp, .int .i64 pdp, .nilFunc], .int .i64 er]) (by simp [results, Try.results18, go_sem, l0, l1, l2, l3, l4, l5]) rfl ⟨q2, ⟨ps, pd, psp, pdp⟩, _, er, rfl, ?_, ?_⟩
    · exact spost_up HQ.out zN zM (fun b hb => set6_block hb _ _ _ _ _ _)
    · go_grown
  · go_wp2_with fail
    refine bodyPost_ret (v := .tuple #[.agg #[.int .i64 q2, .int .i64 ps, .int .i64 pd, .int .i64 psp, .int .i64 pdp, .func fn #[] cp], .int .i64 er]) (by simp [results, Try.results18, go_sem, l0, l1, l2, l3, l4, l5]) rfl ⟨q2, ⟨ps, pd, psp, pdp⟩, _, er, rfl, ?_, ?_⟩
    · exact spost_up HQ.out zN zM (fun b hb => set6_block hb _ _ _ _ _ _)
    · go_grown
set_option maxHeartbeats 4000000 in
set_option maxRecDepth 100000 in
theorem send_gather (m : Mp) (ds : List Dv) (ls : List Lk) (n : Nat) (M : Mnd) (i : Nat) (d : Dv) (q : Int) (p : Pk) (c : Int) (r : SR) (w : World) (hM : Hid (MemAt w m ds ls n M)) (hx : Hid (ds[i]? = some d)) (hk : d.kind = 5) (hq : (q == 0) = false)
    (CF : Hid (∀ W, MemAt W m ds ls n M → Calls Try.prog 39 #[.pointer (some ⟨m.B, m.z, none⟩), .int .i64 (i : Int), pkV p] W (SPost m W r))) :
    Calls Try.prog 18 #[.pointer (some ⟨m.B, m.z, none⟩), plA (i : Int) q, pkV p, .int .i64 c] w (SPost m w r) := by
  have M2 := ((hM.out.alloc (.cells #[.int .i64 (i : Int), .int .i64 q] 27)).alloc (pkC p)).alloc lvC
  have D2 := Below.alN (Below.alN (Below.alN (Below.refl w.heap.size w) (.cells #[.int .i64 (i : Int), .int .i64 q] 27)) (pkC p)) lvC
  have L2 := bk_new' ((w.alloc (.cells #[.int .i64 (i : Int), .int .i64 q] 27)).alloc (pkC p)) #[.int .i64 0, .int .i64 0, .int .i64 0, .int .i64 0, .int .i64 0, .nilFunc] 73 (w.heap.size + 1 + 1) (by simp)
  obtain ⟨q0, _, _, _, _⟩ := M2.cells
  obtain ⟨b, o, vb, vr, vt, eA, HD, k1, k2⟩ := M2.dev hx.out
  rw [eA] at q0
  obtain ⟨c0, c1, c2, c3, c4, c5, c6, s1, s2, s3⟩ := HD
  rw [hk] at c1
  obtain ⟨s, dd, sp, dp⟩ := p
  clear hM hx eA s1 s2 s3 c0 c2 c3 c4 c5 c6
  go_enter Try.func18, Try.ntmps18
  go_wp2_with fail
  go_region
  clear c1 q0
  go_wp2_with fail
  refine (CF.out _ M2.drew).mono ?_
  rintro e w5 ⟨q2, p2, fv, er, rfl, HQ, hb5⟩
  have D5 := chnN hb5 D2.drew
  have L5 := L2.drew.keep hb5
  have zN : w.heap.size + 1 + 1 < (World.heap (((w.alloc (.cells #[.int .i64 (i : Int), .int .i64 q] 27)).alloc (pkC ⟨s, dd, sp, dp⟩)).alloc lvC).drew).size := L2.lt
  have zM : w.heap.size ≤ (World.heap (((w.alloc (.cells #[.int .i64 (i : Int), .int .i64 q] 27)).alloc (pkC ⟨s, dd, sp, dp⟩)).alloc lvC).drew).size := by omega
  obtain ⟨⟨l0, l1, l2, l3, l4, l5⟩, ⟨f0, f1, f2, f3, f4, f5⟩⟩ := L5.six
  obtain ⟨ps, pd, psp, pdp⟩ := p2
  rcases HQ.out.2.1 with rfl | ⟨fn, cp, rfl⟩
  · go_wp2_with fail
    refine bodyPost_ret (v := .tuple #[.agg #[.int .i64 q2, .int .i64 ps, .int .i64 pd, .int .i64 psp, .int .i64 pdp, .nilFunc], .int .i64 er]) (by simp [results, Try.results18, go_sem, l0, l1, l2, l3, l4, l5]) rfl ⟨q2, ⟨ps, pd, psp, pdp⟩, _, er, rfl, ?_, ?_⟩
    · exact spost_up HQ.out zN zM (fun b hb => set6_block hb _ _ _ _ _ _)
    · go_grown
  · go_wp2_with fail
    refine bodyPost_ret (v := .tuple #[.agg #[.int .i64 q2, .int .i64 ps, .int .i64 pd, .int .i64 psp, .int .i64 pdp, .func fn #[] cp], .int .i64 er]) (by simp [results, Try.results18, go_sem, l0, l1, l2, l3, l4, l5]) rfl ⟨q2, ⟨ps, pd, psp, pdp⟩, _, er, rfl, ?_, ?_⟩
    · exact spost_up HQ.out zN zM (fun b hb => set6_block hb _ _ _ _ _ _)
    · go_grown
set_option maxHeartbeats 4000000 in
set_option maxRecDepth 100000 in
theorem send_stay (m : Mp) (ds : List Dv) (ls : List Lk) (n : Nat) (M : Mnd) (i : Nat) (d : Dv) (q : Int) (p : Pk) (c : Int) (r : SR) (w : World) (hM : Hid (MemAt w m ds ls n M)) (hx : Hid (ds[i]? = some d)) (hk : ¬ (d.kind = 2 ∨ d.kind = 3 ∨ d.kind = 4 ∨ d.kind = 5)) 
    (CF : Hid (∀ W, MemAt W m ds ls n M → Calls Try.prog 40 #[] W (SPost m W r))) :
    Calls Try.prog 18 #[.pointer (some ⟨m.B, m.z, none⟩), plA (i : Int) q, pkV p, .int .i64 c] w (SPost m w r) := by
  have M2 := ((hM.out.alloc (.cells #[.int .i64 (i : Int), .int .i64 q] 27)).alloc (pkC p)).alloc lvC
  have D2 := Below.alN (Below.alN (Below.alN (Below.refl w.heap.size w) (.cells #[.int .i64 (i : Int), .int .i64 q] 27)) (pkC p)) lvC
  have L2 := bk_new' ((w.alloc (.cells #[.int .i64 (i : Int), .int .i64 q] 27)).alloc (pkC p)) #[.int .i64 0, .int .i64 0, .int .i64 0, .int .i64 0, .int .i64 0, .nilFunc] 73 (w.heap.size + 1 + 1) (by simp)
  obtain ⟨q0, _, _, _, _⟩ := M2.cells
  obtain ⟨b, o, vb, vr, vt, eA, HD, k1, k2⟩ := M2.dev hx.out
  rw [eA] at q0
  obtain ⟨c0, c1, c2, c3, c4, c5, c6, s1, s2, s3⟩ := HD
  have kk2 : (d.kind == 2) = false := by simp; omega
  have kk3 : (d.kind == 3) = false := by simp; omega
  have kk4 : (d.kind == 4) = false := by simp; omega
  have kk5 : (d.kind == 5) = false := by simp; omega
  clear hk
  generalize d.kind = kd at *
  obtain ⟨s, dd, sp, dp⟩ := p
  clear hM hx eA s1 s2 s3 c0 c2 c3 c4 c5 c6
  go_enter Try.func18, Try.ntmps18
  go_wp2_with fail
  go_region
  clear c1 q0
  go_wp2_with fail
  refine (CF.out _ M2.drew).mono ?_
  rintro e w5 ⟨q2, p2, fv, er, rfl, HQ, hb5⟩
  have D5 := chnN hb5 D2.drew
  have L5 := L2.drew.keep hb5
  have zN : w.heap.size + 1 + 1 < (World.heap (((w.alloc (.cells #[.int .i64 (i : Int), .int .i64 q] 27)).alloc (pkC ⟨s, dd, sp, dp⟩)).alloc lvC).drew).size := L2.lt
  have zM : w.heap.size ≤ (World.heap (((w.alloc (.cells #[.int .i64 (i : Int), .int .i64 q] 27)).alloc (pkC ⟨s, dd, sp, dp⟩)).alloc lvC).drew).size := by omega
  obtain ⟨⟨l0, l1, l2, l3, l4, l5⟩, ⟨f0, f1, f2, f3, f4, f5⟩⟩ := L5.six
  obtain ⟨ps, pd, psp, pdp⟩ := p2
  rcases HQ.out.2.1 with rfl | ⟨fn, cp, rfl⟩
  · go_wp2_with fail
    refine bodyPost_ret (v := .tuple #[.agg #[.int .i64 q2, .int .i64 ps, .int .i64 pd, .int .i64 psp, .int .i64 pdp, .nilFunc], .int .i64 er]) (by simp [results, Try.results18, go_sem, l0, l1, l2, l3, l4, l5]) rfl ⟨q2, ⟨ps, pd, psp, pdp⟩, _, er, rfl, ?_, ?_⟩
    · exact spost_up HQ.out zN zM (fun b hb => set6_block hb _ _ _ _ _ _)
    · go_grown
  · go_wp2_with fail
    refine bodyPost_ret (v := .tuple #[.agg #[.int .i64 q2, .int .i64 ps, .int .i64 pd, .int .i64 psp, .int .i64 pdp, .func fn #[] cp], .int .i64 er]) (by simp [results, Try.results18, go_sem, l0, l1, l2, l3, l4, l5]) rfl ⟨q2, ⟨ps, pd, psp, pdp⟩, _, er, rfl, ?_, ?_⟩
    · exact spost_up HQ.out zN zM (fun b hb => set6_block hb _ _ _ _ _ _)
    · go_grown
end Go.Proofs.Ythioedgnambomaa
