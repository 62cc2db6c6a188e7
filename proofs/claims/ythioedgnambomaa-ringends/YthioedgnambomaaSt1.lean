/-
  Package step: route, ask, answer.
-/
import Derived.Test.YthioedgnambomaaSs
namespace Go.Proofs.Ythioedgnambomaa
open Go.RowKit Go.Maps

set_option maxHeartbeats 4000000 in
set_option maxRecDepth 100000 in
theorem route_any (m : Mp) (ds : List Dv) (ls : List Lk) (n : Nat) (M : Mnd) (i : Nat) (d : Dv) (p : Pk) (w : World) (hM : Hid (MemAt w m ds ls n M)) (hx : Hid (ds[i]? = some d)) :
    Calls Try.prog 33 #[.pointer (some ⟨m.B, m.z, none⟩), .int .i64 (i : Int), pkV p] w (SPost m w (routeP d p)) := by
  have M2 := (hM.out.alloc (pkC p)).alloc lvC
  have D2 := Below.alN (Below.alN (Below.refl w.heap.size w) (pkC p)) lvC
  have P2 := (bk_new w #[.int .i64 p.s, .int .i64 p.d, .int .i64 p.sp, .int .i64 p.dp] 29).alloc lvC
  have L2 := bk_new (w.alloc (pkC p)) #[.int .i64 0, .int .i64 0, .int .i64 0, .int .i64 0, .int .i64 0, .nilFunc] 73
  rw [World.size_alloc] at L2
  obtain ⟨q0, _, _, _, _⟩ := M2.cells
  obtain ⟨b, o, vb, vr, vt, eA, HD, k1, k2⟩ := M2.dev hx.out
  rw [eA] at q0
  obtain ⟨c0, c1, c2, c3, c4, c5, c6, s1, s2, s3⟩ := HD
  have FO : Hid (∀ W, Below ((w.alloc (pkC p)).alloc lvC).heap.size ((w.alloc (pkC p)).alloc lvC) W → Calls Try.prog 55 #[vt, .int .i64 p.d] W fun e w' => e = .returned (.tuple #[.int .i64 (outN (routesOf d) p.d), .bool (outB (routesOf d) p.d)]) ∧ Below W.heap.size W w') := fun W h => out_any _ W ((s3.below h).mono h.size)
  have LT : Hid (∀ W, Below ((w.alloc (pkC p)).alloc lvC).heap.size ((w.alloc (pkC p)).alloc lvC) W → Calls Try.prog 56 #[vr, pkV p] W fun e w' => e = .returned (.bool (letsB (rulesOf d) p.s p.d p.sp p.dp)) ∧ Below W.heap.size W w') := fun W h => lets_any _ _ _ _ W ((s2.below h).mono h.size)
  obtain ⟨Ab, cb, rfl, _, _, _, _⟩ := s1
  obtain ⟨Ar, cr, rfl, _, _, _, _⟩ := s2
  obtain ⟨At, ct, rfl, _, _, _, _⟩ := s3
  have PS : Hid (∀ (q : Int) (p : Pk) W, Calls Try.prog 57 #[.int .i64 q, pkV p] W fun e w' => e = .returned (.tuple #[lvA q p (.func (.func 75) #[] #[]), .int .i64 0]) ∧ Below W.heap.size W w') := fun q p W => pass_any q p W
  have SY : Hid (∀ W, Calls Try.prog 40 #[] W fun e w' => e = .returned (.tuple #[lvA 0 zeroP .nilFunc, .int .i64 7]) ∧ Below W.heap.size W w') := fun W => stay_any W
  generalize hr : routeP d p = r
  have HR : Hid (r = if outB (routesOf d) p.d && letsB (rulesOf d) p.s p.d p.sp p.dp then passR (outN (routesOf d) p.d) p else stayR 7) := hr.symm
  clear hr hx hM eA
  have E0 := Below.refl ((w.alloc (pkC p)).alloc lvC).heap.size ((w.alloc (pkC p)).alloc lvC)
  generalize outB (routesOf d) p.d = x0 at *
  generalize outN (routesOf d) p.d = q at *
  generalize letsB (rulesOf d) p.s p.d p.sp p.dp = x1 at *
  generalize (rulesOf d).length = nr at *
  generalize (routesOf d).length = nt at *
  generalize d.backs.length = nb at *
  generalize d.name = nm at *
  generalize d.kind = kd at *
  generalize d.addr = ad at *
  generalize d.pool = pl at *
  obtain ⟨s, dd, sp, dp⟩ := p
  simp only at *
  have E1 := Below.alN E0 (dvC nm kd ad pl (.slice Ab nb cb) (.slice Ar nr cr) (.slice At nt ct))
  have D3 := Below.alN D2 (dvC nm kd ad pl (.slice Ab nb cb) (.slice Ar nr cr) (.slice At nt ct))
  have P3 := P2.alloc (dvC nm kd ad pl (.slice Ab nb cb) (.slice Ar nr cr) (.slice At nt ct))
  have L3 := L2.alloc (dvC nm kd ad pl (.slice Ab nb cb) (.slice Ar nr cr) (.slice At nt ct))
  have V3 := bk_new ((w.alloc (pkC ⟨s, dd, sp, dp⟩)).alloc lvC) #[.string nm, .int .i64 kd, .int .i64 ad, .int .u8 (pl : Int), .slice Ab nb cb, .slice Ar nr cr, .slice At nt ct] 42
  simp only [World.size_alloc] at V3
  clear E0 D2 P2 L2 M2
  go_enter Try.func33, Try.ntmps33
  go_wp2_with fail
  refine (FO.out _ E1).mono ?_
  rintro e w4 ⟨rfl, hb4⟩
  have D4 := chnN hb4 D3
  have E4 := chnN hb4 E1
  have P4 := P3.keep hb4
  have L4 := L3.keep hb4
  have V4 := V3.keep hb4
  clear hb4 D3 E1 P3 L3 V3 c0 c1 c2 c3 c4 c5 c6 q0
  obtain ⟨p0, p1, p2, p3, _⟩ := P4.four
  obtain ⟨v0, v1, v2, v3, v4, v5, v6⟩ := V4.seven
  have z4 : w.heap.size + 1 < w4.heap.size := L4.lt
  cases x0
  · have HV : Hid (r = stayR 7) := by show _ = _; rw [HR.out]; rfl
    go_wp2_with fail
    refine (SY.out _).mono ?_
    rintro e w9 ⟨rfl, hb9⟩
    have D9 := chnN hb9 D4
    have L9 := L4.keep hb9
    obtain ⟨⟨l0, l1, l2, l3, l4, l5⟩, ⟨f0, f1, f2, f3, f4, f5⟩⟩ := L9.six
    go_wp2_with fail
    refine bodyPost_ret (v := .tuple #[lvA 0 zeroP .nilFunc, .int .i64 7]) (by simp [results, Try.results33, go_sem, l0, l1, l2, l3, l4, l5]) rfl ⟨0, zeroP, .nilFunc, 7, rfl, ?_, ?_⟩
    · rw [HV.out]
      exact ⟨rfl, Or.inl rfl, fun h => by cases h⟩
    · go_grown
  go_wp2_with fail
  refine (LT.out _ E4).mono ?_
  rintro e w5 ⟨rfl, hb5⟩
  have D5 := chnN hb5 D4
  have P5 := P4.keep hb5
  have L5 := L4.keep hb5
  clear hb5 D4 P4 L4 V4 p0 p1 p2 p3 v0 v1 v2 v3 v4 v5 v6
  obtain ⟨p0, p1, p2, p3, _⟩ := P5.four
  have z5 : w.heap.size + 1 < w5.heap.size := L5.lt
  cases x1
  · have HV : Hid (r = stayR 7) := by show _ = _; rw [HR.out]; rfl
    go_wp2_with fail
    refine (SY.out _).mono ?_
    rintro e w9 ⟨rfl, hb9⟩
    have D9 := chnN hb9 D5
    have L9 := L5.keep hb9
    obtain ⟨⟨l0, l1, l2, l3, l4, l5⟩, ⟨f0, f1, f2, f3, f4, f5⟩⟩ := L9.six
    go_wp2_with fail
    refine bodyPost_ret (v := .tuple #[lvA 0 zeroP .nilFunc, .int .i64 7]) (by simp [results, Try.results33, go_sem, l0, l1, l2, l3, l4, l5]) rfl ⟨0, zeroP, .nilFunc, 7, rfl, ?_, ?_⟩
    · rw [HV.out]
      exact ⟨rfl, Or.inl rfl, fun h => by cases h⟩
    · go_grown
  have HV : Hid (r = passR q ⟨s, dd, sp, dp⟩) := by show _ = _; rw [HR.out]; rfl
  go_wp2_with fail
  refine (PS.out _ ⟨s, dd, sp, dp⟩ _).mono ?_
  rintro e w9 ⟨rfl, hb9⟩
  have D9 := chnN hb9 D5
  have L9 := L5.keep hb9
  obtain ⟨⟨l0, l1, l2, l3, l4, l5⟩, ⟨f0, f1, f2, f3, f4, f5⟩⟩ := L9.six
  go_wp2_with fail
  refine bodyPost_ret (v := .tuple #[lvA q ⟨s, dd, sp, dp⟩ (.func (.func 75) #[] #[]), .int .i64 0]) (by simp [results, Try.results33, go_sem, l0, l1, l2, l3, l4, l5]) rfl ⟨_, _, _, 0, rfl, ?_, ?_⟩
  · rw [HV.out]
    exact ⟨rfl, Or.inr ⟨_, _, rfl⟩, fun _ => ⟨rfl, rfl, rfl⟩⟩
  · go_grown
end Go.Proofs.Ythioedgnambomaa
