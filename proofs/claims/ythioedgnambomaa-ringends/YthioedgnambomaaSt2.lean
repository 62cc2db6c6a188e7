/-
  Package step: ask.
-/
import Derived.Test.YthioedgnambomaaSs
namespace Go.Proofs.Ythioedgnambomaa
open Go.RowKit Go.Maps

set_option maxHeartbeats 4000000 in
set_option maxRecDepth 100000 in
theorem ask_any (m : Mp) (ds : List Dv) (ls : List Lk) (n : Nat) (M : Mnd) (i : Nat) (d : Dv) (p : Pk) (w : World) (hM : Hid (MemAt w m ds ls n M)) (hx : Hid (ds[i]? = some d)) (hp : Hid p.ok) (hi : Hid (i64ok (i : Int))) :
    Calls Try.prog 34 #[.pointer (some ⟨m.B, m.z, none⟩), .int .i64 (i : Int), pkV p] w (SPost m w (askP d i p)) := by
  have M2 := ((hM.out.alloc (.cells #[.pointer (some ⟨m.B, m.z, none⟩)] 51)).alloc (pkC p)).alloc lvC
  have D2 := Below.alN (Below.alN (Below.alN (Below.refl w.heap.size w) (.cells #[.pointer (some ⟨m.B, m.z, none⟩)] 51)) (pkC p)) lvC
  have B2 := ((bk_new w #[.pointer (some ⟨m.B, m.z, none⟩)] 51).alloc (pkC p)).alloc lvC
  have P2 := (bk_new (w.alloc (.cells #[.pointer (some ⟨m.B, m.z, none⟩)] 51)) #[.int .i64 p.s, .int .i64 p.d, .int .i64 p.sp, .int .i64 p.dp] 29).alloc lvC
  have L2 := bk_new ((w.alloc (.cells #[.pointer (some ⟨m.B, m.z, none⟩)] 51)).alloc (pkC p)) #[.int .i64 0, .int .i64 0, .int .i64 0, .int .i64 0, .int .i64 0, .nilFunc] 73
  simp only [World.size_alloc] at P2 L2
  obtain ⟨q0, _, _, _, _⟩ := M2.cells
  obtain ⟨b, o, vb, vr, vt, eA, HD, k1, k2⟩ := M2.dev hx.out
  rw [eA] at q0
  obtain ⟨c0, c1, c2, c3, c4, c5, c6, s1, s2, s3⟩ := HD
  have LT : Hid (∀ W, Below (((w.alloc (.cells #[.pointer (some ⟨m.B, m.z, none⟩)] 51)).alloc (pkC p)).alloc lvC).heap.size (((w.alloc (.cells #[.pointer (some ⟨m.B, m.z, none⟩)] 51)).alloc (pkC p)).alloc lvC) W → Calls Try.prog 56 #[vr, pkV p] W fun e w' => e = .returned (.bool (letsB (rulesOf d) p.s p.d p.sp p.dp)) ∧ Below W.heap.size W w') := fun W h => lets_any _ _ _ _ W ((s2.below h).mono h.size)
  obtain ⟨Ab, cb, rfl, _, _, _, _⟩ := s1
  obtain ⟨Ar, cr, rfl, _, _, _, _⟩ := s2
  obtain ⟨At, ct, rfl, _, _, _, _⟩ := s3
  have SY : Hid (∀ W, Calls Try.prog 40 #[] W fun e w' => e = .returned (.tuple #[lvA 0 zeroP .nilFunc, .int .i64 7]) ∧ Below W.heap.size W w') := fun W => stay_any W
  generalize hr : askP d i p = r
  have HR : Hid (r = if letsB (rulesOf d) p.s p.d p.sp p.dp then ⟨0, 1, p, .flow i p⟩ else stayR 7) := hr.symm
  clear hr hx hM eA
  have E0 := (Below.refl (((w.alloc (.cells #[.pointer (some ⟨m.B, m.z, none⟩)] 51)).alloc (pkC p)).alloc lvC).heap.size (((w.alloc (.cells #[.pointer (some ⟨m.B, m.z, none⟩)] 51)).alloc (pkC p)).alloc lvC)).drew
  generalize letsB (rulesOf d) p.s p.d p.sp p.dp = x1 at *
  generalize (rulesOf d).length = nr at *
  generalize (routesOf d).length = nt at *
  generalize d.backs.length = nb at *
  generalize d.name = nm at *
  generalize d.kind = kd at *
  generalize d.addr = ad at *
  generalize d.pool = pl at *
  obtain ⟨s, dd, sp, dp⟩ := p
  simp only at *
  have B3 := B2.drew
  have P3 := P2.drew
  have L3 := L2.drew
  have D3 := D2.drew
  have Q0 : (((w.alloc (.cells #[.pointer (some ⟨m.B, m.z, none⟩)] 51)).alloc (pkC ⟨s, dd, sp, dp⟩)).alloc lvC).drew.cell? ⟨m.B, m.z, none⟩ = some (.slice (some ⟨b, o, none⟩) ds.length m.cap) := q0
  have C5 : (((w.alloc (.cells #[.pointer (some ⟨m.B, m.z, none⟩)] 51)).alloc (pkC ⟨s, dd, sp, dp⟩)).alloc lvC).drew.cell? ⟨b, o + i * 7 + 5, none⟩ = some (.slice Ar nr cr) := c5
  clear D2 M2
  obtain ⟨b0, _⟩ := B2.one
  obtain ⟨p0, p1, p2, p3, _⟩ := P2.four
  go_enter Try.func34, Try.ntmps34
  go_wp2_with fail
  go_region_held3 (fun w' => w'.cell? ⟨w.heap.size, 0, none⟩ = some (.pointer (some ⟨m.B, m.z, none⟩)) ∧ w'.cell? ⟨m.B, m.z, none⟩ = some (.slice (some ⟨b, o, none⟩) ds.length m.cap) ∧ w'.cell? ⟨b, o + i * 7 + 5, none⟩ = some (.slice Ar nr cr) ∧ w'.cell? ⟨w.heap.size + 1, 0, none⟩ = some (.int .i64 s) ∧ w'.cell? ⟨w.heap.size + 1, 1, none⟩ = some (.int .i64 dd) ∧ w'.cell? ⟨w.heap.size + 1, 2, none⟩ = some (.int .i64 sp) ∧ w'.cell? ⟨w.heap.size + 1, 3, none⟩ = some (.int .i64 dp)) (go_keep) ((go_at_call 56; refine (LT.out _ E0).mono ?_; rintro e w5 ⟨rfl, hb5⟩; have D5 := chnN hb5 D3; have B5 := B3.keep hb5; have P5 := P3.keep hb5; have L5 := L3.keep hb5; have q5 := (CK.of_below hb5).cell Q0; have c9 := (CK.of_below hb5).cell C5; obtain ⟨b5, _⟩ := B5.one; obtain ⟨g0, g1, g2, g3, _⟩ := P5.four))
  clear B3 P3 L3 D3 B2 P2 L2 b0 p0 p1 p2 p3 Q0 C5 q0 c0 c1 c2 c3 c4 c5 c6 q5 c9 hb5 LT E0
  have z5 : w.heap.size + 1 + 1 < w5.heap.size := L5.lt
  have z6 : w.heap.size + 1 < w5.heap.size := P5.lt
  have z7 : w.heap.size < w5.heap.size := B5.lt
  cases x1
  · have HV : Hid (r = stayR 7) := by show _ = _; rw [HR.out]; rfl
    go_wp2_with fail
    refine (SY.out _).mono ?_
    rintro e w9 ⟨rfl, hb9⟩
    have D9 := chnN hb9 D5
    have L9 := L5.keep hb9
    obtain ⟨⟨l0, l1, l2, l3, l4, l5⟩, ⟨f0, f1, f2, f3, f4, f5⟩⟩ := L9.six
    go_wp2_with fail
    refine bodyPost_ret (v := .tuple #[lvA 0 zeroP .nilFunc, .int .i64 7]) (by simp [results, Try.results34, go_sem, l0, l1, l2, l3, l4, l5]) rfl ⟨0, zeroP, .nilFunc, 7, rfl, ?_, ?_⟩
    · rw [HV.out]
      exact ⟨rfl, Or.inl rfl, fun h => by cases h⟩
    · go_grown
  have HV : Hid (r = ⟨0, 1, ⟨s, dd, sp, dp⟩, .flow i ⟨s, dd, sp, dp⟩⟩) := by show _ = _; rw [HR.out]; rfl
  go_upto_region 3 with fail
  go_cut [8] (fun v8 wx => ∃ g, v8 = .pointer (some ⟨g, 0, none⟩) ∧ Bk wx g #[.int .i64 (i : Int), .int .i64 s, .int .i64 dd, .int .i64 sp, .int .i64 dp] 107 ∧ w.heap.size + 1 + 1 < g ∧ Bk wx w.heap.size #[.pointer (some ⟨m.B, m.z, none⟩)] 51 ∧ Bk wx (w.heap.size + 1) #[.int .i64 s, .int .i64 dd, .int .i64 sp, .int .i64 dp] 29 ∧ Bk wx (w.heap.size + 1 + 1) #[.int .i64 0, .int .i64 0, .int .i64 0, .int .i64 0, .int .i64 0, .nilFunc] 73 ∧ Below w.heap.size w wx)
  case first =>
    go_wp2_with fail
    go_meet
    exact ⟨_, rfl, bk_new w5 _ _, z5, B5.alloc _, P5.alloc _, L5.alloc _, Below.alN D5 _⟩
  case rest =>
    clear D5 B5 P5 L5 z5 z6 z7 b5 g0 g1 g2 g3
    obtain ⟨g, rfl, F6, zg, B6, P6, L6, D6⟩ := hcut
    obtain ⟨g0, g1, g2, g3, _⟩ := P6.four
    obtain ⟨⟨l0, l1, l2, l3, l4, l5⟩, ⟨f0, f1, f2, f3, f4, f5⟩⟩ := L6.six
    go_wp2_with fail
    refine bodyPost_ret (v := .tuple #[lvA 1 ⟨s, dd, sp, dp⟩ (.func (.func 58) #[] #[.pointer (some ⟨w.heap.size, 0, none⟩), .pointer (some ⟨g, 0, none⟩)]), .int .i64 0]) (by simp [results, Try.results34, go_sem, l0, l1, l2, l3, l4, l5]) rfl ⟨_, _, _, 0, rfl, ?_, ?_⟩
    · rw [HV.out]
      obtain ⟨b0, _⟩ := B6.one
      obtain ⟨e0, e1, e2, e3, e4⟩ := F6.five
      exact ⟨rfl, Or.inr ⟨_, _, rfl⟩, fun _ => ⟨rfl, rfl, hi.out, hp.out, _, _, rfl, by omega, by omega, by simp [go_sem, b0], by simp [go_sem, e0], by simp [go_sem, e1], by simp [go_sem, e2], by simp [go_sem, e3], by simp [go_sem, e4]⟩⟩
    · go_grown
end Go.Proofs.Ythioedgnambomaa
