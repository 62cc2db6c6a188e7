/-
  Package step: unhide.
-/
import Derived.Test.YthioedgnambomaaSs
namespace Go.Proofs.Ythioedgnambomaa
open Go.RowKit Go.Maps

set_option maxHeartbeats 4000000 in
set_option maxRecDepth 100000 in
theorem unhide_any (m : Mp) (ds : List Dv) (ls : List Lk) (n : Nat) (M : Mnd) (i : Nat) (d : Dv) (p : Pk) (w : World) (hM : Hid (MemAt w m ds ls n M)) (hx : Hid (ds[i]? = some d)) (hp : Hid p.ok) (hi : Hid (i64ok (i : Int))) :
    Calls Try.prog 37 #[.pointer (some ⟨m.B, m.z, none⟩), .int .i64 (i : Int), pkV p] w (SPost m w (unhideP d M i p)) := by
  have M2 := (hM.out.alloc (pkC p)).alloc lvC
  have D2 := Below.alN (Below.alN (Below.refl w.heap.size w) (pkC p)) lvC
  have P2 := (bk_new w #[.int .i64 p.s, .int .i64 p.d, .int .i64 p.sp, .int .i64 p.dp] 29).alloc lvC
  have L2 := bk_new (w.alloc (pkC p)) #[.int .i64 0, .int .i64 0, .int .i64 0, .int .i64 0, .int .i64 0, .nilFunc] 73
  rw [World.size_alloc] at L2
  have PS : Hid (∀ (q : Int) (p : Pk) W, Calls Try.prog 57 #[.int .i64 q, pkV p] W fun e w' => e = .returned (.tuple #[lvA q p (.func (.func 75) #[] #[]), .int .i64 0]) ∧ Below W.heap.size W w') := fun q p W => pass_any q p W
  have SY : Hid (∀ W, Calls Try.prog 40 #[] W fun e w' => e = .returned (.tuple #[lvA 0 zeroP .nilFunc, .int .i64 7]) ∧ Below W.heap.size W w') := fun W => stay_any W
  obtain ⟨s, dd, sp, dp⟩ := p
  generalize hr : unhideP d M i ⟨s, dd, sp, dp⟩ = r
  have HR : Hid (r = match M.ow ((i : Int), dp) with | some z => if dd == d.addr then passR 0 ⟨s, z.1, sp, z.2⟩ else stayR 7 | none => stayR 7) := hr.symm
  have lk := (M2.alloc (.cells #[.int .i64 0, .int .i64 0] 112)).drew.lookO (i := (i : Int)) (k := dp) hi.out hp.out.dp
  have lk2 := M2.drew.lookO (i := (i : Int)) (k := dp) hi.out hp.out.dp
  simp only at *
  obtain ⟨_, _, _, qo, _⟩ := (M2.alloc (.cells #[.int .i64 0, .int .i64 0] 112)).cells
  obtain ⟨_, _, _, qo2, _⟩ := M2.cells
  generalize M.ow ((i : Int), dp) = y at *
  obtain ⟨ea, eb, x0, hea, heb, hx0⟩ : ∃ ea eb x0, (y.getD (0, 0)).1 = ea ∧ (y.getD (0, 0)).2 = eb ∧ y.isSome = x0 := ⟨_, _, _, rfl, rfl, rfl⟩
  have HR2 : Hid (r = if x0 then (if dd == d.addr then passR 0 ⟨s, ea, sp, eb⟩ else stayR 7) else stayR 7) := by
    show _ = _
    rw [HR.out, ← hea, ← heb, ← hx0]
    cases y <;> rfl
  rw [hea, heb, hx0] at lk lk2
  clear hr hM hea heb hx0 HR
  go_enter Try.func37, Try.ntmps37
  go_wp2_with fail
  go_cut [8, 9] (fun v8 v9 wx => ∃ g, v8 = .pointer (some ⟨g, 0, none⟩) ∧ v9 = .bool x0 ∧ Bk wx g #[.int .i64 ea, .int .i64 eb] 112 ∧ w.heap.size + 1 < g ∧ Bk wx w.heap.size #[.int .i64 s, .int .i64 dd, .int .i64 sp, .int .i64 dp] 29 ∧ Bk wx (w.heap.size + 1) #[.int .i64 0, .int .i64 0, .int .i64 0, .int .i64 0, .int .i64 0, .nilFunc] 73 ∧ MemAt wx m ds ls n M ∧ Below w.heap.size w wx)
  case first =>
    go_region
    all_goals
      go_wp2_with fail
      go_meet
      exact ⟨_, rfl, rfl, (bk_new' _ _ _ _ (by simp)).drew, by simp, (P2.alloc _).drew, (L2.alloc _).drew, (M2.alloc _).drew, (Below.alN D2 _).drew⟩
  case rest =>
    clear lk lk2 qo qo2 M2 P2 L2 D2
    obtain ⟨g, rfl, rfl, E4, zg, P4, L4, M4, D4⟩ := hcut
    obtain ⟨p0, p1, p2, p3, pf0, pf1, pf2, pf3⟩ := P4.four
    obtain ⟨e0, e1⟩ := E4.two
    have z4 : w.heap.size < wc.heap.size := P4.lt
    cases x0
    · have HV : Hid (r = stayR 7) := HR2.out
      clear HR2 hx
      go_wp2_with fail
      go_quiet (fail)
      go_wp2_with fail
      refine (SY.out _).mono ?_
      rintro e w9 ⟨rfl, hb9⟩
      have D9 := chnN (W0 := w) hb9 (by first | (go_grown; done) | exact belowNN (by assumption) _ | (go_grown <;> exact belowNN (by assumption) _))
      have L9 := L4.keep hb9
      obtain ⟨⟨l0, l1, l2, l3, l4, l5⟩, ⟨f0, f1, f2, f3, f4, f5⟩⟩ := L9.six
      go_wp2_with fail
      refine bodyPost_ret (v := .tuple #[lvA 0 zeroP .nilFunc, .int .i64 7]) (by simp [results, Try.results37, go_sem, l0, l1, l2, l3, l4, l5]) rfl ⟨0, zeroP, .nilFunc, 7, rfl, ?_, ?_⟩
      · rw [HV.out]
        exact ⟨rfl, Or.inl rfl, fun h => by cases h⟩
      · go_grown
    obtain ⟨q0, _, _, _, _⟩ := M4.cells
    obtain ⟨b, o, vb, vr, vt, eA, HD, k1, k2⟩ := M4.dev hx.out
    rw [eA] at q0
    obtain ⟨c0, c1, c2, c3, c4, c5, c6, _, _, _⟩ := HD
    clear hx eA M4 c0 c1 c3 c4 c5 c6
    generalize d.addr = ad at *
    cases ha : (dd == ad)
    · have HV : Hid (r = stayR 7) := by show _ = _; rw [HR2.out, ha]; rfl
      clear HR2
      go_wp2_with fail
      go_quiet (fail)
      go_wp2_with fail
      refine (SY.out _).mono ?_
      rintro e w9 ⟨rfl, hb9⟩
      have D9 := chnN (W0 := w) hb9 (by first | (go_grown; done) | exact belowNN (by assumption) _ | (go_grown <;> exact belowNN (by assumption) _))
      have L9 := L4.keep hb9
      obtain ⟨⟨l0, l1, l2, l3, l4, l5⟩, ⟨f0, f1, f2, f3, f4, f5⟩⟩ := L9.six
      go_wp2_with fail
      refine bodyPost_ret (v := .tuple #[lvA 0 zeroP .nilFunc, .int .i64 7]) (by simp [results, Try.results37, go_sem, l0, l1, l2, l3, l4, l5]) rfl ⟨0, zeroP, .nilFunc, 7, rfl, ?_, ?_⟩
      · rw [HV.out]
        exact ⟨rfl, Or.inl rfl, fun h => by cases h⟩
      · go_grown
    · have HV : Hid (r = passR 0 ⟨s, ea, sp, eb⟩) := by show _ = _; rw [HR2.out, ha]; rfl
      clear HR2
      go_wp2_with fail
      go_quiet (fail)
      go_wp2_with fail
      go_region
      go_wp2_with fail
      refine (PS.out _ ⟨s, ea, sp, eb⟩ _).mono ?_
      rintro e w9 ⟨rfl, hb9⟩
      have D9 := chnN (W0 := w) hb9 (by first | (go_grown; done) | exact belowNN (by assumption) _ | (go_grown <;> exact belowNN (by assumption) _))
      have L9 := ((L4.setO (by omega) _).setO (by omega) _).keep hb9
      obtain ⟨⟨l0, l1, l2, l3, l4, l5⟩, ⟨f0, f1, f2, f3, f4, f5⟩⟩ := L9.six
      go_wp2_with fail
      refine bodyPost_ret (v := .tuple #[lvA 0 ⟨s, ea, sp, eb⟩ (.func (.func 75) #[] #[]), .int .i64 0]) (by simp [results, Try.results37, go_sem, l0, l1, l2, l3, l4, l5]) rfl ⟨_, _, _, 0, rfl, ?_, ?_⟩
      · rw [HV.out]
        exact ⟨rfl, Or.inr ⟨_, _, rfl⟩, fun _ => ⟨rfl, rfl, rfl⟩⟩
      · go_grown
end Go.Proofs.Ythioedgnambomaa
