/-
  Package step: answer, gather, unhide.
-/
import Derived.Test.YthioedgnambomaaSs
namespace Go.Proofs.Ythioedgnambomaa
open Go.RowKit Go.Maps

theorem ansS {w' : World} {m : Mp} {ds : List Dv} {ls : List Lk} {n N : Nat} {M : Mnd} {i : Int} {s dd sp dp : Int} {x0 : Bool} (hM : MemAt w' m ds ls n M) (hP : Bk w' N #[.int .i64 s, .int .i64 dd, .int .i64 sp, .int .i64 dp] 29) (hi : i64ok i) (hp : (⟨s, dd, sp, dp⟩ : Pk).ok) (hx : (M.fl (i, ⟨dd, s, dp, sp⟩)).isSome = x0) :
    w'.cell? ⟨m.B, m.z + 2, none⟩ = some (.map (some m.f)) ∧ w'.cell? ⟨N, 0, none⟩ = some (.int .i64 s) ∧ w'.cell? ⟨N, 1, none⟩ = some (.int .i64 dd) ∧ w'.cell? ⟨N, 2, none⟩ = some (.int .i64 sp) ∧ w'.cell? ⟨N, 3, none⟩ = some (.int .i64 dp) ∧ (Instr.lookup 67 (.map (some m.f)) (.agg #[.int .i64 i, .int .i64 dd, .int .i64 s, .int .i64 dp, .int .i64 sp]) true).run Try.prog w' = .ok (.tuple #[.agg #[], .bool x0]) w' := by
  obtain ⟨p0, p1, p2, p3, _⟩ := hP.four
  have := hM.lookF (p := ⟨dd, s, dp, sp⟩) hi ⟨hp.d, hp.s, hp.dp, hp.sp⟩
  rw [hx] at this
  exact ⟨hM.cells.2.2.1, p0, p1, p2, p3, this⟩
set_option maxHeartbeats 4000000 in
set_option maxRecDepth 100000 in
theorem answer_any (m : Mp) (ds : List Dv) (ls : List Lk) (n : Nat) (M : Mnd) (i : Nat) (p : Pk) (w : World) (hM : Hid (MemAt w m ds ls n M)) (hp : Hid p.ok) (hi : Hid (i64ok (i : Int))) :
    Calls Try.prog 35 #[.pointer (some ⟨m.B, m.z, none⟩), .int .i64 (i : Int), pkV p] w (SPost m w (answerP M i p)) := by
  have M2 := (hM.out.alloc (pkC p)).alloc lvC
  have D2 := Below.alN (Below.alN (Below.refl w.heap.size w) (pkC p)) lvC
  have P2 := (bk_new w #[.int .i64 p.s, .int .i64 p.d, .int .i64 p.sp, .int .i64 p.dp] 29).alloc lvC
  have L2 := bk_new (w.alloc (pkC p)) #[.int .i64 0, .int .i64 0, .int .i64 0, .int .i64 0, .int .i64 0, .nilFunc] 73
  rw [World.size_alloc] at L2
  have SY : Hid (∀ W, Calls Try.prog 40 #[] W fun e w' => e = .returned (.tuple #[lvA 0 zeroP .nilFunc, .int .i64 7]) ∧ Below W.heap.size W w') := fun W => stay_any W
  have PS : Hid (∀ (q : Int) (p : Pk) W, Calls Try.prog 57 #[.int .i64 q, pkV p] W fun e w' => e = .returned (.tuple #[lvA q p (.func (.func 75) #[] #[]), .int .i64 0]) ∧ Below W.heap.size W w') := fun q p W => pass_any q p W
  obtain ⟨s, dd, sp, dp⟩ := p
  simp only at *
  have FL : Hid (∀ w, Calls Try.prog 59 #[.agg #[.int .i64 s, .int .i64 dd, .int .i64 sp, .int .i64 dp]] w fun e w' => e = .returned (.agg #[.int .i64 dd, .int .i64 s, .int .i64 dp, .int .i64 sp]) ∧ Below w.heap.size w w') := fun w => pflip_any ⟨s, dd, sp, dp⟩ w
  generalize hr : answerP M i ⟨s, dd, sp, dp⟩ = r
  generalize hx : (M.fl ((i : Int), (⟨dd, s, dp, sp⟩ : Pk))).isSome = x0
  have HR : Hid (r = if x0 then passR 0 ⟨s, dd, sp, dp⟩ else stayR 7) := by
    show _ = _
    rw [← hr, ← hx]
    rfl
  have HX : Hid ((M.fl ((i : Int), (⟨dd, s, dp, sp⟩ : Pk))).isSome = x0) := hx
  clear hr hx hM
  have D3 := D2.drew
  have M3 := M2.drew
  have P3 := P2.drew
  have L3 := L2.drew
  have D3a := (Below.alN D2 (.cells #[] 108)).drew
  have M3a := (M2.alloc (.cells #[] 108)).drew
  have P3a := (P2.alloc (.cells #[] 108)).drew
  have L3a := (L2.alloc (.cells #[] 108)).drew
  have S2 := ansS M2 P2 hi.out hp.out HX.out
  clear D2 M2 P2 L2
  obtain ⟨q0, p0, p1, p2, p3, lk⟩ := S2
  go_enter Try.func35, Try.ntmps35
  go_wp2_with fail
  go_cut [9] (fun v9 wx => v9 = .bool x0 ∧ Below w.heap.size w wx ∧ Bk wx w.heap.size #[.int .i64 s, .int .i64 dd, .int .i64 sp, .int .i64 dp] 29 ∧ Bk wx (w.heap.size + 1) #[.int .i64 0, .int .i64 0, .int .i64 0, .int .i64 0, .int .i64 0, .nilFunc] 73)
  case first =>
    go_region_held3 (fun w' => w'.cell? ⟨m.B, m.z + 2, none⟩ = some (.map (some m.f)) ∧ w'.cell? ⟨w.heap.size, 0, none⟩ = some (.int .i64 s) ∧ w'.cell? ⟨w.heap.size, 1, none⟩ = some (.int .i64 dd) ∧ w'.cell? ⟨w.heap.size, 2, none⟩ = some (.int .i64 sp) ∧ w'.cell? ⟨w.heap.size, 3, none⟩ = some (.int .i64 dp) ∧ (Instr.lookup 67 (.map (some m.f)) (.agg #[.int .i64 (i : Int), .int .i64 dd, .int .i64 s, .int .i64 dp, .int .i64 sp]) true).run Try.prog w' = .ok (.tuple #[.agg #[], .bool x0]) w') (exact ansS (by first | assumption | exact MemAt.alloc (by assumption) _) (by first | assumption | exact Bk.alloc (by assumption) _) hi.out hp.out HX.out) (first | (go_at_call 59; refine (FL.out _).mono ?_; rintro e w5 ⟨rfl, hb5⟩; have D5 := chnN hb5 D3; have M5 := M3.below hb5; have P5 := P3.keep hb5; have L5 := L3.keep hb5) | (go_at_call 59; refine (FL.out _).mono ?_; rintro e w5 ⟨rfl, hb5⟩; have D5 := chnN hb5 D3a; have M5 := M3a.below hb5; have P5 := P3a.keep hb5; have L5 := L3a.keep hb5))
    all_goals
      go_wp2_with fail
      go_meet
      exact ⟨rfl, by first | exact D5 | exact Below.alN D5 _, by first | exact P5 | exact P5.alloc _, by first | exact L5 | exact L5.alloc _⟩
  case rest =>
    clear D3 M3 P3 L3 D3a M3a P3a L3a q0 p0 p1 p2 p3 lk FL
    obtain ⟨rfl, D5, P5, L5⟩ := hcut
    obtain ⟨p0, p1, p2, p3, _⟩ := P5.four
    have z5 : w.heap.size + 1 < wc.heap.size := L5.lt
    cases x0
    · have HV : Hid (r = stayR 7) := by show _ = _; rw [HR.out]; rfl
      go_wp2_with fail
      refine (SY.out _).mono ?_
      rintro e w9 ⟨rfl, hb9⟩
      have D9 := chnN hb9 D5
      have L9 := L5.keep hb9
      obtain ⟨⟨l0, l1, l2, l3, l4, l5⟩, ⟨f0, f1, f2, f3, f4, f5⟩⟩ := L9.six
      go_wp2_with fail
      refine bodyPost_ret (v := .tuple #[lvA 0 zeroP .nilFunc, .int .i64 7]) (by simp [results, Try.results35, go_sem, l0, l1, l2, l3, l4, l5]) rfl ⟨0, zeroP, .nilFunc, 7, rfl, ?_, ?_⟩
      · rw [HV.out]
        exact ⟨rfl, Or.inl rfl, fun h => by cases h⟩
      · go_grown
    have HV : Hid (r = passR 0 ⟨s, dd, sp, dp⟩) := by show _ = _; rw [HR.out]; rfl
    go_wp2_with fail
    refine (PS.out _ ⟨s, dd, sp, dp⟩ _).mono ?_
    rintro e w9 ⟨rfl, hb9⟩
    have D9 := chnN hb9 D5
    have L9 := L5.keep hb9
    obtain ⟨⟨l0, l1, l2, l3, l4, l5⟩, ⟨f0, f1, f2, f3, f4, f5⟩⟩ := L9.six
    go_wp2_with fail
    refine bodyPost_ret (v := .tuple #[lvA 0 ⟨s, dd, sp, dp⟩ (.func (.func 75) #[] #[]), .int .i64 0]) (by simp [results, Try.results35, go_sem, l0, l1, l2, l3, l4, l5]) rfl ⟨_, _, _, 0, rfl, ?_, ?_⟩
    · rw [HV.out]
      exact ⟨rfl, Or.inr ⟨_, _, rfl⟩, fun _ => ⟨rfl, rfl, rfl⟩⟩
    · go_grown
end Go.Proofs.Ythioedgnambomaa
