/-
  Package step: gather.
-/
import Derived.Test.YthioedgnambomaaSs
namespace Go.Proofs.Ythioedgnambomaa
open Go.RowKit Go.Maps

set_option maxHeartbeats 4000000 in
set_option maxRecDepth 100000 in
theorem gather_any (m : Mp) (ds : List Dv) (ls : List Lk) (n : Nat) (M : Mnd) (i : Nat) (d : Dv) (p : Pk) (w : World) (hM : Hid (MemAt w m ds ls n M)) (hx : Hid (ds[i]? = some d)) (hp : Hid p.ok) (hi : Hid (i64ok (i : Int))) (ha : Hid (i64ok d.addr)) :
    Calls Try.prog 39 #[.pointer (some ⟨m.B, m.z, none⟩), .int .i64 (i : Int), pkV p] w (SPost m w (gatherP d M i p)) := by
  have M2 := (hM.out.alloc (pkC p)).alloc lvC
  have D2 := Below.alN (Below.alN (Below.refl w.heap.size w) (pkC p)) lvC
  have P2 := (bk_new w #[.int .i64 p.s, .int .i64 p.d, .int .i64 p.sp, .int .i64 p.dp] 29).alloc lvC
  have L2 := bk_new (w.alloc (pkC p)) #[.int .i64 0, .int .i64 0, .int .i64 0, .int .i64 0, .int .i64 0, .nilFunc] 73
  rw [World.size_alloc] at L2
  obtain ⟨q0, _, _, _, _⟩ := M2.cells
  obtain ⟨b, o, vb, vr, vt, eA, HD, k1, k2⟩ := M2.dev hx.out
  rw [eA] at q0
  obtain ⟨c0, c1, c2, c3, c4, c5, c6, s1, s2, s3⟩ := HD
  obtain ⟨Ab, cb, rfl, _, _, _, _⟩ := s1
  obtain ⟨Ar, cr, rfl, _, _, _, _⟩ := s2
  obtain ⟨At, ct, rfl, _, _, _, _⟩ := s3
  have PS : Hid (∀ (q : Int) (p : Pk) W, Calls Try.prog 57 #[.int .i64 q, pkV p] W fun e w' => e = .returned (.tuple #[lvA q p (.func (.func 75) #[] #[]), .int .i64 0]) ∧ Below W.heap.size W w') := fun q p W => pass_any q p W
  obtain ⟨s, dd, sp, dp⟩ := p
  generalize hr : gatherP d M i ⟨s, dd, sp, dp⟩ = r
  have HR : Hid (r = passR 0 (if M.bk ((i : Int), ⟨dd, d.addr, dp, sp⟩) = some s then ⟨d.addr, dd, sp, dp⟩ else ⟨s, dd, sp, dp⟩)) := hr.symm
  have HL : Hid (∀ W, MemAt W m ds ls n M → (Instr.lookup 69 (.map (some m.k)) (.agg #[.int .i64 (i : Int), .int .i64 dd, .int .i64 d.addr, .int .i64 dp, .int .i64 sp]) true).run Try.prog W = .ok (.tuple #[.int .i64 ((M.bk ((i : Int), ⟨dd, d.addr, dp, sp⟩)).getD 0), .bool (M.bk ((i : Int), ⟨dd, d.addr, dp, sp⟩)).isSome]) W) := fun W h => h.lookB (p := ⟨dd, d.addr, dp, sp⟩) hi.out ⟨hp.out.d, ha.out, hp.out.dp, hp.out.sp⟩
  clear hr hx hM eA ha
  simp only at *
  generalize M.bk ((i : Int), ⟨dd, d.addr, dp, sp⟩) = y at *
  generalize (rulesOf d).length = nr at *
  generalize (routesOf d).length = nt at *
  generalize d.backs.length = nb at *
  generalize d.name = nm at *
  generalize d.kind = kd at *
  generalize d.addr = ad at *
  generalize d.pool = pl at *
  have lk := HL.out _ (M2.alloc (.cells #[.int .i64 dd, .int .i64 ad, .int .i64 dp, .int .i64 sp] 29)).drew
  obtain ⟨_, _, _, _, q4⟩ := (M2.alloc (.cells #[.int .i64 dd, .int .i64 ad, .int .i64 dp, .int .i64 sp] 29)).cells
  have D3 := (Below.alN D2 (.cells #[.int .i64 dd, .int .i64 ad, .int .i64 dp, .int .i64 sp] 29)).drew
  have L3 := (L2.alloc (.cells #[.int .i64 dd, .int .i64 ad, .int .i64 dp, .int .i64 sp] 29)).drew
  clear HL M2 P2
  cases y with
  | none =>
    have HV : Hid (r = passR 0 ⟨s, dd, sp, dp⟩) := by show _ = _; rw [HR.out]; rfl
    simp only [Option.getD_none, Option.isSome_none] at lk
    go_enter Try.func39, Try.ntmps39
    go_wp2_with fail
    go_region
    go_wp2_with fail
    refine (PS.out _ ⟨s, dd, sp, dp⟩ _).mono ?_
    rintro e w9 ⟨rfl, hb9⟩
    have D9 := chnN hb9 D3
    have L9 := L3.keep hb9
    obtain ⟨⟨l0, l1, l2, l3, l4, l5⟩, ⟨f0, f1, f2, f3, f4, f5⟩⟩ := L9.six
    go_wp2_with fail
    refine bodyPost_ret (v := .tuple #[lvA 0 ⟨s, dd, sp, dp⟩ (.func (.func 75) #[] #[]), .int .i64 0]) (by simp [results, Try.results39, go_sem, l0, l1, l2, l3, l4, l5]) rfl ⟨_, _, _, 0, rfl, ?_, ?_⟩
    · rw [HV.out]
      exact ⟨rfl, Or.inr ⟨_, _, rfl⟩, fun _ => ⟨rfl, rfl, rfl⟩⟩
    · go_grown
  | some x =>
    simp only [Option.getD_some, Option.isSome_some] at lk
    cases hxs : (x == s)
    · have HV : Hid (r = passR 0 ⟨s, dd, sp, dp⟩) := by
        show _ = _
        rw [HR.out, if_neg (fun e => by cases e; simp at hxs)]
      go_enter Try.func39, Try.ntmps39
      go_wp2_with fail
      go_region
      go_wp2_with fail
      refine (PS.out _ ⟨s, dd, sp, dp⟩ _).mono ?_
      rintro e w9 ⟨rfl, hb9⟩
      have D9 := chnN hb9 D3
      have L9 := L3.keep hb9
      obtain ⟨⟨l0, l1, l2, l3, l4, l5⟩, ⟨f0, f1, f2, f3, f4, f5⟩⟩ := L9.six
      go_wp2_with fail
      refine bodyPost_ret (v := .tuple #[lvA 0 ⟨s, dd, sp, dp⟩ (.func (.func 75) #[] #[]), .int .i64 0]) (by simp [results, Try.results39, go_sem, l0, l1, l2, l3, l4, l5]) rfl ⟨_, _, _, 0, rfl, ?_, ?_⟩
      · rw [HV.out]
        exact ⟨rfl, Or.inr ⟨_, _, rfl⟩, fun _ => ⟨rfl, rfl, rfl⟩⟩
      · go_grown
    · have HV : Hid (r = passR 0 ⟨ad, dd, sp, dp⟩) := by
        show _ = _
        rw [HR.out, if_pos (by rw [eq_of_beq hxs])]
      have D4 := (Below.alN (Below.alN (Below.alN (Below.refl w.heap.size w) (pkC ⟨ad, dd, sp, dp⟩)) lvC) (.cells #[.int .i64 dd, .int .i64 ad, .int .i64 dp, .int .i64 sp] 29)).drew
      have L4 := (bk_new (w.alloc (pkC ⟨ad, dd, sp, dp⟩)) #[.int .i64 0, .int .i64 0, .int .i64 0, .int .i64 0, .int .i64 0, .nilFunc] 73).alloc (.cells #[.int .i64 dd, .int .i64 ad, .int .i64 dp, .int .i64 sp] 29)
      rw [World.size_alloc] at L4
      have L5 := L4.drew
      go_enter Try.func39, Try.ntmps39
      go_wp2_with fail
      go_region
      go_wp2_with fail
      refine (PS.out _ ⟨ad, dd, sp, dp⟩ _).mono ?_
      rintro e w9 ⟨rfl, hb9⟩
      have D9 := chnN hb9 D4
      have L9 := L5.keep hb9
      obtain ⟨⟨l0, l1, l2, l3, l4, l5⟩, ⟨f0, f1, f2, f3, f4, f5⟩⟩ := L9.six
      go_wp2_with fail
      refine bodyPost_ret (v := .tuple #[lvA 0 ⟨ad, dd, sp, dp⟩ (.func (.func 75) #[] #[]), .int .i64 0]) (by simp [results, Try.results39, go_sem, l0, l1, l2, l3, l4, l5]) rfl ⟨_, _, _, 0, rfl, ?_, ?_⟩
      · rw [HV.out]
        exact ⟨rfl, Or.inr ⟨_, _, rfl⟩, fun _ => ⟨rfl, rfl, rfl⟩⟩
      · go_grown
end Go.Proofs.Ythioedgnambomaa
