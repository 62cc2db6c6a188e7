/-
  Package step: spread.
-/
import Derived.Test.YthioedgnambomaaSs
namespace Go.Proofs.Ythioedgnambomaa
open Go.RowKit Go.Maps

set_option maxHeartbeats 4000000 in
set_option maxRecDepth 100000 in
theorem spread_any (m : Mp) (ds : List Dv) (ls : List Lk) (n : Nat) (M : Mnd) (i : Nat) (d : Dv) (p : Pk) (c : Int) (w : World) (hM : Hid (MemAt w m ds ls n M)) (hx : Hid (ds[i]? = some d)) (hp : Hid p.ok) (hi : Hid (i64ok (i : Int))) :
    Calls Try.prog 38 #[.pointer (some ⟨m.B, m.z, none⟩), .int .i64 (i : Int), pkV p, .int .i64 c] w (SPost m w (spreadP d M i p c)) := by
  have M2 := ((hM.out.alloc (.cells #[.pointer (some ⟨m.B, m.z, none⟩)] 51)).alloc (pkC p)).alloc lvC
  have D2 := Below.alN (Below.alN (Below.alN (Below.refl w.heap.size w) (.cells #[.pointer (some ⟨m.B, m.z, none⟩)] 51)) (pkC p)) lvC
  have B2 := ((bk_new w #[.pointer (some ⟨m.B, m.z, none⟩)] 51).alloc (pkC p)).alloc lvC
  have P2 := (bk_new' (w.alloc (.cells #[.pointer (some ⟨m.B, m.z, none⟩)] 51)) #[.int .i64 p.s, .int .i64 p.d, .int .i64 p.sp, .int .i64 p.dp] 29 (w.heap.size + 1) (by simp)).alloc lvC
  have L2 := bk_new' ((w.alloc (.cells #[.pointer (some ⟨m.B, m.z, none⟩)] 51)).alloc (pkC p)) #[.int .i64 0, .int .i64 0, .int .i64 0, .int .i64 0, .int .i64 0, .nilFunc] 73 (w.heap.size + 1 + 1) (by simp)
  obtain ⟨q0, _, _, _, _⟩ := M2.cells
  obtain ⟨b, o, vb, vr, vt, eA, HD, k1, k2⟩ := M2.dev hx.out
  rw [eA] at q0
  obtain ⟨c0, c1, c2, c3, c4, c5, c6, s1, s2, s3⟩ := HD
  have HBK : Hid (∀ W, Below ((((w.alloc (.cells #[.pointer (some ⟨m.B, m.z, none⟩)] 51)).alloc (pkC p)).alloc lvC)).heap.size (((w.alloc (.cells #[.pointer (some ⟨m.B, m.z, none⟩)] 51)).alloc (pkC p)).alloc lvC) W → SlAt W.heap.size W 1 IsI vb d.backs) := fun W h => SlAt.mono (SlAt.below s1 h (fun _ _ _ h => h)) h.size (fun _ _ _ h => h)
  obtain ⟨Ab, cb, rfl, _, _, _, _⟩ := s1
  obtain ⟨Ar, cr, rfl, _, _, _, _⟩ := s2
  obtain ⟨At, ct, rfl, _, _, _, _⟩ := s3
  have PS : Hid (∀ (q : Int) (p : Pk) W, Calls Try.prog 57 #[.int .i64 q, pkV p] W fun e w' => e = .returned (.tuple #[lvA q p (.func (.func 75) #[] #[]), .int .i64 0]) ∧ Below W.heap.size W w') := fun q p W => pass_any q p W
  obtain ⟨s, dd, sp, dp⟩ := p
  generalize hr : spreadP d M i ⟨s, dd, sp, dp⟩ c = r
  have HR : Hid (r = if dd == d.addr then
    (match M.bk (i, ⟨s, dd, sp, dp⟩) with
    | some b => ⟨0, 1, ⟨s, b, sp, dp⟩, .back i ⟨s, dd, sp, dp⟩ b⟩
    | none => if decide (0 ≤ c) && decide (c < (d.backs.length : Int)) then ⟨0, 1, ⟨s, d.backs.getD c.toNat 0, sp, dp⟩, .back i ⟨s, dd, sp, dp⟩ (d.backs.getD c.toNat 0)⟩ else stayR 1)
    else passR 1 ⟨s, dd, sp, dp⟩) := hr.symm
  have HL : Hid (∀ W, MemAt W m ds ls n M → (Instr.lookup 69 (.map (some m.k)) (.agg #[.int .i64 (i : Int), .int .i64 s, .int .i64 dd, .int .i64 sp, .int .i64 dp]) true).run Try.prog W = .ok (.tuple #[.int .i64 ((M.bk (i, ⟨s, dd, sp, dp⟩)).getD 0), .bool (M.bk (i, ⟨s, dd, sp, dp⟩)).isSome]) W) := fun W h => h.lookB (p := ⟨s, dd, sp, dp⟩) hi.out hp.out
  have HBV : Hid (∀ k : Nat, k < d.backs.length → ∃ x, d.backs[k]? = some x ∧ d.backs.getD k 0 = x) := fun k h => ⟨d.backs[k], List.getElem?_eq_getElem h, by simp [List.getD_eq_getElem?_getD, h]⟩
  clear hr hx hM eA
  simp only at *
  generalize (rulesOf d).length = nr at *
  generalize (routesOf d).length = nt at *
  generalize hnb : d.backs.length = nb at *
  have HNB : Hid (d.backs.length = nb) := hnb
  clear hnb
  generalize d.name = nm at *
  generalize d.kind = kd at *
  generalize d.addr = ad at *
  generalize d.pool = pl at *
  have D3 := Below.alN D2 (dvC nm kd ad pl (.slice Ab nb cb) (.slice Ar nr cr) (.slice At nt ct))
  have E3 := Below.alN (Below.refl ((((w.alloc (.cells #[.pointer (some ⟨m.B, m.z, none⟩)] 51)).alloc (pkC ⟨s, dd, sp, dp⟩)).alloc lvC)).heap.size (((w.alloc (.cells #[.pointer (some ⟨m.B, m.z, none⟩)] 51)).alloc (pkC ⟨s, dd, sp, dp⟩)).alloc lvC)) (dvC nm kd ad pl (.slice Ab nb cb) (.slice Ar nr cr) (.slice At nt ct))
  have B3 := B2.alloc (dvC nm kd ad pl (.slice Ab nb cb) (.slice Ar nr cr) (.slice At nt ct))
  have P3 := P2.alloc (dvC nm kd ad pl (.slice Ab nb cb) (.slice Ar nr cr) (.slice At nt ct))
  have L3 := L2.alloc (dvC nm kd ad pl (.slice Ab nb cb) (.slice Ar nr cr) (.slice At nt ct))
  have M3 := M2.alloc (dvC nm kd ad pl (.slice Ab nb cb) (.slice Ar nr cr) (.slice At nt ct))
  have V3 := bk_new' (((w.alloc (.cells #[.pointer (some ⟨m.B, m.z, none⟩)] 51)).alloc (pkC ⟨s, dd, sp, dp⟩)).alloc lvC) #[.string nm, .int .i64 kd, .int .i64 ad, .int .u8 (pl : Int), .slice Ab nb cb, .slice Ar nr cr, .slice At nt ct] 42 (w.heap.size + 1 + 1 + 1) (by simp)
  cases ha : (dd == ad)
  · have HV : Hid (r = passR 1 ⟨s, dd, sp, dp⟩) := by show _ = _; rw [HR.out, ha]; rfl
    clear HR HL HBV HBK
    go_enter Try.func38, Try.ntmps38
    go_wp2_with fail
    refine (PS.out _ ⟨s, dd, sp, dp⟩ _).mono ?_
    rintro e w9 ⟨rfl, hb9⟩
    have D9 := chnN hb9 D3
    have L9 := L3.keep hb9
    obtain ⟨⟨l0, l1, l2, l3, l4, l5⟩, ⟨f0, f1, f2, f3, f4, f5⟩⟩ := L9.six
    go_wp2_with fail
    refine bodyPost_ret (v := .tuple #[lvA 1 ⟨s, dd, sp, dp⟩ (.func (.func 75) #[] #[]), .int .i64 0]) (by simp [results, Try.results38, go_sem, l0, l1, l2, l3, l4, l5]) rfl ⟨_, _, _, 0, rfl, ?_, ?_⟩
    · rw [HV.out]
      exact ⟨rfl, Or.inr ⟨_, _, rfl⟩, fun _ => ⟨rfl, rfl, rfl⟩⟩
    · go_grown
  have HR1 : Hid (r = (match M.bk (i, ⟨s, dd, sp, dp⟩) with
    | some b => ⟨0, 1, ⟨s, b, sp, dp⟩, .back i ⟨s, dd, sp, dp⟩ b⟩
    | none => if decide (0 ≤ c) && decide (c < (nb : Int)) then ⟨0, 1, ⟨s, d.backs.getD c.toNat 0, sp, dp⟩, .back i ⟨s, dd, sp, dp⟩ (d.backs.getD c.toNat 0)⟩ else stayR 1)) := by show _ = _; rw [HR.out, ha]; rfl
  clear HR
  have D4 := Below.alN D3 (.cells #[.int .i64 (i : Int), .int .i64 s, .int .i64 dd, .int .i64 sp, .int .i64 dp] 107)
  have E4 := Below.alN E3 (.cells #[.int .i64 (i : Int), .int .i64 s, .int .i64 dd, .int .i64 sp, .int .i64 dp] 107)
  have B4 := B3.alloc (.cells #[.int .i64 (i : Int), .int .i64 s, .int .i64 dd, .int .i64 sp, .int .i64 dp] 107)
  have P4 := P3.alloc (.cells #[.int .i64 (i : Int), .int .i64 s, .int .i64 dd, .int .i64 sp, .int .i64 dp] 107)
  have L4 := L3.alloc (.cells #[.int .i64 (i : Int), .int .i64 s, .int .i64 dd, .int .i64 sp, .int .i64 dp] 107)
  have M4 := M3.alloc (.cells #[.int .i64 (i : Int), .int .i64 s, .int .i64 dd, .int .i64 sp, .int .i64 dp] 107)
  have V4 := V3.alloc (.cells #[.int .i64 (i : Int), .int .i64 s, .int .i64 dd, .int .i64 sp, .int .i64 dp] 107)
  have A4 := bk_new' ((((w.alloc (.cells #[.pointer (some ⟨m.B, m.z, none⟩)] 51)).alloc (pkC ⟨s, dd, sp, dp⟩)).alloc lvC).alloc (dvC nm kd ad pl (.slice Ab nb cb) (.slice Ar nr cr) (.slice At nt ct))) #[.int .i64 (i : Int), .int .i64 s, .int .i64 dd, .int .i64 sp, .int .i64 dp] 107 (w.heap.size + 1 + 1 + 1 + 1) (by simp)
  have lk := HL.out _ (M4.alloc (.cells #[.int .i64 0] 3)).drew
  have lk2 := HL.out _ M4.drew
  obtain ⟨_, _, _, _, qo⟩ := (M4.alloc (.cells #[.int .i64 0] 3)).cells
  obtain ⟨_, _, _, _, qo2⟩ := M4.cells
  clear HL M2 M3 B2 P2 L2 B3 P3 L3 V3 D2 D3 E3
  obtain ⟨x, x0, hxv, hx0⟩ : ∃ x x0, (M.bk (i, ⟨s, dd, sp, dp⟩)).getD 0 = x ∧ (M.bk (i, ⟨s, dd, sp, dp⟩)).isSome = x0 := ⟨_, _, rfl, rfl⟩
  have HR2 : Hid (r = if x0 then ⟨0, 1, ⟨s, x, sp, dp⟩, .back i ⟨s, dd, sp, dp⟩ x⟩ else if decide (0 ≤ c) && decide (c < (nb : Int)) then ⟨0, 1, ⟨s, d.backs.getD c.toNat 0, sp, dp⟩, .back i ⟨s, dd, sp, dp⟩ (d.backs.getD c.toNat 0)⟩ else stayR 1) := by
    show _ = _
    rw [HR1.out, ← hxv, ← hx0]
    cases M.bk (i, ⟨s, dd, sp, dp⟩) <;> rfl
  rw [hxv, hx0] at lk lk2
  clear HR1 hxv hx0
  go_enter Try.func38, Try.ntmps38
  go_wp2_with fail
  go_cut [12, 13] (fun v12 v13 wx => ∃ q, v12 = .pointer (some ⟨q, 0, none⟩) ∧ v13 = .bool x0 ∧ Bk wx q #[.int .i64 x] 3 ∧ w.heap.size + 1 + 1 + 1 + 1 < q ∧ Bk wx (w.heap.size + 1 + 1 + 1 + 1) #[.int .i64 (i : Int), .int .i64 s, .int .i64 dd, .int .i64 sp, .int .i64 dp] 107 ∧ Bk wx (w.heap.size + 1 + 1 + 1) #[.string nm, .int .i64 kd, .int .i64 ad, .int .u8 (pl : Int), .slice Ab nb cb, .slice Ar nr cr, .slice At nt ct] 42 ∧ Bk wx w.heap.size #[.pointer (some ⟨m.B, m.z, none⟩)] 51 ∧ Bk wx (w.heap.size + 1) #[.int .i64 s, .int .i64 dd, .int .i64 sp, .int .i64 dp] 29 ∧ Bk wx (w.heap.size + 1 + 1) #[.int .i64 0, .int .i64 0, .int .i64 0, .int .i64 0, .int .i64 0, .nilFunc] 73 ∧ Below w.heap.size w wx ∧ Below ((((w.alloc (.cells #[.pointer (some ⟨m.B, m.z, none⟩)] 51)).alloc (pkC ⟨s, dd, sp, dp⟩)).alloc lvC)).heap.size (((w.alloc (.cells #[.pointer (some ⟨m.B, m.z, none⟩)] 51)).alloc (pkC ⟨s, dd, sp, dp⟩)).alloc lvC) wx)
  case first =>
    go_region
    all_goals
      go_wp2_with fail
      go_meet
      exact ⟨_, rfl, rfl, (bk_new' _ _ _ _ (by simp)).drew, by simp, (A4.alloc _).drew, (V4.alloc _).drew, (B4.alloc _).drew, (P4.alloc _).drew, (L4.alloc _).drew, (Below.alN D4 _).drew, (Below.alN E4 _).drew⟩
  case rest =>
    clear lk lk2 qo qo2 M4 A4 V4 B4 P4 L4 D4 E4
    obtain ⟨q, rfl, rfl, Q5, zq, A5, V5, B5, P5, L5, D5, E5⟩ := hcut
    have z1 : w.heap.size + 1 + 1 + 1 + 1 < wc.heap.size := A5.lt
    cases x0
    rotate_left
    · have HV : Hid (r = ⟨0, 1, ⟨s, x, sp, dp⟩, .back i ⟨s, dd, sp, dp⟩ x⟩) := HR2.out
      clear HR2 HBV HBK E5
      obtain ⟨qc, qf⟩ := Q5.one
      obtain ⟨p0, p1, p2, p3, pf0, pf1, pf2, pf3⟩ := P5.four
      go_upto_region 10 with fail
      go_cut [] (fun wx => Bk wx q #[.int .i64 x] 3 ∧ Bk wx (w.heap.size + 1 + 1 + 1 + 1) #[.int .i64 (i : Int), .int .i64 s, .int .i64 dd, .int .i64 sp, .int .i64 dp] 107 ∧ Bk wx w.heap.size #[.pointer (some ⟨m.B, m.z, none⟩)] 51 ∧ Bk wx (w.heap.size + 1) #[.int .i64 s, .int .i64 x, .int .i64 sp, .int .i64 dp] 29 ∧ Bk wx (w.heap.size + 1 + 1) #[.int .i64 0, .int .i64 0, .int .i64 0, .int .i64 0, .int .i64 0, .nilFunc] 73 ∧ Below w.heap.size w wx)
      case first =>
        go_wp2_with fail
        go_meet
        exact ⟨Q5.setO (by omega) _, A5.setO (by omega) _, B5.setO (by omega) _, by have := P5.setS (j := 1) (.int .i64 x); simpa using this, L5.setO (by omega) _, D5.setCell (by simp) _⟩
      case rest =>
        clear Q5 A5 B5 P5 L5 D5 qc qf p0 p1 p2 p3 pf0 pf1 pf2 pf3
        obtain ⟨Q9, A9, B9, P9, L9, D9⟩ := hcut
        obtain ⟨p0, p1, p2, p3, _⟩ := P9.four
        obtain ⟨⟨l0, l1, l2, l3, l4, l5⟩, ⟨f0, f1, f2, f3, f4, f5⟩⟩ := L9.six
        go_wp2_with fail
        refine bodyPost_ret (v := .tuple #[lvA 1 ⟨s, x, sp, dp⟩ (.func (.func 63) #[] #[.pointer (some ⟨q, 0, none⟩), .pointer (some ⟨w.heap.size, 0, none⟩), .pointer (some ⟨w.heap.size + 1 + 1 + 1 + 1, 0, none⟩)]), .int .i64 0]) (by simp [results, Try.results38, go_sem, l0, l1, l2, l3, l4, l5]) rfl ⟨_, _, _, 0, rfl, ?_, ?_⟩
        · rw [HV.out]
          obtain ⟨e0, _⟩ := Q9.one
          obtain ⟨e1, _⟩ := B9.one
          obtain ⟨e2, e3, e4, e5, e6⟩ := A9.five
          have zs : ¬ q = w.heap.size + 1 + 1 := by omega
          exact ⟨rfl, Or.inr ⟨_, _, rfl⟩, fun _ => ⟨rfl, rfl, hi.out, hp.out, _, _, _, rfl, by omega, by omega, by omega, by simp [go_sem, e0], by simp [go_sem, e1], by simp [go_sem, e2], by simp [go_sem, e3], by simp [go_sem, e4], by simp [go_sem, e5], by simp [go_sem, e6]⟩⟩
        · go_grown
    · by_cases hin : 0 ≤ c ∧ c < (nb : Int)
      rotate_left
      · have HV : Hid (r = stayR 1) := by
          show _ = _
          rw [HR2.out]
          rw [if_neg (by simp), if_neg (by simpa using hin)]
        clear HR2
        obtain ⟨⟨l0, l1, l2, l3, l4, l5⟩, ⟨f0, f1, f2, f3, f4, f5⟩⟩ := L5.six
        obtain ⟨v0, v1, v2, v3, v4, v5, v6⟩ := V5.seven
        by_cases h0 : 0 ≤ c
        · have u0 : decide (c < 0) = false := by simp; omega
          have u1 : decide ((nb : Int) ≤ c) = true := by simp; omega
          go_wp2_with fail
          refine bodyPost_ret (v := .tuple #[lvA 0 zeroP .nilFunc, .int .i64 1]) (by simp [results, Try.results38, go_sem, l0, l1, l2, l3, l4, l5, zeroP]) rfl ⟨0, zeroP, .nilFunc, 1, rfl, ?_, ?_⟩
          · rw [HV.out]
            exact ⟨rfl, Or.inl rfl, fun h => by cases h⟩
          · go_grown
        · have u0 : decide (c < 0) = true := by simp; omega
          go_wp2_with fail
          refine bodyPost_ret (v := .tuple #[lvA 0 zeroP .nilFunc, .int .i64 1]) (by simp [results, Try.results38, go_sem, l0, l1, l2, l3, l4, l5, zeroP]) rfl ⟨0, zeroP, .nilFunc, 1, rfl, ?_, ?_⟩
          · rw [HV.out]
            exact ⟨rfl, Or.inl rfl, fun h => by cases h⟩
          · go_grown
      obtain ⟨k, rfl⟩ : ∃ k : Nat, c = (k : Int) := ⟨c.toNat, by omega⟩
      have hkl : k < nb := by omega
      obtain ⟨y, hy, hyd⟩ := HBV.out k hkl
      have HV : Hid (r = ⟨0, 1, ⟨s, y, sp, dp⟩, .back i ⟨s, dd, sp, dp⟩ y⟩) := by
        show _ = _
        rw [HR2.out, if_neg (by simp), if_pos (by simpa using hin), Int.toNat_natCast, hyd]
      have SB5 := HBK.out _ E5
      obtain ⟨bb, ob, eAb, _, hbc⟩ := Ints.at SB5 hy
      have bc := hbc k y hy
      subst eAb
      have k3 : (0 : Int) ≤ (k : Int) := by omega
      have k4 : (k : Int) < (nb : Int) := by omega
      have u0 : decide ((k : Int) < 0) = false := by simp
      have u1 : decide ((nb : Int) ≤ (k : Int)) = false := by simp; omega
      obtain ⟨v0, v1, v2, v3, v4, v5, v6⟩ := V5.seven
      obtain ⟨qc0, qf⟩ := Q5.one
      clear HR2 HBV HBK E5 hy hyd SB5 hbc hin
      go_upto_region 10 with fail
      have Q6 := Q5.setS (j := 0) (.int .i64 y)
      have A6 := A5.setO (b := q) (j := 0) (by omega) (.int .i64 y)
      have B6 := B5.setO (b := q) (j := 0) (by omega) (.int .i64 y)
      have P6 := P5.setO (b := q) (j := 0) (by omega) (.int .i64 y)
      have L6 := L5.setO (b := q) (j := 0) (by omega) (.int .i64 y)
      have D6 := D5.setCell (p := ⟨q, 0, none⟩) (by simp; omega) (.int .i64 y)
      simp only [List.setIfInBounds_toArray, List.set_cons_zero] at Q6
      clear Q5 A5 B5 P5 L5 D5 V5 qc0 qf bc v0 v1 v2 v3 v4 v5 v6
      generalize hW : World.setCell _ _ (.int .i64 y) = w6 at *
      clear hW z1
      obtain ⟨qc, qf⟩ := Q6.one
      obtain ⟨p0, p1, p2, p3, pf0, pf1, pf2, pf3⟩ := P6.four
      go_cut [] (fun wx => Bk wx q #[.int .i64 y] 3 ∧ Bk wx (w.heap.size + 1 + 1 + 1 + 1) #[.int .i64 (i : Int), .int .i64 s, .int .i64 dd, .int .i64 sp, .int .i64 dp] 107 ∧ Bk wx w.heap.size #[.pointer (some ⟨m.B, m.z, none⟩)] 51 ∧ Bk wx (w.heap.size + 1) #[.int .i64 s, .int .i64 y, .int .i64 sp, .int .i64 dp] 29 ∧ Bk wx (w.heap.size + 1 + 1) #[.int .i64 0, .int .i64 0, .int .i64 0, .int .i64 0, .int .i64 0, .nilFunc] 73 ∧ Below w.heap.size w wx)
      case first =>
        go_wp2_with fail
        go_meet
        exact ⟨Q6.setO (by omega) _, A6.setO (by omega) _, B6.setO (by omega) _, by have := P6.setS (j := 1) (.int .i64 y); simpa using this, L6.setO (by omega) _, D6.setCell (by simp) _⟩
      case rest =>
        clear Q6 A6 B6 P6 L6 D6 qc qf p0 p1 p2 p3 pf0 pf1 pf2 pf3
        obtain ⟨Q9, A9, B9, P9, L9, D9⟩ := hcut
        obtain ⟨p0, p1, p2, p3, _⟩ := P9.four
        obtain ⟨⟨l0, l1, l2, l3, l4, l5⟩, ⟨f0, f1, f2, f3, f4, f5⟩⟩ := L9.six
        go_wp2_with fail
        refine bodyPost_ret (v := .tuple #[lvA 1 ⟨s, y, sp, dp⟩ (.func (.func 63) #[] #[.pointer (some ⟨q, 0, none⟩), .pointer (some ⟨w.heap.size, 0, none⟩), .pointer (some ⟨w.heap.size + 1 + 1 + 1 + 1, 0, none⟩)]), .int .i64 0]) (by simp [results, Try.results38, go_sem, l0, l1, l2, l3, l4, l5]) rfl ⟨_, _, _, 0, rfl, ?_, ?_⟩
        · rw [HV.out]
          obtain ⟨e0, _⟩ := Q9.one
          obtain ⟨e1, _⟩ := B9.one
          obtain ⟨e2, e3, e4, e5, e6⟩ := A9.five
          have zs : ¬ q = w.heap.size + 1 + 1 := by omega
          exact ⟨rfl, Or.inr ⟨_, _, rfl⟩, fun _ => ⟨rfl, rfl, hi.out, hp.out, _, _, _, rfl, by omega, by omega, by omega, by simp [go_sem, e0], by simp [go_sem, e1], by simp [go_sem, e2], by simp [go_sem, e3], by simp [go_sem, e4], by simp [go_sem, e5], by simp [go_sem, e6]⟩⟩
        · go_grown
end Go.Proofs.Ythioedgnambomaa
