/-
  Package step: hide.
-/
import Derived.Test.YthioedgnambomaaGreatXAG
import Derived.Test.YthioedgnambomaaGreatXAB
namespace Go.Proofs.YthioedgnambomaaGreat
open Go.RowKit Go.Maps

theorem own_ok (M : Mnd) (i : Int) (s : Int × Int) : ∀ (f k : Nat), 8 - k ≤ f → ∀ {j : Nat}, ownFrom M i s k = some j → i64ok (j : Int)
  | 0, k, h, j, e => by
    rw [ownFrom_end _ _ _ (by omega)] at e
    cases e
  | f + 1, k, h, j, e => by
    by_cases hk : k < 8
    · rw [ownFrom_at _ _ _ hk] at e
      split at e
      · obtain rfl := Option.some.inj e
        exact i64ok_nat hk
      · exact own_ok M i s f (k + 1) (by omega) e
    · rw [ownFrom_end _ _ _ (by omega)] at e
      cases e
set_option maxHeartbeats 4000000 in
set_option maxRecDepth 100000 in
theorem hide_any (m : Mp) (ds : List Dv) (ls : List Lk) (n : Nat) (M : Mnd) (i : Nat) (d : Dv) (p : Pk) (c : Int) (w : World) (hM : Hid (MemAt w m ds ls n M)) (hx : Hid (ds[i]? = some d)) (hi : Hid (i64ok (i : Int))) (hc : Hid (i64ok c)) :
    Calls Tryz.prog 85 #[.pointer (some ⟨m.B, m.z, none⟩), .int .i64 (i : Int), pkV p, .int .i64 c] w (SPost m w (hideP d M i p c)) := by
  have M2 := (((hM.out.alloc (.cells #[.pointer (some ⟨m.B, m.z, none⟩)] 51)).alloc (.cells #[.int .i64 (i : Int)] 3)).alloc (pkC p)).alloc lvC
  have D2 := Below.alN (Below.alN (Below.alN (Below.alN (Below.refl w.heap.size w) (.cells #[.pointer (some ⟨m.B, m.z, none⟩)] 51)) (.cells #[.int .i64 (i : Int)] 3)) (pkC p)) lvC
  have B2 := (((bk_new w #[.pointer (some ⟨m.B, m.z, none⟩)] 51).alloc (.cells #[.int .i64 (i : Int)] 3)).alloc (pkC p)).alloc lvC
  have I2 := ((bk_new' (w.alloc (.cells #[.pointer (some ⟨m.B, m.z, none⟩)] 51)) #[.int .i64 (i : Int)] 3 (w.heap.size + 1) (by simp)).alloc (pkC p)).alloc lvC
  have P2 := (bk_new' ((w.alloc (.cells #[.pointer (some ⟨m.B, m.z, none⟩)] 51)).alloc (.cells #[.int .i64 (i : Int)] 3)) #[.int .i64 p.s, .int .i64 p.d, .int .i64 p.sp, .int .i64 p.dp] 29 (w.heap.size + 1 + 1) (by simp)).alloc lvC
  have L2 := bk_new' (((w.alloc (.cells #[.pointer (some ⟨m.B, m.z, none⟩)] 51)).alloc (.cells #[.int .i64 (i : Int)] 3)).alloc (pkC p)) #[.int .i64 0, .int .i64 0, .int .i64 0, .int .i64 0, .int .i64 0, .nilFunc] 117 (w.heap.size + 1 + 1 + 1) (by simp)
  obtain ⟨q0, _, _, _, _⟩ := M2.cells
  obtain ⟨b, o, vb, vr, vt, eA, HD, k1, k2⟩ := M2.dev hx.out
  rw [eA] at q0
  obtain ⟨c0, c1, c2, c3, c4, c5, c6, s1, s2, s3⟩ := HD
  have CZ := CK.of_below ((Below.refl _ ((((w.alloc (.cells #[.pointer (some ⟨m.B, m.z, none⟩)] 51)).alloc (.cells #[.int .i64 (i : Int)] 3)).alloc (pkC p)).alloc lvC)).alloc (Nat.le_refl _) (.cells #[.string ⟨#[]⟩, .int .i64 0, .int .i64 0, .int .u8 0, .slice none 0 0, .slice none 0 0, .slice none 0 0] 41))
  have q0z := CZ.cell q0
  have c0z := CZ.cell c0
  have c1z := CZ.cell c1
  have c2z := CZ.cell c2
  have c3z := CZ.cell c3
  have c4z := CZ.cell c4
  have c5z := CZ.cell c5
  have c6z := CZ.cell c6
  clear CZ
  obtain ⟨Ab, cb, rfl, _, _, _, _⟩ := s1
  obtain ⟨Ar, cr, rfl, _, _, _, _⟩ := s2
  obtain ⟨At, ct, rfl, _, _, _, _⟩ := s3
  obtain ⟨s, dd, sp, dp⟩ := p
  generalize hr : hideP d M i ⟨s, dd, sp, dp⟩ c = r
  have HR : Hid (r = match ownFrom M i (s, sp) 0 with
    | some k => ⟨0, 1, ⟨d.addr, dd, (k : Int), dp⟩, .own i (k : Int) (s, sp)⟩
    | none => if poB c && d.pool.testBit c.toNat then (if (M.ow (i, c)).isSome then stayR 6 else ⟨0, 1, ⟨d.addr, dd, c, dp⟩, .own i c (s, sp)⟩) else stayR 1) := hr.symm
  have OP : Hid (∀ W, MemAt W m ds ls n M → Calls Tryz.prog 98 #[.pointer (some ⟨m.B, m.z, none⟩), .int .i64 (i : Int), .agg #[.int .i64 s, .int .i64 sp]] W fun e w' => e = .returned (.tuple #[.int .i64 (((ownFrom M i (s, sp) 0).getD 0 : Nat) : Int), .bool (ownFrom M i (s, sp) 0).isSome]) ∧ Below W.heap.size W w') := fun W h => ownPort_any m ds ls n M i s sp W h hi
  have HK8 : Hid (∀ k, ownFrom M i (s, sp) 0 = some k → i64ok (k : Int)) := fun k h => own_ok M i (s, sp) 8 0 (by omega) h
  have hpl := d.hp
  have IP : Hid (∀ W, Calls Tryz.prog 99 #[.agg #[.string d.name, .int .i64 d.kind, .int .i64 d.addr, .int .u8 (d.pool : Int), .slice Ab d.backs.length cb, .slice Ar (rulesOf d).length cr, .slice At (routesOf d).length ct], .int .i64 c] W fun e w' => e = .returned (.bool (poB c && d.pool.testBit c.toNat)) ∧ Below W.heap.size W w') := fun W => inPool_any _ _ _ _ _ _ _ c W hpl
  have HL : Hid (∀ W, MemAt W m ds ls n M → (Instr.lookup 76 (.map (some m.o)) (.agg #[.int .i64 (i : Int), .int .i64 c]) true).run Tryz.prog W = .ok (.tuple #[.agg #[.int .i64 ((M.ow (i, c)).getD (0, 0)).1, .int .i64 ((M.ow (i, c)).getD (0, 0)).2], .bool (M.ow (i, c)).isSome]) W) := fun W h => h.lookO hi.out hc.out
  clear hr hx hM eA hpl
  simp only at *
  generalize (poB c && d.pool.testBit c.toNat) = x1 at *
  generalize (rulesOf d).length = nr at *
  generalize (routesOf d).length = nt at *
  generalize d.backs.length = nb at *
  generalize d.name = nm at *
  generalize d.kind = kd at *
  generalize d.addr = ad at *
  generalize d.pool = pl at *
  go_enter Tryz.func85, Tryz.ntmps85
  go_wp2_with fail
  go_cut [10] (fun v10 wx => ∃ g, v10 = .pointer (some ⟨g, 0, none⟩) ∧ Bk wx g #[.string nm, .int .i64 kd, .int .i64 ad, .int .u8 (pl : Int), .slice Ab nb cb, .slice Ar nr cr, .slice At nt ct] 41 ∧ w.heap.size + 1 + 1 + 1 < g ∧ Bk wx w.heap.size #[.pointer (some ⟨m.B, m.z, none⟩)] 51 ∧ Bk wx (w.heap.size + 1) #[.int .i64 (i : Int)] 3 ∧ Bk wx (w.heap.size + 1 + 1) #[.int .i64 s, .int .i64 dd, .int .i64 sp, .int .i64 dp] 29 ∧ Bk wx (w.heap.size + 1 + 1 + 1) #[.int .i64 0, .int .i64 0, .int .i64 0, .int .i64 0, .int .i64 0, .nilFunc] 117 ∧ MemAt wx m ds ls n M ∧ Below w.heap.size w wx)
  case first =>
    go_region
    all_goals
      go_wp2_with fail
      go_meet
      exact ⟨_, rfl, (bk_new' _ _ _ _ (by simp)).drew, by simp, (B2.alloc _).drew, (I2.alloc _).drew, (P2.alloc _).drew, (L2.alloc _).drew, (M2.alloc _).drew, (Below.alN D2 _).drew⟩
  case rest =>
    clear M2 P2 L2 D2 B2 I2 q0 c0 c1 c2 c3 c4 c5 c6 q0z c0z c1z c2z c3z c4z c5z c6z
    obtain ⟨g, rfl, V4, zg, B4, I4, P4, L4, M4, D4⟩ := hcut
    obtain ⟨p0, p1, p2, p3, _⟩ := P4.four
    obtain ⟨b0, _⟩ := B4.one
    obtain ⟨i0, _⟩ := I4.one
    have z1 : w.heap.size < wc.heap.size := B4.lt
    have z2 : w.heap.size + 1 < wc.heap.size := I4.lt
    have M5 := M4.alloc (.cells #[.int .i64 s, .int .i64 sp] 140)
    go_wp2_with fail
    refine (OP.out _ M5).mono ?_
    rintro e w6 ⟨rfl, hb6⟩
    have S6 := (bk_new wc #[.int .i64 s, .int .i64 sp] 140).keep hb6
    have V6 := (V4.alloc (.cells #[.int .i64 s, .int .i64 sp] 140)).keep hb6
    have B6 := (B4.alloc (.cells #[.int .i64 s, .int .i64 sp] 140)).keep hb6
    have I6 := (I4.alloc (.cells #[.int .i64 s, .int .i64 sp] 140)).keep hb6
    have P6 := (P4.alloc (.cells #[.int .i64 s, .int .i64 sp] 140)).keep hb6
    have L6 := (L4.alloc (.cells #[.int .i64 s, .int .i64 sp] 140)).keep hb6
    have M6 := M5.below hb6
    have D6 := chnN hb6 (Below.alN D4 (.cells #[.int .i64 s, .int .i64 sp] 140))
    have zc : g < wc.heap.size := V4.lt
    have zw : wc.heap.size < w6.heap.size := S6.lt
    generalize wc.heap.size = sn at *
    clear hb6 M5 OP V4 B4 I4 P4 L4 M4 D4 b0 i0 p0 p1 p2 p3 z1 z2
    cases y : ownFrom M i (s, sp) 0 with
    | some k =>
      have HV : Hid (r = ⟨0, 1, ⟨ad, dd, (k : Int), dp⟩, .own i (k : Int) (s, sp)⟩) := by show _ = _; rw [HR.out, y]
      have hk : Hid (i64ok (k : Int)) := HK8.out k y
      clear y HR IP HL HK8
      have Q7 := bk_new w6 #[.int .i64 (k : Int)] 3
      have S7 := S6.alloc (.cells #[.int .i64 (k : Int)] 3)
      have V7 := V6.alloc (.cells #[.int .i64 (k : Int)] 3)
      have B7 := B6.alloc (.cells #[.int .i64 (k : Int)] 3)
      have I7 := I6.alloc (.cells #[.int .i64 (k : Int)] 3)
      have P7 := P6.alloc (.cells #[.int .i64 (k : Int)] 3)
      have L7 := L6.alloc (.cells #[.int .i64 (k : Int)] 3)
      have D7 := Below.alN D6 (.cells #[.int .i64 (k : Int)] 3)
      have zq : sn < w6.heap.size := zw
      clear S6 V6 B6 I6 P6 L6 M6 D6
      simp only [Option.getD_some, Option.isSome_some]
      go_wp2_with fail
      generalize hqn : w6.heap.size = qn at *
      generalize hW : w6.alloc (.cells #[.int .i64 (k : Int)] 3) = w7 at *
      clear hW hqn
      obtain ⟨qc, _⟩ := Q7.one
      obtain ⟨v0, v1, v2, v3, v4, v5, v6⟩ := V7.seven
      obtain ⟨p0, p1, p2, p3, pf0, pf1, pf2, pf3⟩ := P7.four
      go_cut [] (fun wx => Bk wx qn #[.int .i64 (k : Int)] 3 ∧ Bk wx sn #[.int .i64 s, .int .i64 sp] 140 ∧ Bk wx w.heap.size #[.pointer (some ⟨m.B, m.z, none⟩)] 51 ∧ Bk wx (w.heap.size + 1) #[.int .i64 (i : Int)] 3 ∧ Bk wx (w.heap.size + 1 + 1) #[.int .i64 ad, .int .i64 dd, .int .i64 (k : Int), .int .i64 dp] 29 ∧ Bk wx (w.heap.size + 1 + 1 + 1) #[.int .i64 0, .int .i64 0, .int .i64 0, .int .i64 0, .int .i64 0, .nilFunc] 117 ∧ Below w.heap.size w wx)
      case first =>
        go_region
        all_goals
          go_wp2_with fail
          go_meet
          exact ⟨((Q7.drew.setO (by omega) _).setO (by omega) _), ((S7.drew.setO (by omega) _).setO (by omega) _), ((B7.drew.setO (by omega) _).setO (by omega) _), ((I7.drew.setO (by omega) _).setO (by omega) _), by have := ((P7.setS (j := 0) (.int .i64 ad)).setS (j := 2) (.int .i64 (k : Int))).drew; simpa using this, ((L7.drew.setO (by omega) _).setO (by omega) _), (D7.drew.setCell (by simp; omega) _).setCell (by simp; omega) _⟩
      case rest =>
        clear Q7 S7 V7 B7 I7 P7 L7 D7 qc v0 v1 v2 v3 v4 v5 v6 p0 p1 p2 p3 pf0 pf1 pf2 pf3
        obtain ⟨Q9, S9, B9, I9, P9, L9, D9⟩ := hcut
        obtain ⟨p0, p1, p2, p3, _⟩ := P9.four
        obtain ⟨⟨l0, l1, l2, l3, l4, l5⟩, ⟨f0, f1, f2, f3, f4, f5⟩⟩ := L9.six
        go_wp2_with fail
        refine bodyPost_ret (v := .tuple #[lvA 1 ⟨ad, dd, (k : Int), dp⟩ (.func (.func 100) #[] #[.pointer (some ⟨sn, 0, none⟩), .pointer (some ⟨w.heap.size, 0, none⟩), .pointer (some ⟨w.heap.size + 1, 0, none⟩), .pointer (some ⟨qn, 0, none⟩)]), .int .i64 0]) (by simp [results, Tryz.results85, go_sem, l0, l1, l2, l3, l4, l5]) rfl ⟨_, _, _, 0, rfl, ?_, ?_⟩
        · rw [HV.out]
          obtain ⟨e0, e1⟩ := S9.two
          obtain ⟨e2, _⟩ := B9.one
          obtain ⟨e3, _⟩ := I9.one
          obtain ⟨e4, _⟩ := Q9.one
          have zs : ¬ sn = w.heap.size + 1 + 1 + 1 := by omega
          have zq : ¬ qn = w.heap.size + 1 + 1 + 1 := by omega
          exact ⟨rfl, Or.inr ⟨_, _, rfl⟩, fun _ => ⟨rfl, rfl, hi.out, hk.out, _, _, _, _, rfl, by omega, by omega, by omega, by omega, by simp [go_sem, e0], by simp [go_sem, e1], by simp [go_sem, e2], by simp [go_sem, e3], by simp [go_sem, e4]⟩⟩
        · go_grown
    | none =>
      have HR2 : Hid (r = if x1 then (if (M.ow (i, c)).isSome then stayR 6 else ⟨0, 1, ⟨ad, dd, c, dp⟩, .own i c (s, sp)⟩) else stayR 1) := by show _ = _; rw [HR.out, y]
      clear y HR HK8
      have Q7 := bk_new w6 #[.int .i64 0] 3
      have S7 := S6.alloc (.cells #[.int .i64 0] 3)
      have V7 := V6.alloc (.cells #[.int .i64 0] 3)
      have B7 := B6.alloc (.cells #[.int .i64 0] 3)
      have I7 := I6.alloc (.cells #[.int .i64 0] 3)
      have P7 := P6.alloc (.cells #[.int .i64 0] 3)
      have L7 := L6.alloc (.cells #[.int .i64 0] 3)
      have M7 := M6.alloc (.cells #[.int .i64 0] 3)
      have D7 := Below.alN D6 (.cells #[.int .i64 0] 3)
      clear S6 B6 I6 P6 L6 M6 D6
      simp only [Option.getD_none, Option.isSome_none]
      obtain ⟨v0, v1, v2, v3, v4, v5, v6⟩ := V6.seven
      have zv : g < w6.heap.size := V6.lt
      go_wp2_with fail
      refine (IP.out _).mono ?_
      rintro e w8 ⟨rfl, hb8⟩
      have Q8 := Q7.keep hb8
      have S8 := S7.keep hb8
      have V8 := V7.keep hb8
      have B8 := B7.keep hb8
      have I8 := I7.keep hb8
      have P8 := P7.keep hb8
      have L8 := L7.keep hb8
      have M8 := M7.below hb8
      have D8 := chnN hb8 D7
      clear hb8 Q7 S7 V7 B7 I7 P7 L7 M7 D7 V6 v0 v1 v2 v3 v4 v5 v6 IP zv
      generalize w6.heap.size = qn at *
      obtain ⟨⟨l0, l1, l2, l3, l4, l5⟩, ⟨f0, f1, f2, f3, f4, f5⟩⟩ := L8.six
      cases x1
      · have HV : Hid (r = stayR 1) := HR2.out
        go_wp2_with fail
        refine bodyPost_ret (v := .tuple #[lvA 0 zeroP .nilFunc, .int .i64 1]) (by simp [results, Tryz.results85, go_sem, l0, l1, l2, l3, l4, l5, zeroP]) rfl ⟨0, zeroP, .nilFunc, 1, rfl, ?_, ?_⟩
        · rw [HV.out]
          exact ⟨rfl, Or.inl rfl, fun h => by cases h⟩
        · go_grown
      have HR3 : Hid (r = if (M.ow (i, c)).isSome then stayR 6 else ⟨0, 1, ⟨ad, dd, c, dp⟩, .own i c (s, sp)⟩) := HR2.out
      clear HR2
      have lk := HL.out _ (M8.alloc (.cells #[.int .i64 0, .int .i64 0] 140)).drew
      have lk2 := HL.out _ M8.drew
      obtain ⟨_, _, _, qo, _⟩ := (M8.alloc (.cells #[.int .i64 0, .int .i64 0] 140)).cells
      obtain ⟨_, _, _, qo2, _⟩ := M8.cells
      obtain ⟨b0, _⟩ := B8.one
      obtain ⟨i0, _⟩ := I8.one
      have z1 : w.heap.size < w8.heap.size := B8.lt
      have z2 : w.heap.size + 1 < w8.heap.size := I8.lt
      generalize ((M.ow (i, c)).getD (0, 0)).1 = ea at *
      generalize ((M.ow (i, c)).getD (0, 0)).2 = eb at *
      generalize (M.ow (i, c)).isSome = x2 at *
      clear HL l0 l1 l2 l3 l4 l5 f0 f1 f2 f3 f4 f5
      go_wp2_with fail
      go_cut [15] (fun v15 wx => v15 = .bool x2 ∧ Bk wx qn #[.int .i64 0] 3 ∧ Bk wx sn #[.int .i64 s, .int .i64 sp] 140 ∧ Bk wx g #[.string nm, .int .i64 kd, .int .i64 ad, .int .u8 (pl : Int), .slice Ab nb cb, .slice Ar nr cr, .slice At nt ct] 41 ∧ Bk wx w.heap.size #[.pointer (some ⟨m.B, m.z, none⟩)] 51 ∧ Bk wx (w.heap.size + 1) #[.int .i64 (i : Int)] 3 ∧ Bk wx (w.heap.size + 1 + 1) #[.int .i64 s, .int .i64 dd, .int .i64 sp, .int .i64 dp] 29 ∧ Bk wx (w.heap.size + 1 + 1 + 1) #[.int .i64 0, .int .i64 0, .int .i64 0, .int .i64 0, .int .i64 0, .nilFunc] 117 ∧ Below w.heap.size w wx)
      case first =>
        go_region
        all_goals
          go_wp2_with fail
          go_meet
          exact ⟨rfl, (Q8.alloc _).drew, (S8.alloc _).drew, (V8.alloc _).drew, (B8.alloc _).drew, (I8.alloc _).drew, (P8.alloc _).drew, (L8.alloc _).drew, (Below.alN D8 _).drew⟩
      case rest =>
        clear Q8 S8 V8 B8 I8 P8 L8 M8 D8 lk lk2 qo qo2 b0 i0 z1 z2
        obtain ⟨rfl, Q9, S9, V9, B9, I9, P9, L9, D9⟩ := hcut
        cases x2
        rotate_left
        · have HV : Hid (r = stayR 6) := HR3.out
          obtain ⟨⟨l0, l1, l2, l3, l4, l5⟩, ⟨f0, f1, f2, f3, f4, f5⟩⟩ := L9.six
          go_wp2_with fail
          refine bodyPost_ret (v := .tuple #[lvA 0 zeroP .nilFunc, .int .i64 6]) (by simp [results, Tryz.results85, go_sem, l0, l1, l2, l3, l4, l5, zeroP]) rfl ⟨0, zeroP, .nilFunc, 6, rfl, ?_, ?_⟩
          · rw [HV.out]
            exact ⟨rfl, Or.inl rfl, fun h => by cases h⟩
          · go_grown
        have HV : Hid (r = ⟨0, 1, ⟨ad, dd, c, dp⟩, .own i c (s, sp)⟩) := HR3.out
        obtain ⟨qc, qf⟩ := Q9.one
        have Q7 := Q9.setS (j := 0) (.int .i64 c)
        have S7 := S9.setO (b := qn) (j := 0) (by omega) (.int .i64 c)
        have V7 := V9.setO (b := qn) (j := 0) (by omega) (.int .i64 c)
        have B7 := B9.setO (b := qn) (j := 0) (by omega) (.int .i64 c)
        have I7 := I9.setO (b := qn) (j := 0) (by omega) (.int .i64 c)
        have P7 := P9.setO (b := qn) (j := 0) (by omega) (.int .i64 c)
        have L7 := L9.setO (b := qn) (j := 0) (by omega) (.int .i64 c)
        have D7 := D9.setCell (p := ⟨qn, 0, none⟩) (by simp; omega) (.int .i64 c)
        have hk : Hid (i64ok c) := hc
        clear Q9 S9 V9 B9 I9 P9 L9 D9 HR3
        simp only [List.setIfInBounds_toArray, List.set_cons_zero] at Q7
        go_wp2_with fail
        rename_i wq
        generalize hW : World.setCell _ _ (.int .i64 c) = w7 at *
        clear hW qc qf
        obtain ⟨qc, _⟩ := Q7.one
        obtain ⟨v0, v1, v2, v3, v4, v5, v6⟩ := V7.seven
        obtain ⟨p0, p1, p2, p3, pf0, pf1, pf2, pf3⟩ := P7.four
        go_cut [] (fun wx => Bk wx qn #[.int .i64 c] 3 ∧ Bk wx sn #[.int .i64 s, .int .i64 sp] 140 ∧ Bk wx w.heap.size #[.pointer (some ⟨m.B, m.z, none⟩)] 51 ∧ Bk wx (w.heap.size + 1) #[.int .i64 (i : Int)] 3 ∧ Bk wx (w.heap.size + 1 + 1) #[.int .i64 ad, .int .i64 dd, .int .i64 c, .int .i64 dp] 29 ∧ Bk wx (w.heap.size + 1 + 1 + 1) #[.int .i64 0, .int .i64 0, .int .i64 0, .int .i64 0, .int .i64 0, .nilFunc] 117 ∧ Below w.heap.size w wx)
        case first =>
          go_region
          all_goals
            go_wp2_with fail
            go_meet
            exact ⟨((Q7.drew.setO (by omega) _).setO (by omega) _), ((S7.drew.setO (by omega) _).setO (by omega) _), ((B7.drew.setO (by omega) _).setO (by omega) _), ((I7.drew.setO (by omega) _).setO (by omega) _), by have := ((P7.setS (j := 0) (.int .i64 ad)).setS (j := 2) (.int .i64 c)).drew; simpa using this, ((L7.drew.setO (by omega) _).setO (by omega) _), (D7.drew.setCell (by simp; omega) _).setCell (by simp; omega) _⟩
        case rest =>
          clear Q7 S7 V7 B7 I7 P7 L7 D7 qc v0 v1 v2 v3 v4 v5 v6 p0 p1 p2 p3 pf0 pf1 pf2 pf3
          obtain ⟨Q9, S9, B9, I9, P9, L9, D9⟩ := hcut
          obtain ⟨p0, p1, p2, p3, _⟩ := P9.four
          obtain ⟨⟨l0, l1, l2, l3, l4, l5⟩, ⟨f0, f1, f2, f3, f4, f5⟩⟩ := L9.six
          go_wp2_with fail
          refine bodyPost_ret (v := .tuple #[lvA 1 ⟨ad, dd, c, dp⟩ (.func (.func 100) #[] #[.pointer (some ⟨sn, 0, none⟩), .pointer (some ⟨w.heap.size, 0, none⟩), .pointer (some ⟨w.heap.size + 1, 0, none⟩), .pointer (some ⟨qn, 0, none⟩)]), .int .i64 0]) (by simp [results, Tryz.results85, go_sem, l0, l1, l2, l3, l4, l5]) rfl ⟨_, _, _, 0, rfl, ?_, ?_⟩
          · rw [HV.out]
            obtain ⟨e0, e1⟩ := S9.two
            obtain ⟨e2, _⟩ := B9.one
            obtain ⟨e3, _⟩ := I9.one
            obtain ⟨e4, _⟩ := Q9.one
            have zs : ¬ sn = w.heap.size + 1 + 1 + 1 := by omega
            have zq : ¬ qn = w.heap.size + 1 + 1 + 1 := by omega
            exact ⟨rfl, Or.inr ⟨_, _, rfl⟩, fun _ => ⟨rfl, rfl, hi.out, hk.out, _, _, _, _, rfl, by omega, by omega, by omega, by omega, by simp [go_sem, e0], by simp [go_sem, e1], by simp [go_sem, e2], by simp [go_sem, e3], by simp [go_sem, e4]⟩⟩
          · go_grown
end Go.Proofs.YthioedgnambomaaGreat



namespace Go.Proofs.YthioedgnambomaaGreat
open Go.RowKit Go.Maps

set_option maxHeartbeats 4000000 in
set_option maxRecDepth 100000 in
theorem spread_any (m : Mp) (ds : List Dv) (ls : List Lk) (n : Nat) (M : Mnd) (i : Nat) (d : Dv) (p : Pk) (c : Int) (w : World) (hM : Hid (MemAt w m ds ls n M)) (hx : Hid (ds[i]? = some d)) (hp : Hid p.ok) (hi : Hid (i64ok (i : Int))) :
    Calls Tryz.prog 87 #[.pointer (some ⟨m.B, m.z, none⟩), .int .i64 (i : Int), pkV p, .int .i64 c] w (SPost m w (spreadP d M i p c)) := by
  have M2 := ((hM.out.alloc (.cells #[.pointer (some ⟨m.B, m.z, none⟩)] 51)).alloc (pkC p)).alloc lvC
  have D2 := Below.alN (Below.alN (Below.alN (Below.refl w.heap.size w) (.cells #[.pointer (some ⟨m.B, m.z, none⟩)] 51)) (pkC p)) lvC
  have B2 := ((bk_new w #[.pointer (some ⟨m.B, m.z, none⟩)] 51).alloc (pkC p)).alloc lvC
  have P2 := (bk_new' (w.alloc (.cells #[.pointer (some ⟨m.B, m.z, none⟩)] 51)) #[.int .i64 p.s, .int .i64 p.d, .int .i64 p.sp, .int .i64 p.dp] 29 (w.heap.size + 1) (by simp)).alloc lvC
  have L2 := bk_new' ((w.alloc (.cells #[.pointer (some ⟨m.B, m.z, none⟩)] 51)).alloc (pkC p)) #[.int .i64 0, .int .i64 0, .int .i64 0, .int .i64 0, .int .i64 0, .nilFunc] 117 (w.heap.size + 1 + 1) (by simp)
  obtain ⟨q0, _, _, _, _⟩ := M2.cells
  obtain ⟨b, o, vb, vr, vt, eA, HD, k1, k2⟩ := M2.dev hx.out
  rw [eA] at q0
  obtain ⟨c0, c1, c2, c3, c4, c5, c6, s1, s2, s3⟩ := HD
  have HBK : Hid (∀ W, Below ((((w.alloc (.cells #[.pointer (some ⟨m.B, m.z, none⟩)] 51)).alloc (pkC p)).alloc lvC)).heap.size (((w.alloc (.cells #[.pointer (some ⟨m.B, m.z, none⟩)] 51)).alloc (pkC p)).alloc lvC) W → SlAt W.heap.size W 1 IsI vb d.backs) := fun W h => SlAt.mono (SlAt.below s1 h (fun _ _ _ h => h)) h.size (fun _ _ _ h => h)
  obtain ⟨Ab, cb, rfl, _, _, _, _⟩ := s1
  obtain ⟨Ar, cr, rfl, _, _, _, _⟩ := s2
  obtain ⟨At, ct, rfl, _, _, _, _⟩ := s3
  have PS : Hid (∀ (q : Int) (p : Pk) W, Calls Tryz.prog 95 #[.int .i64 q, pkV p] W fun e w' => e = .returned (.tuple #[lvA q p (.func (.func 104) #[] #[]), .int .i64 0]) ∧ Below W.heap.size W w') := fun q p W => pass_any q p W
  obtain ⟨s, dd, sp, dp⟩ := p
  generalize hr : spreadP d M i ⟨s, dd, sp, dp⟩ c = r
  have HR : Hid (r = if dd == d.addr then
    (match M.bk (i, ⟨s, dd, sp, dp⟩) with
    | some b => ⟨0, 1, ⟨s, b, sp, dp⟩, .back i ⟨s, dd, sp, dp⟩ b⟩
    | none => if decide (0 ≤ c) && decide (c < (d.backs.length : Int)) then ⟨0, 1, ⟨s, d.backs.getD c.toNat 0, sp, dp⟩, .back i ⟨s, dd, sp, dp⟩ (d.backs.getD c.toNat 0)⟩ else stayR 1)
    else passR 1 ⟨s, dd, sp, dp⟩) := hr.symm
  have HL : Hid (∀ W, MemAt W m ds ls n M → (Instr.lookup 77 (.map (some m.k)) (.agg #[.int .i64 (i : Int), .int .i64 s, .int .i64 dd, .int .i64 sp, .int .i64 dp]) true).run Tryz.prog W = .ok (.tuple #[.int .i64 ((M.bk (i, ⟨s, dd, sp, dp⟩)).getD 0), .bool (M.bk (i, ⟨s, dd, sp, dp⟩)).isSome]) W) := fun W h => h.lookB (p := ⟨s, dd, sp, dp⟩) hi.out hp.out
  have HBV : Hid (∀ k : Nat, k < d.backs.length → ∃ x, d.backs[k]? = some x ∧ d.backs.getD k 0 = x) := fun k h => ⟨d.backs[k], List.getElem?_eq_getElem h, by simp [List.getD_eq_getElem?_getD, h]⟩
  clear hr hx hM eA
  simp only at *
  generalize (rulesOf d).length = nr at *
  generalize (routesOf d).length = nt at *
  generalize hnb : d.backs.length = nb at *
  have HNB : Hid (d.backs.length = nb) := hnb
  clear hnb
  generalize d.name = nm at *
  generalize d.kind = kd at *
  generalize d.addr = ad at *
  generalize d.pool = pl at *
  have D3 := Below.alN D2 (dvC nm kd ad pl (.slice Ab nb cb) (.slice Ar nr cr) (.slice At nt ct))
  have E3 := Below.alN (Below.refl ((((w.alloc (.cells #[.pointer (some ⟨m.B, m.z, none⟩)] 51)).alloc (pkC ⟨s, dd, sp, dp⟩)).alloc lvC)).heap.size (((w.alloc (.cells #[.pointer (some ⟨m.B, m.z, none⟩)] 51)).alloc (pkC ⟨s, dd, sp, dp⟩)).alloc lvC)) (dvC nm kd ad pl (.slice Ab nb cb) (.slice Ar nr cr) (.slice At nt ct))
  have B3 := B2.alloc (dvC nm kd ad pl (.slice Ab nb cb) (.slice Ar nr cr) (.slice At nt ct))
  have P3 := P2.alloc (dvC nm kd ad pl (.slice Ab nb cb) (.slice Ar nr cr) (.slice At nt ct))
  have L3 := L2.alloc (dvC nm kd ad pl (.slice Ab nb cb) (.slice Ar nr cr) (.slice At nt ct))
  have M3 := M2.alloc (dvC nm kd ad pl (.slice Ab nb cb) (.slice Ar nr cr) (.slice At nt ct))
  have V3 := bk_new' (((w.alloc (.cells #[.pointer (some ⟨m.B, m.z, none⟩)] 51)).alloc (pkC ⟨s, dd, sp, dp⟩)).alloc lvC) #[.string nm, .int .i64 kd, .int .i64 ad, .int .u8 (pl : Int), .slice Ab nb cb, .slice Ar nr cr, .slice At nt ct] 41 (w.heap.size + 1 + 1 + 1) (by simp)
  cases ha : (dd == ad)
  · have HV : Hid (r = passR 1 ⟨s, dd, sp, dp⟩) := by show _ = _; rw [HR.out, ha]; rfl
    clear HR HL HBV HBK
    go_enter Tryz.func87, Tryz.ntmps87
    go_wp2_with fail
    refine (PS.out _ ⟨s, dd, sp, dp⟩ _).mono ?_
    rintro e w9 ⟨rfl, hb9⟩
    have D9 := chnN hb9 D3
    have L9 := L3.keep hb9
    obtain ⟨⟨l0, l1, l2, l3, l4, l5⟩, ⟨f0, f1, f2, f3, f4, f5⟩⟩ := L9.six
    go_wp2_with fail
    refine bodyPost_ret (v := .tuple #[lvA 1 ⟨s, dd, sp, dp⟩ (.func (.func 104) #[] #[]), .int .i64 0]) (by simp [results, Tryz.results87, go_sem, l0, l1, l2, l3, l4, l5]) rfl ⟨_, _, _, 0, rfl, ?_, ?_⟩
    · rw [HV.out]
      exact ⟨rfl, Or.inr ⟨_, _, rfl⟩, fun _ => ⟨rfl, rfl, rfl⟩⟩
    · go_grown
  have HR1 : Hid (r = (match M.bk (i, ⟨s, dd, sp, dp⟩) with
    | some b => ⟨0, 1, ⟨s, b, sp, dp⟩, .back i ⟨s, dd, sp, dp⟩ b⟩
    | none => if decide (0 ≤ c) && decide (c < (nb : Int)) then ⟨0, 1, ⟨s, d.backs.getD c.toNat 0, sp, dp⟩, .back i ⟨s, dd, sp, dp⟩ (d.backs.getD c.toNat 0)⟩ else stayR 1)) := by show _ = _; rw [HR.out, ha]; rfl
  clear HR
  have D4 := Below.alN D3 (.cells #[.int .i64 (i : Int), .int .i64 s, .int .i64 dd, .int .i64 sp, .int .i64 dp] 136)
  have E4 := Below.alN E3 (.cells #[.int .i64 (i : Int), .int .i64 s, .int .i64 dd, .int .i64 sp, .int .i64 dp] 136)
  have B4 := B3.alloc (.cells #[.int .i64 (i : Int), .int .i64 s, .int .i64 dd, .int .i64 sp, .int .i64 dp] 136)
  have P4 := P3.alloc (.cells #[.int .i64 (i : Int), .int .i64 s, .int .i64 dd, .int .i64 sp, .int .i64 dp] 136)
  have L4 := L3.alloc (.cells #[.int .i64 (i : Int), .int .i64 s, .int .i64 dd, .int .i64 sp, .int .i64 dp] 136)
  have M4 := M3.alloc (.cells #[.int .i64 (i : Int), .int .i64 s, .int .i64 dd, .int .i64 sp, .int .i64 dp] 136)
  have V4 := V3.alloc (.cells #[.int .i64 (i : Int), .int .i64 s, .int .i64 dd, .int .i64 sp, .int .i64 dp] 136)
  have A4 := bk_new' ((((w.alloc (.cells #[.pointer (some ⟨m.B, m.z, none⟩)] 51)).alloc (pkC ⟨s, dd, sp, dp⟩)).alloc lvC).alloc (dvC nm kd ad pl (.slice Ab nb cb) (.slice Ar nr cr) (.slice At nt ct))) #[.int .i64 (i : Int), .int .i64 s, .int .i64 dd, .int .i64 sp, .int .i64 dp] 136 (w.heap.size + 1 + 1 + 1 + 1) (by simp)
  have lk := HL.out _ (M4.alloc (.cells #[.int .i64 0] 3)).drew
  have lk2 := HL.out _ M4.drew
  obtain ⟨_, _, _, _, qo⟩ := (M4.alloc (.cells #[.int .i64 0] 3)).cells
  obtain ⟨_, _, _, _, qo2⟩ := M4.cells
  clear HL M2 M3 B2 P2 L2 B3 P3 L3 V3 D2 D3 E3
  obtain ⟨x, x0, hxv, hx0⟩ : ∃ x x0, (M.bk (i, ⟨s, dd, sp, dp⟩)).getD 0 = x ∧ (M.bk (i, ⟨s, dd, sp, dp⟩)).isSome = x0 := ⟨_, _, rfl, rfl⟩
  have HR2 : Hid (r = if x0 then ⟨0, 1, ⟨s, x, sp, dp⟩, .back i ⟨s, dd, sp, dp⟩ x⟩ else if decide (0 ≤ c) && decide (c < (nb : Int)) then ⟨0, 1, ⟨s, d.backs.getD c.toNat 0, sp, dp⟩, .back i ⟨s, dd, sp, dp⟩ (d.backs.getD c.toNat 0)⟩ else stayR 1) := by
    show _ = _
    rw [HR1.out, ← hxv, ← hx0]
    cases M.bk (i, ⟨s, dd, sp, dp⟩) <;> rfl
  rw [hxv, hx0] at lk lk2
  clear HR1 hxv hx0
  go_enter Tryz.func87, Tryz.ntmps87
  go_wp2_with fail
  go_cut [12, 13] (fun v12 v13 wx => ∃ q, v12 = .pointer (some ⟨q, 0, none⟩) ∧ v13 = .bool x0 ∧ Bk wx q #[.int .i64 x] 3 ∧ w.heap.size + 1 + 1 + 1 + 1 < q ∧ Bk wx (w.heap.size + 1 + 1 + 1 + 1) #[.int .i64 (i : Int), .int .i64 s, .int .i64 dd, .int .i64 sp, .int .i64 dp] 136 ∧ Bk wx (w.heap.size + 1 + 1 + 1) #[.string nm, .int .i64 kd, .int .i64 ad, .int .u8 (pl : Int), .slice Ab nb cb, .slice Ar nr cr, .slice At nt ct] 41 ∧ Bk wx w.heap.size #[.pointer (some ⟨m.B, m.z, none⟩)] 51 ∧ Bk wx (w.heap.size + 1) #[.int .i64 s, .int .i64 dd, .int .i64 sp, .int .i64 dp] 29 ∧ Bk wx (w.heap.size + 1 + 1) #[.int .i64 0, .int .i64 0, .int .i64 0, .int .i64 0, .int .i64 0, .nilFunc] 117 ∧ Below w.heap.size w wx ∧ Below ((((w.alloc (.cells #[.pointer (some ⟨m.B, m.z, none⟩)] 51)).alloc (pkC ⟨s, dd, sp, dp⟩)).alloc lvC)).heap.size (((w.alloc (.cells #[.pointer (some ⟨m.B, m.z, none⟩)] 51)).alloc (pkC ⟨s, dd, sp, dp⟩)).alloc lvC) wx)
  case first =>
    go_region
    all_goals
      go_wp2_with fail
      go_meet
      exact ⟨_, rfl, rfl, (bk_new' _ _ _ _ (by simp)).drew, by simp, (A4.alloc _).drew, (V4.alloc _).drew, (B4.alloc _).drew, (P4.alloc _).drew, (L4.alloc _).drew, (Below.alN D4 _).drew, (Below.alN E4 _).drew⟩
  case rest =>
    clear lk lk2 qo qo2 M4 A4 V4 B4 P4 L4 D4 E4
    obtain ⟨q, rfl, rfl, Q5, zq, A5, V5, B5, P5, L5, D5, E5⟩ := hcut
    have z1 : w.heap.size + 1 + 1 + 1 + 1 < wc.heap.size := A5.lt
    cases x0
    rotate_left
    · have HV : Hid (r = ⟨0, 1, ⟨s, x, sp, dp⟩, .back i ⟨s, dd, sp, dp⟩ x⟩) := HR2.out
      clear HR2 HBV HBK E5
      obtain ⟨qc, qf⟩ := Q5.one
      obtain ⟨p0, p1, p2, p3, pf0, pf1, pf2, pf3⟩ := P5.four
      go_upto_region 10 with fail
      go_cut [] (fun wx => Bk wx q #[.int .i64 x] 3 ∧ Bk wx (w.heap.size + 1 + 1 + 1 + 1) #[.int .i64 (i : Int), .int .i64 s, .int .i64 dd, .int .i64 sp, .int .i64 dp] 136 ∧ Bk wx w.heap.size #[.pointer (some ⟨m.B, m.z, none⟩)] 51 ∧ Bk wx (w.heap.size + 1) #[.int .i64 s, .int .i64 x, .int .i64 sp, .int .i64 dp] 29 ∧ Bk wx (w.heap.size + 1 + 1) #[.int .i64 0, .int .i64 0, .int .i64 0, .int .i64 0, .int .i64 0, .nilFunc] 117 ∧ Below w.heap.size w wx)
      case first =>
        go_wp2_with fail
        go_meet
        exact ⟨Q5.setO (by omega) _, A5.setO (by omega) _, B5.setO (by omega) _, by have := P5.setS (j := 1) (.int .i64 x); simpa using this, L5.setO (by omega) _, D5.setCell (by simp) _⟩
      case rest =>
        clear Q5 A5 B5 P5 L5 D5 qc qf p0 p1 p2 p3 pf0 pf1 pf2 pf3
        obtain ⟨Q9, A9, B9, P9, L9, D9⟩ := hcut
        obtain ⟨p0, p1, p2, p3, _⟩ := P9.four
        obtain ⟨⟨l0, l1, l2, l3, l4, l5⟩, ⟨f0, f1, f2, f3, f4, f5⟩⟩ := L9.six
        go_wp2_with fail
        refine bodyPost_ret (v := .tuple #[lvA 1 ⟨s, x, sp, dp⟩ (.func (.func 101) #[] #[.pointer (some ⟨q, 0, none⟩), .pointer (some ⟨w.heap.size, 0, none⟩), .pointer (some ⟨w.heap.size + 1 + 1 + 1 + 1, 0, none⟩)]), .int .i64 0]) (by simp [results, Tryz.results87, go_sem, l0, l1, l2, l3, l4, l5]) rfl ⟨_, _, _, 0, rfl, ?_, ?_⟩
        · rw [HV.out]
          obtain ⟨e0, _⟩ := Q9.one
          obtain ⟨e1, _⟩ := B9.one
          obtain ⟨e2, e3, e4, e5, e6⟩ := A9.five
          have zs : ¬ q = w.heap.size + 1 + 1 := by omega
          exact ⟨rfl, Or.inr ⟨_, _, rfl⟩, fun _ => ⟨rfl, rfl, hi.out, hp.out, _, _, _, rfl, by omega, by omega, by omega, by simp [go_sem, e0], by simp [go_sem, e1], by simp [go_sem, e2], by simp [go_sem, e3], by simp [go_sem, e4], by simp [go_sem, e5], by simp [go_sem, e6]⟩⟩
        · go_grown
    · by_cases hin : 0 ≤ c ∧ c < (nb : Int)
      rotate_left
      · have HV : Hid (r = stayR 1) := by
          show _ = _
          rw [HR2.out]
          rw [if_neg (by simp), if_neg (by simpa using hin)]
        clear HR2
        obtain ⟨⟨l0, l1, l2, l3, l4, l5⟩, ⟨f0, f1, f2, f3, f4, f5⟩⟩ := L5.six
        obtain ⟨v0, v1, v2, v3, v4, v5, v6⟩ := V5.seven
        by_cases h0 : 0 ≤ c
        · have u0 : decide (c < 0) = false := by simp; omega
          have u1 : decide ((nb : Int) ≤ c) = true := by simp; omega
          go_wp2_with fail
          refine bodyPost_ret (v := .tuple #[lvA 0 zeroP .nilFunc, .int .i64 1]) (by simp [results, Tryz.results87, go_sem, l0, l1, l2, l3, l4, l5, zeroP]) rfl ⟨0, zeroP, .nilFunc, 1, rfl, ?_, ?_⟩
          · rw [HV.out]
            exact ⟨rfl, Or.inl rfl, fun h => by cases h⟩
          · go_grown
        · have u0 : decide (c < 0) = true := by simp; omega
          go_wp2_with fail
          refine bodyPost_ret (v := .tuple #[lvA 0 zeroP .nilFunc, .int .i64 1]) (by simp [results, Tryz.results87, go_sem, l0, l1, l2, l3, l4, l5, zeroP]) rfl ⟨0, zeroP, .nilFunc, 1, rfl, ?_, ?_⟩
          · rw [HV.out]
            exact ⟨rfl, Or.inl rfl, fun h => by cases h⟩
          · go_grown
      obtain ⟨k, rfl⟩ : ∃ k : Nat, c = (k : Int) := ⟨c.toNat, by omega⟩
      have hkl : k < nb := by omega
      obtain ⟨y, hy, hyd⟩ := HBV.out k hkl
      have HV : Hid (r = ⟨0, 1, ⟨s, y, sp, dp⟩, .back i ⟨s, dd, sp, dp⟩ y⟩) := by
        show _ = _
        rw [HR2.out, if_neg (by simp), if_pos (by simpa using hin), Int.toNat_natCast, hyd]
      have SB5 := HBK.out _ E5
      obtain ⟨bb, ob, eAb, _, hbc⟩ := Ints.at SB5 hy
      have bc := hbc k y hy
      subst eAb
      have k3 : (0 : Int) ≤ (k : Int) := by omega
      have k4 : (k : Int) < (nb : Int) := by omega
      have u0 : decide ((k : Int) < 0) = false := by simp
      have u1 : decide ((nb : Int) ≤ (k : Int)) = false := by simp; omega
      obtain ⟨v0, v1, v2, v3, v4, v5, v6⟩ := V5.seven
      obtain ⟨qc0, qf⟩ := Q5.one
      clear HR2 HBV HBK E5 hy hyd SB5 hbc hin
      go_upto_region 10 with fail
      have Q6 := Q5.setS (j := 0) (.int .i64 y)
      have A6 := A5.setO (b := q) (j := 0) (by omega) (.int .i64 y)
      have B6 := B5.setO (b := q) (j := 0) (by omega) (.int .i64 y)
      have P6 := P5.setO (b := q) (j := 0) (by omega) (.int .i64 y)
      have L6 := L5.setO (b := q) (j := 0) (by omega) (.int .i64 y)
      have D6 := D5.setCell (p := ⟨q, 0, none⟩) (by simp; omega) (.int .i64 y)
      simp only [List.setIfInBounds_toArray, List.set_cons_zero] at Q6
      clear Q5 A5 B5 P5 L5 D5 V5 qc0 qf bc v0 v1 v2 v3 v4 v5 v6
      generalize hW : World.setCell _ _ (.int .i64 y) = w6 at *
      clear hW z1
      obtain ⟨qc, qf⟩ := Q6.one
      obtain ⟨p0, p1, p2, p3, pf0, pf1, pf2, pf3⟩ := P6.four
      go_cut [] (fun wx => Bk wx q #[.int .i64 y] 3 ∧ Bk wx (w.heap.size + 1 + 1 + 1 + 1) #[.int .i64 (i : Int), .int .i64 s, .int .i64 dd, .int .i64 sp, .int .i64 dp] 136 ∧ Bk wx w.heap.size #[.pointer (some ⟨m.B, m.z, none⟩)] 51 ∧ Bk wx (w.heap.size + 1) #[.int .i64 s, .int .i64 y, .int .i64 sp, .int .i64 dp] 29 ∧ Bk wx (w.heap.size + 1 + 1) #[.int .i64 0, .int .i64 0, .int .i64 0, .int .i64 0, .int .i64 0, .nilFunc] 117 ∧ Below w.heap.size w wx)
      case first =>
        go_wp2_with fail
        go_meet
        exact ⟨Q6.setO (by omega) _, A6.setO (by omega) _, B6.setO (by omega) _, by have := P6.setS (j := 1) (.int .i64 y); simpa using this, L6.setO (by omega) _, D6.setCell (by simp) _⟩
      case rest =>
        clear Q6 A6 B6 P6 L6 D6 qc qf p0 p1 p2 p3 pf0 pf1 pf2 pf3
        obtain ⟨Q9, A9, B9, P9, L9, D9⟩ := hcut
        obtain ⟨p0, p1, p2, p3, _⟩ := P9.four
        obtain ⟨⟨l0, l1, l2, l3, l4, l5⟩, ⟨f0, f1, f2, f3, f4, f5⟩⟩ := L9.six
        go_wp2_with fail
        refine bodyPost_ret (v := .tuple #[lvA 1 ⟨s, y, sp, dp⟩ (.func (.func 101) #[] #[.pointer (some ⟨q, 0, none⟩), .pointer (some ⟨w.heap.size, 0, none⟩), .pointer (some ⟨w.heap.size + 1 + 1 + 1 + 1, 0, none⟩)]), .int .i64 0]) (by simp [results, Tryz.results87, go_sem, l0, l1, l2, l3, l4, l5]) rfl ⟨_, _, _, 0, rfl, ?_, ?_⟩
        · rw [HV.out]
          obtain ⟨e0, _⟩ := Q9.one
          obtain ⟨e1, _⟩ := B9.one
          obtain ⟨e2, e3, e4, e5, e6⟩ := A9.five
          have zs : ¬ q = w.heap.size + 1 + 1 := by omega
          exact ⟨rfl, Or.inr ⟨_, _, rfl⟩, fun _ => ⟨rfl, rfl, hi.out, hp.out, _, _, _, rfl, by omega, by omega, by omega, by simp [go_sem, e0], by simp [go_sem, e1], by simp [go_sem, e2], by simp [go_sem, e3], by simp [go_sem, e4], by simp [go_sem, e5], by simp [go_sem, e6]⟩⟩
        · go_grown
end Go.Proofs.YthioedgnambomaaGreat



namespace Go.Proofs.YthioedgnambomaaGreat
open Go.RowKit Go.Maps

theorem stay_post (m : Mp) (W : World) : Calls Tryz.prog 89 #[] W (SPost m W (stayR 7)) :=
  (stay_any W).mono fun _ _ ⟨he, hb⟩ => ⟨0, zeroP, .nilFunc, 7, he, ⟨rfl, Or.inl rfl, fun h => by cases h⟩, hb⟩
/-- send. -/
theorem send_any (m : Mp) (ds : List Dv) (ls : List Lk) (n : Nat) (M : Mnd) (i : Nat) (d : Dv) (q : Int) (p : Pk) (c : Int) (w : World) (hM : Hid (MemAt w m ds ls n M)) (hx : Hid (ds[i]? = some d)) (hp : Hid p.ok) (hi : Hid (i64ok (i : Int))) (hc : Hid (i64ok c)) (ha : Hid (i64ok d.addr)) :
    Calls Tryz.prog 66 #[.pointer (some ⟨m.B, m.z, none⟩), plA (i : Int) q, pkV p, .int .i64 c] w (SPost m w (sendP d M i q p c)) := by
  unfold sendP
  by_cases k2 : d.kind = 2
  · rw [if_pos k2]
    exact send_route m ds ls n M i d q p c _ w hM hx k2 (fun W h => route_any m ds ls n M i d p W h hx)
  rw [if_neg k2]
  by_cases k3 : d.kind = 3
  · rw [if_pos k3]
    by_cases q0 : q = 0
    · rw [if_pos q0]
      exact send_ask m ds ls n M i d q p c _ w hM hx k3 (by simpa using q0) (fun W h => ask_any m ds ls n M i d p W h hx hp hi)
    · rw [if_neg q0]
      exact send_answer m ds ls n M i d q p c _ w hM hx k3 (by simpa using q0) (fun W h => answer_any m ds ls n M i p W h hp hi)
  rw [if_neg k3]
  by_cases k4 : d.kind = 4
  · rw [if_pos k4]
    by_cases q0 : q = 0
    · rw [if_pos q0]
      exact send_hide m ds ls n M i d q p c _ w hM hx k4 (by simpa using q0) (fun W h => hide_any m ds ls n M i d p c W h hx hi hc)
    · rw [if_neg q0]
      exact send_unhide m ds ls n M i d q p c _ w hM hx k4 (by simpa using q0) (fun W h => unhide_any m ds ls n M i d p W h hx hp hi)
  rw [if_neg k4]
  by_cases k5 : d.kind = 5
  · rw [if_pos k5]
    by_cases q0 : q = 0
    · rw [if_pos q0]
      exact send_spread m ds ls n M i d q p c _ w hM hx k5 (by simpa using q0) (fun W h => spread_any m ds ls n M i d p c W h hx hp hi)
    · rw [if_neg q0]
      exact send_gather m ds ls n M i d q p c _ w hM hx k5 (by simpa using q0) (fun W h => gather_any m ds ls n M i d p W h hx hp hi ha)
  rw [if_neg k5]
  exact send_stay m ds ls n M i d q p c _ w hM hx (by omega) (fun W _ => stay_post m W)
/-- An arrival. -/
abbrev arV (t : Int × Int) (p : Pk) : Value := .agg #[.int .i64 t.1, .int .i64 t.2, .int .i64 p.s, .int .i64 p.d, .int .i64 p.sp, .int .i64 p.dp]
/-- What Handle tells, and does. -/
def HPost (m : Mp) (ds : List Dv) (ls : List Lk) (n : Nat) (w : World) (h : HR) (e : Ending) (w' : World) : Prop :=
  e = .returned (.tuple #[arV h.tp h.p, .int .i64 h.err]) ∧ MemAt w' m ds ls (n + 1) h.M ∧ HK m w w'
theorem MemAt.setC {w : World} {m : Mp} {ds : List Dv} {ls : List Lk} {n : Nat} {M : Mnd} (h : MemAt w m ds ls n M) {k j : Nat} {u : Value} (hk : w.heap.size ≤ k) : MemAt (w.setCell ⟨k, j, none⟩ u) m ds ls n M :=
  h.below ((Below.refl _ _).setCell (p := ⟨k, j, none⟩) hk u)
theorem pkOk_ok {p : Pk} (h : pkOk p = true) : p.ok := by
  unfold pkOk adB poB at h
  simp only [Bool.and_eq_true, decide_eq_true_eq] at h
  exact ⟨i64ok_of (by omega) (by omega), i64ok_of (by omega) (by omega), i64ok_of (by omega) (by omega), i64ok_of (by omega) (by omega)⟩
theorem Bk.ck {w w' : World} {k : Nat} {c : Array Value} {t : TypeId} (h : Bk w k c t) (hc : CK w w') : Bk w' k c t :=
  (hc.block k (fun es x e => by unfold Bk at h; rw [h] at e; cases e) h.lt).trans h
theorem isPl_dev {ds : List Dv} {i q : Int} (h : isPl ds i q = true) : ∃ k : Nat, i = (k : Int) ∧ ∃ d, ds[k]? = some d ∧ ds.getD i.toNat default = d := by
  unfold isPl at h
  simp only [Bool.and_eq_true, decide_eq_true_eq] at h
  obtain ⟨⟨⟨h0, h1⟩, _⟩, _⟩ := h
  refine ⟨i.toNat, by omega, ds[i.toNat]'(by omega), List.getElem?_eq_getElem (by omega), ?_⟩
  rw [List.getD_eq_getElem?_getD, List.getElem?_eq_getElem (by omega)]
  rfl
end Go.Proofs.YthioedgnambomaaGreat



namespace Go.Proofs.YthioedgnambomaaGreat
open Go.RowKit Go.Maps

theorem MemAt.final {w w9 wF : World} {m : Mp} {ds : List Dv} {ls : List Lk} {n n' : Nat} {M M' : Mnd} (hM : MemAt w m ds ls n M) (h9 : MemAt w9 m ds ls n' M') (hk : HK m w wF) (e1 : wF.heap[m.f]? = w9.heap[m.f]?) (e2 : wF.heap[m.o]? = w9.heap[m.o]?) (e3 : wF.heap[m.k]? = w9.heap[m.k]?) : MemAt wF m ds ls n' M' :=
  ⟨⟨((hM.ck hk).block _ hM.notMap hM.lt).trans hM.blk.1, hM.blk.2⟩, (hM.devs.ck (hM.ck hk)).mono hk.size, (hM.links.ck (hM.ck hk)).mono hk.size, h9.fl.same e1, h9.ow.same e2, h9.bk.same e3, hM.fo, hM.fk, hM.ok⟩
/-- A store of six cells into block k, which the call made. -/
theorem HK.final {w w8 w9 wF : World} {m : Mp} {k : Nat} (h8 : Below w.heap.size w w8) (h9 : HK m w8 w9) (hk : w.heap.size ≤ k) (hF : ∀ b, b ≠ k → wF.heap[b]? = w9.heap[b]?) (os : wF.os = w9.os) (tp : wF.tape = w9.tape) (ou : wF.output = w9.output) (sz : wF.heap.size = w9.heap.size) : HK m w wF :=
  ⟨os.trans (h9.os.trans h8.os), tp.trans (h9.tape.trans h8.tape), ou.trans (h9.output.trans h8.output), by rw [sz]; exact Nat.le_trans h8.size h9.size, fun b hb n1 n2 n3 => (hF b (by omega)).trans ((h9.block b (Nat.lt_of_lt_of_le hb h8.size) n1 n2 n3).trans (h8.block b hb))⟩
theorem hpost_bad {m : Mp} {ds : List Dv} {ls : List Lk} {n : Nat} {w w' : World} {M : Mnd} {h : HR} {er : Int} (hr : h = badH er M) (hM : MemAt w m ds ls n M) (hb : Below w.heap.size w w') : HPost m ds ls n w h (.returned (.tuple #[arV (0, 0) zeroP, .int .i64 er])) w' := by
  subst hr
  exact ⟨rfl, (hM.below hb).mono (Nat.le_succ _), HK.of_below hb⟩
theorem hpost_ok {m : Mp} {ds : List Dv} {ls : List Lk} {n : Nat} {w w8 w9 : World} {M M' : Mnd} {h : HR} {tp : Int × Int} {p : Pk} {k : Nat} (hr : h = ⟨0, tp, p, M'⟩) (hM : MemAt w m ds ls n M) (h8 : Below w.heap.size w w8) (hk9 : HK m w8 w9) (h9 : MemAt w9 m ds ls (n + 1) M') (hk : w.heap.size ≤ k) (u0 u1 u2 u3 u4 u5 : Value) :
    HPost m ds ls n w h (.returned (.tuple #[arV tp p, .int .i64 0])) ((((((w9.setCell ⟨k, 0, none⟩ u0).setCell ⟨k, 1, none⟩ u1).setCell ⟨k, 2, none⟩ u2).setCell ⟨k, 3, none⟩ u3).setCell ⟨k, 4, none⟩ u4).setCell ⟨k, 5, none⟩ u5) := by
  subst hr
  have hF := fun b hb => set6_block (w := w9) (k := k) (b := b) hb u0 u1 u2 u3 u4 u5
  have H := HK.final (wF := (((((w9.setCell ⟨k, 0, none⟩ u0).setCell ⟨k, 1, none⟩ u1).setCell ⟨k, 2, none⟩ u2).setCell ⟨k, 3, none⟩ u3).setCell ⟨k, 4, none⟩ u4).setCell ⟨k, 5, none⟩ u5) h8 hk9 hk hF (by simp only [World.setCell]) (by simp only [World.setCell]) (by simp only [World.setCell]) (by simp only [World.setCell, Array.size_modify])
  have l1 := hM.fl.lt
  have l2 := hM.ow.lt
  have l3 := hM.bk.lt
  exact ⟨rfl, hM.final h9 H (hF _ (by omega)) (hF _ (by omega)) (hF _ (by omega)), H⟩
set_option maxHeartbeats 4000000 in
set_option maxRecDepth 100000 in
theorem handle_none (m : Mp) (ds : List Dv) (ls : List Lk) (n : Nat) (M : Mnd) (i q : Int) (p : Pk) (c : Int) (h : HR) (w : World) (hM : Hid (MemAt w m ds ls n M)) (hpl : isPl ds i q = false) (HV : Hid (h = badH 4 M)) :
    Calls Tryz.prog 31 #[.pointer (some ⟨m.B, m.z, none⟩), plA i q, pkV p, .int .i64 c] w (HPost m ds ls n w h) := by
  have M2 := ((hM.out.alloc (.cells #[.int .i64 i, .int .i64 q] 27)).alloc (pkC p)).alloc (.cells #[.int .i64 0, .int .i64 0, .int .i64 0, .int .i64 0, .int .i64 0, .int .i64 0] 60)
  have D2 := Below.alN (Below.alN (Below.alN (Below.refl w.heap.size w) (.cells #[.int .i64 i, .int .i64 q] 27)) (pkC p)) (.cells #[.int .i64 0, .int .i64 0, .int .i64 0, .int .i64 0, .int .i64 0, .int .i64 0] 60)
  have A2 := ((bk_new w #[.int .i64 i, .int .i64 q] 27).alloc (pkC p)).alloc (.cells #[.int .i64 0, .int .i64 0, .int .i64 0, .int .i64 0, .int .i64 0, .int .i64 0] 60)
  have P2 := (bk_new' (w.alloc (.cells #[.int .i64 i, .int .i64 q] 27)) #[.int .i64 p.s, .int .i64 p.d, .int .i64 p.sp, .int .i64 p.dp] 29 (w.heap.size + 1) (by simp)).alloc (.cells #[.int .i64 0, .int .i64 0, .int .i64 0, .int .i64 0, .int .i64 0, .int .i64 0] 60)
  have R2 := bk_new' ((w.alloc (.cells #[.int .i64 i, .int .i64 q] 27)).alloc (pkC p)) #[.int .i64 0, .int .i64 0, .int .i64 0, .int .i64 0, .int .i64 0, .int .i64 0] 60 (w.heap.size + 1 + 1) (by simp)
  obtain ⟨q0, q1, _, _, _⟩ := M2.cells
  have Q0 : (((w.alloc (.cells #[.int .i64 i, .int .i64 q] 27)).alloc (pkC p)).alloc (.cells #[.int .i64 0, .int .i64 0, .int .i64 0, .int .i64 0, .int .i64 0, .int .i64 0] 60)).drew.cell? ⟨m.B, m.z, none⟩ = some (.slice m.A ds.length m.cap) := q0
  have Q1 : (((w.alloc (.cells #[.int .i64 i, .int .i64 q] 27)).alloc (pkC p)).alloc (.cells #[.int .i64 0, .int .i64 0, .int .i64 0, .int .i64 0, .int .i64 0, .int .i64 0] 60)).drew.cell? ⟨m.B, m.z + 1, none⟩ = some (.slice m.L ls.length m.cap') := q1
  obtain ⟨a0, a1⟩ := A2.two
  have HP : Hid (∀ W, MemAt W m ds ls n M → Calls Tryz.prog 16 #[.agg #[.slice m.A ds.length m.cap, .slice m.L ls.length m.cap'], plA i q] W fun e w' => e = .returned (.bool (isPl ds i q)) ∧ Below W.heap.size W w') := fun W h => hasPlace_any _ _ _ _ _ _ _ W h.devs
  rw [hpl] at HP
  obtain ⟨s, dd, sp, dp⟩ := p
  simp only at *
  go_enter Tryz.func31, Tryz.ntmps31
  go_wp2_with fail
  go_region_held3 (fun w' => w'.cell? ⟨m.B, m.z, none⟩ = some (.slice m.A ds.length m.cap) ∧ w'.cell? ⟨m.B, m.z + 1, none⟩ = some (.slice m.L ls.length m.cap') ∧ w'.cell? ⟨w.heap.size, 0, none⟩ = some (.int .i64 i) ∧ w'.cell? ⟨w.heap.size, 1, none⟩ = some (.int .i64 q)) (go_keep) ((go_at_call 16; refine (HP.out _ M2.drew).mono ?_; rintro e w5 ⟨rfl, hb5⟩; have D5 := chnN hb5 D2.drew; have A5 := A2.drew.keep hb5; have P5 := P2.drew.keep hb5; have R5 := R2.drew.keep hb5; have M5 := M2.drew.below hb5; have g0 := (CK.of_below hb5).cell Q0; have g1 := (CK.of_below hb5).cell Q1; obtain ⟨g2, g3⟩ := A5.two))
  clear hb5 D2 A2 P2 R2 M2 q0 q1 Q0 Q1 a0 a1 HP g0 g1 g2 g3
  obtain ⟨⟨l0, l1, l2, l3, l4, l5⟩, ⟨f0, f1, f2, f3, f4, f5⟩⟩ := R5.six
  have z5 : w.heap.size + 1 + 1 < w5.heap.size := R5.lt
  go_wp2_with fail
  refine bodyPost_ret (v := .tuple #[arV (0, 0) zeroP, .int .i64 4]) (by simp [results, Tryz.results31, go_sem, l0, l1, l2, l3, l4, l5, zeroP]) rfl (hpost_bad HV.out hM.out (by go_grown))
set_option maxHeartbeats 4000000 in
set_option maxRecDepth 100000 in
theorem handle_bad (m : Mp) (ds : List Dv) (ls : List Lk) (n : Nat) (M : Mnd) (i q : Int) (p : Pk) (c : Int) (h : HR) (w : World) (hM : Hid (MemAt w m ds ls n M)) (hpl : isPl ds i q = true) (hpk : pkOk p = false) (HV : Hid (h = badH 1 M)) :
    Calls Tryz.prog 31 #[.pointer (some ⟨m.B, m.z, none⟩), plA i q, pkV p, .int .i64 c] w (HPost m ds ls n w h) := by
  have M2 := ((hM.out.alloc (.cells #[.int .i64 i, .int .i64 q] 27)).alloc (pkC p)).alloc (.cells #[.int .i64 0, .int .i64 0, .int .i64 0, .int .i64 0, .int .i64 0, .int .i64 0] 60)
  have D2 := Below.alN (Below.alN (Below.alN (Below.refl w.heap.size w) (.cells #[.int .i64 i, .int .i64 q] 27)) (pkC p)) (.cells #[.int .i64 0, .int .i64 0, .int .i64 0, .int .i64 0, .int .i64 0, .int .i64 0] 60)
  have A2 := ((bk_new w #[.int .i64 i, .int .i64 q] 27).alloc (pkC p)).alloc (.cells #[.int .i64 0, .int .i64 0, .int .i64 0, .int .i64 0, .int .i64 0, .int .i64 0] 60)
  have P2 := (bk_new' (w.alloc (.cells #[.int .i64 i, .int .i64 q] 27)) #[.int .i64 p.s, .int .i64 p.d, .int .i64 p.sp, .int .i64 p.dp] 29 (w.heap.size + 1) (by simp)).alloc (.cells #[.int .i64 0, .int .i64 0, .int .i64 0, .int .i64 0, .int .i64 0, .int .i64 0] 60)
  have R2 := bk_new' ((w.alloc (.cells #[.int .i64 i, .int .i64 q] 27)).alloc (pkC p)) #[.int .i64 0, .int .i64 0, .int .i64 0, .int .i64 0, .int .i64 0, .int .i64 0] 60 (w.heap.size + 1 + 1) (by simp)
  obtain ⟨q0, q1, _, _, _⟩ := M2.cells
  have Q0 : (((w.alloc (.cells #[.int .i64 i, .int .i64 q] 27)).alloc (pkC p)).alloc (.cells #[.int .i64 0, .int .i64 0, .int .i64 0, .int .i64 0, .int .i64 0, .int .i64 0] 60)).drew.cell? ⟨m.B, m.z, none⟩ = some (.slice m.A ds.length m.cap) := q0
  have Q1 : (((w.alloc (.cells #[.int .i64 i, .int .i64 q] 27)).alloc (pkC p)).alloc (.cells #[.int .i64 0, .int .i64 0, .int .i64 0, .int .i64 0, .int .i64 0, .int .i64 0] 60)).drew.cell? ⟨m.B, m.z + 1, none⟩ = some (.slice m.L ls.length m.cap') := q1
  obtain ⟨a0, a1⟩ := A2.two
  have HP : Hid (∀ W, MemAt W m ds ls n M → Calls Tryz.prog 16 #[.agg #[.slice m.A ds.length m.cap, .slice m.L ls.length m.cap'], plA i q] W fun e w' => e = .returned (.bool (isPl ds i q)) ∧ Below W.heap.size W w') := fun W h => hasPlace_any _ _ _ _ _ _ _ W h.devs
  have PC : Hid (∀ W, Calls Tryz.prog 17 #[pkV p] W fun e w' => e = .returned (.int .i64 (if pkOk p then 0 else 1)) ∧ Below W.heap.size W w') := fun W => pcheck_any p W
  rw [hpl] at HP
  rw [hpk] at PC
  simp only [Bool.false_eq_true, if_false] at PC
  obtain ⟨s, dd, sp, dp⟩ := p
  simp only at *
  go_enter Tryz.func31, Tryz.ntmps31
  go_wp2_with fail
  go_region_held3 (fun w' => w'.cell? ⟨m.B, m.z, none⟩ = some (.slice m.A ds.length m.cap) ∧ w'.cell? ⟨m.B, m.z + 1, none⟩ = some (.slice m.L ls.length m.cap') ∧ w'.cell? ⟨w.heap.size, 0, none⟩ = some (.int .i64 i) ∧ w'.cell? ⟨w.heap.size, 1, none⟩ = some (.int .i64 q)) (go_keep) ((go_at_call 16; refine (HP.out _ M2.drew).mono ?_; rintro e w5 ⟨rfl, hb5⟩; have D5 := chnN hb5 D2.drew; have A5 := A2.drew.keep hb5; have P5 := P2.drew.keep hb5; have R5 := R2.drew.keep hb5; have M5 := M2.drew.below hb5; have g0 := (CK.of_below hb5).cell Q0; have g1 := (CK.of_below hb5).cell Q1; obtain ⟨g2, g3⟩ := A5.two))
  clear hb5 D2 A2 P2 R2 M2 q0 q1 Q0 Q1 a0 a1 HP g0 g1 g2 g3
  obtain ⟨⟨l0, l1, l2, l3, l4, l5⟩, ⟨f0, f1, f2, f3, f4, f5⟩⟩ := R5.six
  have z5 : w.heap.size + 1 + 1 < w5.heap.size := R5.lt
  obtain ⟨p0, p1, p2, p3, _⟩ := P5.four
  go_wp2_with fail
  refine (PC.out _).mono ?_
  rintro e w6 ⟨rfl, hb6⟩
  have D6 := chnN hb6 D5
  have A6 := A5.keep hb6
  have P6 := P5.keep hb6
  have R6 := R5.keep hb6
  have M6 := M5.below hb6
  clear hb6 D5 A5 P5 R5 M5 p0 p1 p2 p3 l0 l1 l2 l3 l4 l5 f0 f1 f2 f3 f4 f5 PC z5
  obtain ⟨⟨l0, l1, l2, l3, l4, l5⟩, ⟨f0, f1, f2, f3, f4, f5⟩⟩ := R6.six
  go_wp2_with fail
  refine bodyPost_ret (v := .tuple #[arV (0, 0) zeroP, .int .i64 1]) (by simp [results, Tryz.results31, go_sem, l0, l1, l2, l3, l4, l5, zeroP]) rfl (hpost_bad HV.out hM.out (by go_grown))
set_option maxHeartbeats 4000000 in
set_option maxRecDepth 100000 in
theorem handle_err (m : Mp) (ds : List Dv) (ls : List Lk) (n : Nat) (M : Mnd) (i q : Int) (p : Pk) (c : Int) (h : HR) (r : SR) (w : World) (hM : Hid (MemAt w m ds ls n M)) (hpl : isPl ds i q = true) (hpk : pkOk p = true) (hne : (r.err == 0) = false) (HV : Hid (h = badH r.err M))
    (SD : Hid (∀ W, MemAt W m ds ls n M → Calls Tryz.prog 66 #[.pointer (some ⟨m.B, m.z, none⟩), plA i q, pkV p, .int .i64 c] W (SPost m W r))) :
    Calls Tryz.prog 31 #[.pointer (some ⟨m.B, m.z, none⟩), plA i q, pkV p, .int .i64 c] w (HPost m ds ls n w h) := by
  have M2 := ((hM.out.alloc (.cells #[.int .i64 i, .int .i64 q] 27)).alloc (pkC p)).alloc (.cells #[.int .i64 0, .int .i64 0, .int .i64 0, .int .i64 0, .int .i64 0, .int .i64 0] 60)
  have D2 := Below.alN (Below.alN (Below.alN (Below.refl w.heap.size w) (.cells #[.int .i64 i, .int .i64 q] 27)) (pkC p)) (.cells #[.int .i64 0, .int .i64 0, .int .i64 0, .int .i64 0, .int .i64 0, .int .i64 0] 60)
  have A2 := ((bk_new w #[.int .i64 i, .int .i64 q] 27).alloc (pkC p)).alloc (.cells #[.int .i64 0, .int .i64 0, .int .i64 0, .int .i64 0, .int .i64 0, .int .i64 0] 60)
  have P2 := (bk_new' (w.alloc (.cells #[.int .i64 i, .int .i64 q] 27)) #[.int .i64 p.s, .int .i64 p.d, .int .i64 p.sp, .int .i64 p.dp] 29 (w.heap.size + 1) (by simp)).alloc (.cells #[.int .i64 0, .int .i64 0, .int .i64 0, .int .i64 0, .int .i64 0, .int .i64 0] 60)
  have R2 := bk_new' ((w.alloc (.cells #[.int .i64 i, .int .i64 q] 27)).alloc (pkC p)) #[.int .i64 0, .int .i64 0, .int .i64 0, .int .i64 0, .int .i64 0, .int .i64 0] 60 (w.heap.size + 1 + 1) (by simp)
  obtain ⟨q0, q1, _, _, _⟩ := M2.cells
  have Q0 : (((w.alloc (.cells #[.int .i64 i, .int .i64 q] 27)).alloc (pkC p)).alloc (.cells #[.int .i64 0, .int .i64 0, .int .i64 0, .int .i64 0, .int .i64 0, .int .i64 0] 60)).drew.cell? ⟨m.B, m.z, none⟩ = some (.slice m.A ds.length m.cap) := q0
  have Q1 : (((w.alloc (.cells #[.int .i64 i, .int .i64 q] 27)).alloc (pkC p)).alloc (.cells #[.int .i64 0, .int .i64 0, .int .i64 0, .int .i64 0, .int .i64 0, .int .i64 0] 60)).drew.cell? ⟨m.B, m.z + 1, none⟩ = some (.slice m.L ls.length m.cap') := q1
  obtain ⟨a0, a1⟩ := A2.two
  have HP : Hid (∀ W, MemAt W m ds ls n M → Calls Tryz.prog 16 #[.agg #[.slice m.A ds.length m.cap, .slice m.L ls.length m.cap'], plA i q] W fun e w' => e = .returned (.bool (isPl ds i q)) ∧ Below W.heap.size W w') := fun W h => hasPlace_any _ _ _ _ _ _ _ W h.devs
  have PC : Hid (∀ W, Calls Tryz.prog 17 #[pkV p] W fun e w' => e = .returned (.int .i64 (if pkOk p then 0 else 1)) ∧ Below W.heap.size W w') := fun W => pcheck_any p W
  rw [hpl] at HP
  rw [hpk] at PC
  simp only [if_true] at PC
  obtain ⟨s, dd, sp, dp⟩ := p
  simp only at *
  go_enter Tryz.func31, Tryz.ntmps31
  go_wp2_with fail
  go_region_held3 (fun w' => w'.cell? ⟨m.B, m.z, none⟩ = some (.slice m.A ds.length m.cap) ∧ w'.cell? ⟨m.B, m.z + 1, none⟩ = some (.slice m.L ls.length m.cap') ∧ w'.cell? ⟨w.heap.size, 0, none⟩ = some (.int .i64 i) ∧ w'.cell? ⟨w.heap.size, 1, none⟩ = some (.int .i64 q)) (go_keep) ((go_at_call 16; refine (HP.out _ M2.drew).mono ?_; rintro e w5 ⟨rfl, hb5⟩; have D5 := chnN hb5 D2.drew; have A5 := A2.drew.keep hb5; have P5 := P2.drew.keep hb5; have R5 := R2.drew.keep hb5; have M5 := M2.drew.below hb5; have g0 := (CK.of_below hb5).cell Q0; have g1 := (CK.of_below hb5).cell Q1; obtain ⟨g2, g3⟩ := A5.two))
  clear hb5 D2 A2 P2 R2 M2 q0 q1 Q0 Q1 a0 a1 HP g0 g1 g2 g3
  obtain ⟨⟨l0, l1, l2, l3, l4, l5⟩, ⟨f0, f1, f2, f3, f4, f5⟩⟩ := R5.six
  have z5 : w.heap.size + 1 + 1 < w5.heap.size := R5.lt
  obtain ⟨p0, p1, p2, p3, _⟩ := P5.four
  go_wp2_with fail
  refine (PC.out _).mono ?_
  rintro e w6 ⟨rfl, hb6⟩
  have D6 := chnN hb6 D5
  have A6 := A5.keep hb6
  have P6 := P5.keep hb6
  have R6 := R5.keep hb6
  have M6 := M5.below hb6
  clear hb6 D5 A5 P5 R5 M5 p0 p1 p2 p3 l0 l1 l2 l3 l4 l5 f0 f1 f2 f3 f4 f5 PC z5
  obtain ⟨⟨l0, l1, l2, l3, l4, l5⟩, ⟨f0, f1, f2, f3, f4, f5⟩⟩ := R6.six
  obtain ⟨p0, p1, p2, p3, _⟩ := P6.four
  obtain ⟨a0, a1⟩ := A6.two
  go_wp2_with fail
  refine (SD.out _ M6).mono ?_
  rintro e w7 ⟨q2, p9, fv, er, rfl, HQ, hb7⟩
  obtain ⟨he, hfv, _⟩ := HQ.out
  subst he
  have D7 := chnN hb7 D6
  have R7 := R6.keep hb7
  clear hb7 D6 A6 P6 R6 M6 p0 p1 p2 p3 a0 a1 l0 l1 l2 l3 l4 l5 f0 f1 f2 f3 f4 f5 SD HQ
  obtain ⟨ps, pd, psp, pdp⟩ := p9
  have z7 : w.heap.size + 1 + 1 < w7.heap.size := R7.lt
  generalize r.err = er at *
  rcases hfv with rfl | ⟨fn, cp, rfl⟩
  · have D8 := Below.alN D7 (.cells #[.int .i64 q2, .int .i64 ps, .int .i64 pd, .int .i64 psp, .int .i64 pdp, .nilFunc] 117)
    have R8 := R7.alloc (.cells #[.int .i64 q2, .int .i64 ps, .int .i64 pd, .int .i64 psp, .int .i64 pdp, .nilFunc] 117)
    obtain ⟨⟨l0, l1, l2, l3, l4, l5⟩, ⟨f0, f1, f2, f3, f4, f5⟩⟩ := R8.six
    go_upto_region 8 with fail
    generalize hW : w7.alloc (.cells #[.int .i64 q2, .int .i64 ps, .int .i64 pd, .int .i64 psp, .int .i64 pdp, .nilFunc] 117) = w8 at *
    go_wp2_with fail
    refine bodyPost_ret (v := .tuple #[arV (0, 0) zeroP, .int .i64 er]) (by simp [results, Tryz.results31, go_sem, l0, l1, l2, l3, l4, l5, zeroP]) rfl (hpost_bad HV.out hM.out (by go_grown))
  · have D8 := Below.alN D7 (.cells #[.int .i64 q2, .int .i64 ps, .int .i64 pd, .int .i64 psp, .int .i64 pdp, .func fn #[] cp] 117)
    have R8 := R7.alloc (.cells #[.int .i64 q2, .int .i64 ps, .int .i64 pd, .int .i64 psp, .int .i64 pdp, .func fn #[] cp] 117)
    obtain ⟨⟨l0, l1, l2, l3, l4, l5⟩, ⟨f0, f1, f2, f3, f4, f5⟩⟩ := R8.six
    go_upto_region 8 with fail
    generalize hW : w7.alloc (.cells #[.int .i64 q2, .int .i64 ps, .int .i64 pd, .int .i64 psp, .int .i64 pdp, .func fn #[] cp] 117) = w8 at *
    go_wp2_with fail
    refine bodyPost_ret (v := .tuple #[arV (0, 0) zeroP, .int .i64 er]) (by simp [results, Tryz.results31, go_sem, l0, l1, l2, l3, l4, l5, zeroP]) rfl (hpost_bad HV.out hM.out (by go_grown))
end Go.Proofs.YthioedgnambomaaGreat



namespace Go.Proofs.YthioedgnambomaaGreat
open Go.RowKit Go.Maps

theorem peS {w' : World} {m : Mp} {ds : List Dv} {ls : List Lk} {n N O : Nat} {M : Mnd} {i q q2 : Int} {a b c d e : Value} (hM : MemAt w' m ds ls n M) (hA : Bk w' N #[.int .i64 i, .int .i64 q] 27) (hO : Bk w' O #[.int .i64 q2, a, b, c, d, e] 117) :
    w'.cell? ⟨m.B, m.z, none⟩ = some (.slice m.A ds.length m.cap) ∧ w'.cell? ⟨m.B, m.z + 1, none⟩ = some (.slice m.L ls.length m.cap') ∧ w'.cell? ⟨N, 0, none⟩ = some (.int .i64 i) ∧ w'.cell? ⟨O, 0, none⟩ = some (.int .i64 q2) := ⟨hM.cells.1, hM.cells.2.1, hA.at 0, hO.at 0⟩
set_option maxHeartbeats 4000000 in
set_option maxRecDepth 100000 in
theorem handle_no (m : Mp) (ds : List Dv) (ls : List Lk) (n : Nat) (M : Mnd) (i q : Int) (p : Pk) (c : Int) (h : HR) (q2 ps pd psp pdp : Int) (pv : Option (Int × Int)) (w : World) (hM : Hid (MemAt w m ds ls n M)) (_hn : n < maxLen) (hpl : isPl ds i q = true) (hpk : pkOk p = true)
    (SD : Hid (∀ W, MemAt W m ds ls n M → Calls Tryz.prog 66 #[.pointer (some ⟨m.B, m.z, none⟩), plA i q, pkV p, .int .i64 c] W (SPost m W ⟨0, q2, ⟨ps, pd, psp, pdp⟩, .no⟩)))
    (PE : Hid (∀ W, MemAt W m ds ls n M → Calls Tryz.prog 67 #[.agg #[.slice m.A ds.length m.cap, .slice m.L ls.length m.cap'], plA i q2] W fun e w' => e = .returned (.tuple #[placeV pv, .bool pv.isSome]) ∧ Below W.heap.size W w'))
    (HN : Hid (pv = none → h = badH 7 M)) (HS : Hid (∀ t, pv = some t → h = ⟨0, t, ⟨ps, pd, psp, pdp⟩, learnP M (.no)⟩)) :
    Calls Tryz.prog 31 #[.pointer (some ⟨m.B, m.z, none⟩), plA i q, pkV p, .int .i64 c] w (HPost m ds ls n w h) := by
  have M2 := ((hM.out.alloc (.cells #[.int .i64 i, .int .i64 q] 27)).alloc (pkC p)).alloc (.cells #[.int .i64 0, .int .i64 0, .int .i64 0, .int .i64 0, .int .i64 0, .int .i64 0] 60)
  have D2 := Below.alN (Below.alN (Below.alN (Below.refl w.heap.size w) (.cells #[.int .i64 i, .int .i64 q] 27)) (pkC p)) (.cells #[.int .i64 0, .int .i64 0, .int .i64 0, .int .i64 0, .int .i64 0, .int .i64 0] 60)
  have A2 := ((bk_new w #[.int .i64 i, .int .i64 q] 27).alloc (pkC p)).alloc (.cells #[.int .i64 0, .int .i64 0, .int .i64 0, .int .i64 0, .int .i64 0, .int .i64 0] 60)
  have P2 := (bk_new' (w.alloc (.cells #[.int .i64 i, .int .i64 q] 27)) #[.int .i64 p.s, .int .i64 p.d, .int .i64 p.sp, .int .i64 p.dp] 29 (w.heap.size + 1) (by simp)).alloc (.cells #[.int .i64 0, .int .i64 0, .int .i64 0, .int .i64 0, .int .i64 0, .int .i64 0] 60)
  have R2 := bk_new' ((w.alloc (.cells #[.int .i64 i, .int .i64 q] 27)).alloc (pkC p)) #[.int .i64 0, .int .i64 0, .int .i64 0, .int .i64 0, .int .i64 0, .int .i64 0] 60 (w.heap.size + 1 + 1) (by simp)
  obtain ⟨q0, q1, _, _, _⟩ := M2.cells
  have Q0 : (((w.alloc (.cells #[.int .i64 i, .int .i64 q] 27)).alloc (pkC p)).alloc (.cells #[.int .i64 0, .int .i64 0, .int .i64 0, .int .i64 0, .int .i64 0, .int .i64 0] 60)).drew.cell? ⟨m.B, m.z, none⟩ = some (.slice m.A ds.length m.cap) := q0
  have Q1 : (((w.alloc (.cells #[.int .i64 i, .int .i64 q] 27)).alloc (pkC p)).alloc (.cells #[.int .i64 0, .int .i64 0, .int .i64 0, .int .i64 0, .int .i64 0, .int .i64 0] 60)).drew.cell? ⟨m.B, m.z + 1, none⟩ = some (.slice m.L ls.length m.cap') := q1
  obtain ⟨a0, a1⟩ := A2.two
  have HP : Hid (∀ W, MemAt W m ds ls n M → Calls Tryz.prog 16 #[.agg #[.slice m.A ds.length m.cap, .slice m.L ls.length m.cap'], plA i q] W fun e w' => e = .returned (.bool (isPl ds i q)) ∧ Below W.heap.size W w') := fun W h => hasPlace_any _ _ _ _ _ _ _ W h.devs
  have PC : Hid (∀ W, Calls Tryz.prog 17 #[pkV p] W fun e w' => e = .returned (.int .i64 (if pkOk p then 0 else 1)) ∧ Below W.heap.size W w') := fun W => pcheck_any p W
  rw [hpl] at HP
  rw [hpk] at PC
  simp only [if_true] at PC
  obtain ⟨tx, ty, ok, hpv, hok, HT, HF⟩ : ∃ (tx ty : Int) (ok : Bool), placeV pv = plA tx ty ∧ pv.isSome = ok ∧ Hid (ok = true → h = ⟨0, (tx, ty), ⟨ps, pd, psp, pdp⟩, learnP M (.no)⟩) ∧ Hid (ok = false → h = badH 7 M) := by
    cases pv with
    | none => exact ⟨0, 0, _, rfl, rfl, (fun e => by cases e), fun _ => HN.out rfl⟩
    | some z => exact ⟨z.1, z.2, _, rfl, rfl, fun _ => HS.out z rfl, (fun e => by cases e)⟩
  rw [hpv, hok] at PE
  clear hpv hok HN HS
  obtain ⟨s, dd, sp, dp⟩ := p
  simp only at *
  go_enter Tryz.func31, Tryz.ntmps31
  go_wp2_with fail
  go_region_held3 (fun w' => w'.cell? ⟨m.B, m.z, none⟩ = some (.slice m.A ds.length m.cap) ∧ w'.cell? ⟨m.B, m.z + 1, none⟩ = some (.slice m.L ls.length m.cap') ∧ w'.cell? ⟨w.heap.size, 0, none⟩ = some (.int .i64 i) ∧ w'.cell? ⟨w.heap.size, 1, none⟩ = some (.int .i64 q)) (go_keep) ((go_at_call 16; refine (HP.out _ M2.drew).mono ?_; rintro e w5 ⟨rfl, hb5⟩; have D5 := chnN hb5 D2.drew; have A5 := A2.drew.keep hb5; have P5 := P2.drew.keep hb5; have R5 := R2.drew.keep hb5; have M5 := M2.drew.below hb5; have g0 := (CK.of_below hb5).cell Q0; have g1 := (CK.of_below hb5).cell Q1; obtain ⟨g2, g3⟩ := A5.two))
  clear hb5 D2 A2 P2 R2 M2 q0 q1 Q0 Q1 a0 a1 HP g0 g1 g2 g3
  obtain ⟨⟨l0, l1, l2, l3, l4, l5⟩, ⟨f0, f1, f2, f3, f4, f5⟩⟩ := R5.six
  have z5 : w.heap.size + 1 + 1 < w5.heap.size := R5.lt
  obtain ⟨p0, p1, p2, p3, _⟩ := P5.four
  go_wp2_with fail
  refine (PC.out _).mono ?_
  rintro e w6 ⟨rfl, hb6⟩
  have D6 := chnN hb6 D5
  have A6 := A5.keep hb6
  have P6 := P5.keep hb6
  have R6 := R5.keep hb6
  have M6 := M5.below hb6
  clear hb6 D5 A5 P5 R5 M5 p0 p1 p2 p3 l0 l1 l2 l3 l4 l5 f0 f1 f2 f3 f4 f5 PC z5
  obtain ⟨⟨l0, l1, l2, l3, l4, l5⟩, ⟨f0, f1, f2, f3, f4, f5⟩⟩ := R6.six
  obtain ⟨p0, p1, p2, p3', _⟩ := P6.four
  obtain ⟨a0, a1⟩ := A6.two
  go_wp2_with fail
  refine (SD.out _ M6).mono ?_
  rintro e w7 ⟨q9, p9, fv, er, rfl, HQ, hb7⟩
  obtain ⟨he, _, hz⟩ := HQ.out
  obtain ⟨hq9, hp9, HL⟩ := hz rfl
  simp only at he hq9 hp9 HL
  have hq9' := hq9.symm
  subst he hq9' hp9
  have D7 := chnN hb7 D6
  have R7 := R6.keep hb7
  have A7 := A6.keep hb7
  have M7 := M6.below hb7
  clear hb7 D6 A6 P6 R6 M6 p0 p1 p2 p3' a0 a1 l0 l1 l2 l3 l4 l5 f0 f1 f2 f3 f4 f5 SD HQ hz
  have hfv : fv = .func (.func 104) #[] #[] := HL
  subst hfv
  have z7 : w.heap.size + 1 + 1 < w7.heap.size := R7.lt
  have D8 := Below.alN D7 (.cells #[.int .i64 q2, .int .i64 ps, .int .i64 pd, .int .i64 psp, .int .i64 pdp, .func (.func 104) #[] #[]] 117)
  have R8 := R7.alloc (.cells #[.int .i64 q2, .int .i64 ps, .int .i64 pd, .int .i64 psp, .int .i64 pdp, .func (.func 104) #[] #[]] 117)
  have A8 := A7.alloc (.cells #[.int .i64 q2, .int .i64 ps, .int .i64 pd, .int .i64 psp, .int .i64 pdp, .func (.func 104) #[] #[]] 117)
  have M8 := M7.alloc (.cells #[.int .i64 q2, .int .i64 ps, .int .i64 pd, .int .i64 psp, .int .i64 pdp, .func (.func 104) #[] #[]] 117)
  have HL8 := HL.below ((Below.refl _ w7).alloc (Nat.le_refl _) (.cells #[.int .i64 q2, .int .i64 ps, .int .i64 pd, .int .i64 psp, .int .i64 pdp, .func (.func 104) #[] #[]] 117))
  have O8 := bk_new w7 #[.int .i64 q2, .int .i64 ps, .int .i64 pd, .int .i64 psp, .int .i64 pdp, .func (.func 104) #[] #[]] 117
  clear D7 R7 A7 M7 HL
  go_upto_region 9 with fail
  generalize hON : w7.heap.size = on at *
  generalize hW : w7.alloc (.cells #[.int .i64 q2, .int .i64 ps, .int .i64 pd, .int .i64 psp, .int .i64 pdp, .func (.func 104) #[] #[]] 117) = w8 at *
  clear hON hW
  obtain ⟨g0, g1, g2, g3⟩ := peS M8 A8 O8
  have D8a := (Below.alN D8 (.cells #[.int .i64 0, .int .i64 0] 27)).drew
  have M8a := (M8.alloc (.cells #[.int .i64 0, .int .i64 0] 27)).drew
  have A8a := (A8.alloc (.cells #[.int .i64 0, .int .i64 0] 27)).drew
  have O8a := (O8.alloc (.cells #[.int .i64 0, .int .i64 0] 27)).drew
  have R8a := (R8.alloc (.cells #[.int .i64 0, .int .i64 0] 27)).drew
  have H8a := HL8.below ((Below.refl _ w8).alloc (Nat.le_refl _) (.cells #[.int .i64 0, .int .i64 0] 27)).drew
  have H8d := HL8.below (Below.refl _ w8).drew
  have M8d := M8.drew
  have A8d := A8.drew
  have O8d := O8.drew
  go_cut [13, 14] (fun v13 v14 wx => ∃ g, v13 = .pointer (some ⟨g, 0, none⟩) ∧ v14 = .bool ok ∧ Bk wx g #[.int .i64 tx, .int .i64 ty] 27 ∧ w.heap.size + 1 + 1 < g ∧ Bk wx on #[.int .i64 q2, .int .i64 ps, .int .i64 pd, .int .i64 psp, .int .i64 pdp, .func (.func 104) #[] #[]] 117 ∧ Bk wx (w.heap.size + 1 + 1) #[.int .i64 0, .int .i64 0, .int .i64 0, .int .i64 0, .int .i64 0, .int .i64 0] 60 ∧ MemAt wx m ds ls n M ∧ LrnAt w6.heap.size wx m (.func (.func 104) #[] #[]) (.no) ∧ Below w.heap.size w wx)
  case first =>
    have zz8 : w.heap.size + 1 + 1 < w8.heap.size := R8.lt
    go_region_held3 (fun w' => w'.cell? ⟨m.B, m.z, none⟩ = some (.slice m.A ds.length m.cap) ∧ w'.cell? ⟨m.B, m.z + 1, none⟩ = some (.slice m.L ls.length m.cap') ∧ w'.cell? ⟨w.heap.size, 0, none⟩ = some (.int .i64 i) ∧ w'.cell? ⟨on, 0, none⟩ = some (.int .i64 q2)) (first | exact peS (by first | assumption | exact MemAt.alloc (by assumption) _) (by first | assumption | exact Bk.alloc (by assumption) _) (by first | assumption | exact Bk.alloc (by assumption) _) | exact peS (M8.below ((E9.setCell (p := ⟨w8.heap.size, 0, none⟩) (Nat.le_refl _) _).setCell (p := ⟨w8.heap.size, 1, none⟩) (Nat.le_refl _) _)) (A8.keep ((E9.setCell (p := ⟨w8.heap.size, 0, none⟩) (Nat.le_refl _) _).setCell (p := ⟨w8.heap.size, 1, none⟩) (Nat.le_refl _) _)) (O8.keep ((E9.setCell (p := ⟨w8.heap.size, 0, none⟩) (Nat.le_refl _) _).setCell (p := ⟨w8.heap.size, 1, none⟩) (Nat.le_refl _) _))) (first | (go_at_call 67; refine (PE.out _ M8d).mono ?_; rintro e w9 ⟨rfl, hb9⟩; have D9 := chnN hb9 D8.drew; have M9 := M8d.below hb9; have A9 := A8d.keep hb9; have O9 := O8d.keep hb9; have R9 := R8.drew.keep hb9; have H9 := H8d.below hb9; have G9 := bk_new w9 #[.int .i64 tx, .int .i64 ty] 27) | (go_at_call 67; refine (PE.out _ M8a).mono ?_; rintro e w9 ⟨rfl, hb9⟩; have D9 := chnN hb9 D8a; have M9 := M8a.below hb9; have A9 := A8a.keep hb9; have O9 := O8a.keep hb9; have R9 := R8a.keep hb9; have H9 := H8a.below hb9; have G9 := (bk_new w8 #[.int .i64 0, .int .i64 0] 27).drew.keep hb9; have E9 := chnN hb9 ((Below.refl _ w8).alloc (Nat.le_refl _) (.cells #[.int .i64 0, .int .i64 0] 27)).drew; have gf0 := G9.fz 0; have gf1 := G9.fz 1; obtain ⟨gg0, gg1⟩ := G9.two))
    all_goals
      go_wp2_with fail
      go_meet
      first
        | exact ⟨_, rfl, rfl, G9, (by have := R9.lt; omega), O9.alloc _, R9.alloc _, M9.alloc _, H9.below ((Below.refl _ _).alloc (Nat.le_refl _) _), Below.alN D9 _⟩
        | exact ⟨_, rfl, rfl, (by have := (G9.setS (j := 0) (.int .i64 tx)).setS (j := 1) (.int .i64 ty); simpa using this), zz8, O8.keep ((E9.setCell (p := ⟨w8.heap.size, 0, none⟩) (Nat.le_refl _) _).setCell (p := ⟨w8.heap.size, 1, none⟩) (Nat.le_refl _) _), R8.keep ((E9.setCell (p := ⟨w8.heap.size, 0, none⟩) (Nat.le_refl _) _).setCell (p := ⟨w8.heap.size, 1, none⟩) (Nat.le_refl _) _), M8.below ((E9.setCell (p := ⟨w8.heap.size, 0, none⟩) (Nat.le_refl _) _).setCell (p := ⟨w8.heap.size, 1, none⟩) (Nat.le_refl _) _), HL8.below ((E9.setCell (p := ⟨w8.heap.size, 0, none⟩) (Nat.le_refl _) _).setCell (p := ⟨w8.heap.size, 1, none⟩) (Nat.le_refl _) _), chnN ((E9.setCell (p := ⟨w8.heap.size, 0, none⟩) (Nat.le_refl _) _).setCell (p := ⟨w8.heap.size, 1, none⟩) (Nat.le_refl _) _) D8⟩
  case rest =>
    clear D8 R8 A8 M8 HL8 O8 g0 g1 g2 g3 D8a M8a A8a O8a R8a H8a H8d M8d A8d O8d PE
    obtain ⟨g, rfl, rfl, G8, zg, O8, R8, M8, HL8, D8⟩ := hcut
    obtain ⟨⟨l0, l1, l2, l3, l4, l5⟩, ⟨f0, f1, f2, f3, f4, f5⟩⟩ := R8.six
    cases ok
    · have HV : Hid (h = badH 7 M) := HF.out rfl
      go_wp2_with fail
      refine bodyPost_ret (v := .tuple #[arV (0, 0) zeroP, .int .i64 7]) (by simp [results, Tryz.results31, go_sem, l0, l1, l2, l3, l4, l5, zeroP]) rfl (hpost_bad HV.out hM.out (by go_grown))
    have HV := HT.out rfl
    obtain ⟨⟨o0, o1, o2, o3, o4, o5⟩, _⟩ := O8.six
    clear l0 l1 l2 l3 l4 l5 f0 f1 f2 f3 f4 f5
    go_wp2_with fail
    refine (pass1_any _).mono ?_
    rintro e w9 ⟨rfl, rfl⟩
    have M9 : MemAt w9 m ds ls (n + 1) (learnP M .no) := M8.mono (Nat.le_succ _)
    have K9 : HK m w9 w9 := HK.refl m w9
    have G9 := G8
    have O9 := O8
    have R9 := R8
    clear o0 o1 o2 o3 o4 o5
    obtain ⟨⟨o0, o1, o2, o3, o4, o5⟩, _⟩ := O9.six
    obtain ⟨⟨l0, l1, l2, l3, l4, l5⟩, ⟨f0, f1, f2, f3, f4, f5⟩⟩ := R9.six
    obtain ⟨gx, gy⟩ := G9.two
    go_wp2_with fail
    refine bodyPost_ret (v := .tuple #[arV (tx, ty) ⟨ps, pd, psp, pdp⟩, .int .i64 0]) (by simp [results, Tryz.results31, go_sem, l0, l1, l2, l3, l4, l5]) rfl (hpost_ok HV hM.out D8 K9 M9 (by omega) _ _ _ _ _ _)
end Go.Proofs.YthioedgnambomaaGreat



namespace Go.Proofs.YthioedgnambomaaGreat
open Go.RowKit Go.Maps

set_option maxHeartbeats 4000000 in
set_option maxRecDepth 100000 in
theorem handle_flow (m : Mp) (ds : List Dv) (ls : List Lk) (n : Nat) (M : Mnd) (i q : Int) (p : Pk) (c : Int) (j : Int) (p3 : Pk) (h : HR) (q2 ps pd psp pdp : Int) (pv : Option (Int × Int)) (w : World) (hM : Hid (MemAt w m ds ls n M)) (hn : n < maxLen) (hpl : isPl ds i q = true) (hpk : pkOk p = true)
    (SD : Hid (∀ W, MemAt W m ds ls n M → Calls Tryz.prog 66 #[.pointer (some ⟨m.B, m.z, none⟩), plA i q, pkV p, .int .i64 c] W (SPost m W ⟨0, q2, ⟨ps, pd, psp, pdp⟩, .flow j p3⟩)))
    (PE : Hid (∀ W, MemAt W m ds ls n M → Calls Tryz.prog 67 #[.agg #[.slice m.A ds.length m.cap, .slice m.L ls.length m.cap'], plA i q2] W fun e w' => e = .returned (.tuple #[placeV pv, .bool pv.isSome]) ∧ Below W.heap.size W w'))
    (HN : Hid (pv = none → h = badH 7 M)) (HS : Hid (∀ t, pv = some t → h = ⟨0, t, ⟨ps, pd, psp, pdp⟩, learnP M (.flow j p3)⟩)) :
    Calls Tryz.prog 31 #[.pointer (some ⟨m.B, m.z, none⟩), plA i q, pkV p, .int .i64 c] w (HPost m ds ls n w h) := by
  have M2 := ((hM.out.alloc (.cells #[.int .i64 i, .int .i64 q] 27)).alloc (pkC p)).alloc (.cells #[.int .i64 0, .int .i64 0, .int .i64 0, .int .i64 0, .int .i64 0, .int .i64 0] 60)
  have D2 := Below.alN (Below.alN (Below.alN (Below.refl w.heap.size w) (.cells #[.int .i64 i, .int .i64 q] 27)) (pkC p)) (.cells #[.int .i64 0, .int .i64 0, .int .i64 0, .int .i64 0, .int .i64 0, .int .i64 0] 60)
  have A2 := ((bk_new w #[.int .i64 i, .int .i64 q] 27).alloc (pkC p)).alloc (.cells #[.int .i64 0, .int .i64 0, .int .i64 0, .int .i64 0, .int .i64 0, .int .i64 0] 60)
  have P2 := (bk_new' (w.alloc (.cells #[.int .i64 i, .int .i64 q] 27)) #[.int .i64 p.s, .int .i64 p.d, .int .i64 p.sp, .int .i64 p.dp] 29 (w.heap.size + 1) (by simp)).alloc (.cells #[.int .i64 0, .int .i64 0, .int .i64 0, .int .i64 0, .int .i64 0, .int .i64 0] 60)
  have R2 := bk_new' ((w.alloc (.cells #[.int .i64 i, .int .i64 q] 27)).alloc (pkC p)) #[.int .i64 0, .int .i64 0, .int .i64 0, .int .i64 0, .int .i64 0, .int .i64 0] 60 (w.heap.size + 1 + 1) (by simp)
  obtain ⟨q0, q1, _, _, _⟩ := M2.cells
  have Q0 : (((w.alloc (.cells #[.int .i64 i, .int .i64 q] 27)).alloc (pkC p)).alloc (.cells #[.int .i64 0, .int .i64 0, .int .i64 0, .int .i64 0, .int .i64 0, .int .i64 0] 60)).drew.cell? ⟨m.B, m.z, none⟩ = some (.slice m.A ds.length m.cap) := q0
  have Q1 : (((w.alloc (.cells #[.int .i64 i, .int .i64 q] 27)).alloc (pkC p)).alloc (.cells #[.int .i64 0, .int .i64 0, .int .i64 0, .int .i64 0, .int .i64 0, .int .i64 0] 60)).drew.cell? ⟨m.B, m.z + 1, none⟩ = some (.slice m.L ls.length m.cap') := q1
  obtain ⟨a0, a1⟩ := A2.two
  have HP : Hid (∀ W, MemAt W m ds ls n M → Calls Tryz.prog 16 #[.agg #[.slice m.A ds.length m.cap, .slice m.L ls.length m.cap'], plA i q] W fun e w' => e = .returned (.bool (isPl ds i q)) ∧ Below W.heap.size W w') := fun W h => hasPlace_any _ _ _ _ _ _ _ W h.devs
  have PC : Hid (∀ W, Calls Tryz.prog 17 #[pkV p] W fun e w' => e = .returned (.int .i64 (if pkOk p then 0 else 1)) ∧ Below W.heap.size W w') := fun W => pcheck_any p W
  rw [hpl] at HP
  rw [hpk] at PC
  simp only [if_true] at PC
  obtain ⟨tx, ty, ok, hpv, hok, HT, HF⟩ : ∃ (tx ty : Int) (ok : Bool), placeV pv = plA tx ty ∧ pv.isSome = ok ∧ Hid (ok = true → h = ⟨0, (tx, ty), ⟨ps, pd, psp, pdp⟩, learnP M (.flow j p3)⟩) ∧ Hid (ok = false → h = badH 7 M) := by
    cases pv with
    | none => exact ⟨0, 0, _, rfl, rfl, (fun e => by cases e), fun _ => HN.out rfl⟩
    | some z => exact ⟨z.1, z.2, _, rfl, rfl, fun _ => HS.out z rfl, (fun e => by cases e)⟩
  rw [hpv, hok] at PE
  clear hpv hok HN HS
  obtain ⟨s, dd, sp, dp⟩ := p
  simp only at *
  go_enter Tryz.func31, Tryz.ntmps31
  go_wp2_with fail
  go_region_held3 (fun w' => w'.cell? ⟨m.B, m.z, none⟩ = some (.slice m.A ds.length m.cap) ∧ w'.cell? ⟨m.B, m.z + 1, none⟩ = some (.slice m.L ls.length m.cap') ∧ w'.cell? ⟨w.heap.size, 0, none⟩ = some (.int .i64 i) ∧ w'.cell? ⟨w.heap.size, 1, none⟩ = some (.int .i64 q)) (go_keep) ((go_at_call 16; refine (HP.out _ M2.drew).mono ?_; rintro e w5 ⟨rfl, hb5⟩; have D5 := chnN hb5 D2.drew; have A5 := A2.drew.keep hb5; have P5 := P2.drew.keep hb5; have R5 := R2.drew.keep hb5; have M5 := M2.drew.below hb5; have g0 := (CK.of_below hb5).cell Q0; have g1 := (CK.of_below hb5).cell Q1; obtain ⟨g2, g3⟩ := A5.two))
  clear hb5 D2 A2 P2 R2 M2 q0 q1 Q0 Q1 a0 a1 HP g0 g1 g2 g3
  obtain ⟨⟨l0, l1, l2, l3, l4, l5⟩, ⟨f0, f1, f2, f3, f4, f5⟩⟩ := R5.six
  have z5 : w.heap.size + 1 + 1 < w5.heap.size := R5.lt
  obtain ⟨p0, p1, p2, p3, _⟩ := P5.four
  go_wp2_with fail
  refine (PC.out _).mono ?_
  rintro e w6 ⟨rfl, hb6⟩
  have D6 := chnN hb6 D5
  have A6 := A5.keep hb6
  have P6 := P5.keep hb6
  have R6 := R5.keep hb6
  have M6 := M5.below hb6
  clear hb6 D5 A5 P5 R5 M5 p0 p1 p2 p3 l0 l1 l2 l3 l4 l5 f0 f1 f2 f3 f4 f5 PC z5
  obtain ⟨⟨l0, l1, l2, l3, l4, l5⟩, ⟨f0, f1, f2, f3, f4, f5⟩⟩ := R6.six
  obtain ⟨p0, p1, p2, p3', _⟩ := P6.four
  obtain ⟨a0, a1⟩ := A6.two
  go_wp2_with fail
  refine (SD.out _ M6).mono ?_
  rintro e w7 ⟨q9, p9, fv, er, rfl, HQ, hb7⟩
  obtain ⟨he, _, hz⟩ := HQ.out
  obtain ⟨hq9, hp9, HL⟩ := hz rfl
  simp only at he hq9 hp9 HL
  have hq9' := hq9.symm
  subst he hq9' hp9
  have D7 := chnN hb7 D6
  have R7 := R6.keep hb7
  have A7 := A6.keep hb7
  have M7 := M6.below hb7
  clear hb7 D6 A6 P6 R6 M6 p0 p1 p2 p3' a0 a1 l0 l1 l2 l3 l4 l5 f0 f1 f2 f3 f4 f5 SD HQ hz
  obtain ⟨_, _, ca, cb, rfl, _⟩ := id HL
  have z7 : w.heap.size + 1 + 1 < w7.heap.size := R7.lt
  have D8 := Below.alN D7 (.cells #[.int .i64 q2, .int .i64 ps, .int .i64 pd, .int .i64 psp, .int .i64 pdp, .func (.func 96) #[] #[.pointer (some ⟨ca, 0, none⟩), .pointer (some ⟨cb, 0, none⟩)]] 117)
  have R8 := R7.alloc (.cells #[.int .i64 q2, .int .i64 ps, .int .i64 pd, .int .i64 psp, .int .i64 pdp, .func (.func 96) #[] #[.pointer (some ⟨ca, 0, none⟩), .pointer (some ⟨cb, 0, none⟩)]] 117)
  have A8 := A7.alloc (.cells #[.int .i64 q2, .int .i64 ps, .int .i64 pd, .int .i64 psp, .int .i64 pdp, .func (.func 96) #[] #[.pointer (some ⟨ca, 0, none⟩), .pointer (some ⟨cb, 0, none⟩)]] 117)
  have M8 := M7.alloc (.cells #[.int .i64 q2, .int .i64 ps, .int .i64 pd, .int .i64 psp, .int .i64 pdp, .func (.func 96) #[] #[.pointer (some ⟨ca, 0, none⟩), .pointer (some ⟨cb, 0, none⟩)]] 117)
  have HL8 := HL.below ((Below.refl _ w7).alloc (Nat.le_refl _) (.cells #[.int .i64 q2, .int .i64 ps, .int .i64 pd, .int .i64 psp, .int .i64 pdp, .func (.func 96) #[] #[.pointer (some ⟨ca, 0, none⟩), .pointer (some ⟨cb, 0, none⟩)]] 117))
  have O8 := bk_new w7 #[.int .i64 q2, .int .i64 ps, .int .i64 pd, .int .i64 psp, .int .i64 pdp, .func (.func 96) #[] #[.pointer (some ⟨ca, 0, none⟩), .pointer (some ⟨cb, 0, none⟩)]] 117
  clear D7 R7 A7 M7 HL
  go_upto_region 9 with fail
  generalize hON : w7.heap.size = on at *
  generalize hW : w7.alloc (.cells #[.int .i64 q2, .int .i64 ps, .int .i64 pd, .int .i64 psp, .int .i64 pdp, .func (.func 96) #[] #[.pointer (some ⟨ca, 0, none⟩), .pointer (some ⟨cb, 0, none⟩)]] 117) = w8 at *
  clear hON hW
  obtain ⟨g0, g1, g2, g3⟩ := peS M8 A8 O8
  have D8a := (Below.alN D8 (.cells #[.int .i64 0, .int .i64 0] 27)).drew
  have M8a := (M8.alloc (.cells #[.int .i64 0, .int .i64 0] 27)).drew
  have A8a := (A8.alloc (.cells #[.int .i64 0, .int .i64 0] 27)).drew
  have O8a := (O8.alloc (.cells #[.int .i64 0, .int .i64 0] 27)).drew
  have R8a := (R8.alloc (.cells #[.int .i64 0, .int .i64 0] 27)).drew
  have H8a := HL8.below ((Below.refl _ w8).alloc (Nat.le_refl _) (.cells #[.int .i64 0, .int .i64 0] 27)).drew
  have H8d := HL8.below (Below.refl _ w8).drew
  have M8d := M8.drew
  have A8d := A8.drew
  have O8d := O8.drew
  go_cut [13, 14] (fun v13 v14 wx => ∃ g, v13 = .pointer (some ⟨g, 0, none⟩) ∧ v14 = .bool ok ∧ Bk wx g #[.int .i64 tx, .int .i64 ty] 27 ∧ w.heap.size + 1 + 1 < g ∧ Bk wx on #[.int .i64 q2, .int .i64 ps, .int .i64 pd, .int .i64 psp, .int .i64 pdp, .func (.func 96) #[] #[.pointer (some ⟨ca, 0, none⟩), .pointer (some ⟨cb, 0, none⟩)]] 117 ∧ Bk wx (w.heap.size + 1 + 1) #[.int .i64 0, .int .i64 0, .int .i64 0, .int .i64 0, .int .i64 0, .int .i64 0] 60 ∧ MemAt wx m ds ls n M ∧ LrnAt w6.heap.size wx m (.func (.func 96) #[] #[.pointer (some ⟨ca, 0, none⟩), .pointer (some ⟨cb, 0, none⟩)]) (.flow j p3) ∧ Below w.heap.size w wx)
  case first =>
    have zz8 : w.heap.size + 1 + 1 < w8.heap.size := R8.lt
    go_region_held3 (fun w' => w'.cell? ⟨m.B, m.z, none⟩ = some (.slice m.A ds.length m.cap) ∧ w'.cell? ⟨m.B, m.z + 1, none⟩ = some (.slice m.L ls.length m.cap') ∧ w'.cell? ⟨w.heap.size, 0, none⟩ = some (.int .i64 i) ∧ w'.cell? ⟨on, 0, none⟩ = some (.int .i64 q2)) (first | exact peS (by first | assumption | exact MemAt.alloc (by assumption) _) (by first | assumption | exact Bk.alloc (by assumption) _) (by first | assumption | exact Bk.alloc (by assumption) _) | exact peS (M8.below ((E9.setCell (p := ⟨w8.heap.size, 0, none⟩) (Nat.le_refl _) _).setCell (p := ⟨w8.heap.size, 1, none⟩) (Nat.le_refl _) _)) (A8.keep ((E9.setCell (p := ⟨w8.heap.size, 0, none⟩) (Nat.le_refl _) _).setCell (p := ⟨w8.heap.size, 1, none⟩) (Nat.le_refl _) _)) (O8.keep ((E9.setCell (p := ⟨w8.heap.size, 0, none⟩) (Nat.le_refl _) _).setCell (p := ⟨w8.heap.size, 1, none⟩) (Nat.le_refl _) _))) (first | (go_at_call 67; refine (PE.out _ M8d).mono ?_; rintro e w9 ⟨rfl, hb9⟩; have D9 := chnN hb9 D8.drew; have M9 := M8d.below hb9; have A9 := A8d.keep hb9; have O9 := O8d.keep hb9; have R9 := R8.drew.keep hb9; have H9 := H8d.below hb9; have G9 := bk_new w9 #[.int .i64 tx, .int .i64 ty] 27) | (go_at_call 67; refine (PE.out _ M8a).mono ?_; rintro e w9 ⟨rfl, hb9⟩; have D9 := chnN hb9 D8a; have M9 := M8a.below hb9; have A9 := A8a.keep hb9; have O9 := O8a.keep hb9; have R9 := R8a.keep hb9; have H9 := H8a.below hb9; have G9 := (bk_new w8 #[.int .i64 0, .int .i64 0] 27).drew.keep hb9; have E9 := chnN hb9 ((Below.refl _ w8).alloc (Nat.le_refl _) (.cells #[.int .i64 0, .int .i64 0] 27)).drew; have gf0 := G9.fz 0; have gf1 := G9.fz 1; obtain ⟨gg0, gg1⟩ := G9.two))
    all_goals
      go_wp2_with fail
      go_meet
      first
        | exact ⟨_, rfl, rfl, G9, (by have := R9.lt; omega), O9.alloc _, R9.alloc _, M9.alloc _, H9.below ((Below.refl _ _).alloc (Nat.le_refl _) _), Below.alN D9 _⟩
        | exact ⟨_, rfl, rfl, (by have := (G9.setS (j := 0) (.int .i64 tx)).setS (j := 1) (.int .i64 ty); simpa using this), zz8, O8.keep ((E9.setCell (p := ⟨w8.heap.size, 0, none⟩) (Nat.le_refl _) _).setCell (p := ⟨w8.heap.size, 1, none⟩) (Nat.le_refl _) _), R8.keep ((E9.setCell (p := ⟨w8.heap.size, 0, none⟩) (Nat.le_refl _) _).setCell (p := ⟨w8.heap.size, 1, none⟩) (Nat.le_refl _) _), M8.below ((E9.setCell (p := ⟨w8.heap.size, 0, none⟩) (Nat.le_refl _) _).setCell (p := ⟨w8.heap.size, 1, none⟩) (Nat.le_refl _) _), HL8.below ((E9.setCell (p := ⟨w8.heap.size, 0, none⟩) (Nat.le_refl _) _).setCell (p := ⟨w8.heap.size, 1, none⟩) (Nat.le_refl _) _), chnN ((E9.setCell (p := ⟨w8.heap.size, 0, none⟩) (Nat.le_refl _) _).setCell (p := ⟨w8.heap.size, 1, none⟩) (Nat.le_refl _) _) D8⟩
  case rest =>
    clear D8 R8 A8 M8 HL8 O8 g0 g1 g2 g3 D8a M8a A8a O8a R8a H8a H8d M8d A8d O8d PE
    obtain ⟨g, rfl, rfl, G8, zg, O8, R8, M8, HL8, D8⟩ := hcut
    obtain ⟨⟨l0, l1, l2, l3, l4, l5⟩, ⟨f0, f1, f2, f3, f4, f5⟩⟩ := R8.six
    cases ok
    · have HV : Hid (h = badH 7 M) := HF.out rfl
      go_wp2_with fail
      refine bodyPost_ret (v := .tuple #[arV (0, 0) zeroP, .int .i64 7]) (by simp [results, Tryz.results31, go_sem, l0, l1, l2, l3, l4, l5, zeroP]) rfl (hpost_bad HV.out hM.out (by go_grown))
    have HV := HT.out rfl
    obtain ⟨⟨o0, o1, o2, o3, o4, o5⟩, _⟩ := O8.six
    clear l0 l1 l2 l3 l4 l5 f0 f1 f2 f3 f4 f5
    go_wp2_with fail
    obtain ⟨hj, hp3, ca', cb', ee, _, _, d0, d1, d2, d3, d4, d5⟩ := HL8
    cases ee
    refine (ask1_any _ _ m ds ls n M j p3 _ M8 hn hj hp3 d0 d1 d2 d3 d4 d5).mono ?_
    rintro e w9 ⟨rfl, M9, K9⟩
    have G9 := G8.ck (M8.ck K9)
    have O9 := O8.ck (M8.ck K9)
    have R9 := R8.ck (M8.ck K9)
    clear d0 d1 d2 d3 d4 d5 hj hp3
    clear o0 o1 o2 o3 o4 o5
    obtain ⟨⟨o0, o1, o2, o3, o4, o5⟩, _⟩ := O9.six
    obtain ⟨⟨l0, l1, l2, l3, l4, l5⟩, ⟨f0, f1, f2, f3, f4, f5⟩⟩ := R9.six
    obtain ⟨gx, gy⟩ := G9.two
    go_wp2_with fail
    refine bodyPost_ret (v := .tuple #[arV (tx, ty) ⟨ps, pd, psp, pdp⟩, .int .i64 0]) (by simp [results, Tryz.results31, go_sem, l0, l1, l2, l3, l4, l5]) rfl (hpost_ok HV hM.out D8 K9 M9 (by omega) _ _ _ _ _ _)
end Go.Proofs.YthioedgnambomaaGreat


