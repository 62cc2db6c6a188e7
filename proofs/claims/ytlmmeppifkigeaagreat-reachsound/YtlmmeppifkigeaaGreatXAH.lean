/-
  XAH.
-/
import Derived.Test.YtlmmeppifkigeaaGreatXAG
import Derived.Test.YtlmmeppifkigeaaGreatXAF
set_option maxHeartbeats 8000000
set_option maxRecDepth 100000
namespace Go.Proofs.YtlmmeppifkigeaaGreat
open Go.RowKit Go.Maps
theorem own_ok (M : Mnd) (i : Int) (s : Int × Int) : ∀ (f k : Nat), 8 - k <= f -> ∀ {j : Nat}, ownFrom M i s k = some j -> i64ok (j : Int)
 | 0, k, h, j, e => by
   rw [ownFrom_end _ _ _ (by omega)] at e
   cases e
 | f + 1, k, h, j, e => by
   by_cases hk : k < 8
   ·rw [ownFrom_at _ _ _ hk] at e
    split at e
    ·obtain rfl := Option.some.inj e
     exact i64ok_nat hk
    ·exact own_ok M i s f (k + 1) (by omega) e
   ·rw [ownFrom_end _ _ _ (by omega)] at e
    cases e
theorem hide_any (m : Mp) (ds : List Dv) (ls : List Lk) (n : Nat) (M : Mnd) (i : Nat) (d : Dv) (p : Pk) (c : Int) (w : World) (hM : Hid (MemAt w m ds ls n M)) (hx : Hid (ds[i]? = some d)) (hi : Hid (i64ok (i : Int))) (hc : Hid (i64ok c)) :
  Calls Tryz.prog 128 #[.pointer (some ⟨m.B, m.z, none⟩), .int .i64 (i : Int), pkV p, .int .i64 c] w (SPost m w (hideP d M i p c)) := by
 have M2 := (((hM.out.alloc (.cells #[.pointer (some ⟨m.B, m.z, none⟩)] 74)).alloc (.cells #[.int .i64 (i : Int)] 3)).alloc (pkC p)).alloc lvC
 have D2 := Below.alN (Below.alN (Below.alN (Below.alN (Below.refl w.heap.size w) (.cells #[.pointer (some ⟨m.B, m.z, none⟩)] 74)) (.cells #[.int .i64 (i : Int)] 3)) (pkC p)) lvC
 have B2 := (((bk_new w #[.pointer (some ⟨m.B, m.z, none⟩)] 74).alloc (.cells #[.int .i64 (i : Int)] 3)).alloc (pkC p)).alloc lvC
 have I2 := ((bk_new' (w.alloc (.cells #[.pointer (some ⟨m.B, m.z, none⟩)] 74)) #[.int .i64 (i : Int)] 3 (w.heap.size + 1) (by simp)).alloc (pkC p)).alloc lvC
 have P2 := (bk_new' ((w.alloc (.cells #[.pointer (some ⟨m.B, m.z, none⟩)] 74)).alloc (.cells #[.int .i64 (i : Int)] 3)) #[.int .i64 p.s, .int .i64 p.d, .int .i64 p.sp, .int .i64 p.dp] 36 (w.heap.size + 1 + 1) (by simp)).alloc lvC
 have L2 := bk_new' (((w.alloc (.cells #[.pointer (some ⟨m.B, m.z, none⟩)] 74)).alloc (.cells #[.int .i64 (i : Int)] 3)).alloc (pkC p)) #[.int .i64 0, .int .i64 0, .int .i64 0, .int .i64 0, .int .i64 0, .nilFunc] 190 (w.heap.size + 1 + 1 + 1) (by simp)
 obtain ⟨q0, _, _, _, _⟩ := M2.cells
 obtain ⟨b, o, vb, vr, vt, eA, HD, k1, k2⟩ := M2.dev hx.out
 rw [eA] at q0
 obtain ⟨c0, c1, c2, c3, c4, c5, c6, s1, s2, s3⟩ := HD
 have CZ := CK.of_below ((Below.refl _ ((((w.alloc (.cells #[.pointer (some ⟨m.B, m.z, none⟩)] 74)).alloc (.cells #[.int .i64 (i : Int)] 3)).alloc (pkC p)).alloc lvC)).alloc (Nat.le_refl _) (.cells #[.string ⟨#[]⟩, .int .i64 0, .int .i64 0, .int .u8 0, .slice none 0 0, .slice none 0 0, .slice none 0 0] 62))
 have q0z := CZ.cell q0
 have c0z := CZ.cell c0
 have c1z := CZ.cell c1
 have c2z := CZ.cell c2
 have c3z := CZ.cell c3
 have c4z := CZ.cell c4
 have c5z := CZ.cell c5
 have c6z := CZ.cell c6
 clear CZ
 obtain ⟨Ab, cb, rfl, _, _, _, _⟩ := s1
 obtain ⟨Ar, cr, rfl, _, _, _, _⟩ := s2
 obtain ⟨At, ct, rfl, _, _, _, _⟩ := s3
 obtain ⟨s, dd, sp, dp⟩ := p
 generalize hr : hideP d M i ⟨s, dd, sp, dp⟩ c = r
 have HR : Hid (r = match ownFrom M i (s, sp) 0 with
  | some k => ⟨0, 1, ⟨d.addr, dd, (k : Int), dp⟩, .own i (k : Int) (s, sp)⟩
  | none => if poB c && d.pool.testBit c.toNat then (if (M.ow (i, c)).isSome then stayR 6 else ⟨0, 1, ⟨d.addr, dd, c, dp⟩, .own i c (s, sp)⟩) else stayR 1) := hr.symm
 have OP : Hid (∀ W, MemAt W m ds ls n M -> Calls Tryz.prog 156 #[.pointer (some ⟨m.B, m.z, none⟩), .int .i64 (i : Int), .agg #[.int .i64 s, .int .i64 sp]] W fun e w' => e = .returned (.tuple #[.int .i64 (((ownFrom M i (s, sp) 0).getD 0 : Nat) : Int), .bool (ownFrom M i (s, sp) 0).isSome]) ∧ Below W.heap.size W w') := fun W h => ownPort_any m ds ls n M i s sp W h hi
 have HK8 : Hid (∀ k, ownFrom M i (s, sp) 0 = some k -> i64ok (k : Int)) := fun k h => own_ok M i (s, sp) 8 0 (by omega) h
 have hpl := d.hp
 have IP : Hid (∀ W, Calls Tryz.prog 157 #[.agg #[.string d.name, .int .i64 d.kind, .int .i64 d.addr, .int .u8 (d.pool : Int), .slice Ab d.backs.length cb, .slice Ar (rulesOf d).length cr, .slice At (routesOf d).length ct], .int .i64 c] W fun e w' => e = .returned (.bool (poB c && d.pool.testBit c.toNat)) ∧ Below W.heap.size W w') := fun W => inPool_any _ _ _ _ _ _ _ c W hpl
 have HL : Hid (∀ W, MemAt W m ds ls n M -> (Instr.lookup 79 (.map (some m.o)) (.agg #[.int .i64 (i : Int), .int .i64 c]) true).run Tryz.prog W = .ok (.tuple #[.agg #[.int .i64 ((M.ow (i, c)).getD (0, 0)).1, .int .i64 ((M.ow (i, c)).getD (0, 0)).2], .bool (M.ow (i, c)).isSome]) W) := fun W h => h.lookO hi.out hc.out
 clear hr hx hM eA hpl
 simp only at *
 generalize (poB c && d.pool.testBit c.toNat) = x1 at *
 generalize (rulesOf d).length = nr at *
 generalize (routesOf d).length = nt at *
 generalize d.backs.length = nb at *
 generalize d.name = nm at *
 generalize d.kind = kd at *
 generalize d.addr = ad at *
 generalize d.pool = pl at *
 go_enter Tryz.func128, Tryz.ntmps128
 go_wp2_with fail
 go_cut [10] (fun v10 wx => ∃ g, v10 = .pointer (some ⟨g, 0, none⟩) ∧ Bk wx g #[.string nm, .int .i64 kd, .int .i64 ad, .int .u8 (pl : Int), .slice Ab nb cb, .slice Ar nr cr, .slice At nt ct] 62 ∧ w.heap.size + 1 + 1 + 1 < g ∧ Bk wx w.heap.size #[.pointer (some ⟨m.B, m.z, none⟩)] 74 ∧ Bk wx (w.heap.size + 1) #[.int .i64 (i : Int)] 3 ∧ Bk wx (w.heap.size + 1 + 1) #[.int .i64 s, .int .i64 dd, .int .i64 sp, .int .i64 dp] 36 ∧ Bk wx (w.heap.size + 1 + 1 + 1) #[.int .i64 0, .int .i64 0, .int .i64 0, .int .i64 0, .int .i64 0, .nilFunc] 190 ∧ MemAt wx m ds ls n M ∧ Below w.heap.size w wx)
 case first =>
  go_region
  all_goals
   go_wp2_with fail
   go_meet
   exact ⟨_, rfl, (bk_new' _ _ _ _ (by simp)).drew, by simp, (B2.alloc _).drew, (I2.alloc _).drew, (P2.alloc _).drew, (L2.alloc _).drew, (M2.alloc _).drew, (Below.alN D2 _).drew⟩
 case rest =>
  clear M2 P2 L2 D2 B2 I2 q0 c0 c1 c2 c3 c4 c5 c6 q0z c0z c1z c2z c3z c4z c5z c6z
  obtain ⟨g, rfl, V4, zg, B4, I4, P4, L4, M4, D4⟩ := hcut
  obtain ⟨p0, p1, p2, p3, _⟩ := P4.four
  obtain ⟨b0, _⟩ := B4.one
  obtain ⟨i0, _⟩ := I4.one
  have z1 : w.heap.size < wc.heap.size := B4.lt
  have z2 : w.heap.size + 1 < wc.heap.size := I4.lt
  have M5 := M4.alloc (.cells #[.int .i64 s, .int .i64 sp] 151)
  go_wp2_with fail
  refine (OP.out _ M5).mono ?_
  rintro e w6 ⟨rfl, hb6⟩
  have S6 := (bk_new wc #[.int .i64 s, .int .i64 sp] 151).keep hb6
  have V6 := (V4.alloc (.cells #[.int .i64 s, .int .i64 sp] 151)).keep hb6
  have B6 := (B4.alloc (.cells #[.int .i64 s, .int .i64 sp] 151)).keep hb6
  have I6 := (I4.alloc (.cells #[.int .i64 s, .int .i64 sp] 151)).keep hb6
  have P6 := (P4.alloc (.cells #[.int .i64 s, .int .i64 sp] 151)).keep hb6
  have L6 := (L4.alloc (.cells #[.int .i64 s, .int .i64 sp] 151)).keep hb6
  have M6 := M5.below hb6
  have D6 := chnN hb6 (Below.alN D4 (.cells #[.int .i64 s, .int .i64 sp] 151))
  have zc : g < wc.heap.size := V4.lt
  have zw : wc.heap.size < w6.heap.size := S6.lt
  generalize wc.heap.size = sn at *
  clear hb6 M5 OP V4 B4 I4 P4 L4 M4 D4 b0 i0 p0 p1 p2 p3 z1 z2
  cases y : ownFrom M i (s, sp) 0 with
  | some k =>
    have HV : Hid (r = ⟨0, 1, ⟨ad, dd, (k : Int), dp⟩, .own i (k : Int) (s, sp)⟩) := by show _ = _; rw [HR.out, y]
    have hk : Hid (i64ok (k : Int)) := HK8.out k y
    clear y HR IP HL HK8
    have Q7 := bk_new w6 #[.int .i64 (k : Int)] 3
    have S7 := S6.alloc (.cells #[.int .i64 (k : Int)] 3)
    have V7 := V6.alloc (.cells #[.int .i64 (k : Int)] 3)
    have B7 := B6.alloc (.cells #[.int .i64 (k : Int)] 3)
    have I7 := I6.alloc (.cells #[.int .i64 (k : Int)] 3)
    have P7 := P6.alloc (.cells #[.int .i64 (k : Int)] 3)
    have L7 := L6.alloc (.cells #[.int .i64 (k : Int)] 3)
    have D7 := Below.alN D6 (.cells #[.int .i64 (k : Int)] 3)
    have zq : sn < w6.heap.size := zw
    clear S6 V6 B6 I6 P6 L6 M6 D6
    simp only [Option.getD_some, Option.isSome_some]
    go_wp2_with fail
    generalize hqn : w6.heap.size = qn at *
    generalize hW : w6.alloc (.cells #[.int .i64 (k : Int)] 3) = w7 at *
    clear hW hqn
    obtain ⟨qc, _⟩ := Q7.one
    obtain ⟨v0, v1, v2, v3, v4, v5, v6⟩ := V7.seven
    obtain ⟨p0, p1, p2, p3, pf0, pf1, pf2, pf3⟩ := P7.four
    go_cut [] (fun wx => Bk wx qn #[.int .i64 (k : Int)] 3 ∧ Bk wx sn #[.int .i64 s, .int .i64 sp] 151 ∧ Bk wx w.heap.size #[.pointer (some ⟨m.B, m.z, none⟩)] 74 ∧ Bk wx (w.heap.size + 1) #[.int .i64 (i : Int)] 3 ∧ Bk wx (w.heap.size + 1 + 1) #[.int .i64 ad, .int .i64 dd, .int .i64 (k : Int), .int .i64 dp] 36 ∧ Bk wx (w.heap.size + 1 + 1 + 1) #[.int .i64 0, .int .i64 0, .int .i64 0, .int .i64 0, .int .i64 0, .nilFunc] 190 ∧ Below w.heap.size w wx)
    case first =>
     go_region
     all_goals
      go_wp2_with fail
      go_meet
      exact ⟨((Q7.drew.setO (by omega) _).setO (by omega) _), ((S7.drew.setO (by omega) _).setO (by omega) _), ((B7.drew.setO (by omega) _).setO (by omega) _), ((I7.drew.setO (by omega) _).setO (by omega) _), by have := ((P7.setS (j := 0) (.int .i64 ad)).setS (j := 2) (.int .i64 (k : Int))).drew; simpa using this, ((L7.drew.setO (by omega) _).setO (by omega) _), (D7.drew.setCell (by simp; omega) _).setCell (by simp; omega) _⟩
    case rest =>
     clear Q7 S7 V7 B7 I7 P7 L7 D7 qc v0 v1 v2 v3 v4 v5 v6 p0 p1 p2 p3 pf0 pf1 pf2 pf3
     obtain ⟨Q9, S9, B9, I9, P9, L9, D9⟩ := hcut
     obtain ⟨p0, p1, p2, p3, _⟩ := P9.four
     obtain ⟨⟨l0, l1, l2, l3, l4, l5⟩, ⟨f0, f1, f2, f3, f4, f5⟩⟩ := L9.six
     go_wp2_with fail
     refine bodyPost_ret (v := .tuple #[lvA 1 ⟨ad, dd, (k : Int), dp⟩ (.func (.func 158) #[] #[.pointer (some ⟨sn, 0, none⟩), .pointer (some ⟨w.heap.size, 0, none⟩), .pointer (some ⟨w.heap.size + 1, 0, none⟩), .pointer (some ⟨qn, 0, none⟩)]), .int .i64 0]) (by simp [results, Tryz.results128, go_sem, l0, l1, l2, l3, l4, l5]) rfl ⟨_, _, _, 0, rfl, ?_, ?_⟩
     ·rw [HV.out]
      obtain ⟨e0, e1⟩ := S9.two
      obtain ⟨e2, _⟩ := B9.one
      obtain ⟨e3, _⟩ := I9.one
      obtain ⟨e4, _⟩ := Q9.one
      have zs : ¬ sn = w.heap.size + 1 + 1 + 1 := by omega
      have zq : ¬ qn = w.heap.size + 1 + 1 + 1 := by omega
      exact ⟨rfl, Or.inr ⟨_, _, rfl⟩, fun _ => ⟨rfl, rfl, hi.out, hk.out, _, _, _, _, rfl, by omega, by omega, by omega, by omega, by simp [go_sem, e0], by simp [go_sem, e1], by simp [go_sem, e2], by simp [go_sem, e3], by simp [go_sem, e4]⟩⟩
     ·go_grown
  | none =>
    have HR2 : Hid (r = if x1 then (if (M.ow (i, c)).isSome then stayR 6 else ⟨0, 1, ⟨ad, dd, c, dp⟩, .own i c (s, sp)⟩) else stayR 1) := by show _ = _; rw [HR.out, y]
    clear y HR HK8
    have Q7 := bk_new w6 #[.int .i64 0] 3
    have S7 := S6.alloc (.cells #[.int .i64 0] 3)
    have V7 := V6.alloc (.cells #[.int .i64 0] 3)
    have B7 := B6.alloc (.cells #[.int .i64 0] 3)
    have I7 := I6.alloc (.cells #[.int .i64 0] 3)
    have P7 := P6.alloc (.cells #[.int .i64 0] 3)
    have L7 := L6.alloc (.cells #[.int .i64 0] 3)
    have M7 := M6.alloc (.cells #[.int .i64 0] 3)
    have D7 := Below.alN D6 (.cells #[.int .i64 0] 3)
    clear S6 B6 I6 P6 L6 M6 D6
    simp only [Option.getD_none, Option.isSome_none]
    obtain ⟨v0, v1, v2, v3, v4, v5, v6⟩ := V6.seven
    have zv : g < w6.heap.size := V6.lt
    go_wp2_with fail
    refine (IP.out _).mono ?_
    rintro e w8 ⟨rfl, hb8⟩
    have Q8 := Q7.keep hb8
    have S8 := S7.keep hb8
    have V8 := V7.keep hb8
    have B8 := B7.keep hb8
    have I8 := I7.keep hb8
    have P8 := P7.keep hb8
    have L8 := L7.keep hb8
    have M8 := M7.below hb8
    have D8 := chnN hb8 D7
    clear hb8 Q7 S7 V7 B7 I7 P7 L7 M7 D7 V6 v0 v1 v2 v3 v4 v5 v6 IP zv
    generalize w6.heap.size = qn at *
    obtain ⟨⟨l0, l1, l2, l3, l4, l5⟩, ⟨f0, f1, f2, f3, f4, f5⟩⟩ := L8.six
    cases x1
    ·have HV : Hid (r = stayR 1) := HR2.out
     go_wp2_with fail
     refine bodyPost_ret (v := .tuple #[lvA 0 zeroP .nilFunc, .int .i64 1]) (by simp [results, Tryz.results128, go_sem, l0, l1, l2, l3, l4, l5, zeroP]) rfl ⟨0, zeroP, .nilFunc, 1, rfl, ?_, ?_⟩
     ·rw [HV.out]
      exact ⟨rfl, Or.inl rfl, fun h => by cases h⟩
     ·go_grown
    have HR3 : Hid (r = if (M.ow (i, c)).isSome then stayR 6 else ⟨0, 1, ⟨ad, dd, c, dp⟩, .own i c (s, sp)⟩) := HR2.out
    clear HR2
    have lk := HL.out _ (M8.alloc (.cells #[.int .i64 0, .int .i64 0] 151)).drew
    have lk2 := HL.out _ M8.drew
    obtain ⟨_, _, _, qo, _⟩ := (M8.alloc (.cells #[.int .i64 0, .int .i64 0] 151)).cells
    obtain ⟨_, _, _, qo2, _⟩ := M8.cells
    obtain ⟨b0, _⟩ := B8.one
    obtain ⟨i0, _⟩ := I8.one
    have z1 : w.heap.size < w8.heap.size := B8.lt
    have z2 : w.heap.size + 1 < w8.heap.size := I8.lt
    generalize ((M.ow (i, c)).getD (0, 0)).1 = ea at *
    generalize ((M.ow (i, c)).getD (0, 0)).2 = eb at *
    generalize (M.ow (i, c)).isSome = x2 at *
    clear HL l0 l1 l2 l3 l4 l5 f0 f1 f2 f3 f4 f5
    go_wp2_with fail
    go_cut [15] (fun v15 wx => v15 = .bool x2 ∧ Bk wx qn #[.int .i64 0] 3 ∧ Bk wx sn #[.int .i64 s, .int .i64 sp] 151 ∧ Bk wx g #[.string nm, .int .i64 kd, .int .i64 ad, .int .u8 (pl : Int), .slice Ab nb cb, .slice Ar nr cr, .slice At nt ct] 62 ∧ Bk wx w.heap.size #[.pointer (some ⟨m.B, m.z, none⟩)] 74 ∧ Bk wx (w.heap.size + 1) #[.int .i64 (i : Int)] 3 ∧ Bk wx (w.heap.size + 1 + 1) #[.int .i64 s, .int .i64 dd, .int .i64 sp, .int .i64 dp] 36 ∧ Bk wx (w.heap.size + 1 + 1 + 1) #[.int .i64 0, .int .i64 0, .int .i64 0, .int .i64 0, .int .i64 0, .nilFunc] 190 ∧ Below w.heap.size w wx)
    case first =>
     go_region
     all_goals
      go_wp2_with fail
      go_meet
      exact ⟨rfl, (Q8.alloc _).drew, (S8.alloc _).drew, (V8.alloc _).drew, (B8.alloc _).drew, (I8.alloc _).drew, (P8.alloc _).drew, (L8.alloc _).drew, (Below.alN D8 _).drew⟩
    case rest =>
     clear Q8 S8 V8 B8 I8 P8 L8 M8 D8 lk lk2 qo qo2 b0 i0 z1 z2
     obtain ⟨rfl, Q9, S9, V9, B9, I9, P9, L9, D9⟩ := hcut
     cases x2
     rotate_left
     ·have HV : Hid (r = stayR 6) := HR3.out
      obtain ⟨⟨l0, l1, l2, l3, l4, l5⟩, ⟨f0, f1, f2, f3, f4, f5⟩⟩ := L9.six
      go_wp2_with fail
      refine bodyPost_ret (v := .tuple #[lvA 0 zeroP .nilFunc, .int .i64 6]) (by simp [results, Tryz.results128, go_sem, l0, l1, l2, l3, l4, l5, zeroP]) rfl ⟨0, zeroP, .nilFunc, 6, rfl, ?_, ?_⟩
      ·rw [HV.out]
       exact ⟨rfl, Or.inl rfl, fun h => by cases h⟩
      ·go_grown
     have HV : Hid (r = ⟨0, 1, ⟨ad, dd, c, dp⟩, .own i c (s, sp)⟩) := HR3.out
     obtain ⟨qc, qf⟩ := Q9.one
     have Q7 := Q9.setS (j := 0) (.int .i64 c)
     have S7 := S9.setO (b := qn) (j := 0) (by omega) (.int .i64 c)
     have V7 := V9.setO (b := qn) (j := 0) (by omega) (.int .i64 c)
     have B7 := B9.setO (b := qn) (j := 0) (by omega) (.int .i64 c)
     have I7 := I9.setO (b := qn) (j := 0) (by omega) (.int .i64 c)
     have P7 := P9.setO (b := qn) (j := 0) (by omega) (.int .i64 c)
     have L7 := L9.setO (b := qn) (j := 0) (by omega) (.int .i64 c)
     have D7 := D9.setCell (p := ⟨qn, 0, none⟩) (by simp; omega) (.int .i64 c)
     have hk : Hid (i64ok c) := hc
     clear Q9 S9 V9 B9 I9 P9 L9 D9 HR3
     simp only [List.setIfInBounds_toArray, List.set_cons_zero] at Q7
     go_wp2_with fail
     rename_i wq
     generalize hW : World.setCell _ _ (.int .i64 c) = w7 at *
     clear hW qc qf
     obtain ⟨qc, _⟩ := Q7.one
     obtain ⟨v0, v1, v2, v3, v4, v5, v6⟩ := V7.seven
     obtain ⟨p0, p1, p2, p3, pf0, pf1, pf2, pf3⟩ := P7.four
     go_cut [] (fun wx => Bk wx qn #[.int .i64 c] 3 ∧ Bk wx sn #[.int .i64 s, .int .i64 sp] 151 ∧ Bk wx w.heap.size #[.pointer (some ⟨m.B, m.z, none⟩)] 74 ∧ Bk wx (w.heap.size + 1) #[.int .i64 (i : Int)] 3 ∧ Bk wx (w.heap.size + 1 + 1) #[.int .i64 ad, .int .i64 dd, .int .i64 c, .int .i64 dp] 36 ∧ Bk wx (w.heap.size + 1 + 1 + 1) #[.int .i64 0, .int .i64 0, .int .i64 0, .int .i64 0, .int .i64 0, .nilFunc] 190 ∧ Below w.heap.size w wx)
     case first =>
      go_region
      all_goals
       go_wp2_with fail
       go_meet
       exact ⟨((Q7.drew.setO (by omega) _).setO (by omega) _), ((S7.drew.setO (by omega) _).setO (by omega) _), ((B7.drew.setO (by omega) _).setO (by omega) _), ((I7.drew.setO (by omega) _).setO (by omega) _), by have := ((P7.setS (j := 0) (.int .i64 ad)).setS (j := 2) (.int .i64 c)).drew; simpa using this, ((L7.drew.setO (by omega) _).setO (by omega) _), (D7.drew.setCell (by simp; omega) _).setCell (by simp; omega) _⟩
     case rest =>
      clear Q7 S7 V7 B7 I7 P7 L7 D7 qc v0 v1 v2 v3 v4 v5 v6 p0 p1 p2 p3 pf0 pf1 pf2 pf3
      obtain ⟨Q9, S9, B9, I9, P9, L9, D9⟩ := hcut
      obtain ⟨p0, p1, p2, p3, _⟩ := P9.four
      obtain ⟨⟨l0, l1, l2, l3, l4, l5⟩, ⟨f0, f1, f2, f3, f4, f5⟩⟩ := L9.six
      go_wp2_with fail
      refine bodyPost_ret (v := .tuple #[lvA 1 ⟨ad, dd, c, dp⟩ (.func (.func 158) #[] #[.pointer (some ⟨sn, 0, none⟩), .pointer (some ⟨w.heap.size, 0, none⟩), .pointer (some ⟨w.heap.size + 1, 0, none⟩), .pointer (some ⟨qn, 0, none⟩)]), .int .i64 0]) (by simp [results, Tryz.results128, go_sem, l0, l1, l2, l3, l4, l5]) rfl ⟨_, _, _, 0, rfl, ?_, ?_⟩
      ·rw [HV.out]
       obtain ⟨e0, e1⟩ := S9.two
       obtain ⟨e2, _⟩ := B9.one
       obtain ⟨e3, _⟩ := I9.one
       obtain ⟨e4, _⟩ := Q9.one
       have zs : ¬ sn = w.heap.size + 1 + 1 + 1 := by omega
       have zq : ¬ qn = w.heap.size + 1 + 1 + 1 := by omega
       exact ⟨rfl, Or.inr ⟨_, _, rfl⟩, fun _ => ⟨rfl, rfl, hi.out, hk.out, _, _, _, _, rfl, by omega, by omega, by omega, by omega, by simp [go_sem, e0], by simp [go_sem, e1], by simp [go_sem, e2], by simp [go_sem, e3], by simp [go_sem, e4]⟩⟩
      ·go_grown
theorem spread_any (m : Mp) (ds : List Dv) (ls : List Lk) (n : Nat) (M : Mnd) (i : Nat) (d : Dv) (p : Pk) (c : Int) (w : World) (hM : Hid (MemAt w m ds ls n M)) (hx : Hid (ds[i]? = some d)) (hp : Hid p.ok) (hi : Hid (i64ok (i : Int))) :
  Calls Tryz.prog 130 #[.pointer (some ⟨m.B, m.z, none⟩), .int .i64 (i : Int), pkV p, .int .i64 c] w (SPost m w (spreadP d M i p c)) := by
 have M2 := ((hM.out.alloc (.cells #[.pointer (some ⟨m.B, m.z, none⟩)] 74)).alloc (pkC p)).alloc lvC
 have D2 := Below.alN (Below.alN (Below.alN (Below.refl w.heap.size w) (.cells #[.pointer (some ⟨m.B, m.z, none⟩)] 74)) (pkC p)) lvC
 have B2 := ((bk_new w #[.pointer (some ⟨m.B, m.z, none⟩)] 74).alloc (pkC p)).alloc lvC
 have P2 := (bk_new' (w.alloc (.cells #[.pointer (some ⟨m.B, m.z, none⟩)] 74)) #[.int .i64 p.s, .int .i64 p.d, .int .i64 p.sp, .int .i64 p.dp] 36 (w.heap.size + 1) (by simp)).alloc lvC
 have L2 := bk_new' ((w.alloc (.cells #[.pointer (some ⟨m.B, m.z, none⟩)] 74)).alloc (pkC p)) #[.int .i64 0, .int .i64 0, .int .i64 0, .int .i64 0, .int .i64 0, .nilFunc] 190 (w.heap.size + 1 + 1) (by simp)
 obtain ⟨q0, _, _, _, _⟩ := M2.cells
 obtain ⟨b, o, vb, vr, vt, eA, HD, k1, k2⟩ := M2.dev hx.out
 rw [eA] at q0
 obtain ⟨c0, c1, c2, c3, c4, c5, c6, s1, s2, s3⟩ := HD
 have HBK : Hid (∀ W, Below ((((w.alloc (.cells #[.pointer (some ⟨m.B, m.z, none⟩)] 74)).alloc (pkC p)).alloc lvC)).heap.size (((w.alloc (.cells #[.pointer (some ⟨m.B, m.z, none⟩)] 74)).alloc (pkC p)).alloc lvC) W -> SlAt W.heap.size W 1 IsI vb d.backs) := fun W h => SlAt.mono (SlAt.below s1 h (fun _ _ _ h => h)) h.size (fun _ _ _ h => h)
 obtain ⟨Ab, cb, rfl, _, _, _, _⟩ := s1
 obtain ⟨Ar, cr, rfl, _, _, _, _⟩ := s2
 obtain ⟨At, ct, rfl, _, _, _, _⟩ := s3
 have PS : Hid (∀ (q : Int) (p : Pk) W, Calls Tryz.prog 153 #[.int .i64 q, pkV p] W fun e w' => e = .returned (.tuple #[lvA q p (.func (.func 173) #[] #[]), .int .i64 0]) ∧ Below W.heap.size W w') := fun q p W => pass_any q p W
 obtain ⟨s, dd, sp, dp⟩ := p
 generalize hr : spreadP d M i ⟨s, dd, sp, dp⟩ c = r
 have HR : Hid (r = if dd == d.addr then
  (match M.bk (i, ⟨s, dd, sp, dp⟩) with
  | some b => ⟨0, 1, ⟨s, b, sp, dp⟩, .back i ⟨s, dd, sp, dp⟩ b⟩
  | none => if decide (0 <= c) && decide (c < (d.backs.length : Int)) then ⟨0, 1, ⟨s, d.backs.getD c.toNat 0, sp, dp⟩, .back i ⟨s, dd, sp, dp⟩ (d.backs.getD c.toNat 0)⟩ else stayR 1)
  else passR 1 ⟨s, dd, sp, dp⟩) := hr.symm
 have HL : Hid (∀ W, MemAt W m ds ls n M -> (Instr.lookup 80 (.map (some m.k)) (.agg #[.int .i64 (i : Int), .int .i64 s, .int .i64 dd, .int .i64 sp, .int .i64 dp]) true).run Tryz.prog W = .ok (.tuple #[.int .i64 ((M.bk (i, ⟨s, dd, sp, dp⟩)).getD 0), .bool (M.bk (i, ⟨s, dd, sp, dp⟩)).isSome]) W) := fun W h => h.lookB (p := ⟨s, dd, sp, dp⟩) hi.out hp.out
 have HBV : Hid (∀ k : Nat, k < d.backs.length -> ∃ x, d.backs[k]? = some x ∧ d.backs.getD k 0 = x) := fun k h => ⟨d.backs[k], List.getElem?_eq_getElem h, by simp [List.getD_eq_getElem?_getD, h]⟩
 clear hr hx hM eA
 simp only at *
 generalize (rulesOf d).length = nr at *
 generalize (routesOf d).length = nt at *
 generalize hnb : d.backs.length = nb at *
 have HNB : Hid (d.backs.length = nb) := hnb
 clear hnb
 generalize d.name = nm at *
 generalize d.kind = kd at *
 generalize d.addr = ad at *
 generalize d.pool = pl at *
 have D3 := Below.alN D2 (dvC nm kd ad pl (.slice Ab nb cb) (.slice Ar nr cr) (.slice At nt ct))
 have E3 := Below.alN (Below.refl ((((w.alloc (.cells #[.pointer (some ⟨m.B, m.z, none⟩)] 74)).alloc (pkC ⟨s, dd, sp, dp⟩)).alloc lvC)).heap.size (((w.alloc (.cells #[.pointer (some ⟨m.B, m.z, none⟩)] 74)).alloc (pkC ⟨s, dd, sp, dp⟩)).alloc lvC)) (dvC nm kd ad pl (.slice Ab nb cb) (.slice Ar nr cr) (.slice At nt ct))
 have B3 := B2.alloc (dvC nm kd ad pl (.slice Ab nb cb) (.slice Ar nr cr) (.slice At nt ct))
 have P3 := P2.alloc (dvC nm kd ad pl (.slice Ab nb cb) (.slice Ar nr cr) (.slice At nt ct))
 have L3 := L2.alloc (dvC nm kd ad pl (.slice Ab nb cb) (.slice Ar nr cr) (.slice At nt ct))
 have M3 := M2.alloc (dvC nm kd ad pl (.slice Ab nb cb) (.slice Ar nr cr) (.slice At nt ct))
 have V3 := bk_new' (((w.alloc (.cells #[.pointer (some ⟨m.B, m.z, none⟩)] 74)).alloc (pkC ⟨s, dd, sp, dp⟩)).alloc lvC) #[.string nm, .int .i64 kd, .int .i64 ad, .int .u8 (pl : Int), .slice Ab nb cb, .slice Ar nr cr, .slice At nt ct] 62 (w.heap.size + 1 + 1 + 1) (by simp)
 cases ha : (dd == ad)
 ·have HV : Hid (r = passR 1 ⟨s, dd, sp, dp⟩) := by show _ = _; rw [HR.out, ha]; rfl
  clear HR HL HBV HBK
  go_enter Tryz.func130, Tryz.ntmps130
  go_wp2_with fail
  refine (PS.out _ ⟨s, dd, sp, dp⟩ _).mono ?_
  rintro e w9 ⟨rfl, hb9⟩
  have D9 := chnN hb9 D3
  have L9 := L3.keep hb9
  obtain ⟨⟨l0, l1, l2, l3, l4, l5⟩, ⟨f0, f1, f2, f3, f4, f5⟩⟩ := L9.six
  go_wp2_with fail
  refine bodyPost_ret (v := .tuple #[lvA 1 ⟨s, dd, sp, dp⟩ (.func (.func 173) #[] #[]), .int .i64 0]) (by simp [results, Tryz.results130, go_sem, l0, l1, l2, l3, l4, l5]) rfl ⟨_, _, _, 0, rfl, ?_, ?_⟩
  ·rw [HV.out]
   exact ⟨rfl, Or.inr ⟨_, _, rfl⟩, fun _ => ⟨rfl, rfl, rfl⟩⟩
  ·go_grown
 have HR1 : Hid (r = (match M.bk (i, ⟨s, dd, sp, dp⟩) with
  | some b => ⟨0, 1, ⟨s, b, sp, dp⟩, .back i ⟨s, dd, sp, dp⟩ b⟩
  | none => if decide (0 <= c) && decide (c < (nb : Int)) then ⟨0, 1, ⟨s, d.backs.getD c.toNat 0, sp, dp⟩, .back i ⟨s, dd, sp, dp⟩ (d.backs.getD c.toNat 0)⟩ else stayR 1)) := by show _ = _; rw [HR.out, ha]; rfl
 clear HR
 have D4 := Below.alN D3 (.cells #[.int .i64 (i : Int), .int .i64 s, .int .i64 dd, .int .i64 sp, .int .i64 dp] 146)
 have E4 := Below.alN E3 (.cells #[.int .i64 (i : Int), .int .i64 s, .int .i64 dd, .int .i64 sp, .int .i64 dp] 146)
 have B4 := B3.alloc (.cells #[.int .i64 (i : Int), .int .i64 s, .int .i64 dd, .int .i64 sp, .int .i64 dp] 146)
 have P4 := P3.alloc (.cells #[.int .i64 (i : Int), .int .i64 s, .int .i64 dd, .int .i64 sp, .int .i64 dp] 146)
 have L4 := L3.alloc (.cells #[.int .i64 (i : Int), .int .i64 s, .int .i64 dd, .int .i64 sp, .int .i64 dp] 146)
 have M4 := M3.alloc (.cells #[.int .i64 (i : Int), .int .i64 s, .int .i64 dd, .int .i64 sp, .int .i64 dp] 146)
 have V4 := V3.alloc (.cells #[.int .i64 (i : Int), .int .i64 s, .int .i64 dd, .int .i64 sp, .int .i64 dp] 146)
 have A4 := bk_new' ((((w.alloc (.cells #[.pointer (some ⟨m.B, m.z, none⟩)] 74)).alloc (pkC ⟨s, dd, sp, dp⟩)).alloc lvC).alloc (dvC nm kd ad pl (.slice Ab nb cb) (.slice Ar nr cr) (.slice At nt ct))) #[.int .i64 (i : Int), .int .i64 s, .int .i64 dd, .int .i64 sp, .int .i64 dp] 146 (w.heap.size + 1 + 1 + 1 + 1) (by simp)
 have lk := HL.out _ (M4.alloc (.cells #[.int .i64 0] 3)).drew
 have lk2 := HL.out _ M4.drew
 obtain ⟨_, _, _, _, qo⟩ := (M4.alloc (.cells #[.int .i64 0] 3)).cells
 obtain ⟨_, _, _, _, qo2⟩ := M4.cells
 clear HL M2 M3 B2 P2 L2 B3 P3 L3 V3 D2 D3 E3
 obtain ⟨x, x0, hxv, hx0⟩ : ∃ x x0, (M.bk (i, ⟨s, dd, sp, dp⟩)).getD 0 = x ∧ (M.bk (i, ⟨s, dd, sp, dp⟩)).isSome = x0 := ⟨_, _, rfl, rfl⟩
 have HR2 : Hid (r = if x0 then ⟨0, 1, ⟨s, x, sp, dp⟩, .back i ⟨s, dd, sp, dp⟩ x⟩ else if decide (0 <= c) && decide (c < (nb : Int)) then ⟨0, 1, ⟨s, d.backs.getD c.toNat 0, sp, dp⟩, .back i ⟨s, dd, sp, dp⟩ (d.backs.getD c.toNat 0)⟩ else stayR 1) := by
  show _ = _
  rw [HR1.out, <- hxv, <- hx0]
  cases M.bk (i, ⟨s, dd, sp, dp⟩) <;> rfl
 rw [hxv, hx0] at lk lk2
 clear HR1 hxv hx0
 go_enter Tryz.func130, Tryz.ntmps130
 go_wp2_with fail
 go_cut [12, 13] (fun v12 v13 wx => ∃ q, v12 = .pointer (some ⟨q, 0, none⟩) ∧ v13 = .bool x0 ∧ Bk wx q #[.int .i64 x] 3 ∧ w.heap.size + 1 + 1 + 1 + 1 < q ∧ Bk wx (w.heap.size + 1 + 1 + 1 + 1) #[.int .i64 (i : Int), .int .i64 s, .int .i64 dd, .int .i64 sp, .int .i64 dp] 146 ∧ Bk wx (w.heap.size + 1 + 1 + 1) #[.string nm, .int .i64 kd, .int .i64 ad, .int .u8 (pl : Int), .slice Ab nb cb, .slice Ar nr cr, .slice At nt ct] 62 ∧ Bk wx w.heap.size #[.pointer (some ⟨m.B, m.z, none⟩)] 74 ∧ Bk wx (w.heap.size + 1) #[.int .i64 s, .int .i64 dd, .int .i64 sp, .int .i64 dp] 36 ∧ Bk wx (w.heap.size + 1 + 1) #[.int .i64 0, .int .i64 0, .int .i64 0, .int .i64 0, .int .i64 0, .nilFunc] 190 ∧ Below w.heap.size w wx ∧ Below ((((w.alloc (.cells #[.pointer (some ⟨m.B, m.z, none⟩)] 74)).alloc (pkC ⟨s, dd, sp, dp⟩)).alloc lvC)).heap.size (((w.alloc (.cells #[.pointer (some ⟨m.B, m.z, none⟩)] 74)).alloc (pkC ⟨s, dd, sp, dp⟩)).alloc lvC) wx)
 case first =>
  go_region
  all_goals
   go_wp2_with fail
   go_meet
   exact ⟨_, rfl, rfl, (bk_new' _ _ _ _ (by simp)).drew, by simp, (A4.alloc _).drew, (V4.alloc _).drew, (B4.alloc _).drew, (P4.alloc _).drew, (L4.alloc _).drew, (Below.alN D4 _).drew, (Below.alN E4 _).drew⟩
 case rest =>
  clear lk lk2 qo qo2 M4 A4 V4 B4 P4 L4 D4 E4
  obtain ⟨q, rfl, rfl, Q5, zq, A5, V5, B5, P5, L5, D5, E5⟩ := hcut
  have z1 : w.heap.size + 1 + 1 + 1 + 1 < wc.heap.size := A5.lt
  cases x0
  rotate_left
  ·have HV : Hid (r = ⟨0, 1, ⟨s, x, sp, dp⟩, .back i ⟨s, dd, sp, dp⟩ x⟩) := HR2.out
   clear HR2 HBV HBK E5
   obtain ⟨qc, qf⟩ := Q5.one
   obtain ⟨p0, p1, p2, p3, pf0, pf1, pf2, pf3⟩ := P5.four
   go_upto_region 10 with fail
   go_cut [] (fun wx => Bk wx q #[.int .i64 x] 3 ∧ Bk wx (w.heap.size + 1 + 1 + 1 + 1) #[.int .i64 (i : Int), .int .i64 s, .int .i64 dd, .int .i64 sp, .int .i64 dp] 146 ∧ Bk wx w.heap.size #[.pointer (some ⟨m.B, m.z, none⟩)] 74 ∧ Bk wx (w.heap.size + 1) #[.int .i64 s, .int .i64 x, .int .i64 sp, .int .i64 dp] 36 ∧ Bk wx (w.heap.size + 1 + 1) #[.int .i64 0, .int .i64 0, .int .i64 0, .int .i64 0, .int .i64 0, .nilFunc] 190 ∧ Below w.heap.size w wx)
   case first =>
    go_wp2_with fail
    go_meet
    exact ⟨Q5.setO (by omega) _, A5.setO (by omega) _, B5.setO (by omega) _, by have := P5.setS (j := 1) (.int .i64 x); simpa using this, L5.setO (by omega) _, D5.setCell (by simp) _⟩
   case rest =>
    clear Q5 A5 B5 P5 L5 D5 qc qf p0 p1 p2 p3 pf0 pf1 pf2 pf3
    obtain ⟨Q9, A9, B9, P9, L9, D9⟩ := hcut
    obtain ⟨p0, p1, p2, p3, _⟩ := P9.four
    obtain ⟨⟨l0, l1, l2, l3, l4, l5⟩, ⟨f0, f1, f2, f3, f4, f5⟩⟩ := L9.six
    go_wp2_with fail
    refine bodyPost_ret (v := .tuple #[lvA 1 ⟨s, x, sp, dp⟩ (.func (.func 159) #[] #[.pointer (some ⟨q, 0, none⟩), .pointer (some ⟨w.heap.size, 0, none⟩), .pointer (some ⟨w.heap.size + 1 + 1 + 1 + 1, 0, none⟩)]), .int .i64 0]) (by simp [results, Tryz.results130, go_sem, l0, l1, l2, l3, l4, l5]) rfl ⟨_, _, _, 0, rfl, ?_, ?_⟩
    ·rw [HV.out]
     obtain ⟨e0, _⟩ := Q9.one
     obtain ⟨e1, _⟩ := B9.one
     obtain ⟨e2, e3, e4, e5, e6⟩ := A9.five
     have zs : ¬ q = w.heap.size + 1 + 1 := by omega
     exact ⟨rfl, Or.inr ⟨_, _, rfl⟩, fun _ => ⟨rfl, rfl, hi.out, hp.out, _, _, _, rfl, by omega, by omega, by omega, by simp [go_sem, e0], by simp [go_sem, e1], by simp [go_sem, e2], by simp [go_sem, e3], by simp [go_sem, e4], by simp [go_sem, e5], by simp [go_sem, e6]⟩⟩
    ·go_grown
  ·by_cases hin : 0 <= c ∧ c < (nb : Int)
   rotate_left
   ·have HV : Hid (r = stayR 1) := by
     show _ = _
     rw [HR2.out]
     rw [if_neg (by simp), if_neg (by simpa using hin)]
    clear HR2
    obtain ⟨⟨l0, l1, l2, l3, l4, l5⟩, ⟨f0, f1, f2, f3, f4, f5⟩⟩ := L5.six
    obtain ⟨v0, v1, v2, v3, v4, v5, v6⟩ := V5.seven
    by_cases h0 : 0 <= c
    ·have u0 : decide (c < 0) = false := by simp; omega
     have u1 : decide ((nb : Int) <= c) = true := by simp; omega
     go_wp2_with fail
     refine bodyPost_ret (v := .tuple #[lvA 0 zeroP .nilFunc, .int .i64 1]) (by simp [results, Tryz.results130, go_sem, l0, l1, l2, l3, l4, l5, zeroP]) rfl ⟨0, zeroP, .nilFunc, 1, rfl, ?_, ?_⟩
     ·rw [HV.out]
      exact ⟨rfl, Or.inl rfl, fun h => by cases h⟩
     ·go_grown
    ·have u0 : decide (c < 0) = true := by simp; omega
     go_wp2_with fail
     refine bodyPost_ret (v := .tuple #[lvA 0 zeroP .nilFunc, .int .i64 1]) (by simp [results, Tryz.results130, go_sem, l0, l1, l2, l3, l4, l5, zeroP]) rfl ⟨0, zeroP, .nilFunc, 1, rfl, ?_, ?_⟩
     ·rw [HV.out]
      exact ⟨rfl, Or.inl rfl, fun h => by cases h⟩
     ·go_grown
   obtain ⟨k, rfl⟩ : ∃ k : Nat, c = (k : Int) := ⟨c.toNat, by omega⟩
   have hkl : k < nb := by omega
   obtain ⟨y, hy, hyd⟩ := HBV.out k hkl
   have HV : Hid (r = ⟨0, 1, ⟨s, y, sp, dp⟩, .back i ⟨s, dd, sp, dp⟩ y⟩) := by
    show _ = _
    rw [HR2.out, if_neg (by simp), if_pos (by simpa using hin), Int.toNat_natCast, hyd]
   have SB5 := HBK.out _ E5
   obtain ⟨bb, ob, eAb, _, hbc⟩ := Ints.at SB5 hy
   have bc := hbc k y hy
   subst eAb
   have k3 : (0 : Int) <= (k : Int) := by omega
   have k4 : (k : Int) < (nb : Int) := by omega
   have u0 : decide ((k : Int) < 0) = false := by simp
   have u1 : decide ((nb : Int) <= (k : Int)) = false := by simp; omega
   obtain ⟨v0, v1, v2, v3, v4, v5, v6⟩ := V5.seven
   obtain ⟨qc0, qf⟩ := Q5.one
   clear HR2 HBV HBK E5 hy hyd SB5 hbc hin
   go_upto_region 10 with fail
   have Q6 := Q5.setS (j := 0) (.int .i64 y)
   have A6 := A5.setO (b := q) (j := 0) (by omega) (.int .i64 y)
   have B6 := B5.setO (b := q) (j := 0) (by omega) (.int .i64 y)
   have P6 := P5.setO (b := q) (j := 0) (by omega) (.int .i64 y)
   have L6 := L5.setO (b := q) (j := 0) (by omega) (.int .i64 y)
   have D6 := D5.setCell (p := ⟨q, 0, none⟩) (by simp; omega) (.int .i64 y)
   simp only [List.setIfInBounds_toArray, List.set_cons_zero] at Q6
   clear Q5 A5 B5 P5 L5 D5 V5 qc0 qf bc v0 v1 v2 v3 v4 v5 v6
   generalize hW : World.setCell _ _ (.int .i64 y) = w6 at *
   clear hW z1
   obtain ⟨qc, qf⟩ := Q6.one
   obtain ⟨p0, p1, p2, p3, pf0, pf1, pf2, pf3⟩ := P6.four
   go_cut [] (fun wx => Bk wx q #[.int .i64 y] 3 ∧ Bk wx (w.heap.size + 1 + 1 + 1 + 1) #[.int .i64 (i : Int), .int .i64 s, .int .i64 dd, .int .i64 sp, .int .i64 dp] 146 ∧ Bk wx w.heap.size #[.pointer (some ⟨m.B, m.z, none⟩)] 74 ∧ Bk wx (w.heap.size + 1) #[.int .i64 s, .int .i64 y, .int .i64 sp, .int .i64 dp] 36 ∧ Bk wx (w.heap.size + 1 + 1) #[.int .i64 0, .int .i64 0, .int .i64 0, .int .i64 0, .int .i64 0, .nilFunc] 190 ∧ Below w.heap.size w wx)
   case first =>
    go_wp2_with fail
    go_meet
    exact ⟨Q6.setO (by omega) _, A6.setO (by omega) _, B6.setO (by omega) _, by have := P6.setS (j := 1) (.int .i64 y); simpa using this, L6.setO (by omega) _, D6.setCell (by simp) _⟩
   case rest =>
    clear Q6 A6 B6 P6 L6 D6 qc qf p0 p1 p2 p3 pf0 pf1 pf2 pf3
    obtain ⟨Q9, A9, B9, P9, L9, D9⟩ := hcut
    obtain ⟨p0, p1, p2, p3, _⟩ := P9.four
    obtain ⟨⟨l0, l1, l2, l3, l4, l5⟩, ⟨f0, f1, f2, f3, f4, f5⟩⟩ := L9.six
    go_wp2_with fail
    refine bodyPost_ret (v := .tuple #[lvA 1 ⟨s, y, sp, dp⟩ (.func (.func 159) #[] #[.pointer (some ⟨q, 0, none⟩), .pointer (some ⟨w.heap.size, 0, none⟩), .pointer (some ⟨w.heap.size + 1 + 1 + 1 + 1, 0, none⟩)]), .int .i64 0]) (by simp [results, Tryz.results130, go_sem, l0, l1, l2, l3, l4, l5]) rfl ⟨_, _, _, 0, rfl, ?_, ?_⟩
    ·rw [HV.out]
     obtain ⟨e0, _⟩ := Q9.one
     obtain ⟨e1, _⟩ := B9.one
     obtain ⟨e2, e3, e4, e5, e6⟩ := A9.five
     have zs : ¬ q = w.heap.size + 1 + 1 := by omega
     exact ⟨rfl, Or.inr ⟨_, _, rfl⟩, fun _ => ⟨rfl, rfl, hi.out, hp.out, _, _, _, rfl, by omega, by omega, by omega, by simp [go_sem, e0], by simp [go_sem, e1], by simp [go_sem, e2], by simp [go_sem, e3], by simp [go_sem, e4], by simp [go_sem, e5], by simp [go_sem, e6]⟩⟩
    ·go_grown
end Go.Proofs.YtlmmeppifkigeaaGreat
