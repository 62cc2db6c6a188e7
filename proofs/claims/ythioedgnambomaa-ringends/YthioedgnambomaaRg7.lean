/-
  RingEnds: it returns true.
-/
import Derived.Test.YthioedgnambomaaRg6
import Derived.Deep.RegionHeld3
import Derived.Deep.DeepCutAuto
import Derived.BigQuiet
namespace Go.Proofs.Ythioedgnambomaa
open Go.RowKit Go.Maps

theorem nodup_take {l : List Plc} (hn : l.Nodup) {k : Nat} {x : Plc} (hx : l[k]? = some x) : x ∉ l.take k := by
  intro hm
  obtain ⟨j, hj, e⟩ := List.mem_take_iff_getElem.1 hm
  obtain ⟨hk, e2⟩ := List.getElem?_eq_some_iff.1 hx
  have := (List.pairwise_iff_getElem.1 hn) j k (by omega) hk (by omega)
  exact this (by rw [e2, e])
/-- What the law holds: its own copies of what came in. -/
structure E3 (w : World) (u0 u1 : Value) (t : Plc) (p : Pk) (W : World) : Prop where
  d : Below w.heap.size w W
  n : Bk W w.heap.size #[u0, u1] 25
  t : Bk W (w.heap.size + 1) #[.int .i64 t.1, .int .i64 t.2] 27
  p : Bk W (w.heap.size + 1 + 1) #[.int .i64 p.s, .int .i64 p.d, .int .i64 p.sp, .int .i64 p.dp] 29
theorem E3.keep {w : World} {u0 u1 : Value} {t : Plc} {p : Pk} {W W' : World} (hb : Below W.heap.size W W') (h : E3 w u0 u1 t p W) : E3 w u0 u1 t p W' := ⟨chnN hb h.d, h.n.keep hb, h.t.keep hb, h.p.keep hb⟩
theorem e3_new (w : World) (u0 u1 : Value) (t : Plc) (p : Pk) : E3 w u0 u1 t p (((w.alloc (.cells #[u0, u1] 25)).alloc (.cells #[.int .i64 t.1, .int .i64 t.2] 27)).alloc (.cells #[.int .i64 p.s, .int .i64 p.d, .int .i64 p.sp, .int .i64 p.dp] 29)) :=
  ⟨Below.alN (Below.alN (Below.alN (Below.refl _ _) _) _) _, ((bk_new w _ _).alloc _).alloc _, (bk_new' (w.alloc _) _ _ _ (by simp)).alloc _, bk_new' ((w.alloc _).alloc _) _ _ _ (by simp)⟩
/-- In the law's loop. -/
structure REs (w : World) (m : Mp) (ds : List Dv) (ls : List Lk) (p : Pk) (A : Option Addr) (c : Nat) (l : List Plc) (n : Nat) (W : World) : Prop where
  mem : MemAt W m ds ls n noM
  below : Below w.heap.size w W
  lo : w.heap.size ≤ m.f ∧ w.heap.size ≤ m.o ∧ w.heap.size ≤ m.k
  sl : SlAt W.heap.size W 2 IsPlc (.slice A l.length c) l
  bp : Bk W (w.heap.size + 1 + 1) #[.int .i64 p.s, .int .i64 p.d, .int .i64 p.sp, .int .i64 p.dp] 29
section
variable {w W W' : World} {m : Mp} {ds : List Dv} {ls : List Lk} {p : Pk} {A : Option Addr} {c n n' : Nat} {l : List Plc}
theorem REs.keep (hb : Below W.heap.size W W') (h : REs w m ds ls p A c l n W) : REs w m ds ls p A c l n W' := ⟨h.mem.below hb, chnN hb h.below, h.lo, SlAt.mono (SlAt.below h.sl hb (fun _ _ _ h => h)) hb.size (fun _ _ _ h => h), h.bp.keep hb⟩
theorem REs.handle (h : REs w m ds ls p A c l n W) (hM : MemAt W' m ds ls n' noM) (hk : HK m W W') : REs w m ds ls p A c l n' W' :=
  have hc := h.mem.ck hk
  ⟨hM, below_hkR h.below hk h.lo.1 h.lo.2.1 h.lo.2.2, h.lo, SlAt.mono (SlAt.ck h.sl hc (fun _ _ _ h => h)) hc.size (fun _ _ _ h => h), h.bp.ck hc⟩
end
set_option maxHeartbeats 8000000 in
set_option maxRecDepth 100000 in
theorem ends_try (A B : Option Addr) (cap cap' : Nat) (ds : List Dv) (ls : List Lk) (t : Plc) (p : Pk) (w : World) (hD : Hid (Devs w.heap.size w (.slice A ds.length cap) ds)) (hL : Hid (Links w.heap.size w (.slice B ls.length cap') ls)) :
    Calls Try.prog 3 #[.agg #[.slice A ds.length cap, .slice B ls.length cap'], plA t.1 t.2, pkV p] w fun e w' => e = .returned (.bool true) ∧ Below w.heap.size w w' := by
  have AR : Hid (∀ ok W, Calls Try.prog 4 #[.bool ok] W fun e w' => e = .returned (.agg #[.bool ok, .int .u16 65535, .int .u16 65535, .int .u8 255, .int .u8 255]) ∧ Below W.heap.size W w') := fun ok W => allR_any ok W
  have PLC : Hid (∀ x y W, Calls Try.prog 6 #[.int .i64 x, .int .i64 y] W fun e w' => e = .returned (.agg #[.int .i64 x, .int .i64 y]) ∧ Below W.heap.size W w') := fun x y W => placeK_any x y W
  have XW : Hid (∀ A B W, Devs W.heap.size W (.slice A 1 1) [exD] → Links W.heap.size W (.slice B 1 1) [exL] → Calls Try.prog 5 #[.agg #[.slice A 1 1, .slice B 1 1], .agg #[.int .i64 0, .int .i64 2], .agg #[.int .i64 0, .int .i64 0, .int .i64 0, .int .i64 0]] W fun e w' => ∃ A c, e = .returned (.tuple #[.slice A 2 c, .bool true, .int .i64 0]) ∧ Hid (SlAt w'.heap.size w' 2 IsPlc (.slice A 2 c) [(0, 2), (0, 0)]) ∧ Below W.heap.size W w') := fun A B W h1 h2 => exWalk_any A B W h1 h2
  have EQ : Hid (∀ A1 A2 c1 W, Hid (SlAt W.heap.size W 2 IsPlc (.slice A1 2 c1) [(0, 2), (0, 0)]) → SlAt W.heap.size W 2 IsPlc (.slice A2 2 2) [(0, 2), (0, 0)] → Calls Try.prog 7 #[.slice A1 2 c1, .slice A2 2 2] W fun e w' => e = .returned (.bool true) ∧ Below W.heap.size W w') := fun A1 A2 c1 W h1 h2 => equal_pls A1 A2 c1 2 [(0, 2), (0, 0)] _ W h1 h2
  have RW : Hid (∀ W, Below w.heap.size w W → Calls Try.prog 5 #[.agg #[.slice A ds.length cap, .slice B ls.length cap'], plA t.1 t.2, pkV p] W (RWOut W ds ls t p)) := fun W h => ringWalk_any A B cap cap' ds ls t p W ((hD.out.below h).mono h.size) ((hL.out.below h).mono h.size)
  have NW : Hid (∀ W, Below w.heap.size w W → Calls Try.prog 8 #[.agg #[.slice A ds.length cap, .slice B ls.length cap']] W (NewOut W ds ls)) := fun W h => new_any A B cap cap' ds ls W ((hD.out.below h).mono h.size) ((hL.out.below h).mono h.size)
  have E0 := e3_new w (.slice A ds.length cap) (.slice B ls.length cap') t p
  have KE : ∀ {W W' : World}, Below W.heap.size W W' → E3 w (.slice A ds.length cap) (.slice B ls.length cap') t p W → E3 w (.slice A ds.length cap) (.slice B ls.length cap') t p W' := fun hb h => h.keep hb
  have HE : Hid (rwErr ds ls t p = 0 → netV ds ls = 0 ∧ PlainD ds ∧ Ended ds (nxF ds ls p) t (wayP ds ls p t).1 (wayP ds ls p t).2) := fun h => by
    obtain ⟨h1, h2, _⟩ := rwErr_zero h
    obtain ⟨h3, h4⟩ := ringV_zero h1
    exact ⟨h3, h4, way_ended h3 h2⟩
  have NES := fun w => pl_ne_same t.1 t.2 w
  clear hD hL
  obtain ⟨s, d, sp, dp⟩ := p
  obtain ⟨ti0, tq0⟩ := t
  dsimp only at *
  go_enter Try.func3, Try.ntmps3
  go_wp2_with fail
  with_reducible refine (AR.out _ _).mono ?_
  rintro e w1 ⟨rfl, hb1⟩
  have E1 := KE hb1 E0
  clear hb1 E0 AR
  have Ex := KE (Below.alN (Below.alN (Below.alN (Below.alN (Below.alN (Below.refl w1.heap.size w1) (.cells #[.bool true, .int .u16 65535, .int .u16 65535, .int .u8 255, .int .u8 255] 34)) (.cells #[.int .i64 0, .int .i64 0, .int .i64 1] 38)) (.cells #[.string ⟨#[114]⟩, .int .i64 2, .int .i64 0, .int .u8 0, .slice none 0 0, .slice (some ⟨w1.heap.size, 0, none⟩) 1 1, .slice (some ⟨w1.heap.size + 1, 0, none⟩) 1 1] 42)) (.cells #[.int .i64 0, .int .i64 0, .int .i64 0, .int .i64 1] 44)) (.cells #[.slice (some ⟨w1.heap.size + 1 + 1, 0, none⟩) 1 1, .slice (some ⟨w1.heap.size + 1 + 1 + 1, 0, none⟩) 1 1] 25)) E1
  obtain ⟨hDx, hLx, Kx⟩ := ex_net w1
  have KD : Hid (∀ W, Below (exW w1).heap.size (exW w1) W → Devs W.heap.size W (.slice (some ⟨w1.heap.size + 1 + 1, 0, none⟩) 1 1) [exD] ∧ Links W.heap.size W (.slice (some ⟨w1.heap.size + 1 + 1 + 1, 0, none⟩) 1 1) [exL]) := fun W h => ⟨(hDx.below h).mono h.size, (hLx.below h).mono h.size⟩
  obtain ⟨k0, k1⟩ := Kx.two
  clear E1 hDx hLx
  go_wp2_with fail
  go_cut [8, 9, 10] (fun v8 v9 v10 wx => ∃ Ax cx, v8 = .slice Ax 2 cx ∧ v9 = .bool true ∧ v10 = .int .i64 0 ∧ Hid (SlAt wx.heap.size wx 2 IsPlc (.slice Ax 2 cx) [(0, 2), (0, 0)]) ∧ E3 w (.slice A ds.length cap) (.slice B ls.length cap') (ti0, tq0) ⟨s, d, sp, dp⟩ wx)
  case first =>
    have KB := (Below.refl (exW w1).heap.size (exW w1)).drew
    have Exd : E3 w (.slice A ds.length cap) (.slice B ls.length cap') (ti0, tq0) ⟨s, d, sp, dp⟩ (exW w1).drew := KE (Below.refl _ _).drew Ex
    go_region_held3 (fun w' => w'.cell? ⟨w1.heap.size + 1 + 1 + 1 + 1, 0, none⟩ = some (.slice (some ⟨w1.heap.size + 1 + 1, 0, none⟩) 1 1) ∧ w'.cell? ⟨w1.heap.size + 1 + 1 + 1 + 1, 1, none⟩ = some (.slice (some ⟨w1.heap.size + 1 + 1 + 1, 0, none⟩) 1 1)) (go_keep) (first | (go_at_call 6; (with_reducible refine (PLC.out _ _ _).mono ?_); rintro e wp ⟨rfl, hbp⟩; have KBp := chnN hbp KB; have Ep := KE hbp Exd; have Kp := (Kx.drew.keep hbp); have kk0 := Kp.at 0; have kk1 := Kp.at 1) | (go_at_call 5; (with_reducible refine (XW.out _ _ _ (KD.out _ KBp).1 (KD.out _ KBp).2).mono ?_); rintro e wq ⟨Ax, cx, rfl, Sx, hbq⟩; have Eq := KE hbq Ep; have Kq := Kp.keep hbq; have kq0 := Kq.at 0; have kq1 := Kq.at 1))
    all_goals
      go_wp2_with fail
      go_meet
      exact ⟨_, _, rfl, rfl, rfl, Sx, Eq⟩
  case rest =>
    clear Ex Kx KD k0 k1 XW
    obtain ⟨Ax, cx, rfl, rfl, rfl, S0, E1⟩ := hcut
    go_wp2_with fail
    with_reducible refine (PLC.out _ _ _).mono ?_
    rintro e w2 ⟨rfl, hb2⟩
    have E2 := KE hb2 E1
    have S2 := SlAt.mono (SlAt.below S0.out hb2 (fun _ _ _ h => h)) hb2.size (fun _ _ _ h => h)
    clear hb2 E1 S0
    go_wp2_with fail
    with_reducible refine (PLC.out _ _ _).mono ?_
    rintro e w3 ⟨rfl, hb3⟩
    have E4 := KE (Below.alN (Below.refl _ _) (.cells #[.int .i64 0, .int .i64 2, .int .i64 0, .int .i64 0] 27)) (KE hb3 E2)
    have S3 := SlAt.mono (SlAt.below S2 hb3 (fun _ _ _ h => h)) hb3.size (fun _ _ _ h => h)
    have hal := Below.alN (Below.refl w3.heap.size w3) (.cells #[.int .i64 0, .int .i64 2, .int .i64 0, .int .i64 0] 27)
    have S4 : Hid (SlAt (w3.alloc (.cells #[.int .i64 0, .int .i64 2, .int .i64 0, .int .i64 0] 27)).heap.size (w3.alloc (.cells #[.int .i64 0, .int .i64 2, .int .i64 0, .int .i64 0] 27)) 2 IsPlc (.slice Ax 2 cx) [(0, 2), (0, 0)]) := SlAt.mono (SlAt.below S3 hal (fun _ _ _ h => h)) hal.size (fun _ _ _ h => h)
    have T4 := slAt_two (x := (0, 2)) (y := (0, 0)) (bk_new w3 #[.int .i64 0, .int .i64 2, .int .i64 0, .int .i64 0] 27)
    clear hb3 E2 S2 S3 hal
    go_wp2_with fail
    with_reducible refine (EQ.out _ _ _ _ S4 T4).mono ?_
    rintro e w5 ⟨rfl, hb5⟩
    have E5 := KE hb5 E4
    clear hb5 E4 S4 T4 EQ PLC
    obtain ⟨n0, n1⟩ := E5.n.two
    obtain ⟨t0, t1⟩ := E5.t.two
    obtain ⟨p0, p1, p2, p3, _⟩ := E5.p.four
    go_wp2_with fail
    with_reducible refine (RW.out _ E5.d).mono ?_
    rintro e w6 ⟨hb6, h6⟩
    have E6 := KE hb6 E5
    clear hb6 E5 n0 n1 t0 t1 p0 p1 p2 p3 RW
    rcases h6 with ⟨hne, rfl⟩ | ⟨h0, A6, c6, rfl, S6, L6⟩
    · have hz1 : (rwErr ds ls (ti0, tq0) ⟨s, d, sp, dp⟩ == 0) = false := by simpa using hne
      have D6 := E6.d
      generalize rwErr ds ls (ti0, tq0) ⟨s, d, sp, dp⟩ = er at *
      have HNZ : Hid (¬ er = 0) := hne
      clear hne HE NW E6
      go_wp2_with fail
      all_goals first | exact absurd (by assumption) HNZ.out | skip
      all_goals
        go_ret
        exact ⟨by first | rfl | simp, D6⟩
    obtain ⟨hz, hk, hE⟩ := HE.out h0
    have HZ : Hid (netV ds ls = 0) := hz
    have HK' : Hid (PlainD ds) := hk
    have HEN : Hid (Ended ds (nxF ds ls ⟨s, d, sp, dp⟩) (ti0, tq0) (wayP ds ls ⟨s, d, sp, dp⟩ (ti0, tq0)).1 (wayP ds ls ⟨s, d, sp, dp⟩ (ti0, tq0)).2) := hE
    clear hz hk hE h0 HE
    generalize (wayP ds ls ⟨s, d, sp, dp⟩ (ti0, tq0)).1 = l at *
    generalize (wayP ds ls ⟨s, d, sp, dp⟩ (ti0, tq0)).2 = r at *
    have S6' : Hid (SlAt w6.heap.size w6 2 IsPlc (.slice A6 l.length c6) l) := S6
    clear S6
    have hpos : 0 < l.length := by
      have := HEN.out.head
      exact (List.getElem?_eq_some_iff.1 this).1
    obtain ⟨b, o, hA6, _⟩ := S6'.out.plc HEN.out.head
    subst hA6
    have hc6 : l.length ≤ c6 ∧ c6 ≤ maxLen := by obtain ⟨_, _, e, _, h1, h2, _⟩ := S6'.out; cases e; exact ⟨h1, h2⟩
    obtain ⟨n0, n1⟩ := E6.n.two
    go_wp2_with fail
    with_reducible refine (NW.out _ E6.d).mono ?_
    rintro e w7 ⟨hb7, hN⟩
    have E7 := KE hb7 E6
    have z6 := E6.d.size
    have z7 := hb7.size
    rcases hN with ⟨hne, _⟩ | ⟨_, m, rfl, hM, l1, l2, l3, _, l5, _, _⟩
    · exact absurd HZ.out hne
    have V7 : REs w m ds ls ⟨s, d, sp, dp⟩ (some ⟨b, o, none⟩) c6 l 0 w7 := ⟨hM, E7.d, ⟨by omega, by omega, by omega⟩, SlAt.mono (SlAt.below S6'.out hb7 (fun _ _ _ h => h)) hb7.size (fun _ _ _ h => h), E7.p⟩
    obtain ⟨t0, t1⟩ := E7.t.two
    obtain ⟨b', o', e', x0, x1⟩ := V7.sl.plc HEN.out.head
    obtain ⟨rfl, rfl⟩ : b = b' ∧ o = o' := by cases e'; exact ⟨rfl, rfl⟩
    simp only [Nat.zero_mul, Nat.add_zero] at x0 x1
    have hl0 : ((l.length : Int) == 0) = false := by rw [beq_eq_false_iff_ne]; omega
    have hl0' : ¬ l.length = 0 := by omega
    have hl1 : (0 : Int) < (l.length : Int) := by omega
    have t0d : w7.drew.cell? ⟨w.heap.size + 1, 0, none⟩ = some (.int .i64 ti0) := t0
    rw [l5]
    clear E6 n0 n1 NW S6' L6 hb7 e' l1 l2 l3 hM z6 z7
    go_wp2_with fail
    go_quiet (fail)
    have V8 := V7.keep (belowNN (Below.refl w7.heap.size w7) nq)
    generalize w7.drewN nq = w8 at *
    have HH : Hid (∀ {n : Nat} {x : Plc} {W : World}, REs w m ds ls ⟨s, d, sp, dp⟩ (some ⟨b, o, none⟩) c6 l n W → n ≤ 2000 → Hid (isPl ds x.1 x.2 = true) → Calls Try.prog 9 #[.pointer (some ⟨m.B, 0, none⟩), .agg #[.int .i64 x.1, .int .i64 x.2], .agg #[.int .i64 s, .int .i64 d, .int .i64 sp, .int .i64 dp], .int .i64 0] W fun e w' => ∃ (er : Int) (tx : Plc) (px : Pk), e = .returned (.tuple #[.agg #[.int .i64 tx.1, .int .i64 tx.2, .int .i64 px.s, .int .i64 px.d, .int .i64 px.sp, .int .i64 px.dp], .int .i64 er]) ∧ REs w m ds ls ⟨s, d, sp, dp⟩ (some ⟨b, o, none⟩) c6 l (n + 1) w' ∧ CK W w' ∧ Hid (nxF ds ls ⟨s, d, sp, dp⟩ x = if er = 0 then some tx else none)) := fun {n x W} h hn hx => by
      have hh := (handle_any m ds ls n noM x.1 x.2 ⟨s, d, sp, dp⟩ 0 W h.mem (by unfold maxLen; omega) (addrs_of HZ.out) (isPl_ok (netV_links HZ.out).1 hx.out).1 (i64ok_of (by omega) (by omega)))
      rw [l5] at hh
      refine hh.mono fun e w' ⟨h1, h2, h3⟩ => ?_
      rw [handle_keeps HK'.out] at h2
      exact ⟨_, _, _, h1, h.handle h2 h3, h.mem.ck h3, rfl⟩
    have CT : Hid (∀ {n k : Nat} {x : Plc} (W : World), REs w m ds ls ⟨s, d, sp, dp⟩ (some ⟨b, o, none⟩) c6 l n W → Hid (l[k]? = some x) → Calls Try.prog 10 #[.slice (some ⟨b, o, none⟩) k c6, .agg #[.int .i64 x.1, .int .i64 x.2]] W fun e w' => e = .returned (.bool false) ∧ Below W.heap.size W w') := fun {n k x} W h hx => by
      have hk := (List.getElem?_eq_some_iff.1 hx.out).1
      have e : (l.take k).length = k := by rw [List.length_take]; omega
      have hc := contains_pl (some ⟨b, o, none⟩) c6 (l.take k) x _ W (Nat.le_refl _) (by rw [e]; exact h.sl.take k (by omega))
      rw [e, decide_eq_false (nodup_take HEN.out.nd hx.out)] at hc
      exact hc
    have CF : Hid (∀ {n : Nat} {x : Plc} (W : World), REs w m ds ls ⟨s, d, sp, dp⟩ (some ⟨b, o, none⟩) c6 l n W → Hid (x ∈ l) → Calls Try.prog 10 #[.slice (some ⟨b, o, none⟩) l.length c6, .agg #[.int .i64 x.1, .int .i64 x.2]] W fun e w' => e = .returned (.bool true) ∧ Below W.heap.size W w') := fun {n x} W h hx => by
      have hc := contains_pl (some ⟨b, o, none⟩) c6 l x _ W (Nat.le_refl _) h.sl
      rw [decide_eq_true hx.out] at hc
      exact hc
    have CEL : Hid (∀ {n k : Nat} {x : Plc} {W : World}, REs w m ds ls ⟨s, d, sp, dp⟩ (some ⟨b, o, none⟩) c6 l n W → Hid (l[k]? = some x) → W.cell? ⟨b, o + k * 2, none⟩ = some (.int .i64 x.1) ∧ W.cell? ⟨b, o + k * 2 + 1, none⟩ = some (.int .i64 x.2)) := fun {n k x W} h hx => by
      obtain ⟨b', o', e', x0, x1⟩ := h.sl.plc hx.out
      cases e'
      exact ⟨x0, x1⟩
    have PKC : Hid (∀ {n : Nat} {W : World}, REs w m ds ls ⟨s, d, sp, dp⟩ (some ⟨b, o, none⟩) c6 l n W → W.cell? ⟨w.heap.size + 1 + 1, 0, none⟩ = some (.int .i64 s) ∧ W.cell? ⟨w.heap.size + 1 + 1, 1, none⟩ = some (.int .i64 d) ∧ W.cell? ⟨w.heap.size + 1 + 1, 2, none⟩ = some (.int .i64 sp) ∧ W.cell? ⟨w.heap.size + 1 + 1, 3, none⟩ = some (.int .i64 dp)) := fun {n W} h => by
      obtain ⟨p0, p1, p2, p3, _⟩ := h.bp.four
      exact ⟨p0, p1, p2, p3⟩
    have KV : ∀ {n : Nat} {W W' : World}, Below W.heap.size W W' → REs w m ds ls ⟨s, d, sp, dp⟩ (some ⟨b, o, none⟩) c6 l n W → REs w m ds ls ⟨s, d, sp, dp⟩ (some ⟨b, o, none⟩) c6 l n W' := fun hb h => h.keep hb
    have FIN : Hid (∀ {n : Nat} {W : World}, REs w m ds ls ⟨s, d, sp, dp⟩ (some ⟨b, o, none⟩) c6 l n W → Below w.heap.size w W) := fun {n W} h => h.below
    have hlm : l.length ≤ 1000 := by
      have := places_len (netV_links HZ.out).1 HEN.out.nd HEN.out.pl
      omega
    generalize REs w m ds ls ⟨s, d, sp, dp⟩ (some ⟨b, o, none⟩) c6 l = V at *
    generalize nxF ds ls ⟨s, d, sp, dp⟩ = nx at *
    have hcl := hc6.1
    have hcm := hc6.2
    clear V7 E7 NES x0 x1 t0 t1 t0d HZ HK' l5 hc6 KE hl0 hl0' hl1
    go_wp2_with fail
    go_loopw [89] (fun i wr => ∃ k n : Nat, i = .int .i64 (k : Int) ∧ k ≤ l.length ∧ n ≤ k ∧ V n wr) (fun i _ => l.length - (intOf i).toNat)
    case atStart => exact ⟨0, 0, rfl, by omega, by omega, V8⟩
    case round =>
      clear V8
      obtain ⟨k, n, rfl, hk, hnk, V1⟩ := hrel
      by_cases hlt : k < l.length
      rotate_left
      · have D1 := FIN.out V1
        clear HH CT CF CEL PKC KV FIN
        go_wp2_with fail
        go_ret
        exact ⟨rfl, D1⟩
      obtain ⟨⟨xi, xq⟩, hxk⟩ : ∃ x, l[k]? = some x := ⟨_, List.getElem?_eq_getElem hlt⟩
      have HX : Hid (l[k]? = some (xi, xq)) := hxk
      have HP : Hid (isPl ds (xi, xq).1 (xi, xq).2 = true) := HEN.out.pl _ (List.mem_of_getElem? hxk)
      obtain ⟨a0, a1⟩ := CEL.out V1 HX
      have Y1 := bk_new wr #[.int .i64 xi, .int .i64 xq] 27
      have V2 := KV ((Below.refl _ _).alloc (Nat.le_refl _) (.cells #[.int .i64 xi, .int .i64 xq] 27)) V1
      obtain ⟨p0, p1, p2, p3⟩ := PKC.out V2
      obtain ⟨y0, y1⟩ := Y1.two
      have k1 : (0 : Int) ≤ (k : Int) := by omega
      have k2 : (k : Int) < (l.length : Int) := by omega
      have hn2 : n ≤ 2000 := by omega
      clear hxk V1
      dsimp only at *
      go_wp2_with fail
      with_reducible refine (HH.out (x := (xi, xq)) V2 hn2 HP).mono ?_
      rintro e w2 ⟨er, ⟨ti, tq⟩, ⟨g0, g1, g2, g3⟩, rfl, V3, C3, N3⟩
      have Y3 : Bk w2 _ _ _ := Y1.ck C3
      have V4 := KV ((Below.refl _ _).alloc (Nat.le_refl _) (.cells #[.int .i64 ti, .int .i64 tq, .int .i64 g0, .int .i64 g1, .int .i64 g2, .int .i64 g3] 55)) V3
      have Y4 := Y3.alloc (.cells #[.int .i64 ti, .int .i64 tq, .int .i64 g0, .int .i64 g1, .int .i64 g2, .int .i64 g3] 55)
      have Z4 := bk_new w2 #[.int .i64 ti, .int .i64 tq, .int .i64 g0, .int .i64 g1, .int .i64 g2, .int .i64 g3] 55
      have zlt := Y3.lt
      clear V2 V3 Y1 Y3 C3 p0 p1 p2 p3 y0 y1 a0 a1 HH HP
      dsimp only at *
      have hwr : IntKind.i64.wrap ((l.length : Int) - 1) = (l.length : Int) - 1 := by rw [IntKind.wrap_i64] <;> omega
      have HW3 : Hid (¬ k + 1 = l.length → er = 0 ∧ l[k + 1]? = some (ti, tq)) := fun hne => by
        obtain ⟨y, h1, h2⟩ := HEN.out.on k _ HX.out (by omega)
        have := N3.out
        rw [h2] at this
        by_cases he : er = 0
        · rw [if_pos he] at this
          cases this
          exact ⟨he, h1⟩
        · rw [if_neg he] at this
          cases this
      have HW4 : Hid (k + 1 = l.length → r = true → er = 0 ∧ (ti, tq) ∈ l) := fun he hr => by
        obtain ⟨y, h1, h2⟩ := HEN.out.rnd hr _ (by rw [← he]; exact HX.out)
        have := N3.out
        rw [h1] at this
        by_cases he : er = 0
        · rw [if_pos he] at this
          cases this
          exact ⟨he, h2⟩
        · rw [if_neg he] at this
          cases this
      have HW5 : Hid (k + 1 = l.length → r = false → ¬ er = 0) := fun he hr h0 => by
        have h1 := HEN.out.rest hr _ (by rw [← he]; exact HX.out)
        have := N3.out
        rw [h1, if_pos h0] at this
        cases this
      obtain ⟨y0, y1⟩ := Y4.two
      have z0 := Z4.at 0
      have z1 := Z4.at 1
      clear N3 HEN
      by_cases hlast : k + 1 = l.length
      · have hl1 : ((k : Int) == (l.length : Int) - 1) = true := by rw [beq_iff_eq]; omega
        have HL : Hid (k + 1 = l.length) := hlast
        clear hlast
        cases r
        · have hne : ¬ er = 0 := HW5.out HL.out rfl
          have hz1 : (er == 0) = false := by simpa using hne
          have HLT : Hid (k < l.length) := hlt
          have NE2 := fun w => pl_ne_same ti tq w
          obtain ⟨K, hK⟩ : ∃ K : World → Prop, K = fun W => V (n + 1) W ∧ Bk W wr.heap.size #[.int .i64 xi, .int .i64 xq] 27 ∧ Bk W w2.heap.size #[.int .i64 ti, .int .i64 tq, .int .i64 g0, .int .i64 g1, .int .i64 g2, .int .i64 g3] 55 := ⟨_, rfl⟩
          have K4 : K (w2.alloc (.cells #[.int .i64 ti, .int .i64 tq, .int .i64 g0, .int .i64 g1, .int .i64 g2, .int .i64 g3] 55)) := by rw [hK]; exact ⟨V4, Y4, Z4⟩
          have KK : ∀ {W W' : World}, Below W.heap.size W W' → K W → K W' := fun {W W'} hb h => by rw [hK] at h ⊢; exact ⟨KV hb h.1, h.2.1.keep hb, h.2.2.keep hb⟩
          have K5 : K (w2.alloc (.cells #[.int .i64 ti, .int .i64 tq, .int .i64 g0, .int .i64 g1, .int .i64 g2, .int .i64 g3] 55)).drew := KK (Below.refl _ _).drew K4
          have KX : Hid (∀ {W : World}, K W → V (n + 1) W) := fun {W} h => by rw [hK] at h; exact h.1
          have CTK : Hid (∀ W, K W → Calls Try.prog 10 #[.slice (some ⟨b, o, none⟩) k c6, .agg #[.int .i64 xi, .int .i64 xq]] W fun e w' => e = .returned (.bool false) ∧ Below W.heap.size W w') := fun W h => CT.out (x := (xi, xq)) W (KX.out h) HX
          have KC : Hid (∀ W, K W → W.cell? ⟨wr.heap.size, 0, none⟩ = some (.int .i64 xi) ∧ W.cell? ⟨wr.heap.size, 1, none⟩ = some (.int .i64 xq) ∧ W.cell? ⟨w2.heap.size, 0, none⟩ = some (.int .i64 ti) ∧ W.cell? ⟨w2.heap.size, 1, none⟩ = some (.int .i64 tq)) := fun W h => by rw [hK] at h; exact ⟨h.2.1.at 0, h.2.1.at 1, h.2.2.at 0, h.2.2.at 1⟩
          clear hK K4 V4 Y4 Z4 y0 y1 z0 z1
          have k3 : (k : Int) ≤ (c6 : Int) := by omega
          have hnk' : n + 1 ≤ k + 1 := by omega
          clear CEL CT CF HX HW3 HW4 HW5 PKC FIN hcl hnk hn2
          go_upto_region 16 with fail
          refine wp_region_held_drew (S := (fun w' => w'.cell? ⟨wr.heap.size, 0, none⟩ = some (.int .i64 xi) ∧ w'.cell? ⟨wr.heap.size, 1, none⟩ = some (.int .i64 xq) ∧ w'.cell? ⟨w2.heap.size, 0, none⟩ = some (.int .i64 ti) ∧ w'.cell? ⟨w2.heap.size, 1, none⟩ = some (.int .i64 tq))) (by kernel_rfl) (KC.out _ (by assumption)) (fun hHeld => ?_)
          refine' wpAnyH_take (i := 0) (v := _) rfl (by kernel_rfl) (by kernel_rfl) (by kernel_rfl) (fun _ _ _ h => h) (Or.inl ⟨by rfl, ?gy93⟩) (by assumption) ?gr93
          case gy93 => (intro w hSw; (try dsimp only at hSw); go_simp; (try with_reducible rfl))
          try simp only [List.getElem_toArray, List.getElem_cons_zero, Act.put, List.setIfInBounds_toArray, List.set_cons_zero, List.set_cons_succ]
          refine' wpAnyH_take (i := 1) (v := _) rfl (by kernel_rfl) (by kernel_rfl) (by kernel_rfl) (fun _ _ _ h => h) (Or.inl ⟨by rfl, ?gy94⟩) (by assumption) ?gr94
          case gy94 => (intro w hSw; (try dsimp only at hSw); go_simp; (try with_reducible rfl))
          try simp only [List.getElem_toArray, List.getElem_cons_zero, List.getElem_cons_succ, Act.put, List.setIfInBounds_toArray, List.set_cons_zero, List.set_cons_succ]
          refine' wpAnyH_take (i := 2) (v := _) rfl (by kernel_rfl) (by kernel_rfl) (by kernel_rfl) (fun _ _ _ h => h) (Or.inl ⟨by rfl, ?gy95⟩) (by assumption) ?gr95
          case gy95 => (intro w hSw; (try dsimp only at hSw); go_simp; (try with_reducible rfl))
          try simp only [List.getElem_toArray, List.getElem_cons_zero, List.getElem_cons_succ, Act.put, List.setIfInBounds_toArray, List.set_cons_zero, List.set_cons_succ]
          refine' wpAnyH_take (i := 3) (v := _) rfl (by kernel_rfl) (by kernel_rfl) (by kernel_rfl) (fun _ _ _ h => h) (Or.inl ⟨by rfl, ?gy96⟩) (by assumption) ?gr96
          case gy96 => (intro w hSw; (try dsimp only at hSw); go_simp; (try with_reducible rfl))
          try simp only [List.getElem_toArray, List.getElem_cons_zero, List.getElem_cons_succ, Act.put, List.setIfInBounds_toArray, List.set_cons_zero, List.set_cons_succ]
          refine wpAnyH_ready (rs := [4]) (by kernel_rfl) (by simp) (AllReadyH.cons rfl (fun K hK => ?_) AllReadyH.nil)
          go_simp
          (with_reducible refine (CTK.out _ (by assumption)).mono ?_); rintro e wz ⟨rfl, hbz⟩; have Kz := KK hbz (by assumption); clear hbz
          try go_wp2_with fail
          clear hHeld
          refine hK.out _ _ (KC.out _ (by assumption)) (fun hHeld => ?_)
          clear hK K
          try simp only [List.getElem_toArray, List.getElem_cons_zero, List.getElem_cons_succ, Act.put, List.setIfInBounds_toArray, List.set_cons_zero, List.set_cons_succ]
          refine' wpAnyH_take (i := 5) (v := _) rfl (by kernel_rfl) (by kernel_rfl) (by kernel_rfl) (fun _ _ _ h => h) (Or.inl ⟨by rfl, ?gy98⟩) (by assumption) ?gr98
          case gy98 => (intro w hSw; (try dsimp only at hSw); go_simp; (try with_reducible rfl))
          try simp only [List.getElem_toArray, List.getElem_cons_zero, List.getElem_cons_succ, Act.put, List.setIfInBounds_toArray, List.set_cons_zero, List.set_cons_succ]
          refine' wpAnyH_take (i := 6) (v := _) rfl (by kernel_rfl) (by kernel_rfl) (by kernel_rfl) (fun _ _ _ h => h) (Or.inl ⟨by rfl, ?gy99⟩) (by assumption) ?gr99
          case gy99 => (intro w hSw; (try dsimp only at hSw); go_simp; (try with_reducible rfl))
          try simp only [List.getElem_toArray, List.getElem_cons_zero, List.getElem_cons_succ, Act.put, List.setIfInBounds_toArray, List.set_cons_zero, List.set_cons_succ]
          refine' wpAnyH_take (i := 7) (v := _) rfl (by kernel_rfl) (by kernel_rfl) (by kernel_rfl) (fun _ _ _ h => h) (Or.inl ⟨by rfl, ?gy100⟩) (by assumption) ?gr100
          case gy100 => (intro w hSw; (try dsimp only at hSw); go_simp; (try with_reducible rfl))
          try simp only [List.getElem_toArray, List.getElem_cons_zero, List.getElem_cons_succ, Act.put, List.setIfInBounds_toArray, List.set_cons_zero, List.set_cons_succ]
          refine' wpAnyH_take (i := 8) (v := _) rfl (by kernel_rfl) (by kernel_rfl) (by kernel_rfl) (fun _ _ _ h => h) (Or.inl ⟨by rfl, ?gy101⟩) (by assumption) ?gr101
          case gy101 => (intro w hSw; (try dsimp only at hSw); go_simp; (try with_reducible rfl))
          try simp only [List.getElem_toArray, List.getElem_cons_zero, List.getElem_cons_succ, Act.put, List.setIfInBounds_toArray, List.set_cons_zero, List.set_cons_succ]
          refine' wpAnyH_take (i := 9) (v := undef) rfl (by kernel_rfl) (by kernel_rfl) (by kernel_rfl) (fun _ _ _ h => h) (Or.inr ⟨by rfl, rfl⟩) (by assumption) ?gr102
          try simp only [List.getElem_toArray, List.getElem_cons_zero, List.getElem_cons_succ, Act.put, List.setIfInBounds_toArray, List.set_cons_zero, List.set_cons_succ]
          refine' wpAnyH_take (i := 10) (v := undef) rfl (by kernel_rfl) (by kernel_rfl) (by kernel_rfl) (fun _ _ _ h => h) (Or.inr ⟨by rfl, rfl⟩) (by assumption) ?gr103
          try simp only [List.getElem_toArray, List.getElem_cons_zero, List.getElem_cons_succ, Act.put, List.setIfInBounds_toArray, List.set_cons_zero, List.set_cons_succ]
          refine' wpAnyH_take (i := 11) (v := undef) rfl (by kernel_rfl) (by kernel_rfl) (by kernel_rfl) (fun _ _ _ h => h) (Or.inr ⟨by rfl, rfl⟩) (by assumption) ?gr104
          try simp only [List.getElem_toArray, List.getElem_cons_zero, List.getElem_cons_succ, Act.put, List.setIfInBounds_toArray, List.set_cons_zero, List.set_cons_succ]
          refine' wpAnyH_take (i := 12) (v := undef) rfl (by kernel_rfl) (by kernel_rfl) (by kernel_rfl) (fun _ _ _ h => h) (Or.inr ⟨by rfl, rfl⟩) (by assumption) ?gr105
          try simp only [List.getElem_toArray, List.getElem_cons_zero, List.getElem_cons_succ, Act.put, List.setIfInBounds_toArray, List.set_cons_zero, List.set_cons_succ]
          refine' wpAnyH_take (i := 13) (v := undef) rfl (by kernel_rfl) (by kernel_rfl) (by kernel_rfl) (fun _ _ _ h => h) (Or.inr ⟨by rfl, rfl⟩) (by assumption) ?gr106
          try simp only [List.getElem_toArray, List.getElem_cons_zero, List.getElem_cons_succ, Act.put, List.setIfInBounds_toArray, List.set_cons_zero, List.set_cons_succ]
          refine' wpAnyH_take (i := 14) (v := undef) rfl (by kernel_rfl) (by kernel_rfl) (by kernel_rfl) (fun _ _ _ h => h) (Or.inr ⟨by rfl, rfl⟩) (by assumption) ?gr107
          try simp only [List.getElem_toArray, List.getElem_cons_zero, List.getElem_cons_succ, Act.put, List.setIfInBounds_toArray, List.set_cons_zero, List.set_cons_succ]
          refine' wpAnyH_take (i := 15) (v := undef) rfl (by kernel_rfl) (by kernel_rfl) (by kernel_rfl) (fun _ _ _ h => h) (Or.inr ⟨by rfl, rfl⟩) (by assumption) ?gr108
          try simp only [List.getElem_toArray, List.getElem_cons_zero, List.getElem_cons_succ, Act.put, List.setIfInBounds_toArray, List.set_cons_zero, List.set_cons_succ]
          refine' wpAnyH_take (i := 16) (v := undef) rfl (by kernel_rfl) (by kernel_rfl) (by kernel_rfl) (fun _ _ _ h => h) (Or.inr ⟨by rfl, rfl⟩) (by assumption) ?gr109
          try simp only [List.getElem_toArray, List.getElem_cons_zero, List.getElem_cons_succ, Act.put, List.setIfInBounds_toArray, List.set_cons_zero, List.set_cons_succ]
          refine' wpAnyH_take (i := 17) (v := undef) rfl (by kernel_rfl) (by kernel_rfl) (by kernel_rfl) (fun _ _ _ h => h) (Or.inr ⟨by rfl, rfl⟩) (by assumption) ?gr110
          try simp only [List.getElem_toArray, List.getElem_cons_zero, List.getElem_cons_succ, Act.put, List.setIfInBounds_toArray, List.set_cons_zero, List.set_cons_succ]
          refine' wpAnyH_take (i := 18) (v := undef) rfl (by kernel_rfl) (by kernel_rfl) (by kernel_rfl) (fun _ _ _ h => h) (Or.inr ⟨by rfl, rfl⟩) (by assumption) ?gr111
          try simp only [List.getElem_toArray, List.getElem_cons_zero, List.getElem_cons_succ, Act.put, List.setIfInBounds_toArray, List.set_cons_zero, List.set_cons_succ]
          refine' wpAnyH_take (i := 19) (v := undef) rfl (by kernel_rfl) (by kernel_rfl) (by kernel_rfl) (fun _ _ _ h => h) (Or.inr ⟨by rfl, rfl⟩) (by assumption) ?gr112
          try simp only [List.getElem_toArray, List.getElem_cons_zero, List.getElem_cons_succ, Act.put, List.setIfInBounds_toArray, List.set_cons_zero, List.set_cons_succ]
          refine' wpAnyH_take (i := 20) (v := undef) rfl (by kernel_rfl) (by kernel_rfl) (by kernel_rfl) (fun _ _ _ h => h) (Or.inr ⟨by rfl, rfl⟩) (by assumption) ?gr113
          try simp only [List.getElem_toArray, List.getElem_cons_zero, List.getElem_cons_succ, Act.put, List.setIfInBounds_toArray, List.set_cons_zero, List.set_cons_succ]
          refine' wpAnyH_take (i := 21) (v := _) rfl (by kernel_rfl) (by kernel_rfl) (by kernel_rfl) (fun _ _ _ h => h) (Or.inl ⟨by rfl, ?gy114⟩) (by assumption) ?gr114
          case gy114 => (intro w hSw; (try dsimp only at hSw); go_simp; (try with_reducible rfl))
          try simp only [List.getElem_toArray, List.getElem_cons_zero, List.getElem_cons_succ, Act.put, List.setIfInBounds_toArray, List.set_cons_zero, List.set_cons_succ]
          refine' wpAnyH_take (i := 22) (v := _) rfl (by kernel_rfl) (by kernel_rfl) (by kernel_rfl) (fun _ _ _ h => h) (Or.inl ⟨by rfl, ?gy115⟩) (by assumption) ?gr115
          case gy115 => (intro w hSw; (try dsimp only at hSw); go_simp; (try with_reducible rfl))
          try simp only [List.getElem_toArray, List.getElem_cons_zero, List.getElem_cons_succ, Act.put, List.setIfInBounds_toArray, List.set_cons_zero, List.set_cons_succ]
          refine' wpAnyH_take (i := 23) (v := _) rfl (by kernel_rfl) (by kernel_rfl) (by kernel_rfl) (fun _ _ _ h => h) (Or.inl ⟨by rfl, ?gy116⟩) (by assumption) ?gr116
          case gy116 => (intro w hSw; (try dsimp only at hSw); go_simp; (try with_reducible rfl))
          try simp only [List.getElem_toArray, List.getElem_cons_zero, List.getElem_cons_succ, Act.put, List.setIfInBounds_toArray, List.set_cons_zero, List.set_cons_succ]
          refine' wpAnyH_take (i := 24) (v := _) rfl (by kernel_rfl) (by kernel_rfl) (by kernel_rfl) (fun _ _ _ h => h) (Or.inl ⟨by rfl, ?gy117⟩) (by assumption) ?gr117
          case gy117 => (intro w hSw; (try dsimp only at hSw); go_simp; (try with_reducible rfl))
          try simp only [List.getElem_toArray, List.getElem_cons_zero, List.getElem_cons_succ, Act.put, List.setIfInBounds_toArray, List.set_cons_zero, List.set_cons_succ]
          refine' wpAnyH_take (i := 25) (v := _) rfl (by kernel_rfl) (by kernel_rfl) (by kernel_rfl) (fun _ _ _ h => h) (Or.inl ⟨by rfl, ?gy118⟩) (by assumption) ?gr118
          case gy118 => (intro w hSw; (try dsimp only at hSw); go_simp; (try with_reducible rfl))
          try simp only [List.getElem_toArray, List.getElem_cons_zero, List.getElem_cons_succ, Act.put, List.setIfInBounds_toArray, List.set_cons_zero, List.set_cons_succ]
          refine' wpAnyH_take (i := 26) (v := _) rfl (by kernel_rfl) (by kernel_rfl) (by kernel_rfl) (fun _ _ _ h => h) (Or.inl ⟨by rfl, ?gy119⟩) (by assumption) ?gr119
          case gy119 => (intro w hSw; (try dsimp only at hSw); go_simp; (try with_reducible rfl))
          try simp only [List.getElem_toArray, List.getElem_cons_zero, List.getElem_cons_succ, Act.put, List.setIfInBounds_toArray, List.set_cons_zero, List.set_cons_succ]
          refine' wpAnyH_take (i := 27) (v := _) rfl (by kernel_rfl) (by kernel_rfl) (by kernel_rfl) (fun _ _ _ h => h) (Or.inl ⟨by rfl, ?gy120⟩) (by assumption) ?gr120
          case gy120 => (intro w hSw; (try dsimp only at hSw); go_simp; (try with_reducible rfl))
          try simp only [List.getElem_toArray, List.getElem_cons_zero, List.getElem_cons_succ, Act.put, List.setIfInBounds_toArray, List.set_cons_zero, List.set_cons_succ]
          refine' wpAnyH_take (i := 28) (v := _) rfl (by kernel_rfl) (by kernel_rfl) (by kernel_rfl) (fun _ _ _ h => h) (Or.inl ⟨by rfl, ?gy121⟩) (by assumption) ?gr121
          case gy121 => (intro w hSw; (try dsimp only at hSw); go_simp; (try with_reducible rfl))
          try simp only [List.getElem_toArray, List.getElem_cons_zero, List.getElem_cons_succ, Act.put, List.setIfInBounds_toArray, List.set_cons_zero, List.set_cons_succ]
          refine' wpAnyH_take (i := 29) (v := _) rfl (by kernel_rfl) (by kernel_rfl) (by kernel_rfl) (fun _ _ _ h => h) (Or.inl ⟨by rfl, ?gy122⟩) (by assumption) ?gr122
          case gy122 => (intro w hSw; (try dsimp only at hSw); go_simp; (try with_reducible rfl))
          try simp only [List.getElem_toArray, List.getElem_cons_zero, List.getElem_cons_succ, Act.put, List.setIfInBounds_toArray, List.set_cons_zero, List.set_cons_succ]
          refine' wpAnyH_take (i := 30) (v := _) rfl (by kernel_rfl) (by kernel_rfl) (by kernel_rfl) (fun _ _ _ h => h) (Or.inl ⟨by rfl, ?gy123⟩) (by assumption) ?gr123
          case gy123 => (intro w hSw; (try dsimp only at hSw); go_simp; (try with_reducible rfl))
          try simp only [List.getElem_toArray, List.getElem_cons_zero, List.getElem_cons_succ, Act.put, List.setIfInBounds_toArray, List.set_cons_zero, List.set_cons_succ]
          refine' wpAnyH_take (i := 31) (v := _) rfl (by kernel_rfl) (by kernel_rfl) (by kernel_rfl) (fun _ _ _ h => h) (Or.inl ⟨by rfl, ?gy124⟩) (by assumption) ?gr124
          case gy124 => (intro w hSw; (try dsimp only at hSw); go_simp; (try with_reducible rfl))
          try simp only [List.getElem_toArray, List.getElem_cons_zero, List.getElem_cons_succ, Act.put, List.setIfInBounds_toArray, List.set_cons_zero, List.set_cons_succ]
          refine' wpAnyH_take (i := 32) (v := _) rfl (by kernel_rfl) (by kernel_rfl) (by kernel_rfl) (fun _ _ _ h => h) (Or.inl ⟨by rfl, ?gy125⟩) (by assumption) ?gr125
          case gy125 => (intro w hSw; (try dsimp only at hSw); go_simp; (try with_reducible rfl))
          try simp only [List.getElem_toArray, List.getElem_cons_zero, List.getElem_cons_succ, Act.put, List.setIfInBounds_toArray, List.set_cons_zero, List.set_cons_succ]
          refine' wpAnyH_take (i := 33) (v := _) rfl (by kernel_rfl) (by kernel_rfl) (by kernel_rfl) (fun _ _ _ h => h) (Or.inl ⟨by rfl, ?gy126⟩) (by assumption) ?gr126
          case gy126 => (intro w hSw; (try dsimp only at hSw); go_simp; (try with_reducible rfl))
          try simp only [List.getElem_toArray, List.getElem_cons_zero, List.getElem_cons_succ, Act.put, List.setIfInBounds_toArray, List.set_cons_zero, List.set_cons_succ]
          refine' wpAnyH_take (i := 34) (v := _) rfl (by kernel_rfl) (by kernel_rfl) (by kernel_rfl) (fun _ _ _ h => h) (Or.inl ⟨by rfl, ?gy127⟩) (by assumption) ?gr127
          case gy127 => (intro w hSw; (try dsimp only at hSw); go_simp; (try with_reducible rfl))
          try simp only [List.getElem_toArray, List.getElem_cons_zero, List.getElem_cons_succ, Act.put, List.setIfInBounds_toArray, List.set_cons_zero, List.set_cons_succ]
          refine' wpAnyH_take (i := 35) (v := _) rfl (by kernel_rfl) (by kernel_rfl) (by kernel_rfl) (fun _ _ _ h => h) (Or.inl ⟨by rfl, ?gy128⟩) (by assumption) ?gr128
          case gy128 => (intro w hSw; (try dsimp only at hSw); go_simp; (try with_reducible rfl))
          try simp only [List.getElem_toArray, List.getElem_cons_zero, List.getElem_cons_succ, Act.put, List.setIfInBounds_toArray, List.set_cons_zero, List.set_cons_succ]
          refine' wpAnyH_take (i := 36) (v := _) rfl (by kernel_rfl) (by kernel_rfl) (by kernel_rfl) (fun _ _ _ h => h) (Or.inl ⟨by rfl, ?gy129⟩) (by assumption) ?gr129
          case gy129 => (intro w hSw; (try dsimp only at hSw); go_simp; (try with_reducible rfl))
          try simp only [List.getElem_toArray, List.getElem_cons_zero, List.getElem_cons_succ, Act.put, List.setIfInBounds_toArray, List.set_cons_zero, List.set_cons_succ]
          refine' wpAnyH_take (i := 37) (v := _) rfl (by kernel_rfl) (by kernel_rfl) (by kernel_rfl) (fun _ _ _ h => h) (Or.inl ⟨by rfl, ?gy130⟩) (by assumption) ?gr130
          case gy130 => (intro w hSw; (try dsimp only at hSw); go_simp; (try with_reducible rfl))
          try simp only [List.getElem_toArray, List.getElem_cons_zero, List.getElem_cons_succ, Act.put, List.setIfInBounds_toArray, List.set_cons_zero, List.set_cons_succ]
          refine' wpAnyH_take (i := 38) (v := undef) rfl (by kernel_rfl) (by kernel_rfl) (by kernel_rfl) (fun _ _ _ h => h) (Or.inr ⟨by rfl, rfl⟩) (by assumption) ?gr131
          try simp only [List.getElem_toArray, List.getElem_cons_zero, List.getElem_cons_succ, Act.put, List.setIfInBounds_toArray, List.set_cons_zero, List.set_cons_succ]
          refine' wpAnyH_take (i := 39) (v := undef) rfl (by kernel_rfl) (by kernel_rfl) (by kernel_rfl) (fun _ _ _ h => h) (Or.inr ⟨by rfl, rfl⟩) (by assumption) ?gr132
          try simp only [List.getElem_toArray, List.getElem_cons_zero, List.getElem_cons_succ, Act.put, List.setIfInBounds_toArray, List.set_cons_zero, List.set_cons_succ]
          refine' wpAnyH_take (i := 40) (v := undef) rfl (by kernel_rfl) (by kernel_rfl) (by kernel_rfl) (fun _ _ _ h => h) (Or.inr ⟨by rfl, rfl⟩) (by assumption) ?gr133
          try simp only [List.getElem_toArray, List.getElem_cons_zero, List.getElem_cons_succ, Act.put, List.setIfInBounds_toArray, List.set_cons_zero, List.set_cons_succ]
          refine' wpAnyH_take (i := 41) (v := undef) rfl (by kernel_rfl) (by kernel_rfl) (by kernel_rfl) (fun _ _ _ h => h) (Or.inr ⟨by rfl, rfl⟩) (by assumption) ?gr134
          try simp only [List.getElem_toArray, List.getElem_cons_zero, List.getElem_cons_succ, Act.put, List.setIfInBounds_toArray, List.set_cons_zero, List.set_cons_succ]
          refine' wpAnyH_take (i := 42) (v := undef) rfl (by kernel_rfl) (by kernel_rfl) (by kernel_rfl) (fun _ _ _ h => h) (Or.inr ⟨by rfl, rfl⟩) (by assumption) ?gr135
          try simp only [List.getElem_toArray, List.getElem_cons_zero, List.getElem_cons_succ, Act.put, List.setIfInBounds_toArray, List.set_cons_zero, List.set_cons_succ]
          refine' wpAnyH_take (i := 43) (v := _) rfl (by kernel_rfl) (by kernel_rfl) (by kernel_rfl) (fun _ _ _ h => h) (Or.inl ⟨by rfl, ?gy136⟩) (by assumption) ?gr136
          case gy136 => (intro w hSw; (try dsimp only at hSw); go_simp; (try with_reducible rfl))
          try simp only [List.getElem_toArray, List.getElem_cons_zero, List.getElem_cons_succ, Act.put, List.setIfInBounds_toArray, List.set_cons_zero, List.set_cons_succ]
          refine' wpAnyH_take (i := 44) (v := _) rfl (by kernel_rfl) (by kernel_rfl) (by kernel_rfl) (fun _ _ _ h => h) (Or.inl ⟨by rfl, ?gy137⟩) (by assumption) ?gr137
          case gy137 => (intro w hSw; (try dsimp only at hSw); go_simp; (try with_reducible rfl))
          try simp only [List.getElem_toArray, List.getElem_cons_zero, List.getElem_cons_succ, Act.put, List.setIfInBounds_toArray, List.set_cons_zero, List.set_cons_succ]
          refine wpAnyH_done (by kernel_rfl) ?_ _
          go_wp2_with fail
          go_roundw
          case rel => exact ⟨k + 1, n + 1, by go_num, (by have := HLT.out; omega), hnk', KX.out (by assumption)⟩
          case measure => (have := HLT.out; simp [intOf]; omega)
        · obtain ⟨rfl, hin⟩ := HW4.out HL.out rfl
          have HIN : Hid ((ti, tq) ∈ l) := hin
          have HLT : Hid (k < l.length) := hlt
          have NE2 := fun w => pl_ne_same ti tq w
          obtain ⟨K, hK⟩ : ∃ K : World → Prop, K = fun W => V (n + 1) W ∧ Bk W wr.heap.size #[.int .i64 xi, .int .i64 xq] 27 ∧ Bk W w2.heap.size #[.int .i64 ti, .int .i64 tq, .int .i64 g0, .int .i64 g1, .int .i64 g2, .int .i64 g3] 55 := ⟨_, rfl⟩
          have K4 : K (w2.alloc (.cells #[.int .i64 ti, .int .i64 tq, .int .i64 g0, .int .i64 g1, .int .i64 g2, .int .i64 g3] 55)) := by rw [hK]; exact ⟨V4, Y4, Z4⟩
          have KK : ∀ {W W' : World}, Below W.heap.size W W' → K W → K W' := fun {W W'} hb h => by rw [hK] at h ⊢; exact ⟨KV hb h.1, h.2.1.keep hb, h.2.2.keep hb⟩
          have K5 : K (w2.alloc (.cells #[.int .i64 ti, .int .i64 tq, .int .i64 g0, .int .i64 g1, .int .i64 g2, .int .i64 g3] 55)).drew := KK (Below.refl _ _).drew K4
          have KX : Hid (∀ {W : World}, K W → V (n + 1) W) := fun {W} h => by rw [hK] at h; exact h.1
          have CTK : Hid (∀ W, K W → Calls Try.prog 10 #[.slice (some ⟨b, o, none⟩) k c6, .agg #[.int .i64 xi, .int .i64 xq]] W fun e w' => e = .returned (.bool false) ∧ Below W.heap.size W w') := fun W h => CT.out (x := (xi, xq)) W (KX.out h) HX
          have KC : Hid (∀ W, K W → W.cell? ⟨wr.heap.size, 0, none⟩ = some (.int .i64 xi) ∧ W.cell? ⟨wr.heap.size, 1, none⟩ = some (.int .i64 xq) ∧ W.cell? ⟨w2.heap.size, 0, none⟩ = some (.int .i64 ti) ∧ W.cell? ⟨w2.heap.size, 1, none⟩ = some (.int .i64 tq)) := fun W h => by rw [hK] at h; exact ⟨h.2.1.at 0, h.2.1.at 1, h.2.2.at 0, h.2.2.at 1⟩
          clear hK K4 V4 Y4 Z4 y0 y1 z0 z1
          have CFK : Hid (∀ W, K W → Calls Try.prog 10 #[.slice (some ⟨b, o, none⟩) l.length c6, .agg #[.int .i64 ti, .int .i64 tq]] W fun e w' => e = .returned (.bool true) ∧ Below W.heap.size W w') := fun W h => CF.out (x := (ti, tq)) W (KX.out h) HIN
          have k3 : (k : Int) ≤ (c6 : Int) := by omega
          have hnk' : n + 1 ≤ k + 1 := by omega
          clear CEL CT CF HX HW3 HW4 HW5 PKC FIN hcl hnk hin hn2
          go_upto_region 16 with fail
          refine wp_region_held_drew (S := (fun w' => w'.cell? ⟨wr.heap.size, 0, none⟩ = some (.int .i64 xi) ∧ w'.cell? ⟨wr.heap.size, 1, none⟩ = some (.int .i64 xq) ∧ w'.cell? ⟨w2.heap.size, 0, none⟩ = some (.int .i64 ti) ∧ w'.cell? ⟨w2.heap.size, 1, none⟩ = some (.int .i64 tq))) (by kernel_rfl) (KC.out _ (by assumption)) (fun hHeld => ?_)
          refine' wpAnyH_take (i := 0) (v := _) rfl (by kernel_rfl) (by kernel_rfl) (by kernel_rfl) (fun _ _ _ h => h) (Or.inl ⟨by rfl, ?gy47⟩) (by assumption) ?gr47
          case gy47 => (intro w hSw; (try dsimp only at hSw); go_simp; (try with_reducible rfl))
          try simp only [List.getElem_toArray, List.getElem_cons_zero, Act.put, List.setIfInBounds_toArray, List.set_cons_zero, List.set_cons_succ]
          refine' wpAnyH_take (i := 1) (v := _) rfl (by kernel_rfl) (by kernel_rfl) (by kernel_rfl) (fun _ _ _ h => h) (Or.inl ⟨by rfl, ?gy48⟩) (by assumption) ?gr48
          case gy48 => (intro w hSw; (try dsimp only at hSw); go_simp; (try with_reducible rfl))
          try simp only [List.getElem_toArray, List.getElem_cons_zero, List.getElem_cons_succ, Act.put, List.setIfInBounds_toArray, List.set_cons_zero, List.set_cons_succ]
          refine' wpAnyH_take (i := 2) (v := _) rfl (by kernel_rfl) (by kernel_rfl) (by kernel_rfl) (fun _ _ _ h => h) (Or.inl ⟨by rfl, ?gy49⟩) (by assumption) ?gr49
          case gy49 => (intro w hSw; (try dsimp only at hSw); go_simp; (try with_reducible rfl))
          try simp only [List.getElem_toArray, List.getElem_cons_zero, List.getElem_cons_succ, Act.put, List.setIfInBounds_toArray, List.set_cons_zero, List.set_cons_succ]
          refine' wpAnyH_take (i := 3) (v := _) rfl (by kernel_rfl) (by kernel_rfl) (by kernel_rfl) (fun _ _ _ h => h) (Or.inl ⟨by rfl, ?gy50⟩) (by assumption) ?gr50
          case gy50 => (intro w hSw; (try dsimp only at hSw); go_simp; (try with_reducible rfl))
          try simp only [List.getElem_toArray, List.getElem_cons_zero, List.getElem_cons_succ, Act.put, List.setIfInBounds_toArray, List.set_cons_zero, List.set_cons_succ]
          refine wpAnyH_ready (rs := [4]) (by kernel_rfl) (by simp) (AllReadyH.cons rfl (fun K hK => ?_) AllReadyH.nil)
          go_simp
          (with_reducible refine (CTK.out _ (by assumption)).mono ?_); rintro e wz ⟨rfl, hbz⟩; have Kz := KK hbz (by assumption); clear hbz
          try go_wp2_with fail
          clear hHeld
          refine hK.out _ _ (KC.out _ (by assumption)) (fun hHeld => ?_)
          clear hK K
          try simp only [List.getElem_toArray, List.getElem_cons_zero, List.getElem_cons_succ, Act.put, List.setIfInBounds_toArray, List.set_cons_zero, List.set_cons_succ]
          refine' wpAnyH_take (i := 5) (v := _) rfl (by kernel_rfl) (by kernel_rfl) (by kernel_rfl) (fun _ _ _ h => h) (Or.inl ⟨by rfl, ?gy52⟩) (by assumption) ?gr52
          case gy52 => (intro w hSw; (try dsimp only at hSw); go_simp; (try with_reducible rfl))
          try simp only [List.getElem_toArray, List.getElem_cons_zero, List.getElem_cons_succ, Act.put, List.setIfInBounds_toArray, List.set_cons_zero, List.set_cons_succ]
          refine' wpAnyH_take (i := 6) (v := _) rfl (by kernel_rfl) (by kernel_rfl) (by kernel_rfl) (fun _ _ _ h => h) (Or.inl ⟨by rfl, ?gy53⟩) (by assumption) ?gr53
          case gy53 => (intro w hSw; (try dsimp only at hSw); go_simp; (try with_reducible rfl))
          try simp only [List.getElem_toArray, List.getElem_cons_zero, List.getElem_cons_succ, Act.put, List.setIfInBounds_toArray, List.set_cons_zero, List.set_cons_succ]
          refine' wpAnyH_take (i := 7) (v := _) rfl (by kernel_rfl) (by kernel_rfl) (by kernel_rfl) (fun _ _ _ h => h) (Or.inl ⟨by rfl, ?gy54⟩) (by assumption) ?gr54
          case gy54 => (intro w hSw; (try dsimp only at hSw); go_simp; (try with_reducible rfl))
          try simp only [List.getElem_toArray, List.getElem_cons_zero, List.getElem_cons_succ, Act.put, List.setIfInBounds_toArray, List.set_cons_zero, List.set_cons_succ]
          refine' wpAnyH_take (i := 8) (v := _) rfl (by kernel_rfl) (by kernel_rfl) (by kernel_rfl) (fun _ _ _ h => h) (Or.inl ⟨by rfl, ?gy55⟩) (by assumption) ?gr55
          case gy55 => (intro w hSw; (try dsimp only at hSw); go_simp; (try with_reducible rfl))
          try simp only [List.getElem_toArray, List.getElem_cons_zero, List.getElem_cons_succ, Act.put, List.setIfInBounds_toArray, List.set_cons_zero, List.set_cons_succ]
          refine' wpAnyH_take (i := 9) (v := undef) rfl (by kernel_rfl) (by kernel_rfl) (by kernel_rfl) (fun _ _ _ h => h) (Or.inr ⟨by rfl, rfl⟩) (by assumption) ?gr56
          try simp only [List.getElem_toArray, List.getElem_cons_zero, List.getElem_cons_succ, Act.put, List.setIfInBounds_toArray, List.set_cons_zero, List.set_cons_succ]
          refine' wpAnyH_take (i := 10) (v := undef) rfl (by kernel_rfl) (by kernel_rfl) (by kernel_rfl) (fun _ _ _ h => h) (Or.inr ⟨by rfl, rfl⟩) (by assumption) ?gr57
          try simp only [List.getElem_toArray, List.getElem_cons_zero, List.getElem_cons_succ, Act.put, List.setIfInBounds_toArray, List.set_cons_zero, List.set_cons_succ]
          refine' wpAnyH_take (i := 11) (v := undef) rfl (by kernel_rfl) (by kernel_rfl) (by kernel_rfl) (fun _ _ _ h => h) (Or.inr ⟨by rfl, rfl⟩) (by assumption) ?gr58
          try simp only [List.getElem_toArray, List.getElem_cons_zero, List.getElem_cons_succ, Act.put, List.setIfInBounds_toArray, List.set_cons_zero, List.set_cons_succ]
          refine' wpAnyH_take (i := 12) (v := undef) rfl (by kernel_rfl) (by kernel_rfl) (by kernel_rfl) (fun _ _ _ h => h) (Or.inr ⟨by rfl, rfl⟩) (by assumption) ?gr59
          try simp only [List.getElem_toArray, List.getElem_cons_zero, List.getElem_cons_succ, Act.put, List.setIfInBounds_toArray, List.set_cons_zero, List.set_cons_succ]
          refine' wpAnyH_take (i := 13) (v := undef) rfl (by kernel_rfl) (by kernel_rfl) (by kernel_rfl) (fun _ _ _ h => h) (Or.inr ⟨by rfl, rfl⟩) (by assumption) ?gr60
          try simp only [List.getElem_toArray, List.getElem_cons_zero, List.getElem_cons_succ, Act.put, List.setIfInBounds_toArray, List.set_cons_zero, List.set_cons_succ]
          refine' wpAnyH_take (i := 14) (v := undef) rfl (by kernel_rfl) (by kernel_rfl) (by kernel_rfl) (fun _ _ _ h => h) (Or.inr ⟨by rfl, rfl⟩) (by assumption) ?gr61
          try simp only [List.getElem_toArray, List.getElem_cons_zero, List.getElem_cons_succ, Act.put, List.setIfInBounds_toArray, List.set_cons_zero, List.set_cons_succ]
          refine' wpAnyH_take (i := 15) (v := undef) rfl (by kernel_rfl) (by kernel_rfl) (by kernel_rfl) (fun _ _ _ h => h) (Or.inr ⟨by rfl, rfl⟩) (by assumption) ?gr62
          try simp only [List.getElem_toArray, List.getElem_cons_zero, List.getElem_cons_succ, Act.put, List.setIfInBounds_toArray, List.set_cons_zero, List.set_cons_succ]
          refine' wpAnyH_take (i := 16) (v := undef) rfl (by kernel_rfl) (by kernel_rfl) (by kernel_rfl) (fun _ _ _ h => h) (Or.inr ⟨by rfl, rfl⟩) (by assumption) ?gr63
          try simp only [List.getElem_toArray, List.getElem_cons_zero, List.getElem_cons_succ, Act.put, List.setIfInBounds_toArray, List.set_cons_zero, List.set_cons_succ]
          refine' wpAnyH_take (i := 17) (v := undef) rfl (by kernel_rfl) (by kernel_rfl) (by kernel_rfl) (fun _ _ _ h => h) (Or.inr ⟨by rfl, rfl⟩) (by assumption) ?gr64
          try simp only [List.getElem_toArray, List.getElem_cons_zero, List.getElem_cons_succ, Act.put, List.setIfInBounds_toArray, List.set_cons_zero, List.set_cons_succ]
          refine' wpAnyH_take (i := 18) (v := undef) rfl (by kernel_rfl) (by kernel_rfl) (by kernel_rfl) (fun _ _ _ h => h) (Or.inr ⟨by rfl, rfl⟩) (by assumption) ?gr65
          try simp only [List.getElem_toArray, List.getElem_cons_zero, List.getElem_cons_succ, Act.put, List.setIfInBounds_toArray, List.set_cons_zero, List.set_cons_succ]
          refine' wpAnyH_take (i := 19) (v := undef) rfl (by kernel_rfl) (by kernel_rfl) (by kernel_rfl) (fun _ _ _ h => h) (Or.inr ⟨by rfl, rfl⟩) (by assumption) ?gr66
          try simp only [List.getElem_toArray, List.getElem_cons_zero, List.getElem_cons_succ, Act.put, List.setIfInBounds_toArray, List.set_cons_zero, List.set_cons_succ]
          refine' wpAnyH_take (i := 20) (v := undef) rfl (by kernel_rfl) (by kernel_rfl) (by kernel_rfl) (fun _ _ _ h => h) (Or.inr ⟨by rfl, rfl⟩) (by assumption) ?gr67
          try simp only [List.getElem_toArray, List.getElem_cons_zero, List.getElem_cons_succ, Act.put, List.setIfInBounds_toArray, List.set_cons_zero, List.set_cons_succ]
          refine' wpAnyH_take (i := 21) (v := _) rfl (by kernel_rfl) (by kernel_rfl) (by kernel_rfl) (fun _ _ _ h => h) (Or.inl ⟨by rfl, ?gy68⟩) (by assumption) ?gr68
          case gy68 => (intro w hSw; (try dsimp only at hSw); go_simp; (try with_reducible rfl))
          try simp only [List.getElem_toArray, List.getElem_cons_zero, List.getElem_cons_succ, Act.put, List.setIfInBounds_toArray, List.set_cons_zero, List.set_cons_succ]
          refine' wpAnyH_take (i := 22) (v := _) rfl (by kernel_rfl) (by kernel_rfl) (by kernel_rfl) (fun _ _ _ h => h) (Or.inl ⟨by rfl, ?gy69⟩) (by assumption) ?gr69
          case gy69 => (intro w hSw; (try dsimp only at hSw); go_simp; (try with_reducible rfl))
          try simp only [List.getElem_toArray, List.getElem_cons_zero, List.getElem_cons_succ, Act.put, List.setIfInBounds_toArray, List.set_cons_zero, List.set_cons_succ]
          refine' wpAnyH_take (i := 23) (v := _) rfl (by kernel_rfl) (by kernel_rfl) (by kernel_rfl) (fun _ _ _ h => h) (Or.inl ⟨by rfl, ?gy70⟩) (by assumption) ?gr70
          case gy70 => (intro w hSw; (try dsimp only at hSw); go_simp; (try with_reducible rfl))
          try simp only [List.getElem_toArray, List.getElem_cons_zero, List.getElem_cons_succ, Act.put, List.setIfInBounds_toArray, List.set_cons_zero, List.set_cons_succ]
          refine' wpAnyH_take (i := 24) (v := _) rfl (by kernel_rfl) (by kernel_rfl) (by kernel_rfl) (fun _ _ _ h => h) (Or.inl ⟨by rfl, ?gy71⟩) (by assumption) ?gr71
          case gy71 => (intro w hSw; (try dsimp only at hSw); go_simp; (try with_reducible rfl))
          try simp only [List.getElem_toArray, List.getElem_cons_zero, List.getElem_cons_succ, Act.put, List.setIfInBounds_toArray, List.set_cons_zero, List.set_cons_succ]
          refine' wpAnyH_take (i := 25) (v := _) rfl (by kernel_rfl) (by kernel_rfl) (by kernel_rfl) (fun _ _ _ h => h) (Or.inl ⟨by rfl, ?gy72⟩) (by assumption) ?gr72
          case gy72 => (intro w hSw; (try dsimp only at hSw); go_simp; (try with_reducible rfl))
          try simp only [List.getElem_toArray, List.getElem_cons_zero, List.getElem_cons_succ, Act.put, List.setIfInBounds_toArray, List.set_cons_zero, List.set_cons_succ]
          refine' wpAnyH_take (i := 26) (v := _) rfl (by kernel_rfl) (by kernel_rfl) (by kernel_rfl) (fun _ _ _ h => h) (Or.inl ⟨by rfl, ?gy73⟩) (by assumption) ?gr73
          case gy73 => (intro w hSw; (try dsimp only at hSw); go_simp; (try with_reducible rfl))
          try simp only [List.getElem_toArray, List.getElem_cons_zero, List.getElem_cons_succ, Act.put, List.setIfInBounds_toArray, List.set_cons_zero, List.set_cons_succ]
          refine' wpAnyH_take (i := 27) (v := _) rfl (by kernel_rfl) (by kernel_rfl) (by kernel_rfl) (fun _ _ _ h => h) (Or.inl ⟨by rfl, ?gy74⟩) (by assumption) ?gr74
          case gy74 => (intro w hSw; (try dsimp only at hSw); go_simp; (try with_reducible rfl))
          try simp only [List.getElem_toArray, List.getElem_cons_zero, List.getElem_cons_succ, Act.put, List.setIfInBounds_toArray, List.set_cons_zero, List.set_cons_succ]
          refine' wpAnyH_take (i := 28) (v := _) rfl (by kernel_rfl) (by kernel_rfl) (by kernel_rfl) (fun _ _ _ h => h) (Or.inl ⟨by rfl, ?gy75⟩) (by assumption) ?gr75
          case gy75 => (intro w hSw; (try dsimp only at hSw); go_simp; (try with_reducible rfl))
          try simp only [List.getElem_toArray, List.getElem_cons_zero, List.getElem_cons_succ, Act.put, List.setIfInBounds_toArray, List.set_cons_zero, List.set_cons_succ]
          refine' wpAnyH_take (i := 29) (v := _) rfl (by kernel_rfl) (by kernel_rfl) (by kernel_rfl) (fun _ _ _ h => h) (Or.inl ⟨by rfl, ?gy76⟩) (by assumption) ?gr76
          case gy76 => (intro w hSw; (try dsimp only at hSw); go_simp; (try with_reducible rfl))
          try simp only [List.getElem_toArray, List.getElem_cons_zero, List.getElem_cons_succ, Act.put, List.setIfInBounds_toArray, List.set_cons_zero, List.set_cons_succ]
          refine' wpAnyH_take (i := 30) (v := _) rfl (by kernel_rfl) (by kernel_rfl) (by kernel_rfl) (fun _ _ _ h => h) (Or.inl ⟨by rfl, ?gy77⟩) (by assumption) ?gr77
          case gy77 => (intro w hSw; (try dsimp only at hSw); go_simp; (try with_reducible rfl))
          try simp only [List.getElem_toArray, List.getElem_cons_zero, List.getElem_cons_succ, Act.put, List.setIfInBounds_toArray, List.set_cons_zero, List.set_cons_succ]
          refine' wpAnyH_take (i := 31) (v := _) rfl (by kernel_rfl) (by kernel_rfl) (by kernel_rfl) (fun _ _ _ h => h) (Or.inl ⟨by rfl, ?gy78⟩) (by assumption) ?gr78
          case gy78 => (intro w hSw; (try dsimp only at hSw); go_simp; (try with_reducible rfl))
          try simp only [List.getElem_toArray, List.getElem_cons_zero, List.getElem_cons_succ, Act.put, List.setIfInBounds_toArray, List.set_cons_zero, List.set_cons_succ]
          refine' wpAnyH_take (i := 32) (v := _) rfl (by kernel_rfl) (by kernel_rfl) (by kernel_rfl) (fun _ _ _ h => h) (Or.inl ⟨by rfl, ?gy79⟩) (by assumption) ?gr79
          case gy79 => (intro w hSw; (try dsimp only at hSw); go_simp; (try with_reducible rfl))
          try simp only [List.getElem_toArray, List.getElem_cons_zero, List.getElem_cons_succ, Act.put, List.setIfInBounds_toArray, List.set_cons_zero, List.set_cons_succ]
          refine' wpAnyH_take (i := 33) (v := _) rfl (by kernel_rfl) (by kernel_rfl) (by kernel_rfl) (fun _ _ _ h => h) (Or.inl ⟨by rfl, ?gy80⟩) (by assumption) ?gr80
          case gy80 => (intro w hSw; (try dsimp only at hSw); go_simp; (try with_reducible rfl))
          try simp only [List.getElem_toArray, List.getElem_cons_zero, List.getElem_cons_succ, Act.put, List.setIfInBounds_toArray, List.set_cons_zero, List.set_cons_succ]
          refine' wpAnyH_take (i := 34) (v := _) rfl (by kernel_rfl) (by kernel_rfl) (by kernel_rfl) (fun _ _ _ h => h) (Or.inl ⟨by rfl, ?gy81⟩) (by assumption) ?gr81
          case gy81 => (intro w hSw; (try dsimp only at hSw); go_simp; (try with_reducible rfl))
          try simp only [List.getElem_toArray, List.getElem_cons_zero, List.getElem_cons_succ, Act.put, List.setIfInBounds_toArray, List.set_cons_zero, List.set_cons_succ]
          refine' wpAnyH_take (i := 35) (v := _) rfl (by kernel_rfl) (by kernel_rfl) (by kernel_rfl) (fun _ _ _ h => h) (Or.inl ⟨by rfl, ?gy82⟩) (by assumption) ?gr82
          case gy82 => (intro w hSw; (try dsimp only at hSw); go_simp; (try with_reducible rfl))
          try simp only [List.getElem_toArray, List.getElem_cons_zero, List.getElem_cons_succ, Act.put, List.setIfInBounds_toArray, List.set_cons_zero, List.set_cons_succ]
          refine' wpAnyH_take (i := 36) (v := _) rfl (by kernel_rfl) (by kernel_rfl) (by kernel_rfl) (fun _ _ _ h => h) (Or.inl ⟨by rfl, ?gy83⟩) (by assumption) ?gr83
          case gy83 => (intro w hSw; (try dsimp only at hSw); go_simp; (try with_reducible rfl))
          try simp only [List.getElem_toArray, List.getElem_cons_zero, List.getElem_cons_succ, Act.put, List.setIfInBounds_toArray, List.set_cons_zero, List.set_cons_succ]
          refine' wpAnyH_take (i := 37) (v := _) rfl (by kernel_rfl) (by kernel_rfl) (by kernel_rfl) (fun _ _ _ h => h) (Or.inl ⟨by rfl, ?gy84⟩) (by assumption) ?gr84
          case gy84 => (intro w hSw; (try dsimp only at hSw); go_simp; (try with_reducible rfl))
          try simp only [List.getElem_toArray, List.getElem_cons_zero, List.getElem_cons_succ, Act.put, List.setIfInBounds_toArray, List.set_cons_zero, List.set_cons_succ]
          refine' wpAnyH_take (i := 38) (v := _) rfl (by kernel_rfl) (by kernel_rfl) (by kernel_rfl) (fun _ _ _ h => h) (Or.inl ⟨by rfl, ?gy85⟩) (by assumption) ?gr85
          case gy85 => (intro w hSw; (try dsimp only at hSw); go_simp; (try with_reducible rfl))
          try simp only [List.getElem_toArray, List.getElem_cons_zero, List.getElem_cons_succ, Act.put, List.setIfInBounds_toArray, List.set_cons_zero, List.set_cons_succ]
          refine' wpAnyH_take (i := 39) (v := _) rfl (by kernel_rfl) (by kernel_rfl) (by kernel_rfl) (fun _ _ _ h => h) (Or.inl ⟨by rfl, ?gy86⟩) (by assumption) ?gr86
          case gy86 => (intro w hSw; (try dsimp only at hSw); go_simp; (try with_reducible rfl))
          try simp only [List.getElem_toArray, List.getElem_cons_zero, List.getElem_cons_succ, Act.put, List.setIfInBounds_toArray, List.set_cons_zero, List.set_cons_succ]
          refine' wpAnyH_take (i := 40) (v := _) rfl (by kernel_rfl) (by kernel_rfl) (by kernel_rfl) (fun _ _ _ h => h) (Or.inl ⟨by rfl, ?gy87⟩) (by assumption) ?gr87
          case gy87 => (intro w hSw; (try dsimp only at hSw); go_simp; (try with_reducible rfl))
          try simp only [List.getElem_toArray, List.getElem_cons_zero, List.getElem_cons_succ, Act.put, List.setIfInBounds_toArray, List.set_cons_zero, List.set_cons_succ]
          refine wpAnyH_ready (rs := [41]) (by kernel_rfl) (by simp) (AllReadyH.cons rfl (fun K hK => ?_) AllReadyH.nil)
          go_simp
          (with_reducible refine (CFK.out _ (by assumption)).mono ?_); rintro e wz ⟨rfl, hbz⟩; have Kz := KK hbz (by assumption); clear hbz
          try go_wp2_with fail
          clear hHeld
          refine hK.out _ _ (KC.out _ (by assumption)) (fun hHeld => ?_)
          clear hK K
          try simp only [List.getElem_toArray, List.getElem_cons_zero, List.getElem_cons_succ, Act.put, List.setIfInBounds_toArray, List.set_cons_zero, List.set_cons_succ]
          refine' wpAnyH_take (i := 42) (v := _) rfl (by kernel_rfl) (by kernel_rfl) (by kernel_rfl) (fun _ _ _ h => h) (Or.inl ⟨by rfl, ?gy89⟩) (by assumption) ?gr89
          case gy89 => (intro w hSw; (try dsimp only at hSw); go_simp; (try with_reducible rfl))
          try simp only [List.getElem_toArray, List.getElem_cons_zero, List.getElem_cons_succ, Act.put, List.setIfInBounds_toArray, List.set_cons_zero, List.set_cons_succ]
          refine' wpAnyH_take (i := 43) (v := _) rfl (by kernel_rfl) (by kernel_rfl) (by kernel_rfl) (fun _ _ _ h => h) (Or.inl ⟨by rfl, ?gy90⟩) (by assumption) ?gr90
          case gy90 => (intro w hSw; (try dsimp only at hSw); go_simp; (try with_reducible rfl))
          try simp only [List.getElem_toArray, List.getElem_cons_zero, List.getElem_cons_succ, Act.put, List.setIfInBounds_toArray, List.set_cons_zero, List.set_cons_succ]
          refine' wpAnyH_take (i := 44) (v := _) rfl (by kernel_rfl) (by kernel_rfl) (by kernel_rfl) (fun _ _ _ h => h) (Or.inl ⟨by rfl, ?gy91⟩) (by assumption) ?gr91
          case gy91 => (intro w hSw; (try dsimp only at hSw); go_simp; (try with_reducible rfl))
          try simp only [List.getElem_toArray, List.getElem_cons_zero, List.getElem_cons_succ, Act.put, List.setIfInBounds_toArray, List.set_cons_zero, List.set_cons_succ]
          refine wpAnyH_done (by kernel_rfl) ?_ _
          go_wp2_with fail
          go_roundw
          case rel => exact ⟨k + 1, n + 1, by go_num, (by have := HLT.out; omega), hnk', KX.out (by assumption)⟩
          case measure => (have := HLT.out; simp [intOf]; omega)
      · obtain ⟨rfl, hnx⟩ := HW3.out hlast
        have HNX : Hid (l[k + 1]? = some (ti, tq)) := hnx
        have hl1 : ((k : Int) == (l.length : Int) - 1) = false := by rw [beq_eq_false_iff_ne]; omega
        have HLT : Hid (k < l.length) := hlt
        have NE2 := fun w => pl_ne_same ti tq w
        obtain ⟨K, hK⟩ : ∃ K : World → Prop, K = fun W => V (n + 1) W ∧ Bk W wr.heap.size #[.int .i64 xi, .int .i64 xq] 27 ∧ Bk W w2.heap.size #[.int .i64 ti, .int .i64 tq, .int .i64 g0, .int .i64 g1, .int .i64 g2, .int .i64 g3] 55 := ⟨_, rfl⟩
        have K4 : K (w2.alloc (.cells #[.int .i64 ti, .int .i64 tq, .int .i64 g0, .int .i64 g1, .int .i64 g2, .int .i64 g3] 55)) := by rw [hK]; exact ⟨V4, Y4, Z4⟩
        have KK : ∀ {W W' : World}, Below W.heap.size W W' → K W → K W' := fun {W W'} hb h => by rw [hK] at h ⊢; exact ⟨KV hb h.1, h.2.1.keep hb, h.2.2.keep hb⟩
        have K5 : K (w2.alloc (.cells #[.int .i64 ti, .int .i64 tq, .int .i64 g0, .int .i64 g1, .int .i64 g2, .int .i64 g3] 55)).drew := KK (Below.refl _ _).drew K4
        have KX : Hid (∀ {W : World}, K W → V (n + 1) W) := fun {W} h => by rw [hK] at h; exact h.1
        have CTK : Hid (∀ W, K W → Calls Try.prog 10 #[.slice (some ⟨b, o, none⟩) k c6, .agg #[.int .i64 xi, .int .i64 xq]] W fun e w' => e = .returned (.bool false) ∧ Below W.heap.size W w') := fun W h => CT.out (x := (xi, xq)) W (KX.out h) HX
        obtain ⟨k', hk'⟩ : ∃ k', k' = k + 1 := ⟨_, rfl⟩
        have hkw : IntKind.i64.wrap ((k : Int) + 1) = (k' : Int) := by rw [IntKind.wrap_i64] <;> omega
        have q1 : (0 : Int) ≤ (k' : Int) := by omega
        have q2 : (k' : Int) < (l.length : Int) := by omega
        rw [← hk'] at HNX
        have HK1 : Hid (k' = k + 1) := hk'
        have KC : Hid (∀ W, K W → W.cell? ⟨wr.heap.size, 0, none⟩ = some (.int .i64 xi) ∧ W.cell? ⟨wr.heap.size, 1, none⟩ = some (.int .i64 xq) ∧ W.cell? ⟨w2.heap.size, 0, none⟩ = some (.int .i64 ti) ∧ W.cell? ⟨w2.heap.size, 1, none⟩ = some (.int .i64 tq) ∧ W.cell? ⟨b, o + k' * 2, none⟩ = some (.int .i64 ti) ∧ W.cell? ⟨b, o + k' * 2 + 1, none⟩ = some (.int .i64 tq)) := fun W h => by
          have hv := KX.out h
          rw [hK] at h
          obtain ⟨e0, e1⟩ := CEL.out (x := (ti, tq)) hv HNX
          exact ⟨h.2.1.at 0, h.2.1.at 1, h.2.2.at 0, h.2.2.at 1, e0, e1⟩
        clear hK K4 V4 Y4 Z4 y0 y1 z0 z1 hk'
        have k3 : (k : Int) ≤ (c6 : Int) := by omega
        have hnk' : n + 1 ≤ k + 1 := by omega
        clear CEL CT CF HX HW3 HW4 HW5 PKC FIN hcl hnk hnx hn2
        go_upto_region 16 with fail
        refine wp_region_held_drew (S := (fun w' => w'.cell? ⟨wr.heap.size, 0, none⟩ = some (.int .i64 xi) ∧ w'.cell? ⟨wr.heap.size, 1, none⟩ = some (.int .i64 xq) ∧ w'.cell? ⟨w2.heap.size, 0, none⟩ = some (.int .i64 ti) ∧ w'.cell? ⟨w2.heap.size, 1, none⟩ = some (.int .i64 tq) ∧ w'.cell? ⟨b, o + k' * 2, none⟩ = some (.int .i64 ti) ∧ w'.cell? ⟨b, o + k' * 2 + 1, none⟩ = some (.int .i64 tq))) (by kernel_rfl) (KC.out _ (by assumption)) (fun hHeld => ?_)
        refine' wpAnyH_take (i := 0) (v := _) rfl (by kernel_rfl) (by kernel_rfl) (by kernel_rfl) (fun _ _ _ h => h) (Or.inl ⟨by rfl, ?gy1⟩) (by assumption) ?gr1
        case gy1 => (intro w hSw; (try dsimp only at hSw); go_simp; (try with_reducible rfl))
        try simp only [List.getElem_toArray, List.getElem_cons_zero, Act.put, List.setIfInBounds_toArray, List.set_cons_zero, List.set_cons_succ]
        refine' wpAnyH_take (i := 1) (v := _) rfl (by kernel_rfl) (by kernel_rfl) (by kernel_rfl) (fun _ _ _ h => h) (Or.inl ⟨by rfl, ?gy2⟩) (by assumption) ?gr2
        case gy2 => (intro w hSw; (try dsimp only at hSw); go_simp; (try with_reducible rfl))
        try simp only [List.getElem_toArray, List.getElem_cons_zero, List.getElem_cons_succ, Act.put, List.setIfInBounds_toArray, List.set_cons_zero, List.set_cons_succ]
        refine' wpAnyH_take (i := 2) (v := _) rfl (by kernel_rfl) (by kernel_rfl) (by kernel_rfl) (fun _ _ _ h => h) (Or.inl ⟨by rfl, ?gy3⟩) (by assumption) ?gr3
        case gy3 => (intro w hSw; (try dsimp only at hSw); go_simp; (try with_reducible rfl))
        try simp only [List.getElem_toArray, List.getElem_cons_zero, List.getElem_cons_succ, Act.put, List.setIfInBounds_toArray, List.set_cons_zero, List.set_cons_succ]
        refine' wpAnyH_take (i := 3) (v := _) rfl (by kernel_rfl) (by kernel_rfl) (by kernel_rfl) (fun _ _ _ h => h) (Or.inl ⟨by rfl, ?gy4⟩) (by assumption) ?gr4
        case gy4 => (intro w hSw; (try dsimp only at hSw); go_simp; (try with_reducible rfl))
        try simp only [List.getElem_toArray, List.getElem_cons_zero, List.getElem_cons_succ, Act.put, List.setIfInBounds_toArray, List.set_cons_zero, List.set_cons_succ]
        refine wpAnyH_ready (rs := [4]) (by kernel_rfl) (by simp) (AllReadyH.cons rfl (fun K hK => ?_) AllReadyH.nil)
        go_simp
        (with_reducible refine (CTK.out _ (by assumption)).mono ?_); rintro e wz ⟨rfl, hbz⟩; have Kz := KK hbz (by assumption); clear hbz
        try go_wp2_with fail
        clear hHeld
        refine hK.out _ _ (KC.out _ (by assumption)) (fun hHeld => ?_)
        clear hK K
        try simp only [List.getElem_toArray, List.getElem_cons_zero, List.getElem_cons_succ, Act.put, List.setIfInBounds_toArray, List.set_cons_zero, List.set_cons_succ]
        refine' wpAnyH_take (i := 5) (v := _) rfl (by kernel_rfl) (by kernel_rfl) (by kernel_rfl) (fun _ _ _ h => h) (Or.inl ⟨by rfl, ?gy6⟩) (by assumption) ?gr6
        case gy6 => (intro w hSw; (try dsimp only at hSw); go_simp; (try with_reducible rfl))
        try simp only [List.getElem_toArray, List.getElem_cons_zero, List.getElem_cons_succ, Act.put, List.setIfInBounds_toArray, List.set_cons_zero, List.set_cons_succ]
        refine' wpAnyH_take (i := 6) (v := _) rfl (by kernel_rfl) (by kernel_rfl) (by kernel_rfl) (fun _ _ _ h => h) (Or.inl ⟨by rfl, ?gy7⟩) (by assumption) ?gr7
        case gy7 => (intro w hSw; (try dsimp only at hSw); go_simp; (try with_reducible rfl))
        try simp only [List.getElem_toArray, List.getElem_cons_zero, List.getElem_cons_succ, Act.put, List.setIfInBounds_toArray, List.set_cons_zero, List.set_cons_succ]
        refine' wpAnyH_take (i := 7) (v := _) rfl (by kernel_rfl) (by kernel_rfl) (by kernel_rfl) (fun _ _ _ h => h) (Or.inl ⟨by rfl, ?gy8⟩) (by assumption) ?gr8
        case gy8 => (intro w hSw; (try dsimp only at hSw); go_simp; (try with_reducible rfl))
        try simp only [List.getElem_toArray, List.getElem_cons_zero, List.getElem_cons_succ, Act.put, List.setIfInBounds_toArray, List.set_cons_zero, List.set_cons_succ]
        refine' wpAnyH_take (i := 8) (v := _) rfl (by kernel_rfl) (by kernel_rfl) (by kernel_rfl) (fun _ _ _ h => h) (Or.inl ⟨by rfl, ?gy9⟩) (by assumption) ?gr9
        case gy9 => (intro w hSw; (try dsimp only at hSw); go_simp; (try with_reducible rfl))
        try simp only [List.getElem_toArray, List.getElem_cons_zero, List.getElem_cons_succ, Act.put, List.setIfInBounds_toArray, List.set_cons_zero, List.set_cons_succ]
        refine' wpAnyH_take (i := 9) (v := _) rfl (by kernel_rfl) (by kernel_rfl) (by kernel_rfl) (fun _ _ _ h => h) (Or.inl ⟨by rfl, ?gy10⟩) (by assumption) ?gr10
        case gy10 => (intro w hSw; (try dsimp only at hSw); go_simp; (try with_reducible rfl))
        try simp only [List.getElem_toArray, List.getElem_cons_zero, List.getElem_cons_succ, Act.put, List.setIfInBounds_toArray, List.set_cons_zero, List.set_cons_succ]
        refine' wpAnyH_take (i := 10) (v := _) rfl (by kernel_rfl) (by kernel_rfl) (by kernel_rfl) (fun _ _ _ h => h) (Or.inl ⟨by rfl, ?gy11⟩) (by assumption) ?gr11
        case gy11 => (intro w hSw; (try dsimp only at hSw); go_simp; (try with_reducible rfl))
        try simp only [List.getElem_toArray, List.getElem_cons_zero, List.getElem_cons_succ, Act.put, List.setIfInBounds_toArray, List.set_cons_zero, List.set_cons_succ]
        refine' wpAnyH_take (i := 11) (v := _) rfl (by kernel_rfl) (by kernel_rfl) (by kernel_rfl) (fun _ _ _ h => h) (Or.inl ⟨by rfl, ?gy12⟩) (by assumption) ?gr12
        case gy12 => (intro w hSw; (try dsimp only at hSw); go_simp; (try with_reducible rfl))
        try simp only [List.getElem_toArray, List.getElem_cons_zero, List.getElem_cons_succ, Act.put, List.setIfInBounds_toArray, List.set_cons_zero, List.set_cons_succ]
        refine' wpAnyH_take (i := 12) (v := _) rfl (by kernel_rfl) (by kernel_rfl) (by kernel_rfl) (fun _ _ _ h => h) (Or.inl ⟨by rfl, ?gy13⟩) (by assumption) ?gr13
        case gy13 => (intro w hSw; (try dsimp only at hSw); go_simp; (try with_reducible rfl))
        try simp only [List.getElem_toArray, List.getElem_cons_zero, List.getElem_cons_succ, Act.put, List.setIfInBounds_toArray, List.set_cons_zero, List.set_cons_succ]
        refine' wpAnyH_take (i := 13) (v := _) rfl (by kernel_rfl) (by kernel_rfl) (by kernel_rfl) (fun _ _ _ h => h) (Or.inl ⟨by rfl, ?gy14⟩) (by assumption) ?gr14
        case gy14 => (intro w hSw; (try dsimp only at hSw); go_simp; (try with_reducible rfl))
        try simp only [List.getElem_toArray, List.getElem_cons_zero, List.getElem_cons_succ, Act.put, List.setIfInBounds_toArray, List.set_cons_zero, List.set_cons_succ]
        refine' wpAnyH_take (i := 14) (v := _) rfl (by kernel_rfl) (by kernel_rfl) (by kernel_rfl) (fun _ _ _ h => h) (Or.inl ⟨by rfl, ?gy15⟩) (by assumption) ?gr15
        case gy15 => (intro w hSw; (try dsimp only at hSw); go_simp; (try with_reducible rfl))
        try simp only [List.getElem_toArray, List.getElem_cons_zero, List.getElem_cons_succ, Act.put, List.setIfInBounds_toArray, List.set_cons_zero, List.set_cons_succ]
        refine' wpAnyH_take (i := 15) (v := _) rfl (by kernel_rfl) (by kernel_rfl) (by kernel_rfl) (fun _ _ _ h => h) (Or.inl ⟨by rfl, ?gy16⟩) (by assumption) ?gr16
        case gy16 => (intro w hSw; (try dsimp only at hSw); go_simp; (try with_reducible rfl))
        try simp only [List.getElem_toArray, List.getElem_cons_zero, List.getElem_cons_succ, Act.put, List.setIfInBounds_toArray, List.set_cons_zero, List.set_cons_succ]
        refine' wpAnyH_take (i := 16) (v := _) rfl (by kernel_rfl) (by kernel_rfl) (by kernel_rfl) (fun _ _ _ h => h) (Or.inl ⟨by rfl, ?gy17⟩) (by assumption) ?gr17
        case gy17 => (intro w hSw; (try dsimp only at hSw); go_simp; (try with_reducible rfl))
        try simp only [List.getElem_toArray, List.getElem_cons_zero, List.getElem_cons_succ, Act.put, List.setIfInBounds_toArray, List.set_cons_zero, List.set_cons_succ]
        refine' wpAnyH_take (i := 17) (v := _) rfl (by kernel_rfl) (by kernel_rfl) (by kernel_rfl) (fun _ _ _ h => h) (Or.inl ⟨by rfl, ?gy18⟩) (by assumption) ?gr18
        case gy18 => (intro w hSw; (try dsimp only at hSw); go_simp; (try with_reducible rfl))
        try simp only [List.getElem_toArray, List.getElem_cons_zero, List.getElem_cons_succ, Act.put, List.setIfInBounds_toArray, List.set_cons_zero, List.set_cons_succ]
        refine' wpAnyH_take (i := 18) (v := _) rfl (by kernel_rfl) (by kernel_rfl) (by kernel_rfl) (fun _ _ _ h => h) (Or.inl ⟨by rfl, ?gy19⟩) (by assumption) ?gr19
        case gy19 => (intro w hSw; (try dsimp only at hSw); go_simp; (try with_reducible rfl))
        try simp only [List.getElem_toArray, List.getElem_cons_zero, List.getElem_cons_succ, Act.put, List.setIfInBounds_toArray, List.set_cons_zero, List.set_cons_succ]
        refine' wpAnyH_take (i := 19) (v := _) rfl (by kernel_rfl) (by kernel_rfl) (by kernel_rfl) (fun _ _ _ h => h) (Or.inl ⟨by rfl, ?gy20⟩) (by assumption) ?gr20
        case gy20 => (intro w hSw; (try dsimp only at hSw); go_simp; (try with_reducible rfl))
        try simp only [List.getElem_toArray, List.getElem_cons_zero, List.getElem_cons_succ, Act.put, List.setIfInBounds_toArray, List.set_cons_zero, List.set_cons_succ]
        refine' wpAnyH_take (i := 20) (v := _) rfl (by kernel_rfl) (by kernel_rfl) (by kernel_rfl) (fun _ _ _ h => h) (Or.inl ⟨by rfl, ?gy21⟩) (by assumption) ?gr21
        case gy21 => (intro w hSw; (try dsimp only at hSw); go_simp; (try with_reducible rfl))
        try simp only [List.getElem_toArray, List.getElem_cons_zero, List.getElem_cons_succ, Act.put, List.setIfInBounds_toArray, List.set_cons_zero, List.set_cons_succ]
        refine' wpAnyH_take (i := 21) (v := _) rfl (by kernel_rfl) (by kernel_rfl) (by kernel_rfl) (fun _ _ _ h => h) (Or.inl ⟨by rfl, ?gy22⟩) (by assumption) ?gr22
        case gy22 => (intro w hSw; (try dsimp only at hSw); go_simp; (try with_reducible rfl))
        try simp only [List.getElem_toArray, List.getElem_cons_zero, List.getElem_cons_succ, Act.put, List.setIfInBounds_toArray, List.set_cons_zero, List.set_cons_succ]
        refine' wpAnyH_take (i := 22) (v := _) rfl (by kernel_rfl) (by kernel_rfl) (by kernel_rfl) (fun _ _ _ h => h) (Or.inl ⟨by rfl, ?gy23⟩) (by assumption) ?gr23
        case gy23 => (intro w hSw; (try dsimp only at hSw); go_simp; (try with_reducible rfl))
        try simp only [List.getElem_toArray, List.getElem_cons_zero, List.getElem_cons_succ, Act.put, List.setIfInBounds_toArray, List.set_cons_zero, List.set_cons_succ]
        refine' wpAnyH_take (i := 23) (v := _) rfl (by kernel_rfl) (by kernel_rfl) (by kernel_rfl) (fun _ _ _ h => h) (Or.inl ⟨by rfl, ?gy24⟩) (by assumption) ?gr24
        case gy24 => (intro w hSw; (try dsimp only at hSw); go_simp; (try with_reducible rfl))
        try simp only [List.getElem_toArray, List.getElem_cons_zero, List.getElem_cons_succ, Act.put, List.setIfInBounds_toArray, List.set_cons_zero, List.set_cons_succ]
        refine' wpAnyH_take (i := 24) (v := _) rfl (by kernel_rfl) (by kernel_rfl) (by kernel_rfl) (fun _ _ _ h => h) (Or.inl ⟨by rfl, ?gy25⟩) (by assumption) ?gr25
        case gy25 => (intro w hSw; (try dsimp only at hSw); go_simp; (try with_reducible rfl))
        try simp only [List.getElem_toArray, List.getElem_cons_zero, List.getElem_cons_succ, Act.put, List.setIfInBounds_toArray, List.set_cons_zero, List.set_cons_succ]
        refine' wpAnyH_take (i := 25) (v := _) rfl (by kernel_rfl) (by kernel_rfl) (by kernel_rfl) (fun _ _ _ h => h) (Or.inl ⟨by rfl, ?gy26⟩) (by assumption) ?gr26
        case gy26 => (intro w hSw; (try dsimp only at hSw); go_simp; (try with_reducible rfl))
        try simp only [List.getElem_toArray, List.getElem_cons_zero, List.getElem_cons_succ, Act.put, List.setIfInBounds_toArray, List.set_cons_zero, List.set_cons_succ]
        refine' wpAnyH_take (i := 26) (v := undef) rfl (by kernel_rfl) (by kernel_rfl) (by kernel_rfl) (fun _ _ _ h => h) (Or.inr ⟨by rfl, rfl⟩) (by assumption) ?gr27
        try simp only [List.getElem_toArray, List.getElem_cons_zero, List.getElem_cons_succ, Act.put, List.setIfInBounds_toArray, List.set_cons_zero, List.set_cons_succ]
        refine' wpAnyH_take (i := 27) (v := undef) rfl (by kernel_rfl) (by kernel_rfl) (by kernel_rfl) (fun _ _ _ h => h) (Or.inr ⟨by rfl, rfl⟩) (by assumption) ?gr28
        try simp only [List.getElem_toArray, List.getElem_cons_zero, List.getElem_cons_succ, Act.put, List.setIfInBounds_toArray, List.set_cons_zero, List.set_cons_succ]
        refine' wpAnyH_take (i := 28) (v := undef) rfl (by kernel_rfl) (by kernel_rfl) (by kernel_rfl) (fun _ _ _ h => h) (Or.inr ⟨by rfl, rfl⟩) (by assumption) ?gr29
        try simp only [List.getElem_toArray, List.getElem_cons_zero, List.getElem_cons_succ, Act.put, List.setIfInBounds_toArray, List.set_cons_zero, List.set_cons_succ]
        refine' wpAnyH_take (i := 29) (v := undef) rfl (by kernel_rfl) (by kernel_rfl) (by kernel_rfl) (fun _ _ _ h => h) (Or.inr ⟨by rfl, rfl⟩) (by assumption) ?gr30
        try simp only [List.getElem_toArray, List.getElem_cons_zero, List.getElem_cons_succ, Act.put, List.setIfInBounds_toArray, List.set_cons_zero, List.set_cons_succ]
        refine' wpAnyH_take (i := 30) (v := _) rfl (by kernel_rfl) (by kernel_rfl) (by kernel_rfl) (fun _ _ _ h => h) (Or.inl ⟨by rfl, ?gy31⟩) (by assumption) ?gr31
        case gy31 => (intro w hSw; (try dsimp only at hSw); go_simp; (try with_reducible rfl))
        try simp only [List.getElem_toArray, List.getElem_cons_zero, List.getElem_cons_succ, Act.put, List.setIfInBounds_toArray, List.set_cons_zero, List.set_cons_succ]
        refine' wpAnyH_take (i := 31) (v := _) rfl (by kernel_rfl) (by kernel_rfl) (by kernel_rfl) (fun _ _ _ h => h) (Or.inl ⟨by rfl, ?gy32⟩) (by assumption) ?gr32
        case gy32 => (intro w hSw; (try dsimp only at hSw); go_simp; (try with_reducible rfl))
        try simp only [List.getElem_toArray, List.getElem_cons_zero, List.getElem_cons_succ, Act.put, List.setIfInBounds_toArray, List.set_cons_zero, List.set_cons_succ]
        refine' wpAnyH_take (i := 32) (v := _) rfl (by kernel_rfl) (by kernel_rfl) (by kernel_rfl) (fun _ _ _ h => h) (Or.inl ⟨by rfl, ?gy33⟩) (by assumption) ?gr33
        case gy33 => (intro w hSw; (try dsimp only at hSw); go_simp; (try with_reducible rfl))
        try simp only [List.getElem_toArray, List.getElem_cons_zero, List.getElem_cons_succ, Act.put, List.setIfInBounds_toArray, List.set_cons_zero, List.set_cons_succ]
        refine' wpAnyH_take (i := 33) (v := _) rfl (by kernel_rfl) (by kernel_rfl) (by kernel_rfl) (fun _ _ _ h => h) (Or.inl ⟨by rfl, ?gy34⟩) (by assumption) ?gr34
        case gy34 => (intro w hSw; (try dsimp only at hSw); go_simp; (try with_reducible rfl))
        try simp only [List.getElem_toArray, List.getElem_cons_zero, List.getElem_cons_succ, Act.put, List.setIfInBounds_toArray, List.set_cons_zero, List.set_cons_succ]
        refine' wpAnyH_take (i := 34) (v := _) rfl (by kernel_rfl) (by kernel_rfl) (by kernel_rfl) (fun _ _ _ h => h) (Or.inl ⟨by rfl, ?gy35⟩) (by assumption) ?gr35
        case gy35 => (intro w hSw; (try dsimp only at hSw); go_simp; (try with_reducible rfl))
        try simp only [List.getElem_toArray, List.getElem_cons_zero, List.getElem_cons_succ, Act.put, List.setIfInBounds_toArray, List.set_cons_zero, List.set_cons_succ]
        refine' wpAnyH_take (i := 35) (v := undef) rfl (by kernel_rfl) (by kernel_rfl) (by kernel_rfl) (fun _ _ _ h => h) (Or.inr ⟨by rfl, rfl⟩) (by assumption) ?gr36
        try simp only [List.getElem_toArray, List.getElem_cons_zero, List.getElem_cons_succ, Act.put, List.setIfInBounds_toArray, List.set_cons_zero, List.set_cons_succ]
        refine' wpAnyH_take (i := 36) (v := _) rfl (by kernel_rfl) (by kernel_rfl) (by kernel_rfl) (fun _ _ _ h => h) (Or.inl ⟨by rfl, ?gy37⟩) (by assumption) ?gr37
        case gy37 => (intro w hSw; (try dsimp only at hSw); go_simp; (try with_reducible rfl))
        try simp only [List.getElem_toArray, List.getElem_cons_zero, List.getElem_cons_succ, Act.put, List.setIfInBounds_toArray, List.set_cons_zero, List.set_cons_succ]
        refine' wpAnyH_take (i := 37) (v := _) rfl (by kernel_rfl) (by kernel_rfl) (by kernel_rfl) (fun _ _ _ h => h) (Or.inl ⟨by rfl, ?gy38⟩) (by assumption) ?gr38
        case gy38 => (intro w hSw; (try dsimp only at hSw); go_simp; (try with_reducible rfl))
        try simp only [List.getElem_toArray, List.getElem_cons_zero, List.getElem_cons_succ, Act.put, List.setIfInBounds_toArray, List.set_cons_zero, List.set_cons_succ]
        refine' wpAnyH_take (i := 38) (v := undef) rfl (by kernel_rfl) (by kernel_rfl) (by kernel_rfl) (fun _ _ _ h => h) (Or.inr ⟨by rfl, rfl⟩) (by assumption) ?gr39
        try simp only [List.getElem_toArray, List.getElem_cons_zero, List.getElem_cons_succ, Act.put, List.setIfInBounds_toArray, List.set_cons_zero, List.set_cons_succ]
        refine' wpAnyH_take (i := 39) (v := undef) rfl (by kernel_rfl) (by kernel_rfl) (by kernel_rfl) (fun _ _ _ h => h) (Or.inr ⟨by rfl, rfl⟩) (by assumption) ?gr40
        try simp only [List.getElem_toArray, List.getElem_cons_zero, List.getElem_cons_succ, Act.put, List.setIfInBounds_toArray, List.set_cons_zero, List.set_cons_succ]
        refine' wpAnyH_take (i := 40) (v := undef) rfl (by kernel_rfl) (by kernel_rfl) (by kernel_rfl) (fun _ _ _ h => h) (Or.inr ⟨by rfl, rfl⟩) (by assumption) ?gr41
        try simp only [List.getElem_toArray, List.getElem_cons_zero, List.getElem_cons_succ, Act.put, List.setIfInBounds_toArray, List.set_cons_zero, List.set_cons_succ]
        refine' wpAnyH_take (i := 41) (v := undef) rfl (by kernel_rfl) (by kernel_rfl) (by kernel_rfl) (fun _ _ _ h => h) (Or.inr ⟨by rfl, rfl⟩) (by assumption) ?gr42
        try simp only [List.getElem_toArray, List.getElem_cons_zero, List.getElem_cons_succ, Act.put, List.setIfInBounds_toArray, List.set_cons_zero, List.set_cons_succ]
        refine' wpAnyH_take (i := 42) (v := undef) rfl (by kernel_rfl) (by kernel_rfl) (by kernel_rfl) (fun _ _ _ h => h) (Or.inr ⟨by rfl, rfl⟩) (by assumption) ?gr43
        try simp only [List.getElem_toArray, List.getElem_cons_zero, List.getElem_cons_succ, Act.put, List.setIfInBounds_toArray, List.set_cons_zero, List.set_cons_succ]
        refine' wpAnyH_take (i := 43) (v := _) rfl (by kernel_rfl) (by kernel_rfl) (by kernel_rfl) (fun _ _ _ h => h) (Or.inl ⟨by rfl, ?gy44⟩) (by assumption) ?gr44
        case gy44 => (intro w hSw; (try dsimp only at hSw); go_simp; (try with_reducible rfl))
        try simp only [List.getElem_toArray, List.getElem_cons_zero, List.getElem_cons_succ, Act.put, List.setIfInBounds_toArray, List.set_cons_zero, List.set_cons_succ]
        refine' wpAnyH_take (i := 44) (v := _) rfl (by kernel_rfl) (by kernel_rfl) (by kernel_rfl) (fun _ _ _ h => h) (Or.inl ⟨by rfl, ?gy45⟩) (by assumption) ?gr45
        case gy45 => (intro w hSw; (try dsimp only at hSw); go_simp; (try with_reducible rfl))
        try simp only [List.getElem_toArray, List.getElem_cons_zero, List.getElem_cons_succ, Act.put, List.setIfInBounds_toArray, List.set_cons_zero, List.set_cons_succ]
        refine wpAnyH_done (by kernel_rfl) ?_ _
        go_wp2_with fail
        go_roundw
        case rel => exact ⟨k', n + 1, by first | rfl | go_num, (by have := HLT.out; have := HK1.out; omega), (by have := HK1.out; omega), KX.out (by assumption)⟩
        case measure => (have := HLT.out; have := HK1.out; simp [intOf]; omega)

end Go.Proofs.Ythioedgnambomaa
