/-
  StepPlays: it returns true.
-/
import Derived.Test.YtgmjlkllghlmmaaGreatPt1
import Derived.Deep.RegionHeld3
import Derived.Laws.Tables
namespace Go.Proofs.YtgmjlkllghlmmaaGreat
open Go.RowKit Go.Maps

/-- An act of a law. -/
structure Ac where
  k : Int
  i : Int
  q : Int
  p : Pk
  c : Int
structure Ac.ok (x : Ac) : Prop where
  i : i64ok x.i
  p : x.p.ok
  c : i64ok x.c
def IsAc (cs : List Value) (x : Ac) : Prop := cs = [.int .i64 x.k, .int .i64 x.i, .int .i64 x.q, .int .i64 x.p.s, .int .i64 x.p.d, .int .i64 x.p.sp, .int .i64 x.p.dp, .int .i64 x.c] ∧ x.ok
theorem arr_ne_same (x y : Int) (a : Pk) (w : World) : (binOp .neq 43 (.agg #[.int .i64 x, .int .i64 y, .int .i64 a.s, .int .i64 a.d, .int .i64 a.sp, .int .i64 a.dp]) (.agg #[.int .i64 x, .int .i64 y, .int .i64 a.s, .int .i64 a.d, .int .i64 a.sp, .int .i64 a.dp])).run Tryz.prog w = .ok (.bool false) w := by
  obtain ⟨s, d, sp, dp⟩ := a
  simp [go_sem, Tryz.underlying43, Tryz.underlying37, Tryz.underlying39, Tryz.underlying3]
theorem wp_build1 {P : Program} {o : Oper} {a : Act} {w : World} {K : Act → World → Prop} {Q : Exit → Act → World → Prop} (t : TypeId) (x0 : Operand) (n0 : Nat) (ho : o.op = .build t #[(n0, x0)]) (v0 : Value) (cells : Array Value) (hr : (Instr.build t #[(n0, v0)]).run P w = .ok (.agg cells) w)
    (h0 : a.eval x0 = v0) (h : K (a.put o.dst (.agg cells)) w) : o.wp P a w K Q := by
  unfold Oper.wp execOp
  simp only [ho, List.map_toArray, List.map_cons, List.map_nil, h0, Sem.run_bind, hr, Result.andThen_ok]
  exact h
theorem mind_build (A L : Option Addr) (n c m d : Nat) (w : World) : (Instr.build 35 #[(0, .agg #[.slice A n c, .slice L m d])]).run Tryz.prog w = .ok (.agg #[.slice A n c, .slice L m d, .slice none 0 0]) w := by
  refine run_build w _ _ _ ?_
  kernel_rfl
set_option maxHeartbeats 8000000 in
set_option maxRecDepth 100000 in
theorem plays_try (A L A1 : Option Addr) (cap cap' cap1 : Nat) (ds : List Dv) (ls : List Lk) (xs : List Ac) (w : World) (hD : Hid (Devs w.heap.size w (.slice A ds.length cap) ds)) (hL : Hid (Links w.heap.size w (.slice L ls.length cap') ls)) (hX : Hid (SlAt w.heap.size w 8 IsAc (.slice A1 xs.length cap1) xs)) :
    Calls Tryz.prog 3 #[.agg #[.slice A ds.length cap, .slice L ls.length cap'], .slice A1 xs.length cap1] w fun e w' => e = .returned (.bool true) ∧ Below w.heap.size w w' := by
  have N2 : Hid (∀ (W : World), Below w.heap.size w W → Calls Tryz.prog 5 #[.agg #[.slice A ds.length cap, .slice L ls.length cap']] W (NewOut W ds ls)) := fun W h => new_any A L cap cap' ds ls W ((hD.out.below h).mono h.size) ((hL.out.below h).mono h.size)
  have RN : Hid (∀ (W : World), Below w.heap.size w W → Calls Tryz.prog 6 #[.agg #[.slice A ds.length cap, .slice L ls.length cap']] W fun e w' => e = .returned (.int .i64 (netV ds ls)) ∧ Below W.heap.size W w') := fun W h => rnet_any _ _ ds ls W ((hD.out.below h).mono h.size) ((hL.out.below h).mono h.size)
  have HXC : Hid (∀ (k : Nat) (x : Ac) W, Below w.heap.size w W → xs[k]? = some x → ∃ b o, A1 = some ⟨b, o, none⟩ ∧ W.cell? ⟨b, o + k * 8, none⟩ = some (.int .i64 x.k) ∧ W.cell? ⟨b, o + k * 8 + 1, none⟩ = some (.int .i64 x.i) ∧ W.cell? ⟨b, o + k * 8 + 2, none⟩ = some (.int .i64 x.q) ∧ W.cell? ⟨b, o + k * 8 + 3, none⟩ = some (.int .i64 x.p.s) ∧ W.cell? ⟨b, o + k * 8 + 4, none⟩ = some (.int .i64 x.p.d) ∧ W.cell? ⟨b, o + k * 8 + 5, none⟩ = some (.int .i64 x.p.sp) ∧ W.cell? ⟨b, o + k * 8 + 6, none⟩ = some (.int .i64 x.p.dp) ∧ W.cell? ⟨b, o + k * 8 + 7, none⟩ = some (.int .i64 x.c) ∧ x.ok) := fun k x W hb hk => by
    obtain ⟨_, _, e, _, _, _, h3⟩ := hX.out
    cases e
    obtain ⟨b, o, ea, hl, hr⟩ := h3 (fun e => by rw [e] at hk; cases hk)
    obtain ⟨cs, _, ⟨rfl, hok⟩, hc⟩ := hr k x hk
    exact ⟨b, o, ea, (hb.cell (p := ⟨b, _, none⟩) hl).trans (hc 0 _ rfl), (hb.cell (p := ⟨b, _, none⟩) hl).trans (hc 1 _ rfl), (hb.cell (p := ⟨b, _, none⟩) hl).trans (hc 2 _ rfl), (hb.cell (p := ⟨b, _, none⟩) hl).trans (hc 3 _ rfl), (hb.cell (p := ⟨b, _, none⟩) hl).trans (hc 4 _ rfl), (hb.cell (p := ⟨b, _, none⟩) hl).trans (hc 5 _ rfl), (hb.cell (p := ⟨b, _, none⟩) hl).trans (hc 6 _ rfl), (hb.cell (p := ⟨b, _, none⟩) hl).trans (hc 7 _ rfl), hok⟩
  have hlen : xs.length ≤ maxLen := by
    obtain ⟨_, _, e, _, h1, h2, _⟩ := hX.out
    cases e
    omega
  unfold maxLen at hlen
  have D0 := Below.alN (Below.refl w.heap.size w) (.cells #[.slice A ds.length cap, .slice L ls.length cap'] 25)
  have N0 := bk_new w #[.slice A ds.length cap, .slice L ls.length cap'] 25
  obtain ⟨n0, n1⟩ := N0.two
  clear hX
  go_enter Tryz.func3, Tryz.ntmps3
  go_wp2_with fail
  refine (N2.out _ D0).mono ?_
  rintro e w1 ⟨hb1, hN⟩
  have D1 := chnN hb1 D0
  have X1 := N0.keep hb1
  clear hb1 N0 n0 n1 D0
  obtain ⟨n0, n1⟩ := X1.two
  have zz : w.heap.size ≤ (w.alloc (.cells #[.slice A ds.length cap, .slice L ls.length cap'] 25)).heap.size := by simp
  rcases hN with ⟨hne, rfl⟩ | ⟨hz, m, rfl, hM, l1, l2, l3, l4, hz0, hp1, hp2⟩
  · dsimp only
    go_wp2_with fail
    refine (RN.out _ D1).mono ?_
    rintro e w2 ⟨rfl, hb2⟩
    have D2 := chnN hb2 D1
    have hz1 : (netV ds ls != 0) = true := by simpa using hne
    generalize netV ds ls = nv at *
    have HNZ : Hid (¬ nv = 0) := hne
    clear hne N2 RN hb2 D1 X1 n0 n1 zz hlen HXC
    dsimp only
    go_wp2_with fail
    all_goals first | exact absurd (by assumption) HNZ.out | skip
    all_goals
      go_ret
      exact ⟨by simp, D2⟩
  have HZ0 : Hid (m.z = 0) := hz0
  clear hz0 hp1 hp2
  have RN0 : Hid (∀ (W : World), Below w.heap.size w W → Calls Tryz.prog 6 #[.agg #[.slice A ds.length cap, .slice L ls.length cap']] W fun e w' => e = .returned (.int .i64 0) ∧ Below W.heap.size W w') := fun W h => by
    have := RN.out W h
    rw [hz] at this
    exact this
  clear RN
  dsimp only
  go_wp2_with fail
  refine (RN0.out _ D1).mono ?_
  rintro e w2 ⟨rfl, hb2⟩
  have D2 := chnN hb2 D1
  have X2 := X1.keep hb2
  clear n0 n1 X1 RN0 N2
  obtain ⟨n0, n1⟩ := X2.two
  by_cases h80 : 80 < xs.length
  · have hd : decide ((80 : Int) < (xs.length : Int)) = true := by simp; omega
    clear h80 hb2 D1
    dsimp only
    go_wp2_with fail
    go_ret
    exact ⟨rfl, D2⟩
  have hd : decide ((80 : Int) < (xs.length : Int)) = false := by simp; omega
  have hl80 : xs.length ≤ 80 := by omega
  have Q0 := ps_start hD.out hL.out D1 hM (by omega) (by omega) (by omega) HZ0.out hb2
  have FX := l_facts w ds ls (.pointer (some ⟨w2.heap.size, 0, none⟩)) (addrs_of hz) (small_of hz)
  generalize L1 w ds ls (.pointer (some ⟨w2.heap.size, 0, none⟩)) = P1 at *
  generalize L2 w ds ls (.pointer (some ⟨w2.heap.size, 0, none⟩)) = P2 at *
  generalize L3 w ds ls (.pointer (some ⟨w2.heap.size, 0, none⟩)) = P3 at *
  generalize (Value.pointer (some ⟨m.B, m.z, none⟩)) = vm0 at *
  clear hz hM l1 l2 l3 l4 HZ0 hb2 D1 D2 X2 zz hlen h80 hD hL m w1
  dsimp only
  go_upto_region 7 with fail
  go_step
  go_step
  go_step
  go_step
  go_step
  refine wp_build1 35 _ 0 (by rfl) _ _ (mind_build A L _ _ _ _ _) (by rfl) ?_
  clear n0 n1
  go_wp2_with fail
  go_loopw [5, 43] (fun vm i wr => ∃ k : Nat, i = .int .i64 (k : Int) ∧ k ≤ xs.length ∧ P1 k vm wr) (fun _ i _ => xs.length - (intOf i).toNat)
  case atStart => exact ⟨0, rfl, by omega, Q0⟩
  case round =>
    clear Q0
    obtain ⟨k, rfl, hk, Q1⟩ := hrel
    by_cases hlt : k < xs.length
    rotate_left
    · have hke : decide ((k : Int) < (xs.length : Int)) = false := by simp; omega
      have DE := FX.b1 Q1
      go_wp2_with fail
      go_ret
      exact ⟨rfl, DE⟩
    obtain ⟨x, hxk⟩ : ∃ x, xs[k]? = some x := ⟨_, List.getElem?_eq_getElem hlt⟩
    obtain ⟨b, o, rfl, c0, c1, c2, c3, c4, c5, c6, c7, hok⟩ := HXC.out k x wr (FX.b1 Q1) hxk
    obtain ⟨xk, xi, xq, ⟨s, d, sp, dp⟩, xc⟩ := x
    have HO : Hid (Ac.ok ⟨xk, xi, xq, ⟨s, d, sp, dp⟩, xc⟩) := hok
    have k1 : (0 : Int) ≤ (k : Int) := by omega
    have k2 : (k : Int) < (xs.length : Int) := by omega
    have X1 := bk_new wr #[.int .i64 xk, .int .i64 xi, .int .i64 xq, .int .i64 s, .int .i64 d, .int .i64 sp, .int .i64 dp, .int .i64 xc] 41
    have Q2 := FX.k1 Q1 ((Below.refl wr.heap.size wr).alloc (Nat.le_refl _) (.cells #[.int .i64 xk, .int .i64 xi, .int .i64 xq, .int .i64 s, .int .i64 d, .int .i64 sp, .int .i64 dp, .int .i64 xc] 41))
    clear hxk hok Q1 HXC
    have e0 := X1.at 0
    have e1 := X1.at 1
    have e2 := X1.at 2
    have e3 := X1.at 3
    have e4 := X1.at 4
    have e5 := X1.at 5
    have e6 := X1.at 6
    have e7 := X1.at 7
    dsimp only at *
    by_cases h0 : xk = 0
    · subst h0
      go_wp2_with fail
      refine (FX.h1 xi xq ⟨s, d, sp, dp⟩ xc Q2 HO.out.i HO.out.c (by omega)).mono ?_
      rintro e w3 ⟨⟨t1, t2⟩, ⟨ys, yd, ysp, ydp⟩, err, rfl, Q3, C3⟩
      have X3 := (X1.ck C3).alloc (.cells #[.int .i64 t1, .int .i64 t2, .int .i64 ys, .int .i64 yd, .int .i64 ysp, .int .i64 ydp] 43)
      have Y3 := bk_new w3 #[.int .i64 t1, .int .i64 t2, .int .i64 ys, .int .i64 yd, .int .i64 ysp, .int .i64 ydp] 43
      have Q4 := FX.k2 Q3 ((Below.refl w3.heap.size w3).alloc (Nat.le_refl _) (.cells #[.int .i64 t1, .int .i64 t2, .int .i64 ys, .int .i64 yd, .int .i64 ysp, .int .i64 ydp] 43))
      clear e0 e1 e2 e3 e4 e5 e6 e7 C3 Q3 Q2 X1 c0 c1 c2 c3 c4 c5 c6 c7
      have e0 := X3.at 0
      have e1 := X3.at 1
      have e2 := X3.at 2
      have e3 := X3.at 3
      have e4 := X3.at 4
      have e5 := X3.at 5
      have e6 := X3.at 6
      have e7 := X3.at 7
      dsimp only
      go_wp2_with fail
      refine (FX.h2 Q4 (by omega)).mono ?_
      rintro e w5 ⟨rfl, Q5, KB⟩
      have Y5 := (KB _ _ _ Y3 (by decide) (by decide)).alloc (.cells #[.int .i64 t1, .int .i64 t2, .int .i64 ys, .int .i64 yd, .int .i64 ysp, .int .i64 ydp] 43)
      have Z5 := bk_new w5 #[.int .i64 t1, .int .i64 t2, .int .i64 ys, .int .i64 yd, .int .i64 ysp, .int .i64 ydp] 43
      have Q6 := FX.k1 Q5 ((Below.refl w5.heap.size w5).alloc (Nat.le_refl _) (.cells #[.int .i64 t1, .int .i64 t2, .int .i64 ys, .int .i64 yd, .int .i64 ysp, .int .i64 ydp] 43))
      obtain ⟨⟨y0, y1, y2, y3, y4, y5⟩, _⟩ := Y5.six
      obtain ⟨⟨z0, z1, z2, z3, z4, z5⟩, _⟩ := Z5.six
      have an := fun W => arr_ne_same t1 t2 ⟨ys, yd, ysp, ydp⟩ W
      clear e0 e1 e2 e3 e4 e5 e6 e7 KB Q4 Q5 X3 Y3 Y5 Z5
      dsimp only at an ⊢
      go_wp2_with fail
      go_roundw
      case rel => exact ⟨k + 1, by go_num, by omega, Q6⟩
      case measure => simp [intOf]; omega
    by_cases h1 : xk = 1
    · have f0 : (xk == 0) = false := by simpa using h0
      subst h1
      clear h0
      have Q2d := FX.k1 Q2 (Below.refl _ _).drew
      have X1d := X1.drew
      go_wp2_with fail
      go_cut [5, 101] from 47 to 101 (fun v5 v101 wx => v101 = .bool false ∧ P1 (k + 1) v5 wx)
      case first =>
        go_region_held3 (fun w' => w'.cell? ⟨wr.heap.size, 1, none⟩ = some (.int .i64 xi) ∧ w'.cell? ⟨wr.heap.size, 3, none⟩ = some (.int .i64 s) ∧ w'.cell? ⟨wr.heap.size, 4, none⟩ = some (.int .i64 d) ∧ w'.cell? ⟨wr.heap.size, 5, none⟩ = some (.int .i64 sp) ∧ w'.cell? ⟨wr.heap.size, 6, none⟩ = some (.int .i64 dp) ∧ w'.cell? ⟨wr.heap.size, 7, none⟩ = some (.int .i64 xc)) (go_keep) (first | (go_at_call 9; refine (FX.f1 xi ⟨s, d, sp, dp⟩ xc Q2d HO.out.i HO.out.p HO.out.c (by omega)).mono ?_; rintro e w3 ⟨err, rfl, Q3, C3⟩; have X3 := X1d.ck C3; have g1 := X3.at 1; have g3 := X3.at 3; have g4 := X3.at 4; have g5 := X3.at 5; have g6 := X3.at 6; have g7 := X3.at 7) | (go_at_call 10; refine (FX.f2 Q3 (by omega)).mono ?_; rintro e w4 ⟨rfl, Q4, KB⟩; have X4 := KB _ _ _ X3 (by decide) (by decide); have g1 := X4.at 1; have g3 := X4.at 3; have g4 := X4.at 4; have g5 := X4.at 5; have g6 := X4.at 6; have g7 := X4.at 7))
        go_wp2_with fail
        go_meet
        exact ⟨by simp, Q4⟩
      case rest =>
        obtain ⟨rfl, Q4⟩ := hcut
        go_wp2_with fail
        go_roundw
        case rel => exact ⟨k + 1, by go_num, by omega, Q4⟩
        case measure => simp [intOf]; omega
    by_cases h2 : xk = 2
    · have f0 : (xk == 0) = false := by simpa using h0
      have f1 : (xk == 1) = false := by simpa using h1
      subst h2
      clear h0 h1
      go_wp2_with fail
      refine (FX.c1 Q2).mono ?_
      rintro e w3 ⟨v, rfl, Q3, hb3⟩
      have Q4 := FX.u1 Q3
      clear e0 e1 e2 e3 e4 e5 e6 e7 Q2 Q3 X1 hb3 c0 c1 c2 c3 c4 c5 c6 c7
      dsimp only
      go_wp2_with fail
      go_roundw
      case rel => exact ⟨k + 1, by go_num, by omega, Q4⟩
      case measure => simp [intOf]; omega
    have f0 : (xk == 0) = false := by simpa using h0
    have f1 : (xk == 1) = false := by simpa using h1
    have f2 : (xk == 2) = false := by simpa using h2
    have Q3 := FX.u1 Q2
    clear h0 h1 h2
    go_wp2_with fail
    all_goals first | exact absurd (by assumption) (by simpa using f0) | exact absurd (by assumption) (by simpa using f1) | exact absurd (by assumption) (by simpa using f2) | skip
    go_roundw
    case rel => exact ⟨k + 1, by go_num, by omega, Q3⟩
    case measure => simp [intOf]; omega
end Go.Proofs.YtgmjlkllghlmmaaGreat
