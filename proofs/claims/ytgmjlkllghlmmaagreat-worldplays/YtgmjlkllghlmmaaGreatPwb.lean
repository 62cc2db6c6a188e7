/-
  WorldPlays: it returns true.
-/
import Derived.Test.YtgmjlkllghlmmaaGreatLy
import Derived.Test.YtgmjlkllghlmmaaGreatGX
import Derived.Deep.RegionHeld3
import Derived.Deep.CutRange
namespace Go.Proofs.YtgmjlkllghlmmaaGreat
open Go.RowKit Go.Maps

set_option maxHeartbeats 8000000 in
set_option maxRecDepth 100000 in
theorem wplays_try (A L A1 : Option Addr) (cap cap' cap1 : Nat) (ds : List Dv) (ls : List Lk) (xs : List Ev) (w : World) (hD : Hid (Devs w.heap.size w (.slice A ds.length cap) ds)) (hL : Hid (Links w.heap.size w (.slice L ls.length cap') ls)) (hX : Hid (SlAt w.heap.size w 8 IsEv (.slice A1 xs.length cap1) xs)) :
    Calls Tryz.prog 4 #[.agg #[.slice A ds.length cap, .slice L ls.length cap'], .slice A1 xs.length cap1] w fun e w' => e = .returned (.bool true) ∧ Below w.heap.size w w' := by
  have NW : Hid (∀ (W : World), Below w.heap.size w W → Calls Tryz.prog 12 #[.agg #[.slice A ds.length cap, .slice L ls.length cap']] W (WNew W ds ls)) := fun W h => wnew_any A L cap cap' ds ls W ((hD.out.below h).mono h.size) ((hL.out.below h).mono h.size)
  have RN : Hid (∀ (W : World), Below w.heap.size w W → Calls Tryz.prog 6 #[.agg #[.slice A ds.length cap, .slice L ls.length cap']] W fun e w' => e = .returned (.int .i64 (netV ds ls)) ∧ Below W.heap.size W w') := fun W h => rnet_any _ _ ds ls W ((hD.out.below h).mono h.size) ((hL.out.below h).mono h.size)
  have NT : Hid (∀ (W : World), Below w.heap.size w W → Calls Tryz.prog 13 #[.agg #[.slice A ds.length cap, .slice L ls.length cap']] W fun e w' => e = .returned (.pointer (some ⟨W.heap.size + 2, 0, none⟩)) ∧ TlAt w' (W.heap.size + 2) (W.heap.size + 1) A L cap cap' none 0 none 0 ds ls [] [] ∧ Below W.heap.size W w' ∧ W.heap.size + 2 < w'.heap.size) := fun W h => newtale_any A L cap cap' ds ls W ((hD.out.below h).mono h.size) ((hL.out.below h).mono h.size)
  have RUN : Hid (netV ds ls = 0 → xs.length ≤ 80 → ∀ (W : World), Below w.heap.size w W → Calls Tryz.prog 20 #[.agg #[.slice A ds.length cap, .slice L ls.length cap'], .slice A1 xs.length cap1] W (RunOut W ds ls xs)) := fun hz h8 W h => run_any A L A1 cap cap' cap1 ds ls xs W ((hD.out.below h).mono h.size) ((hL.out.below h).mono h.size) ((SlAt.below hX.out h (fun _ _ _ h => h)).mono h.size (fun _ _ _ h => h)) hz h8
  have HXC : Hid (∀ (k : Nat) (x : Ev) W, Below w.heap.size w W → xs[k]? = some x → ∃ b o, A1 = some ⟨b, o, none⟩ ∧ W.cell? ⟨b, o + k * 8, none⟩ = some (.int .i64 x.k) ∧ W.cell? ⟨b, o + k * 8 + 1, none⟩ = some (.int .i64 x.i) ∧ W.cell? ⟨b, o + k * 8 + 2, none⟩ = some (.int .i64 x.q) ∧ W.cell? ⟨b, o + k * 8 + 3, none⟩ = some (.int .i64 x.p.s) ∧ W.cell? ⟨b, o + k * 8 + 4, none⟩ = some (.int .i64 x.p.d) ∧ W.cell? ⟨b, o + k * 8 + 5, none⟩ = some (.int .i64 x.p.sp) ∧ W.cell? ⟨b, o + k * 8 + 6, none⟩ = some (.int .i64 x.p.dp) ∧ W.cell? ⟨b, o + k * 8 + 7, none⟩ = some (.int .i64 x.c) ∧ x.ok) := fun k x W hb hk => by
    obtain ⟨_, _, e, _, _, _, h3⟩ := hX.out
    cases e
    obtain ⟨b, o, ea, hl, hr⟩ := h3 (fun e => by rw [e] at hk; cases hk)
    obtain ⟨cs, _, ⟨rfl, hok⟩, hc⟩ := hr k x hk
    exact ⟨b, o, ea, (hb.cell (p := ⟨b, _, none⟩) hl).trans (hc 0 _ rfl), (hb.cell (p := ⟨b, _, none⟩) hl).trans (hc 1 _ rfl), (hb.cell (p := ⟨b, _, none⟩) hl).trans (hc 2 _ rfl), (hb.cell (p := ⟨b, _, none⟩) hl).trans (hc 3 _ rfl), (hb.cell (p := ⟨b, _, none⟩) hl).trans (hc 4 _ rfl), (hb.cell (p := ⟨b, _, none⟩) hl).trans (hc 5 _ rfl), (hb.cell (p := ⟨b, _, none⟩) hl).trans (hc 6 _ rfl), (hb.cell (p := ⟨b, _, none⟩) hl).trans (hc 7 _ rfl), hok⟩
  have hlen : xs.length ≤ maxLen := by
    obtain ⟨_, _, e, _, h1, h2, _⟩ := hX.out
    cases e
    omega
  unfold maxLen at hlen
  have D0 := Below.alN (Below.refl w.heap.size w) (.cells #[.slice A ds.length cap, .slice L ls.length cap'] 25)
  have N0 := bk_new w #[.slice A ds.length cap, .slice L ls.length cap'] 25
  obtain ⟨n0, n1⟩ := N0.two
  clear hX
  go_enter Tryz.func4, Tryz.ntmps4
  go_wp2_with fail
  refine (NW.out _ D0).mono ?_
  rintro e w1 ⟨hb1, hN⟩
  have D1 := chnN hb1 D0
  have X1 := N0.keep hb1
  clear hb1 N0 n0 n1 D0 NW
  obtain ⟨n0, n1⟩ := X1.two
  have zz : w.heap.size < (w.alloc (.cells #[.slice A ds.length cap, .slice L ls.length cap'] 25)).heap.size := by simp
  rcases hN with ⟨hne, rfl⟩ | ⟨hz, p, rfl, hW, l1, l2, l3, l4, l5⟩
  · dsimp only
    go_wp2_with fail
    refine (RN.out _ D1).mono ?_
    rintro e w2 ⟨rfl, hb2⟩
    have D2 := chnN hb2 D1
    have hz1 : (netV ds ls != 0) = true := by simpa using hne
    generalize netV ds ls = nv at *
    have HNZ : Hid (¬ nv = 0) := hne
    clear hne RN NT RUN hb2 D1 X1 n0 n1 zz hlen HXC
    dsimp only
    go_wp2_with fail
    all_goals first | exact absurd (by assumption) HNZ.out | skip
    all_goals
      go_ret
      exact ⟨by simp, D2⟩
  have RN0 : Hid (∀ (W : World), Below w.heap.size w W → Calls Tryz.prog 6 #[.agg #[.slice A ds.length cap, .slice L ls.length cap']] W fun e w' => e = .returned (.int .i64 0) ∧ Below W.heap.size W w') := fun W h => by
    have := RN.out W h
    rw [hz] at this
    exact this
  clear RN
  dsimp only
  go_wp2_with fail
  refine (RN0.out _ D1).mono ?_
  rintro e w2 ⟨rfl, hb2⟩
  have D2 := chnN hb2 D1
  have X2 := X1.keep hb2
  have W2' := hW.below hb2
  clear n0 n1 X1 RN0 hb2 D1 hW
  obtain ⟨n0, n1⟩ := X2.two
  by_cases h80 : 80 < xs.length
  · have hd : decide ((80 : Int) < (xs.length : Int)) = true := by simp; omega
    clear h80
    dsimp only
    go_wp2_with fail
    go_ret
    exact ⟨rfl, D2⟩
  have hd : decide ((80 : Int) < (xs.length : Int)) = false := by simp; omega
  have hl80 : xs.length ≤ 80 := by omega
  have LO : LoW (w.alloc (.cells #[.slice A ds.length cap, .slice L ls.length cap'] 25)) p := ⟨l1, l2, l3, l4, l5⟩
  have D2d := D2.drew
  have HD9 := hD
  have HL9 := hL
  have ST : Hid (∀ w3 w4, TlAt w3 (w2.heap.size + 2) (w2.heap.size + 1) A L cap cap' none 0 none 0 ds ls [] [] → Below w2.heap.size w2 w3 → w2.heap.size + 2 < w3.heap.size → TlAt w4 (w3.heap.size + 2) (w3.heap.size + 1) A L cap cap' none 0 none 0 ds ls [] [] → Below w3.heap.size w3 w4 → W1 w ds ls A L cap cap' p.B (w2.heap.size + 2) (w3.heap.size + 2) 0 [(w.heap.size, #[.slice A ds.length cap, .slice L ls.length cap'], 25)] w4) := fun w3 w4 a b c d e => w_start hD.out hL.out D2 X2 W2' LO zz a b c d e
  have BLX : Hid (∀ b, b < w2.heap.size → True) := fun _ _ => trivial
  clear BLX hD hL LO l1 l2 l3 l4 l5 zz W2' h80 hlen HD9 HL9
  dsimp only
  go_wp2_with fail
  go_cut [8, 9] from 41 to 44 (fun v8 v9 wx => ∃ T1 T2, v8 = .pointer (some ⟨T1, 0, none⟩) ∧ v9 = .pointer (some ⟨T2, 0, none⟩) ∧ W1 w ds ls A L cap cap' p.B T1 T2 0 [(w.heap.size, #[.slice A ds.length cap, .slice L ls.length cap'], 25)] wx)
  case first =>
    go_region_held3 (fun w' => w'.cell? ⟨w.heap.size, 0, none⟩ = some (.slice A ds.length cap) ∧ w'.cell? ⟨w.heap.size, 1, none⟩ = some (.slice L ls.length cap')) (go_keep) ((go_at_call 13; first | (refine (NT.out _ D3).mono ?_; rintro e w4 ⟨rfl, T4, hb4, z4⟩; have X4 := X3.keep hb4; obtain ⟨n4, n5⟩ := X4.two) | (refine (NT.out _ D2d).mono ?_; rintro e w3 ⟨rfl, T3, hb3, z3⟩; have D3 := chnN hb3 D2d; have X3 := X2.drew.keep hb3; obtain ⟨n2, n3⟩ := X3.two)))
    repeat (first | go_guarded | go_step)
    go_meet
    exact ⟨_, _, rfl, rfl, ST.out w3 w4 T3 ((Below.refl w2.heap.size w2).drew.trans hb3) z3 T4 hb4⟩
  case rest =>
    obtain ⟨T1, T2, rfl, rfl, Q0⟩ := hcut
    have FX := w_facts w ds ls A L cap cap' p.B T1 T2 hz
    have RS : Hid (∀ (k : Nat) (X : Xs) (W W' : World) (A3 : Option Addr) (c3 : Nat) (zs : List Arv), W1 w ds ls A L cap cap' p.B T1 T2 k X W → Below W.heap.size W W' → SlAt W'.heap.size W' 6 IsArv (.slice A3 zs.length c3) zs → (∀ a, A3 = some a → W.heap.size ≤ a.block ∧ a.block < W'.heap.size) → R1 w ds ls xs A L cap cap' T2 A3 c3 zs 0 W') := fun k X W W' A3 c3 zs h1 h2 h3 h4 => r_start h1 h2 h3 h4
    have RK : Hid (∀ A3 c3 zs k W W', R1 w ds ls xs A L cap cap' T2 A3 c3 zs k W → Below W.heap.size W W' → R1 w ds ls xs A L cap cap' T2 A3 c3 zs k W') := fun A3 c3 zs k W W' h hb => r_keep h hb
    have RB : Hid (∀ A3 c3 zs k W, R1 w ds ls xs A L cap cap' T2 A3 c3 zs k W → Below w.heap.size w W) := fun A3 c3 zs k W h => by
      obtain ⟨t, FL, lo, hi, h0, h1, h2, h3⟩ := h
      exact h2
    have RD : Hid (∀ A3 c3 zs k (x : Ev) W, R1 w ds ls xs A L cap cap' T2 A3 c3 zs k W → xs[k]? = some x → k ≤ 100 → Calls Tryz.prog 15 #[.pointer (some ⟨T2, 0, none⟩), .agg (evC x)] W fun e w' => e = .returned (.int .i64 (doP ds ls (stN ds ls xs k).1 (stN ds ls xs k).2 x).1) ∧ R1 w ds ls xs A L cap cap' T2 A3 c3 zs (k + 1) w') := fun A3 c3 zs k x W h hx hk => r_do hz h hx hk
    have RE : Hid (∀ A3 c3 k W, R1 w ds ls xs A L cap cap' T2 A3 c3 (stN ds ls xs k).2 k W → ∃ S1 c1, W.cell? ⟨T2, 1, none⟩ = some (.slice S1 (stN ds ls xs k).2.length c1) ∧ Calls Tryz.prog 16 #[.slice A3 (stN ds ls xs k).2.length c3, .slice S1 (stN ds ls xs k).2.length c1] W fun e w' => e = .returned (.bool true) ∧ Below W.heap.size W w') := fun A3 c3 k W h => r_eq h
    have RUN' : Hid (∀ (W : World), Below w.heap.size w W → Calls Tryz.prog 20 #[.agg #[.slice A ds.length cap, .slice L ls.length cap'], .slice A1 xs.length cap1] W (RunOut W ds ls xs)) := RUN.out hz hl80
    generalize W1 w ds ls A L cap cap' p.B T1 T2 = P1 at *
    generalize W2 w ds ls A L cap cap' p.B T1 T2 = P2 at *
    generalize W3 w ds ls A L cap cap' p.B T1 T2 = P3 at *
    generalize W4 w ds ls A L cap cap' p.B T1 T2 = P4 at *
    generalize R1 w ds ls xs A L cap cap' T2 = R at *
    generalize p.B = pB at *
    clear RUN NT ST D2 D2d X2 n0 n1 hz
    go_wp2_with fail
    go_loopw [47] (fun i wr => ∃ k : Nat, i = .int .i64 (k : Int) ∧ k ≤ xs.length ∧ P1 k [(w.heap.size, #[.slice A ds.length cap, .slice L ls.length cap'], 25)] wr) (fun i _ => xs.length - (intOf i).toNat)
    case atStart => exact ⟨0, rfl, by omega, Q0⟩
    case round =>
      clear Q0
      obtain ⟨k, rfl, hk, Q1⟩ := hrel
      by_cases hlt : k < xs.length
      rotate_left
      · have hke : decide ((k : Int) < (xs.length : Int)) = false := by simp; omega
        obtain ⟨n0, n1⟩ := (FX.x1 Q1 (List.Mem.head _)).two
        go_wp2_with fail
        refine (RUN'.out _ (FX.bl Q1)).mono ?_
        rintro e w3 ⟨hb3, hR⟩
        clear RUN' n0 n1 hke
        rcases hR with ⟨i0, x0, hx0, hok0, hne0, rfl⟩ | ⟨hokA, A3, c3, rfl, hrow, hA3⟩
        · have Q3 := RS.out k _ wr w3 none 0 [] Q1 hb3 ⟨none, 0, rfl, (fun _ => rfl), Nat.le_refl _, Nat.zero_le _, fun h => absurd rfl h⟩ (fun a h => by cases h)
          have hi0 : i0 < xs.length := (List.getElem?_eq_some_iff.1 hx0).1
          have RD0 : Hid (∀ k (x : Ev) W, R none 0 [] k W → xs[k]? = some x → k ≤ i0 → Calls Tryz.prog 15 #[.pointer (some ⟨T2, 0, none⟩), .agg (evC x)] W fun e w' => (k < i0 ∧ e = .returned (.int .i64 0) ∧ R none 0 [] (k + 1) w') ∨ (k = i0 ∧ e = .returned (.int .i64 (doP ds ls (stN ds ls xs i0).1 (stN ds ls xs i0).2 x0).1) ∧ Below w.heap.size w w')) := fun k x W h hx hki => (RD.out none 0 [] k x W h hx (by omega)).mono fun e w' ⟨he, hr⟩ => by
            by_cases e1 : k = i0
            · subst e1
              rw [hx] at hx0
              cases hx0
              exact Or.inr ⟨rfl, he, RB.out _ _ _ _ _ hr⟩
            · exact Or.inl ⟨by omega, by rw [he, hok0 k x (by omega) hx], hr⟩
          have HNE : Hid (¬ (doP ds ls (stN ds ls xs i0).1 (stN ds ls xs i0).2 x0).1 = 0) := hne0
          generalize (doP ds ls (stN ds ls xs i0).1 (stN ds ls xs i0).2 x0).1 = er at *
          clear RS RD RE hx0 hok0 hne0 Q1 hb3 hlt hk FX
          have RB0 : Hid (∀ k W, R none 0 [] k W → Below w.heap.size w W) := fun k W h => RB.out _ _ _ _ _ h
          have RK0 : Hid (∀ k W W', R none 0 [] k W → Below W.heap.size W W' → R none 0 [] k W') := fun k W W' h hb => RK.out _ _ _ _ _ _ h hb
          clear RB RK
          generalize R none 0 [] = RR at *
          dsimp only
          go_wp2_with fail
          go_loopw [98] (fun i wr => ∃ k : Nat, i = .int .i64 (k : Int) ∧ k ≤ i0 ∧ RR k wr) (fun i _ => xs.length - (intOf i).toNat)
          case atStart => exact ⟨0, rfl, by omega, Q3⟩
          case round =>
            clear Q3
            obtain ⟨k, rfl, hk, Q1⟩ := hrel
            have hlt : k < xs.length := by omega
            obtain ⟨x, hxk⟩ : ∃ x, xs[k]? = some x := ⟨_, List.getElem?_eq_getElem hlt⟩
            obtain ⟨b, o, rfl, c0, c1, c2, c3, c4, c5, c6, c7, hok⟩ := HXC.out k x wr (RB0.out _ _ Q1) hxk
            obtain ⟨xk, xi, xq, ⟨s, pd, sp, dp⟩, xc⟩ := x
            have HO : Hid (Ev.ok ⟨xk, xi, xq, ⟨s, pd, sp, dp⟩, xc⟩) := hok
            have HXK : Hid (xs[k]? = some ⟨xk, xi, xq, ⟨s, pd, sp, dp⟩, xc⟩) := hxk
            have k1 : (0 : Int) ≤ (k : Int) := by omega
            have k2 : (k : Int) < (xs.length : Int) := by omega
            have X1 := bk_new wr #[.int .i64 xk, .int .i64 xi, .int .i64 xq, .int .i64 s, .int .i64 pd, .int .i64 sp, .int .i64 dp, .int .i64 xc] 56
            dsimp only at c0 c1 c2 c3 c4 c5 c6 c7
            have Q2 := RK0.out _ _ _ Q1 ((Below.refl wr.heap.size wr).alloc (Nat.le_refl _) (.cells #[.int .i64 xk, .int .i64 xi, .int .i64 xq, .int .i64 s, .int .i64 pd, .int .i64 sp, .int .i64 dp, .int .i64 xc] 56))
            have e0 := X1.at 0
            have e1 := X1.at 1
            have e2 := X1.at 2
            have e3 := X1.at 3
            have e4 := X1.at 4
            have e5 := X1.at 5
            have e6 := X1.at 6
            have e7 := X1.at 7
            clear hxk hok Q1 HXC X1
            go_wp2_with fail
            refine (RD0.out k ⟨xk, xi, xq, ⟨s, pd, sp, dp⟩, xc⟩ _ Q2 HXK.out hk).mono ?_
            rintro e w5 (⟨hki, rfl, Q3⟩ | ⟨rfl, rfl, DE⟩)
            · dsimp only
              clear c0 c1 c2 c3 c4 c5 c6 c7 e0 e1 e2 e3 e4 e5 e6 e7
              go_wp2_with fail
              go_roundw
              case rel => exact ⟨k + 1, by go_num, by omega, Q3⟩
              case measure => simp [intOf]; omega
            · have heb : (er != 0) = true := by simpa using HNE.out
              dsimp only
              clear c0 c1 c2 c3 c4 c5 c6 c7 e0 e1 e2 e3 e4 e5 e6 e7
              go_wp2_with fail
              go_ret
              exact ⟨by simp, DE⟩
        have Q3 := RS.out k _ wr w3 A3 c3 _ Q1 hb3 hrow hA3
        have RD0 : Hid (∀ k (x : Ev) W, R A3 c3 (stN ds ls xs xs.length).2 k W → xs[k]? = some x → Calls Tryz.prog 15 #[.pointer (some ⟨T2, 0, none⟩), .agg (evC x)] W fun e w' => e = .returned (.int .i64 0) ∧ R A3 c3 (stN ds ls xs xs.length).2 (k + 1) w') := fun k x W h hx => (RD.out A3 c3 _ k x W h hx (by have := (List.getElem?_eq_some_iff.1 hx).1; omega)).mono fun e w' ⟨he, hr⟩ => ⟨by rw [he, hokA k x ((List.getElem?_eq_some_iff.1 hx).1) hx], hr⟩
        have RE0 : Hid (∀ k W, R A3 c3 (stN ds ls xs xs.length).2 k W → k = xs.length → ∃ S1 c1, W.cell? ⟨T2, 1, none⟩ = some (.slice S1 (stN ds ls xs xs.length).2.length c1) ∧ Calls Tryz.prog 16 #[.slice A3 (stN ds ls xs xs.length).2.length c3, .slice S1 (stN ds ls xs xs.length).2.length c1] W fun e w' => e = .returned (.bool true) ∧ Below w.heap.size w w') := fun k W h hk => by
          subst hk
          obtain ⟨S1, c1, h1, h2⟩ := RE.out A3 c3 _ W h
          exact ⟨S1, c1, h1, h2.mono fun e w' ⟨he, hb⟩ => ⟨he, chnN hb (RB.out _ _ _ _ _ h)⟩⟩
        have RB0 : Hid (∀ k W, R A3 c3 (stN ds ls xs xs.length).2 k W → Below w.heap.size w W) := fun k W h => RB.out _ _ _ _ _ h
        have RK0 : Hid (∀ k W W', R A3 c3 (stN ds ls xs xs.length).2 k W → Below W.heap.size W W' → R A3 c3 (stN ds ls xs xs.length).2 k W') := fun k W W' h hb => RK.out _ _ _ _ _ _ h hb
        clear RS RD RE RB RK Q1 hb3 hlt hk FX hrow hA3 hokA
        generalize R A3 c3 (stN ds ls xs xs.length).2 = RR at *
        generalize (stN ds ls xs xs.length).2.length = NN at *
        dsimp only
        go_wp2_with fail
        go_loopw [98] (fun i wr => ∃ k : Nat, i = .int .i64 (k : Int) ∧ k ≤ xs.length ∧ RR k wr) (fun i _ => xs.length - (intOf i).toNat)
        case atStart => exact ⟨0, rfl, by omega, Q3⟩
        case round =>
          clear Q3
          obtain ⟨k, rfl, hk, Q1⟩ := hrel
          by_cases hlt : k < xs.length
          rotate_left
          · have hke : decide ((k : Int) < (xs.length : Int)) = false := by simp; omega
            obtain ⟨S1, c1, h1, CE⟩ := RE0.out k wr Q1 (by omega)
            have CE' : Hid (Calls Tryz.prog 16 #[.slice A3 NN c3, .slice S1 NN c1] wr fun e w' => e = .returned (.bool true) ∧ Below w.heap.size w w') := CE
            clear CE RE0 RD0 RB0 RK0 HXC Q1
            go_wp2_with fail
            refine CE'.out.mono ?_
            rintro e w6 ⟨rfl, D6⟩
            dsimp only
            go_wp2_with fail
            go_ret
            exact ⟨by simp, D6⟩
          obtain ⟨x, hxk⟩ : ∃ x, xs[k]? = some x := ⟨_, List.getElem?_eq_getElem hlt⟩
          obtain ⟨b, o, rfl, c0, c1, c2, c3, c4, c5, c6, c7, hok⟩ := HXC.out k x wr (RB0.out _ _ Q1) hxk
          obtain ⟨xk, xi, xq, ⟨s, pd, sp, dp⟩, xc⟩ := x
          have HO : Hid (Ev.ok ⟨xk, xi, xq, ⟨s, pd, sp, dp⟩, xc⟩) := hok
          have HXK : Hid (xs[k]? = some ⟨xk, xi, xq, ⟨s, pd, sp, dp⟩, xc⟩) := hxk
          have k1 : (0 : Int) ≤ (k : Int) := by omega
          have k2 : (k : Int) < (xs.length : Int) := by omega
          have X1 := bk_new wr #[.int .i64 xk, .int .i64 xi, .int .i64 xq, .int .i64 s, .int .i64 pd, .int .i64 sp, .int .i64 dp, .int .i64 xc] 56
          dsimp only at c0 c1 c2 c3 c4 c5 c6 c7
          have Q2 := RK0.out _ _ _ Q1 ((Below.refl wr.heap.size wr).alloc (Nat.le_refl _) (.cells #[.int .i64 xk, .int .i64 xi, .int .i64 xq, .int .i64 s, .int .i64 pd, .int .i64 sp, .int .i64 dp, .int .i64 xc] 56))
          have e0 := X1.at 0
          have e1 := X1.at 1
          have e2 := X1.at 2
          have e3 := X1.at 3
          have e4 := X1.at 4
          have e5 := X1.at 5
          have e6 := X1.at 6
          have e7 := X1.at 7
          clear hxk hok Q1 HXC X1
          go_wp2_with fail
          refine (RD0.out k ⟨xk, xi, xq, ⟨s, pd, sp, dp⟩, xc⟩ _ Q2 HXK.out).mono ?_
          rintro e w5 ⟨rfl, Q3⟩
          dsimp only
          clear c0 c1 c2 c3 c4 c5 c6 c7 e0 e1 e2 e3 e4 e5 e6 e7
          go_wp2_with fail
          go_roundw
          case rel => exact ⟨k + 1, by go_num, by omega, Q3⟩
          case measure => simp [intOf]; omega
      obtain ⟨x, hxk⟩ : ∃ x, xs[k]? = some x := ⟨_, List.getElem?_eq_getElem hlt⟩
      obtain ⟨b, o, rfl, c0, c1, c2, c3, c4, c5, c6, c7, hok⟩ := HXC.out k x wr (FX.bl Q1) hxk
      obtain ⟨xk, xi, xq, ⟨s, pd, sp, dp⟩, xc⟩ := x
      have HO : Hid (Ev.ok ⟨xk, xi, xq, ⟨s, pd, sp, dp⟩, xc⟩) := hok
      have HXK : Hid (xs[k]? = some ⟨xk, xi, xq, ⟨s, pd, sp, dp⟩, xc⟩) := hxk
      have k1 : (0 : Int) ≤ (k : Int) := by omega
      have k2 : (k : Int) < (xs.length : Int) := by omega
      have X1 := bk_new wr #[.int .i64 xk, .int .i64 xi, .int .i64 xq, .int .i64 s, .int .i64 pd, .int .i64 sp, .int .i64 dp, .int .i64 xc] 56
      dsimp only at c0 c1 c2 c3 c4 c5 c6 c7
      have Q2 := FX.add #[.int .i64 xk, .int .i64 xi, .int .i64 xq, .int .i64 s, .int .i64 pd, .int .i64 sp, .int .i64 dp, .int .i64 xc] 56 Q1
      have HY : Hid (arvOk ((xi, xq), ⟨s, pd, sp, dp⟩)) := ⟨hok.i, hok.q, hok.p⟩
      obtain ⟨b0, hb0⟩ : ∃ b0, b0 = wr.heap.size := ⟨_, rfl⟩
      rw [← hb0] at Q2
      have Q2d := FX.k1 Q2 (Below.refl _ _).drew
      clear hxk hok Q1 HXC HXK RS RK RB RD RE RUN' X1
      go_wp2_with fail
      rw [← hb0]
      clear hb0 c0 c1 c2 c3 c4 c5 c6 c7
      go_cut [67] from 51 to 67 (fun v67 wx => v67 = .bool false ∧ P1 (k + 1) [(b0, #[.int .i64 xk, .int .i64 xi, .int .i64 xq, .int .i64 s, .int .i64 pd, .int .i64 sp, .int .i64 dp, .int .i64 xc], 56), (w.heap.size, #[.slice A ds.length cap, .slice L ls.length cap'], 25)] wx)
      case first =>
        refine wp_region_held_drew (S := fun w' => w'.cell? ⟨b0, 0, none⟩ = some (.int .i64 xk) ∧ w'.cell? ⟨b0, 1, none⟩ = some (.int .i64 xi) ∧ w'.cell? ⟨b0, 2, none⟩ = some (.int .i64 xq) ∧ w'.cell? ⟨b0, 3, none⟩ = some (.int .i64 s) ∧ w'.cell? ⟨b0, 4, none⟩ = some (.int .i64 pd) ∧ w'.cell? ⟨b0, 5, none⟩ = some (.int .i64 sp) ∧ w'.cell? ⟨b0, 6, none⟩ = some (.int .i64 dp) ∧ w'.cell? ⟨b0, 7, none⟩ = some (.int .i64 xc)) (by kernel_rfl) (Bk.ev8 (FX.x1 Q2d (List.Mem.head _))) (fun hHeld => ?_)
        refine' tk 0 rfl (by kernel_rfl) (fun _ _ _ h => h) (by rfl) (by assumption) ?y3 ?r3
        case y3 => (intro w h; (try dsimp only at h); go_simp; (try with_reducible rfl))
        try simp only [lays]
        refine' tk 1 rfl (by kernel_rfl) (fun _ _ _ h => h) (by rfl) (by assumption) ?y4 ?r4
        case y4 => (intro w h; (try dsimp only at h); go_simp; (try with_reducible rfl))
        try simp only [lays]
        refine' tk 3 rfl (by kernel_rfl) (fun _ _ _ h => h) (by rfl) (by assumption) ?y5 ?r5
        case y5 => (intro w h; (try dsimp only at h); go_simp; (try with_reducible rfl))
        try simp only [lays]
        refine' tk 4 rfl (by kernel_rfl) (fun _ _ _ h => h) (by rfl) (by assumption) ?y6 ?r6
        case y6 => (intro w h; (try dsimp only at h); go_simp; (try with_reducible rfl))
        try simp only [lays]
        refine wpAnyH_ready (rs := [2]) (by kernel_rfl) (by simp) (AllReadyH.cons rfl (fun K hK => ?_) AllReadyH.nil)
        go_simp
        refine (FX.d1 ⟨xk, xi, xq, ⟨s, pd, sp, dp⟩, xc⟩ Q2d HO.out (by omega)).mono ?_
        rintro e w3 ⟨err, rfl, Q3⟩
        dsimp only
        try go_wp2_with fail
        clear hHeld
        refine hK.out _ _ (Bk.ev8 (FX.x2 Q3 (List.Mem.head _))) (fun hHeld => ?_)
        clear hK K
        try simp only [lays]
        refine wpAnyH_ready (rs := [5]) (by kernel_rfl) (by simp) (AllReadyH.cons rfl (fun K hK => ?_) AllReadyH.nil)
        go_simp
        refine (FX.d2 Q3 (by omega)).mono ?_
        rintro e w4 ⟨rfl, Q4⟩
        dsimp only
        obtain ⟨S1, n1, c1, ht⟩ := FX.ts Q4
        try go_wp2_with fail
        clear hHeld
        refine hK.out _ _ (Bk.ev8 (FX.x1 Q4 (List.Mem.head _))) (fun hHeld => ?_)
        clear hK K
        try simp only [lays]
        refine' tk 6 rfl (by kernel_rfl) (fun _ _ _ h => h) (by rfl) (by assumption) ?y7 ?r7
        case y7 => (intro w h; (try dsimp only at h); go_simp; (try with_reducible rfl))
        try simp only [lays]
        refine' tk 7 rfl (by kernel_rfl) (fun _ _ _ h => h) (by rfl) (by assumption) ?y8 ?r8
        case y8 => (intro w h; (try dsimp only at h); go_simp; (try with_reducible rfl))
        try simp only [lays]
        refine' tk 8 rfl (by kernel_rfl) (fun _ _ _ h => h) (by rfl) (by assumption) ?y9 ?r9
        case y9 => (intro w h; (try dsimp only at h); go_simp; (try with_reducible rfl))
        try simp only [lays]
        refine' tk 10 rfl (by kernel_rfl) (fun _ _ _ h => h) (by rfl) (by assumption) ?y10 ?r10
        case y10 => (intro w h; (try dsimp only at h); go_simp; (try with_reducible rfl))
        try simp only [lays]
        refine' tk 11 rfl (by kernel_rfl) (fun _ _ _ h => h) (by rfl) (by assumption) ?y11 ?r11
        case y11 => (intro w h; (try dsimp only at h); go_simp; (try with_reducible rfl))
        try simp only [lays]
        refine' tk 12 rfl (by kernel_rfl) (fun _ _ _ h => h) (by rfl) (by assumption) ?y12 ?r12
        case y12 => (intro w h; (try dsimp only at h); go_simp; (try with_reducible rfl))
        try simp only [lays]
        refine wpAnyH_ready (rs := [9, 13]) (by kernel_rfl) (by simp) (AllReadyH.cons rfl (fun K hK => ?_) ?_)
        · go_simp
          refine (FX.se Q4 (by omega)).mono ?_
          rintro e w5 ⟨A2, n2, c2, rfl, Q5, hb5⟩
          dsimp only
          have ht5 := (hb5.cell (p := ⟨T1, 1, none⟩) (World.block_lt_of_cell? _ _ ht)).trans ht
          try go_wp2_with fail
          clear hHeld
          refine hK.out _ _ (Bk.ev8 (FX.x3 Q5 (List.Mem.head _))) (fun hHeld => ?_)
          clear hK K
          try simp only [lays]
          refine wpAnyH_ready (rs := [13]) (by kernel_rfl) (by simp) (AllReadyH.cons rfl (fun K hK => ?_) AllReadyH.nil)
          go_simp
          skip
          try go_wp2_with fail
          clear hHeld
          refine hK.out _ _ (Bk.ev8 (FX.x3 Q5 (List.Mem.head _))) (fun hHeld => ?_)
          clear hK K
          try simp only [lays]
          refine wpAnyH_ready (rs := [14]) (by kernel_rfl) (by simp) (AllReadyH.cons rfl (fun K hK => ?_) AllReadyH.nil)
          go_simp
          refine (FX.eq Q5 S1 n1 c1 ht5).mono ?_
          rintro e w6 ⟨rfl, Q6, hb6⟩
          dsimp only
          try go_wp2_with fail
          clear hHeld
          refine hK.out _ _ (Bk.ev8 (FX.x1 Q6 (List.Mem.head _))) (fun hHeld => ?_)
          clear hK K
          try simp only [lays]
          refine' tk 15 rfl (by kernel_rfl) (fun _ _ _ h => h) (by rfl) (by assumption) ?y13 ?r13
          case y13 => (intro w h; (try dsimp only at h); go_simp; (try with_reducible rfl))
          try simp only [lays]
          refine' tk 16 rfl (by kernel_rfl) (fun _ _ _ h => h) (by rfl) (by assumption) ?y14 ?r14
          case y14 => (intro w h; (try dsimp only at h); go_simp; (try with_reducible rfl))
          try simp only [lays]
          refine wpAnyH_done (by kernel_rfl) ?_ _
          repeat (first | go_guarded | go_step)
          go_meet
          exact ⟨by first | rfl | simp, Q6⟩
        refine AllReadyH.cons rfl (fun K hK => ?_) AllReadyH.nil
        go_simp
        skip
        try go_wp2_with fail
        clear hHeld
        refine hK.out _ _ (Bk.ev8 (FX.x1 Q4 (List.Mem.head _))) (fun hHeld => ?_)
        clear hK K
        try simp only [lays]
        refine wpAnyH_ready (rs := [9]) (by kernel_rfl) (by simp) (AllReadyH.cons rfl (fun K hK => ?_) AllReadyH.nil)
        go_simp
        refine (FX.se Q4 (by omega)).mono ?_
        rintro e w5 ⟨A2, n2, c2, rfl, Q5, hb5⟩
        dsimp only
        have ht5 := (hb5.cell (p := ⟨T1, 1, none⟩) (World.block_lt_of_cell? _ _ ht)).trans ht
        try go_wp2_with fail
        clear hHeld
        refine hK.out _ _ (Bk.ev8 (FX.x3 Q5 (List.Mem.head _))) (fun hHeld => ?_)
        clear hK K
        try simp only [lays]
        refine wpAnyH_ready (rs := [14]) (by kernel_rfl) (by simp) (AllReadyH.cons rfl (fun K hK => ?_) AllReadyH.nil)
        go_simp
        refine (FX.eq Q5 S1 n1 c1 ht5).mono ?_
        rintro e w6 ⟨rfl, Q6, hb6⟩
        dsimp only
        try go_wp2_with fail
        clear hHeld
        refine hK.out _ _ (Bk.ev8 (FX.x1 Q6 (List.Mem.head _))) (fun hHeld => ?_)
        clear hK K
        try simp only [lays]
        refine' tk 15 rfl (by kernel_rfl) (fun _ _ _ h => h) (by rfl) (by assumption) ?y15 ?r15
        case y15 => (intro w h; (try dsimp only at h); go_simp; (try with_reducible rfl))
        try simp only [lays]
        refine' tk 16 rfl (by kernel_rfl) (fun _ _ _ h => h) (by rfl) (by assumption) ?y16 ?r16
        case y16 => (intro w h; (try dsimp only at h); go_simp; (try with_reducible rfl))
        try simp only [lays]
        refine wpAnyH_done (by kernel_rfl) ?_ _
        repeat (first | go_guarded | go_step)
        go_meet
        exact ⟨by first | rfl | simp, Q6⟩
      case rest =>
        clear Q2 Q2d
        obtain ⟨rfl, Q3⟩ := hcut
        obtain ⟨e0, e1, e2, e3, e4, e5, e6, e7⟩ := Bk.ev8 (FX.x1 Q3 (List.Mem.head _))
        have Q4 := FX.add #[.int .i64 xi, .int .i64 xq] 37 Q3
        obtain ⟨p0, hp0⟩ : ∃ p0, p0 = wc.heap.size := ⟨_, rfl⟩
        rw [← hp0] at Q4
        have Q5d := FX.k1 Q4 (Below.refl _ _).drew
        obtain ⟨S1, n1, c1, ht⟩ := FX.ts Q5d
        go_upto_region 13 with fail
        go_step
        go_step
        go_step
        go_step
        go_step
        go_step
        go_step
        go_step
        go_step
        go_step
        go_step
        go_step
        go_step
        go_step
        refine wp_build2 37 _ _ 0 1 (by rfl) _ _ _ (pl_build2 xi xq _) (by rfl) (by rfl) ?_
        repeat (first | go_guarded | go_step)
        rw [← hp0]
        clear e0 e1 e2 e3 e4 e5 e6 e7 hp0 Q3
        go_cut [87] from 73 to 87 (fun v87 wx => v87 = .bool false ∧ P1 (k + 1) [(w.heap.size, #[.slice A ds.length cap, .slice L ls.length cap'], 25)] wx)
        case first =>
          refine wp_region_held_drew (S := fun w' => w'.cell? ⟨p0, 0, none⟩ = some (.int .i64 xi) ∧ w'.cell? ⟨p0, 1, none⟩ = some (.int .i64 xq) ∧ w'.cell? ⟨b0, 3, none⟩ = some (.int .i64 s) ∧ w'.cell? ⟨b0, 4, none⟩ = some (.int .i64 pd) ∧ w'.cell? ⟨b0, 5, none⟩ = some (.int .i64 sp) ∧ w'.cell? ⟨b0, 6, none⟩ = some (.int .i64 dp) ∧ w'.cell? ⟨T1, 1, none⟩ = some (.slice S1 n1 c1)) (by kernel_rfl) ⟨(FX.x1 Q5d (List.Mem.head _)).at 0, (FX.x1 Q5d (List.Mem.head _)).at 1, (FX.x1 Q5d (List.Mem.tail _ (List.Mem.head _))).at 3, (FX.x1 Q5d (List.Mem.tail _ (List.Mem.head _))).at 4, (FX.x1 Q5d (List.Mem.tail _ (List.Mem.head _))).at 5, (FX.x1 Q5d (List.Mem.tail _ (List.Mem.head _))).at 6, ht⟩ (fun hHeld => ?_)
          refine' tk 0 rfl (by kernel_rfl) (fun _ _ _ h => h) (by rfl) (by assumption) ?y17 ?r17
          case y17 => (intro w h; (try dsimp only at h); go_simp; (try with_reducible rfl))
          try simp only [lays]
          refine' tk 1 rfl (by kernel_rfl) (fun _ _ _ h => h) (by rfl) (by assumption) ?y18 ?r18
          case y18 => (intro w h; (try dsimp only at h); go_simp; (try with_reducible rfl))
          try simp only [lays]
          refine' tk 2 rfl (by kernel_rfl) (fun _ _ _ h => h) (by rfl) (by assumption) ?y19 ?r19
          case y19 => (intro w h; (try dsimp only at h); go_simp; (try with_reducible rfl))
          try simp only [lays]
          refine' tk 3 rfl (by kernel_rfl) (fun _ _ _ h => h) (by rfl) (by assumption) ?y20 ?r20
          case y20 => (intro w h; (try dsimp only at h); go_simp; (try with_reducible rfl))
          try simp only [lays]
          refine' tk 5 rfl (by kernel_rfl) (fun _ _ _ h => h) (by rfl) (by assumption) ?y21 ?r21
          case y21 => (intro w h; (try dsimp only at h); go_simp; (try with_reducible rfl))
          try simp only [lays]
          refine' tk 6 rfl (by kernel_rfl) (fun _ _ _ h => h) (by rfl) (by assumption) ?y22 ?r22
          case y22 => (intro w h; (try dsimp only at h); go_simp; (try with_reducible rfl))
          try simp only [lays]
          refine' tk 7 rfl (by kernel_rfl) (fun _ _ _ h => h) (by rfl) (by assumption) ?y23 ?r23
          case y23 => (intro w h; (try dsimp only at h); go_simp; (try with_reducible rfl))
          try simp only [lays]
          refine' tk 8 rfl (by kernel_rfl) (fun _ _ _ h => h) (by rfl) (by assumption) ?y24 ?r24
          case y24 => (intro w h; (try dsimp only at h); go_simp; (try with_reducible rfl))
          try simp only [lays]
          refine' tk 9 rfl (by kernel_rfl) (fun _ _ _ h => h) (by rfl) (by assumption) ?y25 ?r25
          case y25 => (intro w h; (try dsimp only at h); go_simp; (try with_reducible rfl))
          try simp only [lays]
          refine' tk 10 rfl (by kernel_rfl) (fun _ _ _ h => h) (by rfl) (by assumption) ?y26 ?r26
          case y26 => (intro w h; (try dsimp only at h); go_simp; (try with_reducible rfl))
          try simp only [lays]
          refine' tk 11 rfl (by kernel_rfl) (fun _ _ _ h => h) (by rfl) (by assumption) ?y27 ?r27
          case y27 => (intro w h; (try dsimp only at h); go_simp; (try with_reducible rfl))
          try simp only [lays]
          refine' wpAnyH_take (i := 12) (v := _) rfl (by kernel_rfl) (by kernel_rfl) (by kernel_rfl) (fun _ _ _ h => h) (yields_build2 (by rfl) 43 _ _ 0 1 (by rfl) _ _ _ (fun w => arrival_build xi xq ⟨s, pd, sp, dp⟩ w) (by rfl) (by rfl)) (by assumption) ?gr28
          try simp only [lays]
          refine wpAnyH_ready (rs := [4]) (by kernel_rfl) (by simp) (AllReadyH.cons rfl (fun K hK => ?_) AllReadyH.nil)
          go_simp
          refine (FX.ha ((xi, xq), ⟨s, pd, sp, dp⟩) Q5d HY.out).mono ?_
          rintro e w6 ⟨bb, rfl, Q6, hb6⟩
          dsimp only
          have ht6 := (hb6.cell (p := ⟨T1, 1, none⟩) (World.block_lt_of_cell? _ _ ht)).trans ht
          try go_wp2_with fail
          clear hHeld
          refine hK.out _ _ (⟨(FX.x1 (FX.k1 Q5d hb6) (List.Mem.head _)).at 0, (FX.x1 (FX.k1 Q5d hb6) (List.Mem.head _)).at 1, (FX.x1 (FX.k1 Q5d hb6) (List.Mem.tail _ (List.Mem.head _))).at 3, (FX.x1 (FX.k1 Q5d hb6) (List.Mem.tail _ (List.Mem.head _))).at 4, (FX.x1 (FX.k1 Q5d hb6) (List.Mem.tail _ (List.Mem.head _))).at 5, (FX.x1 (FX.k1 Q5d hb6) (List.Mem.tail _ (List.Mem.head _))).at 6, ht6⟩) (fun hHeld => ?_)
          clear hK K
          try simp only [lays]
          refine wpAnyH_ready (rs := [13]) (by kernel_rfl) (by simp) (AllReadyH.cons rfl (fun K hK => ?_) AllReadyH.nil)
          go_simp
          refine (FX.co Q6 S1 n1 c1 ht6).mono ?_
          rintro e w7 ⟨rfl, Q7, hb7⟩
          dsimp only
          try go_wp2_with fail
          clear hHeld
          refine hK.out _ _ (⟨(FX.x1 Q7 (List.Mem.head _)).at 0, (FX.x1 Q7 (List.Mem.head _)).at 1, (FX.x1 Q7 (List.Mem.tail _ (List.Mem.head _))).at 3, (FX.x1 Q7 (List.Mem.tail _ (List.Mem.head _))).at 4, (FX.x1 Q7 (List.Mem.tail _ (List.Mem.head _))).at 5, (FX.x1 Q7 (List.Mem.tail _ (List.Mem.head _))).at 6, ((hb7.cell (p := ⟨T1, 1, none⟩) (World.block_lt_of_cell? _ _ ht6)).trans ht6)⟩) (fun hHeld => ?_)
          clear hK K
          try simp only [lays]
          refine' tk 14 rfl (by kernel_rfl) (fun _ _ _ h => h) (by rfl) (by assumption) ?y29 ?r29
          case y29 => (intro w h; (try dsimp only at h); go_simp; (try with_reducible rfl))
          try simp only [lays]
          refine wpAnyH_done (by kernel_rfl) ?_ _
          repeat (first | go_guarded | go_step)
          go_meet
          exact ⟨by cases bb <;> rfl, FX.less Q7 (by simp)⟩
        case rest =>
          clear Q4 Q5d ht
          obtain ⟨rfl, Q7⟩ := hcut
          go_wp2_with fail
          go_roundw
          case rel => exact ⟨k + 1, by go_num, by omega, Q7⟩
          case measure => simp [intOf]; omega
end Go.Proofs.YtgmjlkllghlmmaaGreat
