/-
  WorldGrows: it returns true.
-/
import Derived.Test.YtepfckicaafilabWc4
namespace Go.Proofs.Ytepfckicaafilab
open Go.RowKit Go.Maps

def IsEv (cs : List Value) (x : Ev) : Prop := cs = [.int .i64 x.k, .int .i64 x.i, .int .i64 x.q, .int .i64 x.p.s, .int .i64 x.p.d, .int .i64 x.p.sp, .int .i64 x.p.dp, .int .i64 x.c] ∧ x.ok
set_option maxHeartbeats 8000000 in
set_option maxRecDepth 100000 in
theorem grows_try (A L A1 : Option Addr) (cap cap' cap1 : Nat) (ds : List Dv) (ls : List Lk) (xs : List Ev) (w : World) (hD : Hid (Devs w.heap.size w (.slice A ds.length cap) ds)) (hL : Hid (Links w.heap.size w (.slice L ls.length cap') ls)) (hX : Hid (SlAt w.heap.size w 8 IsEv (.slice A1 xs.length cap1) xs)) :
    Calls Try.prog 3 #[.agg #[.slice A ds.length cap, .slice L ls.length cap'], .slice A1 xs.length cap1] w fun e w' => e = .returned (.bool true) ∧ Below w.heap.size w w' := by
  have RUN : Hid (∀ W, Calls Try.prog 4 #[] W fun e w' => e = .returned (.bool true) ∧ Below W.heap.size W w') := fun W => running_any W
  have NW : Hid (∀ (W : World), Below w.heap.size w W → Calls Try.prog 5 #[.agg #[.slice A ds.length cap, .slice L ls.length cap']] W (WNew W ds ls)) := fun W h => wnew_any A L cap cap' ds ls W ((hD.out.below h).mono h.size) ((hL.out.below h).mono h.size)
  have HXC : Hid (∀ (k : Nat) (x : Ev) W, Below w.heap.size w W → xs[k]? = some x → ∃ b o, A1 = some ⟨b, o, none⟩ ∧ W.cell? ⟨b, o + k * 8, none⟩ = some (.int .i64 x.k) ∧ W.cell? ⟨b, o + k * 8 + 1, none⟩ = some (.int .i64 x.i) ∧ W.cell? ⟨b, o + k * 8 + 2, none⟩ = some (.int .i64 x.q) ∧ W.cell? ⟨b, o + k * 8 + 3, none⟩ = some (.int .i64 x.p.s) ∧ W.cell? ⟨b, o + k * 8 + 4, none⟩ = some (.int .i64 x.p.d) ∧ W.cell? ⟨b, o + k * 8 + 5, none⟩ = some (.int .i64 x.p.sp) ∧ W.cell? ⟨b, o + k * 8 + 6, none⟩ = some (.int .i64 x.p.dp) ∧ W.cell? ⟨b, o + k * 8 + 7, none⟩ = some (.int .i64 x.c) ∧ x.ok) := fun k x W hb hk => by
    obtain ⟨_, _, e, _, _, _, h3⟩ := hX.out
    cases e
    obtain ⟨b, o, ea, hl, hr⟩ := h3 (fun e => by rw [e] at hk; cases hk)
    obtain ⟨cs, _, ⟨rfl, hok⟩, hc⟩ := hr k x hk
    exact ⟨b, o, ea, (hb.cell (p := ⟨b, _, none⟩) hl).trans (hc 0 _ rfl), (hb.cell (p := ⟨b, _, none⟩) hl).trans (hc 1 _ rfl), (hb.cell (p := ⟨b, _, none⟩) hl).trans (hc 2 _ rfl), (hb.cell (p := ⟨b, _, none⟩) hl).trans (hc 3 _ rfl), (hb.cell (p := ⟨b, _, none⟩) hl).trans (hc 4 _ rfl), (hb.cell (p := ⟨b, _, none⟩) hl).trans (hc 5 _ rfl), (hb.cell (p := ⟨b, _, none⟩) hl).trans (hc 6 _ rfl), (hb.cell (p := ⟨b, _, none⟩) hl).trans (hc 7 _ rfl), hok⟩
  have D0 := Below.alN (Below.refl w.heap.size w) (.cells #[.slice A ds.length cap, .slice L ls.length cap'] 25)
  have N0 := bk_new w #[.slice A ds.length cap, .slice L ls.length cap'] 25
  go_enter Try.func3, Try.ntmps3
  go_wp2_with fail
  refine (RUN.out _).mono ?_
  rintro e w1 ⟨rfl, hb1⟩
  have D1 := chnN hb1 D0
  have N1 := N0.keep hb1
  clear hb1 D0 N0 RUN
  obtain ⟨n0, n1⟩ := N1.two
  go_wp2_with fail
  refine (NW.out _ D1).mono ?_
  rintro e w2 ⟨hb2, hN⟩
  have D2 := chnN hb2 D1
  have z1 := D1.size
  clear hb2 D1 N1 n0 n1 NW
  rcases hN with ⟨hne, rfl⟩ | ⟨hz, p, rfl, hW, l1, l2, l3, l4, l5⟩
  · have hz1 : (netV ds ls == 0) = false := by simpa using hne
    generalize netV ds ls = nv at *
    have HNZ : Hid (¬ nv = 0) := hne
    clear hne
    go_wp2_with fail
    all_goals first | exact absurd (by assumption) HNZ.out | skip
    all_goals
      go_ret
      exact ⟨by first | rfl | simp, D2⟩
  by_cases hl : 80 < xs.length
  · have hd : decide ((80 : Int) < (xs.length : Int)) = true := by simp; omega
    go_wp2_with fail
    all_goals
      go_ret
      exact ⟨rfl, D2⟩
  have hd : decide ((80 : Int) < (xs.length : Int)) = false := by simp; omega
  have LO : Hid (LoW w p) := ⟨by omega, by omega, by omega, by omega, by omega⟩
  have HZ : Hid (netV ds ls = 0) := hz
  obtain ⟨V, hV⟩ : ∃ V : Nat → Mnd → List Arv → Nat → World → Prop, V = fun n M ar N W => ∃ S cS, WlAt W p S cS ds ls n M ar ∧ Below w.heap.size w W ∧ MOk M ∧ (∀ x ∈ ar, pkOk x.2 = true) ∧ (∀ a, S = some a → a.block < N) ∧ p.B < N ∧ N ≤ W.heap.size := ⟨_, rfl⟩
  have V2 : V 0 noM [] w2.heap.size w2 := by
    rw [hV]
    exact ⟨none, 0, hW, D2, mok_no, (fun x hx => by cases hx), (fun a ha => by cases ha), hW.blk.lt, Nat.le_refl _⟩
  have KP : ∀ {n : Nat} {M : Mnd} {ar : List Arv} {N : Nat} {W W' : World}, V n M ar N W → Below W.heap.size W W' → V n M ar N W' := fun {n M ar N W W'} h hb => by
    rw [hV] at h ⊢
    obtain ⟨S, cS, h1, h2, h3, h4, h5, h6, h7⟩ := h
    exact ⟨S, cS, h1.below hb, chnN hb h2, h3, h4, h5, h6, Nat.le_trans h7 hb.size⟩
  have TOP : ∀ {n : Nat} {M : Mnd} {ar : List Arv} {N : Nat} {W : World}, V n M ar N W → V n M ar W.heap.size W := fun {n M ar N W} h => by
    rw [hV] at h ⊢
    obtain ⟨S, cS, h1, h2, h3, h4, h5, h6, h7⟩ := h
    exact ⟨S, cS, h1, h2, h3, h4, fun a ha => Nat.lt_of_lt_of_le (h5 a ha) h7, Nat.lt_of_lt_of_le h6 h7, Nat.le_refl _⟩
  have BE : ∀ {n : Nat} {M : Mnd} {ar : List Arv} {N : Nat} {W : World}, V n M ar N W → Below w.heap.size w W := fun {n M ar N W} h => by
    rw [hV] at h
    obtain ⟨S, cS, h1, h2, _⟩ := h
    exact h2
  have SEE : Hid (∀ {n : Nat} {M : Mnd} {ar : List Arv} {N : Nat} {W : World}, V n M ar N W → ar.length ≤ 5000 → Calls Try.prog 6 #[.pointer (some ⟨p.B, 0, none⟩)] W fun e w' => ∃ A c, e = .returned (.slice A ar.length c) ∧ Hid (SlAt w'.heap.size w' 6 IsArv (.slice A ar.length c) ar ∧ ∀ a, A = some a → W.heap.size ≤ a.block ∧ a.block < w'.heap.size) ∧ Below W.heap.size W w') := fun {n M ar N W} h ha => by
    rw [hV] at h
    obtain ⟨S, cS, h1, h2, _⟩ := h
    exact (seen_any W h1 ha).mono fun e w' ⟨A, c, q1, q2, q3, q4⟩ => ⟨A, c, q1, ⟨q2, q3⟩, q4⟩
  have DO : Hid (∀ {n : Nat} {M : Mnd} {ar : List Arv} {N : Nat} {W : World} (x : Ev), x.ok → n ≤ 400 → ar.length ≤ 5000 → V n M ar N W → Calls Try.prog 7 #[.pointer (some ⟨p.B, 0, none⟩), .agg #[.int .i64 x.k, .int .i64 x.i, .int .i64 x.q, .int .i64 x.p.s, .int .i64 x.p.d, .int .i64 x.p.sp, .int .i64 x.p.dp, .int .i64 x.c]] W fun e w' => ∃ er M' ar', e = .returned (.int .i64 er) ∧ V (n + 1 + 1) M' ar' w'.heap.size w' ∧ Hid (∀ b, N ≤ b → b < W.heap.size → w'.heap[b]? = W.heap[b]?) ∧ Hid (ar' = ar ∨ (er = 0 ∧ ∃ y, ar' = ar ++ [y])) ∧ W.heap.size ≤ w'.heap.size) := fun {n M ar N W} x hx hn ha h => by
    rw [hV] at h
    obtain ⟨S, cS, h1, h2, h3, h4, h5, h6, h7⟩ := h
    obtain ⟨o1, o2⟩ := handle_ok HZ.out h3 x.i x.q x.p x.c
    refine (do_any x W h1 hx HZ (fun he => ⟨(o2 he).2.1, (o2 he).2.2, pkOk_ok (o2 he).1⟩) (by unfold maxLen; omega) ha).mono fun e w' ⟨e1, S', cS', q1, q2, q3⟩ => ?_
    obtain ⟨d1, d2, d3⟩ := do_ok HZ.out h3 h4 x
    obtain ⟨m1, m2, m3, m4⟩ := h1.lo
    refine ⟨(doP ds ls M ar x).1, (doP ds ls M ar x).2.1, (doP ds ls M ar x).2.2, e1, ?_, (fun b hb hb' => q2.block b hb' (by omega) (by omega) (by omega) (by omega) (by omega) (fun a ha => by have := h5 a ha; omega)), d3, q2.size⟩
    rw [hV]
    exact ⟨S', cS', q1, below_wf h1 LO.out h2 q2, d1, d2, fun a ha => (q1.sblk a ha).2, q1.blk.lt, Nat.le_refl _⟩
  have HAS : Hid (∀ {n : Nat} {M : Mnd} {ar : List Arv} {N : Nat} {W : World} {x : Arv}, V n M ar N W → x ∈ ar → Calls Try.prog 9 #[.pointer (some ⟨p.B, 0, none⟩), plA x.1.1 x.1.2, pkV x.2] W fun e w' => e = .returned (.bool true) ∧ Below W.heap.size W w') := fun {n M ar N W x} h hx => by
    rw [hV] at h
    obtain ⟨S, cS, h1, h2, _⟩ := h
    refine (whas_any x W h1 (h1.all x hx)).mono fun e w' ⟨e1, e2⟩ => ⟨?_, e2⟩
    rw [e1, inF_in.2 hx]
  have PKS : Hid (∀ {n : Nat} {M : Mnd} {ar : List Arv} {N : Nat} {W : World} {x : Arv}, V n M ar N W → x ∈ ar → pkOk x.2 = true) := fun {n M ar N W x} h hx => by
    rw [hV] at h
    obtain ⟨S, cS, h1, h2, h3, h4, _⟩ := h
    exact h4 x hx
  clear hV LO HZ hz hW D2 l1 l2 l3 l4 l5 z1 hD hL hX
  go_wp2_with fail
  go_loopw [36] (fun i wr => ∃ (k n : Nat) (M : Mnd) (ar : List Arv) (N : Nat), i = .int .i64 (k : Int) ∧ k ≤ xs.length ∧ n ≤ 2 * k ∧ ar.length ≤ k ∧ V n M ar N wr) (fun i _ => xs.length - (intOf i).toNat)
  case atStart => exact ⟨0, 0, noM, [], _, rfl, by omega, by omega, by simp, V2⟩
  case round =>
    clear V2
    obtain ⟨k, n, M, ar, N0, rfl, hk, hn, har, V1⟩ := hrel
    by_cases hlt : k < xs.length
    · obtain ⟨x, hxk⟩ : ∃ x, xs[k]? = some x := ⟨_, List.getElem?_eq_getElem hlt⟩
      obtain ⟨b, o, rfl, c0, c1, c2, c3, c4, c5, c6, c7, hok⟩ := HXC.out k x wr (BE V1) hxk
      obtain ⟨xk, xi, xq, ⟨s, d, sp, dp⟩, xc⟩ := x
      have HO : Hid (Ev.ok ⟨xk, xi, xq, ⟨s, d, sp, dp⟩, xc⟩) := hok
      have k1 : (0 : Int) ≤ (k : Int) := by omega
      have k2 : (k : Int) < (xs.length : Int) := by omega
      have X3 := bk_new wr #[.int .i64 xk, .int .i64 xi, .int .i64 xq, .int .i64 s, .int .i64 d, .int .i64 sp, .int .i64 dp, .int .i64 xc] 35
      have V3 := TOP (KP V1 ((Below.refl _ _).alloc (Nat.le_refl _) (.cells #[.int .i64 xk, .int .i64 xi, .int .i64 xq, .int .i64 s, .int .i64 d, .int .i64 sp, .int .i64 dp, .int .i64 xc] 35)))
      clear hxk hok V1
      go_wp2_with fail
      refine (SEE.out V3 (by omega)).mono ?_
      rintro e w4 ⟨Aw, cw, rfl, S4, hb4⟩
      have V4 := KP V3 hb4
      have X4 := X3.keep hb4
      have e0 := X4.at 0
      have e1 := X4.at 1
      have e2 := X4.at 2
      have e3 := X4.at 3
      have e4 := X4.at 4
      have e5 := X4.at 5
      have e6 := X4.at 6
      have e7 := X4.at 7
      clear V3 X3 hb4 c0 c1 c2 c3 c4 c5 c6 c7
      go_wp2_with fail
      refine (DO.out ⟨xk, xi, xq, ⟨s, d, sp, dp⟩, xc⟩ HO.out (by omega) (by omega) V4).mono ?_
      rintro e w5 ⟨er, M', ar', rfl, V5, F5, A5, z5⟩
      have S5 : Hid (SlAt w5.heap.size w5 6 IsArv (.slice Aw ar.length cw) ar) := SlAt.blkS S4.out.1 (fun a ha => by
        obtain ⟨h1, h2⟩ := S4.out.2 a ha
        exact ⟨F5.out _ h1 h2, by omega⟩)
      have hl5 : ar'.length = ar.length ∨ ar'.length = ar.length + 1 := by
        rcases A5.out with h | ⟨_, y, h⟩ <;> rw [h] <;> simp
      clear V4 X4 e0 e1 e2 e3 e4 e5 e6 e7 S4 F5 z5
      go_wp2_with fail
      refine (SEE.out V5 (by omega)).mono ?_
      rintro e w6 ⟨An, cn, rfl, S6, hb6⟩
      have V6 := KP V5 hb6
      have S6w : Hid (SlAt w6.heap.size w6 6 IsArv (.slice Aw ar.length cw) ar) := SlAt.mono (SlAt.below S5.out hb6 (fun _ _ _ h => h)) hb6.size (fun _ _ _ h => h)
      have SP : Hid (SlAt w6.heap.size w6 6 IsArv (.slice An ar.length cn) ar) := by
        have h6 := S6.out.1
        rcases A5.out with h | ⟨_, y, h⟩
        · rw [h] at h6
          exact h6
        · rw [h] at h6
          exact SlAt.takeS h6
      have EQ : Hid (Calls Try.prog 8 #[.slice An ar.length cn, .slice Aw ar.length cw] w6 fun e w' => e = .returned (.bool true) ∧ Below w6.heap.size w6 w') := equal_arrs An Aw cn cw ar _ w6 SP S6w
      have hcn : ar'.length ≤ cn := by obtain ⟨_, _, e, _, h1, _⟩ := S6.out.1; cases e; exact h1
      have hcm : cn ≤ maxLen := by obtain ⟨_, _, e, _, _, h1, _⟩ := S6.out.1; cases e; exact h1
      have hnil : An = none → cn = 0 := by obtain ⟨_, _, e, h0, _⟩ := S6.out.1; cases e; exact h0
      unfold maxLen at hcm
      have fin : Hid (∀ w', Below w6.heap.size w6 w' → ∃ (k' n' : Nat) (M' : Mnd) (ar'' : List Arv) (N : Nat), (Value.int .i64 ((k : Int) + 1)) = .int .i64 (k' : Int) ∧ k' = k + 1 ∧ k' ≤ xs.length ∧ n' ≤ 2 * k' ∧ ar''.length ≤ k' ∧ V n' M' ar'' N w') := fun w' hb => ⟨k + 1, n + 1 + 1, M', ar', _, by simp, rfl, by omega, by omega, by omega, KP V6 hb⟩
      have d1 : decide ((ar'.length : Int) < (ar.length : Int)) = false := by simp; omega
      have d2 : decide ((ar.length : Int) + 1 < (ar'.length : Int)) = false := by simp; omega
      have d4 : (0 : Int) ≤ (ar.length : Int) := by omega
      have d5 : (ar.length : Int) ≤ (cn : Int) := by omega
      have d6 : ar.length ≤ cn := by omega
      have ER : Hid (er = 0 ∨ ar'.length = ar.length) := by
        rcases A5.out with h | ⟨h, _⟩
        · exact Or.inr (by rw [h])
        · exact Or.inl h
      clear V5 S5 S6w SP S6 hb6 A5
      go_wp2_with fail
      with_reducible refine EQ.out.mono ?_
      rintro e w7 ⟨rfl, hb7⟩
      have V7 := KP V6 hb7
      clear hb7 V6 EQ fin
      by_cases he : er = 0
      · subst he
        clear ER
        go_wp2_with fail
        go_roundw
        case rel => exact ⟨k + 1, n + 1 + 1, M', ar', _, by go_num, by omega, by omega, by omega, V7⟩
        case measure => simp [intOf]; omega
      · have hll : ar'.length = ar.length := ER.out.resolve_left he
        have he1 : (er == 0) = false := by simpa using he
        have HE : Hid (¬ er = 0) := he
        rw [hll]
        clear ER he
        go_wp2_with fail
        all_goals first | exact absurd (by assumption) HE.out | skip
        go_roundw
        case rel => exact ⟨k + 1, n + 1 + 1, M', ar', _, by go_num, by omega, by omega, by omega, V7⟩
        case measure => simp [intOf]; omega

    · go_wp2_with fail
      refine (SEE.out V1 (by omega)).mono ?_
      rintro e w4 ⟨As, cs, rfl, S4, hb4⟩
      have V4 := KP V1 hb4
      have l4 : ar.length ≤ 9223372036854775807 := by omega
      have PCK : Hid (∀ (q : Pk) W, pkOk q = true → Calls Try.prog 10 #[pkV q] W fun e w' => e = .returned (.int .i64 0) ∧ Below W.heap.size W w') := fun q W hq => (pcheck_any q W).mono fun e w' ⟨e1, e2⟩ => ⟨by rw [e1, if_pos hq], e2⟩
      have S4' := S4.out.1
      clear V1 hb4 DO SEE S4
      go_wp2_with fail
      go_loopw [84] (fun i wr => ∃ (j : Nat), i = .int .i64 (j : Int) ∧ j ≤ ar.length ∧ V n M ar N0 wr ∧ Hid (SlAt wr.heap.size wr 6 IsArv (.slice As ar.length cs) ar)) (fun i _ => ar.length - (intOf i).toNat)
      case atStart => exact ⟨0, rfl, by omega, V4, S4'⟩
      case round =>
        clear V4 S4'
        obtain ⟨j, rfl, hj, V1, S1⟩ := hrel
        by_cases hlj : j < ar.length
        · obtain ⟨x, hxj⟩ : ∃ x, ar[j]? = some x := ⟨_, List.getElem?_eq_getElem hlj⟩
          have HM : Hid (x ∈ ar) := List.mem_of_getElem? hxj
          obtain ⟨b, o, rfl, c0, c1, c2, c3, c4, c5⟩ := S1.out.arv hxj
          have hp := PKS.out V1 HM.out
          have V2 := KP V1 ((Below.refl _ _).alloc (Nat.le_refl _) (.cells #[.int .i64 x.1.1, .int .i64 x.1.2, .int .i64 x.2.s, .int .i64 x.2.d, .int .i64 x.2.sp, .int .i64 x.2.dp] 43))
          have S2 : Hid (SlAt (wr.alloc (.cells #[.int .i64 x.1.1, .int .i64 x.1.2, .int .i64 x.2.s, .int .i64 x.2.d, .int .i64 x.2.sp, .int .i64 x.2.dp] 43)).heap.size (wr.alloc (.cells #[.int .i64 x.1.1, .int .i64 x.1.2, .int .i64 x.2.s, .int .i64 x.2.d, .int .i64 x.2.sp, .int .i64 x.2.dp] 43)) 6 IsArv (.slice (some ⟨b, o, none⟩) ar.length cs) ar) := SlAt.mono (SlAt.below S1.out ((Below.refl _ _).alloc (Nat.le_refl _) _) (fun _ _ _ h => h)) (by simp) (fun _ _ _ h => h)
          have Y2 := bk_new wr #[.int .i64 x.1.1, .int .i64 x.1.2, .int .i64 x.2.s, .int .i64 x.2.d, .int .i64 x.2.sp, .int .i64 x.2.dp] 43
          have HS2 : Hid (Calls Try.prog 9 #[.pointer (some ⟨p.B, 0, none⟩), plA x.1.1 x.1.2, pkV x.2] (wr.alloc (.cells #[.int .i64 x.1.1, .int .i64 x.1.2, .int .i64 x.2.s, .int .i64 x.2.d, .int .i64 x.2.sp, .int .i64 x.2.dp] 43)) _) := HAS.out V2 HM.out
          have CK2 : Hid (∀ W, Calls Try.prog 10 #[pkV x.2] W fun e w' => e = .returned (.int .i64 0) ∧ Below W.heap.size W w') := fun W => PCK.out x.2 W hp
          have k1 : (0 : Int) ≤ (j : Int) := by omega
          have k2 : (j : Int) < (ar.length : Int) := by omega
          obtain ⟨⟨xi, xq⟩, ⟨s, d, sp, dp⟩⟩ := x
          dsimp only at *
          obtain ⟨⟨y0, y1, y2, y3, y4, y5⟩, _⟩ := Y2.six
          clear hxj V1 S1 hp HM
          go_wp2_with fail
          with_reducible refine HS2.out.mono ?_
          rintro e w5 ⟨rfl, hb5⟩
          have V5 := KP V2 hb5
          have S5 : Hid (SlAt w5.heap.size w5 6 IsArv (.slice (some ⟨b, o, none⟩) ar.length cs) ar) := SlAt.mono (SlAt.below S2.out hb5 (fun _ _ _ h => h)) hb5.size (fun _ _ _ h => h)
          obtain ⟨⟨z0, z1, z2, z3, z4, z5⟩, _⟩ := (Y2.keep hb5).six
          clear hb5 V2 S2 Y2 y0 y1 y2 y3 y4 y5 c0 c1 c2 c3 c4 c5 HS2
          go_wp2_with fail
          with_reducible refine (CK2.out _).mono ?_
          rintro e w6 ⟨rfl, hb6⟩
          have V6 := KP V5 hb6
          have S6 : Hid (SlAt w6.heap.size w6 6 IsArv (.slice (some ⟨b, o, none⟩) ar.length cs) ar) := SlAt.mono (SlAt.below S5.out hb6 (fun _ _ _ h => h)) hb6.size (fun _ _ _ h => h)
          clear hb6 V5 S5 CK2
          go_wp2_with fail
          go_roundw
          case rel => exact ⟨j + 1, by go_num, by omega, V6, S6⟩
          case measure => simp [intOf]; omega
        · have DE := BE V1
          go_wp2_with fail
          go_ret
          exact ⟨rfl, DE⟩


end Go.Proofs.Ytepfckicaafilab
