/-
  StepCopies: it returns true.
-/
import Derived.Test.YtepfckicaafilaaSh2
namespace Go.Proofs.Ytepfckicaafilaa
open Go.RowKit Go.Maps

theorem arr_ne_same (x y : Int) (a : Pk) (w : World) : (binOp .neq 47 (.agg #[.int .i64 x, .int .i64 y, .int .i64 a.s, .int .i64 a.d, .int .i64 a.sp, .int .i64 a.dp]) (.agg #[.int .i64 x, .int .i64 y, .int .i64 a.s, .int .i64 a.d, .int .i64 a.sp, .int .i64 a.dp])).run Try.prog w = .ok (.bool false) w := by
  obtain ⟨s, d, sp, dp⟩ := a
  simp [go_sem, Try.underlying47, Try.underlying45, Try.underlying24, Try.underlying3]
set_option maxHeartbeats 8000000 in
set_option maxRecDepth 100000 in
theorem copies_try (A L A1 A2 : Option Addr) (cap cap' cap1 cap2 : Nat) (ds : List Dv) (ls : List Lk) (xs ys : List Ac) (w : World) (hD : Hid (Devs w.heap.size w (.slice A ds.length cap) ds)) (hL : Hid (Links w.heap.size w (.slice L ls.length cap') ls)) (hX : Hid (SlAt w.heap.size w 8 IsAc (.slice A1 xs.length cap1) xs)) (hY : Hid (SlAt w.heap.size w 8 IsAc (.slice A2 ys.length cap2) ys)) :
    Calls Try.prog 6 #[.agg #[.slice A ds.length cap, .slice L ls.length cap'], .slice A1 xs.length cap1, .slice A2 ys.length cap2] w fun e w' => e = .returned (.bool true) ∧ Below w.heap.size w w' := by
  have nilS : ∀ {α : Type} (W : World) (n : Nat) (R : List Value → α → Prop), SlAt W.heap.size W n R (.slice none 0 0) [] := fun W n R => ⟨none, 0, rfl, fun _ => rfl, Nat.le_refl _, Nat.zero_le _, fun h => absurd rfl h⟩
  have CH : Hid (∀ (rs : List NRule) (vr : Value) (W : World), SlAt W.heap.size W 5 IsRule vr rs → Calls Try.prog 8 #[.agg #[.string ⟨#[]⟩, .int .i64 3, .int .i64 0, .int .u8 0, .slice none 0 0, vr, .slice none 0 0]] W fun e w' => ∃ b b', e = .returned (.agg #[.slice (some ⟨b, 0, none⟩) 3 3, .slice (some ⟨b', 0, none⟩) 2 2]) ∧ Devs w'.heap.size w' (.slice (some ⟨b, 0, none⟩) 3 3) (chainD (fireD rs)) ∧ Links w'.heap.size w' (.slice (some ⟨b', 0, none⟩) 2 2) chainL ∧ Below W.heap.size W w') := fun rs vr W h => chain_any (fireD rs) (.slice none 0 0) vr (.slice none 0 0) W (nilS _ _ _) h (nilS _ _ _)
  have NW : Hid (∀ (rs : List NRule) (b b' : Nat) (W : World), Devs W.heap.size W (.slice (some ⟨b, 0, none⟩) 3 3) (chainD (fireD rs)) → Links W.heap.size W (.slice (some ⟨b', 0, none⟩) 2 2) chainL → Calls Try.prog 7 #[.agg #[.slice (some ⟨b, 0, none⟩) 3 3, .slice (some ⟨b', 0, none⟩) 2 2]] W (NewOut W (chainD (fireD rs)) chainL)) := fun rs b b' W h1 h2 => new_any (some ⟨b, 0, none⟩) (some ⟨b', 0, none⟩) 3 2 (chainD (fireD rs)) chainL W h1 h2
  have MC : Hid (∀ (m : Mp) (W : World), MemAt W m (chainD (fireD [allN true])) chainL 0 noM → Calls Try.prog 18 #[.pointer (some ⟨m.B, 0, none⟩)] W fun e w' => ∃ g, e = .returned (.pointer (some ⟨g, 0, none⟩)) ∧ Below W.heap.size W w') := fun m W h => (mcopy_any m _ _ 0 noM W h (small_of (by rw [fire_netV]; rfl))).mono fun e w' ⟨m', h1, _, h2, _⟩ => ⟨m'.B, h1, h2⟩
  have N2 : Hid (∀ (W : World), Below w.heap.size w W → Calls Try.prog 7 #[.agg #[.slice A ds.length cap, .slice L ls.length cap']] W (NewOut W ds ls)) := fun W h => new_any A L cap cap' ds ls W ((hD.out.below h).mono h.size) ((hL.out.below h).mono h.size)
  have HXC : Hid (∀ (k : Nat) (x : Ac) W, Below w.heap.size w W → xs[k]? = some x → ∃ b o, A1 = some ⟨b, o, none⟩ ∧ W.cell? ⟨b, o + k * 8, none⟩ = some (.int .i64 x.k) ∧ W.cell? ⟨b, o + k * 8 + 1, none⟩ = some (.int .i64 x.i) ∧ W.cell? ⟨b, o + k * 8 + 2, none⟩ = some (.int .i64 x.q) ∧ W.cell? ⟨b, o + k * 8 + 3, none⟩ = some (.int .i64 x.p.s) ∧ W.cell? ⟨b, o + k * 8 + 4, none⟩ = some (.int .i64 x.p.d) ∧ W.cell? ⟨b, o + k * 8 + 5, none⟩ = some (.int .i64 x.p.sp) ∧ W.cell? ⟨b, o + k * 8 + 6, none⟩ = some (.int .i64 x.p.dp) ∧ W.cell? ⟨b, o + k * 8 + 7, none⟩ = some (.int .i64 x.c) ∧ x.ok) := fun k x W hb hk => by
    obtain ⟨_, _, e, _, _, _, h3⟩ := hX.out
    cases e
    obtain ⟨b, o, ea, hl, hr⟩ := h3 (fun e => by rw [e] at hk; cases hk)
    obtain ⟨cs, _, ⟨rfl, hok⟩, hc⟩ := hr k x hk
    exact ⟨b, o, ea, (hb.cell (p := ⟨b, _, none⟩) hl).trans (hc 0 _ rfl), (hb.cell (p := ⟨b, _, none⟩) hl).trans (hc 1 _ rfl), (hb.cell (p := ⟨b, _, none⟩) hl).trans (hc 2 _ rfl), (hb.cell (p := ⟨b, _, none⟩) hl).trans (hc 3 _ rfl), (hb.cell (p := ⟨b, _, none⟩) hl).trans (hc 4 _ rfl), (hb.cell (p := ⟨b, _, none⟩) hl).trans (hc 5 _ rfl), (hb.cell (p := ⟨b, _, none⟩) hl).trans (hc 6 _ rfl), (hb.cell (p := ⟨b, _, none⟩) hl).trans (hc 7 _ rfl), hok⟩
  have HYC : Hid (∀ (k : Nat) (x : Ac) W, Below w.heap.size w W → ys[k]? = some x → ∃ b o, A2 = some ⟨b, o, none⟩ ∧ W.cell? ⟨b, o + k * 8, none⟩ = some (.int .i64 x.k) ∧ W.cell? ⟨b, o + k * 8 + 1, none⟩ = some (.int .i64 x.i) ∧ W.cell? ⟨b, o + k * 8 + 2, none⟩ = some (.int .i64 x.q) ∧ W.cell? ⟨b, o + k * 8 + 3, none⟩ = some (.int .i64 x.p.s) ∧ W.cell? ⟨b, o + k * 8 + 4, none⟩ = some (.int .i64 x.p.d) ∧ W.cell? ⟨b, o + k * 8 + 5, none⟩ = some (.int .i64 x.p.sp) ∧ W.cell? ⟨b, o + k * 8 + 6, none⟩ = some (.int .i64 x.p.dp) ∧ W.cell? ⟨b, o + k * 8 + 7, none⟩ = some (.int .i64 x.c) ∧ x.ok) := fun k x W hb hk => by
    obtain ⟨_, _, e, _, _, _, h3⟩ := hY.out
    cases e
    obtain ⟨b, o, ea, hl, hr⟩ := h3 (fun e => by rw [e] at hk; cases hk)
    obtain ⟨cs, _, ⟨rfl, hok⟩, hc⟩ := hr k x hk
    exact ⟨b, o, ea, (hb.cell (p := ⟨b, _, none⟩) hl).trans (hc 0 _ rfl), (hb.cell (p := ⟨b, _, none⟩) hl).trans (hc 1 _ rfl), (hb.cell (p := ⟨b, _, none⟩) hl).trans (hc 2 _ rfl), (hb.cell (p := ⟨b, _, none⟩) hl).trans (hc 3 _ rfl), (hb.cell (p := ⟨b, _, none⟩) hl).trans (hc 4 _ rfl), (hb.cell (p := ⟨b, _, none⟩) hl).trans (hc 5 _ rfl), (hb.cell (p := ⟨b, _, none⟩) hl).trans (hc 6 _ rfl), (hb.cell (p := ⟨b, _, none⟩) hl).trans (hc 7 _ rfl), hok⟩
  have D0 := Below.alN (Below.refl w.heap.size w) (.cells #[.slice A ds.length cap, .slice L ls.length cap'] 32)
  have N0 := bk_new w #[.slice A ds.length cap, .slice L ls.length cap'] 32
  go_enter Try.func6, Try.ntmps6
  go_wp2_with fail
  refine (allR_any true _).mono ?_
  rintro e w1 ⟨rfl, hb1⟩
  have D1 := Below.alN (chnN hb1 D0) (.cells #[.bool true, .int .u16 65535, .int .u16 65535, .int .u8 255, .int .u8 255] 38)
  have X1 := (N0.keep hb1).alloc (.cells #[.bool true, .int .u16 65535, .int .u16 65535, .int .u8 255, .int .u8 255] 38)
  have R1 : SlAt (w1.alloc (.cells #[.bool true, .int .u16 65535, .int .u16 65535, .int .u8 255, .int .u8 255] 38)).heap.size (w1.alloc (.cells #[.bool true, .int .u16 65535, .int .u16 65535, .int .u8 255, .int .u8 255] 38)) 5 IsRule (.slice (some ⟨w1.heap.size, 0, none⟩) 1 1) [allN true] := by
    have hB := bk_new w1 #[.bool true, .int .u16 65535, .int .u16 65535, .int .u8 255, .int .u8 255] 38
    refine ⟨_, 1, rfl, (fun e => by cases e), Nat.le_refl _, by decide, fun _ => ⟨w1.heap.size, 0, rfl, hB.lt, fun k x hx => ?_⟩⟩
    match k, hx with
    | 0, hx =>
      obtain rfl := Option.some.inj hx
      refine ⟨[.bool true, .int .u16 65535, .int .u16 65535, .int .u8 255, .int .u8 255], rfl, rfl, fun j u hj => ?_⟩
      rw [show 0 + 0 * 5 + j = j by omega, hB.at]
      have hj5 : j < 5 := (List.getElem?_eq_some_iff.1 hj).1
      match j, hj5, hj with
      | 0, _, hj => exact hj
      | 1, _, hj => exact hj
      | 2, _, hj => exact hj
      | 3, _, hj => exact hj
      | 4, _, hj => exact hj
  clear hb1 D0 N0
  go_wp2_with fail
  refine (CH.out _ _ _ R1).mono ?_
  rintro e w2 ⟨b, b', rfl, hD2, hL2, hb2⟩
  have D2 := chnN hb2 D1
  have X2 := X1.keep hb2
  clear hb2 D1 X1 R1
  go_wp2_with fail
  refine (NW.out _ _ _ _ hD2 hL2).mono ?_
  rintro e w3 ⟨hb3, hN⟩
  have D3 := chnN hb3 D2
  have X3 := X2.keep hb3
  clear hb3 D2 X2 hD2 hL2
  rcases hN with ⟨hne, _⟩ | ⟨_, m, rfl, hM, _⟩
  · exact absurd (by rw [fire_netV]; rfl) hne
  go_wp2_with fail
  refine (MC.out _ _ hM).mono ?_
  rintro e w4 ⟨g, rfl, hb4⟩
  have D4 := chnN hb4 D3
  have X4 := X3.keep hb4
  clear hb4 D3 X3 hM MC CH NW
  obtain ⟨n0, n1⟩ := X4.two
  go_wp2_with fail
  refine (N2.out _ D4).mono ?_
  rintro e w5 ⟨hb5, hN⟩
  have D5 := chnN hb5 D4
  have X5 := X4.keep hb5
  have z4 := D4.size
  clear hb5 D4 X4 n0 n1
  obtain ⟨n0, n1⟩ := X5.two
  rcases hN with ⟨hne, rfl⟩ | ⟨hz, ma, rfl, hMa, la1, la2, la3, _⟩
  · go_wp2_with fail
    refine (N2.out _ D5).mono ?_
    rintro e w6 ⟨hb6, hN6⟩
    have D6 := chnN hb6 D5
    clear hb6 D5 X5 n0 n1
    rcases hN6 with ⟨_, rfl⟩ | ⟨hz6, _⟩
    rotate_left
    · exact absurd hz6 hne
    have hz1 : (netV ds ls == 0) = false := by simpa using hne
    generalize netV ds ls = nv at *
    have HNZ : Hid (¬ nv = 0) := hne
    clear hne N2
    go_wp2_with fail
    all_goals first | exact absurd (by assumption) HNZ.out | skip
    all_goals
      go_ret
      exact ⟨by simp, D6⟩
  go_wp2_with fail
  refine (N2.out _ D5).mono ?_
  rintro e w6 ⟨hb6, hN6⟩
  have D6 := chnN hb6 D5
  have z5 := D5.size
  have Ma6 := hMa.below hb6
  have va1 := hMa.fl.lt
  have va2 := hMa.ow.lt
  have va3 := hMa.bk.lt
  clear hb6 D5 X5 n0 n1 hMa N2
  rcases hN6 with ⟨hne, _⟩ | ⟨_, mb, rfl, hMb, lb1, lb2, lb3, _⟩
  · exact absurd hz hne
  have DJ : Hid (Dj ma mb) := Dj.of_lt (N := w5.heap.size) ⟨va1, va2, va3⟩ ⟨lb1, lb2, lb3⟩
  have LA : Hid (LoM w ma) := ⟨by omega, by omega, by omega⟩
  have LB : Hid (LoM w mb) := ⟨by omega, by omega, by omega⟩
  have HA : Hid (AddrsOk ds) := addrs_of hz
  have HS : Hid (Small ds ls) := small_of hz
  have P6 : PSt w ma mb ds ls 0 noM 0 noM w6 := ⟨Ma6, hMb, D6⟩
  clear hz va1 va2 va3 la1 la2 la3 lb1 lb2 lb3 z4 z5 Ma6 hMb hD hL hX hY nilS
  by_cases hl : 40 < xs.length ∨ 40 < ys.length
  · by_cases h1 : 40 < xs.length
    · have hd : decide ((40 : Int) < (xs.length : Int)) = true := by simp; omega
      clear hl h1
      go_wp2_with fail
      all_goals
        go_ret
        exact ⟨rfl, D6⟩
    · have hd : decide ((40 : Int) < (xs.length : Int)) = false := by simp; omega
      have hd2 : decide ((40 : Int) < (ys.length : Int)) = true := by simp; omega
      clear hl h1
      go_wp2_with fail
      all_goals
        go_ret
        exact ⟨rfl, D6⟩
  have hd : decide ((40 : Int) < (xs.length : Int)) = false := by simp; omega
  have hd2 : decide ((40 : Int) < (ys.length : Int)) = false := by simp; omega
  have hx40 : xs.length ≤ 40 := by omega
  have hy40 : ys.length ≤ 40 := by omega
  have AA : Hid (∀ {n : Nat} {M : Mnd} {n' : Nat} {M' : Mnd} {W : World} (x : Ac), x.ok → n < 200 → PSt w ma mb ds ls n M n' M' W → Calls Try.prog 19 #[.pointer (some ⟨ma.B, 0, none⟩), acV x] W fun e w' => (∃ v, e = .returned v) ∧ PSt w ma mb ds ls (n + 1) (actP ds ls M x) n' M' w' ∧ CK W w') := fun x hx hn h => h.actA DJ.out LA.out HA.out x hx (by unfold maxLen; omega)
  have AB : Hid (∀ {n : Nat} {M : Mnd} {n' : Nat} {M' : Mnd} {W : World} (x : Ac), x.ok → n' < 200 → PSt w ma mb ds ls n M n' M' W → Calls Try.prog 19 #[.pointer (some ⟨mb.B, 0, none⟩), acV x] W fun e w' => (∃ v, e = .returned v) ∧ PSt w ma mb ds ls n M (n' + 1) (actP ds ls M' x) w' ∧ CK W w') := fun x hx hn h => h.actB DJ.out LB.out HA.out x hx (by unfold maxLen; omega)
  have HHA : Hid (∀ {n : Nat} {M : Mnd} {n' : Nat} {M' : Mnd} {W : World} (x : Ac), x.ok → n < 200 → PSt w ma mb ds ls n M n' M' W → Calls Try.prog 10 #[.pointer (some ⟨ma.B, 0, none⟩), plA x.i x.q, pkV x.p, .int .i64 x.c] W fun e w' => e = .returned (.tuple #[arV (handleP ds ls M x.i x.q x.p x.c).tp (handleP ds ls M x.i x.q x.p x.c).p, .int .i64 (handleP ds ls M x.i x.q x.p x.c).err]) ∧ PSt w ma mb ds ls (n + 1) (handleP ds ls M x.i x.q x.p x.c).M n' M' w' ∧ CK W w') := fun x hx hn h => h.hA DJ.out LA.out HA.out x.i x.q x.p x.c hx.i hx.c (by unfold maxLen; omega)
  have HHB : Hid (∀ {n : Nat} {M : Mnd} {n' : Nat} {M' : Mnd} {W : World} (x : Ac), x.ok → n' < 200 → PSt w ma mb ds ls n M n' M' W → Calls Try.prog 10 #[.pointer (some ⟨mb.B, 0, none⟩), plA x.i x.q, pkV x.p, .int .i64 x.c] W fun e w' => e = .returned (.tuple #[arV (handleP ds ls M' x.i x.q x.p x.c).tp (handleP ds ls M' x.i x.q x.p x.c).p, .int .i64 (handleP ds ls M' x.i x.q x.p x.c).err]) ∧ PSt w ma mb ds ls n M (n' + 1) (handleP ds ls M' x.i x.q x.p x.c).M w' ∧ CK W w') := fun x hx hn h => h.hB DJ.out LB.out HA.out x.i x.q x.p x.c hx.i hx.c (by unfold maxLen; omega)
  have MC : Hid (∀ {n : Nat} {M : Mnd} {n' : Nat} {M' : Mnd} {W : World}, PSt w ma mb ds ls n M n' M' W → Calls Try.prog 18 #[.pointer (some ⟨ma.B, 0, none⟩)] W fun e w' => ∃ g, e = .returned (.pointer (some ⟨g, 0, none⟩)) ∧ ∃ Q : Nat → Mnd → World → Prop, Q 0 M w' ∧ (∀ n2 M2 W, Q n2 M2 W → PSt w ma mb ds ls n M n' M' W) ∧ (∀ n2 M2 W o, Q n2 M2 W → Q n2 M2 (W.alloc o)) ∧ ∀ n2 M2 W (x : Ac), x.ok → n2 < 200 → n < 200 → Q n2 M2 W → Calls Try.prog 19 #[.pointer (some ⟨g, 0, none⟩), acV x] W fun e w' => (∃ v, e = .returned v) ∧ Q (n2 + 1) (actP ds ls M2 x) w' ∧ CK W w') := fun {n M n' M' W} h => (mcopy_any ma ds ls n M W h.a HS.out).mono fun e w' ⟨mc, h1, h2, h3, l1, l2, l3⟩ => by
    have d1 : Dj ma mc := Dj.of_lt (N := W.heap.size) ⟨h.a.fl.lt, h.a.ow.lt, h.a.bk.lt⟩ ⟨l1, l2, l3⟩
    have d2 : Dj mb mc := Dj.of_lt (N := W.heap.size) ⟨h.b.fl.lt, h.b.ow.lt, h.b.bk.lt⟩ ⟨l1, l2, l3⟩
    have zz := h.below.size
    refine ⟨mc.B, h1, fun n2 M2 W => PSt w ma mb ds ls n M n' M' W ∧ MemAt W mc ds ls (n + n2) M2, ⟨h.keep h3, h2⟩, fun _ _ _ h => h.1, fun _ _ _ o h => ⟨h.1.alloc o, h.2.alloc o⟩, fun n2 M2 W x hx hn hn' hq => ?_⟩
    exact PSt.actC d1 d2 ⟨by omega, by omega, by omega⟩ HA.out x hx hq (show n + n2 < maxLen by unfold maxLen; omega)
  have AL : ∀ {n : Nat} {M : Mnd} {n' : Nat} {M' : Mnd} {W : World} (o : Obj), PSt w ma mb ds ls n M n' M' W → PSt w ma mb ds ls n M n' M' (W.alloc o) := fun o h => h.alloc o
  have BE : ∀ {n : Nat} {M : Mnd} {n' : Nat} {M' : Mnd} {W : World}, PSt w ma mb ds ls n M n' M' W → Below w.heap.size w W := fun h => h.below
  clear DJ LA LB HA HS hl D6
  generalize PSt w ma mb ds ls = P at *
  go_wp2_with fail
  go_loopw [69] (fun i wr => ∃ (k n : Nat) (M : Mnd), i = .int .i64 (k : Int) ∧ k ≤ xs.length ∧ n ≤ k ∧ P n M n M wr) (fun i _ => xs.length - (intOf i).toNat)
  case atStart => exact ⟨0, 0, noM, rfl, by omega, by omega, P6⟩
  case round =>
    clear P6
    obtain ⟨k, n, M, rfl, hk, hn, P1⟩ := hrel
    by_cases hlt : k < xs.length
    · obtain ⟨x, hxk⟩ : ∃ x, xs[k]? = some x := ⟨_, List.getElem?_eq_getElem hlt⟩
      obtain ⟨b, o, rfl, c0, c1, c2, c3, c4, c5, c6, c7, hok⟩ := HXC.out k x wr (BE P1) hxk
      obtain ⟨xk, xi, xq, ⟨s, d, sp, dp⟩, xc⟩ := x
      have HO : Hid (Ac.ok ⟨xk, xi, xq, ⟨s, d, sp, dp⟩, xc⟩) := hok
      have k1 : (0 : Int) ≤ (k : Int) := by omega
      have k2 : (k : Int) < (xs.length : Int) := by omega
      have X1 := bk_new wr #[.int .i64 xk, .int .i64 xi, .int .i64 xq, .int .i64 s, .int .i64 d, .int .i64 sp, .int .i64 dp, .int .i64 xc] 66
      clear hxk hok
      have P2 := AL (.cells #[.int .i64 xk, .int .i64 xi, .int .i64 xq, .int .i64 s, .int .i64 d, .int .i64 sp, .int .i64 dp, .int .i64 xc] 66) P1
      have e0 := X1.at 0
      have e1 := X1.at 1
      have e2 := X1.at 2
      have e3 := X1.at 3
      have e4 := X1.at 4
      have e5 := X1.at 5
      have e6 := X1.at 6
      have e7 := X1.at 7
      go_wp2_with fail
      refine (AA.out ⟨xk, xi, xq, ⟨s, d, sp, dp⟩, xc⟩ HO.out (by omega) P2).mono ?_
      rintro e w7 ⟨⟨v, rfl⟩, P7, C7⟩
      have X7 := X1.ck C7
      clear e0 e1 e2 e3 e4 e5 e6 e7
      have e0 := X7.at 0
      have e1 := X7.at 1
      have e2 := X7.at 2
      have e3 := X7.at 3
      have e4 := X7.at 4
      have e5 := X7.at 5
      have e6 := X7.at 6
      have e7 := X7.at 7
      go_wp2_with fail
      refine (AB.out ⟨xk, xi, xq, ⟨s, d, sp, dp⟩, xc⟩ HO.out (by omega) P7).mono ?_
      rintro e w8 ⟨⟨v', rfl⟩, P8, C8⟩
      go_wp2_with fail
      go_roundw
      case rel => exact ⟨k + 1, n + 1, _, by go_num, by omega, by omega, P8⟩
      case measure => simp [intOf]; omega

    · have hke : k = xs.length := by omega
      go_wp2_with fail
      refine (MC.out P1).mono ?_
      rintro e w7 ⟨g, rfl, Q, Q7, QP, QA, QC⟩
      have QP' : Hid (∀ n2 M2 W, Q n2 M2 W → P n M n M W) := QP
      have QC' : Hid (∀ n2 M2 W (x : Ac), x.ok → n2 < 200 → n < 200 → Q n2 M2 W → Calls Try.prog 19 #[.pointer (some ⟨g, 0, none⟩), acV x] W fun e w' => (∃ v, e = .returned v) ∧ Q (n2 + 1) (actP ds ls M2 x) w' ∧ CK W w') := QC
      clear QC QP MC AA AB P1
      go_wp2_with fail
      go_loopw [84] (fun i wr => ∃ (k n2 : Nat) (M2 : Mnd), i = .int .i64 (k : Int) ∧ k ≤ ys.length ∧ n2 ≤ k ∧ Q n2 M2 wr) (fun i _ => ys.length - (intOf i).toNat)
      case atStart => exact ⟨0, 0, M, rfl, by omega, by omega, Q7⟩
      case round =>
        clear Q7
        obtain ⟨k, n2, M2, rfl, hk2, hn2, Q1⟩ := hrel
        by_cases hlt2 : k < ys.length
        · obtain ⟨x, hxk⟩ : ∃ x, ys[k]? = some x := ⟨_, List.getElem?_eq_getElem hlt2⟩
          obtain ⟨b, o, rfl, c0, c1, c2, c3, c4, c5, c6, c7, hok⟩ := HYC.out k x wr (BE (QP'.out _ _ _ Q1)) hxk
          obtain ⟨xk, xi, xq, ⟨s, d, sp, dp⟩, xc⟩ := x
          have HO : Hid (Ac.ok ⟨xk, xi, xq, ⟨s, d, sp, dp⟩, xc⟩) := hok
          have k1 : (0 : Int) ≤ (k : Int) := by omega
          have k2 : (k : Int) < (ys.length : Int) := by omega
          have X1 := bk_new wr #[.int .i64 xk, .int .i64 xi, .int .i64 xq, .int .i64 s, .int .i64 d, .int .i64 sp, .int .i64 dp, .int .i64 xc] 66
          clear hxk hok
          have Q2 := QA _ _ _ (.cells #[.int .i64 xk, .int .i64 xi, .int .i64 xq, .int .i64 s, .int .i64 d, .int .i64 sp, .int .i64 dp, .int .i64 xc] 66) Q1
          have e0 := X1.at 0
          have e1 := X1.at 1
          have e2 := X1.at 2
          have e3 := X1.at 3
          have e4 := X1.at 4
          have e5 := X1.at 5
          have e6 := X1.at 6
          have e7 := X1.at 7
          go_wp2_with fail
          refine (QC'.out _ _ _ ⟨xk, xi, xq, ⟨s, d, sp, dp⟩, xc⟩ HO.out (by omega) (by omega) Q2).mono ?_
          rintro e w8 ⟨⟨v, rfl⟩, Q8, C8⟩
          go_wp2_with fail
          go_roundw
          case rel => exact ⟨k + 1, n2 + 1, _, by go_num, by omega, by omega, Q8⟩
          case measure => simp [intOf]; omega

        · have P9 := QP'.out _ _ _ Q1
          clear Q1 QP' QC' QA
          go_wp2_with fail
          go_loopw [94] (fun i wr => ∃ (k n3 : Nat) (M3 : Mnd), i = .int .i64 (k : Int) ∧ k ≤ ys.length ∧ n3 ≤ n + k ∧ P n3 M3 n3 M3 wr) (fun i _ => ys.length - (intOf i).toNat)
          case atStart => exact ⟨0, n, M, rfl, by omega, by omega, P9⟩
          case round =>
            clear P9
            obtain ⟨k, n3, M3, rfl, hk3, hn3, P1⟩ := hrel
            by_cases hlt3 : k < ys.length
            · obtain ⟨x, hxk⟩ : ∃ x, ys[k]? = some x := ⟨_, List.getElem?_eq_getElem hlt3⟩
              obtain ⟨b, o, rfl, c0, c1, c2, c3, c4, c5, c6, c7, hok⟩ := HYC.out k x wr (BE P1) hxk
              obtain ⟨xk, xi, xq, ⟨s, d, sp, dp⟩, xc⟩ := x
              have HO : Hid (Ac.ok ⟨xk, xi, xq, ⟨s, d, sp, dp⟩, xc⟩) := hok
              have k1 : (0 : Int) ≤ (k : Int) := by omega
              have k2 : (k : Int) < (ys.length : Int) := by omega
              have X1 := bk_new wr #[.int .i64 xk, .int .i64 xi, .int .i64 xq, .int .i64 s, .int .i64 d, .int .i64 sp, .int .i64 dp, .int .i64 xc] 66
              clear hxk hok
              have P2 := AL (.cells #[.int .i64 xk, .int .i64 xi, .int .i64 xq, .int .i64 s, .int .i64 d, .int .i64 sp, .int .i64 dp, .int .i64 xc] 66) P1
              obtain ⟨r, hr⟩ : ∃ r, handleP ds ls M3 xi xq ⟨s, d, sp, dp⟩ xc = r := ⟨_, rfl⟩
              obtain ⟨er, ⟨t1, t2⟩, ⟨r1, r2, r3, r4⟩, Mr⟩ := r
              have H1 : Hid (∀ {n' M' W}, P n3 M3 n' M' W → Calls Try.prog 10 #[.pointer (some ⟨ma.B, 0, none⟩), .agg #[.int .i64 xi, .int .i64 xq], .agg #[.int .i64 s, .int .i64 d, .int .i64 sp, .int .i64 dp], .int .i64 xc] W fun e w' => e = .returned (.tuple #[.agg #[.int .i64 t1, .int .i64 t2, .int .i64 r1, .int .i64 r2, .int .i64 r3, .int .i64 r4], .int .i64 er]) ∧ P (n3 + 1) Mr n' M' w' ∧ CK W w') := fun {n' M' W} h => by
                have h9 := HHA.out ⟨xk, xi, xq, ⟨s, d, sp, dp⟩, xc⟩ HO.out (by omega) h
                dsimp only at h9
                rw [hr] at h9
                exact h9
              have H2 : Hid (∀ {n' M' W}, P n' M' n3 M3 W → Calls Try.prog 10 #[.pointer (some ⟨mb.B, 0, none⟩), .agg #[.int .i64 xi, .int .i64 xq], .agg #[.int .i64 s, .int .i64 d, .int .i64 sp, .int .i64 dp], .int .i64 xc] W fun e w' => e = .returned (.tuple #[.agg #[.int .i64 t1, .int .i64 t2, .int .i64 r1, .int .i64 r2, .int .i64 r3, .int .i64 r4], .int .i64 er]) ∧ P n' M' (n3 + 1) Mr w' ∧ CK W w') := fun {n' M' W} h => by
                have h9 := HHB.out ⟨xk, xi, xq, ⟨s, d, sp, dp⟩, xc⟩ HO.out (by omega) h
                dsimp only at h9
                rw [hr] at h9
                exact h9
              have ANE := fun w => arr_ne_same t1 t2 ⟨r1, r2, r3, r4⟩ w
              clear hr HHA HHB
              have e0 := X1.at 0
              have e1 := X1.at 1
              have e2 := X1.at 2
              have e3 := X1.at 3
              have e4 := X1.at 4
              have e5 := X1.at 5
              have e6 := X1.at 6
              have e7 := X1.at 7
              go_wp2_with fail
              refine (H1.out P2).mono ?_
              rintro e w8 ⟨rfl, P8, C8⟩
              have X8 := (X1.ck C8).alloc (.cells #[.int .i64 t1, .int .i64 t2, .int .i64 r1, .int .i64 r2, .int .i64 r3, .int .i64 r4] 47)
              have P9 := AL (.cells #[.int .i64 t1, .int .i64 t2, .int .i64 r1, .int .i64 r2, .int .i64 r3, .int .i64 r4] 47) P8
              have Y9 := bk_new w8 #[.int .i64 t1, .int .i64 t2, .int .i64 r1, .int .i64 r2, .int .i64 r3, .int .i64 r4] 47
              clear e0 e1 e2 e3 e4 e5 e6 e7
              have e0 := X8.at 0
              have e1 := X8.at 1
              have e2 := X8.at 2
              have e3 := X8.at 3
              have e4 := X8.at 4
              have e5 := X8.at 5
              have e6 := X8.at 6
              have e7 := X8.at 7
              go_wp2_with fail
              refine (H2.out P9).mono ?_
              rintro e wa ⟨rfl, Pa, Ca⟩
              have Pb := AL (.cells #[.int .i64 t1, .int .i64 t2, .int .i64 r1, .int .i64 r2, .int .i64 r3, .int .i64 r4] 47) Pa
              have Yb := (Y9.ck Ca).alloc (.cells #[.int .i64 t1, .int .i64 t2, .int .i64 r1, .int .i64 r2, .int .i64 r3, .int .i64 r4] 47)
              have Zb := bk_new wa #[.int .i64 t1, .int .i64 t2, .int .i64 r1, .int .i64 r2, .int .i64 r3, .int .i64 r4] 47
              obtain ⟨⟨y0, y1, y2, y3, y4, y5⟩, _⟩ := Yb.six
              obtain ⟨⟨z0, z1, z2, z3, z4, z5⟩, _⟩ := Zb.six
              clear e0 e1 e2 e3 e4 e5 e6 e7
              go_wp2_with fail
              go_roundw
              case rel => exact ⟨k + 1, n3 + 1, Mr, by go_num, by omega, by omega, Pb⟩
              case measure => simp [intOf]; omega

            · have DE := BE P1
              go_wp2_with fail
              go_ret
              exact ⟨rfl, DE⟩



end Go.Proofs.Ytepfckicaafilaa
