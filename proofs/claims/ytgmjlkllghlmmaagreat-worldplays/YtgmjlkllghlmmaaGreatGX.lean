/-
  WorldPlays: the tale's Do, whole; a new tale; world.Run.
-/
import Derived.Test.YtgmjlkllghlmmaaGreatPw5
import Derived.Test.YtgmjlkllghlmmaaGreatPw6
import Derived.Test.YtgmjlkllghlmmaaGreatGZ
import Derived.Deep.RegionHeld3
import Derived.Deep.CutRange
namespace Go.Proofs.YtgmjlkllghlmmaaGreat
open Go.RowKit Go.Maps

theorem tdo_any {T g : Nat} {A L : Option Addr} {c d : Nat} {F : Option Addr} {cF : Nat} {S : Option Addr} {cS : Nat} {ds : List Dv} {ls : List Lk} {FL : List Ft} {ar : List Arv} (x : Ev) (w : World) (h : Hid (TlAt w T g A L c d F cF S cS ds ls FL ar)) (hn : FL.length ≤ 5000) (ha : ar.length ≤ 5000) :
    Calls Tryz.prog 15 #[.pointer (some ⟨T, 0, none⟩), .agg (evC x)] w fun e w' => e = .returned (.int .i64 (talP ds ls FL ar x).1) ∧ TOut w T g A L c d F S ds ls (talP ds ls FL ar x).2.1 (talP ds ls FL ar x).2.2 w' := by
  obtain ⟨k, i, q, ⟨s, pd, sp, dp⟩, cc⟩ := x
  by_cases k1 : k = 1
  · subst k1
    exact tdo_1 i q s pd sp dp cc w h ha (by show _ = _; unfold talP; rw [if_pos rfl])
  by_cases k2 : k = 2
  · subst k2
    exact tdo_2 i q s pd sp dp cc w h hn ha (by show _ = _; unfold talP; rw [if_neg (show ¬ (2 : Int) = 1 by decide), if_pos rfl])
  by_cases k3 : k = 3
  · subst k3
    exact tdo_3 i q s pd sp dp cc w h hn (by show _ = _; unfold talP; rw [if_neg (show ¬ (3 : Int) = 1 by decide), if_neg (show ¬ (3 : Int) = 2 by decide), if_pos rfl])
  exact tdo_x k k1 k2 k3 i q s pd sp dp cc w h (by show _ = _; unfold talP; rw [if_neg k1, if_neg k2, if_neg k3])
set_option maxHeartbeats 2000000 in
set_option maxRecDepth 100000 in
theorem newtale_any (A L : Option Addr) (c d : Nat) (ds : List Dv) (ls : List Lk) (w : World) (hD : Hid (Devs w.heap.size w (.slice A ds.length c) ds)) (hL : Hid (Links w.heap.size w (.slice L ls.length d) ls)) :
    Calls Tryz.prog 13 #[.agg #[.slice A ds.length c, .slice L ls.length d]] w fun e w' => e = .returned (.pointer (some ⟨w.heap.size + 2, 0, none⟩)) ∧ TlAt w' (w.heap.size + 2) (w.heap.size + 1) A L c d none 0 none 0 ds ls [] [] ∧ Below w.heap.size w w' ∧ w.heap.size + 2 < w'.heap.size := by
  have N0 := bk_new w #[.slice A ds.length c, .slice L ls.length d] 25
  obtain ⟨n0, n1⟩ := N0.two
  have D3 := Below.alN (Below.alN (Below.alN (Below.refl w.heap.size w) (.cells #[.slice A ds.length c, .slice L ls.length d] 25)) (.cells #[.slice A ds.length c, .slice L ls.length d, .slice none 0 0] 35)) (.cells #[.pointer (some ⟨w.heap.size + 1, 0, none⟩), .slice none 0 0] 62)
  have B2 := (bk_new' (w.alloc (.cells #[.slice A ds.length c, .slice L ls.length d] 25)) #[.slice A ds.length c, .slice L ls.length d, .slice none 0 0] 35 (w.heap.size + 1) (by simp)).alloc (.cells #[.pointer (some ⟨w.heap.size + 1, 0, none⟩), .slice none 0 0] 62)
  have B3 := bk_new' ((w.alloc (.cells #[.slice A ds.length c, .slice L ls.length d] 25)).alloc (.cells #[.slice A ds.length c, .slice L ls.length d, .slice none 0 0] 35)) #[.pointer (some ⟨w.heap.size + 1, 0, none⟩), .slice none 0 0] 62 (w.heap.size + 2) (by simp)
  have hT : TlAt (((w.alloc (.cells #[.slice A ds.length c, .slice L ls.length d] 25)).alloc (.cells #[.slice A ds.length c, .slice L ls.length d, .slice none 0 0] 35)).alloc (.cells #[.pointer (some ⟨w.heap.size + 1, 0, none⟩), .slice none 0 0] 62)) (w.heap.size + 2) (w.heap.size + 1) A L c d none 0 none 0 ds ls [] [] := ⟨B3, ⟨B2, (hD.out.below D3).mono (by omega), (hL.out.below D3).mono (by omega), own_nil _ _ _ _⟩, own_nil _ _ _ _, by omega⟩
  have hz := B3.lt
  clear hD hL N0 B2 B3
  go_enter Tryz.func13, Tryz.ntmps13
  go_wp2_with fail
  go_ret
  exact ⟨rfl, hT, D3, hz⟩
/-- The state behind so many events; so many went well. -/
noncomputable def stN (ds : List Dv) (ls : List Lk) (xs : List Ev) : Nat → Mnd × List Arv
  | 0 => (noM, [])
  | k + 1 => match xs[k]? with
    | some x => ((doP ds ls (stN ds ls xs k).1 (stN ds ls xs k).2 x).2.1, (doP ds ls (stN ds ls xs k).1 (stN ds ls xs k).2 x).2.2)
    | none => stN ds ls xs k
def okN (ds : List Dv) (ls : List Lk) (xs : List Ev) (k : Nat) : Prop := ∀ j x, j < k → xs[j]? = some x → (doP ds ls (stN ds ls xs j).1 (stN ds ls xs j).2 x).1 = 0
theorem stN_succ {ds : List Dv} {ls : List Lk} {xs : List Ev} {k : Nat} {x : Ev} (h : xs[k]? = some x) : stN ds ls xs (k + 1) = ((doP ds ls (stN ds ls xs k).1 (stN ds ls xs k).2 x).2.1, (doP ds ls (stN ds ls xs k).1 (stN ds ls xs k).2 x).2.2) := by
  show (match xs[k]? with | some x => _ | none => _) = _
  rw [h]
theorem okN_succ {ds : List Dv} {ls : List Lk} {xs : List Ev} {k : Nat} {x : Ev} (h : xs[k]? = some x) (ho : okN ds ls xs k) (hx : (doP ds ls (stN ds ls xs k).1 (stN ds ls xs k).2 x).1 = 0) : okN ds ls xs (k + 1) := fun j y hj hy => by
  by_cases e : j = k
  · subst e
    rw [h] at hy
    cases hy
    exact hx
  · exact ho j y (by omega) hy
/-- An event in a world, with what is known of it. -/
theorem wdo_any {p : Wp} {S : Option Addr} {cS : Nat} {ds : List Dv} {ls : List Lk} {n : Nat} {M : Mnd} {ar : List Arv} (x : Ev) (W : World) (h : WlAt W p S cS ds ls n M ar) (hx : x.ok) (hz : netV ds ls = 0) (hM : MOk M) (hn : n + 1 < maxLen) (ha : ar.length ≤ 5000) :
    Calls Tryz.prog 14 #[.pointer (some ⟨p.B, 0, none⟩), .agg (evC x)] W fun e w' => e = .returned (.int .i64 (doP ds ls M ar x).1) ∧ AOut W p S ds ls (n + 1 + 1) (doP ds ls M ar x).2.1 (doP ds ls M ar x).2.2 w' := by
  have o2 := (handle_ok hz hM x.i x.q x.p x.c (ls := ls)).2
  exact do_any x W h hx hz (fun he => ⟨(o2 he).2.1, (o2 he).2.2, pkOk_ok (o2 he).1⟩) hn ha
end Go.Proofs.YtgmjlkllghlmmaaGreat

namespace Go.Proofs.YtgmjlkllghlmmaaGreat
open Go.RowKit Go.Maps

def IsEv (cs : List Value) (x : Ev) : Prop := cs = [.int .i64 x.k, .int .i64 x.i, .int .i64 x.q, .int .i64 x.p.s, .int .i64 x.p.d, .int .i64 x.p.sp, .int .i64 x.p.dp, .int .i64 x.c] ∧ x.ok
theorem WlAt.sblk {W : World} {p : Wp} {S : Option Addr} {cS : Nat} {ds : List Dv} {ls : List Lk} {n : Nat} {M : Mnd} {ar : List Arv} (h : WlAt W p S cS ds ls n M ar) : ∀ a, S = some a → p.B + 1 ≤ a.block ∧ a.block < W.heap.size := fun a ha => by
  rcases h.seen.2 with ⟨e, _⟩ | ⟨g, cap, cur, e, hb, hh, _⟩
  · have := (Value.slice.inj e).1
    rw [ha] at this
    cases this
  · have := (Value.slice.inj e).1
    rw [ha] at this
    cases this
    exact ⟨hb, (Array.getElem?_eq_some_iff.1 hh).1⟩
def LoW (w : World) (p : Wp) : Prop := w.heap.size ≤ p.f ∧ w.heap.size ≤ p.o ∧ w.heap.size ≤ p.k ∧ w.heap.size ≤ p.B ∧ w.heap.size ≤ p.G
theorem below_wf {w W W' : World} {p : Wp} {S : Option Addr} {cS : Nat} {ds : List Dv} {ls : List Lk} {n : Nat} {M : Mnd} {ar : List Arv} (h : WlAt W p S cS ds ls n M ar) (lo : LoW w p) (hb : Below w.heap.size w W) (hf : WF p S W W') : Below w.heap.size w W' := by
  obtain ⟨l1, l2, l3, l4, l5⟩ := lo
  exact hb.trans ⟨hf.os, hf.tape, hf.output, hf.size, fun b hb' => hf.block b (Nat.lt_of_lt_of_le hb' hb.size) (by omega) (by omega) (by omega) (by omega) (by omega) (fun a ha => by have := (h.sblk a ha).1; omega)⟩
theorem doP_len {ds : List Dv} {ls : List Lk} (hz : netV ds ls = 0) {M : Mnd} (hM : MOk M) {ar : List Arv} (ha : ∀ x ∈ ar, pkOk x.2 = true) (x : Ev) : (doP ds ls M ar x).2.2.length ≤ ar.length + 1 := by
  rcases (do_ok hz hM ha x).2.2 with e | ⟨_, y, e⟩
  · rw [e]
    omega
  · rw [e]
    simp
def RunOut (w : World) (ds : List Dv) (ls : List Lk) (xs : List Ev) (e : Ending) (w' : World) : Prop :=
  Below w.heap.size w w' ∧ ((∃ (i : Nat) (x : Ev), xs[i]? = some x ∧ okN ds ls xs i ∧ ¬ (doP ds ls (stN ds ls xs i).1 (stN ds ls xs i).2 x).1 = 0 ∧ e = .returned (.tuple #[.slice none 0 0, .int .i64 ((i : Int) + 1), .int .i64 (doP ds ls (stN ds ls xs i).1 (stN ds ls xs i).2 x).1])) ∨
    (okN ds ls xs xs.length ∧ ∃ A c, e = .returned (.tuple #[.slice A (stN ds ls xs xs.length).2.length c, .int .i64 ((stN ds ls xs xs.length).2.length : Int), .int .i64 0]) ∧ SlAt w'.heap.size w' 6 IsArv (.slice A (stN ds ls xs xs.length).2.length c) (stN ds ls xs xs.length).2 ∧ ∀ a, A = some a → w.heap.size ≤ a.block ∧ a.block < w'.heap.size))
set_option maxHeartbeats 8000000 in
set_option maxRecDepth 100000 in
theorem run_any (A L A1 : Option Addr) (cap cap' cap1 : Nat) (ds : List Dv) (ls : List Lk) (xs : List Ev) (w : World) (hD : Hid (Devs w.heap.size w (.slice A ds.length cap) ds)) (hL : Hid (Links w.heap.size w (.slice L ls.length cap') ls)) (hX : Hid (SlAt w.heap.size w 8 IsEv (.slice A1 xs.length cap1) xs)) (hz : netV ds ls = 0) (h80 : xs.length ≤ 80) :
    Calls Tryz.prog 20 #[.agg #[.slice A ds.length cap, .slice L ls.length cap'], .slice A1 xs.length cap1] w (RunOut w ds ls xs) := by
  have NW : Hid (∀ (W : World), Below w.heap.size w W → Calls Tryz.prog 12 #[.agg #[.slice A ds.length cap, .slice L ls.length cap']] W (WNew W ds ls)) := fun W h => wnew_any A L cap cap' ds ls W ((hD.out.below h).mono h.size) ((hL.out.below h).mono h.size)
  have HXC : Hid (∀ (k : Nat) (x : Ev) W, Below w.heap.size w W → xs[k]? = some x → ∃ b o, A1 = some ⟨b, o, none⟩ ∧ W.cell? ⟨b, o + k * 8, none⟩ = some (.int .i64 x.k) ∧ W.cell? ⟨b, o + k * 8 + 1, none⟩ = some (.int .i64 x.i) ∧ W.cell? ⟨b, o + k * 8 + 2, none⟩ = some (.int .i64 x.q) ∧ W.cell? ⟨b, o + k * 8 + 3, none⟩ = some (.int .i64 x.p.s) ∧ W.cell? ⟨b, o + k * 8 + 4, none⟩ = some (.int .i64 x.p.d) ∧ W.cell? ⟨b, o + k * 8 + 5, none⟩ = some (.int .i64 x.p.sp) ∧ W.cell? ⟨b, o + k * 8 + 6, none⟩ = some (.int .i64 x.p.dp) ∧ W.cell? ⟨b, o + k * 8 + 7, none⟩ = some (.int .i64 x.c) ∧ x.ok) := fun k x W hb hk => by
    obtain ⟨_, _, e, _, _, _, h3⟩ := hX.out
    cases e
    obtain ⟨b, o, ea, hl, hr⟩ := h3 (fun e => by rw [e] at hk; cases hk)
    obtain ⟨cs, _, ⟨rfl, hok⟩, hc⟩ := hr k x hk
    exact ⟨b, o, ea, (hb.cell (p := ⟨b, _, none⟩) hl).trans (hc 0 _ rfl), (hb.cell (p := ⟨b, _, none⟩) hl).trans (hc 1 _ rfl), (hb.cell (p := ⟨b, _, none⟩) hl).trans (hc 2 _ rfl), (hb.cell (p := ⟨b, _, none⟩) hl).trans (hc 3 _ rfl), (hb.cell (p := ⟨b, _, none⟩) hl).trans (hc 4 _ rfl), (hb.cell (p := ⟨b, _, none⟩) hl).trans (hc 5 _ rfl), (hb.cell (p := ⟨b, _, none⟩) hl).trans (hc 6 _ rfl), (hb.cell (p := ⟨b, _, none⟩) hl).trans (hc 7 _ rfl), hok⟩
  have D0 := Below.alN (Below.refl w.heap.size w) (.cells #[.slice A ds.length cap, .slice L ls.length cap'] 25)
  have N0 := bk_new w #[.slice A ds.length cap, .slice L ls.length cap'] 25
  obtain ⟨n0, n1⟩ := N0.two
  clear hX hD hL
  go_enter Tryz.func20, Tryz.ntmps20
  go_wp2_with fail
  refine (NW.out _ D0).mono ?_
  rintro e w1 ⟨hb1, hN⟩
  have D1 := chnN hb1 D0
  have zz : w.heap.size ≤ (w.alloc (.cells #[.slice A ds.length cap, .slice L ls.length cap'] 25)).heap.size := by simp
  clear hb1 D0 N0 n0 n1 NW
  rcases hN with ⟨hne, _⟩ | ⟨_, p, rfl, hW, l1, l2, l3, l4, l5⟩
  · exact absurd hz hne
  have LO : LoW w p := ⟨by omega, by omega, by omega, by omega, by omega⟩
  obtain ⟨V, hV⟩ : ∃ V : Nat → World → Prop, V = fun k W => ∃ S cS n, WlAt W p S cS ds ls n (stN ds ls xs k).1 (stN ds ls xs k).2 ∧ Below w.heap.size w W ∧ MOk (stN ds ls xs k).1 ∧ (∀ y ∈ (stN ds ls xs k).2, pkOk y.2 = true) ∧ n ≤ 2 * k ∧ (stN ds ls xs k).2.length ≤ k ∧ okN ds ls xs k := ⟨_, rfl⟩
  have V1 : V 0 w1 := by
    rw [hV]
    exact ⟨none, 0, 0, hW, D1, mok_no, (fun y hy => by cases hy), Nat.le_refl _, Nat.le_refl _, fun j x hj => by omega⟩
  have KP : Hid (∀ k W W', V k W → Below W.heap.size W W' → V k W') := fun k W W' h hb => by
    rw [hV] at h ⊢
    obtain ⟨S, cS, n, h1, h2, h3⟩ := h
    exact ⟨S, cS, n, h1.below hb, chnN hb h2, h3⟩
  have BL : Hid (∀ k W, V k W → Below w.heap.size w W) := fun k W h => by
    rw [hV] at h
    obtain ⟨S, cS, n, h1, h2, h3⟩ := h
    exact h2
  have DO : Hid (∀ k x W, V k W → xs[k]? = some x → x.ok → k ≤ 100 → Calls Tryz.prog 14 #[.pointer (some ⟨p.B, 0, none⟩), .agg (evC x)] W fun e w' => ∃ err, e = .returned (.int .i64 err) ∧ Below w.heap.size w w' ∧ (err = 0 → V (k + 1) w') ∧ (¬ err = 0 → RunOut w ds ls xs (.returned (.tuple #[.slice none 0 0, .int .i64 ((k : Int) + 1), .int .i64 err])) w')) := fun k x W h hx hok hk => by
    rw [hV] at h
    obtain ⟨S, cS, n, h1, h2, h3, h4, h5, h6, h7⟩ := h
    refine (wdo_any x W h1 hok hz h3 (by unfold maxLen; omega) (by omega)).mono fun e w' ⟨e1, S', cS', q1, q2, q3⟩ => ?_
    have hb' := below_wf h1 LO h2 q2
    obtain ⟨o1, o2, _⟩ := do_ok hz h3 h4 x (ls := ls)
    have ol := doP_len hz h3 h4 x (ls := ls)
    refine ⟨_, e1, hb', fun he => ?_, fun he => ⟨hb', Or.inl ⟨k, x, hx, h7, he, rfl⟩⟩⟩
    rw [hV]
    dsimp only
    rw [stN_succ hx]
    exact ⟨S', cS', _, q1, hb', o1, o2, by omega, by dsimp only; omega, okN_succ hx h7 he⟩
  have SE : Hid (∀ k W, V k W → k = xs.length → ∃ S cS, W.cell? ⟨p.B, 7, none⟩ = some (.slice S (stN ds ls xs xs.length).2.length cS) ∧ Calls Tryz.prog 17 #[.pointer (some ⟨p.B, 0, none⟩)] W fun e w' => ∃ A c, e = .returned (.slice A (stN ds ls xs xs.length).2.length c) ∧ Below W.heap.size W w' ∧ RunOut w ds ls xs (.returned (.tuple #[.slice A (stN ds ls xs xs.length).2.length c, .int .i64 ((stN ds ls xs xs.length).2.length : Int), .int .i64 0])) w') := fun k W h hk => by
    rw [hV] at h
    subst hk
    obtain ⟨S, cS, n, h1, h2, h3, h4, h5, h6, h7⟩ := h
    refine ⟨S, cS, h1.blk.at 7, (seen_any W h1 (by omega)).mono fun e w' ⟨A, c, e1, e2, e3, e4⟩ => ?_⟩
    exact ⟨A, c, e1, e4, chnN e4 h2, Or.inr ⟨h7, A, c, rfl, e2, fun a ha => ⟨Nat.le_trans h2.size (e3 a ha).1, (e3 a ha).2⟩⟩⟩
  generalize (stN ds ls xs xs.length).2.length = NN at *
  have hd : decide ((2000 : Int) < (xs.length : Int)) = false := by simp; omega
  clear hV LO l1 l2 l3 l4 l5 hW D1 zz hz
  dsimp only
  go_wp2_with fail
  go_loopw [25] (fun i wr => ∃ k : Nat, i = .int .i64 (k : Int) ∧ k ≤ xs.length ∧ V k wr) (fun i _ => xs.length - (intOf i).toNat)
  case atStart => exact ⟨0, rfl, by omega, V1⟩
  case round =>
    clear V1
    obtain ⟨k, rfl, hk, Q1⟩ := hrel
    by_cases hlt : k < xs.length
    rotate_left
    · have hke : decide ((k : Int) < (xs.length : Int)) = false := by simp; omega
      obtain ⟨S, cS, s7, CS⟩ := SE.out k wr.drew (KP.out _ _ _ Q1 (Below.refl _ _).drew) (by omega)
      have s7' : wr.cell? ⟨p.B, 7, none⟩ = some (.slice S NN cS) := s7
      have CS' : Hid (Calls Tryz.prog 17 #[.pointer (some ⟨p.B, 0, none⟩)] wr.drew fun e w' => ∃ A c, e = .returned (.slice A NN c) ∧ Below wr.drew.heap.size wr.drew w' ∧ RunOut w ds ls xs (.returned (.tuple #[.slice A NN c, .int .i64 (NN : Int), .int .i64 0])) w') := CS
      clear DO SE KP BL HXC Q1 CS s7
      go_wp2_with fail
      go_region_held3 (fun w' => w'.cell? ⟨p.B, 7, none⟩ = some (.slice S NN cS)) (go_keep) ((go_at_call 17; refine CS'.out.mono ?_; rintro e w3 ⟨A2, c2, rfl, hb3, hR⟩; have s8 := (hb3.cell (p := ⟨p.B, 7, none⟩) (World.block_lt_of_cell? _ _ s7')).trans s7'))
      go_wp2_with fail
      refine bodyPost_ret (v := .tuple #[.slice A2 NN c2, .int .i64 (NN : Int), .int .i64 0]) (by simp [results, Tryz.results20, go_sem]) rfl hR
    obtain ⟨x, hxk⟩ : ∃ x, xs[k]? = some x := ⟨_, List.getElem?_eq_getElem hlt⟩
    obtain ⟨b, o, rfl, c0, c1, c2, c3, c4, c5, c6, c7, hok⟩ := HXC.out k x wr (BL.out _ _ Q1) hxk
    have k1 : (0 : Int) ≤ (k : Int) := by omega
    have k2 : (k : Int) < (xs.length : Int) := by omega
    have Q2 := KP.out _ _ _ Q1 ((Below.refl wr.heap.size wr).alloc (Nat.le_refl _) (.cells (evC x) 56))
    have X1 := bk_new wr (evC x) 56
    obtain ⟨xk, xi, xq, ⟨s, d, sp, dp⟩, xc⟩ := x
    have HXK : Hid (xs[k]? = some ⟨xk, xi, xq, ⟨s, d, sp, dp⟩, xc⟩) := hxk
    have HOK : Hid (Ev.ok ⟨xk, xi, xq, ⟨s, d, sp, dp⟩, xc⟩) := hok
    have e0 := X1.at 0
    have e1 := X1.at 1
    have e2 := X1.at 2
    have e3 := X1.at 3
    have e4 := X1.at 4
    have e5 := X1.at 5
    have e6 := X1.at 6
    have e7 := X1.at 7
    dsimp only at c0 c1 c2 c3 c4 c5 c6 c7
    clear SE KP BL HXC Q1 hxk hok X1
    go_wp2_with fail
    refine (DO.out k ⟨xk, xi, xq, ⟨s, d, sp, dp⟩, xc⟩ _ Q2 HXK.out HOK.out (by omega)).mono ?_
    rintro e w3 ⟨err, rfl, hb3, h0, h1⟩
    dsimp only
    by_cases he : err = 0
    · subst he
      have Q3 := h0 rfl
      clear h0 h1 HXK HOK DO Q2 c0 c1 c2 c3 c4 c5 c6 c7 e0 e1 e2 e3 e4 e5 e6 e7
      go_wp2_with fail
      go_roundw
      case rel => exact ⟨k + 1, by go_num, by omega, Q3⟩
      case measure => simp [intOf]; omega
    · have hR := h1 he
      have heb : (err != 0) = true := by simpa using he
      clear h0 h1 HXK HOK DO Q2 c0 c1 c2 c3 c4 c5 c6 c7 e0 e1 e2 e3 e4 e5 e6 e7 he
      go_wp2_with fail
      refine bodyPost_ret (v := .tuple #[.slice none 0 0, .int .i64 ((k : Int) + 1), .int .i64 err]) (by simp [results, Tryz.results20, go_sem]) rfl hR
end Go.Proofs.YtgmjlkllghlmmaaGreat

namespace Go.Proofs.YtgmjlkllghlmmaaGreat
open Go.RowKit Go.Maps

structure Tp where
  T : Nat
  g : Nat
  F : Option Addr
  cF : Nat
  S : Option Addr
  cS : Nat
theorem own_ad {F : Option Addr} {n c b : Nat} (e : (Value.slice F n c).ownBlock = some b) : ∃ a, F = some a ∧ a.block = b := by
  cases F with
  | none => cases e
  | some a =>
    refine ⟨a, rfl, ?_⟩
    simp only [Value.ownBlock] at e
    first
      | exact (Option.some.inj e)
      | (split at e <;> simp_all)
theorem own_lt {w : World} {B e size n m c : Nat} {S : Option Addr} {xs : List Value} (h : w.ownsRow B e size (.slice S m c) n xs) : ∀ a, S = some a → a.block < w.heap.size := fun a ha => by
  obtain ⟨A7, c7, hv, hA⟩ := own_sl h
  obtain ⟨rfl, rfl, rfl⟩ := Value.slice.inj hv
  exact (own_block h (hA a ha)).1
theorem WlAt.stay {W W' : World} {p : Wp} {S : Option Addr} {cS : Nat} {ds : List Dv} {ls : List Lk} {n : Nat} {M : Mnd} {ar : List Arv} (h : WlAt W p S cS ds ls n M ar) (h1 : ∀ b, b ≤ p.B → W'.heap[b]? = W.heap[b]?) (h2 : ∀ b, (Value.slice S ar.length cS).ownBlock = some b → W'.heap[b]? = W.heap[b]?) : WlAt W' p S cS ds ls n M ar :=
  have kt : KT p.B W W' := fun b hb _ => h1 b (Nat.le_of_lt hb)
  have lo := h.lo
  ⟨(h1 _ (Nat.le_refl _)).trans h.blk, h.devs.kt kt, h.links.kt kt, h.mdevs.kt kt, h.mlinks.kt kt, h.fl.same (h1 _ (Nat.le_of_lt lo.1)), h.ow.same (h1 _ (Nat.le_of_lt lo.2.1)), h.bk.same (h1 _ (Nat.le_of_lt lo.2.2.1)), h.fo, h.fk, h.ok, own_keptBut h.seen h2, h.was.same (h1 _ (Nat.le_of_lt lo.2.2.2)), h.gf, h.go, h.gk, h.lo, h.all⟩
theorem TlAt.stay {w W W' : World} {T g : Nat} {A L : Option Addr} {c d : Nat} {F : Option Addr} {cF : Nat} {S : Option Addr} {cS : Nat} {ds : List Dv} {ls : List Lk} {FL : List Ft} {ar : List Arv} (h : TlAt W T g A L c d F cF S cS ds ls FL ar) (hD : Devs w.heap.size w (.slice A ds.length c) ds) (hL : Links w.heap.size w (.slice L ls.length d) ls) (hb : Below w.heap.size w W') (hg : w.heap.size ≤ g) (e1 : W'.heap[T]? = W.heap[T]?) (e2 : W'.heap[g]? = W.heap[g]?) (eF : ∀ a, F = some a → W'.heap[a.block]? = W.heap[a.block]?) (eS : ∀ a, S = some a → W'.heap[a.block]? = W.heap[a.block]?) : TlAt W' T g A L c d F cF S cS ds ls FL ar :=
  ⟨e1.trans h.blk, ⟨e2.trans h.mn.blk, (hD.below hb).mono hg, (hL.below hb).mono hg, own_keptBut h.mn.facts (fun b hb' => by
    obtain ⟨a, ha, e⟩ := own_ad hb'
    rw [← e]
    exact eF a ha)⟩, own_keptBut h.seen (fun b hb' => by
    obtain ⟨a, ha, e⟩ := own_ad hb'
    rw [← e]
    exact eS a ha), h.lt⟩
/-- The colours of a tale's blocks. -/
def TCol (col : Nat → Nat) (k : Nat) (t : Tp) : Prop := col t.T = k ∧ col t.g = k ∧ (∀ a, t.F = some a → col a.block = k) ∧ ∀ a, t.S = some a → col a.block = k
structure PW (w : World) (ds : List Dv) (ls : List Lk) (A L : Option Addr) (c d : Nat) (col : Nat → Nat) (p : Wp) (S : Option Addr) (cS n : Nat) (M : Mnd) (ar : List Arv) (t1 : Tp) (FL1 : List Ft) (ar1 : List Arv) (t2 : Tp) (FL2 : List Ft) (ar2 : List Arv) (X : List (Nat × Array Value × TypeId)) (W : World) : Prop where
  wl : WlAt W p S cS ds ls n M ar
  ta : TlAt W t1.T t1.g A L c d t1.F t1.cF t1.S t1.cS ds ls FL1 ar1
  tb : TlAt W t2.T t2.g A L c d t2.F t2.cF t2.S t2.cS ds ls FL2 ar2
  bl : Below w.heap.size w W
  hD : Devs w.heap.size w (.slice A ds.length c) ds
  hL : Links w.heap.size w (.slice L ls.length d) ls
  cw : col p.B = 1 ∧ col p.f = 1 ∧ col p.o = 1 ∧ col p.k = 1 ∧ col p.G = 1 ∧ ∀ a, S = some a → col a.block = 1
  c1 : TCol col 2 t1
  c2 : TCol col 3 t2
  z : ∀ b, col b ≠ 0 → w.heap.size ≤ b
  y : ∀ b, 2 ≤ col b → p.B < b
  x : ∀ b cs ty, (b, cs, ty) ∈ X → Bk W b cs ty ∧ col b = 0
section
variable {w W W' : World} {ds : List Dv} {ls : List Lk} {A L : Option Addr} {c d : Nat} {col : Nat → Nat} {p : Wp} {S : Option Addr} {cS n : Nat} {M : Mnd} {ar : List Arv} {t1 : Tp} {FL1 : List Ft} {ar1 : List Arv} {t2 : Tp} {FL2 : List Ft} {ar2 : List Arv} {X : List (Nat × Array Value × TypeId)}
theorem TlAt.lts {T g : Nat} {F : Option Addr} {cF : Nat} (h : TlAt W T g A L c d F cF S cS ds ls FL1 ar) : T < W.heap.size ∧ g < W.heap.size ∧ (∀ a, F = some a → a.block < W.heap.size) ∧ ∀ a, S = some a → a.block < W.heap.size := ⟨h.blk.lt, h.mn.blk.lt, own_lt h.mn.facts, own_lt h.seen⟩
theorem TlAt.dyed {t : Tp} {k k' : Nat} (h : TlAt W t.T t.g A L c d t.F t.cF t.S t.cS ds ls FL1 ar1) (hc : TCol col k t) (hk : k ≠ k') (hk0 : k ≠ 0) (hz : ∀ b, col b ≠ 0 → w.heap.size ≤ b) (hD : Devs w.heap.size w (.slice A ds.length c) ds) (hL : Links w.heap.size w (.slice L ls.length d) ls) (hb : Below w.heap.size w W') (hs : ∀ b, b < W.heap.size → col b ≠ k' → W'.heap[b]? = W.heap[b]?) : TlAt W' t.T t.g A L c d t.F t.cF t.S t.cS ds ls FL1 ar1 := by
  obtain ⟨l1, l2, l3, l4⟩ := h.lts
  obtain ⟨q1, q2, q3, q4⟩ := hc
  exact h.stay hD hL hb (hz _ (by rw [q2]; exact hk0)) (hs _ l1 (by rw [q1]; exact hk)) (hs _ l2 (by rw [q2]; exact hk)) (fun a ha => hs _ (l3 a ha) (by rw [q3 a ha]; exact hk)) (fun a ha => hs _ (l4 a ha) (by rw [q4 a ha]; exact hk))
/-- New blocks get a colour. -/
def recol (N k : Nat) (col : Nat → Nat) : Nat → Nat := fun b => if b < N then col b else k
theorem recol_lt {N k b : Nat} (h : b < N) : recol N k col b = col b := by unfold recol; rw [if_pos h]
theorem recol_ge {N k b : Nat} (h : N ≤ b) : recol N k col b = k := by unfold recol; rw [if_neg (by omega)]
theorem TCol.re {t : Tp} {k N m : Nat} (hc : TCol col k t) (l1 : t.T < N) (l2 : t.g < N) (l3 : ∀ a, t.F = some a → a.block < N) (l4 : ∀ a, t.S = some a → a.block < N) : TCol (recol N m col) k t :=
  ⟨(recol_lt l1).trans hc.1, (recol_lt l2).trans hc.2.1, fun a ha => (recol_lt (l3 a ha)).trans (hc.2.2.1 a ha), fun a ha => (recol_lt (l4 a ha)).trans (hc.2.2.2 a ha)⟩
theorem PW.paint (h : PW w ds ls A L c d col p S cS n M ar t1 FL1 ar1 t2 FL2 ar2 X W) (k : Nat) : PW w ds ls A L c d (recol W.heap.size k col) p S cS n M ar t1 FL1 ar1 t2 FL2 ar2 X W := by
  obtain ⟨a1, a2, a3, a4⟩ := h.ta.lts
  obtain ⟨b1, b2, b3, b4⟩ := h.tb.lts
  obtain ⟨w1, w2, w3, w4, w5, w6⟩ := h.cw
  have hB := h.wl.blk.lt
  obtain ⟨o1, o2, o3, o4⟩ := h.wl.lo
  have hbz := h.bl.size
  refine ⟨h.wl, h.ta, h.tb, h.bl, h.hD, h.hL, ⟨(recol_lt hB).trans w1, (recol_lt (by omega)).trans w2, (recol_lt (by omega)).trans w3, (recol_lt (by omega)).trans w4, (recol_lt (by omega)).trans w5, fun a ha => (recol_lt (h.wl.sblk a ha).2).trans (w6 a ha)⟩, h.c1.re a1 a2 a3 a4, h.c2.re b1 b2 b3 b4, fun b hb => ?_, fun b hb => ?_, fun b cs ty hx => ?_⟩
  · by_cases e : b < W.heap.size
    · rw [recol_lt e] at hb
      exact h.z b hb
    · omega
  · by_cases e : b < W.heap.size
    · rw [recol_lt e] at hb
      exact h.y b hb
    · omega
  · obtain ⟨q1, q2⟩ := h.x b cs ty hx
    exact ⟨q1, (recol_lt q1.lt).trans q2⟩
theorem PW.same (h : PW w ds ls A L c d col p S cS n M ar t1 FL1 ar1 t2 FL2 ar2 X W) (hb : Below W.heap.size W W') : PW w ds ls A L c d col p S cS n M ar t1 FL1 ar1 t2 FL2 ar2 X W' :=
  ⟨h.wl.below hb, h.ta.below hb, h.tb.below hb, chnN hb h.bl, h.hD, h.hL, h.cw, h.c1, h.c2, h.z, h.y, fun b cs ty hx => ⟨(h.x b cs ty hx).1.keep hb, (h.x b cs ty hx).2⟩⟩
theorem PW.add (h : PW w ds ls A L c d col p S cS n M ar t1 FL1 ar1 t2 FL2 ar2 X W) (cs : Array Value) (ty : TypeId) : ∃ col', PW w ds ls A L c d col' p S cS n M ar t1 FL1 ar1 t2 FL2 ar2 ((W.heap.size, cs, ty) :: X) (W.alloc (.cells cs ty)) := by
  have h1 := (h.paint 0).same ((Below.refl W.heap.size W).alloc (Nat.le_refl _) (.cells cs ty))
  refine ⟨recol W.heap.size 0 col, h1.wl, h1.ta, h1.tb, h1.bl, h1.hD, h1.hL, h1.cw, h1.c1, h1.c2, h1.z, h1.y, fun b cs' ty' hx => ?_⟩
  rcases List.mem_cons.1 hx with e | e
  · cases e
    exact ⟨bk_new W cs ty, recol_ge (Nat.le_refl _)⟩
  · exact h1.x b cs' ty' e
theorem PW.less (h : PW w ds ls A L c d col p S cS n M ar t1 FL1 ar1 t2 FL2 ar2 X W) {X' : List (Nat × Array Value × TypeId)} (hX : ∀ q ∈ X', q ∈ X) : PW w ds ls A L c d col p S cS n M ar t1 FL1 ar1 t2 FL2 ar2 X' W := ⟨h.wl, h.ta, h.tb, h.bl, h.hD, h.hL, h.cw, h.c1, h.c2, h.z, h.y, fun b cs ty hx => h.x b cs ty (hX _ hx)⟩
theorem PW.world {n' : Nat} {M' : Mnd} {ar' : List Arv} (h0 : PW w ds ls A L c d col p S cS n M ar t1 FL1 ar1 t2 FL2 ar2 X W) (ho : AOut W p S ds ls n' M' ar' W') : ∃ col' S' cS', PW w ds ls A L c d col' p S' cS' n' M' ar' t1 FL1 ar1 t2 FL2 ar2 X W' := by
  have h := h0.paint 1
  obtain ⟨S', cS', q1, q2, q3⟩ := ho
  obtain ⟨w1, w2, w3, w4, w5, w6⟩ := h.cw
  have hs : ∀ b, b < W.heap.size → recol W.heap.size 1 col b ≠ 1 → W'.heap[b]? = W.heap[b]? := fun b hb hc => q2.block b hb (fun e => hc (by rw [e]; exact w1)) (fun e => hc (by rw [e]; exact w2)) (fun e => hc (by rw [e]; exact w3)) (fun e => hc (by rw [e]; exact w4)) (fun e => hc (by rw [e]; exact w5)) (fun a ha e => hc (by rw [e]; exact w6 a ha))
  have hbl : Below w.heap.size w W' := h.bl.trans ⟨q2.os, q2.tape, q2.output, q2.size, fun b hb => hs b (Nat.lt_of_lt_of_le hb h.bl.size) (fun e => by have := h.z b (by omega); omega)⟩
  refine ⟨_, S', cS', q1, h.ta.dyed h.c1 (by decide) (by decide) h.z h.hD h.hL hbl hs, h.tb.dyed h.c2 (by decide) (by decide) h.z h.hD h.hL hbl hs, hbl, h.hD, h.hL, ⟨w1, w2, w3, w4, w5, fun a ha => ?_⟩, h.c1, h.c2, h.z, h.y, fun b cs ty hx => ?_⟩
  · rcases q3 a ha with ⟨a', ha', e⟩ | e
    · rw [← e]
      exact w6 a' ha'
    · exact recol_ge e
  · obtain ⟨k1, k2⟩ := h.x b cs ty hx
    exact ⟨(hs b k1.lt (by rw [k2]; decide)).trans k1, k2⟩
theorem PW.tale {FL' : List Ft} {ar' : List Arv} (h0 : PW w ds ls A L c d col p S cS n M ar t1 FL1 ar1 t2 FL2 ar2 X W) (ho : TOut W t1.T t1.g A L c d t1.F t1.S ds ls FL' ar' W') : ∃ col' t', t'.T = t1.T ∧ PW w ds ls A L c d col' p S cS n M ar t' FL' ar' t2 FL2 ar2 X W' := by
  have h := h0.paint 2
  obtain ⟨F', cF', S', cS', q1, q2, q3, q4⟩ := ho
  obtain ⟨w1, w2, w3, w4⟩ := h.c1
  have hs : ∀ b, b < W.heap.size → recol W.heap.size 2 col b ≠ 2 → W'.heap[b]? = W.heap[b]? := fun b hb hc => q2.block b hb (fun e => hc (by rw [e]; exact w1)) (fun e => hc (by rw [e]; exact w2)) (fun a ha e => hc (by rw [e]; exact w3 a ha)) (fun a ha e => hc (by rw [e]; exact w4 a ha))
  have hbl : Below w.heap.size w W' := h.bl.trans ⟨q2.os, q2.tape, q2.output, q2.size, fun b hb => hs b (Nat.lt_of_lt_of_le hb h.bl.size) (fun e => by have := h.z b (by omega); omega)⟩
  have hB := h.wl.blk.lt
  refine ⟨_, ⟨t1.T, t1.g, F', cF', S', cS'⟩, rfl, h.wl.stay (fun b hb => hs b (by omega) (fun e => by have := h.y b (by omega); omega)) (fun b hb => ?_), q1, h.tb.dyed h.c2 (by decide) (by decide) h.z h.hD h.hL hbl hs, hbl, h.hD, h.hL, h.cw, ⟨w1, w2, fun a ha => ?_, fun a ha => ?_⟩, h.c2, h.z, h.y, fun b cs ty hx => ?_⟩
  · obtain ⟨a, ha, e⟩ := own_ad hb
    rw [← e]
    exact hs _ (h.wl.sblk a ha).2 (by rw [h.cw.2.2.2.2.2 a ha]; decide)
  · rcases q3 a ha with ⟨a', ha', e⟩ | e
    · rw [← e]
      exact w3 a' ha'
    · exact recol_ge e
  · rcases q4 a ha with ⟨a', ha', e⟩ | e
    · rw [← e]
      exact w4 a' ha'
    · exact recol_ge e
  · obtain ⟨k1, k2⟩ := h.x b cs ty hx
    exact ⟨(hs b k1.lt (by rw [k2]; decide)).trans k1, k2⟩
end
end Go.Proofs.YtgmjlkllghlmmaaGreat

namespace Go.Proofs.YtgmjlkllghlmmaaGreat
open Go.RowKit Go.Maps

abbrev Xs := List (Nat × Array Value × TypeId)
structure WIn (w : World) (ds : List Dv) (ls : List Lk) (A L : Option Addr) (c d pB T1 T2 : Nat) (k : Nat) (col : Nat → Nat) (p : Wp) (S : Option Addr) (cS n : Nat) (M : Mnd) (ar : List Arv) (t1 : Tp) (FL1 : List Ft) (t2 : Tp) (X : Xs) (W : World) : Prop where
  pw : PW w ds ls A L c d col p S cS n M ar t1 FL1 ar t2 [] [] X W
  b : p.B = pB
  e1 : t1.T = T1
  e2 : t2.T = T2
  m : MOk M
  pk : ∀ y ∈ ar, pkOk y.2 = true
  r : RelM ds FL1 M
  n : n ≤ 2 * k
  f : FL1.length ≤ k
  a : ar.length ≤ k
def W1 (w : World) (ds : List Dv) (ls : List Lk) (A L : Option Addr) (c d pB T1 T2 k : Nat) (X : Xs) (W : World) : Prop := ∃ col p S cS n M ar t1 FL1 t2, WIn w ds ls A L c d pB T1 T2 k col p S cS n M ar t1 FL1 t2 X W
def W2 (w : World) (ds : List Dv) (ls : List Lk) (A L : Option Addr) (c d pB T1 T2 k : Nat) (x : Ev) (err : Int) (X : Xs) (W : World) : Prop := ∃ col p S cS n M ar t1 FL1 t2, PW w ds ls A L c d col p S cS n (doP ds ls M ar x).2.1 (doP ds ls M ar x).2.2 t1 FL1 ar t2 [] [] X W ∧ p.B = pB ∧ t1.T = T1 ∧ t2.T = T2 ∧ MOk M ∧ (∀ y ∈ ar, pkOk y.2 = true) ∧ RelM ds FL1 M ∧ n ≤ 2 * k + 2 ∧ FL1.length ≤ k ∧ ar.length ≤ k ∧ err = (doP ds ls M ar x).1
def W3 (w : World) (ds : List Dv) (ls : List Lk) (A L : Option Addr) (c d pB T1 T2 k : Nat) (A2 : Option Addr) (n2 c2 : Nat) (X : Xs) (W : World) : Prop := ∃ col p S cS n M ar t1 FL1 t2, WIn w ds ls A L c d pB T1 T2 k col p S cS n M ar t1 FL1 t2 X W ∧ n2 = ar.length ∧ SlAt W.heap.size W 6 IsArv (.slice A2 ar.length c2) ar
def W4 (w : World) (ds : List Dv) (ls : List Lk) (A L : Option Addr) (c d pB T1 T2 k : Nat) (y : Arv) (bb : Bool) (X : Xs) (W : World) : Prop := ∃ col p S cS n M ar t1 FL1 t2, WIn w ds ls A L c d pB T1 T2 k col p S cS n M ar t1 FL1 t2 X W ∧ bb = (inF ar y).isSome
section
variable {w W W' : World} {ds : List Dv} {ls : List Lk} {A L : Option Addr} {c d pB T1 T2 k : Nat} {col : Nat → Nat} {p : Wp} {S : Option Addr} {cS n : Nat} {M : Mnd} {ar : List Arv} {t1 : Tp} {FL1 : List Ft} {t2 : Tp} {X : Xs}
theorem WIn.keep (h : WIn w ds ls A L c d pB T1 T2 k col p S cS n M ar t1 FL1 t2 X W) (hb : Below W.heap.size W W') : WIn w ds ls A L c d pB T1 T2 k col p S cS n M ar t1 FL1 t2 X W' := ⟨h.pw.same hb, h.b, h.e1, h.e2, h.m, h.pk, h.r, h.n, h.f, h.a⟩
end
structure WFx (w : World) (pB T1 : Nat) (P1 : Nat → Xs → World → Prop) (P2 : Nat → Ev → Int → Xs → World → Prop) (P3 : Nat → Option Addr → Nat → Nat → Xs → World → Prop) (P4 : Nat → Arv → Bool → Xs → World → Prop) : Prop where
  k1 : ∀ {k X W W'}, P1 k X W → Below W.heap.size W W' → P1 k X W'
  k2 : ∀ {k x err X W W'}, P2 k x err X W → Below W.heap.size W W' → P2 k x err X W'
  k3 : ∀ {k A2 n2 c2 X W W'}, P3 k A2 n2 c2 X W → Below W.heap.size W W' → P3 k A2 n2 c2 X W'
  k4 : ∀ {k y bb X W W'}, P4 k y bb X W → Below W.heap.size W W' → P4 k y bb X W'
  add : ∀ {k X W} (cs : Array Value) (ty : TypeId), P1 k X W → P1 k ((W.heap.size, cs, ty) :: X) (W.alloc (.cells cs ty))
  less : ∀ {k X X' W}, P1 k X W → (∀ q ∈ X', q ∈ X) → P1 k X' W
  x1 : ∀ {k X W b cs ty}, P1 k X W → (b, cs, ty) ∈ X → Bk W b cs ty
  x2 : ∀ {k x err X W b cs ty}, P2 k x err X W → (b, cs, ty) ∈ X → Bk W b cs ty
  x3 : ∀ {k A2 n2 c2 X W b cs ty}, P3 k A2 n2 c2 X W → (b, cs, ty) ∈ X → Bk W b cs ty
  bl : ∀ {k X W}, P1 k X W → Below w.heap.size w W
  d1 : ∀ {k X W} (x : Ev), P1 k X W → x.ok → k ≤ 100 → Calls Tryz.prog 14 #[.pointer (some ⟨pB, 0, none⟩), .agg (evC x)] W fun e w' => ∃ err, e = .returned (.int .i64 err) ∧ P2 k x err X w'
  d2 : ∀ {k x err X W}, P2 k x err X W → k ≤ 100 → Calls Tryz.prog 15 #[.pointer (some ⟨T1, 0, none⟩), .agg (evC x)] W fun e w' => e = .returned (.int .i64 err) ∧ P1 (k + 1) X w'
  ts : ∀ {k X W}, P1 k X W → ∃ S1 n1 c1, W.cell? ⟨T1, 1, none⟩ = some (.slice S1 n1 c1)
  se : ∀ {k X W}, P1 k X W → k ≤ 200 → Calls Tryz.prog 17 #[.pointer (some ⟨pB, 0, none⟩)] W fun e w' => ∃ A2 n2 c2, e = .returned (.slice A2 n2 c2) ∧ P3 k A2 n2 c2 X w' ∧ Below W.heap.size W w'
  eq : ∀ {k A2 n2 c2 X W}, P3 k A2 n2 c2 X W → ∀ S1 n1 c1, W.cell? ⟨T1, 1, none⟩ = some (.slice S1 n1 c1) → Calls Tryz.prog 16 #[.slice A2 n2 c2, .slice S1 n1 c1] W fun e w' => e = .returned (.bool true) ∧ P1 k X w' ∧ Below W.heap.size W w'
  ha : ∀ {k X W} (y : Arv), P1 k X W → arvOk y → Calls Tryz.prog 18 #[.pointer (some ⟨pB, 0, none⟩), plA y.1.1 y.1.2, pkV y.2] W fun e w' => ∃ bb, e = .returned (.bool bb) ∧ P4 k y bb X w' ∧ Below W.heap.size W w'
  co : ∀ {k y bb X W}, P4 k y bb X W → ∀ S1 n1 c1, W.cell? ⟨T1, 1, none⟩ = some (.slice S1 n1 c1) → Calls Tryz.prog 19 #[.slice S1 n1 c1, .agg #[.int .i64 y.1.1, .int .i64 y.1.2, .int .i64 y.2.s, .int .i64 y.2.d, .int .i64 y.2.sp, .int .i64 y.2.dp]] W fun e w' => e = .returned (.bool bb) ∧ P1 k X w' ∧ Below W.heap.size W w'
theorem w_facts (w : World) (ds : List Dv) (ls : List Lk) (A L : Option Addr) (c d pB T1 T2 : Nat) (hz : netV ds ls = 0) : WFx w pB T1 (W1 w ds ls A L c d pB T1 T2) (W2 w ds ls A L c d pB T1 T2) (W3 w ds ls A L c d pB T1 T2) (W4 w ds ls A L c d pB T1 T2) where
  k1 h hb := by
    obtain ⟨col, p, S, cS, n, M, ar, t1, FL1, t2, h⟩ := h
    exact ⟨col, p, S, cS, n, M, ar, t1, FL1, t2, h.keep hb⟩
  k2 h hb := by
    obtain ⟨col, p, S, cS, n, M, ar, t1, FL1, t2, h, r⟩ := h
    exact ⟨col, p, S, cS, n, M, ar, t1, FL1, t2, h.same hb, r⟩
  k3 h hb := by
    obtain ⟨col, p, S, cS, n, M, ar, t1, FL1, t2, h, rfl, r⟩ := h
    exact ⟨col, p, S, cS, n, M, ar, t1, FL1, t2, h.keep hb, rfl, (SlAt.below r hb (fun _ _ _ h => h)).mono hb.size (fun _ _ _ h => h)⟩
  k4 h hb := by
    obtain ⟨col, p, S, cS, n, M, ar, t1, FL1, t2, h, r⟩ := h
    exact ⟨col, p, S, cS, n, M, ar, t1, FL1, t2, h.keep hb, r⟩
  add cs ty h := by
    obtain ⟨col, p, S, cS, n, M, ar, t1, FL1, t2, h⟩ := h
    obtain ⟨col', h'⟩ := h.pw.add cs ty
    exact ⟨col', p, S, cS, n, M, ar, t1, FL1, t2, ⟨h', h.b, h.e1, h.e2, h.m, h.pk, h.r, h.n, h.f, h.a⟩⟩
  less h hX := by
    obtain ⟨col, p, S, cS, n, M, ar, t1, FL1, t2, h⟩ := h
    exact ⟨col, p, S, cS, n, M, ar, t1, FL1, t2, ⟨h.pw.less hX, h.b, h.e1, h.e2, h.m, h.pk, h.r, h.n, h.f, h.a⟩⟩
  x1 h hx := by
    obtain ⟨col, p, S, cS, n, M, ar, t1, FL1, t2, h⟩ := h
    exact (h.pw.x _ _ _ hx).1
  x2 h hx := by
    obtain ⟨col, p, S, cS, n, M, ar, t1, FL1, t2, h, _⟩ := h
    exact (h.x _ _ _ hx).1
  x3 h hx := by
    obtain ⟨col, p, S, cS, n, M, ar, t1, FL1, t2, h, _⟩ := h
    exact (h.pw.x _ _ _ hx).1
  bl h := by
    obtain ⟨col, p, S, cS, n, M, ar, t1, FL1, t2, h⟩ := h
    exact h.pw.bl
  d1 {k X W} x h hx hk := by
    obtain ⟨col, p, S, cS, n, M, ar, t1, FL1, t2, h⟩ := h
    obtain ⟨hp, rfl, e1, e2, m, pk, r, hn, hf, ha⟩ := h
    refine (wdo_any x W hp.wl hx hz m (by unfold maxLen; omega) (by omega)).mono fun e w' ⟨he, ho⟩ => ?_
    obtain ⟨col', S', cS', hp'⟩ := hp.world ho
    exact ⟨_, he, col', p, S', cS', _, M, ar, t1, FL1, t2, hp', rfl, e1, e2, m, pk, r, by omega, hf, ha, rfl⟩
  d2 {k x err X W} h hk := by
    obtain ⟨col, p, S, cS, n, M, ar, t1, FL1, t2, hp, hB, rfl, e2, m, pk, r, hn, hf, ha, rfl⟩ := h
    obtain ⟨r1, r2, r3⟩ := tal_rel r ar x (ls := ls)
    obtain ⟨o1, o2, _⟩ := do_ok hz m pk x (ls := ls)
    have ol := doP_len hz m pk x (ls := ls)
    have tl := talP_len ds ls FL1 ar x
    refine (tdo_any x W hp.ta (by omega) (by omega)).mono fun e w' ⟨he, ho⟩ => ?_
    rw [r2] at ho
    rw [r1] at he
    obtain ⟨col', t', et, hp'⟩ := hp.tale ho
    exact ⟨he, col', p, S, cS, n, _, _, t', _, t2, ⟨hp', hB, et, e2, o1, o2, r3, by omega, by omega, by omega⟩⟩
  ts h := by
    obtain ⟨col, p, S, cS, n, M, ar, t1, FL1, t2, h⟩ := h
    have := h.pw.ta.blk.at 1
    rw [h.e1] at this
    exact ⟨_, _, _, this⟩
  se {k X W} h hk := by
    obtain ⟨col, p, S, cS, n, M, ar, t1, FL1, t2, h⟩ := h
    have hb := h.b
    subst hb
    refine (seen_any W h.pw.wl (by have := h.a; omega)).mono fun e w' ⟨A2, c2, e1, e2, e3, e4⟩ => ?_
    exact ⟨A2, _, c2, e1, ⟨col, p, S, cS, n, M, ar, t1, FL1, t2, h.keep e4, rfl, e2⟩, e4⟩
  eq {k A2 n2 c2 X W} h S1 n1 c1 hc := by
    obtain ⟨col, p, S, cS, n, M, ar, t1, FL1, t2, h, rfl, hr⟩ := h
    have ht := h.pw.ta.blk.at 1
    rw [h.e1, hc] at ht
    obtain ⟨rfl, rfl, rfl⟩ := Value.slice.inj (Option.some.inj ht)
    exact (equal_arrs A2 t1.S c2 t1.cS ar W.heap.size W hr h.pw.ta.row).mono fun e w' ⟨he, hb⟩ => ⟨he, ⟨col, p, S, cS, n, M, ar, t1, FL1, t2, h.keep hb⟩, hb⟩
  ha {k X W} y h hy := by
    obtain ⟨col, p, S, cS, n, M, ar, t1, FL1, t2, h⟩ := h
    have hb := h.b
    subst hb
    exact (whas_any y W h.pw.wl hy).mono fun e w' ⟨he, hb⟩ => ⟨_, he, ⟨col, p, S, cS, n, M, ar, t1, FL1, t2, h.keep hb, rfl⟩, hb⟩
  co {k y bb X W} h S1 n1 c1 hc := by
    obtain ⟨col, p, S, cS, n, M, ar, t1, FL1, t2, h, rfl⟩ := h
    have ht := h.pw.ta.blk.at 1
    rw [h.e1, hc] at ht
    obtain ⟨rfl, rfl, rfl⟩ := Value.slice.inj (Option.some.inj ht)
    have := contains_ar t1.S t1.cS ar y W.heap.size W (Nat.le_refl _) h.pw.ta.row
    rw [any_inF] at this
    exact this.mono fun e w' ⟨he, hb⟩ => ⟨he, ⟨col, p, S, cS, n, M, ar, t1, FL1, t2, h.keep hb⟩, hb⟩
/-- The second loop's state: a tale alone, and a row that stays. -/
def R1 (w : World) (ds : List Dv) (ls : List Lk) (xs : List Ev) (A L : Option Addr) (c d T2 : Nat) (A3 : Option Addr) (c3 : Nat) (zs : List Arv) (k : Nat) (W : World) : Prop :=
  ∃ (t : Tp) (FL : List Ft) (lo hi : Nat), t.T = T2 ∧ TlAt W t.T t.g A L c d t.F t.cF t.S t.cS ds ls FL (stN ds ls xs k).2 ∧ Below w.heap.size w W ∧ RelM ds FL (stN ds ls xs k).1 ∧ FL.length ≤ k ∧ (stN ds ls xs k).2.length ≤ k ∧ MOk (stN ds ls xs k).1 ∧ (∀ y ∈ (stN ds ls xs k).2, pkOk y.2 = true) ∧ w.heap.size ≤ t.g ∧ (t.T < lo ∧ t.g < lo ∧ (∀ a, t.F = some a → a.block < lo ∨ hi ≤ a.block) ∧ ∀ a, t.S = some a → a.block < lo ∨ hi ≤ a.block) ∧ (∀ a, t.F = some a → w.heap.size ≤ a.block) ∧ (∀ a, t.S = some a → w.heap.size ≤ a.block) ∧ hi ≤ W.heap.size ∧ SlAt hi W 6 IsArv (.slice A3 zs.length c3) zs ∧ (∀ a, A3 = some a → lo ≤ a.block ∧ a.block < hi)
theorem r_keep {w W W' : World} {ds : List Dv} {ls : List Lk} {xs : List Ev} {A L : Option Addr} {c d T2 : Nat} {A3 : Option Addr} {c3 : Nat} {zs : List Arv} {k : Nat} (h : R1 w ds ls xs A L c d T2 A3 c3 zs k W) (hb : Below W.heap.size W W') : R1 w ds ls xs A L c d T2 A3 c3 zs k W' := by
  obtain ⟨t, FL, lo, hi, h0, h1, h2, h3, h4, h5, h6, h7, h8, h9, h10, h11, h12, h13, h14⟩ := h
  exact ⟨t, FL, lo, hi, h0, h1.below hb, chnN hb h2, h3, h4, h5, h6, h7, h8, h9, h10, h11, Nat.le_trans h12 hb.size, SlAt.below h13 (hb.mono h12) (fun _ _ _ h => h), h14⟩
theorem r_do {w W : World} {ds : List Dv} {ls : List Lk} {xs : List Ev} {A L : Option Addr} {c d T2 : Nat} {A3 : Option Addr} {c3 : Nat} {zs : List Arv} {k : Nat} {x : Ev} (hz : netV ds ls = 0) (h : R1 w ds ls xs A L c d T2 A3 c3 zs k W) (hx : xs[k]? = some x) (hk : k ≤ 100) :
    Calls Tryz.prog 15 #[.pointer (some ⟨T2, 0, none⟩), .agg (evC x)] W fun e w' => e = .returned (.int .i64 (doP ds ls (stN ds ls xs k).1 (stN ds ls xs k).2 x).1) ∧ R1 w ds ls xs A L c d T2 A3 c3 zs (k + 1) w' := by
  obtain ⟨t, FL, lo, hi, rfl, h1, h2, h3, h4, h5, h6, h7, h8, ⟨h9, h9b, h9c, h9d⟩, h10, h11, h12, h13, h14⟩ := h
  obtain ⟨r1, r2, r3⟩ := tal_rel h3 (stN ds ls xs k).2 x (ls := ls)
  obtain ⟨o1, o2, _⟩ := do_ok hz h6 h7 x (ls := ls)
  have ol := doP_len hz h6 h7 x (ls := ls)
  have tl := talP_len ds ls FL (stN ds ls xs k).2 x
  have hgT := h1.lt
  refine (tdo_any x W h1 (by omega) (by omega)).mono fun e w' ⟨he, ho⟩ => ?_
  rw [r2] at ho
  rw [r1] at he
  obtain ⟨F', cF', S', cS', q1, q2, q3, q4⟩ := ho
  refine ⟨he, ⟨t.T, t.g, F', cF', S', cS'⟩, (talP ds ls FL (stN ds ls xs k).2 x).2.1, lo, hi, rfl, ?_⟩
  rw [stN_succ hx]
  dsimp only
  have hbz := h2.size
  refine ⟨q1, h2.trans ⟨q2.os, q2.tape, q2.output, q2.size, fun b hb => q2.block b (by omega) (by omega) (by omega) (fun a ha => by have := h10 a ha; omega) (fun a ha => by have := h11 a ha; omega)⟩, r3, by omega, by omega, o1, o2, h8, ⟨h9, h9b, fun a ha => ?_, fun a ha => ?_⟩, fun a ha => ?_, fun a ha => ?_, Nat.le_trans h12 q2.size, SlAt.blkS h13 (fun a ha => ⟨q2.block a.block (by have := h14 a ha; omega) (by have := h14 a ha; omega) (by have := h14 a ha; omega) (fun a' ha' => by have := h14 a ha; have := h9c a' ha'; omega) (fun a' ha' => by have := h14 a ha; have := h9d a' ha'; omega), (h14 a ha).2⟩), h14⟩
  · rcases q3 a ha with ⟨a', ha', e⟩ | e
    · rw [← e]
      exact h9c a' ha'
    · exact Or.inr (by omega)
  · rcases q4 a ha with ⟨a', ha', e⟩ | e
    · rw [← e]
      exact h9d a' ha'
    · exact Or.inr (by omega)
  · rcases q3 a ha with ⟨a', ha', e⟩ | e
    · rw [← e]
      exact h10 a' ha'
    · omega
  · rcases q4 a ha with ⟨a', ha', e⟩ | e
    · rw [← e]
      exact h11 a' ha'
    · omega
theorem r_eq {w W : World} {ds : List Dv} {ls : List Lk} {xs : List Ev} {A L : Option Addr} {c d T2 : Nat} {A3 : Option Addr} {c3 k : Nat} (h : R1 w ds ls xs A L c d T2 A3 c3 (stN ds ls xs k).2 k W) : ∃ S1 c1, W.cell? ⟨T2, 1, none⟩ = some (.slice S1 (stN ds ls xs k).2.length c1) ∧ Calls Tryz.prog 16 #[.slice A3 (stN ds ls xs k).2.length c3, .slice S1 (stN ds ls xs k).2.length c1] W fun e w' => e = .returned (.bool true) ∧ Below W.heap.size W w' := by
  obtain ⟨t, FL, lo, hi, rfl, h1, h2, h3, h4, h5, h6, h7, h8, h9, h10, h11, h12, h13, h14⟩ := h
  exact ⟨t.S, t.cS, h1.blk.at 1, equal_arrs A3 t.S c3 t.cS _ W.heap.size W (h13.mono h12 (fun _ _ _ h => h)) h1.row⟩
theorem r_start {w W W' : World} {ds : List Dv} {ls : List Lk} {xs : List Ev} {A L : Option Addr} {c d pB T1 T2 k : Nat} {X : Xs} {A3 : Option Addr} {c3 : Nat} {zs : List Arv} (h : W1 w ds ls A L c d pB T1 T2 k X W) (hb : Below W.heap.size W W') (hr : SlAt W'.heap.size W' 6 IsArv (.slice A3 zs.length c3) zs) (ha : ∀ a, A3 = some a → W.heap.size ≤ a.block ∧ a.block < W'.heap.size) : R1 w ds ls xs A L c d T2 A3 c3 zs 0 W' := by
  obtain ⟨col, p, S, cS, n, M, ar, t1, FL1, t2, h⟩ := h
  obtain ⟨l1, l2, l3, l4⟩ := h.pw.tb.lts
  obtain ⟨q1, q2, q3, q4⟩ := h.pw.c2
  exact ⟨t2, [], W.heap.size, W'.heap.size, h.e2, h.pw.tb.below hb, chnN hb h.pw.bl, rel_no ds, Nat.le_refl _, Nat.le_refl _, mok_no, (fun y hy => by cases hy), h.pw.z _ (by rw [q2]; decide), ⟨l1, l2, fun a ha => Or.inl (l3 a ha), fun a ha => Or.inl (l4 a ha)⟩, fun a ha => h.pw.z _ (by rw [q3 a ha]; decide), fun a ha => h.pw.z _ (by rw [q4 a ha]; decide), Nat.le_refl _, hr, ha⟩
end Go.Proofs.YtgmjlkllghlmmaaGreat

namespace Go.Proofs.YtgmjlkllghlmmaaGreat
open Go.RowKit Go.Maps

theorem Bk.ev8 {w : World} {k : Nat} {t : TypeId} {a b c d e f g h : Value} (hB : Bk w k #[a, b, c, d, e, f, g, h] t) : w.cell? ⟨k, 0, none⟩ = some a ∧ w.cell? ⟨k, 1, none⟩ = some b ∧ w.cell? ⟨k, 2, none⟩ = some c ∧ w.cell? ⟨k, 3, none⟩ = some d ∧ w.cell? ⟨k, 4, none⟩ = some e ∧ w.cell? ⟨k, 5, none⟩ = some f ∧ w.cell? ⟨k, 6, none⟩ = some g ∧ w.cell? ⟨k, 7, none⟩ = some h := ⟨hB.at 0, hB.at 1, hB.at 2, hB.at 3, hB.at 4, hB.at 5, hB.at 6, hB.at 7⟩
theorem w_start {w W0 W2 w3 w4 : World} {ds : List Dv} {ls : List Lk} {A L : Option Addr} {c d : Nat} {p : Wp} {cs : Array Value} {ty : TypeId} (hD : Devs w.heap.size w (.slice A ds.length c) ds) (hL : Links w.heap.size w (.slice L ls.length d) ls) (D2 : Below w.heap.size w W2) (N2 : Bk W2 w.heap.size cs ty) (hW : WlAt W2 p none 0 ds ls 0 noM []) (lo : LoW W0 p) (h0 : w.heap.size < W0.heap.size) (T3 : TlAt w3 (W2.heap.size + 2) (W2.heap.size + 1) A L c d none 0 none 0 ds ls [] []) (hb3 : Below W2.heap.size W2 w3) (z3 : W2.heap.size + 2 < w3.heap.size) (T4 : TlAt w4 (w3.heap.size + 2) (w3.heap.size + 1) A L c d none 0 none 0 ds ls [] []) (hb4 : Below w3.heap.size w3 w4) : W1 w ds ls A L c d p.B (W2.heap.size + 2) (w3.heap.size + 2) 0 [(w.heap.size, cs, ty)] w4 := by
  obtain ⟨l1, l2, l3, l4, l5⟩ := lo
  have hB := hW.blk.lt
  obtain ⟨o1, o2, o3, o4⟩ := hW.lo
  have hbz := D2.size
  have e1 : ∀ b, (b = p.B ∨ b = p.f ∨ b = p.o ∨ b = p.k ∨ b = p.G) → (if b = p.B ∨ b = p.f ∨ b = p.o ∨ b = p.k ∨ b = p.G then 1 else if b = W2.heap.size + 2 ∨ b = W2.heap.size + 1 then 2 else if b = w3.heap.size + 2 ∨ b = w3.heap.size + 1 then 3 else 0 : Nat) = 1 := fun b h => if_pos h
  have e2 : ∀ b, (b = W2.heap.size + 2 ∨ b = W2.heap.size + 1) → (if b = p.B ∨ b = p.f ∨ b = p.o ∨ b = p.k ∨ b = p.G then 1 else if b = W2.heap.size + 2 ∨ b = W2.heap.size + 1 then 2 else if b = w3.heap.size + 2 ∨ b = w3.heap.size + 1 then 3 else 0 : Nat) = 2 := fun b h => by rw [if_neg (by omega), if_pos h]
  have e3 : ∀ b, (b = w3.heap.size + 2 ∨ b = w3.heap.size + 1) → (if b = p.B ∨ b = p.f ∨ b = p.o ∨ b = p.k ∨ b = p.G then 1 else if b = W2.heap.size + 2 ∨ b = W2.heap.size + 1 then 2 else if b = w3.heap.size + 2 ∨ b = w3.heap.size + 1 then 3 else 0 : Nat) = 3 := fun b h => by rw [if_neg (by omega), if_neg (by omega), if_pos h]
  refine ⟨fun b => if b = p.B ∨ b = p.f ∨ b = p.o ∨ b = p.k ∨ b = p.G then 1 else if b = W2.heap.size + 2 ∨ b = W2.heap.size + 1 then 2 else if b = w3.heap.size + 2 ∨ b = w3.heap.size + 1 then 3 else 0, p, none, 0, 0, noM, [], ⟨W2.heap.size + 2, W2.heap.size + 1, none, 0, none, 0⟩, [], ⟨w3.heap.size + 2, w3.heap.size + 1, none, 0, none, 0⟩, ⟨⟨(hW.below hb3).below hb4, T3.below hb4, T4, chnN hb4 (chnN hb3 D2), hD, hL, ⟨e1 p.B (by omega), e1 p.f (by omega), e1 p.o (by omega), e1 p.k (by omega), e1 p.G (by omega), (fun a h => by cases h)⟩, ⟨e2 (W2.heap.size + 2) (by omega), e2 (W2.heap.size + 1) (by omega), (fun a h => by cases h), (fun a h => by cases h)⟩, ⟨e3 (w3.heap.size + 2) (by omega), e3 (w3.heap.size + 1) (by omega), (fun a h => by cases h), (fun a h => by cases h)⟩, fun b hb => ?_, fun b hb => ?_, fun b cs' ty' hx => ?_⟩, rfl, rfl, rfl, mok_no, (fun y hy => by cases hy), rel_no ds, Nat.le_refl _, Nat.le_refl _, Nat.le_refl _⟩⟩
  · split at hb
    · omega
    · split at hb
      · omega
      · split at hb
        · omega
        · exact absurd rfl hb
  · split at hb
    · omega
    · split at hb
      · omega
      · split at hb
        · omega
        · omega
  · have hx' : (b, cs', ty') = (w.heap.size, cs, ty) := by simpa using hx
    cases hx'
    refine ⟨(N2.keep hb3).keep hb4, ?_⟩
    show (if _ then _ else _) = _
    rw [if_neg (by omega), if_neg (by omega), if_neg (by omega)]
end Go.Proofs.YtgmjlkllghlmmaaGreat
