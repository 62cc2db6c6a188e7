/-
  WorldGrows: running.
-/
import Derived.Test.YtepfckicaafilabWc3
namespace Go.Proofs.Ytepfckicaafilab
open Go.RowKit Go.Maps

theorem WlAt.sblk {W : World} {p : Wp} {S : Option Addr} {cS : Nat} {ds : List Dv} {ls : List Lk} {n : Nat} {M : Mnd} {ar : List Arv} (h : WlAt W p S cS ds ls n M ar) : ∀ a, S = some a → p.B + 1 ≤ a.block ∧ a.block < W.heap.size := fun a ha => by
  rcases h.seen.2 with ⟨e, _⟩ | ⟨g, cap, cur, e, hb, hh, _⟩
  · have := (Value.slice.inj e).1
    rw [ha] at this
    cases this
  · have := (Value.slice.inj e).1
    rw [ha] at this
    cases this
    exact ⟨hb, (Array.getElem?_eq_some_iff.1 hh).1⟩
def LoW (w : World) (p : Wp) : Prop := w.heap.size ≤ p.f ∧ w.heap.size ≤ p.o ∧ w.heap.size ≤ p.k ∧ w.heap.size ≤ p.B ∧ w.heap.size ≤ p.G
theorem below_wf {w W W' : World} {p : Wp} {S : Option Addr} {cS : Nat} {ds : List Dv} {ls : List Lk} {n : Nat} {M : Mnd} {ar : List Arv} (h : WlAt W p S cS ds ls n M ar) (lo : LoW w p) (hb : Below w.heap.size w W) (hf : WF p S W W') : Below w.heap.size w W' := by
  obtain ⟨l1, l2, l3, l4, l5⟩ := lo
  exact hb.trans ⟨hf.os, hf.tape, hf.output, hf.size, fun b hb' => hf.block b (Nat.lt_of_lt_of_le hb' hb.size) (by omega) (by omega) (by omega) (by omega) (by omega) (fun a ha => by have := (h.sblk a ha).1; omega)⟩
/-- A block of the law's own, beside a world. -/
theorem bk_wf {W W' : World} {p : Wp} {S : Option Addr} {cS : Nat} {ds : List Dv} {ls : List Lk} {n : Nat} {M : Mnd} {ar : List Arv} (h : WlAt W p S cS ds ls n M ar) {P : Nat} {c : Array Value} {t : TypeId} (hB : Bk W P c t) (hP : p.B < P) (hS : ∀ a, S = some a → a.block ≠ P) (hf : WF p S W W') : Bk W' P c t := by
  obtain ⟨l1, l2, l3, l4⟩ := h.lo
  exact (hf.block P hB.lt (by omega) (by omega) (by omega) (by omega) (by omega) (fun a ha e => hS a ha e.symm)).trans hB
theorem run_do1 : doP (chainD (fireD [allN true])) chainL noM [] ⟨1, 0, 0, ⟨1, 2, 0, 0⟩, 0⟩ = (0, noM, [((1, 0), ⟨1, 2, 0, 0⟩)]) := by
  unfold doP
  rw [if_pos rfl]
  have e : injP (chainD (fireD [allN true])) chainL [] 0 ⟨1, 2, 0, 0⟩ = (0, [((1, 0), ⟨1, 2, 0, 0⟩)]) := by
    unfold injP
    have e1 : ((chainD (fireD [allN true])).getD (0 : Int).toNat default).kind = 1 := rfl
    have e2 : (⟨1, 2, 0, 0⟩ : Pk).s = ((chainD (fireD [allN true])).getD (0 : Int).toNat default).addr := rfl
    rw [if_pos (by decide), if_pos e1, if_pos (by decide), if_pos e2, show peerF chainL 0 0 = some (1, 0) by decide]
    have e3 : addA [] (((1, 0), ⟨1, 2, 0, 0⟩) : Arv) = [((1, 0), ⟨1, 2, 0, 0⟩)] := by
      unfold addA
      rw [if_neg (by simp)]
      rfl
    show ((0 : Int), addA [] (((1, 0), ⟨1, 2, 0, 0⟩) : Arv)) = _
    rw [e3]
  rw [e]
theorem run_hd : handleP (chainD (fireD [allN true])) chainL noM 1 0 ⟨1, 2, 0, 0⟩ 0 = ⟨0, (2, 0), ⟨1, 2, 0, 0⟩, learnP noM (.flow 1 ⟨1, 2, 0, 0⟩)⟩ := by
  rw [fire_ask, if_pos (by decide), if_pos letsB_all]
theorem run_do2 : doP (chainD (fireD [allN true])) chainL noM [((1, 0), ⟨1, 2, 0, 0⟩)] ⟨2, 1, 0, ⟨1, 2, 0, 0⟩, 0⟩ = (0, learnP noM (.flow 1 ⟨1, 2, 0, 0⟩), [((1, 0), ⟨1, 2, 0, 0⟩), ((2, 0), ⟨1, 2, 0, 0⟩)]) := by
  unfold doP
  rw [if_neg (by decide), if_pos rfl]
  unfold hopP
  rw [if_pos (inF_in.2 (by simp)), run_hd]
  dsimp only
  rw [if_pos rfl]
  unfold addA
  rw [if_neg (by simp)]
  rfl
theorem ok2 : i64ok 2 := i64ok_of (by decide) (by decide)
theorem ok0W : i64ok 0 := i64ok_of (by decide) (by decide)
theorem ok1W : i64ok 1 := i64ok_of (by decide) (by decide)
theorem okP12 : Pk.ok ⟨1, 2, 0, 0⟩ := ⟨ok1W, ok2, ok0W, ok0W⟩
set_option maxHeartbeats 8000000 in
set_option maxRecDepth 100000 in
theorem running_any (w : World) : Calls Try.prog 4 #[] w fun e w' => e = .returned (.bool true) ∧ Below w.heap.size w w' := by
  have nilS : ∀ {α : Type} (W : World) (n : Nat) (R : List Value → α → Prop), SlAt W.heap.size W n R (.slice none 0 0) [] := fun W n R => ⟨none, 0, rfl, fun _ => rfl, Nat.le_refl _, Nat.zero_le _, fun h => absurd rfl h⟩
  have CH : Hid (∀ (rs : List NRule) (vr : Value) (W : World), SlAt W.heap.size W 5 IsRule vr rs → Calls Try.prog 11 #[.agg #[.string ⟨#[]⟩, .int .i64 3, .int .i64 0, .int .u8 0, .slice none 0 0, vr, .slice none 0 0]] W fun e w' => ∃ b b', e = .returned (.agg #[.slice (some ⟨b, 0, none⟩) 3 3, .slice (some ⟨b', 0, none⟩) 2 2]) ∧ Devs w'.heap.size w' (.slice (some ⟨b, 0, none⟩) 3 3) (chainD (fireD rs)) ∧ Links w'.heap.size w' (.slice (some ⟨b', 0, none⟩) 2 2) chainL ∧ Below W.heap.size W w') := fun rs vr W h => chain_any (fireD rs) (.slice none 0 0) vr (.slice none 0 0) W (nilS _ _ _) h (nilS _ _ _)
  have NW : Hid (∀ (rs : List NRule) (b b' : Nat) (W : World), Devs W.heap.size W (.slice (some ⟨b, 0, none⟩) 3 3) (chainD (fireD rs)) → Links W.heap.size W (.slice (some ⟨b', 0, none⟩) 2 2) chainL → Calls Try.prog 5 #[.agg #[.slice (some ⟨b, 0, none⟩) 3 3, .slice (some ⟨b', 0, none⟩) 2 2]] W (WNew W (chainD (fireD rs)) chainL)) := fun rs b b' W h1 h2 => wnew_any (some ⟨b, 0, none⟩) (some ⟨b', 0, none⟩) 3 2 (chainD (fireD rs)) chainL W h1 h2
  have PLC : Hid (∀ (x y : Int) W, Calls Try.prog 13 #[.int .i64 x, .int .i64 y] W fun e w' => e = .returned (plA x y) ∧ Below W.heap.size W w') := fun x y W => place_any x y W
  have D0 := Below.refl w.heap.size w
  have hzz : netV (chainD (fireD [allN true])) chainL = 0 := by rw [fire_netV]; rfl
  have HZ : Hid (netV (chainD (fireD [allN true])) chainL = 0) := hzz
  clear hzz
  go_enter Try.func4, Try.ntmps4
  go_wp2_with fail
  refine (allR_any true _).mono ?_
  rintro e w1 ⟨rfl, hb1⟩
  have D1 := Below.alN (chnN hb1 D0) (.cells #[.bool true, .int .u16 65535, .int .u16 65535, .int .u8 255, .int .u8 255] 52)
  have R1 : SlAt (w1.alloc (.cells #[.bool true, .int .u16 65535, .int .u16 65535, .int .u8 255, .int .u8 255] 52)).heap.size (w1.alloc (.cells #[.bool true, .int .u16 65535, .int .u16 65535, .int .u8 255, .int .u8 255] 52)) 5 IsRule (.slice (some ⟨w1.heap.size, 0, none⟩) 1 1) [allN true] := by
    have hB := bk_new w1 #[.bool true, .int .u16 65535, .int .u16 65535, .int .u8 255, .int .u8 255] 52
    refine ⟨_, 1, rfl, (fun e => by cases e), Nat.le_refl _, by decide, fun _ => ⟨w1.heap.size, 0, rfl, hB.lt, fun k x hx => ?_⟩⟩
    match k, hx with
    | 0, hx =>
      obtain rfl := Option.some.inj hx
      refine ⟨[.bool true, .int .u16 65535, .int .u16 65535, .int .u8 255, .int .u8 255], rfl, rfl, fun j u hj => ?_⟩
      rw [show 0 + 0 * 5 + j = j by omega, hB.at]
      have hj5 : j < 5 := (List.getElem?_eq_some_iff.1 hj).1
      match j, hj5, hj with
      | 0, _, hj => exact hj
      | 1, _, hj => exact hj
      | 2, _, hj => exact hj
      | 3, _, hj => exact hj
      | 4, _, hj => exact hj
  clear hb1 D0
  go_wp2_with fail
  refine (CH.out _ _ _ R1).mono ?_
  rintro e w2 ⟨b, b', rfl, hD2, hL2, hb2⟩
  have D2 := chnN hb2 D1
  clear hb2 D1 R1
  go_wp2_with fail
  refine (NW.out _ _ _ _ hD2 hL2).mono ?_
  rintro e w3 ⟨hb3, hN⟩
  have D3 := chnN hb3 D2
  have z2 := D2.size
  clear hb3 D2 hD2 hL2
  rcases hN with ⟨hne, _⟩ | ⟨_, p, rfl, hW, l1, l2, l3, l4, l5⟩
  · exact absurd HZ.out hne
  have LO : Hid (LoW w p) := ⟨by omega, by omega, by omega, by omega, by omega⟩
  have zB := hW.blk.lt
  obtain ⟨Q, hQ⟩ : ∃ Q : Nat → Mnd → List Arv → World → Prop, Q = fun n M ar W => ∃ S cS, WlAt W p S cS (chainD (fireD [allN true])) chainL n M ar ∧ Bk W w3.heap.size #[.int .i64 1, .int .i64 2, .int .i64 0, .int .i64 0] 33 ∧ Below w.heap.size w W ∧ ∀ a, S = some a → a.block ≠ w3.heap.size := ⟨_, rfl⟩
  have Q0 : Q 0 noM [] (w3.alloc (.cells #[.int .i64 1, .int .i64 2, .int .i64 0, .int .i64 0] 33)) := by
    rw [hQ]
    exact ⟨none, 0, hW.alloc _, bk_new _ _ _, Below.alN D3 _, fun a ha => by cases ha⟩
  have FS : ∀ {n : Nat} {M : Mnd} {ar : List Arv} {w' : World}, Q n M ar w' → (w'.cell? ⟨w3.heap.size, 0, none⟩ = some (.int .i64 1) ∧ w'.cell? ⟨w3.heap.size, 1, none⟩ = some (.int .i64 2) ∧ w'.cell? ⟨w3.heap.size, 2, none⟩ = some (.int .i64 0) ∧ w'.cell? ⟨w3.heap.size, 3, none⟩ = some (.int .i64 0)) := fun {n M ar w'} h => by
    rw [hQ] at h
    obtain ⟨S, cS, _, h2, _⟩ := h
    exact ⟨h2.at 0, h2.at 1, h2.at 2, h2.at 3⟩
  have KP : ∀ {n : Nat} {M : Mnd} {ar : List Arv} {W W' : World}, Q n M ar W → Below W.heap.size W W' → Q n M ar W' := fun {n M ar W W'} h hb => by
    rw [hQ] at h ⊢
    obtain ⟨S, cS, h1, h2, h3, h4⟩ := h
    exact ⟨S, cS, h1.below hb, h2.keep hb, chnN hb h3, h4⟩
  have BE : ∀ {n : Nat} {M : Mnd} {ar : List Arv} {W : World}, Q n M ar W → Below w.heap.size w W := fun {n M ar W} h => by
    rw [hQ] at h
    obtain ⟨S, cS, h1, h2, h3, h4⟩ := h
    exact h3
  have DO : Hid (∀ (x : Ev) (n : Nat) (M : Mnd) (ar : List Arv) (r : Int × Mnd × List Arv), x.ok → doP (chainD (fireD [allN true])) chainL M ar x = r → ((handleP (chainD (fireD [allN true])) chainL M x.i x.q x.p x.c).err = 0 → arvOk ((handleP (chainD (fireD [allN true])) chainL M x.i x.q x.p x.c).tp, (handleP (chainD (fireD [allN true])) chainL M x.i x.q x.p x.c).p)) → n ≤ 10 → ar.length ≤ 5000 → ∀ W, Q n M ar W → Calls Try.prog 7 #[.pointer (some ⟨p.B, 0, none⟩), .agg #[.int .i64 x.k, .int .i64 x.i, .int .i64 x.q, .int .i64 x.p.s, .int .i64 x.p.d, .int .i64 x.p.sp, .int .i64 x.p.dp, .int .i64 x.c]] W fun e w' => e = .returned (.int .i64 r.1) ∧ Q (n + 1 + 1) r.2.1 r.2.2 w') := fun x n M ar r hx hr hO hn ha W h => by
    rw [hQ] at h
    obtain ⟨S, cS, h1, h2, h3, h4⟩ := h
    refine (do_any x W h1 hx HZ hO (by unfold maxLen; omega) ha).mono fun e w' ⟨e1, S', cS', q1, q2, q3⟩ => ?_
    rw [hr] at e1 q1
    refine ⟨e1, ?_⟩
    rw [hQ]
    refine ⟨S', cS', q1, bk_wf h1 h2 (by omega) h4 q2, below_wf h1 LO.out h3 q2, fun a ha => ?_⟩
    have hz := h2.lt
    rcases q3 a ha with ⟨a', e1, e2⟩ | hl
    · rw [← e2]
      exact h4 a' e1
    · omega
  have DO1 : Hid (∀ W, Q 0 noM [] W → Calls Try.prog 7 #[.pointer (some ⟨p.B, 0, none⟩), .agg #[.int .i64 1, .int .i64 0, .int .i64 0, .int .i64 1, .int .i64 2, .int .i64 0, .int .i64 0, .int .i64 0]] W fun e w' => e = .returned (.int .i64 0) ∧ Q (0 + 1 + 1) noM [((1, 0), ⟨1, 2, 0, 0⟩)] w') := DO.out ⟨1, 0, 0, ⟨1, 2, 0, 0⟩, 0⟩ 0 noM [] _ ⟨ok0W, ok0W, okP12, ok0W⟩ run_do1 (fun he => absurd he (by
    have : (handleP (chainD (fireD [allN true])) chainL noM 0 0 ⟨1, 2, 0, 0⟩ 0) = badH 7 noM := by
      unfold handleP
      rw [if_pos (by decide), if_pos (by decide)]
      have e : sendP ((chainD (fireD [allN true])).getD (0 : Int).toNat default) noM 0 0 ⟨1, 2, 0, 0⟩ 0 = stayR 7 := rfl
      rw [e, if_neg (by decide)]
      rfl
    dsimp only
    rw [this]
    exact (by decide : ¬ (7 : Int) = 0))) (by omega) (by simp)
  have DO2 : Hid (∀ W, Q (0 + 1 + 1) noM [((1, 0), ⟨1, 2, 0, 0⟩)] W → Calls Try.prog 7 #[.pointer (some ⟨p.B, 0, none⟩), .agg #[.int .i64 2, .int .i64 1, .int .i64 0, .int .i64 1, .int .i64 2, .int .i64 0, .int .i64 0, .int .i64 0]] W fun e w' => e = .returned (.int .i64 0) ∧ Q (0 + 1 + 1 + 1 + 1) (learnP noM (.flow 1 ⟨1, 2, 0, 0⟩)) [((1, 0), ⟨1, 2, 0, 0⟩), ((2, 0), ⟨1, 2, 0, 0⟩)] w') := DO.out ⟨2, 1, 0, ⟨1, 2, 0, 0⟩, 0⟩ 2 noM [((1, 0), ⟨1, 2, 0, 0⟩)] _ ⟨ok1W, ok0W, okP12, ok0W⟩ run_do2 (fun _ => by dsimp only; rw [run_hd]; exact ⟨ok2, ok0W, okP12⟩) (by omega) (by simp)
  have HAS : Hid (∀ W, Q (0 + 1 + 1 + 1 + 1) (learnP noM (.flow 1 ⟨1, 2, 0, 0⟩)) [((1, 0), ⟨1, 2, 0, 0⟩), ((2, 0), ⟨1, 2, 0, 0⟩)] W → Calls Try.prog 9 #[.pointer (some ⟨p.B, 0, none⟩), plA 2 0, .agg #[.int .i64 1, .int .i64 2, .int .i64 0, .int .i64 0]] W fun e w' => e = .returned (.bool true) ∧ Below W.heap.size W w') := fun W h => by
    rw [hQ] at h
    obtain ⟨S, cS, h1, h2, h3, h4⟩ := h
    refine (whas_any ((2, 0), ⟨1, 2, 0, 0⟩) W h1 ⟨ok2, ok0W, okP12⟩).mono fun e w' ⟨e1, e2⟩ => ⟨?_, e2⟩
    rw [e1, show (inF [((1, 0), ⟨1, 2, 0, 0⟩), ((2, 0), ⟨1, 2, 0, 0⟩)] ((2, 0), ⟨1, 2, 0, 0⟩)).isSome = true from inF_in.2 (by simp)]
  generalize learnP noM (.flow 1 ⟨1, 2, 0, 0⟩) = M2 at *
  generalize ([((1, 0), ⟨1, 2, 0, 0⟩), ((2, 0), ⟨1, 2, 0, 0⟩)] : List Arv) = ar2 at *
  generalize ([((1, 0), ⟨1, 2, 0, 0⟩)] : List Arv) = ar1 at *
  clear hQ DO hW D3 LO zB l1 l2 l3 l4 l5 CH NW HZ nilS
  obtain ⟨c0, c1, c2, c3⟩ := FS Q0
  have Q0d := KP Q0 ((Below.refl _ _).drew)
  go_wp2_with fail
  go_region_held3 (fun w' => w'.cell? ⟨w3.heap.size, 0, none⟩ = some (.int .i64 1) ∧ w'.cell? ⟨w3.heap.size, 1, none⟩ = some (.int .i64 2) ∧ w'.cell? ⟨w3.heap.size, 2, none⟩ = some (.int .i64 0) ∧ w'.cell? ⟨w3.heap.size, 3, none⟩ = some (.int .i64 0)) (exact FS (by first | exact Q4 | exact Q3 | exact Q2 | exact Q1 | exact Q0d)) (first | (go_at_call 7; (with_reducible refine (DO1.out _ Q0d).mono ?_); rintro e wa ⟨rfl, Q1⟩) | (go_at_call 7; (with_reducible refine (DO2.out _ Q1).mono ?_); rintro e wb ⟨rfl, Q2⟩) | (go_at_call 13; (with_reducible refine (PLC.out _ _ _).mono ?_); rintro e wd ⟨rfl, hbd⟩; have Q3 := KP Q2 hbd) | (go_at_call 9; (with_reducible refine (HAS.out _ Q3).mono ?_); rintro e we ⟨rfl, hbe⟩; have Q4 := KP Q3 hbe))
  all_goals
    go_wp2_with fail
    go_ret
    exact ⟨rfl, BE Q4⟩
end Go.Proofs.Ytepfckicaafilab
