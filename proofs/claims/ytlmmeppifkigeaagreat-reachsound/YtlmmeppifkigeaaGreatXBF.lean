/-
  XBF.
-/
import Derived.Test.YtlmmeppifkigeaaGreatXBE
set_option maxHeartbeats 8000000
set_option maxRecDepth 100000
namespace Go.Proofs.YtlmmeppifkigeaaGreat
open Go.RowKit Go.Maps
theorem WlAt.sblk {W : World} {p : Wp} {S : Option Addr} {cS : Nat} {ds : List Dv} {ls : List Lk} {n : Nat} {M : Mnd} {ar : List Arv} (h : WlAt W p S cS ds ls n M ar) : ∀ a, S = some a -> p.B + 1 <= a.block ∧ a.block < W.heap.size := fun a ha => by
 rcases h.seen.2 with ⟨e, _⟩ | ⟨g, cap, cur, e, hb, hh, _⟩
 ·have := (Value.slice.inj e).1
  rw [ha] at this
  cases this
 ·have := (Value.slice.inj e).1
  rw [ha] at this
  cases this
  exact ⟨hb, (Array.getElem?_eq_some_iff.1 hh).1⟩
def LoW (w : World) (p : Wp) : Prop := w.heap.size <= p.f ∧ w.heap.size <= p.o ∧ w.heap.size <= p.k ∧ w.heap.size <= p.B ∧ w.heap.size <= p.G
theorem below_wf {w W W' : World} {p : Wp} {S : Option Addr} {cS : Nat} {ds : List Dv} {ls : List Lk} {n : Nat} {M : Mnd} {ar : List Arv} (h : WlAt W p S cS ds ls n M ar) (lo : LoW w p) (hb : Below w.heap.size w W) (hf : WF p S W W') : Below w.heap.size w W' := by
 obtain ⟨l1, l2, l3, l4, l5⟩ := lo
 exact hb.trans ⟨hf.os, hf.tape, hf.output, hf.size, fun b hb' => hf.block b (Nat.lt_of_lt_of_le hb' hb.size) (by omega) (by omega) (by omega) (by omega) (by omega) (fun a ha => by have := (h.sblk a ha).1; omega)⟩
theorem bk_wf {W W' : World} {p : Wp} {S : Option Addr} {cS : Nat} {ds : List Dv} {ls : List Lk} {n : Nat} {M : Mnd} {ar : List Arv} (h : WlAt W p S cS ds ls n M ar) {P : Nat} {c : Array Value} {t : TypeId} (hB : Bk W P c t) (hP : p.B < P) (hS : ∀ a, S = some a -> a.block ≠ P) (hf : WF p S W W') : Bk W' P c t := by
 obtain ⟨l1, l2, l3, l4⟩ := h.lo
 exact (hf.block P hB.lt (by omega) (by omega) (by omega) (by omega) (by omega) (fun a ha e => hS a ha e.symm)).trans hB
theorem run_do1 : doP (chainD (fireD [allN true])) chainL noM [] ⟨1, 0, 0, ⟨1, 2, 0, 0⟩, 0⟩ = (0, noM, [((1, 0), ⟨1, 2, 0, 0⟩)]) := by
 unfold doP
 rw [if_pos rfl]
 have e : injP (chainD (fireD [allN true])) chainL [] 0 ⟨1, 2, 0, 0⟩ = (0, [((1, 0), ⟨1, 2, 0, 0⟩)]) := by
  unfold injP
  have e1 : ((chainD (fireD [allN true])).getD (0 : Int).toNat default).kind = 1 := rfl
  have e2 : (⟨1, 2, 0, 0⟩ : Pk).s = ((chainD (fireD [allN true])).getD (0 : Int).toNat default).addr := rfl
  rw [if_pos (by decide), if_pos e1, if_pos (by decide), if_pos e2, show peerF chainL 0 0 = some (1, 0) by decide]
  have e3 : addA [] (((1, 0), ⟨1, 2, 0, 0⟩) : Arv) = [((1, 0), ⟨1, 2, 0, 0⟩)] := by
   unfold addA
   rw [if_neg (by simp)]
   rfl
  show ((0 : Int), addA [] (((1, 0), ⟨1, 2, 0, 0⟩) : Arv)) = _
  rw [e3]
 rw [e]
theorem run_hd : handleP (chainD (fireD [allN true])) chainL noM 1 0 ⟨1, 2, 0, 0⟩ 0 = ⟨0, (2, 0), ⟨1, 2, 0, 0⟩, learnP noM (.flow 1 ⟨1, 2, 0, 0⟩)⟩ := by
 rw [fire_ask, if_pos (by decide), if_pos letsB_all]
theorem run_do2 : doP (chainD (fireD [allN true])) chainL noM [((1, 0), ⟨1, 2, 0, 0⟩)] ⟨2, 1, 0, ⟨1, 2, 0, 0⟩, 0⟩ = (0, learnP noM (.flow 1 ⟨1, 2, 0, 0⟩), [((1, 0), ⟨1, 2, 0, 0⟩), ((2, 0), ⟨1, 2, 0, 0⟩)]) := by
 unfold doP
 rw [if_neg (by decide), if_pos rfl]
 unfold hopP
 rw [if_pos (inF_in.2 (by simp)), run_hd]
 dsimp only
 rw [if_pos rfl]
 unfold addA
 rw [if_neg (by simp)]
 rfl
theorem ok2 : i64ok 2 := i64ok_of (by decide) (by decide)
theorem ok0W : i64ok 0 := i64ok_of (by decide) (by decide)
theorem ok1W : i64ok 1 := i64ok_of (by decide) (by decide)
theorem okP12 : Pk.ok ⟨1, 2, 0, 0⟩ := ⟨ok1W, ok2, ok0W, ok0W⟩
theorem running_any (w : World) : Calls Tryz.prog 7 #[] w fun e w' => e = .returned (.bool true) ∧ Below w.heap.size w w' := by
 have nilS : ∀ {α : Type} (W : World) (n : Nat) (R : List Value -> α -> Prop), SlAt W.heap.size W n R (.slice none 0 0) [] := fun W n R => ⟨none, 0, rfl, fun _ => rfl, Nat.le_refl _, Nat.zero_le _, fun h => absurd rfl h⟩
 have CH : Hid (∀ (rs : List NRule) (vr : Value) (W : World), SlAt W.heap.size W 5 IsRule vr rs -> Calls Tryz.prog 20 #[.agg #[.string ⟨#[]⟩, .int .i64 3, .int .i64 0, .int .u8 0, .slice none 0 0, vr, .slice none 0 0]] W fun e w' => ∃ b b', e = .returned (.agg #[.slice (some ⟨b, 0, none⟩) 3 3, .slice (some ⟨b', 0, none⟩) 2 2]) ∧ Devs w'.heap.size w' (.slice (some ⟨b, 0, none⟩) 3 3) (chainD (fireD rs)) ∧ Links w'.heap.size w' (.slice (some ⟨b', 0, none⟩) 2 2) chainL ∧ Below W.heap.size W w') := fun rs vr W h => chain_any (fireD rs) (.slice none 0 0) vr (.slice none 0 0) W (nilS _ _ _) h (nilS _ _ _)
 have NW : Hid (∀ (rs : List NRule) (b b' : Nat) (W : World), Devs W.heap.size W (.slice (some ⟨b, 0, none⟩) 3 3) (chainD (fireD rs)) -> Links W.heap.size W (.slice (some ⟨b', 0, none⟩) 2 2) chainL -> Calls Tryz.prog 8 #[.agg #[.slice (some ⟨b, 0, none⟩) 3 3, .slice (some ⟨b', 0, none⟩) 2 2]] W (WNew W (chainD (fireD rs)) chainL)) := fun rs b b' W h1 h2 => wnew_any (some ⟨b, 0, none⟩) (some ⟨b', 0, none⟩) 3 2 (chainD (fireD rs)) chainL W h1 h2
 have PLC : Hid (∀ (x y : Int) W, Calls Tryz.prog 18 #[.int .i64 x, .int .i64 y] W fun e w' => e = .returned (plA x y) ∧ Below W.heap.size W w') := fun x y W => place_any x y W
 have D0 := Below.refl w.heap.size w
 have hzz : netV (chainD (fireD [allN true])) chainL = 0 := by rw [fire_netV]; rfl
 have HZ : Hid (netV (chainD (fireD [allN true])) chainL = 0) := hzz
 clear hzz
 go_enter Tryz.func7, Tryz.ntmps7
 go_wp2_with fail
 refine (allR_any true _).mono ?_
 rintro e w1 ⟨rfl, hb1⟩
 have D1 := Below.alN (chnN hb1 D0) (.cells #[.bool true, .int .u16 65535, .int .u16 65535, .int .u8 255, .int .u8 255] 71)
 have R1 : SlAt (w1.alloc (.cells #[.bool true, .int .u16 65535, .int .u16 65535, .int .u8 255, .int .u8 255] 71)).heap.size (w1.alloc (.cells #[.bool true, .int .u16 65535, .int .u16 65535, .int .u8 255, .int .u8 255] 71)) 5 IsRule (.slice (some ⟨w1.heap.size, 0, none⟩) 1 1) [allN true] := by
  have hB := bk_new w1 #[.bool true, .int .u16 65535, .int .u16 65535, .int .u8 255, .int .u8 255] 71
  refine ⟨_, 1, rfl, (fun e => by cases e), Nat.le_refl _, by decide, fun _ => ⟨w1.heap.size, 0, rfl, hB.lt, fun k x hx => ?_⟩⟩
  match k, hx with
  | 0, hx =>
    obtain rfl := Option.some.inj hx
    refine ⟨[.bool true, .int .u16 65535, .int .u16 65535, .int .u8 255, .int .u8 255], rfl, rfl, fun j u hj => ?_⟩
    rw [show 0 + 0 * 5 + j = j by omega, hB.at]
    have hj5 : j < 5 := (List.getElem?_eq_some_iff.1 hj).1
    match j, hj5, hj with
    | 0, _, hj => exact hj
    | 1, _, hj => exact hj
    | 2, _, hj => exact hj
    | 3, _, hj => exact hj
    | 4, _, hj => exact hj
 clear hb1 D0
 go_wp2_with fail
 refine (CH.out _ _ _ R1).mono ?_
 rintro e w2 ⟨b, b', rfl, hD2, hL2, hb2⟩
 have D2 := chnN hb2 D1
 clear hb2 D1 R1
 go_wp2_with fail
 refine (NW.out _ _ _ _ hD2 hL2).mono ?_
 rintro e w3 ⟨hb3, hN⟩
 have D3 := chnN hb3 D2
 have z2 := D2.size
 clear hb3 D2 hD2 hL2
 rcases hN with ⟨hne, _⟩ | ⟨_, p, rfl, hW, l1, l2, l3, l4, l5⟩
 ·exact absurd HZ.out hne
 have LO : Hid (LoW w p) := ⟨by omega, by omega, by omega, by omega, by omega⟩
 have zB := hW.blk.lt
 obtain ⟨Q, hQ⟩ : ∃ Q : Nat -> Mnd -> List Arv -> World -> Prop, Q = fun n M ar W => ∃ S cS, WlAt W p S cS (chainD (fireD [allN true])) chainL n M ar ∧ Bk W w3.heap.size #[.int .i64 1, .int .i64 2, .int .i64 0, .int .i64 0] 36 ∧ Below w.heap.size w W ∧ ∀ a, S = some a -> a.block ≠ w3.heap.size := ⟨_, rfl⟩
 have Q0 : Q 0 noM [] (w3.alloc (.cells #[.int .i64 1, .int .i64 2, .int .i64 0, .int .i64 0] 36)) := by
  rw [hQ]
  exact ⟨none, 0, hW.alloc _, bk_new _ _ _, Below.alN D3 _, fun a ha => by cases ha⟩
 have FS : ∀ {n : Nat} {M : Mnd} {ar : List Arv} {w' : World}, Q n M ar w' -> (w'.cell? ⟨w3.heap.size, 0, none⟩ = some (.int .i64 1) ∧ w'.cell? ⟨w3.heap.size, 1, none⟩ = some (.int .i64 2) ∧ w'.cell? ⟨w3.heap.size, 2, none⟩ = some (.int .i64 0) ∧ w'.cell? ⟨w3.heap.size, 3, none⟩ = some (.int .i64 0)) := fun {n M ar w'} h => by
  rw [hQ] at h
  obtain ⟨S, cS, _, h2, _⟩ := h
  exact ⟨h2.at 0, h2.at 1, h2.at 2, h2.at 3⟩
 have KP : ∀ {n : Nat} {M : Mnd} {ar : List Arv} {W W' : World}, Q n M ar W -> Below W.heap.size W W' -> Q n M ar W' := fun {n M ar W W'} h hb => by
  rw [hQ] at h ⊢
  obtain ⟨S, cS, h1, h2, h3, h4⟩ := h
  exact ⟨S, cS, h1.below hb, h2.keep hb, chnN hb h3, h4⟩
 have BE : ∀ {n : Nat} {M : Mnd} {ar : List Arv} {W : World}, Q n M ar W -> Below w.heap.size w W := fun {n M ar W} h => by
  rw [hQ] at h
  obtain ⟨S, cS, h1, h2, h3, h4⟩ := h
  exact h3
 have DO : Hid (∀ (x : Ev) (n : Nat) (M : Mnd) (ar : List Arv) (r : Int × Mnd × List Arv), x.ok -> doP (chainD (fireD [allN true])) chainL M ar x = r -> ((handleP (chainD (fireD [allN true])) chainL M x.i x.q x.p x.c).err = 0 -> arvOk ((handleP (chainD (fireD [allN true])) chainL M x.i x.q x.p x.c).tp, (handleP (chainD (fireD [allN true])) chainL M x.i x.q x.p x.c).p)) -> n <= 10 -> ar.length <= 5000 -> ∀ W, Q n M ar W -> Calls Tryz.prog 10 #[.pointer (some ⟨p.B, 0, none⟩), .agg #[.int .i64 x.k, .int .i64 x.i, .int .i64 x.q, .int .i64 x.p.s, .int .i64 x.p.d, .int .i64 x.p.sp, .int .i64 x.p.dp, .int .i64 x.c]] W fun e w' => e = .returned (.int .i64 r.1) ∧ Q (n + 1 + 1) r.2.1 r.2.2 w') := fun x n M ar r hx hr hO hn ha W h => by
  rw [hQ] at h
  obtain ⟨S, cS, h1, h2, h3, h4⟩ := h
  refine (do_any x W h1 hx HZ hO (by unfold maxLen; omega) ha).mono fun e w' ⟨e1, S', cS', q1, q2, q3⟩ => ?_
  rw [hr] at e1 q1
  refine ⟨e1, ?_⟩
  rw [hQ]
  refine ⟨S', cS', q1, bk_wf h1 h2 (by omega) h4 q2, below_wf h1 LO.out h3 q2, fun a ha => ?_⟩
  have hz := h2.lt
  rcases q3 a ha with ⟨a', e1, e2⟩ | hl
  ·rw [<- e2]
   exact h4 a' e1
  ·omega
 have DO1 : Hid (∀ W, Q 0 noM [] W -> Calls Tryz.prog 10 #[.pointer (some ⟨p.B, 0, none⟩), .agg #[.int .i64 1, .int .i64 0, .int .i64 0, .int .i64 1, .int .i64 2, .int .i64 0, .int .i64 0, .int .i64 0]] W fun e w' => e = .returned (.int .i64 0) ∧ Q (0 + 1 + 1) noM [((1, 0), ⟨1, 2, 0, 0⟩)] w') := DO.out ⟨1, 0, 0, ⟨1, 2, 0, 0⟩, 0⟩ 0 noM [] _ ⟨ok0W, ok0W, okP12, ok0W⟩ run_do1 (fun he => absurd he (by
  have : (handleP (chainD (fireD [allN true])) chainL noM 0 0 ⟨1, 2, 0, 0⟩ 0) = badH 7 noM := by
   unfold handleP
   rw [if_pos (by decide), if_pos (by decide)]
   have e : sendP ((chainD (fireD [allN true])).getD (0 : Int).toNat default) noM 0 0 ⟨1, 2, 0, 0⟩ 0 = stayR 7 := rfl
   rw [e, if_neg (by decide)]
   rfl
  dsimp only
  rw [this]
  exact (by decide : ¬ (7 : Int) = 0))) (by omega) (by simp)
 have DO2 : Hid (∀ W, Q (0 + 1 + 1) noM [((1, 0), ⟨1, 2, 0, 0⟩)] W -> Calls Tryz.prog 10 #[.pointer (some ⟨p.B, 0, none⟩), .agg #[.int .i64 2, .int .i64 1, .int .i64 0, .int .i64 1, .int .i64 2, .int .i64 0, .int .i64 0, .int .i64 0]] W fun e w' => e = .returned (.int .i64 0) ∧ Q (0 + 1 + 1 + 1 + 1) (learnP noM (.flow 1 ⟨1, 2, 0, 0⟩)) [((1, 0), ⟨1, 2, 0, 0⟩), ((2, 0), ⟨1, 2, 0, 0⟩)] w') := DO.out ⟨2, 1, 0, ⟨1, 2, 0, 0⟩, 0⟩ 2 noM [((1, 0), ⟨1, 2, 0, 0⟩)] _ ⟨ok1W, ok0W, okP12, ok0W⟩ run_do2 (fun _ => by dsimp only; rw [run_hd]; exact ⟨ok2, ok0W, okP12⟩) (by omega) (by simp)
 have HAS : Hid (∀ W, Q (0 + 1 + 1 + 1 + 1) (learnP noM (.flow 1 ⟨1, 2, 0, 0⟩)) [((1, 0), ⟨1, 2, 0, 0⟩), ((2, 0), ⟨1, 2, 0, 0⟩)] W -> Calls Tryz.prog 15 #[.pointer (some ⟨p.B, 0, none⟩), plA 2 0, .agg #[.int .i64 1, .int .i64 2, .int .i64 0, .int .i64 0]] W fun e w' => e = .returned (.bool true) ∧ Below W.heap.size W w') := fun W h => by
  rw [hQ] at h
  obtain ⟨S, cS, h1, h2, h3, h4⟩ := h
  refine (whas_any ((2, 0), ⟨1, 2, 0, 0⟩) W h1 ⟨ok2, ok0W, okP12⟩).mono fun e w' ⟨e1, e2⟩ => ⟨?_, e2⟩
  rw [e1, show (inF [((1, 0), ⟨1, 2, 0, 0⟩), ((2, 0), ⟨1, 2, 0, 0⟩)] ((2, 0), ⟨1, 2, 0, 0⟩)).isSome = true from inF_in.2 (by simp)]
 generalize learnP noM (.flow 1 ⟨1, 2, 0, 0⟩) = M2 at *
 generalize ([((1, 0), ⟨1, 2, 0, 0⟩), ((2, 0), ⟨1, 2, 0, 0⟩)] : List Arv) = ar2 at *
 generalize ([((1, 0), ⟨1, 2, 0, 0⟩)] : List Arv) = ar1 at *
 clear hQ DO hW D3 LO zB l1 l2 l3 l4 l5 CH NW HZ nilS
 obtain ⟨c0, c1, c2, c3⟩ := FS Q0
 have Q0d := KP Q0 ((Below.refl _ _).drew)
 go_wp2_with fail
 go_region_held3 (fun w' => w'.cell? ⟨w3.heap.size, 0, none⟩ = some (.int .i64 1) ∧ w'.cell? ⟨w3.heap.size, 1, none⟩ = some (.int .i64 2) ∧ w'.cell? ⟨w3.heap.size, 2, none⟩ = some (.int .i64 0) ∧ w'.cell? ⟨w3.heap.size, 3, none⟩ = some (.int .i64 0)) (exact FS (by first | exact Q4 | exact Q3 | exact Q2 | exact Q1 | exact Q0d)) (first | (go_at_call 10; (with_reducible refine (DO1.out _ Q0d).mono ?_); rintro e wa ⟨rfl, Q1⟩) | (go_at_call 10; (with_reducible refine (DO2.out _ Q1).mono ?_); rintro e wb ⟨rfl, Q2⟩) | (go_at_call 18; (with_reducible refine (PLC.out _ _ _).mono ?_); rintro e wd ⟨rfl, hbd⟩; have Q3 := KP Q2 hbd) | (go_at_call 15; (with_reducible refine (HAS.out _ Q3).mono ?_); rintro e we ⟨rfl, hbe⟩; have Q4 := KP Q3 hbe))
 all_goals
  go_wp2_with fail
  go_ret
  exact ⟨rfl, BE Q4⟩
theorem RcF.far {ds : List Dv} {ls : List Lk} {bR R MR most K : Nat} {sl : Value} {xs : List Value} {ns : List Nd} {s : Nat -> Nat -> Nat -> Nat} {W W' : World} (h : RcF ds ls bR R MR most K sl xs ns s W) (hF : ∀ b, bR <= b -> b < W.heap.size -> W'.heap[b]? = W.heap[b]?) : RcF ds ls bR R MR most K sl xs ns s W' := by
 obtain ⟨_, _, r1, r2⟩ := h.rc.ar.row
 refine ⟨⟨h.rc.ar.same (hF _ h.rc.ar.lowA h.rc.ar.lta) (hF _ h.rc.ar.lowM h.rc.ar.ltM) (hF _ r1 r2), (cellB (hF _ h.rc.ar.lowA h.rc.ar.lta)).trans h.rc.c4, h.rc.row.1, ?_⟩, h.hist, h.fn, h.up, h.fix⟩
 rcases h.rc.row.2 with k | ⟨g, cap, cur, h1, h2, h3, h4⟩
 ·exact Or.inl k
 ·refine Or.inr ⟨g, cap, cur, h1, h2, ?_, h4⟩
  rw [hF g h2 (Array.getElem?_eq_some_iff.1 h3).1]
  exact h3
theorem rnew_far (A B : Option Addr) (cap cap' : Nat) (ds : List Dv) (ls : List Lk) (w : World) (hz : netV ds ls = 0) (hD : Devs w.heap.size w (.slice A ds.length cap) ds) (hL : Links w.heap.size w (.slice B ls.length cap') ls) :
  Calls Tryz.prog 9 #[.agg #[.slice A ds.length cap, .slice B ls.length cap'], .int .i64 40000] w fun e w' => Below w.heap.size w w' ∧ ((∃ (bR R MR K : Nat) (sl : Value) (xs : List Value) (ns : List Nd) (s : Nat -> Nat -> Nat -> Nat), e = .returned (.tuple #[.pointer (some ⟨R, 0, none⟩), .int .i64 0]) ∧ w.heap.size <= bR ∧ Hid (RcF ds ls bR R MR 40000 K sl xs ns s w')) ∨ e = .returned (.tuple #[.pointer none, .int .i64 6])) := by
 refine (rnew_any A B cap cap' ds ls 40000 (by omega) (by omega) hz (netV_devsR hz) hD hL 40000 True (fun k _ i q a b d hd _ _ _ => widB_any (netV_devsR hz d (List.mem_of_getElem? hd)) _ _ _ _ _ _)).mono fun e w' h => ?_
 obtain ⟨hb, ⟨bR, R, MR, K, sl, xs, ns, s, h1, h2, hF⟩ | ⟨h1, _⟩⟩ := h.made
 ·exact ⟨hb, Or.inl ⟨bR, R, MR, K, sl, xs, ns, s, h1, h2, hF⟩⟩
 ·exact ⟨hb, Or.inr h1⟩
def IsEv (cs : List Value) (x : Ev) : Prop := cs = [.int .i64 x.k, .int .i64 x.i, .int .i64 x.q, .int .i64 x.p.s, .int .i64 x.p.d, .int .i64 x.p.sp, .int .i64 x.p.dp, .int .i64 x.c] ∧ x.ok
theorem sound_any (A L A1 : Option Addr) (cap cap' cap1 : Nat) (ds : List Dv) (ls : List Lk) (xs : List Ev) (w : World) (hD : Hid (Devs w.heap.size w (.slice A ds.length cap) ds)) (hL : Hid (Links w.heap.size w (.slice L ls.length cap') ls)) (hX : Hid (SlAt w.heap.size w 8 IsEv (.slice A1 xs.length cap1) xs)) :
  Calls Tryz.prog 3 #[.agg #[.slice A ds.length cap, .slice L ls.length cap'], .slice A1 xs.length cap1] w fun e w' => e = .returned (.bool true) ∧ Below w.heap.size w w' := by
 have RUN : Hid (∀ W, Calls Tryz.prog 7 #[] W fun e w' => e = .returned (.bool true) ∧ Below W.heap.size W w') := fun W => running_any W
 have RE : Hid (∀ W, Calls Tryz.prog 6 #[] W fun e w' => e = .returned (.bool true) ∧ Below W.heap.size W w') := fun W => ready_any W
 have NW : Hid (∀ (W : World), Below w.heap.size w W -> Calls Tryz.prog 8 #[.agg #[.slice A ds.length cap, .slice L ls.length cap']] W (WNew W ds ls)) := fun W h => wnew_any A L cap cap' ds ls W ((hD.out.below h).mono h.size) ((hL.out.below h).mono h.size)
 have RN : Hid (∀ (W : World), netV ds ls = 0 -> Below w.heap.size w W -> Calls Tryz.prog 9 #[.agg #[.slice A ds.length cap, .slice L ls.length cap'], .int .i64 40000] W _) := fun W hz h => rnew_far A L cap cap' ds ls W hz ((hD.out.below h).mono h.size) ((hL.out.below h).mono h.size)
 have HXC : Hid (∀ (k : Nat) (x : Ev) W, Below w.heap.size w W -> xs[k]? = some x -> ∃ b o, A1 = some ⟨b, o, none⟩ ∧ W.cell? ⟨b, o + k * 8, none⟩ = some (.int .i64 x.k) ∧ W.cell? ⟨b, o + k * 8 + 1, none⟩ = some (.int .i64 x.i) ∧ W.cell? ⟨b, o + k * 8 + 2, none⟩ = some (.int .i64 x.q) ∧ W.cell? ⟨b, o + k * 8 + 3, none⟩ = some (.int .i64 x.p.s) ∧ W.cell? ⟨b, o + k * 8 + 4, none⟩ = some (.int .i64 x.p.d) ∧ W.cell? ⟨b, o + k * 8 + 5, none⟩ = some (.int .i64 x.p.sp) ∧ W.cell? ⟨b, o + k * 8 + 6, none⟩ = some (.int .i64 x.p.dp) ∧ W.cell? ⟨b, o + k * 8 + 7, none⟩ = some (.int .i64 x.c) ∧ x.ok) := fun k x W hb hk => by
  obtain ⟨_, _, e, _, _, _, h3⟩ := hX.out
  cases e
  obtain ⟨b, o, ea, hl, hr⟩ := h3 (fun e => by rw [e] at hk; cases hk)
  obtain ⟨cs, _, ⟨rfl, hok⟩, hc⟩ := hr k x hk
  exact ⟨b, o, ea, (hb.cell (p := ⟨b, _, none⟩) hl).trans (hc 0 _ rfl), (hb.cell (p := ⟨b, _, none⟩) hl).trans (hc 1 _ rfl), (hb.cell (p := ⟨b, _, none⟩) hl).trans (hc 2 _ rfl), (hb.cell (p := ⟨b, _, none⟩) hl).trans (hc 3 _ rfl), (hb.cell (p := ⟨b, _, none⟩) hl).trans (hc 4 _ rfl), (hb.cell (p := ⟨b, _, none⟩) hl).trans (hc 5 _ rfl), (hb.cell (p := ⟨b, _, none⟩) hl).trans (hc 6 _ rfl), (hb.cell (p := ⟨b, _, none⟩) hl).trans (hc 7 _ rfl), hok⟩
 have D0 := Below.alN (Below.refl w.heap.size w) (.cells #[.slice A ds.length cap, .slice L ls.length cap'] 25)
 have N0 := bk_new w #[.slice A ds.length cap, .slice L ls.length cap'] 25
 go_enter Tryz.func3, Tryz.ntmps3
 go_wp2_with fail
 refine (RE.out _).mono ?_
 rintro e w0 ⟨rfl, hb0⟩
 have D0' := chnN hb0 D0
 have N0' := N0.keep hb0
 clear hb0 D0 N0 RE
 go_wp2_with fail
 refine (RUN.out _).mono ?_
 rintro e w1 ⟨rfl, hb1⟩
 have D1 := chnN hb1 D0'
 have N1 := N0'.keep hb1
 clear hb1 D0' N0' RUN
 obtain ⟨n0, n1⟩ := N1.two
 go_wp2_with fail
 refine (NW.out _ D1).mono ?_
 rintro e w2 ⟨hb2, hN⟩
 have D2 := chnN hb2 D1
 have N2 := N1.keep hb2
 have z1 := D1.size
 clear hb2 D1 N1 n0 n1 NW
 rcases hN with ⟨hne, rfl⟩ | ⟨hz, p, rfl, hW, l1, l2, l3, l4, l5⟩
 ·have hz1 : (netV ds ls == 0) = false := by simpa using hne
  generalize netV ds ls = nv at *
  have HNZ : Hid (¬ nv = 0) := hne
  clear hne
  go_wp2_with fail
  all_goals first | exact absurd (by assumption) HNZ.out | skip
  all_goals
   go_ret
   exact ⟨by first | rfl | simp, D2⟩
 by_cases hl : 80 < xs.length
 ·have hd : decide ((80 : Int) < (xs.length : Int)) = true := by simp; omega
  go_wp2_with fail
  all_goals
   go_ret
   exact ⟨rfl, D2⟩
 have hd : decide ((80 : Int) < (xs.length : Int)) = false := by simp; omega
 have LO : Hid (LoW w p) := ⟨by omega, by omega, by omega, by omega, by omega⟩
 have HZ : Hid (netV ds ls = 0) := hz
 have HR : Hid (Calls Tryz.prog 9 #[.agg #[.slice A ds.length cap, .slice L ls.length cap'], .int .i64 40000] w2 _) := RN.out w2 hz D2
 obtain ⟨m0, m1⟩ := N2.two
 have HW : Hid (WlAt w2 p none 0 ds ls 0 noM []) := hW
 clear hz hW RN l1 l2 l3 l4 l5 z1
 go_wp2_with fail
 refine HR.out.mono ?_
 rintro e w3 ⟨hb3, hR⟩
 have D3 := chnN hb3 D2
 clear m0 m1 N2
 rcases hR with ⟨bR, R, MR, K, sl, ss, ns, s, rfl, hbR, hF⟩ | rfl
 case inr =>
  clear HW hb3 HR
  go_wp2_with fail
  all_goals
   go_ret
   exact ⟨by first | rfl | simp, D3⟩
 have CL : Hid (Closed ds ls (SetP ds ls K)) := closed_last HZ.out hF.out.fix
 have hB2 : p.B < w2.heap.size := HW.out.blk.lt
 have z3 := hb3.size
 obtain ⟨V, hV⟩ : ∃ V : Nat -> Mnd -> List Arv -> World -> Prop, V = fun n M ar W => ∃ S cS, WlAt W p S cS ds ls n M ar ∧ Below w.heap.size w W ∧ MOk M ∧ KnowR ds M (SetP ds ls K) ∧ (∀ x ∈ ar, pkOk x.2 = true) ∧ (∀ x ∈ ar, SetP ds ls K x.1 x.2) ∧ (∀ a, S = some a -> w3.heap.size <= a.block) ∧ (∀ b, w2.heap.size <= b -> b < w3.heap.size -> W.heap[b]? = w3.heap[b]?) ∧ w3.heap.size <= W.heap.size := ⟨_, rfl⟩
 have V2 : V 0 noM [] w3 := by
  rw [hV]
  exact ⟨none, 0, HW.out.below hb3, D3, mok_no, know_no _ _, (fun x hx => by cases hx), (fun x hx => by cases hx), (fun a ha => by cases ha), fun _ _ _ => rfl, Nat.le_refl _⟩
 have KP : ∀ {n : Nat} {M : Mnd} {ar : List Arv} {W W' : World}, V n M ar W -> Below W.heap.size W W' -> V n M ar W' := fun {n M ar W W'} h hb => by
  rw [hV] at h ⊢
  obtain ⟨S, cS, h1, h2, h3, h4, h5, h6, h7, h8, h9⟩ := h
  exact ⟨S, cS, h1.below hb, chnN hb h2, h3, h4, h5, h6, h7, fun b c1 c2 => (hb.block b (Nat.lt_of_lt_of_le c2 h9)).trans (h8 b c1 c2), Nat.le_trans h9 hb.size⟩
 have BE : ∀ {n : Nat} {M : Mnd} {ar : List Arv} {W : World}, V n M ar W -> Below w.heap.size w W := fun {n M ar W} h => by
  rw [hV] at h
  obtain ⟨S, cS, h1, h2, _⟩ := h
  exact h2
 have SEE : Hid (∀ {n : Nat} {M : Mnd} {ar : List Arv} {W : World}, V n M ar W -> ar.length <= 5000 -> Calls Tryz.prog 11 #[.pointer (some ⟨p.B, 0, none⟩)] W fun e w' => ∃ A c, e = .returned (.slice A ar.length c) ∧ Hid (SlAt w'.heap.size w' 6 IsArv (.slice A ar.length c) ar) ∧ Below W.heap.size W w') := fun {n M ar W} h ha => by
  rw [hV] at h
  obtain ⟨S, cS, h1, h2, _⟩ := h
  exact (seen_any W h1 ha).mono fun e w' ⟨A, c, q1, q2, q3, q4⟩ => ⟨A, c, q1, q2, q4⟩
 have DO : Hid (∀ {n : Nat} {M : Mnd} {ar : List Arv} {W : World} (x : Ev), x.ok -> n <= 400 -> ar.length <= 5000 -> V n M ar W -> Calls Tryz.prog 10 #[.pointer (some ⟨p.B, 0, none⟩), .agg #[.int .i64 x.k, .int .i64 x.i, .int .i64 x.q, .int .i64 x.p.s, .int .i64 x.p.d, .int .i64 x.p.sp, .int .i64 x.p.dp, .int .i64 x.c]] W fun e w' => ∃ er M' ar', e = .returned (.int .i64 er) ∧ V (n + 1 + 1) M' ar' w' ∧ ar'.length <= ar.length + 1) := fun {n M ar W} x hx hn ha h => by
  rw [hV] at h
  obtain ⟨S, cS, h1, h2, h3, h4, h5, h6, h7, h8, h9⟩ := h
  obtain ⟨o1, o2⟩ := handle_ok HZ.out h3 x.i x.q x.p x.c
  refine (do_any x W h1 hx HZ (fun he => ⟨(o2 he).2.1, (o2 he).2.2, pkOk_ok (o2 he).1⟩) (by unfold maxLen; omega) ha).mono fun e w' ⟨e1, S', cS', q1, q2, q3⟩ => ?_
  obtain ⟨d1, d2, d3⟩ := do_ok HZ.out h3 h5 x
  obtain ⟨r1, r2⟩ := do_r HZ.out h3 CL.out h4 h6 x
  obtain ⟨m1, m2, m3, m4⟩ := h1.lo
  refine ⟨(doP ds ls M ar x).1, (doP ds ls M ar x).2.1, (doP ds ls M ar x).2.2, e1, ?_, ?_⟩
  ·rw [hV]
   refine ⟨S', cS', q1, below_wf h1 LO.out h2 q2, d1, r1, d2, r2, fun a ha => ?_, fun b c1 c2 => ?_, Nat.le_trans h9 q2.size⟩
   ·rcases q3 a ha with ⟨a', e, e'⟩ | h
    ·have := h7 a' e
     omega
    ·omega
   ·exact (q2.block b (by omega) (by omega) (by omega) (by omega) (by omega) (by omega) (fun a ha => by have := h7 a ha; omega)).trans (h8 b c1 c2)
  ·rcases d3 with h | ⟨_, y, h⟩ <;> rw [h] <;> simp
 have RO : Hid (∀ {n : Nat} {M : Mnd} {ar : List Arv} {W : World} {x : Arv}, V n M ar W -> x ∈ ar -> Calls Tryz.prog 12 #[.pointer (some ⟨R, 0, none⟩), .agg #[.int .i64 x.1.1, .int .i64 x.1.2], .agg #[.int .i64 x.2.s, .int .i64 x.2.d, .int .i64 x.2.sp, .int .i64 x.2.dp]] W fun e w' => ∃ v : Int, e = .returned (.int .i64 v) ∧ decide (v < 0) = false ∧ Below W.heap.size W w') := fun {n M ar W x} h hx => by
  rw [hV] at h
  obtain ⟨S, cS, h1, h2, h3, h4, h5, h6, h7, h8, h9⟩ := h
  have hG : RcF ds ls bR R MR 40000 K sl ss ns s W := hF.out.far (fun b c1 c2 => h8 b (by omega) c2)
  refine (round_b hG x.1.1 x.1.2 x.2.s x.2.d x.2.sp x.2.dp).mono fun e w' ⟨v, e1, e2, _, e3⟩ => ⟨v, e1, ?_, e3⟩
  rw [e2, set_round (h5 x hx) (h6 x hx)]
  rfl
 clear hV LO HZ HW D2 D3 hB2 z3 hD hL hX CL hF hbR hb3 HR
 go_wp2_with fail
 go_loopw [41] (fun i wr => ∃ (k n : Nat) (M : Mnd) (ar : List Arv), i = .int .i64 (k : Int) ∧ k <= xs.length ∧ n <= 2 * k ∧ ar.length <= k ∧ V n M ar wr) (fun i _ => xs.length - (intOf i).toNat)
 case atStart => exact ⟨0, 0, noM, [], rfl, by omega, by omega, by simp, V2⟩
 case round =>
  clear V2
  obtain ⟨k, n, M, ar, rfl, hk, hn, har, V1⟩ := hrel
  by_cases hlt : k < xs.length
  ·obtain ⟨x, hxk⟩ : ∃ x, xs[k]? = some x := ⟨_, List.getElem?_eq_getElem hlt⟩
   obtain ⟨b, o, rfl, c0, c1, c2, c3, c4, c5, c6, c7, hok⟩ := HXC.out k x wr (BE V1) hxk
   obtain ⟨xk, xi, xq, ⟨s, d, sp, dp⟩, xc⟩ := x
   have HO : Hid (Ev.ok ⟨xk, xi, xq, ⟨s, d, sp, dp⟩, xc⟩) := hok
   have k1 : (0 : Int) <= (k : Int) := by omega
   have k2 : (k : Int) < (xs.length : Int) := by omega
   have X3 := bk_new wr #[.int .i64 xk, .int .i64 xi, .int .i64 xq, .int .i64 s, .int .i64 d, .int .i64 sp, .int .i64 dp, .int .i64 xc] 38
   have V3 := KP V1 ((Below.refl _ _).alloc (Nat.le_refl _) (.cells #[.int .i64 xk, .int .i64 xi, .int .i64 xq, .int .i64 s, .int .i64 d, .int .i64 sp, .int .i64 dp, .int .i64 xc] 38))
   have e0 := X3.at 0
   have e1 := X3.at 1
   have e2 := X3.at 2
   have e3 := X3.at 3
   have e4 := X3.at 4
   have e5 := X3.at 5
   have e6 := X3.at 6
   have e7 := X3.at 7
   clear hxk hok V1
   go_wp2_with fail
   refine (DO.out ⟨xk, xi, xq, ⟨s, d, sp, dp⟩, xc⟩ HO.out (by omega) (by omega) V3).mono ?_
   rintro e w5 ⟨er, M', ar', rfl, V5, hl5⟩
   clear V3 X3 e0 e1 e2 e3 e4 e5 e6 e7 c0 c1 c2 c3 c4 c5 c6 c7
   go_wp2_with fail
   go_roundw
   case rel => exact ⟨k + 1, n + 1 + 1, M', ar', by go_num, by omega, by omega, by omega, V5⟩
   case measure => simp [intOf]; omega
  ·go_wp2_with fail
   refine (SEE.out V1 (by omega)).mono ?_
   rintro e w4 ⟨As, cs, rfl, S4, hb4⟩
   have V4 := KP V1 hb4
   have l4 : ar.length <= 9223372036854775807 := by omega
   clear V1 hb4 DO SEE
   go_wp2_with fail
   go_loopw [52] (fun i wr => ∃ (j : Nat), i = .int .i64 (j : Int) ∧ j <= ar.length ∧ V n M ar wr ∧ Hid (SlAt wr.heap.size wr 6 IsArv (.slice As ar.length cs) ar)) (fun i _ => ar.length - (intOf i).toNat)
   case atStart => exact ⟨0, rfl, by omega, V4, S4⟩
   case round =>
    clear V4 S4
    obtain ⟨j, rfl, hj, V1, S1⟩ := hrel
    by_cases hlj : j < ar.length
    ·obtain ⟨x, hxj⟩ : ∃ x, ar[j]? = some x := ⟨_, List.getElem?_eq_getElem hlj⟩
     have HM : Hid (x ∈ ar) := List.mem_of_getElem? hxj
     obtain ⟨b, o, rfl, c0, c1, c2, c3, c4, c5⟩ := S1.out.arv hxj
     have V2 := KP V1 ((Below.refl _ _).alloc (Nat.le_refl _) (.cells #[.int .i64 x.1.1, .int .i64 x.1.2, .int .i64 x.2.s, .int .i64 x.2.d, .int .i64 x.2.sp, .int .i64 x.2.dp] 45))
     have S2 : Hid (SlAt (wr.alloc (.cells #[.int .i64 x.1.1, .int .i64 x.1.2, .int .i64 x.2.s, .int .i64 x.2.d, .int .i64 x.2.sp, .int .i64 x.2.dp] 45)).heap.size (wr.alloc (.cells #[.int .i64 x.1.1, .int .i64 x.1.2, .int .i64 x.2.s, .int .i64 x.2.d, .int .i64 x.2.sp, .int .i64 x.2.dp] 45)) 6 IsArv (.slice (some ⟨b, o, none⟩) ar.length cs) ar) := SlAt.mono (SlAt.below S1.out ((Below.refl _ _).alloc (Nat.le_refl _) _) (fun _ _ _ h => h)) (by simp) (fun _ _ _ h => h)
     have Y2 := bk_new wr #[.int .i64 x.1.1, .int .i64 x.1.2, .int .i64 x.2.s, .int .i64 x.2.d, .int .i64 x.2.sp, .int .i64 x.2.dp] 45
     have HS2 : Hid (Calls Tryz.prog 12 #[.pointer (some ⟨R, 0, none⟩), .agg #[.int .i64 x.1.1, .int .i64 x.1.2], .agg #[.int .i64 x.2.s, .int .i64 x.2.d, .int .i64 x.2.sp, .int .i64 x.2.dp]] (wr.alloc (.cells #[.int .i64 x.1.1, .int .i64 x.1.2, .int .i64 x.2.s, .int .i64 x.2.d, .int .i64 x.2.sp, .int .i64 x.2.dp] 45)) _) := RO.out V2 HM.out
     have k1 : (0 : Int) <= (j : Int) := by omega
     have k2 : (j : Int) < (ar.length : Int) := by omega
     obtain ⟨⟨xi, xq⟩, ⟨s, d, sp, dp⟩⟩ := x
     dsimp only at *
     obtain ⟨⟨y0, y1, y2, y3, y4, y5⟩, _⟩ := Y2.six
     clear hxj V1 S1 HM
     go_wp2_with fail
     with_reducible refine HS2.out.mono ?_
     rintro e w5 ⟨v, rfl, hv, hb5⟩
     have V5 := KP V2 hb5
     have S5 : Hid (SlAt w5.heap.size w5 6 IsArv (.slice (some ⟨b, o, none⟩) ar.length cs) ar) := SlAt.mono (SlAt.below S2.out hb5 (fun _ _ _ h => h)) hb5.size (fun _ _ _ h => h)
     clear hb5 V2 S2 Y2 y0 y1 y2 y3 y4 y5 c0 c1 c2 c3 c4 c5 HS2
     go_wp2_with fail
     go_roundw
     case rel => exact ⟨j + 1, by go_num, by omega, V5, S5⟩
     case measure => simp [intOf]; omega
    ·have DE := BE V1
     go_wp2_with fail
     go_ret
     exact ⟨rfl, DE⟩
end Go.Proofs.YtlmmeppifkigeaaGreat
