/-
  XAN.
-/
import Derived.Test.YtppbfikimalojaaGreatXAM
import Derived.Test.YtppbfikimalojaaGreatXAJ
import Derived.Test.YtppbfikimalojaaGreatXAD
import Derived.Test.YtppbfikimalojaaGreatXAI
set_option maxHeartbeats 8000000
set_option maxRecDepth 100000
namespace Go.Proofs.YtppbfikimalojaaGreat
open Go.RowKit Go.Maps
theorem mSend_no {d : Dv} (hd : d.kind = 1 ∨ d.kind = 2) (FL : List Ft) (i q : Int) (p : Pk) (c : Int) : (mSend d FL i q p c).k = none := by
 unfold mSend
 rcases hd with h | h
 ·rw [if_neg (by omega), if_neg (by omega), if_neg (by omega), if_neg (by omega)]
 ·rw [if_pos h]
theorem mind_no {ds : List Dv} (hp : PlainD ds) (ls : List Lk) (FL : List Ft) (i q : Int) (p : Pk) (c : Int) : (mindP ds ls FL i q p c).FL = FL := by
 unfold mindP
 cases hpl : isPl ds i q
 ·rfl
 rw [if_pos rfl]
 cases hpk : pkOk p
 ·rfl
 rw [if_pos rfl]
 have hi : i.toNat < ds.length := by
  unfold isPl at hpl
  simp only [Bool.and_eq_true, decide_eq_true_eq] at hpl
  omega
 have hd : (ds.getD i.toNat default).kind = 1 ∨ (ds.getD i.toNat default).kind = 2 := by
  rw [List.getD_eq_getElem?_getD, List.getElem?_eq_getElem hi]
  exact hp _ (List.getElem_mem hi)
 have hk := mSend_no hd FL i q p c
 split
 ·split
  ·cases peerF ls i (mSend (ds.getD i.toNat default) FL i q p c).port with
   | some t =>
     dsimp only
     rw [hk]
     rfl
   | none => rfl
  ·rfl
 ·rfl
theorem blk_apart {W : World} {B B' e e' s s' n n' : Nat} {v v' : Value} {xs xs' : List Value} (h : W.ownsRow B e s v n xs) (h' : W.ownsRow B' e' s' v' n' xs') (he : e ≠ e') {g : Nat} (hg : v.ownBlock = some g) : v'.ownBlock ≠ some g := fun hg' => by
 obtain ⟨_, _, c, h1⟩ := own_block h hg
 obtain ⟨_, _, c', h2⟩ := own_block h' hg'
 rw [h1] at h2
 cases h2
 exact he rfl
structure ZS (w : World) (A L : Option Addr) (c d : Nat) (ds : List Dv) (ls : List Lk) (p : Pk) (F : Option Addr) (cF : Nat) (v : Value) (acc : List Plc) (t : Plc) (W : World) : Prop where
 mn : MnAt W (w.heap.size + 1 + 1 + 1) A L c d F cF ds ls []
 row : W.ownsRow (w.heap.size + 1 + 1 + 1 + 1) 27 2 v acc.length (acc.flatMap plC)
 below : Below w.heap.size w W
 dN : Devs w.heap.size W (.slice A ds.length c) ds
 lN : Links w.heap.size W (.slice L ls.length d) ls
 bt : Bk W (w.heap.size + 1) #[.int .i64 t.1, .int .i64 t.2] 27
 bp : Bk W (w.heap.size + 1 + 1) #[.int .i64 p.s, .int .i64 p.d, .int .i64 p.sp, .int .i64 p.dp] 29
section
variable {w W W' : World} {A L F F' : Option Addr} {c d cF cF' : Nat} {ds : List Dv} {ls : List Lk} {p : Pk} {v : Value} {acc : List Plc} {t : Plc}
theorem ZS.keep (hb : Below W.heap.size W W') (h : ZS w A L c d ds ls p F cF v acc t W) : ZS w A L c d ds ls p F cF v acc t W' := ⟨h.mn.below hb, own_below h.row hb, chnN hb h.below, h.dN.kt (KT.of_below hb h.below.size), h.lN.kt (KT.of_below hb h.below.size), h.bt.keep hb, h.bp.keep hb⟩
theorem ZS.alloc (h : ZS w A L c d ds ls p F cF v acc t W) (o : Obj) : ZS w A L c d ds ls p F cF v acc t (W.alloc o) := h.keep ((Below.refl _ _).alloc (Nat.le_refl _) o)
theorem fact_ne {g : Nat} {n : Nat} {xs : List Value} {k : Nat} {cs : Array Value} {ty : TypeId} {a : Addr} (h : W.ownsRow g 178 6 (.slice (some a) n cF) n xs) (hk : Bk W k cs ty) (ht : ty ≠ 178) : k ≠ a.block := fun e => by
 obtain ⟨A', c', e', hA⟩ := own_sl h
 cases e'
 obtain ⟨_, _, cur, h1⟩ := own_block h (hA a rfl)
 unfold Bk at hk
 rw [e, h1] at hk
 cases hk
 exact ht rfl
theorem ZS.handle (h : ZS w A L c d ds ls p F cF v acc t W) (hM : MnAt W' (w.heap.size + 1 + 1 + 1) A L c d F' cF' ds ls []) (hk : MKp (w.heap.size + 1 + 1 + 1) F W W') : ZS w A L c d ds ls p F' cF' v acc t W' := by
 have zp := h.bp.lt
 have zg := h.mn.blk.lt
 have keepB : ∀ {k : Nat} {cs : Array Value} {ty : TypeId}, Bk W k cs ty -> ty ≠ 178 -> k ≠ w.heap.size + 1 + 1 + 1 -> W'.heap[k]? = W.heap[k]? := fun {k cs ty} hB ht hne => hk.block k hB.lt hne (fun a ha => by
  have hf := h.mn.facts
  rw [ha] at hf
  exact fact_ne hf hB ht)
 have low : ∀ b, b < w.heap.size -> W'.heap[b]? = W.heap[b]? := fun b hb => by
  refine hk.block b (Nat.lt_of_lt_of_le hb h.below.size) (by omega) (fun a ha => ?_)
  have hf := h.mn.facts
  rw [ha] at hf
  obtain ⟨A', c', e', hA⟩ := own_sl hf
  cases e'
  obtain ⟨_, q2, _⟩ := own_block hf (hA a rfl)
  omega
 have kt : KT w.heap.size W W' := fun b hb _ => low b hb
 refine ⟨hM, own_keptBut h.row (fun g hg => ?_), ?_, h.dN.kt kt, h.lN.kt kt, ?_, ?_⟩
 ·obtain ⟨q1, q2, cur, hc⟩ := own_block h.row hg
  exact keepB (k := g) hc (by decide) (by omega)
 ·exact h.below.trans ⟨hk.os, hk.tape, hk.output, hk.size, low⟩
 ·exact (keepB h.bt (by decide) (by omega)).trans h.bt
 ·exact (keepB h.bp (by decide) (by omega)).trans h.bp
theorem ZS.app (h : ZS w A L c d ds ls p F cF v acc t W) (ha : acc.length <= 5000) : ∃ v' w', (Builtin.append_ #[58, 58] 58 #[v, .slice (some ⟨W.heap.size, 0, none⟩) 1 1]).run Tryz.prog (W.alloc (.cells #[.int .i64 t.1, .int .i64 t.2] 27)) = .ok v' w' ∧ ZS w A L c d ds ls p F cF v' (acc ++ [t]) t w' := by
 have zg := h.mn.blk.lt
 obtain ⟨v', w', r, O, D, K, _⟩ := app_el (w := W) uPls infoPl rfl (by omega) (by omega) 58 h.row (us := plC t) rfl (plC_one _) ha (by omega)
 have kt : KT (w.heap.size + 1 + 1 + 1) W w' := fun b hb _ => D.block b (by omega)
 refine ⟨v', w', r, ⟨(D.block _ (by omega)).trans h.mn.blk, h.mn.devs.kt kt, h.mn.links.kt kt, own_keptBut h.mn.facts (fun g hg => ?_)⟩, ?_, ?_, ?_, ?_, ?_, ?_⟩
 ·obtain ⟨q1, q2, _⟩ := own_block h.mn.facts hg
  exact K.block g q1 (fun e => blk_apart h.mn.facts h.row (by decide) hg e.symm)
 ·rw [List.flatMap_append, List.length_append]
  simpa using O
 ·exact h.below.trans (D.mono (by omega))
 ·exact h.dN.kt (fun b hb _ => D.block b (by omega))
 ·exact h.lN.kt (fun b hb _ => D.block b (by omega))
 ·exact (D.block _ (by omega)).trans h.bt
 ·exact (D.block _ (by omega)).trans h.bp
theorem ZS.setT (h : ZS w A L c d ds ls p F cF v acc t W) (t' : Plc) : ZS w A L c d ds ls p F cF v acc t' ((W.setCell ⟨w.heap.size + 1, 0, none⟩ (.int .i64 t'.1)).setCell ⟨w.heap.size + 1, 1, none⟩ (.int .i64 t'.2)) := by
 have hF : ∀ b, b ≠ w.heap.size + 1 -> ((W.setCell ⟨w.heap.size + 1, 0, none⟩ (.int .i64 t'.1)).setCell ⟨w.heap.size + 1, 1, none⟩ (.int .i64 t'.2)).heap[b]? = W.heap[b]? := fun b hb => (Below.heap_setCell _ ⟨w.heap.size + 1, 1, none⟩ _ b hb).trans (Below.heap_setCell W ⟨w.heap.size + 1, 0, none⟩ _ b hb)
 have hs : ((W.setCell ⟨w.heap.size + 1, 0, none⟩ (.int .i64 t'.1)).setCell ⟨w.heap.size + 1, 1, none⟩ (.int .i64 t'.2)).heap.size = W.heap.size := by simp [World.setCell]
 have zb := h.below.size
 have D : Below w.heap.size W ((W.setCell ⟨w.heap.size + 1, 0, none⟩ (.int .i64 t'.1)).setCell ⟨w.heap.size + 1, 1, none⟩ (.int .i64 t'.2)) := ((Below.refl w.heap.size W).setCell (p := ⟨w.heap.size + 1, 0, none⟩) (by show w.heap.size <= w.heap.size + 1; omega) _).setCell (p := ⟨w.heap.size + 1, 1, none⟩) (by show w.heap.size <= w.heap.size + 1; omega) _
 have kt : KT w.heap.size W ((W.setCell ⟨w.heap.size + 1, 0, none⟩ (.int .i64 t'.1)).setCell ⟨w.heap.size + 1, 1, none⟩ (.int .i64 t'.2)) := fun b hb _ => hF b (by omega)
 have zg := h.mn.blk.lt
 refine ⟨⟨(hF _ (by omega)).trans h.mn.blk, (h.dN.kt kt).mono (by omega), (h.lN.kt kt).mono (by omega), own_keptBut h.mn.facts (fun g hg => hF g ?_)⟩, own_keptBut h.row (fun g hg => hF g ?_), h.below.trans D, h.dN.kt kt, h.lN.kt kt, ?_, (hF _ (by omega)).trans h.bp⟩
 ·have := (own_block h.mn.facts hg).2.1
  omega
 ·have := (own_block h.row hg).2.1
  omega
 ·have := (h.bt.setS (j := 0) (.int .i64 t'.1)).setS (j := 1) (.int .i64 t'.2)
  simpa using this
theorem ZS.sl (h : ZS w A L c d ds ls p F cF v acc t W) : SlAt W.heap.size W 2 IsPlc v acc := SlAt.own h.row (fun k x hx => flatP_at acc k x hx)
end
def ZOut (w : World) (res : List Plc × Bool) (e : Ending) (w' : World) : Prop :=
 ∃ A c, e = .returned (.tuple #[.slice A res.1.length c, .bool res.2]) ∧ SlAt w'.heap.size w' 2 IsPlc (.slice A res.1.length c) res.1 ∧ Below w.heap.size w w'
theorem ZS.fin {w W : World} {A L F A9 : Option Addr} {c d cF c9 : Nat} {ds : List Dv} {ls : List Lk} {p : Pk} {acc : List Plc} {t : Plc} {r : Bool} (h : ZS w A L c d ds ls p F cF (.slice A9 acc.length c9) acc t W) : ZOut w (acc, r) (.returned (.tuple #[.slice A9 acc.length c9, .bool r])) W := ⟨A9, c9, rfl, h.sl, h.below⟩
theorem zwalk_any (A L : Option Addr) (c d : Nat) (ds : List Dv) (ls : List Lk) (t0 : Plc) (p : Pk) (w : World) (hD : Hid (Devs w.heap.size w (.slice A ds.length c) ds)) (hL : Hid (Links w.heap.size w (.slice L ls.length d) ls)) (hz : Hid (netV ds ls = 0)) (hk : Hid (PlainD ds)) (ht : Hid (isPl ds t0.1 t0.2 = true)) (hp : Hid (pkOk p = true)) :
  Calls Tryz.prog 20 #[.agg #[.slice A ds.length c, .slice L ls.length d], plA t0.1 t0.2, pkV p] w (ZOut w (wayP ds ls p t0)) := by
 have N0 := ((bk_new w #[.slice A ds.length c, .slice L ls.length d] 25).alloc (.cells #[.int .i64 t0.1, .int .i64 t0.2] 27)).alloc (.cells #[.int .i64 p.s, .int .i64 p.d, .int .i64 p.sp, .int .i64 p.dp] 29)
 have T0 := ((bk_new' (w.alloc (.cells #[.slice A ds.length c, .slice L ls.length d] 25)) #[.int .i64 t0.1, .int .i64 t0.2] 27 (w.heap.size + 1) (by simp)).alloc (.cells #[.int .i64 p.s, .int .i64 p.d, .int .i64 p.sp, .int .i64 p.dp] 29)).alloc (.cells #[.slice A ds.length c, .slice L ls.length d, .slice none 0 0] 126)
 have R0 : ZS w A L c d ds ls p none 0 (.slice (some ⟨w.heap.size + 1 + 1 + 1 + 1, 0, none⟩) 1 1) [t0] t0 (((((w.alloc (.cells #[.slice A ds.length c, .slice L ls.length d] 25)).alloc (.cells #[.int .i64 t0.1, .int .i64 t0.2] 27)).alloc (.cells #[.int .i64 p.s, .int .i64 p.d, .int .i64 p.sp, .int .i64 p.dp] 29)).alloc (.cells #[.slice A ds.length c, .slice L ls.length d, .slice none 0 0] 126)).alloc (.cells #[.int .i64 t0.1, .int .i64 t0.2] 27)) := by
  have D := Below.alN (Below.alN (Below.alN (Below.alN (Below.alN (Below.refl w.heap.size w) (.cells #[.slice A ds.length c, .slice L ls.length d] 25)) (.cells #[.int .i64 t0.1, .int .i64 t0.2] 27)) (.cells #[.int .i64 p.s, .int .i64 p.d, .int .i64 p.sp, .int .i64 p.dp] 29)) (.cells #[.slice A ds.length c, .slice L ls.length d, .slice none 0 0] 126)) (.cells #[.int .i64 t0.1, .int .i64 t0.2] 27)
  refine ⟨⟨(bk_new' (((w.alloc _).alloc _).alloc _) _ _ _ (by simp)).alloc _, (hD.out.below D).mono (by omega), (hL.out.below D).mono (by omega), World.ownsRow_nil _ _ _ _⟩, ?_, D, hD.out.below D, hL.out.below D, T0.alloc _, ((bk_new' ((w.alloc _).alloc _) _ _ _ (by simp)).alloc _).alloc _⟩
  exact ⟨rfl, .inr ⟨w.heap.size + 1 + 1 + 1 + 1, 1, #[.int .i64 t0.1, .int .i64 t0.2], rfl, Nat.le_refl _, bk_new' ((((w.alloc _).alloc _).alloc _).alloc _) _ _ _ (by simp), Nat.le_refl _, by decide, rfl, rfl⟩⟩
 have HC : Hid (∀ {F A9 : Option Addr} {cF c9 : Nat} {acc : List Plc} {t : Plc} {W : World}, ZS w A L c d ds ls p F cF (.slice A9 acc.length c9) acc t W -> Calls Tryz.prog 56 #[.slice A9 acc.length c9, .agg #[.int .i64 t.1, .int .i64 t.2]] W fun e w' => e = .returned (.bool (decide (t ∈ acc))) ∧ Below W.heap.size W w') := fun {F A9 cF c9 acc t W} h => contains_pl A9 c9 acc t _ W (Nat.le_refl _) h.sl
 have HH : Hid (∀ {F : Option Addr} {cF : Nat} {v : Value} {acc : List Plc} {t : Plc} {W : World}, ZS w A L c d ds ls p F cF v acc t W -> Hid (isPl ds t.1 t.2 = true) -> Calls Tryz.prog 55 #[.pointer (some ⟨w.heap.size + 1 + 1 + 1, 0, none⟩), .agg #[.int .i64 t.1, .int .i64 t.2], .agg #[.int .i64 p.s, .int .i64 p.d, .int .i64 p.sp, .int .i64 p.dp], .int .i64 0] W fun e w' => ∃ (er : Int) (tx : Plc) (px : Pk) (F' : Option Addr) (cF' : Nat), e = .returned (.tuple #[.agg #[.int .i64 tx.1, .int .i64 tx.2, .int .i64 px.s, .int .i64 px.d, .int .i64 px.sp, .int .i64 px.dp], .int .i64 er]) ∧ ZS w A L c d ds ls p F' cF' v acc t w' ∧ Hid (nxF ds ls p t = if er = 0 then some tx else none)) := fun {F cF v acc t W} h ht => by
  refine (mhandle_ok t.1 t.2 p 0 W h.mn ht.out hp.out (by simp) rfl).mono fun e w' ⟨h1, F', cF', h2, h3, _⟩ => ?_
  rw [mind_no hk.out] at h2
  obtain ⟨g1, g2, g3, _⟩ := mind_rel (rel_no ds) (ls := ls) t.1 t.2 p 0
  refine ⟨_, _, _, F', cF', h1, h.handle h2 h3, ?_⟩
  show _ = _
  unfold nxF
  rw [g1, g2]
 have HP : Hid (∀ {t t' : Plc}, nxF ds ls p t = some t' -> isPl ds t'.1 t'.2 = true) := fun {t t'} h => nx_place hz.out h
 have I0 : Hid (WInv ds (nxF ds ls p) (wayP ds ls p t0) [] t0) := winv_start (netV_links hz.out).1 ht.out
 obtain ⟨res, hres⟩ : ∃ res, res = wayP ds ls p t0 := ⟨_, rfl⟩
 rw [<- hres] at I0 ⊢
 obtain ⟨nx, hnx⟩ : ∃ nx, nx = nxF ds ls p := ⟨_, rfl⟩
 rw [<- hnx] at I0 HH HP
 have KP : ∀ {F : Option Addr} {cF : Nat} {v : Value} {acc : List Plc} {t : Plc} {W W' : World}, Below W.heap.size W W' -> ZS w A L c d ds ls p F cF v acc t W -> ZS w A L c d ds ls p F cF v acc t W' := fun hb h => h.keep hb
 clear hz hk ht hres hnx hp hD hL
 obtain ⟨s, dd, sp, dp⟩ := p
 obtain ⟨i0, q0⟩ := t0
 dsimp only at *
 obtain ⟨n0, n1⟩ := N0.two
 obtain ⟨t0, t1⟩ := T0.two
 go_enter Tryz.func20, Tryz.ntmps20
 go_wp2_with fail
 clear n0 n1 t0 t1 N0 T0
 go_loopw [9] (fun v wr => ∃ (A9 F : Option Addr) (c9 cF : Nat) (acc : List Plc) (t : Plc), v = .slice A9 (acc ++ [t]).length c9 ∧ ZS w A L c d ds ls ⟨s, dd, sp, dp⟩ F cF (.slice A9 (acc ++ [t]).length c9) (acc ++ [t]) t wr ∧ t ∉ acc ∧ Hid (WInv ds nx res acc t)) (fun v _ => 100 - slLen v)
 case atStart => exact ⟨_, none, 1, 0, [], (i0, q0), rfl, R0, by simp, I0⟩
 case round =>
  clear R0 I0
  obtain ⟨A9, F, c9, cF, acc, ⟨i, q⟩, rfl, R1, hno, I1⟩ := hrel
  have HN : Hid ((i, q) ∉ acc) := hno
  have TP : Hid (isPl ds (i, q).1 (i, q).2 = true) := I1.out.tp
  have hl40 := I1.out.len
  have el : Hid ((acc ++ [(i, q)]).length = acc.length + 1) := by show _ = _; simp
  obtain ⟨t0, t1⟩ := R1.bt.two
  obtain ⟨p0, p1, p2, p3, _⟩ := R1.bp.four
  clear hno
  generalize hac : acc ++ [(i, q)] = ac at *
  dsimp only at *
  go_wp2_with fail
  with_reducible refine (HH.out R1 TP).mono ?_
  rintro e w4 ⟨er, ⟨xi, xq⟩, ⟨y0, y1, y2, y3⟩, F', cF', rfl, R4, N4⟩
  dsimp only at *
  clear R1 t0 t1 p0 p1 p2 p3 HH TP
  by_cases he : er = 0
  ·subst he
   have hnx : nx (i, q) = some (xi, xq) := by rw [N4.out, if_pos rfl]
   have I4 : Hid (WInv ds nx res ac (xi, xq)) := by
    have := I1.out.next HN.out hnx (HP.out hnx)
    rw [hac] at this
    exact this
   have R5 := R4.alloc (.cells #[.int .i64 xi, .int .i64 xq, .int .i64 y0, .int .i64 y1, .int .i64 y2, .int .i64 y3] 128)
   have R6 := R5.setT (xi, xq)
   have f0 := R5.bt.fz 0
   have f1 := R5.bt.fz 1
   obtain ⟨b0, b1⟩ := R5.bt.two
   have X5 := bk_new w4 #[.int .i64 xi, .int .i64 xq, .int .i64 y0, .int .i64 y1, .int .i64 y2, .int .i64 y3] 128
   have x0 := X5.at 0
   have x1 := X5.at 1
   obtain ⟨t0, t1⟩ := R6.bt.two
   clear N4 hnx HN I1 R4 R5 X5 HP hac
   dsimp only at *
   go_wp2_with fail
   with_reducible refine (HC.out R6).mono ?_
   rintro e w7 ⟨rfl, hb7⟩
   have R7 := KP hb7 R6
   clear hb7 R6 t0 t1 x0 x1 b0 b1 f0 f1
   by_cases hm : (xi, xq) ∈ ac
   ·have hd : decide ((xi, xq) ∈ ac) = true := decide_eq_true hm
    have F2 : Hid (ZOut w res (.returned (.tuple #[.slice A9 ac.length c9, .bool true])) w7) := by
     rw [I4.out.round hm]
     exact R7.fin
    clear HC KP R7 I4 hm
    rw [hd]
    go_wp2_with fail
    go_ret2
    exact F2.out
   ·have hd : decide ((xi, xq) ∈ ac) = false := decide_eq_false hm
    obtain ⟨v3, w3, r3, R3⟩ := R7.app (by have := el.out; omega)
    obtain ⟨A3, c3, rfl⟩ : ∃ A3 c3, v3 = .slice A3 (ac ++ [(xi, xq)]).length c3 := by
     obtain ⟨A3, c3, e, _⟩ := own_sl R3.row
     exact ⟨A3, c3, e⟩
    have HM : Hid ((xi, xq) ∉ ac) := hm
    obtain ⟨t0, t1⟩ := R7.bt.two
    rw [hd]
    clear hd hm
    dsimp only at *
    go_wp2_with (at_builtin; refine append_runC rfl _ _ 58 rfl rfl rfl r3 ?_)
    go_roundw
    case rel => exact ⟨A3, F', c3, cF', ac, (xi, xq), by first | rfl | simp, R3, HM.out, I4⟩
    case measure => (have := el.out; simp [slLen]; omega)
  ·have hnx : nx (i, q) = none := by rw [N4.out, if_neg he]
   have hz1 : (er == 0) = false := by simpa using he
   have R5 := R4.alloc (.cells #[.int .i64 xi, .int .i64 xq, .int .i64 y0, .int .i64 y1, .int .i64 y2, .int .i64 y3] 128)
   have F2 : Hid (ZOut w res (.returned (.tuple #[.slice A9 ac.length c9, .bool false])) (w4.alloc (.cells #[.int .i64 xi, .int .i64 xq, .int .i64 y0, .int .i64 y1, .int .i64 y2, .int .i64 y3] 128))) := by
    rw [I1.out.stop HN.out hnx, hac]
    exact R5.fin
   have HNZ : Hid (¬ er = 0) := he
   clear N4 hnx HN I1 R4 R5 HP he hac
   go_wp2_with fail
   all_goals first | exact absurd (by assumption) HNZ.out | skip
   all_goals
    go_ret2
    exact F2.out
def AllOut (w : World) (ds : List Dv) (ls : List Lk) (most : Int) (e : Ending) (w' : World) : Prop :=
 ∃ (v : Value) (er : Int), e = .returned (.tuple #[v, .int .i64 er]) ∧ Below w.heap.size w w' ∧ Hid (
   (ringV ds ls ≠ 0 ∧ er = ringV ds ls ∧ v = .slice none 0 0) ∨ (ringV ds ls = 0 ∧ (most < 2 ∨ 40000 < most) ∧ er = 1 ∧ v = .slice none 0 0) ∨
   (ringV ds ls = 0 ∧ (2 <= most ∧ most <= 40000) ∧ ((er = 6 ∧ v = .slice none 0 0) ∨ (er = 0 ∧ SlAt w'.heap.size w' 1 IsI v (allL ds ls ds.length)))))
theorem rall_any (A B : Option Addr) (cap cap' : Nat) (ds : List Dv) (ls : List Lk) (most : Int) (w : World) (hD : Hid (Devs w.heap.size w (.slice A ds.length cap) ds)) (hL : Hid (Links w.heap.size w (.slice B ls.length cap') ls)) :
  Calls Tryz.prog 17 #[.agg #[.slice A ds.length cap, .slice B ls.length cap'], .int .i64 most] w (AllOut w ds ls most) := by
 obtain ⟨w1, hw1⟩ : ∃ w1, w1 = w.alloc (.cells #[.slice A ds.length cap, .slice B ls.length cap'] 25) := ⟨_, rfl⟩
 have D1 : Below w.heap.size w w1 := by rw [hw1]; exact Below.alloc' (Below.refl _ _) _
 have bN : Bz w1 w.heap.size #[.slice A ds.length cap, .slice B ls.length cap'] 25 := by rw [hw1]; exact Bz.new w _ _ _ rfl
 have hs1 : w1.heap.size = w.heap.size + 1 := by rw [hw1]; simp
 have CK : Hid (Calls Tryz.prog 50 #[.agg #[.slice A ds.length cap, .slice B ls.length cap']] w1 fun e w' => e = .returned (.int .i64 (ringV ds ls)) ∧ Below w1.heap.size w1 w') := ringCheck_any A B cap cap' ds ls w1 ((hD.out.below D1).mono D1.size) ((hL.out.below D1).mono D1.size)
 have c0 := bN.cell 0 _ rfl
 have c1 := bN.cell 1 _ rfl
 subst hw1
 go_enter Tryz.func17, Tryz.ntmps17
 go_wp2_with fail
 refine CK.out.mono ?_
 rintro e w2 ⟨rfl, hb2⟩
 have D2 : Below w.heap.size w w2 := D1.trans (hb2.mono (by omega))
 have bN2 : Bz w2 w.heap.size #[.slice A ds.length cap, .slice B ls.length cap'] 25 := (hb2.block _ bN.lt).trans bN
 clear c0 c1 CK
 by_cases hz0 : ringV ds ls = 0
 rotate_left
 ·have FF : AllOut w ds ls most (.returned (.tuple #[.slice none 0 0, .int .i64 (ringV ds ls)])) w2 := ⟨_, _, rfl, D2, Or.inl ⟨hz0, rfl, rfl⟩⟩
  have FF : Hid _ := FF
  clear D2 bN2 bN D1 hb2 hD hL
  go_wp2_with fail
  go_ret2
  exact FF.out
 obtain ⟨hz, hk⟩ := ringV_zero hz0
 have hdv := netV_devs hz
 have HZ : Hid (ringV ds ls = 0) := hz0
 rw [hz0]
 by_cases hm : most < 2 ∨ 40000 < most
 ·have NB : Hid (Calls Tryz.prog 30 #[.int .i64 14, .int .i64 most] w2 fun e w' => e = .returned (.tuple #[.pointer none, .int .i64 1]) ∧ w' = w2) := new_most most w2 hm
  have FF : Hid (AllOut w ds ls most (.returned (.tuple #[.slice none 0 0, .int .i64 1])) w2) := ⟨_, _, rfl, D2, Or.inr (Or.inl ⟨HZ.out, hm, rfl, rfl⟩)⟩
  clear D2 bN2 bN D1 hb2 hD hL hz hk hdv hz0 HZ hm
  go_wp2_with fail
  refine NB.out.mono ?_
  rintro e w3 ⟨rfl, rfl⟩
  clear NB
  go_wp2_with fail
  go_ret2
  exact FF.out
 have MR : Hid (2 <= most ∧ most <= 40000) := ⟨by omega, by omega⟩
 obtain ⟨mo, rfl⟩ : ∃ mo : Nat, most = (mo : Int) := ⟨most.toNat, by omega⟩
 have NW : Hid (Calls Tryz.prog 30 #[.int .i64 14, .int .i64 (mo : Int)] w2 fun e w' => ∃ a M, e = .returned (.tuple #[.pointer (some ⟨a, 0, none⟩), .int .i64 0]) ∧ Hid (Ar w2.heap.size a M 14 mo w' [(14, 0, 0), (14, 1, 1)] ∧ Below w2.heap.size w2 w')) := (new_ok (v := 14) (m := mo) w2 (by omega) (by omega) (by omega) (by omega)).mono fun e w' ⟨a, M, h1, h2, h3⟩ => ⟨a, M, h1, h2, h3⟩
 clear hm hz0
 go_wp2_with fail
 refine NW.out.mono ?_
 rintro e w3 ⟨a1, M1, rfl, H3⟩
 clear NW
 obtain ⟨A3, hb3⟩ := H3.out
 have D3 : Below w.heap.size w w3 := D2.trans (hb3.mono D2.size)
 have bN3 : Bz w3 w.heap.size #[.slice A ds.length cap, .slice B ls.length cap'] 25 := (hb3.block _ bN2.lt).trans bN2
 have FV : Hid (Calls Tryz.prog 51 #[.agg #[.slice A ds.length cap, .slice B ls.length cap']] w3 (SOut w3 (FF ds ls ds.length))) := forever_any w3 A B cap cap' ds ls hz hdv ((hD.out.below D3).mono D3.size) ((hL.out.below D3).mono D3.size)
 have c0 := bN3.cell 0 _ rfl
 have c1 := bN3.cell 1 _ rfl
 have lw2 := D2.size
 clear H3 D2 bN2 bN D1 hb2
 go_wp2_with fail
 refine FV.out.mono ?_
 rintro e w4 ⟨cs, er4, rfl, hb4, hc, hq⟩
 clear FV c0 c1
 obtain ⟨W5, hW5⟩ : ∃ W5, W5 = (w4.alloc (.cells zr11 118)).setRow w4.heap.size cs := ⟨_, rfl⟩
 have BZ : Hid (Bz (w4.alloc (.cells zr11 118)) w4.heap.size zr11 118) := Bz.new _ _ _ _ rfl
 have HM : Hid ((Tryz.prog.info? 118).map (·.size) = some cs.size) := by
  show _ = _
  rw [hc.out.1]
  exact iRing
 have HS : Hid (zr11.size = cs.size) := by
  show _ = _
  rw [hc.out.1]
  rfl
 have HO : Hid (cs.all (·.oneCell') = true) := hc.out.2
 have l0 := D3.size
 have l3 := hb4.size
 have hF5 : ∀ i, i < w4.heap.size -> W5.heap[i]? = w4.heap[i]? := fun i hi => by
  rw [hW5, setRow_heap' _ _ _ cs _ BZ.out i, if_neg (by omega)]
  exact Below.heap_alloc _ _ _ hi
 have D5 : Below w.heap.size w W5 := by
  rw [hW5]
  exact below_setRow (Below.alloc' (D3.trans (hb4.mono l0)) _) BZ.out (by omega)
 have hs5 : W5.heap.size = w4.heap.size + 1 := by rw [hW5]; simp [World.setRow]
 have b5 : Bz W5 w.heap.size #[.slice A ds.length cap, .slice B ls.length cap'] 25 := by
  have h3 : w.heap.size < w3.heap.size := bN3.lt
  exact (hF5 _ (by omega)).trans ((hb4.block _ h3).trans bN3)
 have x5 : Bz W5 w4.heap.size cs 118 := by rw [hW5]; exact BZ.out.setRow
 have a5 : Ar w2.heap.size a1 M1 14 mo W5 [(14, 0, 0), (14, 1, 1)] := by
  have h4 := A3.below hb4
  exact h4.same (hF5 _ h4.lta) (hF5 _ h4.ltM) (hF5 _ h4.row.choose_spec.2.2)
 by_cases he4 : er4 = 0
 rotate_left
 ·have E6 : Hid (er4 = 6) := by
   rcases hq.out with ⟨h, _⟩ | h
   ·exact absurd h he4
   ·exact h
  obtain rfl := E6.out
  have FF : Hid (AllOut w ds ls (mo : Int) (.returned (.tuple #[.slice none 0 0, .int .i64 6])) W5) := ⟨_, _, rfl, D5, Or.inr (Or.inr ⟨HZ.out, MR.out, Or.inl ⟨rfl, rfl⟩⟩)⟩
  rw [hW5] at FF
  clear E6 hq he4 D5 D3 hb3 hb4 b5 x5 a5 bN3 A3 hF5 hc hz hdv hk hW5 hs5
  dsimp only
  iterate 14 go_step
  refine wp_store_row 118 _ _ rfl _ cs rfl rfl _ _ BZ.out HM.out HS.out HO.out ?_
  simp only [Act.put]
  go_wp2_with fail
  go_ret2
  exact FF.out
 subst he4
 obtain ⟨bq, aq, Mq, nsS, sn, hbq, hS4, hW, hG⟩ : ∃ (bq aq Mq : Nat) (ns : List Nd) (s : Nat -> Nat), w3.heap.size <= bq ∧ Ar bq aq Mq 14 40000 w4 ns ∧ SetsW cs aq s ∧ ∀ j, j < 10 -> s j < ns.length ∧ ∀ x, ev ns (s j) x = FF ds ls ds.length j x := by
  rcases hq.out with ⟨_, h⟩ | h
  ·exact h
  ·cases h
 clear hq
 have s5 : Ar bq aq Mq 14 40000 W5 nsS := hS4.same (hF5 _ hS4.lta) (hF5 _ hS4.ltM) (hF5 _ hS4.row.choose_spec.2.2)
 have p5 : Apt aq Mq a1 M1 W5 := by
  intro i hi
  have h3a := A3.lta
  have h3b := A3.ltM
  have h3c := A3.row.choose_spec.2.2
  have e1 : rowOf W5 a1 = rowOf w3 a1 := rowOf_same ((hF5 _ (by omega)).trans (hb4.block _ h3a))
  have q1 := s5.lowA
  have q2 := s5.lowM
  have q3 := s5.row.choose_spec.2.1
  rw [e1]
  rcases hi with rfl | rfl | rfl <;> exact ⟨by omega, by omega, by omega⟩
 obtain ⟨V, hV⟩ : ∃ V : Value -> Nat -> World -> Prop, V = fun v k W => Als w w4.heap.size #[.slice A ds.length cap, .slice B ls.length cap'] cs w2.heap.size a1 M1 mo bq aq Mq nsS v (allL ds ls k) W := ⟨_, rfl⟩
 have V5 : V (.slice none 0 0) 0 W5 := by
  rw [hV]
  exact ⟨D5, b5, x5, ⟨_, a5⟩, s5, p5, World.ownsRow_nil _ _ _ _, ⟨by omega, by omega, by omega⟩⟩
 have hd10 : ds.length <= 10 := (netV_links hz).1
 have CT : Hid (∀ {v : Value} {k : Nat} {W : World}, k < ds.length -> V v k W -> Calls Tryz.prog 52 #[.agg cs, .pointer (some ⟨a1, 0, none⟩), .int .i64 (k : Int)] W fun e w' => ∃ (cv er : Int), e = .returned (.tuple #[.int .i64 cv, .int .i64 er]) ∧ V v k w' ∧ Hid (∀ q c t, Bz W q c t -> okT t -> Bz w' q c t) ∧ Hid ((er = 0 ∧ cv = cntI ds ls k) ∨ (er = 6 ∧ cv = 0))) := fun {v k W} hk h => by
  rw [hV] at h ⊢
  obtain ⟨ns, ha⟩ := h.ar
  refine (rcount_any h.src ha h.ap hW (FF ds ls ds.length k) (by omega) (hG k (by omega)).1 (hG k (by omega)).2).mono fun e w' ⟨ns', cv, er, e1, h2, h3⟩ => ⟨cv, er, e1, h.kp ha h2.out.1 h2.out.2, fun q c t hb ht => ((ha.outBox hb ht.1 ht.2.1).kp h2.out.2).blk, h3⟩
 have VB : Hid (∀ {v : Value} {k : Nat} {W W' : World}, V v k W -> Below W.heap.size W W' -> V v k W') := fun {v k W W'} h hb => by rw [hV] at h ⊢; exact h.below hb
 have VX : Hid (∀ {v : Value} {k : Nat} {W : World}, V v k W -> Hid (Bz W w4.heap.size cs 118) ∧ Below w.heap.size w W) := fun {v k W} h => by rw [hV] at h; exact ⟨h.bX, h.bel⟩
 have VA : Hid (∀ {v : Value} {k n R : Nat} {W : World}, k < ds.length -> portsV (ds.getD k default).kind = (n : Int) -> n <= 4 -> V v k W -> Hid (Bz W R (List.replicate n (.int .i64 (cntI ds ls k))).toArray 3) -> ∃ v' w', (Builtin.append_ #[50, 50] 50 #[v, .slice (some ⟨R, 0, none⟩) n n]).run Tryz.prog W = .ok v' w' ∧ V v' (k + 1) w') := fun {v k n R W} hk hn hn4 h hR => by
  rw [hV] at h ⊢
  have hl := allL_len ds ls k
  obtain ⟨v', w', r, h'⟩ := h.app hR.out (by omega)
  refine ⟨v', w', r, ?_⟩
  show Als _ _ _ _ _ _ _ _ _ _ _ _ _ (allL ds ls k ++ List.replicate (portsV (ds.getD k default).kind).toNat (cntI ds ls k)) _
  rw [hn, Int.toNat_natCast]
  exact h'
 have FIN : Hid (∀ {v : Value} {W : World}, V v ds.length W -> Hid (AllOut w ds ls (mo : Int) (.returned (.tuple #[v, .int .i64 0])) W)) := fun {v W} h => by
  rw [hV] at h
  refine ⟨_, _, rfl, h.bel, Or.inr (Or.inr ⟨HZ.out, MR.out, Or.inr ⟨rfl, SlAt.own h.own fun k x hx => ?_⟩⟩)⟩
  unfold IsI intC
  rw [Nat.mul_one, <- List.map_drop, <- List.map_take]
  rw [List.drop_eq_getElem_cons (List.getElem?_eq_some_iff.1 hx).1, (List.getElem?_eq_some_iff.1 hx).2]
  rfl
 have BAD : Hid (∀ {v : Value} {k : Nat} {W : World}, V v k W -> Hid (AllOut w ds ls (mo : Int) (.returned (.tuple #[.slice none 0 0, .int .i64 6])) W)) := fun {v k W} h => by
  rw [hV] at h
  exact ⟨_, _, rfl, h.bel, Or.inr (Or.inr ⟨HZ.out, MR.out, Or.inl ⟨rfl, rfl⟩⟩)⟩
 have DV : Hid (∀ {k : Nat} {W : World}, k < ds.length -> Below w.heap.size w W -> ∃ (b o : Nat) (d : Dv) (Ab Ae At : Option Addr) (nb cb ne ce nt ct : Nat), A = some ⟨b, o, none⟩ ∧ b < w.heap.size ∧ W.cell? ⟨b, o + k * 7, none⟩ = some (.string d.name) ∧ W.cell? ⟨b, o + k * 7 + 1, none⟩ = some (.int .i64 d.kind) ∧ W.cell? ⟨b, o + k * 7 + 2, none⟩ = some (.int .i64 d.addr) ∧ W.cell? ⟨b, o + k * 7 + 3, none⟩ = some (.int .u8 (d.pool : Int)) ∧ W.cell? ⟨b, o + k * 7 + 4, none⟩ = some (.slice Ab nb cb) ∧ W.cell? ⟨b, o + k * 7 + 5, none⟩ = some (.slice Ae ne ce) ∧ W.cell? ⟨b, o + k * 7 + 6, none⟩ = some (.slice At nt ct) ∧ ∃ n : Nat, Hid (portsV (ds.getD k default).kind = (n : Int)) ∧ portsV d.kind = (n : Int) ∧ 1 <= n ∧ n <= 4) := fun {k W} hk' h => by
  have hd : ds[k]? = some (ds.getD k default) := by rw [List.getD_eq_getElem?_getD, List.getElem?_eq_getElem hk']; rfl
  obtain ⟨b, o, vb, vr, vt, ea, hbb, s1, s2, s3, c0, c1, c2, c3, c4, c5, c6⟩ := hD.out.at hd
  obtain ⟨Ab, cb, rfl, q1⟩ := id s1
  obtain ⟨Ae, cr, rfl, q2⟩ := id s2
  obtain ⟨At, ct, rfl, q3⟩ := id s3
  have up : ∀ {j : Nat} {v : Value}, w.cell? ⟨b, j, none⟩ = some v -> W.cell? ⟨b, j, none⟩ = some v := fun {j v} hc => (h.cell (p := ⟨b, j, none⟩) hbb).trans hc
  refine ⟨b, o, ds.getD k default, _, _, _, _, _, _, _, _, _, ea, hbb, up c0, up c1, up c2, up c3, up c4, up c5, up c6, ?_⟩
  rcases hk _ (List.mem_of_getElem? hd) with e | e
  ·exact ⟨1, by show _ = _; rw [e]; rfl, by rw [e]; rfl, by omega, by omega⟩
  ·exact ⟨4, by show _ = _; rw [e]; rfl, by rw [e]; rfl, by omega, by omega⟩
 have PT : Hid (∀ (kd : Int) (W : World), Calls Tryz.prog 54 #[.int .i64 kd] W fun e w' => e = .returned (.int .i64 (portsV kd)) ∧ w' = W) := fun kd W => nports_any kd W
 have c5 := b5.cell 0 _ rfl
 obtain ⟨_, hcap, hcm⟩ := hD.out.len
 unfold maxLen at hcm
 rw [hW5] at V5 c5
 have lt5 : w.heap.size < w4.heap.size := by
  have := bN3.lt
  omega
 clear hV hF5 D5 D3 hb3 hb4 b5 x5 a5 bN3 A3 hz hdv hk hW5 hs5 s5 p5 hS4 hW hG hc hD hL
 dsimp only
 iterate 14 go_step
 refine wp_store_row 118 _ _ rfl _ cs rfl rfl _ _ BZ.out HM.out HS.out HO.out ?_
 simp only [Act.put]
 clear BZ HS HO
 go_wp2_with fail
 go_loopw [10, 39] (fun v10 v39 wr => ∃ k : Nat, v39 = .int .i64 (k : Int) ∧ k <= ds.length ∧ V v10 k wr) (fun _ v39 _ => ds.length - (intOf v39).toNat)
 case atStart => exact ⟨0, rfl, by omega, V5⟩
 case round =>
  clear V5 c5
  obtain ⟨k, rfl, hk, V1⟩ := hrel
  by_cases hlt : k < ds.length
  rotate_left
  ·obtain rfl : k = ds.length := by omega
   have FF := FIN.out V1
   clear CT VB VX VA FIN BAD DV PT V1 HM
   go_wp2_with fail
   go_ret2
   exact FF.out
  have i1 : (k : Int) < (ds.length : Int) := by omega
  have i0 : (0 : Int) <= (k : Int) := by omega
  obtain ⟨b, o, d, Ab, Ae, At, nb, cb, ne, ce, nt, ct, rfl, hbb, e0, e1, e2, e3, e4, e5, e6, n, hn, hnd, hn1, hn4⟩ := DV.out hlt (VX.out V1).2
  obtain ⟨nm, kd, ad, pl, bk, rl, rt⟩ := d
  dsimp only at e0 e1 e2 e3 hnd
  go_upto_region 14 with fail
  have V2 := VB.out V1 (Below.alN (Below.refl _ _) (.cells #[.string nm, .int .i64 kd, .int .i64 ad, .int .u8 (pl : Int), .slice Ab nb cb, .slice Ae ne ce, .slice At nt ct] 56))
  have PB : Bz (wr.alloc (.cells #[.string nm, .int .i64 kd, .int .i64 ad, .int .u8 (pl : Int), .slice Ab nb cb, .slice Ae ne ce, .slice At nt ct] 56)) wr.heap.size #[.string nm, .int .i64 kd, .int .i64 ad, .int .u8 (pl : Int), .slice Ab nb cb, .slice Ae ne ce, .slice At nt ct] 56 := Bz.new _ _ _ _ rfl
  obtain ⟨BX, _⟩ := VX.out V2
  clear V1 e0 e1 e2 e3 e4 e5 e6 DV
  go_step
  refine wpList_load_row rfl 118 _ rfl _ rfl _ cs (0, 0) _ BX.out uRing rfl HM.out ?_
  simp only [Act.put, List.setIfInBounds_toArray, List.set_cons_zero, List.set_cons_succ]
  go_wp2_with fail
  refine (CT.out hlt V2).mono ?_
  rintro e w8 ⟨cv, er8, rfl, V8, P8, hv8⟩
  have D8 := P8.out _ _ _ PB (by decide)
  clear V2 PB BX CT P8 HM VX
  by_cases he : er8 = 0
  rotate_left
  ·have E6 : Hid (er8 = 6) := by
    rcases hv8.out with ⟨h, _⟩ | ⟨h, _⟩
    ·exact absurd h he
    ·exact h
   obtain rfl := E6.out
   have FF := BAD.out V8
   clear E6 hv8 he VB VA FIN BAD PT V8 D8
   go_wp2_with fail
   go_ret2
   exact FF.out
  subst he
  have CV : Hid (cv = cntI ds ls k) := by
   rcases hv8.out with ⟨_, h⟩ | ⟨h, _⟩
   ·exact h
   ·cases h
  have k1 := D8.cell 1 _ rfl
  have lt8 := D8.lt
  have V9 := VB.out V8 (Below.alN (Below.refl _ _) (.cells #[.int .i64 cv] 3))
  have RP : Hid (Calls Tryz.prog 53 #[.slice (some ⟨w8.heap.size, 0, none⟩) 1 1, .int .i64 (n : Int)] (w8.alloc (.cells #[.int .i64 cv] 3)) fun e w' => ∃ N, e = .returned (.slice (some ⟨N, 0, none⟩) n n) ∧ Hid ((w8.alloc (.cells #[.int .i64 cv] 3)).heap.size <= N ∧ Below (w8.alloc (.cells #[.int .i64 cv] 3)).heap.size (w8.alloc (.cells #[.int .i64 cv] 3)) w' ∧ Bz w' N (List.replicate n (.int .i64 cv)).toArray 3)) := repeat_any _ w8.heap.size 1 cv n hn1 hn4 ((Bz.new w8 #[.int .i64 cv] 3 _ rfl).cell 0 _ rfl) (by simp)
  clear hv8 V8 BAD FIN
  go_wp2_with fail
  refine (PT.out _ _).mono ?_
  rintro e w9 ⟨rfl, rfl⟩
  rw [hnd]
  clear PT
  go_wp2_with fail
  refine RP.out.mono ?_
  rintro e w10 ⟨R, rfl, HR⟩
  have V10 := VB.out V9 HR.out.2.1
  obtain ⟨v11, w11, r11, V11⟩ := VA.out hlt hn.out hn4 V10 (by
   have := HR.out.2.2
   rw [CV.out] at this
   exact this)
  clear V9 V10 HR RP VA VB CV D8 k1
  go_wp2_with (at_builtin; refine append_runC rfl _ _ 50 rfl rfl rfl r11 ?_)
  go_roundw
  case rel => exact ⟨k + 1, by go_num, by omega, V11⟩
  case measure => simp [intOf]; omega
end Go.Proofs.YtppbfikimalojaaGreat
namespace Go.Proofs.YtppbfikimalojaaGreat
open Go.RowKit
def IntsAt (w : World) (v : Value) (ds : List Nat) : Prop :=
 ∃ A cap, v = .slice A ds.length cap ∧ ds.length <= cap ∧ cap <= maxLen ∧ (ds ≠ [] -> ∃ b o, A = some ⟨b, o, none⟩ ∧ b < w.heap.size ∧ ∀ (j d : Nat), ds[j]? = some d -> w.cell? ⟨b, o + j, none⟩ = some (.int .i64 (d : Int)))
theorem equal_row (b1 o1 c1 b2 o2 c2 : Nat) (ds : List Nat) (w : World) (hb1 : b1 < w.heap.size) (hb2 : b2 < w.heap.size) (hc2 : ds.length <= c2) (hm2 : c2 <= maxLen)
  (h1 : ∀ (j d : Nat), ds[j]? = some d -> w.cell? ⟨b1, o1 + j, none⟩ = some (.int .i64 (d : Int))) (h2 : ∀ (j d : Nat), ds[j]? = some d -> w.cell? ⟨b2, o2 + j, none⟩ = some (.int .i64 (d : Int))) :
  Calls Tryz.prog 22 #[.slice (some ⟨b1, o1, none⟩) ds.length c1, .slice (some ⟨b2, o2, none⟩) ds.length c2] w fun e w' => e = .returned (.bool true) ∧ Below w.heap.size w w' := by
 unfold maxLen at hm2
 have H1 : Hid (∀ (j d : Nat), ds[j]? = some d -> w.cell? ⟨b1, o1 + j, none⟩ = some (.int .i64 (d : Int))) := h1
 have H2 : Hid (∀ (j d : Nat), ds[j]? = some d -> w.cell? ⟨b2, o2 + j, none⟩ = some (.int .i64 (d : Int))) := h2
 clear h1 h2
 go_enter Tryz.func22, Tryz.ntmps22
 go_wp2_with fail
 go_loopw [13] (fun i wr => ∃ k : Nat, i = .int .i64 (k : Int) ∧ k <= ds.length ∧ Below w.heap.size w wr) (fun i _ => ds.length - (intOf i).toNat)
 case atStart => exact ⟨0, rfl, by omega, Below.refl _ _⟩
 case round =>
  obtain ⟨k, rfl, hk, D1⟩ := hrel
  by_cases hlt : k < ds.length
  ·obtain ⟨d, hd⟩ : ∃ d, ds[k]? = some d := ⟨_, List.getElem?_eq_getElem hlt⟩
   have q1 : wr.drew.cell? ⟨b1, o1 + k, none⟩ = some (.int .i64 (d : Int)) := (D1.cell (p := ⟨b1, o1 + k, none⟩) hb1).trans (H1.out k d hd)
   have q2 : wr.drew.cell? ⟨b2, o2 + k, none⟩ = some (.int .i64 (d : Int)) := (D1.cell (p := ⟨b2, o2 + k, none⟩) hb2).trans (H2.out k d hd)
   have k1 : (0 : Int) <= (k : Int) := by omega
   have k2 : (k : Int) < (ds.length : Int) := by omega
   have D2 := D1.drew
   clear hd H1 H2
   go_wp2_with fail
   go_region_held3 (fun w' => w'.cell? ⟨b1, o1 + k, none⟩ = some (.int .i64 (d : Int)) ∧ w'.cell? ⟨b2, o2 + k, none⟩ = some (.int .i64 (d : Int))) (exact ⟨by assumption, by assumption⟩) (first | fail)
   go_wp2_with fail
   go_roundw
   case rel => exact ⟨k + 1, by go_num, by omega, D2⟩
   case measure => simp [intOf]; omega
  ·go_wp2_with fail
   go_ret
   exact ⟨rfl, D1⟩
theorem equal_none (A1 A2 : Option Addr) (c1 c2 : Nat) (w : World) :
  Calls Tryz.prog 22 #[.slice A1 0 c1, .slice A2 0 c2] w fun e w' => e = .returned (.bool true) ∧ Below w.heap.size w w' := by
 go_enter Tryz.func22, Tryz.ntmps22
 go_wp2_with fail
 go_loopw [13] (fun i wr => i = .int .i64 0 ∧ Below w.heap.size w wr) (fun i _ => 0)
 case atStart => exact ⟨rfl, Below.refl _ _⟩
 case round =>
  obtain ⟨rfl, D1⟩ := hrel
  go_wp2_with fail
  go_ret
  exact ⟨rfl, D1⟩
theorem equal_same {v1 v2 : Value} {ds : List Nat} (w : World) (h1 : IntsAt w v1 ds) (h2 : IntsAt w v2 ds) :
  Calls Tryz.prog 22 #[v1, v2] w fun e w' => e = .returned (.bool true) ∧ Below w.heap.size w w' := by
 obtain ⟨A1, c1, rfl, _, _, r1⟩ := h1
 obtain ⟨A2, c2, rfl, e2, m2, r2⟩ := h2
 by_cases hx : ds = []
 ·subst hx
  exact equal_none A1 A2 c1 c2 w
 ·obtain ⟨b1, o1, rfl, l1, q1⟩ := r1 hx
  obtain ⟨b2, o2, rfl, l2, q2⟩ := r2 hx
  exact equal_row b1 o1 c1 b2 o2 c2 ds w l1 l2 e2 m2 q1 q2
end Go.Proofs.YtppbfikimalojaaGreat
namespace Go.Proofs.YtppbfikimalojaaGreat
open Go.RowKit Go.Maps
theorem cnt_law {ds : List Dv} {ls : List Lk} (hz : netV ds ls = 0) (hk : PlainD ds) (hdv : ∀ d ∈ ds, devC d = 0) {i j : Nat} (ht : isPl ds (i : Int) (j : Int) = true) : ((cntB (fun c => (wayP ds ls (pkN c) ((i : Int), (j : Int))).2) 16384 : Nat) : Int) = cntI ds ls i := by
 have e : cntB (fun c => (wayP ds ls (pkN c) ((i : Int), (j : Int))).2) 16384 = cntB (fun c => FF ds ls ds.length i (updE e00 0 14 c)) 16384 := cntB_congr 16384 fun c hc => by
  show (wayP ds ls (pkN c) ((i : Int), (j : Int))).2 = FF ds ls ds.length i (updE e00 0 14 c)
  rw [goes_round hz hk hdv (pkN_ok hc) ht, <- pkE_code hc]
  rfl
 unfold cntI
 rw [T_cnt, e]
theorem sl_ints {base : Nat} {w : World} {v : Value} {xs : List Int} (h : SlAt base w 1 IsI v xs) (hb : base <= w.heap.size) (hp : ∀ x ∈ xs, 0 <= x) : IntsAt w v (xs.map (·.toNat)) := by
 obtain ⟨A, cap, e, h0, h1, h2, h3⟩ := h
 refine ⟨A, cap, by rw [List.length_map]; exact e, by rw [List.length_map]; exact h1, h2, fun hn => ?_⟩
 obtain ⟨b, o, ea, hl, hc⟩ := h3 (fun e => hn (by rw [e]; rfl))
 refine ⟨b, o, ea, by omega, fun j d hj => ?_⟩
 rw [List.getElem?_map] at hj
 cases hx : xs[j]? with
 | none => rw [hx] at hj; cases hj
 | some x =>
   rw [hx] at hj
   obtain rfl := Option.some.inj hj
   obtain ⟨cs, _, hcs, hcell⟩ := hc j x hx
   unfold IsI at hcs
   subst hcs
   have := hcell 0 _ rfl
   rw [Nat.mul_one, Nat.add_zero] at this
   rw [this]
   have := hp x (List.mem_of_getElem? hx)
   show some (Value.int .i64 x) = some (.int .i64 ((x.toNat : Nat) : Int))
   congr 2
   omega
theorem allL_pos (ds : List Dv) (ls : List Lk) : ∀ k, ∀ x ∈ allL ds ls k, 0 <= x
 | 0, x, h => by cases h
 | k + 1, x, h => by
   rw [allL, List.mem_append] at h
   rcases h with h | h
   ·exact allL_pos ds ls k x h
   ·rw [List.eq_of_mem_replicate h]
    unfold cntI
    omega
theorem rpk_any (c : Nat) (w : World) (hc : c < 16384) :
  Calls Tryz.prog 21 #[.int .i64 (c : Int)] w fun e w' => e = .returned (.agg #[.int .i64 (pkN c).s, .int .i64 (pkN c).d, .int .i64 (pkN c).sp, .int .i64 (pkN c).dp]) ∧ Below w.heap.size w w' := by
 unfold pkN
 dsimp only
 go_enter Tryz.func21, Tryz.ntmps21
 go_wp2_with fail
 exact bodyPost_ret (v := .agg #[.int .i64 ((c / 1024 : Nat) : Int), .int .i64 ((c / 64 % 16 : Nat) : Int), .int .i64 ((c / 8 % 8 : Nat) : Int), .int .i64 ((c % 8 : Nat) : Int)]) (by simp [results, Tryz.results21, go_sem]) rfl ⟨rfl, by go_grown⟩
def Rlw (w3 : World) (v : Value) (xs : List Int) (W : World) : Prop := Below w3.heap.size w3 W ∧ W.ownsRow w3.heap.size 3 1 v xs.length (intC xs)
theorem Rlw.below {w3 W W' : World} {v : Value} {xs : List Int} (h : Rlw w3 v xs W) (hb : Below W.heap.size W W') : Rlw w3 v xs W' := ⟨chain hb h.1, own_below h.2 hb⟩
theorem Rlw.app {w3 W : World} {v : Value} {xs : List Int} (h : Rlw w3 v xs W) (x : Int) (hl : xs.length <= 5000) : ∃ v' w', (Builtin.append_ #[50, 50] 50 #[v, .slice (some ⟨W.heap.size, 0, none⟩) 1 1]).run Tryz.prog (W.alloc (.cells #[.int .i64 x] 3)) = .ok v' w' ∧ Rlw w3 v' (xs ++ [x]) w' := by
 have D := Below.alN (Below.refl W.heap.size W) (.cells #[.int .i64 x] 3)
 have h' := h.below D
 obtain ⟨v', w', r, O, D', _⟩ := app_row (m := 1) (us := [.int .i64 x]) h'.2 (Bz.new W #[.int .i64 x] 3 _ rfl) rfl (fun u hu => by simp at hu; subst hu; rfl) (by omega) h'.1.size
 refine ⟨v', w', r, h'.1.trans D', ?_⟩
 rw [List.length_append, intC_app]
 exact O
theorem ringAll_try (A B : Option Addr) (cap cap' : Nat) (ds : List Dv) (ls : List Lk) (most : Int) (w : World) (hD : Hid (Devs w.heap.size w (.slice A ds.length cap) ds)) (hL : Hid (Links w.heap.size w (.slice B ls.length cap') ls)) :
  Calls Tryz.prog 4 #[.agg #[.slice A ds.length cap, .slice B ls.length cap'], .int .i64 most] w fun e w' => e = .returned (.bool true) ∧ Below w.heap.size w w' := by
 obtain ⟨w1, hw1⟩ : ∃ w1, w1 = w.alloc (.cells #[.slice A ds.length cap, .slice B ls.length cap'] 25) := ⟨_, rfl⟩
 have D1 : Below w.heap.size w w1 := by rw [hw1]; exact Below.alloc' (Below.refl _ _) _
 have bN : Bz w1 w.heap.size #[.slice A ds.length cap, .slice B ls.length cap'] 25 := by rw [hw1]; exact Bz.new w _ _ _ rfl
 have RA : Hid (Calls Tryz.prog 17 #[.agg #[.slice A ds.length cap, .slice B ls.length cap'], .int .i64 most] w1 (AllOut w1 ds ls most)) := rall_any A B cap cap' ds ls most w1 ((hD.out.below D1).mono D1.size) ((hL.out.below D1).mono D1.size)
 have c0 := bN.cell 0 _ rfl
 have c1 := bN.cell 1 _ rfl
 subst hw1
 go_enter Tryz.func4, Tryz.ntmps4
 go_wp2_with fail
 refine RA.out.mono ?_
 rintro e w2 ⟨v2, er, rfl, hb2, HQ⟩
 have D2 : Below w.heap.size w w2 := D1.trans (hb2.mono D1.size)
 have bN2 : Bz w2 w.heap.size #[.slice A ds.length cap, .slice B ls.length cap'] 25 := (hb2.block _ bN.lt).trans bN
 have PL : Hid (Calls Tryz.prog 18 #[.agg #[.slice A ds.length cap, .slice B ls.length cap']] w2 fun e w' => e = .returned (.int .i64 (ringV ds ls)) ∧ Below w2.heap.size w2 w') := plain_any A B cap cap' ds ls w2 ((hD.out.below D2).mono D2.size) ((hL.out.below D2).mono D2.size)
 clear c0 c1 RA
 have c0 := bN2.cell 0 _ rfl
 have c1 := bN2.cell 1 _ rfl
 go_wp2_with fail
 refine PL.out.mono ?_
 rintro e w3 ⟨rfl, hb3⟩
 have D3 : Hid (Below w.heap.size w w3) := D2.trans (hb3.mono D2.size)
 have FI : Hid (∀ W, Calls Tryz.prog 8 #[.int .i64 most, .int .i64 2, .int .i64 40000] W fun e w' => e = .returned (.bool (decide (2 <= most) && decide (most <= 40000))) ∧ w' = W) := fun W => finR most 2 40000 W
 clear PL c0 c1
 rcases HQ.out with ⟨h1, rfl, rfl⟩ | ⟨h1, h2, rfl, rfl⟩ | ⟨h1, h2, ⟨rfl, rfl⟩ | ⟨rfl, h3⟩⟩
 ·clear HQ FI D1 bN hb2 D2 bN2 hb3 hD hL
  go_wp2_with fail
  go_ret
  exact ⟨rfl, D3.out⟩
 ·have t : (decide ((2 : Int) <= most) && decide (most <= (40000 : Int))) = false := by
   rcases h2 with h | h
   ·rw [decide_eq_false (by omega)]; rfl
   ·rw [decide_eq_false (show ¬ most <= 40000 by omega), Bool.and_false]
  rw [t] at FI
  rw [h1]
  clear HQ D1 bN hb2 D2 bN2 hb3 hD hL t h2 h1
  go_wp2_with fail
  refine (FI.out _).mono ?_
  rintro e w' ⟨rfl, rfl⟩
  go_wp2_with fail
  go_ret
  exact ⟨rfl, D3.out⟩
 ·have t : (decide ((2 : Int) <= most) && decide (most <= (40000 : Int))) = true := by rw [decide_eq_true h2.1, decide_eq_true h2.2]; rfl
  rw [t] at FI
  rw [h1]
  clear HQ D1 bN hb2 D2 bN2 hb3 hD hL t h2 h1
  go_wp2_with fail
  refine (FI.out _).mono ?_
  rintro e w' ⟨rfl, rfl⟩
  go_wp2_with fail
  go_ret
  exact ⟨rfl, D3.out⟩
 ·have t : (decide ((2 : Int) <= most) && decide (most <= (40000 : Int))) = true := by rw [decide_eq_true h2.1, decide_eq_true h2.2]; rfl
  rw [t] at FI
  obtain ⟨hz, hk⟩ := ringV_zero h1
  have hdv := netV_devs hz
  obtain ⟨A2, c2, rfl, h30, h31, h32, h33⟩ := id h3
  have hd10 : ds.length <= 10 := (netV_links hz).1
  obtain ⟨V, hV⟩ : ∃ V : Value -> List Int -> World -> Prop, V = fun v xs W => Rlw w3 v xs W := ⟨_, rfl⟩
  have V3 : V (.slice none 0 0) [] w3 := by rw [hV]; exact ⟨Below.refl _ _, World.ownsRow_nil _ _ _ _⟩
  have bN3 : Bz w3 w.heap.size #[.slice A ds.length cap, .slice B ls.length cap'] 25 := (hb3.block _ bN2.lt).trans bN2
  have lo3 : w.heap.size <= w3.heap.size := D3.out.size
  have VW : ∀ {v : Value} {xs : List Int} {W : World}, V v xs W -> Below w.heap.size w W ∧ w.heap.size <= W.heap.size := fun {v xs W} h => by
   rw [hV] at h
   have := D3.out.trans (h.1.mono lo3)
   exact ⟨this, this.size⟩
  have VB : Hid (∀ {v : Value} {xs : List Int} {W W' : World}, V v xs W -> Below W.heap.size W W' -> V v xs W') := fun {v xs W W'} h hb => by rw [hV] at h ⊢; exact h.below hb
  have VC : Hid (∀ {v : Value} {xs : List Int} {W : World}, V v xs W -> W.cell? ⟨w.heap.size, 0, none⟩ = some (.slice A ds.length cap) ∧ W.cell? ⟨w.heap.size, 1, none⟩ = some (.slice B ls.length cap')) := fun {v xs W} h => by
   rw [hV] at h
   have b : Bz W w.heap.size _ _ := (h.1.block _ bN3.lt).trans bN3
   exact ⟨b.cell 0 _ rfl, b.cell 1 _ rfl⟩
  have VL : Hid (∀ {v : Value} {xs : List Int} {W : World}, V v xs W -> w.heap.size < W.heap.size) := fun {v xs W} h => by
   rw [hV] at h
   have := h.1.size
   have := bN3.lt
   show _ < _
   omega
  have VA : Hid (∀ {v : Value} {xs : List Int} {W : World} (x : Int), xs.length <= 5000 -> V v xs W -> ∃ v' w', (Builtin.append_ #[50, 50] 50 #[v, .slice (some ⟨W.heap.size, 0, none⟩) 1 1]).run Tryz.prog (W.alloc (.cells #[.int .i64 x] 3)) = .ok v' w' ∧ V v' (xs ++ [x]) w') := fun {v xs W} x hl h => by
   rw [hV] at h ⊢
   exact h.app x hl
  have WK : Hid (∀ {v : Value} {xs : List Int} {W : World} (k j c : Nat), isPl ds (k : Int) (j : Int) = true -> c < 16384 -> V v xs W -> Calls Tryz.prog 20 #[.agg #[.slice A ds.length cap, .slice B ls.length cap'], .agg #[.int .i64 (k : Int), .int .i64 (j : Int)], .agg #[.int .i64 (pkN c).s, .int .i64 (pkN c).d, .int .i64 (pkN c).sp, .int .i64 (pkN c).dp]] W fun e w' => ∃ v9, e = .returned (.tuple #[v9, .bool (wayP ds ls (pkN c) ((k : Int), (j : Int))).2]) ∧ V v xs w') := fun {v xs W} k j c hpl hc h => by
   obtain ⟨q1, q2⟩ := VW h
   exact (zwalk_any A B cap cap' ds ls ((k : Int), (j : Int)) (pkN c) W ((hD.out.below q1).mono q2) ((hL.out.below q1).mono q2) hz hk hpl (pkN_ok hc)).mono fun e w' ⟨A9, c9, e1, _, hb⟩ => ⟨_, e1, VB.out h hb⟩
  have PK : Hid (∀ {v : Value} {xs : List Int} {W : World} (c : Nat), c < 16384 -> V v xs W -> Calls Tryz.prog 21 #[.int .i64 (c : Int)] W fun e w' => e = .returned (.agg #[.int .i64 (pkN c).s, .int .i64 (pkN c).d, .int .i64 (pkN c).sp, .int .i64 (pkN c).dp]) ∧ V v xs w') := fun {v xs W} c hc h => (rpk_any c W hc).mono fun e w' ⟨e1, hb⟩ => ⟨e1, VB.out h hb⟩
  have PT : Hid (∀ {v : Value} {xs : List Int} {W : World} (kd : Int), V v xs W -> Calls Tryz.prog 19 #[.int .i64 kd] W fun e w' => e = .returned (.int .i64 (portsV kd)) ∧ V v xs w') := fun {v xs W} kd h => (rports_any kd W).mono fun e w' ⟨e1, hb⟩ => ⟨e1, VB.out h hb⟩
  have EQ : Hid (∀ {v : Value} {W : World}, V v (allL ds ls ds.length) W -> Calls Tryz.prog 22 #[.slice A2 (allL ds ls ds.length).length c2, v] W fun e w' => e = .returned (.bool true) ∧ Below w.heap.size w w') := fun {v W} h => by
   obtain ⟨q1, q2⟩ := VW h
   rw [hV] at h
   have i1 : IntsAt W (.slice A2 (allL ds ls ds.length).length c2) ((allL ds ls ds.length).map (·.toNat)) := sl_ints ((h3.below hb3 (fun _ _ _ h => h)).below (base := w2.heap.size) (h.1.mono hb3.size) (fun _ _ _ h => h)) (Nat.le_trans hb3.size h.1.size) (allL_pos ds ls _)
   have i2 : IntsAt W v ((allL ds ls ds.length).map (·.toNat)) := sl_ints (SlAt.own h.2 fun k x hx => by
    unfold IsI intC
    rw [Nat.mul_one, <- List.map_drop, <- List.map_take]
    rw [List.drop_eq_getElem_cons (List.getElem?_eq_some_iff.1 hx).1, (List.getElem?_eq_some_iff.1 hx).2]
    rfl) (Nat.le_refl _) (allL_pos ds ls _)
   exact (equal_same W i1 i2).mono fun e w' ⟨e1, hb⟩ => ⟨e1, chain hb q1⟩
  have DV : Hid (∀ {k : Nat} {v : Value} {xs : List Int} {W : World}, k < ds.length -> V v xs W -> ∃ (b o : Nat) (d : Dv) (Ab Ae At : Option Addr) (nb cb ne ce nt ct : Nat), A = some ⟨b, o, none⟩ ∧ b < w.heap.size ∧ W.cell? ⟨b, o + k * 7, none⟩ = some (.string d.name) ∧ W.cell? ⟨b, o + k * 7 + 1, none⟩ = some (.int .i64 d.kind) ∧ W.cell? ⟨b, o + k * 7 + 2, none⟩ = some (.int .i64 d.addr) ∧ W.cell? ⟨b, o + k * 7 + 3, none⟩ = some (.int .u8 (d.pool : Int)) ∧ W.cell? ⟨b, o + k * 7 + 4, none⟩ = some (.slice Ab nb cb) ∧ W.cell? ⟨b, o + k * 7 + 5, none⟩ = some (.slice Ae ne ce) ∧ W.cell? ⟨b, o + k * 7 + 6, none⟩ = some (.slice At nt ct) ∧ ∃ n : Nat, Hid (portsV (ds.getD k default).kind = (n : Int)) ∧ portsV d.kind = (n : Int) ∧ n <= 4 ∧ Hid (∀ j, j < n -> isPl ds (k : Int) (j : Int) = true)) := fun {k v xs W} hk' hv => by
   obtain ⟨h, _⟩ := VW hv
   have hd : ds[k]? = some (ds.getD k default) := by rw [List.getD_eq_getElem?_getD, List.getElem?_eq_getElem hk']; rfl
   obtain ⟨b, o, vb, vr, vt, ea, hbb, s1, s2, s3, c0, c1, c2, c3, c4, c5, c6⟩ := hD.out.at hd
   obtain ⟨Ab, cb, rfl, q1⟩ := id s1
   obtain ⟨Ae, cr, rfl, q2⟩ := id s2
   obtain ⟨At, ct, rfl, q3⟩ := id s3
   have up : ∀ {j : Nat} {v : Value}, w.cell? ⟨b, j, none⟩ = some v -> W.cell? ⟨b, j, none⟩ = some v := fun {j v} hc => (h.cell (p := ⟨b, j, none⟩) hbb).trans hc
   obtain ⟨n, hn, hn4⟩ := portsV_nat (ds.getD k default).kind
   refine ⟨b, o, ds.getD k default, _, _, _, _, _, _, _, _, _, ea, hbb, up c0, up c1, up c2, up c3, up c4, up c5, up c6, n, hn, hn, hn4, fun j hj => ?_⟩
   have e : kindAt ds (k : Int) = (ds.getD k default).kind := by
    unfold kindAt
    rw [show ((k : Int)).toNat = k by omega, hd]
    rfl
   unfold isPl
   rw [e, hn]
   simp
   omega
  have CN : Hid (∀ (k j : Nat), isPl ds (k : Int) (j : Int) = true -> ((cntB (fun c => (wayP ds ls (pkN c) ((k : Int), (j : Int))).2) 16384 : Nat) : Int) = cntI ds ls k) := fun k j h => cnt_law hz hk hdv h
  have LN : Hid (∀ k, k <= ds.length -> (allL ds ls k).length <= 40) := fun k hk => by
   have := allL_len ds ls k
   show _ <= _
   omega
  obtain ⟨n0, _⟩ := VC.out V3
  obtain ⟨_, hcap, hcm⟩ := hD.out.len
  unfold maxLen at hcm
  have lt3 := VL.out V3
  rw [h1]
  clear HQ D1 bN hb2 D2 bN2 hb3 hD hL t h2 h1 hz hk hdv hV h3 h30 h31 h32 h33 bN3 lo3 VW D3
  go_wp2_with fail
  refine (FI.out _).mono ?_
  rintro e w' ⟨rfl, rfl⟩
  clear FI
  go_wp2_with fail
  go_loopw [8, 53] (fun v8 v53 wr => ∃ k : Nat, v53 = .int .i64 (k : Int) ∧ k <= ds.length ∧ V v8 (allL ds ls k) wr) (fun _ v53 _ => ds.length - (intOf v53).toNat)
  case atStart => exact ⟨0, rfl, by omega, V3⟩
  case round =>
   clear V3 n0 lt3
   obtain ⟨k, rfl, hk, V1⟩ := hrel
   by_cases hlt : k < ds.length
   rotate_left
   ·obtain rfl : k = ds.length := by omega
    have E1 := EQ.out V1
    have E1 : Hid (Calls Tryz.prog 22 _ _ _) := E1
    clear VB VC VL VA WK PK PT EQ DV CN LN V1
    go_wp2_with fail
    refine E1.out.mono ?_
    rintro e w9 ⟨rfl, hb9⟩
    have hb9 : Hid (Below _ _ _) := hb9
    clear E1
    go_wp2_with fail
    go_ret
    exact ⟨rfl, hb9.out⟩
   have i1 : (k : Int) < (ds.length : Int) := by omega
   have i0 : (0 : Int) <= (k : Int) := by omega
   obtain ⟨b, o, d, Ab, Ae, At, nb, cb, ne, ce, nt, ct, rfl, hbb, e0, e1, e2, e3, e4, e5, e6, P, hn, hnd, hn4, HP⟩ := DV.out hlt V1
   obtain ⟨nm, kd, ad, pl, bk, rl, rt⟩ := d
   dsimp only at e0 e1 e2 e3 hnd
   have V2 := VB.out V1 (Below.alN (Below.refl _ _) (.cells #[.string nm, .int .i64 kd, .int .i64 ad, .int .u8 (pl : Int), .slice Ab nb cb, .slice Ae ne ce, .slice At nt ct] 56))
   clear DV EQ V1
   go_wp2_with fail
   refine (PT.out kd V2).mono ?_
   rintro e w5 ⟨rfl, V5⟩
   rw [hnd]
   have J0 : V u8 (allL ds ls k ++ List.replicate 0 (cntI ds ls k)) w5 := by rw [List.replicate_zero, List.append_nil]; exact V5
   clear e0 e1 e2 e3 e4 e5 e6 PT V2 V5
   go_wp2_with fail
   go_loopw [8, 61] (fun v8 v61 wr => ∃ j : Nat, v61 = .int .i64 (j : Int) ∧ j <= P ∧ V v8 (allL ds ls k ++ List.replicate j (cntI ds ls k)) wr) (fun _ v61 _ => P - (intOf v61).toNat)
   case atStart => exact ⟨0, rfl, by omega, J0⟩
   case round =>
    clear J0
    obtain ⟨j, rfl, hj, V6⟩ := hrel
    by_cases hltj : j < P
    rotate_left
    ·obtain rfl : j = P := by omega
     have V7 : V u8 (allL ds ls (k + 1)) wr := by
      show V _ (allL ds ls k ++ List.replicate (portsV (ds.getD k default).kind).toNat (cntI ds ls k)) _
      rw [hn.out, Int.toNat_natCast]
      exact V6
     clear VB VC VL VA WK PK CN LN V6 HP hn
     go_wp2_with fail
     go_roundw
     case rel => exact ⟨k + 1, by go_num, by omega, V7⟩
     case measure => simp [intOf]; omega
    obtain ⟨f, hf⟩ : ∃ f : Nat -> Bool, f = fun c => (wayP ds ls (pkN c) ((k : Int), (j : Int))).2 := ⟨_, rfl⟩
    have hpl := HP.out j hltj
    have CJ : Hid (((cntB f 16384 : Nat) : Int) = cntI ds ls k) := by rw [hf]; exact CN.out k j hpl
    obtain ⟨xs, hxs⟩ : ∃ xs, xs = allL ds ls k ++ List.replicate j (cntI ds ls k) := ⟨_, rfl⟩
    have XN : Hid (allL ds ls k ++ List.replicate (j + 1) (cntI ds ls k) = xs ++ [cntI ds ls k]) := by
     show _ = _
     rw [hxs, List.replicate_succ', List.append_assoc]
    have XL : Hid (xs.length <= 5000) := by
     have := LN.out k hk
     show _ <= _
     rw [hxs, List.length_append, List.length_replicate]
     omega
    rw [<- hxs] at V6
    have WJ : Hid (∀ {v : Value} {W : World} (c : Nat), c < 16384 -> V v xs W -> Calls Tryz.prog 20 #[.agg #[.slice (some ⟨b, o, none⟩) ds.length cap, .slice B ls.length cap'], .agg #[.int .i64 (k : Int), .int .i64 (j : Int)], .agg #[.int .i64 (pkN c).s, .int .i64 (pkN c).d, .int .i64 (pkN c).sp, .int .i64 (pkN c).dp]] W fun e w' => ∃ v9, e = .returned (.tuple #[v9, .bool (f c)]) ∧ V v xs w') := fun {v W} c hc h => by
     rw [hf]
     exact WK.out k j c hpl hc h
    have I0 : Hid (0 = cntB f 0) := rfl
    clear WK CN hf hpl hxs LN
    go_wp2_with fail
    go_loopw [12, 64] (fun v12 v64 wr => ∃ c N : Nat, v12 = .int .i64 (N : Int) ∧ v64 = .int .i64 (c : Int) ∧ c <= 16384 ∧ N <= c ∧ Hid (N = cntB f c) ∧ V u8 xs wr) (fun _ v64 _ => 16384 - (intOf v64).toNat)
    case atStart => exact ⟨0, 0, rfl, rfl, by omega, by omega, I0, V6⟩
    case round =>
     clear V6 I0
     obtain ⟨c, N, rfl, rfl, hc, hN, EN, V7⟩ := hrel
     by_cases hltc : c < 16384
     ·have q1 : (c : Int) < 16384 := by omega
      have PC : Hid (∀ {W : World}, V u8 xs W -> Calls Tryz.prog 21 #[.int .i64 (c : Int)] W fun e w' => e = .returned (.agg #[.int .i64 (pkN c).s, .int .i64 (pkN c).d, .int .i64 (pkN c).sp, .int .i64 (pkN c).dp]) ∧ V u8 xs w') := fun {W} h => PK.out c hltc h
      have WC : Hid (∀ {W : World}, V u8 xs W -> Calls Tryz.prog 20 #[.agg #[.slice (some ⟨b, o, none⟩) ds.length cap, .slice B ls.length cap'], .agg #[.int .i64 (k : Int), .int .i64 (j : Int)], .agg #[.int .i64 (pkN c).s, .int .i64 (pkN c).d, .int .i64 (pkN c).sp, .int .i64 (pkN c).dp]] W fun e w' => ∃ v9, e = .returned (.tuple #[v9, .bool (f c)]) ∧ V u8 xs w') := fun {W} h => WJ.out c hltc h
      have VD : Hid (∀ {W : World}, V u8 xs W -> V u8 xs W.drew) := fun {W} h => VB.out h (Below.refl _ _).drew
      have HC : Hid (∀ {W : World}, V u8 xs W -> W.cell? ⟨w.heap.size, 0, none⟩ = some (.slice (some ⟨b, o, none⟩) ds.length cap) ∧ W.cell? ⟨w.heap.size, 1, none⟩ = some (.slice B ls.length cap')) := fun {W} h => VC.out h
      have V8 := VD.out V7
      obtain ⟨z0, z1⟩ := HC.out V8
      have E2 : Hid (cntB f (c + 1) = N + if f c = true then 1 else 0) := by rw [EN.out]; rfl
      generalize (pkN c).s = ps at *
      generalize (pkN c).d = pd at *
      generalize (pkN c).sp = psp at *
      generalize (pkN c).dp = pdp at *
      clear V7 WJ PK VA VC VB VL CJ XN XL EN HP hn VD
      go_wp2_with fail
      go_region_held3 (fun W' => W'.cell? ⟨w.heap.size, 0, none⟩ = some (.slice (some ⟨b, o, none⟩) ds.length cap) ∧ W'.cell? ⟨w.heap.size, 1, none⟩ = some (.slice B ls.length cap')) (exact HC.out (by assumption))
       ((first | (go_at_call 21; refine (PC.out (by assumption)).mono ?_; rintro e w8 ⟨rfl, V8p⟩) | (go_at_call 20; refine (WC.out (by assumption)).mono ?_; rintro e w9 ⟨v9, rfl, V9⟩)))
      all_goals
       cases hfc : f c
       ·have E3 : Hid (N = cntB f (c + 1)) := by
         show _ = _
         rw [E2.out, hfc]
         rfl
        clear E2 PC WC HC z0 z1
        go_wp2_with fail
        go_roundw
        case rel => exact ⟨c + 1, N, rfl, by go_num, by omega, by omega, E3, V9⟩
        case measure => simp [intOf]; omega
       ·have E3 : Hid (N + 1 = cntB f (c + 1)) := by
         show _ = _
         rw [E2.out, hfc]
         rfl
        clear E2 PC WC HC z0 z1
        go_wp2_with fail
        go_roundw
        case rel => exact ⟨c + 1, N + 1, by go_num, by go_num, by omega, by omega, E3, V9⟩
        case measure => simp [intOf]; omega
     ·obtain rfl : c = 16384 := by omega
      have EN2 : Hid ((N : Int) = cntI ds ls k) := by
       show _ = _
       rw [EN.out]
       exact CJ.out
      obtain ⟨v9, w9, r9, V9⟩ := VA.out (N : Int) XL.out V7
      have V9 : V v9 (allL ds ls k ++ List.replicate (j + 1) (cntI ds ls k)) w9 := by
       rw [XN.out, <- EN2.out]
       exact V9
      clear V7 WJ PK VA VC VB VL CJ XN XL EN HP hn EN2
      go_wp2_with (at_builtin; refine append_runC rfl _ _ 50 rfl rfl rfl r9 ?_)
      go_roundw
      case rel => exact ⟨j + 1, by go_num, by omega, V9⟩
      case measure => simp [intOf]; omega
end Go.Proofs.YtppbfikimalojaaGreat
