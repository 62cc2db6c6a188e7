/-
  The document's Walk.
-/
import Derived.Test.YthioedgnambomaaGreatXAN
import Derived.Test.YthioedgnambomaaGreatXAC
import Derived.Test.YthioedgnambomaaGreatLy
import Derived.Test.YthioedgnambomaaGreatXAE
import Derived.Deep.RegionHeld3
import Derived.Deep.DeepCutAuto
namespace Go.Proofs.YthioedgnambomaaGreat
open Go.RowKit Go.Maps

theorem mSend_no {d : Dv} (hd : d.kind = 1 ∨ d.kind = 2) (FL : List Ft) (i q : Int) (p : Pk) (c : Int) : (mSend d FL i q p c).k = none := by
  unfold mSend
  rcases hd with h | h
  · rw [if_neg (by omega), if_neg (by omega), if_neg (by omega), if_neg (by omega)]
  · rw [if_pos h]
theorem mind_no {ds : List Dv} (hp : PlainD ds) (ls : List Lk) (FL : List Ft) (i q : Int) (p : Pk) (c : Int) : (mindP ds ls FL i q p c).FL = FL := by
  unfold mindP
  cases hpl : isPl ds i q
  · rfl
  rw [if_pos rfl]
  cases hpk : pkOk p
  · rfl
  rw [if_pos rfl]
  have hi : i.toNat < ds.length := by
    unfold isPl at hpl
    simp only [Bool.and_eq_true, decide_eq_true_eq] at hpl
    omega
  have hd : (ds.getD i.toNat default).kind = 1 ∨ (ds.getD i.toNat default).kind = 2 := by
    rw [List.getD_eq_getElem?_getD, List.getElem?_eq_getElem hi]
    exact hp _ (List.getElem_mem hi)
  have hk := mSend_no hd FL i q p c
  split
  · split
    · cases peerF ls i (mSend (ds.getD i.toNat default) FL i q p c).port with
      | some t =>
        dsimp only
        rw [hk]
        rfl
      | none => rfl
    · rfl
  · rfl
theorem blk_apart {W : World} {B B' e e' s s' n n' : Nat} {v v' : Value} {xs xs' : List Value} (h : W.ownsRow B e s v n xs) (h' : W.ownsRow B' e' s' v' n' xs') (he : e ≠ e') {g : Nat} (hg : v.ownBlock = some g) : v'.ownBlock ≠ some g := fun hg' => by
  obtain ⟨_, _, c, h1⟩ := own_block h hg
  obtain ⟨_, _, c', h2⟩ := own_block h' hg'
  rw [h1] at h2
  cases h2
  exact he rfl
/-- On the document's way, in memory. -/
structure ZS (w : World) (A L : Option Addr) (c d : Nat) (ds : List Dv) (ls : List Lk) (p : Pk) (F : Option Addr) (cF : Nat) (v : Value) (acc : List Plc) (t : Plc) (W : World) : Prop where
  mn : MnAt W (w.heap.size + 1 + 1 + 1) A L c d F cF ds ls []
  row : W.ownsRow (w.heap.size + 1 + 1 + 1 + 1) 27 2 v acc.length (acc.flatMap plC)
  below : Below w.heap.size w W
  dN : Devs w.heap.size W (.slice A ds.length c) ds
  lN : Links w.heap.size W (.slice L ls.length d) ls
  bt : Bk W (w.heap.size + 1) #[.int .i64 t.1, .int .i64 t.2] 27
  bp : Bk W (w.heap.size + 1 + 1) #[.int .i64 p.s, .int .i64 p.d, .int .i64 p.sp, .int .i64 p.dp] 29
section
variable {w W W' : World} {A L F F' : Option Addr} {c d cF cF' : Nat} {ds : List Dv} {ls : List Lk} {p : Pk} {v : Value} {acc : List Plc} {t : Plc}
theorem ZS.keep (hb : Below W.heap.size W W') (h : ZS w A L c d ds ls p F cF v acc t W) : ZS w A L c d ds ls p F cF v acc t W' := ⟨h.mn.below hb, own_below h.row hb, chnN hb h.below, h.dN.kt (KT.of_below hb h.below.size), h.lN.kt (KT.of_below hb h.below.size), h.bt.keep hb, h.bp.keep hb⟩
theorem ZS.alloc (h : ZS w A L c d ds ls p F cF v acc t W) (o : Obj) : ZS w A L c d ds ls p F cF v acc t (W.alloc o) := h.keep ((Below.refl _ _).alloc (Nat.le_refl _) o)
theorem fact_ne {g : Nat} {n : Nat} {xs : List Value} {k : Nat} {cs : Array Value} {ty : TypeId} {a : Addr} (h : W.ownsRow g 85 6 (.slice (some a) n cF) n xs) (hk : Bk W k cs ty) (ht : ty ≠ 85) : k ≠ a.block := fun e => by
  obtain ⟨A', c', e', hA⟩ := own_sl h
  cases e'
  obtain ⟨_, _, cur, h1⟩ := own_block h (hA a rfl)
  unfold Bk at hk
  rw [e, h1] at hk
  cases hk
  exact ht rfl
theorem ZS.handle (h : ZS w A L c d ds ls p F cF v acc t W) (hM : MnAt W' (w.heap.size + 1 + 1 + 1) A L c d F' cF' ds ls []) (hk : MKp (w.heap.size + 1 + 1 + 1) F W W') : ZS w A L c d ds ls p F' cF' v acc t W' := by
  have zp := h.bp.lt
  have zg := h.mn.blk.lt
  have keepB : ∀ {k : Nat} {cs : Array Value} {ty : TypeId}, Bk W k cs ty → ty ≠ 85 → k ≠ w.heap.size + 1 + 1 + 1 → W'.heap[k]? = W.heap[k]? := fun {k cs ty} hB ht hne => hk.block k hB.lt hne (fun a ha => by
    have hf := h.mn.facts
    rw [ha] at hf
    exact fact_ne hf hB ht)
  have low : ∀ b, b < w.heap.size → W'.heap[b]? = W.heap[b]? := fun b hb => by
    refine hk.block b (Nat.lt_of_lt_of_le hb h.below.size) (by omega) (fun a ha => ?_)
    have hf := h.mn.facts
    rw [ha] at hf
    obtain ⟨A', c', e', hA⟩ := own_sl hf
    cases e'
    obtain ⟨_, q2, _⟩ := own_block hf (hA a rfl)
    omega
  have kt : KT w.heap.size W W' := fun b hb _ => low b hb
  refine ⟨hM, own_keptBut h.row (fun g hg => ?_), ?_, h.dN.kt kt, h.lN.kt kt, ?_, ?_⟩
  · obtain ⟨q1, q2, cur, hc⟩ := own_block h.row hg
    exact keepB (k := g) hc (by decide) (by omega)
  · exact h.below.trans ⟨hk.os, hk.tape, hk.output, hk.size, low⟩
  · exact (keepB h.bt (by decide) (by omega)).trans h.bt
  · exact (keepB h.bp (by decide) (by omega)).trans h.bp
theorem ZS.app (h : ZS w A L c d ds ls p F cF v acc t W) (ha : acc.length ≤ 5000) : ∃ v' w', (Builtin.append_ #[32, 32] 32 #[v, .slice (some ⟨W.heap.size, 0, none⟩) 1 1]).run Tryz.prog (W.alloc (.cells #[.int .i64 t.1, .int .i64 t.2] 27)) = .ok v' w' ∧ ZS w A L c d ds ls p F cF v' (acc ++ [t]) t w' := by
  have zg := h.mn.blk.lt
  obtain ⟨v', w', r, O, D, K, _⟩ := app_el (w := W) uPls infoPl rfl (by omega) (by omega) 32 h.row (us := plC t) rfl (plC_one _) ha (by omega)
  have kt : KT (w.heap.size + 1 + 1 + 1) W w' := fun b hb _ => D.block b (by omega)
  refine ⟨v', w', r, ⟨(D.block _ (by omega)).trans h.mn.blk, h.mn.devs.kt kt, h.mn.links.kt kt, own_keptBut h.mn.facts (fun g hg => ?_)⟩, ?_, ?_, ?_, ?_, ?_, ?_⟩
  · obtain ⟨q1, q2, _⟩ := own_block h.mn.facts hg
    exact K.block g q1 (fun e => blk_apart h.mn.facts h.row (by decide) hg e.symm)
  · rw [List.flatMap_append, List.length_append]
    simpa using O
  · exact h.below.trans (D.mono (by omega))
  · exact h.dN.kt (fun b hb _ => D.block b (by omega))
  · exact h.lN.kt (fun b hb _ => D.block b (by omega))
  · exact (D.block _ (by omega)).trans h.bt
  · exact (D.block _ (by omega)).trans h.bp
theorem ZS.setT (h : ZS w A L c d ds ls p F cF v acc t W) (t' : Plc) : ZS w A L c d ds ls p F cF v acc t' ((W.setCell ⟨w.heap.size + 1, 0, none⟩ (.int .i64 t'.1)).setCell ⟨w.heap.size + 1, 1, none⟩ (.int .i64 t'.2)) := by
  have hF : ∀ b, b ≠ w.heap.size + 1 → ((W.setCell ⟨w.heap.size + 1, 0, none⟩ (.int .i64 t'.1)).setCell ⟨w.heap.size + 1, 1, none⟩ (.int .i64 t'.2)).heap[b]? = W.heap[b]? := fun b hb => (Below.heap_setCell _ ⟨w.heap.size + 1, 1, none⟩ _ b hb).trans (Below.heap_setCell W ⟨w.heap.size + 1, 0, none⟩ _ b hb)
  have hs : ((W.setCell ⟨w.heap.size + 1, 0, none⟩ (.int .i64 t'.1)).setCell ⟨w.heap.size + 1, 1, none⟩ (.int .i64 t'.2)).heap.size = W.heap.size := by simp [World.setCell]
  have zb := h.below.size
  have D : Below w.heap.size W ((W.setCell ⟨w.heap.size + 1, 0, none⟩ (.int .i64 t'.1)).setCell ⟨w.heap.size + 1, 1, none⟩ (.int .i64 t'.2)) := ((Below.refl w.heap.size W).setCell (p := ⟨w.heap.size + 1, 0, none⟩) (by show w.heap.size ≤ w.heap.size + 1; omega) _).setCell (p := ⟨w.heap.size + 1, 1, none⟩) (by show w.heap.size ≤ w.heap.size + 1; omega) _
  have kt : KT w.heap.size W ((W.setCell ⟨w.heap.size + 1, 0, none⟩ (.int .i64 t'.1)).setCell ⟨w.heap.size + 1, 1, none⟩ (.int .i64 t'.2)) := fun b hb _ => hF b (by omega)
  have zg := h.mn.blk.lt
  refine ⟨⟨(hF _ (by omega)).trans h.mn.blk, (h.dN.kt kt).mono (by omega), (h.lN.kt kt).mono (by omega), own_keptBut h.mn.facts (fun g hg => hF g ?_)⟩, own_keptBut h.row (fun g hg => hF g ?_), h.below.trans D, h.dN.kt kt, h.lN.kt kt, ?_, (hF _ (by omega)).trans h.bp⟩
  · have := (own_block h.mn.facts hg).2.1
    omega
  · have := (own_block h.row hg).2.1
    omega
  · have := (h.bt.setS (j := 0) (.int .i64 t'.1)).setS (j := 1) (.int .i64 t'.2)
    simpa using this
theorem ZS.sl (h : ZS w A L c d ds ls p F cF v acc t W) : SlAt W.heap.size W 2 IsPlc v acc := SlAt.own h.row (fun k x hx => flatP_at acc k x hx)
end
/-- What the document's Walk leaves. -/
def ZOut (w : World) (res : List Plc × Bool) (e : Ending) (w' : World) : Prop :=
  ∃ A c, e = .returned (.tuple #[.slice A res.1.length c, .bool res.2]) ∧ SlAt w'.heap.size w' 2 IsPlc (.slice A res.1.length c) res.1 ∧ Below w.heap.size w w'
theorem ZS.fin {w W : World} {A L F A9 : Option Addr} {c d cF c9 : Nat} {ds : List Dv} {ls : List Lk} {p : Pk} {acc : List Plc} {t : Plc} {r : Bool} (h : ZS w A L c d ds ls p F cF (.slice A9 acc.length c9) acc t W) : ZOut w (acc, r) (.returned (.tuple #[.slice A9 acc.length c9, .bool r])) W := ⟨A9, c9, rfl, h.sl, h.below⟩
set_option maxHeartbeats 8000000 in
set_option maxRecDepth 100000 in
theorem zwalk_any (A L : Option Addr) (c d : Nat) (ds : List Dv) (ls : List Lk) (t0 : Plc) (p : Pk) (w : World) (hD : Hid (Devs w.heap.size w (.slice A ds.length c) ds)) (hL : Hid (Links w.heap.size w (.slice L ls.length d) ls)) (hz : Hid (netV ds ls = 0)) (hk : Hid (PlainD ds)) (ht : Hid (isPl ds t0.1 t0.2 = true)) (hp : Hid (pkOk p = true)) :
    Calls Tryz.prog 10 #[.agg #[.slice A ds.length c, .slice L ls.length d], plA t0.1 t0.2, pkV p] w (ZOut w (wayP ds ls p t0)) := by
  have N0 := ((bk_new w #[.slice A ds.length c, .slice L ls.length d] 25).alloc (.cells #[.int .i64 t0.1, .int .i64 t0.2] 27)).alloc (.cells #[.int .i64 p.s, .int .i64 p.d, .int .i64 p.sp, .int .i64 p.dp] 29)
  have T0 := ((bk_new' (w.alloc (.cells #[.slice A ds.length c, .slice L ls.length d] 25)) #[.int .i64 t0.1, .int .i64 t0.2] 27 (w.heap.size + 1) (by simp)).alloc (.cells #[.int .i64 p.s, .int .i64 p.d, .int .i64 p.sp, .int .i64 p.dp] 29)).alloc (.cells #[.slice A ds.length c, .slice L ls.length d, .slice none 0 0] 58)
  have R0 : ZS w A L c d ds ls p none 0 (.slice (some ⟨w.heap.size + 1 + 1 + 1 + 1, 0, none⟩) 1 1) [t0] t0 (((((w.alloc (.cells #[.slice A ds.length c, .slice L ls.length d] 25)).alloc (.cells #[.int .i64 t0.1, .int .i64 t0.2] 27)).alloc (.cells #[.int .i64 p.s, .int .i64 p.d, .int .i64 p.sp, .int .i64 p.dp] 29)).alloc (.cells #[.slice A ds.length c, .slice L ls.length d, .slice none 0 0] 58)).alloc (.cells #[.int .i64 t0.1, .int .i64 t0.2] 27)) := by
    have D := Below.alN (Below.alN (Below.alN (Below.alN (Below.alN (Below.refl w.heap.size w) (.cells #[.slice A ds.length c, .slice L ls.length d] 25)) (.cells #[.int .i64 t0.1, .int .i64 t0.2] 27)) (.cells #[.int .i64 p.s, .int .i64 p.d, .int .i64 p.sp, .int .i64 p.dp] 29)) (.cells #[.slice A ds.length c, .slice L ls.length d, .slice none 0 0] 58)) (.cells #[.int .i64 t0.1, .int .i64 t0.2] 27)
    refine ⟨⟨(bk_new' (((w.alloc _).alloc _).alloc _) _ _ _ (by simp)).alloc _, (hD.out.below D).mono (by omega), (hL.out.below D).mono (by omega), World.ownsRow_nil _ _ _ _⟩, ?_, D, hD.out.below D, hL.out.below D, T0.alloc _, ((bk_new' ((w.alloc _).alloc _) _ _ _ (by simp)).alloc _).alloc _⟩
    exact ⟨rfl, .inr ⟨w.heap.size + 1 + 1 + 1 + 1, 1, #[.int .i64 t0.1, .int .i64 t0.2], rfl, Nat.le_refl _, bk_new' ((((w.alloc _).alloc _).alloc _).alloc _) _ _ _ (by simp), Nat.le_refl _, by decide, rfl, rfl⟩⟩
  have HC : Hid (∀ {F A9 : Option Addr} {cF c9 : Nat} {acc : List Plc} {t : Plc} {W : World}, ZS w A L c d ds ls p F cF (.slice A9 acc.length c9) acc t W → Calls Tryz.prog 21 #[.slice A9 acc.length c9, .agg #[.int .i64 t.1, .int .i64 t.2]] W fun e w' => e = .returned (.bool (decide (t ∈ acc))) ∧ Below W.heap.size W w') := fun {F A9 cF c9 acc t W} h => contains_pl A9 c9 acc t _ W (Nat.le_refl _) h.sl
  have HH : Hid (∀ {F : Option Addr} {cF : Nat} {v : Value} {acc : List Plc} {t : Plc} {W : World}, ZS w A L c d ds ls p F cF v acc t W → Hid (isPl ds t.1 t.2 = true) → Calls Tryz.prog 20 #[.pointer (some ⟨w.heap.size + 1 + 1 + 1, 0, none⟩), .agg #[.int .i64 t.1, .int .i64 t.2], .agg #[.int .i64 p.s, .int .i64 p.d, .int .i64 p.sp, .int .i64 p.dp], .int .i64 0] W fun e w' => ∃ (er : Int) (tx : Plc) (px : Pk) (F' : Option Addr) (cF' : Nat), e = .returned (.tuple #[.agg #[.int .i64 tx.1, .int .i64 tx.2, .int .i64 px.s, .int .i64 px.d, .int .i64 px.sp, .int .i64 px.dp], .int .i64 er]) ∧ ZS w A L c d ds ls p F' cF' v acc t w' ∧ Hid (nxF ds ls p t = if er = 0 then some tx else none)) := fun {F cF v acc t W} h ht => by
    refine (mhandle_ok t.1 t.2 p 0 W h.mn ht.out hp.out (by simp) rfl).mono fun e w' ⟨h1, F', cF', h2, h3, _⟩ => ?_
    rw [mind_no hk.out] at h2
    obtain ⟨g1, g2, g3, _⟩ := mind_rel (rel_no ds) (ls := ls) t.1 t.2 p 0
    refine ⟨_, _, _, F', cF', h1, h.handle h2 h3, ?_⟩
    show _ = _
    unfold nxF
    rw [g1, g2]
  have HP : Hid (∀ {t t' : Plc}, nxF ds ls p t = some t' → isPl ds t'.1 t'.2 = true) := fun {t t'} h => nx_place hz.out h
  have I0 : Hid (WInv ds (nxF ds ls p) (wayP ds ls p t0) [] t0) := winv_start (netV_links hz.out).1 ht.out
  obtain ⟨res, hres⟩ : ∃ res, res = wayP ds ls p t0 := ⟨_, rfl⟩
  rw [← hres] at I0 ⊢
  obtain ⟨nx, hnx⟩ : ∃ nx, nx = nxF ds ls p := ⟨_, rfl⟩
  rw [← hnx] at I0 HH HP
  have KP : ∀ {F : Option Addr} {cF : Nat} {v : Value} {acc : List Plc} {t : Plc} {W W' : World}, Below W.heap.size W W' → ZS w A L c d ds ls p F cF v acc t W → ZS w A L c d ds ls p F cF v acc t W' := fun hb h => h.keep hb
  clear hz hk ht hres hnx hp hD hL
  obtain ⟨s, dd, sp, dp⟩ := p
  obtain ⟨i0, q0⟩ := t0
  dsimp only at *
  obtain ⟨n0, n1⟩ := N0.two
  obtain ⟨t0, t1⟩ := T0.two
  go_enter Tryz.func10, Tryz.ntmps10
  go_wp2_with fail
  clear n0 n1 t0 t1 N0 T0
  go_loopw [9] (fun v wr => ∃ (A9 F : Option Addr) (c9 cF : Nat) (acc : List Plc) (t : Plc), v = .slice A9 (acc ++ [t]).length c9 ∧ ZS w A L c d ds ls ⟨s, dd, sp, dp⟩ F cF (.slice A9 (acc ++ [t]).length c9) (acc ++ [t]) t wr ∧ t ∉ acc ∧ Hid (WInv ds nx res acc t)) (fun v _ => 100 - slLen v)
  case atStart => exact ⟨_, none, 1, 0, [], (i0, q0), rfl, R0, by simp, I0⟩
  case round =>
    clear R0 I0
    obtain ⟨A9, F, c9, cF, acc, ⟨i, q⟩, rfl, R1, hno, I1⟩ := hrel
    have HN : Hid ((i, q) ∉ acc) := hno
    have TP : Hid (isPl ds (i, q).1 (i, q).2 = true) := I1.out.tp
    have hl40 := I1.out.len
    have el : Hid ((acc ++ [(i, q)]).length = acc.length + 1) := by show _ = _; simp
    obtain ⟨t0, t1⟩ := R1.bt.two
    obtain ⟨p0, p1, p2, p3, _⟩ := R1.bp.four
    clear hno
    generalize hac : acc ++ [(i, q)] = ac at *
    dsimp only at *
    go_wp2_with fail
    with_reducible refine (HH.out R1 TP).mono ?_
    rintro e w4 ⟨er, ⟨xi, xq⟩, ⟨y0, y1, y2, y3⟩, F', cF', rfl, R4, N4⟩
    dsimp only at *
    clear R1 t0 t1 p0 p1 p2 p3 HH TP
    by_cases he : er = 0
    · subst he
      have hnx : nx (i, q) = some (xi, xq) := by rw [N4.out, if_pos rfl]
      have I4 : Hid (WInv ds nx res ac (xi, xq)) := by
        have := I1.out.next HN.out hnx (HP.out hnx)
        rw [hac] at this
        exact this
      have R5 := R4.alloc (.cells #[.int .i64 xi, .int .i64 xq, .int .i64 y0, .int .i64 y1, .int .i64 y2, .int .i64 y3] 60)
      have R6 := R5.setT (xi, xq)
      have f0 := R5.bt.fz 0
      have f1 := R5.bt.fz 1
      obtain ⟨b0, b1⟩ := R5.bt.two
      have X5 := bk_new w4 #[.int .i64 xi, .int .i64 xq, .int .i64 y0, .int .i64 y1, .int .i64 y2, .int .i64 y3] 60
      have x0 := X5.at 0
      have x1 := X5.at 1
      obtain ⟨t0, t1⟩ := R6.bt.two
      clear N4 hnx HN I1 R4 R5 X5 HP hac
      dsimp only at *
      go_wp2_with fail
      with_reducible refine (HC.out R6).mono ?_
      rintro e w7 ⟨rfl, hb7⟩
      have R7 := KP hb7 R6
      clear hb7 R6 t0 t1 x0 x1 b0 b1 f0 f1
      by_cases hm : (xi, xq) ∈ ac
      · have hd : decide ((xi, xq) ∈ ac) = true := decide_eq_true hm
        have F2 : Hid (ZOut w res (.returned (.tuple #[.slice A9 ac.length c9, .bool true])) w7) := by
          rw [I4.out.round hm]
          exact R7.fin
        clear HC KP R7 I4 hm
        rw [hd]
        go_wp2_with fail
        go_ret2
        exact F2.out
      · have hd : decide ((xi, xq) ∈ ac) = false := decide_eq_false hm
        obtain ⟨v3, w3, r3, R3⟩ := R7.app (by have := el.out; omega)
        obtain ⟨A3, c3, rfl⟩ : ∃ A3 c3, v3 = .slice A3 (ac ++ [(xi, xq)]).length c3 := by
          obtain ⟨A3, c3, e, _⟩ := own_sl R3.row
          exact ⟨A3, c3, e⟩
        have HM : Hid ((xi, xq) ∉ ac) := hm
        obtain ⟨t0, t1⟩ := R7.bt.two
        rw [hd]
        clear hd hm
        dsimp only at *
        go_wp2_with (at_builtin; refine append_runC rfl _ _ 32 rfl rfl rfl r3 ?_)
        go_roundw
        case rel => exact ⟨A3, F', c3, cF', ac, (xi, xq), by first | rfl | simp, R3, HM.out, I4⟩
        case measure => (have := el.out; simp [slLen]; omega)
    · have hnx : nx (i, q) = none := by rw [N4.out, if_neg he]
      have hz1 : (er == 0) = false := by simpa using he
      have R5 := R4.alloc (.cells #[.int .i64 xi, .int .i64 xq, .int .i64 y0, .int .i64 y1, .int .i64 y2, .int .i64 y3] 60)
      have F2 : Hid (ZOut w res (.returned (.tuple #[.slice A9 ac.length c9, .bool false])) (w4.alloc (.cells #[.int .i64 xi, .int .i64 xq, .int .i64 y0, .int .i64 y1, .int .i64 y2, .int .i64 y3] 60))) := by
        rw [I1.out.stop HN.out hnx, hac]
        exact R5.fin
      have HNZ : Hid (¬ er = 0) := he
      clear N4 hnx HN I1 R4 R5 HP he hac
      go_wp2_with fail
      all_goals first | exact absurd (by assumption) HNZ.out | skip
      all_goals
        go_ret2
        exact F2.out
end Go.Proofs.YthioedgnambomaaGreat

namespace Go.Proofs.YthioedgnambomaaGreat
open Go.RowKit Go.Maps

theorem below_hkR {w W W' : World} {m : Mp} (hb : Below w.heap.size w W) (hk : HK m W W') (l1 : w.heap.size ≤ m.f) (l2 : w.heap.size ≤ m.o) (l3 : w.heap.size ≤ m.k) : Below w.heap.size w W' :=
  hb.trans ⟨hk.os, hk.tape, hk.output, hk.size, fun b h => hk.block b (Nat.lt_of_lt_of_le h hb.size) (by omega) (by omega) (by omega)⟩
/-- The error that Walk tells. -/
def rwErr (ds : List Dv) (ls : List Lk) (t : Plc) (p : Pk) : Int := if ringV ds ls = 0 then (if isPl ds t.1 t.2 then (if pkOk p then 0 else 1) else 4) else ringV ds ls
theorem rwErr_zero {ds : List Dv} {ls : List Lk} {t : Plc} {p : Pk} (h : rwErr ds ls t p = 0) : ringV ds ls = 0 ∧ isPl ds t.1 t.2 = true ∧ pkOk p = true := by
  unfold rwErr at h
  by_cases h1 : ringV ds ls = 0
  · rw [if_pos h1] at h
    cases h2 : isPl ds t.1 t.2
    · rw [h2] at h
      cases h
    · cases h3 : pkOk p
      · rw [h2, h3] at h
        cases h
      · exact ⟨h1, rfl, rfl⟩
  · rw [if_neg h1] at h
    exact absurd h h1
/-- What Walk tells. -/
def RWOut (w : World) (ds : List Dv) (ls : List Lk) (t : Plc) (p : Pk) (e : Ending) (w' : World) : Prop :=
  Below w.heap.size w w' ∧ ((rwErr ds ls t p ≠ 0 ∧ e = .returned (.tuple #[.slice none 0 0, .bool false, .int .i64 (rwErr ds ls t p)])) ∨
    (rwErr ds ls t p = 0 ∧ ∃ A c, e = .returned (.tuple #[.slice A (wayP ds ls p t).1.length c, .bool (wayP ds ls p t).2, .int .i64 0]) ∧ SlAt w'.heap.size w' 2 IsPlc (.slice A (wayP ds ls p t).1.length c) (wayP ds ls p t).1 ∧ (∀ a, A = some a → w.heap.size ≤ a.block ∧ a.block < w'.heap.size)))
abbrev netO (A B : Option Addr) (n cap n' cap' : Nat) : Obj := .cells #[.slice A n cap, .slice B n' cap'] 25
abbrev plO (x y : Int) : Obj := .cells #[.int .i64 x, .int .i64 y] 27
set_option maxHeartbeats 8000000 in
set_option maxRecDepth 100000 in
theorem ringWalk_any (A B : Option Addr) (cap cap' : Nat) (ds : List Dv) (ls : List Lk) (t : Plc) (p : Pk) (w : World) (hD : Hid (Devs w.heap.size w (.slice A ds.length cap) ds)) (hL : Hid (Links w.heap.size w (.slice B ls.length cap') ls)) :
    Calls Tryz.prog 6 #[.agg #[.slice A ds.length cap, .slice B ls.length cap'], plA t.1 t.2, pkV p] w (RWOut w ds ls t p) := by
  have D0 := Below.alN (Below.alN (Below.alN (Below.refl w.heap.size w) (.cells #[.slice A ds.length cap, .slice B ls.length cap'] 25)) (.cells #[.int .i64 t.1, .int .i64 t.2] 27)) (.cells #[.int .i64 p.s, .int .i64 p.d, .int .i64 p.sp, .int .i64 p.dp] 29)
  have N0 := ((bk_new w #[.slice A ds.length cap, .slice B ls.length cap'] 25).alloc (.cells #[.int .i64 t.1, .int .i64 t.2] 27)).alloc (.cells #[.int .i64 p.s, .int .i64 p.d, .int .i64 p.sp, .int .i64 p.dp] 29)
  have T0 := (bk_new' (w.alloc (.cells #[.slice A ds.length cap, .slice B ls.length cap'] 25)) #[.int .i64 t.1, .int .i64 t.2] 27 (w.heap.size + 1) (by simp)).alloc (.cells #[.int .i64 p.s, .int .i64 p.d, .int .i64 p.sp, .int .i64 p.dp] 29)
  have P0 := bk_new' ((w.alloc (.cells #[.slice A ds.length cap, .slice B ls.length cap'] 25)).alloc (.cells #[.int .i64 t.1, .int .i64 t.2] 27)) #[.int .i64 p.s, .int .i64 p.d, .int .i64 p.sp, .int .i64 p.dp] 29 (w.heap.size + 1 + 1) (by simp)
  have CKR : Hid (∀ W, Below w.heap.size w W → Calls Tryz.prog 5 #[.agg #[.slice A ds.length cap, .slice B ls.length cap']] W fun e w' => e = .returned (.int .i64 (ringV ds ls)) ∧ Below W.heap.size W w') := fun W h => ringCheck_any A B cap cap' ds ls W ((hD.out.below h).mono h.size) ((hL.out.below h).mono h.size)
  have HPL : Hid (∀ W, Below w.heap.size w W → Calls Tryz.prog 16 #[.agg #[.slice A ds.length cap, .slice B ls.length cap'], plA t.1 t.2] W fun e w' => e = .returned (.bool (isPl ds t.1 t.2)) ∧ Below W.heap.size W w') := fun W h => hasPlace_any t.1 t.2 A _ cap _ ds W ((hD.out.below h).mono h.size)
  have PC : Hid (∀ W, Calls Tryz.prog 17 #[pkV p] W fun e w' => e = .returned (.int .i64 (if pkOk p then 0 else 1)) ∧ Below W.heap.size W w') := fun W => pcheck_any p W
  have NW : Hid (∀ W, Below w.heap.size w W → Calls Tryz.prog 18 #[.agg #[.slice A ds.length cap, .slice B ls.length cap']] W (NewOut W ds ls)) := fun W h => new_any A B cap cap' ds ls W ((hD.out.below h).mono h.size) ((hL.out.below h).mono h.size)
  have WK : Hid (ringV ds ls = 0 → isPl ds t.1 t.2 = true → ∀ (m : Mp) W, MemAt W m ds ls 0 noM → Calls Tryz.prog 19 #[.pointer (some ⟨m.B, m.z, none⟩), plA t.1 t.2, pkV p] W (WkOut W m ds ls 0 (wayP ds ls p t))) := fun h1 h2 m W h => rwalk_any m ds ls 0 t p W h (by omega) (ringV_zero h1).1 (ringV_zero h1).2 h2
  have HNV : Hid (ringV ds ls = 0 → netV ds ls = 0) := fun h => (ringV_zero h).1
  have OUT0 : Hid (∀ w', Below w.heap.size w w' → ∀ er, rwErr ds ls t p = er → er ≠ 0 → RWOut w ds ls t p (.returned (.tuple #[.slice none 0 0, .bool false, .int .i64 er])) w') := fun w' hb er h1 h2 => ⟨hb, Or.inl ⟨by rw [h1]; exact h2, by rw [h1]⟩⟩
  have OUT1 : Hid (∀ w', Below w.heap.size w w' → rwErr ds ls t p = 0 → ∀ A c, SlAt w'.heap.size w' 2 IsPlc (.slice A (wayP ds ls p t).1.length c) (wayP ds ls p t).1 → (∀ a, A = some a → w.heap.size ≤ a.block ∧ a.block < w'.heap.size) → RWOut w ds ls t p (.returned (.tuple #[.slice A (wayP ds ls p t).1.length c, .bool (wayP ds ls p t).2, .int .i64 0])) w') := fun w' hb h0 A c h1 h2 => ⟨hb, Or.inr ⟨h0, A, c, rfl, h1, h2⟩⟩
  have ERR : Hid (rwErr ds ls t p = if ringV ds ls = 0 then (if isPl ds t.1 t.2 then (if pkOk p then 0 else 1) else 4) else ringV ds ls) := rfl
  generalize hrv : ringV ds ls = rv at *
  generalize rwErr ds ls t p = er at *
  generalize hres : wayP ds ls p t = res at *
  clear hres hrv
  obtain ⟨rl, rb⟩ := res
  have hpk : ∀ (a b c d : Int), pkV ⟨a, b, c, d⟩ = .agg #[.int .i64 a, .int .i64 b, .int .i64 c, .int .i64 d] := fun _ _ _ _ => rfl
  generalize hPK : pkOk p = pk at *
  generalize hPL : isPl ds t.1 t.2 = pl at *
  clear hPK hPL hpk
  obtain ⟨s, d, sp, dp⟩ := p
  obtain ⟨i, q⟩ := t
  dsimp only at *
  clear hD hL
  obtain ⟨n0, n1⟩ := N0.two
  by_cases h1 : rv = 0
  rotate_left
  · have hz1 : (rv == 0) = false := by simpa using h1
    have EX : Hid (er = rv) := by
      have := ERR.out
      rw [if_neg h1] at this
      exact this
    have HNZ : Hid (¬ rv = 0) := h1
    clear ERR h1 WK NW PC HPL OUT1 HNV
    go_enter Tryz.func6, Tryz.ntmps6
    go_wp2_with fail
    with_reducible refine (CKR.out _ D0).mono ?_
    rintro e w1 ⟨rfl, hb1⟩
    have D1 := chnN hb1 D0
    clear hb1 N0 T0 P0 D0 n0 n1 CKR
    go_wp2_with fail
    all_goals first | exact absurd (by assumption) HNZ.out | skip
    all_goals
      go_ret3
      exact OUT0.out _ D1 _ EX.out HNZ.out
  subst h1
  have E1 : Hid (er = if pl then (if pk then 0 else 1) else 4) := by
    have := ERR.out
    rw [if_pos rfl] at this
    exact this
  have hnv : Hid (netV ds ls = 0) := HNV.out rfl
  clear ERR HNV
  cases pl
  · have EX : Hid (er = 4) := E1.out
    clear E1 WK NW PC OUT1
    go_enter Tryz.func6, Tryz.ntmps6
    go_wp2_with fail
    with_reducible refine (CKR.out _ D0).mono ?_
    rintro e w1 ⟨rfl, hb1⟩
    have D1 := chnN hb1 D0
    have N1 := N0.keep hb1
    have T1 := T0.keep hb1
    clear hb1 N0 T0 P0 D0 n0 n1 CKR
    obtain ⟨n0, n1⟩ := N1.two
    obtain ⟨t0, t1⟩ := T1.two
    go_wp2_with fail
    with_reducible refine (HPL.out _ D1).mono ?_
    rintro e w2 ⟨rfl, hb2⟩
    have D2 := chnN hb2 D1
    clear hb2 N1 T1 D1 n0 n1 t0 t1 HPL
    go_wp2_with fail
    go_ret3
    exact OUT0.out _ D2 _ EX.out (by decide)
  cases pk
  · have EX : Hid (er = 1) := E1.out
    have PC' : Hid (∀ W, Calls Tryz.prog 17 #[.agg #[.int .i64 s, .int .i64 d, .int .i64 sp, .int .i64 dp]] W fun e w' => e = .returned (.int .i64 1) ∧ Below W.heap.size W w') := PC.out
    clear E1 WK NW PC OUT1
    go_enter Tryz.func6, Tryz.ntmps6
    go_wp2_with fail
    with_reducible refine (CKR.out _ D0).mono ?_
    rintro e w1 ⟨rfl, hb1⟩
    have D1 := chnN hb1 D0
    have N1 := N0.keep hb1
    have T1 := T0.keep hb1
    have P1 := P0.keep hb1
    clear hb1 N0 T0 P0 D0 n0 n1 CKR
    obtain ⟨n0, n1⟩ := N1.two
    obtain ⟨t0, t1⟩ := T1.two
    go_wp2_with fail
    with_reducible refine (HPL.out _ D1).mono ?_
    rintro e w2 ⟨rfl, hb2⟩
    have D2 := chnN hb2 D1
    have P2 := P1.keep hb2
    clear hb2 N1 T1 P1 D1 n0 n1 t0 t1 HPL
    obtain ⟨p0, p1, p2, p3, _⟩ := P2.four
    go_wp2_with fail
    with_reducible refine (PC'.out _).mono ?_
    rintro e w3 ⟨rfl, hb3⟩
    have D3 := chnN hb3 D2
    clear hb3 P2 D2 p0 p1 p2 p3 PC'
    go_wp2_with fail
    go_ret3
    exact OUT0.out _ D3 _ EX.out (by decide)
  · have EX : Hid (er = 0) := E1.out
    have PC' : Hid (∀ W, Calls Tryz.prog 17 #[.agg #[.int .i64 s, .int .i64 d, .int .i64 sp, .int .i64 dp]] W fun e w' => e = .returned (.int .i64 0) ∧ Below W.heap.size W w') := PC.out
    have WK' : Hid (∀ (m : Mp) W, MemAt W m ds ls 0 noM → Calls Tryz.prog 19 #[.pointer (some ⟨m.B, m.z, none⟩), .agg #[.int .i64 i, .int .i64 q], .agg #[.int .i64 s, .int .i64 d, .int .i64 sp, .int .i64 dp]] W fun e w' => ∃ A c, e = .returned (.tuple #[.slice A rl.length c, .bool rb]) ∧ Hid (SlAt w'.heap.size w' 2 IsPlc (.slice A rl.length c) rl ∧ (∀ a, A = some a → W.heap.size ≤ a.block ∧ a.block < w'.heap.size) ∧ HK m W w')) := fun m W h => (WK.out rfl rfl m W h).mono fun e w' ⟨A, c, h1, h2, h3, h4, h5⟩ => ⟨A, c, h1, h2, h3, h5⟩
    clear E1 WK PC OUT0
    go_enter Tryz.func6, Tryz.ntmps6
    go_wp2_with fail
    with_reducible refine (CKR.out _ D0).mono ?_
    rintro e w1 ⟨rfl, hb1⟩
    have D1 := chnN hb1 D0
    have N1 := N0.keep hb1
    have T1 := T0.keep hb1
    have P1 := P0.keep hb1
    clear hb1 N0 T0 P0 D0 n0 n1 CKR
    obtain ⟨n0, n1⟩ := N1.two
    obtain ⟨t0, t1⟩ := T1.two
    go_wp2_with fail
    with_reducible refine (HPL.out _ D1).mono ?_
    rintro e w2 ⟨rfl, hb2⟩
    have D2 := chnN hb2 D1
    have N2 := N1.keep hb2
    have T2 := T1.keep hb2
    have P2 := P1.keep hb2
    clear hb2 N1 T1 P1 D1 n0 n1 t0 t1 HPL
    obtain ⟨p0, p1, p2, p3, _⟩ := P2.four
    go_wp2_with fail
    with_reducible refine (PC'.out _).mono ?_
    rintro e w3 ⟨rfl, hb3⟩
    have D3 := chnN hb3 D2
    have N3 := N2.keep hb3
    have T3 := T2.keep hb3
    have P3 := P2.keep hb3
    clear hb3 P2 N2 T2 D2 p0 p1 p2 p3 PC'
    obtain ⟨n0, n1⟩ := N3.two
    go_wp2_with fail
    with_reducible refine (NW.out _ D3).mono ?_
    rintro e w4 ⟨hb4, hN⟩
    have D4 := chnN hb4 D3
    have T4 := T3.keep hb4
    have P4 := P3.keep hb4
    have z3 := D3.size
    have z4 := hb4.size
    clear hb4 P3 N3 T3 D3 n0 n1 NW
    rcases hN with ⟨hne, _⟩ | ⟨_, m, rfl, hM, l1, l2, l3, l4, l5, _⟩
    · exact absurd hnv.out hne
    have LO : Hid (w.heap.size ≤ m.f ∧ w.heap.size ≤ m.o ∧ w.heap.size ≤ m.k) := ⟨by omega, by omega, by omega⟩
    clear l1 l2 l3 l4 l5
    obtain ⟨t0, t1⟩ := T4.two
    obtain ⟨p0, p1, p2, p3, _⟩ := P4.four
    go_wp2_with fail
    with_reducible refine (WK'.out m _ hM).mono ?_
    rintro e w5 ⟨A5, c5, rfl, h5⟩
    have F5 : Hid (RWOut w ds ls (i, q) ⟨s, d, sp, dp⟩ (.returned (.tuple #[.slice A5 rl.length c5, .bool rb, .int .i64 0])) w5) := OUT1.out w5 (below_hkR D4 h5.out.2.2 LO.out.1 LO.out.2.1 LO.out.2.2) EX.out A5 c5 h5.out.1 (fun a ha => by
      have := h5.out.2.1 a ha
      exact ⟨by omega, this.2⟩)
    clear OUT1 T4 P4 D4 t0 t1 p0 p1 p2 p3 WK' h5 hM LO
    go_wp2_with fail
    go_ret3
    exact F5.out
end Go.Proofs.YthioedgnambomaaGreat

namespace Go.Proofs.YthioedgnambomaaGreat
open Go.RowKit Go.Maps

/-- What the law holds: its own copies of what came in. -/
structure E3 (w : World) (u0 u1 : Value) (t : Plc) (p : Pk) (W : World) : Prop where
  d : Below w.heap.size w W
  n : Bk W w.heap.size #[u0, u1] 25
  t : Bk W (w.heap.size + 1) #[.int .i64 t.1, .int .i64 t.2] 27
  p : Bk W (w.heap.size + 1 + 1) #[.int .i64 p.s, .int .i64 p.d, .int .i64 p.sp, .int .i64 p.dp] 29
theorem E3.keep {w : World} {u0 u1 : Value} {t : Plc} {p : Pk} {W W' : World} (hb : Below W.heap.size W W') (h : E3 w u0 u1 t p W) : E3 w u0 u1 t p W' := ⟨chnN hb h.d, h.n.keep hb, h.t.keep hb, h.p.keep hb⟩
theorem e3_new (w : World) (u0 u1 : Value) (t : Plc) (p : Pk) : E3 w u0 u1 t p (((w.alloc (.cells #[u0, u1] 25)).alloc (.cells #[.int .i64 t.1, .int .i64 t.2] 27)).alloc (.cells #[.int .i64 p.s, .int .i64 p.d, .int .i64 p.sp, .int .i64 p.dp] 29)) :=
  ⟨Below.alN (Below.alN (Below.alN (Below.refl _ _) _) _) _, ((bk_new w _ _).alloc _).alloc _, (bk_new' (w.alloc _) _ _ _ (by simp)).alloc _, bk_new' ((w.alloc _).alloc _) _ _ _ (by simp)⟩
set_option maxHeartbeats 8000000 in
set_option maxRecDepth 100000 in
theorem walks_a (A B : Option Addr) (cap cap' : Nat) (ds : List Dv) (ls : List Lk) (i q : Int) (s d sp dp : Int) (w : World) (hD : Hid (Devs w.heap.size w (.slice A ds.length cap) ds)) (hL : Hid (Links w.heap.size w (.slice B ls.length cap') ls)) (hr : ¬ ringV ds ls = 0) :
    Calls Tryz.prog 3 #[.agg #[.slice A ds.length cap, .slice B ls.length cap'], plA i q, pkV ⟨s, d, sp, dp⟩] w fun e w' => e = .returned (.bool true) ∧ Below w.heap.size w w' := by
  have PL : Hid (∀ W, Below w.heap.size w W → Calls Tryz.prog 4 #[.agg #[.slice A ds.length cap, .slice B ls.length cap']] W fun e w' => e = .returned (.int .i64 (ringV ds ls)) ∧ Below W.heap.size W w') := fun W h => plain_any A B cap cap' ds ls W ((hD.out.below h).mono h.size) ((hL.out.below h).mono h.size)
  have CK : Hid (∀ W, Below w.heap.size w W → Calls Tryz.prog 5 #[.agg #[.slice A ds.length cap, .slice B ls.length cap']] W fun e w' => e = .returned (.int .i64 (ringV ds ls)) ∧ Below W.heap.size W w') := fun W h => ringCheck_any A B cap cap' ds ls W ((hD.out.below h).mono h.size) ((hL.out.below h).mono h.size)
  have RW : Hid (∀ W, Below w.heap.size w W → Calls Tryz.prog 6 #[.agg #[.slice A ds.length cap, .slice B ls.length cap'], .agg #[.int .i64 i, .int .i64 q], .agg #[.int .i64 s, .int .i64 d, .int .i64 sp, .int .i64 dp]] W (RWOut W ds ls (i, q) ⟨s, d, sp, dp⟩)) := fun W h => ringWalk_any A B cap cap' ds ls (i, q) ⟨s, d, sp, dp⟩ W ((hD.out.below h).mono h.size) ((hL.out.below h).mono h.size)
  have E0 := e3_new w (.slice A ds.length cap) (.slice B ls.length cap') (i, q) ⟨s, d, sp, dp⟩
  have KE : ∀ {W W' : World}, Below W.heap.size W W' → E3 w (.slice A ds.length cap) (.slice B ls.length cap') (i, q) ⟨s, d, sp, dp⟩ W → E3 w (.slice A ds.length cap) (.slice B ls.length cap') (i, q) ⟨s, d, sp, dp⟩ W' := fun hb h => h.keep hb
  obtain ⟨_, hc, hm⟩ := hD.out.len
  unfold maxLen at hm
  have RW' : Hid (∀ W, Below w.heap.size w W → Calls Tryz.prog 6 #[.agg #[.slice A ds.length cap, .slice B ls.length cap'], .agg #[.int .i64 i, .int .i64 q], .agg #[.int .i64 s, .int .i64 d, .int .i64 sp, .int .i64 dp]] W fun e w' => e = .returned (.tuple #[.slice none 0 0, .bool false, .int .i64 (ringV ds ls)]) ∧ Below W.heap.size W w') := fun W h => (RW.out W h).mono fun e w' ⟨hb, hrr⟩ => by
    have er : rwErr ds ls (i, q) ⟨s, d, sp, dp⟩ = (ringV ds ls) := by
      unfold rwErr
      rw [if_neg hr]
    rcases hrr with ⟨_, he⟩ | ⟨h0, _⟩
    · rw [er] at he
      exact ⟨he, hb⟩
    · rw [er] at h0
      exact absurd h0 hr
  clear hD hL RW
  generalize ringV ds ls = rv at *
  have hz1 : (rv == 0) = false := by simpa using hr
  have HNZ : Hid (¬ rv = 0) := hr
  clear hr
  dsimp only at *
  obtain ⟨n0, n1⟩ := E0.n.two
  go_enter Tryz.func3, Tryz.ntmps3
  go_wp2_with fail
  with_reducible refine (PL.out _ E0.d).mono ?_
  rintro e w1 ⟨rfl, hb1⟩
  have E1 := KE hb1 E0
  clear hb1 E0 n0 n1 PL
  obtain ⟨n0, n1⟩ := E1.n.two
  go_wp2_with fail
  with_reducible refine (CK.out _ E1.d).mono ?_
  rintro e w2 ⟨rfl, hb2⟩
  have E2 := KE hb2 E1
  clear hb2 E1 n0 n1 CK
  obtain ⟨n0, n1⟩ := E2.n.two
  obtain ⟨t0, t1⟩ := E2.t.two
  obtain ⟨p0, p1, p2, p3, _⟩ := E2.p.four
  go_wp2_with fail
  with_reducible refine (RW'.out _ E2.d).mono ?_
  rintro e w3 ⟨rfl, hb3⟩
  have E4 := KE hb3 E2
  clear hb3 E2 n0 n1 t0 t1 p0 p1 p2 p3 RW'
  have D4 := E4.d
  clear E4 KE
  go_wp2_with fail
  all_goals first | exact absurd (by assumption) HNZ.out | skip
  all_goals
    go_ret
    exact ⟨by first | rfl | simp, D4⟩
set_option maxHeartbeats 8000000 in
set_option maxRecDepth 100000 in
theorem walks_b (A B : Option Addr) (cap cap' : Nat) (ds : List Dv) (ls : List Lk) (i q : Int) (s d sp dp : Int) (w : World) (hD : Hid (Devs w.heap.size w (.slice A ds.length cap) ds)) (hL : Hid (Links w.heap.size w (.slice B ls.length cap') ls)) (hr : ringV ds ls = 0) (hi : (decide (0 ≤ i) && decide (i ≤ (ds.length : Int) - 1)) = false) :
    Calls Tryz.prog 3 #[.agg #[.slice A ds.length cap, .slice B ls.length cap'], plA i q, pkV ⟨s, d, sp, dp⟩] w fun e w' => e = .returned (.bool true) ∧ Below w.heap.size w w' := by
  have PL : Hid (∀ W, Below w.heap.size w W → Calls Tryz.prog 4 #[.agg #[.slice A ds.length cap, .slice B ls.length cap']] W fun e w' => e = .returned (.int .i64 (ringV ds ls)) ∧ Below W.heap.size W w') := fun W h => plain_any A B cap cap' ds ls W ((hD.out.below h).mono h.size) ((hL.out.below h).mono h.size)
  have CK : Hid (∀ W, Below w.heap.size w W → Calls Tryz.prog 5 #[.agg #[.slice A ds.length cap, .slice B ls.length cap']] W fun e w' => e = .returned (.int .i64 (ringV ds ls)) ∧ Below W.heap.size W w') := fun W h => ringCheck_any A B cap cap' ds ls W ((hD.out.below h).mono h.size) ((hL.out.below h).mono h.size)
  have RW : Hid (∀ W, Below w.heap.size w W → Calls Tryz.prog 6 #[.agg #[.slice A ds.length cap, .slice B ls.length cap'], .agg #[.int .i64 i, .int .i64 q], .agg #[.int .i64 s, .int .i64 d, .int .i64 sp, .int .i64 dp]] W (RWOut W ds ls (i, q) ⟨s, d, sp, dp⟩)) := fun W h => ringWalk_any A B cap cap' ds ls (i, q) ⟨s, d, sp, dp⟩ W ((hD.out.below h).mono h.size) ((hL.out.below h).mono h.size)
  have E0 := e3_new w (.slice A ds.length cap) (.slice B ls.length cap') (i, q) ⟨s, d, sp, dp⟩
  have KE : ∀ {W W' : World}, Below W.heap.size W W' → E3 w (.slice A ds.length cap) (.slice B ls.length cap') (i, q) ⟨s, d, sp, dp⟩ W → E3 w (.slice A ds.length cap) (.slice B ls.length cap') (i, q) ⟨s, d, sp, dp⟩ W' := fun hb h => h.keep hb
  obtain ⟨_, hc, hm⟩ := hD.out.len
  unfold maxLen at hm
  have RW' : Hid (∀ W, Below w.heap.size w W → Calls Tryz.prog 6 #[.agg #[.slice A ds.length cap, .slice B ls.length cap'], .agg #[.int .i64 i, .int .i64 q], .agg #[.int .i64 s, .int .i64 d, .int .i64 sp, .int .i64 dp]] W fun e w' => e = .returned (.tuple #[.slice none 0 0, .bool false, .int .i64 4]) ∧ Below W.heap.size W w') := fun W h => (RW.out W h).mono fun e w' ⟨hb, hrr⟩ => by
    have er : rwErr ds ls (i, q) ⟨s, d, sp, dp⟩ = 4 := by
      unfold rwErr
      rw [if_pos hr, if_neg (by rw [pl_yes]; dsimp only; rw [hi]; simp)]
    rcases hrr with ⟨_, he⟩ | ⟨h0, _⟩
    · rw [er] at he
      exact ⟨he, hb⟩
    · rw [er] at h0
      exact absurd h0 (by decide)
  have hwr : IntKind.i64.wrap ((ds.length : Int) - 1) = (ds.length : Int) - 1 := by rw [IntKind.wrap_i64] <;> omega
  have IN1 : Hid (∀ W, Calls Tryz.prog 7 #[.int .i64 i, .int .i64 0, .int .i64 ((ds.length : Int) - 1)] W fun e w' => e = .returned (.bool false) ∧ Below W.heap.size W w') := fun W => (finR i 0 ((ds.length : Int) - 1) W).mono fun e w' ⟨h1, h2⟩ => ⟨by rw [h1, hi], by rw [h2]; exact Below.refl _ _⟩
  have KC : Hid (∀ W, E3 w (.slice A ds.length cap) (.slice B ls.length cap') (i, q) ⟨s, d, sp, dp⟩ W → W.cell? ⟨w.heap.size, 0, none⟩ = some (.slice A ds.length cap) ∧ W.cell? ⟨w.heap.size, 1, none⟩ = some (.slice B ls.length cap') ∧ W.cell? ⟨w.heap.size + 1, 0, none⟩ = some (.int .i64 i) ∧ W.cell? ⟨w.heap.size + 1, 1, none⟩ = some (.int .i64 q)) := fun W h => ⟨h.n.at 0, h.n.at 1, h.t.at 0, h.t.at 1⟩
  rw [hr] at PL CK
  clear hD hL RW hr hi
  dsimp only at *
  obtain ⟨n0, n1⟩ := E0.n.two
  go_enter Tryz.func3, Tryz.ntmps3
  go_wp2_with fail
  with_reducible refine (PL.out _ E0.d).mono ?_
  rintro e w1 ⟨rfl, hb1⟩
  have E1 := KE hb1 E0
  clear hb1 E0 n0 n1 PL
  obtain ⟨n0, n1⟩ := E1.n.two
  go_wp2_with fail
  with_reducible refine (CK.out _ E1.d).mono ?_
  rintro e w2 ⟨rfl, hb2⟩
  have E2 := KE hb2 E1
  clear hb2 E1 n0 n1 CK
  obtain ⟨n0, n1⟩ := E2.n.two
  obtain ⟨t0, t1⟩ := E2.t.two
  obtain ⟨p0, p1, p2, p3, _⟩ := E2.p.four
  go_wp2_with fail
  with_reducible refine (RW'.out _ E2.d).mono ?_
  rintro e w3 ⟨rfl, hb3⟩
  have E4 := KE hb3 E2
  clear hb3 E2 n0 n1 t0 t1 p0 p1 p2 p3 RW'
  go_upto_region 6 with fail
  have E5 := KE (Below.refl _ _).drew E4
  refine wp_region_held_drew (S := (fun w' => w'.cell? ⟨w.heap.size, 0, none⟩ = some (.slice A ds.length cap) ∧ w'.cell? ⟨w.heap.size, 1, none⟩ = some (.slice B ls.length cap') ∧ w'.cell? ⟨w.heap.size + 1, 0, none⟩ = some (.int .i64 i) ∧ w'.cell? ⟨w.heap.size + 1, 1, none⟩ = some (.int .i64 q))) (by kernel_rfl) (KC.out _ (by assumption)) (fun hHeld => ?_)
  refine' tk 0 rfl (by kernel_rfl) (fun _ _ _ h => h) (by rfl) (by assumption) ?y1 ?r1
  case y1 => (intro w h; (try dsimp only at h); go_simp; (try with_reducible rfl))
  try simp only [lays]
  refine' tk 1 rfl (by kernel_rfl) (fun _ _ _ h => h) (by rfl) (by assumption) ?y2 ?r2
  case y2 => (intro w h; (try dsimp only at h); go_simp; (try with_reducible rfl))
  try simp only [lays]
  refine' tk 2 rfl (by kernel_rfl) (fun _ _ _ h => h) (by rfl) (by assumption) ?y3 ?r3
  case y3 => (intro w h; (try dsimp only at h); go_simp; (try with_reducible rfl))
  try simp only [lays]
  refine' tk 3 rfl (by kernel_rfl) (fun _ _ _ h => h) (by rfl) (by assumption) ?y4 ?r4
  case y4 => (intro w h; (try dsimp only at h); go_simp; (try with_reducible rfl))
  try simp only [lays]
  refine' tk 4 rfl (by kernel_rfl) (fun _ _ _ h => h) (by rfl) (by assumption) ?y5 ?r5
  case y5 => (intro w h; (try dsimp only at h); go_simp; (try with_reducible rfl))
  try simp only [lays]
  refine' tk 5 rfl (by kernel_rfl) (fun _ _ _ h => h) (by rfl) (by assumption) ?y6 ?r6
  case y6 => (intro w h; (try dsimp only at h); go_simp; (try with_reducible rfl))
  try simp only [lays]
  refine wpAnyH_ready (rs := [6]) (by kernel_rfl) (by simp) (AllReadyH.cons rfl (fun K hK => ?_) AllReadyH.nil)
  go_simp
  (with_reducible refine (IN1.out _).mono ?_); rintro e wz ⟨rfl, hbz⟩; have Ez := KE hbz (by assumption); clear hbz
  try go_wp2_with fail
  clear hHeld
  refine hK.out _ _ (KC.out _ (by assumption)) (fun hHeld => ?_)
  clear hK K
  try simp only [lays]
  refine' tk 7 rfl (by kernel_rfl) (fun _ _ _ h => h) (by rfl) (by assumption) ?y8 ?r8
  case y8 => (intro w h; (try dsimp only at h); go_simp; (try with_reducible rfl))
  try simp only [lays]
  refine' tk 8 rfl (by kernel_rfl) (fun _ _ _ h => h) (by rfl) (by assumption) ?y9 ?r9
  case y9 => (intro w h; (try dsimp only at h); go_simp; (try with_reducible rfl))
  try simp only [lays]
  refine' tk0 9 rfl (by kernel_rfl) (fun _ _ _ h => h) (by rfl) (by assumption) ?_
  try simp only [lays]
  refine' tk0 10 rfl (by kernel_rfl) (fun _ _ _ h => h) (by rfl) (by assumption) ?_
  try simp only [lays]
  refine' tk0 11 rfl (by kernel_rfl) (fun _ _ _ h => h) (by rfl) (by assumption) ?_
  try simp only [lays]
  refine' tk0 12 rfl (by kernel_rfl) (fun _ _ _ h => h) (by rfl) (by assumption) ?_
  try simp only [lays]
  refine' tk0 13 rfl (by kernel_rfl) (fun _ _ _ h => h) (by rfl) (by assumption) ?_
  try simp only [lays]
  refine' tk0 14 rfl (by kernel_rfl) (fun _ _ _ h => h) (by rfl) (by assumption) ?_
  try simp only [lays]
  refine' tk0 15 rfl (by kernel_rfl) (fun _ _ _ h => h) (by rfl) (by assumption) ?_
  try simp only [lays]
  refine' tk0 16 rfl (by kernel_rfl) (fun _ _ _ h => h) (by rfl) (by assumption) ?_
  try simp only [lays]
  refine' tk0 17 rfl (by kernel_rfl) (fun _ _ _ h => h) (by rfl) (by assumption) ?_
  try simp only [lays]
  refine' tk0 18 rfl (by kernel_rfl) (fun _ _ _ h => h) (by rfl) (by assumption) ?_
  try simp only [lays]
  refine' tk0 19 rfl (by kernel_rfl) (fun _ _ _ h => h) (by rfl) (by assumption) ?_
  try simp only [lays]
  refine' tk0 20 rfl (by kernel_rfl) (fun _ _ _ h => h) (by rfl) (by assumption) ?_
  try simp only [lays]
  refine' tk0 21 rfl (by kernel_rfl) (fun _ _ _ h => h) (by rfl) (by assumption) ?_
  try simp only [lays]
  refine' tk 22 rfl (by kernel_rfl) (fun _ _ _ h => h) (by rfl) (by assumption) ?y23 ?r23
  case y23 => (intro w h; (try dsimp only at h); go_simp; (try with_reducible rfl))
  try simp only [lays]
  refine' tk 23 rfl (by kernel_rfl) (fun _ _ _ h => h) (by rfl) (by assumption) ?y24 ?r24
  case y24 => (intro w h; (try dsimp only at h); go_simp; (try with_reducible rfl))
  try simp only [lays]
  refine wpAnyH_done (by kernel_rfl) ?_ _
  have D9 := Ez.d
  go_wp2_with fail
  go_ret
  exact ⟨by first | rfl | simp, D9⟩
set_option maxHeartbeats 8000000 in
set_option maxRecDepth 100000 in
theorem walks_c (A B : Option Addr) (cap cap' : Nat) (ds : List Dv) (ls : List Lk) (i q : Int) (s d sp dp : Int) (w : World) (hD : Hid (Devs w.heap.size w (.slice A ds.length cap) ds)) (hL : Hid (Links w.heap.size w (.slice B ls.length cap') ls)) (hr : ringV ds ls = 0) (hi : (decide (0 ≤ i) && decide (i ≤ (ds.length : Int) - 1)) = true) (hq : (decide (0 ≤ q) && decide (q ≤ portsV (kindAt ds i) - 1)) = false) :
    Calls Tryz.prog 3 #[.agg #[.slice A ds.length cap, .slice B ls.length cap'], plA i q, pkV ⟨s, d, sp, dp⟩] w fun e w' => e = .returned (.bool true) ∧ Below w.heap.size w w' := by
  have PL : Hid (∀ W, Below w.heap.size w W → Calls Tryz.prog 4 #[.agg #[.slice A ds.length cap, .slice B ls.length cap']] W fun e w' => e = .returned (.int .i64 (ringV ds ls)) ∧ Below W.heap.size W w') := fun W h => plain_any A B cap cap' ds ls W ((hD.out.below h).mono h.size) ((hL.out.below h).mono h.size)
  have CK : Hid (∀ W, Below w.heap.size w W → Calls Tryz.prog 5 #[.agg #[.slice A ds.length cap, .slice B ls.length cap']] W fun e w' => e = .returned (.int .i64 (ringV ds ls)) ∧ Below W.heap.size W w') := fun W h => ringCheck_any A B cap cap' ds ls W ((hD.out.below h).mono h.size) ((hL.out.below h).mono h.size)
  have RW : Hid (∀ W, Below w.heap.size w W → Calls Tryz.prog 6 #[.agg #[.slice A ds.length cap, .slice B ls.length cap'], .agg #[.int .i64 i, .int .i64 q], .agg #[.int .i64 s, .int .i64 d, .int .i64 sp, .int .i64 dp]] W (RWOut W ds ls (i, q) ⟨s, d, sp, dp⟩)) := fun W h => ringWalk_any A B cap cap' ds ls (i, q) ⟨s, d, sp, dp⟩ W ((hD.out.below h).mono h.size) ((hL.out.below h).mono h.size)
  have E0 := e3_new w (.slice A ds.length cap) (.slice B ls.length cap') (i, q) ⟨s, d, sp, dp⟩
  have KE : ∀ {W W' : World}, Below W.heap.size W W' → E3 w (.slice A ds.length cap) (.slice B ls.length cap') (i, q) ⟨s, d, sp, dp⟩ W → E3 w (.slice A ds.length cap) (.slice B ls.length cap') (i, q) ⟨s, d, sp, dp⟩ W' := fun hb h => h.keep hb
  obtain ⟨_, hc, hm⟩ := hD.out.len
  unfold maxLen at hm
  have RW' : Hid (∀ W, Below w.heap.size w W → Calls Tryz.prog 6 #[.agg #[.slice A ds.length cap, .slice B ls.length cap'], .agg #[.int .i64 i, .int .i64 q], .agg #[.int .i64 s, .int .i64 d, .int .i64 sp, .int .i64 dp]] W fun e w' => e = .returned (.tuple #[.slice none 0 0, .bool false, .int .i64 4]) ∧ Below W.heap.size W w') := fun W h => (RW.out W h).mono fun e w' ⟨hb, hrr⟩ => by
    have er : rwErr ds ls (i, q) ⟨s, d, sp, dp⟩ = 4 := by
      unfold rwErr
      rw [if_pos hr, if_neg (by rw [pl_yes]; dsimp only; rw [hi, hq]; simp)]
    rcases hrr with ⟨_, he⟩ | ⟨h0, _⟩
    · rw [er] at he
      exact ⟨he, hb⟩
    · rw [er] at h0
      exact absurd h0 (by decide)
  obtain ⟨k, rfl⟩ : ∃ k : Nat, i = (k : Int) := ⟨i.toNat, by
    simp only [Bool.and_eq_true, decide_eq_true_eq] at hi
    omega⟩
  have hkl : k < ds.length := by
    simp only [Bool.and_eq_true, decide_eq_true_eq] at hi
    omega
  obtain ⟨x, hxk⟩ : ∃ x, ds[k]? = some x := ⟨_, List.getElem?_eq_getElem hkl⟩
  have hkd : kindAt ds (k : Int) = x.kind := by
    unfold kindAt
    rw [Int.toNat_natCast, hxk]
    rfl
  rw [hkd] at hq
  obtain ⟨b, o, hA⟩ : ∃ b o, A = some ⟨b, o, none⟩ := by
    obtain ⟨b, o, _, _, _, e, _⟩ := hD.out.at hxk
    exact ⟨b, o, e⟩
  subst hA
  have HDK : Hid (∀ W, Below w.heap.size w W → W.cell? ⟨b, o + k * 7 + 1, none⟩ = some (.int .i64 x.kind)) := fun W h => by
    obtain ⟨b', o', vb, vr, vt, e, _, _, _, _, _, c1, _⟩ := (hD.out.below h).at hxk
    cases e
    exact c1
  have pb := portsV_le x.kind
  have pb0 : 0 ≤ portsV x.kind := by
    unfold portsV
    split
    · omega
    split
    · omega
    split <;> omega
  have hwp : IntKind.i64.wrap (portsV x.kind - 1) = portsV x.kind - 1 := by rw [IntKind.wrap_i64] <;> omega
  have PT : Hid (∀ W, Calls Tryz.prog 8 #[.int .i64 x.kind] W fun e w' => e = .returned (.int .i64 (portsV x.kind)) ∧ Below W.heap.size W w') := fun W => rports_any x.kind W
  have IN2 : Hid (∀ W, Calls Tryz.prog 7 #[.int .i64 q, .int .i64 0, .int .i64 (portsV x.kind - 1)] W fun e w' => e = .returned (.bool false) ∧ Below W.heap.size W w') := fun W => (finR q 0 (portsV x.kind - 1) W).mono fun e w' ⟨h1, h2⟩ => ⟨by rw [h1, hq], by rw [h2]; exact Below.refl _ _⟩
  have hwr : IntKind.i64.wrap ((ds.length : Int) - 1) = (ds.length : Int) - 1 := by rw [IntKind.wrap_i64] <;> omega
  have IN1 : Hid (∀ W, Calls Tryz.prog 7 #[.int .i64 (k : Int), .int .i64 0, .int .i64 ((ds.length : Int) - 1)] W fun e w' => e = .returned (.bool true) ∧ Below W.heap.size W w') := fun W => (finR (k : Int) 0 ((ds.length : Int) - 1) W).mono fun e w' ⟨h1, h2⟩ => ⟨by rw [h1, hi], by rw [h2]; exact Below.refl _ _⟩
  have KC : Hid (∀ W, E3 w (.slice (some ⟨b, o, none⟩) ds.length cap) (.slice B ls.length cap') ((k : Int), q) ⟨s, d, sp, dp⟩ W → W.cell? ⟨w.heap.size, 0, none⟩ = some (.slice (some ⟨b, o, none⟩) ds.length cap) ∧ W.cell? ⟨w.heap.size, 1, none⟩ = some (.slice B ls.length cap') ∧ W.cell? ⟨w.heap.size + 1, 0, none⟩ = some (.int .i64 (k : Int)) ∧ W.cell? ⟨w.heap.size + 1, 1, none⟩ = some (.int .i64 q) ∧ W.cell? ⟨b, o + k * 7 + 1, none⟩ = some (.int .i64 x.kind)) := fun W h => ⟨h.n.at 0, h.n.at 1, h.t.at 0, h.t.at 1, HDK.out W h.d⟩
  have k1 : (0 : Int) ≤ (k : Int) := by omega
  have k2 : (k : Int) < (ds.length : Int) := by omega
  rw [hr] at PL CK
  generalize x.kind = kd at *
  generalize portsV kd = pk at *
  clear hD hL RW hr hi hq HDK hxk hkd pb pb0
  dsimp only at *
  obtain ⟨n0, n1⟩ := E0.n.two
  go_enter Tryz.func3, Tryz.ntmps3
  go_wp2_with fail
  with_reducible refine (PL.out _ E0.d).mono ?_
  rintro e w1 ⟨rfl, hb1⟩
  have E1 := KE hb1 E0
  clear hb1 E0 n0 n1 PL
  obtain ⟨n0, n1⟩ := E1.n.two
  go_wp2_with fail
  with_reducible refine (CK.out _ E1.d).mono ?_
  rintro e w2 ⟨rfl, hb2⟩
  have E2 := KE hb2 E1
  clear hb2 E1 n0 n1 CK
  obtain ⟨n0, n1⟩ := E2.n.two
  obtain ⟨t0, t1⟩ := E2.t.two
  obtain ⟨p0, p1, p2, p3, _⟩ := E2.p.four
  go_wp2_with fail
  with_reducible refine (RW'.out _ E2.d).mono ?_
  rintro e w3 ⟨rfl, hb3⟩
  have E4 := KE hb3 E2
  clear hb3 E2 n0 n1 t0 t1 p0 p1 p2 p3 RW'
  go_upto_region 6 with fail
  have E5 := KE (Below.refl _ _).drew E4
  refine wp_region_held_drew (S := (fun w' => w'.cell? ⟨w.heap.size, 0, none⟩ = some (.slice (some ⟨b, o, none⟩) ds.length cap) ∧ w'.cell? ⟨w.heap.size, 1, none⟩ = some (.slice B ls.length cap') ∧ w'.cell? ⟨w.heap.size + 1, 0, none⟩ = some (.int .i64 (k : Int)) ∧ w'.cell? ⟨w.heap.size + 1, 1, none⟩ = some (.int .i64 q) ∧ w'.cell? ⟨b, o + k * 7 + 1, none⟩ = some (.int .i64 kd))) (by kernel_rfl) (KC.out _ (by assumption)) (fun hHeld => ?_)
  refine' tk 0 rfl (by kernel_rfl) (fun _ _ _ h => h) (by rfl) (by assumption) ?y26 ?r26
  case y26 => (intro w h; (try dsimp only at h); go_simp; (try with_reducible rfl))
  try simp only [lays]
  refine' tk 1 rfl (by kernel_rfl) (fun _ _ _ h => h) (by rfl) (by assumption) ?y27 ?r27
  case y27 => (intro w h; (try dsimp only at h); go_simp; (try with_reducible rfl))
  try simp only [lays]
  refine' tk 2 rfl (by kernel_rfl) (fun _ _ _ h => h) (by rfl) (by assumption) ?y28 ?r28
  case y28 => (intro w h; (try dsimp only at h); go_simp; (try with_reducible rfl))
  try simp only [lays]
  refine' tk 3 rfl (by kernel_rfl) (fun _ _ _ h => h) (by rfl) (by assumption) ?y29 ?r29
  case y29 => (intro w h; (try dsimp only at h); go_simp; (try with_reducible rfl))
  try simp only [lays]
  refine' tk 4 rfl (by kernel_rfl) (fun _ _ _ h => h) (by rfl) (by assumption) ?y30 ?r30
  case y30 => (intro w h; (try dsimp only at h); go_simp; (try with_reducible rfl))
  try simp only [lays]
  refine' tk 5 rfl (by kernel_rfl) (fun _ _ _ h => h) (by rfl) (by assumption) ?y31 ?r31
  case y31 => (intro w h; (try dsimp only at h); go_simp; (try with_reducible rfl))
  try simp only [lays]
  refine wpAnyH_ready (rs := [6]) (by kernel_rfl) (by simp) (AllReadyH.cons rfl (fun K hK => ?_) AllReadyH.nil)
  go_simp
  (with_reducible refine (IN1.out _).mono ?_); rintro e wz ⟨rfl, hbz⟩; have Ez := KE hbz (by assumption); clear hbz
  try go_wp2_with fail
  clear hHeld
  refine hK.out _ _ (KC.out _ (by assumption)) (fun hHeld => ?_)
  clear hK K
  try simp only [lays]
  refine' tk 7 rfl (by kernel_rfl) (fun _ _ _ h => h) (by rfl) (by assumption) ?y33 ?r33
  case y33 => (intro w h; (try dsimp only at h); go_simp; (try with_reducible rfl))
  try simp only [lays]
  refine' tk 8 rfl (by kernel_rfl) (fun _ _ _ h => h) (by rfl) (by assumption) ?y34 ?r34
  case y34 => (intro w h; (try dsimp only at h); go_simp; (try with_reducible rfl))
  try simp only [lays]
  refine' tk 9 rfl (by kernel_rfl) (fun _ _ _ h => h) (by rfl) (by assumption) ?y35 ?r35
  case y35 => (intro w h; (try dsimp only at h); go_simp; (try with_reducible rfl))
  try simp only [lays]
  refine' tk 10 rfl (by kernel_rfl) (fun _ _ _ h => h) (by rfl) (by assumption) ?y36 ?r36
  case y36 => (intro w h; (try dsimp only at h); go_simp; (try with_reducible rfl))
  try simp only [lays]
  refine' tk 11 rfl (by kernel_rfl) (fun _ _ _ h => h) (by rfl) (by assumption) ?y37 ?r37
  case y37 => (intro w h; (try dsimp only at h); go_simp; (try with_reducible rfl))
  try simp only [lays]
  refine' tk 12 rfl (by kernel_rfl) (fun _ _ _ h => h) (by rfl) (by assumption) ?y38 ?r38
  case y38 => (intro w h; (try dsimp only at h); go_simp; (try with_reducible rfl))
  try simp only [lays]
  refine' tk 13 rfl (by kernel_rfl) (fun _ _ _ h => h) (by rfl) (by assumption) ?y39 ?r39
  case y39 => (intro w h; (try dsimp only at h); go_simp; (try with_reducible rfl))
  try simp only [lays]
  refine' tk 14 rfl (by kernel_rfl) (fun _ _ _ h => h) (by rfl) (by assumption) ?y40 ?r40
  case y40 => (intro w h; (try dsimp only at h); go_simp; (try with_reducible rfl))
  try simp only [lays]
  refine' tk 15 rfl (by kernel_rfl) (fun _ _ _ h => h) (by rfl) (by assumption) ?y41 ?r41
  case y41 => (intro w h; (try dsimp only at h); go_simp; (try with_reducible rfl))
  try simp only [lays]
  refine' tk 16 rfl (by kernel_rfl) (fun _ _ _ h => h) (by rfl) (by assumption) ?y42 ?r42
  case y42 => (intro w h; (try dsimp only at h); go_simp; (try with_reducible rfl))
  try simp only [lays]
  refine' tk 17 rfl (by kernel_rfl) (fun _ _ _ h => h) (by rfl) (by assumption) ?y43 ?r43
  case y43 => (intro w h; (try dsimp only at h); go_simp; (try with_reducible rfl))
  try simp only [lays]
  refine wpAnyH_ready (rs := [18]) (by kernel_rfl) (by simp) (AllReadyH.cons rfl (fun K hK => ?_) AllReadyH.nil)
  go_simp
  (with_reducible refine (PT.out _).mono ?_); rintro e wz ⟨rfl, hbz⟩; have Ez := KE hbz (by assumption); clear hbz
  try go_wp2_with fail
  clear hHeld
  refine hK.out _ _ (KC.out _ (by assumption)) (fun hHeld => ?_)
  clear hK K
  try simp only [lays]
  refine' tk 19 rfl (by kernel_rfl) (fun _ _ _ h => h) (by rfl) (by assumption) ?y45 ?r45
  case y45 => (intro w h; (try dsimp only at h); go_simp; (try with_reducible rfl))
  try simp only [lays]
  refine wpAnyH_ready (rs := [20]) (by kernel_rfl) (by simp) (AllReadyH.cons rfl (fun K hK => ?_) AllReadyH.nil)
  go_simp
  (with_reducible refine (IN2.out _).mono ?_); rintro e wz ⟨rfl, hbz⟩; have Ez := KE hbz (by assumption); clear hbz
  try go_wp2_with fail
  clear hHeld
  refine hK.out _ _ (KC.out _ (by assumption)) (fun hHeld => ?_)
  clear hK K
  try simp only [lays]
  refine' tk 21 rfl (by kernel_rfl) (fun _ _ _ h => h) (by rfl) (by assumption) ?y47 ?r47
  case y47 => (intro w h; (try dsimp only at h); go_simp; (try with_reducible rfl))
  try simp only [lays]
  refine' tk 22 rfl (by kernel_rfl) (fun _ _ _ h => h) (by rfl) (by assumption) ?y48 ?r48
  case y48 => (intro w h; (try dsimp only at h); go_simp; (try with_reducible rfl))
  try simp only [lays]
  refine' tk 23 rfl (by kernel_rfl) (fun _ _ _ h => h) (by rfl) (by assumption) ?y49 ?r49
  case y49 => (intro w h; (try dsimp only at h); go_simp; (try with_reducible rfl))
  try simp only [lays]
  refine wpAnyH_done (by kernel_rfl) ?_ _
  have D9 := Ez.d
  go_wp2_with fail
  go_ret
  exact ⟨by first | rfl | simp, D9⟩
set_option maxHeartbeats 8000000 in
set_option maxRecDepth 100000 in
theorem walks_d (A B : Option Addr) (cap cap' : Nat) (ds : List Dv) (ls : List Lk) (i q : Int) (s d sp dp : Int) (w : World) (hD : Hid (Devs w.heap.size w (.slice A ds.length cap) ds)) (hL : Hid (Links w.heap.size w (.slice B ls.length cap') ls)) (hr : ringV ds ls = 0) (hi : (decide (0 ≤ i) && decide (i ≤ (ds.length : Int) - 1)) = true) (hq : (decide (0 ≤ q) && decide (q ≤ portsV (kindAt ds i) - 1)) = true) (hp : pkOk ⟨s, d, sp, dp⟩ = false) :
    Calls Tryz.prog 3 #[.agg #[.slice A ds.length cap, .slice B ls.length cap'], plA i q, pkV ⟨s, d, sp, dp⟩] w fun e w' => e = .returned (.bool true) ∧ Below w.heap.size w w' := by
  have PL : Hid (∀ W, Below w.heap.size w W → Calls Tryz.prog 4 #[.agg #[.slice A ds.length cap, .slice B ls.length cap']] W fun e w' => e = .returned (.int .i64 (ringV ds ls)) ∧ Below W.heap.size W w') := fun W h => plain_any A B cap cap' ds ls W ((hD.out.below h).mono h.size) ((hL.out.below h).mono h.size)
  have CK : Hid (∀ W, Below w.heap.size w W → Calls Tryz.prog 5 #[.agg #[.slice A ds.length cap, .slice B ls.length cap']] W fun e w' => e = .returned (.int .i64 (ringV ds ls)) ∧ Below W.heap.size W w') := fun W h => ringCheck_any A B cap cap' ds ls W ((hD.out.below h).mono h.size) ((hL.out.below h).mono h.size)
  have RW : Hid (∀ W, Below w.heap.size w W → Calls Tryz.prog 6 #[.agg #[.slice A ds.length cap, .slice B ls.length cap'], .agg #[.int .i64 i, .int .i64 q], .agg #[.int .i64 s, .int .i64 d, .int .i64 sp, .int .i64 dp]] W (RWOut W ds ls (i, q) ⟨s, d, sp, dp⟩)) := fun W h => ringWalk_any A B cap cap' ds ls (i, q) ⟨s, d, sp, dp⟩ W ((hD.out.below h).mono h.size) ((hL.out.below h).mono h.size)
  have E0 := e3_new w (.slice A ds.length cap) (.slice B ls.length cap') (i, q) ⟨s, d, sp, dp⟩
  have KE : ∀ {W W' : World}, Below W.heap.size W W' → E3 w (.slice A ds.length cap) (.slice B ls.length cap') (i, q) ⟨s, d, sp, dp⟩ W → E3 w (.slice A ds.length cap) (.slice B ls.length cap') (i, q) ⟨s, d, sp, dp⟩ W' := fun hb h => h.keep hb
  obtain ⟨_, hc, hm⟩ := hD.out.len
  unfold maxLen at hm
  have RW' : Hid (∀ W, Below w.heap.size w W → Calls Tryz.prog 6 #[.agg #[.slice A ds.length cap, .slice B ls.length cap'], .agg #[.int .i64 i, .int .i64 q], .agg #[.int .i64 s, .int .i64 d, .int .i64 sp, .int .i64 dp]] W fun e w' => e = .returned (.tuple #[.slice none 0 0, .bool false, .int .i64 1]) ∧ Below W.heap.size W w') := fun W h => (RW.out W h).mono fun e w' ⟨hb, hrr⟩ => by
    have er : rwErr ds ls (i, q) ⟨s, d, sp, dp⟩ = 1 := by
      unfold rwErr
      rw [if_pos hr, if_pos (by rw [pl_yes]; dsimp only; rw [hi, hq]; rfl), if_neg (by rw [hp]; simp)]
    rcases hrr with ⟨_, he⟩ | ⟨h0, _⟩
    · rw [er] at he
      exact ⟨he, hb⟩
    · rw [er] at h0
      exact absurd h0 (by decide)
  have RT : Hid (∀ W, Calls Tryz.prog 9 #[.agg #[.int .i64 s, .int .i64 d, .int .i64 sp, .int .i64 dp]] W fun e w' => e = .returned (.bool false) ∧ Below W.heap.size W w') := fun W => (right_M ⟨s, d, sp, dp⟩ W).mono fun e w' ⟨h1, h2⟩ => ⟨by rw [h1, hp], h2⟩
  obtain ⟨k, rfl⟩ : ∃ k : Nat, i = (k : Int) := ⟨i.toNat, by
    simp only [Bool.and_eq_true, decide_eq_true_eq] at hi
    omega⟩
  have hkl : k < ds.length := by
    simp only [Bool.and_eq_true, decide_eq_true_eq] at hi
    omega
  obtain ⟨x, hxk⟩ : ∃ x, ds[k]? = some x := ⟨_, List.getElem?_eq_getElem hkl⟩
  have hkd : kindAt ds (k : Int) = x.kind := by
    unfold kindAt
    rw [Int.toNat_natCast, hxk]
    rfl
  rw [hkd] at hq
  obtain ⟨b, o, hA⟩ : ∃ b o, A = some ⟨b, o, none⟩ := by
    obtain ⟨b, o, _, _, _, e, _⟩ := hD.out.at hxk
    exact ⟨b, o, e⟩
  subst hA
  have HDK : Hid (∀ W, Below w.heap.size w W → W.cell? ⟨b, o + k * 7 + 1, none⟩ = some (.int .i64 x.kind)) := fun W h => by
    obtain ⟨b', o', vb, vr, vt, e, _, _, _, _, _, c1, _⟩ := (hD.out.below h).at hxk
    cases e
    exact c1
  have pb := portsV_le x.kind
  have pb0 : 0 ≤ portsV x.kind := by
    unfold portsV
    split
    · omega
    split
    · omega
    split <;> omega
  have hwp : IntKind.i64.wrap (portsV x.kind - 1) = portsV x.kind - 1 := by rw [IntKind.wrap_i64] <;> omega
  have PT : Hid (∀ W, Calls Tryz.prog 8 #[.int .i64 x.kind] W fun e w' => e = .returned (.int .i64 (portsV x.kind)) ∧ Below W.heap.size W w') := fun W => rports_any x.kind W
  have IN2 : Hid (∀ W, Calls Tryz.prog 7 #[.int .i64 q, .int .i64 0, .int .i64 (portsV x.kind - 1)] W fun e w' => e = .returned (.bool true) ∧ Below W.heap.size W w') := fun W => (finR q 0 (portsV x.kind - 1) W).mono fun e w' ⟨h1, h2⟩ => ⟨by rw [h1, hq], by rw [h2]; exact Below.refl _ _⟩
  have hwr : IntKind.i64.wrap ((ds.length : Int) - 1) = (ds.length : Int) - 1 := by rw [IntKind.wrap_i64] <;> omega
  have IN1 : Hid (∀ W, Calls Tryz.prog 7 #[.int .i64 (k : Int), .int .i64 0, .int .i64 ((ds.length : Int) - 1)] W fun e w' => e = .returned (.bool true) ∧ Below W.heap.size W w') := fun W => (finR (k : Int) 0 ((ds.length : Int) - 1) W).mono fun e w' ⟨h1, h2⟩ => ⟨by rw [h1, hi], by rw [h2]; exact Below.refl _ _⟩
  have KC : Hid (∀ W, E3 w (.slice (some ⟨b, o, none⟩) ds.length cap) (.slice B ls.length cap') ((k : Int), q) ⟨s, d, sp, dp⟩ W → W.cell? ⟨w.heap.size, 0, none⟩ = some (.slice (some ⟨b, o, none⟩) ds.length cap) ∧ W.cell? ⟨w.heap.size, 1, none⟩ = some (.slice B ls.length cap') ∧ W.cell? ⟨w.heap.size + 1, 0, none⟩ = some (.int .i64 (k : Int)) ∧ W.cell? ⟨w.heap.size + 1, 1, none⟩ = some (.int .i64 q) ∧ W.cell? ⟨b, o + k * 7 + 1, none⟩ = some (.int .i64 x.kind)) := fun W h => ⟨h.n.at 0, h.n.at 1, h.t.at 0, h.t.at 1, HDK.out W h.d⟩
  have k1 : (0 : Int) ≤ (k : Int) := by omega
  have k2 : (k : Int) < (ds.length : Int) := by omega
  rw [hr] at PL CK
  generalize x.kind = kd at *
  generalize portsV kd = pk at *
  clear hD hL RW hr hi hq HDK hxk hkd pb pb0 hp
  dsimp only at *
  obtain ⟨n0, n1⟩ := E0.n.two
  go_enter Tryz.func3, Tryz.ntmps3
  go_wp2_with fail
  with_reducible refine (PL.out _ E0.d).mono ?_
  rintro e w1 ⟨rfl, hb1⟩
  have E1 := KE hb1 E0
  clear hb1 E0 n0 n1 PL
  obtain ⟨n0, n1⟩ := E1.n.two
  go_wp2_with fail
  with_reducible refine (CK.out _ E1.d).mono ?_
  rintro e w2 ⟨rfl, hb2⟩
  have E2 := KE hb2 E1
  clear hb2 E1 n0 n1 CK
  obtain ⟨n0, n1⟩ := E2.n.two
  obtain ⟨t0, t1⟩ := E2.t.two
  obtain ⟨p0, p1, p2, p3, _⟩ := E2.p.four
  go_wp2_with fail
  with_reducible refine (RW'.out _ E2.d).mono ?_
  rintro e w3 ⟨rfl, hb3⟩
  have E4 := KE hb3 E2
  clear hb3 E2 n0 n1 t0 t1 p0 p1 p2 p3 RW'
  go_upto_region 6 with fail
  have E5 := KE (Below.refl _ _).drew E4
  refine wp_region_held_drew (S := (fun w' => w'.cell? ⟨w.heap.size, 0, none⟩ = some (.slice (some ⟨b, o, none⟩) ds.length cap) ∧ w'.cell? ⟨w.heap.size, 1, none⟩ = some (.slice B ls.length cap') ∧ w'.cell? ⟨w.heap.size + 1, 0, none⟩ = some (.int .i64 (k : Int)) ∧ w'.cell? ⟨w.heap.size + 1, 1, none⟩ = some (.int .i64 q) ∧ w'.cell? ⟨b, o + k * 7 + 1, none⟩ = some (.int .i64 kd))) (by kernel_rfl) (KC.out _ (by assumption)) (fun hHeld => ?_)
  refine' tk 0 rfl (by kernel_rfl) (fun _ _ _ h => h) (by rfl) (by assumption) ?y51 ?r51
  case y51 => (intro w h; (try dsimp only at h); go_simp; (try with_reducible rfl))
  try simp only [lays]
  refine' tk 1 rfl (by kernel_rfl) (fun _ _ _ h => h) (by rfl) (by assumption) ?y52 ?r52
  case y52 => (intro w h; (try dsimp only at h); go_simp; (try with_reducible rfl))
  try simp only [lays]
  refine' tk 2 rfl (by kernel_rfl) (fun _ _ _ h => h) (by rfl) (by assumption) ?y53 ?r53
  case y53 => (intro w h; (try dsimp only at h); go_simp; (try with_reducible rfl))
  try simp only [lays]
  refine' tk 3 rfl (by kernel_rfl) (fun _ _ _ h => h) (by rfl) (by assumption) ?y54 ?r54
  case y54 => (intro w h; (try dsimp only at h); go_simp; (try with_reducible rfl))
  try simp only [lays]
  refine' tk 4 rfl (by kernel_rfl) (fun _ _ _ h => h) (by rfl) (by assumption) ?y55 ?r55
  case y55 => (intro w h; (try dsimp only at h); go_simp; (try with_reducible rfl))
  try simp only [lays]
  refine' tk 5 rfl (by kernel_rfl) (fun _ _ _ h => h) (by rfl) (by assumption) ?y56 ?r56
  case y56 => (intro w h; (try dsimp only at h); go_simp; (try with_reducible rfl))
  try simp only [lays]
  refine wpAnyH_ready (rs := [6]) (by kernel_rfl) (by simp) (AllReadyH.cons rfl (fun K hK => ?_) AllReadyH.nil)
  go_simp
  (with_reducible refine (IN1.out _).mono ?_); rintro e wz ⟨rfl, hbz⟩; have Ez := KE hbz (by assumption); clear hbz
  try go_wp2_with fail
  clear hHeld
  refine hK.out _ _ (KC.out _ (by assumption)) (fun hHeld => ?_)
  clear hK K
  try simp only [lays]
  refine' tk 7 rfl (by kernel_rfl) (fun _ _ _ h => h) (by rfl) (by assumption) ?y58 ?r58
  case y58 => (intro w h; (try dsimp only at h); go_simp; (try with_reducible rfl))
  try simp only [lays]
  refine' tk 8 rfl (by kernel_rfl) (fun _ _ _ h => h) (by rfl) (by assumption) ?y59 ?r59
  case y59 => (intro w h; (try dsimp only at h); go_simp; (try with_reducible rfl))
  try simp only [lays]
  refine' tk 9 rfl (by kernel_rfl) (fun _ _ _ h => h) (by rfl) (by assumption) ?y60 ?r60
  case y60 => (intro w h; (try dsimp only at h); go_simp; (try with_reducible rfl))
  try simp only [lays]
  refine' tk 10 rfl (by kernel_rfl) (fun _ _ _ h => h) (by rfl) (by assumption) ?y61 ?r61
  case y61 => (intro w h; (try dsimp only at h); go_simp; (try with_reducible rfl))
  try simp only [lays]
  refine' tk 11 rfl (by kernel_rfl) (fun _ _ _ h => h) (by rfl) (by assumption) ?y62 ?r62
  case y62 => (intro w h; (try dsimp only at h); go_simp; (try with_reducible rfl))
  try simp only [lays]
  refine' tk 12 rfl (by kernel_rfl) (fun _ _ _ h => h) (by rfl) (by assumption) ?y63 ?r63
  case y63 => (intro w h; (try dsimp only at h); go_simp; (try with_reducible rfl))
  try simp only [lays]
  refine' tk 13 rfl (by kernel_rfl) (fun _ _ _ h => h) (by rfl) (by assumption) ?y64 ?r64
  case y64 => (intro w h; (try dsimp only at h); go_simp; (try with_reducible rfl))
  try simp only [lays]
  refine' tk 14 rfl (by kernel_rfl) (fun _ _ _ h => h) (by rfl) (by assumption) ?y65 ?r65
  case y65 => (intro w h; (try dsimp only at h); go_simp; (try with_reducible rfl))
  try simp only [lays]
  refine' tk 15 rfl (by kernel_rfl) (fun _ _ _ h => h) (by rfl) (by assumption) ?y66 ?r66
  case y66 => (intro w h; (try dsimp only at h); go_simp; (try with_reducible rfl))
  try simp only [lays]
  refine' tk 16 rfl (by kernel_rfl) (fun _ _ _ h => h) (by rfl) (by assumption) ?y67 ?r67
  case y67 => (intro w h; (try dsimp only at h); go_simp; (try with_reducible rfl))
  try simp only [lays]
  refine' tk 17 rfl (by kernel_rfl) (fun _ _ _ h => h) (by rfl) (by assumption) ?y68 ?r68
  case y68 => (intro w h; (try dsimp only at h); go_simp; (try with_reducible rfl))
  try simp only [lays]
  refine wpAnyH_ready (rs := [18]) (by kernel_rfl) (by simp) (AllReadyH.cons rfl (fun K hK => ?_) AllReadyH.nil)
  go_simp
  (with_reducible refine (PT.out _).mono ?_); rintro e wz ⟨rfl, hbz⟩; have Ez := KE hbz (by assumption); clear hbz
  try go_wp2_with fail
  clear hHeld
  refine hK.out _ _ (KC.out _ (by assumption)) (fun hHeld => ?_)
  clear hK K
  try simp only [lays]
  refine' tk 19 rfl (by kernel_rfl) (fun _ _ _ h => h) (by rfl) (by assumption) ?y70 ?r70
  case y70 => (intro w h; (try dsimp only at h); go_simp; (try with_reducible rfl))
  try simp only [lays]
  refine wpAnyH_ready (rs := [20]) (by kernel_rfl) (by simp) (AllReadyH.cons rfl (fun K hK => ?_) AllReadyH.nil)
  go_simp
  (with_reducible refine (IN2.out _).mono ?_); rintro e wz ⟨rfl, hbz⟩; have Ez := KE hbz (by assumption); clear hbz
  try go_wp2_with fail
  clear hHeld
  refine hK.out _ _ (KC.out _ (by assumption)) (fun hHeld => ?_)
  clear hK K
  try simp only [lays]
  refine' tk 21 rfl (by kernel_rfl) (fun _ _ _ h => h) (by rfl) (by assumption) ?y72 ?r72
  case y72 => (intro w h; (try dsimp only at h); go_simp; (try with_reducible rfl))
  try simp only [lays]
  refine' tk 22 rfl (by kernel_rfl) (fun _ _ _ h => h) (by rfl) (by assumption) ?y73 ?r73
  case y73 => (intro w h; (try dsimp only at h); go_simp; (try with_reducible rfl))
  try simp only [lays]
  refine' tk 23 rfl (by kernel_rfl) (fun _ _ _ h => h) (by rfl) (by assumption) ?y74 ?r74
  case y74 => (intro w h; (try dsimp only at h); go_simp; (try with_reducible rfl))
  try simp only [lays]
  refine wpAnyH_done (by kernel_rfl) ?_ _
  have E9 := Ez
  obtain ⟨p0, p1, p2, p3, _⟩ := E9.p.four
  dsimp only at *
  go_wp2_with fail
  with_reducible refine (RT.out _).mono ?_
  rintro e wr ⟨rfl, hbr⟩
  have E10 := KE hbr E9
  clear p0 p1 p2 p3 hbr
  have D9 := E10.d
  go_wp2_with fail
  go_ret
  exact ⟨by first | rfl | simp, D9⟩
set_option maxHeartbeats 8000000 in
set_option maxRecDepth 100000 in
theorem walks_e (A B : Option Addr) (cap cap' : Nat) (ds : List Dv) (ls : List Lk) (i q : Int) (s d sp dp : Int) (w : World) (hD : Hid (Devs w.heap.size w (.slice A ds.length cap) ds)) (hL : Hid (Links w.heap.size w (.slice B ls.length cap') ls)) (hr : ringV ds ls = 0) (hi : (decide (0 ≤ i) && decide (i ≤ (ds.length : Int) - 1)) = true) (hq : (decide (0 ≤ q) && decide (q ≤ portsV (kindAt ds i) - 1)) = true) (hp : pkOk ⟨s, d, sp, dp⟩ = true) :
    Calls Tryz.prog 3 #[.agg #[.slice A ds.length cap, .slice B ls.length cap'], plA i q, pkV ⟨s, d, sp, dp⟩] w fun e w' => e = .returned (.bool true) ∧ Below w.heap.size w w' := by
  have PL : Hid (∀ W, Below w.heap.size w W → Calls Tryz.prog 4 #[.agg #[.slice A ds.length cap, .slice B ls.length cap']] W fun e w' => e = .returned (.int .i64 (ringV ds ls)) ∧ Below W.heap.size W w') := fun W h => plain_any A B cap cap' ds ls W ((hD.out.below h).mono h.size) ((hL.out.below h).mono h.size)
  have CK : Hid (∀ W, Below w.heap.size w W → Calls Tryz.prog 5 #[.agg #[.slice A ds.length cap, .slice B ls.length cap']] W fun e w' => e = .returned (.int .i64 (ringV ds ls)) ∧ Below W.heap.size W w') := fun W h => ringCheck_any A B cap cap' ds ls W ((hD.out.below h).mono h.size) ((hL.out.below h).mono h.size)
  have RW : Hid (∀ W, Below w.heap.size w W → Calls Tryz.prog 6 #[.agg #[.slice A ds.length cap, .slice B ls.length cap'], .agg #[.int .i64 i, .int .i64 q], .agg #[.int .i64 s, .int .i64 d, .int .i64 sp, .int .i64 dp]] W (RWOut W ds ls (i, q) ⟨s, d, sp, dp⟩)) := fun W h => ringWalk_any A B cap cap' ds ls (i, q) ⟨s, d, sp, dp⟩ W ((hD.out.below h).mono h.size) ((hL.out.below h).mono h.size)
  have E0 := e3_new w (.slice A ds.length cap) (.slice B ls.length cap') (i, q) ⟨s, d, sp, dp⟩
  have KE : ∀ {W W' : World}, Below W.heap.size W W' → E3 w (.slice A ds.length cap) (.slice B ls.length cap') (i, q) ⟨s, d, sp, dp⟩ W → E3 w (.slice A ds.length cap) (.slice B ls.length cap') (i, q) ⟨s, d, sp, dp⟩ W' := fun hb h => h.keep hb
  obtain ⟨_, hc, hm⟩ := hD.out.len
  unfold maxLen at hm
  have RW' : Hid (∀ W, Below w.heap.size w W → Calls Tryz.prog 6 #[.agg #[.slice A ds.length cap, .slice B ls.length cap'], .agg #[.int .i64 i, .int .i64 q], .agg #[.int .i64 s, .int .i64 d, .int .i64 sp, .int .i64 dp]] W fun e w' => ∃ A1 c1, e = .returned (.tuple #[.slice A1 (wayP ds ls ⟨s, d, sp, dp⟩ (i, q)).1.length c1, .bool (wayP ds ls ⟨s, d, sp, dp⟩ (i, q)).2, .int .i64 0]) ∧ Hid (SlAt w'.heap.size w' 2 IsPlc (.slice A1 (wayP ds ls ⟨s, d, sp, dp⟩ (i, q)).1.length c1) (wayP ds ls ⟨s, d, sp, dp⟩ (i, q)).1) ∧ Below W.heap.size W w') := fun W h => (RW.out W h).mono fun e w' ⟨hb, hr'⟩ => by
    have er : rwErr ds ls (i, q) ⟨s, d, sp, dp⟩ = 0 := by
      unfold rwErr
      rw [if_pos hr, if_pos (by rw [pl_yes]; dsimp only; rw [hi, hq]; rfl), if_pos hp]
    rcases hr' with ⟨h0, _⟩ | ⟨_, A1, c1, he, hs, _⟩
    · exact absurd er h0
    · exact ⟨A1, c1, he, hs, hb⟩
  have ZW : Hid (∀ W, Below w.heap.size w W → Calls Tryz.prog 10 #[.agg #[.slice A ds.length cap, .slice B ls.length cap'], .agg #[.int .i64 i, .int .i64 q], .agg #[.int .i64 s, .int .i64 d, .int .i64 sp, .int .i64 dp]] W fun e w' => ∃ A1 c1, e = .returned (.tuple #[.slice A1 (wayP ds ls ⟨s, d, sp, dp⟩ (i, q)).1.length c1, .bool (wayP ds ls ⟨s, d, sp, dp⟩ (i, q)).2]) ∧ Hid (SlAt w'.heap.size w' 2 IsPlc (.slice A1 (wayP ds ls ⟨s, d, sp, dp⟩ (i, q)).1.length c1) (wayP ds ls ⟨s, d, sp, dp⟩ (i, q)).1) ∧ Below W.heap.size W w') := fun W h => zwalk_any A B cap cap' ds ls (i, q) ⟨s, d, sp, dp⟩ W ((hD.out.below h).mono h.size) ((hL.out.below h).mono h.size) (ringV_zero hr).1 (ringV_zero hr).2 (by show _ = _; rw [pl_yes]; dsimp only; rw [hi, hq]; rfl) hp
  have RT : Hid (∀ W, Calls Tryz.prog 9 #[.agg #[.int .i64 s, .int .i64 d, .int .i64 sp, .int .i64 dp]] W fun e w' => e = .returned (.bool true) ∧ Below W.heap.size W w') := fun W => (right_M ⟨s, d, sp, dp⟩ W).mono fun e w' ⟨h1, h2⟩ => ⟨by rw [h1, hp], h2⟩
  obtain ⟨k, rfl⟩ : ∃ k : Nat, i = (k : Int) := ⟨i.toNat, by
    simp only [Bool.and_eq_true, decide_eq_true_eq] at hi
    omega⟩
  have hkl : k < ds.length := by
    simp only [Bool.and_eq_true, decide_eq_true_eq] at hi
    omega
  obtain ⟨x, hxk⟩ : ∃ x, ds[k]? = some x := ⟨_, List.getElem?_eq_getElem hkl⟩
  have hkd : kindAt ds (k : Int) = x.kind := by
    unfold kindAt
    rw [Int.toNat_natCast, hxk]
    rfl
  rw [hkd] at hq
  obtain ⟨b, o, hA⟩ : ∃ b o, A = some ⟨b, o, none⟩ := by
    obtain ⟨b, o, _, _, _, e, _⟩ := hD.out.at hxk
    exact ⟨b, o, e⟩
  subst hA
  have HDK : Hid (∀ W, Below w.heap.size w W → W.cell? ⟨b, o + k * 7 + 1, none⟩ = some (.int .i64 x.kind)) := fun W h => by
    obtain ⟨b', o', vb, vr, vt, e, _, _, _, _, _, c1, _⟩ := (hD.out.below h).at hxk
    cases e
    exact c1
  have pb := portsV_le x.kind
  have pb0 : 0 ≤ portsV x.kind := by
    unfold portsV
    split
    · omega
    split
    · omega
    split <;> omega
  have hwp : IntKind.i64.wrap (portsV x.kind - 1) = portsV x.kind - 1 := by rw [IntKind.wrap_i64] <;> omega
  have PT : Hid (∀ W, Calls Tryz.prog 8 #[.int .i64 x.kind] W fun e w' => e = .returned (.int .i64 (portsV x.kind)) ∧ Below W.heap.size W w') := fun W => rports_any x.kind W
  have IN2 : Hid (∀ W, Calls Tryz.prog 7 #[.int .i64 q, .int .i64 0, .int .i64 (portsV x.kind - 1)] W fun e w' => e = .returned (.bool true) ∧ Below W.heap.size W w') := fun W => (finR q 0 (portsV x.kind - 1) W).mono fun e w' ⟨h1, h2⟩ => ⟨by rw [h1, hq], by rw [h2]; exact Below.refl _ _⟩
  have hwr : IntKind.i64.wrap ((ds.length : Int) - 1) = (ds.length : Int) - 1 := by rw [IntKind.wrap_i64] <;> omega
  have IN1 : Hid (∀ W, Calls Tryz.prog 7 #[.int .i64 (k : Int), .int .i64 0, .int .i64 ((ds.length : Int) - 1)] W fun e w' => e = .returned (.bool true) ∧ Below W.heap.size W w') := fun W => (finR (k : Int) 0 ((ds.length : Int) - 1) W).mono fun e w' ⟨h1, h2⟩ => ⟨by rw [h1, hi], by rw [h2]; exact Below.refl _ _⟩
  have KC : Hid (∀ W, E3 w (.slice (some ⟨b, o, none⟩) ds.length cap) (.slice B ls.length cap') ((k : Int), q) ⟨s, d, sp, dp⟩ W → W.cell? ⟨w.heap.size, 0, none⟩ = some (.slice (some ⟨b, o, none⟩) ds.length cap) ∧ W.cell? ⟨w.heap.size, 1, none⟩ = some (.slice B ls.length cap') ∧ W.cell? ⟨w.heap.size + 1, 0, none⟩ = some (.int .i64 (k : Int)) ∧ W.cell? ⟨w.heap.size + 1, 1, none⟩ = some (.int .i64 q) ∧ W.cell? ⟨b, o + k * 7 + 1, none⟩ = some (.int .i64 x.kind)) := fun W h => ⟨h.n.at 0, h.n.at 1, h.t.at 0, h.t.at 1, HDK.out W h.d⟩
  have k1 : (0 : Int) ≤ (k : Int) := by omega
  have k2 : (k : Int) < (ds.length : Int) := by omega
  rw [hr] at PL CK
  generalize x.kind = kd at *
  generalize portsV kd = pk at *
  generalize (wayP ds ls ⟨s, d, sp, dp⟩ ((k : Int), q)).1 = l at *
  generalize (wayP ds ls ⟨s, d, sp, dp⟩ ((k : Int), q)).2 = r at *
  clear hD hL RW hr hi hq HDK hxk hkd pb pb0 hp
  dsimp only at *
  obtain ⟨n0, n1⟩ := E0.n.two
  go_enter Tryz.func3, Tryz.ntmps3
  go_wp2_with fail
  with_reducible refine (PL.out _ E0.d).mono ?_
  rintro e w1 ⟨rfl, hb1⟩
  have E1 := KE hb1 E0
  clear hb1 E0 n0 n1 PL
  obtain ⟨n0, n1⟩ := E1.n.two
  go_wp2_with fail
  with_reducible refine (CK.out _ E1.d).mono ?_
  rintro e w2 ⟨rfl, hb2⟩
  have E2 := KE hb2 E1
  clear hb2 E1 n0 n1 CK
  obtain ⟨n0, n1⟩ := E2.n.two
  obtain ⟨t0, t1⟩ := E2.t.two
  obtain ⟨p0, p1, p2, p3, _⟩ := E2.p.four
  go_wp2_with fail
  with_reducible refine (RW'.out _ E2.d).mono ?_
  rintro e w3 ⟨A1, c1, rfl, S3, hb3⟩
  have E4 := KE hb3 E2
  clear hb3 E2 n0 n1 t0 t1 p0 p1 p2 p3 RW'
  have KS : ∀ {W W' : World}, Hid (SlAt W.heap.size W 2 IsPlc (.slice A1 l.length c1) l) → Below W.heap.size W W' → Hid (SlAt W'.heap.size W' 2 IsPlc (.slice A1 l.length c1) l) := fun h hb => SlAt.mono (SlAt.below h.out hb (fun _ _ _ h => h)) hb.size (fun _ _ _ h => h)
  have S4 : Hid (SlAt w3.drew.heap.size w3.drew 2 IsPlc (.slice A1 l.length c1) l) := KS S3 (Below.refl _ _).drew
  go_upto_region 6 with fail
  have E5 := KE (Below.refl _ _).drew E4
  refine wp_region_held_drew (S := (fun w' => w'.cell? ⟨w.heap.size, 0, none⟩ = some (.slice (some ⟨b, o, none⟩) ds.length cap) ∧ w'.cell? ⟨w.heap.size, 1, none⟩ = some (.slice B ls.length cap') ∧ w'.cell? ⟨w.heap.size + 1, 0, none⟩ = some (.int .i64 (k : Int)) ∧ w'.cell? ⟨w.heap.size + 1, 1, none⟩ = some (.int .i64 q) ∧ w'.cell? ⟨b, o + k * 7 + 1, none⟩ = some (.int .i64 kd))) (by kernel_rfl) (KC.out _ (by assumption)) (fun hHeld => ?_)
  refine' tk 0 rfl (by kernel_rfl) (fun _ _ _ h => h) (by rfl) (by assumption) ?y76 ?r76
  case y76 => (intro w h; (try dsimp only at h); go_simp; (try with_reducible rfl))
  try simp only [lays]
  refine' tk 1 rfl (by kernel_rfl) (fun _ _ _ h => h) (by rfl) (by assumption) ?y77 ?r77
  case y77 => (intro w h; (try dsimp only at h); go_simp; (try with_reducible rfl))
  try simp only [lays]
  refine' tk 2 rfl (by kernel_rfl) (fun _ _ _ h => h) (by rfl) (by assumption) ?y78 ?r78
  case y78 => (intro w h; (try dsimp only at h); go_simp; (try with_reducible rfl))
  try simp only [lays]
  refine' tk 3 rfl (by kernel_rfl) (fun _ _ _ h => h) (by rfl) (by assumption) ?y79 ?r79
  case y79 => (intro w h; (try dsimp only at h); go_simp; (try with_reducible rfl))
  try simp only [lays]
  refine' tk 4 rfl (by kernel_rfl) (fun _ _ _ h => h) (by rfl) (by assumption) ?y80 ?r80
  case y80 => (intro w h; (try dsimp only at h); go_simp; (try with_reducible rfl))
  try simp only [lays]
  refine' tk 5 rfl (by kernel_rfl) (fun _ _ _ h => h) (by rfl) (by assumption) ?y81 ?r81
  case y81 => (intro w h; (try dsimp only at h); go_simp; (try with_reducible rfl))
  try simp only [lays]
  refine wpAnyH_ready (rs := [6]) (by kernel_rfl) (by simp) (AllReadyH.cons rfl (fun K hK => ?_) AllReadyH.nil)
  go_simp
  (with_reducible refine (IN1.out _).mono ?_); rintro e wz ⟨rfl, hbz⟩; have Ez := KE hbz (by assumption); have Sz := KS (by assumption) hbz; clear hbz
  try go_wp2_with fail
  clear hHeld
  refine hK.out _ _ (KC.out _ (by assumption)) (fun hHeld => ?_)
  clear hK K
  try simp only [lays]
  refine' tk 7 rfl (by kernel_rfl) (fun _ _ _ h => h) (by rfl) (by assumption) ?y83 ?r83
  case y83 => (intro w h; (try dsimp only at h); go_simp; (try with_reducible rfl))
  try simp only [lays]
  refine' tk 8 rfl (by kernel_rfl) (fun _ _ _ h => h) (by rfl) (by assumption) ?y84 ?r84
  case y84 => (intro w h; (try dsimp only at h); go_simp; (try with_reducible rfl))
  try simp only [lays]
  refine' tk 9 rfl (by kernel_rfl) (fun _ _ _ h => h) (by rfl) (by assumption) ?y85 ?r85
  case y85 => (intro w h; (try dsimp only at h); go_simp; (try with_reducible rfl))
  try simp only [lays]
  refine' tk 10 rfl (by kernel_rfl) (fun _ _ _ h => h) (by rfl) (by assumption) ?y86 ?r86
  case y86 => (intro w h; (try dsimp only at h); go_simp; (try with_reducible rfl))
  try simp only [lays]
  refine' tk 11 rfl (by kernel_rfl) (fun _ _ _ h => h) (by rfl) (by assumption) ?y87 ?r87
  case y87 => (intro w h; (try dsimp only at h); go_simp; (try with_reducible rfl))
  try simp only [lays]
  refine' tk 12 rfl (by kernel_rfl) (fun _ _ _ h => h) (by rfl) (by assumption) ?y88 ?r88
  case y88 => (intro w h; (try dsimp only at h); go_simp; (try with_reducible rfl))
  try simp only [lays]
  refine' tk 13 rfl (by kernel_rfl) (fun _ _ _ h => h) (by rfl) (by assumption) ?y89 ?r89
  case y89 => (intro w h; (try dsimp only at h); go_simp; (try with_reducible rfl))
  try simp only [lays]
  refine' tk 14 rfl (by kernel_rfl) (fun _ _ _ h => h) (by rfl) (by assumption) ?y90 ?r90
  case y90 => (intro w h; (try dsimp only at h); go_simp; (try with_reducible rfl))
  try simp only [lays]
  refine' tk 15 rfl (by kernel_rfl) (fun _ _ _ h => h) (by rfl) (by assumption) ?y91 ?r91
  case y91 => (intro w h; (try dsimp only at h); go_simp; (try with_reducible rfl))
  try simp only [lays]
  refine' tk 16 rfl (by kernel_rfl) (fun _ _ _ h => h) (by rfl) (by assumption) ?y92 ?r92
  case y92 => (intro w h; (try dsimp only at h); go_simp; (try with_reducible rfl))
  try simp only [lays]
  refine' tk 17 rfl (by kernel_rfl) (fun _ _ _ h => h) (by rfl) (by assumption) ?y93 ?r93
  case y93 => (intro w h; (try dsimp only at h); go_simp; (try with_reducible rfl))
  try simp only [lays]
  refine wpAnyH_ready (rs := [18]) (by kernel_rfl) (by simp) (AllReadyH.cons rfl (fun K hK => ?_) AllReadyH.nil)
  go_simp
  (with_reducible refine (PT.out _).mono ?_); rintro e wz ⟨rfl, hbz⟩; have Ez := KE hbz (by assumption); have Sz := KS (by assumption) hbz; clear hbz
  try go_wp2_with fail
  clear hHeld
  refine hK.out _ _ (KC.out _ (by assumption)) (fun hHeld => ?_)
  clear hK K
  try simp only [lays]
  refine' tk 19 rfl (by kernel_rfl) (fun _ _ _ h => h) (by rfl) (by assumption) ?y95 ?r95
  case y95 => (intro w h; (try dsimp only at h); go_simp; (try with_reducible rfl))
  try simp only [lays]
  refine wpAnyH_ready (rs := [20]) (by kernel_rfl) (by simp) (AllReadyH.cons rfl (fun K hK => ?_) AllReadyH.nil)
  go_simp
  (with_reducible refine (IN2.out _).mono ?_); rintro e wz ⟨rfl, hbz⟩; have Ez := KE hbz (by assumption); have Sz := KS (by assumption) hbz; clear hbz
  try go_wp2_with fail
  clear hHeld
  refine hK.out _ _ (KC.out _ (by assumption)) (fun hHeld => ?_)
  clear hK K
  try simp only [lays]
  refine' tk 21 rfl (by kernel_rfl) (fun _ _ _ h => h) (by rfl) (by assumption) ?y97 ?r97
  case y97 => (intro w h; (try dsimp only at h); go_simp; (try with_reducible rfl))
  try simp only [lays]
  refine' tk 22 rfl (by kernel_rfl) (fun _ _ _ h => h) (by rfl) (by assumption) ?y98 ?r98
  case y98 => (intro w h; (try dsimp only at h); go_simp; (try with_reducible rfl))
  try simp only [lays]
  refine' tk 23 rfl (by kernel_rfl) (fun _ _ _ h => h) (by rfl) (by assumption) ?y99 ?r99
  case y99 => (intro w h; (try dsimp only at h); go_simp; (try with_reducible rfl))
  try simp only [lays]
  refine wpAnyH_done (by kernel_rfl) ?_ _
  have E9 := Ez
  have S9 := Sz
  obtain ⟨p0, p1, p2, p3, _⟩ := E9.p.four
  dsimp only at *
  go_wp2_with fail
  with_reducible refine (RT.out _).mono ?_
  rintro e wr ⟨rfl, hbr⟩
  have E10 := KE hbr E9
  have S10 := KS S9 hbr
  clear p0 p1 p2 p3 hbr
  obtain ⟨n0, n1⟩ := E10.n.two
  obtain ⟨t0, t1⟩ := E10.t.two
  obtain ⟨p0, p1, p2, p3, _⟩ := E10.p.four
  dsimp only at *
  go_wp2_with fail
  with_reducible refine (ZW.out _ E10.d).mono ?_
  rintro e wy ⟨A2, c2, rfl, S11, hby⟩
  have E11 := KE hby E10
  have S12 := KS S10 hby
  clear n0 n1 t0 t1 p0 p1 p2 p3
  have EQ : Hid (Calls Tryz.prog 11 #[.slice A1 l.length c1, .slice A2 l.length c2] wy fun e w' => e = .returned (.bool true) ∧ Below wy.heap.size wy w') := equal_pls A1 A2 c1 c2 l _ wy S12 S11
  clear S12 S11 S10 S9
  go_wp2_with fail
  with_reducible refine EQ.out.mono ?_
  rintro e wx ⟨rfl, hbx⟩
  have D9 := chnN hbx E11.d
  clear hbx
  cases r
  · go_wp2_with fail
    go_ret
    exact ⟨by first | rfl | simp, D9⟩
  · go_wp2_with fail
    go_ret
    exact ⟨by first | rfl | simp, D9⟩
theorem walks_try (A B : Option Addr) (cap cap' : Nat) (ds : List Dv) (ls : List Lk) (t : Plc) (p : Pk) (w : World) (hD : Hid (Devs w.heap.size w (.slice A ds.length cap) ds)) (hL : Hid (Links w.heap.size w (.slice B ls.length cap') ls)) :
    Calls Tryz.prog 3 #[.agg #[.slice A ds.length cap, .slice B ls.length cap'], plA t.1 t.2, pkV p] w fun e w' => e = .returned (.bool true) ∧ Below w.heap.size w w' := by
  obtain ⟨i, q⟩ := t
  obtain ⟨s, d, sp, dp⟩ := p
  by_cases hr : ringV ds ls = 0
  rotate_left
  · exact walks_a A B cap cap' ds ls i q s d sp dp w hD hL hr
  cases hi : (decide (0 ≤ i) && decide (i ≤ (ds.length : Int) - 1))
  · exact walks_b A B cap cap' ds ls i q s d sp dp w hD hL hr hi
  cases hq : (decide (0 ≤ q) && decide (q ≤ portsV (kindAt ds i) - 1))
  · exact walks_c A B cap cap' ds ls i q s d sp dp w hD hL hr hi hq
  cases hp : pkOk ⟨s, d, sp, dp⟩
  · exact walks_d A B cap cap' ds ls i q s d sp dp w hD hL hr hi hq hp
  · exact walks_e A B cap cap' ds ls i q s d sp dp w hD hL hr hi hq hp
end Go.Proofs.YthioedgnambomaaGreat
