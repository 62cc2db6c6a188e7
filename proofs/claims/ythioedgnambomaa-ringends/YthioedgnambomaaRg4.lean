/-
  Package ring: walk.
-/
import Derived.Test.YthioedgnambomaaRg3
import Derived.Test.YthioedgnambomaaSy
import Derived.Deep.RegionLaw
namespace Go.Proofs.Ythioedgnambomaa
open Go.RowKit Go.Maps

/-- A memory that knows nothing, all of it below N. -/
structure RSt (m : Mp) (ds : List Dv) (ls : List Lk) (n N : Nat) (W : World) : Prop where
  mem : MemAt W m ds ls n noM
  dN : Devs N W (.slice m.A ds.length m.cap) ds
  lN : Links N W (.slice m.L ls.length m.cap') ls
  lt : m.B < N ∧ m.f < N ∧ m.o < N ∧ m.k < N
  le : N ≤ W.heap.size
section
variable {W W' : World} {m : Mp} {ds : List Dv} {ls : List Lk} {n n' N : Nat}
theorem rst_of (h : MemAt W m ds ls n noM) : RSt m ds ls n W.heap.size W := ⟨h, h.devs, h.links, ⟨h.lt, h.fl.lt, h.ow.lt, h.bk.lt⟩, Nat.le_refl _⟩
theorem RSt.above (h : RSt m ds ls n N W) (hb : ∀ b, b < N → W'.heap[b]? = W.heap[b]?) (hs : N ≤ W'.heap.size) : RSt m ds ls n N W' := by
  have kt : KT N W W' := fun b hb' _ => hb b hb'
  obtain ⟨l1, l2, l3, l4⟩ := h.lt
  exact ⟨⟨⟨(hb _ l1).trans h.mem.blk.1, h.mem.blk.2⟩, (h.dN.kt kt).mono hs, (h.lN.kt kt).mono hs, h.mem.fl.same (hb _ l2), h.mem.ow.same (hb _ l3), h.mem.bk.same (hb _ l4), h.mem.fo, h.mem.fk, h.mem.ok⟩, h.dN.kt kt, h.lN.kt kt, h.lt, hs⟩
theorem RSt.hk (h : RSt m ds ls n N W) (hM : MemAt W' m ds ls n' noM) (hk : HK m W W') : RSt m ds ls n' N W' := by
  have kt : KT N W W' := fun b hb hn => (h.mem.ck hk).block b hn (Nat.lt_of_lt_of_le hb h.le)
  exact ⟨hM, h.dN.kt kt, h.lN.kt kt, h.lt, Nat.le_trans h.le hk.size⟩
end
/-- On the way, in memory: a row of places of the call's own, the memory, the place, the packet. -/
structure RS (w : World) (m : Mp) (ds : List Dv) (ls : List Lk) (p : Pk) (v : Value) (acc : List Plc) (n : Nat) (t : Plc) (W : World) : Prop where
  row : W.ownsRow (w.heap.size + 1 + 1) 27 2 v acc.length (acc.flatMap plC)
  st : RSt m ds ls n w.heap.size W
  hk : HK m w W
  bt : Bk W w.heap.size #[.int .i64 t.1, .int .i64 t.2] 27
  bp : Bk W (w.heap.size + 1) #[.int .i64 p.s, .int .i64 p.d, .int .i64 p.sp, .int .i64 p.dp] 29
section
variable {w W W' : World} {m : Mp} {ds : List Dv} {ls : List Lk} {p : Pk} {v : Value} {acc : List Plc} {n n' : Nat} {t t' : Plc}
theorem RS.below (hb : Below W.heap.size W W') (h : RS w m ds ls p v acc n t W) : RS w m ds ls p v acc n t W' :=
  ⟨own_below h.row hb, h.st.above (fun b hb' => hb.block b (Nat.lt_of_lt_of_le hb' h.st.le)) (Nat.le_trans h.st.le hb.size), h.hk.trans (HK.of_below hb), h.bt.keep hb, h.bp.keep hb⟩
theorem RS.alloc (h : RS w m ds ls p v acc n t W) (o : Obj) : RS w m ds ls p v acc n t (W.alloc o) := h.below ((Below.refl _ _).alloc (Nat.le_refl _) o)
theorem RS.app (h : RS w m ds ls p v acc n t W) (ha : acc.length ≤ 5000) : ∃ v' w', (Builtin.append_ #[45, 45] 45 #[v, .slice (some ⟨W.heap.size, 0, none⟩) 1 1]).run Try.prog (W.alloc (.cells #[.int .i64 t.1, .int .i64 t.2] 27)) = .ok v' w' ∧ RS w m ds ls p v' (acc ++ [t]) n t w' := by
  have zp := h.bp.lt
  obtain ⟨v', w', r, O, D, _⟩ := app_el (w := W) uPls infoPl rfl (by omega) (by omega) 45 h.row (us := plC t) rfl (plC_one _) ha (by omega)
  refine ⟨v', w', r, ?_, ?_, ?_, ?_, ?_⟩
  · rw [List.flatMap_append, List.length_append]
    simpa using O
  · exact h.st.above (fun b hb => D.block b (by omega)) (Nat.le_trans h.st.le D.size)
  · exact ⟨D.os.trans h.hk.os, D.tape.trans h.hk.tape, D.output.trans h.hk.output, Nat.le_trans h.hk.size D.size, fun b hb h1 h2 h3 => (D.block b (by omega)).trans (h.hk.block b hb h1 h2 h3)⟩
  · exact (D.block _ (by omega)).trans h.bt
  · exact (D.block _ (by omega)).trans h.bp
theorem RS.handle (h : RS w m ds ls p v acc n t W) (hM : MemAt W' m ds ls n' noM) (hk : HK m W W') : RS w m ds ls p v acc n' t W' := by
  obtain ⟨l1, l2, l3, l4⟩ := h.st.lt
  have zp := h.bp.lt
  refine ⟨own_keptBut h.row (fun g hg => ?_), h.st.hk hM hk, h.hk.trans hk, ?_, ?_⟩
  · obtain ⟨q1, q2, _⟩ := own_block h.row hg
    exact hk.block g q1 (by omega) (by omega) (by omega)
  · exact (hk.block _ (by omega) (by omega) (by omega) (by omega)).trans h.bt
  · exact (hk.block _ (by omega) (by omega) (by omega) (by omega)).trans h.bp
theorem RS.setT (h : RS w m ds ls p v acc n t W) (t' : Plc) : RS w m ds ls p v acc n t' ((W.setCell ⟨w.heap.size, 0, none⟩ (.int .i64 t'.1)).setCell ⟨w.heap.size, 1, none⟩ (.int .i64 t'.2)) := by
  have hF : ∀ b, b ≠ w.heap.size → ((W.setCell ⟨w.heap.size, 0, none⟩ (.int .i64 t'.1)).setCell ⟨w.heap.size, 1, none⟩ (.int .i64 t'.2)).heap[b]? = W.heap[b]? := fun b hb => (Below.heap_setCell _ ⟨w.heap.size, 1, none⟩ _ b hb).trans (Below.heap_setCell W ⟨w.heap.size, 0, none⟩ _ b hb)
  have hs : ((W.setCell ⟨w.heap.size, 0, none⟩ (.int .i64 t'.1)).setCell ⟨w.heap.size, 1, none⟩ (.int .i64 t'.2)).heap.size = W.heap.size := by simp [World.setCell]
  refine ⟨own_keptBut h.row (fun g hg => hF g ?_), h.st.above (fun b hb => hF b (by omega)) (by rw [hs]; exact h.st.le), ⟨?_, ?_, ?_, by rw [hs]; exact h.hk.size, fun b hb h1 h2 h3 => (hF b (by omega)).trans (h.hk.block b hb h1 h2 h3)⟩, ?_, (hF _ (by omega)).trans h.bp⟩
  · have := (own_block h.row hg).2.1
    omega
  · exact h.hk.os
  · exact h.hk.tape
  · exact h.hk.output
  · have := (h.bt.setS (j := 0) (.int .i64 t'.1)).setS (j := 1) (.int .i64 t'.2)
    simpa using this
theorem RS.sl (h : RS w m ds ls p v acc n t W) : SlAt W.heap.size W 2 IsPlc v acc := SlAt.own h.row (fun k x hx => flatP_at acc k x hx)
end
/-- What ring.walk leaves. -/
def WkOut (w : World) (m : Mp) (ds : List Dv) (ls : List Lk) (n : Nat) (res : List Plc × Bool) (e : Ending) (w' : World) : Prop :=
  ∃ A c, e = .returned (.tuple #[.slice A res.1.length c, .bool res.2]) ∧ SlAt w'.heap.size w' 2 IsPlc (.slice A res.1.length c) res.1 ∧ (∀ a, A = some a → w.heap.size ≤ a.block ∧ a.block < w'.heap.size) ∧ MemAt w' m ds ls (n + 41) noM ∧ HK m w w'
theorem RS.fin {w W : World} {m : Mp} {ds : List Dv} {ls : List Lk} {p : Pk} {A : Option Addr} {c : Nat} {acc : List Plc} {n n0 : Nat} {t : Plc} {r : Bool} (h : RS w m ds ls p (.slice A acc.length c) acc n t W) (hn : n ≤ n0 + 41) : WkOut w m ds ls n0 (acc, r) (.returned (.tuple #[.slice A acc.length c, .bool r])) W := by
  obtain ⟨A', c', e, hA⟩ := own_sl h.row
  cases e
  refine ⟨A, c, rfl, h.sl, fun a ha => ?_, h.st.mem.mono hn, h.hk⟩
  obtain ⟨q1, q2, _⟩ := own_block h.row (hA a ha)
  exact ⟨by omega, q1⟩
def slLen : Value → Nat | .slice _ n _ => n | _ => 0
set_option maxHeartbeats 8000000 in
set_option maxRecDepth 100000 in
theorem rwalk_any (m : Mp) (ds : List Dv) (ls : List Lk) (n0 : Nat) (t0 : Plc) (p : Pk) (w : World) (hM : Hid (MemAt w m ds ls n0 noM)) (hn : n0 ≤ 1000) (hz : Hid (netV ds ls = 0)) (hk : Hid (PlainD ds)) (ht : Hid (isPl ds t0.1 t0.2 = true)) :
    Calls Try.prog 15 #[.pointer (some ⟨m.B, m.z, none⟩), plA t0.1 t0.2, pkV p] w (WkOut w m ds ls n0 (wayP ds ls p t0)) := by
  have R0 : RS w m ds ls p (.slice none 0 0) [] n0 t0 ((w.alloc (.cells #[.int .i64 t0.1, .int .i64 t0.2] 27)).alloc (.cells #[.int .i64 p.s, .int .i64 p.d, .int .i64 p.sp, .int .i64 p.dp] 29)) := by
    have D := Below.alN (Below.alN (Below.refl w.heap.size w) (.cells #[.int .i64 t0.1, .int .i64 t0.2] 27)) (.cells #[.int .i64 p.s, .int .i64 p.d, .int .i64 p.sp, .int .i64 p.dp] 29)
    exact ⟨World.ownsRow_nil _ _ _ _, (rst_of hM.out).above (fun b hb => D.block b hb) D.size, HK.of_below D, (bk_new w _ _).alloc _, bk_new' _ _ _ _ (by simp)⟩
  have HC : Hid (∀ {A : Option Addr} {c : Nat} {acc : List Plc} {n : Nat} {t : Plc} {W : World}, RS w m ds ls p (.slice A acc.length c) acc n t W → Calls Try.prog 10 #[.slice A acc.length c, .agg #[.int .i64 t.1, .int .i64 t.2]] W fun e w' => e = .returned (.bool (decide (t ∈ acc))) ∧ Below W.heap.size W w') := fun {A c acc n t W} h => contains_pl A c acc t _ W (Nat.le_refl _) h.sl
  have HH : Hid (∀ {v : Value} {acc : List Plc} {n : Nat} {t : Plc} {W : World}, RS w m ds ls p v acc n t W → n ≤ 2000 → Hid (isPl ds t.1 t.2 = true) → Calls Try.prog 9 #[.pointer (some ⟨m.B, m.z, none⟩), .agg #[.int .i64 t.1, .int .i64 t.2], .agg #[.int .i64 p.s, .int .i64 p.d, .int .i64 p.sp, .int .i64 p.dp], .int .i64 0] W fun e w' => ∃ (er : Int) (tx : Plc) (px : Pk), e = .returned (.tuple #[.agg #[.int .i64 tx.1, .int .i64 tx.2, .int .i64 px.s, .int .i64 px.d, .int .i64 px.sp, .int .i64 px.dp], .int .i64 er]) ∧ RS w m ds ls p v acc (n + 1) t w' ∧ Hid (nxF ds ls p t = if er = 0 then some tx else none)) := fun {v acc n t W} h hn ht => by
    refine (handle_any m ds ls n noM t.1 t.2 p 0 W h.st.mem (by unfold maxLen; omega) (addrs_of hz.out) (isPl_ok (netV_links hz.out).1 ht.out).1 (i64ok_of (by omega) (by omega))).mono fun e w' ⟨h1, h2, h3⟩ => ?_
    rw [handle_keeps hk.out] at h2
    exact ⟨_, _, _, h1, h.handle h2 h3, rfl⟩
  have HP : Hid (∀ {t t' : Plc}, nxF ds ls p t = some t' → isPl ds t'.1 t'.2 = true) := fun {t t'} h => nx_place hz.out h
  have I0 : Hid (WInv ds (nxF ds ls p) (wayP ds ls p t0) [] t0) := winv_start (netV_links hz.out).1 ht.out
  obtain ⟨res, hres⟩ : ∃ res, res = wayP ds ls p t0 := ⟨_, rfl⟩
  rw [← hres] at I0 ⊢
  obtain ⟨nx, hnx⟩ : ∃ nx, nx = nxF ds ls p := ⟨_, rfl⟩
  rw [← hnx] at I0 HH HP
  have KP : ∀ {v : Value} {acc : List Plc} {n : Nat} {t : Plc} {W W' : World}, Below W.heap.size W W' → RS w m ds ls p v acc n t W → RS w m ds ls p v acc n t W' := fun hb h => h.below hb
  clear hM hz hk ht hres hnx
  obtain ⟨s, d, sp, dp⟩ := p
  obtain ⟨i0, q0⟩ := t0
  dsimp only at *
  go_enter Try.func15, Try.ntmps15
  go_wp2_with fail
  go_loopw [8] (fun v wr => ∃ (A : Option Addr) (c : Nat) (acc : List Plc) (n : Nat) (t : Plc), v = .slice A acc.length c ∧ n ≤ n0 + acc.length ∧ RS w m ds ls ⟨s, d, sp, dp⟩ (.slice A acc.length c) acc n t wr ∧ Hid (WInv ds nx res acc t)) (fun v _ => 41 - slLen v)
  case atStart => exact ⟨none, 0, [], n0, (i0, q0), rfl, by simp, R0, I0⟩
  case round =>
    clear R0 I0
    obtain ⟨A, c, acc, n, ⟨i, q⟩, rfl, hle, R1, I1⟩ := hrel
    have hl40 := I1.out.len
    obtain ⟨t0, t1⟩ := R1.bt.two
    go_wp2_with fail
    with_reducible refine (HC.out R1).mono ?_
    rintro e w2 ⟨rfl, hb2⟩
    have R2 := KP hb2 R1
    clear hb2 R1 t0 t1
    by_cases hm : (i, q) ∈ acc
    · have hd : decide ((i, q) ∈ acc) = true := decide_eq_true hm
      have F2 : Hid (WkOut w m ds ls n0 res (.returned (.tuple #[.slice A acc.length c, .bool true])) w2) := by
        rw [I1.out.round hm]
        exact R2.fin (by omega)
      clear HH HP HC KP R2 I1 hm
      rw [hd]
      go_wp2_with fail
      go_ret2
      exact F2.out
    · have hd : decide ((i, q) ∈ acc) = false := decide_eq_false hm
      obtain ⟨v3, w3, r3, R3⟩ := R2.app (by omega)
      have hv3 : ∃ A3 c3, v3 = .slice A3 (acc ++ [(i, q)]).length c3 := by
        obtain ⟨A3, c3, e, _⟩ := own_sl R3.row
        exact ⟨A3, c3, e⟩
      obtain ⟨A3, c3, rfl⟩ := hv3
      have HM : Hid ((i, q) ∉ acc) := hm
      obtain ⟨t0, t1⟩ := R2.bt.two
      obtain ⟨t0', t1'⟩ := R3.bt.two
      obtain ⟨p0, p1, p2, p3, _⟩ := R3.bp.four
      rw [hd]
      clear hd hm
      dsimp only at *
      go_wp2_with (at_builtin; refine append_runC rfl _ _ 45 rfl rfl rfl r3 ?_)
      have TP : Hid (isPl ds (i, q).1 (i, q).2 = true) := I1.out.tp
      have hn2 : n ≤ 2000 := by omega
      with_reducible refine (HH.out R3 hn2 TP).mono ?_
      rintro e w4 ⟨er, ⟨xi, xq⟩, ⟨y0, y1, y2, y3⟩, rfl, R4, N4⟩
      dsimp only at *
      clear R2 R3 r3 t0 t1 t0' t1' p0 p1 p2 p3 HC
      by_cases he : er = 0
      · subst he
        have hnx : nx (i, q) = some (xi, xq) := by rw [N4.out, if_pos rfl]
        have I4 : Hid (WInv ds nx res (acc ++ [(i, q)]) (xi, xq)) := I1.out.next HM.out hnx (HP.out hnx)
        have R5 := R4.alloc (.cells #[.int .i64 xi, .int .i64 xq, .int .i64 y0, .int .i64 y1, .int .i64 y2, .int .i64 y3] 55)
        have R6 := R5.setT (xi, xq)
        have f0 := R5.bt.fz 0
        have f1 := R5.bt.fz 1
        obtain ⟨b0, b1⟩ := R5.bt.two
        have X5 := bk_new w4 #[.int .i64 xi, .int .i64 xq, .int .i64 y0, .int .i64 y1, .int .i64 y2, .int .i64 y3] 55
        have x0 := X5.at 0
        have x1 := X5.at 1
        clear N4 hnx HM I1 R4 R5 X5 HH HP
        dsimp only at *
        go_wp2_with fail
        go_roundw
        case rel => exact ⟨A3, c3, acc ++ [(i, q)], n + 1, (xi, xq), by simp, by simp; omega, R6, I4⟩
        case measure => simp [slLen]; omega
      · have hnx : nx (i, q) = none := by rw [N4.out, if_neg he]
        have hz1 : (er == 0) = false := by simpa using he
        have R5 := R4.alloc (.cells #[.int .i64 xi, .int .i64 xq, .int .i64 y0, .int .i64 y1, .int .i64 y2, .int .i64 y3] 55)
        have F2 : Hid (WkOut w m ds ls n0 res (.returned (.tuple #[.slice A3 (acc ++ [(i, q)]).length c3, .bool false])) (w4.alloc (.cells #[.int .i64 xi, .int .i64 xq, .int .i64 y0, .int .i64 y1, .int .i64 y2, .int .i64 y3] 55))) := by
          rw [I1.out.stop HM.out hnx]
          exact R5.fin (by simp; omega)
        have HNZ : Hid (¬ er = 0) := he
        rw [show (acc ++ [(i, q)]).length = acc.length + 1 by simp] at F2
        clear N4 hnx HM I1 R4 R5 HH HP he
        go_wp2_with fail
        all_goals first | exact absurd (by assumption) HNZ.out | skip
        all_goals
          go_ret2
          exact F2.out
end Go.Proofs.Ythioedgnambomaa
