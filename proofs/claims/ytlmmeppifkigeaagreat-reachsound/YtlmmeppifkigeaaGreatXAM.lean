/-
  XAM.
-/
import Derived.Test.YtlmmeppifkigeaaGreatXAL
import Derived.Deep.RegionHeld3
set_option maxHeartbeats 8000000
set_option maxRecDepth 100000
namespace Go.Proofs.YtlmmeppifkigeaaGreat
open Go.RowKit Go.Maps
theorem AOut.from {w W w' : World} {p : Wp} {S : Option Addr} {ds : List Dv} {ls : List Lk} {n : Nat} {M : Mnd} {ar : List Arv} (hb : Below w.heap.size w W) (h : AOut W p S ds ls n M ar w') : AOut w p S ds ls n M ar w' := by
 obtain ⟨S', cS', h1, h2, h3⟩ := h
 refine ⟨S', cS', h1, (WF.of_below hb).trans h2, fun a ha => ?_⟩
 rcases h3 a ha with h | h
 ·exact Or.inl h
 ·exact Or.inr (Nat.le_trans hb.size h)
theorem AOut.same {w w' : World} {p : Wp} {S : Option Addr} {cS : Nat} {ds : List Dv} {ls : List Lk} {n : Nat} {M : Mnd} {ar : List Arv} (h : WlAt w' p S cS ds ls n M ar) (hb : Below w.heap.size w w') : AOut w p S ds ls (n + 1) M ar w' := ⟨S, cS, h.mono (by omega), WF.of_below hb, SG.refl _ _⟩
theorem inject_any {p : Wp} {S : Option Addr} {cS : Nat} {ds : List Dv} {ls : List Lk} {n : Nat} {M : Mnd} {ar : List Arv} (i : Int) (q : Pk) (w : World) (h : Hid (WlAt w p S cS ds ls n M ar)) (hz : Hid (netV ds ls = 0)) (hn : n < maxLen) (ha : ar.length <= 5000) :
  Calls Tryz.prog 29 #[.pointer (some ⟨p.B, 0, none⟩), .int .i64 i, pkV q] w fun e w' => e = .returned (.int .i64 (injP ds ls ar i q).1) ∧ AOut w p S ds ls (n + 1) M (injP ds ls ar i q).2 w' := by
 have h1 := h.out.alloc (pkC q)
 have D1 := Below.alN (Below.refl w.heap.size w) (pkC q)
 have X1 := bk_new w #[.int .i64 q.s, .int .i64 q.d, .int .i64 q.sp, .int .i64 q.dp] 36
 have b0 := h1.blk.at 0
 obtain ⟨r, hr⟩ : ∃ r, injP ds ls ar i q = r := ⟨_, rfl⟩
 rw [hr]
 have HR : Hid (injP ds ls ar i q = r) := hr
 clear hr
 by_cases hi : 0 <= i ∧ i < (ds.length : Int)
 rotate_left
 ·have hv : r = (4, ar) := by
   rw [<- HR.out]
   unfold injP
   rw [if_neg hi]
  subst hv
  have hf := AOut.same h1 D1
  clear HR
  by_cases h0 : i < 0
  ·have u0 : decide (i < 0) = true := by simpa using h0
   clear hi h0
   go_enter Tryz.func29, Tryz.ntmps29
   go_wp2_with fail
   go_ret
   exact ⟨rfl, hf⟩
  ·have u0 : decide (i < 0) = false := by simpa using h0
   have u1' : decide ((ds.length : Int) <= i) = true := by simp; omega
   clear hi h0
   go_enter Tryz.func29, Tryz.ntmps29
   go_wp2_with fail
   go_ret
   exact ⟨rfl, hf⟩
 obtain ⟨j, rfl⟩ : ∃ j : Nat, i = (j : Int) := ⟨i.toNat, by omega⟩
 have hj : j < ds.length := by omega
 obtain ⟨d, hd⟩ : ∃ d, ds[j]? = some d := ⟨_, List.getElem?_eq_getElem hj⟩
 have hgd : ds.getD j default = d := by rw [List.getD_eq_getElem?_getD, hd]; rfl
 obtain ⟨b, o, vb, vr, vt, hA, hbl, s1, s2, s3, c0, c1, c2, c3, c4, c5, c6⟩ := h1.devs.at hd
 obtain ⟨Ab, cb, rfl, _⟩ := s1
 obtain ⟨Ar, cr, rfl, _⟩ := s2
 obtain ⟨At, ct, rfl, _⟩ := s3
 have HV : Hid (r = ((if d.kind = 1 then (if pkOk q then (if q.s = d.addr then inj2 (addA ar) ar q (peerF ls (j : Int) 0) else (1, ar)) else (1, ar)) else (1, ar)) : Int × List Arv)) := by
  show _ = _
  rw [<- HR.out]
  unfold injP
  rw [if_pos hi, Int.toNat_natCast, hgd]
 have k1 : (0 : Int) <= (j : Int) := by omega
 have k2 : (j : Int) < (ds.length : Int) := hi.2
 have u0 : decide ((j : Int) < 0) = false := by simp
 have u1' : decide ((ds.length : Int) <= (j : Int)) = false := by simp; omega
 have h2 := h1.alloc (.cells #[.string d.name, .int .i64 d.kind, .int .i64 d.addr, .int .u8 (d.pool : Int), .slice Ab d.backs.length cb, .slice Ar d.rules.length cr, .slice At d.routes.length ct] 62)
 have D2 := Below.alN D1 (.cells #[.string d.name, .int .i64 d.kind, .int .i64 d.addr, .int .u8 (d.pool : Int), .slice Ab d.backs.length cb, .slice Ar d.rules.length cr, .slice At d.routes.length ct] 62)
 have X2 := X1.alloc (.cells #[.string d.name, .int .i64 d.kind, .int .i64 d.addr, .int .u8 (d.pool : Int), .slice Ab d.backs.length cb, .slice Ar d.rules.length cr, .slice At d.routes.length ct] 62)
 have V2 := bk_new' (w.alloc (pkC q)) #[.string d.name, .int .i64 d.kind, .int .i64 d.addr, .int .u8 (d.pool : Int), .slice Ab d.backs.length cb, .slice Ar d.rules.length cr, .slice At d.routes.length ct] 62 (w.heap.size + 1) (by simp)
 have PCp : Hid (∀ W, Calls Tryz.prog 55 #[pkV q] W fun e w' => e = .returned (.int .i64 (if pkOk q then 0 else 1)) ∧ Below W.heap.size W w') := fun W => pcheck_any q W
 have PEE : Hid (∀ W, WlAt W p S cS ds ls n M ar -> Calls Tryz.prog 51 #[.agg #[.slice p.A ds.length p.c, .slice p.L ls.length p.d], plA (j : Int) 0] W fun e w' => e = .returned (.tuple #[placeV (peerF ls (j : Int) 0), .bool (peerF ls (j : Int) 0).isSome]) ∧ Below W.heap.size W w') := fun W hw => peer_any _ p.L ls.length p.d ls (j : Int) 0 W (hw.links.mono (Nat.le_of_lt hw.blk.lt))
 have ARR : Hid (∀ (t : Int × Int) W, WlAt W p S cS ds ls n M ar -> i64ok t.1 ∧ i64ok t.2 -> pkOk q = true -> Calls Tryz.prog 56 #[.pointer (some ⟨p.B, 0, none⟩), arV t q] W fun e w' => (∃ v, e = .returned v) ∧ AOut W p S ds ls (n + 1) M (addA ar (t, q)) w') := fun t W hw ht hq => arrive_any (t, q) W hw ⟨ht.1, ht.2, pkOk_ok hq⟩ hn ha
 have TOK : Hid (∀ t, peerF ls (j : Int) 0 = some t -> i64ok t.1 ∧ i64ok t.2) := fun t ht => peer_ok hz.out ht
 have v1 := V2.at 1
 have v2 := V2.at 2
 rw [hA] at b0
 clear hA HR hi hgd hd hbl h X1 D1 h1 hz
 generalize hpf : peerF ls (j : Int) 0 = pf at *
 generalize addA ar = AD at *
 obtain ⟨s, dd, sp, dp⟩ := q
 by_cases hk : d.kind = 1
 rotate_left
 ·have hv : r = (1, ar) := HV.out.trans (if_neg hk)
  subst hv
  have hf := AOut.same h2 D2
  have uk : (d.kind == 1) = false := by simpa using hk
  have HK1 : Hid (¬ d.kind = 1) := hk
  clear HV hk
  go_enter Tryz.func29, Tryz.ntmps29
  go_wp2_with fail
  all_goals first | exact absurd (by assumption) HK1.out | skip
  go_ret
  exact ⟨rfl, hf⟩
 have HV2 : Hid (r = ((if pkOk ⟨s, dd, sp, dp⟩ then (if s = d.addr then inj2 AD ar ⟨s, dd, sp, dp⟩ pf else (1, ar)) else (1, ar)) : Int × List Arv)) := by
  exact HV.out.trans (if_pos hk)
 clear HV
 generalize d.kind = kd at *
 subst hk
 generalize d.addr = ad at *
 obtain ⟨x0, x1, x2, x3, _⟩ := X2.four
 cases hpo : pkOk ⟨s, dd, sp, dp⟩
 ·rw [hpo] at PCp
  simp only [Bool.false_eq_true, if_false] at PCp
  have hv : r = (1, ar) := HV2.out.trans (if_neg (by rw [hpo]; exact Bool.false_ne_true))
  subst hv
  clear HV2 ARR TOK PEE
  go_enter Tryz.func29, Tryz.ntmps29
  go_wp2_with fail
  refine (PCp.out _).mono ?_
  rintro e w3 ⟨rfl, hb3⟩
  have hf := AOut.same (h2.below hb3) (chnN hb3 D2)
  go_wp2_with fail
  go_ret
  exact ⟨rfl, hf⟩
 rw [hpo] at PCp
 simp only [if_true] at PCp
 have HP : Hid (pkOk ⟨s, dd, sp, dp⟩ = true) := hpo
 have HV3 : Hid (r = ((if s = ad then inj2 AD ar ⟨s, dd, sp, dp⟩ pf else (1, ar)) : Int × List Arv)) := by
  exact HV2.out.trans (if_pos hpo)
 clear hpo HV2
 by_cases hs : s = ad
 rotate_left
 ·have hv : r = (1, ar) := HV3.out.trans (if_neg hs)
  subst hv
  have us : (s == ad) = false := by simpa using hs
  have HSA : Hid (¬ s = ad) := hs
  clear HV3 ARR TOK PEE hs
  go_enter Tryz.func29, Tryz.ntmps29
  go_wp2_with fail
  refine (PCp.out _).mono ?_
  rintro e w3 ⟨rfl, hb3⟩
  have hf := AOut.same (h2.below hb3) (chnN hb3 D2)
  obtain ⟨y0, y1, y2, y3, _⟩ := (X2.keep hb3).four
  have z2 := (V2.keep hb3).at 2
  go_wp2_with fail
  all_goals first | exact absurd (by assumption) HSA.out | skip
  go_ret
  exact ⟨rfl, hf⟩
 subst hs
 have HV4 : Hid (r = (inj2 AD ar ⟨s, dd, sp, dp⟩ pf : Int × List Arv)) := by
  exact HV3.out.trans (if_pos rfl)
 clear HV3
 go_enter Tryz.func29, Tryz.ntmps29
 go_wp2_with fail
 refine (PCp.out _).mono ?_
 rintro e w3 ⟨rfl, hb3⟩
 have h3 := h2.below hb3
 have D3 := chnN hb3 D2
 have X3 := X2.keep hb3
 obtain ⟨y0, y1, y2, y3, _⟩ := X3.four
 have z2 := (V2.keep hb3).at 2
 have c0' := h3.blk.at 0
 have c1' := h3.blk.at 1
 clear hb3 h2 D2 X2 V2 x0 x1 x2 x3 v1 v2 b0 c0 c1 c2 c3 c4 c5 c6
 go_wp2_with fail
 with_reducible refine (PEE.out _ h3).mono ?_
 rintro e w4 ⟨rfl, hb4⟩
 have h4 := h3.below hb4
 have D4 := chnN hb4 D3
 have X4 := X3.keep hb4
 clear hb4 h3 D3 X3 y0 y1 y2 y3 z2 c0' c1'
 cases pf with
 | none =>
   have hv : r = (7, ar) := HV4.out
   subst hv
   have hf := AOut.same (h4.alloc (.cells #[.int .i64 0, .int .i64 0] 43)) (Below.alN D4 (.cells #[.int .i64 0, .int .i64 0] 43))
   clear HV4 ARR TOK PEE
   go_wp2_with fail
   go_ret
   exact ⟨rfl, hf⟩
 | some t =>
   have hv : r = (0, AD (t, ⟨s, dd, sp, dp⟩)) := HV4.out
   subst hv
   have ht := TOK.out t rfl
   obtain ⟨t1, t2⟩ := t
   have h5 := h4.alloc (.cells #[.int .i64 t1, .int .i64 t2] 43)
   have D5 := Below.alN D4 (.cells #[.int .i64 t1, .int .i64 t2] 43)
   have A6 : Hid (Calls Tryz.prog 56 #[.pointer (some ⟨p.B, 0, none⟩), .agg #[.int .i64 t1, .int .i64 t2, .int .i64 s, .int .i64 dd, .int .i64 sp, .int .i64 dp]] (w4.alloc (.cells #[.int .i64 t1, .int .i64 t2] 43)) _) := ARR.out (t1, t2) _ h5 ht HP.out
   obtain ⟨y0, y1, y2, y3, _⟩ := (X4.alloc (.cells #[.int .i64 t1, .int .i64 t2] 43)).four
   clear HV4 ARR TOK PEE ht
   go_wp2_with fail
   with_reducible refine A6.out.mono ?_
   rintro e w6 ⟨⟨v, rfl⟩, hA6⟩
   have hf := AOut.from D5 hA6
   go_wp2_with fail
   go_ret
   exact ⟨rfl, hf⟩
abbrev arZ : Obj := .cells #[.int .i64 0, .int .i64 0, .int .i64 0, .int .i64 0, .int .i64 0, .int .i64 0] 45
def ZB (T k : Nat) (W : World) : Prop := Bk W k #[.int .i64 0, .int .i64 0, .int .i64 0, .int .i64 0, .int .i64 0, .int .i64 0] 45 ∧ T <= k
theorem zb_new {T : Nat} {W : World} (h : T <= W.heap.size) : ZB T W.heap.size (W.alloc arZ) := ⟨bk_new W _ _, h⟩
theorem ZB.drew {T k : Nat} {W : World} (h : ZB T k W) : ZB T k W.drew := h
theorem ZB.ck {T k : Nat} {W W' : World} (h : ZB T k W) (hc : CK W W') : ZB T k W' := ⟨h.1.ck hc, h.2⟩
theorem WlAt.put {W W' : World} {p : Wp} {S : Option Addr} {cS : Nat} {ds : List Dv} {ls : List Lk} {n : Nat} {M : Mnd} {ar : List Arv} (h : WlAt W p S cS ds ls n M ar) {k : Nat} (hk : p.B < k) (hs : ∀ g, (Value.slice S ar.length cS).ownBlock = some g -> g ≠ k) (hF : ∀ b, b ≠ k -> W'.heap[b]? = W.heap[b]?) : WlAt W' p S cS ds ls n M ar := by
 obtain ⟨l1, l2, l3, l4⟩ := h.lo
 have kt : KT p.B W W' := fun b hb _ => hF b (by omega)
 exact ⟨(hF _ (by omega)).trans h.blk, h.devs.kt kt, h.links.kt kt, h.mdevs.kt kt, h.mlinks.kt kt, h.fl.same (hF _ (by omega)), h.ow.same (hF _ (by omega)), h.bk.same (hF _ (by omega)), h.fo, h.fk, h.ok, own_keptBut h.seen (fun g hg => hF g (hs g hg)), h.was.same (hF _ (by omega)), h.gf, h.go, h.gk, h.lo, h.all⟩
theorem WF.set6 {w W : World} {p : Wp} {S : Option Addr} (h : WF p S w W) {k : Nat} (hk : w.heap.size <= k) (u0 u1 u2 u3 u4 u5 : Value) : WF p S w ((((((W.setCell ⟨k, 0, none⟩ u0).setCell ⟨k, 1, none⟩ u1).setCell ⟨k, 2, none⟩ u2).setCell ⟨k, 3, none⟩ u3).setCell ⟨k, 4, none⟩ u4).setCell ⟨k, 5, none⟩ u5) := by
 have hb := ((((((Below.refl w.heap.size W).setCell (p := ⟨k, 0, none⟩) hk u0).setCell (p := ⟨k, 1, none⟩) hk u1).setCell (p := ⟨k, 2, none⟩) hk u2).setCell (p := ⟨k, 3, none⟩) hk u3).setCell (p := ⟨k, 4, none⟩) hk u4).setCell (p := ⟨k, 5, none⟩) hk u5
 exact ⟨hb.os.trans h.os, hb.tape.trans h.tape, hb.output.trans h.output, Nat.le_trans h.size hb.size, fun b hb' q1 q2 q3 q4 q5 q6 => (hb.block b hb').trans (h.block b hb' q1 q2 q3 q4 q5 q6)⟩
theorem set6_size (W : World) (k : Nat) (u0 u1 u2 u3 u4 u5 : Value) : ((((((W.setCell ⟨k, 0, none⟩ u0).setCell ⟨k, 1, none⟩ u1).setCell ⟨k, 2, none⟩ u2).setCell ⟨k, 3, none⟩ u3).setCell ⟨k, 4, none⟩ u4).setCell ⟨k, 5, none⟩ u5).heap.size = W.heap.size := by simp only [World.setCell, Array.size_modify]
theorem WlAt.set6 {W : World} {p : Wp} {S : Option Addr} {cS : Nat} {ds : List Dv} {ls : List Lk} {n : Nat} {M : Mnd} {ar : List Arv} (h : WlAt W p S cS ds ls n M ar) {k : Nat} (hk : p.B < k) (hs : ∀ g, (Value.slice S ar.length cS).ownBlock = some g -> g ≠ k) (u0 u1 u2 u3 u4 u5 : Value) : WlAt ((((((W.setCell ⟨k, 0, none⟩ u0).setCell ⟨k, 1, none⟩ u1).setCell ⟨k, 2, none⟩ u2).setCell ⟨k, 3, none⟩ u3).setCell ⟨k, 4, none⟩ u4).setCell ⟨k, 5, none⟩ u5) p S cS ds ls n M ar := h.put hk hs (fun _ hb => set6_block hb u0 u1 u2 u3 u4 u5)
theorem Bk.set6 {W : World} {b k : Nat} {c : Array Value} {t : TypeId} (h : Bk W b c t) (hk : b ≠ k) (u0 u1 u2 u3 u4 u5 : Value) : Bk ((((((W.setCell ⟨k, 0, none⟩ u0).setCell ⟨k, 1, none⟩ u1).setCell ⟨k, 2, none⟩ u2).setCell ⟨k, 3, none⟩ u3).setCell ⟨k, 4, none⟩ u4).setCell ⟨k, 5, none⟩ u5) b c t := (set6_block hk u0 u1 u2 u3 u4 u5).trans h
theorem AOut.after {w W w' : World} {p : Wp} {S : Option Addr} {ds : List Dv} {ls : List Lk} {n : Nat} {M : Mnd} {ar : List Arv} (hb : WF p S w W) (h : AOut W p S ds ls n M ar w') : AOut w p S ds ls n M ar w' := by
 obtain ⟨S', cS', h1, h2, h3⟩ := h
 refine ⟨S', cS', h1, hb.trans h2, fun a ha => ?_⟩
 rcases h3 a ha with h | h
 ·exact Or.inl h
 ·exact Or.inr (Nat.le_trans hb.size h)
noncomputable def hopP (ds : List Dv) (ls : List Lk) (M : Mnd) (ar : List Arv) (i q : Int) (p : Pk) (c : Int) : Int × Mnd × List Arv :=
 if (inF ar ((i, q), p)).isSome = true then
  ((handleP ds ls M i q p c).err, (handleP ds ls M i q p c).M, if (handleP ds ls M i q p c).err = 0 then addA ar ((handleP ds ls M i q p c).tp, (handleP ds ls M i q p c).p) else ar)
 else (7, M, ar)
theorem hop_any {p : Wp} {S : Option Addr} {cS : Nat} {ds : List Dv} {ls : List Lk} {n : Nat} {M : Mnd} {ar : List Arv} (i q : Int) (x : Pk) (c : Int) (w : World) (h : Hid (WlAt w p S cS ds ls n M ar)) (hx : Hid (arvOk ((i, q), x))) (hc : Hid (i64ok c)) (hA : Hid (AddrsOk ds)) (hO : Hid ((handleP ds ls M i q x c).err = 0 -> arvOk ((handleP ds ls M i q x c).tp, (handleP ds ls M i q x c).p))) (hn : n + 1 < maxLen) (ha : ar.length <= 5000) :
  Calls Tryz.prog 30 #[.pointer (some ⟨p.B, 0, none⟩), plA i q, pkV x, .int .i64 c] w fun e w' => e = .returned (.int .i64 (hopP ds ls M ar i q x c).1) ∧ AOut w p S ds ls (n + 1 + 1) (hopP ds ls M ar i q x c).2.1 (hopP ds ls M ar i q x c).2.2 w' := by
 have h2 := (h.out.alloc (.cells #[.int .i64 i, .int .i64 q] 43)).alloc (pkC x)
 have D2 := Below.alN (Below.alN (Below.refl w.heap.size w) (.cells #[.int .i64 i, .int .i64 q] 43)) (pkC x)
 have P2 := (bk_new w #[.int .i64 i, .int .i64 q] 43).alloc (pkC x)
 have X2 := bk_new' (w.alloc (.cells #[.int .i64 i, .int .i64 q] 43)) #[.int .i64 x.s, .int .i64 x.d, .int .i64 x.sp, .int .i64 x.dp] 36 (w.heap.size + 1) (by simp)
 have HS : Hid (∀ W, WlAt W p S cS ds ls n M ar -> Calls Tryz.prog 15 #[.pointer (some ⟨p.B, 0, none⟩), plA i q, pkV x] W fun e w' => e = .returned (.bool (inF ar ((i, q), x)).isSome) ∧ Below W.heap.size W w') := fun W hw => whas_any ((i, q), x) W hw hx.out
 have zB := h.out.blk.lt
 have seenLt : ∀ g, (Value.slice S ar.length cS).ownBlock = some g -> g < w.heap.size := fun g hg => (own_blockW h.out.seen hg).1
 obtain ⟨v, hv⟩ : ∃ v, (inF ar ((i, q), x)).isSome = v := ⟨_, rfl⟩
 obtain ⟨r, hr⟩ : ∃ r, handleP ds ls M i q x c = r := ⟨_, rfl⟩
 have HP : Hid (hopP ds ls M ar i q x c = if v = true then (r.err, r.M, if r.err = 0 then addA ar (r.tp, r.p) else ar) else (7, M, ar)) := by
  show _ = _
  unfold hopP
  rw [hv, hr]
 rw [hv] at HS
 generalize hopP ds ls M ar i q x c = res at *
 have HD0 : Hid (∀ W, WlAt W p S cS ds ls n M ar -> Calls Tryz.prog 57 #[.pointer (some ⟨p.B, 2, none⟩), plA i q, pkV x, .int .i64 c] W fun e w' => e = .returned (.tuple #[arV r.tp r.p, .int .i64 r.err]) ∧ (WlAt w' p S cS ds ls (n + 1) r.M ar ∧ WF p S W w') ∧ CK W w') := fun W hw => (handle_any (p.m ds.length ls.length S cS ar.length) ds ls n M i q x c W hw.mem (by omega) hA.out hx.out.1 hc.out).mono fun e w' ⟨h1, h2, h3⟩ => by
  rw [hr] at h1 h2
  exact ⟨h1, ⟨hw.hk (by omega) h2 h3, WF.of_hk h3⟩, hw.mem.ck h3⟩
 rw [hr] at hO
 have ARR : Hid (r.err = 0 -> ∀ W, WlAt W p S cS ds ls (n + 1) r.M ar -> Calls Tryz.prog 56 #[.pointer (some ⟨p.B, 0, none⟩), arV r.tp r.p] W fun e w' => (∃ v, e = .returned v) ∧ AOut W p S ds ls (n + 1 + 1) r.M (addA ar (r.tp, r.p)) w') := fun he W hw => arrive_any (r.tp, r.p) W hw (hO.out he) hn ha
 obtain ⟨er, ⟨t1, t2⟩, ⟨r1, r2, r3, r4⟩, Mr⟩ := r
 obtain ⟨s, d, sp, dp⟩ := x
 dsimp only at *
 generalize hb1 : w.heap.size = b1 at *
 generalize hb2' : b1 + 1 = b2 at *
 obtain ⟨p0, p1⟩ := P2.two
 obtain ⟨q0, q1, q2, q3, _⟩ := X2.four
 clear h hx hc hA hO hv hr
 go_enter Tryz.func30, Tryz.ntmps30
 go_wp2_with fail
 with_reducible refine (HS.out _ h2).mono ?_
 rintro e w3 ⟨rfl, hb3⟩
 have h3 := h2.below hb3
 have D3 : Below w.heap.size w w3 := chnN hb3 (by rw [hb1]; exact D2)
 have P3 := P2.keep hb3
 have X3 := X2.keep hb3
 clear hb3 h2 D2 P2 X2 p0 p1 q0 q1 q2 q3 HS
 cases v
 ·have hv := HP.out.trans (if_neg Bool.false_ne_true)
  subst hv
  have hf : AOut w p S ds ls (n + 1 + 1) M ar w3 := AOut.same (h3.mono (Nat.le_succ n)) D3
  clear HP ARR HD0
  go_wp2_with fail
  go_ret
  exact ⟨rfl, hf⟩
 have HV : Hid (res = (er, Mr, if er = 0 then addA ar ((t1, t2), ⟨r1, r2, r3, r4⟩) else ar)) := HP.out.trans (if_pos rfl)
 clear HP
 obtain ⟨Q, hQ⟩ : ∃ Q : Nat -> Mnd -> World -> Prop, Q = fun n M W => WlAt W p S cS ds ls n M ar ∧ WF p S w W ∧ Bk W b1 #[.int .i64 i, .int .i64 q] 43 ∧ Bk W b2 #[.int .i64 s, .int .i64 d, .int .i64 sp, .int .i64 dp] 36 ∧ b2 < W.heap.size := ⟨_, rfl⟩
 have Q3 : Q n M w3 := by
  rw [hQ]
  exact ⟨h3, WF.of_below D3, P3, X3, X3.lt⟩
 have FS : ∀ {n : Nat} {M : Mnd} {w' : World}, Q n M w' -> (w'.cell? ⟨b1, 0, none⟩ = some (.int .i64 i) ∧ w'.cell? ⟨b1, 1, none⟩ = some (.int .i64 q) ∧ w'.cell? ⟨b2, 0, none⟩ = some (.int .i64 s) ∧ w'.cell? ⟨b2, 1, none⟩ = some (.int .i64 d) ∧ w'.cell? ⟨b2, 2, none⟩ = some (.int .i64 sp) ∧ w'.cell? ⟨b2, 3, none⟩ = some (.int .i64 dp)) := fun {n M w'} h => by
  rw [hQ] at h
  exact ⟨h.2.2.1.at 0, h.2.2.1.at 1, h.2.2.2.1.at 0, h.2.2.2.1.at 1, h.2.2.2.1.at 2, h.2.2.2.1.at 3⟩
 have AL : ∀ {n : Nat} {M : Mnd} {W : World} (o : Obj), Q n M W -> Q n M (W.alloc o) := fun {n M W} o h => by
  rw [hQ] at h ⊢
  have hb : Below W.heap.size W (W.alloc o) := (Below.refl _ _).alloc (Nat.le_refl _) o
  exact ⟨h.1.alloc o, h.2.1.trans (WF.of_below hb), h.2.2.1.alloc o, h.2.2.2.1.alloc o, Nat.lt_of_lt_of_le h.2.2.2.2 hb.size⟩
 have DR : ∀ {n : Nat} {M : Mnd} {W : World}, Q n M W -> Q n M W.drew := fun {n M W} h => by
  rw [hQ] at h ⊢
  exact ⟨h.1.drew, h.2.1.trans (WF.of_below (Below.refl _ _).drew), h.2.2.1.drew, h.2.2.2.1.drew, h.2.2.2.2⟩
 have S6 : ∀ {n : Nat} {M : Mnd} {W : World} {k : Nat}, Q n M W -> ZB (b2 + 1) k W -> ∀ u0 u1 u2 u3 u4 u5 : Value, Q n M ((((((W.setCell ⟨k, 0, none⟩ u0).setCell ⟨k, 1, none⟩ u1).setCell ⟨k, 2, none⟩ u2).setCell ⟨k, 3, none⟩ u3).setCell ⟨k, 4, none⟩ u4).setCell ⟨k, 5, none⟩ u5) := fun {n M W k} h z u0 u1 u2 u3 u4 u5 => by
  rw [hQ] at h ⊢
  have hz := z.2
  exact ⟨h.1.set6 (by omega) (fun g hg e => by have := seenLt g hg; omega) u0 u1 u2 u3 u4 u5, h.2.1.set6 (by omega) u0 u1 u2 u3 u4 u5, h.2.2.1.set6 (by omega) u0 u1 u2 u3 u4 u5, h.2.2.2.1.set6 (by omega) u0 u1 u2 u3 u4 u5, by rw [set6_size]; exact h.2.2.2.2⟩
 have UN : Hid (∀ {n : Nat} {M : Mnd} {W : World}, Q n M W -> WlAt W p S cS ds ls n M ar ∧ WF p S w W) := fun {n M W} h => by
  rw [hQ] at h
  exact ⟨h.1, h.2.1⟩
 have TW : ∀ {n : Nat} {M : Mnd} {W : World}, Q n M W -> b2 + 1 <= W.heap.size := fun {n M W} h => by
  rw [hQ] at h
  exact h.2.2.2.2
 have HD : Hid (∀ W, Q n M W -> Calls Tryz.prog 57 #[.pointer (some ⟨p.B, 2, none⟩), .agg #[.int .i64 i, .int .i64 q], .agg #[.int .i64 s, .int .i64 d, .int .i64 sp, .int .i64 dp], .int .i64 c] W fun e w' => e = .returned (.tuple #[.agg #[.int .i64 t1, .int .i64 t2, .int .i64 r1, .int .i64 r2, .int .i64 r3, .int .i64 r4], .int .i64 er]) ∧ Q (n + 1) Mr w' ∧ CK W w') := fun W h => by
  rw [hQ] at h
  refine (HD0.out W h.1).mono fun e w' ⟨h1, ⟨h2, h3⟩, h4⟩ => ⟨h1, ?_, h4⟩
  rw [hQ]
  exact ⟨h2, h.2.1.trans h3, h.2.2.1.ck h4, h.2.2.2.1.ck h4, Nat.lt_of_lt_of_le h.2.2.2.2 h4.size⟩
 have Q0d := DR Q3
 have Q0a := DR (AL arZ Q3)
 have Z0a := ZB.drew (zb_new (TW Q3))
 obtain ⟨c0, c1, c2, c3, c4, c5⟩ := FS Q3
 clear hQ h3 D3 P3 X3 HD0
 go_upto_region 3 with fail
 go_cut [9, 10] (fun v1 v2 wx => ∃ g, v1 = .pointer (some ⟨g, 0, none⟩) ∧ v2 = .int .i64 er ∧ Bk wx g #[.int .i64 t1, .int .i64 t2, .int .i64 r1, .int .i64 r2, .int .i64 r3, .int .i64 r4] 45 ∧ Q (n + 1) Mr wx)
 case first =>
  go_region_held3 (fun w' => w'.cell? ⟨b1, 0, none⟩ = some (.int .i64 i) ∧ w'.cell? ⟨b1, 1, none⟩ = some (.int .i64 q) ∧ w'.cell? ⟨b2, 0, none⟩ = some (.int .i64 s) ∧ w'.cell? ⟨b2, 1, none⟩ = some (.int .i64 d) ∧ w'.cell? ⟨b2, 2, none⟩ = some (.int .i64 sp) ∧ w'.cell? ⟨b2, 3, none⟩ = some (.int .i64 dp)) (exact FS (by first | with_reducible exact Sh | with_reducible exact AL _ Sh | with_reducible exact S6 Sh Zh _ _ _ _ _ _ | with_reducible exact Q0a | with_reducible exact Q0d)) (first | (go_at_call 57; (with_reducible refine (HD.out _ Q0a).mono ?_); rintro e wh ⟨rfl, Sh, Ch⟩; have Zh := ZB.ck Z0a Ch; obtain ⟨⟨zz0, zz1, zz2, zz3, zz4, zz5⟩, ⟨zf0, zf1, zf2, zf3, zf4, zf5⟩⟩ := Zh.1.six) | (go_at_call 57; (with_reducible refine (HD.out _ Q0d).mono ?_); rintro e wh ⟨rfl, Sh, Ch⟩; skip))
  all_goals
   go_wp2_with fail
   go_meet
   first
    | exact ⟨_, rfl, rfl, (by have := (((((Zh.1.setS (j := 0) (.int .i64 t1)).setS (j := 1) (.int .i64 t2)).setS (j := 2) (.int .i64 r1)).setS (j := 3) (.int .i64 r2)).setS (j := 4) (.int .i64 r3)).setS (j := 5) (.int .i64 r4); simpa using this), S6 Sh Zh _ _ _ _ _ _⟩
    | exact ⟨_, rfl, rfl, bk_new _ _ _, AL _ Sh⟩
 case rest =>
  clear Q0d Q0a Z0a c0 c1 c2 c3 c4 c5 Q3 HD FS AL DR S6 TW
  obtain ⟨g, rfl, rfl, G0, Q4⟩ := hcut
  obtain ⟨h4, F4⟩ := UN.out Q4
  clear Q4 UN
  by_cases he : er = 0
  ·subst he
   have A5 := ARR.out rfl _ h4
   obtain ⟨⟨g0, g1, g2, g3, g4, g5⟩, _⟩ := G0.six
   have hv : res = (0, Mr, addA ar ((t1, t2), ⟨r1, r2, r3, r4⟩)) := HV.out
   subst hv
   clear ARR HV
   go_wp2_with fail
   with_reducible refine A5.mono ?_
   rintro e w6 ⟨⟨v, rfl⟩, hA6⟩
   have hf := AOut.after F4 hA6
   go_wp2_with fail
   go_ret
   exact ⟨rfl, hf⟩
  ·have he1 : (er == 0) = false := by simpa using he
   have HE : Hid (¬ er = 0) := he
   have hf : AOut w p S ds ls (n + 1 + 1) Mr ar wc := ⟨S, cS, h4.mono (Nat.le_succ _), F4, SG.refl _ _⟩
   have hv : res = (er, Mr, ar) := HV.out.trans (by rw [if_neg he])
   subst hv
   clear ARR he HV
   go_wp2_with fail
   all_goals first | exact absurd (by assumption) HE.out | skip
   go_ret
   exact ⟨rfl, hf⟩
structure Ev where
 k : Int
 i : Int
 q : Int
 p : Pk
 c : Int
structure Ev.ok (x : Ev) : Prop where
 i : i64ok x.i
 q : i64ok x.q
 p : x.p.ok
 c : i64ok x.c
noncomputable def doP (ds : List Dv) (ls : List Lk) (M : Mnd) (ar : List Arv) (x : Ev) : Int × Mnd × List Arv :=
 if x.k = 1 then ((injP ds ls ar x.i x.p).1, M, (injP ds ls ar x.i x.p).2)
 else if x.k = 2 then hopP ds ls M ar x.i x.q x.p x.c
 else if x.k = 3 then ((forgetP ds M x.i x.p x.c).err, (forgetP ds M x.i x.p x.c).M, ar)
 else (1, M, ar)
theorem AOut.mono {w w' : World} {p : Wp} {S : Option Addr} {ds : List Dv} {ls : List Lk} {n n' : Nat} {M : Mnd} {ar : List Arv} (h : AOut w p S ds ls n M ar w') (hn : n <= n') : AOut w p S ds ls n' M ar w' := by
 obtain ⟨S', cS', h1, h2, h3⟩ := h
 exact ⟨S', cS', h1.mono hn, h2, h3⟩
theorem do_any {p : Wp} {S : Option Addr} {cS : Nat} {ds : List Dv} {ls : List Lk} {n : Nat} {M : Mnd} {ar : List Arv} (x : Ev) (w : World) (h : Hid (WlAt w p S cS ds ls n M ar)) (hx : Hid x.ok) (hz : Hid (netV ds ls = 0)) (hO : Hid ((handleP ds ls M x.i x.q x.p x.c).err = 0 -> arvOk ((handleP ds ls M x.i x.q x.p x.c).tp, (handleP ds ls M x.i x.q x.p x.c).p))) (hn : n + 1 < maxLen) (ha : ar.length <= 5000) :
  Calls Tryz.prog 10 #[.pointer (some ⟨p.B, 0, none⟩), .agg #[.int .i64 x.k, .int .i64 x.i, .int .i64 x.q, .int .i64 x.p.s, .int .i64 x.p.d, .int .i64 x.p.sp, .int .i64 x.p.dp, .int .i64 x.c]] w fun e w' => e = .returned (.int .i64 (doP ds ls M ar x).1) ∧ AOut w p S ds ls (n + 1 + 1) (doP ds ls M ar x).2.1 (doP ds ls M ar x).2.2 w' := by
 have h1 := h.out.alloc (.cells #[.int .i64 x.k, .int .i64 x.i, .int .i64 x.q, .int .i64 x.p.s, .int .i64 x.p.d, .int .i64 x.p.sp, .int .i64 x.p.dp, .int .i64 x.c] 38)
 have D1 := Below.alN (Below.refl w.heap.size w) (.cells #[.int .i64 x.k, .int .i64 x.i, .int .i64 x.q, .int .i64 x.p.s, .int .i64 x.p.d, .int .i64 x.p.sp, .int .i64 x.p.dp, .int .i64 x.c] 38)
 have X1 := bk_new w #[.int .i64 x.k, .int .i64 x.i, .int .i64 x.q, .int .i64 x.p.s, .int .i64 x.p.d, .int .i64 x.p.sp, .int .i64 x.p.dp, .int .i64 x.c] 38
 have INJ : Hid (∀ W, WlAt W p S cS ds ls n M ar -> Calls Tryz.prog 29 #[.pointer (some ⟨p.B, 0, none⟩), .int .i64 x.i, pkV x.p] W fun e w' => e = .returned (.int .i64 (injP ds ls ar x.i x.p).1) ∧ AOut W p S ds ls (n + 1) M (injP ds ls ar x.i x.p).2 w') := fun W hw => inject_any x.i x.p W hw hz (by omega) ha
 have HOP : Hid (∀ W, WlAt W p S cS ds ls n M ar -> Calls Tryz.prog 30 #[.pointer (some ⟨p.B, 0, none⟩), plA x.i x.q, pkV x.p, .int .i64 x.c] W fun e w' => e = .returned (.int .i64 (hopP ds ls M ar x.i x.q x.p x.c).1) ∧ AOut W p S ds ls (n + 1 + 1) (hopP ds ls M ar x.i x.q x.p x.c).2.1 (hopP ds ls M ar x.i x.q x.p x.c).2.2 w') := fun W hw => hop_any x.i x.q x.p x.c W hw ⟨hx.out.i, hx.out.q, hx.out.p⟩ hx.out.c (addrs_of hz.out) hO hn ha
 have FGT : Hid (∀ W, WlAt W p S cS ds ls n M ar -> Calls Tryz.prog 31 #[.pointer (some ⟨p.B, 2, none⟩), .int .i64 x.i, pkV x.p, .int .i64 x.c] W fun e w' => e = .returned (.int .i64 (forgetP ds M x.i x.p x.c).err) ∧ AOut W p S ds ls (n + 1 + 1) (forgetP ds M x.i x.p x.c).M ar w' ∧ CK W w') := fun W hw => (forget_any (p.m ds.length ls.length S cS ar.length) ds ls n M x.i x.p x.c W hw.mem hx.out.i hx.out.p hx.out.c).mono fun e w' ⟨h1, h2, h3⟩ => ⟨h1, ⟨S, cS, hw.hk (n' := n + 1 + 1) (by omega) (h2.mono (by omega)) h3, WF.of_hk h3, SG.refl _ _⟩, hw.mem.ck h3⟩
 obtain ⟨res, hres⟩ : ∃ res, doP ds ls M ar x = res := ⟨_, rfl⟩
 rw [hres]
 have e1 : Hid (x.k = 1 -> res = ((injP ds ls ar x.i x.p).1, M, (injP ds ls ar x.i x.p).2)) := fun hk => by
  rw [<- hres]; unfold doP; rw [if_pos hk]
 have e2 : Hid (x.k = 2 -> res = hopP ds ls M ar x.i x.q x.p x.c) := fun hk => by
  rw [<- hres]; unfold doP; rw [if_neg (by omega), if_pos hk]
 have e3 : Hid (x.k = 3 -> res = ((forgetP ds M x.i x.p x.c).err, (forgetP ds M x.i x.p x.c).M, ar)) := fun hk => by
  rw [<- hres]; unfold doP; rw [if_neg (by omega), if_neg (by omega), if_pos hk]
 have e4 : Hid (¬ x.k = 1 -> ¬ x.k = 2 -> ¬ x.k = 3 -> res = (1, M, ar)) := fun a b c => by
  rw [<- hres]; unfold doP; rw [if_neg a, if_neg b, if_neg c]
 have hf0 : AOut w p S ds ls (n + 1 + 1) M ar (w.alloc (.cells #[.int .i64 x.k, .int .i64 x.i, .int .i64 x.q, .int .i64 x.p.s, .int .i64 x.p.d, .int .i64 x.p.sp, .int .i64 x.p.dp, .int .i64 x.c] 38)) := (AOut.same h1 D1).mono (by omega)
 obtain ⟨k, i, q, ⟨s, d, sp, dp⟩, c⟩ := x
 dsimp only at *
 generalize injP ds ls ar i ⟨s, d, sp, dp⟩ = ri at *
 generalize hopP ds ls M ar i q ⟨s, d, sp, dp⟩ c = rh at *
 generalize forgetP ds M i ⟨s, d, sp, dp⟩ c = rf at *
 have x0 := X1.at 0
 have x1 := X1.at 1
 have x2 := X1.at 2
 have x3 := X1.at 3
 have x4 := X1.at 4
 have x5 := X1.at 5
 have x6 := X1.at 6
 have x7 := X1.at 7
 clear h hx hz hO hres
 by_cases h1' : k = 1
 ·subst h1'
  have hv := e1.out rfl
  subst hv
  clear e1 e2 e3 e4 hf0 HOP FGT
  go_enter Tryz.func10, Tryz.ntmps10
  go_wp2_with fail
  with_reducible refine (INJ.out _ h1).mono ?_
  rintro e w2 ⟨rfl, hA⟩
  have hf := (AOut.from D1 hA).mono (Nat.le_succ (n + 1))
  go_wp2_with fail
  go_ret
  exact ⟨rfl, hf⟩
 have k1 : (k == 1) = false := by simpa using h1'
 by_cases h2' : k = 2
 ·subst h2'
  have hv := e2.out rfl
  subst hv
  clear e1 e2 e3 e4 hf0 INJ FGT h1' k1
  go_enter Tryz.func10, Tryz.ntmps10
  go_wp2_with fail
  with_reducible refine (HOP.out _ h1).mono ?_
  rintro e w2 ⟨rfl, hA⟩
  have hf := AOut.from D1 hA
  go_wp2_with fail
  go_ret
  exact ⟨rfl, hf⟩
 have k2 : (k == 2) = false := by simpa using h2'
 by_cases h3' : k = 3
 rotate_left
 ·have k3 : (k == 3) = false := by simpa using h3'
  have hv := e4.out h1' h2' h3'
  subst hv
  have N1 : Hid (¬ k = 1) := h1'
  have N2 : Hid (¬ k = 2) := h2'
  have N3 : Hid (¬ k = 3) := h3'
  clear e1 e2 e3 e4 INJ FGT HOP h1' h2' h3'
  go_enter Tryz.func10, Tryz.ntmps10
  go_wp2_with fail
  all_goals first | exact absurd (by assumption) N1.out | exact absurd (by assumption) N2.out | exact absurd (by assumption) N3.out | skip
  go_ret
  exact ⟨rfl, hf0⟩
 subst h3'
 have hv := e3.out rfl
 subst hv
 clear e1 e2 e3 e4 INJ HOP h1' h2' k1 k2 hf0
 have h1d := h1.drew
 have D1d := D1.drew
 have KE : ∀ {w' : World}, CK (w.alloc (.cells #[.int .i64 3, .int .i64 i, .int .i64 q, .int .i64 s, .int .i64 d, .int .i64 sp, .int .i64 dp, .int .i64 c] 38)).drew w' -> w'.cell? ⟨w.heap.size, 1, none⟩ = some (.int .i64 i) ∧ w'.cell? ⟨w.heap.size, 3, none⟩ = some (.int .i64 s) ∧ w'.cell? ⟨w.heap.size, 4, none⟩ = some (.int .i64 d) ∧ w'.cell? ⟨w.heap.size, 5, none⟩ = some (.int .i64 sp) ∧ w'.cell? ⟨w.heap.size, 6, none⟩ = some (.int .i64 dp) ∧ w'.cell? ⟨w.heap.size, 7, none⟩ = some (.int .i64 c) := fun hc => by
  have X := X1.drew.ck hc
  exact ⟨X.at 1, X.at 3, X.at 4, X.at 5, X.at 6, X.at 7⟩
 have C0 : CK (w.alloc (.cells #[.int .i64 3, .int .i64 i, .int .i64 q, .int .i64 s, .int .i64 d, .int .i64 sp, .int .i64 dp, .int .i64 c] 38)).drew (w.alloc (.cells #[.int .i64 3, .int .i64 i, .int .i64 q, .int .i64 s, .int .i64 d, .int .i64 sp, .int .i64 dp, .int .i64 c] 38)).drew := ⟨Nat.le_refl _, fun _ _ _ => rfl⟩
 go_enter Tryz.func10, Tryz.ntmps10
 go_wp2_with fail
 go_region_held3 (fun w' => w'.cell? ⟨w.heap.size, 1, none⟩ = some (.int .i64 i) ∧ w'.cell? ⟨w.heap.size, 3, none⟩ = some (.int .i64 s) ∧ w'.cell? ⟨w.heap.size, 4, none⟩ = some (.int .i64 d) ∧ w'.cell? ⟨w.heap.size, 5, none⟩ = some (.int .i64 sp) ∧ w'.cell? ⟨w.heap.size, 6, none⟩ = some (.int .i64 dp) ∧ w'.cell? ⟨w.heap.size, 7, none⟩ = some (.int .i64 c)) (exact KE (by first | exact C2 | exact C0)) (first | (go_at_call 31; (with_reducible refine (FGT.out _ h1d).mono ?_); rintro e w2 ⟨rfl, hA, C2⟩))
 all_goals
  have hf := AOut.from D1d hA
  go_wp2_with fail
  first
   | exact ⟨rfl, hf⟩
   | (go_ret; exact ⟨rfl, hf⟩)
theorem backs_all {bs : List Int} {ad : Int} : ∀ (m k : Nat), bs.length - k <= m -> backsFrom bs ad k ≠ 1 -> ∀ j x, k <= j -> bs[j]? = some x -> adB x = true
 | 0, k, h, _, j, x, hj, hx => by
   have := (List.getElem?_eq_some_iff.1 hx).1
   omega
 | m + 1, k, h, h0, j, x, hj, hx => by
   have hjl := (List.getElem?_eq_some_iff.1 hx).1
   have hk : k < bs.length := by omega
   rw [backsFrom_at (List.getElem?_eq_getElem hk)] at h0
   split at h0
   ·rename_i hc
    by_cases e : j = k
    ·subst e
     rw [List.getElem?_eq_getElem hk] at hx
     obtain rfl := Option.some.inj hx
     simp only [Bool.and_eq_true, decide_eq_true_eq] at hc
     unfold adB
     simp only [Bool.and_eq_true, decide_eq_true_eq]
     omega
    ·exact backs_all m (k + 1) (by omega) h0 j x (by omega) hx
   ·exact absurd rfl h0
theorem dev_ad {d : Dv} (h : devC d = 0) : adB d.addr = true ∧ ∀ (j : Nat) (x : Int), d.backs[j]? = some x -> adB x = true := by
 unfold devC devV at h
 split at h
 ·simp at h
 split at h
 ·simp at h
 rename_i h1 h2
 split at h
 ·simp at h
 split at h
 ·simp at h
 split at h
 ·simp at h
 rename_i h5
 refine ⟨?_, fun j x hx => backs_all d.backs.length 0 (by omega) h5 j x (Nat.zero_le _) hx⟩
 unfold adB
 simp only [Bool.and_eq_true, decide_eq_true_eq]
 cases hk : hasAddr d.kind
 ·rw [hk] at h2
  simp at h2
  omega
 ·rw [hk] at h2
  simp at h2
  omega
structure MOk (M : Mnd) : Prop where
 ow : ∀ k s, M.ow k = some s -> adB s.1 = true ∧ poB s.2 = true
 bk : ∀ k b, M.bk k = some b -> adB b = true
theorem mok_no : MOk noM := ⟨(fun _ _ h => by cases h), (fun _ _ h => by cases h)⟩
theorem mok_own {M : Mnd} (h : MOk M) {i k : Int} {s : Int × Int} (hs : adB s.1 = true ∧ poB s.2 = true) : MOk (learnP M (.own i k s)) := ⟨fun k' s' e => by
 have e' : putF M.ow (i, k) s k' = some s' := e
 by_cases hk : k' = (i, k)
 ·subst hk
  rw [putF_same] at e'
  cases e'
  exact hs
 ·rw [putF_other _ _ hk] at e'
  exact h.ow _ _ e', h.bk⟩
theorem mok_back {M : Mnd} (h : MOk M) {i : Int} {p : Pk} {b : Int} (hs : adB b = true) : MOk (learnP M (.back i p b)) := ⟨h.ow, fun k' s' e => by
 have e' : putF M.bk (i, p) b k' = some s' := e
 by_cases hk : k' = (i, p)
 ·subst hk
  rw [putF_same] at e'
  cases e'
  exact hs
 ·rw [putF_other _ _ hk] at e'
  exact h.bk _ _ e'⟩
theorem mok_flow {M : Mnd} (h : MOk M) {i : Int} {p : Pk} : MOk (learnP M (.flow i p)) := ⟨h.ow, h.bk⟩
theorem pk_parts {p : Pk} (h : pkOk p = true) : adB p.s = true ∧ adB p.d = true ∧ poB p.sp = true ∧ poB p.dp = true := by
 unfold pkOk at h
 simp only [Bool.and_eq_true] at h
 exact ⟨h.1.1.1, h.1.1.2, h.1.2, h.2⟩
theorem pk_mk {a b c d : Int} (h1 : adB a = true) (h2 : adB b = true) (h3 : poB c = true) (h4 : poB d = true) : pkOk ⟨a, b, c, d⟩ = true := by
 unfold pkOk
 rw [h1, h2, h3, h4]
 rfl
theorem stay_err {e : Int} (he : e ≠ 0) {P : Prop} (h : (stayR e).err = 0) : P := absurd h he
theorem ownFrom_lt {M : Mnd} {i : Int} {s : Int × Int} {j : Nat} : ∀ (m k : Nat), 8 - k <= m -> ownFrom M i s k = some j -> j < 8
 | 0, k, h, e => by
   rw [ownFrom, dif_neg (by omega)] at e
   cases e
 | m + 1, k, h, e => by
   rw [ownFrom] at e
   by_cases hk : k < 8
   ·rw [dif_pos hk] at e
    by_cases ho : M.ow (i, (k : Int)) = some s
    ·rw [if_pos ho] at e
     obtain rfl := Option.some.inj e
     exact hk
    ·rw [if_neg ho] at e
     exact ownFrom_lt m (k + 1) (by omega) e
   ·rw [dif_neg hk] at e
    cases e
theorem send_ok {d : Dv} (hd : adB d.addr = true ∧ ∀ (j : Nat) (x : Int), d.backs[j]? = some x -> adB x = true) {M : Mnd} (hM : MOk M) {i q : Int} {p : Pk} {c : Int} (hp : pkOk p = true) (he : (sendP d M i q p c).err = 0) : pkOk (sendP d M i q p c).p = true ∧ MOk (learnP M (sendP d M i q p c).l) := by
 obtain ⟨p1, p2, p3, p4⟩ := pk_parts hp
 unfold sendP at he ⊢
 split at he
 ·rename_i hk
  rw [if_pos hk]
  unfold routeP at he ⊢
  split at he
  ·rename_i h1
   rw [if_pos h1]
   exact ⟨hp, hM⟩
  ·exact stay_err (by decide) he
 rename_i hk
 rw [if_neg hk]
 split at he
 ·rename_i hk
  rw [if_pos hk]
  split at he
  ·rename_i hq
   rw [if_pos hq]
   unfold askP at he ⊢
   split at he
   ·rename_i h1
    rw [if_pos h1]
    exact ⟨hp, mok_flow hM⟩
   ·exact stay_err (by decide) he
  ·rename_i hq
   rw [if_neg hq]
   unfold answerP at he ⊢
   split at he
   ·rename_i h1
    rw [if_pos h1]
    exact ⟨hp, hM⟩
   ·exact stay_err (by decide) he
 rename_i hk
 rw [if_neg hk]
 split at he
 ·rename_i hk
  rw [if_pos hk]
  split at he
  ·rename_i hq
   rw [if_pos hq]
   unfold hideP at he ⊢
   cases ho : ownFrom M i (p.s, p.sp) 0 with
   | some k =>
     have hk8 := ownFrom_lt 8 0 (by omega) ho
     refine ⟨pk_mk hd.1 p2 ?_ p4, mok_own hM ⟨p1, p3⟩⟩
     unfold poB
     simp only [Bool.and_eq_true, decide_eq_true_eq]
     omega
   | none =>
     rw [ho] at he
     dsimp only at he ⊢
     split at he
     ·rename_i h1
      rw [if_pos h1]
      split at he
      ·exact stay_err (by decide) he
      ·rename_i h2
       rw [if_neg h2]
       have hc : poB c = true := by
        unfold poolB at h1
        simp only [Bool.and_eq_true] at h1
        exact h1.1
       exact ⟨pk_mk hd.1 p2 hc p4, mok_own hM ⟨p1, p3⟩⟩
     ·exact stay_err (by decide) he
  ·rename_i hq
   rw [if_neg hq]
   unfold unhideP at he ⊢
   cases ho : M.ow (i, p.dp) with
   | some s =>
     rw [ho] at he
     dsimp only at he ⊢
     split at he
     ·rename_i h1
      rw [if_pos h1]
      have := hM.ow _ _ ho
      exact ⟨pk_mk p1 this.1 p3 this.2, hM⟩
     ·exact stay_err (by decide) he
   | none =>
     rw [ho] at he
     exact stay_err (by decide) he
 rename_i hk
 rw [if_neg hk]
 split at he
 ·rename_i hk
  rw [if_pos hk]
  split at he
  ·rename_i hq
   rw [if_pos hq]
   unfold spreadP at he ⊢
   split at he
   ·rename_i h1
    rw [if_pos h1]
    cases ho : M.bk (i, p) with
    | some b =>
      have := hM.bk _ _ ho
      exact ⟨pk_mk p1 this p3 p4, mok_back hM this⟩
    | none =>
      rw [ho] at he
      dsimp only at he ⊢
      split at he
      ·rename_i h2
       rw [if_pos h2]
       have hb : adB (d.backs.getD c.toNat 0) = true := by
        simp only [Bool.and_eq_true, decide_eq_true_eq] at h2
        have hl : c.toNat < d.backs.length := by omega
        rw [List.getD_eq_getElem?_getD, List.getElem?_eq_getElem hl]
        exact hd.2 c.toNat _ (List.getElem?_eq_getElem hl)
       exact ⟨pk_mk p1 hb p3 p4, mok_back hM hb⟩
      ·exact stay_err (by decide) he
   ·rename_i h1
    rw [if_neg h1]
    exact ⟨hp, hM⟩
  ·rename_i hq
   rw [if_neg hq]
   unfold gatherP
   refine ⟨?_, hM⟩
   show pkOk (if _ then _ else _) = true
   split
   ·exact pk_mk hd.1 p2 p3 p4
   ·exact hp
 ·exact stay_err (by decide) he
theorem handle_ok {ds : List Dv} {ls : List Lk} (hz : netV ds ls = 0) {M : Mnd} (hM : MOk M) (i q : Int) (p : Pk) (c : Int) : MOk (handleP ds ls M i q p c).M ∧ ((handleP ds ls M i q p c).err = 0 -> pkOk (handleP ds ls M i q p c).p = true ∧ i64ok (handleP ds ls M i q p c).tp.1 ∧ i64ok (handleP ds ls M i q p c).tp.2) := by
 unfold handleP
 cases hpl : isPl ds i q
 ·rw [if_neg (by simp)]
  exact ⟨hM, fun h => absurd (show (4 : Int) = 0 from h) (by decide)⟩
 rw [if_pos rfl]
 cases hp : pkOk p
 ·rw [if_neg (by simp)]
  exact ⟨hM, fun h => absurd (show (1 : Int) = 0 from h) (by decide)⟩
 rw [if_pos rfl]
 have hi : i.toNat < ds.length := by
  unfold isPl at hpl
  simp only [Bool.and_eq_true, decide_eq_true_eq] at hpl
  omega
 have hd : adB (ds.getD i.toNat default).addr = true ∧ ∀ (j : Nat) (x : Int), (ds.getD i.toNat default).backs[j]? = some x -> adB x = true := by
  rw [List.getD_eq_getElem?_getD, List.getElem?_eq_getElem hi]
  exact dev_ad (netV_devs hz _ (List.getElem_mem hi))
 by_cases he : (sendP (ds.getD i.toNat default) M i q p c).err = 0
 ·rw [if_pos he]
  obtain ⟨h1, h2⟩ := send_ok hd hM hp he
  cases hpe : peerF ls i (sendP (ds.getD i.toNat default) M i q p c).port with
  | some t => exact ⟨h2, fun _ => ⟨h1, peer_ok hz hpe⟩⟩
  | none => exact ⟨hM, fun h => absurd (show (7 : Int) = 0 from h) (by decide)⟩
 ·rw [if_neg he]
  exact ⟨hM, fun h => absurd h he⟩
theorem forget_ok {ds : List Dv} {M : Mnd} (hM : MOk M) (i : Int) (p : Pk) (c : Int) : MOk (forgetP ds M i p c).M := by
 unfold forgetP
 split
 ·split
  ·split
   ·exact ⟨hM.ow, hM.bk⟩
   ·exact hM
  ·split
   ·split
    ·refine ⟨fun k s e => ?_, hM.bk⟩
     have e' : delF M.ow (i, c) k = some s := e
     by_cases hk : k = (i, c)
     ·subst hk
      rw [delF_same] at e'
      cases e'
     ·rw [delF_other _ hk] at e'
      exact hM.ow _ _ e'
    ·exact hM
   ·split
    ·split
     ·refine ⟨hM.ow, fun k s e => ?_⟩
      have e' : delF M.bk (i, p) k = some s := e
      by_cases hk : k = (i, p)
      ·subst hk
       rw [delF_same] at e'
       cases e'
      ·rw [delF_other _ hk] at e'
       exact hM.bk _ _ e'
     ·exact hM
    ·exact hM
 ·exact hM
theorem do_ok {ds : List Dv} {ls : List Lk} (hz : netV ds ls = 0) {M : Mnd} (hM : MOk M) {ar : List Arv} (ha : ∀ x ∈ ar, pkOk x.2 = true) (x : Ev) : MOk (doP ds ls M ar x).2.1 ∧ (∀ y ∈ (doP ds ls M ar x).2.2, pkOk y.2 = true) ∧ ((doP ds ls M ar x).2.2 = ar ∨ ((doP ds ls M ar x).1 = 0 ∧ ∃ y, (doP ds ls M ar x).2.2 = ar ++ [y])) := by
 have hadd : ∀ y : Arv, pkOk y.2 = true -> (∀ z ∈ addA ar y, pkOk z.2 = true) ∧ (addA ar y = ar ∨ ∃ z, addA ar y = ar ++ [z]) := fun y hy => by
  unfold addA
  split
  ·exact ⟨ha, Or.inl rfl⟩
  ·refine ⟨fun z hz => ?_, Or.inr ⟨y, rfl⟩⟩
   rcases List.mem_append.1 hz with h | h
   ·exact ha z h
   ·rw [List.mem_singleton.1 h]
    exact hy
 unfold doP
 split
 ·refine ⟨hM, ?_⟩
  unfold injP
  split
  ·split
   ·split
    ·rename_i hp
     split
     ·cases hpe : peerF ls x.i 0 with
      | some t =>
        obtain ⟨h1, h2⟩ := hadd (t, x.p) hp
        refine ⟨h1, ?_⟩
        rcases h2 with h | h
        ·exact Or.inl h
        ·exact Or.inr ⟨rfl, h⟩
      | none => exact ⟨ha, Or.inl rfl⟩
     ·exact ⟨ha, Or.inl rfl⟩
    ·exact ⟨ha, Or.inl rfl⟩
   ·exact ⟨ha, Or.inl rfl⟩
  ·exact ⟨ha, Or.inl rfl⟩
 ·split
  ·unfold hopP
   split
   ·obtain ⟨h1, h2⟩ := handle_ok hz hM x.i x.q x.p x.c
    refine ⟨h1, ?_⟩
    by_cases he : (handleP ds ls M x.i x.q x.p x.c).err = 0
    ·obtain ⟨g1, g2⟩ := hadd ((handleP ds ls M x.i x.q x.p x.c).tp, (handleP ds ls M x.i x.q x.p x.c).p) (h2 he).1
     dsimp only
     rw [if_pos he]
     refine ⟨g1, ?_⟩
     rcases g2 with h | h
     ·exact Or.inl h
     ·exact Or.inr ⟨he, h⟩
    ·dsimp only
     rw [if_neg he]
     exact ⟨ha, Or.inl rfl⟩
   ·exact ⟨hM, ha, Or.inl rfl⟩
  ·split
   ·exact ⟨forget_ok hM _ _ _, ha, Or.inl rfl⟩
   ·exact ⟨hM, ha, Or.inl rfl⟩
abbrev PSet := (Int × Int) -> Pk -> Prop
abbrev letsD (d : Dv) (p : Pk) : Bool := letsB (rulesOf d) p.s p.d p.sp p.dp
def sendR (d : Dv) (i : Int) (I : PSet) (o : Int) (p : Pk) : Prop :=
 if d.kind = 2 then ∃ q, 0 <= q ∧ q < 4 ∧ I (i, q) p ∧ letsD d p = true ∧ outB (routesOf d) p.d = true ∧ outN (routesOf d) p.d = o
 else if d.kind = 3 then (if o = 1 then I (i, 0) p ∧ letsD d p = true else o = 0 ∧ I (i, 1) p ∧ I (i, 0) (flipP p) ∧ letsD d (flipP p) = true)
 else if d.kind = 4 then (if o = 1 then p.s = d.addr ∧ poolB d p.sp = true ∧ ∃ s sp, I (i, 0) ⟨s, p.d, sp, p.dp⟩ else o = 0 ∧ (∃ k, poolB d k = true ∧ I (i, 1) ⟨p.s, d.addr, p.sp, k⟩) ∧ ∃ x y, I (i, 0) ⟨p.d, x, p.dp, y⟩)
 else if d.kind = 5 then (if o = 1 then (I (i, 0) p ∧ ¬ p.d = d.addr) ∨ (p.d ∈ d.backs ∧ I (i, 0) ⟨p.s, d.addr, p.sp, p.dp⟩) else o = 0 ∧ (I (i, 1) p ∨ (p.s = d.addr ∧ ∃ b ∈ d.backs, I (i, 1) ⟨b, p.d, p.sp, p.dp⟩ ∧ I (i, 0) ⟨p.d, d.addr, p.dp, p.sp⟩)))
 else False
structure Closed (ds : List Dv) (ls : List Lk) (I : PSet) : Prop where
 host : ∀ (i : Nat) (d : Dv) (p : Pk) (t : Int × Int), ds[i]? = some d -> d.kind = 1 -> pkOk p = true -> p.s = d.addr -> peerF ls i 0 = some t -> I t p
 dev : ∀ (i : Nat) (d : Dv) (o : Int) (p : Pk) (t : Int × Int), ds[i]? = some d -> pkOk p = true -> sendR d i I o p -> peerF ls i o = some t -> I t p
structure KnowR (ds : List Dv) (M : Mnd) (I : PSet) : Prop where
 fl : ∀ (i : Nat) (d : Dv) (p : Pk), ds[i]? = some d -> d.kind = 3 -> (M.fl ((i : Int), p)).isSome = true -> I ((i : Int), 0) p ∧ letsD d p = true
 ow : ∀ (i : Nat) (d : Dv) (k : Int) (s : Int × Int), ds[i]? = some d -> d.kind = 4 -> M.ow ((i : Int), k) = some s -> poolB d k = true ∧ ∃ x y, I ((i : Int), 0) ⟨s.1, x, s.2, y⟩
 bk : ∀ (i : Nat) (d : Dv) (p : Pk) (b : Int), ds[i]? = some d -> d.kind = 5 -> M.bk ((i : Int), p) = some b -> p.d = d.addr ∧ b ∈ d.backs ∧ I ((i : Int), 0) p
theorem know_no (ds : List Dv) (I : PSet) : KnowR ds noM I := ⟨(fun _ _ _ _ _ h => by cases h), (fun _ _ _ _ _ _ h => by cases h), (fun _ _ _ _ _ _ h => by cases h)⟩
section
variable {ds : List Dv} {ls : List Lk} {M : Mnd} {I : PSet}
theorem ownAt : ∀ (n k j : Nat) (i : Int) (s : Int × Int), 8 - k = n -> ownFrom M i s k = some j -> M.ow (i, (j : Int)) = some s
 | 0, k, j, i, s, hn, h => by
   unfold ownFrom at h
   rw [dif_neg (by omega)] at h
   cases h
 | n + 1, k, j, i, s, hn, h => by
   unfold ownFrom at h
   rw [dif_pos (by omega)] at h
   split at h
   ·cases h
    assumption
   ·exact ownAt n (k + 1) j i s (by omega) h
theorem send_r (hK : KnowR ds M I) {j : Nat} {d : Dv} (hd : ds[j]? = some d) {q : Int} {p : Pk} {c : Int} (hq : 0 <= q) (hq4 : q < portsV d.kind) (hp : I ((j : Int), q) p) (he : (sendP d M j q p c).err = 0) : sendR d j I (sendP d M j q p c).port (sendP d M j q p c).p ∧ KnowR ds (learnP M (sendP d M j q p c).l) I := by
 unfold sendP at he ⊢
 unfold sendR
 by_cases k2 : d.kind = 2
 ·rw [if_pos k2] at he ⊢
  rw [if_pos k2]
  unfold routeP at he ⊢
  split at he
  ·rename_i h
   rw [if_pos h]
   rw [Bool.and_eq_true] at h
   refine ⟨⟨q, hq, ?_, hp, h.2, h.1, rfl⟩, hK⟩
   rw [k2] at hq4
   exact hq4
  ·cases he
 rw [if_neg k2] at he ⊢
 rw [if_neg k2]
 have hq2 : q < 2 ∨ d.kind = 1 ∨ ¬ (d.kind = 3 ∨ d.kind = 4 ∨ d.kind = 5) := by
  unfold portsV at hq4
  rw [if_neg k2] at hq4
  split at hq4 <;> (try split at hq4) <;> omega
 by_cases k3 : d.kind = 3
 ·rw [if_pos k3] at he ⊢
  rw [if_pos k3]
  by_cases hq0 : q = 0
  ·subst hq0
   rw [if_pos rfl] at he ⊢
   unfold askP at he ⊢
   split at he
   ·rename_i h
    rw [if_pos h]
    refine ⟨by rw [if_pos rfl]; exact ⟨hp, h⟩, ⟨fun i d' p' hd' hk' hf => ?_, hK.ow, hK.bk⟩⟩
    by_cases e : ((i : Int), p') = ((j : Int), p)
    ·obtain ⟨e1, e2⟩ := Prod.mk.inj e
     subst e2
     obtain rfl : i = j := by omega
     rw [hd] at hd'
     cases hd'
     exact ⟨hp, h⟩
    ·exact hK.fl i d' p' hd' hk' (by rw [<- putF_other M.fl () e]; exact hf)
   ·cases he
  ·obtain rfl : q = 1 := by omega
   rw [if_neg hq0] at he ⊢
   unfold answerP at he ⊢
   split at he
   ·rename_i h
    rw [if_pos h]
    obtain ⟨h1, h2⟩ := hK.fl j d (flipP p) hd k3 h
    exact ⟨by rw [show (passR 0 p).port = 0 from rfl, if_neg (by decide)]; exact ⟨rfl, hp, h1, h2⟩, hK⟩
   ·cases he
 rw [if_neg k3] at he ⊢
 rw [if_neg k3]
 by_cases k4 : d.kind = 4
 ·rw [if_pos k4] at he ⊢
  rw [if_pos k4]
  have own : ∀ k : Int, poolB d k = true -> I ((j : Int), 0) p -> KnowR ds (learnP M (.own j k (p.s, p.sp))) I := fun k hk hp0 => ⟨hK.fl, fun i d' k' s hd' hk' ho => by
   by_cases e : ((i : Int), k') = ((j : Int), k)
   ·obtain ⟨e1, e2⟩ := Prod.mk.inj e
    subst e2
    obtain rfl : i = j := by omega
    rw [hd] at hd'
    cases hd'
    have ho' : putF M.ow ((i : Int), k') (p.s, p.sp) ((i : Int), k') = some s := ho
    rw [putF_same] at ho'
    cases ho'
    exact ⟨hk, p.d, p.dp, hp0⟩
   ·exact hK.ow i d' k' s hd' hk' (by rw [<- putF_other M.ow (p.s, p.sp) e]; exact ho), hK.bk⟩
  by_cases hq0 : q = 0
  ·subst hq0
   rw [if_pos rfl] at he ⊢
   unfold hideP at he ⊢
   cases ho : ownFrom M j (p.s, p.sp) 0 with
   | some k =>
     dsimp only
     have hk := (hK.ow j d k _ hd k4 (ownAt 8 0 k j _ rfl ho)).1
     exact ⟨by rw [if_pos rfl]; exact ⟨rfl, hk, p.s, p.sp, hp⟩, own _ hk hp⟩
   | none =>
     rw [ho] at he
     dsimp only at he ⊢
     split at he
     ·rename_i h
      rw [if_pos h]
      split at he
      ·cases he
      ·rename_i h2
       rw [if_neg h2]
       exact ⟨by rw [if_pos rfl]; exact ⟨rfl, h, p.s, p.sp, hp⟩, own _ h hp⟩
     ·cases he
  ·obtain rfl : q = 1 := by omega
   rw [if_neg hq0] at he ⊢
   cases ho : M.ow ((j : Int), p.dp) with
   | some s =>
     by_cases h : (p.d == d.addr) = true
     ·have hr : unhideP d M j p = passR 0 ⟨p.s, s.1, p.sp, s.2⟩ := by
       unfold unhideP
       rw [ho]
       exact if_pos h
      rw [hr]
      obtain ⟨h1, x, y, h2⟩ := hK.ow j d p.dp s hd k4 ho
      have h' : p.d = d.addr := by simpa using h
      refine ⟨?_, hK⟩
      rw [show ∀ x, (passR 0 x).port = 0 from fun _ => rfl, if_neg (by decide)]
      refine ⟨rfl, ⟨p.dp, h1, ?_⟩, x, y, h2⟩
      show I ((j : Int), 1) ⟨p.s, d.addr, p.sp, p.dp⟩
      rw [<- h']
      exact hp
     ·have hr : unhideP d M j p = stayR 7 := by
       unfold unhideP
       rw [ho]
       exact if_neg h
      rw [hr] at he
      cases he
   | none =>
     have hr : unhideP d M j p = stayR 7 := by
      unfold unhideP
      rw [ho]
     rw [hr] at he
     cases he
 rw [if_neg k4] at he ⊢
 rw [if_neg k4]
 by_cases k5 : d.kind = 5
 ·rw [if_pos k5] at he ⊢
  rw [if_pos k5]
  have bck : ∀ b : Int, b ∈ d.backs -> p.d = d.addr -> I ((j : Int), 0) p -> KnowR ds (learnP M (.back j p b)) I := fun b hb hpd hp0 => ⟨hK.fl, hK.ow, fun i d' p' b' hd' hk' ho => by
   by_cases e : ((i : Int), p') = ((j : Int), p)
   ·obtain ⟨e1, e2⟩ := Prod.mk.inj e
    subst e2
    obtain rfl : i = j := by omega
    rw [hd] at hd'
    cases hd'
    have ho' : putF M.bk ((i : Int), p') b ((i : Int), p') = some b' := ho
    rw [putF_same] at ho'
    cases ho'
    exact ⟨hpd, hb, hp0⟩
   ·exact hK.bk i d' p' b' hd' hk' (by rw [<- putF_other M.bk b e]; exact ho)⟩
  by_cases hq0 : q = 0
  ·subst hq0
   rw [if_pos rfl] at he ⊢
   unfold spreadP at he ⊢
   split at he
   ·rename_i h
    rw [if_pos h]
    have h' : p.d = d.addr := by simpa using h
    have hp' : I ((j : Int), 0) ⟨p.s, d.addr, p.sp, p.dp⟩ := by rw [<- h']; exact hp
    cases ho : M.bk ((j : Int), p) with
    | some b =>
      obtain ⟨_, h2, _⟩ := hK.bk j d p b hd k5 ho
      exact ⟨by rw [if_pos rfl]; exact Or.inr ⟨h2, hp'⟩, bck b h2 h' hp⟩
    | none =>
      rw [ho] at he
      dsimp only at he ⊢
      split at he
      ·rename_i h3
       rw [if_pos h3]
       simp only [Bool.and_eq_true, decide_eq_true_eq] at h3
       have hb : d.backs.getD c.toNat 0 ∈ d.backs := by
        rw [List.getD_eq_getElem?_getD, List.getElem?_eq_getElem (by omega)]
        exact List.getElem_mem _
       exact ⟨by rw [if_pos rfl]; exact Or.inr ⟨hb, hp'⟩, bck _ hb h' hp⟩
      ·cases he
   ·rename_i h
    rw [if_neg h]
    have h' : ¬ p.d = d.addr := by simpa using h
    exact ⟨by rw [show (passR 1 p).port = 1 from rfl, if_pos rfl]; exact Or.inl ⟨hp, h'⟩, hK⟩
  ·obtain rfl : q = 1 := by omega
   rw [if_neg hq0] at he ⊢
   unfold gatherP
   refine ⟨?_, hK⟩
   rw [show ∀ x, (passR 0 x).port = 0 from fun _ => rfl, if_neg (by decide)]
   refine ⟨rfl, ?_⟩
   by_cases hb : M.bk ((j : Int), ⟨p.d, d.addr, p.dp, p.sp⟩) = some p.s
   ·rw [if_pos hb]
    obtain ⟨_, h2, h3⟩ := hK.bk j d _ _ hd k5 hb
    exact Or.inr ⟨rfl, p.s, h2, hp, h3⟩
   ·rw [if_neg hb]
    exact Or.inl hp
 rw [if_neg k5] at he
 cases he
theorem handle_r (hz : netV ds ls = 0) (hM : MOk M) (hI : Closed ds ls I) (hK : KnowR ds M I) {i q : Int} {p : Pk} {c : Int} (hp : I (i, q) p) : KnowR ds (handleP ds ls M i q p c).M I ∧ ((handleP ds ls M i q p c).err = 0 -> I (handleP ds ls M i q p c).tp (handleP ds ls M i q p c).p) := by
 have ho := (handle_ok hz hM i q p c (ls := ls)).2
 unfold handleP at ho ⊢
 cases hpl : isPl ds i q
 ·rw [if_neg (by simp)]
  exact ⟨hK, fun e => by cases e⟩
 rw [hpl, if_pos rfl] at ho
 rw [if_pos rfl]
 cases hpk : pkOk p
 ·rw [if_neg (by simp)]
  exact ⟨hK, fun e => by cases e⟩
 rw [hpk, if_pos rfl] at ho
 rw [if_pos rfl]
 unfold isPl at hpl
 simp only [Bool.and_eq_true, decide_eq_true_eq] at hpl
 obtain ⟨⟨⟨h0, h1⟩, h2⟩, h3⟩ := hpl
 obtain ⟨j, rfl⟩ : ∃ j : Nat, i = (j : Int) := ⟨i.toNat, by omega⟩
 obtain ⟨d, hd⟩ : ∃ d, ds[j]? = some d := ⟨_, List.getElem?_eq_getElem (by omega)⟩
 have hg : ds.getD (j : Int).toNat default = d := by rw [Int.toNat_natCast, List.getD_eq_getElem?_getD, hd]; rfl
 have hk : kindAt ds (j : Int) = d.kind := by
  unfold kindAt
  rw [Int.toNat_natCast, hd]
  rfl
 rw [hk] at h3
 rw [hg] at ho ⊢
 by_cases he : (sendP d M j q p c).err = 0
 ·rw [if_pos he] at ho ⊢
  obtain ⟨s1, s2⟩ := send_r hK hd h2 h3 hp he
  cases hpe : peerF ls (j : Int) (sendP d M j q p c).port with
  | none => exact ⟨hK, fun e => by cases e⟩
  | some t =>
    rw [hpe] at ho
    dsimp only at ho ⊢
    exact ⟨s2, fun _ => hI.dev j d _ _ t hd (ho rfl).1 s1 hpe⟩
 ·rw [if_neg he]
  exact ⟨hK, fun e => absurd e he⟩
theorem forget_r (hK : KnowR ds M I) (i : Int) (p : Pk) (port : Int) : KnowR ds (forgetP ds M i p port).M I := by
 have del : ∀ {α β : Type} (f : α -> Option β) (x y : α) (v : β), delF f x y = some v -> f y = some v := fun f x y v h => by
  unfold delF at h
  split at h
  ·cases h
  ·exact h
 unfold forgetP
 split
 ·split
  ·split
   ·refine ⟨fun i' d' p' hd hk hf => hK.fl i' d' p' hd hk ?_, hK.ow, hK.bk⟩
    obtain ⟨v, hv⟩ := Option.isSome_iff_exists.1 hf
    exact Option.isSome_iff_exists.2 ⟨v, del _ _ _ _ hv⟩
   ·exact hK
  ·split
   ·split
    ·exact ⟨hK.fl, fun i' d' k s hd hk ho => hK.ow i' d' k s hd hk (del _ _ _ _ ho), hK.bk⟩
    ·exact hK
   ·split
    ·split
     ·exact ⟨hK.fl, hK.ow, fun i' d' p' b hd hk ho => hK.bk i' d' p' b hd hk (del _ _ _ _ ho)⟩
     ·exact hK
    ·exact hK
 ·exact hK
theorem add_r {ar : List Arv} {y : Arv} (ha : ∀ x ∈ ar, I x.1 x.2) (hy : I y.1 y.2) : ∀ x ∈ addA ar y, I x.1 x.2 := fun x hx => by
 unfold addA at hx
 split at hx
 ·exact ha x hx
 ·rcases List.mem_append.1 hx with h | h
  ·exact ha x h
  ·obtain rfl := List.mem_singleton.1 h
   exact hy
theorem do_r (hz : netV ds ls = 0) (hM : MOk M) (hI : Closed ds ls I) (hK : KnowR ds M I) {ar : List Arv} (ha : ∀ x ∈ ar, I x.1 x.2) (x : Ev) : KnowR ds (doP ds ls M ar x).2.1 I ∧ ∀ y ∈ (doP ds ls M ar x).2.2, I y.1 y.2 := by
 unfold doP
 by_cases k1 : x.k = 1
 ·rw [if_pos k1]
  refine ⟨hK, ?_⟩
  unfold injP
  split
  ·rename_i hi
   split
   ·rename_i hk
    split
    ·rename_i hp
     split
     ·rename_i hs
      unfold inj2
      obtain ⟨j, hj⟩ : ∃ j : Nat, x.i = (j : Int) := ⟨x.i.toNat, by omega⟩
      obtain ⟨d, hd⟩ : ∃ d, ds[j]? = some d := ⟨_, List.getElem?_eq_getElem (by omega)⟩
      have hg : ds.getD x.i.toNat default = d := by rw [hj, Int.toNat_natCast, List.getD_eq_getElem?_getD, hd]; rfl
      rw [hg] at hk hs
      cases hpe : peerF ls x.i 0 with
      | none => exact ha
      | some t =>
        rw [hj] at hpe
        exact add_r (y := (t, x.p)) ha (hI.host j d x.p t hd hk hp hs hpe)
     ·exact ha
    ·exact ha
   ·exact ha
  ·exact ha
 rw [if_neg k1]
 by_cases k2 : x.k = 2
 ·rw [if_pos k2]
  unfold hopP
  split
  ·rename_i hin
   have hp : I (x.i, x.q) x.p := ha _ (inF_in.1 hin)
   obtain ⟨h1, h2⟩ := handle_r hz hM hI hK hp (c := x.c)
   refine ⟨h1, ?_⟩
   dsimp only
   split
   ·rename_i he
    exact add_r (y := (_, _)) ha (h2 he)
   ·exact ha
  ·exact ⟨hK, ha⟩
 rw [if_neg k2]
 split
 ·exact ⟨forget_r hK _ _ _, ha⟩
 ·exact ⟨hK, ha⟩
end
end Go.Proofs.YtlmmeppifkigeaaGreat
