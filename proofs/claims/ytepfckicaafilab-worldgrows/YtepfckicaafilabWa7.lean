/-
  Package world: inject, walked.
-/
import Derived.Test.YtepfckicaafilabWa6
namespace Go.Proofs.Ytepfckicaafilab
open Go.RowKit Go.Maps

theorem AOut.from {w W w' : World} {p : Wp} {S : Option Addr} {ds : List Dv} {ls : List Lk} {n : Nat} {M : Mnd} {ar : List Arv} (hb : Below w.heap.size w W) (h : AOut W p S ds ls n M ar w') : AOut w p S ds ls n M ar w' := by
  obtain ⟨S', cS', h1, h2, h3⟩ := h
  refine ⟨S', cS', h1, (WF.of_below hb).trans h2, fun a ha => ?_⟩
  rcases h3 a ha with h | h
  · exact Or.inl h
  · exact Or.inr (Nat.le_trans hb.size h)
theorem AOut.same {w w' : World} {p : Wp} {S : Option Addr} {cS : Nat} {ds : List Dv} {ls : List Lk} {n : Nat} {M : Mnd} {ar : List Arv} (h : WlAt w' p S cS ds ls n M ar) (hb : Below w.heap.size w w') : AOut w p S ds ls (n + 1) M ar w' := ⟨S, cS, h.mono (by omega), WF.of_below hb, SG.refl _ _⟩
set_option maxHeartbeats 8000000 in
set_option maxRecDepth 100000 in
theorem inject_any {p : Wp} {S : Option Addr} {cS : Nat} {ds : List Dv} {ls : List Lk} {n : Nat} {M : Mnd} {ar : List Arv} (i : Int) (q : Pk) (w : World) (h : Hid (WlAt w p S cS ds ls n M ar)) (hz : Hid (netV ds ls = 0)) (hn : n < maxLen) (ha : ar.length ≤ 5000) :
    Calls Try.prog 17 #[.pointer (some ⟨p.B, 0, none⟩), .int .i64 i, pkV q] w fun e w' => e = .returned (.int .i64 (injP ds ls ar i q).1) ∧ AOut w p S ds ls (n + 1) M (injP ds ls ar i q).2 w' := by
  have h1 := h.out.alloc (pkC q)
  have D1 := Below.alN (Below.refl w.heap.size w) (pkC q)
  have X1 := bk_new w #[.int .i64 q.s, .int .i64 q.d, .int .i64 q.sp, .int .i64 q.dp] 33
  have b0 := h1.blk.at 0
  obtain ⟨r, hr⟩ : ∃ r, injP ds ls ar i q = r := ⟨_, rfl⟩
  rw [hr]
  have HR : Hid (injP ds ls ar i q = r) := hr
  clear hr
  by_cases hi : 0 ≤ i ∧ i < (ds.length : Int)
  rotate_left
  · have hv : r = (4, ar) := by
      rw [← HR.out]
      unfold injP
      rw [if_neg hi]
    subst hv
    have hf := AOut.same h1 D1
    clear HR
    by_cases h0 : i < 0
    · have u0 : decide (i < 0) = true := by simpa using h0
      clear hi h0
      go_enter Try.func17, Try.ntmps17
      go_wp2_with fail
      go_ret
      exact ⟨rfl, hf⟩
    · have u0 : decide (i < 0) = false := by simpa using h0
      have u1' : decide ((ds.length : Int) ≤ i) = true := by simp; omega
      clear hi h0
      go_enter Try.func17, Try.ntmps17
      go_wp2_with fail
      go_ret
      exact ⟨rfl, hf⟩
  obtain ⟨j, rfl⟩ : ∃ j : Nat, i = (j : Int) := ⟨i.toNat, by omega⟩
  have hj : j < ds.length := by omega
  obtain ⟨d, hd⟩ : ∃ d, ds[j]? = some d := ⟨_, List.getElem?_eq_getElem hj⟩
  have hgd : ds.getD j default = d := by rw [List.getD_eq_getElem?_getD, hd]; rfl
  obtain ⟨b, o, vb, vr, vt, hA, hbl, s1, s2, s3, c0, c1, c2, c3, c4, c5, c6⟩ := h1.devs.at hd
  obtain ⟨Ab, cb, rfl, _⟩ := s1
  obtain ⟨Ar, cr, rfl, _⟩ := s2
  obtain ⟨At, ct, rfl, _⟩ := s3
  have HV : Hid (r = ((if d.kind = 1 then (if pkOk q then (if q.s = d.addr then inj2 (addA ar) ar q (peerF ls (j : Int) 0) else (1, ar)) else (1, ar)) else (1, ar)) : Int × List Arv)) := by
    show _ = _
    rw [← HR.out]
    unfold injP
    rw [if_pos hi, Int.toNat_natCast, hgd]
  have k1 : (0 : Int) ≤ (j : Int) := by omega
  have k2 : (j : Int) < (ds.length : Int) := hi.2
  have u0 : decide ((j : Int) < 0) = false := by simp
  have u1' : decide ((ds.length : Int) ≤ (j : Int)) = false := by simp; omega
  have h2 := h1.alloc (.cells #[.string d.name, .int .i64 d.kind, .int .i64 d.addr, .int .u8 (d.pool : Int), .slice Ab d.backs.length cb, .slice Ar d.rules.length cr, .slice At d.routes.length ct] 58)
  have D2 := Below.alN D1 (.cells #[.string d.name, .int .i64 d.kind, .int .i64 d.addr, .int .u8 (d.pool : Int), .slice Ab d.backs.length cb, .slice Ar d.rules.length cr, .slice At d.routes.length ct] 58)
  have X2 := X1.alloc (.cells #[.string d.name, .int .i64 d.kind, .int .i64 d.addr, .int .u8 (d.pool : Int), .slice Ab d.backs.length cb, .slice Ar d.rules.length cr, .slice At d.routes.length ct] 58)
  have V2 := bk_new' (w.alloc (pkC q)) #[.string d.name, .int .i64 d.kind, .int .i64 d.addr, .int .u8 (d.pool : Int), .slice Ab d.backs.length cb, .slice Ar d.rules.length cr, .slice At d.routes.length ct] 58 (w.heap.size + 1) (by simp)
  have PCp : Hid (∀ W, Calls Try.prog 10 #[pkV q] W fun e w' => e = .returned (.int .i64 (if pkOk q then 0 else 1)) ∧ Below W.heap.size W w') := fun W => pcheck_any q W
  have PEE : Hid (∀ W, WlAt W p S cS ds ls n M ar → Calls Try.prog 29 #[.agg #[.slice p.A ds.length p.c, .slice p.L ls.length p.d], plA (j : Int) 0] W fun e w' => e = .returned (.tuple #[placeV (peerF ls (j : Int) 0), .bool (peerF ls (j : Int) 0).isSome]) ∧ Below W.heap.size W w') := fun W hw => peer_any _ p.L ls.length p.d ls (j : Int) 0 W (hw.links.mono (Nat.le_of_lt hw.blk.lt))
  have ARR : Hid (∀ (t : Int × Int) W, WlAt W p S cS ds ls n M ar → i64ok t.1 ∧ i64ok t.2 → pkOk q = true → Calls Try.prog 30 #[.pointer (some ⟨p.B, 0, none⟩), arV t q] W fun e w' => (∃ v, e = .returned v) ∧ AOut W p S ds ls (n + 1) M (addA ar (t, q)) w') := fun t W hw ht hq => arrive_any (t, q) W hw ⟨ht.1, ht.2, pkOk_ok hq⟩ hn ha
  have TOK : Hid (∀ t, peerF ls (j : Int) 0 = some t → i64ok t.1 ∧ i64ok t.2) := fun t ht => peer_ok hz.out ht
  have v1 := V2.at 1
  have v2 := V2.at 2
  rw [hA] at b0
  clear hA HR hi hgd hd hbl h X1 D1 h1 hz
  generalize hpf : peerF ls (j : Int) 0 = pf at *
  generalize addA ar = AD at *
  obtain ⟨s, dd, sp, dp⟩ := q
  by_cases hk : d.kind = 1
  rotate_left
  · have hv : r = (1, ar) := HV.out.trans (if_neg hk)
    subst hv
    have hf := AOut.same h2 D2
    have uk : (d.kind == 1) = false := by simpa using hk
    have HK1 : Hid (¬ d.kind = 1) := hk
    clear HV hk
    go_enter Try.func17, Try.ntmps17
    go_wp2_with fail
    all_goals first | exact absurd (by assumption) HK1.out | skip
    go_ret
    exact ⟨rfl, hf⟩
  have HV2 : Hid (r = ((if pkOk ⟨s, dd, sp, dp⟩ then (if s = d.addr then inj2 AD ar ⟨s, dd, sp, dp⟩ pf else (1, ar)) else (1, ar)) : Int × List Arv)) := by
    exact HV.out.trans (if_pos hk)
  clear HV
  generalize d.kind = kd at *
  subst hk
  generalize d.addr = ad at *
  obtain ⟨x0, x1, x2, x3, _⟩ := X2.four
  cases hpo : pkOk ⟨s, dd, sp, dp⟩
  · rw [hpo] at PCp
    simp only [Bool.false_eq_true, if_false] at PCp
    have hv : r = (1, ar) := HV2.out.trans (if_neg (by rw [hpo]; exact Bool.false_ne_true))
    subst hv
    clear HV2 ARR TOK PEE
    go_enter Try.func17, Try.ntmps17
    go_wp2_with fail
    refine (PCp.out _).mono ?_
    rintro e w3 ⟨rfl, hb3⟩
    have hf := AOut.same (h2.below hb3) (chnN hb3 D2)
    go_wp2_with fail
    go_ret
    exact ⟨rfl, hf⟩
  rw [hpo] at PCp
  simp only [if_true] at PCp
  have HP : Hid (pkOk ⟨s, dd, sp, dp⟩ = true) := hpo
  have HV3 : Hid (r = ((if s = ad then inj2 AD ar ⟨s, dd, sp, dp⟩ pf else (1, ar)) : Int × List Arv)) := by
    exact HV2.out.trans (if_pos hpo)
  clear hpo HV2
  by_cases hs : s = ad
  rotate_left
  · have hv : r = (1, ar) := HV3.out.trans (if_neg hs)
    subst hv
    have us : (s == ad) = false := by simpa using hs
    have HSA : Hid (¬ s = ad) := hs
    clear HV3 ARR TOK PEE hs
    go_enter Try.func17, Try.ntmps17
    go_wp2_with fail
    refine (PCp.out _).mono ?_
    rintro e w3 ⟨rfl, hb3⟩
    have hf := AOut.same (h2.below hb3) (chnN hb3 D2)
    obtain ⟨y0, y1, y2, y3, _⟩ := (X2.keep hb3).four
    have z2 := (V2.keep hb3).at 2
    go_wp2_with fail
    all_goals first | exact absurd (by assumption) HSA.out | skip
    go_ret
    exact ⟨rfl, hf⟩
  subst hs
  have HV4 : Hid (r = (inj2 AD ar ⟨s, dd, sp, dp⟩ pf : Int × List Arv)) := by
    exact HV3.out.trans (if_pos rfl)
  clear HV3
  go_enter Try.func17, Try.ntmps17
  go_wp2_with fail
  refine (PCp.out _).mono ?_
  rintro e w3 ⟨rfl, hb3⟩
  have h3 := h2.below hb3
  have D3 := chnN hb3 D2
  have X3 := X2.keep hb3
  obtain ⟨y0, y1, y2, y3, _⟩ := X3.four
  have z2 := (V2.keep hb3).at 2
  have c0' := h3.blk.at 0
  have c1' := h3.blk.at 1
  clear hb3 h2 D2 X2 V2 x0 x1 x2 x3 v1 v2 b0 c0 c1 c2 c3 c4 c5 c6
  go_wp2_with fail
  with_reducible refine (PEE.out _ h3).mono ?_
  rintro e w4 ⟨rfl, hb4⟩
  have h4 := h3.below hb4
  have D4 := chnN hb4 D3
  have X4 := X3.keep hb4
  clear hb4 h3 D3 X3 y0 y1 y2 y3 z2 c0' c1'
  cases pf with
  | none =>
    have hv : r = (7, ar) := HV4.out
    subst hv
    have hf := AOut.same (h4.alloc (.cells #[.int .i64 0, .int .i64 0] 41)) (Below.alN D4 (.cells #[.int .i64 0, .int .i64 0] 41))
    clear HV4 ARR TOK PEE
    go_wp2_with fail
    go_ret
    exact ⟨rfl, hf⟩
  | some t =>
    have hv : r = (0, AD (t, ⟨s, dd, sp, dp⟩)) := HV4.out
    subst hv
    have ht := TOK.out t rfl
    obtain ⟨t1, t2⟩ := t
    have h5 := h4.alloc (.cells #[.int .i64 t1, .int .i64 t2] 41)
    have D5 := Below.alN D4 (.cells #[.int .i64 t1, .int .i64 t2] 41)
    have A6 : Hid (Calls Try.prog 30 #[.pointer (some ⟨p.B, 0, none⟩), .agg #[.int .i64 t1, .int .i64 t2, .int .i64 s, .int .i64 dd, .int .i64 sp, .int .i64 dp]] (w4.alloc (.cells #[.int .i64 t1, .int .i64 t2] 41)) _) := ARR.out (t1, t2) _ h5 ht HP.out
    obtain ⟨y0, y1, y2, y3, _⟩ := (X4.alloc (.cells #[.int .i64 t1, .int .i64 t2] 41)).four
    clear HV4 ARR TOK PEE ht
    go_wp2_with fail
    with_reducible refine A6.out.mono ?_
    rintro e w6 ⟨⟨v, rfl⟩, hA6⟩
    have hf := AOut.from D5 hA6
    go_wp2_with fail
    go_ret
    exact ⟨rfl, hf⟩
end Go.Proofs.Ytepfckicaafilab
