/-
  XAK.
-/
import Derived.Test.YtlmmeppifkigeaaGreatXAJ
import Derived.Test.YtlmmeppifkigeaaGreatXAB
import Derived.Test.YtlmmeppifkigeaaGreatXAE
import Derived.Test.YtlmmeppifkigeaaGreatXAI
set_option maxHeartbeats 8000000
set_option maxRecDepth 100000
namespace Go.Proofs.YtlmmeppifkigeaaGreat
open Go.RowKit Go.Maps
theorem handle_back (m : Mp) (ds : List Dv) (ls : List Lk) (n : Nat) (M : Mnd) (i q : Int) (p : Pk) (c : Int) (j : Int) (p3 : Pk) (x3 : Int) (h : HR) (q2 ps pd psp pdp : Int) (pv : Option (Int × Int)) (w : World) (hM : Hid (MemAt w m ds ls n M)) (hn : n < maxLen) (hpl : isPl ds i q = true) (hpk : pkOk p = true)
  (SD : Hid (∀ W, MemAt W m ds ls n M -> Calls Tryz.prog 96 #[.pointer (some ⟨m.B, m.z, none⟩), plA i q, pkV p, .int .i64 c] W (SPost m W ⟨0, q2, ⟨ps, pd, psp, pdp⟩, .back j p3 x3⟩)))
  (PE : Hid (∀ W, MemAt W m ds ls n M -> Calls Tryz.prog 51 #[.agg #[.slice m.A ds.length m.cap, .slice m.L ls.length m.cap'], plA i q2] W fun e w' => e = .returned (.tuple #[placeV pv, .bool pv.isSome]) ∧ Below W.heap.size W w'))
  (HN : Hid (pv = none -> h = badH 7 M)) (HS : Hid (∀ t, pv = some t -> h = ⟨0, t, ⟨ps, pd, psp, pdp⟩, learnP M (.back j p3 x3)⟩)) :
  Calls Tryz.prog 57 #[.pointer (some ⟨m.B, m.z, none⟩), plA i q, pkV p, .int .i64 c] w (HPost m ds ls n w h) := by
 have M2 := ((hM.out.alloc (.cells #[.int .i64 i, .int .i64 q] 43)).alloc (pkC p)).alloc (.cells #[.int .i64 0, .int .i64 0, .int .i64 0, .int .i64 0, .int .i64 0, .int .i64 0] 45)
 have D2 := Below.alN (Below.alN (Below.alN (Below.refl w.heap.size w) (.cells #[.int .i64 i, .int .i64 q] 43)) (pkC p)) (.cells #[.int .i64 0, .int .i64 0, .int .i64 0, .int .i64 0, .int .i64 0, .int .i64 0] 45)
 have A2 := ((bk_new w #[.int .i64 i, .int .i64 q] 43).alloc (pkC p)).alloc (.cells #[.int .i64 0, .int .i64 0, .int .i64 0, .int .i64 0, .int .i64 0, .int .i64 0] 45)
 have P2 := (bk_new' (w.alloc (.cells #[.int .i64 i, .int .i64 q] 43)) #[.int .i64 p.s, .int .i64 p.d, .int .i64 p.sp, .int .i64 p.dp] 36 (w.heap.size + 1) (by simp)).alloc (.cells #[.int .i64 0, .int .i64 0, .int .i64 0, .int .i64 0, .int .i64 0, .int .i64 0] 45)
 have R2 := bk_new' ((w.alloc (.cells #[.int .i64 i, .int .i64 q] 43)).alloc (pkC p)) #[.int .i64 0, .int .i64 0, .int .i64 0, .int .i64 0, .int .i64 0, .int .i64 0] 45 (w.heap.size + 1 + 1) (by simp)
 obtain ⟨q0, q1, _, _, _⟩ := M2.cells
 have Q0 : (((w.alloc (.cells #[.int .i64 i, .int .i64 q] 43)).alloc (pkC p)).alloc (.cells #[.int .i64 0, .int .i64 0, .int .i64 0, .int .i64 0, .int .i64 0, .int .i64 0] 45)).drew.cell? ⟨m.B, m.z, none⟩ = some (.slice m.A ds.length m.cap) := q0
 have Q1 : (((w.alloc (.cells #[.int .i64 i, .int .i64 q] 43)).alloc (pkC p)).alloc (.cells #[.int .i64 0, .int .i64 0, .int .i64 0, .int .i64 0, .int .i64 0, .int .i64 0] 45)).drew.cell? ⟨m.B, m.z + 1, none⟩ = some (.slice m.L ls.length m.cap') := q1
 obtain ⟨a0, a1⟩ := A2.two
 have HP : Hid (∀ W, MemAt W m ds ls n M -> Calls Tryz.prog 80 #[.agg #[.slice m.A ds.length m.cap, .slice m.L ls.length m.cap'], plA i q] W fun e w' => e = .returned (.bool (isPl ds i q)) ∧ Below W.heap.size W w') := fun W h => hasPlace_any _ _ _ _ _ _ _ W h.devs
 have PC : Hid (∀ W, Calls Tryz.prog 55 #[pkV p] W fun e w' => e = .returned (.int .i64 (if pkOk p then 0 else 1)) ∧ Below W.heap.size W w') := fun W => pcheck_any p W
 rw [hpl] at HP
 rw [hpk] at PC
 simp only [if_true] at PC
 obtain ⟨tx, ty, ok, hpv, hok, HT, HF⟩ : ∃ (tx ty : Int) (ok : Bool), placeV pv = plA tx ty ∧ pv.isSome = ok ∧ Hid (ok = true -> h = ⟨0, (tx, ty), ⟨ps, pd, psp, pdp⟩, learnP M (.back j p3 x3)⟩) ∧ Hid (ok = false -> h = badH 7 M) := by
  cases pv with
  | none => exact ⟨0, 0, _, rfl, rfl, (fun e => by cases e), fun _ => HN.out rfl⟩
  | some z => exact ⟨z.1, z.2, _, rfl, rfl, fun _ => HS.out z rfl, (fun e => by cases e)⟩
 rw [hpv, hok] at PE
 clear hpv hok HN HS
 obtain ⟨s, dd, sp, dp⟩ := p
 simp only at *
 go_enter Tryz.func57, Tryz.ntmps57
 go_wp2_with fail
 go_region_held3 (fun w' => w'.cell? ⟨m.B, m.z, none⟩ = some (.slice m.A ds.length m.cap) ∧ w'.cell? ⟨m.B, m.z + 1, none⟩ = some (.slice m.L ls.length m.cap') ∧ w'.cell? ⟨w.heap.size, 0, none⟩ = some (.int .i64 i) ∧ w'.cell? ⟨w.heap.size, 1, none⟩ = some (.int .i64 q)) (go_keep) ((go_at_call 80; refine (HP.out _ M2.drew).mono ?_; rintro e w5 ⟨rfl, hb5⟩; have D5 := chnN hb5 D2.drew; have A5 := A2.drew.keep hb5; have P5 := P2.drew.keep hb5; have R5 := R2.drew.keep hb5; have M5 := M2.drew.below hb5; have g0 := (CK.of_below hb5).cell Q0; have g1 := (CK.of_below hb5).cell Q1; obtain ⟨g2, g3⟩ := A5.two))
 clear hb5 D2 A2 P2 R2 M2 q0 q1 Q0 Q1 a0 a1 HP g0 g1 g2 g3
 obtain ⟨⟨l0, l1, l2, l3, l4, l5⟩, ⟨f0, f1, f2, f3, f4, f5⟩⟩ := R5.six
 have z5 : w.heap.size + 1 + 1 < w5.heap.size := R5.lt
 obtain ⟨p0, p1, p2, p3, _⟩ := P5.four
 go_wp2_with fail
 refine (PC.out _).mono ?_
 rintro e w6 ⟨rfl, hb6⟩
 have D6 := chnN hb6 D5
 have A6 := A5.keep hb6
 have P6 := P5.keep hb6
 have R6 := R5.keep hb6
 have M6 := M5.below hb6
 clear hb6 D5 A5 P5 R5 M5 p0 p1 p2 p3 l0 l1 l2 l3 l4 l5 f0 f1 f2 f3 f4 f5 PC z5
 obtain ⟨⟨l0, l1, l2, l3, l4, l5⟩, ⟨f0, f1, f2, f3, f4, f5⟩⟩ := R6.six
 obtain ⟨p0, p1, p2, p3', _⟩ := P6.four
 obtain ⟨a0, a1⟩ := A6.two
 go_wp2_with fail
 refine (SD.out _ M6).mono ?_
 rintro e w7 ⟨q9, p9, fv, er, rfl, HQ, hb7⟩
 obtain ⟨he, _, hz⟩ := HQ.out
 obtain ⟨hq9, hp9, HL⟩ := hz rfl
 simp only at he hq9 hp9 HL
 have hq9' := hq9.symm
 subst he hq9' hp9
 have D7 := chnN hb7 D6
 have R7 := R6.keep hb7
 have A7 := A6.keep hb7
 have M7 := M6.below hb7
 clear hb7 D6 A6 P6 R6 M6 p0 p1 p2 p3' a0 a1 l0 l1 l2 l3 l4 l5 f0 f1 f2 f3 f4 f5 SD HQ hz
 obtain ⟨_, _, ca, cb, cc, rfl, _⟩ := id HL
 have z7 : w.heap.size + 1 + 1 < w7.heap.size := R7.lt
 have D8 := Below.alN D7 (.cells #[.int .i64 q2, .int .i64 ps, .int .i64 pd, .int .i64 psp, .int .i64 pdp, .func (.func 159) #[] #[.pointer (some ⟨ca, 0, none⟩), .pointer (some ⟨cb, 0, none⟩), .pointer (some ⟨cc, 0, none⟩)]] 190)
 have R8 := R7.alloc (.cells #[.int .i64 q2, .int .i64 ps, .int .i64 pd, .int .i64 psp, .int .i64 pdp, .func (.func 159) #[] #[.pointer (some ⟨ca, 0, none⟩), .pointer (some ⟨cb, 0, none⟩), .pointer (some ⟨cc, 0, none⟩)]] 190)
 have A8 := A7.alloc (.cells #[.int .i64 q2, .int .i64 ps, .int .i64 pd, .int .i64 psp, .int .i64 pdp, .func (.func 159) #[] #[.pointer (some ⟨ca, 0, none⟩), .pointer (some ⟨cb, 0, none⟩), .pointer (some ⟨cc, 0, none⟩)]] 190)
 have M8 := M7.alloc (.cells #[.int .i64 q2, .int .i64 ps, .int .i64 pd, .int .i64 psp, .int .i64 pdp, .func (.func 159) #[] #[.pointer (some ⟨ca, 0, none⟩), .pointer (some ⟨cb, 0, none⟩), .pointer (some ⟨cc, 0, none⟩)]] 190)
 have HL8 := HL.below ((Below.refl _ w7).alloc (Nat.le_refl _) (.cells #[.int .i64 q2, .int .i64 ps, .int .i64 pd, .int .i64 psp, .int .i64 pdp, .func (.func 159) #[] #[.pointer (some ⟨ca, 0, none⟩), .pointer (some ⟨cb, 0, none⟩), .pointer (some ⟨cc, 0, none⟩)]] 190))
 have O8 := bk_new w7 #[.int .i64 q2, .int .i64 ps, .int .i64 pd, .int .i64 psp, .int .i64 pdp, .func (.func 159) #[] #[.pointer (some ⟨ca, 0, none⟩), .pointer (some ⟨cb, 0, none⟩), .pointer (some ⟨cc, 0, none⟩)]] 190
 clear D7 R7 A7 M7 HL
 go_upto_region 9 with fail
 generalize hON : w7.heap.size = on at *
 generalize hW : w7.alloc (.cells #[.int .i64 q2, .int .i64 ps, .int .i64 pd, .int .i64 psp, .int .i64 pdp, .func (.func 159) #[] #[.pointer (some ⟨ca, 0, none⟩), .pointer (some ⟨cb, 0, none⟩), .pointer (some ⟨cc, 0, none⟩)]] 190) = w8 at *
 clear hON hW
 obtain ⟨g0, g1, g2, g3⟩ := peS M8 A8 O8
 have D8a := (Below.alN D8 (.cells #[.int .i64 0, .int .i64 0] 43)).drew
 have M8a := (M8.alloc (.cells #[.int .i64 0, .int .i64 0] 43)).drew
 have A8a := (A8.alloc (.cells #[.int .i64 0, .int .i64 0] 43)).drew
 have O8a := (O8.alloc (.cells #[.int .i64 0, .int .i64 0] 43)).drew
 have R8a := (R8.alloc (.cells #[.int .i64 0, .int .i64 0] 43)).drew
 have H8a := HL8.below ((Below.refl _ w8).alloc (Nat.le_refl _) (.cells #[.int .i64 0, .int .i64 0] 43)).drew
 have H8d := HL8.below (Below.refl _ w8).drew
 have M8d := M8.drew
 have A8d := A8.drew
 have O8d := O8.drew
 go_cut [13, 14] (fun v13 v14 wx => ∃ g, v13 = .pointer (some ⟨g, 0, none⟩) ∧ v14 = .bool ok ∧ Bk wx g #[.int .i64 tx, .int .i64 ty] 43 ∧ w.heap.size + 1 + 1 < g ∧ Bk wx on #[.int .i64 q2, .int .i64 ps, .int .i64 pd, .int .i64 psp, .int .i64 pdp, .func (.func 159) #[] #[.pointer (some ⟨ca, 0, none⟩), .pointer (some ⟨cb, 0, none⟩), .pointer (some ⟨cc, 0, none⟩)]] 190 ∧ Bk wx (w.heap.size + 1 + 1) #[.int .i64 0, .int .i64 0, .int .i64 0, .int .i64 0, .int .i64 0, .int .i64 0] 45 ∧ MemAt wx m ds ls n M ∧ LrnAt w6.heap.size wx m (.func (.func 159) #[] #[.pointer (some ⟨ca, 0, none⟩), .pointer (some ⟨cb, 0, none⟩), .pointer (some ⟨cc, 0, none⟩)]) (.back j p3 x3) ∧ Below w.heap.size w wx)
 case first =>
  have zz8 : w.heap.size + 1 + 1 < w8.heap.size := R8.lt
  go_region_held3 (fun w' => w'.cell? ⟨m.B, m.z, none⟩ = some (.slice m.A ds.length m.cap) ∧ w'.cell? ⟨m.B, m.z + 1, none⟩ = some (.slice m.L ls.length m.cap') ∧ w'.cell? ⟨w.heap.size, 0, none⟩ = some (.int .i64 i) ∧ w'.cell? ⟨on, 0, none⟩ = some (.int .i64 q2)) (first | exact peS (by first | assumption | exact MemAt.alloc (by assumption) _) (by first | assumption | exact Bk.alloc (by assumption) _) (by first | assumption | exact Bk.alloc (by assumption) _) | exact peS (M8.below ((E9.setCell (p := ⟨w8.heap.size, 0, none⟩) (Nat.le_refl _) _).setCell (p := ⟨w8.heap.size, 1, none⟩) (Nat.le_refl _) _)) (A8.keep ((E9.setCell (p := ⟨w8.heap.size, 0, none⟩) (Nat.le_refl _) _).setCell (p := ⟨w8.heap.size, 1, none⟩) (Nat.le_refl _) _)) (O8.keep ((E9.setCell (p := ⟨w8.heap.size, 0, none⟩) (Nat.le_refl _) _).setCell (p := ⟨w8.heap.size, 1, none⟩) (Nat.le_refl _) _))) (first | (go_at_call 51; refine (PE.out _ M8d).mono ?_; rintro e w9 ⟨rfl, hb9⟩; have D9 := chnN hb9 D8.drew; have M9 := M8d.below hb9; have A9 := A8d.keep hb9; have O9 := O8d.keep hb9; have R9 := R8.drew.keep hb9; have H9 := H8d.below hb9; have G9 := bk_new w9 #[.int .i64 tx, .int .i64 ty] 43) | (go_at_call 51; refine (PE.out _ M8a).mono ?_; rintro e w9 ⟨rfl, hb9⟩; have D9 := chnN hb9 D8a; have M9 := M8a.below hb9; have A9 := A8a.keep hb9; have O9 := O8a.keep hb9; have R9 := R8a.keep hb9; have H9 := H8a.below hb9; have G9 := (bk_new w8 #[.int .i64 0, .int .i64 0] 43).drew.keep hb9; have E9 := chnN hb9 ((Below.refl _ w8).alloc (Nat.le_refl _) (.cells #[.int .i64 0, .int .i64 0] 43)).drew; have gf0 := G9.fz 0; have gf1 := G9.fz 1; obtain ⟨gg0, gg1⟩ := G9.two))
  all_goals
   go_wp2_with fail
   go_meet
   first
    | exact ⟨_, rfl, rfl, G9, (by have := R9.lt; omega), O9.alloc _, R9.alloc _, M9.alloc _, H9.below ((Below.refl _ _).alloc (Nat.le_refl _) _), Below.alN D9 _⟩
    | exact ⟨_, rfl, rfl, (by have := (G9.setS (j := 0) (.int .i64 tx)).setS (j := 1) (.int .i64 ty); simpa using this), zz8, O8.keep ((E9.setCell (p := ⟨w8.heap.size, 0, none⟩) (Nat.le_refl _) _).setCell (p := ⟨w8.heap.size, 1, none⟩) (Nat.le_refl _) _), R8.keep ((E9.setCell (p := ⟨w8.heap.size, 0, none⟩) (Nat.le_refl _) _).setCell (p := ⟨w8.heap.size, 1, none⟩) (Nat.le_refl _) _), M8.below ((E9.setCell (p := ⟨w8.heap.size, 0, none⟩) (Nat.le_refl _) _).setCell (p := ⟨w8.heap.size, 1, none⟩) (Nat.le_refl _) _), HL8.below ((E9.setCell (p := ⟨w8.heap.size, 0, none⟩) (Nat.le_refl _) _).setCell (p := ⟨w8.heap.size, 1, none⟩) (Nat.le_refl _) _), chnN ((E9.setCell (p := ⟨w8.heap.size, 0, none⟩) (Nat.le_refl _) _).setCell (p := ⟨w8.heap.size, 1, none⟩) (Nat.le_refl _) _) D8⟩
 case rest =>
  clear D8 R8 A8 M8 HL8 O8 g0 g1 g2 g3 D8a M8a A8a O8a R8a H8a H8d M8d A8d O8d PE
  obtain ⟨g, rfl, rfl, G8, zg, O8, R8, M8, HL8, D8⟩ := hcut
  obtain ⟨⟨l0, l1, l2, l3, l4, l5⟩, ⟨f0, f1, f2, f3, f4, f5⟩⟩ := R8.six
  cases ok
  ·have HV : Hid (h = badH 7 M) := HF.out rfl
   go_wp2_with fail
   refine bodyPost_ret (v := .tuple #[arV (0, 0) zeroP, .int .i64 7]) (by simp [results, Tryz.results57, go_sem, l0, l1, l2, l3, l4, l5, zeroP]) rfl (hpost_bad HV.out hM.out (by go_grown))
  have HV := HT.out rfl
  obtain ⟨⟨o0, o1, o2, o3, o4, o5⟩, _⟩ := O8.six
  clear l0 l1 l2 l3 l4 l5 f0 f1 f2 f3 f4 f5
  go_wp2_with fail
  obtain ⟨hj, hp3, ca', cb', cc', ee, _, _, _, d6, d0, d1, d2, d3, d4, d5⟩ := HL8
  cases ee
  refine (spread1_any _ _ _ m ds ls n M j p3 x3 _ M8 hn hj hp3 d6 d0 d1 d2 d3 d4 d5).mono ?_
  rintro e w9 ⟨rfl, M9, K9⟩
  have G9 := G8.ck (M8.ck K9)
  have O9 := O8.ck (M8.ck K9)
  have R9 := R8.ck (M8.ck K9)
  clear d0 d1 d2 d3 d4 d5 d6 hj hp3
  clear o0 o1 o2 o3 o4 o5
  obtain ⟨⟨o0, o1, o2, o3, o4, o5⟩, _⟩ := O9.six
  obtain ⟨⟨l0, l1, l2, l3, l4, l5⟩, ⟨f0, f1, f2, f3, f4, f5⟩⟩ := R9.six
  obtain ⟨gx, gy⟩ := G9.two
  go_wp2_with fail
  refine bodyPost_ret (v := .tuple #[arV (tx, ty) ⟨ps, pd, psp, pdp⟩, .int .i64 0]) (by simp [results, Tryz.results57, go_sem, l0, l1, l2, l3, l4, l5]) rfl (hpost_ok HV hM.out D8 K9 M9 (by omega) _ _ _ _ _ _)
def AddrsOk (ds : List Dv) : Prop := ∀ d ∈ ds, i64ok d.addr
theorem handle_any (m : Mp) (ds : List Dv) (ls : List Lk) (n : Nat) (M : Mnd) (i q : Int) (p : Pk) (c : Int) (w : World) (hM : MemAt w m ds ls n M) (hn : n < maxLen) (ha : AddrsOk ds) (hi : i64ok i) (hc : i64ok c) :
  Calls Tryz.prog 57 #[.pointer (some ⟨m.B, m.z, none⟩), plA i q, pkV p, .int .i64 c] w (HPost m ds ls n w (handleP ds ls M i q p c)) := by
 cases hpl : isPl ds i q
 ·exact handle_none m ds ls n M i q p c _ w hM hpl (by show _ = _; unfold handleP; rw [hpl]; rfl)
 cases hpk : pkOk p
 ·exact handle_bad m ds ls n M i q p c _ w hM hpl hpk (by show _ = _; unfold handleP; rw [hpl, hpk]; rfl)
 obtain ⟨k, rfl, d, hd, hg⟩ := isPl_dev hpl
 have e : handleP ds ls M (k : Int) q p c = if (sendP d M (k : Int) q p c).err = 0 then (match peerF ls (k : Int) (sendP d M (k : Int) q p c).port with
       | some t => ⟨0, t, (sendP d M (k : Int) q p c).p, learnP M (sendP d M (k : Int) q p c).l⟩
       | none => badH 7 M) else badH (sendP d M (k : Int) q p c).err M := by
  unfold handleP
  rw [hpl, hpk, hg]
  rfl
 have SD : ∀ W, MemAt W m ds ls n M -> Calls Tryz.prog 96 #[.pointer (some ⟨m.B, m.z, none⟩), plA (k : Int) q, pkV p, .int .i64 c] W (SPost m W (sendP d M (k : Int) q p c)) := fun W h => sendW_any m ds ls n M k d q p c W h hd (pkOk_ok hpk) hi hc (ha d (List.mem_of_getElem? hd))
 rw [e]
 generalize sendP d M (k : Int) q p c = r at *
 by_cases hz : r.err = 0
 rotate_left
 ·rw [if_neg hz]
  exact handle_err m ds ls n M k q p c _ r w hM hpl hpk (by simpa using hz) rfl SD
 rw [if_pos hz]
 obtain ⟨er, port, ⟨ps, pd, psp, pdp⟩, l⟩ := r
 simp only at hz
 subst hz
 have PE : ∀ W, MemAt W m ds ls n M -> Calls Tryz.prog 51 #[.agg #[.slice m.A ds.length m.cap, .slice m.L ls.length m.cap'], plA (k : Int) port] W fun e w' => e = .returned (.tuple #[placeV (peerF ls (k : Int) port), .bool (peerF ls (k : Int) port).isSome]) ∧ Below W.heap.size W w' := fun W h => peer_any _ _ _ _ ls _ _ W h.links
 simp only
 generalize peerF ls (k : Int) port = pv at *
 cases l with
 | no => exact handle_no m ds ls n M k q p c _ port ps pd psp pdp pv w hM hn hpl hpk SD PE (fun e => by subst e; rfl) (fun t e => by subst e; rfl)
 | flow j p3 => exact handle_flow m ds ls n M k q p c j p3 _ port ps pd psp pdp pv w hM hn hpl hpk SD PE (fun e => by subst e; rfl) (fun t e => by subst e; rfl)
 | own j k3 s3 => exact handle_own m ds ls n M k q p c j k3 s3 _ port ps pd psp pdp pv w hM hn hpl hpk SD PE (fun e => by subst e; rfl) (fun t e => by subst e; rfl)
 | back j p3 x3 => exact handle_back m ds ls n M k q p c j p3 x3 _ port ps pd psp pdp pv w hM hn hpl hpk SD PE (fun e => by subst e; rfl) (fun t e => by subst e; rfl)
end Go.Proofs.YtlmmeppifkigeaaGreat
namespace Go.Proofs.YtlmmeppifkigeaaGreat
open Go.RowKit
theorem indexI_any (A : Option Addr) (n cap : Nat) (bs : List Int) (x : Int) (base : Nat) (w : World) (hB : Hid (SlAt base w 1 IsI (.slice A n cap) bs)) :
  Calls Tryz.prog 136 #[.slice A n cap, .int .i64 x] w fun e w' => ∃ j : Int, e = .returned (.int .i64 j) ∧ Hid (decide (0 <= j) = bs.any (fun y => y == x)) ∧ w' = w := by
 obtain ⟨A', cap', e, _, h1, h2, _⟩ := id hB.out
 cases e
 unfold maxLen at h2
 generalize hres : bs.any (fun y => y == x) = res
 have HR : Hid (bs.any (fun y => y == x) = res) := hres
 clear hres
 go_enter Tryz.func136, Tryz.ntmps136
 go_wp2_with fail
 go_loop [8] (fun i => ∃ k : Nat, i = .int .i64 (k : Int) ∧ k <= bs.length ∧ Hid ((bs.take k).any (fun y => y == x) = false)) (fun i => bs.length - (intOf i).toNat)
 case atStart => exact ⟨0, rfl, by omega, rfl⟩
 case round =>
  obtain ⟨k, rfl, hk, hno⟩ := hrel
  by_cases hlt : k < bs.length
  ·obtain ⟨y, hxk⟩ : ∃ y, bs[k]? = some y := ⟨_, List.getElem?_eq_getElem hlt⟩
   obtain ⟨b, o, rfl, _, hcell⟩ := Ints.at hB.out hxk
   have c0 := hcell k y hxk
   have HT : Hid ((bs.take (k + 1)).any (fun z => z == x) = ((bs.take k).any (fun z => z == x) || (y == x))) := any_takeI hxk
   have HM : Hid (y == x -> bs.any (fun y => y == x) = true) := fun h => List.any_eq_true.2 ⟨y, List.mem_of_getElem? hxk, h⟩
   have k1 : (0 : Int) <= (k : Int) := by omega
   have k2 : (k : Int) < (bs.length : Int) := by omega
   clear hxk hcell hB
   cases hv : (y == x)
   ·have hv2 : (x == y) = false := by rw [BEq.comm]; exact hv
    have HV : Hid ((bs.take (k + 1)).any (fun z => z == x) = false) := by
     show _ = _
     rw [HT.out, hno.out, hv]
     rfl
    clear HT HM hno hv
    go_wp2_with fail
    go_round
    case rel => exact ⟨k + 1, by go_num, by omega, HV⟩
    case measure => simp [intOf]; omega
   ·have hv2 : (x == y) = true := by rw [BEq.comm]; exact hv
    have HV : Hid (res = true) := by
     show _ = _
     rw [<- HR.out, HM.out hv]
    clear HT HM hno hv
    go_wp2_with fail
    go_ret
    exact ⟨_, rfl, (by show _ = _; rw [HV.out]; simp), rfl⟩
  ·have HV : Hid (res = false) := by
    show _ = _
    rw [<- HR.out]
    have := hno.out
    rw [show k = bs.length by omega, List.take_length] at this
    exact this
   go_wp2_with fail
   go_ret
   exact ⟨_, rfl, (by show _ = _; rw [HV.out]; simp), rfl⟩
theorem containsI_any (A : Option Addr) (n cap : Nat) (bs : List Int) (x : Int) (base : Nat) (w : World) (hB : Hid (SlAt base w 1 IsI (.slice A n cap) bs)) :
  Calls Tryz.prog 107 #[.slice A n cap, .int .i64 x] w fun e w' => e = .returned (.bool (bs.any (fun y => y == x))) ∧ w' = w := by
 have IX : Hid (∀ w', w' = w -> Calls Tryz.prog 136 #[.slice A n cap, .int .i64 x] w' fun e w' => ∃ j : Int, e = .returned (.int .i64 j) ∧ Hid (decide (0 <= j) = bs.any (fun y => y == x)) ∧ w' = w) := fun w' h => by subst h; exact indexI_any A n cap bs x base w' hB
 clear hB
 generalize bs.any (fun y => y == x) = v at *
 go_enter Tryz.func107, Tryz.ntmps107
 go_wp2_with fail
 refine (IX.out _ rfl).mono ?_
 rintro e w2 ⟨j, rfl, hj, rfl⟩
 clear IX
 go_wp2_with fail
 go_ret
 exact ⟨by rw [<- hj.out]; rfl, rfl⟩
theorem backsFrom_vals (bs : List Int) (ad : Int) : ∀ (m k : Nat), bs.length - k <= m -> backsFrom bs ad k = 0 ∨ backsFrom bs ad k = 1
 | 0, k, h => by rw [backsFrom_end (by omega)]; simp
 | m + 1, k, h => by
   by_cases hk : k < bs.length
   ·rw [backsFrom_at (List.getElem?_eq_getElem hk)]
    split
    ·exact backsFrom_vals bs ad m (k + 1) (by omega)
    ·simp
   ·rw [backsFrom_end (by omega)]; simp
def backsF (k ad : Int) (bs : List Int) : Bool := (decide (0 < bs.length) == (k == 5)) && decide (backsFrom bs ad 0 = 0)
theorem backsFit_loop (nm : ByteArray) (k ad : Int) (pl : Nat) (A : Option Addr) (cap : Nat) (bs : List Int) (vr vt : Value) (res : Bool) (w : World) (hB : Hid (SlAt w.heap.size w 1 IsI (.slice A bs.length cap) bs)) (hcap : bs.length <= cap) (hmax : cap <= maxLen) (hne : (decide (0 < bs.length) == (k == 5)) = true) (HR : Hid (decide (backsFrom bs ad 0 = 0) = res)) :
  Calls Tryz.prog 76 #[devA nm k ad pl (.slice A bs.length cap) vr vt] w fun e w' => e = .returned (.bool res) ∧ Below w.heap.size w w' := by
 unfold maxLen at hmax
 have D0 := Below.alN (Below.refl w.heap.size w) (.cells #[.string nm, .int .i64 k, .int .i64 ad, .int .u8 (pl : Int), .slice A bs.length cap, vr, vt] 62)
 have V0 := seven_new w (.string nm) (.int .i64 k) (.int .i64 ad) (.int .u8 (pl : Int)) (.slice A bs.length cap) vr vt 62
 have BW := SlAt.below hB.out D0 (fun _ _ _ h => h)
 have hne2 : (decide ((0 : Int) < (bs.length : Int)) == (k == 5)) = true := by
  rw [<- hne]
  congr 1
  rw [decide_eq_decide]
  omega
 have hne3 : (decide (0 < bs.length)) = (k == 5) := eq_of_beq hne
 have hne4 : (decide ((0 : Int) < (bs.length : Int))) = (k == 5) := eq_of_beq hne2
 cases h5 : (k == 5)
 all_goals
  rw [h5] at hne3 hne4
  clear hne hne2
  go_enter Tryz.func76, Tryz.ntmps76
  go_wp2_with fail
  go_loop [16] (fun i => ∃ j : Nat, i = .int .i64 (j : Int) ∧ j <= bs.length ∧ Hid (decide (backsFrom bs ad j = 0) = res)) (fun i => bs.length - (intOf i).toNat)
  case atStart => exact ⟨0, rfl, by omega, HR⟩
  case round =>
   obtain ⟨j, rfl, hj, hl⟩ := hrel
   by_cases hlt : j < bs.length
   ·obtain ⟨x, hxk⟩ : ∃ x, bs[j]? = some x := ⟨_, List.getElem?_eq_getElem hlt⟩
    obtain ⟨b, o, rfl, _, hcell⟩ := Ints.at BW hxk
    have c0 := hcell j x hxk
    have HT : Hid (backsFrom bs ad j = if (decide (0 <= x) && decide (x <= 15)) && !(x == ad) && !((bs.take j).any (fun y => y == x)) then backsFrom bs ad (j + 1) else 1) := backsFrom_at hxk
    have IA : Hid (∀ w, Calls Tryz.prog 106 #[.int .i64 x] w fun e w' => e = .returned (.bool (addrB x)) ∧ w' = w) := fun w => isAddr_any x w
    have CO : Hid (Calls Tryz.prog 107 #[.slice (some ⟨b, o, none⟩) j cap, .int .i64 x] (w.alloc (.cells #[.string nm, .int .i64 k, .int .i64 ad, .int .u8 (pl : Int), .slice (some ⟨b, o, none⟩) bs.length cap, vr, vt] 62)) fun e w' => e = .returned (.bool ((bs.take j).any (fun y => y == x))) ∧ w' = (w.alloc (.cells #[.string nm, .int .i64 k, .int .i64 ad, .int .u8 (pl : Int), .slice (some ⟨b, o, none⟩) bs.length cap, vr, vt] 62))) := containsI_any _ j cap (bs.take j) x w.heap.size _ (SlAt.take BW j (by omega))
    have ea : (decide (0 <= x) && decide (x <= 15)) = addrB x := by
     unfold addrB
     congr 1
     rw [decide_eq_decide]
     omega
    rw [ea] at HT
    have k1 : (0 : Int) <= (j : Int) := by omega
    have k2 : (j : Int) < (bs.length : Int) := by omega
    have k3 : (j : Int) <= (cap : Int) := by omega
    obtain ⟨_, q0, q1, q2, q3, q4, q5, q6⟩ := id V0
    clear hxk hcell hB ea BW
    generalize addrB x = x0 at *
    generalize (bs.take j).any (fun y => y == x) = x2 at *
    cases x0
    ·have HV : Hid (res = false) := by
      show _ = _
      rw [<- hl.out, HT.out]
      simp
     clear HT hl
     go_wp2_with (go_at_call 106; refine (IA.out _).mono ?_; rintro e w' ⟨rfl, rfl⟩)
     go_ret
     exact ⟨by rw [HV.out]; rfl, D0⟩
    ·cases x1 : (x == ad)
     ·cases x2
      ·have HV : Hid (decide (backsFrom bs ad (j + 1) = 0) = res) := by
        show _ = _
        rw [<- hl.out, HT.out, x1]
        simp
       clear HT hl
       go_wp2_with (first | (go_at_call 106; refine (IA.out _).mono ?_; rintro e w' ⟨rfl, rfl⟩) | (go_at_call 107; refine CO.out.mono ?_; rintro e w' ⟨rfl, rfl⟩))
       go_round
       case rel => exact ⟨j + 1, by go_num, by omega, HV⟩
       case measure => simp [intOf]; omega
      ·have HV : Hid (res = false) := by
        show _ = _
        rw [<- hl.out, HT.out, x1]
        simp
       clear HT hl
       go_wp2_with (first | (go_at_call 106; refine (IA.out _).mono ?_; rintro e w' ⟨rfl, rfl⟩) | (go_at_call 107; refine CO.out.mono ?_; rintro e w' ⟨rfl, rfl⟩))
       go_ret
       exact ⟨by rw [HV.out]; rfl, D0⟩
     ·have HV : Hid (res = false) := by
       show _ = _
       rw [<- hl.out, HT.out, x1]
       simp
      clear HT hl
      go_wp2_with (go_at_call 106; refine (IA.out _).mono ?_; rintro e w' ⟨rfl, rfl⟩)
      go_ret
      exact ⟨by rw [HV.out]; rfl, D0⟩
   ·have HV : Hid (res = true) := by
     show _ = _
     rw [<- hl.out, backsFrom_end (by omega)]
     rfl
    go_wp2_with fail
    go_ret
    exact ⟨by rw [HV.out]; rfl, D0⟩
theorem backsFit_any (nm : ByteArray) (k ad : Int) (pl : Nat) (A : Option Addr) (cap : Nat) (bs : List Int) (vr vt : Value) (w : World) (hB : SlAt w.heap.size w 1 IsI (.slice A bs.length cap) bs) (hcap : bs.length <= cap) (hmax : cap <= maxLen) :
  Calls Tryz.prog 76 #[devA nm k ad pl (.slice A bs.length cap) vr vt] w fun e w' => e = .returned (.bool (backsF k ad bs)) ∧ Below w.heap.size w w' := by
 unfold backsF
 cases hne : (decide (0 < bs.length) == (k == 5))
 ·rw [Bool.false_and]
  have D0 := Below.alN (Below.refl w.heap.size w) (.cells #[.string nm, .int .i64 k, .int .i64 ad, .int .u8 (pl : Int), .slice A bs.length cap, vr, vt] 62)
  have e1 : decide (0 < bs.length) = decide ((0 : Int) < (bs.length : Int)) := by
   rw [decide_eq_decide]
   omega
  rw [e1] at hne
  clear e1 hB hcap hmax
  cases h5 : (k == 5) <;> cases h0 : decide ((0 : Int) < (bs.length : Int))
  ·rw [h5, h0] at hne; cases hne
  ·clear hne
   have n0 : 0 < bs.length := by simpa using h0
   go_enter Tryz.func76, Tryz.ntmps76
   go_wp2_with fail
   go_ret
   exact ⟨rfl, D0⟩
  ·clear hne
   have n0 : ¬ 0 < bs.length := by simpa using h0
   go_enter Tryz.func76, Tryz.ntmps76
   go_wp2_with fail
   go_ret
   exact ⟨rfl, D0⟩
  ·rw [h5, h0] at hne; cases hne
 ·rw [Bool.true_and]
  exact backsFit_loop nm k ad pl A cap bs vr vt _ w hB hcap hmax hne rfl
theorem same_any (r s : Rt) (w : World) : Calls Tryz.prog 111 #[rtw r.v r.b r.p, rtw s.v s.b s.p] w fun e w' => e = .returned (.bool (sameA r s)) ∧ Below w.heap.size w w' := by
 obtain ⟨v, b, p⟩ := r
 obtain ⟨v', b', p'⟩ := s
 unfold sameA
 simp only
 cases h : (v == v')
 ·go_enter Tryz.func111, Tryz.ntmps111
  go_wp2_with fail
  go_ret
  exact ⟨by simp, by go_grown⟩
 ·go_enter Tryz.func111, Tryz.ntmps111
  go_wp2_with fail
  go_ret
  exact ⟨by simp, by go_grown⟩
theorem pred_any (a r : Rt) (n0 : Nat) (w : World) (hT : Three w n0 (.int .i64 r.v) (.int .i64 r.b) (.int .i64 r.p)) :
  Calls Tryz.prog 110 #[rtw a.v a.b a.p, .pointer (some ⟨n0, 0, none⟩)] w fun e w' => e = .returned (.bool (sameA a r)) ∧ Below w.heap.size w w' := by
 have D0 := Below.al (Below.refl w.heap.size w) (.cells #[.int .i64 a.v, .int .i64 a.b, .int .i64 a.p] 130)
 have T1 := allocThree hT (.cells #[.int .i64 a.v, .int .i64 a.b, .int .i64 a.p] 130)
 obtain ⟨l0, g0, g1, g2⟩ := T1
 obtain ⟨_, q0, q1, q2⟩ := id hT
 have SM : Hid (∀ w, Calls Tryz.prog 111 #[rtw a.v a.b a.p, rtw r.v r.b r.p] w fun e w' => e = .returned (.bool (sameA a r)) ∧ Below w.heap.size w w') := fun w => same_any a r w
 have hn := hT.1
 clear hT
 generalize sameA a r = x at *
 generalize a.v = av at *
 generalize a.b = ab at *
 generalize a.p = ap at *
 generalize r.v = rv at *
 generalize r.b = rb at *
 generalize r.p = rp at *
 go_enter Tryz.func110, Tryz.ntmps110
 go_wp2_with fail
 refine (SM.out _).mono ?_
 rintro e w1 ⟨rfl, hb1⟩
 have D1 := chn hb1 D0
 clear D0 hb1 g0 g1 g2 q0 q1 q2 SM
 go_wp2_with fail
 go_ret
 exact ⟨rfl, D1⟩
theorem any_take {xs : List Rt} {k : Nat} {a r : Rt} (h : xs[k]? = some a) : (xs.take (k + 1)).any (fun a => sameA a r) = ((xs.take k).any (fun a => sameA a r) || sameA a r) := by
 obtain ⟨hk, e⟩ := List.getElem?_eq_some_iff.1 h
 rw [List.take_succ_eq_append_getElem hk, e]
 simp
theorem any_here {xs : List Rt} {k : Nat} {a r : Rt} (h : xs[k]? = some a) (hs : sameA a r = true) : xs.any (fun a => sameA a r) = true :=
 List.any_eq_true.2 ⟨a, List.mem_of_getElem? h, hs⟩
theorem indexFunc_row (b o cap n0 : Nat) (xs : List Rt) (r : Rt) (w : World) (hb : b < w.heap.size) (hn : xs.length <= cap) (hcap : cap <= maxLen) (hr : Hid (TAt w b o xs)) (hT : Hid (Three w n0 (.int .i64 r.v) (.int .i64 r.b) (.int .i64 r.p))) :
  Calls Tryz.prog 138 #[.slice (some ⟨b, o, none⟩) xs.length cap, .func (.func 110) #[] #[.pointer (some ⟨n0, 0, none⟩)]] w fun e w' => ∃ j : Int, e = .returned (.int .i64 j) ∧ Hid (decide (0 <= j) = xs.any (fun a => sameA a r)) ∧ Below w.heap.size w w' := by
 unfold maxLen at hcap
 go_enter Tryz.func138, Tryz.ntmps138
 go_wp2_with fail
 go_loopw [8] (fun i wr => ∃ k : Nat, i = .int .i64 (k : Int) ∧ k <= xs.length ∧ Below w.heap.size w wr ∧ Hid ((xs.take k).any (fun a => sameA a r) = false)) (fun i _ => xs.length - (intOf i).toNat)
 case atStart => exact ⟨0, rfl, by omega, Below.refl _ _, rfl⟩
 case round =>
  obtain ⟨k, rfl, hk, D1, hno⟩ := hrel
  by_cases hlt : k < xs.length
  ·obtain ⟨a, hxk⟩ : ∃ a, xs[k]? = some a := ⟨_, List.getElem?_eq_getElem hlt⟩
   obtain ⟨c0, c1, c2⟩ := (hr.out.below D1 hb).at hxk
   have PR : Hid (Calls Tryz.prog 110 #[rtw a.v a.b a.p, .pointer (some ⟨n0, 0, none⟩)] wr fun e w' => e = .returned (.bool (sameA a r)) ∧ Below wr.heap.size wr w') := pred_any a r n0 wr (keepThree D1 hT.out.1 hT.out)
   have HX : Hid (xs[k]? = some a) := hxk
   clear hr hxk
   cases hv : sameA a r
   ·rw [hv] at PR
    have HV : Hid ((xs.take (k + 1)).any (fun a => sameA a r) = false) := by show _ = _; rw [any_take HX.out, hno.out, hv]; rfl
    clear hv hno HX hT
    generalize a.v = av at *
    generalize a.b = ab at *
    generalize a.p = ap at *
    go_wp2_with fail
    refine PR.out.mono ?_
    rintro e w2 ⟨rfl, hb2⟩
    have D2 := chn hb2 D1
    clear hb2 D1 c0 c1 c2 PR
    go_wp2_with fail
    go_roundw
    case rel => exact ⟨k + 1, by go_num, by omega, D2, HV⟩
    case measure => simp [intOf]; omega
   ·rw [hv] at PR
    have fin : Hid (xs.any (fun a => sameA a r) = true) := any_here HX.out hv
    clear hv hno HX hT
    generalize a.v = av at *
    generalize a.b = ab at *
    generalize a.p = ap at *
    go_wp2_with fail
    refine PR.out.mono ?_
    rintro e w2 ⟨rfl, hb2⟩
    have D2 := chn hb2 D1
    clear hb2 D1 c0 c1 c2 PR
    go_wp2_with fail
    go_ret
    exact ⟨_, rfl, (by show _ = _; rw [fin.out]; simp), D2⟩
  ·obtain rfl : k = xs.length := by omega
   have fin : Hid (xs.any (fun a => sameA a r) = false) := by
    have := hno.out
    rw [List.take_length] at this
    exact this
   go_wp2_with fail
   go_ret
   exact ⟨_, rfl, (by show _ = _; rw [fin.out]; simp), D1⟩
theorem contains_any (b o cap n0 : Nat) (xs : List Rt) (r : Rt) (w : World) (hb : b < w.heap.size) (hn : xs.length <= cap) (hcap : cap <= maxLen) (hr : Hid (TAt w b o xs)) (hT : Hid (Three w n0 (.int .i64 r.v) (.int .i64 r.b) (.int .i64 r.p))) :
  Calls Tryz.prog 109 #[.slice (some ⟨b, o, none⟩) xs.length cap, .func (.func 110) #[] #[.pointer (some ⟨n0, 0, none⟩)]] w fun e w' => e = .returned (.bool (xs.any (fun a => sameA a r))) ∧ Below w.heap.size w w' := by
 have IX : Hid (Calls Tryz.prog 138 #[.slice (some ⟨b, o, none⟩) xs.length cap, .func (.func 110) #[] #[.pointer (some ⟨n0, 0, none⟩)]] w fun e w' => ∃ j : Int, e = .returned (.int .i64 j) ∧ Hid (decide (0 <= j) = xs.any (fun a => sameA a r)) ∧ Below w.heap.size w w') := indexFunc_row b o cap n0 xs r w hb hn hcap hr hT
 clear hr hT hn hcap hb
 generalize xs.any (fun a => sameA a r) = x at *
 generalize xs.length = n at *
 go_enter Tryz.func109, Tryz.ntmps109
 go_wp2_with fail
 refine IX.out.mono ?_
 rintro e w2 ⟨j, rfl, hj, hb2⟩
 clear IX
 go_wp2_with fail
 go_ret
 exact ⟨by rw [hj.out]; rfl, hb2⟩
theorem check_row (b o cap : Nat) (xs : List Rt) (w : World) (hb : b < w.heap.size) (hn : xs.length <= cap) (hcap : cap <= maxLen) (hr : Hid (TAt w b o xs)) (h8 : xs.length <= 8) :
  Calls Tryz.prog 79 #[.slice (some ⟨b, o, none⟩) xs.length cap] w fun e w' => e = .returned (.int .i64 (checkFrom xs 0)) ∧ Below w.heap.size w w' := by
 have hcap' := hcap
 unfold maxLen at hcap
 have t8 : decide ((8 : Int) < (xs.length : Int)) = false := by simp; omega
 go_enter Tryz.func79, Tryz.ntmps79
 go_wp2_with fail
 go_loopw [10] (fun i wr => ∃ k : Nat, i = .int .i64 (k : Int) ∧ k <= xs.length ∧ Below w.heap.size w wr ∧ Hid (checkFrom xs 0 = checkFrom xs k)) (fun i _ => xs.length - (intOf i).toNat)
 case atStart => exact ⟨0, rfl, by omega, Below.refl _ _, rfl⟩
 case round =>
  obtain ⟨k, rfl, hk, D1, hl⟩ := hrel
  by_cases hlt : k < xs.length
  ·obtain ⟨r, hxk⟩ : ∃ r, xs[k]? = some r := ⟨_, List.getElem?_eq_getElem hlt⟩
   obtain ⟨c0, c1, c2⟩ := (hr.out.below D1 hb).at hxk
   have hlen : (xs.take k).length = k := by rw [List.length_take]; omega
   have Hd : Hid (checkFrom xs k = if (if isR r then (if (xs.take k).any (fun a => sameA a r) then 5 else 0) else 1 : Int) = 0 then checkFrom xs (k + 1) else (if isR r then (if (xs.take k).any (fun a => sameA a r) then 5 else 0) else 1 : Int)) := checkFrom_at hxk
   have IS : Hid (∀ w, Calls Tryz.prog 108 #[rtw r.v r.b r.p] w fun e w' => e = .returned (.bool (isR r)) ∧ Below w.heap.size w w') := fun w => isRoute_any r w
   have CO : Hid (∀ w', Below w.heap.size w w' -> Three w' wr.heap.size (.int .i64 r.v) (.int .i64 r.b) (.int .i64 r.p) -> Calls Tryz.prog 109 #[.slice (some ⟨b, o, none⟩) k cap, .func (.func 110) #[] #[.pointer (some ⟨wr.heap.size, 0, none⟩)]] w' fun e w'' => e = .returned (.bool ((xs.take k).any (fun a => sameA a r))) ∧ Below w'.heap.size w' w'') := fun w' hw hT => by
    have := contains_any b o cap wr.heap.size (xs.take k) r w' (Nat.lt_of_lt_of_le hb hw.size) (by omega) hcap' ((hr.out.below hw hb).take k) hT
    rw [hlen] at this
    exact this
   have D2 := Below.al D1 (.cells #[.int .i64 r.v, .int .i64 r.b, .int .i64 r.p] 130)
   have T2 := three_new wr (.int .i64 r.v) (.int .i64 r.b) (.int .i64 r.p) 130
   have lw := D1.size
   clear hxk D1 hr hlen hcap'
   generalize isR r = x at *
   generalize (xs.take k).any (fun a => sameA a r) = y at *
   generalize r.v = rv0 at *
   generalize r.b = rb0 at *
   generalize r.p = rp0 at *
   go_wp2_with fail
   refine (IS.out _).mono ?_
   rintro e w3 ⟨rfl, hb3⟩
   have D3 := chn hb3 D2
   have T3 := keepThree hb3 (by simp) T2
   clear hb3 D2 T2 c0 c1 c2 IS
   cases x
   ·go_wp2_with fail
    go_ret
    exact ⟨by rw [hl.out, Hd.out]; simp, D3⟩
   ·go_wp2_with fail
    refine (CO.out _ D3 T3).mono ?_
    rintro e w4 ⟨rfl, hb4⟩
    have D4 := chn hb4 D3
    clear hb4 D3 T3 CO
    cases y
    ·go_wp2_with fail
     go_roundw
     case rel => exact ⟨k + 1, by go_num, by omega, D4, by show _ = _; rw [hl.out, Hd.out]; simp⟩
     case measure => simp [intOf]; omega
    ·go_wp2_with fail
     go_ret
     exact ⟨by rw [hl.out, Hd.out]; simp, D4⟩
  ·have fin : Hid (checkFrom xs 0 = 0) := by show _ = _; rw [hl.out, checkFrom_end (by omega)]
   go_wp2_with fail
   go_ret
   exact ⟨by rw [fin.out]; rfl, D1⟩
theorem check_none (A : Option Addr) (cap : Nat) (w : World) :
  Calls Tryz.prog 79 #[.slice A 0 cap] w fun e w' => e = .returned (.int .i64 0) ∧ Below w.heap.size w w' := by
 go_enter Tryz.func79, Tryz.ntmps79
 go_wp2_with fail
 go_loopw [10] (fun i wr => i = .int .i64 0 ∧ Below w.heap.size w wr) (fun i _ => 0)
 case atStart => exact ⟨rfl, Below.refl _ _⟩
 case round =>
  obtain ⟨rfl, D1⟩ := hrel
  go_wp2_with fail
  go_ret
  exact ⟨rfl, D1⟩
theorem check_large (A : Option Addr) (n cap : Nat) (w : World) (h : 8 < n) :
  Calls Tryz.prog 79 #[.slice A n cap] w fun e w' => e = .returned (.int .i64 2) ∧ Below w.heap.size w w' := by
 have t8 : decide ((8 : Int) < (n : Int)) = true := by simp; omega
 go_enter Tryz.func79, Tryz.ntmps79
 go_wp2_with fail
 go_ret
 exact ⟨rfl, Below.refl _ _⟩
theorem check_any {v : Value} {xs : List Rt} (w : World) (h : Routes w.heap.size w v xs) :
  Calls Tryz.prog 79 #[v] w fun e w' => e = .returned (.int .i64 (checkV xs)) ∧ Below w.heap.size w w' := by
 obtain ⟨A, cap, rfl, _, h1, h2, h3⟩ := h
 unfold checkV
 by_cases h8 : 8 < xs.length
 ·rw [if_pos h8]
  exact check_large A xs.length cap w h8
 ·rw [if_neg h8]
  by_cases hx : xs = []
  ·subst hx
   rw [checkFrom_end (by simp)]
   exact check_none A cap w
  ·obtain ⟨b, o, rfl, hb, hr⟩ := h3 hx
   exact check_row b o cap xs w hb h1 h2 hr (by omega)
def progDev (k ad : Int) (pl : Nat) (bs : List Int) (nr nt : Nat) (c : Int) : Int :=
 if (portsV k == 0) || !addrF k ad || !poolF k pl then 1 else if 3 < bs.length then 2 else if !backsF k ad bs || !listsF k nr nt then 1 else if 8 < nr then 2 else c
theorem progDev_eq (k ad : Int) (pl : Nat) (bs : List Int) (nr nt : Nat) (c : Int) : progDev k ad pl bs nr nt c = devV k ad pl bs nr nt c := by
 have ea : addrB ad = (decide (0 <= ad) && decide (ad <= 15)) := by
  unfold addrB
  congr 1
  rw [decide_eq_decide]
  omega
 have eb : decide (backsFrom bs ad 0 = 0) = !decide (backsFrom bs ad 0 = 1) := by
  rcases backsFrom_vals bs ad bs.length 0 (by omega) with h | h <;> rw [h] <;> rfl
 have ep : (!((pl : Int) == 0)) = decide (0 < pl) := by
  rw [Bool.eq_iff_iff]
  simp
  omega
 have el : decide (0 < bs.length) = !decide (bs.length = 0) := by
  rw [Bool.eq_iff_iff]
  simp only [decide_eq_true_eq, Bool.not_eq_true', decide_eq_false_iff_not]
  omega
 have er : decide (nr = 0) = !decide (0 < nr) := by
  rw [Bool.eq_iff_iff]
  simp
 have et : decide (nt = 0) = !decide (0 < nt) := by
  rw [Bool.eq_iff_iff]
  simp
 unfold progDev devV addrF poolF backsF listsF
 rw [ea, eb, ep, el, er, et]
 have ek : (portsV k == 0) = !(decide (1 <= k) && decide (k <= 5)) := by
  unfold portsV
  rw [Bool.eq_iff_iff]
  simp only [beq_iff_eq, Bool.not_eq_true', Bool.and_eq_false_iff, decide_eq_false_iff_not]
  split
  ·omega
  ·split
   ·omega
   ·split <;> omega
 rw [ek]
 cases hk : (decide (1 <= k) && decide (k <= 5))
 ·simp
 ·have hk' : 1 <= k ∧ k <= 5 := by simpa using hk
  generalize (decide (0 <= ad) && decide (ad <= 15)) = x1
  generalize decide (0 < pl) = x2
  generalize decide (bs.length = 0) = x3
  generalize decide (0 < nr) = x5
  generalize decide (0 < nt) = x6
  generalize (ad == 0) = x7
  by_cases h4 : backsFrom bs ad 0 = 1
  all_goals
   simp only [h4, decide_true, decide_false, if_true, if_false]
   have hkk : k = 1 ∨ k = 2 ∨ k = 3 ∨ k = 4 ∨ k = 5 := by omega
   rcases hkk with rfl | rfl | rfl | rfl | rfl <;> simp only [hasAddr] <;> cases x1 <;> cases x2 <;> cases x3 <;> cases x5 <;> cases x6 <;> cases x7 <;> simp
def devTold (ahead : List Dv) (d : Dv) : Int := if nameOk d.name then (if ahead.any (fun x => x.name.toList == d.name.toList) then 5 else devC d) else 3
theorem checkDevice_any (d : Dv) (vb vr vt : Value) (A : Option Addr) (n cap : Nat) (ahead : List Dv) (w : World) (hA : Devs w.heap.size w (.slice A n cap) ahead) (hb : SlAt w.heap.size w 1 IsI vb d.backs) (hr : SlAt w.heap.size w 5 IsRule vr d.rules) (ht : SlAt w.heap.size w 3 IsRoute vt d.routes) :
  Calls Tryz.prog 49 #[devA d.name d.kind d.addr d.pool vb vr vt, .slice A n cap] w fun e w' => e = .returned (.int .i64 (devTold ahead d)) ∧ Below w.heap.size w w' := by
 have FC : Hid (∀ W, Below w.heap.size w W -> Calls Tryz.prog 79 #[vt] W fun e w' => e = .returned (.int .i64 (checkV (d.routes.map rtOf))) ∧ Below W.heap.size W w') := fun W h => check_any W (routes_of (SlAt.mono (SlAt.below ht h (fun _ _ _ h => h)) h.size (fun _ _ _ h => h)))
 have FI : Hid (∀ W, Below w.heap.size w W -> Calls Tryz.prog 73 #[.slice A n cap, .string d.name] W fun e w' => e = .returned (.tuple #[.int .i64 (if 0 <= findFrom ahead d.name.toList 0 then findFrom ahead d.name.toList 0 else 0), .bool (ahead.any (fun x => x.name.toList == d.name.toList))]) ∧ Below W.heap.size W w') := fun W h => by
  have := find_any A n cap ahead d.name W ((hA.below h).mono h.size)
  rw [findFrom_some] at this
  exact this
 have hb0 := hb
 obtain ⟨Ab, cb, rfl, _, b1, b2, _⟩ := hb
 obtain ⟨Ar, cr, rfl, _, r1, r2, _⟩ := hr
 obtain ⟨At, ct, rfl, _, t1, t2, _⟩ := ht
 have BF : Hid (∀ W, Below w.heap.size w W -> Calls Tryz.prog 76 #[devA d.name d.kind d.addr d.pool (.slice Ab d.backs.length cb) (.slice Ar d.rules.length cr) (.slice At d.routes.length ct)] W fun e w' => e = .returned (.bool (backsF d.kind d.addr d.backs)) ∧ Below W.heap.size W w') := fun W h => backsFit_any _ _ _ _ _ _ _ _ _ W (SlAt.mono (SlAt.below hb0 h (fun _ _ _ h => h)) h.size (fun _ _ _ h => h)) b1 b2
 have NM : Hid (∀ w, Calls Tryz.prog 72 #[.string d.name] w fun e w' => e = .returned (.bool (nameOk d.name)) ∧ w' = w) := fun w => isName_any d.name w
 have PO : Hid (∀ w, Calls Tryz.prog 17 #[.int .i64 d.kind] w fun e w' => e = .returned (.int .i64 (portsV d.kind)) ∧ w' = w) := fun w => nports_any d.kind w
 have AF : Hid (∀ W, Calls Tryz.prog 74 #[devA d.name d.kind d.addr d.pool (.slice Ab d.backs.length cb) (.slice Ar d.rules.length cr) (.slice At d.routes.length ct)] W fun e w' => e = .returned (.bool (addrF d.kind d.addr)) ∧ Below W.heap.size W w') := fun W => addrFits_any _ _ _ _ _ _ _ W
 have PF : Hid (∀ W, Calls Tryz.prog 75 #[devA d.name d.kind d.addr d.pool (.slice Ab d.backs.length cb) (.slice Ar d.rules.length cr) (.slice At d.routes.length ct)] W fun e w' => e = .returned (.bool (poolF d.kind d.pool)) ∧ Below W.heap.size W w') := fun W => poolFits_any _ _ _ _ _ _ _ W
 have LF : Hid (∀ W, Calls Tryz.prog 77 #[devA d.name d.kind d.addr d.pool (.slice Ab d.backs.length cb) (.slice Ar d.rules.length cr) (.slice At d.routes.length ct)] W fun e w' => e = .returned (.bool (listsF d.kind d.rules.length d.routes.length)) ∧ Below W.heap.size W w') := fun W => listsFit_any _ _ _ _ _ _ _ _ _ _ _ W
 have AC : Hid (∀ w, Calls Tryz.prog 78 #[.slice Ar d.rules.length cr] w fun e w' => e = .returned (.int .i64 (if 8 < d.rules.length then 2 else 0)) ∧ w' = w) := fun w => aclCheck_any _ _ _ w
 generalize hres : devTold ahead d = res
 have HR : Hid (res = if nameOk d.name then (if ahead.any (fun x => x.name.toList == d.name.toList) then 5 else if (portsV d.kind == 0) || !addrF d.kind d.addr || !poolF d.kind d.pool then 1 else if 3 < d.backs.length then 2 else if !backsF d.kind d.addr d.backs || !listsF d.kind d.rules.length d.routes.length then 1 else if 8 < d.rules.length then 2 else checkV (d.routes.map rtOf)) else 3) := by
  show _ = _
  rw [<- hres]
  unfold devTold devC
  rw [<- progDev_eq]
  rfl
 clear hres hA hb0
 have D0 := Below.alN (Below.refl w.heap.size w) (.cells #[.string d.name, .int .i64 d.kind, .int .i64 d.addr, .int .u8 (d.pool : Int), .slice Ab d.backs.length cb, .slice Ar d.rules.length cr, .slice At d.routes.length ct] 62)
 have V0 := seven_new w (.string d.name) (.int .i64 d.kind) (.int .i64 d.addr) (.int .u8 (d.pool : Int)) (.slice Ab d.backs.length cb) (.slice Ar d.rules.length cr) (.slice At d.routes.length ct) 62
 generalize nameOk d.name = x0 at *
 generalize ahead.any (fun x => x.name.toList == d.name.toList) = x1 at *
 generalize (if 0 <= findFrom ahead d.name.toList 0 then findFrom ahead d.name.toList 0 else 0) = fi at *
 generalize portsV d.kind = pk at *
 generalize addrF d.kind d.addr = x3 at *
 generalize poolF d.kind d.pool = x4 at *
 generalize backsF d.kind d.addr d.backs = x5 at *
 generalize listsF d.kind d.rules.length d.routes.length = x6 at *
 generalize checkV (d.routes.map rtOf) = cv at *
 generalize d.backs.length = nb at *
 generalize d.rules.length = nr at *
 generalize d.routes.length = nt at *
 generalize d.name = nm at *
 generalize d.kind = kd at *
 generalize d.addr = ad at *
 generalize d.pool = pl at *
 go_enter Tryz.func49, Tryz.ntmps49
 go_wp2_with fail
 refine (NM.out _).mono ?_
 rintro e w' ⟨rfl, rfl⟩
 cases x0
 ·go_wp2_with fail
  go_ret
  exact ⟨by rw [HR.out]; rfl, D0⟩
 go_wp2_with fail
 refine (FI.out _ D0).mono ?_
 rintro e w1 ⟨rfl, hb1⟩
 have D1 := chnN hb1 D0
 have V1 := V0.below hb1 V0.1
 clear hb1 D0 V0 FI NM
 obtain ⟨l1, q0, q1, q2, q3, q4, q5, q6⟩ := id V1
 cases x1
 ·go_wp2_with fail
  refine (PO.out _).mono ?_
  rintro e w2 ⟨rfl, rfl⟩
  cases hpk : (pk == 0)
  ·go_wp2_with fail
   refine (AF.out _).mono ?_
   rintro e w3 ⟨rfl, hb3⟩
   have D3 := chnN hb3 D1
   have V3 := V1.below hb3 V1.1
   clear hb3 D1 V1 AF PO q0 q1 q2 q3 q4 q5 q6
   obtain ⟨l3, q0, q1, q2, q3, q4, q5, q6⟩ := id V3
   cases x3
   ·go_wp2_with fail
    go_ret
    exact ⟨by rw [HR.out, hpk]; rfl, D3⟩
   go_wp2_with fail
   refine (PF.out _).mono ?_
   rintro e w4 ⟨rfl, hb4⟩
   have D4 := chnN hb4 D3
   have V4 := V3.below hb4 V3.1
   clear hb4 D3 V3 PF q0 q1 q2 q3 q4 q5 q6
   obtain ⟨l4, q0, q1, q2, q3, q4, q5, q6⟩ := id V4
   cases x4
   ·go_wp2_with fail
    go_ret
    exact ⟨by rw [HR.out, hpk]; rfl, D4⟩
   by_cases n3 : 3 < nb
   ·have u3 : decide ((3 : Int) < (nb : Int)) = true := by simp; omega
    have HV : Hid (res = 2) := by show _ = _; rw [HR.out, hpk]; simp [n3]
    go_wp2_with fail
    go_ret
    exact ⟨by rw [HV.out]; rfl, D4⟩
   have u3 : decide ((3 : Int) < (nb : Int)) = false := by simp; omega
   have HR2 : Hid (res = if !x5 || !x6 then 1 else if 8 < nr then 2 else cv) := by show _ = _; rw [HR.out, hpk]; simp [n3]
   clear HR hpk
   go_wp2_with fail
   refine (BF.out _ D4).mono ?_
   rintro e w5 ⟨rfl, hb5⟩
   have D5 := chnN hb5 D4
   have V5 := V4.below hb5 V4.1
   clear hb5 D4 V4 BF q0 q1 q2 q3 q4 q5 q6
   obtain ⟨l5, q0, q1, q2, q3, q4, q5, q6⟩ := id V5
   cases x5
   ·go_wp2_with fail
    go_ret
    exact ⟨by rw [HR2.out]; rfl, D5⟩
   go_wp2_with fail
   refine (LF.out _).mono ?_
   rintro e w6 ⟨rfl, hb6⟩
   have D6 := chnN hb6 D5
   have V6 := V5.below hb6 V5.1
   clear hb6 D5 V5 LF q0 q1 q2 q3 q4 q5 q6
   obtain ⟨l6, q0, q1, q2, q3, q4, q5, q6⟩ := id V6
   cases x6
   ·go_wp2_with fail
    go_ret
    exact ⟨by rw [HR2.out]; rfl, D6⟩
   by_cases h8 : 8 < nr
   ·have HV : Hid (res = 2) := by show _ = _; rw [HR2.out]; simp [h8]
    rw [if_pos h8] at AC
    go_wp2_with fail
    refine (AC.out _).mono ?_
    rintro e w7 ⟨rfl, rfl⟩
    go_wp2_with fail
    go_ret
    exact ⟨by rw [HV.out]; rfl, D6⟩
   ·have HV : Hid (res = cv) := by show _ = _; rw [HR2.out]; simp [h8]
    rw [if_neg h8] at AC
    go_wp2_with fail
    refine (AC.out _).mono ?_
    rintro e w7 ⟨rfl, rfl⟩
    go_wp2_with fail
    refine (FC.out _ D6).mono ?_
    rintro e w8 ⟨rfl, hb8⟩
    have D8 := chnN hb8 D6
    go_wp2_with fail
    go_ret
    exact ⟨by rw [HV.out]; rfl, D8⟩
  ·go_wp2_with fail
   go_ret
   exact ⟨by rw [HR.out, hpk]; rfl, D1⟩
 ·go_wp2_with fail
  go_ret
  exact ⟨by rw [HR.out]; rfl, D1⟩
theorem Seven.drew {w : World} {n : Nat} {a b c d e f g : Value} (h : Seven w n a b c d e f g) : Seven w.drew n a b c d e f g := h
theorem net_row (A B : Option Addr) (cap cap' : Nat) (ds : List Dv) (ls : List Lk) (res : Int) (w : World) (hD : Hid (Devs w.heap.size w (.slice A ds.length cap) ds)) (hL : Hid (Links w.heap.size w (.slice B ls.length cap') ls)) (h10 : ds.length <= 10) (h15 : ls.length <= 15) (HR : Hid (res = if devsFrom ds 0 = 0 then linksFrom ds ls 0 else devsFrom ds 0)) :
  Calls Tryz.prog 25 #[.agg #[.slice A ds.length cap, .slice B ls.length cap']] w fun e w' => e = .returned (.int .i64 res) ∧ Below w.heap.size w w' := by
 obtain ⟨_, hc, hm⟩ := hD.out.len
 obtain ⟨_, hc', hm'⟩ := hL.out.len
 unfold maxLen at hm hm'
 have t10 : decide ((10 : Int) < (ds.length : Int)) = false := by simp; omega
 have t15 : decide ((15 : Int) < (ls.length : Int)) = false := by simp; omega
 have D0 := Below.alN (Below.refl w.heap.size w) (.cells #[.slice A ds.length cap, .slice B ls.length cap'] 25)
 have B0 := box2_new w (.slice A ds.length cap) (.slice B ls.length cap') 25
 go_enter Tryz.func25, Tryz.ntmps25
 go_wp2_with fail
 go_loopw [21] (fun i wr => ∃ k : Nat, i = .int .i64 (k : Int) ∧ k <= ds.length ∧ Below w.heap.size w wr ∧ Box2 wr w.heap.size (.slice A ds.length cap) (.slice B ls.length cap') ∧ Hid (devsFrom ds 0 = devsFrom ds k)) (fun i _ => ds.length - (intOf i).toNat)
 case atStart => exact ⟨0, rfl, by omega, D0, B0, rfl⟩
 case round =>
  clear D0 B0
  obtain ⟨k, rfl, hk, D1, B1, hl⟩ := hrel
  by_cases hlt : k < ds.length
  ·obtain ⟨d, hxk⟩ : ∃ d, ds[k]? = some d := ⟨_, List.getElem?_eq_getElem hlt⟩
   obtain ⟨b, o, vb, vr, vt, rfl, hb, z1, z2, z3, c0, c1, c2, c3, c4, c5, c6⟩ := (hD.out.below D1).at hxk
   obtain ⟨Ab, cb, rfl, _, _, _, _⟩ := z1
   obtain ⟨Ar, cr, rfl, _, _, _, _⟩ := z2
   obtain ⟨At, ct, rfl, _, _, _, _⟩ := z3
   have HF : Hid (devsFrom ds k = if devTold (ds.take k) d = 0 then devsFrom ds (k + 1) else devTold (ds.take k) d) := devsFrom_at hxk
   have CD : Hid (∀ W, Below w.heap.size w W -> Calls Tryz.prog 49 #[devA d.name d.kind d.addr d.pool (.slice Ab d.backs.length cb) (.slice Ar d.rules.length cr) (.slice At d.routes.length ct), .slice (some ⟨b, o, none⟩) k cap] W fun e w' => e = .returned (.int .i64 (devTold (ds.take k) d)) ∧ Below W.heap.size W w') := fun W h => by
    have hd := hD.out.below h
    obtain ⟨b', o', vb', vr', vt', e1, _, s1, s2, s3, q0, q1, q2, q3, q4, q5, q6⟩ := hd.at hxk
    cases e1
    have g4 := (D1.cell (p := ⟨b, o + k * 7 + 4, none⟩) hb).symm.trans c4
    have g5 := (D1.cell (p := ⟨b, o + k * 7 + 5, none⟩) hb).symm.trans c5
    have g6 := (D1.cell (p := ⟨b, o + k * 7 + 6, none⟩) hb).symm.trans c6
    have f4 := (h.cell (p := ⟨b, o + k * 7 + 4, none⟩) hb).symm.trans q4
    have f5 := (h.cell (p := ⟨b, o + k * 7 + 5, none⟩) hb).symm.trans q5
    have f6 := (h.cell (p := ⟨b, o + k * 7 + 6, none⟩) hb).symm.trans q6
    obtain rfl := Option.some.inj (g4.symm.trans f4)
    obtain rfl := Option.some.inj (g5.symm.trans f5)
    obtain rfl := Option.some.inj (g6.symm.trans f6)
    exact checkDevice_any d _ _ _ _ k cap (ds.take k) W (Devs.mono (SlAt.take hd k (by omega)) h.size) (SlAt.mono s1 h.size (fun _ _ _ h => h)) (SlAt.mono s2 h.size (fun _ _ _ h => h)) (SlAt.mono s3 h.size (fun _ _ _ h => h))
   have k1 : (0 : Int) <= (k : Int) := by omega
   have k2 : (k : Int) < (ds.length : Int) := by omega
   have k3 : (k : Int) <= (cap : Int) := by omega
   have lw := D1.size
   clear hxk
   generalize devTold (ds.take k) d = dv at *
   generalize d.backs.length = nb at *
   generalize d.rules.length = nr at *
   generalize d.routes.length = nt at *
   generalize d.name = nm at *
   generalize d.kind = kd at *
   generalize d.addr = ad at *
   generalize d.pool = pl at *
   have D2 := Below.alN D1 (.cells #[.string nm, .int .i64 kd, .int .i64 ad, .int .u8 (pl : Int), .slice Ab nb cb, .slice Ar nr cr, .slice At nt ct] 62)
   have B2 := B1.alloc (.cells #[.string nm, .int .i64 kd, .int .i64 ad, .int .u8 (pl : Int), .slice Ab nb cb, .slice Ar nr cr, .slice At nt ct] 62)
   have V2 := seven_new wr (.string nm) (.int .i64 kd) (.int .i64 ad) (.int .u8 (pl : Int)) (.slice Ab nb cb) (.slice Ar nr cr) (.slice At nt ct) 62
   have D3 := D2.drew
   obtain ⟨_, f0, f1, _⟩ := id B2
   obtain ⟨_, v0, v1, v2, v3, v4, v5, v6⟩ := id V2
   clear hD hL
   go_wp2_with fail
   go_region_held3 (fun w' => w'.cell? ⟨w.heap.size, 0, none⟩ = some (.slice (some ⟨b, o, none⟩) ds.length cap) ∧ w'.cell? ⟨wr.heap.size, 0, none⟩ = some (.string nm) ∧ w'.cell? ⟨wr.heap.size, 1, none⟩ = some (.int .i64 kd) ∧ w'.cell? ⟨wr.heap.size, 2, none⟩ = some (.int .i64 ad) ∧ w'.cell? ⟨wr.heap.size, 3, none⟩ = some (.int .u8 (pl : Int)) ∧ w'.cell? ⟨wr.heap.size, 4, none⟩ = some (.slice Ab nb cb) ∧ w'.cell? ⟨wr.heap.size, 5, none⟩ = some (.slice Ar nr cr) ∧ w'.cell? ⟨wr.heap.size, 6, none⟩ = some (.slice At nt ct)) (go_keep) ((go_at_call 49; refine (CD.out _ D3).mono ?_; rintro e w2 ⟨rfl, hb2⟩; have D4 := chnN hb2 D3; have B4 := B2.drew.below hb2 B2.1; have V4 := V2.drew.below hb2 V2.1; obtain ⟨_, p0, p1, _⟩ := id B4; obtain ⟨_, r0, r1, r2, r3, r4, r5, r6⟩ := id V4))
   clear c0 c1 c2 c3 c4 c5 c6 f0 f1 v0 v1 v2 v3 v4 v5 v6 D1 D2 D3 B1 B2 V2 hb2 CD
   cases h0 : (dv == 0)
   ·have HV : Hid (res = dv) := by
     have hne : ¬ dv = 0 := by simpa using h0
     show _ = _
     rw [HR.out, hl.out, HF.out, if_neg hne, if_neg hne]
    go_wp2_with fail
    go_ret
    exact ⟨by rw [HV.out]; rfl, D4⟩
   ·have HV : Hid (devsFrom ds 0 = devsFrom ds (k + 1)) := by
     have he : dv = 0 := by simpa using h0
     show _ = _
     rw [hl.out, HF.out, if_pos he]
    go_wp2_with fail
    go_roundw
    case rel => exact ⟨k + 1, by go_num, by omega, D4, B4, HV⟩
    case measure => simp [intOf]; omega
  ·have HZ : Hid (res = linksFrom ds ls 0) := by
    show _ = _
    rw [HR.out, hl.out, devsFrom_end (by omega), if_pos rfl]
   clear hl HR
   obtain ⟨_, g0, g1, _⟩ := id B1
   go_wp2_with fail
   go_loopw [39] (fun i wr => ∃ k : Nat, i = .int .i64 (k : Int) ∧ k <= ls.length ∧ Below w.heap.size w wr ∧ Box2 wr w.heap.size (.slice A ds.length cap) (.slice B ls.length cap') ∧ Hid (res = linksFrom ds ls k)) (fun i _ => ls.length - (intOf i).toNat)
   case atStart => exact ⟨0, rfl, by omega, D1, B1, HZ⟩
   case round =>
    clear D1 B1 HZ g0 g1
    obtain ⟨j, rfl, hj, D1, B1, hl⟩ := hrel
    by_cases hjl : j < ls.length
    ·obtain ⟨l, hxk⟩ : ∃ l, ls[j]? = some l := ⟨_, List.getElem?_eq_getElem hjl⟩
     have HF : Hid (linksFrom ds ls j = if linkTold ds (ls.take j) l = 0 then linksFrom ds ls (j + 1) else linkTold ds (ls.take j) l) := linksFrom_at hxk
     have HX : Hid (ls[j]? = some l) := hxk
     have CD : Hid (∀ W, Below w.heap.size w W -> Calls Tryz.prog 50 #[.agg #[.slice A ds.length cap, .slice B ls.length cap'], .int .i64 (j : Int)] W fun e w' => e = .returned (.int .i64 (linkTold ds (ls.take j) l)) ∧ Below W.heap.size W w') := fun W h => checkLink_any A B cap cap' ds ls j l W HX ((hD.out.below h).mono h.size) ((hL.out.below h).mono h.size)
     have lw := D1.size
     obtain ⟨_, g0, g1, _⟩ := id B1
     clear hxk HX hD hL
     generalize linkTold ds (ls.take j) l = dv at *
     go_wp2_with fail
     refine (CD.out _ D1).mono ?_
     rintro e w2 ⟨rfl, hb2⟩
     have D4 := chnN hb2 D1
     have B4 := B1.below hb2 B1.1
     clear D1 B1 hb2 CD g0 g1
     cases h0 : (dv == 0)
     ·have HV : Hid (res = dv) := by
       have hne : ¬ dv = 0 := by simpa using h0
       show _ = _
       rw [hl.out, HF.out, if_neg hne]
      go_wp2_with fail
      go_ret
      exact ⟨by rw [HV.out]; rfl, D4⟩
     ·have HV : Hid (res = linksFrom ds ls (j + 1)) := by
       have he : dv = 0 := by simpa using h0
       show _ = _
       rw [hl.out, HF.out, if_pos he]
      go_wp2_with fail
      go_roundw
      case rel => exact ⟨j + 1, by go_num, by omega, D4, B4, HV⟩
      case measure => simp [intOf]; omega
    ·have HV : Hid (res = 0) := by
      show _ = _
      rw [hl.out, linksFrom_end (by omega)]
     go_wp2_with fail
     go_ret
     exact ⟨by rw [HV.out]; rfl, D1⟩
theorem net_any (vd vl : Value) (ds : List Dv) (ls : List Lk) (w : World) (hD : Devs w.heap.size w vd ds) (hL : Links w.heap.size w vl ls) :
  Calls Tryz.prog 25 #[.agg #[vd, vl]] w fun e w' => e = .returned (.int .i64 (netV ds ls)) ∧ Below w.heap.size w w' := by
 have hD0 := hD
 have hL0 := hL
 obtain ⟨A, cap, rfl, _, _, _, _⟩ := hD
 obtain ⟨B, cap', rfl, _, _, _, _⟩ := hL
 unfold netV
 by_cases h : 10 < ds.length ∨ 15 < ls.length
 ·rw [if_pos h]
  have D0 := Below.alN (Below.refl w.heap.size w) (.cells #[.slice A ds.length cap, .slice B ls.length cap'] 25)
  clear hD0 hL0
  by_cases h10 : 10 < ds.length
  ·have t10 : decide ((10 : Int) < (ds.length : Int)) = true := by simp; omega
   clear h
   go_enter Tryz.func25, Tryz.ntmps25
   go_wp2_with fail
   go_ret
   exact ⟨rfl, D0⟩
  ·have t10 : decide ((10 : Int) < (ds.length : Int)) = false := by simp; omega
   have t15 : decide ((15 : Int) < (ls.length : Int)) = true := by simp; omega
   clear h
   go_enter Tryz.func25, Tryz.ntmps25
   go_wp2_with fail
   go_ret
   exact ⟨rfl, D0⟩
 ·rw [if_neg h]
  exact net_row A B cap cap' ds ls _ w hD0 hL0 (by omega) (by omega) rfl
end Go.Proofs.YtlmmeppifkigeaaGreat
