/-
  Package step: Handle, what goes out: owners.
-/
import Derived.Test.YthioedgnambomaaGreatXAH
import Derived.Test.YthioedgnambomaaGreatXAF
import Derived.Laws.AppendOwnNone
import Derived.Lib.SliceRun
import Derived.Test.YthioedgnambomaaGreatXAG
namespace Go.Proofs.YthioedgnambomaaGreat
open Go.RowKit Go.Maps

set_option maxHeartbeats 4000000 in
set_option maxRecDepth 100000 in
theorem handle_own (m : Mp) (ds : List Dv) (ls : List Lk) (n : Nat) (M : Mnd) (i q : Int) (p : Pk) (c : Int) (j k3 : Int) (s3 : Int × Int) (h : HR) (q2 ps pd psp pdp : Int) (pv : Option (Int × Int)) (w : World) (hM : Hid (MemAt w m ds ls n M)) (hn : n < maxLen) (hpl : isPl ds i q = true) (hpk : pkOk p = true)
    (SD : Hid (∀ W, MemAt W m ds ls n M → Calls Tryz.prog 66 #[.pointer (some ⟨m.B, m.z, none⟩), plA i q, pkV p, .int .i64 c] W (SPost m W ⟨0, q2, ⟨ps, pd, psp, pdp⟩, .own j k3 s3⟩)))
    (PE : Hid (∀ W, MemAt W m ds ls n M → Calls Tryz.prog 67 #[.agg #[.slice m.A ds.length m.cap, .slice m.L ls.length m.cap'], plA i q2] W fun e w' => e = .returned (.tuple #[placeV pv, .bool pv.isSome]) ∧ Below W.heap.size W w'))
    (HN : Hid (pv = none → h = badH 7 M)) (HS : Hid (∀ t, pv = some t → h = ⟨0, t, ⟨ps, pd, psp, pdp⟩, learnP M (.own j k3 s3)⟩)) :
    Calls Tryz.prog 31 #[.pointer (some ⟨m.B, m.z, none⟩), plA i q, pkV p, .int .i64 c] w (HPost m ds ls n w h) := by
  have M2 := ((hM.out.alloc (.cells #[.int .i64 i, .int .i64 q] 27)).alloc (pkC p)).alloc (.cells #[.int .i64 0, .int .i64 0, .int .i64 0, .int .i64 0, .int .i64 0, .int .i64 0] 60)
  have D2 := Below.alN (Below.alN (Below.alN (Below.refl w.heap.size w) (.cells #[.int .i64 i, .int .i64 q] 27)) (pkC p)) (.cells #[.int .i64 0, .int .i64 0, .int .i64 0, .int .i64 0, .int .i64 0, .int .i64 0] 60)
  have A2 := ((bk_new w #[.int .i64 i, .int .i64 q] 27).alloc (pkC p)).alloc (.cells #[.int .i64 0, .int .i64 0, .int .i64 0, .int .i64 0, .int .i64 0, .int .i64 0] 60)
  have P2 := (bk_new' (w.alloc (.cells #[.int .i64 i, .int .i64 q] 27)) #[.int .i64 p.s, .int .i64 p.d, .int .i64 p.sp, .int .i64 p.dp] 29 (w.heap.size + 1) (by simp)).alloc (.cells #[.int .i64 0, .int .i64 0, .int .i64 0, .int .i64 0, .int .i64 0, .int .i64 0] 60)
  have R2 := bk_new' ((w.alloc (.cells #[.int .i64 i, .int .i64 q] 27)).alloc (pkC p)) #[.int .i64 0, .int .i64 0, .int .i64 0, .int .i64 0, .int .i64 0, .int .i64 0] 60 (w.heap.size + 1 + 1) (by simp)
  obtain ⟨q0, q1, _, _, _⟩ := M2.cells
  have Q0 : (((w.alloc (.cells #[.int .i64 i, .int .i64 q] 27)).alloc (pkC p)).alloc (.cells #[.int .i64 0, .int .i64 0, .int .i64 0, .int .i64 0, .int .i64 0, .int .i64 0] 60)).drew.cell? ⟨m.B, m.z, none⟩ = some (.slice m.A ds.length m.cap) := q0
  have Q1 : (((w.alloc (.cells #[.int .i64 i, .int .i64 q] 27)).alloc (pkC p)).alloc (.cells #[.int .i64 0, .int .i64 0, .int .i64 0, .int .i64 0, .int .i64 0, .int .i64 0] 60)).drew.cell? ⟨m.B, m.z + 1, none⟩ = some (.slice m.L ls.length m.cap') := q1
  obtain ⟨a0, a1⟩ := A2.two
  have HP : Hid (∀ W, MemAt W m ds ls n M → Calls Tryz.prog 16 #[.agg #[.slice m.A ds.length m.cap, .slice m.L ls.length m.cap'], plA i q] W fun e w' => e = .returned (.bool (isPl ds i q)) ∧ Below W.heap.size W w') := fun W h => hasPlace_any _ _ _ _ _ _ _ W h.devs
  have PC : Hid (∀ W, Calls Tryz.prog 17 #[pkV p] W fun e w' => e = .returned (.int .i64 (if pkOk p then 0 else 1)) ∧ Below W.heap.size W w') := fun W => pcheck_any p W
  rw [hpl] at HP
  rw [hpk] at PC
  simp only [if_true] at PC
  obtain ⟨tx, ty, ok, hpv, hok, HT, HF⟩ : ∃ (tx ty : Int) (ok : Bool), placeV pv = plA tx ty ∧ pv.isSome = ok ∧ Hid (ok = true → h = ⟨0, (tx, ty), ⟨ps, pd, psp, pdp⟩, learnP M (.own j k3 s3)⟩) ∧ Hid (ok = false → h = badH 7 M) := by
    cases pv with
    | none => exact ⟨0, 0, _, rfl, rfl, (fun e => by cases e), fun _ => HN.out rfl⟩
    | some z => exact ⟨z.1, z.2, _, rfl, rfl, fun _ => HS.out z rfl, (fun e => by cases e)⟩
  rw [hpv, hok] at PE
  clear hpv hok HN HS
  obtain ⟨s, dd, sp, dp⟩ := p
  simp only at *
  go_enter Tryz.func31, Tryz.ntmps31
  go_wp2_with fail
  go_region_held3 (fun w' => w'.cell? ⟨m.B, m.z, none⟩ = some (.slice m.A ds.length m.cap) ∧ w'.cell? ⟨m.B, m.z + 1, none⟩ = some (.slice m.L ls.length m.cap') ∧ w'.cell? ⟨w.heap.size, 0, none⟩ = some (.int .i64 i) ∧ w'.cell? ⟨w.heap.size, 1, none⟩ = some (.int .i64 q)) (go_keep) ((go_at_call 16; refine (HP.out _ M2.drew).mono ?_; rintro e w5 ⟨rfl, hb5⟩; have D5 := chnN hb5 D2.drew; have A5 := A2.drew.keep hb5; have P5 := P2.drew.keep hb5; have R5 := R2.drew.keep hb5; have M5 := M2.drew.below hb5; have g0 := (CK.of_below hb5).cell Q0; have g1 := (CK.of_below hb5).cell Q1; obtain ⟨g2, g3⟩ := A5.two))
  clear hb5 D2 A2 P2 R2 M2 q0 q1 Q0 Q1 a0 a1 HP g0 g1 g2 g3
  obtain ⟨⟨l0, l1, l2, l3, l4, l5⟩, ⟨f0, f1, f2, f3, f4, f5⟩⟩ := R5.six
  have z5 : w.heap.size + 1 + 1 < w5.heap.size := R5.lt
  obtain ⟨p0, p1, p2, p3, _⟩ := P5.four
  go_wp2_with fail
  refine (PC.out _).mono ?_
  rintro e w6 ⟨rfl, hb6⟩
  have D6 := chnN hb6 D5
  have A6 := A5.keep hb6
  have P6 := P5.keep hb6
  have R6 := R5.keep hb6
  have M6 := M5.below hb6
  clear hb6 D5 A5 P5 R5 M5 p0 p1 p2 p3 l0 l1 l2 l3 l4 l5 f0 f1 f2 f3 f4 f5 PC z5
  obtain ⟨⟨l0, l1, l2, l3, l4, l5⟩, ⟨f0, f1, f2, f3, f4, f5⟩⟩ := R6.six
  obtain ⟨p0, p1, p2, p3', _⟩ := P6.four
  obtain ⟨a0, a1⟩ := A6.two
  go_wp2_with fail
  refine (SD.out _ M6).mono ?_
  rintro e w7 ⟨q9, p9, fv, er, rfl, HQ, hb7⟩
  obtain ⟨he, _, hz⟩ := HQ.out
  obtain ⟨hq9, hp9, HL⟩ := hz rfl
  simp only at he hq9 hp9 HL
  have hq9' := hq9.symm
  subst he hq9' hp9
  have D7 := chnN hb7 D6
  have R7 := R6.keep hb7
  have A7 := A6.keep hb7
  have M7 := M6.below hb7
  clear hb7 D6 A6 P6 R6 M6 p0 p1 p2 p3' a0 a1 l0 l1 l2 l3 l4 l5 f0 f1 f2 f3 f4 f5 SD HQ hz
  obtain ⟨_, _, ca, cb, cc, cd, rfl, _⟩ := id HL
  have z7 : w.heap.size + 1 + 1 < w7.heap.size := R7.lt
  have D8 := Below.alN D7 (.cells #[.int .i64 q2, .int .i64 ps, .int .i64 pd, .int .i64 psp, .int .i64 pdp, .func (.func 100) #[] #[.pointer (some ⟨ca, 0, none⟩), .pointer (some ⟨cb, 0, none⟩), .pointer (some ⟨cc, 0, none⟩), .pointer (some ⟨cd, 0, none⟩)]] 117)
  have R8 := R7.alloc (.cells #[.int .i64 q2, .int .i64 ps, .int .i64 pd, .int .i64 psp, .int .i64 pdp, .func (.func 100) #[] #[.pointer (some ⟨ca, 0, none⟩), .pointer (some ⟨cb, 0, none⟩), .pointer (some ⟨cc, 0, none⟩), .pointer (some ⟨cd, 0, none⟩)]] 117)
  have A8 := A7.alloc (.cells #[.int .i64 q2, .int .i64 ps, .int .i64 pd, .int .i64 psp, .int .i64 pdp, .func (.func 100) #[] #[.pointer (some ⟨ca, 0, none⟩), .pointer (some ⟨cb, 0, none⟩), .pointer (some ⟨cc, 0, none⟩), .pointer (some ⟨cd, 0, none⟩)]] 117)
  have M8 := M7.alloc (.cells #[.int .i64 q2, .int .i64 ps, .int .i64 pd, .int .i64 psp, .int .i64 pdp, .func (.func 100) #[] #[.pointer (some ⟨ca, 0, none⟩), .pointer (some ⟨cb, 0, none⟩), .pointer (some ⟨cc, 0, none⟩), .pointer (some ⟨cd, 0, none⟩)]] 117)
  have HL8 := HL.below ((Below.refl _ w7).alloc (Nat.le_refl _) (.cells #[.int .i64 q2, .int .i64 ps, .int .i64 pd, .int .i64 psp, .int .i64 pdp, .func (.func 100) #[] #[.pointer (some ⟨ca, 0, none⟩), .pointer (some ⟨cb, 0, none⟩), .pointer (some ⟨cc, 0, none⟩), .pointer (some ⟨cd, 0, none⟩)]] 117))
  have O8 := bk_new w7 #[.int .i64 q2, .int .i64 ps, .int .i64 pd, .int .i64 psp, .int .i64 pdp, .func (.func 100) #[] #[.pointer (some ⟨ca, 0, none⟩), .pointer (some ⟨cb, 0, none⟩), .pointer (some ⟨cc, 0, none⟩), .pointer (some ⟨cd, 0, none⟩)]] 117
  clear D7 R7 A7 M7 HL
  go_upto_region 9 with fail
  generalize hON : w7.heap.size = on at *
  generalize hW : w7.alloc (.cells #[.int .i64 q2, .int .i64 ps, .int .i64 pd, .int .i64 psp, .int .i64 pdp, .func (.func 100) #[] #[.pointer (some ⟨ca, 0, none⟩), .pointer (some ⟨cb, 0, none⟩), .pointer (some ⟨cc, 0, none⟩), .pointer (some ⟨cd, 0, none⟩)]] 117) = w8 at *
  clear hON hW
  obtain ⟨g0, g1, g2, g3⟩ := peS M8 A8 O8
  have D8a := (Below.alN D8 (.cells #[.int .i64 0, .int .i64 0] 27)).drew
  have M8a := (M8.alloc (.cells #[.int .i64 0, .int .i64 0] 27)).drew
  have A8a := (A8.alloc (.cells #[.int .i64 0, .int .i64 0] 27)).drew
  have O8a := (O8.alloc (.cells #[.int .i64 0, .int .i64 0] 27)).drew
  have R8a := (R8.alloc (.cells #[.int .i64 0, .int .i64 0] 27)).drew
  have H8a := HL8.below ((Below.refl _ w8).alloc (Nat.le_refl _) (.cells #[.int .i64 0, .int .i64 0] 27)).drew
  have H8d := HL8.below (Below.refl _ w8).drew
  have M8d := M8.drew
  have A8d := A8.drew
  have O8d := O8.drew
  go_cut [13, 14] (fun v13 v14 wx => ∃ g, v13 = .pointer (some ⟨g, 0, none⟩) ∧ v14 = .bool ok ∧ Bk wx g #[.int .i64 tx, .int .i64 ty] 27 ∧ w.heap.size + 1 + 1 < g ∧ Bk wx on #[.int .i64 q2, .int .i64 ps, .int .i64 pd, .int .i64 psp, .int .i64 pdp, .func (.func 100) #[] #[.pointer (some ⟨ca, 0, none⟩), .pointer (some ⟨cb, 0, none⟩), .pointer (some ⟨cc, 0, none⟩), .pointer (some ⟨cd, 0, none⟩)]] 117 ∧ Bk wx (w.heap.size + 1 + 1) #[.int .i64 0, .int .i64 0, .int .i64 0, .int .i64 0, .int .i64 0, .int .i64 0] 60 ∧ MemAt wx m ds ls n M ∧ LrnAt w6.heap.size wx m (.func (.func 100) #[] #[.pointer (some ⟨ca, 0, none⟩), .pointer (some ⟨cb, 0, none⟩), .pointer (some ⟨cc, 0, none⟩), .pointer (some ⟨cd, 0, none⟩)]) (.own j k3 s3) ∧ Below w.heap.size w wx)
  case first =>
    have zz8 : w.heap.size + 1 + 1 < w8.heap.size := R8.lt
    go_region_held3 (fun w' => w'.cell? ⟨m.B, m.z, none⟩ = some (.slice m.A ds.length m.cap) ∧ w'.cell? ⟨m.B, m.z + 1, none⟩ = some (.slice m.L ls.length m.cap') ∧ w'.cell? ⟨w.heap.size, 0, none⟩ = some (.int .i64 i) ∧ w'.cell? ⟨on, 0, none⟩ = some (.int .i64 q2)) (first | exact peS (by first | assumption | exact MemAt.alloc (by assumption) _) (by first | assumption | exact Bk.alloc (by assumption) _) (by first | assumption | exact Bk.alloc (by assumption) _) | exact peS (M8.below ((E9.setCell (p := ⟨w8.heap.size, 0, none⟩) (Nat.le_refl _) _).setCell (p := ⟨w8.heap.size, 1, none⟩) (Nat.le_refl _) _)) (A8.keep ((E9.setCell (p := ⟨w8.heap.size, 0, none⟩) (Nat.le_refl _) _).setCell (p := ⟨w8.heap.size, 1, none⟩) (Nat.le_refl _) _)) (O8.keep ((E9.setCell (p := ⟨w8.heap.size, 0, none⟩) (Nat.le_refl _) _).setCell (p := ⟨w8.heap.size, 1, none⟩) (Nat.le_refl _) _))) (first | (go_at_call 67; refine (PE.out _ M8d).mono ?_; rintro e w9 ⟨rfl, hb9⟩; have D9 := chnN hb9 D8.drew; have M9 := M8d.below hb9; have A9 := A8d.keep hb9; have O9 := O8d.keep hb9; have R9 := R8.drew.keep hb9; have H9 := H8d.below hb9; have G9 := bk_new w9 #[.int .i64 tx, .int .i64 ty] 27) | (go_at_call 67; refine (PE.out _ M8a).mono ?_; rintro e w9 ⟨rfl, hb9⟩; have D9 := chnN hb9 D8a; have M9 := M8a.below hb9; have A9 := A8a.keep hb9; have O9 := O8a.keep hb9; have R9 := R8a.keep hb9; have H9 := H8a.below hb9; have G9 := (bk_new w8 #[.int .i64 0, .int .i64 0] 27).drew.keep hb9; have E9 := chnN hb9 ((Below.refl _ w8).alloc (Nat.le_refl _) (.cells #[.int .i64 0, .int .i64 0] 27)).drew; have gf0 := G9.fz 0; have gf1 := G9.fz 1; obtain ⟨gg0, gg1⟩ := G9.two))
    all_goals
      go_wp2_with fail
      go_meet
      first
        | exact ⟨_, rfl, rfl, G9, (by have := R9.lt; omega), O9.alloc _, R9.alloc _, M9.alloc _, H9.below ((Below.refl _ _).alloc (Nat.le_refl _) _), Below.alN D9 _⟩
        | exact ⟨_, rfl, rfl, (by have := (G9.setS (j := 0) (.int .i64 tx)).setS (j := 1) (.int .i64 ty); simpa using this), zz8, O8.keep ((E9.setCell (p := ⟨w8.heap.size, 0, none⟩) (Nat.le_refl _) _).setCell (p := ⟨w8.heap.size, 1, none⟩) (Nat.le_refl _) _), R8.keep ((E9.setCell (p := ⟨w8.heap.size, 0, none⟩) (Nat.le_refl _) _).setCell (p := ⟨w8.heap.size, 1, none⟩) (Nat.le_refl _) _), M8.below ((E9.setCell (p := ⟨w8.heap.size, 0, none⟩) (Nat.le_refl _) _).setCell (p := ⟨w8.heap.size, 1, none⟩) (Nat.le_refl _) _), HL8.below ((E9.setCell (p := ⟨w8.heap.size, 0, none⟩) (Nat.le_refl _) _).setCell (p := ⟨w8.heap.size, 1, none⟩) (Nat.le_refl _) _), chnN ((E9.setCell (p := ⟨w8.heap.size, 0, none⟩) (Nat.le_refl _) _).setCell (p := ⟨w8.heap.size, 1, none⟩) (Nat.le_refl _) _) D8⟩
  case rest =>
    clear D8 R8 A8 M8 HL8 O8 g0 g1 g2 g3 D8a M8a A8a O8a R8a H8a H8d M8d A8d O8d PE
    obtain ⟨g, rfl, rfl, G8, zg, O8, R8, M8, HL8, D8⟩ := hcut
    obtain ⟨⟨l0, l1, l2, l3, l4, l5⟩, ⟨f0, f1, f2, f3, f4, f5⟩⟩ := R8.six
    cases ok
    · have HV : Hid (h = badH 7 M) := HF.out rfl
      go_wp2_with fail
      refine bodyPost_ret (v := .tuple #[arV (0, 0) zeroP, .int .i64 7]) (by simp [results, Tryz.results31, go_sem, l0, l1, l2, l3, l4, l5, zeroP]) rfl (hpost_bad HV.out hM.out (by go_grown))
    have HV := HT.out rfl
    obtain ⟨⟨o0, o1, o2, o3, o4, o5⟩, _⟩ := O8.six
    clear l0 l1 l2 l3 l4 l5 f0 f1 f2 f3 f4 f5
    go_wp2_with fail
    obtain ⟨hj, hk3, ca', cb', cc', cd', ee, _, _, _, _, d0, d1, d2, d3, d4⟩ := HL8
    cases ee
    refine (hide1_any _ _ _ _ m ds ls n M j k3 s3 _ M8 hn hj hk3 d0 d1 d2 d3 d4).mono ?_
    rintro e w9 ⟨rfl, M9, K9⟩
    have G9 := G8.ck (M8.ck K9)
    have O9 := O8.ck (M8.ck K9)
    have R9 := R8.ck (M8.ck K9)
    clear d0 d1 d2 d3 d4 hj hk3
    clear o0 o1 o2 o3 o4 o5
    obtain ⟨⟨o0, o1, o2, o3, o4, o5⟩, _⟩ := O9.six
    obtain ⟨⟨l0, l1, l2, l3, l4, l5⟩, ⟨f0, f1, f2, f3, f4, f5⟩⟩ := R9.six
    obtain ⟨gx, gy⟩ := G9.two
    go_wp2_with fail
    refine bodyPost_ret (v := .tuple #[arV (tx, ty) ⟨ps, pd, psp, pdp⟩, .int .i64 0]) (by simp [results, Tryz.results31, go_sem, l0, l1, l2, l3, l4, l5]) rfl (hpost_ok HV hM.out D8 K9 M9 (by omega) _ _ _ _ _ _)
end Go.Proofs.YthioedgnambomaaGreat



namespace Go.Proofs.YthioedgnambomaaGreat
open Go.RowKit Go.Maps

set_option maxHeartbeats 4000000 in
set_option maxRecDepth 100000 in
theorem handle_back (m : Mp) (ds : List Dv) (ls : List Lk) (n : Nat) (M : Mnd) (i q : Int) (p : Pk) (c : Int) (j : Int) (p3 : Pk) (x3 : Int) (h : HR) (q2 ps pd psp pdp : Int) (pv : Option (Int × Int)) (w : World) (hM : Hid (MemAt w m ds ls n M)) (hn : n < maxLen) (hpl : isPl ds i q = true) (hpk : pkOk p = true)
    (SD : Hid (∀ W, MemAt W m ds ls n M → Calls Tryz.prog 66 #[.pointer (some ⟨m.B, m.z, none⟩), plA i q, pkV p, .int .i64 c] W (SPost m W ⟨0, q2, ⟨ps, pd, psp, pdp⟩, .back j p3 x3⟩)))
    (PE : Hid (∀ W, MemAt W m ds ls n M → Calls Tryz.prog 67 #[.agg #[.slice m.A ds.length m.cap, .slice m.L ls.length m.cap'], plA i q2] W fun e w' => e = .returned (.tuple #[placeV pv, .bool pv.isSome]) ∧ Below W.heap.size W w'))
    (HN : Hid (pv = none → h = badH 7 M)) (HS : Hid (∀ t, pv = some t → h = ⟨0, t, ⟨ps, pd, psp, pdp⟩, learnP M (.back j p3 x3)⟩)) :
    Calls Tryz.prog 31 #[.pointer (some ⟨m.B, m.z, none⟩), plA i q, pkV p, .int .i64 c] w (HPost m ds ls n w h) := by
  have M2 := ((hM.out.alloc (.cells #[.int .i64 i, .int .i64 q] 27)).alloc (pkC p)).alloc (.cells #[.int .i64 0, .int .i64 0, .int .i64 0, .int .i64 0, .int .i64 0, .int .i64 0] 60)
  have D2 := Below.alN (Below.alN (Below.alN (Below.refl w.heap.size w) (.cells #[.int .i64 i, .int .i64 q] 27)) (pkC p)) (.cells #[.int .i64 0, .int .i64 0, .int .i64 0, .int .i64 0, .int .i64 0, .int .i64 0] 60)
  have A2 := ((bk_new w #[.int .i64 i, .int .i64 q] 27).alloc (pkC p)).alloc (.cells #[.int .i64 0, .int .i64 0, .int .i64 0, .int .i64 0, .int .i64 0, .int .i64 0] 60)
  have P2 := (bk_new' (w.alloc (.cells #[.int .i64 i, .int .i64 q] 27)) #[.int .i64 p.s, .int .i64 p.d, .int .i64 p.sp, .int .i64 p.dp] 29 (w.heap.size + 1) (by simp)).alloc (.cells #[.int .i64 0, .int .i64 0, .int .i64 0, .int .i64 0, .int .i64 0, .int .i64 0] 60)
  have R2 := bk_new' ((w.alloc (.cells #[.int .i64 i, .int .i64 q] 27)).alloc (pkC p)) #[.int .i64 0, .int .i64 0, .int .i64 0, .int .i64 0, .int .i64 0, .int .i64 0] 60 (w.heap.size + 1 + 1) (by simp)
  obtain ⟨q0, q1, _, _, _⟩ := M2.cells
  have Q0 : (((w.alloc (.cells #[.int .i64 i, .int .i64 q] 27)).alloc (pkC p)).alloc (.cells #[.int .i64 0, .int .i64 0, .int .i64 0, .int .i64 0, .int .i64 0, .int .i64 0] 60)).drew.cell? ⟨m.B, m.z, none⟩ = some (.slice m.A ds.length m.cap) := q0
  have Q1 : (((w.alloc (.cells #[.int .i64 i, .int .i64 q] 27)).alloc (pkC p)).alloc (.cells #[.int .i64 0, .int .i64 0, .int .i64 0, .int .i64 0, .int .i64 0, .int .i64 0] 60)).drew.cell? ⟨m.B, m.z + 1, none⟩ = some (.slice m.L ls.length m.cap') := q1
  obtain ⟨a0, a1⟩ := A2.two
  have HP : Hid (∀ W, MemAt W m ds ls n M → Calls Tryz.prog 16 #[.agg #[.slice m.A ds.length m.cap, .slice m.L ls.length m.cap'], plA i q] W fun e w' => e = .returned (.bool (isPl ds i q)) ∧ Below W.heap.size W w') := fun W h => hasPlace_any _ _ _ _ _ _ _ W h.devs
  have PC : Hid (∀ W, Calls Tryz.prog 17 #[pkV p] W fun e w' => e = .returned (.int .i64 (if pkOk p then 0 else 1)) ∧ Below W.heap.size W w') := fun W => pcheck_any p W
  rw [hpl] at HP
  rw [hpk] at PC
  simp only [if_true] at PC
  obtain ⟨tx, ty, ok, hpv, hok, HT, HF⟩ : ∃ (tx ty : Int) (ok : Bool), placeV pv = plA tx ty ∧ pv.isSome = ok ∧ Hid (ok = true → h = ⟨0, (tx, ty), ⟨ps, pd, psp, pdp⟩, learnP M (.back j p3 x3)⟩) ∧ Hid (ok = false → h = badH 7 M) := by
    cases pv with
    | none => exact ⟨0, 0, _, rfl, rfl, (fun e => by cases e), fun _ => HN.out rfl⟩
    | some z => exact ⟨z.1, z.2, _, rfl, rfl, fun _ => HS.out z rfl, (fun e => by cases e)⟩
  rw [hpv, hok] at PE
  clear hpv hok HN HS
  obtain ⟨s, dd, sp, dp⟩ := p
  simp only at *
  go_enter Tryz.func31, Tryz.ntmps31
  go_wp2_with fail
  go_region_held3 (fun w' => w'.cell? ⟨m.B, m.z, none⟩ = some (.slice m.A ds.length m.cap) ∧ w'.cell? ⟨m.B, m.z + 1, none⟩ = some (.slice m.L ls.length m.cap') ∧ w'.cell? ⟨w.heap.size, 0, none⟩ = some (.int .i64 i) ∧ w'.cell? ⟨w.heap.size, 1, none⟩ = some (.int .i64 q)) (go_keep) ((go_at_call 16; refine (HP.out _ M2.drew).mono ?_; rintro e w5 ⟨rfl, hb5⟩; have D5 := chnN hb5 D2.drew; have A5 := A2.drew.keep hb5; have P5 := P2.drew.keep hb5; have R5 := R2.drew.keep hb5; have M5 := M2.drew.below hb5; have g0 := (CK.of_below hb5).cell Q0; have g1 := (CK.of_below hb5).cell Q1; obtain ⟨g2, g3⟩ := A5.two))
  clear hb5 D2 A2 P2 R2 M2 q0 q1 Q0 Q1 a0 a1 HP g0 g1 g2 g3
  obtain ⟨⟨l0, l1, l2, l3, l4, l5⟩, ⟨f0, f1, f2, f3, f4, f5⟩⟩ := R5.six
  have z5 : w.heap.size + 1 + 1 < w5.heap.size := R5.lt
  obtain ⟨p0, p1, p2, p3, _⟩ := P5.four
  go_wp2_with fail
  refine (PC.out _).mono ?_
  rintro e w6 ⟨rfl, hb6⟩
  have D6 := chnN hb6 D5
  have A6 := A5.keep hb6
  have P6 := P5.keep hb6
  have R6 := R5.keep hb6
  have M6 := M5.below hb6
  clear hb6 D5 A5 P5 R5 M5 p0 p1 p2 p3 l0 l1 l2 l3 l4 l5 f0 f1 f2 f3 f4 f5 PC z5
  obtain ⟨⟨l0, l1, l2, l3, l4, l5⟩, ⟨f0, f1, f2, f3, f4, f5⟩⟩ := R6.six
  obtain ⟨p0, p1, p2, p3', _⟩ := P6.four
  obtain ⟨a0, a1⟩ := A6.two
  go_wp2_with fail
  refine (SD.out _ M6).mono ?_
  rintro e w7 ⟨q9, p9, fv, er, rfl, HQ, hb7⟩
  obtain ⟨he, _, hz⟩ := HQ.out
  obtain ⟨hq9, hp9, HL⟩ := hz rfl
  simp only at he hq9 hp9 HL
  have hq9' := hq9.symm
  subst he hq9' hp9
  have D7 := chnN hb7 D6
  have R7 := R6.keep hb7
  have A7 := A6.keep hb7
  have M7 := M6.below hb7
  clear hb7 D6 A6 P6 R6 M6 p0 p1 p2 p3' a0 a1 l0 l1 l2 l3 l4 l5 f0 f1 f2 f3 f4 f5 SD HQ hz
  obtain ⟨_, _, ca, cb, cc, rfl, _⟩ := id HL
  have z7 : w.heap.size + 1 + 1 < w7.heap.size := R7.lt
  have D8 := Below.alN D7 (.cells #[.int .i64 q2, .int .i64 ps, .int .i64 pd, .int .i64 psp, .int .i64 pdp, .func (.func 101) #[] #[.pointer (some ⟨ca, 0, none⟩), .pointer (some ⟨cb, 0, none⟩), .pointer (some ⟨cc, 0, none⟩)]] 117)
  have R8 := R7.alloc (.cells #[.int .i64 q2, .int .i64 ps, .int .i64 pd, .int .i64 psp, .int .i64 pdp, .func (.func 101) #[] #[.pointer (some ⟨ca, 0, none⟩), .pointer (some ⟨cb, 0, none⟩), .pointer (some ⟨cc, 0, none⟩)]] 117)
  have A8 := A7.alloc (.cells #[.int .i64 q2, .int .i64 ps, .int .i64 pd, .int .i64 psp, .int .i64 pdp, .func (.func 101) #[] #[.pointer (some ⟨ca, 0, none⟩), .pointer (some ⟨cb, 0, none⟩), .pointer (some ⟨cc, 0, none⟩)]] 117)
  have M8 := M7.alloc (.cells #[.int .i64 q2, .int .i64 ps, .int .i64 pd, .int .i64 psp, .int .i64 pdp, .func (.func 101) #[] #[.pointer (some ⟨ca, 0, none⟩), .pointer (some ⟨cb, 0, none⟩), .pointer (some ⟨cc, 0, none⟩)]] 117)
  have HL8 := HL.below ((Below.refl _ w7).alloc (Nat.le_refl _) (.cells #[.int .i64 q2, .int .i64 ps, .int .i64 pd, .int .i64 psp, .int .i64 pdp, .func (.func 101) #[] #[.pointer (some ⟨ca, 0, none⟩), .pointer (some ⟨cb, 0, none⟩), .pointer (some ⟨cc, 0, none⟩)]] 117))
  have O8 := bk_new w7 #[.int .i64 q2, .int .i64 ps, .int .i64 pd, .int .i64 psp, .int .i64 pdp, .func (.func 101) #[] #[.pointer (some ⟨ca, 0, none⟩), .pointer (some ⟨cb, 0, none⟩), .pointer (some ⟨cc, 0, none⟩)]] 117
  clear D7 R7 A7 M7 HL
  go_upto_region 9 with fail
  generalize hON : w7.heap.size = on at *
  generalize hW : w7.alloc (.cells #[.int .i64 q2, .int .i64 ps, .int .i64 pd, .int .i64 psp, .int .i64 pdp, .func (.func 101) #[] #[.pointer (some ⟨ca, 0, none⟩), .pointer (some ⟨cb, 0, none⟩), .pointer (some ⟨cc, 0, none⟩)]] 117) = w8 at *
  clear hON hW
  obtain ⟨g0, g1, g2, g3⟩ := peS M8 A8 O8
  have D8a := (Below.alN D8 (.cells #[.int .i64 0, .int .i64 0] 27)).drew
  have M8a := (M8.alloc (.cells #[.int .i64 0, .int .i64 0] 27)).drew
  have A8a := (A8.alloc (.cells #[.int .i64 0, .int .i64 0] 27)).drew
  have O8a := (O8.alloc (.cells #[.int .i64 0, .int .i64 0] 27)).drew
  have R8a := (R8.alloc (.cells #[.int .i64 0, .int .i64 0] 27)).drew
  have H8a := HL8.below ((Below.refl _ w8).alloc (Nat.le_refl _) (.cells #[.int .i64 0, .int .i64 0] 27)).drew
  have H8d := HL8.below (Below.refl _ w8).drew
  have M8d := M8.drew
  have A8d := A8.drew
  have O8d := O8.drew
  go_cut [13, 14] (fun v13 v14 wx => ∃ g, v13 = .pointer (some ⟨g, 0, none⟩) ∧ v14 = .bool ok ∧ Bk wx g #[.int .i64 tx, .int .i64 ty] 27 ∧ w.heap.size + 1 + 1 < g ∧ Bk wx on #[.int .i64 q2, .int .i64 ps, .int .i64 pd, .int .i64 psp, .int .i64 pdp, .func (.func 101) #[] #[.pointer (some ⟨ca, 0, none⟩), .pointer (some ⟨cb, 0, none⟩), .pointer (some ⟨cc, 0, none⟩)]] 117 ∧ Bk wx (w.heap.size + 1 + 1) #[.int .i64 0, .int .i64 0, .int .i64 0, .int .i64 0, .int .i64 0, .int .i64 0] 60 ∧ MemAt wx m ds ls n M ∧ LrnAt w6.heap.size wx m (.func (.func 101) #[] #[.pointer (some ⟨ca, 0, none⟩), .pointer (some ⟨cb, 0, none⟩), .pointer (some ⟨cc, 0, none⟩)]) (.back j p3 x3) ∧ Below w.heap.size w wx)
  case first =>
    have zz8 : w.heap.size + 1 + 1 < w8.heap.size := R8.lt
    go_region_held3 (fun w' => w'.cell? ⟨m.B, m.z, none⟩ = some (.slice m.A ds.length m.cap) ∧ w'.cell? ⟨m.B, m.z + 1, none⟩ = some (.slice m.L ls.length m.cap') ∧ w'.cell? ⟨w.heap.size, 0, none⟩ = some (.int .i64 i) ∧ w'.cell? ⟨on, 0, none⟩ = some (.int .i64 q2)) (first | exact peS (by first | assumption | exact MemAt.alloc (by assumption) _) (by first | assumption | exact Bk.alloc (by assumption) _) (by first | assumption | exact Bk.alloc (by assumption) _) | exact peS (M8.below ((E9.setCell (p := ⟨w8.heap.size, 0, none⟩) (Nat.le_refl _) _).setCell (p := ⟨w8.heap.size, 1, none⟩) (Nat.le_refl _) _)) (A8.keep ((E9.setCell (p := ⟨w8.heap.size, 0, none⟩) (Nat.le_refl _) _).setCell (p := ⟨w8.heap.size, 1, none⟩) (Nat.le_refl _) _)) (O8.keep ((E9.setCell (p := ⟨w8.heap.size, 0, none⟩) (Nat.le_refl _) _).setCell (p := ⟨w8.heap.size, 1, none⟩) (Nat.le_refl _) _))) (first | (go_at_call 67; refine (PE.out _ M8d).mono ?_; rintro e w9 ⟨rfl, hb9⟩; have D9 := chnN hb9 D8.drew; have M9 := M8d.below hb9; have A9 := A8d.keep hb9; have O9 := O8d.keep hb9; have R9 := R8.drew.keep hb9; have H9 := H8d.below hb9; have G9 := bk_new w9 #[.int .i64 tx, .int .i64 ty] 27) | (go_at_call 67; refine (PE.out _ M8a).mono ?_; rintro e w9 ⟨rfl, hb9⟩; have D9 := chnN hb9 D8a; have M9 := M8a.below hb9; have A9 := A8a.keep hb9; have O9 := O8a.keep hb9; have R9 := R8a.keep hb9; have H9 := H8a.below hb9; have G9 := (bk_new w8 #[.int .i64 0, .int .i64 0] 27).drew.keep hb9; have E9 := chnN hb9 ((Below.refl _ w8).alloc (Nat.le_refl _) (.cells #[.int .i64 0, .int .i64 0] 27)).drew; have gf0 := G9.fz 0; have gf1 := G9.fz 1; obtain ⟨gg0, gg1⟩ := G9.two))
    all_goals
      go_wp2_with fail
      go_meet
      first
        | exact ⟨_, rfl, rfl, G9, (by have := R9.lt; omega), O9.alloc _, R9.alloc _, M9.alloc _, H9.below ((Below.refl _ _).alloc (Nat.le_refl _) _), Below.alN D9 _⟩
        | exact ⟨_, rfl, rfl, (by have := (G9.setS (j := 0) (.int .i64 tx)).setS (j := 1) (.int .i64 ty); simpa using this), zz8, O8.keep ((E9.setCell (p := ⟨w8.heap.size, 0, none⟩) (Nat.le_refl _) _).setCell (p := ⟨w8.heap.size, 1, none⟩) (Nat.le_refl _) _), R8.keep ((E9.setCell (p := ⟨w8.heap.size, 0, none⟩) (Nat.le_refl _) _).setCell (p := ⟨w8.heap.size, 1, none⟩) (Nat.le_refl _) _), M8.below ((E9.setCell (p := ⟨w8.heap.size, 0, none⟩) (Nat.le_refl _) _).setCell (p := ⟨w8.heap.size, 1, none⟩) (Nat.le_refl _) _), HL8.below ((E9.setCell (p := ⟨w8.heap.size, 0, none⟩) (Nat.le_refl _) _).setCell (p := ⟨w8.heap.size, 1, none⟩) (Nat.le_refl _) _), chnN ((E9.setCell (p := ⟨w8.heap.size, 0, none⟩) (Nat.le_refl _) _).setCell (p := ⟨w8.heap.size, 1, none⟩) (Nat.le_refl _) _) D8⟩
  case rest =>
    clear D8 R8 A8 M8 HL8 O8 g0 g1 g2 g3 D8a M8a A8a O8a R8a H8a H8d M8d A8d O8d PE
    obtain ⟨g, rfl, rfl, G8, zg, O8, R8, M8, HL8, D8⟩ := hcut
    obtain ⟨⟨l0, l1, l2, l3, l4, l5⟩, ⟨f0, f1, f2, f3, f4, f5⟩⟩ := R8.six
    cases ok
    · have HV : Hid (h = badH 7 M) := HF.out rfl
      go_wp2_with fail
      refine bodyPost_ret (v := .tuple #[arV (0, 0) zeroP, .int .i64 7]) (by simp [results, Tryz.results31, go_sem, l0, l1, l2, l3, l4, l5, zeroP]) rfl (hpost_bad HV.out hM.out (by go_grown))
    have HV := HT.out rfl
    obtain ⟨⟨o0, o1, o2, o3, o4, o5⟩, _⟩ := O8.six
    clear l0 l1 l2 l3 l4 l5 f0 f1 f2 f3 f4 f5
    go_wp2_with fail
    obtain ⟨hj, hp3, ca', cb', cc', ee, _, _, _, d6, d0, d1, d2, d3, d4, d5⟩ := HL8
    cases ee
    refine (spread1_any _ _ _ m ds ls n M j p3 x3 _ M8 hn hj hp3 d6 d0 d1 d2 d3 d4 d5).mono ?_
    rintro e w9 ⟨rfl, M9, K9⟩
    have G9 := G8.ck (M8.ck K9)
    have O9 := O8.ck (M8.ck K9)
    have R9 := R8.ck (M8.ck K9)
    clear d0 d1 d2 d3 d4 d5 d6 hj hp3
    clear o0 o1 o2 o3 o4 o5
    obtain ⟨⟨o0, o1, o2, o3, o4, o5⟩, _⟩ := O9.six
    obtain ⟨⟨l0, l1, l2, l3, l4, l5⟩, ⟨f0, f1, f2, f3, f4, f5⟩⟩ := R9.six
    obtain ⟨gx, gy⟩ := G9.two
    go_wp2_with fail
    refine bodyPost_ret (v := .tuple #[arV (tx, ty) ⟨ps, pd, psp, pdp⟩, .int .i64 0]) (by simp [results, Tryz.results31, go_sem, l0, l1, l2, l3, l4, l5]) rfl (hpost_ok HV hM.out D8 K9 M9 (by omega) _ _ _ _ _ _)
end Go.Proofs.YthioedgnambomaaGreat



namespace Go.Proofs.YthioedgnambomaaGreat
open Go.RowKit Go.Maps

/-- What is asked of a device's address, if its packets are to be keys. -/
def AddrsOk (ds : List Dv) : Prop := ∀ d ∈ ds, i64ok d.addr
/-- Handle. -/
theorem handle_any (m : Mp) (ds : List Dv) (ls : List Lk) (n : Nat) (M : Mnd) (i q : Int) (p : Pk) (c : Int) (w : World) (hM : MemAt w m ds ls n M) (hn : n < maxLen) (ha : AddrsOk ds) (hi : i64ok i) (hc : i64ok c) :
    Calls Tryz.prog 31 #[.pointer (some ⟨m.B, m.z, none⟩), plA i q, pkV p, .int .i64 c] w (HPost m ds ls n w (handleP ds ls M i q p c)) := by
  cases hpl : isPl ds i q
  · exact handle_none m ds ls n M i q p c _ w hM hpl (by show _ = _; unfold handleP; rw [hpl]; rfl)
  cases hpk : pkOk p
  · exact handle_bad m ds ls n M i q p c _ w hM hpl hpk (by show _ = _; unfold handleP; rw [hpl, hpk]; rfl)
  obtain ⟨k, rfl, d, hd, hg⟩ := isPl_dev hpl
  have e : handleP ds ls M (k : Int) q p c = if (sendP d M (k : Int) q p c).err = 0 then (match peerF ls (k : Int) (sendP d M (k : Int) q p c).port with
        | some t => ⟨0, t, (sendP d M (k : Int) q p c).p, learnP M (sendP d M (k : Int) q p c).l⟩
        | none => badH 7 M) else badH (sendP d M (k : Int) q p c).err M := by
    unfold handleP
    rw [hpl, hpk, hg]
    rfl
  have SD : ∀ W, MemAt W m ds ls n M → Calls Tryz.prog 66 #[.pointer (some ⟨m.B, m.z, none⟩), plA (k : Int) q, pkV p, .int .i64 c] W (SPost m W (sendP d M (k : Int) q p c)) := fun W h => send_any m ds ls n M k d q p c W h hd (pkOk_ok hpk) hi hc (ha d (List.mem_of_getElem? hd))
  rw [e]
  generalize sendP d M (k : Int) q p c = r at *
  by_cases hz : r.err = 0
  rotate_left
  · rw [if_neg hz]
    exact handle_err m ds ls n M k q p c _ r w hM hpl hpk (by simpa using hz) rfl SD
  rw [if_pos hz]
  obtain ⟨er, port, ⟨ps, pd, psp, pdp⟩, l⟩ := r
  simp only at hz
  subst hz
  have PE : ∀ W, MemAt W m ds ls n M → Calls Tryz.prog 67 #[.agg #[.slice m.A ds.length m.cap, .slice m.L ls.length m.cap'], plA (k : Int) port] W fun e w' => e = .returned (.tuple #[placeV (peerF ls (k : Int) port), .bool (peerF ls (k : Int) port).isSome]) ∧ Below W.heap.size W w' := fun W h => peer_any _ _ _ _ ls _ _ W h.links
  simp only
  generalize peerF ls (k : Int) port = pv at *
  cases l with
  | no => exact handle_no m ds ls n M k q p c _ port ps pd psp pdp pv w hM hn hpl hpk SD PE (fun e => by subst e; rfl) (fun t e => by subst e; rfl)
  | flow j p3 => exact handle_flow m ds ls n M k q p c j p3 _ port ps pd psp pdp pv w hM hn hpl hpk SD PE (fun e => by subst e; rfl) (fun t e => by subst e; rfl)
  | own j k3 s3 => exact handle_own m ds ls n M k q p c j k3 s3 _ port ps pd psp pdp pv w hM hn hpl hpk SD PE (fun e => by subst e; rfl) (fun t e => by subst e; rfl)
  | back j p3 x3 => exact handle_back m ds ls n M k q p c j p3 x3 _ port ps pd psp pdp pv w hM hn hpl hpk SD PE (fun e => by subst e; rfl) (fun t e => by subst e; rfl)
end Go.Proofs.YthioedgnambomaaGreat



namespace Go.Proofs.YthioedgnambomaaGreat
open Go.RowKit Go.Maps

theorem delete_run {P : Program} {w w' : World} {ops : Array Oper} {rest : List Oper} {o : Oper} {a : Act} {Q : Exit → Act → World → Prop} (hgd : o.guard = none) (s x : Operand) (t k : TypeId)
    (ho : o.op = .call { callee := .builtin .delete, args := #[s, x], argTypes := #[t, k] }) {v x' v' : Value} (hs : a.eval s = v) (hx : a.eval x = x') (hr : (Builtin.delete_ #[t, k] o.type #[v, x']).run P w = .ok v' w')
    (h : wpList P ops Q rest (a.put o.dst v') w') : wpList P ops Q (o :: rest) a w := by
  refine wpList_plain hgd fun K hK => ?_
  unfold Oper.wp execOp
  simp only [ho, resolve, invoke, builtin, Sem.run_bind, Sem.run_pure, Result.andThen_ok, List.map_toArray, List.map_cons, List.map_nil, hs, hx, hr]
  exact hK _ _ h
structure FR where
  err : Int
  M : Mnd
open Classical in
/-- What Forget tells, and does. -/
noncomputable def forgetP (ds : List Dv) (M : Mnd) (i : Int) (p : Pk) (port : Int) : FR :=
  if 0 ≤ i ∧ i < (ds.length : Int) then
    (if kindAt ds i = 3 then (if (M.fl (i, p)).isSome then ⟨0, { M with fl := delF M.fl (i, p) }⟩ else ⟨7, M⟩)
    else if kindAt ds i = 4 then (if (M.ow (i, port)).isSome then ⟨0, { M with ow := delF M.ow (i, port) }⟩ else ⟨7, M⟩)
    else if kindAt ds i = 5 then (if (M.bk (i, p)).isSome then ⟨0, { M with bk := delF M.bk (i, p) }⟩ else ⟨7, M⟩)
    else ⟨4, M⟩)
  else ⟨4, M⟩
def FPost (m : Mp) (ds : List Dv) (ls : List Lk) (n : Nat) (w : World) (f : FR) (e : Ending) (w' : World) : Prop :=
  e = .returned (.int .i64 f.err) ∧ MemAt w' m ds ls n f.M ∧ HK m w w'
end Go.Proofs.YthioedgnambomaaGreat



namespace Go.Proofs.YthioedgnambomaaGreat
open Go.RowKit Go.Maps

/-- A slice of N elements of n cells, which are cs. -/
def RowAt (base : Nat) (w : World) (v : Value) (N n : Nat) (cs : List Value) : Prop :=
  ∃ A cap, v = .slice A N cap ∧ (A = none → cap = 0) ∧ N ≤ cap ∧ cap ≤ maxLen ∧ cs.length = N * n ∧ (∀ u ∈ cs, u.oneCell' = true) ∧
    (N ≠ 0 → ∃ b o, A = some ⟨b, o, none⟩ ∧ b < base ∧ ∀ j u, cs[j]? = some u → w.cell? ⟨b, o + j, none⟩ = some u)
theorem flat_cells {α : Type} {w : World} {n : Nat} {R : List Value → α → Prop} (h1 : ∀ cs x, R cs x → ∀ u ∈ cs, u.oneCell' = true) {b : Nat} : ∀ (xs : List α) (o : Nat), (∀ k x, xs[k]? = some x → ∃ c : List Value, c.length = n ∧ R c x ∧ ∀ j u, c[j]? = some u → w.cell? ⟨b, o + k * n + j, none⟩ = some u) →
    ∃ cs : List Value, cs.length = xs.length * n ∧ (∀ j u, cs[j]? = some u → w.cell? ⟨b, o + j, none⟩ = some u) ∧ (∀ u ∈ cs, u.oneCell' = true) ∧ ∀ k x, xs[k]? = some x → R ((cs.drop (k * n)).take n) x
  | [], _, _ => ⟨[], by simp, (fun j u hj => by simp at hj), (fun u hu => by cases hu), (fun k x hx => by simp at hx)⟩
  | x :: xs, o, h => by
    obtain ⟨c0, l0, r0, e0⟩ := h 0 x rfl
    obtain ⟨cs, l1, e1, o1, r1⟩ := flat_cells h1 xs (o + n) (fun k y hy => by
      obtain ⟨c, l, r, e⟩ := h (k + 1) y (by simpa using hy)
      exact ⟨c, l, r, fun j u hj => by
        have := e j u hj
        rwa [show o + (k + 1) * n + j = o + n + k * n + j by rw [Nat.add_mul, Nat.one_mul]; omega] at this⟩)
    refine ⟨c0 ++ cs, ?_, fun j u hj => ?_, fun u hu => ?_, fun k y hy => ?_⟩
    · rw [List.length_append, l0, l1, List.length_cons, Nat.add_mul]
      omega
    · by_cases hl : j < n
      · rw [List.getElem?_append_left (by omega)] at hj
        have := e0 j u hj
        simpa using this
      · rw [List.getElem?_append_right (by omega), l0] at hj
        have := e1 (j - n) u hj
        rwa [show o + n + (j - n) = o + j by omega] at this
    · rcases List.mem_append.1 hu with hu | hu
      · exact h1 _ _ r0 u hu
      · exact o1 u hu
    · cases k with
      | zero =>
        obtain rfl : x = y := by simpa using hy
        rw [Nat.zero_mul, List.drop_zero, ← l0, List.take_left']
        · exact r0
        · rfl
      | succ k =>
        have e : (c0 ++ cs).drop ((k + 1) * n) = cs.drop (k * n) := by
          rw [List.drop_append, List.drop_eq_nil_of_le (by rw [Nat.add_mul, l0]; omega), List.nil_append, l0]
          congr 1
          rw [Nat.add_mul]
          omega
        rw [e]
        exact r1 k y (by simpa using hy)
theorem SlAt.row {α : Type} {base n : Nat} {w : World} {R : List Value → α → Prop} {v : Value} {xs : List α} (h : SlAt base w n R v xs) (h1 : ∀ cs x, R cs x → ∀ u ∈ cs, u.oneCell' = true) :
    ∃ cs, RowAt base w v xs.length n cs ∧ ∀ k x, xs[k]? = some x → R ((cs.drop (k * n)).take n) x := by
  obtain ⟨A, cap, e, h0, hl, hm, h3⟩ := h
  by_cases hx : xs = []
  · subst hx
    exact ⟨[], ⟨A, cap, e, h0, hl, hm, by simp, (fun u hu => by cases hu), fun hn => absurd rfl hn⟩, fun k x hx => by simp at hx⟩
  · obtain ⟨b, o, ea, hb, hr⟩ := h3 hx
    obtain ⟨cs, l1, e1, o1, r1⟩ := flat_cells h1 xs o hr
    exact ⟨cs, ⟨A, cap, e, h0, hl, hm, l1, o1, fun _ => ⟨b, o, ea, hb, e1⟩⟩, r1⟩
/-- A row of the call's own, as a slice. -/
theorem SlAt.own {α : Type} {base n : Nat} {w : World} {t : TypeId} {R : List Value → α → Prop} {v : Value} {xs : List α} {cs : List Value} (h : w.ownsRow base t n v xs.length cs) (hr : ∀ k x, xs[k]? = some x → R ((cs.drop (k * n)).take n) x) : SlAt w.heap.size w n R v xs := by
  have h' := h
  obtain ⟨hl, hc⟩ := h
  rcases hc with ⟨rfl, h0⟩ | ⟨g, cap, cur, rfl, hb, hg, hn, hcap, hs, ht⟩
  · exact ⟨none, 0, by rw [h0], fun _ => rfl, by omega, by unfold maxLen; omega, fun hn => absurd (List.length_eq_zero_iff.1 h0) hn⟩
  · refine ⟨_, cap, rfl, (fun e => by cases e), hn, hcap, fun _ => ⟨g, 0, rfl, (Array.getElem?_eq_some_iff.1 hg).1, fun k x hx => ?_⟩⟩
    have hk := (List.getElem?_eq_some_iff.1 hx).1
    have hle : k * n + n ≤ cs.length := by
      have hm := Nat.mul_le_mul_right n (show k + 1 ≤ xs.length from hk)
      rw [Nat.add_mul, Nat.one_mul] at hm
      omega
    refine ⟨(cs.drop (k * n)).take n, ?_, hr k x hx, fun j u hj => ?_⟩
    · rw [List.length_take, List.length_drop]
      omega
    · have hjn : j < n := by
        have := (List.getElem?_eq_some_iff.1 hj).1
        rw [List.length_take] at this
        omega
      rw [List.getElem?_take_of_lt hjn, List.getElem?_drop] at hj
      have := h'.cells (g := g) rfl (k * n + j) u hj
      rw [Addr.add_lit] at this
      rwa [show 0 + k * n + j = 0 + (k * n + j) by omega]
theorem append_runC {P : Program} {w w' : World} {ops : Array Oper} {rest : List Oper} {o : Oper} {a : Act} {Q : Exit → Act → World → Prop} (hgd : o.guard = none) (s x : Operand) (t : TypeId)
    (ho : o.op = .call { callee := .builtin .append, args := #[s, x], argTypes := #[t, t] }) {v x' v' : Value} (hs : a.eval s = v) (hx : a.eval x = x') (hr : (Builtin.append_ #[t, t] o.type #[v, x']).run P w = .ok v' w')
    (h : wpList P ops Q rest (a.put o.dst v') w') : wpList P ops Q (o :: rest) a w := by
  refine wpList_plain hgd fun K hK => ?_
  unfold Oper.wp execOp
  simp only [ho, resolve, invoke, builtin, Sem.run_bind, Sem.run_pure, Result.andThen_ok, List.map_toArray, List.map_cons, List.map_nil, hs, hx, hr]
  exact hK _ _ h
theorem Below.appC {B base : Nat} {w0 w w' : World} {t : TypeId} {s n : Nat} {v : Value} {cs : List Value} (h : Below B w0 w) (ho : w.ownsRow base t s v n cs) (hg : w.grownBy w' v.ownBlock) (hB : B ≤ base) (hb : base ≤ w.heap.size) : Below B w0 w' :=
  h.grown hg (by omega) (fun k e => by have := (ho.lt k e).1; omega)
theorem oneI (cs : List Value) (x : Int) (h : IsI cs x) : ∀ u ∈ cs, u.oneCell' = true := by
  unfold IsI at h
  subst h
  intro u hu
  simp only [List.mem_cons, List.not_mem_nil, or_false] at hu
  subst hu
  rfl
theorem oneLk (cs : List Value) (x : Lk) (h : IsLk cs x) : ∀ u ∈ cs, u.oneCell' = true := by
  unfold IsLk at h
  subst h
  intro u hu
  simp only [List.mem_cons, List.not_mem_nil, or_false] at hu
  rcases hu with rfl | rfl | rfl | rfl <;> rfl
theorem oneRule (cs : List Value) (x : NRule) (h : IsRule cs x) : ∀ u ∈ cs, u.oneCell' = true := by
  unfold IsRule at h
  subst h
  intro u hu
  simp only [List.mem_cons, List.not_mem_nil, or_false] at hu
  rcases hu with rfl | rfl | rfl | rfl | rfl <;> rfl
theorem oneRoute (cs : List Value) (x : NRoute) (h : IsRoute cs x) : ∀ u ∈ cs, u.oneCell' = true := by
  unfold IsRoute at h
  subst h
  intro u hu
  simp only [List.mem_cons, List.not_mem_nil, or_false] at hu
  rcases hu with rfl | rfl | rfl <;> rfl
theorem oneDv {base : Nat} {w : World} (cs : List Value) (x : Dv) (h : IsDv base w cs x) : ∀ u ∈ cs, u.oneCell' = true := by
  obtain ⟨vb, vr, vt, rfl, h1, h2, h3⟩ := h
  obtain ⟨_, _, rfl, _⟩ := h1
  obtain ⟨_, _, rfl, _⟩ := h2
  obtain ⟨_, _, rfl, _⟩ := h3
  intro u hu
  simp only [List.mem_cons, List.not_mem_nil, or_false] at hu
  rcases hu with rfl | rfl | rfl | rfl | rfl | rfl | rfl <;> rfl
theorem u_ints : Tryz.prog.underlying 37 = some (.slice 3) := by kernel_rfl
theorem info_ints : (Tryz.prog.info? 3).map (fun i => (i.zero, i.size, i.bytes)) = some (some (.int .i64 0), 1, 8) := by kernel_rfl
set_option maxHeartbeats 1000000 in
set_option maxRecDepth 100000 in
theorem clone_ints {v : Value} {N : Nat} {cs : List Value} (w : World) (h : RowAt w.heap.size w v N 1 cs) (hs : N ≤ 1048576) :
    Calls Tryz.prog 63 #[v] w fun e w' => ∃ v', e = .returned v' ∧ w'.ownsRow w.heap.size 3 1 v' N cs ∧ Below w.heap.size w w' := by
  have q : ∀ (w : World) (a : Option Addr) (n c n' c' : Nat), (binOp .eql 37 (.slice a n c) (.slice none n' c')).run Tryz.prog w = .ok (.bool a.isNone) w := fun w a n c n' c' => Lib.run_eql_slice_nil w _ _ a n c n' c' u_ints
  obtain ⟨i0, hi, hz0, hz1, hz2⟩ := info_parts info_ints
  have D0 := Below.alN (Below.refl w.heap.size w) (.cells #[] 3)
  have o0 : (w.alloc (.cells #[] 3)).ownsRow w.heap.size 3 1 (.slice (some ⟨w.heap.size, 0, none⟩) 0 0) 0 [] := World.ownsRow_made w #[] 0 (Nat.le_refl _) (Nat.zero_le _) (by simp)
  obtain ⟨A, cap, rfl, h0, h1, h2, hl, ho, h3⟩ := h
  cases A with
  | none =>
    have hN : N = 0 := by
      by_cases hn : N = 0
      · exact hn
      · obtain ⟨_, _, e, _⟩ := h3 hn
        cases e
    subst hN
    have hcs : cs = [] := List.length_eq_zero_iff.1 (by simpa using hl)
    subst hcs
    clear h3 ho hl hs o0
    go_enter Tryz.func63, Tryz.ntmps63
    go_wp2_with fail
    go_ret
    exact ⟨_, rfl, World.ownsRow_nil _ _ _ _, Below.refl _ _⟩
  | some ad =>
    obtain ⟨v', w', hr, h4, h5, _⟩ := run_append_own (P := Tryz.prog) (w.alloc (.cells #[] 3)) w.heap.size 37 37 3 i0 _ 1 8 u_ints hi hz0 hz1 hz2 rfl (by decide) _ 0 [] o0 ad N cap cs hl (fun j u hj => by
      have hn : N ≠ 0 := fun e => by
        subst e
        have : cs = [] := List.length_eq_zero_iff.1 (by simpa using hl)
        subst this
        simp at hj
      obtain ⟨b, o, e, hb, hr⟩ := h3 hn
      cases e
      rw [Addr.add_lit]
      exact (D0.cell (p := ⟨b, o + j, none⟩) hb).trans (hr j u hj)) ho (by unfold maxLen; omega) (by omega) (by simp)
    have D1 := Below.appC D0 o0 h5 (Nat.le_refl _) (by simp)
    simp only [List.nil_append, Nat.zero_add] at h4
    have fin : Hid (w'.ownsRow w.heap.size 3 1 v' N cs ∧ Below w.heap.size w w') := ⟨h4, D1⟩
    clear h0 h1 h2 h3 h5 hs o0 D0 h4 D1 hl ho
    go_enter Tryz.func63, Tryz.ntmps63
    go_wp2_with (at_builtin; refine append_runC rfl _ _ 37 rfl rfl rfl hr ?_)
    go_ret
    exact ⟨_, rfl, fin.out⟩
theorem u_links : Tryz.prog.underlying 23 = some (.slice 67) := by kernel_rfl
theorem info_links : (Tryz.prog.info? 67).map (fun i => (i.zero, i.size, i.bytes)) = some (some (.agg #[.int .i64 0, .int .i64 0, .int .i64 0, .int .i64 0]), 4, 32) := by kernel_rfl
set_option maxHeartbeats 1000000 in
set_option maxRecDepth 100000 in
theorem clone_links {v : Value} {N : Nat} {cs : List Value} (w : World) (h : RowAt w.heap.size w v N 4 cs) (hs : N ≤ 1048576) :
    Calls Tryz.prog 62 #[v] w fun e w' => ∃ v', e = .returned v' ∧ w'.ownsRow w.heap.size 67 4 v' N cs ∧ Below w.heap.size w w' := by
  have q : ∀ (w : World) (a : Option Addr) (n c n' c' : Nat), (binOp .eql 23 (.slice a n c) (.slice none n' c')).run Tryz.prog w = .ok (.bool a.isNone) w := fun w a n c n' c' => Lib.run_eql_slice_nil w _ _ a n c n' c' u_links
  obtain ⟨i0, hi, hz0, hz1, hz2⟩ := info_parts info_links
  have D0 := Below.alN (Below.refl w.heap.size w) (.cells #[] 67)
  have o0 : (w.alloc (.cells #[] 67)).ownsRow w.heap.size 67 4 (.slice (some ⟨w.heap.size, 0, none⟩) 0 0) 0 [] := World.ownsRow_made w #[] 0 (Nat.le_refl _) (Nat.zero_le _) (by simp)
  obtain ⟨A, cap, rfl, h0, h1, h2, hl, ho, h3⟩ := h
  cases A with
  | none =>
    have hN : N = 0 := by
      by_cases hn : N = 0
      · exact hn
      · obtain ⟨_, _, e, _⟩ := h3 hn
        cases e
    subst hN
    have hcs : cs = [] := List.length_eq_zero_iff.1 (by simpa using hl)
    subst hcs
    clear h3 ho hl hs o0
    go_enter Tryz.func62, Tryz.ntmps62
    go_wp2_with fail
    go_ret
    exact ⟨_, rfl, World.ownsRow_nil _ _ _ _, Below.refl _ _⟩
  | some ad =>
    obtain ⟨v', w', hr, h4, h5, _⟩ := run_append_own (P := Tryz.prog) (w.alloc (.cells #[] 67)) w.heap.size 23 23 67 i0 _ 4 32 u_links hi hz0 hz1 hz2 rfl (by decide) _ 0 [] o0 ad N cap cs hl (fun j u hj => by
      have hn : N ≠ 0 := fun e => by
        subst e
        have : cs = [] := List.length_eq_zero_iff.1 (by simpa using hl)
        subst this
        simp at hj
      obtain ⟨b, o, e, hb, hr⟩ := h3 hn
      cases e
      rw [Addr.add_lit]
      exact (D0.cell (p := ⟨b, o + j, none⟩) hb).trans (hr j u hj)) ho (by unfold maxLen; omega) (by omega) (by simp)
    have D1 := Below.appC D0 o0 h5 (Nat.le_refl _) (by simp)
    simp only [List.nil_append, Nat.zero_add] at h4
    have fin : Hid (w'.ownsRow w.heap.size 67 4 v' N cs ∧ Below w.heap.size w w') := ⟨h4, D1⟩
    clear h0 h1 h2 h3 h5 hs o0 D0 h4 D1 hl ho
    go_enter Tryz.func62, Tryz.ntmps62
    go_wp2_with (at_builtin; refine append_runC rfl _ _ 23 rfl rfl rfl hr ?_)
    go_ret
    exact ⟨_, rfl, fin.out⟩
theorem u_rules : Tryz.prog.underlying 38 = some (.slice 112) := by kernel_rfl
theorem info_rules : (Tryz.prog.info? 112).map (fun i => (i.zero, i.size, i.bytes)) = some (some (.agg #[.bool false, .int .u16 0, .int .u16 0, .int .u8 0, .int .u8 0]), 5, 8) := by kernel_rfl
set_option maxHeartbeats 1000000 in
set_option maxRecDepth 100000 in
theorem clone_rules {v : Value} {N : Nat} {cs : List Value} (w : World) (h : RowAt w.heap.size w v N 5 cs) (hs : N ≤ 1048576) :
    Calls Tryz.prog 64 #[v] w fun e w' => ∃ v', e = .returned v' ∧ w'.ownsRow w.heap.size 112 5 v' N cs ∧ Below w.heap.size w w' := by
  have q : ∀ (w : World) (a : Option Addr) (n c n' c' : Nat), (binOp .eql 38 (.slice a n c) (.slice none n' c')).run Tryz.prog w = .ok (.bool a.isNone) w := fun w a n c n' c' => Lib.run_eql_slice_nil w _ _ a n c n' c' u_rules
  obtain ⟨i0, hi, hz0, hz1, hz2⟩ := info_parts info_rules
  have D0 := Below.alN (Below.refl w.heap.size w) (.cells #[] 112)
  have o0 : (w.alloc (.cells #[] 112)).ownsRow w.heap.size 112 5 (.slice (some ⟨w.heap.size, 0, none⟩) 0 0) 0 [] := World.ownsRow_made w #[] 0 (Nat.le_refl _) (Nat.zero_le _) (by simp)
  obtain ⟨A, cap, rfl, h0, h1, h2, hl, ho, h3⟩ := h
  cases A with
  | none =>
    have hN : N = 0 := by
      by_cases hn : N = 0
      · exact hn
      · obtain ⟨_, _, e, _⟩ := h3 hn
        cases e
    subst hN
    have hcs : cs = [] := List.length_eq_zero_iff.1 (by simpa using hl)
    subst hcs
    clear h3 ho hl hs o0
    go_enter Tryz.func64, Tryz.ntmps64
    go_wp2_with fail
    go_ret
    exact ⟨_, rfl, World.ownsRow_nil _ _ _ _, Below.refl _ _⟩
  | some ad =>
    obtain ⟨v', w', hr, h4, h5, _⟩ := run_append_own (P := Tryz.prog) (w.alloc (.cells #[] 112)) w.heap.size 38 38 112 i0 _ 5 8 u_rules hi hz0 hz1 hz2 rfl (by decide) _ 0 [] o0 ad N cap cs hl (fun j u hj => by
      have hn : N ≠ 0 := fun e => by
        subst e
        have : cs = [] := List.length_eq_zero_iff.1 (by simpa using hl)
        subst this
        simp at hj
      obtain ⟨b, o, e, hb, hr⟩ := h3 hn
      cases e
      rw [Addr.add_lit]
      exact (D0.cell (p := ⟨b, o + j, none⟩) hb).trans (hr j u hj)) ho (by unfold maxLen; omega) (by omega) (by simp)
    have D1 := Below.appC D0 o0 h5 (Nat.le_refl _) (by simp)
    simp only [List.nil_append, Nat.zero_add] at h4
    have fin : Hid (w'.ownsRow w.heap.size 112 5 v' N cs ∧ Below w.heap.size w w') := ⟨h4, D1⟩
    clear h0 h1 h2 h3 h5 hs o0 D0 h4 D1 hl ho
    go_enter Tryz.func64, Tryz.ntmps64
    go_wp2_with (at_builtin; refine append_runC rfl _ _ 38 rfl rfl rfl hr ?_)
    go_ret
    exact ⟨_, rfl, fin.out⟩
theorem u_routes : Tryz.prog.underlying 39 = some (.slice 115) := by kernel_rfl
theorem info_routes : (Tryz.prog.info? 115).map (fun i => (i.zero, i.size, i.bytes)) = some (some (.agg #[.int .i64 0, .int .i64 0, .int .i64 0]), 3, 24) := by kernel_rfl
set_option maxHeartbeats 1000000 in
set_option maxRecDepth 100000 in
theorem clone_routes {v : Value} {N : Nat} {cs : List Value} (w : World) (h : RowAt w.heap.size w v N 3 cs) (hs : N ≤ 1048576) :
    Calls Tryz.prog 65 #[v] w fun e w' => ∃ v', e = .returned v' ∧ w'.ownsRow w.heap.size 115 3 v' N cs ∧ Below w.heap.size w w' := by
  have q : ∀ (w : World) (a : Option Addr) (n c n' c' : Nat), (binOp .eql 39 (.slice a n c) (.slice none n' c')).run Tryz.prog w = .ok (.bool a.isNone) w := fun w a n c n' c' => Lib.run_eql_slice_nil w _ _ a n c n' c' u_routes
  obtain ⟨i0, hi, hz0, hz1, hz2⟩ := info_parts info_routes
  have D0 := Below.alN (Below.refl w.heap.size w) (.cells #[] 115)
  have o0 : (w.alloc (.cells #[] 115)).ownsRow w.heap.size 115 3 (.slice (some ⟨w.heap.size, 0, none⟩) 0 0) 0 [] := World.ownsRow_made w #[] 0 (Nat.le_refl _) (Nat.zero_le _) (by simp)
  obtain ⟨A, cap, rfl, h0, h1, h2, hl, ho, h3⟩ := h
  cases A with
  | none =>
    have hN : N = 0 := by
      by_cases hn : N = 0
      · exact hn
      · obtain ⟨_, _, e, _⟩ := h3 hn
        cases e
    subst hN
    have hcs : cs = [] := List.length_eq_zero_iff.1 (by simpa using hl)
    subst hcs
    clear h3 ho hl hs o0
    go_enter Tryz.func65, Tryz.ntmps65
    go_wp2_with fail
    go_ret
    exact ⟨_, rfl, World.ownsRow_nil _ _ _ _, Below.refl _ _⟩
  | some ad =>
    obtain ⟨v', w', hr, h4, h5, _⟩ := run_append_own (P := Tryz.prog) (w.alloc (.cells #[] 115)) w.heap.size 39 39 115 i0 _ 3 24 u_routes hi hz0 hz1 hz2 rfl (by decide) _ 0 [] o0 ad N cap cs hl (fun j u hj => by
      have hn : N ≠ 0 := fun e => by
        subst e
        have : cs = [] := List.length_eq_zero_iff.1 (by simpa using hl)
        subst this
        simp at hj
      obtain ⟨b, o, e, hb, hr⟩ := h3 hn
      cases e
      rw [Addr.add_lit]
      exact (D0.cell (p := ⟨b, o + j, none⟩) hb).trans (hr j u hj)) ho (by unfold maxLen; omega) (by omega) (by simp)
    have D1 := Below.appC D0 o0 h5 (Nat.le_refl _) (by simp)
    simp only [List.nil_append, Nat.zero_add] at h4
    have fin : Hid (w'.ownsRow w.heap.size 115 3 v' N cs ∧ Below w.heap.size w w') := ⟨h4, D1⟩
    clear h0 h1 h2 h3 h5 hs o0 D0 h4 D1 hl ho
    go_enter Tryz.func65, Tryz.ntmps65
    go_wp2_with (at_builtin; refine append_runC rfl _ _ 39 rfl rfl rfl hr ?_)
    go_ret
    exact ⟨_, rfl, fin.out⟩
theorem u_devs : Tryz.prog.underlying 22 = some (.slice 41) := by kernel_rfl
theorem info_devs : (Tryz.prog.info? 41).map (fun i => (i.zero, i.size, i.bytes)) = some (some (.agg #[.string ⟨#[]⟩, .int .i64 0, .int .i64 0, .int .u8 0, .slice none 0 0, .slice none 0 0, .slice none 0 0]), 7, 112) := by kernel_rfl
set_option maxHeartbeats 1000000 in
set_option maxRecDepth 100000 in
theorem clone_devs {v : Value} {N : Nat} {cs : List Value} (w : World) (h : RowAt w.heap.size w v N 7 cs) (hs : N ≤ 1048576) :
    Calls Tryz.prog 61 #[v] w fun e w' => ∃ v', e = .returned v' ∧ w'.ownsRow w.heap.size 41 7 v' N cs ∧ Below w.heap.size w w' := by
  have q : ∀ (w : World) (a : Option Addr) (n c n' c' : Nat), (binOp .eql 22 (.slice a n c) (.slice none n' c')).run Tryz.prog w = .ok (.bool a.isNone) w := fun w a n c n' c' => Lib.run_eql_slice_nil w _ _ a n c n' c' u_devs
  obtain ⟨i0, hi, hz0, hz1, hz2⟩ := info_parts info_devs
  have D0 := Below.alN (Below.refl w.heap.size w) (.cells #[] 41)
  have o0 : (w.alloc (.cells #[] 41)).ownsRow w.heap.size 41 7 (.slice (some ⟨w.heap.size, 0, none⟩) 0 0) 0 [] := World.ownsRow_made w #[] 0 (Nat.le_refl _) (Nat.zero_le _) (by simp)
  obtain ⟨A, cap, rfl, h0, h1, h2, hl, ho, h3⟩ := h
  cases A with
  | none =>
    have hN : N = 0 := by
      by_cases hn : N = 0
      · exact hn
      · obtain ⟨_, _, e, _⟩ := h3 hn
        cases e
    subst hN
    have hcs : cs = [] := List.length_eq_zero_iff.1 (by simpa using hl)
    subst hcs
    clear h3 ho hl hs o0
    go_enter Tryz.func61, Tryz.ntmps61
    go_wp2_with fail
    go_ret
    exact ⟨_, rfl, World.ownsRow_nil _ _ _ _, Below.refl _ _⟩
  | some ad =>
    obtain ⟨v', w', hr, h4, h5, _⟩ := run_append_own (P := Tryz.prog) (w.alloc (.cells #[] 41)) w.heap.size 22 22 41 i0 _ 7 112 u_devs hi hz0 hz1 hz2 rfl (by decide) _ 0 [] o0 ad N cap cs hl (fun j u hj => by
      have hn : N ≠ 0 := fun e => by
        subst e
        have : cs = [] := List.length_eq_zero_iff.1 (by simpa using hl)
        subst this
        simp at hj
      obtain ⟨b, o, e, hb, hr⟩ := h3 hn
      cases e
      rw [Addr.add_lit]
      exact (D0.cell (p := ⟨b, o + j, none⟩) hb).trans (hr j u hj)) ho (by unfold maxLen; omega) (by omega) (by simp)
    have D1 := Below.appC D0 o0 h5 (Nat.le_refl _) (by simp)
    simp only [List.nil_append, Nat.zero_add] at h4
    have fin : Hid (w'.ownsRow w.heap.size 41 7 v' N cs ∧ Below w.heap.size w w') := ⟨h4, D1⟩
    clear h0 h1 h2 h3 h5 hs o0 D0 h4 D1 hl ho
    go_enter Tryz.func61, Tryz.ntmps61
    go_wp2_with (at_builtin; refine append_runC rfl _ _ 22 rfl rfl rfl hr ?_)
    go_ret
    exact ⟨_, rfl, fin.out⟩
end Go.Proofs.YthioedgnambomaaGreat



namespace Go.Proofs.YthioedgnambomaaGreat
open Go.RowKit Go.Maps

theorem cell_of_blockC {w w' : World} {b o : Nat} (h : w'.heap[b]? = w.heap[b]?) : w'.cell? ⟨b, o, none⟩ = w.cell? ⟨b, o, none⟩ := by
  unfold World.cell?
  rw [h]
/-- The slice's array isn't block k. -/
def NotB (k : Nat) (v : Value) : Prop := ∀ b o n c, v = .slice (some ⟨b, o, none⟩) n c → n ≠ 0 → b ≠ k
/-- The slice's array lies below lo, or from hi on. -/
def NotIn (lo hi : Nat) (v : Value) : Prop := ∀ b o n c, v = .slice (some ⟨b, o, none⟩) n c → n ≠ 0 → b < lo ∨ hi ≤ b
theorem NotIn.b {lo hi k : Nat} {v : Value} (h : NotIn lo hi v) (h1 : lo ≤ k) (h2 : k < hi) : NotB k v := fun b o n c e hn => by
  have := h b o n c e hn
  omega
theorem SlAt.setB {α : Type} {base n k j : Nat} {w : World} {R : List Value → α → Prop} {v u : Value} {xs : List α} (h : SlAt base w n R v xs) (hn : NotB k v) : SlAt base (w.setCell ⟨k, j, none⟩ u) n R v xs := by
  obtain ⟨A, cap, rfl, h0, h1, h2, h3⟩ := h
  refine ⟨A, cap, rfl, h0, h1, h2, fun hx => ?_⟩
  obtain ⟨b, o, rfl, hl, hr⟩ := h3 hx
  have hb : b ≠ k := hn b o _ _ rfl (fun e => hx (List.length_eq_zero_iff.1 e))
  refine ⟨b, o, rfl, hl, fun i x hi => ?_⟩
  obtain ⟨cs, c1, c2, c3⟩ := hr i x hi
  exact ⟨cs, c1, c2, fun j' u' hj => (cell_of_blockC (Below.heap_setCell w ⟨k, j, none⟩ u b hb)).trans (c3 j' u' hj)⟩
theorem SlAt.notIn {α : Type} {base n hi : Nat} {w : World} {R : List Value → α → Prop} {v : Value} {xs : List α} (h : SlAt base w n R v xs) : NotIn base hi v := fun b o m c e hn => by
  obtain ⟨A, cap, rfl, h0, h1, h2, h3⟩ := h
  obtain ⟨b', o', e', hl, _⟩ := h3 (fun e0 => hn (by cases e; rw [e0]; rfl))
  cases e
  cases e'
  exact .inl hl
theorem own_notIn {base lo hi n N : Nat} {t : TypeId} {w : World} {v : Value} {cs : List Value} (h : w.ownsRow base t n v N cs) (hb : hi ≤ base) : NotIn lo hi v := fun b o m c e hn => by
  rcases h.2 with ⟨rfl, _⟩ | ⟨g, cap, cur, rfl, hg, _⟩
  · cases e
  · cases e
    exact .inr (by omega)
/-- A row of devices in block g: as the devices are, their lists apart from blocks lo to hi. -/
def DvRow (lo hi g : Nat) (w : World) (ds : List Dv) : Prop := ∀ k d, ds[k]? = some d → ∃ vb vr vt, (w.cell? ⟨g, k * 7, none⟩ = some (.string d.name) ∧ w.cell? ⟨g, k * 7 + 1, none⟩ = some (.int .i64 d.kind) ∧ w.cell? ⟨g, k * 7 + 2, none⟩ = some (.int .i64 d.addr) ∧ w.cell? ⟨g, k * 7 + 3, none⟩ = some (.int .u8 (d.pool : Int)) ∧ w.cell? ⟨g, k * 7 + 4, none⟩ = some vb ∧ w.cell? ⟨g, k * 7 + 5, none⟩ = some vr ∧ w.cell? ⟨g, k * 7 + 6, none⟩ = some vt) ∧ (SlAt w.heap.size w 1 IsI vb d.backs ∧ SlAt w.heap.size w 5 IsRule vr d.rules ∧ SlAt w.heap.size w 3 IsRoute vt d.routes) ∧ NotIn lo hi vb ∧ NotIn lo hi vr ∧ NotIn lo hi vt
theorem cell_set {w : World} {a : Addr} {u v : Value} (h : w.cell? a = some v) : (w.setCell a u).cell? a = some u := by
  have hs := spotN h
  obtain ⟨b, o, sp⟩ := a
  simp only at hs
  subst hs
  simp [go_sem, h]
theorem cell_off {w : World} {b i j : Nat} {u : Value} (h : i ≠ j) : (w.setCell ⟨b, j, none⟩ u).cell? ⟨b, i, none⟩ = w.cell? ⟨b, i, none⟩ := by
  simp [go_sem]
section
variable {lo hi g : Nat} {w w' : World} {ds : List Dv}
theorem DvRow.below (h : DvRow lo hi g w ds) (hb : Below w.heap.size w w') : DvRow lo hi g w' ds := fun k d hk => by
  obtain ⟨vb, vr, vt, ⟨c0, c1, c2, c3, c4, c5, c6⟩, ⟨s1, s2, s3⟩, n1, n2, n3⟩ := h k d hk
  have C := fun {o : Nat} {v : Value} (hc : w.cell? ⟨g, o, none⟩ = some v) => (CK.of_below hb).cell hc
  exact ⟨vb, vr, vt, ⟨C c0, C c1, C c2, C c3, C c4, C c5, C c6⟩, ⟨SlAt.mono (SlAt.below s1 hb (fun _ _ _ h => h)) hb.size (fun _ _ _ h => h), SlAt.mono (SlAt.below s2 hb (fun _ _ _ h => h)) hb.size (fun _ _ _ h => h), SlAt.mono (SlAt.below s3 hb (fun _ _ _ h => h)) hb.size (fun _ _ _ h => h)⟩, n1, n2, n3⟩
theorem DvRow.other (h : DvRow lo hi g w ds) {k j : Nat} {u : Value} (hne : g ≠ k) (h1 : lo ≤ k) (h2 : k < hi) : DvRow lo hi g (w.setCell ⟨k, j, none⟩ u) ds := fun i d hi' => by
  obtain ⟨vb, vr, vt, ⟨c0, c1, c2, c3, c4, c5, c6⟩, ⟨s1, s2, s3⟩, n1, n2, n3⟩ := h i d hi'
  have C := fun {o : Nat} {v : Value} (hc : w.cell? ⟨g, o, none⟩ = some v) => (cell_of_blockC (o := o) (Below.heap_setCell w ⟨k, j, none⟩ u g hne)).trans hc
  have sz : (w.setCell ⟨k, j, none⟩ u).heap.size = w.heap.size := by simp [World.setCell]
  rw [sz]
  exact ⟨vb, vr, vt, ⟨C c0, C c1, C c2, C c3, C c4, C c5, C c6⟩, ⟨s1.setB (n1.b h1 h2), s2.setB (n2.b h1 h2), s3.setB (n3.b h1 h2)⟩, n1, n2, n3⟩
theorem DvRow.set4 (h : DvRow lo hi g w ds) {k : Nat} {d : Dv} {u : Value} (hk : ds[k]? = some d) (hs : SlAt w.heap.size w 1 IsI u d.backs) (hn : NotIn lo hi u) (h1 : lo ≤ g) (h2 : g < hi) : DvRow lo hi g (w.setCell ⟨g, k * 7 + 4, none⟩ u) ds := fun i d' hi' => by
  have sz : (w.setCell ⟨g, k * 7 + 4, none⟩ u).heap.size = w.heap.size := by simp [World.setCell]
  rw [sz]
  by_cases e : i = k
  · subst e
    rw [hk] at hi'
    obtain rfl := Option.some.inj hi'
    obtain ⟨vb, vr, vt, ⟨c0, c1, c2, c3, c4, c5, c6⟩, ⟨s1, s2, s3⟩, n1, n2, n3⟩ := h i d hk
    exact ⟨u, vr, vt, ⟨(cell_off (by omega)).trans c0, (cell_off (by omega)).trans c1, (cell_off (by omega)).trans c2, (cell_off (by omega)).trans c3, (cell_set c4), (cell_off (by omega)).trans c5, (cell_off (by omega)).trans c6⟩, ⟨hs.setB (hn.b h1 h2), s2.setB (n2.b h1 h2), s3.setB (n3.b h1 h2)⟩, hn, n2, n3⟩
  · obtain ⟨vb, vr, vt, ⟨e0, e1, e2, e3, e4, e5, e6⟩, ⟨s1, s2, s3⟩, n1, n2, n3⟩ := h i d' hi'
    exact ⟨vb, vr, vt, ⟨(cell_off (by omega)).trans e0, (cell_off (by omega)).trans e1, (cell_off (by omega)).trans e2, (cell_off (by omega)).trans e3, (cell_off (by omega)).trans e4, (cell_off (by omega)).trans e5, (cell_off (by omega)).trans e6⟩, ⟨s1.setB (n1.b h1 h2), s2.setB (n2.b h1 h2), s3.setB (n3.b h1 h2)⟩, n1, n2, n3⟩
theorem DvRow.set5 (h : DvRow lo hi g w ds) {k : Nat} {d : Dv} {u : Value} (hk : ds[k]? = some d) (hs : SlAt w.heap.size w 5 IsRule u d.rules) (hn : NotIn lo hi u) (h1 : lo ≤ g) (h2 : g < hi) : DvRow lo hi g (w.setCell ⟨g, k * 7 + 5, none⟩ u) ds := fun i d' hi' => by
  have sz : (w.setCell ⟨g, k * 7 + 5, none⟩ u).heap.size = w.heap.size := by simp [World.setCell]
  rw [sz]
  by_cases e : i = k
  · subst e
    rw [hk] at hi'
    obtain rfl := Option.some.inj hi'
    obtain ⟨vb, vr, vt, ⟨c0, c1, c2, c3, c4, c5, c6⟩, ⟨s1, s2, s3⟩, n1, n2, n3⟩ := h i d hk
    exact ⟨vb, u, vt, ⟨(cell_off (by omega)).trans c0, (cell_off (by omega)).trans c1, (cell_off (by omega)).trans c2, (cell_off (by omega)).trans c3, (cell_off (by omega)).trans c4, (cell_set c5), (cell_off (by omega)).trans c6⟩, ⟨s1.setB (n1.b h1 h2), hs.setB (hn.b h1 h2), s3.setB (n3.b h1 h2)⟩, n1, hn, n3⟩
  · obtain ⟨vb, vr, vt, ⟨e0, e1, e2, e3, e4, e5, e6⟩, ⟨s1, s2, s3⟩, n1, n2, n3⟩ := h i d' hi'
    exact ⟨vb, vr, vt, ⟨(cell_off (by omega)).trans e0, (cell_off (by omega)).trans e1, (cell_off (by omega)).trans e2, (cell_off (by omega)).trans e3, (cell_off (by omega)).trans e4, (cell_off (by omega)).trans e5, (cell_off (by omega)).trans e6⟩, ⟨s1.setB (n1.b h1 h2), s2.setB (n2.b h1 h2), s3.setB (n3.b h1 h2)⟩, n1, n2, n3⟩
theorem DvRow.set6 (h : DvRow lo hi g w ds) {k : Nat} {d : Dv} {u : Value} (hk : ds[k]? = some d) (hs : SlAt w.heap.size w 3 IsRoute u d.routes) (hn : NotIn lo hi u) (h1 : lo ≤ g) (h2 : g < hi) : DvRow lo hi g (w.setCell ⟨g, k * 7 + 6, none⟩ u) ds := fun i d' hi' => by
  have sz : (w.setCell ⟨g, k * 7 + 6, none⟩ u).heap.size = w.heap.size := by simp [World.setCell]
  rw [sz]
  by_cases e : i = k
  · subst e
    rw [hk] at hi'
    obtain rfl := Option.some.inj hi'
    obtain ⟨vb, vr, vt, ⟨c0, c1, c2, c3, c4, c5, c6⟩, ⟨s1, s2, s3⟩, n1, n2, n3⟩ := h i d hk
    exact ⟨vb, vr, u, ⟨(cell_off (by omega)).trans c0, (cell_off (by omega)).trans c1, (cell_off (by omega)).trans c2, (cell_off (by omega)).trans c3, (cell_off (by omega)).trans c4, (cell_off (by omega)).trans c5, (cell_set c6)⟩, ⟨s1.setB (n1.b h1 h2), s2.setB (n2.b h1 h2), hs.setB (hn.b h1 h2)⟩, n1, n2, hn⟩
  · obtain ⟨vb, vr, vt, ⟨e0, e1, e2, e3, e4, e5, e6⟩, ⟨s1, s2, s3⟩, n1, n2, n3⟩ := h i d' hi'
    exact ⟨vb, vr, vt, ⟨(cell_off (by omega)).trans e0, (cell_off (by omega)).trans e1, (cell_off (by omega)).trans e2, (cell_off (by omega)).trans e3, (cell_off (by omega)).trans e4, (cell_off (by omega)).trans e5, (cell_off (by omega)).trans e6⟩, ⟨s1.setB (n1.b h1 h2), s2.setB (n2.b h1 h2), s3.setB (n3.b h1 h2)⟩, n1, n2, n3⟩

end
theorem DvRow.devs {lo hi g : Nat} {w : World} {ds : List Dv} {cap : Nat} (h : DvRow lo hi g w ds) (hg : g < w.heap.size) (h1 : ds.length ≤ cap) (h2 : cap ≤ maxLen) : Devs w.heap.size w (.slice (some ⟨g, 0, none⟩) ds.length cap) ds := by
  refine ⟨_, cap, rfl, (fun e => by cases e), h1, h2, fun _ => ⟨g, 0, rfl, hg, fun k d hk => ?_⟩⟩
  obtain ⟨vb, vr, vt, ⟨c0, c1, c2, c3, c4, c5, c6⟩, ⟨s1, s2, s3⟩, _⟩ := h k d hk
  refine ⟨[.string d.name, .int .i64 d.kind, .int .i64 d.addr, .int .u8 (d.pool : Int), vb, vr, vt], rfl, ⟨vb, vr, vt, rfl, s1, s2, s3⟩, fun j u hj => ?_⟩
  rw [Nat.zero_add]
  match j, hj with
  | 0, hj => obtain rfl := Option.some.inj hj; exact c0
  | 1, hj => obtain rfl := Option.some.inj hj; exact c1
  | 2, hj => obtain rfl := Option.some.inj hj; exact c2
  | 3, hj => obtain rfl := Option.some.inj hj; exact c3
  | 4, hj => obtain rfl := Option.some.inj hj; exact c4
  | 5, hj => obtain rfl := Option.some.inj hj; exact c5
  | 6, hj => obtain rfl := Option.some.inj hj; exact c6
/-- Block g is one of cells, which may be written. -/
def IsB (w : World) (g : Nat) : Prop := ∃ cs t, Bk w g cs t
theorem IsB.below {w w' : World} {g : Nat} (h : IsB w g) (hb : Below w.heap.size w w') : IsB w' g := by
  obtain ⟨cs, t, h⟩ := h
  exact ⟨cs, t, h.keep hb⟩
theorem IsB.set {w : World} {g k j : Nat} {u : Value} (h : IsB w g) : IsB (w.setCell ⟨k, j, none⟩ u) g := by
  obtain ⟨cs, t, h⟩ := h
  by_cases e : g = k
  · subst e
    exact ⟨_, t, h.setS u⟩
  · exact ⟨cs, t, h.setO e u⟩
theorem IsB.fz {w : World} {g : Nat} (h : IsB w g) (o : Nat) : w.frozen? ⟨g, o, none⟩ = false := by
  obtain ⟨cs, t, h⟩ := h
  exact h.fz o
/-- A clone of devices, fresh: the lists are the elder ones. -/
def Fresh (lo : Nat) (w : World) (A : Option Addr) (cap : Nat) (w0 : World) (ds : List Dv) : Prop :=
  (A = none → cap = 0) ∧ ds.length ≤ cap ∧ cap ≤ maxLen ∧ (ds.length ≠ 0 → ∃ g, A = some ⟨g, 0, none⟩ ∧ lo ≤ g ∧ g < w.heap.size ∧ IsB w g ∧ ∀ k d, ds[k]? = some d → ∃ vb vr vt, (w.cell? ⟨g, k * 7, none⟩ = some (.string d.name) ∧ w.cell? ⟨g, k * 7 + 1, none⟩ = some (.int .i64 d.kind) ∧ w.cell? ⟨g, k * 7 + 2, none⟩ = some (.int .i64 d.addr) ∧ w.cell? ⟨g, k * 7 + 3, none⟩ = some (.int .u8 (d.pool : Int)) ∧ w.cell? ⟨g, k * 7 + 4, none⟩ = some vb ∧ w.cell? ⟨g, k * 7 + 5, none⟩ = some vr ∧ w.cell? ⟨g, k * 7 + 6, none⟩ = some vt) ∧ (SlAt w0.heap.size w0 1 IsI vb d.backs ∧ SlAt w0.heap.size w0 5 IsRule vr d.rules ∧ SlAt w0.heap.size w0 3 IsRoute vt d.routes))
theorem Fresh.below {lo : Nat} {w w' w0 : World} {A : Option Addr} {cap : Nat} {ds : List Dv} (h : Fresh lo w A cap w0 ds) (hb : Below w.heap.size w w') : Fresh lo w' A cap w0 ds := by
  obtain ⟨h0, h1, h2, h3⟩ := h
  refine ⟨h0, h1, h2, fun hn => ?_⟩
  obtain ⟨g, e, hl, hg, hB, hr⟩ := h3 hn
  refine ⟨g, e, hl, Nat.lt_of_lt_of_le hg hb.size, hB.below hb, fun k d hk => ?_⟩
  obtain ⟨vb, vr, vt, ⟨c0, c1, c2, c3, c4, c5, c6⟩, s⟩ := hr k d hk
  have C := fun {o : Nat} {v : Value} (hc : w.cell? ⟨g, o, none⟩ = some v) => (CK.of_below hb).cell hc
  exact ⟨vb, vr, vt, ⟨C c0, C c1, C c2, C c3, C c4, C c5, C c6⟩, s⟩
theorem Fresh.set {lo k j : Nat} {w w0 : World} {A : Option Addr} {cap : Nat} {ds : List Dv} {u : Value} (h : Fresh lo w A cap w0 ds) (hne : ∀ g', A = some ⟨g', 0, none⟩ → ds.length ≠ 0 → g' ≠ k) : Fresh lo (w.setCell ⟨k, j, none⟩ u) A cap w0 ds := by
  obtain ⟨h0, h1, h2, h3⟩ := h
  refine ⟨h0, h1, h2, fun hn => ?_⟩
  obtain ⟨g, e, hl, hg, hB, hr⟩ := h3 hn
  have hgk := hne g e hn
  refine ⟨g, e, hl, by simpa [World.setCell] using hg, hB.set, fun k' d hk => ?_⟩
  obtain ⟨vb, vr, vt, ⟨c0, c1, c2, c3, c4, c5, c6⟩, s⟩ := hr k' d hk
  have C := fun {o : Nat} {v : Value} (hc : w.cell? ⟨g, o, none⟩ = some v) => (cell_of_blockC (o := o) (Below.heap_setCell w ⟨k, j, none⟩ u g hgk)).trans hc
  exact ⟨vb, vr, vt, ⟨C c0, C c1, C c2, C c3, C c4, C c5, C c6⟩, s⟩
theorem Fresh.lo {lo lo' : Nat} {w w0 : World} {A : Option Addr} {cap : Nat} {ds : List Dv} (h : Fresh lo w A cap w0 ds) (hl : lo' ≤ lo) : Fresh lo' w A cap w0 ds := by
  obtain ⟨h0, h1, h2, h3⟩ := h
  refine ⟨h0, h1, h2, fun hn => ?_⟩
  obtain ⟨g, e, hg, r⟩ := h3 hn
  exact ⟨g, e, by omega, r⟩
theorem Fresh.lt {lo : Nat} {w w0 : World} {A : Option Addr} {cap : Nat} {ds : List Dv} (h : Fresh lo w A cap w0 ds) {g' : Nat} (e : A = some ⟨g', 0, none⟩) (hn : ds.length ≠ 0) : lo ≤ g' ∧ g' < w.heap.size := by
  obtain ⟨g, e', h1, h2, _⟩ := h.2.2.2 hn
  rw [e] at e'
  cases e'
  exact ⟨h1, h2⟩
theorem Fresh.row {lo hi : Nat} {w w0 : World} {A : Option Addr} {cap : Nat} {ds : List Dv} (h : Fresh lo w A cap w0 ds) (hb : Below w0.heap.size w0 w) (hn : ds.length ≠ 0) : ∃ g, A = some ⟨g, 0, none⟩ ∧ lo ≤ g ∧ g < w.heap.size ∧ IsB w g ∧ DvRow w0.heap.size hi g w ds := by
  obtain ⟨g, e, hl, hg, hB, hr⟩ := h.2.2.2 hn
  refine ⟨g, e, hl, hg, hB, fun k d hk => ?_⟩
  obtain ⟨vb, vr, vt, c, ⟨s1, s2, s3⟩⟩ := hr k d hk
  exact ⟨vb, vr, vt, c, ⟨SlAt.mono (SlAt.below s1 hb (fun _ _ _ h => h)) hb.size (fun _ _ _ h => h), SlAt.mono (SlAt.below s2 hb (fun _ _ _ h => h)) hb.size (fun _ _ _ h => h), SlAt.mono (SlAt.below s3 hb (fun _ _ _ h => h)) hb.size (fun _ _ _ h => h)⟩, s1.notIn, s2.notIn, s3.notIn⟩
theorem clone_fresh {v : Value} {ds : List Dv} {w0 : World} (W : World) (h : Devs w0.heap.size w0 v ds) (hb : Below w0.heap.size w0 W) (hs : ds.length ≤ 1048576) :
    Calls Tryz.prog 61 #[v] W fun e w' => ∃ A cap, e = .returned (.slice A ds.length cap) ∧ Fresh W.heap.size w' A cap w0 ds ∧ Below W.heap.size W w' := by
  obtain ⟨cs, hr, hf⟩ := SlAt.row h (fun cs x hx => oneDv cs x hx)
  have hr' : RowAt W.heap.size W v ds.length 7 cs := by
    obtain ⟨A, cap, e, h0, h1, h2, hl, ho, h3⟩ := hr
    refine ⟨A, cap, e, h0, h1, h2, hl, ho, fun hn => ?_⟩
    obtain ⟨b, o, ea, hlt, hc⟩ := h3 hn
    exact ⟨b, o, ea, Nat.lt_of_lt_of_le hlt hb.size, fun j u hj => (hb.cell (p := ⟨b, o + j, none⟩) hlt).trans (hc j u hj)⟩
  refine (clone_devs W hr' hs).mono fun e w' ⟨v', he, how, hbw⟩ => ?_
  have hs' := SlAt.own (R := fun cs d => ∃ w1 : World, w1 = w0 ∧ IsDv w0.heap.size w1 cs d) how (fun k x hx => ⟨w0, rfl, hf k x hx⟩)
  obtain ⟨A, cap, rfl, h0, h1, h2, h3⟩ := hs'
  refine ⟨A, cap, he, ⟨h0, h1, h2, fun hn => ?_⟩, hbw⟩
  obtain ⟨b, o, ea, hlt, hc⟩ := h3 (fun e0 => hn (by rw [e0]; rfl))
  rcases how.2 with ⟨hv, _⟩ | ⟨g, cap', cur, hv, hg, hcur, _⟩
  · rw [ea] at hv
    cases hv
  · rw [ea] at hv
    simp only [Value.slice.injEq, Option.some.injEq, Addr.mk.injEq, and_true, true_and] at hv
    obtain ⟨⟨rfl, rfl⟩, _⟩ := hv
    refine ⟨b, ea, hg, hlt, ⟨_, _, hcur⟩, fun k d hk => ?_⟩
    obtain ⟨c, _, ⟨w1, rfl, vb, vr, vt, rfl, s1, s2, s3⟩, hcc⟩ := hc k d hk
    simp only [Nat.zero_add] at hcc
    exact ⟨vb, vr, vt, ⟨hcc 0 _ rfl, hcc 1 _ rfl, hcc 2 _ rfl, hcc 3 _ rfl, hcc 4 _ rfl, hcc 5 _ rfl, hcc 6 _ rfl⟩, ⟨s1, s2, s3⟩⟩
theorem copy_ints {v : Value} {xs : List Int} (W : World) (h : SlAt W.heap.size W 1 IsI v xs) (hs : xs.length ≤ 1048576) :
    Calls Tryz.prog 63 #[v] W fun e w' => ∃ A cap, e = .returned (.slice A xs.length cap) ∧ SlAt w'.heap.size w' 1 IsI (.slice A xs.length cap) xs ∧ (∀ lo hi, hi ≤ W.heap.size → NotIn lo hi (.slice A xs.length cap)) ∧ Below W.heap.size W w' := by
  obtain ⟨cs, hr, hf⟩ := SlAt.row h (fun cs x hx => oneI cs x hx)
  refine (clone_ints W hr hs).mono fun e w' ⟨v', he, how, hbw⟩ => ?_
  have hs' := SlAt.own (R := IsI) how hf
  obtain ⟨A, cap, rfl, h0⟩ := id hs'
  exact ⟨A, cap, he, hs', fun lo hi hh => own_notIn how hh, hbw⟩
theorem copy_rules {v : Value} {xs : List NRule} (W : World) (h : SlAt W.heap.size W 5 IsRule v xs) (hs : xs.length ≤ 1048576) :
    Calls Tryz.prog 64 #[v] W fun e w' => ∃ A cap, e = .returned (.slice A xs.length cap) ∧ SlAt w'.heap.size w' 5 IsRule (.slice A xs.length cap) xs ∧ (∀ lo hi, hi ≤ W.heap.size → NotIn lo hi (.slice A xs.length cap)) ∧ Below W.heap.size W w' := by
  obtain ⟨cs, hr, hf⟩ := SlAt.row h (fun cs x hx => oneRule cs x hx)
  refine (clone_rules W hr hs).mono fun e w' ⟨v', he, how, hbw⟩ => ?_
  have hs' := SlAt.own (R := IsRule) how hf
  obtain ⟨A, cap, rfl, h0⟩ := id hs'
  exact ⟨A, cap, he, hs', fun lo hi hh => own_notIn how hh, hbw⟩
theorem copy_routes {v : Value} {xs : List NRoute} (W : World) (h : SlAt W.heap.size W 3 IsRoute v xs) (hs : xs.length ≤ 1048576) :
    Calls Tryz.prog 65 #[v] W fun e w' => ∃ A cap, e = .returned (.slice A xs.length cap) ∧ SlAt w'.heap.size w' 3 IsRoute (.slice A xs.length cap) xs ∧ (∀ lo hi, hi ≤ W.heap.size → NotIn lo hi (.slice A xs.length cap)) ∧ Below W.heap.size W w' := by
  obtain ⟨cs, hr, hf⟩ := SlAt.row h (fun cs x hx => oneRoute cs x hx)
  refine (clone_routes W hr hs).mono fun e w' ⟨v', he, how, hbw⟩ => ?_
  have hs' := SlAt.own (R := IsRoute) how hf
  obtain ⟨A, cap, rfl, h0⟩ := id hs'
  exact ⟨A, cap, he, hs', fun lo hi hh => own_notIn how hh, hbw⟩
theorem copy_links {v : Value} {xs : List Lk} (W : World) (h : SlAt W.heap.size W 4 IsLk v xs) (hs : xs.length ≤ 1048576) :
    Calls Tryz.prog 62 #[v] W fun e w' => ∃ A cap, e = .returned (.slice A xs.length cap) ∧ SlAt w'.heap.size w' 4 IsLk (.slice A xs.length cap) xs ∧ (∀ lo hi, hi ≤ W.heap.size → NotIn lo hi (.slice A xs.length cap)) ∧ Below W.heap.size W w' := by
  obtain ⟨cs, hr, hf⟩ := SlAt.row h (fun cs x hx => oneLk cs x hx)
  refine (clone_links W hr hs).mono fun e w' ⟨v', he, how, hbw⟩ => ?_
  have hs' := SlAt.own (R := IsLk) how hf
  obtain ⟨A, cap, rfl, h0⟩ := id hs'
  exact ⟨A, cap, he, hs', fun lo hi hh => own_notIn how hh, hbw⟩

end Go.Proofs.YthioedgnambomaaGreat


