/-
  Package step: Handle, what goes out: flows.
-/
import Derived.Test.YthioedgnambomaaSx1
namespace Go.Proofs.Ythioedgnambomaa
open Go.RowKit Go.Maps

set_option maxHeartbeats 4000000 in
set_option maxRecDepth 100000 in
theorem handle_flow (m : Mp) (ds : List Dv) (ls : List Lk) (n : Nat) (M : Mnd) (i q : Int) (p : Pk) (c : Int) (j : Int) (p3 : Pk) (h : HR) (q2 ps pd psp pdp : Int) (pv : Option (Int × Int)) (w : World) (hM : Hid (MemAt w m ds ls n M)) (hn : n < maxLen) (hpl : isPl ds i q = true) (hpk : pkOk p = true)
    (SD : Hid (∀ W, MemAt W m ds ls n M → Calls Try.prog 18 #[.pointer (some ⟨m.B, m.z, none⟩), plA i q, pkV p, .int .i64 c] W (SPost m W ⟨0, q2, ⟨ps, pd, psp, pdp⟩, .flow j p3⟩)))
    (PE : Hid (∀ W, MemAt W m ds ls n M → Calls Try.prog 19 #[.agg #[.slice m.A ds.length m.cap, .slice m.L ls.length m.cap'], plA i q2] W fun e w' => e = .returned (.tuple #[placeV pv, .bool pv.isSome]) ∧ Below W.heap.size W w'))
    (HN : Hid (pv = none → h = badH 7 M)) (HS : Hid (∀ t, pv = some t → h = ⟨0, t, ⟨ps, pd, psp, pdp⟩, learnP M (.flow j p3)⟩)) :
    Calls Try.prog 9 #[.pointer (some ⟨m.B, m.z, none⟩), plA i q, pkV p, .int .i64 c] w (HPost m ds ls n w h) := by
  have M2 := ((hM.out.alloc (.cells #[.int .i64 i, .int .i64 q] 27)).alloc (pkC p)).alloc (.cells #[.int .i64 0, .int .i64 0, .int .i64 0, .int .i64 0, .int .i64 0, .int .i64 0] 55)
  have D2 := Below.alN (Below.alN (Below.alN (Below.refl w.heap.size w) (.cells #[.int .i64 i, .int .i64 q] 27)) (pkC p)) (.cells #[.int .i64 0, .int .i64 0, .int .i64 0, .int .i64 0, .int .i64 0, .int .i64 0] 55)
  have A2 := ((bk_new w #[.int .i64 i, .int .i64 q] 27).alloc (pkC p)).alloc (.cells #[.int .i64 0, .int .i64 0, .int .i64 0, .int .i64 0, .int .i64 0, .int .i64 0] 55)
  have P2 := (bk_new' (w.alloc (.cells #[.int .i64 i, .int .i64 q] 27)) #[.int .i64 p.s, .int .i64 p.d, .int .i64 p.sp, .int .i64 p.dp] 29 (w.heap.size + 1) (by simp)).alloc (.cells #[.int .i64 0, .int .i64 0, .int .i64 0, .int .i64 0, .int .i64 0, .int .i64 0] 55)
  have R2 := bk_new' ((w.alloc (.cells #[.int .i64 i, .int .i64 q] 27)).alloc (pkC p)) #[.int .i64 0, .int .i64 0, .int .i64 0, .int .i64 0, .int .i64 0, .int .i64 0] 55 (w.heap.size + 1 + 1) (by simp)
  obtain ⟨q0, q1, _, _, _⟩ := M2.cells
  have Q0 : (((w.alloc (.cells #[.int .i64 i, .int .i64 q] 27)).alloc (pkC p)).alloc (.cells #[.int .i64 0, .int .i64 0, .int .i64 0, .int .i64 0, .int .i64 0, .int .i64 0] 55)).drew.cell? ⟨m.B, m.z, none⟩ = some (.slice m.A ds.length m.cap) := q0
  have Q1 : (((w.alloc (.cells #[.int .i64 i, .int .i64 q] 27)).alloc (pkC p)).alloc (.cells #[.int .i64 0, .int .i64 0, .int .i64 0, .int .i64 0, .int .i64 0, .int .i64 0] 55)).drew.cell? ⟨m.B, m.z + 1, none⟩ = some (.slice m.L ls.length m.cap') := q1
  obtain ⟨a0, a1⟩ := A2.two
  have HP : Hid (∀ W, MemAt W m ds ls n M → Calls Try.prog 13 #[.agg #[.slice m.A ds.length m.cap, .slice m.L ls.length m.cap'], plA i q] W fun e w' => e = .returned (.bool (isPl ds i q)) ∧ Below W.heap.size W w') := fun W h => hasPlace_any _ _ _ _ _ _ _ W h.devs
  have PC : Hid (∀ W, Calls Try.prog 14 #[pkV p] W fun e w' => e = .returned (.int .i64 (if pkOk p then 0 else 1)) ∧ Below W.heap.size W w') := fun W => pcheck_any p W
  rw [hpl] at HP
  rw [hpk] at PC
  simp only [if_true] at PC
  obtain ⟨tx, ty, ok, hpv, hok, HT, HF⟩ : ∃ (tx ty : Int) (ok : Bool), placeV pv = plA tx ty ∧ pv.isSome = ok ∧ Hid (ok = true → h = ⟨0, (tx, ty), ⟨ps, pd, psp, pdp⟩, learnP M (.flow j p3)⟩) ∧ Hid (ok = false → h = badH 7 M) := by
    cases pv with
    | none => exact ⟨0, 0, _, rfl, rfl, (fun e => by cases e), fun _ => HN.out rfl⟩
    | some z => exact ⟨z.1, z.2, _, rfl, rfl, fun _ => HS.out z rfl, (fun e => by cases e)⟩
  rw [hpv, hok] at PE
  clear hpv hok HN HS
  obtain ⟨s, dd, sp, dp⟩ := p
  simp only at *
  go_enter Try.func9, Try.ntmps9
  go_wp2_with fail
  go_region_held3 (fun w' => w'.cell? ⟨m.B, m.z, none⟩ = some (.slice m.A ds.length m.cap) ∧ w'.cell? ⟨m.B, m.z + 1, none⟩ = some (.slice m.L ls.length m.cap') ∧ w'.cell? ⟨w.heap.size, 0, none⟩ = some (.int .i64 i) ∧ w'.cell? ⟨w.heap.size, 1, none⟩ = some (.int .i64 q)) (go_keep) ((go_at_call 13; refine (HP.out _ M2.drew).mono ?_; rintro e w5 ⟨rfl, hb5⟩; have D5 := chnN hb5 D2.drew; have A5 := A2.drew.keep hb5; have P5 := P2.drew.keep hb5; have R5 := R2.drew.keep hb5; have M5 := M2.drew.below hb5; have g0 := (CK.of_below hb5).cell Q0; have g1 := (CK.of_below hb5).cell Q1; obtain ⟨g2, g3⟩ := A5.two))
  clear hb5 D2 A2 P2 R2 M2 q0 q1 Q0 Q1 a0 a1 HP g0 g1 g2 g3
  obtain ⟨⟨l0, l1, l2, l3, l4, l5⟩, ⟨f0, f1, f2, f3, f4, f5⟩⟩ := R5.six
  have z5 : w.heap.size + 1 + 1 < w5.heap.size := R5.lt
  obtain ⟨p0, p1, p2, p3, _⟩ := P5.four
  go_wp2_with fail
  refine (PC.out _).mono ?_
  rintro e w6 ⟨rfl, hb6⟩
  have D6 := chnN hb6 D5
  have A6 := A5.keep hb6
  have P6 := P5.keep hb6
  have R6 := R5.keep hb6
  have M6 := M5.below hb6
  clear hb6 D5 A5 P5 R5 M5 p0 p1 p2 p3 l0 l1 l2 l3 l4 l5 f0 f1 f2 f3 f4 f5 PC z5
  obtain ⟨⟨l0, l1, l2, l3, l4, l5⟩, ⟨f0, f1, f2, f3, f4, f5⟩⟩ := R6.six
  obtain ⟨p0, p1, p2, p3', _⟩ := P6.four
  obtain ⟨a0, a1⟩ := A6.two
  go_wp2_with fail
  refine (SD.out _ M6).mono ?_
  rintro e w7 ⟨q9, p9, fv, er, rfl, HQ, hb7⟩
  obtain ⟨he, _, hz⟩ := HQ.out
  obtain ⟨hq9, hp9, HL⟩ := hz rfl
  simp only at he hq9 hp9 HL
  have hq9' := hq9.symm
  subst he hq9' hp9
  have D7 := chnN hb7 D6
  have R7 := R6.keep hb7
  have A7 := A6.keep hb7
  have M7 := M6.below hb7
  clear hb7 D6 A6 P6 R6 M6 p0 p1 p2 p3' a0 a1 l0 l1 l2 l3 l4 l5 f0 f1 f2 f3 f4 f5 SD HQ hz
  obtain ⟨_, _, ca, cb, rfl, _⟩ := id HL
  have z7 : w.heap.size + 1 + 1 < w7.heap.size := R7.lt
  have D8 := Below.alN D7 (.cells #[.int .i64 q2, .int .i64 ps, .int .i64 pd, .int .i64 psp, .int .i64 pdp, .func (.func 58) #[] #[.pointer (some ⟨ca, 0, none⟩), .pointer (some ⟨cb, 0, none⟩)]] 73)
  have R8 := R7.alloc (.cells #[.int .i64 q2, .int .i64 ps, .int .i64 pd, .int .i64 psp, .int .i64 pdp, .func (.func 58) #[] #[.pointer (some ⟨ca, 0, none⟩), .pointer (some ⟨cb, 0, none⟩)]] 73)
  have A8 := A7.alloc (.cells #[.int .i64 q2, .int .i64 ps, .int .i64 pd, .int .i64 psp, .int .i64 pdp, .func (.func 58) #[] #[.pointer (some ⟨ca, 0, none⟩), .pointer (some ⟨cb, 0, none⟩)]] 73)
  have M8 := M7.alloc (.cells #[.int .i64 q2, .int .i64 ps, .int .i64 pd, .int .i64 psp, .int .i64 pdp, .func (.func 58) #[] #[.pointer (some ⟨ca, 0, none⟩), .pointer (some ⟨cb, 0, none⟩)]] 73)
  have HL8 := HL.below ((Below.refl _ w7).alloc (Nat.le_refl _) (.cells #[.int .i64 q2, .int .i64 ps, .int .i64 pd, .int .i64 psp, .int .i64 pdp, .func (.func 58) #[] #[.pointer (some ⟨ca, 0, none⟩), .pointer (some ⟨cb, 0, none⟩)]] 73))
  have O8 := bk_new w7 #[.int .i64 q2, .int .i64 ps, .int .i64 pd, .int .i64 psp, .int .i64 pdp, .func (.func 58) #[] #[.pointer (some ⟨ca, 0, none⟩), .pointer (some ⟨cb, 0, none⟩)]] 73
  clear D7 R7 A7 M7 HL
  go_upto_region 9 with fail
  generalize hON : w7.heap.size = on at *
  generalize hW : w7.alloc (.cells #[.int .i64 q2, .int .i64 ps, .int .i64 pd, .int .i64 psp, .int .i64 pdp, .func (.func 58) #[] #[.pointer (some ⟨ca, 0, none⟩), .pointer (some ⟨cb, 0, none⟩)]] 73) = w8 at *
  clear hON hW
  obtain ⟨g0, g1, g2, g3⟩ := peS M8 A8 O8
  have D8a := (Below.alN D8 (.cells #[.int .i64 0, .int .i64 0] 27)).drew
  have M8a := (M8.alloc (.cells #[.int .i64 0, .int .i64 0] 27)).drew
  have A8a := (A8.alloc (.cells #[.int .i64 0, .int .i64 0] 27)).drew
  have O8a := (O8.alloc (.cells #[.int .i64 0, .int .i64 0] 27)).drew
  have R8a := (R8.alloc (.cells #[.int .i64 0, .int .i64 0] 27)).drew
  have H8a := HL8.below ((Below.refl _ w8).alloc (Nat.le_refl _) (.cells #[.int .i64 0, .int .i64 0] 27)).drew
  have H8d := HL8.below (Below.refl _ w8).drew
  have M8d := M8.drew
  have A8d := A8.drew
  have O8d := O8.drew
  go_cut [13, 14] (fun v13 v14 wx => ∃ g, v13 = .pointer (some ⟨g, 0, none⟩) ∧ v14 = .bool ok ∧ Bk wx g #[.int .i64 tx, .int .i64 ty] 27 ∧ w.heap.size + 1 + 1 < g ∧ Bk wx on #[.int .i64 q2, .int .i64 ps, .int .i64 pd, .int .i64 psp, .int .i64 pdp, .func (.func 58) #[] #[.pointer (some ⟨ca, 0, none⟩), .pointer (some ⟨cb, 0, none⟩)]] 73 ∧ Bk wx (w.heap.size + 1 + 1) #[.int .i64 0, .int .i64 0, .int .i64 0, .int .i64 0, .int .i64 0, .int .i64 0] 55 ∧ MemAt wx m ds ls n M ∧ LrnAt w6.heap.size wx m (.func (.func 58) #[] #[.pointer (some ⟨ca, 0, none⟩), .pointer (some ⟨cb, 0, none⟩)]) (.flow j p3) ∧ Below w.heap.size w wx)
  case first =>
    have zz8 : w.heap.size + 1 + 1 < w8.heap.size := R8.lt
    go_region_held3 (fun w' => w'.cell? ⟨m.B, m.z, none⟩ = some (.slice m.A ds.length m.cap) ∧ w'.cell? ⟨m.B, m.z + 1, none⟩ = some (.slice m.L ls.length m.cap') ∧ w'.cell? ⟨w.heap.size, 0, none⟩ = some (.int .i64 i) ∧ w'.cell? ⟨on, 0, none⟩ = some (.int .i64 q2)) (first | exact peS (by first | assumption | exact MemAt.alloc (by assumption) _) (by first | assumption | exact Bk.alloc (by assumption) _) (by first | assumption | exact Bk.alloc (by assumption) _) | exact peS (M8.below ((E9.setCell (p := ⟨w8.heap.size, 0, none⟩) (Nat.le_refl _) _).setCell (p := ⟨w8.heap.size, 1, none⟩) (Nat.le_refl _) _)) (A8.keep ((E9.setCell (p := ⟨w8.heap.size, 0, none⟩) (Nat.le_refl _) _).setCell (p := ⟨w8.heap.size, 1, none⟩) (Nat.le_refl _) _)) (O8.keep ((E9.setCell (p := ⟨w8.heap.size, 0, none⟩) (Nat.le_refl _) _).setCell (p := ⟨w8.heap.size, 1, none⟩) (Nat.le_refl _) _))) (first | (go_at_call 19; refine (PE.out _ M8d).mono ?_; rintro e w9 ⟨rfl, hb9⟩; have D9 := chnN hb9 D8.drew; have M9 := M8d.below hb9; have A9 := A8d.keep hb9; have O9 := O8d.keep hb9; have R9 := R8.drew.keep hb9; have H9 := H8d.below hb9; have G9 := bk_new w9 #[.int .i64 tx, .int .i64 ty] 27) | (go_at_call 19; refine (PE.out _ M8a).mono ?_; rintro e w9 ⟨rfl, hb9⟩; have D9 := chnN hb9 D8a; have M9 := M8a.below hb9; have A9 := A8a.keep hb9; have O9 := O8a.keep hb9; have R9 := R8a.keep hb9; have H9 := H8a.below hb9; have G9 := (bk_new w8 #[.int .i64 0, .int .i64 0] 27).drew.keep hb9; have E9 := chnN hb9 ((Below.refl _ w8).alloc (Nat.le_refl _) (.cells #[.int .i64 0, .int .i64 0] 27)).drew; have gf0 := G9.fz 0; have gf1 := G9.fz 1; obtain ⟨gg0, gg1⟩ := G9.two))
    all_goals
      go_wp2_with fail
      go_meet
      first
        | exact ⟨_, rfl, rfl, G9, (by have := R9.lt; omega), O9.alloc _, R9.alloc _, M9.alloc _, H9.below ((Below.refl _ _).alloc (Nat.le_refl _) _), Below.alN D9 _⟩
        | exact ⟨_, rfl, rfl, (by have := (G9.setS (j := 0) (.int .i64 tx)).setS (j := 1) (.int .i64 ty); simpa using this), zz8, O8.keep ((E9.setCell (p := ⟨w8.heap.size, 0, none⟩) (Nat.le_refl _) _).setCell (p := ⟨w8.heap.size, 1, none⟩) (Nat.le_refl _) _), R8.keep ((E9.setCell (p := ⟨w8.heap.size, 0, none⟩) (Nat.le_refl _) _).setCell (p := ⟨w8.heap.size, 1, none⟩) (Nat.le_refl _) _), M8.below ((E9.setCell (p := ⟨w8.heap.size, 0, none⟩) (Nat.le_refl _) _).setCell (p := ⟨w8.heap.size, 1, none⟩) (Nat.le_refl _) _), HL8.below ((E9.setCell (p := ⟨w8.heap.size, 0, none⟩) (Nat.le_refl _) _).setCell (p := ⟨w8.heap.size, 1, none⟩) (Nat.le_refl _) _), chnN ((E9.setCell (p := ⟨w8.heap.size, 0, none⟩) (Nat.le_refl _) _).setCell (p := ⟨w8.heap.size, 1, none⟩) (Nat.le_refl _) _) D8⟩
  case rest =>
    clear D8 R8 A8 M8 HL8 O8 g0 g1 g2 g3 D8a M8a A8a O8a R8a H8a H8d M8d A8d O8d PE
    obtain ⟨g, rfl, rfl, G8, zg, O8, R8, M8, HL8, D8⟩ := hcut
    obtain ⟨⟨l0, l1, l2, l3, l4, l5⟩, ⟨f0, f1, f2, f3, f4, f5⟩⟩ := R8.six
    cases ok
    · have HV : Hid (h = badH 7 M) := HF.out rfl
      go_wp2_with fail
      refine bodyPost_ret (v := .tuple #[arV (0, 0) zeroP, .int .i64 7]) (by simp [results, Try.results9, go_sem, l0, l1, l2, l3, l4, l5, zeroP]) rfl (hpost_bad HV.out hM.out (by go_grown))
    have HV := HT.out rfl
    obtain ⟨⟨o0, o1, o2, o3, o4, o5⟩, _⟩ := O8.six
    clear l0 l1 l2 l3 l4 l5 f0 f1 f2 f3 f4 f5
    go_wp2_with fail
    obtain ⟨hj, hp3, ca', cb', ee, _, _, d0, d1, d2, d3, d4, d5⟩ := HL8
    cases ee
    refine (ask1_any _ _ m ds ls n M j p3 _ M8 hn hj hp3 d0 d1 d2 d3 d4 d5).mono ?_
    rintro e w9 ⟨rfl, M9, K9⟩
    have G9 := G8.ck (M8.ck K9)
    have O9 := O8.ck (M8.ck K9)
    have R9 := R8.ck (M8.ck K9)
    clear d0 d1 d2 d3 d4 d5 hj hp3
    clear o0 o1 o2 o3 o4 o5
    obtain ⟨⟨o0, o1, o2, o3, o4, o5⟩, _⟩ := O9.six
    obtain ⟨⟨l0, l1, l2, l3, l4, l5⟩, ⟨f0, f1, f2, f3, f4, f5⟩⟩ := R9.six
    obtain ⟨gx, gy⟩ := G9.two
    go_wp2_with fail
    refine bodyPost_ret (v := .tuple #[arV (tx, ty) ⟨ps, pd, psp, pdp⟩, .int .i64 0]) (by simp [results, Try.results9, go_sem, l0, l1, l2, l3, l4, l5]) rfl (hpost_ok HV hM.out D8 K9 M9 (by omega) _ _ _ _ _ _)
end Go.Proofs.Ythioedgnambomaa
