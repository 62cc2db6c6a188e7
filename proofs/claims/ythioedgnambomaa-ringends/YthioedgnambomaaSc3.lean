/-
  Package net: Copy, the walk.
-/
import Derived.Test.YthioedgnambomaaSc2
namespace Go.Proofs.Ythioedgnambomaa
open Go.RowKit Go.Maps

/-- Sizes within which a net is copied. -/
structure Small (ds : List Dv) (ls : List Lk) : Prop where
  nd : ds.length ≤ 1048576
  nl : ls.length ≤ 1048576
  backs : ∀ d ∈ ds, d.backs.length ≤ 1048576
  rules : ∀ d ∈ ds, d.rules.length ≤ 1048576
  routes : ∀ d ∈ ds, d.routes.length ≤ 1048576
/-- What a copy is. -/
def CopyOut (w : World) (ds : List Dv) (ls : List Lk) (e : Ending) (w' : World) : Prop :=
  ∃ A cap B cap', e = .returned (.agg #[.slice A ds.length cap, .slice B ls.length cap']) ∧ Devs w'.heap.size w' (.slice A ds.length cap) ds ∧ Links w'.heap.size w' (.slice B ls.length cap') ls ∧ Below w.heap.size w w'
theorem NotB.of {k : Nat} {v : Value} (h : ∀ lo hi, hi ≤ k + 1 → NotIn lo hi v) : NotB k v := (h 0 (k + 1) (Nat.le_refl _)).b (Nat.zero_le _) (Nat.lt_succ_self _)
set_option maxHeartbeats 8000000 in
set_option maxRecDepth 100000 in
theorem copy_any (A B : Option Addr) (cap cap' : Nat) (ds : List Dv) (ls : List Lk) (w : World) (hD : Hid (Devs w.heap.size w (.slice A ds.length cap) ds)) (hL : Hid (Links w.heap.size w (.slice B ls.length cap') ls)) (hS : Hid (Small ds ls)) :
    Calls Try.prog 17 #[.agg #[.slice A ds.length cap, .slice B ls.length cap']] w (CopyOut w ds ls) := by
  have hsz := hS.out.nd
  have CD : Hid (∀ W, Below w.heap.size w W → Calls Try.prog 28 #[.slice A ds.length cap] W fun e w' => ∃ A cap, e = .returned (.slice A ds.length cap) ∧ Fresh W.heap.size w' A cap w ds ∧ Below W.heap.size W w') := fun W h => clone_fresh W hD.out h hS.out.nd
  have CL : Hid (∀ W, Below w.heap.size w W → Calls Try.prog 29 #[.slice B ls.length cap'] W fun e w' => ∃ A cap, e = .returned (.slice A ls.length cap) ∧ SlAt w'.heap.size w' 4 IsLk (.slice A ls.length cap) ls ∧ (∀ lo hi, hi ≤ W.heap.size → NotIn lo hi (.slice A ls.length cap)) ∧ Below W.heap.size W w') := fun W h => copy_links W ((hL.out.below h).mono h.size) hS.out.nl
  have D2 := Below.alN (Below.alN (Below.refl w.heap.size w) (.cells #[.slice A ds.length cap, .slice B ls.length cap'] 25)) (.cells #[.slice none 0 0, .slice none 0 0] 25)
  have N2 := (bk_new w #[.slice A ds.length cap, .slice B ls.length cap'] 25).alloc (.cells #[.slice none 0 0, .slice none 0 0] 25)
  have R2 := bk_new' (w.alloc (.cells #[.slice A ds.length cap, .slice B ls.length cap'] 25)) #[.slice none 0 0, .slice none 0 0] 25 (w.heap.size + 1) (by simp)
  have S2 := N2.two
  have D2d := D2.drew
  have N2d := N2.drew
  have R2d := R2.drew
  have D2a := (Below.alN D2 (.cells #[.slice none 0 0, .slice none 0 0] 25)).drew
  have N2a := (N2.alloc (.cells #[.slice none 0 0, .slice none 0 0] 25)).drew
  have R2a := (R2.alloc (.cells #[.slice none 0 0, .slice none 0 0] 25)).drew
  have G2a := (bk_new' ((w.alloc (.cells #[.slice A ds.length cap, .slice B ls.length cap'] 25)).alloc (.cells #[.slice none 0 0, .slice none 0 0] 25)) #[.slice none 0 0, .slice none 0 0] 25 (w.heap.size + 1 + 1) (by simp)).drew
  clear hD hL
  obtain ⟨n0, n1⟩ := S2
  go_enter Try.func17, Try.ntmps17
  go_wp2_with fail
  go_cut [3] (fun v3 wx => ∃ g A1 c1 B1 c2, v3 = .pointer (some ⟨g, 0, none⟩) ∧ Bk wx g #[.slice A1 ds.length c1, .slice B1 ls.length c2] 25 ∧ w.heap.size + 1 < g ∧ Fresh (w.heap.size + 1 + 1) wx A1 c1 w ds ∧ (∀ g', A1 = some ⟨g', 0, none⟩ → ds.length ≠ 0 → g' ≠ g) ∧ SlAt wx.heap.size wx 4 IsLk (.slice B1 ls.length c2) ls ∧ NotB g (.slice B1 ls.length c2) ∧ NotB (w.heap.size + 1) (.slice B1 ls.length c2) ∧ (∀ g', A1 = some ⟨g', 0, none⟩ → ds.length ≠ 0 → NotB g' (.slice B1 ls.length c2)) ∧ Bk wx (w.heap.size + 1) #[.slice none 0 0, .slice none 0 0] 25 ∧ Below w.heap.size w wx)
  case first =>
    go_region_held3 (fun w' => w'.cell? ⟨w.heap.size, 0, none⟩ = some (.slice A ds.length cap) ∧ w'.cell? ⟨w.heap.size, 1, none⟩ = some (.slice B ls.length cap')) (first | exact Bk.two (by first | assumption | exact Bk.alloc (by assumption) _) | exact Bk.two ((N6.setO (by omega) _).setO (by omega) _)) (first | (go_at_call 28; refine (CD.out _ D2d).mono ?_; rintro e w5 ⟨A1, c1, rfl, F5, hb5⟩; have D5 := chnN hb5 D2d; have N5 := N2d.keep hb5; have R5 := R2d.keep hb5; have z5 := R5.lt; have F5l := F5.lo (lo' := w.heap.size + 1 + 1) (by simp)) | (go_at_call 28; refine (CD.out _ D2a).mono ?_; rintro e w5 ⟨A1, c1, rfl, F5, hb5⟩; have D5 := chnN hb5 D2a; have N5 := N2a.keep hb5; have R5 := R2a.keep hb5; have G5 := G2a.keep hb5; have z5 := G5.lt; have F5l := F5.lo (lo' := w.heap.size + 1 + 1 + 1) (by simp)) | (go_at_call 29; refine (CL.out _ D5).mono ?_; rintro e w6 ⟨B1, c2, rfl, K6, Z6, hb6⟩; have D6 := chnN hb6 D5; have N6 := N5.keep hb6; have R6 := R5.keep hb6; have F6 := F5l.below hb6; have G6 := G5.keep hb6; have gf0 := G6.fz 0; have gf1 := G6.fz 1; obtain ⟨gg0, gg1⟩ := G6.two) | (go_at_call 29; refine (CL.out _ D5).mono ?_; rintro e w6 ⟨B1, c2, rfl, K6, Z6, hb6⟩; have D6 := chnN hb6 D5; have N6 := N5.keep hb6; have R6 := R5.keep hb6; have F6 := F5l.below hb6) | (go_at_call 29; refine (CL.out _ (Below.alN D5 (.cells #[.slice none 0 0, .slice none 0 0] 25))).mono ?_; rintro e w6 ⟨B1, c2, rfl, K6, Z6, hb6⟩; have D6 := chnN hb6 (Below.alN D5 (.cells #[.slice none 0 0, .slice none 0 0] 25)); have N6 := (N5.alloc (.cells #[.slice none 0 0, .slice none 0 0] 25)).keep hb6; have R6 := (R5.alloc (.cells #[.slice none 0 0, .slice none 0 0] 25)).keep hb6; have F6 := (F5l.below ((Below.refl _ _).alloc (Nat.le_refl _) (.cells #[.slice none 0 0, .slice none 0 0] 25))).below hb6; have G6 := (bk_new w5 #[.slice none 0 0, .slice none 0 0] 25).keep hb6; have gf0 := G6.fz 0; have gf1 := G6.fz 1; obtain ⟨gg0, gg1⟩ := G6.two))
    all_goals
      go_wp2_with fail
      go_meet
      have y6 := hb6.size
      first
        | exact ⟨_, _, _, _, _, rfl, bk_new w6 _ _, (by omega), F6.below ((Below.refl _ _).alloc (Nat.le_refl _) _), (fun g' e hn => by have := F6.lt e hn; omega), SlAt.mono (SlAt.below K6 ((Below.refl _ w6).alloc (Nat.le_refl _) _) (fun _ _ _ h => h)) (by simp) (fun _ _ _ h => h), (fun b o n c e hn => by have := (Z6 0 w5.heap.size (by simp) b o n c e hn); have q := SlAt.notIn (hi := w6.heap.size + 1) K6 b o n c e hn; omega), NotB.of (fun lo hi h => Z6 lo hi (by omega)), (fun g' e hn => NotB.of (fun lo hi h => Z6 lo hi (by have := F5l.lt e hn; omega))), R6.alloc _, Below.alN D6 _⟩
        | ((try simp only [World.size_alloc] at y6 Z6)
           exact ⟨_, _, _, _, _, rfl, (by have := (G6.setS (j := 0) (.slice A1 ds.length c1)).setS (j := 1) (.slice B1 ls.length c2); simpa using this), (by omega), ((F6.set (fun g' e hn => by have := F5l.lt e hn; omega)).set (fun g' e hn => by have := F5l.lt e hn; omega)).lo (by omega), (fun g' e hn => by have := F5l.lt e hn; omega), (by have := (K6.setB (k := w.heap.size + 1 + 1) (j := 0) (u := .slice A1 ds.length c1) (NotB.of (fun lo hi h => Z6 lo hi (by omega)))).setB (k := w.heap.size + 1 + 1) (j := 1) (u := .slice B1 ls.length c2) (NotB.of (fun lo hi h => Z6 lo hi (by omega))); simpa [World.setCell] using this), NotB.of (fun lo hi h => Z6 lo hi (by omega)), NotB.of (fun lo hi h => Z6 lo hi (by omega)), (fun g' e hn => NotB.of (fun lo hi h => Z6 lo hi (by have := F5l.lt e hn; omega))), (R6.setO (by omega) _).setO (by omega) _, (D6.setCell (by simp; omega) _).setCell (by simp; omega) _⟩)
        | ((try simp only [World.size_alloc] at y6 Z6)
           exact ⟨_, _, _, _, _, rfl, (by have := (G6.setS (j := 0) (.slice A1 ds.length c1)).setS (j := 1) (.slice B1 ls.length c2); simpa using this), (by omega), ((F6.set (fun g' e hn => by have := F5l.lt e hn; omega)).set (fun g' e hn => by have := F5l.lt e hn; omega)).lo (by omega), (fun g' e hn => by have := F5l.lt e hn; omega), (by have := (K6.setB (k := w5.heap.size) (j := 0) (u := .slice A1 ds.length c1) (NotB.of (fun lo hi h => Z6 lo hi (by omega)))).setB (k := w5.heap.size) (j := 1) (u := .slice B1 ls.length c2) (NotB.of (fun lo hi h => Z6 lo hi (by omega))); simpa [World.setCell] using this), NotB.of (fun lo hi h => Z6 lo hi (by omega)), NotB.of (fun lo hi h => Z6 lo hi (by omega)), (fun g' e hn => NotB.of (fun lo hi h => Z6 lo hi (by have := F5l.lt e hn; omega))), (R6.setO (by omega) _).setO (by omega) _, (D6.setCell (by simp; omega) _).setCell (by simp; omega) _⟩)
  case rest =>
    clear D2 N2 R2 D2d N2d R2d D2a N2a R2a G2a n0 n1 CD CL
    obtain ⟨g, A1, c1, B1, c2, rfl, G4, zg, F4, hgg, K4, nb1, nb2, nb3, R4, D4⟩ := hcut
    by_cases hn : ds.length = 0
    · have hds : ds = [] := List.length_eq_zero_iff.1 hn
      obtain ⟨f0, f1, f2, _⟩ := F4
      subst hds
      clear hgg nb3 hn
      simp only [List.length_nil] at *
      obtain ⟨x0, x1⟩ := G4.two
      go_wp2_with fail
      go_loopw [16] (fun i wr => i = .int .i64 0 ∧ Below w.heap.size w wr ∧ Bk wr g #[.slice A1 0 c1, .slice B1 ls.length c2] 25 ∧ Bk wr (w.heap.size + 1) #[.slice none 0 0, .slice none 0 0] 25 ∧ SlAt wr.heap.size wr 4 IsLk (.slice B1 ls.length c2) ls) (fun i _ => 0)
      case atStart => exact ⟨rfl, D4, G4, R4, K4⟩
      case round =>
        clear D4 G4 R4 K4 x0 x1
        obtain ⟨rfl, D4, G4, R4, K4⟩ := hrel
        obtain ⟨x0, x1⟩ := G4.two
        obtain ⟨r0, r1⟩ := R4.two
        have rf0 := R4.fz 0
        have rf1 := R4.fz 1
        go_wp2_with fail
        refine bodyPost_ret (v := .agg #[.slice A1 0 c1, .slice B1 ls.length c2]) (by simp [results, Try.results17, go_sem, r0, r1]) rfl ⟨A1, c1, B1, c2, rfl, ⟨A1, c1, rfl, f0, f1, f2, fun h => absurd rfl h⟩, ?_, ?_⟩
        · have := (K4.setB (k := w.heap.size + 1) (j := 0) (u := .slice A1 0 c1) nb2).setB (k := w.heap.size + 1) (j := 1) (u := .slice B1 ls.length c2) nb2
          unfold Links
          simpa [World.setCell] using this
        · exact (D4.setCell (by simp) _).setCell (by simp) _
    obtain ⟨f0, f1, f2, _⟩ := id F4
    obtain ⟨g', rfl, hl, hg', I4, V4⟩ := F4.row (hi := wc.heap.size) D4 hn
    have hgg := hgg g' rfl hn
    have nb3 := nb3 g' rfl hn
    have zR := R4.lt
    have hgHI : g' < wc.heap.size := hg'
    obtain ⟨x0, x1⟩ := G4.two
    generalize hHI : wc.heap.size = HI at *
    clear F4 hn
    unfold maxLen at f2
    go_wp2_with fail
    go_loopw [16] (fun i wr => ∃ k : Nat, i = .int .i64 (k : Int) ∧ k ≤ ds.length ∧ Below w.heap.size w wr ∧ Bk wr g #[.slice (some ⟨g', 0, none⟩) ds.length c1, .slice B1 ls.length c2] 25 ∧ Bk wr (w.heap.size + 1) #[.slice none 0 0, .slice none 0 0] 25 ∧ SlAt wr.heap.size wr 4 IsLk (.slice B1 ls.length c2) ls ∧ IsB wr g' ∧ DvRow w.heap.size HI g' wr ds ∧ g' < wr.heap.size ∧ HI ≤ wr.heap.size) (fun i _ => ds.length - (intOf i).toNat)
    case atStart => exact ⟨0, rfl, by omega, D4, G4, R4, by rw [hHI]; exact K4, I4, V4, by omega, by omega⟩
    case round =>
      clear D4 G4 R4 K4 I4 V4 x0 x1 hHI
      obtain ⟨k, rfl, hk, D1, G1, R1, K1, I1, V1, zg1, zh1⟩ := hrel
      obtain ⟨x0, x1⟩ := G1.two
      by_cases hlt : k < ds.length
      rotate_left
      · obtain ⟨r0, r1⟩ := R1.two
        have rf0 := R1.fz 0
        have rf1 := R1.fz 1
        go_wp2_with fail
        refine bodyPost_ret (v := .agg #[.slice (some ⟨g', 0, none⟩) ds.length c1, .slice B1 ls.length c2]) (by simp [results, Try.results17, go_sem, r0, r1]) rfl ⟨_, c1, B1, c2, rfl, ?_, ?_, ?_⟩
        · have := ((V1.other (k := w.heap.size + 1) (j := 0) (u := .slice (some ⟨g', 0, none⟩) ds.length c1) (by omega) (by omega) (by omega)).other (k := w.heap.size + 1) (j := 1) (u := .slice B1 ls.length c2) (by omega) (by omega) (by omega)).devs (cap := c1) (by simpa [World.setCell] using zg1) f1 (by unfold maxLen; omega)
          exact this
        · have := (K1.setB (k := w.heap.size + 1) (j := 0) (u := .slice (some ⟨g', 0, none⟩) ds.length c1) nb2).setB (k := w.heap.size + 1) (j := 1) (u := .slice B1 ls.length c2) nb2
          unfold Links
          simpa [World.setCell] using this
        · exact (D1.setCell (by simp) _).setCell (by simp) _
      obtain ⟨d, hxk⟩ : ∃ d, ds[k]? = some d := ⟨_, List.getElem?_eq_getElem hlt⟩
      have HX : Hid (ds[k]? = some d) := hxk
      have k1 : (0 : Int) ≤ (k : Int) := by omega
      have k2 : (k : Int) < (ds.length : Int) := by omega
      clear hxk
      obtain ⟨vb1, vr1, vt1, ⟨c0, c1', c2', c3, c4, c5, c6⟩, ⟨s1, s2, s3⟩, _, _, _⟩ := V1 k d HX.out
      obtain ⟨Ab, cb, rfl, _⟩ := id s1
      obtain ⟨Ar, cr, rfl, _⟩ := id s2
      obtain ⟨At, ct, rfl, _⟩ := id s3
      have CC : Hid (Calls Try.prog 30 #[.slice Ab d.backs.length cb] _ _) := copy_ints _ s1 (hS.out.backs d (List.mem_of_getElem? HX.out))
      have HL1 : Hid (d.backs.length = d.backs.length) := rfl
      clear s1 s2 s3
      go_wp2_with fail
      refine CC.out.mono ?_
      rintro e w20 ⟨A2, q2, rfl, S2, Z2, hb2⟩
      have yy2 := hb2.size
      have D20 := chnN hb2 D1
      have G20 := G1.keep hb2
      have R20 := R1.keep hb2
      have K20 := SlAt.mono (SlAt.below K1 hb2 (fun _ _ _ h => h)) hb2.size (fun _ _ _ h => h)
      have I20 := I1.below hb2
      have V20 := V1.below hb2
      have zg2 : g' < w20.heap.size := by omega
      have zh2 : HI ≤ w20.heap.size := by omega
      have V2 := V20.set4 HX.out S2 (Z2 _ _ zh1) (by omega) hgHI
      have D2 := D20.setCell (p := ⟨g', k * 7 + 4, none⟩) (by simp; omega) (.slice A2 d.backs.length q2)
      have G2 := G20.setO (b := g') (j := k * 7 + 4) (by omega) (.slice A2 d.backs.length q2)
      have R2 := R20.setO (b := g') (j := k * 7 + 4) (by omega) (.slice A2 d.backs.length q2)
      have K2 := K20.setB (k := g') (j := k * 7 + 4) (u := .slice A2 d.backs.length q2) nb3
      have I2 := I20.set (k := g') (j := k * 7 + 4) (u := .slice A2 d.backs.length q2)
      have fz2 := I20.fz (k * 7 + 4)
      obtain ⟨_, _, _, ⟨_, _, _, _, e4, e5, e6⟩, _⟩ := V20 k d HX.out
      have ee2 : ∃ v, w20.cell? ⟨g', k * 7 + 4, none⟩ = some v := ⟨_, e4⟩
      obtain ⟨ev2, ec2⟩ := ee2
      have sz2 : (w20.setCell ⟨g', k * 7 + 4, none⟩ (.slice A2 d.backs.length q2)).heap.size = w20.heap.size := by simp [World.setCell]
      rw [sz2.symm] at K2 zg2 zh2
      clear V1 D1 G1 R1 K1 I1 c0 c1' c2' c3 c4 c5 c6 e4 e5 e6 CC S2 Z2 hb2 V20 D20 G20 R20 K20 I20 HL1 zg1 zh1 yy2
      go_upto_region 7 with fail
      generalize hW2 : w20.setCell ⟨g', k * 7 + 4, none⟩ (.slice A2 d.backs.length q2) = w2 at *
      clear hW2 fz2 ec2 sz2
      obtain ⟨vb2, vr2, vt2, ⟨c0, c1', c2', c3, c4, c5, c6⟩, ⟨s1, s2, s3⟩, _, _, _⟩ := V2 k d HX.out
      obtain ⟨Ab, cb, rfl, _⟩ := id s1
      obtain ⟨Ar, cr, rfl, _⟩ := id s2
      obtain ⟨At, ct, rfl, _⟩ := id s3
      have CC : Hid (Calls Try.prog 31 #[.slice Ar d.rules.length cr] _ _) := copy_rules _ s2 (hS.out.rules d (List.mem_of_getElem? HX.out))
      have HL2 : Hid (d.rules.length = d.rules.length) := rfl
      clear s1 s2 s3
      go_wp2_with fail
      refine CC.out.mono ?_
      rintro e w30 ⟨A3, q3, rfl, S3, Z3, hb3⟩
      have yy3 := hb3.size
      have D30 := chnN hb3 D2
      have G30 := G2.keep hb3
      have R30 := R2.keep hb3
      have K30 := SlAt.mono (SlAt.below K2 hb3 (fun _ _ _ h => h)) hb3.size (fun _ _ _ h => h)
      have I30 := I2.below hb3
      have V30 := V2.below hb3
      have zg3 : g' < w30.heap.size := by omega
      have zh3 : HI ≤ w30.heap.size := by omega
      have V3 := V30.set5 HX.out S3 (Z3 _ _ zh2) (by omega) hgHI
      have D3 := D30.setCell (p := ⟨g', k * 7 + 5, none⟩) (by simp; omega) (.slice A3 d.rules.length q3)
      have G3 := G30.setO (b := g') (j := k * 7 + 5) (by omega) (.slice A3 d.rules.length q3)
      have R3 := R30.setO (b := g') (j := k * 7 + 5) (by omega) (.slice A3 d.rules.length q3)
      have K3 := K30.setB (k := g') (j := k * 7 + 5) (u := .slice A3 d.rules.length q3) nb3
      have I3 := I30.set (k := g') (j := k * 7 + 5) (u := .slice A3 d.rules.length q3)
      have fz3 := I30.fz (k * 7 + 5)
      obtain ⟨_, _, _, ⟨_, _, _, _, e4, e5, e6⟩, _⟩ := V30 k d HX.out
      have ee3 : ∃ v, w30.cell? ⟨g', k * 7 + 5, none⟩ = some v := ⟨_, e5⟩
      obtain ⟨ev3, ec3⟩ := ee3
      have sz3 : (w30.setCell ⟨g', k * 7 + 5, none⟩ (.slice A3 d.rules.length q3)).heap.size = w30.heap.size := by simp [World.setCell]
      rw [sz3.symm] at K3 zg3 zh3
      clear V2 D2 G2 R2 K2 I2 c0 c1' c2' c3 c4 c5 c6 e4 e5 e6 CC S3 Z3 hb3 V30 D30 G30 R30 K30 I30 HL2 zg2 zh2 yy3
      go_upto_region 8 with fail
      generalize hW3 : w30.setCell ⟨g', k * 7 + 5, none⟩ (.slice A3 d.rules.length q3) = w3 at *
      clear hW3 fz3 ec3 sz3
      obtain ⟨vb3, vr3, vt3, ⟨c0, c1', c2', c3, c4, c5, c6⟩, ⟨s1, s2, s3⟩, _, _, _⟩ := V3 k d HX.out
      obtain ⟨Ab, cb, rfl, _⟩ := id s1
      obtain ⟨Ar, cr, rfl, _⟩ := id s2
      obtain ⟨At, ct, rfl, _⟩ := id s3
      have CC : Hid (Calls Try.prog 32 #[.slice At d.routes.length ct] _ _) := copy_routes _ s3 (hS.out.routes d (List.mem_of_getElem? HX.out))
      have HL3 : Hid (d.routes.length = d.routes.length) := rfl
      clear s1 s2 s3
      go_wp2_with fail
      refine CC.out.mono ?_
      rintro e w40 ⟨A4, q4, rfl, S4, Z4, hb4⟩
      have yy4 := hb4.size
      have D40 := chnN hb4 D3
      have G40 := G3.keep hb4
      have R40 := R3.keep hb4
      have K40 := SlAt.mono (SlAt.below K3 hb4 (fun _ _ _ h => h)) hb4.size (fun _ _ _ h => h)
      have I40 := I3.below hb4
      have V40 := V3.below hb4
      have zg4 : g' < w40.heap.size := by omega
      have zh4 : HI ≤ w40.heap.size := by omega
      have V4 := V40.set6 HX.out S4 (Z4 _ _ zh3) (by omega) hgHI
      have D4 := D40.setCell (p := ⟨g', k * 7 + 6, none⟩) (by simp; omega) (.slice A4 d.routes.length q4)
      have G4 := G40.setO (b := g') (j := k * 7 + 6) (by omega) (.slice A4 d.routes.length q4)
      have R4 := R40.setO (b := g') (j := k * 7 + 6) (by omega) (.slice A4 d.routes.length q4)
      have K4 := K40.setB (k := g') (j := k * 7 + 6) (u := .slice A4 d.routes.length q4) nb3
      have I4 := I40.set (k := g') (j := k * 7 + 6) (u := .slice A4 d.routes.length q4)
      have fz4 := I40.fz (k * 7 + 6)
      obtain ⟨_, _, _, ⟨_, _, _, _, e4, e5, e6⟩, _⟩ := V40 k d HX.out
      have ee4 : ∃ v, w40.cell? ⟨g', k * 7 + 6, none⟩ = some v := ⟨_, e6⟩
      obtain ⟨ev4, ec4⟩ := ee4
      have sz4 : (w40.setCell ⟨g', k * 7 + 6, none⟩ (.slice A4 d.routes.length q4)).heap.size = w40.heap.size := by simp [World.setCell]
      rw [sz4.symm] at K4 zg4 zh4
      clear V3 D3 G3 R3 K3 I3 c0 c1' c2' c3 c4 c5 c6 e4 e5 e6 CC S4 Z4 hb4 V40 D40 G40 R40 K40 I40 HL3 zg3 zh3 yy4
      go_upto_region 9 with fail
      generalize hW4 : w40.setCell ⟨g', k * 7 + 6, none⟩ (.slice A4 d.routes.length q4) = w4 at *
      clear hW4 fz4 ec4 sz4
      go_wp2_with fail
      go_roundw
      case rel => exact ⟨k + 1, by go_num, by omega, D4, G4, R4, K4, I4, V4, zg4, zh4⟩
      case measure => simp [intOf]; omega
end Go.Proofs.Ythioedgnambomaa
