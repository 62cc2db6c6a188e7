/-
  Package net: Copy, the walk.
-/
import Derived.Test.YthioedgnambomaaGreatXAI
import Derived.Test.YthioedgnambomaaGreatXAC
import Derived.Maps.AppendAt
import Derived.Deep.Heap
import Derived.OneCell
import Derived.Deep.RegionHeldLaw
namespace Go.Proofs.YthioedgnambomaaGreat
open Go.RowKit Go.Maps

/-- Sizes within which a net is copied. -/
structure Small (ds : List Dv) (ls : List Lk) : Prop where
  nd : ds.length ≤ 1048576
  nl : ls.length ≤ 1048576
  backs : ∀ d ∈ ds, d.backs.length ≤ 1048576
  rules : ∀ d ∈ ds, d.rules.length ≤ 1048576
  routes : ∀ d ∈ ds, d.routes.length ≤ 1048576
/-- What a copy is. -/
def CopyOut (w : World) (ds : List Dv) (ls : List Lk) (e : Ending) (w' : World) : Prop :=
  ∃ A cap B cap', e = .returned (.agg #[.slice A ds.length cap, .slice B ls.length cap']) ∧ Devs w'.heap.size w' (.slice A ds.length cap) ds ∧ Links w'.heap.size w' (.slice B ls.length cap') ls ∧ Below w.heap.size w w'
theorem NotB.of {k : Nat} {v : Value} (h : ∀ lo hi, hi ≤ k + 1 → NotIn lo hi v) : NotB k v := (h 0 (k + 1) (Nat.le_refl _)).b (Nat.zero_le _) (Nat.lt_succ_self _)
set_option maxHeartbeats 8000000 in
set_option maxRecDepth 100000 in
theorem copy_any (A B : Option Addr) (cap cap' : Nat) (ds : List Dv) (ls : List Lk) (w : World) (hD : Hid (Devs w.heap.size w (.slice A ds.length cap) ds)) (hL : Hid (Links w.heap.size w (.slice B ls.length cap') ls)) (hS : Hid (Small ds ls)) :
    Calls Tryz.prog 30 #[.agg #[.slice A ds.length cap, .slice B ls.length cap']] w (CopyOut w ds ls) := by
  have hsz := hS.out.nd
  have CD : Hid (∀ W, Below w.heap.size w W → Calls Tryz.prog 61 #[.slice A ds.length cap] W fun e w' => ∃ A cap, e = .returned (.slice A ds.length cap) ∧ Fresh W.heap.size w' A cap w ds ∧ Below W.heap.size W w') := fun W h => clone_fresh W hD.out h hS.out.nd
  have CL : Hid (∀ W, Below w.heap.size w W → Calls Tryz.prog 62 #[.slice B ls.length cap'] W fun e w' => ∃ A cap, e = .returned (.slice A ls.length cap) ∧ SlAt w'.heap.size w' 4 IsLk (.slice A ls.length cap) ls ∧ (∀ lo hi, hi ≤ W.heap.size → NotIn lo hi (.slice A ls.length cap)) ∧ Below W.heap.size W w') := fun W h => copy_links W ((hL.out.below h).mono h.size) hS.out.nl
  have D2 := Below.alN (Below.alN (Below.refl w.heap.size w) (.cells #[.slice A ds.length cap, .slice B ls.length cap'] 25)) (.cells #[.slice none 0 0, .slice none 0 0] 25)
  have N2 := (bk_new w #[.slice A ds.length cap, .slice B ls.length cap'] 25).alloc (.cells #[.slice none 0 0, .slice none 0 0] 25)
  have R2 := bk_new' (w.alloc (.cells #[.slice A ds.length cap, .slice B ls.length cap'] 25)) #[.slice none 0 0, .slice none 0 0] 25 (w.heap.size + 1) (by simp)
  have S2 := N2.two
  have D2d := D2.drew
  have N2d := N2.drew
  have R2d := R2.drew
  have D2a := (Below.alN D2 (.cells #[.slice none 0 0, .slice none 0 0] 25)).drew
  have N2a := (N2.alloc (.cells #[.slice none 0 0, .slice none 0 0] 25)).drew
  have R2a := (R2.alloc (.cells #[.slice none 0 0, .slice none 0 0] 25)).drew
  have G2a := (bk_new' ((w.alloc (.cells #[.slice A ds.length cap, .slice B ls.length cap'] 25)).alloc (.cells #[.slice none 0 0, .slice none 0 0] 25)) #[.slice none 0 0, .slice none 0 0] 25 (w.heap.size + 1 + 1) (by simp)).drew
  clear hD hL
  obtain ⟨n0, n1⟩ := S2
  go_enter Tryz.func30, Tryz.ntmps30
  go_wp2_with fail
  go_cut [3] (fun v3 wx => ∃ g A1 c1 B1 c2, v3 = .pointer (some ⟨g, 0, none⟩) ∧ Bk wx g #[.slice A1 ds.length c1, .slice B1 ls.length c2] 25 ∧ w.heap.size + 1 < g ∧ Fresh (w.heap.size + 1 + 1) wx A1 c1 w ds ∧ (∀ g', A1 = some ⟨g', 0, none⟩ → ds.length ≠ 0 → g' ≠ g) ∧ SlAt wx.heap.size wx 4 IsLk (.slice B1 ls.length c2) ls ∧ NotB g (.slice B1 ls.length c2) ∧ NotB (w.heap.size + 1) (.slice B1 ls.length c2) ∧ (∀ g', A1 = some ⟨g', 0, none⟩ → ds.length ≠ 0 → NotB g' (.slice B1 ls.length c2)) ∧ Bk wx (w.heap.size + 1) #[.slice none 0 0, .slice none 0 0] 25 ∧ Below w.heap.size w wx)
  case first =>
    go_region_held3 (fun w' => w'.cell? ⟨w.heap.size, 0, none⟩ = some (.slice A ds.length cap) ∧ w'.cell? ⟨w.heap.size, 1, none⟩ = some (.slice B ls.length cap')) (first | exact Bk.two (by first | assumption | exact Bk.alloc (by assumption) _) | exact Bk.two ((N6.setO (by omega) _).setO (by omega) _)) (first | (go_at_call 61; refine (CD.out _ D2d).mono ?_; rintro e w5 ⟨A1, c1, rfl, F5, hb5⟩; have D5 := chnN hb5 D2d; have N5 := N2d.keep hb5; have R5 := R2d.keep hb5; have z5 := R5.lt; have F5l := F5.lo (lo' := w.heap.size + 1 + 1) (by simp)) | (go_at_call 61; refine (CD.out _ D2a).mono ?_; rintro e w5 ⟨A1, c1, rfl, F5, hb5⟩; have D5 := chnN hb5 D2a; have N5 := N2a.keep hb5; have R5 := R2a.keep hb5; have G5 := G2a.keep hb5; have z5 := G5.lt; have F5l := F5.lo (lo' := w.heap.size + 1 + 1 + 1) (by simp)) | (go_at_call 62; refine (CL.out _ D5).mono ?_; rintro e w6 ⟨B1, c2, rfl, K6, Z6, hb6⟩; have D6 := chnN hb6 D5; have N6 := N5.keep hb6; have R6 := R5.keep hb6; have F6 := F5l.below hb6; have G6 := G5.keep hb6; have gf0 := G6.fz 0; have gf1 := G6.fz 1; obtain ⟨gg0, gg1⟩ := G6.two) | (go_at_call 62; refine (CL.out _ D5).mono ?_; rintro e w6 ⟨B1, c2, rfl, K6, Z6, hb6⟩; have D6 := chnN hb6 D5; have N6 := N5.keep hb6; have R6 := R5.keep hb6; have F6 := F5l.below hb6) | (go_at_call 62; refine (CL.out _ (Below.alN D5 (.cells #[.slice none 0 0, .slice none 0 0] 25))).mono ?_; rintro e w6 ⟨B1, c2, rfl, K6, Z6, hb6⟩; have D6 := chnN hb6 (Below.alN D5 (.cells #[.slice none 0 0, .slice none 0 0] 25)); have N6 := (N5.alloc (.cells #[.slice none 0 0, .slice none 0 0] 25)).keep hb6; have R6 := (R5.alloc (.cells #[.slice none 0 0, .slice none 0 0] 25)).keep hb6; have F6 := (F5l.below ((Below.refl _ _).alloc (Nat.le_refl _) (.cells #[.slice none 0 0, .slice none 0 0] 25))).below hb6; have G6 := (bk_new w5 #[.slice none 0 0, .slice none 0 0] 25).keep hb6; have gf0 := G6.fz 0; have gf1 := G6.fz 1; obtain ⟨gg0, gg1⟩ := G6.two))
    all_goals
      go_wp2_with fail
      go_meet
      have y6 := hb6.size
      first
        | exact ⟨_, _, _, _, _, rfl, bk_new w6 _ _, (by omega), F6.below ((Below.refl _ _).alloc (Nat.le_refl _) _), (fun g' e hn => by have := F6.lt e hn; omega), SlAt.mono (SlAt.below K6 ((Below.refl _ w6).alloc (Nat.le_refl _) _) (fun _ _ _ h => h)) (by simp) (fun _ _ _ h => h), (fun b o n c e hn => by have := (Z6 0 w5.heap.size (by simp) b o n c e hn); have q := SlAt.notIn (hi := w6.heap.size + 1) K6 b o n c e hn; omega), NotB.of (fun lo hi h => Z6 lo hi (by omega)), (fun g' e hn => NotB.of (fun lo hi h => Z6 lo hi (by have := F5l.lt e hn; omega))), R6.alloc _, Below.alN D6 _⟩
        | ((try simp only [World.size_alloc] at y6 Z6)
           exact ⟨_, _, _, _, _, rfl, (by have := (G6.setS (j := 0) (.slice A1 ds.length c1)).setS (j := 1) (.slice B1 ls.length c2); simpa using this), (by omega), ((F6.set (fun g' e hn => by have := F5l.lt e hn; omega)).set (fun g' e hn => by have := F5l.lt e hn; omega)).lo (by omega), (fun g' e hn => by have := F5l.lt e hn; omega), (by have := (K6.setB (k := w.heap.size + 1 + 1) (j := 0) (u := .slice A1 ds.length c1) (NotB.of (fun lo hi h => Z6 lo hi (by omega)))).setB (k := w.heap.size + 1 + 1) (j := 1) (u := .slice B1 ls.length c2) (NotB.of (fun lo hi h => Z6 lo hi (by omega))); simpa [World.setCell] using this), NotB.of (fun lo hi h => Z6 lo hi (by omega)), NotB.of (fun lo hi h => Z6 lo hi (by omega)), (fun g' e hn => NotB.of (fun lo hi h => Z6 lo hi (by have := F5l.lt e hn; omega))), (R6.setO (by omega) _).setO (by omega) _, (D6.setCell (by simp; omega) _).setCell (by simp; omega) _⟩)
        | ((try simp only [World.size_alloc] at y6 Z6)
           exact ⟨_, _, _, _, _, rfl, (by have := (G6.setS (j := 0) (.slice A1 ds.length c1)).setS (j := 1) (.slice B1 ls.length c2); simpa using this), (by omega), ((F6.set (fun g' e hn => by have := F5l.lt e hn; omega)).set (fun g' e hn => by have := F5l.lt e hn; omega)).lo (by omega), (fun g' e hn => by have := F5l.lt e hn; omega), (by have := (K6.setB (k := w5.heap.size) (j := 0) (u := .slice A1 ds.length c1) (NotB.of (fun lo hi h => Z6 lo hi (by omega)))).setB (k := w5.heap.size) (j := 1) (u := .slice B1 ls.length c2) (NotB.of (fun lo hi h => Z6 lo hi (by omega))); simpa [World.setCell] using this), NotB.of (fun lo hi h => Z6 lo hi (by omega)), NotB.of (fun lo hi h => Z6 lo hi (by omega)), (fun g' e hn => NotB.of (fun lo hi h => Z6 lo hi (by have := F5l.lt e hn; omega))), (R6.setO (by omega) _).setO (by omega) _, (D6.setCell (by simp; omega) _).setCell (by simp; omega) _⟩)
  case rest =>
    clear D2 N2 R2 D2d N2d R2d D2a N2a R2a G2a n0 n1 CD CL
    obtain ⟨g, A1, c1, B1, c2, rfl, G4, zg, F4, hgg, K4, nb1, nb2, nb3, R4, D4⟩ := hcut
    by_cases hn : ds.length = 0
    · have hds : ds = [] := List.length_eq_zero_iff.1 hn
      obtain ⟨f0, f1, f2, _⟩ := F4
      subst hds
      clear hgg nb3 hn
      simp only [List.length_nil] at *
      obtain ⟨x0, x1⟩ := G4.two
      go_wp2_with fail
      go_loopw [16] (fun i wr => i = .int .i64 0 ∧ Below w.heap.size w wr ∧ Bk wr g #[.slice A1 0 c1, .slice B1 ls.length c2] 25 ∧ Bk wr (w.heap.size + 1) #[.slice none 0 0, .slice none 0 0] 25 ∧ SlAt wr.heap.size wr 4 IsLk (.slice B1 ls.length c2) ls) (fun i _ => 0)
      case atStart => exact ⟨rfl, D4, G4, R4, K4⟩
      case round =>
        clear D4 G4 R4 K4 x0 x1
        obtain ⟨rfl, D4, G4, R4, K4⟩ := hrel
        obtain ⟨x0, x1⟩ := G4.two
        obtain ⟨r0, r1⟩ := R4.two
        have rf0 := R4.fz 0
        have rf1 := R4.fz 1
        go_wp2_with fail
        refine bodyPost_ret (v := .agg #[.slice A1 0 c1, .slice B1 ls.length c2]) (by simp [results, Tryz.results30, go_sem, r0, r1]) rfl ⟨A1, c1, B1, c2, rfl, ⟨A1, c1, rfl, f0, f1, f2, fun h => absurd rfl h⟩, ?_, ?_⟩
        · have := (K4.setB (k := w.heap.size + 1) (j := 0) (u := .slice A1 0 c1) nb2).setB (k := w.heap.size + 1) (j := 1) (u := .slice B1 ls.length c2) nb2
          unfold Links
          simpa [World.setCell] using this
        · exact (D4.setCell (by simp) _).setCell (by simp) _
    obtain ⟨f0, f1, f2, _⟩ := id F4
    obtain ⟨g', rfl, hl, hg', I4, V4⟩ := F4.row (hi := wc.heap.size) D4 hn
    have hgg := hgg g' rfl hn
    have nb3 := nb3 g' rfl hn
    have zR := R4.lt
    have hgHI : g' < wc.heap.size := hg'
    obtain ⟨x0, x1⟩ := G4.two
    generalize hHI : wc.heap.size = HI at *
    clear F4 hn
    unfold maxLen at f2
    go_wp2_with fail
    go_loopw [16] (fun i wr => ∃ k : Nat, i = .int .i64 (k : Int) ∧ k ≤ ds.length ∧ Below w.heap.size w wr ∧ Bk wr g #[.slice (some ⟨g', 0, none⟩) ds.length c1, .slice B1 ls.length c2] 25 ∧ Bk wr (w.heap.size + 1) #[.slice none 0 0, .slice none 0 0] 25 ∧ SlAt wr.heap.size wr 4 IsLk (.slice B1 ls.length c2) ls ∧ IsB wr g' ∧ DvRow w.heap.size HI g' wr ds ∧ g' < wr.heap.size ∧ HI ≤ wr.heap.size) (fun i _ => ds.length - (intOf i).toNat)
    case atStart => exact ⟨0, rfl, by omega, D4, G4, R4, by rw [hHI]; exact K4, I4, V4, by omega, by omega⟩
    case round =>
      clear D4 G4 R4 K4 I4 V4 x0 x1 hHI
      obtain ⟨k, rfl, hk, D1, G1, R1, K1, I1, V1, zg1, zh1⟩ := hrel
      obtain ⟨x0, x1⟩ := G1.two
      by_cases hlt : k < ds.length
      rotate_left
      · obtain ⟨r0, r1⟩ := R1.two
        have rf0 := R1.fz 0
        have rf1 := R1.fz 1
        go_wp2_with fail
        refine bodyPost_ret (v := .agg #[.slice (some ⟨g', 0, none⟩) ds.length c1, .slice B1 ls.length c2]) (by simp [results, Tryz.results30, go_sem, r0, r1]) rfl ⟨_, c1, B1, c2, rfl, ?_, ?_, ?_⟩
        · have := ((V1.other (k := w.heap.size + 1) (j := 0) (u := .slice (some ⟨g', 0, none⟩) ds.length c1) (by omega) (by omega) (by omega)).other (k := w.heap.size + 1) (j := 1) (u := .slice B1 ls.length c2) (by omega) (by omega) (by omega)).devs (cap := c1) (by simpa [World.setCell] using zg1) f1 (by unfold maxLen; omega)
          exact this
        · have := (K1.setB (k := w.heap.size + 1) (j := 0) (u := .slice (some ⟨g', 0, none⟩) ds.length c1) nb2).setB (k := w.heap.size + 1) (j := 1) (u := .slice B1 ls.length c2) nb2
          unfold Links
          simpa [World.setCell] using this
        · exact (D1.setCell (by simp) _).setCell (by simp) _
      obtain ⟨d, hxk⟩ : ∃ d, ds[k]? = some d := ⟨_, List.getElem?_eq_getElem hlt⟩
      have HX : Hid (ds[k]? = some d) := hxk
      have k1 : (0 : Int) ≤ (k : Int) := by omega
      have k2 : (k : Int) < (ds.length : Int) := by omega
      clear hxk
      obtain ⟨vb1, vr1, vt1, ⟨c0, c1', c2', c3, c4, c5, c6⟩, ⟨s1, s2, s3⟩, _, _, _⟩ := V1 k d HX.out
      obtain ⟨Ab, cb, rfl, _⟩ := id s1
      obtain ⟨Ar, cr, rfl, _⟩ := id s2
      obtain ⟨At, ct, rfl, _⟩ := id s3
      have CC : Hid (Calls Tryz.prog 63 #[.slice Ab d.backs.length cb] _ _) := copy_ints _ s1 (hS.out.backs d (List.mem_of_getElem? HX.out))
      have HL1 : Hid (d.backs.length = d.backs.length) := rfl
      clear s1 s2 s3
      go_wp2_with fail
      refine CC.out.mono ?_
      rintro e w20 ⟨A2, q2, rfl, S2, Z2, hb2⟩
      have yy2 := hb2.size
      have D20 := chnN hb2 D1
      have G20 := G1.keep hb2
      have R20 := R1.keep hb2
      have K20 := SlAt.mono (SlAt.below K1 hb2 (fun _ _ _ h => h)) hb2.size (fun _ _ _ h => h)
      have I20 := I1.below hb2
      have V20 := V1.below hb2
      have zg2 : g' < w20.heap.size := by omega
      have zh2 : HI ≤ w20.heap.size := by omega
      have V2 := V20.set4 HX.out S2 (Z2 _ _ zh1) (by omega) hgHI
      have D2 := D20.setCell (p := ⟨g', k * 7 + 4, none⟩) (by simp; omega) (.slice A2 d.backs.length q2)
      have G2 := G20.setO (b := g') (j := k * 7 + 4) (by omega) (.slice A2 d.backs.length q2)
      have R2 := R20.setO (b := g') (j := k * 7 + 4) (by omega) (.slice A2 d.backs.length q2)
      have K2 := K20.setB (k := g') (j := k * 7 + 4) (u := .slice A2 d.backs.length q2) nb3
      have I2 := I20.set (k := g') (j := k * 7 + 4) (u := .slice A2 d.backs.length q2)
      have fz2 := I20.fz (k * 7 + 4)
      obtain ⟨_, _, _, ⟨_, _, _, _, e4, e5, e6⟩, _⟩ := V20 k d HX.out
      have ee2 : ∃ v, w20.cell? ⟨g', k * 7 + 4, none⟩ = some v := ⟨_, e4⟩
      obtain ⟨ev2, ec2⟩ := ee2
      have sz2 : (w20.setCell ⟨g', k * 7 + 4, none⟩ (.slice A2 d.backs.length q2)).heap.size = w20.heap.size := by simp [World.setCell]
      rw [sz2.symm] at K2 zg2 zh2
      clear V1 D1 G1 R1 K1 I1 c0 c1' c2' c3 c4 c5 c6 e4 e5 e6 CC S2 Z2 hb2 V20 D20 G20 R20 K20 I20 HL1 zg1 zh1 yy2
      go_upto_region 7 with fail
      generalize hW2 : w20.setCell ⟨g', k * 7 + 4, none⟩ (.slice A2 d.backs.length q2) = w2 at *
      clear hW2 fz2 ec2 sz2
      obtain ⟨vb2, vr2, vt2, ⟨c0, c1', c2', c3, c4, c5, c6⟩, ⟨s1, s2, s3⟩, _, _, _⟩ := V2 k d HX.out
      obtain ⟨Ab, cb, rfl, _⟩ := id s1
      obtain ⟨Ar, cr, rfl, _⟩ := id s2
      obtain ⟨At, ct, rfl, _⟩ := id s3
      have CC : Hid (Calls Tryz.prog 64 #[.slice Ar d.rules.length cr] _ _) := copy_rules _ s2 (hS.out.rules d (List.mem_of_getElem? HX.out))
      have HL2 : Hid (d.rules.length = d.rules.length) := rfl
      clear s1 s2 s3
      go_wp2_with fail
      refine CC.out.mono ?_
      rintro e w30 ⟨A3, q3, rfl, S3, Z3, hb3⟩
      have yy3 := hb3.size
      have D30 := chnN hb3 D2
      have G30 := G2.keep hb3
      have R30 := R2.keep hb3
      have K30 := SlAt.mono (SlAt.below K2 hb3 (fun _ _ _ h => h)) hb3.size (fun _ _ _ h => h)
      have I30 := I2.below hb3
      have V30 := V2.below hb3
      have zg3 : g' < w30.heap.size := by omega
      have zh3 : HI ≤ w30.heap.size := by omega
      have V3 := V30.set5 HX.out S3 (Z3 _ _ zh2) (by omega) hgHI
      have D3 := D30.setCell (p := ⟨g', k * 7 + 5, none⟩) (by simp; omega) (.slice A3 d.rules.length q3)
      have G3 := G30.setO (b := g') (j := k * 7 + 5) (by omega) (.slice A3 d.rules.length q3)
      have R3 := R30.setO (b := g') (j := k * 7 + 5) (by omega) (.slice A3 d.rules.length q3)
      have K3 := K30.setB (k := g') (j := k * 7 + 5) (u := .slice A3 d.rules.length q3) nb3
      have I3 := I30.set (k := g') (j := k * 7 + 5) (u := .slice A3 d.rules.length q3)
      have fz3 := I30.fz (k * 7 + 5)
      obtain ⟨_, _, _, ⟨_, _, _, _, e4, e5, e6⟩, _⟩ := V30 k d HX.out
      have ee3 : ∃ v, w30.cell? ⟨g', k * 7 + 5, none⟩ = some v := ⟨_, e5⟩
      obtain ⟨ev3, ec3⟩ := ee3
      have sz3 : (w30.setCell ⟨g', k * 7 + 5, none⟩ (.slice A3 d.rules.length q3)).heap.size = w30.heap.size := by simp [World.setCell]
      rw [sz3.symm] at K3 zg3 zh3
      clear V2 D2 G2 R2 K2 I2 c0 c1' c2' c3 c4 c5 c6 e4 e5 e6 CC S3 Z3 hb3 V30 D30 G30 R30 K30 I30 HL2 zg2 zh2 yy3
      go_upto_region 8 with fail
      generalize hW3 : w30.setCell ⟨g', k * 7 + 5, none⟩ (.slice A3 d.rules.length q3) = w3 at *
      clear hW3 fz3 ec3 sz3
      obtain ⟨vb3, vr3, vt3, ⟨c0, c1', c2', c3, c4, c5, c6⟩, ⟨s1, s2, s3⟩, _, _, _⟩ := V3 k d HX.out
      obtain ⟨Ab, cb, rfl, _⟩ := id s1
      obtain ⟨Ar, cr, rfl, _⟩ := id s2
      obtain ⟨At, ct, rfl, _⟩ := id s3
      have CC : Hid (Calls Tryz.prog 65 #[.slice At d.routes.length ct] _ _) := copy_routes _ s3 (hS.out.routes d (List.mem_of_getElem? HX.out))
      have HL3 : Hid (d.routes.length = d.routes.length) := rfl
      clear s1 s2 s3
      go_wp2_with fail
      refine CC.out.mono ?_
      rintro e w40 ⟨A4, q4, rfl, S4, Z4, hb4⟩
      have yy4 := hb4.size
      have D40 := chnN hb4 D3
      have G40 := G3.keep hb4
      have R40 := R3.keep hb4
      have K40 := SlAt.mono (SlAt.below K3 hb4 (fun _ _ _ h => h)) hb4.size (fun _ _ _ h => h)
      have I40 := I3.below hb4
      have V40 := V3.below hb4
      have zg4 : g' < w40.heap.size := by omega
      have zh4 : HI ≤ w40.heap.size := by omega
      have V4 := V40.set6 HX.out S4 (Z4 _ _ zh3) (by omega) hgHI
      have D4 := D40.setCell (p := ⟨g', k * 7 + 6, none⟩) (by simp; omega) (.slice A4 d.routes.length q4)
      have G4 := G40.setO (b := g') (j := k * 7 + 6) (by omega) (.slice A4 d.routes.length q4)
      have R4 := R40.setO (b := g') (j := k * 7 + 6) (by omega) (.slice A4 d.routes.length q4)
      have K4 := K40.setB (k := g') (j := k * 7 + 6) (u := .slice A4 d.routes.length q4) nb3
      have I4 := I40.set (k := g') (j := k * 7 + 6) (u := .slice A4 d.routes.length q4)
      have fz4 := I40.fz (k * 7 + 6)
      obtain ⟨_, _, _, ⟨_, _, _, _, e4, e5, e6⟩, _⟩ := V40 k d HX.out
      have ee4 : ∃ v, w40.cell? ⟨g', k * 7 + 6, none⟩ = some v := ⟨_, e6⟩
      obtain ⟨ev4, ec4⟩ := ee4
      have sz4 : (w40.setCell ⟨g', k * 7 + 6, none⟩ (.slice A4 d.routes.length q4)).heap.size = w40.heap.size := by simp [World.setCell]
      rw [sz4.symm] at K4 zg4 zh4
      clear V3 D3 G3 R3 K3 I3 c0 c1' c2' c3 c4 c5 c6 e4 e5 e6 CC S4 Z4 hb4 V40 D40 G40 R40 K40 I40 HL3 zg3 zh3 yy4
      go_upto_region 9 with fail
      generalize hW4 : w40.setCell ⟨g', k * 7 + 6, none⟩ (.slice A4 d.routes.length q4) = w4 at *
      clear hW4 fz4 ec4 sz4
      go_wp2_with fail
      go_roundw
      case rel => exact ⟨k + 1, by go_num, by omega, D4, G4, R4, K4, I4, V4, zg4, zh4⟩
      case measure => simp [intOf]; omega
end Go.Proofs.YthioedgnambomaaGreat



namespace Go.Proofs.YthioedgnambomaaGreat
open Go.RowKit Go.Maps

/-! ### what Check asks of devices -/
theorem devsFrom_all {ds : List Dv} : ∀ (m k : Nat), ds.length - k ≤ m → devsFrom ds k = 0 → ∀ j d, k ≤ j → ds[j]? = some d → devWrong ds j d = 0
  | 0, k, h, _, j, d, hj, hd => by
    have := (List.getElem?_eq_some_iff.1 hd).1
    omega
  | m + 1, k, h, h0, j, d, hj, hd => by
    have hjl := (List.getElem?_eq_some_iff.1 hd).1
    have hk : k < ds.length := by omega
    rw [devsFrom_at (List.getElem?_eq_getElem hk)] at h0
    split at h0
    · rename_i hw
      by_cases e : j = k
      · subst e
        rw [List.getElem?_eq_getElem hk, Option.some.injEq] at hd
        rw [← hd]
        exact hw
      · exact devsFrom_all m (k + 1) (by omega) h0 j d (by omega) hd
    · rename_i hw
      exact absurd h0 hw
theorem netV_devs {ds : List Dv} {ls : List Lk} (h : netV ds ls = 0) : ∀ d ∈ ds, devC d = 0 := by
  intro d hd
  obtain ⟨k, hk, e⟩ := List.mem_iff_getElem.1 hd
  unfold netV at h
  split at h
  · simp at h
  · split at h
    · rename_i hz
      have := devsFrom_all ds.length 0 (by omega) hz k d (Nat.zero_le _) (by rw [List.getElem?_eq_getElem hk, e])
      unfold devWrong at this
      split at this
      · split at this
        · simp at this
        · exact this
      · simp at this
    · rename_i hz
      exact absurd h hz
theorem devC_sizes {d : Dv} (h : devC d = 0) : d.backs.length ≤ 3 ∧ d.rules.length ≤ 8 ∧ d.routes.length ≤ 8 ∧ i64ok d.addr := by
  unfold devC devV at h
  split at h
  · simp at h
  split at h
  · simp at h
  rename_i h1 h2
  split at h
  · simp at h
  rename_i h3
  split at h
  · simp at h
  split at h
  · simp at h
  split at h
  · simp at h
  split at h
  · simp at h
  rename_i h8
  have hr : d.routes.length ≤ 8 := by
    unfold checkV at h
    split at h
    · simp at h
    · rename_i h9
      simpa using h9
  refine ⟨by omega, by omega, hr, ?_⟩
  have ha : (hasAddr d.kind = true ∧ 0 ≤ d.addr ∧ d.addr ≤ 15) ∨ d.addr = 0 := by
    cases hk : hasAddr d.kind
    · rw [hk] at h2
      simp at h2
      exact .inr h2.1
    · rw [hk] at h2
      simp at h2
      exact .inl ⟨rfl, by omega, by omega⟩
  rcases ha with ⟨_, a, b⟩ | a
  · exact i64ok_of (by omega) (by omega)
  · exact i64ok_of (by omega) (by omega)
theorem small_of {ds : List Dv} {ls : List Lk} (h : netV ds ls = 0) : Small ds ls := by
  obtain ⟨h1, h2, _⟩ := netV_links h
  exact ⟨by omega, by omega, fun d hd => by have := devC_sizes (netV_devs h d hd); omega, fun d hd => by have := devC_sizes (netV_devs h d hd); omega, fun d hd => by have := devC_sizes (netV_devs h d hd); omega⟩
theorem addrs_of {ds : List Dv} {ls : List Lk} (h : netV ds ls = 0) : AddrsOk ds := fun d hd => (devC_sizes (netV_devs h d hd)).2.2.2
/-- Nothing is known. -/
def noM : Mnd := ⟨fun _ => none, fun _ => none, fun _ => none⟩
/-- What New tells. -/
def NewOut (w : World) (ds : List Dv) (ls : List Lk) (e : Ending) (w' : World) : Prop :=
  Below w.heap.size w w' ∧ ((netV ds ls ≠ 0 ∧ e = .returned (.tuple #[.pointer none, .int .i64 (netV ds ls)])) ∨
    (netV ds ls = 0 ∧ ∃ m : Mp, e = .returned (.tuple #[.pointer (some ⟨m.B, m.z, none⟩), .int .i64 0]) ∧ MemAt w' m ds ls 0 noM ∧ w.heap.size ≤ m.f ∧ w.heap.size ≤ m.o ∧ w.heap.size ≤ m.k ∧ w.heap.size ≤ m.B ∧ m.z = 0 ∧ m.pre = [] ∧ m.post = []))
theorem MapAt.alloc {k e : TypeId} {α β : Type} {E : KeyEnc k α} {V : ElEnc e β} {w : World} {b n : Nat} {f : α → Option β} (h : MapAt E V w b n f) (o : Obj) : MapAt E V (w.alloc o) b n f := h.same (Below.heap_alloc w o b h.lt)
theorem mapAt_made' {k e : TypeId} {α β : Type} (E : KeyEnc k α) (V : ElEnc e β) (w : World) (b : Nat) (h : b = w.heap.size) : MapAt E V (w.alloc (.map #[] 0)) b 0 (fun _ => none) := by
  subst h
  exact mapAt_made E V w
theorem new_mem {w : World} {A B : Option Addr} {cap cap' : Nat} {ds : List Dv} {ls : List Lk} (hD : Devs w.heap.size w (.slice A ds.length cap) ds) (hL : Links w.heap.size w (.slice B ls.length cap') ls) :
    MemAt ((((w.alloc (.map #[] 0)).alloc (.map #[] 0)).alloc (.map #[] 0)).alloc (.cells #[.slice A ds.length cap, .slice B ls.length cap', .map (some w.heap.size), .map (some (w.heap.size + 1)), .map (some (w.heap.size + 1 + 1))] 79)) ⟨0, [], [], 79, w.heap.size + 1 + 1 + 1, w.heap.size, w.heap.size + 1, w.heap.size + 1 + 1, A, cap, B, cap'⟩ ds ls 0 noM := by
  have hb := Below.alN (Below.alN (Below.alN (Below.alN (Below.refl w.heap.size w) (.map #[] 0)) (.map #[] 0)) (.map #[] 0)) (.cells #[.slice A ds.length cap, .slice B ls.length cap', .map (some w.heap.size), .map (some (w.heap.size + 1)), .map (some (w.heap.size + 1 + 1))] 79)
  refine ⟨⟨bk_new' _ _ _ _ (by simp), rfl⟩, (hD.below hb).mono hb.size, (hL.below hb).mono hb.size, (((mapAt_made' pofE unitV w _ rfl).alloc _).alloc _).alloc _, ((mapAt_made' prtE endV _ _ (by simp)).alloc _).alloc _, (mapAt_made' pofE intV _ _ (by simp)).alloc _, ?_, ?_, ?_⟩
  · show w.heap.size ≠ w.heap.size + 1
    omega
  · show w.heap.size ≠ w.heap.size + 1 + 1
    omega
  · show w.heap.size + 1 ≠ w.heap.size + 1 + 1
    omega
set_option maxHeartbeats 4000000 in
set_option maxRecDepth 100000 in
/-- New. -/
theorem new_any (A B : Option Addr) (cap cap' : Nat) (ds : List Dv) (ls : List Lk) (w : World) (hD : Hid (Devs w.heap.size w (.slice A ds.length cap) ds)) (hL : Hid (Links w.heap.size w (.slice B ls.length cap') ls)) :
    Calls Tryz.prog 18 #[.agg #[.slice A ds.length cap, .slice B ls.length cap']] w (NewOut w ds ls) := by
  have CK : Hid (∀ W, Below w.heap.size w W → Calls Tryz.prog 13 #[.agg #[.slice A ds.length cap, .slice B ls.length cap']] W fun e w' => e = .returned (.int .i64 (netV ds ls)) ∧ Below W.heap.size W w') := fun W h => net_any _ _ ds ls W ((hD.out.below h).mono h.size) ((hL.out.below h).mono h.size)
  have CP : Hid (netV ds ls = 0 → ∀ W, Below w.heap.size w W → Calls Tryz.prog 30 #[.agg #[.slice A ds.length cap, .slice B ls.length cap']] W (CopyOut W ds ls)) := fun hz W h => copy_any A B cap cap' ds ls W ((hD.out.below h).mono h.size) ((hL.out.below h).mono h.size) (small_of hz)
  have D0 := Below.alN (Below.refl w.heap.size w) (.cells #[.slice A ds.length cap, .slice B ls.length cap'] 25)
  have N0 := bk_new w #[.slice A ds.length cap, .slice B ls.length cap'] 25
  clear hD hL
  go_enter Tryz.func18, Tryz.ntmps18
  go_wp2_with fail
  refine (CK.out _ D0).mono ?_
  rintro e w1 ⟨rfl, hb1⟩
  have D1 := chnN hb1 D0
  have N1 := N0.keep hb1
  clear hb1 D0 N0 CK
  obtain ⟨n0, n1⟩ := N1.two
  by_cases hz : netV ds ls = 0
  rotate_left
  · have hz1 : (netV ds ls == 0) = false := by simpa using hz
    have HZ : Hid (netV ds ls ≠ 0) := hz
    clear hz CP
    go_wp2_with fail
    go_ret2
    exact ⟨D1, .inl ⟨HZ.out, rfl⟩⟩
  have CP2 : Hid _ := CP.out hz
  have HZ : Hid (netV ds ls = 0) := hz
  rw [hz]
  clear hz CP
  go_wp2_with fail
  refine (CP2.out _ D1).mono ?_
  rintro e w2 ⟨A2, q2, B2, q3, rfl, hD2, hL2, hb2⟩
  have D2 := chnN hb2 D1
  have z2 := D2.size
  have M5 := new_mem hD2 hL2
  have D6 := Below.alN (Below.alN (Below.alN (Below.alN D2 (.map #[] 0)) (.map #[] 0)) (.map #[] 0)) (.cells #[.slice A2 ds.length q2, .slice B2 ls.length q3, .map (some w2.heap.size), .map (some (w2.heap.size + 1)), .map (some (w2.heap.size + 1 + 1))] 79)
  clear hb2 D1 N1 n0 n1 hD2 hL2 CP2
  have hmm := @run_makeMap Tryz.prog
  go_wp2_with fail
  go_ret2
  exact ⟨D6, .inr ⟨HZ.out, _, rfl, M5, by show w.heap.size ≤ w2.heap.size; omega, by show w.heap.size ≤ w2.heap.size + 1; omega, by show w.heap.size ≤ w2.heap.size + 1 + 1; omega, by show w.heap.size ≤ w2.heap.size + 1 + 1 + 1; omega, rfl, rfl, rfl⟩⟩
end Go.Proofs.YthioedgnambomaaGreat



namespace Go.Proofs.YthioedgnambomaaGreat
open Go.RowKit Go.Maps

/-- A fact of the document's mind. -/
structure Ft where
  i : Int
  p : Pk
  n : Int
def pkB (a b : Pk) : Bool := (a.s == b.s) && (a.d == b.d) && (a.sp == b.sp) && (a.dp == b.dp)
theorem pkB_iff (a b : Pk) : pkB a b = true ↔ a = b := by
  obtain ⟨s, d, sp, dp⟩ := a
  obtain ⟨s', d', sp', dp'⟩ := b
  simp [pkB, and_assoc]
def ftB (a b : Ft) : Bool := (a.i == b.i) && pkB a.p b.p && (a.n == b.n)
theorem ftB_iff (a b : Ft) : ftB a b = true ↔ a = b := by
  obtain ⟨i, p, n⟩ := a
  obtain ⟨i', p', n'⟩ := b
  simp only [ftB, Bool.and_eq_true, beq_iff_eq, pkB_iff, Ft.mk.injEq, and_assoc]
/-- What the mind says of a device. -/
structure MR where
  err : Int
  out : Bool
  port : Int
  p : Pk
  k : Option Ft
def ofFlow (i : Int) (p : Pk) (f : Ft) : Bool := (f.i == i) && pkB f.p p
def ofPort (i k : Int) (f : Ft) : Bool := (f.i == i) && (f.n == k)
def mSend (d : Dv) (FL : List Ft) (i q : Int) (p : Pk) (c : Int) : MR :=
  if d.kind = 2 then ⟨0, outB (routesOf d) p.d && letsB (rulesOf d) p.s p.d p.sp p.dp, outN (routesOf d) p.d, p, none⟩
  else if d.kind = 3 then (if q = 0 then ⟨0, letsB (rulesOf d) p.s p.d p.sp p.dp, 1, p, some ⟨i, p, 0⟩⟩ else ⟨0, FL.any (ofFlow i (flipP p)), 0, p, none⟩)
  else if d.kind = 4 then
    (if q = 0 then
      (match FL.find? (ofFlow i ⟨p.s, 0, p.sp, 0⟩) with
      | some f => ⟨0, true, 1, ⟨d.addr, p.d, f.n, p.dp⟩, some ⟨i, ⟨p.s, 0, p.sp, 0⟩, f.n⟩⟩
      | none => if poolB d c then (if FL.any (ofPort i c) then ⟨6, false, 0, p, none⟩ else ⟨0, true, 1, ⟨d.addr, p.d, c, p.dp⟩, some ⟨i, ⟨p.s, 0, p.sp, 0⟩, c⟩⟩) else ⟨1, false, 0, p, none⟩)
    else
      (match FL.find? (ofPort i p.dp) with
      | some f => if p.d == d.addr then ⟨0, true, 0, ⟨p.s, f.p.s, p.sp, f.p.sp⟩, none⟩ else ⟨0, false, 0, p, none⟩
      | none => ⟨0, false, 0, p, none⟩))
  else if d.kind = 5 then
    (if q = 0 then
      (if p.d == d.addr then
        (match FL.find? (ofFlow i p) with
        | some f => ⟨0, true, 1, ⟨p.s, f.n, p.sp, p.dp⟩, some ⟨i, p, f.n⟩⟩
        | none => if decide (0 ≤ c) && decide (c < (d.backs.length : Int)) then ⟨0, true, 1, ⟨p.s, d.backs.getD c.toNat 0, p.sp, p.dp⟩, some ⟨i, p, d.backs.getD c.toNat 0⟩⟩ else ⟨1, false, 0, p, none⟩)
      else ⟨0, true, 1, p, none⟩)
    else ⟨0, true, 0, if FL.any (fun f => ftB f ⟨i, ⟨p.d, d.addr, p.dp, p.sp⟩, p.s⟩) then ⟨d.addr, p.d, p.sp, p.dp⟩ else p, none⟩)
  else ⟨0, false, 1 - q, p, none⟩
def addF (FL : List Ft) : Option Ft → List Ft
  | none => FL
  | some f => if FL.any (fun g => ftB g f) then FL else FL ++ [f]
structure MH where
  err : Int
  tp : Int × Int
  p : Pk
  FL : List Ft
def badM (e : Int) (FL : List Ft) : MH := ⟨e, (0, 0), zeroP, FL⟩
def mindP (ds : List Dv) (ls : List Lk) (FL : List Ft) (i q : Int) (p : Pk) (c : Int) : MH :=
  if isPl ds i q then
    (if pkOk p then
      (if (mSend (ds.getD i.toNat default) FL i q p c).err = 0 then
        (if (mSend (ds.getD i.toNat default) FL i q p c).out then
          (match peerF ls i (mSend (ds.getD i.toNat default) FL i q p c).port with
          | some t => ⟨0, t, (mSend (ds.getD i.toNat default) FL i q p c).p, addF FL (mSend (ds.getD i.toNat default) FL i q p c).k⟩
          | none => badM 7 FL)
        else badM 7 FL)
      else badM (mSend (ds.getD i.toNat default) FL i q p c).err FL)
    else badM 1 FL)
  else badM 4 FL
/-- Facts and what is known are the same. -/
structure RelM (ds : List Dv) (FL : List Ft) (M : Mnd) : Prop where
  fl : ∀ i p, kindAt ds i = 3 → ((M.fl (i, p)).isSome = true ↔ ⟨i, p, 0⟩ ∈ FL)
  ow : ∀ i k s, kindAt ds i = 4 → (M.ow (i, k) = some s ↔ ⟨i, ⟨s.1, 0, s.2, 0⟩, k⟩ ∈ FL)
  bk : ∀ i p b, kindAt ds i = 5 → (M.bk (i, p) = some b ↔ ⟨i, p, b⟩ ∈ FL)
  k3 : ∀ f ∈ FL, kindAt ds f.i = 3 → f.n = 0
  k4 : ∀ f ∈ FL, kindAt ds f.i = 4 → f.p = ⟨f.p.s, 0, f.p.sp, 0⟩ ∧ poB f.n = true
  one : ∀ i k k' s, kindAt ds i = 4 → M.ow (i, k) = some s → M.ow (i, k') = some s → k = k'
  nd : FL.Nodup
theorem rel_no (ds : List Dv) : RelM ds [] noM := ⟨(fun i p _ => by simp [noM]), (fun i k s _ => by simp [noM]), (fun i p b _ => by simp [noM]), (fun f hf => by simp at hf), (fun f hf => by simp at hf), (fun i k k' s _ h => by cases h), List.nodup_nil⟩
section
variable {ds : List Dv} {FL : List Ft} {M : Mnd}
theorem any_flow {i : Int} {p : Pk} : FL.any (ofFlow i p) = true ↔ ∃ n, (⟨i, p, n⟩ : Ft) ∈ FL := by
  rw [List.any_eq_true]
  constructor
  · rintro ⟨⟨j, q, n⟩, hf, h⟩
    simp only [ofFlow, Bool.and_eq_true, beq_iff_eq, pkB_iff] at h
    obtain ⟨rfl, rfl⟩ := h
    exact ⟨n, hf⟩
  · rintro ⟨n, hf⟩
    exact ⟨_, hf, by simp [ofFlow, pkB_iff]⟩
theorem any_port {i k : Int} : FL.any (ofPort i k) = true ↔ ∃ p, (⟨i, p, k⟩ : Ft) ∈ FL := by
  rw [List.any_eq_true]
  constructor
  · rintro ⟨⟨j, q, n⟩, hf, h⟩
    simp only [ofPort, Bool.and_eq_true, beq_iff_eq] at h
    obtain ⟨rfl, rfl⟩ := h
    exact ⟨q, hf⟩
  · rintro ⟨p, hf⟩
    exact ⟨_, hf, by simp [ofPort]⟩
theorem find_flow {i : Int} {p : Pk} {f : Ft} (h : FL.find? (ofFlow i p) = some f) : ∃ n, f = ⟨i, p, n⟩ ∧ (⟨i, p, n⟩ : Ft) ∈ FL := by
  have h1 := List.find?_some h
  have h2 := List.mem_of_find?_eq_some h
  obtain ⟨j, q, n⟩ := f
  simp only [ofFlow, Bool.and_eq_true, beq_iff_eq, pkB_iff] at h1
  obtain ⟨rfl, rfl⟩ := h1
  exact ⟨n, rfl, h2⟩
theorem find_port {i k : Int} {f : Ft} (h : FL.find? (ofPort i k) = some f) : ∃ p, f = ⟨i, p, k⟩ ∧ (⟨i, p, k⟩ : Ft) ∈ FL := by
  have h1 := List.find?_some h
  have h2 := List.mem_of_find?_eq_some h
  obtain ⟨j, q, n⟩ := f
  simp only [ofPort, Bool.and_eq_true, beq_iff_eq] at h1
  obtain ⟨rfl, rfl⟩ := h1
  exact ⟨q, rfl, h2⟩
theorem find_no {is : Ft → Bool} (h : FL.find? is = none) : FL.any is = false := by
  rw [Bool.eq_false_iff]
  intro e
  rw [List.any_eq_true] at e
  obtain ⟨f, hf, e⟩ := e
  exact absurd e (by simpa using List.find?_eq_none.1 h f hf)
end
end Go.Proofs.YthioedgnambomaaGreat



namespace Go.Proofs.YthioedgnambomaaGreat
open Go.RowKit Go.Maps

section
variable {ds : List Dv} {FL : List Ft} {M : Mnd}
theorem mem_addF {f g : Ft} : g ∈ addF FL (some f) ↔ g ∈ FL ∨ g = f := by
  show g ∈ (if FL.any (fun g => ftB g f) then FL else FL ++ [f]) ↔ _
  split
  · rename_i h
    rw [List.any_eq_true] at h
    obtain ⟨x, hx, e⟩ := h
    rw [ftB_iff] at e
    subst e
    constructor
    · exact Or.inl
    · rintro (h | rfl)
      · exact h
      · exact hx
  · simp
theorem nodup_addF {f : Ft} (h : FL.Nodup) : (addF FL (some f)).Nodup := by
  show (if FL.any (fun g => ftB g f) then FL else FL ++ [f]).Nodup
  split
  · exact h
  · rename_i hn
    rw [List.nodup_append]
    refine ⟨h, by simp, fun a ha b hb e => ?_⟩
    rw [List.mem_singleton] at hb
    subst hb
    subst e
    exact hn (List.any_eq_true.2 ⟨a, ha, (ftB_iff _ _).2 rfl⟩)
theorem rel_flow (h : RelM ds FL M) {i : Int} {p : Pk} (hk : kindAt ds i = 3) : RelM ds (addF FL (some ⟨i, p, 0⟩)) (learnP M (.flow i p)) := by
  refine ⟨fun i' p' hk' => ?_, fun i' k s hk' => ?_, fun i' q b hk' => ?_, fun f hf hk' => ?_, fun f hf hk' => ?_, h.one, nodup_addF h.nd⟩
  · show (putF M.fl (i, p) () (i', p')).isSome = true ↔ _
    rw [mem_addF]
    by_cases e : (i', p') = (i, p)
    · rw [e, putF_same]
      obtain ⟨rfl, rfl⟩ := Prod.mk.inj e
      simp
    · rw [putF_other _ _ e, h.fl i' p' hk']
      constructor
      · exact Or.inl
      · rintro (h | h)
        · exact h
        · simp only [Ft.mk.injEq] at h
          exact absurd (by rw [h.1, h.2.1]) e
  · show M.ow (i', k) = some s ↔ _
    rw [mem_addF, h.ow i' k s hk']
    constructor
    · exact Or.inl
    · rintro (h | h)
      · exact h
      · simp only [Ft.mk.injEq] at h
        rw [h.1, hk] at hk'
        exact absurd hk' (by decide)
  · show M.bk (i', q) = some b ↔ _
    rw [mem_addF, h.bk i' q b hk']
    constructor
    · exact Or.inl
    · rintro (h | h)
      · exact h
      · simp only [Ft.mk.injEq] at h
        rw [h.1, hk] at hk'
        exact absurd hk' (by decide)
  · rcases mem_addF.1 hf with hf | rfl
    · exact h.k3 f hf hk'
    · rfl
  · rcases mem_addF.1 hf with hf | rfl
    · exact h.k4 f hf hk'
    · dsimp only at hk'
      rw [hk] at hk'
      exact absurd hk' (by decide)
theorem rel_own (h : RelM ds FL M) {i k : Int} {s : Int × Int} (hk : kindAt ds i = 4) (hp : poB k = true) (hf : M.ow (i, k) = none ∨ M.ow (i, k) = some s) (ho : ∀ k', M.ow (i, k') = some s → k' = k) : RelM ds (addF FL (some ⟨i, ⟨s.1, 0, s.2, 0⟩, k⟩)) (learnP M (.own i k s)) := by
  refine ⟨fun i' p' hk' => ?_, fun i' k' s' hk' => ?_, fun i' q b hk' => ?_, fun f hf' hk' => ?_, fun f hf' hk' => ?_, fun i' k1 k2 s' hk' h1 h2 => ?_, nodup_addF h.nd⟩
  · show (M.fl (i', p')).isSome = true ↔ _
    rw [mem_addF, h.fl i' p' hk']
    constructor
    · exact Or.inl
    · rintro (h | h)
      · exact h
      · simp only [Ft.mk.injEq] at h
        rw [h.1, hk] at hk'
        exact absurd hk' (by decide)
  · show putF M.ow (i, k) s (i', k') = some s' ↔ _
    rw [mem_addF]
    by_cases e : (i', k') = (i, k)
    · rw [e, putF_same]
      obtain ⟨rfl, rfl⟩ := Prod.mk.inj e
      constructor
      · intro e
        cases e
        exact Or.inr rfl
      · rintro (h' | h')
        · have h2 := (h.ow i' k' s' hk').2 h'
          rcases hf with hf | hf
          · rw [hf] at h2
            cases h2
          · rw [hf] at h2
            exact h2
        · simp only [Ft.mk.injEq, Pk.mk.injEq, true_and, and_true] at h'
          obtain ⟨a, b⟩ := s
          obtain ⟨a', b'⟩ := s'
          simp only at h'
          rw [h'.1, h'.2]
    · rw [putF_other _ _ e, h.ow i' k' s' hk']
      constructor
      · exact Or.inl
      · rintro (h | h)
        · exact h
        · simp only [Ft.mk.injEq] at h
          exact absurd (by rw [h.1, h.2.2]) e
  · show M.bk (i', q) = some b ↔ _
    rw [mem_addF, h.bk i' q b hk']
    constructor
    · exact Or.inl
    · rintro (h | h)
      · exact h
      · simp only [Ft.mk.injEq] at h
        rw [h.1, hk] at hk'
        exact absurd hk' (by decide)
  · rcases mem_addF.1 hf' with hf' | rfl
    · exact h.k3 f hf' hk'
    · dsimp only at hk'
      rw [hk] at hk'
      exact absurd hk' (by decide)
  · rcases mem_addF.1 hf' with hf' | rfl
    · exact h.k4 f hf' hk'
    · exact ⟨rfl, hp⟩
  · have h1' : putF M.ow (i, k) s (i', k1) = some s' := h1
    have h2' : putF M.ow (i, k) s (i', k2) = some s' := h2
    by_cases e1 : (i', k1) = (i, k)
    · by_cases e2 : (i', k2) = (i, k)
      · rw [(Prod.mk.inj e1).2, (Prod.mk.inj e2).2]
      · rw [e1, putF_same] at h1'
        cases h1'
        rw [putF_other _ _ e2, (Prod.mk.inj e1).1] at h2'
        rw [ho k2 h2', (Prod.mk.inj e1).2]
    · by_cases e2 : (i', k2) = (i, k)
      · rw [e2, putF_same] at h2'
        cases h2'
        rw [putF_other _ _ e1, (Prod.mk.inj e2).1] at h1'
        rw [ho k1 h1', (Prod.mk.inj e2).2]
      · rw [putF_other _ _ e1] at h1'
        rw [putF_other _ _ e2] at h2'
        exact h.one i' k1 k2 s' hk' h1' h2'
theorem rel_back (h : RelM ds FL M) {i : Int} {p : Pk} {b : Int} (hk : kindAt ds i = 5) (hf : M.bk (i, p) = none ∨ M.bk (i, p) = some b) : RelM ds (addF FL (some ⟨i, p, b⟩)) (learnP M (.back i p b)) := by
  refine ⟨fun i' p' hk' => ?_, fun i' k' s' hk' => ?_, fun i' q b' hk' => ?_, fun f hf' hk' => ?_, fun f hf' hk' => ?_, h.one, nodup_addF h.nd⟩
  · show (M.fl (i', p')).isSome = true ↔ _
    rw [mem_addF, h.fl i' p' hk']
    constructor
    · exact Or.inl
    · rintro (h | h)
      · exact h
      · simp only [Ft.mk.injEq] at h
        rw [h.1, hk] at hk'
        exact absurd hk' (by decide)
  · show M.ow (i', k') = some s' ↔ _
    rw [mem_addF, h.ow i' k' s' hk']
    constructor
    · exact Or.inl
    · rintro (h | h)
      · exact h
      · simp only [Ft.mk.injEq] at h
        rw [h.1, hk] at hk'
        exact absurd hk' (by decide)
  · show putF M.bk (i, p) b (i', q) = some b' ↔ _
    rw [mem_addF]
    by_cases e : (i', q) = (i, p)
    · rw [e, putF_same]
      obtain ⟨rfl, rfl⟩ := Prod.mk.inj e
      constructor
      · intro e
        cases e
        exact Or.inr rfl
      · rintro (h' | h')
        · have h2 := (h.bk i' q b' hk').2 h'
          rcases hf with hf | hf
          · rw [hf] at h2
            cases h2
          · rw [hf] at h2
            exact h2
        · simp only [Ft.mk.injEq, true_and] at h'
          rw [h']
    · rw [putF_other _ _ e, h.bk i' q b' hk']
      constructor
      · exact Or.inl
      · rintro (h | h)
        · exact h
        · simp only [Ft.mk.injEq] at h
          exact absurd (by rw [h.1, h.2.1]) e
  · rcases mem_addF.1 hf' with hf' | rfl
    · exact h.k3 f hf' hk'
    · dsimp only at hk'
      rw [hk] at hk'
      exact absurd hk' (by decide)
  · rcases mem_addF.1 hf' with hf' | rfl
    · exact h.k4 f hf' hk'
    · dsimp only at hk'
      rw [hk] at hk'
      exact absurd hk' (by decide)
/-- Who has a port is found from the first port on. -/
theorem ownFrom_of (h : RelM ds FL M) {i : Int} {s : Int × Int} {k : Int} (hk : kindAt ds i = 4) (hs : M.ow (i, k) = some s) : ∃ j : Nat, ownFrom M i s 0 = some j ∧ (j : Int) = k := by
  have hf := (h.ow i k s hk).1 hs
  have hp := (h.k4 _ hf hk).2
  unfold poB at hp
  simp only [Bool.and_eq_true, decide_eq_true_eq] at hp
  obtain ⟨kk, rfl⟩ : ∃ kk : Nat, k = (kk : Int) := ⟨k.toNat, by omega⟩
  have key : ∀ m j : Nat, kk - j ≤ m → j ≤ kk → ∃ j' : Nat, ownFrom M i s j = some j' ∧ (j' : Int) = kk := by
    intro m
    induction m with
    | zero =>
      intro j h1 h2
      obtain rfl : j = kk := by omega
      rw [ownFrom, dif_pos (by omega), if_pos hs]
      exact ⟨_, rfl, rfl⟩
    | succ m ih =>
      intro j h1 h2
      rw [ownFrom, dif_pos (by omega)]
      by_cases hj : M.ow (i, (j : Int)) = some s
      · rw [if_pos hj]
        exact ⟨j, rfl, h.one i _ _ s hk hj hs⟩
      · rw [if_neg hj]
        by_cases e : j = kk
        · subst e
          exact absurd hs hj
        · exact ih (j + 1) (by omega) (by omega)
  exact key kk 0 (by omega) (by omega)
theorem ownFrom_has {i : Int} {s : Int × Int} {j : Nat} : ∀ (m k : Nat), 8 - k ≤ m → ownFrom M i s k = some j → M.ow (i, (j : Int)) = some s ∧ j < 8
  | 0, k, h, e => by
    rw [ownFrom, dif_neg (by omega)] at e
    cases e
  | m + 1, k, h, e => by
    rw [ownFrom] at e
    by_cases hk : k < 8
    · rw [dif_pos hk] at e
      by_cases ho : M.ow (i, (k : Int)) = some s
      · rw [if_pos ho] at e
        obtain rfl := Option.some.inj e
        exact ⟨ho, hk⟩
      · rw [if_neg ho] at e
        exact ownFrom_has m (k + 1) (by omega) e
    · rw [dif_neg hk] at e
      cases e
end
end Go.Proofs.YthioedgnambomaaGreat



namespace Go.Proofs.YthioedgnambomaaGreat
open Go.RowKit Go.Maps

section
variable {ds : List Dv} {FL : List Ft} {M : Mnd}
/-- What a device says, and the mind of it. -/
def SRel (ds : List Dv) (FL : List Ft) (M : Mnd) (s : SR) (m : MR) : Prop :=
  (s.err = 0 ∧ m.err = 0 ∧ m.out = true ∧ m.port = s.port ∧ m.p = s.p ∧ RelM ds (addF FL m.k) (learnP M s.l)) ∨ (s.err ≠ 0 ∧ m.err = s.err) ∨ (s.err = 7 ∧ m.err = 0 ∧ m.out = false)
theorem stay_no {m : MR} (h1 : m.err = 0) (h2 : m.out = false) : SRel ds FL M (stayR 7) m := Or.inr (Or.inr ⟨rfl, h1, h2⟩)
theorem send_rel (h : RelM ds FL M) {d : Dv} {i q : Int} {p : Pk} {c : Int} (hd : kindAt ds i = d.kind) : SRel ds FL M (sendP d M i q p c) (mSend d FL i q p c) := by
  unfold sendP mSend
  by_cases k2 : d.kind = 2
  · rw [if_pos k2, if_pos k2]
    unfold routeP
    cases ho : (outB (routesOf d) p.d && letsB (rulesOf d) p.s p.d p.sp p.dp)
    · rw [if_neg (by simp)]
      exact stay_no rfl rfl
    · rw [if_pos rfl]
      exact Or.inl ⟨rfl, rfl, rfl, rfl, rfl, h⟩
  rw [if_neg k2, if_neg k2]
  by_cases k3 : d.kind = 3
  · rw [if_pos k3, if_pos k3]
    by_cases hq : q = 0
    · rw [if_pos hq, if_pos hq]
      unfold askP
      cases ho : letsB (rulesOf d) p.s p.d p.sp p.dp
      · rw [if_neg (by simp)]
        exact stay_no rfl rfl
      · rw [if_pos rfl]
        exact Or.inl ⟨rfl, rfl, rfl, rfl, rfl, rel_flow h (by rw [hd, k3])⟩
    · rw [if_neg hq, if_neg hq]
      unfold answerP
      have e : (M.fl (i, flipP p)).isSome = FL.any (ofFlow i (flipP p)) := by
        rw [Bool.eq_iff_iff, h.fl i (flipP p) (by rw [hd, k3]), any_flow]
        constructor
        · exact fun hf => ⟨0, hf⟩
        · rintro ⟨n, hf⟩
          have := h.k3 _ hf (by rw [hd, k3])
          dsimp only at this
          rw [this] at hf
          exact hf
      rw [e]
      cases ha : FL.any (ofFlow i (flipP p))
      · rw [if_neg (by simp)]
        exact stay_no rfl rfl
      · rw [if_pos rfl]
        exact Or.inl ⟨rfl, rfl, rfl, rfl, rfl, h⟩
  rw [if_neg k3, if_neg k3]
  by_cases k4 : d.kind = 4
  · have hk : kindAt ds i = 4 := by rw [hd, k4]
    rw [if_pos k4, if_pos k4]
    by_cases hq : q = 0
    · rw [if_pos hq, if_pos hq]
      unfold hideP
      cases hf : FL.find? (ofFlow i ⟨p.s, 0, p.sp, 0⟩) with
      | some f =>
        obtain ⟨n, rfl, hm⟩ := find_flow hf
        have hs := (h.ow i n (p.s, p.sp) hk).2 hm
        obtain ⟨j, hj, rfl⟩ := ownFrom_of h hk hs
        rw [hj]
        exact Or.inl ⟨rfl, rfl, rfl, rfl, rfl, rel_own h hk (h.k4 _ hm hk).2 (Or.inr hs) (fun k' hk' => h.one i _ _ _ hk hk' hs)⟩
      | none =>
        have hno : ∀ k', M.ow (i, k') ≠ some (p.s, p.sp) := fun k' e => by
          have hm := (h.ow i k' (p.s, p.sp) hk).1 e
          have := List.find?_eq_none.1 hf _ hm
          exact this (by simp [ofFlow, pkB_iff])
        cases ho : ownFrom M i (p.s, p.sp) 0 with
        | some j => exact absurd (ownFrom_has 8 0 (by omega) ho).1 (hno _)
        | none =>
          dsimp only
          cases hpo : poolB d c
          · rw [if_neg (by simp), if_neg (by simp)]
            exact Or.inr (Or.inl ⟨(by decide : (1 : Int) ≠ 0), rfl⟩)
          · rw [if_pos rfl, if_pos rfl]
            have hpc : poB c = true := by
              unfold poolB at hpo
              simp only [Bool.and_eq_true] at hpo
              exact hpo.1
            have e : (M.ow (i, c)).isSome = FL.any (ofPort i c) := by
              rw [Bool.eq_iff_iff, any_port]
              constructor
              · intro hs
                obtain ⟨s, hs⟩ := Option.isSome_iff_exists.1 hs
                exact ⟨_, (h.ow i c s hk).1 hs⟩
              · rintro ⟨p', hm⟩
                have h4 := (h.k4 _ hm hk).1
                dsimp only at h4
                rw [h4] at hm
                rw [(h.ow i c (p'.s, p'.sp) hk).2 hm]
                rfl
            rw [e]
            cases ha : FL.any (ofPort i c)
            · rw [if_neg (by simp), if_neg (by simp)]
              rw [ha] at e
              refine Or.inl ⟨rfl, rfl, rfl, rfl, rfl, rel_own h hk hpc (Or.inl (Option.isNone_iff_eq_none.1 (by rw [← Option.not_isSome, e]; rfl))) (fun k' hk' => absurd hk' (hno k'))⟩
            · rw [if_pos rfl, if_pos rfl]
              exact Or.inr (Or.inl ⟨(by decide : (6 : Int) ≠ 0), rfl⟩)
    · rw [if_neg hq, if_neg hq]
      unfold unhideP
      cases hf : FL.find? (ofPort i p.dp) with
      | some f =>
        obtain ⟨p', rfl, hm⟩ := find_port hf
        have h4 := (h.k4 _ hm hk).1
        dsimp only at h4
        have hm' := hm
        rw [h4] at hm'
        rw [(h.ow i p.dp (p'.s, p'.sp) hk).2 hm']
        dsimp only
        cases ha : (p.d == d.addr)
        · rw [if_neg (by simp), if_neg (by simp)]
          exact stay_no rfl rfl
        · rw [if_pos rfl, if_pos rfl]
          exact Or.inl ⟨rfl, rfl, rfl, rfl, rfl, h⟩
      | none =>
        cases ho : M.ow (i, p.dp) with
        | some s =>
          have hm := (h.ow i p.dp s hk).1 ho
          exact absurd (by simp [ofPort]) (List.find?_eq_none.1 hf _ hm)
        | none => exact stay_no rfl rfl
  rw [if_neg k4, if_neg k4]
  by_cases k5 : d.kind = 5
  · have hk : kindAt ds i = 5 := by rw [hd, k5]
    rw [if_pos k5, if_pos k5]
    by_cases hq : q = 0
    · rw [if_pos hq, if_pos hq]
      unfold spreadP
      cases ha : (p.d == d.addr)
      · rw [if_neg (by simp), if_neg (by simp)]
        exact Or.inl ⟨rfl, rfl, rfl, rfl, rfl, h⟩
      · rw [if_pos rfl, if_pos rfl]
        cases hf : FL.find? (ofFlow i p) with
        | some f =>
          obtain ⟨n, rfl, hm⟩ := find_flow hf
          have hs := (h.bk i p n hk).2 hm
          rw [hs]
          exact Or.inl ⟨rfl, rfl, rfl, rfl, rfl, rel_back h hk (Or.inr hs)⟩
        | none =>
          cases ho : M.bk (i, p) with
          | some b =>
            have hm := (h.bk i p b hk).1 ho
            exact absurd (by simp [ofFlow, pkB_iff]) (List.find?_eq_none.1 hf _ hm)
          | none =>
            dsimp only
            cases hc : (decide (0 ≤ c) && decide (c < (d.backs.length : Int)))
            · rw [if_neg (by simp), if_neg (by simp)]
              exact Or.inr (Or.inl ⟨(by decide : (1 : Int) ≠ 0), rfl⟩)
            · rw [if_pos rfl, if_pos rfl]
              exact Or.inl ⟨rfl, rfl, rfl, rfl, rfl, rel_back h hk (Or.inl ho)⟩
    · rw [if_neg hq, if_neg hq]
      unfold gatherP
      refine Or.inl ⟨rfl, rfl, rfl, rfl, ?_, h⟩
      show (if _ then _ else _) = (if _ then _ else _)
      have e : (FL.any (fun f => ftB f ⟨i, ⟨p.d, d.addr, p.dp, p.sp⟩, p.s⟩) = true) ↔ M.bk (i, ⟨p.d, d.addr, p.dp, p.sp⟩) = some p.s := by
        rw [h.bk i _ _ hk, List.any_eq_true]
        constructor
        · rintro ⟨f, hf, e⟩
          rw [ftB_iff] at e
          rw [← e]
          exact hf
        · exact fun hf => ⟨_, hf, (ftB_iff _ _).2 rfl⟩
      by_cases hb : M.bk (i, ⟨p.d, d.addr, p.dp, p.sp⟩) = some p.s
      · rw [if_pos hb, if_pos (e.2 hb)]
      · rw [if_neg hb, if_neg (fun x => hb (e.1 x))]
  rw [if_neg k5, if_neg k5]
  exact stay_no rfl rfl
/-- The mind's Handle tells what the memory's does. -/
theorem mind_rel (h : RelM ds FL M) {ls : List Lk} (i q : Int) (p : Pk) (c : Int) : (mindP ds ls FL i q p c).err = (handleP ds ls M i q p c).err ∧ (mindP ds ls FL i q p c).tp = (handleP ds ls M i q p c).tp ∧ (mindP ds ls FL i q p c).p = (handleP ds ls M i q p c).p ∧ RelM ds (mindP ds ls FL i q p c).FL (handleP ds ls M i q p c).M := by
  unfold mindP handleP
  cases hpl : isPl ds i q
  · rw [if_neg (by simp), if_neg (by simp)]
    exact ⟨rfl, rfl, rfl, h⟩
  rw [if_pos rfl, if_pos rfl]
  cases hp : pkOk p
  · rw [if_neg (by simp), if_neg (by simp)]
    exact ⟨rfl, rfl, rfl, h⟩
  rw [if_pos rfl, if_pos rfl]
  have hi : i.toNat < ds.length := by
    unfold isPl at hpl
    simp only [Bool.and_eq_true, decide_eq_true_eq] at hpl
    omega
  have hd : kindAt ds i = (ds.getD i.toNat default).kind := by
    unfold kindAt
    rw [List.getD_eq_getElem?_getD, List.getElem?_eq_getElem hi]
    rfl
  rcases send_rel h hd (q := q) (p := p) (c := c) with ⟨e1, e2, e3, e4, e5, e6⟩ | ⟨e1, e2⟩ | ⟨e1, e2, e3⟩
  · rw [if_pos e2, if_pos e3, if_pos e1, e4, e5]
    cases peerF ls i (sendP (ds.getD i.toNat default) M i q p c).port with
    | some t => exact ⟨rfl, rfl, rfl, e6⟩
    | none => exact ⟨rfl, rfl, rfl, h⟩
  · rw [if_neg (by rw [e2]; exact e1), if_neg e1, e2]
    exact ⟨rfl, rfl, rfl, h⟩
  · rw [if_pos e2, e3, if_neg (by simp), if_neg (by rw [e1]; decide), e1]
    exact ⟨rfl, rfl, rfl, h⟩
end
end Go.Proofs.YthioedgnambomaaGreat



namespace Go.Proofs.YthioedgnambomaaGreat
open Go.RowKit Go.Maps

section
variable {ds : List Dv} {FL : List Ft} {M : Mnd}
theorem mem_erase_one {is : Ft → Bool} {f : Ft} : ∀ {FL : List Ft}, FL.Nodup → f ∈ FL → is f = true → (∀ g ∈ FL, is g = true → g = f) → ∀ g, g ∈ FL.eraseP is ↔ g ∈ FL ∧ g ≠ f
  | [], _, hf, _, _, g => by simp at hf
  | x :: xs, hn, hf, hi, hu, g => by
    rw [List.nodup_cons] at hn
    by_cases hx : is x = true
    · have e := hu x (by simp) hx
      subst e
      rw [List.eraseP_cons_of_pos hx]
      constructor
      · intro hg
        exact ⟨by simp [hg], fun e => hn.1 (e ▸ hg)⟩
      · rintro ⟨hg, hne⟩
        rcases List.mem_cons.1 hg with h | h
        · exact absurd h hne
        · exact h
    · rw [List.eraseP_cons_of_neg (by simpa using hx)]
      have hf' : f ∈ xs := by
        rcases List.mem_cons.1 hf with h | h
        · subst h
          exact absurd hi hx
        · exact h
      have ih := mem_erase_one hn.2 hf' hi (fun g hg => hu g (by simp [hg])) g
      rw [List.mem_cons, ih]
      constructor
      · rintro (rfl | ⟨h1, h2⟩)
        · exact ⟨by simp, fun e => hx (e ▸ hi)⟩
        · exact ⟨by simp [h1], h2⟩
      · rintro ⟨h1, h2⟩
        rcases List.mem_cons.1 h1 with h | h
        · exact Or.inl h
        · exact Or.inr ⟨h, h2⟩
theorem nodup_erase {is : Ft → Bool} (h : FL.Nodup) : (FL.eraseP is).Nodup := List.Nodup.sublist List.eraseP_sublist h
/-- Which fact is to be forgotten. -/
def ofGone (kind i : Int) (p : Pk) (port : Int) (f : Ft) : Bool := (f.i == i) && (((kind == 4) && (f.n == port)) || (!(kind == 4) && pkB f.p p))
structure MF where
  err : Int
  FL : List Ft
def mgoneP (ds : List Dv) (FL : List Ft) (i : Int) (p : Pk) (port : Int) : MF :=
  if 0 ≤ i ∧ i < (ds.length : Int) then
    (if 3 ≤ kindAt ds i ∧ kindAt ds i ≤ 5 then
      (if FL.any (ofGone (kindAt ds i) i p port) then ⟨0, FL.eraseP (ofGone (kindAt ds i) i p port)⟩ else ⟨7, FL⟩)
    else ⟨4, FL⟩)
  else ⟨4, FL⟩
theorem gone_one {is : Ft → Bool} {f : Ft} (h : f ∈ FL) (hi : is f = true) : FL.any is = true := List.any_eq_true.2 ⟨f, h, hi⟩
theorem gone_no {is : Ft → Bool} (h : ∀ f ∈ FL, is f = true → False) : FL.any is = false := by
  rw [Bool.eq_false_iff]
  intro e
  obtain ⟨f, hf, hi⟩ := List.any_eq_true.1 e
  exact h f hf hi
theorem gone_rel (h : RelM ds FL M) (i : Int) (p : Pk) (port : Int) : (mgoneP ds FL i p port).err = (forgetP ds M i p port).err ∧ RelM ds (mgoneP ds FL i p port).FL (forgetP ds M i p port).M := by
  unfold mgoneP forgetP
  by_cases hi : 0 ≤ i ∧ i < (ds.length : Int)
  rotate_left
  · rw [if_neg hi, if_neg hi]
    exact ⟨rfl, h⟩
  rw [if_pos hi, if_pos hi]
  by_cases k3 : kindAt ds i = 3
  · rw [if_pos (show 3 ≤ kindAt ds i ∧ kindAt ds i ≤ 5 by omega), if_pos k3]
    have his : ∀ f : Ft, f ∈ FL → (ofGone (kindAt ds i) i p port f = true ↔ f = ⟨i, p, 0⟩) := fun f hf => by
      unfold ofGone
      rw [k3]
      constructor
      · intro e
        simp only [Bool.and_eq_true, Bool.or_eq_true, beq_iff_eq, pkB_iff] at e
        obtain ⟨e1, e2⟩ := e
        have e3 : f.p = p := by
          rcases e2 with e2 | e2
          · exact absurd e2.1 (by decide)
          · exact e2.2
        have hn := h.k3 f hf (by rw [e1, k3])
        obtain ⟨a, b, c⟩ := f
        dsimp only at e1 e3 hn
        rw [e1, e3, hn]
      · rintro rfl
        simp [pkB_iff]
    by_cases hs : (M.fl (i, p)).isSome = true
    · have hm := (h.fl i p k3).1 hs
      rw [if_pos hs, if_pos (gone_one hm ((his _ hm).2 rfl))]
      refine ⟨rfl, ?_⟩
      have me := mem_erase_one h.nd hm ((his _ hm).2 rfl) (fun g hg e => (his g hg).1 e)
      refine ⟨fun i' p' hk' => ?_, fun i' k s hk' => ?_, fun i' q b hk' => ?_, fun f hf hk' => h.k3 f ((me f).1 hf).1 hk', fun f hf hk' => h.k4 f ((me f).1 hf).1 hk', h.one, nodup_erase h.nd⟩
      · show (delF M.fl (i, p) (i', p')).isSome = true ↔ _
        dsimp only
        rw [me]
        by_cases e : (i', p') = (i, p)
        · rw [e, delF_same]
          obtain ⟨rfl, rfl⟩ := Prod.mk.inj e
          simp
        · rw [delF_other _ e, h.fl i' p' hk']
          constructor
          · exact fun hf => ⟨hf, fun e' => e (by simp only [Ft.mk.injEq] at e'; rw [e'.1, e'.2.1])⟩
          · exact fun hf => hf.1
      · show M.ow (i', k) = some s ↔ _
        dsimp only
        rw [me, h.ow i' k s hk']
        constructor
        · exact fun hf => ⟨hf, fun e' => by simp only [Ft.mk.injEq] at e'; rw [e'.1, k3] at hk'; exact absurd hk' (by decide)⟩
        · exact fun hf => hf.1
      · show M.bk (i', q) = some b ↔ _
        dsimp only
        rw [me, h.bk i' q b hk']
        constructor
        · exact fun hf => ⟨hf, fun e' => by simp only [Ft.mk.injEq] at e'; rw [e'.1, k3] at hk'; exact absurd hk' (by decide)⟩
        · exact fun hf => hf.1
    · rw [if_neg hs, if_neg (by rw [gone_no (fun f hf e => hs ((h.fl i p k3).2 (by rw [← (his f hf).1 e]; exact hf)))]; simp)]
      exact ⟨rfl, h⟩
  rw [if_neg k3]
  by_cases k4 : kindAt ds i = 4
  · rw [if_pos (show 3 ≤ kindAt ds i ∧ kindAt ds i ≤ 5 by omega), if_pos k4]
    have his : ∀ f : Ft, (ofGone (kindAt ds i) i p port f = true ↔ f.i = i ∧ f.n = port) := fun f => by
      unfold ofGone
      rw [k4]
      simp
    cases ho : M.ow (i, port) with
    | some s =>
      have hm := (h.ow i port s k4).1 ho
      rw [if_pos (show (some s).isSome = true from rfl), if_pos (gone_one hm ((his _).2 ⟨rfl, rfl⟩))]
      refine ⟨rfl, ?_⟩
      have hun : ∀ g ∈ FL, ofGone (kindAt ds i) i p port g = true → g = ⟨i, ⟨s.1, 0, s.2, 0⟩, port⟩ := fun g hg e => by
        obtain ⟨e1, e2⟩ := (his g).1 e
        have h4 := (h.k4 g hg (by rw [e1, k4])).1
        obtain ⟨a, b, c⟩ := g
        dsimp only at e1 e2 h4
        subst e1 e2
        have hg' := hg
        rw [h4] at hg'
        have := (h.ow a c (b.s, b.sp) k4).2 hg'
        rw [ho] at this
        rw [h4, Option.some.inj this]
      have me := mem_erase_one h.nd hm ((his _).2 ⟨rfl, rfl⟩) hun
      refine ⟨fun i' p' hk' => ?_, fun i' k' s' hk' => ?_, fun i' q b hk' => ?_, fun f hf hk' => h.k3 f ((me f).1 hf).1 hk', fun f hf hk' => h.k4 f ((me f).1 hf).1 hk', fun i' k1 k2 s' hk' h1 h2 => ?_, nodup_erase h.nd⟩
      · show (M.fl (i', p')).isSome = true ↔ _
        dsimp only
        rw [me, h.fl i' p' hk']
        constructor
        · exact fun hf => ⟨hf, fun e' => by simp only [Ft.mk.injEq] at e'; rw [e'.1, k4] at hk'; exact absurd hk' (by decide)⟩
        · exact fun hf => hf.1
      · show delF M.ow (i, port) (i', k') = some s' ↔ _
        dsimp only
        rw [me]
        by_cases e : (i', k') = (i, port)
        · rw [e, delF_same]
          obtain ⟨rfl, rfl⟩ := Prod.mk.inj e
          constructor
          · intro e; cases e
          · rintro ⟨hf, hne⟩
            have := (h.ow i' k' s' hk').2 hf
            rw [ho] at this
            cases this
            exact absurd rfl hne
        · rw [delF_other _ e, h.ow i' k' s' hk']
          constructor
          · exact fun hf => ⟨hf, fun e' => e (by simp only [Ft.mk.injEq] at e'; rw [e'.1, e'.2.2])⟩
          · exact fun hf => hf.1
      · show M.bk (i', q) = some b ↔ _
        dsimp only
        rw [me, h.bk i' q b hk']
        constructor
        · exact fun hf => ⟨hf, fun e' => by simp only [Ft.mk.injEq] at e'; rw [e'.1, k4] at hk'; exact absurd hk' (by decide)⟩
        · exact fun hf => hf.1
      · have h1' : delF M.ow (i, port) (i', k1) = some s' := h1
        have h2' : delF M.ow (i, port) (i', k2) = some s' := h2
        by_cases e1 : (i', k1) = (i, port)
        · rw [e1, delF_same] at h1'
          cases h1'
        · by_cases e2 : (i', k2) = (i, port)
          · rw [e2, delF_same] at h2'
            cases h2'
          · rw [delF_other _ e1] at h1'
            rw [delF_other _ e2] at h2'
            exact h.one i' k1 k2 s' hk' h1' h2'
    | none =>
      rw [if_neg (show ¬ (none : Option (Int × Int)).isSome = true by simp), if_neg (by
        rw [gone_no (fun f hf e => by
          obtain ⟨e1, e2⟩ := (his f).1 e
          have h4 := (h.k4 f hf (by rw [e1, k4])).1
          obtain ⟨a, b, c⟩ := f
          dsimp only at e1 e2 h4
          subst e1 e2
          rw [h4] at hf
          have := (h.ow a c (b.s, b.sp) k4).2 hf
          rw [ho] at this
          cases this)]
        simp)]
      exact ⟨rfl, h⟩
  rw [if_neg k4]
  by_cases k5 : kindAt ds i = 5
  · rw [if_pos (show 3 ≤ kindAt ds i ∧ kindAt ds i ≤ 5 by omega), if_pos k5]
    have his : ∀ f : Ft, (ofGone (kindAt ds i) i p port f = true ↔ f.i = i ∧ f.p = p) := fun f => by
      unfold ofGone
      rw [k5]
      simp [pkB_iff]
    cases ho : M.bk (i, p) with
    | some b0 =>
      have hm := (h.bk i p b0 k5).1 ho
      rw [if_pos (show (some b0).isSome = true from rfl), if_pos (gone_one hm ((his _).2 ⟨rfl, rfl⟩))]
      refine ⟨rfl, ?_⟩
      have hun : ∀ g ∈ FL, ofGone (kindAt ds i) i p port g = true → g = ⟨i, p, b0⟩ := fun g hg e => by
        obtain ⟨e1, e2⟩ := (his g).1 e
        obtain ⟨a, b, c⟩ := g
        dsimp only at e1 e2
        subst e1 e2
        have := (h.bk a b c k5).2 hg
        rw [ho] at this
        rw [Option.some.inj this]
      have me := mem_erase_one h.nd hm ((his _).2 ⟨rfl, rfl⟩) hun
      refine ⟨fun i' p' hk' => ?_, fun i' k' s' hk' => ?_, fun i' q b hk' => ?_, fun f hf hk' => h.k3 f ((me f).1 hf).1 hk', fun f hf hk' => h.k4 f ((me f).1 hf).1 hk', h.one, nodup_erase h.nd⟩
      · show (M.fl (i', p')).isSome = true ↔ _
        dsimp only
        rw [me, h.fl i' p' hk']
        constructor
        · exact fun hf => ⟨hf, fun e' => by simp only [Ft.mk.injEq] at e'; rw [e'.1, k5] at hk'; exact absurd hk' (by decide)⟩
        · exact fun hf => hf.1
      · show M.ow (i', k') = some s' ↔ _
        dsimp only
        rw [me, h.ow i' k' s' hk']
        constructor
        · exact fun hf => ⟨hf, fun e' => by simp only [Ft.mk.injEq] at e'; rw [e'.1, k5] at hk'; exact absurd hk' (by decide)⟩
        · exact fun hf => hf.1
      · show delF M.bk (i, p) (i', q) = some b ↔ _
        dsimp only
        rw [me]
        by_cases e : (i', q) = (i, p)
        · rw [e, delF_same]
          obtain ⟨rfl, rfl⟩ := Prod.mk.inj e
          constructor
          · intro e; cases e
          · rintro ⟨hf, hne⟩
            have := (h.bk i' q b hk').2 hf
            rw [ho] at this
            cases this
            exact absurd rfl hne
        · rw [delF_other _ e, h.bk i' q b hk']
          constructor
          · exact fun hf => ⟨hf, fun e' => e (by simp only [Ft.mk.injEq] at e'; rw [e'.1, e'.2.1])⟩
          · exact fun hf => hf.1
    | none =>
      rw [if_neg (show ¬ (none : Option Int).isSome = true by simp), if_neg (by
        rw [gone_no (fun f hf e => by
          obtain ⟨e1, e2⟩ := (his f).1 e
          obtain ⟨a, b, c⟩ := f
          dsimp only at e1 e2
          subst e1 e2
          have := (h.bk a b c k5).2 hf
          rw [ho] at this
          cases this)]
        simp)]
      exact ⟨rfl, h⟩
  rw [if_neg k5, if_neg (show ¬ (3 ≤ kindAt ds i ∧ kindAt ds i ≤ 5) by omega)]
  exact ⟨rfl, h⟩
end
end Go.Proofs.YthioedgnambomaaGreat



namespace Go.Proofs.YthioedgnambomaaGreat
open Go.RowKit Go.Maps

/-! ### rows of a call's own -/
/-- All blocks but one are as they were. -/
structure KeptB (w w' : World) (row : Option Nat) : Prop where
  size : w.heap.size ≤ w'.heap.size
  block : ∀ k, k < w.heap.size → some k ≠ row → w'.heap[k]? = w.heap[k]?
theorem KeptB.of_below {w w' : World} (h : Below w.heap.size w w') : KeptB w w' none := ⟨h.size, fun k hk _ => h.block k hk⟩
section
variable {w w' : World} {B e size n : Nat} {v : Value} {xs : List Value} {row : Option Nat}
theorem own_block (h : w.ownsRow B e size v n xs) {g : Nat} (hg : v.ownBlock = some g) : g < w.heap.size ∧ B ≤ g ∧ ∃ cur, w.heap[g]? = some (.cells cur e (0, 0)) := by
  rcases h.2 with ⟨rfl, _⟩ | ⟨g', cap, cur, rfl, hb, hh, _⟩
  · cases hg
  · obtain rfl : g' = g := by simpa [Value.ownBlock] using hg
    exact ⟨(Array.getElem?_eq_some_iff.1 hh).1, hb, cur, hh⟩
theorem own_keptBut (h : w.ownsRow B e size v n xs) (hk : ∀ g, v.ownBlock = some g → w'.heap[g]? = w.heap[g]?) : w'.ownsRow B e size v n xs := by
  refine ⟨h.1, ?_⟩
  rcases h.2 with k | ⟨g, cap, cur, h1, h2, h3, h4⟩
  · exact Or.inl k
  · exact Or.inr ⟨g, cap, cur, h1, h2, (hk g (by rw [h1]; rfl)).trans h3, h4⟩
theorem own_kept (h : w.ownsRow B e size v n xs) (hk : KeptB w w' row) (hr : ∀ g, v.ownBlock = some g → row ≠ some g) : w'.ownsRow B e size v n xs :=
  own_keptBut h (fun g hg => hk.block g (own_block h hg).1 (fun e => hr g hg e.symm))
theorem own_below (h : w.ownsRow B e size v n xs) (hb : Below w.heap.size w w') : w'.ownsRow B e size v n xs := own_keptBut h (fun g hg => hb.block g (own_block h hg).1)
theorem own_ck (h : w.ownsRow B e size v n xs) (hc : CK w w') : w'.ownsRow B e size v n xs := own_keptBut h (fun g hg => by
  obtain ⟨h1, _, cur, h2⟩ := own_block h hg
  exact hc.block g (fun es c e => by rw [h2] at e; cases e) h1)
end
/-- append, of one element that was just laid, to a row of the call's own. -/
theorem app_el {t e : TypeId} {z : Value} {size bytes : Nat} (hu : Tryz.prog.underlying t = some (.slice e)) (hinfo : (Tryz.prog.info? e).map (fun i => (i.zero, i.size, i.bytes)) = some (some z, size, bytes)) (hz1 : z.cells.size = size) (hs0 : 0 < size) (hby : bytes ≤ 128)
    {base n : Nat} {w : World} {v : Value} {xs us : List Value} (ty : TypeId) (h : w.ownsRow base e size v n xs) (hus : us.length = size) (h1 : ∀ u ∈ us, u.oneCell' = true) (hn : n ≤ 5000) (hb : base ≤ w.heap.size) :
    ∃ v' w', (Builtin.append_ #[t, t] ty #[v, .slice (some ⟨w.heap.size, 0, none⟩) 1 1]).run Tryz.prog (w.alloc (.cells us.toArray e)) = .ok v' w' ∧ w'.ownsRow base e size v' (n + 1) (xs ++ us) ∧ Below base w w' ∧ KeptB w w' v.ownBlock ∧ (v'.ownBlock = v.ownBlock ∨ ∃ g, v'.ownBlock = some g ∧ w.heap.size ≤ g) := by
  obtain ⟨i0, hi, hz0, hz1', hz2⟩ := info_parts hinfo
  have hA : Below w.heap.size w (w.alloc (.cells us.toArray e)) := (Below.refl _ _).alloc (Nat.le_refl _) _
  have ho : (w.alloc (.cells us.toArray e)).ownsRow base e size v n xs := own_kept h (KeptB.of_below hA) (fun g _ => by simp)
  obtain ⟨v', w', hr, h4, h5, _, h7⟩ := run_append_own_at (P := Tryz.prog) (w.alloc (.cells us.toArray e)) base t ty e i0 z size bytes hu hi hz0 hz1' hz2 hz1 hs0 v n xs ho ⟨w.heap.size, 0, none⟩ 1 1 us (by rw [hus, Nat.one_mul]) (fun j x hj => by
    have hg : (w.alloc (.cells us.toArray e)).heap[w.heap.size]? = some (.cells us.toArray e) := Go.Deep.blk_alloc_new w _
    rw [Addr.add_lit, Nat.zero_add]
    simp only [World.cell?, hg]
    simp [hj]) h1 (by unfold maxLen; omega) (by
      have : (n + 1) * bytes ≤ 5001 * 128 := Nat.mul_le_mul (by omega) hby
      omega) (by simp; omega)
  have hsz : (w.alloc (.cells us.toArray e)).heap.size = w.heap.size + 1 := Go.Deep.nblk_alloc w _
  refine ⟨v', w', hr, h4, ?_, ⟨by have := h5.size; omega, fun k hk hne => ?_⟩, ?_⟩
  · exact ((Below.refl base w).alloc hb (.cells us.toArray e)).grown h5 (by simp; omega) (fun k e => (ho.lt k e).1)
  · rw [h5.block k (by omega) hne, Go.Deep.blk_alloc_lt w _ k hk]
  · rcases h7 with h7 | h7
    · exact Or.inl h7
    · exact Or.inr ⟨_, h7, by omega⟩
/-- At a step of a region that draws: append, by its run. -/
theorem step_append_run {P : Program} {w : World} {ops : Array Oper} {o : Oper} {a : Act} {K : Act → World → Prop} {Q : Exit → Act → World → Prop} {E : Prop} (hgd : o.guard = none) (s x : Operand) (t : TypeId)
    (ho : o.op = .call { callee := .builtin .append, args := #[s, x], argTypes := #[t, t] }) (v u v' : Value) (w' : World) (hs : a.eval s = v) (hx : a.eval x = u)
    (hr : (Builtin.append_ #[t, t] o.type #[v, u]).run P w = .ok v' w') (h : K (a.put o.dst v') w') :
    if Region.wanted o (yielded ops a.tmps) = true then Oper.wp P o a w K Q else E := by
  have hw : Region.wanted o (yielded ops a.tmps) = true := by simp [Region.wanted, hgd]
  rw [if_pos hw]
  unfold Oper.wp execOp
  simp only [ho, resolve, invoke, builtin, Sem.run_bind, Sem.run_pure, Result.andThen_ok, List.map_toArray, List.map_cons, List.map_nil, hs, hx, hr]
  exact h

/-- Where a row may lie behind a call. -/
def SG (S S' : Option Addr) (N : Nat) : Prop := ∀ a', S' = some a' → (∃ a, S = some a ∧ a.block = a'.block) ∨ N ≤ a'.block
theorem SG.refl (S : Option Addr) (N : Nat) : SG S S N := fun a h => Or.inl ⟨a, h, rfl⟩
theorem own_sl {w : World} {B e size n : Nat} {v : Value} {xs : List Value} (h : w.ownsRow B e size v n xs) : ∃ A cap, v = .slice A n cap ∧ ∀ a, A = some a → v.ownBlock = some a.block := by
  rcases h.2 with ⟨rfl, h0⟩ | ⟨g, cap, cur, rfl, _⟩
  · refine ⟨none, 0, ?_, fun a e => by cases e⟩
    first
      | rfl
      | (rw [h0])
      | simp_all
  · exact ⟨some ⟨g, 0, none⟩, cap, rfl, fun a e => by cases e; rfl⟩
/-- A slice stays where its block does. -/
theorem SlAt.blkS {α : Type} {base base' n : Nat} {w w' : World} {R : List Value → α → Prop} {A : Option Addr} {c : Nat} {xs : List α} (h : SlAt base w n R (.slice A xs.length c) xs) (hb : ∀ a, A = some a → w'.heap[a.block]? = w.heap[a.block]? ∧ a.block < base') : SlAt base' w' n R (.slice A xs.length c) xs := by
  obtain ⟨A', c', e, h0, h1, h2, h3⟩ := h
  cases e
  refine ⟨A, c, rfl, h0, h1, h2, fun hn => ?_⟩
  obtain ⟨b, o, ea, hl, hr⟩ := h3 hn
  obtain ⟨e1, e2⟩ := hb _ ea
  refine ⟨b, o, ea, e2, fun k x hx => ?_⟩
  obtain ⟨cs, c1, c2, c3⟩ := hr k x hx
  exact ⟨cs, c1, c2, fun j u hj => (cell_of_blockC e1).trans (c3 j u hj)⟩
theorem SlAt.takeS {α : Type} {base n : Nat} {w : World} {R : List Value → α → Prop} {A : Option Addr} {c : Nat} {xs ys : List α} (h : SlAt base w n R (.slice A (xs ++ ys).length c) (xs ++ ys)) : SlAt base w n R (.slice A xs.length c) xs := by
  obtain ⟨A', c', e, h0, h1, h2, h3⟩ := h
  cases e
  refine ⟨A, c, rfl, h0, ?_, h2, fun hn => ?_⟩
  · rw [List.length_append] at h1
    omega
  · obtain ⟨b, o, ea, hl, hr⟩ := h3 (by simp [hn])
    exact ⟨b, o, ea, hl, fun k x hx => hr k x (by rw [List.getElem?_append_left (List.getElem?_eq_some_iff.1 hx).1]; exact hx)⟩
/-- The other end is a place of the net. -/
theorem endOf_place {l : Lk} {ds : List Dv} {d p : Int} {t : Int × Int} (h : endOf l d p = some t) (h1 : isPl ds l.a l.p = true) (h2 : isPl ds l.b l.q = true) : isPl ds t.1 t.2 = true := by
  unfold endOf at h
  split at h
  · cases h; exact h2
  · split at h
    · cases h; exact h1
    · cases h
theorem peerF_place {ds : List Dv} : ∀ (ls : List Lk) (d p : Int) (t : Int × Int), (∀ l ∈ ls, isPl ds l.a l.p = true ∧ isPl ds l.b l.q = true) → peerF ls d p = some t → isPl ds t.1 t.2 = true
  | [], d, p, t, _, h => by cases h
  | l :: ls, d, p, t, hl, h => by
    have h' : (endOf l d p).or (peerF ls d p) = some t := h
    cases he : endOf l d p with
    | some t' =>
      rw [he] at h'
      cases h'
      exact endOf_place he (hl l (by simp)).1 (hl l (by simp)).2
    | none =>
      rw [he] at h'
      exact peerF_place ls d p t (fun m hm => hl m (by simp [hm])) h'
theorem isPl_ok {ds : List Dv} (hd : ds.length ≤ 10) {x y : Int} (h : isPl ds x y = true) : i64ok x ∧ i64ok y := by
  unfold isPl at h
  simp only [Bool.and_eq_true, decide_eq_true_eq] at h
  have : portsV (kindAt ds x) ≤ 4 := by
    unfold portsV
    split
    all_goals first | omega | (split <;> omega) | skip
  exact ⟨i64ok_of (by omega) (by omega), i64ok_of (by omega) (by omega)⟩
theorem peer_ok {ds : List Dv} {ls : List Lk} (hz : netV ds ls = 0) {d p : Int} {t : Int × Int} (h : peerF ls d p = some t) : i64ok t.1 ∧ i64ok t.2 :=
  isPl_ok (netV_links hz).1 (peerF_place ls d p t (netV_links hz).2.2.2 h)
/-- Below block number T all but maps is as it was. -/
def KT (T : Nat) (W W' : World) : Prop := ∀ b, b < T → (∀ es c, W.heap[b]? ≠ some (.map es c)) → W'.heap[b]? = W.heap[b]?
theorem KT.of_below {T : Nat} {W W' : World} (hb : Below W.heap.size W W') (hT : T ≤ W.heap.size) : KT T W W' := fun b h _ => hb.block b (by omega)
theorem KT.cell {T : Nat} {W W' : World} (h : KT T W W') {b o : Nat} {v : Value} (hb : b < T) (hc : W.cell? ⟨b, o, none⟩ = some v) : W'.cell? ⟨b, o, none⟩ = some v := by
  have e := h b hb (fun es c e => by
    unfold World.cell? at hc
    rw [e] at hc
    cases hc)
  unfold World.cell? at hc ⊢
  rw [e]
  exact hc
theorem SlAt.kt {α : Type} {T k : Nat} {w w' : World} {R R' : List Value → α → Prop} {v : Value} {xs : List α} (h : SlAt T w k R v xs) (hb : KT T w w') (hR : ∀ cs x, x ∈ xs → R cs x → R' cs x) : SlAt T w' k R' v xs := by
  obtain ⟨A, cap, e, h0, h1, h2, h3⟩ := h
  refine ⟨A, cap, e, h0, h1, h2, fun hn => ?_⟩
  obtain ⟨b, o, ea, hl, hr⟩ := h3 hn
  refine ⟨b, o, ea, hl, fun k x hx => ?_⟩
  obtain ⟨cs, c1, c2, c3⟩ := hr k x hx
  exact ⟨cs, c1, hR cs x (List.mem_of_getElem? hx) c2, fun j u hj => hb.cell hl (c3 j u hj)⟩
theorem IsDv.kt {T : Nat} {w w' : World} {cs : List Value} {d : Dv} (h : IsDv T w cs d) (hb : KT T w w') : IsDv T w' cs d := by
  obtain ⟨vb, vr, vt, e, h1, h2, h3⟩ := h
  exact ⟨vb, vr, vt, e, h1.kt hb (fun _ _ _ h => h), h2.kt hb (fun _ _ _ h => h), h3.kt hb (fun _ _ _ h => h)⟩
theorem Devs.kt {T : Nat} {w w' : World} {v : Value} {ds : List Dv} (h : Devs T w v ds) (hb : KT T w w') : Devs T w' v ds := SlAt.kt h hb (fun _ _ _ h => h.kt hb)
theorem Links.kt {T : Nat} {w w' : World} {v : Value} {ls : List Lk} (h : Links T w v ls) (hb : KT T w w') : Links T w' v ls := SlAt.kt h hb (fun _ _ _ h => h)
theorem Bk.kt {T k : Nat} {w w' : World} {c : Array Value} {t : TypeId} (h : Bk w k c t) (hb : KT T w w') (hk : k < T) : Bk w' k c t := (hb k hk (fun es x e => by unfold Bk at h; rw [h] at e; cases e)).trans h
end Go.Proofs.YthioedgnambomaaGreat


