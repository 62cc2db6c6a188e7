/-
  net.Copy: where the copy lies: above all that was there.
-/
import Derived.Test.YtgmjlkllghlmmaaGreatGG
import Derived.Test.YtgmjlkllghlmmaaGreatGE
import Derived.Shelf.SlMaps.Clone
import Derived.Deep.RegionHeld3
namespace Go.Proofs.YtgmjlkllghlmmaaGreat
open Go.RowKit Go.Maps

/-- A slice's array lies from lo on. -/
def Hi (lo : Nat) (v : Value) : Prop := ∀ b o n c, v = .slice (some ⟨b, o, none⟩) n c → n ≠ 0 → lo ≤ b
theorem Hi.of {lo : Nat} {v : Value} (h : NotIn 0 lo v) : Hi lo v := fun b o n c e hn => by
  have := h b o n c e hn
  omega
theorem Hi.b {lo k : Nat} {v : Value} (h : Hi lo v) (hk : k < lo) : NotB k v := fun b o n c e hn => by
  have := h b o n c e hn
  omega
/-- What lies in the cells S of block g lies from lo on. -/
def Part (lo g : Nat) (S : Nat → Prop) (w : World) : Prop := ∀ o v, S o → w.cell? ⟨g, o, none⟩ = some v → Hi lo v
theorem Part.below {lo g : Nat} {S : Nat → Prop} {w w' : World} (h : Part lo g S w) (hb : Below w.heap.size w w') (hg : g < w.heap.size) : Part lo g S w' := fun o v hs hv => h o v hs ((hb.cell (p := ⟨g, o, none⟩) hg).symm.trans hv)
theorem Part.mono {lo g : Nat} {S S' : Nat → Prop} {w : World} (h : Part lo g S w) (hs : ∀ o, S' o → S o) : Part lo g S' w := fun o v h' hv => h o v (hs o h') hv
theorem Part.other {lo g k j : Nat} {S : Nat → Prop} {w : World} {u : Value} (h : Part lo g S w) (hk : g ≠ k) : Part lo g S (w.setCell ⟨k, j, none⟩ u) := fun o v hs hv => h o v hs ((cell_of_blockC (o := o) (Below.heap_setCell w ⟨k, j, none⟩ u g hk)).symm.trans hv)
theorem Part.set {lo g j : Nat} {S : Nat → Prop} {w : World} {u : Value} (h : Part lo g S w) (hB : IsB w g) (hu : Hi lo u) : Part lo g (fun o => S o ∨ o = j) (w.setCell ⟨g, j, none⟩ u) := fun o v hs hv => by
  obtain ⟨cs, t, hB⟩ := hB
  have hB' := hB.setS (j := j) u
  rw [hB'.at] at hv
  by_cases e : j = o
  · subst e
    rw [Array.getElem?_setIfInBounds] at hv
    simp only [if_true] at hv
    split at hv
    · obtain rfl := Option.some.inj hv
      exact hu
    · cases hv
  · rw [Array.getElem?_setIfInBounds, if_neg e, ← hB.at] at hv
    exact h o v (hs.resolve_right (fun e' => e e'.symm)) hv
/-- The lists of the first k devices. -/
def dn (k : Nat) (o : Nat) : Prop := ∃ k', k' < k ∧ (o = k' * 7 + 4 ∨ o = k' * 7 + 5 ∨ o = k' * 7 + 6)
theorem dn_succ {k o : Nat} (h : dn (k + 1) o) : ((dn k o ∨ o = k * 7 + 4) ∨ o = k * 7 + 5) ∨ o = k * 7 + 6 := by
  obtain ⟨k', h1, h2⟩ := h
  by_cases e : k' = k
  · subst e
    rcases h2 with h | h | h
    · exact Or.inl (Or.inl (Or.inr h))
    · exact Or.inl (Or.inr h)
    · exact Or.inr h
  · exact Or.inl (Or.inl (Or.inl ⟨k', by omega, h2⟩))
/-- A copy of devices lies from lo on. -/
def Deep (lo : Nat) (w : World) (A : Option Addr) (n : Nat) : Prop := n ≠ 0 → ∃ g, A = some ⟨g, 0, none⟩ ∧ lo ≤ g ∧ Part lo g (dn n) w
/-- What a copy is, and where. -/
def CopyDeep (w : World) (ds : List Dv) (ls : List Lk) (e : Ending) (w' : World) : Prop :=
  ∃ A cap B cap', e = .returned (.agg #[.slice A ds.length cap, .slice B ls.length cap']) ∧ Devs w'.heap.size w' (.slice A ds.length cap) ds ∧ Links w'.heap.size w' (.slice B ls.length cap') ls ∧ Below w.heap.size w w' ∧ Deep w.heap.size w' A ds.length ∧ Hi w.heap.size (.slice B ls.length cap')
set_option maxHeartbeats 8000000 in
set_option maxRecDepth 100000 in
theorem copy_deep (A B : Option Addr) (cap cap' : Nat) (ds : List Dv) (ls : List Lk) (w : World) (hD : Hid (Devs w.heap.size w (.slice A ds.length cap) ds)) (hL : Hid (Links w.heap.size w (.slice B ls.length cap') ls)) (hS : Hid (Small ds ls)) :
    Calls Tryz.prog 22 #[.agg #[.slice A ds.length cap, .slice B ls.length cap']] w (CopyDeep w ds ls) := by
  have hsz := hS.out.nd
  have CD : Hid (∀ W, Below w.heap.size w W → Calls Tryz.prog 59 #[.slice A ds.length cap] W fun e w' => ∃ A cap, e = .returned (.slice A ds.length cap) ∧ Fresh W.heap.size w' A cap w ds ∧ Below W.heap.size W w') := fun W h => clone_fresh W hD.out h hS.out.nd
  have CL : Hid (∀ W, Below w.heap.size w W → Calls Tryz.prog 60 #[.slice B ls.length cap'] W fun e w' => ∃ A cap, e = .returned (.slice A ls.length cap) ∧ SlAt w'.heap.size w' 4 IsLk (.slice A ls.length cap) ls ∧ (∀ lo hi, hi ≤ W.heap.size → NotIn lo hi (.slice A ls.length cap)) ∧ Below W.heap.size W w') := fun W h => copy_links W ((hL.out.below h).mono h.size) hS.out.nl
  have D2 := Below.alN (Below.alN (Below.refl w.heap.size w) (.cells #[.slice A ds.length cap, .slice B ls.length cap'] 25)) (.cells #[.slice none 0 0, .slice none 0 0] 25)
  have N2 := (bk_new w #[.slice A ds.length cap, .slice B ls.length cap'] 25).alloc (.cells #[.slice none 0 0, .slice none 0 0] 25)
  have R2 := bk_new' (w.alloc (.cells #[.slice A ds.length cap, .slice B ls.length cap'] 25)) #[.slice none 0 0, .slice none 0 0] 25 (w.heap.size + 1) (by simp)
  have S2 := N2.two
  have D2d := D2.drew
  have N2d := N2.drew
  have R2d := R2.drew
  have D2a := (Below.alN D2 (.cells #[.slice none 0 0, .slice none 0 0] 25)).drew
  have N2a := (N2.alloc (.cells #[.slice none 0 0, .slice none 0 0] 25)).drew
  have R2a := (R2.alloc (.cells #[.slice none 0 0, .slice none 0 0] 25)).drew
  have G2a := (bk_new' ((w.alloc (.cells #[.slice A ds.length cap, .slice B ls.length cap'] 25)).alloc (.cells #[.slice none 0 0, .slice none 0 0] 25)) #[.slice none 0 0, .slice none 0 0] 25 (w.heap.size + 1 + 1) (by simp)).drew
  clear hD hL
  obtain ⟨n0, n1⟩ := S2
  go_enter Tryz.func22, Tryz.ntmps22
  go_wp2_with fail
  go_cut [3] (fun v3 wx => ∃ g A1 c1 B1 c2, v3 = .pointer (some ⟨g, 0, none⟩) ∧ Bk wx g #[.slice A1 ds.length c1, .slice B1 ls.length c2] 25 ∧ w.heap.size + 1 < g ∧ Fresh (w.heap.size + 1 + 1) wx A1 c1 w ds ∧ (∀ g', A1 = some ⟨g', 0, none⟩ → ds.length ≠ 0 → g' ≠ g) ∧ SlAt wx.heap.size wx 4 IsLk (.slice B1 ls.length c2) ls ∧ NotB g (.slice B1 ls.length c2) ∧ NotB (w.heap.size + 1) (.slice B1 ls.length c2) ∧ (∀ g', A1 = some ⟨g', 0, none⟩ → ds.length ≠ 0 → NotB g' (.slice B1 ls.length c2)) ∧ Bk wx (w.heap.size + 1) #[.slice none 0 0, .slice none 0 0] 25 ∧ Below w.heap.size w wx ∧ Hi w.heap.size (.slice B1 ls.length c2))
  case first =>
    go_region_held3 (fun w' => w'.cell? ⟨w.heap.size, 0, none⟩ = some (.slice A ds.length cap) ∧ w'.cell? ⟨w.heap.size, 1, none⟩ = some (.slice B ls.length cap')) (first | exact Bk.two (by first | assumption | exact Bk.alloc (by assumption) _) | exact Bk.two ((N6.setO (by omega) _).setO (by omega) _)) (first | (go_at_call 59; refine (CD.out _ D2d).mono ?_; rintro e w5 ⟨A1, c1, rfl, F5, hb5⟩; have D5 := chnN hb5 D2d; have N5 := N2d.keep hb5; have R5 := R2d.keep hb5; have z5 := R5.lt; have F5l := F5.lo (lo' := w.heap.size + 1 + 1) (by simp)) | (go_at_call 59; refine (CD.out _ D2a).mono ?_; rintro e w5 ⟨A1, c1, rfl, F5, hb5⟩; have D5 := chnN hb5 D2a; have N5 := N2a.keep hb5; have R5 := R2a.keep hb5; have G5 := G2a.keep hb5; have z5 := G5.lt; have F5l := F5.lo (lo' := w.heap.size + 1 + 1 + 1) (by simp)) | (go_at_call 60; refine (CL.out _ D5).mono ?_; rintro e w6 ⟨B1, c2, rfl, K6, Z6, hb6⟩; have D6 := chnN hb6 D5; have N6 := N5.keep hb6; have R6 := R5.keep hb6; have F6 := F5l.below hb6; have G6 := G5.keep hb6; have gf0 := G6.fz 0; have gf1 := G6.fz 1; obtain ⟨gg0, gg1⟩ := G6.two) | (go_at_call 60; refine (CL.out _ D5).mono ?_; rintro e w6 ⟨B1, c2, rfl, K6, Z6, hb6⟩; have D6 := chnN hb6 D5; have N6 := N5.keep hb6; have R6 := R5.keep hb6; have F6 := F5l.below hb6) | (go_at_call 60; refine (CL.out _ (Below.alN D5 (.cells #[.slice none 0 0, .slice none 0 0] 25))).mono ?_; rintro e w6 ⟨B1, c2, rfl, K6, Z6, hb6⟩; have D6 := chnN hb6 (Below.alN D5 (.cells #[.slice none 0 0, .slice none 0 0] 25)); have N6 := (N5.alloc (.cells #[.slice none 0 0, .slice none 0 0] 25)).keep hb6; have R6 := (R5.alloc (.cells #[.slice none 0 0, .slice none 0 0] 25)).keep hb6; have F6 := (F5l.below ((Below.refl _ _).alloc (Nat.le_refl _) (.cells #[.slice none 0 0, .slice none 0 0] 25))).below hb6; have G6 := (bk_new w5 #[.slice none 0 0, .slice none 0 0] 25).keep hb6; have gf0 := G6.fz 0; have gf1 := G6.fz 1; obtain ⟨gg0, gg1⟩ := G6.two))
    all_goals
      go_wp2_with fail
      go_meet
      have y6 := hb6.size
      first
        | exact ⟨_, _, _, _, _, rfl, bk_new w6 _ _, (by omega), F6.below ((Below.refl _ _).alloc (Nat.le_refl _) _), (fun g' e hn => by have := F6.lt e hn; omega), SlAt.mono (SlAt.below K6 ((Below.refl _ w6).alloc (Nat.le_refl _) _) (fun _ _ _ h => h)) (by simp) (fun _ _ _ h => h), (fun b o n c e hn => by have := (Z6 0 w5.heap.size (by simp) b o n c e hn); have q := SlAt.notIn (hi := w6.heap.size + 1) K6 b o n c e hn; omega), NotB.of (fun lo hi h => Z6 lo hi (by omega)), (fun g' e hn => NotB.of (fun lo hi h => Z6 lo hi (by have := F5l.lt e hn; omega))), R6.alloc _, Below.alN D6 _, Hi.of (Z6 0 w.heap.size (by omega))⟩
        | ((try simp only [World.size_alloc] at y6 Z6)
           exact ⟨_, _, _, _, _, rfl, (by have := (G6.setS (j := 0) (.slice A1 ds.length c1)).setS (j := 1) (.slice B1 ls.length c2); simpa using this), (by omega), ((F6.set (fun g' e hn => by have := F5l.lt e hn; omega)).set (fun g' e hn => by have := F5l.lt e hn; omega)).lo (by omega), (fun g' e hn => by have := F5l.lt e hn; omega), (by have := (K6.setB (k := w.heap.size + 1 + 1) (j := 0) (u := .slice A1 ds.length c1) (NotB.of (fun lo hi h => Z6 lo hi (by omega)))).setB (k := w.heap.size + 1 + 1) (j := 1) (u := .slice B1 ls.length c2) (NotB.of (fun lo hi h => Z6 lo hi (by omega))); simpa [World.setCell] using this), NotB.of (fun lo hi h => Z6 lo hi (by omega)), NotB.of (fun lo hi h => Z6 lo hi (by omega)), (fun g' e hn => NotB.of (fun lo hi h => Z6 lo hi (by have := F5l.lt e hn; omega))), (R6.setO (by omega) _).setO (by omega) _, (D6.setCell (by simp; omega) _).setCell (by simp; omega) _, Hi.of (Z6 0 w.heap.size (by omega))⟩)
        | ((try simp only [World.size_alloc] at y6 Z6)
           exact ⟨_, _, _, _, _, rfl, (by have := (G6.setS (j := 0) (.slice A1 ds.length c1)).setS (j := 1) (.slice B1 ls.length c2); simpa using this), (by omega), ((F6.set (fun g' e hn => by have := F5l.lt e hn; omega)).set (fun g' e hn => by have := F5l.lt e hn; omega)).lo (by omega), (fun g' e hn => by have := F5l.lt e hn; omega), (by have := (K6.setB (k := w5.heap.size) (j := 0) (u := .slice A1 ds.length c1) (NotB.of (fun lo hi h => Z6 lo hi (by omega)))).setB (k := w5.heap.size) (j := 1) (u := .slice B1 ls.length c2) (NotB.of (fun lo hi h => Z6 lo hi (by omega))); simpa [World.setCell] using this), NotB.of (fun lo hi h => Z6 lo hi (by omega)), NotB.of (fun lo hi h => Z6 lo hi (by omega)), (fun g' e hn => NotB.of (fun lo hi h => Z6 lo hi (by have := F5l.lt e hn; omega))), (R6.setO (by omega) _).setO (by omega) _, (D6.setCell (by simp; omega) _).setCell (by simp; omega) _, Hi.of (Z6 0 w.heap.size (by omega))⟩)
  case rest =>
    clear D2 N2 R2 D2d N2d R2d D2a N2a R2a G2a n0 n1 CD CL
    obtain ⟨g, A1, c1, B1, c2, rfl, G4, zg, F4, hgg, K4, nb1, nb2, nb3, R4, D4, U4⟩ := hcut
    by_cases hn : ds.length = 0
    · have hds : ds = [] := List.length_eq_zero_iff.1 hn
      obtain ⟨f0, f1, f2, _⟩ := F4
      subst hds
      clear hgg nb3 hn
      simp only [List.length_nil] at *
      obtain ⟨x0, x1⟩ := G4.two
      go_wp2_with fail
      go_loopw [16] (fun i wr => i = .int .i64 0 ∧ Below w.heap.size w wr ∧ Bk wr g #[.slice A1 0 c1, .slice B1 ls.length c2] 25 ∧ Bk wr (w.heap.size + 1) #[.slice none 0 0, .slice none 0 0] 25 ∧ SlAt wr.heap.size wr 4 IsLk (.slice B1 ls.length c2) ls) (fun i _ => 0)
      case atStart => exact ⟨rfl, D4, G4, R4, K4⟩
      case round =>
        clear D4 G4 R4 K4 x0 x1
        obtain ⟨rfl, D4, G4, R4, K4⟩ := hrel
        obtain ⟨x0, x1⟩ := G4.two
        obtain ⟨r0, r1⟩ := R4.two
        have rf0 := R4.fz 0
        have rf1 := R4.fz 1
        go_wp2_with fail
        refine bodyPost_ret (v := .agg #[.slice A1 0 c1, .slice B1 ls.length c2]) (by simp [results, Tryz.results22, go_sem, r0, r1]) rfl ⟨A1, c1, B1, c2, rfl, ⟨A1, c1, rfl, f0, f1, f2, fun h => absurd rfl h⟩, ?_, ?_, fun h => absurd rfl h, U4⟩
        · have := (K4.setB (k := w.heap.size + 1) (j := 0) (u := .slice A1 0 c1) nb2).setB (k := w.heap.size + 1) (j := 1) (u := .slice B1 ls.length c2) nb2
          unfold Links
          simpa [World.setCell] using this
        · exact (D4.setCell (by simp) _).setCell (by simp) _
    obtain ⟨f0, f1, f2, _⟩ := id F4
    obtain ⟨g', rfl, hl, hg', I4, V4⟩ := F4.row (hi := wc.heap.size) D4 hn
    have hgg := hgg g' rfl hn
    have nb3 := nb3 g' rfl hn
    have zR := R4.lt
    have hgHI : g' < wc.heap.size := hg'
    obtain ⟨x0, x1⟩ := G4.two
    generalize hHI : wc.heap.size = HI at *
    clear F4 hn
    unfold maxLen at f2
    go_wp2_with fail
    go_loopw [16] (fun i wr => ∃ k : Nat, i = .int .i64 (k : Int) ∧ k ≤ ds.length ∧ Below w.heap.size w wr ∧ Bk wr g #[.slice (some ⟨g', 0, none⟩) ds.length c1, .slice B1 ls.length c2] 25 ∧ Bk wr (w.heap.size + 1) #[.slice none 0 0, .slice none 0 0] 25 ∧ SlAt wr.heap.size wr 4 IsLk (.slice B1 ls.length c2) ls ∧ IsB wr g' ∧ DvRow w.heap.size HI g' wr ds ∧ g' < wr.heap.size ∧ HI ≤ wr.heap.size ∧ Part w.heap.size g' (dn k) wr) (fun i _ => ds.length - (intOf i).toNat)
    case atStart => exact ⟨0, rfl, by omega, D4, G4, R4, by rw [hHI]; exact K4, I4, V4, by omega, by omega, fun o v ⟨k', h, _⟩ => absurd h (by omega)⟩
    case round =>
      clear D4 G4 R4 K4 I4 V4 x0 x1 hHI
      obtain ⟨k, rfl, hk, D1, G1, R1, K1, I1, V1, zg1, zh1, P1⟩ := hrel
      obtain ⟨x0, x1⟩ := G1.two
      by_cases hlt : k < ds.length
      rotate_left
      · obtain ⟨r0, r1⟩ := R1.two
        have rf0 := R1.fz 0
        have rf1 := R1.fz 1
        go_wp2_with fail
        refine bodyPost_ret (v := .agg #[.slice (some ⟨g', 0, none⟩) ds.length c1, .slice B1 ls.length c2]) (by simp [results, Tryz.results22, go_sem, r0, r1]) rfl ⟨_, c1, B1, c2, rfl, ?_, ?_, ?_, fun _ => ⟨g', rfl, by omega, (((P1.other (by omega)).other (by omega)).mono (fun o h => by obtain ⟨k', h1, h2⟩ := h; exact ⟨k', by omega, h2⟩))⟩, U4⟩
        · have := ((V1.other (k := w.heap.size + 1) (j := 0) (u := .slice (some ⟨g', 0, none⟩) ds.length c1) (by omega) (by omega) (by omega)).other (k := w.heap.size + 1) (j := 1) (u := .slice B1 ls.length c2) (by omega) (by omega) (by omega)).devs (cap := c1) (by simpa [World.setCell] using zg1) f1 (by unfold maxLen; omega)
          exact this
        · have := (K1.setB (k := w.heap.size + 1) (j := 0) (u := .slice (some ⟨g', 0, none⟩) ds.length c1) nb2).setB (k := w.heap.size + 1) (j := 1) (u := .slice B1 ls.length c2) nb2
          unfold Links
          simpa [World.setCell] using this
        · exact (D1.setCell (by simp) _).setCell (by simp) _
      obtain ⟨d, hxk⟩ : ∃ d, ds[k]? = some d := ⟨_, List.getElem?_eq_getElem hlt⟩
      have HX : Hid (ds[k]? = some d) := hxk
      have k1 : (0 : Int) ≤ (k : Int) := by omega
      have k2 : (k : Int) < (ds.length : Int) := by omega
      clear hxk
      obtain ⟨vb1, vr1, vt1, ⟨c0, c1', c2', c3, c4, c5, c6⟩, ⟨s1, s2, s3⟩, _, _, _⟩ := V1 k d HX.out
      obtain ⟨Ab, cb, rfl, _⟩ := id s1
      obtain ⟨Ar, cr, rfl, _⟩ := id s2
      obtain ⟨At, ct, rfl, _⟩ := id s3
      have CC : Hid (Calls Tryz.prog 61 #[.slice Ab d.backs.length cb] _ _) := copy_ints _ s1 (hS.out.backs d (List.mem_of_getElem? HX.out))
      have HL1 : Hid (d.backs.length = d.backs.length) := rfl
      clear s1 s2 s3
      go_wp2_with fail
      refine CC.out.mono ?_
      rintro e w20 ⟨A2, q2, rfl, S2, Z2, hb2⟩
      have yy2 := hb2.size
      have D20 := chnN hb2 D1
      have G20 := G1.keep hb2
      have R20 := R1.keep hb2
      have K20 := SlAt.mono (SlAt.below K1 hb2 (fun _ _ _ h => h)) hb2.size (fun _ _ _ h => h)
      have I20 := I1.below hb2
      have V20 := V1.below hb2
      have zg2 : g' < w20.heap.size := by omega
      have zh2 : HI ≤ w20.heap.size := by omega
      have V2 := V20.set4 HX.out S2 (Z2 _ _ zh1) (by omega) hgHI
      have D2 := D20.setCell (p := ⟨g', k * 7 + 4, none⟩) (by simp; omega) (.slice A2 d.backs.length q2)
      have G2 := G20.setO (b := g') (j := k * 7 + 4) (by omega) (.slice A2 d.backs.length q2)
      have R2 := R20.setO (b := g') (j := k * 7 + 4) (by omega) (.slice A2 d.backs.length q2)
      have K2 := K20.setB (k := g') (j := k * 7 + 4) (u := .slice A2 d.backs.length q2) nb3
      have I2 := I20.set (k := g') (j := k * 7 + 4) (u := .slice A2 d.backs.length q2)
      have P2 := (P1.below hb2 zg1).set (j := k * 7 + 4) I20 (Hi.of (Z2 0 w.heap.size (by omega)))
      clear P1
      have fz2 := I20.fz (k * 7 + 4)
      obtain ⟨_, _, _, ⟨_, _, _, _, e4, e5, e6⟩, _⟩ := V20 k d HX.out
      have ee2 : ∃ v, w20.cell? ⟨g', k * 7 + 4, none⟩ = some v := ⟨_, e4⟩
      obtain ⟨ev2, ec2⟩ := ee2
      have sz2 : (w20.setCell ⟨g', k * 7 + 4, none⟩ (.slice A2 d.backs.length q2)).heap.size = w20.heap.size := by simp [World.setCell]
      rw [sz2.symm] at K2 zg2 zh2
      clear V1 D1 G1 R1 K1 I1 c0 c1' c2' c3 c4 c5 c6 e4 e5 e6 CC S2 Z2 hb2 V20 D20 G20 R20 K20 I20 HL1 zg1 zh1 yy2
      go_upto_region 7 with fail
      generalize hW2 : w20.setCell ⟨g', k * 7 + 4, none⟩ (.slice A2 d.backs.length q2) = w2 at *
      clear hW2 fz2 ec2 sz2
      obtain ⟨vb2, vr2, vt2, ⟨c0, c1', c2', c3, c4, c5, c6⟩, ⟨s1, s2, s3⟩, _, _, _⟩ := V2 k d HX.out
      obtain ⟨Ab, cb, rfl, _⟩ := id s1
      obtain ⟨Ar, cr, rfl, _⟩ := id s2
      obtain ⟨At, ct, rfl, _⟩ := id s3
      have CC : Hid (Calls Tryz.prog 62 #[.slice Ar d.rules.length cr] _ _) := copy_rules _ s2 (hS.out.rules d (List.mem_of_getElem? HX.out))
      have HL2 : Hid (d.rules.length = d.rules.length) := rfl
      clear s1 s2 s3
      go_wp2_with fail
      refine CC.out.mono ?_
      rintro e w30 ⟨A3, q3, rfl, S3, Z3, hb3⟩
      have yy3 := hb3.size
      have D30 := chnN hb3 D2
      have G30 := G2.keep hb3
      have R30 := R2.keep hb3
      have K30 := SlAt.mono (SlAt.below K2 hb3 (fun _ _ _ h => h)) hb3.size (fun _ _ _ h => h)
      have I30 := I2.below hb3
      have V30 := V2.below hb3
      have zg3 : g' < w30.heap.size := by omega
      have zh3 : HI ≤ w30.heap.size := by omega
      have V3 := V30.set5 HX.out S3 (Z3 _ _ zh2) (by omega) hgHI
      have D3 := D30.setCell (p := ⟨g', k * 7 + 5, none⟩) (by simp; omega) (.slice A3 d.rules.length q3)
      have G3 := G30.setO (b := g') (j := k * 7 + 5) (by omega) (.slice A3 d.rules.length q3)
      have R3 := R30.setO (b := g') (j := k * 7 + 5) (by omega) (.slice A3 d.rules.length q3)
      have K3 := K30.setB (k := g') (j := k * 7 + 5) (u := .slice A3 d.rules.length q3) nb3
      have I3 := I30.set (k := g') (j := k * 7 + 5) (u := .slice A3 d.rules.length q3)
      have P3 := (P2.below hb3 zg2).set (j := k * 7 + 5) I30 (Hi.of (Z3 0 w.heap.size (by omega)))
      clear P2
      have fz3 := I30.fz (k * 7 + 5)
      obtain ⟨_, _, _, ⟨_, _, _, _, e4, e5, e6⟩, _⟩ := V30 k d HX.out
      have ee3 : ∃ v, w30.cell? ⟨g', k * 7 + 5, none⟩ = some v := ⟨_, e5⟩
      obtain ⟨ev3, ec3⟩ := ee3
      have sz3 : (w30.setCell ⟨g', k * 7 + 5, none⟩ (.slice A3 d.rules.length q3)).heap.size = w30.heap.size := by simp [World.setCell]
      rw [sz3.symm] at K3 zg3 zh3
      clear V2 D2 G2 R2 K2 I2 c0 c1' c2' c3 c4 c5 c6 e4 e5 e6 CC S3 Z3 hb3 V30 D30 G30 R30 K30 I30 HL2 zg2 zh2 yy3
      go_upto_region 8 with fail
      generalize hW3 : w30.setCell ⟨g', k * 7 + 5, none⟩ (.slice A3 d.rules.length q3) = w3 at *
      clear hW3 fz3 ec3 sz3
      obtain ⟨vb3, vr3, vt3, ⟨c0, c1', c2', c3, c4, c5, c6⟩, ⟨s1, s2, s3⟩, _, _, _⟩ := V3 k d HX.out
      obtain ⟨Ab, cb, rfl, _⟩ := id s1
      obtain ⟨Ar, cr, rfl, _⟩ := id s2
      obtain ⟨At, ct, rfl, _⟩ := id s3
      have CC : Hid (Calls Tryz.prog 63 #[.slice At d.routes.length ct] _ _) := copy_routes _ s3 (hS.out.routes d (List.mem_of_getElem? HX.out))
      have HL3 : Hid (d.routes.length = d.routes.length) := rfl
      clear s1 s2 s3
      go_wp2_with fail
      refine CC.out.mono ?_
      rintro e w40 ⟨A4, q4, rfl, S4, Z4, hb4⟩
      have yy4 := hb4.size
      have D40 := chnN hb4 D3
      have G40 := G3.keep hb4
      have R40 := R3.keep hb4
      have K40 := SlAt.mono (SlAt.below K3 hb4 (fun _ _ _ h => h)) hb4.size (fun _ _ _ h => h)
      have I40 := I3.below hb4
      have V40 := V3.below hb4
      have zg4 : g' < w40.heap.size := by omega
      have zh4 : HI ≤ w40.heap.size := by omega
      have V4 := V40.set6 HX.out S4 (Z4 _ _ zh3) (by omega) hgHI
      have D4 := D40.setCell (p := ⟨g', k * 7 + 6, none⟩) (by simp; omega) (.slice A4 d.routes.length q4)
      have G4 := G40.setO (b := g') (j := k * 7 + 6) (by omega) (.slice A4 d.routes.length q4)
      have R4 := R40.setO (b := g') (j := k * 7 + 6) (by omega) (.slice A4 d.routes.length q4)
      have K4 := K40.setB (k := g') (j := k * 7 + 6) (u := .slice A4 d.routes.length q4) nb3
      have I4 := I40.set (k := g') (j := k * 7 + 6) (u := .slice A4 d.routes.length q4)
      have P4 := (P3.below hb4 zg3).set (j := k * 7 + 6) I40 (Hi.of (Z4 0 w.heap.size (by omega)))
      clear P3
      have fz4 := I40.fz (k * 7 + 6)
      obtain ⟨_, _, _, ⟨_, _, _, _, e4, e5, e6⟩, _⟩ := V40 k d HX.out
      have ee4 : ∃ v, w40.cell? ⟨g', k * 7 + 6, none⟩ = some v := ⟨_, e6⟩
      obtain ⟨ev4, ec4⟩ := ee4
      have sz4 : (w40.setCell ⟨g', k * 7 + 6, none⟩ (.slice A4 d.routes.length q4)).heap.size = w40.heap.size := by simp [World.setCell]
      rw [sz4.symm] at K4 zg4 zh4
      clear V3 D3 G3 R3 K3 I3 c0 c1' c2' c3 c4 c5 c6 e4 e5 e6 CC S4 Z4 hb4 V40 D40 G40 R40 K40 I40 HL3 zg3 zh3 yy4
      go_upto_region 9 with fail
      generalize hW4 : w40.setCell ⟨g', k * 7 + 6, none⟩ (.slice A4 d.routes.length q4) = w4 at *
      clear hW4 fz4 ec4 sz4
      go_wp2_with fail
      go_roundw
      case rel => exact ⟨k + 1, by go_num, by omega, D4, G4, R4, K4, I4, V4, zg4, zh4, P4.mono (fun o h => dn_succ h)⟩
      case measure => simp [intOf]; omega
end Go.Proofs.YtgmjlkllghlmmaaGreat

namespace Go.Proofs.YtgmjlkllghlmmaaGreat
open Go.RowKit Go.Maps

set_option maxHeartbeats 2000000 in
set_option maxRecDepth 100000 in
theorem cloneF (w : World) (b n : Nat) (f : Int × Pk → Option Unit) (h : MapAt pofE unitV w b n f) : Calls Tryz.prog 49 #[.map (some b)] w fun e w' => e = .returned (.map (some w.heap.size)) ∧ MapAt pofE unitV w' w.heap.size n f ∧ Below w.heap.size w w' ∧ w.heap.size < w'.heap.size := by
  obtain ⟨es, clock, hb⟩ := h.isMap
  have hC := h.cloned hb
  have HC : Hid (MapAt pofE unitV (w.alloc (.map es clock)) w.heap.size n f) := hC
  have hB : Below w.heap.size w (w.alloc (.map es clock)) := (Below.refl _ w).alloc (Nat.le_refl _) _
  clear h hC
  have hq := fun w => run_eql_map_nil_sl (P := Tryz.prog) w 69 _ _ (some b) uMf
  go_enter Tryz.func49, Tryz.ntmps49
  go_wp2
  rw [run_callFunc_extern Tryz.func84 (by kernel_rfl) (by kernel_rfl) (by kernel_rfl) (e := Extern.MapsClone.clone) (by kernel_rfl), run_maps_clone_sl w 69 hb]
  simp only [Result.andThen]
  rw [Oper.upon_value]
  go_wp2
  rw [run_typeAssert_map_sl _ 69 20 _ _ _ uMf]
  simp only [Result.andThen]
  rw [Oper.upon_value]
  go_wp2
  go_ret
  exact ⟨rfl, HC.out, hB, by simp⟩
set_option maxHeartbeats 2000000 in
set_option maxRecDepth 100000 in
theorem cloneO (w : World) (b n : Nat) (f : Int × Int → Option (Int × Int)) (h : MapAt prtE endV w b n f) : Calls Tryz.prog 50 #[.map (some b)] w fun e w' => e = .returned (.map (some w.heap.size)) ∧ MapAt prtE endV w' w.heap.size n f ∧ Below w.heap.size w w' ∧ w.heap.size < w'.heap.size := by
  obtain ⟨es, clock, hb⟩ := h.isMap
  have hC := h.cloned hb
  have HC : Hid (MapAt prtE endV (w.alloc (.map es clock)) w.heap.size n f) := hC
  have hB : Below w.heap.size w (w.alloc (.map es clock)) := (Below.refl _ w).alloc (Nat.le_refl _) _
  clear h hC
  have hq := fun w => run_eql_map_nil_sl (P := Tryz.prog) w 70 _ _ (some b) uMo
  go_enter Tryz.func50, Tryz.ntmps50
  go_wp2
  rw [run_callFunc_extern Tryz.func84 (by kernel_rfl) (by kernel_rfl) (by kernel_rfl) (e := Extern.MapsClone.clone) (by kernel_rfl), run_maps_clone_sl w 70 hb]
  simp only [Result.andThen]
  rw [Oper.upon_value]
  go_wp2
  rw [run_typeAssert_map_sl _ 70 20 _ _ _ uMo]
  simp only [Result.andThen]
  rw [Oper.upon_value]
  go_wp2
  go_ret
  exact ⟨rfl, HC.out, hB, by simp⟩
set_option maxHeartbeats 2000000 in
set_option maxRecDepth 100000 in
theorem cloneK (w : World) (b n : Nat) (f : Int × Pk → Option Int) (h : MapAt pofE intV w b n f) : Calls Tryz.prog 51 #[.map (some b)] w fun e w' => e = .returned (.map (some w.heap.size)) ∧ MapAt pofE intV w' w.heap.size n f ∧ Below w.heap.size w w' ∧ w.heap.size < w'.heap.size := by
  obtain ⟨es, clock, hb⟩ := h.isMap
  have hC := h.cloned hb
  have HC : Hid (MapAt pofE intV (w.alloc (.map es clock)) w.heap.size n f) := hC
  have hB : Below w.heap.size w (w.alloc (.map es clock)) := (Below.refl _ w).alloc (Nat.le_refl _) _
  clear h hC
  have hq := fun w => run_eql_map_nil_sl (P := Tryz.prog) w 71 _ _ (some b) uMk
  go_enter Tryz.func51, Tryz.ntmps51
  go_wp2
  rw [run_callFunc_extern Tryz.func84 (by kernel_rfl) (by kernel_rfl) (by kernel_rfl) (e := Extern.MapsClone.clone) (by kernel_rfl), run_maps_clone_sl w 71 hb]
  simp only [Result.andThen]
  rw [Oper.upon_value]
  go_wp2
  rw [run_typeAssert_map_sl _ 71 20 _ _ _ uMk]
  simp only [Result.andThen]
  rw [Oper.upon_value]
  go_wp2
  go_ret
  exact ⟨rfl, HC.out, hB, by simp⟩

/-! ### where a memory lies -/
theorem Hi.loM {lo lo' : Nat} {v : Value} (h : Hi lo v) (hl : lo' ≤ lo) : Hi lo' v := fun b o n c e hn => Nat.le_trans hl (h b o n c e hn)
/-- The blocks from lo to hi, but maps, are as they were. -/
def KM (lo hi : Nat) (W W' : World) : Prop := ∀ b, lo ≤ b → b < hi → (∀ es c, W.heap[b]? ≠ some (.map es c)) → W'.heap[b]? = W.heap[b]?
theorem KM.cell {lo hi : Nat} {W W' : World} (h : KM lo hi W W') {b o : Nat} {v : Value} (hl : lo ≤ b) (hb : b < hi) (hc : W.cell? ⟨b, o, none⟩ = some v) : W'.cell? ⟨b, o, none⟩ = some v := by
  have e := h b hl hb (fun es c e => by
    unfold World.cell? at hc
    rw [e] at hc
    cases hc)
  unfold World.cell? at hc ⊢
  rw [e]
  exact hc
theorem SlAt.mid {α : Type} {lo hi k : Nat} {W W' : World} {R R' : List Value → α → Prop} {v : Value} {xs : List α} (h : SlAt hi W k R v xs) (hv : Hi lo v) (hb : KM lo hi W W') (hR : ∀ cs x, x ∈ xs → R cs x → R' cs x) : SlAt hi W' k R' v xs := by
  obtain ⟨A, cap, e, h0, h1, h2, h3⟩ := h
  refine ⟨A, cap, e, h0, h1, h2, fun hn => ?_⟩
  obtain ⟨b, o, ea, hl, hr⟩ := h3 hn
  have hlo : lo ≤ b := hv b o xs.length cap (by rw [e, ea]) (fun e0 => hn (List.length_eq_zero_iff.1 e0))
  refine ⟨b, o, ea, hl, fun k x hx => ?_⟩
  obtain ⟨cs, c1, c2, c3⟩ := hr k x hx
  exact ⟨cs, c1, hR cs x (List.mem_of_getElem? hx) c2, fun j u hj => hb.cell hlo hl (c3 j u hj)⟩
theorem Devs.blkM {base : Nat} {w : World} {A : Option Addr} {cap g : Nat} {ds : List Dv} (h : Devs base w (.slice A ds.length cap) ds) (hn : ds.length ≠ 0) (e : A = some ⟨g, 0, none⟩) : g < base := by
  obtain ⟨A', cap', e', h0, h1, h2, h3⟩ := h
  obtain ⟨rfl, _, rfl⟩ := Value.slice.inj e'
  obtain ⟨b, o, ea, hl, _⟩ := h3 (fun e0 => hn (by rw [e0]; rfl))
  rw [e] at ea
  cases ea
  exact hl
theorem Devs.mid {lo hi : Nat} {W W' : World} {A : Option Addr} {cap : Nat} {ds : List Dv} (h : Devs hi W (.slice A ds.length cap) ds) (hd : Deep lo W A ds.length) (hb : KM lo hi W W') : Devs hi W' (.slice A ds.length cap) ds ∧ Deep lo W' A ds.length := by
  have hh := h
  obtain ⟨A', cap', e', h0, h1, h2, h3⟩ := h
  obtain ⟨rfl, _, rfl⟩ := Value.slice.inj e'
  refine ⟨⟨A, cap, rfl, h0, h1, h2, fun hx => ?_⟩, fun hn => ?_⟩
  · have hn : ds.length ≠ 0 := fun e => hx (List.length_eq_zero_iff.1 e)
    obtain ⟨b, o, ea, hl, hr⟩ := h3 hx
    obtain ⟨g, eg, hlo, hP⟩ := hd hn
    rw [ea] at eg
    cases eg
    refine ⟨b, 0, ea, hl, fun i x hi => ?_⟩
    obtain ⟨cs, c1, ⟨vb, vr, vt, rfl, s4, s5, s6⟩, c3⟩ := hr i x hi
    have hin : i < ds.length := (List.getElem?_eq_some_iff.1 hi).1
    have k4 := hP (i * 7 + 4) vb ⟨i, hin, Or.inl rfl⟩ (by have := c3 4 vb rfl; rwa [show 0 + i * 7 + 4 = i * 7 + 4 by omega] at this)
    have k5 := hP (i * 7 + 5) vr ⟨i, hin, Or.inr (Or.inl rfl)⟩ (by have := c3 5 vr rfl; rwa [show 0 + i * 7 + 5 = i * 7 + 5 by omega] at this)
    have k6 := hP (i * 7 + 6) vt ⟨i, hin, Or.inr (Or.inr rfl)⟩ (by have := c3 6 vt rfl; rwa [show 0 + i * 7 + 6 = i * 7 + 6 by omega] at this)
    exact ⟨_, c1, ⟨vb, vr, vt, rfl, s4.mid k4 hb (fun _ _ _ h => h), s5.mid k5 hb (fun _ _ _ h => h), s6.mid k6 hb (fun _ _ _ h => h)⟩, fun j' u' hj => hb.cell hlo hl (c3 j' u' hj)⟩
  · obtain ⟨g, eg, hlo, hP⟩ := hd hn
    have hg := hh.blkM hn eg
    obtain ⟨b, o, ea, hl, hr⟩ := h3 (fun e => hn (by rw [e]; rfl))
    rw [eg] at ea
    cases ea
    obtain ⟨x, hx0⟩ : ∃ x, ds[0]? = some x := ⟨_, List.getElem?_eq_getElem (by omega)⟩
    obtain ⟨cs, c1, ⟨vb, vr, vt, rfl, _, _, _⟩, c3⟩ := hr 0 x hx0
    have hc0 := c3 0 _ rfl
    have e := hb g hlo hg (fun es c e => by
      unfold World.cell? at hc0
      rw [e] at hc0
      cases hc0)
    exact ⟨g, eg, hlo, fun o v ho hv => hP o v ho ((cell_of_blockC e).symm.trans hv)⟩
/-- A memory lies between lo and hi. -/
structure MIn (lo hi : Nat) (m : Mp) (ds : List Dv) (ls : List Lk) (W : World) : Prop where
  devs : Devs hi W (.slice m.A ds.length m.cap) ds
  links : Links hi W (.slice m.L ls.length m.cap') ls
  deep : lo = 0 ∨ (Deep lo W m.A ds.length ∧ Hi lo (.slice m.L ls.length m.cap'))
  f : lo ≤ m.f ∧ m.f < hi
  o : lo ≤ m.o ∧ m.o < hi
  k : lo ≤ m.k ∧ m.k < hi
  B : lo ≤ m.B ∧ m.B < hi
  sz : hi ≤ W.heap.size
theorem MIn.km {lo hi : Nat} {m : Mp} {ds : List Dv} {ls : List Lk} {W W' : World} (h : MIn lo hi m ds ls W) (hb : KM lo hi W W') (hs : W.heap.size ≤ W'.heap.size) : MIn lo hi m ds ls W' := by
  rcases h.deep with e | ⟨e1, e2⟩
  · have kt : KT hi W W' := fun b hb' hn => hb b (by omega) hb' hn
    exact ⟨h.devs.kt kt, h.links.kt kt, Or.inl e, h.f, h.o, h.k, h.B, Nat.le_trans h.sz hs⟩
  · obtain ⟨d1, d2⟩ := h.devs.mid e1 hb
    exact ⟨d1, SlAt.mid h.links e2 hb (fun _ _ _ h => h), Or.inr ⟨d2, e2⟩, h.f, h.o, h.k, h.B, Nat.le_trans h.sz hs⟩
/-- A memory stays where what changes lies elsewhere. -/
theorem MemAt.mid {lo hi n : Nat} {m : Mp} {ds : List Dv} {ls : List Lk} {M : Mnd} {W W' : World} (h : MemAt W m ds ls n M) (hi' : MIn lo hi m ds ls W) (hb : ∀ b, lo ≤ b → b < hi → W'.heap[b]? = W.heap[b]?) (hs : W.heap.size ≤ W'.heap.size) : MemAt W' m ds ls n M ∧ MIn lo hi m ds ls W' := by
  have km : KM lo hi W W' := fun b h1 h2 _ => hb b h1 h2
  have k := hi'.km km hs
  exact ⟨⟨⟨(hb _ hi'.B.1 hi'.B.2).trans h.blk.1, h.blk.2⟩, k.devs.mono k.sz, k.links.mono k.sz, h.fl.same (hb _ hi'.f.1 hi'.f.2), h.ow.same (hb _ hi'.o.1 hi'.o.2), h.bk.same (hb _ hi'.k.1 hi'.k.2), h.fo, h.fk, h.ok⟩, k⟩
/-- A copy of a memory: a new one, which knows the same. -/
def MCopy (w : World) (ds : List Dv) (ls : List Lk) (n : Nat) (M : Mnd) (e : Ending) (w' : World) : Prop :=
  ∃ m' : Mp, e = .returned (.pointer (some ⟨m'.B, m'.z, none⟩)) ∧ MemAt w' m' ds ls n M ∧ Below w.heap.size w w' ∧ MIn w.heap.size w'.heap.size m' ds ls w' ∧ m'.z = 0
set_option maxHeartbeats 8000000 in
set_option maxRecDepth 100000 in
theorem mcopy_any (m : Mp) (ds : List Dv) (ls : List Lk) (n : Nat) (M : Mnd) (w : World) (hM : MemAt w m ds ls n M) (hz0 : m.z = 0) (hS : Hid (Small ds ls)) :
    Calls Tryz.prog 11 #[.pointer (some ⟨m.B, m.z, none⟩)] w (MCopy w ds ls n M) := by
  obtain ⟨z, pre, post, ty, B, f, oo, k, A, cap, L, cap'⟩ := m
  dsimp only at hz0
  subst hz0
  have CF : Hid (∀ W, MemAt W ⟨0, pre, post, ty, B, f, oo, k, A, cap, L, cap'⟩ ds ls n M → Calls Tryz.prog 49 #[.map (some f)] W fun e w' => e = .returned (.map (some W.heap.size)) ∧ MapAt pofE unitV w' W.heap.size n M.fl ∧ Below W.heap.size W w' ∧ W.heap.size < w'.heap.size) := fun W h => cloneF W f n M.fl h.fl
  have CO : Hid (∀ W, MemAt W ⟨0, pre, post, ty, B, f, oo, k, A, cap, L, cap'⟩ ds ls n M → Calls Tryz.prog 50 #[.map (some oo)] W fun e w' => e = .returned (.map (some W.heap.size)) ∧ MapAt prtE endV w' W.heap.size n M.ow ∧ Below W.heap.size W w' ∧ W.heap.size < w'.heap.size) := fun W h => cloneO W oo n M.ow h.ow
  have CQ : Hid (∀ W, MemAt W ⟨0, pre, post, ty, B, f, oo, k, A, cap, L, cap'⟩ ds ls n M → Calls Tryz.prog 51 #[.map (some k)] W fun e w' => e = .returned (.map (some W.heap.size)) ∧ MapAt pofE intV w' W.heap.size n M.bk ∧ Below W.heap.size W w' ∧ W.heap.size < w'.heap.size) := fun W h => cloneK W k n M.bk h.bk
  have CN : Hid (∀ W, MemAt W ⟨0, pre, post, ty, B, f, oo, k, A, cap, L, cap'⟩ ds ls n M → Calls Tryz.prog 22 #[.agg #[.slice A ds.length cap, .slice L ls.length cap']] W fun e w' => ∃ A2 q2 B2 q3, e = .returned (.agg #[.slice A2 ds.length q2, .slice B2 ls.length q3]) ∧ (Devs w'.heap.size w' (.slice A2 ds.length q2) ds ∧ Links w'.heap.size w' (.slice B2 ls.length q3) ls ∧ Deep W.heap.size w' A2 ds.length ∧ Hi W.heap.size (.slice B2 ls.length q3)) ∧ Below W.heap.size W w') := fun W h => (copy_deep A L cap cap' ds ls W h.devs h.links hS).mono fun e w' ⟨A2, q2, B2, q3, h1, h2, h3, h4, h5, h6⟩ => ⟨A2, q2, B2, q3, h1, ⟨h2, h3, h5, h6⟩, h4⟩
  have KP : ∀ {W W' : World}, MemAt W ⟨0, pre, post, ty, B, f, oo, k, A, cap, L, cap'⟩ ds ls n M → Below W.heap.size W W' → MemAt W' ⟨0, pre, post, ty, B, f, oo, k, A, cap, L, cap'⟩ ds ls n M := fun h hb => h.below hb
  have FS : ∀ {w' : World}, MemAt w' ⟨0, pre, post, ty, B, f, oo, k, A, cap, L, cap'⟩ ds ls n M → (w'.cell? ⟨B, 0, none⟩ = some (.slice A ds.length cap) ∧ w'.cell? ⟨B, 1, none⟩ = some (.slice L ls.length cap') ∧ w'.cell? ⟨B, 2, none⟩ = some (.map (some f)) ∧ w'.cell? ⟨B, 3, none⟩ = some (.map (some oo)) ∧ w'.cell? ⟨B, 4, none⟩ = some (.map (some k))) := fun h => by
    obtain ⟨c0, c1, c2, c3, c4⟩ := h.cells
    exact ⟨c0, by simpa using c1, by simpa using c2, by simpa using c3, by simpa using c4⟩
  have M0 := hM.drew
  have D0 : Below w.heap.size w w.drew := (Below.refl _ _).drew
  have fin : Hid (∀ (w1 w2 w3 w4 : World) A2 q2 B2 q3, (Devs w1.heap.size w1 (.slice A2 ds.length q2) ds ∧ Links w1.heap.size w1 (.slice B2 ls.length q3) ls ∧ Deep w.heap.size w1 A2 ds.length ∧ Hi w.heap.size (.slice B2 ls.length q3)) → MapAt pofE unitV w2 w1.heap.size n M.fl → Below w1.heap.size w1 w2 → w1.heap.size < w2.heap.size → MapAt prtE endV w3 w2.heap.size n M.ow → Below w2.heap.size w2 w3 → w2.heap.size < w3.heap.size → MapAt pofE intV w4 w3.heap.size n M.bk → Below w3.heap.size w3 w4 → w3.heap.size < w4.heap.size → Below w.heap.size w w1 → MCopy w ds ls n M (.returned (.pointer (some ⟨w4.heap.size, 0, none⟩))) (w4.alloc (.cells #[.slice A2 ds.length q2, .slice B2 ls.length q3, .map (some w1.heap.size), .map (some w2.heap.size), .map (some w3.heap.size)] 73))) := by
    intro w1 w2 w3 w4 A2 q2 B2 q3 ⟨hD, hL, hdp, hhi⟩ hf b2 z2 ho b3 z3 hk b4 z4 b1
    have c3 := chnN b3 b2
    have c4 := chnN b4 c3
    have b5 : Below w4.heap.size w4 (w4.alloc (.cells #[.slice A2 ds.length q2, .slice B2 ls.length q3, .map (some w1.heap.size), .map (some w2.heap.size), .map (some w3.heap.size)] 73)) := (Below.refl _ _).alloc (Nat.le_refl _) _
    have c5 := chnN b5 c4
    have y1 := b1.size
    have hD' := (hD.below c5).mono c5.size
    have hL' := (hL.below c5).mono c5.size
    have km : KM w.heap.size w1.heap.size w1 (w4.alloc (.cells #[.slice A2 ds.length q2, .slice B2 ls.length q3, .map (some w1.heap.size), .map (some w2.heap.size), .map (some w3.heap.size)] 73)) := fun b _ h2 _ => c5.block b h2
    have z5 : w4.heap.size < (w4.alloc (.cells #[.slice A2 ds.length q2, .slice B2 ls.length q3, .map (some w1.heap.size), .map (some w2.heap.size), .map (some w3.heap.size)] 73)).heap.size := by simp
    refine ⟨⟨0, [], [], 73, w4.heap.size, w1.heap.size, w2.heap.size, w3.heap.size, A2, q2, B2, q3⟩, rfl, ⟨⟨bk_new w4 _ _, rfl⟩, hD', hL', ?_, ?_, ?_, by show w1.heap.size ≠ w2.heap.size; omega, by show w1.heap.size ≠ w3.heap.size; omega, by show w2.heap.size ≠ w3.heap.size; omega⟩, chnN c5 b1, ⟨hD', hL', Or.inr ⟨(hD.mid hdp km).2, hhi⟩, ⟨by show w.heap.size ≤ w1.heap.size; omega, by show w1.heap.size < _; omega⟩, ⟨by show w.heap.size ≤ w2.heap.size; omega, by show w2.heap.size < _; omega⟩, ⟨by show w.heap.size ≤ w3.heap.size; omega, by show w3.heap.size < _; omega⟩, ⟨by show w.heap.size ≤ w4.heap.size; omega, z5⟩, Nat.le_refl _⟩, rfl⟩
    · exact hf.same ((b5.block _ (by omega)).trans ((b4.block _ (by omega)).trans (b3.block _ (by omega))))
    · exact ho.same ((b5.block _ (by omega)).trans (b4.block _ (by omega)))
    · exact hk.same (b5.block _ (by omega))
  generalize MCopy w ds ls n M = MC at *
  obtain ⟨c0, c1, c2, c3, c4⟩ := FS hM
  go_enter Tryz.func11, Tryz.ntmps11
  go_upto_region 1 with fail
  go_region_held3 (fun w' => w'.cell? ⟨B, 0, none⟩ = some (.slice A ds.length cap) ∧ w'.cell? ⟨B, 1, none⟩ = some (.slice L ls.length cap') ∧ w'.cell? ⟨B, 2, none⟩ = some (.map (some f)) ∧ w'.cell? ⟨B, 3, none⟩ = some (.map (some oo)) ∧ w'.cell? ⟨B, 4, none⟩ = some (.map (some k))) (exact FS (by first | exact M4 | exact M4.alloc _ | exact M3 | exact M2 | exact M1 | exact M0)) (first | (go_at_call 22; (with_reducible refine (CN.out _ M0).mono ?_); rintro e w1 ⟨A2, q2, B2, q3, rfl, hNO, hb1⟩; have M1 := KP M0 hb1; have D1 := chnN hb1 D0) | (go_at_call 49; (with_reducible refine (CF.out _ M1).mono ?_); rintro e w2 ⟨rfl, hf2, hb2, hz2⟩; have M2 := KP M1 hb2) | (go_at_call 50; (with_reducible refine (CO.out _ M2).mono ?_); rintro e w3 ⟨rfl, ho3, hb3, hz3⟩; have M3 := KP M2 hb3) | (go_at_call 51; (with_reducible refine (CQ.out _ M3).mono ?_); rintro e w4 ⟨rfl, hk4, hb4, hz4⟩; have M4 := KP M3 hb4))
  all_goals
    go_wp2_with fail
    exact fin.out _ _ _ _ _ _ _ _ hNO hf2 hb2 hz2 ho3 hb3 hz3 hk4 hb4 hz4 D1
end Go.Proofs.YtgmjlkllghlmmaaGreat
