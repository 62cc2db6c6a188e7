/-
  WorldPlays: the tale's Do: a host sends.
-/
import Derived.Test.YtgmjlkllghlmmaaGreatLy
import Derived.Test.YtgmjlkllghlmmaaGreatGU
import Derived.Deep.RegionHeld3
import Derived.Deep.CutRange
namespace Go.Proofs.YtgmjlkllghlmmaaGreat
open Go.RowKit Go.Maps

set_option maxHeartbeats 8000000 in
set_option maxRecDepth 100000 in
theorem tdo_1 {T g : Nat} {A L : Option Addr} {c d : Nat} {F : Option Addr} {cF : Nat} {S : Option Addr} {cS : Nat} {ds : List Dv} {ls : List Lk} {FL : List Ft} {ar : List Arv} (xi xq s pd sp dp xc : Int) (w : World) (h : Hid (TlAt w T g A L c d F cF S cS ds ls FL ar)) (ha : ar.length ≤ 5000) {r : Int × List Ft × List Arv} (HR : Hid (((injP ds ls ar xi ⟨s, pd, sp, dp⟩).1, FL, (injP ds ls ar xi ⟨s, pd, sp, dp⟩).2) = r)) :
    Calls Tryz.prog 15 #[.pointer (some ⟨T, 0, none⟩), .agg #[.int .i64 1, .int .i64 xi, .int .i64 xq, .int .i64 s, .int .i64 pd, .int .i64 sp, .int .i64 dp, .int .i64 xc]] w fun e w' => e = .returned (.int .i64 r.1) ∧ TOut w T g A L c d F S ds ls r.2.1 r.2.2 w' := by
  have FX := t_facts w T g A L c d F S cS ds ls ar ⟨1, xi, xq, ⟨s, pd, sp, dp⟩, xc⟩
  have G1 := tg_start h.out ⟨1, xi, xq, ⟨s, pd, sp, dp⟩, xc⟩
  have hS : ∀ a, S = some a → a.block < w.heap.size := fun a ha => by
    obtain ⟨A7, c7, hv, hA⟩ := own_sl h.out.seen
    cases hv
    exact (own_block h.out.seen (hA a ha)).1
  have HST : Hid (TSet w (TG w T g A L c d F S cS ds ls ar ⟨1, xi, xq, ⟨s, pd, sp, dp⟩, xc⟩)) := t_set w T g A L c d F S cS ds ls ar _ hS
  generalize TG w T g A L c d F S cS ds ls ar ⟨1, xi, xq, ⟨s, pd, sp, dp⟩, xc⟩ = G at FX G1 HST
  clear h hS
  try dsimp only at G1
  obtain ⟨c0, c1, c2, c3, c4, c5, c6, c7⟩ := FX.cx G1
  dsimp only at c0 c1 c2 c3 c4 c5 c6 c7
  have hln := (FX.devs G1).len
  have hm : ds.length ≤ maxLen := Nat.le_trans hln.2.1 hln.2.2
  unfold maxLen at hm
  have hw : IntKind.i64.wrap ((ds.length : Int) - 1) = (ds.length : Int) - 1 := IntWalk.i64_in _ (by omega)
  obtain ⟨t0, t1⟩ := FX.ct G1
  obtain ⟨y0, y1⟩ := FX.cg G1
  clear hln t1 y1
  by_cases hi : 0 ≤ xi ∧ xi < (ds.length : Int)
  rotate_left
  · have I1 : Hid (∀ W, Calls Tryz.prog 23 #[.int .i64 xi, .int .i64 0, .int .i64 ((ds.length : Int) - 1)] W fun e w' => e = .returned (.bool false) ∧ w' = W) := fun W => by
      have := finR xi 0 ((ds.length : Int) - 1) W
      rw [show (decide (0 ≤ xi) && decide (xi ≤ (ds.length : Int) - 1)) = false by rw [Bool.and_eq_false_iff]; simp only [decide_eq_false_iff_not]; omega] at this
      exact this
    obtain rfl : r = (4, FL, ar) := by
      rw [← HR.out, show injP ds ls ar xi ⟨s, pd, sp, dp⟩ = (4, ar) by unfold injP; rw [if_neg hi]]
    as_aux_lemma =>
      clear HR hi hm HST ha
      go_enter Tryz.func15, Tryz.ntmps15
      go_wp2_with fail
      go_quiet ((go_at_call 23; exact Calls.quiet_of_same (I1.out _)))
      repeat (first | go_guarded | go_step)
      go_ret
      exact ⟨rfl, FX.out (FX.keep G1 (belowNN (Below.refl _ _) _))⟩
  obtain ⟨j, rfl⟩ : ∃ j : Nat, xi = (j : Int) := ⟨xi.toNat, by omega⟩
  have hj : j < ds.length := by omega
  obtain ⟨dv, hd⟩ : ∃ dv, ds[j]? = some dv := ⟨_, List.getElem?_eq_getElem hj⟩
  have hgd : ds.getD (j : Int).toNat default = dv := by rw [Int.toNat_natCast, List.getD_eq_getElem?_getD, hd]; rfl
  have I1 : Hid (∀ W, Calls Tryz.prog 23 #[.int .i64 (j : Int), .int .i64 0, .int .i64 ((ds.length : Int) - 1)] W fun e w' => e = .returned (.bool true) ∧ w' = W) := fun W => by
    have := finR (j : Int) 0 ((ds.length : Int) - 1) W
    rw [show (decide (0 ≤ (j : Int)) && decide ((j : Int) ≤ (ds.length : Int) - 1)) = true by rw [Bool.and_eq_true]; simp only [decide_eq_true_eq]; omega] at this
    exact this
  have HI : Hid (injP ds ls ar (j : Int) ⟨s, pd, sp, dp⟩ = if dv.kind = 1 then (if pkOk ⟨s, pd, sp, dp⟩ then (if s = dv.addr then inj2 (addA ar) ar ⟨s, pd, sp, dp⟩ (peerF ls (j : Int) 0) else (1, ar)) else (1, ar)) else (1, ar)) := by
    show _ = _
    unfold injP
    rw [if_pos hi, hgd]
  have HDC : Hid (∀ W, G FL W → ∃ b o vb vr vt, A = some ⟨b, o, none⟩ ∧ b < W.heap.size ∧ (∃ a1 c1, vb = .slice a1 dv.backs.length c1) ∧ (∃ a1 c1, vr = .slice a1 dv.rules.length c1) ∧ (∃ a1 c1, vt = .slice a1 dv.routes.length c1) ∧ W.cell? ⟨b, o + j * 7, none⟩ = some (.string dv.name) ∧ W.cell? ⟨b, o + j * 7 + 1, none⟩ = some (.int .i64 dv.kind) ∧ W.cell? ⟨b, o + j * 7 + 2, none⟩ = some (.int .i64 dv.addr) ∧ W.cell? ⟨b, o + j * 7 + 3, none⟩ = some (.int .u8 (dv.pool : Int)) ∧ W.cell? ⟨b, o + j * 7 + 4, none⟩ = some vb ∧ W.cell? ⟨b, o + j * 7 + 5, none⟩ = some vr ∧ W.cell? ⟨b, o + j * 7 + 6, none⟩ = some vt) := fun W hW => by
    obtain ⟨b, o, vb, vr, vt, hA, hbl, s1, s2, s3, hc⟩ := (FX.devs hW).at hd
    obtain ⟨a1, c1, e1, _⟩ := s1
    obtain ⟨a2, c2, e2, _⟩ := s2
    obtain ⟨a3, c3, e3, _⟩ := s3
    exact ⟨b, o, vb, vr, vt, hA, hbl, ⟨a1, c1, e1⟩, ⟨a2, c2, e2⟩, ⟨a3, c3, e3⟩, hc⟩
  have HJ : Hid ((j : Int) < (ds.length : Int)) := by show _ < _; omega
  clear hd hgd hi hj
  go_enter Tryz.func15, Tryz.ntmps15
  go_wp2_with fail
  go_cut [28] from 15 to 28 (fun v28 wx => v28 = .bool false ∧ G FL wx)
  case first =>
    go_quiet ((go_at_call 23; exact Calls.quiet_of_same (I1.out _)))
    repeat (first | go_guarded | go_step)
    go_meet
    exact ⟨rfl, FX.keep G1 (belowNN (Below.refl _ _) _)⟩
  case rest =>
    clear I1 t0 y0 c0 c1 c2 c3 c4 c5 c6 c7 G1 hw hm
    obtain ⟨rfl, G1⟩ := hcut
    obtain ⟨b, o, vb, vr, vt, rfl, hbl, ⟨a1, k1, rfl⟩, ⟨a2, k2, rfl⟩, ⟨a3, k3, rfl⟩, e0, e1, e2, e3, e4, e5, e6⟩ := HDC.out _ G1
    generalize dv.backs.length = nb at *
    generalize dv.rules.length = nr at *
    generalize dv.routes.length = nt at *
    have q1 : (0 : Int) ≤ (j : Int) := by omega
    have AZ := (Below.refl wc.heap.size wc).alloc (Nat.le_refl _) (.cells #[.string ⟨#[]⟩, .int .i64 0, .int .i64 0, .int .u8 0, .slice none 0 0, .slice none 0 0, .slice none 0 0] 78)
    have GA := FX.keep G1 AZ
    have AD := (Below.refl wc.heap.size wc).alloc (Nat.le_refl _) (.cells #[.string dv.name, .int .i64 dv.kind, .int .i64 dv.addr, .int .u8 (dv.pool : Int), .slice a1 nb k1, .slice a2 nr k2, .slice a3 nt k3] 78)
    have GD := FX.keep G1 AD
    have BD := bk_new wc #[.string dv.name, .int .i64 dv.kind, .int .i64 dv.addr, .int .u8 (dv.pool : Int), .slice a1 nb k1, .slice a2 nr k2, .slice a3 nt k3] 78
    obtain ⟨t0, t1⟩ := FX.ct G1
    obtain ⟨y0, y1⟩ := FX.cg G1
    have x1 := (FX.cx G1).2.1
    obtain ⟨t0', t1'⟩ := FX.ct GA
    obtain ⟨y0', y1'⟩ := FX.cg GA
    have x1' := (FX.cx GA).2.1
    dsimp only at x1 x1'
    have z0 := (AZ.cell (p := ⟨b, o + j * 7, none⟩) hbl).trans e0
    have z1 := (AZ.cell (p := ⟨b, o + j * 7 + 1, none⟩) hbl).trans e1
    have z2 := (AZ.cell (p := ⟨b, o + j * 7 + 2, none⟩) hbl).trans e2
    have z3 := (AZ.cell (p := ⟨b, o + j * 7 + 3, none⟩) hbl).trans e3
    have z4 := (AZ.cell (p := ⟨b, o + j * 7 + 4, none⟩) hbl).trans e4
    have z5 := (AZ.cell (p := ⟨b, o + j * 7 + 5, none⟩) hbl).trans e5
    have z6 := (AZ.cell (p := ⟨b, o + j * 7 + 6, none⟩) hbl).trans e6
    have q2 : (j : Int) < (ds.length : Int) := HJ.out
    clear t1 y1 t1' y1' hbl AZ AD HDC
    repeat (first | go_guarded | go_step)
    go_cut [5] from 29 to 40 (fun v5 wx => ∃ D, v5 = .pointer (some ⟨D, 0, none⟩) ∧ Bk wx D #[.string dv.name, .int .i64 dv.kind, .int .i64 dv.addr, .int .u8 (dv.pool : Int), .slice a1 nb k1, .slice a2 nr k2, .slice a3 nt k3] 78 ∧ G FL wx)
    case first =>
      go_region
      all_goals
        repeat (first | go_guarded | go_step)
        go_meet
        first
          | exact ⟨_, rfl, BD, GD⟩
          | exact ⟨_, rfl, BD, FX.keep GD (Below.refl _ _).drew⟩
    case rest =>
      clear GA GD BD t0 y0 x1 t0' y0' x1' z0 z1 z2 z3 z4 z5 z6 e0 e1 e2 e3 e4 e5 e6 G1
      obtain ⟨D, rfl, BD, G2⟩ := hcut
      have d1 := BD.at 1
      have d2 := BD.at 2
      have PKR : Hid (∀ W, Calls Tryz.prog 31 #[.agg #[.int .i64 s, .int .i64 pd, .int .i64 sp, .int .i64 dp]] W fun e w' => e = .returned (.bool (pkOk ⟨s, pd, sp, dp⟩)) ∧ Below W.heap.size W w') := fun W => right_M ⟨s, pd, sp, dp⟩ W
      obtain ⟨c0, c1, c2, c3, c4, c5, c6, c7⟩ := FX.cx G2
      dsimp only at c0 c1 c2 c3 c4 c5 c6 c7
      clear c0 c1 c2 c7
      by_cases hk : dv.kind = 1
      rotate_left
      · have hkb : (dv.kind != 1) = true := by simpa using hk
        have hi1 : injP ds ls ar (j : Int) ⟨s, pd, sp, dp⟩ = (1, ar) := by rw [HI.out, if_neg hk]
        obtain rfl : r = (1, FL, ar) := by
          rw [← HR.out, hi1]
        have hf := FX.out G2
        as_aux_lemma =>
          clear HR hi1 HI PKR ha HST hk BD d2
          repeat (first | go_guarded | go_step)
          go_ret
          exact ⟨rfl, hf⟩
      have hkb : (dv.kind != 1) = false := by simpa using hk
      cases hpk : pkOk ⟨s, pd, sp, dp⟩
      · have hi1 : injP ds ls ar (j : Int) ⟨s, pd, sp, dp⟩ = (1, ar) := by rw [HI.out, if_pos hk, if_neg (by rw [hpk]; exact Bool.false_ne_true)]
        rw [hpk] at PKR
        obtain rfl : r = (1, FL, ar) := by
          rw [← HR.out, hi1]
        as_aux_lemma =>
          clear HR hi1 HI ha HST d2 hpk hk
          repeat (first | go_guarded | go_step)
          refine (PKR.out _).mono ?_
          rintro e w3 ⟨rfl, hb3⟩
          have hf := FX.out (FX.keep G2 hb3)
          dsimp only
          repeat (first | go_guarded | go_step)
          go_ret
          exact ⟨rfl, hf⟩
      rw [hpk] at PKR
      repeat (first | go_guarded | go_step)
      refine (PKR.out _).mono ?_
      rintro e w3 ⟨rfl, hb3⟩
      dsimp only
      have G3 := FX.keep G2 hb3
      have BD3 := BD.keep hb3
      have d2 := BD3.at 2
      obtain ⟨c0, c1, c2, c3, c4, c5, c6, c7⟩ := FX.cx G3
      dsimp only at c0 c1 c2 c3 c4 c5 c6 c7
      clear hb3 G2 BD d1 c0 c1 c2 c4 c5 c6 c7 PKR
      by_cases hs : s = dv.addr
      rotate_left
      · have hsb : (s != dv.addr) = true := by simpa using hs
        have hi1 : injP ds ls ar (j : Int) ⟨s, pd, sp, dp⟩ = (1, ar) := by rw [HI.out, if_pos hk, if_pos hpk, if_neg hs]
        obtain rfl : r = (1, FL, ar) := by
          rw [← HR.out, hi1]
        have hf := FX.out G3
        as_aux_lemma =>
          clear HR hi1 HI ha HST hk hpk hs BD3
          repeat (first | go_guarded | go_step)
          go_ret
          exact ⟨rfl, hf⟩
      have hsb : (s != dv.addr) = false := by simpa using hs
      have HI2 : Hid (injP ds ls ar (j : Int) ⟨s, pd, sp, dp⟩ = inj2 (addA ar) ar ⟨s, pd, sp, dp⟩ (peerF ls (j : Int) 0)) := by
        show _ = _
        rw [HI.out, if_pos hk, if_pos hpk, if_pos hs]
      have HS9 : Hid (s = dv.addr) := hs
      clear hs hk hpk HI hkb HST BD3
      repeat (first | go_guarded | go_step)
      clear d2 c3 hsb
      have G2d := FX.keep G3 (Below.refl _ _).drew
      go_cut [6, 7] from 58 to 71 (fun v6 v7 wx => ∃ Z, v6 = .pointer (some ⟨Z, 0, none⟩) ∧ Bk wx Z #[.int .i64 (plOf (peerF ls (j : Int) 0)).1, .int .i64 (plOf (peerF ls (j : Int) 0)).2] 37 ∧ v7 = .bool (peerF ls (j : Int) 0).isSome ∧ G FL wx)
      case first =>
        refine wp_region_held_drew (S := fun w' => w'.cell? ⟨T, 0, none⟩ = some (.pointer (some ⟨g, 0, none⟩)) ∧ w'.cell? ⟨g, 0, none⟩ = some (.slice (some ⟨b, o, none⟩) ds.length c) ∧ w'.cell? ⟨g, 1, none⟩ = some (.slice L ls.length d) ∧ w'.cell? ⟨w.heap.size, 1, none⟩ = some (.int .i64 (j : Int))) (by kernel_rfl) ⟨(FX.ct G2d).1, (FX.cg G2d).1, (FX.cg G2d).2, (FX.cx G2d).2.1⟩ (fun hHeld => ?_)
        refine' tk 0 rfl (by kernel_rfl) (fun _ _ _ h => h) (by rfl) (by assumption) ?y35 ?r35
        case y35 => (intro w h; (try dsimp only at h); go_simp; (try with_reducible rfl))
        try simp only [lays]
        refine' tk 1 rfl (by kernel_rfl) (fun _ _ _ h => h) (by rfl) (by assumption) ?y36 ?r36
        case y36 => (intro w h; (try dsimp only at h); go_simp; (try with_reducible rfl))
        try simp only [lays]
        refine' tk 2 rfl (by kernel_rfl) (fun _ _ _ h => h) (by rfl) (by assumption) ?y37 ?r37
        case y37 => (intro w h; (try dsimp only at h); go_simp; (try with_reducible rfl))
        try simp only [lays]
        refine' tk 3 rfl (by kernel_rfl) (fun _ _ _ h => h) (by rfl) (by assumption) ?y38 ?r38
        case y38 => (intro w h; (try dsimp only at h); go_simp; (try with_reducible rfl))
        try simp only [lays]
        refine' tk 4 rfl (by kernel_rfl) (fun _ _ _ h => h) (by rfl) (by assumption) ?y39 ?r39
        case y39 => (intro w h; (try dsimp only at h); go_simp; (try with_reducible rfl))
        try simp only [lays]
        refine' tk 5 rfl (by kernel_rfl) (fun _ _ _ h => h) (by rfl) (by assumption) ?y40 ?r40
        case y40 => (intro w h; (try dsimp only at h); go_simp; (try with_reducible rfl))
        try simp only [lays]
        refine' tk 6 rfl (by kernel_rfl) (fun _ _ _ h => h) (by rfl) (by assumption) ?y41 ?r41
        case y41 => (intro w h; (try dsimp only at h); go_simp; (try with_reducible rfl))
        try simp only [lays]
        refine' tk 7 rfl (by kernel_rfl) (fun _ _ _ h => h) (by rfl) (by assumption) ?y42 ?r42
        case y42 => (intro w h; (try dsimp only at h); go_simp; (try with_reducible rfl))
        try simp only [lays]
        refine' tk 8 rfl (by kernel_rfl) (fun _ _ _ h => h) (by rfl) (by assumption) ?y43 ?r43
        case y43 => (intro w h; (try dsimp only at h); go_simp; (try with_reducible rfl))
        try simp only [lays]
        refine' wpAnyH_take (i := 9) (v := _) rfl (by kernel_rfl) (by kernel_rfl) (by kernel_rfl) (fun _ _ _ h => h) (yields_build1 (by rfl) 37 _ 0 (by rfl) _ _ (fun w => pl_build1 (j : Int) w) (by rfl)) (by assumption) ?gr44
        try simp only [lays]
        refine wpAnyH_ready (rs := [10, 14]) (by kernel_rfl) (by simp) (AllReadyH.cons rfl (fun K hK => ?_) ?_)
        · as_aux_lemma =>
            go_simp
            refine (FX.peer G2d (j : Int) 0).mono ?_
            rintro e w4 ⟨rfl, hb3⟩
            rw [placeV_of]
            dsimp only
            have G3 := FX.keep G2d hb3
            try go_wp2_with fail
            clear hHeld
            refine hK.out _ _ (⟨(FX.ct G3).1, (FX.cg G3).1, (FX.cg G3).2, (FX.cx G3).2.1⟩) (fun hHeld => ?_)
            clear hK K
            try simp only [lays]
            refine' tk 11 rfl (by kernel_rfl) (fun _ _ _ h => h) (by rfl) (by assumption) ?y27 ?r27
            case y27 => (intro w h; (try dsimp only at h); go_simp; (try with_reducible rfl))
            try simp only [lays]
            refine' tk 12 rfl (by kernel_rfl) (fun _ _ _ h => h) (by rfl) (by assumption) ?y28 ?r28
            case y28 => (intro w h; (try dsimp only at h); go_simp; (try with_reducible rfl))
            try simp only [lays]
            refine' tk 13 rfl (by kernel_rfl) (fun _ _ _ h => h) (by rfl) (by assumption) ?y29 ?r29
            case y29 => (intro w h; (try dsimp only at h); go_simp; (try with_reducible rfl))
            try simp only [lays]
            have a0 := (Below.refl w4.heap.size w4).alloc (Nat.le_refl _) (.cells #[.int .i64 0, .int .i64 0] 37)
            have a1 := (Below.refl w4.heap.size w4).alloc (Nat.le_refl _) (.cells #[.int .i64 (plOf (peerF ls (j : Int) 0)).1, .int .i64 (plOf (peerF ls (j : Int) 0)).2] 37)
            refine wpAnyH_ready (rs := [14]) (by kernel_rfl) (by simp) (AllReadyH.cons rfl (fun K hK => ?_) AllReadyH.nil)
            go_simp
            skip
            try go_wp2_with fail
            clear hHeld
            refine hK.out _ _ (⟨(FX.ct (FX.keep G3 a0)).1, (FX.cg (FX.keep G3 a0)).1, (FX.cg (FX.keep G3 a0)).2, (FX.cx (FX.keep G3 a0)).2.1⟩) (fun hHeld => ?_)
            clear hK K
            try simp only [lays]
            refine wpAnyH_ready (rs := [15]) (by kernel_rfl) (by simp) (AllReadyH.cons rfl (fun K hK => ?_) AllReadyH.nil)
            go_simp
            skip
            try go_wp2_with fail
            clear hHeld
            refine hK.out _ _ (⟨(FX.ct (FX.keep G3 a1)).1, (FX.cg (FX.keep G3 a1)).1, (FX.cg (FX.keep G3 a1)).2, (FX.cx (FX.keep G3 a1)).2.1⟩) (fun hHeld => ?_)
            clear hK K
            try simp only [lays]
            refine' tk 16 rfl (by kernel_rfl) (fun _ _ _ h => h) (by rfl) (by assumption) ?y30 ?r30
            case y30 => (intro w h; (try dsimp only at h); go_simp; (try with_reducible rfl))
            try simp only [lays]
            refine wpAnyH_done (by kernel_rfl) ?_ _
            repeat (first | go_guarded | go_step)
            go_meet
            exact ⟨_, rfl, bk_new w4 _ _, rfl, FX.keep G3 a1⟩
        refine AllReadyH.cons rfl (fun K hK => ?_) AllReadyH.nil
        as_aux_lemma =>
          have a0 := (Below.refl w3.drew.heap.size w3.drew).alloc (Nat.le_refl _) (.cells #[.int .i64 0, .int .i64 0] 37)
          have GZ := FX.keep G2d a0
          have ZZ := bk_new' w3.drew #[.int .i64 0, .int .i64 0] 37 w3.heap.size rfl
          go_simp
          skip
          try go_wp2_with fail
          clear hHeld
          refine hK.out _ _ (⟨(FX.ct GZ).1, (FX.cg GZ).1, (FX.cg GZ).2, (FX.cx GZ).2.1⟩) (fun hHeld => ?_)
          clear hK K
          try simp only [lays]
          refine wpAnyH_ready (rs := [10]) (by kernel_rfl) (by simp) (AllReadyH.cons rfl (fun K hK => ?_) AllReadyH.nil)
          go_simp
          refine (FX.peer GZ (j : Int) 0).mono ?_
          rintro e w4 ⟨rfl, hb3⟩
          rw [placeV_of]
          dsimp only
          have G3 := FX.keep GZ hb3
          try go_wp2_with fail
          clear hHeld
          refine hK.out _ _ (⟨(FX.ct G3).1, (FX.cg G3).1, (FX.cg G3).2, (FX.cx G3).2.1⟩) (fun hHeld => ?_)
          clear hK K
          try simp only [lays]
          refine' tk 11 rfl (by kernel_rfl) (fun _ _ _ h => h) (by rfl) (by assumption) ?y31 ?r31
          case y31 => (intro w h; (try dsimp only at h); go_simp; (try with_reducible rfl))
          try simp only [lays]
          refine' tk 12 rfl (by kernel_rfl) (fun _ _ _ h => h) (by rfl) (by assumption) ?y32 ?r32
          case y32 => (intro w h; (try dsimp only at h); go_simp; (try with_reducible rfl))
          try simp only [lays]
          refine' tk 13 rfl (by kernel_rfl) (fun _ _ _ h => h) (by rfl) (by assumption) ?y33 ?r33
          case y33 => (intro w h; (try dsimp only at h); go_simp; (try with_reducible rfl))
          try simp only [lays]
          have Z3 := ZZ.keep hb3
          have hbb : Below w3.drew.heap.size w3.drew w4 := a0.trans (hb3.mono (by simp))
          have hbs := (hbb.setCell (p := ⟨w3.heap.size, 0, none⟩) (Nat.le_refl _) (.int .i64 (plOf (peerF ls (j : Int) 0)).1)).setCell (p := ⟨w3.heap.size, 1, none⟩) (Nat.le_refl _) (.int .i64 (plOf (peerF ls (j : Int) 0)).2)
          have GS := FX.keep G2d hbs
          have ZS := (Z3.setS (j := 0) (.int .i64 (plOf (peerF ls (j : Int) 0)).1)).setS (j := 1) (.int .i64 (plOf (peerF ls (j : Int) 0)).2)
          obtain ⟨z0, z1⟩ := Z3.two
          have z2 := Z3.fz 0
          have z3 := Z3.fz 1
          refine wpAnyH_ready (rs := [15]) (by kernel_rfl) (by simp) (AllReadyH.cons rfl (fun K hK => ?_) AllReadyH.nil)
          go_simp
          skip
          try go_wp2_with fail
          clear hHeld
          refine hK.out _ _ (⟨(FX.ct GS).1, (FX.cg GS).1, (FX.cg GS).2, (FX.cx GS).2.1⟩) (fun hHeld => ?_)
          clear hK K
          try simp only [lays]
          refine' tk 16 rfl (by kernel_rfl) (fun _ _ _ h => h) (by rfl) (by assumption) ?y34 ?r34
          case y34 => (intro w h; (try dsimp only at h); go_simp; (try with_reducible rfl))
          try simp only [lays]
          refine wpAnyH_done (by kernel_rfl) ?_ _
          repeat (first | go_guarded | go_step)
          go_meet
          exact ⟨_, rfl, ZS, rfl, GS⟩
      case rest =>
        clear G2d G3
        obtain ⟨Z, rfl, BZ, rfl, G4⟩ := hcut
        obtain ⟨c0, c1, c2, c3, c4, c5, c6, c7⟩ := FX.cx G4
        dsimp only at c0 c1 c2 c3 c4 c5 c6 c7
        clear c0 c1 c2 c7
        cases hpe : peerF ls (j : Int) 0
        · obtain rfl : r = (7, FL, ar) := by
            rw [← HR.out, HI2.out, hpe]
            rfl
          have hf := FX.out G4
          as_aux_lemma =>
            clear HR HI2 ha BZ G4
            repeat (first | go_guarded | go_step)
            go_ret
            exact ⟨rfl, hf⟩
        rename_i t
        obtain ⟨p1, p2⟩ := t
        obtain rfl : r = (0, FL, addA ar ((p1, p2), ⟨s, pd, sp, dp⟩)) := by
          rw [← HR.out, HI2.out, hpe]
          rfl
        have BZ' : Bk wc Z #[.int .i64 p1, .int .i64 p2] 37 := by rw [hpe] at BZ; exact BZ
        obtain ⟨l0, l1⟩ := BZ'.two
        as_aux_lemma =>
          clear HR HI2 BZ BZ'
          go_upto_region 11 with fail
          go_step
          go_step
          go_step
          go_step
          go_step
          go_step
          go_step
          go_step
          go_step
          go_step
          go_step
          go_step
          go_step
          go_step
          refine wp_build2 43 _ _ 0 1 (by rfl) _ _ _ (arrival_build p1 p2 ⟨s, pd, sp, dp⟩ _) (by rfl) (by rfl) ?_
          repeat (first | go_guarded | go_step)
          refine (FX.cm G4 ha ((p1, p2), ⟨s, pd, sp, dp⟩)).mono ?_
          rintro e w5 ⟨⟨v, rfl⟩, hf⟩
          dsimp only
          repeat (first | go_guarded | go_step)
          go_ret
          exact ⟨rfl, hf⟩
end Go.Proofs.YtgmjlkllghlmmaaGreat
