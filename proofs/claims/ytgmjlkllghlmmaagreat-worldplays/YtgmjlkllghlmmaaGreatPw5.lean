/-
  WorldPlays: the tale's Do: a hop.
-/
import Derived.Test.YtgmjlkllghlmmaaGreatLy
import Derived.Test.YtgmjlkllghlmmaaGreatGU
import Derived.Deep.RegionHeld3
import Derived.Deep.CutRange
namespace Go.Proofs.YtgmjlkllghlmmaaGreat
open Go.RowKit Go.Maps

set_option maxHeartbeats 8000000 in
set_option maxRecDepth 100000 in
theorem tdo_2 {T g : Nat} {A L : Option Addr} {c d : Nat} {F : Option Addr} {cF : Nat} {S : Option Addr} {cS : Nat} {ds : List Dv} {ls : List Lk} {FL : List Ft} {ar : List Arv} (xi xq s pd sp dp xc : Int) (w : World) (h : Hid (TlAt w T g A L c d F cF S cS ds ls FL ar)) (hn : FL.length ≤ 5000) (ha : ar.length ≤ 5000) {r : Int × List Ft × List Arv} (HR : Hid ((if (inF ar ((xi, xq), ⟨s, pd, sp, dp⟩)).isSome = true then ((mindP ds ls FL xi xq ⟨s, pd, sp, dp⟩ xc).err, (mindP ds ls FL xi xq ⟨s, pd, sp, dp⟩ xc).FL, if (mindP ds ls FL xi xq ⟨s, pd, sp, dp⟩ xc).err = 0 then addA ar ((mindP ds ls FL xi xq ⟨s, pd, sp, dp⟩ xc).tp, (mindP ds ls FL xi xq ⟨s, pd, sp, dp⟩ xc).p) else ar) else (7, FL, ar)) = r)) :
    Calls Tryz.prog 15 #[.pointer (some ⟨T, 0, none⟩), .agg #[.int .i64 2, .int .i64 xi, .int .i64 xq, .int .i64 s, .int .i64 pd, .int .i64 sp, .int .i64 dp, .int .i64 xc]] w fun e w' => e = .returned (.int .i64 r.1) ∧ TOut w T g A L c d F S ds ls r.2.1 r.2.2 w' := by
  have FX := t_facts w T g A L c d F S cS ds ls ar ⟨2, xi, xq, ⟨s, pd, sp, dp⟩, xc⟩
  have G1 := tg_start h.out ⟨2, xi, xq, ⟨s, pd, sp, dp⟩, xc⟩
  have hS : ∀ a, S = some a → a.block < w.heap.size := fun a ha => by
    obtain ⟨A7, c7, hv, hA⟩ := own_sl h.out.seen
    cases hv
    exact (own_block h.out.seen (hA a ha)).1
  have HST : Hid (TSet w (TG w T g A L c d F S cS ds ls ar ⟨2, xi, xq, ⟨s, pd, sp, dp⟩, xc⟩)) := t_set w T g A L c d F S cS ds ls ar _ hS
  generalize TG w T g A L c d F S cS ds ls ar ⟨2, xi, xq, ⟨s, pd, sp, dp⟩, xc⟩ = G at FX G1 HST
  clear h hS
  try dsimp only at G1
  obtain ⟨c0, c1, c2, c3, c4, c5, c6, c7⟩ := FX.cx G1
  dsimp only at c0 c1 c2 c3 c4 c5 c6 c7
  have CT : Hid (∀ W, G FL W → Calls Tryz.prog 19 #[.slice S ar.length cS, .agg #[.int .i64 xi, .int .i64 xq, .int .i64 s, .int .i64 pd, .int .i64 sp, .int .i64 dp]] W fun e w' => e = .returned (.bool (inF ar ((xi, xq), ⟨s, pd, sp, dp⟩)).isSome) ∧ Below W.heap.size W w') := fun W hW => FX.cont hW ((xi, xq), ⟨s, pd, sp, dp⟩)
  have MH : Hid (∀ W, G FL W → Calls Tryz.prog 8 #[.pointer (some ⟨g, 0, none⟩), plA xi xq, pkV ⟨s, pd, sp, dp⟩, .int .i64 xc] W fun e w' => e = .returned (.tuple #[arV (mindP ds ls FL xi xq ⟨s, pd, sp, dp⟩ xc).tp (mindP ds ls FL xi xq ⟨s, pd, sp, dp⟩ xc).p, .int .i64 (mindP ds ls FL xi xq ⟨s, pd, sp, dp⟩ xc).err]) ∧ G (mindP ds ls FL xi xq ⟨s, pd, sp, dp⟩ xc).FL w' ∧ ∀ b cs ty, Bk W b cs ty → ty ≠ 101 → ty ≠ 35 → Bk w' b cs ty) := fun W hW => FX.mh hW hn xi xq ⟨s, pd, sp, dp⟩ xc
  generalize (inF ar ((xi, xq), ⟨s, pd, sp, dp⟩)).isSome = bb at *
  generalize mindP ds ls FL xi xq ⟨s, pd, sp, dp⟩ xc = m9 at *
  obtain ⟨err, ⟨t1, t2⟩, ⟨ys, ye, ysp, ydp⟩, FL9⟩ := m9
  dsimp only at *
  have hz2 : w.heap.size < (w.alloc (.cells (evC ⟨2, xi, xq, ⟨s, pd, sp, dp⟩, xc⟩) 56)).heap.size := by simp
  have G2 := FX.keep G1 ((Below.refl _ (w.alloc (.cells (evC ⟨2, xi, xq, ⟨s, pd, sp, dp⟩, xc⟩) 56))).alloc (Nat.le_refl _) (.cells #[.int .i64 xi, .int .i64 xq] 37))
  have B2 := bk_new' (w.alloc (.cells (evC ⟨2, xi, xq, ⟨s, pd, sp, dp⟩, xc⟩) 56)) #[.int .i64 xi, .int .i64 xq] 37 (w.heap.size + 1) (by simp)
  have G2d := FX.keep G2 (Below.refl _ _).drew
  have B2d := B2.drew
  go_enter Tryz.func15, Tryz.ntmps15
  go_upto_region 14 with fail
  go_step
  go_step
  go_step
  go_step
  go_step
  go_step
  go_step
  go_step
  go_step
  go_step
  go_step
  go_step
  go_step
  go_step
  refine wp_build2 37 _ _ 0 1 (by rfl) _ _ _ (pl_build2 xi xq _) (by rfl) (by rfl) ?_
  repeat (first | go_guarded | go_step)
  go_cut [96] from 87 to 96 (fun v96 wx => v96 = .bool (!bb) ∧ G FL wx ∧ Bk wx (w.heap.size + 1) #[.int .i64 xi, .int .i64 xq] 37)
  case first =>
    refine wp_region_held_drew (S := fun w' => w'.cell? ⟨T, 1, none⟩ = some (.slice S ar.length cS) ∧ w'.cell? ⟨w.heap.size + 1, 0, none⟩ = some (.int .i64 xi) ∧ w'.cell? ⟨w.heap.size + 1, 1, none⟩ = some (.int .i64 xq) ∧ w'.cell? ⟨w.heap.size, 3, none⟩ = some (.int .i64 s) ∧ w'.cell? ⟨w.heap.size, 4, none⟩ = some (.int .i64 pd) ∧ w'.cell? ⟨w.heap.size, 5, none⟩ = some (.int .i64 sp) ∧ w'.cell? ⟨w.heap.size, 6, none⟩ = some (.int .i64 dp)) (by kernel_rfl) ⟨(FX.ct G2d).2, B2d.two.1, B2d.two.2, (FX.cx G2d).2.2.2.1, (FX.cx G2d).2.2.2.2.1, (FX.cx G2d).2.2.2.2.2.1, (FX.cx G2d).2.2.2.2.2.2.1⟩ (fun hHeld => ?_)
    refine' tk 0 rfl (by kernel_rfl) (fun _ _ _ h => h) (by rfl) (by assumption) ?y1 ?r1
    case y1 => (intro w h; (try dsimp only at h); go_simp; (try with_reducible rfl))
    try simp only [lays]
    refine' tk 1 rfl (by kernel_rfl) (fun _ _ _ h => h) (by rfl) (by assumption) ?y2 ?r2
    case y2 => (intro w h; (try dsimp only at h); go_simp; (try with_reducible rfl))
    try simp only [lays]
    refine' tk 2 rfl (by kernel_rfl) (fun _ _ _ h => h) (by rfl) (by assumption) ?y3 ?r3
    case y3 => (intro w h; (try dsimp only at h); go_simp; (try with_reducible rfl))
    try simp only [lays]
    refine' tk 3 rfl (by kernel_rfl) (fun _ _ _ h => h) (by rfl) (by assumption) ?y4 ?r4
    case y4 => (intro w h; (try dsimp only at h); go_simp; (try with_reducible rfl))
    try simp only [lays]
    refine' tk 4 rfl (by kernel_rfl) (fun _ _ _ h => h) (by rfl) (by assumption) ?y5 ?r5
    case y5 => (intro w h; (try dsimp only at h); go_simp; (try with_reducible rfl))
    try simp only [lays]
    refine' tk 5 rfl (by kernel_rfl) (fun _ _ _ h => h) (by rfl) (by assumption) ?y6 ?r6
    case y6 => (intro w h; (try dsimp only at h); go_simp; (try with_reducible rfl))
    try simp only [lays]
    refine' tk 6 rfl (by kernel_rfl) (fun _ _ _ h => h) (by rfl) (by assumption) ?y7 ?r7
    case y7 => (intro w h; (try dsimp only at h); go_simp; (try with_reducible rfl))
    try simp only [lays]
    refine' wpAnyH_take (i := 7) (v := _) rfl (by kernel_rfl) (by kernel_rfl) (by kernel_rfl) (fun _ _ _ h => h) (yields_build2 (by rfl) 43 _ _ 0 1 (by rfl) _ _ _ (fun w => arrival_build xi xq ⟨s, pd, sp, dp⟩ w) (by rfl) (by rfl)) (by assumption) ?gr8
    try simp only [lays]
    refine wpAnyH_ready (rs := [8]) (by kernel_rfl) (by simp) (AllReadyH.cons rfl (fun K hK => ?_) AllReadyH.nil)
    go_simp
    refine (CT.out _ G2d).mono ?_
    rintro e w3 ⟨rfl, hb3⟩
    dsimp only
    have G3 := FX.keep G2d hb3
    have B3 := B2d.keep hb3
    try go_wp2_with fail
    clear hHeld
    refine hK.out _ _ (⟨(FX.ct G3).2, B3.two.1, B3.two.2, (FX.cx G3).2.2.2.1, (FX.cx G3).2.2.2.2.1, (FX.cx G3).2.2.2.2.2.1, (FX.cx G3).2.2.2.2.2.2.1⟩) (fun hHeld => ?_)
    clear hK K
    try simp only [lays]
    refine' tk 9 rfl (by kernel_rfl) (fun _ _ _ h => h) (by rfl) (by assumption) ?y9 ?r9
    case y9 => (intro w h; (try dsimp only at h); go_simp; (try with_reducible rfl))
    try simp only [lays]
    refine wpAnyH_done (by kernel_rfl) ?_ _
    repeat (first | go_guarded | go_step)
    go_meet
    exact ⟨rfl, G3, B3⟩
  case rest =>
    clear G2 B2 G2d B2d G1 c0 c1 c2 c3 c4 c5 c6 c7 CT hz2
    obtain ⟨rfl, G2, B2⟩ := hcut
    cases bb
    · obtain rfl := HR.out.symm
      have hf := FX.out G2
      as_aux_lemma =>
        clear HR HST MH hn ha G2 B2
        repeat (first | go_guarded | go_step)
        go_ret
        exact ⟨rfl, hf⟩
    have G2d := FX.keep G2 (Below.refl _ _).drew
    have B2d := B2.drew
    have hzc : w.heap.size + 1 < wc.heap.size := B2.lt
    repeat (first | go_guarded | go_step)
    go_cut [9, 10] from 97 to 109 (fun v9 v10 wx => ∃ Z, v9 = .pointer (some ⟨Z, 0, none⟩) ∧ Bk wx Z #[.int .i64 t1, .int .i64 t2, .int .i64 ys, .int .i64 ye, .int .i64 ysp, .int .i64 ydp] 43 ∧ v10 = .int .i64 err ∧ G FL9 wx)
    case first =>
      refine wp_region_held_drew (S := fun w' => w'.cell? ⟨T, 0, none⟩ = some (.pointer (some ⟨g, 0, none⟩)) ∧ w'.cell? ⟨w.heap.size + 1, 0, none⟩ = some (.int .i64 xi) ∧ w'.cell? ⟨w.heap.size + 1, 1, none⟩ = some (.int .i64 xq) ∧ w'.cell? ⟨w.heap.size, 3, none⟩ = some (.int .i64 s) ∧ w'.cell? ⟨w.heap.size, 4, none⟩ = some (.int .i64 pd) ∧ w'.cell? ⟨w.heap.size, 5, none⟩ = some (.int .i64 sp) ∧ w'.cell? ⟨w.heap.size, 6, none⟩ = some (.int .i64 dp) ∧ w'.cell? ⟨w.heap.size, 7, none⟩ = some (.int .i64 xc)) (by kernel_rfl) ⟨(FX.ct G2d).1, B2d.two.1, B2d.two.2, (FX.cx G2d).2.2.2.1, (FX.cx G2d).2.2.2.2.1, (FX.cx G2d).2.2.2.2.2.1, (FX.cx G2d).2.2.2.2.2.2.1, (FX.cx G2d).2.2.2.2.2.2.2⟩ (fun hHeld => ?_)
      refine' tk 0 rfl (by kernel_rfl) (fun _ _ _ h => h) (by rfl) (by assumption) ?y18 ?r18
      case y18 => (intro w h; (try dsimp only at h); go_simp; (try with_reducible rfl))
      try simp only [lays]
      refine' tk 1 rfl (by kernel_rfl) (fun _ _ _ h => h) (by rfl) (by assumption) ?y19 ?r19
      case y19 => (intro w h; (try dsimp only at h); go_simp; (try with_reducible rfl))
      try simp only [lays]
      refine' tk 2 rfl (by kernel_rfl) (fun _ _ _ h => h) (by rfl) (by assumption) ?y20 ?r20
      case y20 => (intro w h; (try dsimp only at h); go_simp; (try with_reducible rfl))
      try simp only [lays]
      refine' tk 3 rfl (by kernel_rfl) (fun _ _ _ h => h) (by rfl) (by assumption) ?y21 ?r21
      case y21 => (intro w h; (try dsimp only at h); go_simp; (try with_reducible rfl))
      try simp only [lays]
      refine' tk 4 rfl (by kernel_rfl) (fun _ _ _ h => h) (by rfl) (by assumption) ?y22 ?r22
      case y22 => (intro w h; (try dsimp only at h); go_simp; (try with_reducible rfl))
      try simp only [lays]
      refine' tk 5 rfl (by kernel_rfl) (fun _ _ _ h => h) (by rfl) (by assumption) ?y23 ?r23
      case y23 => (intro w h; (try dsimp only at h); go_simp; (try with_reducible rfl))
      try simp only [lays]
      refine' tk 6 rfl (by kernel_rfl) (fun _ _ _ h => h) (by rfl) (by assumption) ?y24 ?r24
      case y24 => (intro w h; (try dsimp only at h); go_simp; (try with_reducible rfl))
      try simp only [lays]
      refine' tk 7 rfl (by kernel_rfl) (fun _ _ _ h => h) (by rfl) (by assumption) ?y25 ?r25
      case y25 => (intro w h; (try dsimp only at h); go_simp; (try with_reducible rfl))
      try simp only [lays]
      refine' tk 8 rfl (by kernel_rfl) (fun _ _ _ h => h) (by rfl) (by assumption) ?y26 ?r26
      case y26 => (intro w h; (try dsimp only at h); go_simp; (try with_reducible rfl))
      try simp only [lays]
      refine wpAnyH_ready (rs := [9, 13]) (by kernel_rfl) (by simp) (AllReadyH.cons rfl (fun K hK => ?_) ?_)
      · as_aux_lemma =>
          go_simp
          refine (MH.out _ G2d).mono ?_
          rintro e w3 ⟨rfl, G3, KB⟩
          dsimp only
          have B3 := KB _ _ _ B2d (by decide) (by decide)
          try go_wp2_with fail
          clear hHeld
          refine hK.out _ _ (⟨(FX.ct G3).1, B3.two.1, B3.two.2, (FX.cx G3).2.2.2.1, (FX.cx G3).2.2.2.2.1, (FX.cx G3).2.2.2.2.2.1, (FX.cx G3).2.2.2.2.2.2.1, (FX.cx G3).2.2.2.2.2.2.2⟩) (fun hHeld => ?_)
          clear hK K
          try simp only [lays]
          refine' tk 10 rfl (by kernel_rfl) (fun _ _ _ h => h) (by rfl) (by assumption) ?y10 ?r10
          case y10 => (intro w h; (try dsimp only at h); go_simp; (try with_reducible rfl))
          try simp only [lays]
          refine' tk 11 rfl (by kernel_rfl) (fun _ _ _ h => h) (by rfl) (by assumption) ?y11 ?r11
          case y11 => (intro w h; (try dsimp only at h); go_simp; (try with_reducible rfl))
          try simp only [lays]
          refine' tk 12 rfl (by kernel_rfl) (fun _ _ _ h => h) (by rfl) (by assumption) ?y12 ?r12
          case y12 => (intro w h; (try dsimp only at h); go_simp; (try with_reducible rfl))
          try simp only [lays]
          have a0 := (Below.refl w3.heap.size w3).alloc (Nat.le_refl _) (.cells #[.int .i64 0, .int .i64 0, .int .i64 0, .int .i64 0, .int .i64 0, .int .i64 0] 43)
          have a1 := (Below.refl w3.heap.size w3).alloc (Nat.le_refl _) (.cells #[.int .i64 t1, .int .i64 t2, .int .i64 ys, .int .i64 ye, .int .i64 ysp, .int .i64 ydp] 43)
          refine wpAnyH_ready (rs := [13]) (by kernel_rfl) (by simp) (AllReadyH.cons rfl (fun K hK => ?_) AllReadyH.nil)
          go_simp
          skip
          try go_wp2_with fail
          clear hHeld
          refine hK.out _ _ (⟨(FX.ct (FX.keep G3 a0)).1, (B3.keep a0).two.1, (B3.keep a0).two.2, (FX.cx (FX.keep G3 a0)).2.2.2.1, (FX.cx (FX.keep G3 a0)).2.2.2.2.1, (FX.cx (FX.keep G3 a0)).2.2.2.2.2.1, (FX.cx (FX.keep G3 a0)).2.2.2.2.2.2.1, (FX.cx (FX.keep G3 a0)).2.2.2.2.2.2.2⟩) (fun hHeld => ?_)
          clear hK K
          try simp only [lays]
          refine wpAnyH_ready (rs := [14]) (by kernel_rfl) (by simp) (AllReadyH.cons rfl (fun K hK => ?_) AllReadyH.nil)
          go_simp
          skip
          try go_wp2_with fail
          clear hHeld
          refine hK.out _ _ (⟨(FX.ct (FX.keep G3 a1)).1, (B3.keep a1).two.1, (B3.keep a1).two.2, (FX.cx (FX.keep G3 a1)).2.2.2.1, (FX.cx (FX.keep G3 a1)).2.2.2.2.1, (FX.cx (FX.keep G3 a1)).2.2.2.2.2.1, (FX.cx (FX.keep G3 a1)).2.2.2.2.2.2.1, (FX.cx (FX.keep G3 a1)).2.2.2.2.2.2.2⟩) (fun hHeld => ?_)
          clear hK K
          try simp only [lays]
          refine' tk 15 rfl (by kernel_rfl) (fun _ _ _ h => h) (by rfl) (by assumption) ?y13 ?r13
          case y13 => (intro w h; (try dsimp only at h); go_simp; (try with_reducible rfl))
          try simp only [lays]
          refine wpAnyH_done (by kernel_rfl) ?_ _
          repeat (first | go_guarded | go_step)
          go_meet
          exact ⟨_, rfl, bk_new w3 _ _, rfl, FX.keep G3 a1⟩
      refine AllReadyH.cons rfl (fun K hK => ?_) AllReadyH.nil
      as_aux_lemma =>
        have a0 := (Below.refl wc.drew.heap.size wc.drew).alloc (Nat.le_refl _) (.cells #[.int .i64 0, .int .i64 0, .int .i64 0, .int .i64 0, .int .i64 0, .int .i64 0] 43)
        have GZ := FX.keep G2d a0
        have BZ := B2d.keep a0
        have ZZ := bk_new' wc.drew #[.int .i64 0, .int .i64 0, .int .i64 0, .int .i64 0, .int .i64 0, .int .i64 0] 43 wc.heap.size rfl
        go_simp
        skip
        try go_wp2_with fail
        clear hHeld
        refine hK.out _ _ (⟨(FX.ct GZ).1, BZ.two.1, BZ.two.2, (FX.cx GZ).2.2.2.1, (FX.cx GZ).2.2.2.2.1, (FX.cx GZ).2.2.2.2.2.1, (FX.cx GZ).2.2.2.2.2.2.1, (FX.cx GZ).2.2.2.2.2.2.2⟩) (fun hHeld => ?_)
        clear hK K
        try simp only [lays]
        refine wpAnyH_ready (rs := [9]) (by kernel_rfl) (by simp) (AllReadyH.cons rfl (fun K hK => ?_) AllReadyH.nil)
        go_simp
        refine (MH.out _ GZ).mono ?_
        rintro e w3 ⟨rfl, G3, KB⟩
        dsimp only
        have B3 := KB _ _ _ BZ (by decide) (by decide)
        have Z3 := KB _ _ _ ZZ (by decide) (by decide)
        try go_wp2_with fail
        clear hHeld
        refine hK.out _ _ (⟨(FX.ct G3).1, B3.two.1, B3.two.2, (FX.cx G3).2.2.2.1, (FX.cx G3).2.2.2.2.1, (FX.cx G3).2.2.2.2.2.1, (FX.cx G3).2.2.2.2.2.2.1, (FX.cx G3).2.2.2.2.2.2.2⟩) (fun hHeld => ?_)
        clear hK K
        try simp only [lays]
        refine' tk 10 rfl (by kernel_rfl) (fun _ _ _ h => h) (by rfl) (by assumption) ?y14 ?r14
        case y14 => (intro w h; (try dsimp only at h); go_simp; (try with_reducible rfl))
        try simp only [lays]
        refine' tk 11 rfl (by kernel_rfl) (fun _ _ _ h => h) (by rfl) (by assumption) ?y15 ?r15
        case y15 => (intro w h; (try dsimp only at h); go_simp; (try with_reducible rfl))
        try simp only [lays]
        refine' tk 12 rfl (by kernel_rfl) (fun _ _ _ h => h) (by rfl) (by assumption) ?y16 ?r16
        case y16 => (intro w h; (try dsimp only at h); go_simp; (try with_reducible rfl))
        try simp only [lays]
        have GS := HST.out (.int .i64 t1) (.int .i64 t2) (.int .i64 ys) (.int .i64 ye) (.int .i64 ysp) (.int .i64 ydp) _ _ _ _ _ _ _ _ _ G3 (by omega) Z3
        have BS := B3.set6 (k := wc.heap.size) (by omega) (.int .i64 t1) (.int .i64 t2) (.int .i64 ys) (.int .i64 ye) (.int .i64 ysp) (.int .i64 ydp)
        have ZS := ((((((Z3.setS (j := 0) (.int .i64 t1)).setS (j := 1) (.int .i64 t2)).setS (j := 2) (.int .i64 ys)).setS (j := 3) (.int .i64 ye)).setS (j := 4) (.int .i64 ysp)).setS (j := 5) (.int .i64 ydp))
        obtain ⟨⟨l0, l1, l2, l3, l4, l5⟩, ⟨f0, f1, f2, f3, f4, f5⟩⟩ := Z3.six
        refine wpAnyH_ready (rs := [14]) (by kernel_rfl) (by simp) (AllReadyH.cons rfl (fun K hK => ?_) AllReadyH.nil)
        go_simp
        skip
        try go_wp2_with fail
        clear hHeld
        refine hK.out _ _ (⟨(FX.ct GS).1, BS.two.1, BS.two.2, (FX.cx GS).2.2.2.1, (FX.cx GS).2.2.2.2.1, (FX.cx GS).2.2.2.2.2.1, (FX.cx GS).2.2.2.2.2.2.1, (FX.cx GS).2.2.2.2.2.2.2⟩) (fun hHeld => ?_)
        clear hK K
        try simp only [lays]
        refine' tk 15 rfl (by kernel_rfl) (fun _ _ _ h => h) (by rfl) (by assumption) ?y17 ?r17
        case y17 => (intro w h; (try dsimp only at h); go_simp; (try with_reducible rfl))
        try simp only [lays]
        refine wpAnyH_done (by kernel_rfl) ?_ _
        repeat (first | go_guarded | go_step)
        go_meet
        exact ⟨_, rfl, ZS, rfl, GS⟩
    case rest =>
      clear G2 B2 G2d B2d hzc HST MH
      obtain ⟨Z, rfl, BZ, rfl, G3⟩ := hcut
      obtain ⟨⟨l0, l1, l2, l3, l4, l5⟩, jk⟩ := BZ.six
      clear jk
      by_cases he : err = 0
      · subst he
        obtain rfl : r = (0, FL9, addA ar ((t1, t2), ⟨ys, ye, ysp, ydp⟩)) := HR.out.symm
        as_aux_lemma =>
          clear HR hn BZ
          repeat (first | go_guarded | go_step)
          refine (FX.cm G3 ha ((t1, t2), ⟨ys, ye, ysp, ydp⟩)).mono ?_
          rintro e w4 ⟨⟨v, rfl⟩, hf⟩
          dsimp only
          repeat (first | go_guarded | go_step)
          go_ret
          exact ⟨rfl, hf⟩
      · obtain rfl : r = (err, FL9, ar) := by
          rw [← HR.out]
          show (err, FL9, if err = 0 then _ else _) = _
          rw [if_neg he]
        have hed : (err == 0) = false := by simpa using he
        have hf := FX.out G3
        as_aux_lemma =>
          clear HR hn ha BZ he G3
          repeat (first | go_guarded | go_step)
          go_ret
          exact ⟨rfl, hf⟩
end Go.Proofs.YtgmjlkllghlmmaaGreat
