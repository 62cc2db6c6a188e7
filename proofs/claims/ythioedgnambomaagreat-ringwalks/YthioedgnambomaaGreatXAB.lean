/-
  Package net: links that meet.
-/
import Derived.Test.YthioedgnambomaaGreatLy
import Derived.Test.YthioedgnambomaaGreatXAA
namespace Go.Proofs.YthioedgnambomaaGreat
open Go.RowKit

/-- Two links in blocks of a call's own, one behind the other. -/
def LM (w : World) (n : Nat) (a b c d e f g h : Value) : Prop := Lk4 w n a b c d ∧ Lk4 w (n + 1) e f g h
theorem LM.cells {w : World} {n : Nat} {a b c d e f g h : Value} (H : LM w n a b c d e f g h) : w.cell? ⟨n, 0, none⟩ = some a ∧ w.cell? ⟨n, 1, none⟩ = some b ∧ w.cell? ⟨n, 2, none⟩ = some c ∧ w.cell? ⟨n, 3, none⟩ = some d ∧ w.cell? ⟨n + 1, 0, none⟩ = some e ∧ w.cell? ⟨n + 1, 1, none⟩ = some f ∧ w.cell? ⟨n + 1, 2, none⟩ = some g ∧ w.cell? ⟨n + 1, 3, none⟩ = some h := by
  obtain ⟨⟨_, h1, h2, h3, h4⟩, ⟨_, h5, h6, h7, h8⟩⟩ := H
  exact ⟨h1, h2, h3, h4, h5, h6, h7, h8⟩
theorem LM.keep {W w' : World} {n : Nat} {a b c d e f g h : Value} (hb : Below W.heap.size W w') (H : LM W n a b c d e f g h) : LM w' n a b c d e f g h := ⟨H.1.below hb H.1.1, H.2.below hb H.2.1⟩
theorem LM.drew {w : World} {n : Nat} {a b c d e f g h : Value} (H : LM w n a b c d e f g h) : LM w.drew n a b c d e f g h := H
theorem lm_new (w : World) (a b c d e f g h : Value) (t : TypeId) : LM ((w.alloc (.cells #[a, b, c, d] t)).alloc (.cells #[e, f, g, h] t)) w.heap.size a b c d e f g h := by
  refine ⟨(lk4_new w a b c d t).alloc _, ?_⟩
  have := lk4_new (w.alloc (.cells #[a, b, c, d] t)) e f g h t
  rw [World.size_alloc] at this
  exact this
set_option maxHeartbeats 4000000 in
set_option maxRecDepth 100000 in
theorem meet_0 (la lp lb lq ma mp mb mq : Int) (w : World) (h0 : ((la == ma) && (lp == mp)) = true) : Calls Tryz.prog 60 #[lkA la lp lb lq, lkA ma mp mb mq] w fun e w' => e = .returned (.bool true) ∧ Below w.heap.size w w' := by
  have D0 := (Below.alN (Below.alN (Below.refl w.heap.size w) (.cells #[.int .i64 la, .int .i64 lp, .int .i64 lb, .int .i64 lq] 67)) (.cells #[.int .i64 ma, .int .i64 mp, .int .i64 mb, .int .i64 mq] 67)).drew
  have M0 := (lm_new w (.int .i64 la) (.int .i64 lp) (.int .i64 lb) (.int .i64 lq) (.int .i64 ma) (.int .i64 mp) (.int .i64 mb) (.int .i64 mq) 67).drew
  have FL : Hid (∀ w, Calls Tryz.prog 56 #[lkA la lp lb lq] w fun e w' => e = .returned (plA la lp) ∧ Below w.heap.size w w') := fun w => from_any _ _ _ _ w
  have TL : Hid (∀ w, Calls Tryz.prog 57 #[lkA la lp lb lq] w fun e w' => e = .returned (plA lb lq) ∧ Below w.heap.size w w') := fun w => to_any _ _ _ _ w
  have FM : Hid (∀ w, Calls Tryz.prog 56 #[lkA ma mp mb mq] w fun e w' => e = .returned (plA ma mp) ∧ Below w.heap.size w w') := fun w => from_any _ _ _ _ w
  have TM : Hid (∀ w, Calls Tryz.prog 57 #[lkA ma mp mb mq] w fun e w' => e = .returned (plA mb mq) ∧ Below w.heap.size w w') := fun w => to_any _ _ _ _ w
  have P0 : ∀ w, (binOp .eql 27 (plA la lp) (plA ma mp)).run Tryz.prog w = .ok (.bool true) w := fun w => by rw [place_eq, h0]
  clear h0
  go_enter Tryz.func60, Tryz.ntmps60
  go_wp2_with fail
  refine wp_region_held_drew (S := (fun w' => w'.cell? ⟨w.heap.size, 0, none⟩ = some (.int .i64 la) ∧ w'.cell? ⟨w.heap.size, 1, none⟩ = some (.int .i64 lp) ∧ w'.cell? ⟨w.heap.size, 2, none⟩ = some (.int .i64 lb) ∧ w'.cell? ⟨w.heap.size, 3, none⟩ = some (.int .i64 lq) ∧ w'.cell? ⟨w.heap.size + 1, 0, none⟩ = some (.int .i64 ma) ∧ w'.cell? ⟨w.heap.size + 1, 1, none⟩ = some (.int .i64 mp) ∧ w'.cell? ⟨w.heap.size + 1, 2, none⟩ = some (.int .i64 mb) ∧ w'.cell? ⟨w.heap.size + 1, 3, none⟩ = some (.int .i64 mq))) (by kernel_rfl) (LM.cells (n := w.heap.size) (by assumption)) (fun hHeld => ?_)
  refine' tk 0 rfl (by kernel_rfl) (fun _ _ _ h => h) (by rfl) (by assumption) ?y1 ?r1
  case y1 => (intro w h; (try dsimp only at h); go_simp; (try with_reducible rfl))
  try simp only [lays]
  refine' tk 2 rfl (by kernel_rfl) (fun _ _ _ h => h) (by rfl) (by assumption) ?y2 ?r2
  case y2 => (intro w h; (try dsimp only at h); go_simp; (try with_reducible rfl))
  try simp only [lays]
  refine wpAnyH_ready (rs := [1]) (by kernel_rfl) (by simp) (AllReadyH.cons rfl (fun K hK => ?_) AllReadyH.nil)
  go_simp
  refine (FL.out _).mono ?_; rintro e wz ⟨rfl, hbz⟩; have Dz := chnN (W0 := w) hbz (by assumption); have Pz := LM.keep (n := w.heap.size) hbz (by assumption); clear hbz
  try go_wp2_with fail
  clear hHeld
  refine hK.out _ _ (LM.cells (n := w.heap.size) (by assumption)) (fun hHeld => ?_)
  clear hK K
  try simp only [lays]
  refine wpAnyH_ready (rs := [3]) (by kernel_rfl) (by simp) (AllReadyH.cons rfl (fun K hK => ?_) AllReadyH.nil)
  go_simp
  refine (FM.out _).mono ?_; rintro e wz ⟨rfl, hbz⟩; have Dz := chnN (W0 := w) hbz (by assumption); have Pz := LM.keep (n := w.heap.size) hbz (by assumption); clear hbz
  try go_wp2_with fail
  clear hHeld
  refine hK.out _ _ (LM.cells (n := w.heap.size) (by assumption)) (fun hHeld => ?_)
  clear hK K
  try simp only [lays]
  refine' tk 4 rfl (by kernel_rfl) (fun _ _ _ h => h) (by rfl) (by assumption) ?y5 ?r5
  case y5 => (intro w h; (try dsimp only at h); go_simp; (try with_reducible rfl))
  try simp only [lays]
  refine' tk 5 rfl (by kernel_rfl) (fun _ _ _ h => h) (by rfl) (by assumption) ?y6 ?r6
  case y6 => (intro w h; (try dsimp only at h); go_simp; (try with_reducible rfl))
  try simp only [lays]
  refine' tk0 6 rfl (by kernel_rfl) (fun _ _ _ h => h) (by rfl) (by assumption) ?_
  try simp only [lays]
  refine' tk0 7 rfl (by kernel_rfl) (fun _ _ _ h => h) (by rfl) (by assumption) ?_
  try simp only [lays]
  refine' tk0 8 rfl (by kernel_rfl) (fun _ _ _ h => h) (by rfl) (by assumption) ?_
  try simp only [lays]
  refine' tk0 9 rfl (by kernel_rfl) (fun _ _ _ h => h) (by rfl) (by assumption) ?_
  try simp only [lays]
  refine' tk0 10 rfl (by kernel_rfl) (fun _ _ _ h => h) (by rfl) (by assumption) ?_
  try simp only [lays]
  refine' tk 11 rfl (by kernel_rfl) (fun _ _ _ h => h) (by rfl) (by assumption) ?y12 ?r12
  case y12 => (intro w h; (try dsimp only at h); go_simp; (try with_reducible rfl))
  try simp only [lays]
  refine' tk 12 rfl (by kernel_rfl) (fun _ _ _ h => h) (by rfl) (by assumption) ?y13 ?r13
  case y13 => (intro w h; (try dsimp only at h); go_simp; (try with_reducible rfl))
  try simp only [lays]
  refine' tk0 13 rfl (by kernel_rfl) (fun _ _ _ h => h) (by rfl) (by assumption) ?_
  try simp only [lays]
  refine' tk0 14 rfl (by kernel_rfl) (fun _ _ _ h => h) (by rfl) (by assumption) ?_
  try simp only [lays]
  refine' tk0 15 rfl (by kernel_rfl) (fun _ _ _ h => h) (by rfl) (by assumption) ?_
  try simp only [lays]
  refine' tk0 16 rfl (by kernel_rfl) (fun _ _ _ h => h) (by rfl) (by assumption) ?_
  try simp only [lays]
  refine' tk0 17 rfl (by kernel_rfl) (fun _ _ _ h => h) (by rfl) (by assumption) ?_
  try simp only [lays]
  refine' tk 18 rfl (by kernel_rfl) (fun _ _ _ h => h) (by rfl) (by assumption) ?y19 ?r19
  case y19 => (intro w h; (try dsimp only at h); go_simp; (try with_reducible rfl))
  try simp only [lays]
  refine' tk 19 rfl (by kernel_rfl) (fun _ _ _ h => h) (by rfl) (by assumption) ?y20 ?r20
  case y20 => (intro w h; (try dsimp only at h); go_simp; (try with_reducible rfl))
  try simp only [lays]
  refine' tk0 20 rfl (by kernel_rfl) (fun _ _ _ h => h) (by rfl) (by assumption) ?_
  try simp only [lays]
  refine' tk0 21 rfl (by kernel_rfl) (fun _ _ _ h => h) (by rfl) (by assumption) ?_
  try simp only [lays]
  refine' tk0 22 rfl (by kernel_rfl) (fun _ _ _ h => h) (by rfl) (by assumption) ?_
  try simp only [lays]
  refine' tk0 23 rfl (by kernel_rfl) (fun _ _ _ h => h) (by rfl) (by assumption) ?_
  try simp only [lays]
  refine' tk0 24 rfl (by kernel_rfl) (fun _ _ _ h => h) (by rfl) (by assumption) ?_
  try simp only [lays]
  refine' tk 25 rfl (by kernel_rfl) (fun _ _ _ h => h) (by rfl) (by assumption) ?y26 ?r26
  case y26 => (intro w h; (try dsimp only at h); go_simp; (try with_reducible rfl))
  try simp only [lays]
  refine' tk 26 rfl (by kernel_rfl) (fun _ _ _ h => h) (by rfl) (by assumption) ?y27 ?r27
  case y27 => (intro w h; (try dsimp only at h); go_simp; (try with_reducible rfl))
  try simp only [lays]
  refine wpAnyH_done (by kernel_rfl) ?_ _
  go_wp2_with fail
  go_ret
  exact ⟨rfl, by assumption⟩
set_option maxHeartbeats 4000000 in
set_option maxRecDepth 100000 in
theorem meet_1 (la lp lb lq ma mp mb mq : Int) (w : World) (h0 : ((la == ma) && (lp == mp)) = false) (h1 : ((la == mb) && (lp == mq)) = true) : Calls Tryz.prog 60 #[lkA la lp lb lq, lkA ma mp mb mq] w fun e w' => e = .returned (.bool true) ∧ Below w.heap.size w w' := by
  have D0 := (Below.alN (Below.alN (Below.refl w.heap.size w) (.cells #[.int .i64 la, .int .i64 lp, .int .i64 lb, .int .i64 lq] 67)) (.cells #[.int .i64 ma, .int .i64 mp, .int .i64 mb, .int .i64 mq] 67)).drew
  have M0 := (lm_new w (.int .i64 la) (.int .i64 lp) (.int .i64 lb) (.int .i64 lq) (.int .i64 ma) (.int .i64 mp) (.int .i64 mb) (.int .i64 mq) 67).drew
  have FL : Hid (∀ w, Calls Tryz.prog 56 #[lkA la lp lb lq] w fun e w' => e = .returned (plA la lp) ∧ Below w.heap.size w w') := fun w => from_any _ _ _ _ w
  have TL : Hid (∀ w, Calls Tryz.prog 57 #[lkA la lp lb lq] w fun e w' => e = .returned (plA lb lq) ∧ Below w.heap.size w w') := fun w => to_any _ _ _ _ w
  have FM : Hid (∀ w, Calls Tryz.prog 56 #[lkA ma mp mb mq] w fun e w' => e = .returned (plA ma mp) ∧ Below w.heap.size w w') := fun w => from_any _ _ _ _ w
  have TM : Hid (∀ w, Calls Tryz.prog 57 #[lkA ma mp mb mq] w fun e w' => e = .returned (plA mb mq) ∧ Below w.heap.size w w') := fun w => to_any _ _ _ _ w
  have P0 : ∀ w, (binOp .eql 27 (plA la lp) (plA ma mp)).run Tryz.prog w = .ok (.bool false) w := fun w => by rw [place_eq, h0]
  have P1 : ∀ w, (binOp .eql 27 (plA la lp) (plA mb mq)).run Tryz.prog w = .ok (.bool true) w := fun w => by rw [place_eq, h1]
  clear h0 h1
  go_enter Tryz.func60, Tryz.ntmps60
  go_wp2_with fail
  refine wp_region_held_drew (S := (fun w' => w'.cell? ⟨w.heap.size, 0, none⟩ = some (.int .i64 la) ∧ w'.cell? ⟨w.heap.size, 1, none⟩ = some (.int .i64 lp) ∧ w'.cell? ⟨w.heap.size, 2, none⟩ = some (.int .i64 lb) ∧ w'.cell? ⟨w.heap.size, 3, none⟩ = some (.int .i64 lq) ∧ w'.cell? ⟨w.heap.size + 1, 0, none⟩ = some (.int .i64 ma) ∧ w'.cell? ⟨w.heap.size + 1, 1, none⟩ = some (.int .i64 mp) ∧ w'.cell? ⟨w.heap.size + 1, 2, none⟩ = some (.int .i64 mb) ∧ w'.cell? ⟨w.heap.size + 1, 3, none⟩ = some (.int .i64 mq))) (by kernel_rfl) (LM.cells (n := w.heap.size) (by assumption)) (fun hHeld => ?_)
  refine' tk 0 rfl (by kernel_rfl) (fun _ _ _ h => h) (by rfl) (by assumption) ?y29 ?r29
  case y29 => (intro w h; (try dsimp only at h); go_simp; (try with_reducible rfl))
  try simp only [lays]
  refine' tk 2 rfl (by kernel_rfl) (fun _ _ _ h => h) (by rfl) (by assumption) ?y30 ?r30
  case y30 => (intro w h; (try dsimp only at h); go_simp; (try with_reducible rfl))
  try simp only [lays]
  refine wpAnyH_ready (rs := [1]) (by kernel_rfl) (by simp) (AllReadyH.cons rfl (fun K hK => ?_) AllReadyH.nil)
  go_simp
  refine (FL.out _).mono ?_; rintro e wz ⟨rfl, hbz⟩; have Dz := chnN (W0 := w) hbz (by assumption); have Pz := LM.keep (n := w.heap.size) hbz (by assumption); clear hbz
  try go_wp2_with fail
  clear hHeld
  refine hK.out _ _ (LM.cells (n := w.heap.size) (by assumption)) (fun hHeld => ?_)
  clear hK K
  try simp only [lays]
  refine wpAnyH_ready (rs := [3]) (by kernel_rfl) (by simp) (AllReadyH.cons rfl (fun K hK => ?_) AllReadyH.nil)
  go_simp
  refine (FM.out _).mono ?_; rintro e wz ⟨rfl, hbz⟩; have Dz := chnN (W0 := w) hbz (by assumption); have Pz := LM.keep (n := w.heap.size) hbz (by assumption); clear hbz
  try go_wp2_with fail
  clear hHeld
  refine hK.out _ _ (LM.cells (n := w.heap.size) (by assumption)) (fun hHeld => ?_)
  clear hK K
  try simp only [lays]
  refine' tk 4 rfl (by kernel_rfl) (fun _ _ _ h => h) (by rfl) (by assumption) ?y33 ?r33
  case y33 => (intro w h; (try dsimp only at h); go_simp; (try with_reducible rfl))
  try simp only [lays]
  refine' tk 5 rfl (by kernel_rfl) (fun _ _ _ h => h) (by rfl) (by assumption) ?y34 ?r34
  case y34 => (intro w h; (try dsimp only at h); go_simp; (try with_reducible rfl))
  try simp only [lays]
  refine' tk 6 rfl (by kernel_rfl) (fun _ _ _ h => h) (by rfl) (by assumption) ?y35 ?r35
  case y35 => (intro w h; (try dsimp only at h); go_simp; (try with_reducible rfl))
  try simp only [lays]
  refine' tk 8 rfl (by kernel_rfl) (fun _ _ _ h => h) (by rfl) (by assumption) ?y36 ?r36
  case y36 => (intro w h; (try dsimp only at h); go_simp; (try with_reducible rfl))
  try simp only [lays]
  refine wpAnyH_ready (rs := [7]) (by kernel_rfl) (by simp) (AllReadyH.cons rfl (fun K hK => ?_) AllReadyH.nil)
  go_simp
  refine (FL.out _).mono ?_; rintro e wz ⟨rfl, hbz⟩; have Dz := chnN (W0 := w) hbz (by assumption); have Pz := LM.keep (n := w.heap.size) hbz (by assumption); clear hbz
  try go_wp2_with fail
  clear hHeld
  refine hK.out _ _ (LM.cells (n := w.heap.size) (by assumption)) (fun hHeld => ?_)
  clear hK K
  try simp only [lays]
  refine wpAnyH_ready (rs := [9]) (by kernel_rfl) (by simp) (AllReadyH.cons rfl (fun K hK => ?_) AllReadyH.nil)
  go_simp
  refine (TM.out _).mono ?_; rintro e wz ⟨rfl, hbz⟩; have Dz := chnN (W0 := w) hbz (by assumption); have Pz := LM.keep (n := w.heap.size) hbz (by assumption); clear hbz
  try go_wp2_with fail
  clear hHeld
  refine hK.out _ _ (LM.cells (n := w.heap.size) (by assumption)) (fun hHeld => ?_)
  clear hK K
  try simp only [lays]
  refine' tk 10 rfl (by kernel_rfl) (fun _ _ _ h => h) (by rfl) (by assumption) ?y39 ?r39
  case y39 => (intro w h; (try dsimp only at h); go_simp; (try with_reducible rfl))
  try simp only [lays]
  refine' tk 11 rfl (by kernel_rfl) (fun _ _ _ h => h) (by rfl) (by assumption) ?y40 ?r40
  case y40 => (intro w h; (try dsimp only at h); go_simp; (try with_reducible rfl))
  try simp only [lays]
  refine' tk 12 rfl (by kernel_rfl) (fun _ _ _ h => h) (by rfl) (by assumption) ?y41 ?r41
  case y41 => (intro w h; (try dsimp only at h); go_simp; (try with_reducible rfl))
  try simp only [lays]
  refine' tk0 13 rfl (by kernel_rfl) (fun _ _ _ h => h) (by rfl) (by assumption) ?_
  try simp only [lays]
  refine' tk0 14 rfl (by kernel_rfl) (fun _ _ _ h => h) (by rfl) (by assumption) ?_
  try simp only [lays]
  refine' tk0 15 rfl (by kernel_rfl) (fun _ _ _ h => h) (by rfl) (by assumption) ?_
  try simp only [lays]
  refine' tk0 16 rfl (by kernel_rfl) (fun _ _ _ h => h) (by rfl) (by assumption) ?_
  try simp only [lays]
  refine' tk0 17 rfl (by kernel_rfl) (fun _ _ _ h => h) (by rfl) (by assumption) ?_
  try simp only [lays]
  refine' tk 18 rfl (by kernel_rfl) (fun _ _ _ h => h) (by rfl) (by assumption) ?y47 ?r47
  case y47 => (intro w h; (try dsimp only at h); go_simp; (try with_reducible rfl))
  try simp only [lays]
  refine' tk 19 rfl (by kernel_rfl) (fun _ _ _ h => h) (by rfl) (by assumption) ?y48 ?r48
  case y48 => (intro w h; (try dsimp only at h); go_simp; (try with_reducible rfl))
  try simp only [lays]
  refine' tk0 20 rfl (by kernel_rfl) (fun _ _ _ h => h) (by rfl) (by assumption) ?_
  try simp only [lays]
  refine' tk0 21 rfl (by kernel_rfl) (fun _ _ _ h => h) (by rfl) (by assumption) ?_
  try simp only [lays]
  refine' tk0 22 rfl (by kernel_rfl) (fun _ _ _ h => h) (by rfl) (by assumption) ?_
  try simp only [lays]
  refine' tk0 23 rfl (by kernel_rfl) (fun _ _ _ h => h) (by rfl) (by assumption) ?_
  try simp only [lays]
  refine' tk0 24 rfl (by kernel_rfl) (fun _ _ _ h => h) (by rfl) (by assumption) ?_
  try simp only [lays]
  refine' tk 25 rfl (by kernel_rfl) (fun _ _ _ h => h) (by rfl) (by assumption) ?y54 ?r54
  case y54 => (intro w h; (try dsimp only at h); go_simp; (try with_reducible rfl))
  try simp only [lays]
  refine' tk 26 rfl (by kernel_rfl) (fun _ _ _ h => h) (by rfl) (by assumption) ?y55 ?r55
  case y55 => (intro w h; (try dsimp only at h); go_simp; (try with_reducible rfl))
  try simp only [lays]
  refine wpAnyH_done (by kernel_rfl) ?_ _
  go_wp2_with fail
  go_ret
  exact ⟨rfl, by assumption⟩
set_option maxHeartbeats 4000000 in
set_option maxRecDepth 100000 in
theorem meet_2 (la lp lb lq ma mp mb mq : Int) (w : World) (h0 : ((la == ma) && (lp == mp)) = false) (h1 : ((la == mb) && (lp == mq)) = false) (h2 : ((lb == ma) && (lq == mp)) = true) : Calls Tryz.prog 60 #[lkA la lp lb lq, lkA ma mp mb mq] w fun e w' => e = .returned (.bool true) ∧ Below w.heap.size w w' := by
  have D0 := (Below.alN (Below.alN (Below.refl w.heap.size w) (.cells #[.int .i64 la, .int .i64 lp, .int .i64 lb, .int .i64 lq] 67)) (.cells #[.int .i64 ma, .int .i64 mp, .int .i64 mb, .int .i64 mq] 67)).drew
  have M0 := (lm_new w (.int .i64 la) (.int .i64 lp) (.int .i64 lb) (.int .i64 lq) (.int .i64 ma) (.int .i64 mp) (.int .i64 mb) (.int .i64 mq) 67).drew
  have FL : Hid (∀ w, Calls Tryz.prog 56 #[lkA la lp lb lq] w fun e w' => e = .returned (plA la lp) ∧ Below w.heap.size w w') := fun w => from_any _ _ _ _ w
  have TL : Hid (∀ w, Calls Tryz.prog 57 #[lkA la lp lb lq] w fun e w' => e = .returned (plA lb lq) ∧ Below w.heap.size w w') := fun w => to_any _ _ _ _ w
  have FM : Hid (∀ w, Calls Tryz.prog 56 #[lkA ma mp mb mq] w fun e w' => e = .returned (plA ma mp) ∧ Below w.heap.size w w') := fun w => from_any _ _ _ _ w
  have TM : Hid (∀ w, Calls Tryz.prog 57 #[lkA ma mp mb mq] w fun e w' => e = .returned (plA mb mq) ∧ Below w.heap.size w w') := fun w => to_any _ _ _ _ w
  have P0 : ∀ w, (binOp .eql 27 (plA la lp) (plA ma mp)).run Tryz.prog w = .ok (.bool false) w := fun w => by rw [place_eq, h0]
  have P1 : ∀ w, (binOp .eql 27 (plA la lp) (plA mb mq)).run Tryz.prog w = .ok (.bool false) w := fun w => by rw [place_eq, h1]
  have P2 : ∀ w, (binOp .eql 27 (plA lb lq) (plA ma mp)).run Tryz.prog w = .ok (.bool true) w := fun w => by rw [place_eq, h2]
  clear h0 h1 h2
  go_enter Tryz.func60, Tryz.ntmps60
  go_wp2_with fail
  refine wp_region_held_drew (S := (fun w' => w'.cell? ⟨w.heap.size, 0, none⟩ = some (.int .i64 la) ∧ w'.cell? ⟨w.heap.size, 1, none⟩ = some (.int .i64 lp) ∧ w'.cell? ⟨w.heap.size, 2, none⟩ = some (.int .i64 lb) ∧ w'.cell? ⟨w.heap.size, 3, none⟩ = some (.int .i64 lq) ∧ w'.cell? ⟨w.heap.size + 1, 0, none⟩ = some (.int .i64 ma) ∧ w'.cell? ⟨w.heap.size + 1, 1, none⟩ = some (.int .i64 mp) ∧ w'.cell? ⟨w.heap.size + 1, 2, none⟩ = some (.int .i64 mb) ∧ w'.cell? ⟨w.heap.size + 1, 3, none⟩ = some (.int .i64 mq))) (by kernel_rfl) (LM.cells (n := w.heap.size) (by assumption)) (fun hHeld => ?_)
  refine' tk 0 rfl (by kernel_rfl) (fun _ _ _ h => h) (by rfl) (by assumption) ?y57 ?r57
  case y57 => (intro w h; (try dsimp only at h); go_simp; (try with_reducible rfl))
  try simp only [lays]
  refine' tk 2 rfl (by kernel_rfl) (fun _ _ _ h => h) (by rfl) (by assumption) ?y58 ?r58
  case y58 => (intro w h; (try dsimp only at h); go_simp; (try with_reducible rfl))
  try simp only [lays]
  refine wpAnyH_ready (rs := [1]) (by kernel_rfl) (by simp) (AllReadyH.cons rfl (fun K hK => ?_) AllReadyH.nil)
  go_simp
  refine (FL.out _).mono ?_; rintro e wz ⟨rfl, hbz⟩; have Dz := chnN (W0 := w) hbz (by assumption); have Pz := LM.keep (n := w.heap.size) hbz (by assumption); clear hbz
  try go_wp2_with fail
  clear hHeld
  refine hK.out _ _ (LM.cells (n := w.heap.size) (by assumption)) (fun hHeld => ?_)
  clear hK K
  try simp only [lays]
  refine wpAnyH_ready (rs := [3]) (by kernel_rfl) (by simp) (AllReadyH.cons rfl (fun K hK => ?_) AllReadyH.nil)
  go_simp
  refine (FM.out _).mono ?_; rintro e wz ⟨rfl, hbz⟩; have Dz := chnN (W0 := w) hbz (by assumption); have Pz := LM.keep (n := w.heap.size) hbz (by assumption); clear hbz
  try go_wp2_with fail
  clear hHeld
  refine hK.out _ _ (LM.cells (n := w.heap.size) (by assumption)) (fun hHeld => ?_)
  clear hK K
  try simp only [lays]
  refine' tk 4 rfl (by kernel_rfl) (fun _ _ _ h => h) (by rfl) (by assumption) ?y61 ?r61
  case y61 => (intro w h; (try dsimp only at h); go_simp; (try with_reducible rfl))
  try simp only [lays]
  refine' tk 5 rfl (by kernel_rfl) (fun _ _ _ h => h) (by rfl) (by assumption) ?y62 ?r62
  case y62 => (intro w h; (try dsimp only at h); go_simp; (try with_reducible rfl))
  try simp only [lays]
  refine' tk 6 rfl (by kernel_rfl) (fun _ _ _ h => h) (by rfl) (by assumption) ?y63 ?r63
  case y63 => (intro w h; (try dsimp only at h); go_simp; (try with_reducible rfl))
  try simp only [lays]
  refine' tk 8 rfl (by kernel_rfl) (fun _ _ _ h => h) (by rfl) (by assumption) ?y64 ?r64
  case y64 => (intro w h; (try dsimp only at h); go_simp; (try with_reducible rfl))
  try simp only [lays]
  refine wpAnyH_ready (rs := [7]) (by kernel_rfl) (by simp) (AllReadyH.cons rfl (fun K hK => ?_) AllReadyH.nil)
  go_simp
  refine (FL.out _).mono ?_; rintro e wz ⟨rfl, hbz⟩; have Dz := chnN (W0 := w) hbz (by assumption); have Pz := LM.keep (n := w.heap.size) hbz (by assumption); clear hbz
  try go_wp2_with fail
  clear hHeld
  refine hK.out _ _ (LM.cells (n := w.heap.size) (by assumption)) (fun hHeld => ?_)
  clear hK K
  try simp only [lays]
  refine wpAnyH_ready (rs := [9]) (by kernel_rfl) (by simp) (AllReadyH.cons rfl (fun K hK => ?_) AllReadyH.nil)
  go_simp
  refine (TM.out _).mono ?_; rintro e wz ⟨rfl, hbz⟩; have Dz := chnN (W0 := w) hbz (by assumption); have Pz := LM.keep (n := w.heap.size) hbz (by assumption); clear hbz
  try go_wp2_with fail
  clear hHeld
  refine hK.out _ _ (LM.cells (n := w.heap.size) (by assumption)) (fun hHeld => ?_)
  clear hK K
  try simp only [lays]
  refine' tk 10 rfl (by kernel_rfl) (fun _ _ _ h => h) (by rfl) (by assumption) ?y67 ?r67
  case y67 => (intro w h; (try dsimp only at h); go_simp; (try with_reducible rfl))
  try simp only [lays]
  refine' tk 11 rfl (by kernel_rfl) (fun _ _ _ h => h) (by rfl) (by assumption) ?y68 ?r68
  case y68 => (intro w h; (try dsimp only at h); go_simp; (try with_reducible rfl))
  try simp only [lays]
  refine' tk 12 rfl (by kernel_rfl) (fun _ _ _ h => h) (by rfl) (by assumption) ?y69 ?r69
  case y69 => (intro w h; (try dsimp only at h); go_simp; (try with_reducible rfl))
  try simp only [lays]
  refine' tk 13 rfl (by kernel_rfl) (fun _ _ _ h => h) (by rfl) (by assumption) ?y70 ?r70
  case y70 => (intro w h; (try dsimp only at h); go_simp; (try with_reducible rfl))
  try simp only [lays]
  refine' tk 15 rfl (by kernel_rfl) (fun _ _ _ h => h) (by rfl) (by assumption) ?y71 ?r71
  case y71 => (intro w h; (try dsimp only at h); go_simp; (try with_reducible rfl))
  try simp only [lays]
  refine wpAnyH_ready (rs := [14]) (by kernel_rfl) (by simp) (AllReadyH.cons rfl (fun K hK => ?_) AllReadyH.nil)
  go_simp
  refine (TL.out _).mono ?_; rintro e wz ⟨rfl, hbz⟩; have Dz := chnN (W0 := w) hbz (by assumption); have Pz := LM.keep (n := w.heap.size) hbz (by assumption); clear hbz
  try go_wp2_with fail
  clear hHeld
  refine hK.out _ _ (LM.cells (n := w.heap.size) (by assumption)) (fun hHeld => ?_)
  clear hK K
  try simp only [lays]
  refine wpAnyH_ready (rs := [16]) (by kernel_rfl) (by simp) (AllReadyH.cons rfl (fun K hK => ?_) AllReadyH.nil)
  go_simp
  refine (FM.out _).mono ?_; rintro e wz ⟨rfl, hbz⟩; have Dz := chnN (W0 := w) hbz (by assumption); have Pz := LM.keep (n := w.heap.size) hbz (by assumption); clear hbz
  try go_wp2_with fail
  clear hHeld
  refine hK.out _ _ (LM.cells (n := w.heap.size) (by assumption)) (fun hHeld => ?_)
  clear hK K
  try simp only [lays]
  refine' tk 17 rfl (by kernel_rfl) (fun _ _ _ h => h) (by rfl) (by assumption) ?y74 ?r74
  case y74 => (intro w h; (try dsimp only at h); go_simp; (try with_reducible rfl))
  try simp only [lays]
  refine' tk 18 rfl (by kernel_rfl) (fun _ _ _ h => h) (by rfl) (by assumption) ?y75 ?r75
  case y75 => (intro w h; (try dsimp only at h); go_simp; (try with_reducible rfl))
  try simp only [lays]
  refine' tk 19 rfl (by kernel_rfl) (fun _ _ _ h => h) (by rfl) (by assumption) ?y76 ?r76
  case y76 => (intro w h; (try dsimp only at h); go_simp; (try with_reducible rfl))
  try simp only [lays]
  refine' tk0 20 rfl (by kernel_rfl) (fun _ _ _ h => h) (by rfl) (by assumption) ?_
  try simp only [lays]
  refine' tk0 21 rfl (by kernel_rfl) (fun _ _ _ h => h) (by rfl) (by assumption) ?_
  try simp only [lays]
  refine' tk0 22 rfl (by kernel_rfl) (fun _ _ _ h => h) (by rfl) (by assumption) ?_
  try simp only [lays]
  refine' tk0 23 rfl (by kernel_rfl) (fun _ _ _ h => h) (by rfl) (by assumption) ?_
  try simp only [lays]
  refine' tk0 24 rfl (by kernel_rfl) (fun _ _ _ h => h) (by rfl) (by assumption) ?_
  try simp only [lays]
  refine' tk 25 rfl (by kernel_rfl) (fun _ _ _ h => h) (by rfl) (by assumption) ?y82 ?r82
  case y82 => (intro w h; (try dsimp only at h); go_simp; (try with_reducible rfl))
  try simp only [lays]
  refine' tk 26 rfl (by kernel_rfl) (fun _ _ _ h => h) (by rfl) (by assumption) ?y83 ?r83
  case y83 => (intro w h; (try dsimp only at h); go_simp; (try with_reducible rfl))
  try simp only [lays]
  refine wpAnyH_done (by kernel_rfl) ?_ _
  go_wp2_with fail
  go_ret
  exact ⟨rfl, by assumption⟩
set_option maxHeartbeats 4000000 in
set_option maxRecDepth 100000 in
theorem meet_3 (la lp lb lq ma mp mb mq : Int) (x3 : Bool) (w : World) (h0 : ((la == ma) && (lp == mp)) = false) (h1 : ((la == mb) && (lp == mq)) = false) (h2 : ((lb == ma) && (lq == mp)) = false) (h3 : ((lb == mb) && (lq == mq)) = x3) : Calls Tryz.prog 60 #[lkA la lp lb lq, lkA ma mp mb mq] w fun e w' => e = .returned (.bool x3) ∧ Below w.heap.size w w' := by
  have D0 := (Below.alN (Below.alN (Below.refl w.heap.size w) (.cells #[.int .i64 la, .int .i64 lp, .int .i64 lb, .int .i64 lq] 67)) (.cells #[.int .i64 ma, .int .i64 mp, .int .i64 mb, .int .i64 mq] 67)).drew
  have M0 := (lm_new w (.int .i64 la) (.int .i64 lp) (.int .i64 lb) (.int .i64 lq) (.int .i64 ma) (.int .i64 mp) (.int .i64 mb) (.int .i64 mq) 67).drew
  have FL : Hid (∀ w, Calls Tryz.prog 56 #[lkA la lp lb lq] w fun e w' => e = .returned (plA la lp) ∧ Below w.heap.size w w') := fun w => from_any _ _ _ _ w
  have TL : Hid (∀ w, Calls Tryz.prog 57 #[lkA la lp lb lq] w fun e w' => e = .returned (plA lb lq) ∧ Below w.heap.size w w') := fun w => to_any _ _ _ _ w
  have FM : Hid (∀ w, Calls Tryz.prog 56 #[lkA ma mp mb mq] w fun e w' => e = .returned (plA ma mp) ∧ Below w.heap.size w w') := fun w => from_any _ _ _ _ w
  have TM : Hid (∀ w, Calls Tryz.prog 57 #[lkA ma mp mb mq] w fun e w' => e = .returned (plA mb mq) ∧ Below w.heap.size w w') := fun w => to_any _ _ _ _ w
  have P0 : ∀ w, (binOp .eql 27 (plA la lp) (plA ma mp)).run Tryz.prog w = .ok (.bool false) w := fun w => by rw [place_eq, h0]
  have P1 : ∀ w, (binOp .eql 27 (plA la lp) (plA mb mq)).run Tryz.prog w = .ok (.bool false) w := fun w => by rw [place_eq, h1]
  have P2 : ∀ w, (binOp .eql 27 (plA lb lq) (plA ma mp)).run Tryz.prog w = .ok (.bool false) w := fun w => by rw [place_eq, h2]
  have P3 : ∀ w, (binOp .eql 27 (plA lb lq) (plA mb mq)).run Tryz.prog w = .ok (.bool x3) w := fun w => by rw [place_eq, h3]
  clear h0 h1 h2 h3
  go_enter Tryz.func60, Tryz.ntmps60
  go_wp2_with fail
  refine wp_region_held_drew (S := (fun w' => w'.cell? ⟨w.heap.size, 0, none⟩ = some (.int .i64 la) ∧ w'.cell? ⟨w.heap.size, 1, none⟩ = some (.int .i64 lp) ∧ w'.cell? ⟨w.heap.size, 2, none⟩ = some (.int .i64 lb) ∧ w'.cell? ⟨w.heap.size, 3, none⟩ = some (.int .i64 lq) ∧ w'.cell? ⟨w.heap.size + 1, 0, none⟩ = some (.int .i64 ma) ∧ w'.cell? ⟨w.heap.size + 1, 1, none⟩ = some (.int .i64 mp) ∧ w'.cell? ⟨w.heap.size + 1, 2, none⟩ = some (.int .i64 mb) ∧ w'.cell? ⟨w.heap.size + 1, 3, none⟩ = some (.int .i64 mq))) (by kernel_rfl) (LM.cells (n := w.heap.size) (by assumption)) (fun hHeld => ?_)
  refine' tk 0 rfl (by kernel_rfl) (fun _ _ _ h => h) (by rfl) (by assumption) ?y85 ?r85
  case y85 => (intro w h; (try dsimp only at h); go_simp; (try with_reducible rfl))
  try simp only [lays]
  refine' tk 2 rfl (by kernel_rfl) (fun _ _ _ h => h) (by rfl) (by assumption) ?y86 ?r86
  case y86 => (intro w h; (try dsimp only at h); go_simp; (try with_reducible rfl))
  try simp only [lays]
  refine wpAnyH_ready (rs := [1]) (by kernel_rfl) (by simp) (AllReadyH.cons rfl (fun K hK => ?_) AllReadyH.nil)
  go_simp
  refine (FL.out _).mono ?_; rintro e wz ⟨rfl, hbz⟩; have Dz := chnN (W0 := w) hbz (by assumption); have Pz := LM.keep (n := w.heap.size) hbz (by assumption); clear hbz
  try go_wp2_with fail
  clear hHeld
  refine hK.out _ _ (LM.cells (n := w.heap.size) (by assumption)) (fun hHeld => ?_)
  clear hK K
  try simp only [lays]
  refine wpAnyH_ready (rs := [3]) (by kernel_rfl) (by simp) (AllReadyH.cons rfl (fun K hK => ?_) AllReadyH.nil)
  go_simp
  refine (FM.out _).mono ?_; rintro e wz ⟨rfl, hbz⟩; have Dz := chnN (W0 := w) hbz (by assumption); have Pz := LM.keep (n := w.heap.size) hbz (by assumption); clear hbz
  try go_wp2_with fail
  clear hHeld
  refine hK.out _ _ (LM.cells (n := w.heap.size) (by assumption)) (fun hHeld => ?_)
  clear hK K
  try simp only [lays]
  refine' tk 4 rfl (by kernel_rfl) (fun _ _ _ h => h) (by rfl) (by assumption) ?y89 ?r89
  case y89 => (intro w h; (try dsimp only at h); go_simp; (try with_reducible rfl))
  try simp only [lays]
  refine' tk 5 rfl (by kernel_rfl) (fun _ _ _ h => h) (by rfl) (by assumption) ?y90 ?r90
  case y90 => (intro w h; (try dsimp only at h); go_simp; (try with_reducible rfl))
  try simp only [lays]
  refine' tk 6 rfl (by kernel_rfl) (fun _ _ _ h => h) (by rfl) (by assumption) ?y91 ?r91
  case y91 => (intro w h; (try dsimp only at h); go_simp; (try with_reducible rfl))
  try simp only [lays]
  refine' tk 8 rfl (by kernel_rfl) (fun _ _ _ h => h) (by rfl) (by assumption) ?y92 ?r92
  case y92 => (intro w h; (try dsimp only at h); go_simp; (try with_reducible rfl))
  try simp only [lays]
  refine wpAnyH_ready (rs := [7]) (by kernel_rfl) (by simp) (AllReadyH.cons rfl (fun K hK => ?_) AllReadyH.nil)
  go_simp
  refine (FL.out _).mono ?_; rintro e wz ⟨rfl, hbz⟩; have Dz := chnN (W0 := w) hbz (by assumption); have Pz := LM.keep (n := w.heap.size) hbz (by assumption); clear hbz
  try go_wp2_with fail
  clear hHeld
  refine hK.out _ _ (LM.cells (n := w.heap.size) (by assumption)) (fun hHeld => ?_)
  clear hK K
  try simp only [lays]
  refine wpAnyH_ready (rs := [9]) (by kernel_rfl) (by simp) (AllReadyH.cons rfl (fun K hK => ?_) AllReadyH.nil)
  go_simp
  refine (TM.out _).mono ?_; rintro e wz ⟨rfl, hbz⟩; have Dz := chnN (W0 := w) hbz (by assumption); have Pz := LM.keep (n := w.heap.size) hbz (by assumption); clear hbz
  try go_wp2_with fail
  clear hHeld
  refine hK.out _ _ (LM.cells (n := w.heap.size) (by assumption)) (fun hHeld => ?_)
  clear hK K
  try simp only [lays]
  refine' tk 10 rfl (by kernel_rfl) (fun _ _ _ h => h) (by rfl) (by assumption) ?y95 ?r95
  case y95 => (intro w h; (try dsimp only at h); go_simp; (try with_reducible rfl))
  try simp only [lays]
  refine' tk 11 rfl (by kernel_rfl) (fun _ _ _ h => h) (by rfl) (by assumption) ?y96 ?r96
  case y96 => (intro w h; (try dsimp only at h); go_simp; (try with_reducible rfl))
  try simp only [lays]
  refine' tk 12 rfl (by kernel_rfl) (fun _ _ _ h => h) (by rfl) (by assumption) ?y97 ?r97
  case y97 => (intro w h; (try dsimp only at h); go_simp; (try with_reducible rfl))
  try simp only [lays]
  refine' tk 13 rfl (by kernel_rfl) (fun _ _ _ h => h) (by rfl) (by assumption) ?y98 ?r98
  case y98 => (intro w h; (try dsimp only at h); go_simp; (try with_reducible rfl))
  try simp only [lays]
  refine' tk 15 rfl (by kernel_rfl) (fun _ _ _ h => h) (by rfl) (by assumption) ?y99 ?r99
  case y99 => (intro w h; (try dsimp only at h); go_simp; (try with_reducible rfl))
  try simp only [lays]
  refine wpAnyH_ready (rs := [14]) (by kernel_rfl) (by simp) (AllReadyH.cons rfl (fun K hK => ?_) AllReadyH.nil)
  go_simp
  refine (TL.out _).mono ?_; rintro e wz ⟨rfl, hbz⟩; have Dz := chnN (W0 := w) hbz (by assumption); have Pz := LM.keep (n := w.heap.size) hbz (by assumption); clear hbz
  try go_wp2_with fail
  clear hHeld
  refine hK.out _ _ (LM.cells (n := w.heap.size) (by assumption)) (fun hHeld => ?_)
  clear hK K
  try simp only [lays]
  refine wpAnyH_ready (rs := [16]) (by kernel_rfl) (by simp) (AllReadyH.cons rfl (fun K hK => ?_) AllReadyH.nil)
  go_simp
  refine (FM.out _).mono ?_; rintro e wz ⟨rfl, hbz⟩; have Dz := chnN (W0 := w) hbz (by assumption); have Pz := LM.keep (n := w.heap.size) hbz (by assumption); clear hbz
  try go_wp2_with fail
  clear hHeld
  refine hK.out _ _ (LM.cells (n := w.heap.size) (by assumption)) (fun hHeld => ?_)
  clear hK K
  try simp only [lays]
  refine' tk 17 rfl (by kernel_rfl) (fun _ _ _ h => h) (by rfl) (by assumption) ?y102 ?r102
  case y102 => (intro w h; (try dsimp only at h); go_simp; (try with_reducible rfl))
  try simp only [lays]
  refine' tk 18 rfl (by kernel_rfl) (fun _ _ _ h => h) (by rfl) (by assumption) ?y103 ?r103
  case y103 => (intro w h; (try dsimp only at h); go_simp; (try with_reducible rfl))
  try simp only [lays]
  refine' tk 19 rfl (by kernel_rfl) (fun _ _ _ h => h) (by rfl) (by assumption) ?y104 ?r104
  case y104 => (intro w h; (try dsimp only at h); go_simp; (try with_reducible rfl))
  try simp only [lays]
  refine' tk 20 rfl (by kernel_rfl) (fun _ _ _ h => h) (by rfl) (by assumption) ?y105 ?r105
  case y105 => (intro w h; (try dsimp only at h); go_simp; (try with_reducible rfl))
  try simp only [lays]
  refine' tk 22 rfl (by kernel_rfl) (fun _ _ _ h => h) (by rfl) (by assumption) ?y106 ?r106
  case y106 => (intro w h; (try dsimp only at h); go_simp; (try with_reducible rfl))
  try simp only [lays]
  refine wpAnyH_ready (rs := [21]) (by kernel_rfl) (by simp) (AllReadyH.cons rfl (fun K hK => ?_) AllReadyH.nil)
  go_simp
  refine (TL.out _).mono ?_; rintro e wz ⟨rfl, hbz⟩; have Dz := chnN (W0 := w) hbz (by assumption); have Pz := LM.keep (n := w.heap.size) hbz (by assumption); clear hbz
  try go_wp2_with fail
  clear hHeld
  refine hK.out _ _ (LM.cells (n := w.heap.size) (by assumption)) (fun hHeld => ?_)
  clear hK K
  try simp only [lays]
  refine wpAnyH_ready (rs := [23]) (by kernel_rfl) (by simp) (AllReadyH.cons rfl (fun K hK => ?_) AllReadyH.nil)
  go_simp
  refine (TM.out _).mono ?_; rintro e wz ⟨rfl, hbz⟩; have Dz := chnN (W0 := w) hbz (by assumption); have Pz := LM.keep (n := w.heap.size) hbz (by assumption); clear hbz
  try go_wp2_with fail
  clear hHeld
  refine hK.out _ _ (LM.cells (n := w.heap.size) (by assumption)) (fun hHeld => ?_)
  clear hK K
  try simp only [lays]
  refine' tk 24 rfl (by kernel_rfl) (fun _ _ _ h => h) (by rfl) (by assumption) ?y109 ?r109
  case y109 => (intro w h; (try dsimp only at h); go_simp; (try with_reducible rfl))
  try simp only [lays]
  refine' tk 25 rfl (by kernel_rfl) (fun _ _ _ h => h) (by rfl) (by assumption) ?y110 ?r110
  case y110 => (intro w h; (try dsimp only at h); go_simp; (try with_reducible rfl))
  try simp only [lays]
  refine' tk 26 rfl (by kernel_rfl) (fun _ _ _ h => h) (by rfl) (by assumption) ?y111 ?r111
  case y111 => (intro w h; (try dsimp only at h); go_simp; (try with_reducible rfl))
  try simp only [lays]
  refine wpAnyH_done (by kernel_rfl) ?_ _
  go_wp2_with fail
  go_ret
  exact ⟨rfl, by assumption⟩
theorem meet_any (l m : Lk) (w : World) : Calls Tryz.prog 60 #[lkA l.a l.p l.b l.q, lkA m.a m.p m.b m.q] w fun e w' => e = .returned (.bool (meetB l m)) ∧ Below w.heap.size w w' := by
  unfold meetB
  cases h0 : ((l.a == m.a) && (l.p == m.p))
  · cases h1 : ((l.a == m.b) && (l.p == m.q))
    · cases h2 : ((l.b == m.a) && (l.q == m.p))
      · exact meet_3 _ _ _ _ _ _ _ _ _ w h0 h1 h2 rfl
      · exact meet_2 _ _ _ _ _ _ _ _ w h0 h1 h2
    · exact meet_1 _ _ _ _ _ _ _ _ w h0 h1
  · exact meet_0 _ _ _ _ _ _ _ _ w h0
set_option maxHeartbeats 1000000 in
theorem link1_any (o l : Lk) (n0 : Nat) (w : World) (hT : Lk4 w n0 (.int .i64 l.a) (.int .i64 l.p) (.int .i64 l.b) (.int .i64 l.q)) :
    Calls Tryz.prog 59 #[lkA o.a o.p o.b o.q, .pointer (some ⟨n0, 0, none⟩)] w fun e w' => e = .returned (.bool (meetB o l)) ∧ Below w.heap.size w w' := by
  have D0 := Below.alN (Below.refl w.heap.size w) (.cells #[.int .i64 o.a, .int .i64 o.p, .int .i64 o.b, .int .i64 o.q] 67)
  have T1 := hT.alloc (.cells #[.int .i64 o.a, .int .i64 o.p, .int .i64 o.b, .int .i64 o.q] 67)
  obtain ⟨l0, g0, g1, g2, g3⟩ := T1
  have SM : Hid (∀ w, Calls Tryz.prog 60 #[lkA o.a o.p o.b o.q, lkA l.a l.p l.b l.q] w fun e w' => e = .returned (.bool (meetB o l)) ∧ Below w.heap.size w w') := fun w => meet_any o l w
  clear hT
  generalize meetB o l = x at *
  generalize o.a = oa at *
  generalize o.p = op at *
  generalize o.b = ob at *
  generalize o.q = oq at *
  generalize l.a = la at *
  generalize l.p = lp at *
  generalize l.b = lb at *
  generalize l.q = lq at *
  go_enter Tryz.func59, Tryz.ntmps59
  go_wp2_with fail
  refine (SM.out _).mono ?_
  rintro e w1 ⟨rfl, hb1⟩
  have D1 := chnN hb1 D0
  clear D0 hb1 g0 g1 g2 g3 SM
  go_wp2_with fail
  go_ret
  exact ⟨rfl, D1⟩
theorem any_takeL {ls : List Lk} {k : Nat} {m l : Lk} (h : ls[k]? = some m) : (ls.take (k + 1)).any (fun m => meetB m l) = ((ls.take k).any (fun m => meetB m l) || meetB m l) := by
  obtain ⟨hk, e⟩ := List.getElem?_eq_some_iff.1 h
  rw [List.take_succ_eq_append_getElem hk, e]
  simp
set_option maxHeartbeats 4000000 in
set_option maxRecDepth 100000 in
theorem linkIdx_any (A : Option Addr) (n cap : Nat) (ls : List Lk) (l : Lk) (n0 : Nat) (w : World) (hL : Hid (Links w.heap.size w (.slice A n cap) ls)) (hT : Hid (Lk4 w n0 (.int .i64 l.a) (.int .i64 l.p) (.int .i64 l.b) (.int .i64 l.q))) :
    Calls Tryz.prog 81 #[.slice A n cap, .func (.func 59) #[] #[.pointer (some ⟨n0, 0, none⟩)]] w fun e w' => ∃ j : Int, e = .returned (.int .i64 j) ∧ Hid (decide (0 ≤ j) = ls.any (fun m => meetB m l)) ∧ Below w.heap.size w w' := by
  obtain ⟨rfl, hc, hm⟩ := hL.out.len
  unfold maxLen at hm
  go_enter Tryz.func81, Tryz.ntmps81
  go_wp2_with fail
  go_loopw [8] (fun i wr => ∃ k : Nat, i = .int .i64 (k : Int) ∧ k ≤ ls.length ∧ Below w.heap.size w wr ∧ Hid ((ls.take k).any (fun m => meetB m l) = false)) (fun i _ => ls.length - (intOf i).toNat)
  case atStart => exact ⟨0, rfl, by omega, Below.refl _ _, rfl⟩
  case round =>
    obtain ⟨k, rfl, hk, D1, hno⟩ := hrel
    by_cases hlt : k < ls.length
    · obtain ⟨m, hxk⟩ : ∃ m, ls[k]? = some m := ⟨_, List.getElem?_eq_getElem hlt⟩
      obtain ⟨b, o, rfl, hb, c0, c1, c2, c3⟩ := (hL.out.below D1).at hxk
      have PR : Hid (Calls Tryz.prog 59 #[lkA m.a m.p m.b m.q, .pointer (some ⟨n0, 0, none⟩)] wr fun e w' => e = .returned (.bool (meetB m l)) ∧ Below wr.heap.size wr w') := link1_any m l n0 wr (hT.out.below D1 hT.out.1)
      have HX : Hid (ls[k]? = some m) := hxk
      have k1 : (0 : Int) ≤ (k : Int) := by omega
      have k2 : (k : Int) < (ls.length : Int) := by omega
      clear hL hxk hT
      cases hv : meetB m l
      · rw [hv] at PR
        have HV : Hid ((ls.take (k + 1)).any (fun m => meetB m l) = false) := by show _ = _; rw [any_takeL HX.out, hno.out, hv]; rfl
        clear hv hno HX
        generalize m.a = ma at *
        generalize m.p = mp at *
        generalize m.b = mb at *
        generalize m.q = mq at *
        go_wp2_with fail
        refine PR.out.mono ?_
        rintro e w2 ⟨rfl, hb2⟩
        have D2 := chnN hb2 D1
        clear hb2 D1 c0 c1 c2 c3 PR
        go_wp2_with fail
        go_roundw
        case rel => exact ⟨k + 1, by go_num, by omega, D2, HV⟩
        case measure => simp [intOf]; omega
      · rw [hv] at PR
        have fin : Hid (ls.any (fun m => meetB m l) = true) := List.any_eq_true.2 ⟨m, List.mem_of_getElem? HX.out, hv⟩
        clear hv hno HX
        generalize m.a = ma at *
        generalize m.p = mp at *
        generalize m.b = mb at *
        generalize m.q = mq at *
        go_wp2_with fail
        refine PR.out.mono ?_
        rintro e w2 ⟨rfl, hb2⟩
        have D2 := chnN hb2 D1
        clear hb2 D1 c0 c1 c2 c3 PR
        go_wp2_with fail
        go_ret
        exact ⟨_, rfl, (by show _ = _; rw [fin.out]; simp), D2⟩
    · have fin : Hid (ls.any (fun m => meetB m l) = false) := by
        have := hno.out
        rw [show k = ls.length by omega, List.take_length] at this
        exact this
      go_wp2_with fail
      go_ret
      exact ⟨_, rfl, (by show _ = _; rw [fin.out]; simp), D1⟩
set_option maxHeartbeats 1000000 in
theorem linkHas_any (A : Option Addr) (n cap : Nat) (ls : List Lk) (l : Lk) (n0 : Nat) (w : World) (hL : Hid (Links w.heap.size w (.slice A n cap) ls)) (hT : Hid (Lk4 w n0 (.int .i64 l.a) (.int .i64 l.p) (.int .i64 l.b) (.int .i64 l.q))) :
    Calls Tryz.prog 58 #[.slice A n cap, .func (.func 59) #[] #[.pointer (some ⟨n0, 0, none⟩)]] w fun e w' => e = .returned (.bool (ls.any (fun m => meetB m l))) ∧ Below w.heap.size w w' := by
  have IX : Hid (Calls Tryz.prog 81 #[.slice A n cap, .func (.func 59) #[] #[.pointer (some ⟨n0, 0, none⟩)]] w fun e w' => ∃ j : Int, e = .returned (.int .i64 j) ∧ Hid (decide (0 ≤ j) = ls.any (fun m => meetB m l)) ∧ Below w.heap.size w w') := linkIdx_any A n cap ls l n0 w hL hT
  clear hL hT
  generalize ls.any (fun m => meetB m l) = x at *
  go_enter Tryz.func58, Tryz.ntmps58
  go_wp2_with fail
  refine IX.out.mono ?_
  rintro e w2 ⟨j, rfl, hj, hb2⟩
  clear IX
  go_wp2_with fail
  go_ret
  exact ⟨by rw [hj.out]; rfl, hb2⟩
theorem Lk4.cells {w : World} {n : Nat} {a b c d : Value} (h : Lk4 w n a b c d) : w.cell? ⟨n, 0, none⟩ = some a ∧ w.cell? ⟨n, 1, none⟩ = some b ∧ w.cell? ⟨n, 2, none⟩ = some c ∧ w.cell? ⟨n, 3, none⟩ = some d := h.2
theorem Lk4.keep {W w' : World} {n : Nat} {a b c d : Value} (hb : Below W.heap.size W w') (h : Lk4 W n a b c d) : Lk4 w' n a b c d := h.below hb h.1
end Go.Proofs.YthioedgnambomaaGreat



namespace Go.Proofs.YthioedgnambomaaGreat
open Go.RowKit

set_option maxHeartbeats 4000000 in
set_option maxRecDepth 100000 in
theorem hasPlace_any (d p : Int) (A : Option Addr) (n cap : Nat) (vl : Value) (ds : List Dv) (w : World) (hD : Hid (Devs w.heap.size w (.slice A n cap) ds)) :
    Calls Tryz.prog 16 #[.agg #[.slice A n cap, vl], plA d p] w fun e w' => e = .returned (.bool (isPl ds d p)) ∧ Below w.heap.size w w' := by
  obtain ⟨rfl, hc, hm⟩ := hD.out.len
  unfold maxLen at hm
  have D0 := Below.alN (Below.alN (Below.refl w.heap.size w) (.cells #[.slice A ds.length cap, vl] 25)) (.cells #[.int .i64 d, .int .i64 p] 27)
  have B1 := (box2_new w (.slice A ds.length cap) vl 25).alloc (.cells #[.int .i64 d, .int .i64 p] 27)
  have B0 := box2_new (w.alloc (.cells #[.slice A ds.length cap, vl] 25)) (.int .i64 d) (.int .i64 p) 27
  rw [World.size_alloc] at B0
  obtain ⟨_, q0, q1, _⟩ := id B0
  obtain ⟨_, q2, _, _⟩ := id B1
  unfold isPl
  cases h0 : decide (0 ≤ d)
  · go_enter Tryz.func16, Tryz.ntmps16
    go_wp2_with fail
    go_quiet (fail)
    go_wp2_with fail
    go_ret
    exact ⟨by simp, belowNN D0 _⟩
  cases h1 : decide (d < (ds.length : Int))
  · go_enter Tryz.func16, Tryz.ntmps16
    go_wp2_with fail
    go_quiet (fail)
    go_wp2_with fail
    go_ret
    exact ⟨by simp, belowNN D0 _⟩
  cases h2 : decide (0 ≤ p)
  · go_enter Tryz.func16, Tryz.ntmps16
    go_wp2_with fail
    go_quiet (fail)
    go_wp2_with fail
    go_ret
    exact ⟨by simp, belowNN D0 _⟩
  have hd0 : 0 ≤ d := by simpa using h0
  have hd1 : d < (ds.length : Int) := by simpa using h1
  obtain ⟨i, rfl⟩ : ∃ i : Nat, d = (i : Int) := ⟨d.toNat, by omega⟩
  have hi : i < ds.length := by omega
  obtain ⟨x, hx⟩ : ∃ x, ds[i]? = some x := ⟨_, List.getElem?_eq_getElem hi⟩
  obtain ⟨b, o, vb, vr, vt, rfl, hb, _, _, _, c0, c1, c2, c3, c4, c5, c6⟩ := (hD.out.below D0).at hx
  have ek : kindAt ds (i : Int) = x.kind := by
    unfold kindAt
    rw [Int.toNat_natCast, hx]
    rfl
  rw [ek]
  have PO : Hid (∀ w, Calls Tryz.prog 27 #[.int .i64 x.kind] w fun e w' => e = .returned (.int .i64 (portsV x.kind)) ∧ w' = w) := fun w => nports_any x.kind w
  clear hD hx ek c0 c2 c3 c4 c5 c6 hd0 hd1
  generalize portsV x.kind = pk at *
  generalize x.kind = kd at *
  go_enter Tryz.func16, Tryz.ntmps16
  go_wp2_with fail
  go_quiet ((go_at_call 27; exact Calls.quiet_of_same (PO.out _)))
  go_wp2_with fail
  go_ret
  exact ⟨by simp, belowNN D0 _⟩

/-- A net and a link in blocks of a call's own, one behind the other. -/
def LB (w : World) (n : Nat) (x y a b c d : Value) : Prop := Box2 w n x y ∧ Lk4 w (n + 1) a b c d
theorem LB.cells {w : World} {n : Nat} {x y a b c d : Value} (H : LB w n x y a b c d) : w.cell? ⟨n, 0, none⟩ = some x ∧ w.cell? ⟨n, 1, none⟩ = some y ∧ w.cell? ⟨n + 1, 0, none⟩ = some a ∧ w.cell? ⟨n + 1, 1, none⟩ = some b ∧ w.cell? ⟨n + 1, 2, none⟩ = some c ∧ w.cell? ⟨n + 1, 3, none⟩ = some d := by
  obtain ⟨⟨_, h1, h2, _⟩, ⟨_, h5, h6, h7, h8⟩⟩ := H
  exact ⟨h1, h2, h5, h6, h7, h8⟩
theorem LB.keep {W w' : World} {n : Nat} {x y a b c d : Value} (hb : Below W.heap.size W w') (H : LB W n x y a b c d) : LB w' n x y a b c d := ⟨H.1.below hb H.1.1, H.2.below hb H.2.1⟩
theorem LB.drew {w : World} {n : Nat} {x y a b c d : Value} (H : LB w n x y a b c d) : LB w.drew n x y a b c d := H
theorem lb_new (w : World) (x y a b c d : Value) (s t : TypeId) : LB ((w.alloc (.cells #[x, y] s)).alloc (.cells #[a, b, c, d] t)) w.heap.size x y a b c d := by
  refine ⟨(box2_new w x y s).alloc _, ?_⟩
  have := lk4_new (w.alloc (.cells #[x, y] s)) a b c d t
  rw [World.size_alloc] at this
  exact this
/-- What checkLink tells. -/
def linkTold (ds : List Dv) (ahead : List Lk) (l : Lk) : Int := if isPl ds l.a l.p && isPl ds l.b l.q then (if selfB l || ahead.any (fun m => meetB m l) then 5 else 0) else 1
set_option maxHeartbeats 8000000 in
set_option maxRecDepth 100000 in
theorem checkLink_any (A B : Option Addr) (cap cap' : Nat) (ds : List Dv) (ls : List Lk) (j : Nat) (l : Lk) (w : World) (hx : Hid (ls[j]? = some l)) (hD : Hid (Devs w.heap.size w (.slice A ds.length cap) ds)) (hL : Hid (Links w.heap.size w (.slice B ls.length cap') ls)) :
    Calls Tryz.prog 25 #[.agg #[.slice A ds.length cap, .slice B ls.length cap'], .int .i64 (j : Int)] w fun e w' => e = .returned (.int .i64 (linkTold ds (ls.take j) l)) ∧ Below w.heap.size w w' := by
  have hj : j < ls.length := (List.getElem?_eq_some_iff.1 hx.out).1
  obtain ⟨_, hc, hm⟩ := hL.out.len
  unfold maxLen at hm
  have D0 := Below.alN (Below.refl w.heap.size w) (.cells #[.slice A ds.length cap, .slice B ls.length cap'] 25)
  obtain ⟨b, o, rfl, hb, c0, c1, c2, c3⟩ := (hL.out.below D0).at hx.out
  have k1 : (0 : Int) ≤ (j : Int) := by omega
  have k2 : (j : Int) < (ls.length : Int) := by omega
  have k3 : (j : Int) ≤ (cap' : Int) := by omega
  have FL : Hid (∀ w, Calls Tryz.prog 56 #[lkA l.a l.p l.b l.q] w fun e w' => e = .returned (plA l.a l.p) ∧ Below w.heap.size w w') := fun w => from_any _ _ _ _ w
  have TL : Hid (∀ w, Calls Tryz.prog 57 #[lkA l.a l.p l.b l.q] w fun e w' => e = .returned (plA l.b l.q) ∧ Below w.heap.size w w') := fun w => to_any _ _ _ _ w
  have I1 : Hid (∀ W, Below w.heap.size w W → Calls Tryz.prog 16 #[.agg #[.slice A ds.length cap, .slice (some ⟨b, o, none⟩) ls.length cap'], plA l.a l.p] W fun e w' => e = .returned (.bool (isPl ds l.a l.p)) ∧ Below W.heap.size W w') := fun W h => hasPlace_any _ _ _ _ _ _ _ W ((hD.out.below h).mono h.size)
  have I2 : Hid (∀ W, Below w.heap.size w W → Calls Tryz.prog 16 #[.agg #[.slice A ds.length cap, .slice (some ⟨b, o, none⟩) ls.length cap'], plA l.b l.q] W fun e w' => e = .returned (.bool (isPl ds l.b l.q)) ∧ Below W.heap.size W w') := fun W h => hasPlace_any _ _ _ _ _ _ _ W ((hD.out.below h).mono h.size)
  have CO : Hid (∀ W, Below w.heap.size w W → LB W w.heap.size (.slice A ds.length cap) (.slice (some ⟨b, o, none⟩) ls.length cap') (.int .i64 l.a) (.int .i64 l.p) (.int .i64 l.b) (.int .i64 l.q) → Calls Tryz.prog 58 #[.slice (some ⟨b, o, none⟩) j cap', .func (.func 59) #[] #[.pointer (some ⟨w.heap.size + 1, 0, none⟩)]] W fun e w' => e = .returned (.bool ((ls.take j).any (fun m => meetB m l))) ∧ Below W.heap.size W w') := fun W h hT => linkHas_any _ _ _ _ l _ W (Links.mono (SlAt.take (hL.out.below h) j (by omega)) h.size) hT.2
  have PE : ∀ w, (binOp .eql 27 (plA l.a l.p) (plA l.b l.q)).run Tryz.prog w = .ok (.bool (selfB l)) w := fun w => place_eq _ _ _ _ w
  generalize hres : linkTold ds (ls.take j) l = res
  have HR : Hid (res = if isPl ds l.a l.p && isPl ds l.b l.q then (if selfB l || (ls.take j).any (fun m => meetB m l) then 5 else 0) else 1) := hres.symm
  clear hres hL hD hx
  generalize isPl ds l.a l.p = x0 at *
  generalize isPl ds l.b l.q = x1 at *
  generalize selfB l = x2 at *
  generalize (ls.take j).any (fun m => meetB m l) = x3 at *
  generalize l.a = la at *
  generalize l.p = lp at *
  generalize l.b = lb at *
  generalize l.q = lq at *
  have D1 := (Below.alN D0 (.cells #[.int .i64 la, .int .i64 lp, .int .i64 lb, .int .i64 lq] 67)).drew
  have M1 := (lb_new w (.slice A ds.length cap) (.slice (some ⟨b, o, none⟩) ls.length cap') (.int .i64 la) (.int .i64 lp) (.int .i64 lb) (.int .i64 lq) 25 67).drew
  clear D0
  go_enter Tryz.func25, Tryz.ntmps25
  go_wp2_with fail
  go_region
  clear c0 c1 c2 c3
  have D2 := D1.drew
  have M2 := M1.drew
  clear D1 M1
  cases x0
  · have HV : Hid (res = 1) := by show _ = _; rw [HR.out]; rfl
    clear HR I2 CO PE TL
    go_wp2_with fail
    refine wp_region_held_drew (S := (fun w' => w'.cell? ⟨w.heap.size, 0, none⟩ = some (.slice A ds.length cap) ∧ w'.cell? ⟨w.heap.size, 1, none⟩ = some (.slice (some ⟨b, o, none⟩) ls.length cap') ∧ w'.cell? ⟨w.heap.size + 1, 0, none⟩ = some (.int .i64 la) ∧ w'.cell? ⟨w.heap.size + 1, 1, none⟩ = some (.int .i64 lp) ∧ w'.cell? ⟨w.heap.size + 1, 2, none⟩ = some (.int .i64 lb) ∧ w'.cell? ⟨w.heap.size + 1, 3, none⟩ = some (.int .i64 lq))) (by kernel_rfl) (LB.cells (n := w.heap.size) (by assumption)) (fun hHeld => ?_)
    refine' tk 0 rfl (by kernel_rfl) (fun _ _ _ h => h) (by rfl) (by assumption) ?y1 ?r1
    case y1 => (intro w h; (try dsimp only at h); go_simp; (try with_reducible rfl))
    try simp only [lays]
    refine' tk 1 rfl (by kernel_rfl) (fun _ _ _ h => h) (by rfl) (by assumption) ?y2 ?r2
    case y2 => (intro w h; (try dsimp only at h); go_simp; (try with_reducible rfl))
    try simp only [lays]
    refine wpAnyH_ready (rs := [2]) (by kernel_rfl) (by simp) (AllReadyH.cons rfl (fun K hK => ?_) AllReadyH.nil)
    go_simp
    refine (FL.out _).mono ?_; rintro e wz ⟨rfl, hbz⟩; have Dz := chnN (W0 := w) hbz (by assumption); have Pz := LB.keep (n := w.heap.size) hbz (by assumption); clear hbz
    try go_wp2_with fail
    clear hHeld
    refine hK.out _ _ (LB.cells (n := w.heap.size) (by assumption)) (fun hHeld => ?_)
    clear hK K
    try simp only [lays]
    refine wpAnyH_ready (rs := [3]) (by kernel_rfl) (by simp) (AllReadyH.cons rfl (fun K hK => ?_) AllReadyH.nil)
    go_simp
    refine (I1.out _ (by assumption)).mono ?_; rintro e wz ⟨rfl, hbz⟩; have Dz := chnN (W0 := w) hbz (by assumption); have Pz := LB.keep (n := w.heap.size) hbz (by assumption); clear hbz
    try go_wp2_with fail
    clear hHeld
    refine hK.out _ _ (LB.cells (n := w.heap.size) (by assumption)) (fun hHeld => ?_)
    clear hK K
    try simp only [lays]
    refine' tk 4 rfl (by kernel_rfl) (fun _ _ _ h => h) (by rfl) (by assumption) ?y5 ?r5
    case y5 => (intro w h; (try dsimp only at h); go_simp; (try with_reducible rfl))
    try simp only [lays]
    refine' tk 5 rfl (by kernel_rfl) (fun _ _ _ h => h) (by rfl) (by assumption) ?y6 ?r6
    case y6 => (intro w h; (try dsimp only at h); go_simp; (try with_reducible rfl))
    try simp only [lays]
    refine' tk0 6 rfl (by kernel_rfl) (fun _ _ _ h => h) (by rfl) (by assumption) ?_
    try simp only [lays]
    refine' tk0 7 rfl (by kernel_rfl) (fun _ _ _ h => h) (by rfl) (by assumption) ?_
    try simp only [lays]
    refine' tk0 8 rfl (by kernel_rfl) (fun _ _ _ h => h) (by rfl) (by assumption) ?_
    try simp only [lays]
    refine' tk0 9 rfl (by kernel_rfl) (fun _ _ _ h => h) (by rfl) (by assumption) ?_
    try simp only [lays]
    refine' tk0 10 rfl (by kernel_rfl) (fun _ _ _ h => h) (by rfl) (by assumption) ?_
    try simp only [lays]
    refine' tk 11 rfl (by kernel_rfl) (fun _ _ _ h => h) (by rfl) (by assumption) ?y12 ?r12
    case y12 => (intro w h; (try dsimp only at h); go_simp; (try with_reducible rfl))
    try simp only [lays]
    refine wpAnyH_done (by kernel_rfl) ?_ _
    go_wp2_with fail
    go_ret
    exact ⟨by rw [HV.out]; rfl, by assumption⟩
  · have HR1 : Hid (res = if x1 then (if x2 || x3 then 5 else 0) else 1) := by show _ = _; rw [HR.out]; rfl
    clear HR
    go_wp2_with fail
    refine wp_region_held_drew (S := (fun w' => w'.cell? ⟨w.heap.size, 0, none⟩ = some (.slice A ds.length cap) ∧ w'.cell? ⟨w.heap.size, 1, none⟩ = some (.slice (some ⟨b, o, none⟩) ls.length cap') ∧ w'.cell? ⟨w.heap.size + 1, 0, none⟩ = some (.int .i64 la) ∧ w'.cell? ⟨w.heap.size + 1, 1, none⟩ = some (.int .i64 lp) ∧ w'.cell? ⟨w.heap.size + 1, 2, none⟩ = some (.int .i64 lb) ∧ w'.cell? ⟨w.heap.size + 1, 3, none⟩ = some (.int .i64 lq))) (by kernel_rfl) (LB.cells (n := w.heap.size) (by assumption)) (fun hHeld => ?_)
    refine' tk 0 rfl (by kernel_rfl) (fun _ _ _ h => h) (by rfl) (by assumption) ?y36 ?r36
    case y36 => (intro w h; (try dsimp only at h); go_simp; (try with_reducible rfl))
    try simp only [lays]
    refine' tk 1 rfl (by kernel_rfl) (fun _ _ _ h => h) (by rfl) (by assumption) ?y37 ?r37
    case y37 => (intro w h; (try dsimp only at h); go_simp; (try with_reducible rfl))
    try simp only [lays]
    refine wpAnyH_ready (rs := [2]) (by kernel_rfl) (by simp) (AllReadyH.cons rfl (fun K hK => ?_) AllReadyH.nil)
    go_simp
    refine (FL.out _).mono ?_; rintro e wz ⟨rfl, hbz⟩; have Dz := chnN (W0 := w) hbz (by assumption); have Pz := LB.keep (n := w.heap.size) hbz (by assumption); clear hbz
    try go_wp2_with fail
    clear hHeld
    refine hK.out _ _ (LB.cells (n := w.heap.size) (by assumption)) (fun hHeld => ?_)
    clear hK K
    try simp only [lays]
    refine wpAnyH_ready (rs := [3]) (by kernel_rfl) (by simp) (AllReadyH.cons rfl (fun K hK => ?_) AllReadyH.nil)
    go_simp
    refine (I1.out _ (by assumption)).mono ?_; rintro e wz ⟨rfl, hbz⟩; have Dz := chnN (W0 := w) hbz (by assumption); have Pz := LB.keep (n := w.heap.size) hbz (by assumption); clear hbz
    try go_wp2_with fail
    clear hHeld
    refine hK.out _ _ (LB.cells (n := w.heap.size) (by assumption)) (fun hHeld => ?_)
    clear hK K
    try simp only [lays]
    refine' tk 4 rfl (by kernel_rfl) (fun _ _ _ h => h) (by rfl) (by assumption) ?y40 ?r40
    case y40 => (intro w h; (try dsimp only at h); go_simp; (try with_reducible rfl))
    try simp only [lays]
    refine' tk 5 rfl (by kernel_rfl) (fun _ _ _ h => h) (by rfl) (by assumption) ?y41 ?r41
    case y41 => (intro w h; (try dsimp only at h); go_simp; (try with_reducible rfl))
    try simp only [lays]
    refine' tk 6 rfl (by kernel_rfl) (fun _ _ _ h => h) (by rfl) (by assumption) ?y42 ?r42
    case y42 => (intro w h; (try dsimp only at h); go_simp; (try with_reducible rfl))
    try simp only [lays]
    refine' tk 7 rfl (by kernel_rfl) (fun _ _ _ h => h) (by rfl) (by assumption) ?y43 ?r43
    case y43 => (intro w h; (try dsimp only at h); go_simp; (try with_reducible rfl))
    try simp only [lays]
    refine wpAnyH_ready (rs := [8]) (by kernel_rfl) (by simp) (AllReadyH.cons rfl (fun K hK => ?_) AllReadyH.nil)
    go_simp
    refine (TL.out _).mono ?_; rintro e wz ⟨rfl, hbz⟩; have Dz := chnN (W0 := w) hbz (by assumption); have Pz := LB.keep (n := w.heap.size) hbz (by assumption); clear hbz
    try go_wp2_with fail
    clear hHeld
    refine hK.out _ _ (LB.cells (n := w.heap.size) (by assumption)) (fun hHeld => ?_)
    clear hK K
    try simp only [lays]
    refine wpAnyH_ready (rs := [9]) (by kernel_rfl) (by simp) (AllReadyH.cons rfl (fun K hK => ?_) AllReadyH.nil)
    go_simp
    refine (I2.out _ (by assumption)).mono ?_; rintro e wz ⟨rfl, hbz⟩; have Dz := chnN (W0 := w) hbz (by assumption); have Pz := LB.keep (n := w.heap.size) hbz (by assumption); clear hbz
    try go_wp2_with fail
    clear hHeld
    refine hK.out _ _ (LB.cells (n := w.heap.size) (by assumption)) (fun hHeld => ?_)
    clear hK K
    try simp only [lays]
    refine' tk 10 rfl (by kernel_rfl) (fun _ _ _ h => h) (by rfl) (by assumption) ?y46 ?r46
    case y46 => (intro w h; (try dsimp only at h); go_simp; (try with_reducible rfl))
    try simp only [lays]
    refine' tk 11 rfl (by kernel_rfl) (fun _ _ _ h => h) (by rfl) (by assumption) ?y47 ?r47
    case y47 => (intro w h; (try dsimp only at h); go_simp; (try with_reducible rfl))
    try simp only [lays]
    refine wpAnyH_done (by kernel_rfl) ?_ _
    cases x1
    · go_wp2_with fail
      go_ret
      exact ⟨by rw [HR1.out]; rfl, by assumption⟩
    clear D2 M2
    cases x2
    · have HV : Hid (res = if x3 then 5 else 0) := by show _ = _; rw [HR1.out]; rfl
      clear HR1
      go_wp2_with fail
      refine wp_region_held_drew (S := (fun w' => w'.cell? ⟨w.heap.size, 0, none⟩ = some (.slice A ds.length cap) ∧ w'.cell? ⟨w.heap.size, 1, none⟩ = some (.slice (some ⟨b, o, none⟩) ls.length cap') ∧ w'.cell? ⟨w.heap.size + 1, 0, none⟩ = some (.int .i64 la) ∧ w'.cell? ⟨w.heap.size + 1, 1, none⟩ = some (.int .i64 lp) ∧ w'.cell? ⟨w.heap.size + 1, 2, none⟩ = some (.int .i64 lb) ∧ w'.cell? ⟨w.heap.size + 1, 3, none⟩ = some (.int .i64 lq))) (by kernel_rfl) (LB.cells (n := w.heap.size) (by first | assumption | exact Below.drew (by assumption) | exact LB.drew (by assumption))) (fun hHeld => ?_)
      refine' wpAnyH_take (i := 0) (v := _) rfl (by kernel_rfl) (by kernel_rfl) (by kernel_rfl) (fun _ _ _ h => h) (Or.inl ⟨by rfl, ?gy14⟩) (by first | assumption | exact Below.drew (by assumption) | exact LB.drew (by assumption)) ?gr14
      case gy14 => (intro w hSw; (try dsimp only at hSw); go_simp; (try with_reducible rfl))
      try simp only [lays]
      refine' wpAnyH_take (i := 2) (v := _) rfl (by kernel_rfl) (by kernel_rfl) (by kernel_rfl) (fun _ _ _ h => h) (Or.inl ⟨by rfl, ?gy15⟩) (by first | assumption | exact Below.drew (by assumption) | exact LB.drew (by assumption)) ?gr15
      case gy15 => (intro w hSw; (try dsimp only at hSw); go_simp; (try with_reducible rfl))
      try simp only [lays]
      refine wpAnyH_ready (rs := [1]) (by kernel_rfl) (by simp) (AllReadyH.cons rfl (fun K hK => ?_) AllReadyH.nil)
      go_simp
      refine (FL.out _).mono ?_; rintro e wz ⟨rfl, hbz⟩; have Dz := chnN (W0 := w) hbz (by first | assumption | exact Below.drew (by assumption) | exact LB.drew (by assumption)); have Pz := LB.keep (n := w.heap.size) hbz (by first | assumption | exact Below.drew (by assumption) | exact LB.drew (by assumption)); clear hbz
      try go_wp2_with fail
      clear hHeld
      refine hK.out _ _ (LB.cells (n := w.heap.size) (by first | assumption | exact Below.drew (by assumption) | exact LB.drew (by assumption))) (fun hHeld => ?_)
      clear hK K
      try simp only [lays]
      refine wpAnyH_ready (rs := [3]) (by kernel_rfl) (by simp) (AllReadyH.cons rfl (fun K hK => ?_) AllReadyH.nil)
      go_simp
      refine (TL.out _).mono ?_; rintro e wz ⟨rfl, hbz⟩; have Dz := chnN (W0 := w) hbz (by first | assumption | exact Below.drew (by assumption) | exact LB.drew (by assumption)); have Pz := LB.keep (n := w.heap.size) hbz (by first | assumption | exact Below.drew (by assumption) | exact LB.drew (by assumption)); clear hbz
      try go_wp2_with fail
      clear hHeld
      refine hK.out _ _ (LB.cells (n := w.heap.size) (by first | assumption | exact Below.drew (by assumption) | exact LB.drew (by assumption))) (fun hHeld => ?_)
      clear hK K
      try simp only [lays]
      refine' wpAnyH_take (i := 4) (v := _) rfl (by kernel_rfl) (by kernel_rfl) (by kernel_rfl) (fun _ _ _ h => h) (Or.inl ⟨by rfl, ?gy18⟩) (by first | assumption | exact Below.drew (by assumption) | exact LB.drew (by assumption)) ?gr18
      case gy18 => (intro w hSw; (try dsimp only at hSw); go_simp; (try with_reducible rfl))
      try simp only [lays]
      refine' wpAnyH_take (i := 5) (v := _) rfl (by kernel_rfl) (by kernel_rfl) (by kernel_rfl) (fun _ _ _ h => h) (Or.inl ⟨by rfl, ?gy19⟩) (by first | assumption | exact Below.drew (by assumption) | exact LB.drew (by assumption)) ?gr19
      case gy19 => (intro w hSw; (try dsimp only at hSw); go_simp; (try with_reducible rfl))
      try simp only [lays]
      refine' wpAnyH_take (i := 6) (v := _) rfl (by kernel_rfl) (by kernel_rfl) (by kernel_rfl) (fun _ _ _ h => h) (Or.inl ⟨by rfl, ?gy20⟩) (by first | assumption | exact Below.drew (by assumption) | exact LB.drew (by assumption)) ?gr20
      case gy20 => (intro w hSw; (try dsimp only at hSw); go_simp; (try with_reducible rfl))
      try simp only [lays]
      refine' wpAnyH_take (i := 7) (v := _) rfl (by kernel_rfl) (by kernel_rfl) (by kernel_rfl) (fun _ _ _ h => h) (Or.inl ⟨by rfl, ?gy21⟩) (by first | assumption | exact Below.drew (by assumption) | exact LB.drew (by assumption)) ?gr21
      case gy21 => (intro w hSw; (try dsimp only at hSw); go_simp; (try with_reducible rfl))
      try simp only [lays]
      refine wpAnyH_ready (rs := [8]) (by kernel_rfl) (by simp) (AllReadyH.cons rfl (fun K hK => ?_) AllReadyH.nil)
      go_simp
      refine (CO.out _ (by first | assumption | exact Below.drew (by assumption) | exact LB.drew (by assumption)) (by first | assumption | exact Below.drew (by assumption) | exact LB.drew (by assumption))).mono ?_; rintro e wz ⟨rfl, hbz⟩; have Dz := chnN (W0 := w) hbz (by first | assumption | exact Below.drew (by assumption) | exact LB.drew (by assumption)); have Pz := LB.keep (n := w.heap.size) hbz (by first | assumption | exact Below.drew (by assumption) | exact LB.drew (by assumption)); clear hbz
      try go_wp2_with fail
      clear hHeld
      refine hK.out _ _ (LB.cells (n := w.heap.size) (by first | assumption | exact Below.drew (by assumption) | exact LB.drew (by assumption))) (fun hHeld => ?_)
      clear hK K
      try simp only [lays]
      refine' wpAnyH_take (i := 9) (v := _) rfl (by kernel_rfl) (by kernel_rfl) (by kernel_rfl) (fun _ _ _ h => h) (Or.inl ⟨by rfl, ?gy23⟩) (by first | assumption | exact Below.drew (by assumption) | exact LB.drew (by assumption)) ?gr23
      case gy23 => (intro w hSw; (try dsimp only at hSw); go_simp; (try with_reducible rfl))
      try simp only [lays]
      refine wpAnyH_done (by kernel_rfl) ?_ _
      cases x3
      · go_wp2_with fail
        go_ret
        exact ⟨by rw [HV.out]; rfl, by first | assumption | exact Below.drew (by assumption) | exact LB.drew (by assumption)⟩
      · go_wp2_with fail
        go_ret
        exact ⟨by rw [HV.out]; rfl, by first | assumption | exact Below.drew (by assumption) | exact LB.drew (by assumption)⟩
    · have HV : Hid (res = 5) := by show _ = _; rw [HR1.out]; rfl
      clear HR1
      go_wp2_with fail
      refine wp_region_held_drew (S := (fun w' => w'.cell? ⟨w.heap.size, 0, none⟩ = some (.slice A ds.length cap) ∧ w'.cell? ⟨w.heap.size, 1, none⟩ = some (.slice (some ⟨b, o, none⟩) ls.length cap') ∧ w'.cell? ⟨w.heap.size + 1, 0, none⟩ = some (.int .i64 la) ∧ w'.cell? ⟨w.heap.size + 1, 1, none⟩ = some (.int .i64 lp) ∧ w'.cell? ⟨w.heap.size + 1, 2, none⟩ = some (.int .i64 lb) ∧ w'.cell? ⟨w.heap.size + 1, 3, none⟩ = some (.int .i64 lq))) (by kernel_rfl) (LB.cells (n := w.heap.size) (by first | assumption | exact Below.drew (by assumption) | exact LB.drew (by assumption))) (fun hHeld => ?_)
      refine' wpAnyH_take (i := 0) (v := _) rfl (by kernel_rfl) (by kernel_rfl) (by kernel_rfl) (fun _ _ _ h => h) (Or.inl ⟨by rfl, ?gy25⟩) (by first | assumption | exact Below.drew (by assumption) | exact LB.drew (by assumption)) ?gr25
      case gy25 => (intro w hSw; (try dsimp only at hSw); go_simp; (try with_reducible rfl))
      try simp only [lays]
      refine' wpAnyH_take (i := 2) (v := _) rfl (by kernel_rfl) (by kernel_rfl) (by kernel_rfl) (fun _ _ _ h => h) (Or.inl ⟨by rfl, ?gy26⟩) (by first | assumption | exact Below.drew (by assumption) | exact LB.drew (by assumption)) ?gr26
      case gy26 => (intro w hSw; (try dsimp only at hSw); go_simp; (try with_reducible rfl))
      try simp only [lays]
      refine wpAnyH_ready (rs := [1]) (by kernel_rfl) (by simp) (AllReadyH.cons rfl (fun K hK => ?_) AllReadyH.nil)
      go_simp
      refine (FL.out _).mono ?_; rintro e wz ⟨rfl, hbz⟩; have Dz := chnN (W0 := w) hbz (by first | assumption | exact Below.drew (by assumption) | exact LB.drew (by assumption)); have Pz := LB.keep (n := w.heap.size) hbz (by first | assumption | exact Below.drew (by assumption) | exact LB.drew (by assumption)); clear hbz
      try go_wp2_with fail
      clear hHeld
      refine hK.out _ _ (LB.cells (n := w.heap.size) (by first | assumption | exact Below.drew (by assumption) | exact LB.drew (by assumption))) (fun hHeld => ?_)
      clear hK K
      try simp only [lays]
      refine wpAnyH_ready (rs := [3]) (by kernel_rfl) (by simp) (AllReadyH.cons rfl (fun K hK => ?_) AllReadyH.nil)
      go_simp
      refine (TL.out _).mono ?_; rintro e wz ⟨rfl, hbz⟩; have Dz := chnN (W0 := w) hbz (by first | assumption | exact Below.drew (by assumption) | exact LB.drew (by assumption)); have Pz := LB.keep (n := w.heap.size) hbz (by first | assumption | exact Below.drew (by assumption) | exact LB.drew (by assumption)); clear hbz
      try go_wp2_with fail
      clear hHeld
      refine hK.out _ _ (LB.cells (n := w.heap.size) (by first | assumption | exact Below.drew (by assumption) | exact LB.drew (by assumption))) (fun hHeld => ?_)
      clear hK K
      try simp only [lays]
      refine' wpAnyH_take (i := 4) (v := _) rfl (by kernel_rfl) (by kernel_rfl) (by kernel_rfl) (fun _ _ _ h => h) (Or.inl ⟨by rfl, ?gy29⟩) (by first | assumption | exact Below.drew (by assumption) | exact LB.drew (by assumption)) ?gr29
      case gy29 => (intro w hSw; (try dsimp only at hSw); go_simp; (try with_reducible rfl))
      try simp only [lays]
      refine' wpAnyH_take (i := 5) (v := _) rfl (by kernel_rfl) (by kernel_rfl) (by kernel_rfl) (fun _ _ _ h => h) (Or.inl ⟨by rfl, ?gy30⟩) (by first | assumption | exact Below.drew (by assumption) | exact LB.drew (by assumption)) ?gr30
      case gy30 => (intro w hSw; (try dsimp only at hSw); go_simp; (try with_reducible rfl))
      try simp only [lays]
      refine' wpAnyH_take (i := 6) (v := undef) rfl (by kernel_rfl) (by kernel_rfl) (by kernel_rfl) (fun _ _ _ h => h) (Or.inr ⟨by rfl, rfl⟩) (by first | assumption | exact Below.drew (by assumption) | exact LB.drew (by assumption)) ?gr31
      try simp only [lays]
      refine' wpAnyH_take (i := 7) (v := undef) rfl (by kernel_rfl) (by kernel_rfl) (by kernel_rfl) (fun _ _ _ h => h) (Or.inr ⟨by rfl, rfl⟩) (by first | assumption | exact Below.drew (by assumption) | exact LB.drew (by assumption)) ?gr32
      try simp only [lays]
      refine' wpAnyH_take (i := 8) (v := undef) rfl (by kernel_rfl) (by kernel_rfl) (by kernel_rfl) (fun _ _ _ h => h) (Or.inr ⟨by rfl, rfl⟩) (by first | assumption | exact Below.drew (by assumption) | exact LB.drew (by assumption)) ?gr33
      try simp only [lays]
      refine' wpAnyH_take (i := 9) (v := _) rfl (by kernel_rfl) (by kernel_rfl) (by kernel_rfl) (fun _ _ _ h => h) (Or.inl ⟨by rfl, ?gy34⟩) (by first | assumption | exact Below.drew (by assumption) | exact LB.drew (by assumption)) ?gr34
      case gy34 => (intro w hSw; (try dsimp only at hSw); go_simp; (try with_reducible rfl))
      try simp only [lays]
      refine wpAnyH_done (by kernel_rfl) ?_ _
      go_wp2_with fail
      go_ret
      exact ⟨by rw [HV.out]; rfl, by first | assumption | exact Below.drew (by assumption) | exact LB.drew (by assumption)⟩
end Go.Proofs.YthioedgnambomaaGreat



namespace Go.Proofs.YthioedgnambomaaGreat
open Go.RowKit

set_option maxHeartbeats 4000000 in
set_option maxRecDepth 100000 in
theorem indexI_any (A : Option Addr) (n cap : Nat) (bs : List Int) (x : Int) (base : Nat) (w : World) (hB : Hid (SlAt base w 1 IsI (.slice A n cap) bs)) :
    Calls Tryz.prog 90 #[.slice A n cap, .int .i64 x] w fun e w' => ∃ j : Int, e = .returned (.int .i64 j) ∧ Hid (decide (0 ≤ j) = bs.any (fun y => y == x)) ∧ w' = w := by
  obtain ⟨A', cap', e, _, h1, h2, _⟩ := id hB.out
  cases e
  unfold maxLen at h2
  generalize hres : bs.any (fun y => y == x) = res
  have HR : Hid (bs.any (fun y => y == x) = res) := hres
  clear hres
  go_enter Tryz.func90, Tryz.ntmps90
  go_wp2_with fail
  go_loop [8] (fun i => ∃ k : Nat, i = .int .i64 (k : Int) ∧ k ≤ bs.length ∧ Hid ((bs.take k).any (fun y => y == x) = false)) (fun i => bs.length - (intOf i).toNat)
  case atStart => exact ⟨0, rfl, by omega, rfl⟩
  case round =>
    obtain ⟨k, rfl, hk, hno⟩ := hrel
    by_cases hlt : k < bs.length
    · obtain ⟨y, hxk⟩ : ∃ y, bs[k]? = some y := ⟨_, List.getElem?_eq_getElem hlt⟩
      obtain ⟨b, o, rfl, _, hcell⟩ := Ints.at hB.out hxk
      have c0 := hcell k y hxk
      have HT : Hid ((bs.take (k + 1)).any (fun z => z == x) = ((bs.take k).any (fun z => z == x) || (y == x))) := any_takeI hxk
      have HM : Hid (y == x → bs.any (fun y => y == x) = true) := fun h => List.any_eq_true.2 ⟨y, List.mem_of_getElem? hxk, h⟩
      have k1 : (0 : Int) ≤ (k : Int) := by omega
      have k2 : (k : Int) < (bs.length : Int) := by omega
      clear hxk hcell hB
      cases hv : (y == x)
      · have hv2 : (x == y) = false := by rw [BEq.comm]; exact hv
        have HV : Hid ((bs.take (k + 1)).any (fun z => z == x) = false) := by
          show _ = _
          rw [HT.out, hno.out, hv]
          rfl
        clear HT HM hno hv
        go_wp2_with fail
        go_round
        case rel => exact ⟨k + 1, by go_num, by omega, HV⟩
        case measure => simp [intOf]; omega
      · have hv2 : (x == y) = true := by rw [BEq.comm]; exact hv
        have HV : Hid (res = true) := by
          show _ = _
          rw [← HR.out, HM.out hv]
        clear HT HM hno hv
        go_wp2_with fail
        go_ret
        exact ⟨_, rfl, (by show _ = _; rw [HV.out]; simp), rfl⟩
    · have HV : Hid (res = false) := by
        show _ = _
        rw [← HR.out]
        have := hno.out
        rw [show k = bs.length by omega, List.take_length] at this
        exact this
      go_wp2_with fail
      go_ret
      exact ⟨_, rfl, (by show _ = _; rw [HV.out]; simp), rfl⟩
set_option maxHeartbeats 1000000 in
theorem containsI_any (A : Option Addr) (n cap : Nat) (bs : List Int) (x : Int) (base : Nat) (w : World) (hB : Hid (SlAt base w 1 IsI (.slice A n cap) bs)) :
    Calls Tryz.prog 76 #[.slice A n cap, .int .i64 x] w fun e w' => e = .returned (.bool (bs.any (fun y => y == x))) ∧ w' = w := by
  have IX : Hid (∀ w', w' = w → Calls Tryz.prog 90 #[.slice A n cap, .int .i64 x] w' fun e w' => ∃ j : Int, e = .returned (.int .i64 j) ∧ Hid (decide (0 ≤ j) = bs.any (fun y => y == x)) ∧ w' = w) := fun w' h => by subst h; exact indexI_any A n cap bs x base w' hB
  clear hB
  generalize bs.any (fun y => y == x) = v at *
  go_enter Tryz.func76, Tryz.ntmps76
  go_wp2_with fail
  refine (IX.out _ rfl).mono ?_
  rintro e w2 ⟨j, rfl, hj, rfl⟩
  clear IX
  go_wp2_with fail
  go_ret
  exact ⟨by rw [← hj.out]; rfl, rfl⟩
theorem backsFrom_vals (bs : List Int) (ad : Int) : ∀ (m k : Nat), bs.length - k ≤ m → backsFrom bs ad k = 0 ∨ backsFrom bs ad k = 1
  | 0, k, h => by rw [backsFrom_end (by omega)]; simp
  | m + 1, k, h => by
    by_cases hk : k < bs.length
    · rw [backsFrom_at (List.getElem?_eq_getElem hk)]
      split
      · exact backsFrom_vals bs ad m (k + 1) (by omega)
      · simp
    · rw [backsFrom_end (by omega)]; simp
def backsF (k ad : Int) (bs : List Int) : Bool := (decide (0 < bs.length) == (k == 5)) && decide (backsFrom bs ad 0 = 0)
set_option maxHeartbeats 8000000 in
set_option maxRecDepth 100000 in
theorem backsFit_loop (nm : ByteArray) (k ad : Int) (pl : Nat) (A : Option Addr) (cap : Nat) (bs : List Int) (vr vt : Value) (res : Bool) (w : World) (hB : Hid (SlAt w.heap.size w 1 IsI (.slice A bs.length cap) bs)) (hcap : bs.length ≤ cap) (hmax : cap ≤ maxLen) (hne : (decide (0 < bs.length) == (k == 5)) = true) (HR : Hid (decide (backsFrom bs ad 0 = 0) = res)) :
    Calls Tryz.prog 52 #[devA nm k ad pl (.slice A bs.length cap) vr vt] w fun e w' => e = .returned (.bool res) ∧ Below w.heap.size w w' := by
  unfold maxLen at hmax
  have D0 := Below.alN (Below.refl w.heap.size w) (.cells #[.string nm, .int .i64 k, .int .i64 ad, .int .u8 (pl : Int), .slice A bs.length cap, vr, vt] 41)
  have V0 := seven_new w (.string nm) (.int .i64 k) (.int .i64 ad) (.int .u8 (pl : Int)) (.slice A bs.length cap) vr vt 41
  have BW := SlAt.below hB.out D0 (fun _ _ _ h => h)
  have hne2 : (decide ((0 : Int) < (bs.length : Int)) == (k == 5)) = true := by
    rw [← hne]
    congr 1
    rw [decide_eq_decide]
    omega
  have hne3 : (decide (0 < bs.length)) = (k == 5) := eq_of_beq hne
  have hne4 : (decide ((0 : Int) < (bs.length : Int))) = (k == 5) := eq_of_beq hne2
  cases h5 : (k == 5)
  all_goals
    rw [h5] at hne3 hne4
    clear hne hne2
    go_enter Tryz.func52, Tryz.ntmps52
    go_wp2_with fail
    go_loop [16] (fun i => ∃ j : Nat, i = .int .i64 (j : Int) ∧ j ≤ bs.length ∧ Hid (decide (backsFrom bs ad j = 0) = res)) (fun i => bs.length - (intOf i).toNat)
    case atStart => exact ⟨0, rfl, by omega, HR⟩
    case round =>
      obtain ⟨j, rfl, hj, hl⟩ := hrel
      by_cases hlt : j < bs.length
      · obtain ⟨x, hxk⟩ : ∃ x, bs[j]? = some x := ⟨_, List.getElem?_eq_getElem hlt⟩
        obtain ⟨b, o, rfl, _, hcell⟩ := Ints.at BW hxk
        have c0 := hcell j x hxk
        have HT : Hid (backsFrom bs ad j = if (decide (0 ≤ x) && decide (x ≤ 15)) && !(x == ad) && !((bs.take j).any (fun y => y == x)) then backsFrom bs ad (j + 1) else 1) := backsFrom_at hxk
        have IA : Hid (∀ w, Calls Tryz.prog 75 #[.int .i64 x] w fun e w' => e = .returned (.bool (addrB x)) ∧ w' = w) := fun w => isAddr_any x w
        have CO : Hid (Calls Tryz.prog 76 #[.slice (some ⟨b, o, none⟩) j cap, .int .i64 x] (w.alloc (.cells #[.string nm, .int .i64 k, .int .i64 ad, .int .u8 (pl : Int), .slice (some ⟨b, o, none⟩) bs.length cap, vr, vt] 41)) fun e w' => e = .returned (.bool ((bs.take j).any (fun y => y == x))) ∧ w' = (w.alloc (.cells #[.string nm, .int .i64 k, .int .i64 ad, .int .u8 (pl : Int), .slice (some ⟨b, o, none⟩) bs.length cap, vr, vt] 41))) := containsI_any _ j cap (bs.take j) x w.heap.size _ (SlAt.take BW j (by omega))
        have ea : (decide (0 ≤ x) && decide (x ≤ 15)) = addrB x := by
          unfold addrB
          congr 1
          rw [decide_eq_decide]
          omega
        rw [ea] at HT
        have k1 : (0 : Int) ≤ (j : Int) := by omega
        have k2 : (j : Int) < (bs.length : Int) := by omega
        have k3 : (j : Int) ≤ (cap : Int) := by omega
        obtain ⟨_, q0, q1, q2, q3, q4, q5, q6⟩ := id V0
        clear hxk hcell hB ea BW
        generalize addrB x = x0 at *
        generalize (bs.take j).any (fun y => y == x) = x2 at *
        cases x0
        · have HV : Hid (res = false) := by
            show _ = _
            rw [← hl.out, HT.out]
            simp
          clear HT hl
          go_wp2_with (go_at_call 75; refine (IA.out _).mono ?_; rintro e w' ⟨rfl, rfl⟩)
          go_ret
          exact ⟨by rw [HV.out]; rfl, D0⟩
        · cases x1 : (x == ad)
          · cases x2
            · have HV : Hid (decide (backsFrom bs ad (j + 1) = 0) = res) := by
                show _ = _
                rw [← hl.out, HT.out, x1]
                simp
              clear HT hl
              go_wp2_with (first | (go_at_call 75; refine (IA.out _).mono ?_; rintro e w' ⟨rfl, rfl⟩) | (go_at_call 76; refine CO.out.mono ?_; rintro e w' ⟨rfl, rfl⟩))
              go_round
              case rel => exact ⟨j + 1, by go_num, by omega, HV⟩
              case measure => simp [intOf]; omega
            · have HV : Hid (res = false) := by
                show _ = _
                rw [← hl.out, HT.out, x1]
                simp
              clear HT hl
              go_wp2_with (first | (go_at_call 75; refine (IA.out _).mono ?_; rintro e w' ⟨rfl, rfl⟩) | (go_at_call 76; refine CO.out.mono ?_; rintro e w' ⟨rfl, rfl⟩))
              go_ret
              exact ⟨by rw [HV.out]; rfl, D0⟩
          · have HV : Hid (res = false) := by
              show _ = _
              rw [← hl.out, HT.out, x1]
              simp
            clear HT hl
            go_wp2_with (go_at_call 75; refine (IA.out _).mono ?_; rintro e w' ⟨rfl, rfl⟩)
            go_ret
            exact ⟨by rw [HV.out]; rfl, D0⟩
      · have HV : Hid (res = true) := by
          show _ = _
          rw [← hl.out, backsFrom_end (by omega)]
          rfl
        go_wp2_with fail
        go_ret
        exact ⟨by rw [HV.out]; rfl, D0⟩
set_option maxHeartbeats 1000000 in
theorem backsFit_any (nm : ByteArray) (k ad : Int) (pl : Nat) (A : Option Addr) (cap : Nat) (bs : List Int) (vr vt : Value) (w : World) (hB : SlAt w.heap.size w 1 IsI (.slice A bs.length cap) bs) (hcap : bs.length ≤ cap) (hmax : cap ≤ maxLen) :
    Calls Tryz.prog 52 #[devA nm k ad pl (.slice A bs.length cap) vr vt] w fun e w' => e = .returned (.bool (backsF k ad bs)) ∧ Below w.heap.size w w' := by
  unfold backsF
  cases hne : (decide (0 < bs.length) == (k == 5))
  · rw [Bool.false_and]
    have D0 := Below.alN (Below.refl w.heap.size w) (.cells #[.string nm, .int .i64 k, .int .i64 ad, .int .u8 (pl : Int), .slice A bs.length cap, vr, vt] 41)
    have e1 : decide (0 < bs.length) = decide ((0 : Int) < (bs.length : Int)) := by
      rw [decide_eq_decide]
      omega
    rw [e1] at hne
    clear e1 hB hcap hmax
    cases h5 : (k == 5) <;> cases h0 : decide ((0 : Int) < (bs.length : Int))
    · rw [h5, h0] at hne; cases hne
    · clear hne
      have n0 : 0 < bs.length := by simpa using h0
      go_enter Tryz.func52, Tryz.ntmps52
      go_wp2_with fail
      go_ret
      exact ⟨rfl, D0⟩
    · clear hne
      have n0 : ¬ 0 < bs.length := by simpa using h0
      go_enter Tryz.func52, Tryz.ntmps52
      go_wp2_with fail
      go_ret
      exact ⟨rfl, D0⟩
    · rw [h5, h0] at hne; cases hne
  · rw [Bool.true_and]
    exact backsFit_loop nm k ad pl A cap bs vr vt _ w hB hcap hmax hne rfl
end Go.Proofs.YthioedgnambomaaGreat


