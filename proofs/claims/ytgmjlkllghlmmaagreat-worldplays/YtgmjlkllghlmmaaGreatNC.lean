/-
  Package net: links that meet.
-/
import Derived.Test.YtgmjlkllghlmmaaGreatLy
import Derived.Test.YtgmjlkllghlmmaaGreatGM
namespace Go.Proofs.YtgmjlkllghlmmaaGreat
open Go.RowKit

/-- Two links in blocks of a call's own, one behind the other. -/
def LM (w : World) (n : Nat) (a b c d e f g h : Value) : Prop := Lk4 w n a b c d ∧ Lk4 w (n + 1) e f g h
theorem LM.cells {w : World} {n : Nat} {a b c d e f g h : Value} (H : LM w n a b c d e f g h) : w.cell? ⟨n, 0, none⟩ = some a ∧ w.cell? ⟨n, 1, none⟩ = some b ∧ w.cell? ⟨n, 2, none⟩ = some c ∧ w.cell? ⟨n, 3, none⟩ = some d ∧ w.cell? ⟨n + 1, 0, none⟩ = some e ∧ w.cell? ⟨n + 1, 1, none⟩ = some f ∧ w.cell? ⟨n + 1, 2, none⟩ = some g ∧ w.cell? ⟨n + 1, 3, none⟩ = some h := by
  obtain ⟨⟨_, h1, h2, h3, h4⟩, ⟨_, h5, h6, h7, h8⟩⟩ := H
  exact ⟨h1, h2, h3, h4, h5, h6, h7, h8⟩
theorem LM.keep {W w' : World} {n : Nat} {a b c d e f g h : Value} (hb : Below W.heap.size W w') (H : LM W n a b c d e f g h) : LM w' n a b c d e f g h := ⟨H.1.below hb H.1.1, H.2.below hb H.2.1⟩
theorem LM.drew {w : World} {n : Nat} {a b c d e f g h : Value} (H : LM w n a b c d e f g h) : LM w.drew n a b c d e f g h := H
theorem lm_new (w : World) (a b c d e f g h : Value) (t : TypeId) : LM ((w.alloc (.cells #[a, b, c, d] t)).alloc (.cells #[e, f, g, h] t)) w.heap.size a b c d e f g h := by
  refine ⟨(lk4_new w a b c d t).alloc _, ?_⟩
  have := lk4_new (w.alloc (.cells #[a, b, c, d] t)) e f g h t
  rw [World.size_alloc] at this
  exact this
set_option maxHeartbeats 4000000 in
set_option maxRecDepth 100000 in
theorem meet_0 (la lp lb lq ma mp mb mq : Int) (w : World) (h0 : ((la == ma) && (lp == mp)) = true) : Calls Tryz.prog 96 #[lkA la lp lb lq, lkA ma mp mb mq] w fun e w' => e = .returned (.bool true) ∧ Below w.heap.size w w' := by
  have D0 := (Below.alN (Below.alN (Below.refl w.heap.size w) (.cells #[.int .i64 la, .int .i64 lp, .int .i64 lb, .int .i64 lq] 83)) (.cells #[.int .i64 ma, .int .i64 mp, .int .i64 mb, .int .i64 mq] 83)).drew
  have M0 := (lm_new w (.int .i64 la) (.int .i64 lp) (.int .i64 lb) (.int .i64 lq) (.int .i64 ma) (.int .i64 mp) (.int .i64 mb) (.int .i64 mq) 83).drew
  have FL : Hid (∀ w, Calls Tryz.prog 77 #[lkA la lp lb lq] w fun e w' => e = .returned (plA la lp) ∧ Below w.heap.size w w') := fun w => from_any _ _ _ _ w
  have TL : Hid (∀ w, Calls Tryz.prog 78 #[lkA la lp lb lq] w fun e w' => e = .returned (plA lb lq) ∧ Below w.heap.size w w') := fun w => to_any _ _ _ _ w
  have FM : Hid (∀ w, Calls Tryz.prog 77 #[lkA ma mp mb mq] w fun e w' => e = .returned (plA ma mp) ∧ Below w.heap.size w w') := fun w => from_any _ _ _ _ w
  have TM : Hid (∀ w, Calls Tryz.prog 78 #[lkA ma mp mb mq] w fun e w' => e = .returned (plA mb mq) ∧ Below w.heap.size w w') := fun w => to_any _ _ _ _ w
  have P0 : ∀ w, (binOp .eql 37 (plA la lp) (plA ma mp)).run Tryz.prog w = .ok (.bool true) w := fun w => by rw [place_eq, h0]
  clear h0
  go_enter Tryz.func96, Tryz.ntmps96
  go_wp2_with fail
  refine wp_region_held_drew (S := (fun w' => w'.cell? ⟨w.heap.size, 0, none⟩ = some (.int .i64 la) ∧ w'.cell? ⟨w.heap.size, 1, none⟩ = some (.int .i64 lp) ∧ w'.cell? ⟨w.heap.size, 2, none⟩ = some (.int .i64 lb) ∧ w'.cell? ⟨w.heap.size, 3, none⟩ = some (.int .i64 lq) ∧ w'.cell? ⟨w.heap.size + 1, 0, none⟩ = some (.int .i64 ma) ∧ w'.cell? ⟨w.heap.size + 1, 1, none⟩ = some (.int .i64 mp) ∧ w'.cell? ⟨w.heap.size + 1, 2, none⟩ = some (.int .i64 mb) ∧ w'.cell? ⟨w.heap.size + 1, 3, none⟩ = some (.int .i64 mq))) (by kernel_rfl) (LM.cells (n := w.heap.size) (by assumption)) (fun hHeld => ?_)
  refine' tk 0 rfl (by kernel_rfl) (fun _ _ _ h => h) (by rfl) (by assumption) ?y1 ?r1
  case y1 => (intro w h; (try dsimp only at h); go_simp; (try with_reducible rfl))
  try simp only [lays]
  refine' tk 2 rfl (by kernel_rfl) (fun _ _ _ h => h) (by rfl) (by assumption) ?y2 ?r2
  case y2 => (intro w h; (try dsimp only at h); go_simp; (try with_reducible rfl))
  try simp only [lays]
  refine wpAnyH_ready (rs := [1]) (by kernel_rfl) (by simp) (AllReadyH.cons rfl (fun K hK => ?_) AllReadyH.nil)
  go_simp
  refine (FL.out _).mono ?_; rintro e wz ⟨rfl, hbz⟩; have Dz := chnN (W0 := w) hbz (by assumption); have Pz := LM.keep (n := w.heap.size) hbz (by assumption); clear hbz
  try go_wp2_with fail
  clear hHeld
  refine hK.out _ _ (LM.cells (n := w.heap.size) (by assumption)) (fun hHeld => ?_)
  clear hK K
  try simp only [lays]
  refine wpAnyH_ready (rs := [3]) (by kernel_rfl) (by simp) (AllReadyH.cons rfl (fun K hK => ?_) AllReadyH.nil)
  go_simp
  refine (FM.out _).mono ?_; rintro e wz ⟨rfl, hbz⟩; have Dz := chnN (W0 := w) hbz (by assumption); have Pz := LM.keep (n := w.heap.size) hbz (by assumption); clear hbz
  try go_wp2_with fail
  clear hHeld
  refine hK.out _ _ (LM.cells (n := w.heap.size) (by assumption)) (fun hHeld => ?_)
  clear hK K
  try simp only [lays]
  refine' tk 4 rfl (by kernel_rfl) (fun _ _ _ h => h) (by rfl) (by assumption) ?y5 ?r5
  case y5 => (intro w h; (try dsimp only at h); go_simp; (try with_reducible rfl))
  try simp only [lays]
  refine' tk 5 rfl (by kernel_rfl) (fun _ _ _ h => h) (by rfl) (by assumption) ?y6 ?r6
  case y6 => (intro w h; (try dsimp only at h); go_simp; (try with_reducible rfl))
  try simp only [lays]
  refine' tk0 6 rfl (by kernel_rfl) (fun _ _ _ h => h) (by rfl) (by assumption) ?_
  try simp only [lays]
  refine' tk0 7 rfl (by kernel_rfl) (fun _ _ _ h => h) (by rfl) (by assumption) ?_
  try simp only [lays]
  refine' tk0 8 rfl (by kernel_rfl) (fun _ _ _ h => h) (by rfl) (by assumption) ?_
  try simp only [lays]
  refine' tk0 9 rfl (by kernel_rfl) (fun _ _ _ h => h) (by rfl) (by assumption) ?_
  try simp only [lays]
  refine' tk0 10 rfl (by kernel_rfl) (fun _ _ _ h => h) (by rfl) (by assumption) ?_
  try simp only [lays]
  refine' tk 11 rfl (by kernel_rfl) (fun _ _ _ h => h) (by rfl) (by assumption) ?y12 ?r12
  case y12 => (intro w h; (try dsimp only at h); go_simp; (try with_reducible rfl))
  try simp only [lays]
  refine' tk 12 rfl (by kernel_rfl) (fun _ _ _ h => h) (by rfl) (by assumption) ?y13 ?r13
  case y13 => (intro w h; (try dsimp only at h); go_simp; (try with_reducible rfl))
  try simp only [lays]
  refine' tk0 13 rfl (by kernel_rfl) (fun _ _ _ h => h) (by rfl) (by assumption) ?_
  try simp only [lays]
  refine' tk0 14 rfl (by kernel_rfl) (fun _ _ _ h => h) (by rfl) (by assumption) ?_
  try simp only [lays]
  refine' tk0 15 rfl (by kernel_rfl) (fun _ _ _ h => h) (by rfl) (by assumption) ?_
  try simp only [lays]
  refine' tk0 16 rfl (by kernel_rfl) (fun _ _ _ h => h) (by rfl) (by assumption) ?_
  try simp only [lays]
  refine' tk0 17 rfl (by kernel_rfl) (fun _ _ _ h => h) (by rfl) (by assumption) ?_
  try simp only [lays]
  refine' tk 18 rfl (by kernel_rfl) (fun _ _ _ h => h) (by rfl) (by assumption) ?y19 ?r19
  case y19 => (intro w h; (try dsimp only at h); go_simp; (try with_reducible rfl))
  try simp only [lays]
  refine' tk 19 rfl (by kernel_rfl) (fun _ _ _ h => h) (by rfl) (by assumption) ?y20 ?r20
  case y20 => (intro w h; (try dsimp only at h); go_simp; (try with_reducible rfl))
  try simp only [lays]
  refine' tk0 20 rfl (by kernel_rfl) (fun _ _ _ h => h) (by rfl) (by assumption) ?_
  try simp only [lays]
  refine' tk0 21 rfl (by kernel_rfl) (fun _ _ _ h => h) (by rfl) (by assumption) ?_
  try simp only [lays]
  refine' tk0 22 rfl (by kernel_rfl) (fun _ _ _ h => h) (by rfl) (by assumption) ?_
  try simp only [lays]
  refine' tk0 23 rfl (by kernel_rfl) (fun _ _ _ h => h) (by rfl) (by assumption) ?_
  try simp only [lays]
  refine' tk0 24 rfl (by kernel_rfl) (fun _ _ _ h => h) (by rfl) (by assumption) ?_
  try simp only [lays]
  refine' tk 25 rfl (by kernel_rfl) (fun _ _ _ h => h) (by rfl) (by assumption) ?y26 ?r26
  case y26 => (intro w h; (try dsimp only at h); go_simp; (try with_reducible rfl))
  try simp only [lays]
  refine' tk 26 rfl (by kernel_rfl) (fun _ _ _ h => h) (by rfl) (by assumption) ?y27 ?r27
  case y27 => (intro w h; (try dsimp only at h); go_simp; (try with_reducible rfl))
  try simp only [lays]
  refine wpAnyH_done (by kernel_rfl) ?_ _
  go_wp2_with fail
  go_ret
  exact ⟨rfl, by assumption⟩
set_option maxHeartbeats 4000000 in
set_option maxRecDepth 100000 in
theorem meet_1 (la lp lb lq ma mp mb mq : Int) (w : World) (h0 : ((la == ma) && (lp == mp)) = false) (h1 : ((la == mb) && (lp == mq)) = true) : Calls Tryz.prog 96 #[lkA la lp lb lq, lkA ma mp mb mq] w fun e w' => e = .returned (.bool true) ∧ Below w.heap.size w w' := by
  have D0 := (Below.alN (Below.alN (Below.refl w.heap.size w) (.cells #[.int .i64 la, .int .i64 lp, .int .i64 lb, .int .i64 lq] 83)) (.cells #[.int .i64 ma, .int .i64 mp, .int .i64 mb, .int .i64 mq] 83)).drew
  have M0 := (lm_new w (.int .i64 la) (.int .i64 lp) (.int .i64 lb) (.int .i64 lq) (.int .i64 ma) (.int .i64 mp) (.int .i64 mb) (.int .i64 mq) 83).drew
  have FL : Hid (∀ w, Calls Tryz.prog 77 #[lkA la lp lb lq] w fun e w' => e = .returned (plA la lp) ∧ Below w.heap.size w w') := fun w => from_any _ _ _ _ w
  have TL : Hid (∀ w, Calls Tryz.prog 78 #[lkA la lp lb lq] w fun e w' => e = .returned (plA lb lq) ∧ Below w.heap.size w w') := fun w => to_any _ _ _ _ w
  have FM : Hid (∀ w, Calls Tryz.prog 77 #[lkA ma mp mb mq] w fun e w' => e = .returned (plA ma mp) ∧ Below w.heap.size w w') := fun w => from_any _ _ _ _ w
  have TM : Hid (∀ w, Calls Tryz.prog 78 #[lkA ma mp mb mq] w fun e w' => e = .returned (plA mb mq) ∧ Below w.heap.size w w') := fun w => to_any _ _ _ _ w
  have P0 : ∀ w, (binOp .eql 37 (plA la lp) (plA ma mp)).run Tryz.prog w = .ok (.bool false) w := fun w => by rw [place_eq, h0]
  have P1 : ∀ w, (binOp .eql 37 (plA la lp) (plA mb mq)).run Tryz.prog w = .ok (.bool true) w := fun w => by rw [place_eq, h1]
  clear h0 h1
  go_enter Tryz.func96, Tryz.ntmps96
  go_wp2_with fail
  refine wp_region_held_drew (S := (fun w' => w'.cell? ⟨w.heap.size, 0, none⟩ = some (.int .i64 la) ∧ w'.cell? ⟨w.heap.size, 1, none⟩ = some (.int .i64 lp) ∧ w'.cell? ⟨w.heap.size, 2, none⟩ = some (.int .i64 lb) ∧ w'.cell? ⟨w.heap.size, 3, none⟩ = some (.int .i64 lq) ∧ w'.cell? ⟨w.heap.size + 1, 0, none⟩ = some (.int .i64 ma) ∧ w'.cell? ⟨w.heap.size + 1, 1, none⟩ = some (.int .i64 mp) ∧ w'.cell? ⟨w.heap.size + 1, 2, none⟩ = some (.int .i64 mb) ∧ w'.cell? ⟨w.heap.size + 1, 3, none⟩ = some (.int .i64 mq))) (by kernel_rfl) (LM.cells (n := w.heap.size) (by assumption)) (fun hHeld => ?_)
  refine' tk 0 rfl (by kernel_rfl) (fun _ _ _ h => h) (by rfl) (by assumption) ?y29 ?r29
  case y29 => (intro w h; (try dsimp only at h); go_simp; (try with_reducible rfl))
  try simp only [lays]
  refine' tk 2 rfl (by kernel_rfl) (fun _ _ _ h => h) (by rfl) (by assumption) ?y30 ?r30
  case y30 => (intro w h; (try dsimp only at h); go_simp; (try with_reducible rfl))
  try simp only [lays]
  refine wpAnyH_ready (rs := [1]) (by kernel_rfl) (by simp) (AllReadyH.cons rfl (fun K hK => ?_) AllReadyH.nil)
  go_simp
  refine (FL.out _).mono ?_; rintro e wz ⟨rfl, hbz⟩; have Dz := chnN (W0 := w) hbz (by assumption); have Pz := LM.keep (n := w.heap.size) hbz (by assumption); clear hbz
  try go_wp2_with fail
  clear hHeld
  refine hK.out _ _ (LM.cells (n := w.heap.size) (by assumption)) (fun hHeld => ?_)
  clear hK K
  try simp only [lays]
  refine wpAnyH_ready (rs := [3]) (by kernel_rfl) (by simp) (AllReadyH.cons rfl (fun K hK => ?_) AllReadyH.nil)
  go_simp
  refine (FM.out _).mono ?_; rintro e wz ⟨rfl, hbz⟩; have Dz := chnN (W0 := w) hbz (by assumption); have Pz := LM.keep (n := w.heap.size) hbz (by assumption); clear hbz
  try go_wp2_with fail
  clear hHeld
  refine hK.out _ _ (LM.cells (n := w.heap.size) (by assumption)) (fun hHeld => ?_)
  clear hK K
  try simp only [lays]
  refine' tk 4 rfl (by kernel_rfl) (fun _ _ _ h => h) (by rfl) (by assumption) ?y33 ?r33
  case y33 => (intro w h; (try dsimp only at h); go_simp; (try with_reducible rfl))
  try simp only [lays]
  refine' tk 5 rfl (by kernel_rfl) (fun _ _ _ h => h) (by rfl) (by assumption) ?y34 ?r34
  case y34 => (intro w h; (try dsimp only at h); go_simp; (try with_reducible rfl))
  try simp only [lays]
  refine' tk 6 rfl (by kernel_rfl) (fun _ _ _ h => h) (by rfl) (by assumption) ?y35 ?r35
  case y35 => (intro w h; (try dsimp only at h); go_simp; (try with_reducible rfl))
  try simp only [lays]
  refine' tk 8 rfl (by kernel_rfl) (fun _ _ _ h => h) (by rfl) (by assumption) ?y36 ?r36
  case y36 => (intro w h; (try dsimp only at h); go_simp; (try with_reducible rfl))
  try simp only [lays]
  refine wpAnyH_ready (rs := [7]) (by kernel_rfl) (by simp) (AllReadyH.cons rfl (fun K hK => ?_) AllReadyH.nil)
  go_simp
  refine (FL.out _).mono ?_; rintro e wz ⟨rfl, hbz⟩; have Dz := chnN (W0 := w) hbz (by assumption); have Pz := LM.keep (n := w.heap.size) hbz (by assumption); clear hbz
  try go_wp2_with fail
  clear hHeld
  refine hK.out _ _ (LM.cells (n := w.heap.size) (by assumption)) (fun hHeld => ?_)
  clear hK K
  try simp only [lays]
  refine wpAnyH_ready (rs := [9]) (by kernel_rfl) (by simp) (AllReadyH.cons rfl (fun K hK => ?_) AllReadyH.nil)
  go_simp
  refine (TM.out _).mono ?_; rintro e wz ⟨rfl, hbz⟩; have Dz := chnN (W0 := w) hbz (by assumption); have Pz := LM.keep (n := w.heap.size) hbz (by assumption); clear hbz
  try go_wp2_with fail
  clear hHeld
  refine hK.out _ _ (LM.cells (n := w.heap.size) (by assumption)) (fun hHeld => ?_)
  clear hK K
  try simp only [lays]
  refine' tk 10 rfl (by kernel_rfl) (fun _ _ _ h => h) (by rfl) (by assumption) ?y39 ?r39
  case y39 => (intro w h; (try dsimp only at h); go_simp; (try with_reducible rfl))
  try simp only [lays]
  refine' tk 11 rfl (by kernel_rfl) (fun _ _ _ h => h) (by rfl) (by assumption) ?y40 ?r40
  case y40 => (intro w h; (try dsimp only at h); go_simp; (try with_reducible rfl))
  try simp only [lays]
  refine' tk 12 rfl (by kernel_rfl) (fun _ _ _ h => h) (by rfl) (by assumption) ?y41 ?r41
  case y41 => (intro w h; (try dsimp only at h); go_simp; (try with_reducible rfl))
  try simp only [lays]
  refine' tk0 13 rfl (by kernel_rfl) (fun _ _ _ h => h) (by rfl) (by assumption) ?_
  try simp only [lays]
  refine' tk0 14 rfl (by kernel_rfl) (fun _ _ _ h => h) (by rfl) (by assumption) ?_
  try simp only [lays]
  refine' tk0 15 rfl (by kernel_rfl) (fun _ _ _ h => h) (by rfl) (by assumption) ?_
  try simp only [lays]
  refine' tk0 16 rfl (by kernel_rfl) (fun _ _ _ h => h) (by rfl) (by assumption) ?_
  try simp only [lays]
  refine' tk0 17 rfl (by kernel_rfl) (fun _ _ _ h => h) (by rfl) (by assumption) ?_
  try simp only [lays]
  refine' tk 18 rfl (by kernel_rfl) (fun _ _ _ h => h) (by rfl) (by assumption) ?y47 ?r47
  case y47 => (intro w h; (try dsimp only at h); go_simp; (try with_reducible rfl))
  try simp only [lays]
  refine' tk 19 rfl (by kernel_rfl) (fun _ _ _ h => h) (by rfl) (by assumption) ?y48 ?r48
  case y48 => (intro w h; (try dsimp only at h); go_simp; (try with_reducible rfl))
  try simp only [lays]
  refine' tk0 20 rfl (by kernel_rfl) (fun _ _ _ h => h) (by rfl) (by assumption) ?_
  try simp only [lays]
  refine' tk0 21 rfl (by kernel_rfl) (fun _ _ _ h => h) (by rfl) (by assumption) ?_
  try simp only [lays]
  refine' tk0 22 rfl (by kernel_rfl) (fun _ _ _ h => h) (by rfl) (by assumption) ?_
  try simp only [lays]
  refine' tk0 23 rfl (by kernel_rfl) (fun _ _ _ h => h) (by rfl) (by assumption) ?_
  try simp only [lays]
  refine' tk0 24 rfl (by kernel_rfl) (fun _ _ _ h => h) (by rfl) (by assumption) ?_
  try simp only [lays]
  refine' tk 25 rfl (by kernel_rfl) (fun _ _ _ h => h) (by rfl) (by assumption) ?y54 ?r54
  case y54 => (intro w h; (try dsimp only at h); go_simp; (try with_reducible rfl))
  try simp only [lays]
  refine' tk 26 rfl (by kernel_rfl) (fun _ _ _ h => h) (by rfl) (by assumption) ?y55 ?r55
  case y55 => (intro w h; (try dsimp only at h); go_simp; (try with_reducible rfl))
  try simp only [lays]
  refine wpAnyH_done (by kernel_rfl) ?_ _
  go_wp2_with fail
  go_ret
  exact ⟨rfl, by assumption⟩
set_option maxHeartbeats 4000000 in
set_option maxRecDepth 100000 in
theorem meet_2 (la lp lb lq ma mp mb mq : Int) (w : World) (h0 : ((la == ma) && (lp == mp)) = false) (h1 : ((la == mb) && (lp == mq)) = false) (h2 : ((lb == ma) && (lq == mp)) = true) : Calls Tryz.prog 96 #[lkA la lp lb lq, lkA ma mp mb mq] w fun e w' => e = .returned (.bool true) ∧ Below w.heap.size w w' := by
  have D0 := (Below.alN (Below.alN (Below.refl w.heap.size w) (.cells #[.int .i64 la, .int .i64 lp, .int .i64 lb, .int .i64 lq] 83)) (.cells #[.int .i64 ma, .int .i64 mp, .int .i64 mb, .int .i64 mq] 83)).drew
  have M0 := (lm_new w (.int .i64 la) (.int .i64 lp) (.int .i64 lb) (.int .i64 lq) (.int .i64 ma) (.int .i64 mp) (.int .i64 mb) (.int .i64 mq) 83).drew
  have FL : Hid (∀ w, Calls Tryz.prog 77 #[lkA la lp lb lq] w fun e w' => e = .returned (plA la lp) ∧ Below w.heap.size w w') := fun w => from_any _ _ _ _ w
  have TL : Hid (∀ w, Calls Tryz.prog 78 #[lkA la lp lb lq] w fun e w' => e = .returned (plA lb lq) ∧ Below w.heap.size w w') := fun w => to_any _ _ _ _ w
  have FM : Hid (∀ w, Calls Tryz.prog 77 #[lkA ma mp mb mq] w fun e w' => e = .returned (plA ma mp) ∧ Below w.heap.size w w') := fun w => from_any _ _ _ _ w
  have TM : Hid (∀ w, Calls Tryz.prog 78 #[lkA ma mp mb mq] w fun e w' => e = .returned (plA mb mq) ∧ Below w.heap.size w w') := fun w => to_any _ _ _ _ w
  have P0 : ∀ w, (binOp .eql 37 (plA la lp) (plA ma mp)).run Tryz.prog w = .ok (.bool false) w := fun w => by rw [place_eq, h0]
  have P1 : ∀ w, (binOp .eql 37 (plA la lp) (plA mb mq)).run Tryz.prog w = .ok (.bool false) w := fun w => by rw [place_eq, h1]
  have P2 : ∀ w, (binOp .eql 37 (plA lb lq) (plA ma mp)).run Tryz.prog w = .ok (.bool true) w := fun w => by rw [place_eq, h2]
  clear h0 h1 h2
  go_enter Tryz.func96, Tryz.ntmps96
  go_wp2_with fail
  refine wp_region_held_drew (S := (fun w' => w'.cell? ⟨w.heap.size, 0, none⟩ = some (.int .i64 la) ∧ w'.cell? ⟨w.heap.size, 1, none⟩ = some (.int .i64 lp) ∧ w'.cell? ⟨w.heap.size, 2, none⟩ = some (.int .i64 lb) ∧ w'.cell? ⟨w.heap.size, 3, none⟩ = some (.int .i64 lq) ∧ w'.cell? ⟨w.heap.size + 1, 0, none⟩ = some (.int .i64 ma) ∧ w'.cell? ⟨w.heap.size + 1, 1, none⟩ = some (.int .i64 mp) ∧ w'.cell? ⟨w.heap.size + 1, 2, none⟩ = some (.int .i64 mb) ∧ w'.cell? ⟨w.heap.size + 1, 3, none⟩ = some (.int .i64 mq))) (by kernel_rfl) (LM.cells (n := w.heap.size) (by assumption)) (fun hHeld => ?_)
  refine' tk 0 rfl (by kernel_rfl) (fun _ _ _ h => h) (by rfl) (by assumption) ?y57 ?r57
  case y57 => (intro w h; (try dsimp only at h); go_simp; (try with_reducible rfl))
  try simp only [lays]
  refine' tk 2 rfl (by kernel_rfl) (fun _ _ _ h => h) (by rfl) (by assumption) ?y58 ?r58
  case y58 => (intro w h; (try dsimp only at h); go_simp; (try with_reducible rfl))
  try simp only [lays]
  refine wpAnyH_ready (rs := [1]) (by kernel_rfl) (by simp) (AllReadyH.cons rfl (fun K hK => ?_) AllReadyH.nil)
  go_simp
  refine (FL.out _).mono ?_; rintro e wz ⟨rfl, hbz⟩; have Dz := chnN (W0 := w) hbz (by assumption); have Pz := LM.keep (n := w.heap.size) hbz (by assumption); clear hbz
  try go_wp2_with fail
  clear hHeld
  refine hK.out _ _ (LM.cells (n := w.heap.size) (by assumption)) (fun hHeld => ?_)
  clear hK K
  try simp only [lays]
  refine wpAnyH_ready (rs := [3]) (by kernel_rfl) (by simp) (AllReadyH.cons rfl (fun K hK => ?_) AllReadyH.nil)
  go_simp
  refine (FM.out _).mono ?_; rintro e wz ⟨rfl, hbz⟩; have Dz := chnN (W0 := w) hbz (by assumption); have Pz := LM.keep (n := w.heap.size) hbz (by assumption); clear hbz
  try go_wp2_with fail
  clear hHeld
  refine hK.out _ _ (LM.cells (n := w.heap.size) (by assumption)) (fun hHeld => ?_)
  clear hK K
  try simp only [lays]
  refine' tk 4 rfl (by kernel_rfl) (fun _ _ _ h => h) (by rfl) (by assumption) ?y61 ?r61
  case y61 => (intro w h; (try dsimp only at h); go_simp; (try with_reducible rfl))
  try simp only [lays]
  refine' tk 5 rfl (by kernel_rfl) (fun _ _ _ h => h) (by rfl) (by assumption) ?y62 ?r62
  case y62 => (intro w h; (try dsimp only at h); go_simp; (try with_reducible rfl))
  try simp only [lays]
  refine' tk 6 rfl (by kernel_rfl) (fun _ _ _ h => h) (by rfl) (by assumption) ?y63 ?r63
  case y63 => (intro w h; (try dsimp only at h); go_simp; (try with_reducible rfl))
  try simp only [lays]
  refine' tk 8 rfl (by kernel_rfl) (fun _ _ _ h => h) (by rfl) (by assumption) ?y64 ?r64
  case y64 => (intro w h; (try dsimp only at h); go_simp; (try with_reducible rfl))
  try simp only [lays]
  refine wpAnyH_ready (rs := [7]) (by kernel_rfl) (by simp) (AllReadyH.cons rfl (fun K hK => ?_) AllReadyH.nil)
  go_simp
  refine (FL.out _).mono ?_; rintro e wz ⟨rfl, hbz⟩; have Dz := chnN (W0 := w) hbz (by assumption); have Pz := LM.keep (n := w.heap.size) hbz (by assumption); clear hbz
  try go_wp2_with fail
  clear hHeld
  refine hK.out _ _ (LM.cells (n := w.heap.size) (by assumption)) (fun hHeld => ?_)
  clear hK K
  try simp only [lays]
  refine wpAnyH_ready (rs := [9]) (by kernel_rfl) (by simp) (AllReadyH.cons rfl (fun K hK => ?_) AllReadyH.nil)
  go_simp
  refine (TM.out _).mono ?_; rintro e wz ⟨rfl, hbz⟩; have Dz := chnN (W0 := w) hbz (by assumption); have Pz := LM.keep (n := w.heap.size) hbz (by assumption); clear hbz
  try go_wp2_with fail
  clear hHeld
  refine hK.out _ _ (LM.cells (n := w.heap.size) (by assumption)) (fun hHeld => ?_)
  clear hK K
  try simp only [lays]
  refine' tk 10 rfl (by kernel_rfl) (fun _ _ _ h => h) (by rfl) (by assumption) ?y67 ?r67
  case y67 => (intro w h; (try dsimp only at h); go_simp; (try with_reducible rfl))
  try simp only [lays]
  refine' tk 11 rfl (by kernel_rfl) (fun _ _ _ h => h) (by rfl) (by assumption) ?y68 ?r68
  case y68 => (intro w h; (try dsimp only at h); go_simp; (try with_reducible rfl))
  try simp only [lays]
  refine' tk 12 rfl (by kernel_rfl) (fun _ _ _ h => h) (by rfl) (by assumption) ?y69 ?r69
  case y69 => (intro w h; (try dsimp only at h); go_simp; (try with_reducible rfl))
  try simp only [lays]
  refine' tk 13 rfl (by kernel_rfl) (fun _ _ _ h => h) (by rfl) (by assumption) ?y70 ?r70
  case y70 => (intro w h; (try dsimp only at h); go_simp; (try with_reducible rfl))
  try simp only [lays]
  refine' tk 15 rfl (by kernel_rfl) (fun _ _ _ h => h) (by rfl) (by assumption) ?y71 ?r71
  case y71 => (intro w h; (try dsimp only at h); go_simp; (try with_reducible rfl))
  try simp only [lays]
  refine wpAnyH_ready (rs := [14]) (by kernel_rfl) (by simp) (AllReadyH.cons rfl (fun K hK => ?_) AllReadyH.nil)
  go_simp
  refine (TL.out _).mono ?_; rintro e wz ⟨rfl, hbz⟩; have Dz := chnN (W0 := w) hbz (by assumption); have Pz := LM.keep (n := w.heap.size) hbz (by assumption); clear hbz
  try go_wp2_with fail
  clear hHeld
  refine hK.out _ _ (LM.cells (n := w.heap.size) (by assumption)) (fun hHeld => ?_)
  clear hK K
  try simp only [lays]
  refine wpAnyH_ready (rs := [16]) (by kernel_rfl) (by simp) (AllReadyH.cons rfl (fun K hK => ?_) AllReadyH.nil)
  go_simp
  refine (FM.out _).mono ?_; rintro e wz ⟨rfl, hbz⟩; have Dz := chnN (W0 := w) hbz (by assumption); have Pz := LM.keep (n := w.heap.size) hbz (by assumption); clear hbz
  try go_wp2_with fail
  clear hHeld
  refine hK.out _ _ (LM.cells (n := w.heap.size) (by assumption)) (fun hHeld => ?_)
  clear hK K
  try simp only [lays]
  refine' tk 17 rfl (by kernel_rfl) (fun _ _ _ h => h) (by rfl) (by assumption) ?y74 ?r74
  case y74 => (intro w h; (try dsimp only at h); go_simp; (try with_reducible rfl))
  try simp only [lays]
  refine' tk 18 rfl (by kernel_rfl) (fun _ _ _ h => h) (by rfl) (by assumption) ?y75 ?r75
  case y75 => (intro w h; (try dsimp only at h); go_simp; (try with_reducible rfl))
  try simp only [lays]
  refine' tk 19 rfl (by kernel_rfl) (fun _ _ _ h => h) (by rfl) (by assumption) ?y76 ?r76
  case y76 => (intro w h; (try dsimp only at h); go_simp; (try with_reducible rfl))
  try simp only [lays]
  refine' tk0 20 rfl (by kernel_rfl) (fun _ _ _ h => h) (by rfl) (by assumption) ?_
  try simp only [lays]
  refine' tk0 21 rfl (by kernel_rfl) (fun _ _ _ h => h) (by rfl) (by assumption) ?_
  try simp only [lays]
  refine' tk0 22 rfl (by kernel_rfl) (fun _ _ _ h => h) (by rfl) (by assumption) ?_
  try simp only [lays]
  refine' tk0 23 rfl (by kernel_rfl) (fun _ _ _ h => h) (by rfl) (by assumption) ?_
  try simp only [lays]
  refine' tk0 24 rfl (by kernel_rfl) (fun _ _ _ h => h) (by rfl) (by assumption) ?_
  try simp only [lays]
  refine' tk 25 rfl (by kernel_rfl) (fun _ _ _ h => h) (by rfl) (by assumption) ?y82 ?r82
  case y82 => (intro w h; (try dsimp only at h); go_simp; (try with_reducible rfl))
  try simp only [lays]
  refine' tk 26 rfl (by kernel_rfl) (fun _ _ _ h => h) (by rfl) (by assumption) ?y83 ?r83
  case y83 => (intro w h; (try dsimp only at h); go_simp; (try with_reducible rfl))
  try simp only [lays]
  refine wpAnyH_done (by kernel_rfl) ?_ _
  go_wp2_with fail
  go_ret
  exact ⟨rfl, by assumption⟩
set_option maxHeartbeats 4000000 in
set_option maxRecDepth 100000 in
theorem meet_3 (la lp lb lq ma mp mb mq : Int) (x3 : Bool) (w : World) (h0 : ((la == ma) && (lp == mp)) = false) (h1 : ((la == mb) && (lp == mq)) = false) (h2 : ((lb == ma) && (lq == mp)) = false) (h3 : ((lb == mb) && (lq == mq)) = x3) : Calls Tryz.prog 96 #[lkA la lp lb lq, lkA ma mp mb mq] w fun e w' => e = .returned (.bool x3) ∧ Below w.heap.size w w' := by
  have D0 := (Below.alN (Below.alN (Below.refl w.heap.size w) (.cells #[.int .i64 la, .int .i64 lp, .int .i64 lb, .int .i64 lq] 83)) (.cells #[.int .i64 ma, .int .i64 mp, .int .i64 mb, .int .i64 mq] 83)).drew
  have M0 := (lm_new w (.int .i64 la) (.int .i64 lp) (.int .i64 lb) (.int .i64 lq) (.int .i64 ma) (.int .i64 mp) (.int .i64 mb) (.int .i64 mq) 83).drew
  have FL : Hid (∀ w, Calls Tryz.prog 77 #[lkA la lp lb lq] w fun e w' => e = .returned (plA la lp) ∧ Below w.heap.size w w') := fun w => from_any _ _ _ _ w
  have TL : Hid (∀ w, Calls Tryz.prog 78 #[lkA la lp lb lq] w fun e w' => e = .returned (plA lb lq) ∧ Below w.heap.size w w') := fun w => to_any _ _ _ _ w
  have FM : Hid (∀ w, Calls Tryz.prog 77 #[lkA ma mp mb mq] w fun e w' => e = .returned (plA ma mp) ∧ Below w.heap.size w w') := fun w => from_any _ _ _ _ w
  have TM : Hid (∀ w, Calls Tryz.prog 78 #[lkA ma mp mb mq] w fun e w' => e = .returned (plA mb mq) ∧ Below w.heap.size w w') := fun w => to_any _ _ _ _ w
  have P0 : ∀ w, (binOp .eql 37 (plA la lp) (plA ma mp)).run Tryz.prog w = .ok (.bool false) w := fun w => by rw [place_eq, h0]
  have P1 : ∀ w, (binOp .eql 37 (plA la lp) (plA mb mq)).run Tryz.prog w = .ok (.bool false) w := fun w => by rw [place_eq, h1]
  have P2 : ∀ w, (binOp .eql 37 (plA lb lq) (plA ma mp)).run Tryz.prog w = .ok (.bool false) w := fun w => by rw [place_eq, h2]
  have P3 : ∀ w, (binOp .eql 37 (plA lb lq) (plA mb mq)).run Tryz.prog w = .ok (.bool x3) w := fun w => by rw [place_eq, h3]
  clear h0 h1 h2 h3
  go_enter Tryz.func96, Tryz.ntmps96
  go_wp2_with fail
  refine wp_region_held_drew (S := (fun w' => w'.cell? ⟨w.heap.size, 0, none⟩ = some (.int .i64 la) ∧ w'.cell? ⟨w.heap.size, 1, none⟩ = some (.int .i64 lp) ∧ w'.cell? ⟨w.heap.size, 2, none⟩ = some (.int .i64 lb) ∧ w'.cell? ⟨w.heap.size, 3, none⟩ = some (.int .i64 lq) ∧ w'.cell? ⟨w.heap.size + 1, 0, none⟩ = some (.int .i64 ma) ∧ w'.cell? ⟨w.heap.size + 1, 1, none⟩ = some (.int .i64 mp) ∧ w'.cell? ⟨w.heap.size + 1, 2, none⟩ = some (.int .i64 mb) ∧ w'.cell? ⟨w.heap.size + 1, 3, none⟩ = some (.int .i64 mq))) (by kernel_rfl) (LM.cells (n := w.heap.size) (by assumption)) (fun hHeld => ?_)
  refine' tk 0 rfl (by kernel_rfl) (fun _ _ _ h => h) (by rfl) (by assumption) ?y85 ?r85
  case y85 => (intro w h; (try dsimp only at h); go_simp; (try with_reducible rfl))
  try simp only [lays]
  refine' tk 2 rfl (by kernel_rfl) (fun _ _ _ h => h) (by rfl) (by assumption) ?y86 ?r86
  case y86 => (intro w h; (try dsimp only at h); go_simp; (try with_reducible rfl))
  try simp only [lays]
  refine wpAnyH_ready (rs := [1]) (by kernel_rfl) (by simp) (AllReadyH.cons rfl (fun K hK => ?_) AllReadyH.nil)
  go_simp
  refine (FL.out _).mono ?_; rintro e wz ⟨rfl, hbz⟩; have Dz := chnN (W0 := w) hbz (by assumption); have Pz := LM.keep (n := w.heap.size) hbz (by assumption); clear hbz
  try go_wp2_with fail
  clear hHeld
  refine hK.out _ _ (LM.cells (n := w.heap.size) (by assumption)) (fun hHeld => ?_)
  clear hK K
  try simp only [lays]
  refine wpAnyH_ready (rs := [3]) (by kernel_rfl) (by simp) (AllReadyH.cons rfl (fun K hK => ?_) AllReadyH.nil)
  go_simp
  refine (FM.out _).mono ?_; rintro e wz ⟨rfl, hbz⟩; have Dz := chnN (W0 := w) hbz (by assumption); have Pz := LM.keep (n := w.heap.size) hbz (by assumption); clear hbz
  try go_wp2_with fail
  clear hHeld
  refine hK.out _ _ (LM.cells (n := w.heap.size) (by assumption)) (fun hHeld => ?_)
  clear hK K
  try simp only [lays]
  refine' tk 4 rfl (by kernel_rfl) (fun _ _ _ h => h) (by rfl) (by assumption) ?y89 ?r89
  case y89 => (intro w h; (try dsimp only at h); go_simp; (try with_reducible rfl))
  try simp only [lays]
  refine' tk 5 rfl (by kernel_rfl) (fun _ _ _ h => h) (by rfl) (by assumption) ?y90 ?r90
  case y90 => (intro w h; (try dsimp only at h); go_simp; (try with_reducible rfl))
  try simp only [lays]
  refine' tk 6 rfl (by kernel_rfl) (fun _ _ _ h => h) (by rfl) (by assumption) ?y91 ?r91
  case y91 => (intro w h; (try dsimp only at h); go_simp; (try with_reducible rfl))
  try simp only [lays]
  refine' tk 8 rfl (by kernel_rfl) (fun _ _ _ h => h) (by rfl) (by assumption) ?y92 ?r92
  case y92 => (intro w h; (try dsimp only at h); go_simp; (try with_reducible rfl))
  try simp only [lays]
  refine wpAnyH_ready (rs := [7]) (by kernel_rfl) (by simp) (AllReadyH.cons rfl (fun K hK => ?_) AllReadyH.nil)
  go_simp
  refine (FL.out _).mono ?_; rintro e wz ⟨rfl, hbz⟩; have Dz := chnN (W0 := w) hbz (by assumption); have Pz := LM.keep (n := w.heap.size) hbz (by assumption); clear hbz
  try go_wp2_with fail
  clear hHeld
  refine hK.out _ _ (LM.cells (n := w.heap.size) (by assumption)) (fun hHeld => ?_)
  clear hK K
  try simp only [lays]
  refine wpAnyH_ready (rs := [9]) (by kernel_rfl) (by simp) (AllReadyH.cons rfl (fun K hK => ?_) AllReadyH.nil)
  go_simp
  refine (TM.out _).mono ?_; rintro e wz ⟨rfl, hbz⟩; have Dz := chnN (W0 := w) hbz (by assumption); have Pz := LM.keep (n := w.heap.size) hbz (by assumption); clear hbz
  try go_wp2_with fail
  clear hHeld
  refine hK.out _ _ (LM.cells (n := w.heap.size) (by assumption)) (fun hHeld => ?_)
  clear hK K
  try simp only [lays]
  refine' tk 10 rfl (by kernel_rfl) (fun _ _ _ h => h) (by rfl) (by assumption) ?y95 ?r95
  case y95 => (intro w h; (try dsimp only at h); go_simp; (try with_reducible rfl))
  try simp only [lays]
  refine' tk 11 rfl (by kernel_rfl) (fun _ _ _ h => h) (by rfl) (by assumption) ?y96 ?r96
  case y96 => (intro w h; (try dsimp only at h); go_simp; (try with_reducible rfl))
  try simp only [lays]
  refine' tk 12 rfl (by kernel_rfl) (fun _ _ _ h => h) (by rfl) (by assumption) ?y97 ?r97
  case y97 => (intro w h; (try dsimp only at h); go_simp; (try with_reducible rfl))
  try simp only [lays]
  refine' tk 13 rfl (by kernel_rfl) (fun _ _ _ h => h) (by rfl) (by assumption) ?y98 ?r98
  case y98 => (intro w h; (try dsimp only at h); go_simp; (try with_reducible rfl))
  try simp only [lays]
  refine' tk 15 rfl (by kernel_rfl) (fun _ _ _ h => h) (by rfl) (by assumption) ?y99 ?r99
  case y99 => (intro w h; (try dsimp only at h); go_simp; (try with_reducible rfl))
  try simp only [lays]
  refine wpAnyH_ready (rs := [14]) (by kernel_rfl) (by simp) (AllReadyH.cons rfl (fun K hK => ?_) AllReadyH.nil)
  go_simp
  refine (TL.out _).mono ?_; rintro e wz ⟨rfl, hbz⟩; have Dz := chnN (W0 := w) hbz (by assumption); have Pz := LM.keep (n := w.heap.size) hbz (by assumption); clear hbz
  try go_wp2_with fail
  clear hHeld
  refine hK.out _ _ (LM.cells (n := w.heap.size) (by assumption)) (fun hHeld => ?_)
  clear hK K
  try simp only [lays]
  refine wpAnyH_ready (rs := [16]) (by kernel_rfl) (by simp) (AllReadyH.cons rfl (fun K hK => ?_) AllReadyH.nil)
  go_simp
  refine (FM.out _).mono ?_; rintro e wz ⟨rfl, hbz⟩; have Dz := chnN (W0 := w) hbz (by assumption); have Pz := LM.keep (n := w.heap.size) hbz (by assumption); clear hbz
  try go_wp2_with fail
  clear hHeld
  refine hK.out _ _ (LM.cells (n := w.heap.size) (by assumption)) (fun hHeld => ?_)
  clear hK K
  try simp only [lays]
  refine' tk 17 rfl (by kernel_rfl) (fun _ _ _ h => h) (by rfl) (by assumption) ?y102 ?r102
  case y102 => (intro w h; (try dsimp only at h); go_simp; (try with_reducible rfl))
  try simp only [lays]
  refine' tk 18 rfl (by kernel_rfl) (fun _ _ _ h => h) (by rfl) (by assumption) ?y103 ?r103
  case y103 => (intro w h; (try dsimp only at h); go_simp; (try with_reducible rfl))
  try simp only [lays]
  refine' tk 19 rfl (by kernel_rfl) (fun _ _ _ h => h) (by rfl) (by assumption) ?y104 ?r104
  case y104 => (intro w h; (try dsimp only at h); go_simp; (try with_reducible rfl))
  try simp only [lays]
  refine' tk 20 rfl (by kernel_rfl) (fun _ _ _ h => h) (by rfl) (by assumption) ?y105 ?r105
  case y105 => (intro w h; (try dsimp only at h); go_simp; (try with_reducible rfl))
  try simp only [lays]
  refine' tk 22 rfl (by kernel_rfl) (fun _ _ _ h => h) (by rfl) (by assumption) ?y106 ?r106
  case y106 => (intro w h; (try dsimp only at h); go_simp; (try with_reducible rfl))
  try simp only [lays]
  refine wpAnyH_ready (rs := [21]) (by kernel_rfl) (by simp) (AllReadyH.cons rfl (fun K hK => ?_) AllReadyH.nil)
  go_simp
  refine (TL.out _).mono ?_; rintro e wz ⟨rfl, hbz⟩; have Dz := chnN (W0 := w) hbz (by assumption); have Pz := LM.keep (n := w.heap.size) hbz (by assumption); clear hbz
  try go_wp2_with fail
  clear hHeld
  refine hK.out _ _ (LM.cells (n := w.heap.size) (by assumption)) (fun hHeld => ?_)
  clear hK K
  try simp only [lays]
  refine wpAnyH_ready (rs := [23]) (by kernel_rfl) (by simp) (AllReadyH.cons rfl (fun K hK => ?_) AllReadyH.nil)
  go_simp
  refine (TM.out _).mono ?_; rintro e wz ⟨rfl, hbz⟩; have Dz := chnN (W0 := w) hbz (by assumption); have Pz := LM.keep (n := w.heap.size) hbz (by assumption); clear hbz
  try go_wp2_with fail
  clear hHeld
  refine hK.out _ _ (LM.cells (n := w.heap.size) (by assumption)) (fun hHeld => ?_)
  clear hK K
  try simp only [lays]
  refine' tk 24 rfl (by kernel_rfl) (fun _ _ _ h => h) (by rfl) (by assumption) ?y109 ?r109
  case y109 => (intro w h; (try dsimp only at h); go_simp; (try with_reducible rfl))
  try simp only [lays]
  refine' tk 25 rfl (by kernel_rfl) (fun _ _ _ h => h) (by rfl) (by assumption) ?y110 ?r110
  case y110 => (intro w h; (try dsimp only at h); go_simp; (try with_reducible rfl))
  try simp only [lays]
  refine' tk 26 rfl (by kernel_rfl) (fun _ _ _ h => h) (by rfl) (by assumption) ?y111 ?r111
  case y111 => (intro w h; (try dsimp only at h); go_simp; (try with_reducible rfl))
  try simp only [lays]
  refine wpAnyH_done (by kernel_rfl) ?_ _
  go_wp2_with fail
  go_ret
  exact ⟨rfl, by assumption⟩
theorem meet_any (l m : Lk) (w : World) : Calls Tryz.prog 96 #[lkA l.a l.p l.b l.q, lkA m.a m.p m.b m.q] w fun e w' => e = .returned (.bool (meetB l m)) ∧ Below w.heap.size w w' := by
  unfold meetB
  cases h0 : ((l.a == m.a) && (l.p == m.p))
  · cases h1 : ((l.a == m.b) && (l.p == m.q))
    · cases h2 : ((l.b == m.a) && (l.q == m.p))
      · exact meet_3 _ _ _ _ _ _ _ _ _ w h0 h1 h2 rfl
      · exact meet_2 _ _ _ _ _ _ _ _ w h0 h1 h2
    · exact meet_1 _ _ _ _ _ _ _ _ w h0 h1
  · exact meet_0 _ _ _ _ _ _ _ _ w h0
set_option maxHeartbeats 1000000 in
theorem link1_any (o l : Lk) (n0 : Nat) (w : World) (hT : Lk4 w n0 (.int .i64 l.a) (.int .i64 l.p) (.int .i64 l.b) (.int .i64 l.q)) :
    Calls Tryz.prog 95 #[lkA o.a o.p o.b o.q, .pointer (some ⟨n0, 0, none⟩)] w fun e w' => e = .returned (.bool (meetB o l)) ∧ Below w.heap.size w w' := by
  have D0 := Below.alN (Below.refl w.heap.size w) (.cells #[.int .i64 o.a, .int .i64 o.p, .int .i64 o.b, .int .i64 o.q] 83)
  have T1 := hT.alloc (.cells #[.int .i64 o.a, .int .i64 o.p, .int .i64 o.b, .int .i64 o.q] 83)
  obtain ⟨l0, g0, g1, g2, g3⟩ := T1
  have SM : Hid (∀ w, Calls Tryz.prog 96 #[lkA o.a o.p o.b o.q, lkA l.a l.p l.b l.q] w fun e w' => e = .returned (.bool (meetB o l)) ∧ Below w.heap.size w w') := fun w => meet_any o l w
  clear hT
  generalize meetB o l = x at *
  generalize o.a = oa at *
  generalize o.p = op at *
  generalize o.b = ob at *
  generalize o.q = oq at *
  generalize l.a = la at *
  generalize l.p = lp at *
  generalize l.b = lb at *
  generalize l.q = lq at *
  go_enter Tryz.func95, Tryz.ntmps95
  go_wp2_with fail
  refine (SM.out _).mono ?_
  rintro e w1 ⟨rfl, hb1⟩
  have D1 := chnN hb1 D0
  clear D0 hb1 g0 g1 g2 g3 SM
  go_wp2_with fail
  go_ret
  exact ⟨rfl, D1⟩
theorem any_takeL {ls : List Lk} {k : Nat} {m l : Lk} (h : ls[k]? = some m) : (ls.take (k + 1)).any (fun m => meetB m l) = ((ls.take k).any (fun m => meetB m l) || meetB m l) := by
  obtain ⟨hk, e⟩ := List.getElem?_eq_some_iff.1 h
  rw [List.take_succ_eq_append_getElem hk, e]
  simp
set_option maxHeartbeats 4000000 in
set_option maxRecDepth 100000 in
theorem linkIdx_any (A : Option Addr) (n cap : Nat) (ls : List Lk) (l : Lk) (n0 : Nat) (w : World) (hL : Hid (Links w.heap.size w (.slice A n cap) ls)) (hT : Hid (Lk4 w n0 (.int .i64 l.a) (.int .i64 l.p) (.int .i64 l.b) (.int .i64 l.q))) :
    Calls Tryz.prog 115 #[.slice A n cap, .func (.func 95) #[] #[.pointer (some ⟨n0, 0, none⟩)]] w fun e w' => ∃ j : Int, e = .returned (.int .i64 j) ∧ Hid (decide (0 ≤ j) = ls.any (fun m => meetB m l)) ∧ Below w.heap.size w w' := by
  obtain ⟨rfl, hc, hm⟩ := hL.out.len
  unfold maxLen at hm
  go_enter Tryz.func115, Tryz.ntmps115
  go_wp2_with fail
  go_loopw [8] (fun i wr => ∃ k : Nat, i = .int .i64 (k : Int) ∧ k ≤ ls.length ∧ Below w.heap.size w wr ∧ Hid ((ls.take k).any (fun m => meetB m l) = false)) (fun i _ => ls.length - (intOf i).toNat)
  case atStart => exact ⟨0, rfl, by omega, Below.refl _ _, rfl⟩
  case round =>
    obtain ⟨k, rfl, hk, D1, hno⟩ := hrel
    by_cases hlt : k < ls.length
    · obtain ⟨m, hxk⟩ : ∃ m, ls[k]? = some m := ⟨_, List.getElem?_eq_getElem hlt⟩
      obtain ⟨b, o, rfl, hb, c0, c1, c2, c3⟩ := (hL.out.below D1).at hxk
      have PR : Hid (Calls Tryz.prog 95 #[lkA m.a m.p m.b m.q, .pointer (some ⟨n0, 0, none⟩)] wr fun e w' => e = .returned (.bool (meetB m l)) ∧ Below wr.heap.size wr w') := link1_any m l n0 wr (hT.out.below D1 hT.out.1)
      have HX : Hid (ls[k]? = some m) := hxk
      have k1 : (0 : Int) ≤ (k : Int) := by omega
      have k2 : (k : Int) < (ls.length : Int) := by omega
      clear hL hxk hT
      cases hv : meetB m l
      · rw [hv] at PR
        have HV : Hid ((ls.take (k + 1)).any (fun m => meetB m l) = false) := by show _ = _; rw [any_takeL HX.out, hno.out, hv]; rfl
        clear hv hno HX
        generalize m.a = ma at *
        generalize m.p = mp at *
        generalize m.b = mb at *
        generalize m.q = mq at *
        go_wp2_with fail
        refine PR.out.mono ?_
        rintro e w2 ⟨rfl, hb2⟩
        have D2 := chnN hb2 D1
        clear hb2 D1 c0 c1 c2 c3 PR
        go_wp2_with fail
        go_roundw
        case rel => exact ⟨k + 1, by go_num, by omega, D2, HV⟩
        case measure => simp [intOf]; omega
      · rw [hv] at PR
        have fin : Hid (ls.any (fun m => meetB m l) = true) := List.any_eq_true.2 ⟨m, List.mem_of_getElem? HX.out, hv⟩
        clear hv hno HX
        generalize m.a = ma at *
        generalize m.p = mp at *
        generalize m.b = mb at *
        generalize m.q = mq at *
        go_wp2_with fail
        refine PR.out.mono ?_
        rintro e w2 ⟨rfl, hb2⟩
        have D2 := chnN hb2 D1
        clear hb2 D1 c0 c1 c2 c3 PR
        go_wp2_with fail
        go_ret
        exact ⟨_, rfl, (by show _ = _; rw [fin.out]; simp), D2⟩
    · have fin : Hid (ls.any (fun m => meetB m l) = false) := by
        have := hno.out
        rw [show k = ls.length by omega, List.take_length] at this
        exact this
      go_wp2_with fail
      go_ret
      exact ⟨_, rfl, (by show _ = _; rw [fin.out]; simp), D1⟩
set_option maxHeartbeats 1000000 in
theorem linkHas_any (A : Option Addr) (n cap : Nat) (ls : List Lk) (l : Lk) (n0 : Nat) (w : World) (hL : Hid (Links w.heap.size w (.slice A n cap) ls)) (hT : Hid (Lk4 w n0 (.int .i64 l.a) (.int .i64 l.p) (.int .i64 l.b) (.int .i64 l.q))) :
    Calls Tryz.prog 94 #[.slice A n cap, .func (.func 95) #[] #[.pointer (some ⟨n0, 0, none⟩)]] w fun e w' => e = .returned (.bool (ls.any (fun m => meetB m l))) ∧ Below w.heap.size w w' := by
  have IX : Hid (Calls Tryz.prog 115 #[.slice A n cap, .func (.func 95) #[] #[.pointer (some ⟨n0, 0, none⟩)]] w fun e w' => ∃ j : Int, e = .returned (.int .i64 j) ∧ Hid (decide (0 ≤ j) = ls.any (fun m => meetB m l)) ∧ Below w.heap.size w w') := linkIdx_any A n cap ls l n0 w hL hT
  clear hL hT
  generalize ls.any (fun m => meetB m l) = x at *
  go_enter Tryz.func94, Tryz.ntmps94
  go_wp2_with fail
  refine IX.out.mono ?_
  rintro e w2 ⟨j, rfl, hj, hb2⟩
  clear IX
  go_wp2_with fail
  go_ret
  exact ⟨by rw [hj.out]; rfl, hb2⟩
theorem Lk4.cells {w : World} {n : Nat} {a b c d : Value} (h : Lk4 w n a b c d) : w.cell? ⟨n, 0, none⟩ = some a ∧ w.cell? ⟨n, 1, none⟩ = some b ∧ w.cell? ⟨n, 2, none⟩ = some c ∧ w.cell? ⟨n, 3, none⟩ = some d := h.2
theorem Lk4.keep {W w' : World} {n : Nat} {a b c d : Value} (hb : Below W.heap.size W w') (h : Lk4 W n a b c d) : Lk4 w' n a b c d := h.below hb h.1
end Go.Proofs.YtgmjlkllghlmmaaGreat
