/-
  XAI.
-/
import Derived.Test.YtlmmeppifkigeaaGreatLy
import Derived.Test.YtlmmeppifkigeaaGreatXAB
import Derived.Test.YtlmmeppifkigeaaGreatXAG
import Derived.Test.YtlmmeppifkigeaaGreatXAH
set_option maxHeartbeats 8000000
set_option maxRecDepth 100000
namespace Go.Proofs.YtlmmeppifkigeaaGreat
open Go.RowKit
def LM (w : World) (n : Nat) (a b c d e f g h : Value) : Prop := Lk4 w n a b c d ∧ Lk4 w (n + 1) e f g h
theorem LM.cells {w : World} {n : Nat} {a b c d e f g h : Value} (H : LM w n a b c d e f g h) : w.cell? ⟨n, 0, none⟩ = some a ∧ w.cell? ⟨n, 1, none⟩ = some b ∧ w.cell? ⟨n, 2, none⟩ = some c ∧ w.cell? ⟨n, 3, none⟩ = some d ∧ w.cell? ⟨n + 1, 0, none⟩ = some e ∧ w.cell? ⟨n + 1, 1, none⟩ = some f ∧ w.cell? ⟨n + 1, 2, none⟩ = some g ∧ w.cell? ⟨n + 1, 3, none⟩ = some h := by
 obtain ⟨⟨_, h1, h2, h3, h4⟩, ⟨_, h5, h6, h7, h8⟩⟩ := H
 exact ⟨h1, h2, h3, h4, h5, h6, h7, h8⟩
theorem LM.keep {W w' : World} {n : Nat} {a b c d e f g h : Value} (hb : Below W.heap.size W w') (H : LM W n a b c d e f g h) : LM w' n a b c d e f g h := ⟨H.1.below hb H.1.1, H.2.below hb H.2.1⟩
theorem LM.drew {w : World} {n : Nat} {a b c d e f g h : Value} (H : LM w n a b c d e f g h) : LM w.drew n a b c d e f g h := H
theorem lm_new (w : World) (a b c d e f g h : Value) (t : TypeId) : LM ((w.alloc (.cells #[a, b, c, d] t)).alloc (.cells #[e, f, g, h] t)) w.heap.size a b c d e f g h := by
 refine ⟨(lk4_new w a b c d t).alloc _, ?_⟩
 have := lk4_new (w.alloc (.cells #[a, b, c, d] t)) e f g h t
 rw [World.size_alloc] at this
 exact this
theorem meet_0 (la lp lb lq ma mp mb mq : Int) (w : World) (h0 : ((la == ma) && (lp == mp)) = true) : Calls Tryz.prog 85 #[lkA la lp lb lq, lkA ma mp mb mq] w fun e w' => e = .returned (.bool true) ∧ Below w.heap.size w w' := by
 have D0 := (Below.alN (Below.alN (Below.refl w.heap.size w) (.cells #[.int .i64 la, .int .i64 lp, .int .i64 lb, .int .i64 lq] 64)) (.cells #[.int .i64 ma, .int .i64 mp, .int .i64 mb, .int .i64 mq] 64)).drew
 have M0 := (lm_new w (.int .i64 la) (.int .i64 lp) (.int .i64 lb) (.int .i64 lq) (.int .i64 ma) (.int .i64 mp) (.int .i64 mb) (.int .i64 mq) 64).drew
 have FL : Hid (∀ w, Calls Tryz.prog 81 #[lkA la lp lb lq] w fun e w' => e = .returned (plA la lp) ∧ Below w.heap.size w w') := fun w => from_any _ _ _ _ w
 have TL : Hid (∀ w, Calls Tryz.prog 82 #[lkA la lp lb lq] w fun e w' => e = .returned (plA lb lq) ∧ Below w.heap.size w w') := fun w => to_any _ _ _ _ w
 have FM : Hid (∀ w, Calls Tryz.prog 81 #[lkA ma mp mb mq] w fun e w' => e = .returned (plA ma mp) ∧ Below w.heap.size w w') := fun w => from_any _ _ _ _ w
 have TM : Hid (∀ w, Calls Tryz.prog 82 #[lkA ma mp mb mq] w fun e w' => e = .returned (plA mb mq) ∧ Below w.heap.size w w') := fun w => to_any _ _ _ _ w
 have P0 : ∀ w, (binOp .eql 43 (plA la lp) (plA ma mp)).run Tryz.prog w = .ok (.bool true) w := fun w => by rw [place_eq, h0]
 clear h0
 go_enter Tryz.func85, Tryz.ntmps85
 go_wp2_with fail
 refine wp_region_held_drew (S := (fun w' => w'.cell? ⟨w.heap.size, 0, none⟩ = some (.int .i64 la) ∧ w'.cell? ⟨w.heap.size, 1, none⟩ = some (.int .i64 lp) ∧ w'.cell? ⟨w.heap.size, 2, none⟩ = some (.int .i64 lb) ∧ w'.cell? ⟨w.heap.size, 3, none⟩ = some (.int .i64 lq) ∧ w'.cell? ⟨w.heap.size + 1, 0, none⟩ = some (.int .i64 ma) ∧ w'.cell? ⟨w.heap.size + 1, 1, none⟩ = some (.int .i64 mp) ∧ w'.cell? ⟨w.heap.size + 1, 2, none⟩ = some (.int .i64 mb) ∧ w'.cell? ⟨w.heap.size + 1, 3, none⟩ = some (.int .i64 mq))) (by kernel_rfl) (LM.cells (n := w.heap.size) (by assumption)) (fun hHeld => ?_)
 refine tk 0 ?_; try simp only [ly]
 refine tk 2 ?_; try simp only [ly]
 refine rd 1 (fun K hK => ?_)
 go_simp
 refine (FL.out _).mono ?_; rintro e wz ⟨rfl, hbz⟩; have Dz := chnN (W0 := w) hbz (by assumption); have Pz := LM.keep (n := w.heap.size) hbz (by assumption); clear hbz
 try go_wp2_with fail
 clear hHeld
 refine hK.out _ _ (LM.cells (n := w.heap.size) (by assumption)) (fun hHeld => ?_)
 clear hK K
 try simp only [ly]
 refine rd 3 (fun K hK => ?_)
 go_simp
 refine (FM.out _).mono ?_; rintro e wz ⟨rfl, hbz⟩; have Dz := chnN (W0 := w) hbz (by assumption); have Pz := LM.keep (n := w.heap.size) hbz (by assumption); clear hbz
 try go_wp2_with fail
 clear hHeld
 refine hK.out _ _ (LM.cells (n := w.heap.size) (by assumption)) (fun hHeld => ?_)
 clear hK K
 try simp only [ly]
 refine tk 4 ?_; try simp only [ly]
 refine tk 5 ?_; try simp only [ly]
 refine tk0 6 ?_; try simp only [ly]
 refine tk0 7 ?_; try simp only [ly]
 refine tk0 8 ?_; try simp only [ly]
 refine tk0 9 ?_; try simp only [ly]
 refine tk0 10 ?_; try simp only [ly]
 refine tk 11 ?_; try simp only [ly]
 refine tk 12 ?_; try simp only [ly]
 refine tk0 13 ?_; try simp only [ly]
 refine tk0 14 ?_; try simp only [ly]
 refine tk0 15 ?_; try simp only [ly]
 refine tk0 16 ?_; try simp only [ly]
 refine tk0 17 ?_; try simp only [ly]
 refine tk 18 ?_; try simp only [ly]
 refine tk 19 ?_; try simp only [ly]
 refine tk0 20 ?_; try simp only [ly]
 refine tk0 21 ?_; try simp only [ly]
 refine tk0 22 ?_; try simp only [ly]
 refine tk0 23 ?_; try simp only [ly]
 refine tk0 24 ?_; try simp only [ly]
 refine tk 25 ?_; try simp only [ly]
 refine tk 26 ?_; try simp only [ly]
 refine wpAnyH_done (by kernel_rfl) ?_ _
 go_wp2_with fail
 go_ret
 exact ⟨rfl, by assumption⟩
theorem meet_1 (la lp lb lq ma mp mb mq : Int) (w : World) (h0 : ((la == ma) && (lp == mp)) = false) (h1 : ((la == mb) && (lp == mq)) = true) : Calls Tryz.prog 85 #[lkA la lp lb lq, lkA ma mp mb mq] w fun e w' => e = .returned (.bool true) ∧ Below w.heap.size w w' := by
 have D0 := (Below.alN (Below.alN (Below.refl w.heap.size w) (.cells #[.int .i64 la, .int .i64 lp, .int .i64 lb, .int .i64 lq] 64)) (.cells #[.int .i64 ma, .int .i64 mp, .int .i64 mb, .int .i64 mq] 64)).drew
 have M0 := (lm_new w (.int .i64 la) (.int .i64 lp) (.int .i64 lb) (.int .i64 lq) (.int .i64 ma) (.int .i64 mp) (.int .i64 mb) (.int .i64 mq) 64).drew
 have FL : Hid (∀ w, Calls Tryz.prog 81 #[lkA la lp lb lq] w fun e w' => e = .returned (plA la lp) ∧ Below w.heap.size w w') := fun w => from_any _ _ _ _ w
 have TL : Hid (∀ w, Calls Tryz.prog 82 #[lkA la lp lb lq] w fun e w' => e = .returned (plA lb lq) ∧ Below w.heap.size w w') := fun w => to_any _ _ _ _ w
 have FM : Hid (∀ w, Calls Tryz.prog 81 #[lkA ma mp mb mq] w fun e w' => e = .returned (plA ma mp) ∧ Below w.heap.size w w') := fun w => from_any _ _ _ _ w
 have TM : Hid (∀ w, Calls Tryz.prog 82 #[lkA ma mp mb mq] w fun e w' => e = .returned (plA mb mq) ∧ Below w.heap.size w w') := fun w => to_any _ _ _ _ w
 have P0 : ∀ w, (binOp .eql 43 (plA la lp) (plA ma mp)).run Tryz.prog w = .ok (.bool false) w := fun w => by rw [place_eq, h0]
 have P1 : ∀ w, (binOp .eql 43 (plA la lp) (plA mb mq)).run Tryz.prog w = .ok (.bool true) w := fun w => by rw [place_eq, h1]
 clear h0 h1
 go_enter Tryz.func85, Tryz.ntmps85
 go_wp2_with fail
 refine wp_region_held_drew (S := (fun w' => w'.cell? ⟨w.heap.size, 0, none⟩ = some (.int .i64 la) ∧ w'.cell? ⟨w.heap.size, 1, none⟩ = some (.int .i64 lp) ∧ w'.cell? ⟨w.heap.size, 2, none⟩ = some (.int .i64 lb) ∧ w'.cell? ⟨w.heap.size, 3, none⟩ = some (.int .i64 lq) ∧ w'.cell? ⟨w.heap.size + 1, 0, none⟩ = some (.int .i64 ma) ∧ w'.cell? ⟨w.heap.size + 1, 1, none⟩ = some (.int .i64 mp) ∧ w'.cell? ⟨w.heap.size + 1, 2, none⟩ = some (.int .i64 mb) ∧ w'.cell? ⟨w.heap.size + 1, 3, none⟩ = some (.int .i64 mq))) (by kernel_rfl) (LM.cells (n := w.heap.size) (by assumption)) (fun hHeld => ?_)
 refine tk 0 ?_; try simp only [ly]
 refine tk 2 ?_; try simp only [ly]
 refine rd 1 (fun K hK => ?_)
 go_simp
 refine (FL.out _).mono ?_; rintro e wz ⟨rfl, hbz⟩; have Dz := chnN (W0 := w) hbz (by assumption); have Pz := LM.keep (n := w.heap.size) hbz (by assumption); clear hbz
 try go_wp2_with fail
 clear hHeld
 refine hK.out _ _ (LM.cells (n := w.heap.size) (by assumption)) (fun hHeld => ?_)
 clear hK K
 try simp only [ly]
 refine rd 3 (fun K hK => ?_)
 go_simp
 refine (FM.out _).mono ?_; rintro e wz ⟨rfl, hbz⟩; have Dz := chnN (W0 := w) hbz (by assumption); have Pz := LM.keep (n := w.heap.size) hbz (by assumption); clear hbz
 try go_wp2_with fail
 clear hHeld
 refine hK.out _ _ (LM.cells (n := w.heap.size) (by assumption)) (fun hHeld => ?_)
 clear hK K
 try simp only [ly]
 refine tk 4 ?_; try simp only [ly]
 refine tk 5 ?_; try simp only [ly]
 refine tk 6 ?_; try simp only [ly]
 refine tk 8 ?_; try simp only [ly]
 refine rd 7 (fun K hK => ?_)
 go_simp
 refine (FL.out _).mono ?_; rintro e wz ⟨rfl, hbz⟩; have Dz := chnN (W0 := w) hbz (by assumption); have Pz := LM.keep (n := w.heap.size) hbz (by assumption); clear hbz
 try go_wp2_with fail
 clear hHeld
 refine hK.out _ _ (LM.cells (n := w.heap.size) (by assumption)) (fun hHeld => ?_)
 clear hK K
 try simp only [ly]
 refine rd 9 (fun K hK => ?_)
 go_simp
 refine (TM.out _).mono ?_; rintro e wz ⟨rfl, hbz⟩; have Dz := chnN (W0 := w) hbz (by assumption); have Pz := LM.keep (n := w.heap.size) hbz (by assumption); clear hbz
 try go_wp2_with fail
 clear hHeld
 refine hK.out _ _ (LM.cells (n := w.heap.size) (by assumption)) (fun hHeld => ?_)
 clear hK K
 try simp only [ly]
 refine tk 10 ?_; try simp only [ly]
 refine tk 11 ?_; try simp only [ly]
 refine tk 12 ?_; try simp only [ly]
 refine tk0 13 ?_; try simp only [ly]
 refine tk0 14 ?_; try simp only [ly]
 refine tk0 15 ?_; try simp only [ly]
 refine tk0 16 ?_; try simp only [ly]
 refine tk0 17 ?_; try simp only [ly]
 refine tk 18 ?_; try simp only [ly]
 refine tk 19 ?_; try simp only [ly]
 refine tk0 20 ?_; try simp only [ly]
 refine tk0 21 ?_; try simp only [ly]
 refine tk0 22 ?_; try simp only [ly]
 refine tk0 23 ?_; try simp only [ly]
 refine tk0 24 ?_; try simp only [ly]
 refine tk 25 ?_; try simp only [ly]
 refine tk 26 ?_; try simp only [ly]
 refine wpAnyH_done (by kernel_rfl) ?_ _
 go_wp2_with fail
 go_ret
 exact ⟨rfl, by assumption⟩
theorem meet_2 (la lp lb lq ma mp mb mq : Int) (w : World) (h0 : ((la == ma) && (lp == mp)) = false) (h1 : ((la == mb) && (lp == mq)) = false) (h2 : ((lb == ma) && (lq == mp)) = true) : Calls Tryz.prog 85 #[lkA la lp lb lq, lkA ma mp mb mq] w fun e w' => e = .returned (.bool true) ∧ Below w.heap.size w w' := by
 have D0 := (Below.alN (Below.alN (Below.refl w.heap.size w) (.cells #[.int .i64 la, .int .i64 lp, .int .i64 lb, .int .i64 lq] 64)) (.cells #[.int .i64 ma, .int .i64 mp, .int .i64 mb, .int .i64 mq] 64)).drew
 have M0 := (lm_new w (.int .i64 la) (.int .i64 lp) (.int .i64 lb) (.int .i64 lq) (.int .i64 ma) (.int .i64 mp) (.int .i64 mb) (.int .i64 mq) 64).drew
 have FL : Hid (∀ w, Calls Tryz.prog 81 #[lkA la lp lb lq] w fun e w' => e = .returned (plA la lp) ∧ Below w.heap.size w w') := fun w => from_any _ _ _ _ w
 have TL : Hid (∀ w, Calls Tryz.prog 82 #[lkA la lp lb lq] w fun e w' => e = .returned (plA lb lq) ∧ Below w.heap.size w w') := fun w => to_any _ _ _ _ w
 have FM : Hid (∀ w, Calls Tryz.prog 81 #[lkA ma mp mb mq] w fun e w' => e = .returned (plA ma mp) ∧ Below w.heap.size w w') := fun w => from_any _ _ _ _ w
 have TM : Hid (∀ w, Calls Tryz.prog 82 #[lkA ma mp mb mq] w fun e w' => e = .returned (plA mb mq) ∧ Below w.heap.size w w') := fun w => to_any _ _ _ _ w
 have P0 : ∀ w, (binOp .eql 43 (plA la lp) (plA ma mp)).run Tryz.prog w = .ok (.bool false) w := fun w => by rw [place_eq, h0]
 have P1 : ∀ w, (binOp .eql 43 (plA la lp) (plA mb mq)).run Tryz.prog w = .ok (.bool false) w := fun w => by rw [place_eq, h1]
 have P2 : ∀ w, (binOp .eql 43 (plA lb lq) (plA ma mp)).run Tryz.prog w = .ok (.bool true) w := fun w => by rw [place_eq, h2]
 clear h0 h1 h2
 go_enter Tryz.func85, Tryz.ntmps85
 go_wp2_with fail
 refine wp_region_held_drew (S := (fun w' => w'.cell? ⟨w.heap.size, 0, none⟩ = some (.int .i64 la) ∧ w'.cell? ⟨w.heap.size, 1, none⟩ = some (.int .i64 lp) ∧ w'.cell? ⟨w.heap.size, 2, none⟩ = some (.int .i64 lb) ∧ w'.cell? ⟨w.heap.size, 3, none⟩ = some (.int .i64 lq) ∧ w'.cell? ⟨w.heap.size + 1, 0, none⟩ = some (.int .i64 ma) ∧ w'.cell? ⟨w.heap.size + 1, 1, none⟩ = some (.int .i64 mp) ∧ w'.cell? ⟨w.heap.size + 1, 2, none⟩ = some (.int .i64 mb) ∧ w'.cell? ⟨w.heap.size + 1, 3, none⟩ = some (.int .i64 mq))) (by kernel_rfl) (LM.cells (n := w.heap.size) (by assumption)) (fun hHeld => ?_)
 refine tk 0 ?_; try simp only [ly]
 refine tk 2 ?_; try simp only [ly]
 refine rd 1 (fun K hK => ?_)
 go_simp
 refine (FL.out _).mono ?_; rintro e wz ⟨rfl, hbz⟩; have Dz := chnN (W0 := w) hbz (by assumption); have Pz := LM.keep (n := w.heap.size) hbz (by assumption); clear hbz
 try go_wp2_with fail
 clear hHeld
 refine hK.out _ _ (LM.cells (n := w.heap.size) (by assumption)) (fun hHeld => ?_)
 clear hK K
 try simp only [ly]
 refine rd 3 (fun K hK => ?_)
 go_simp
 refine (FM.out _).mono ?_; rintro e wz ⟨rfl, hbz⟩; have Dz := chnN (W0 := w) hbz (by assumption); have Pz := LM.keep (n := w.heap.size) hbz (by assumption); clear hbz
 try go_wp2_with fail
 clear hHeld
 refine hK.out _ _ (LM.cells (n := w.heap.size) (by assumption)) (fun hHeld => ?_)
 clear hK K
 try simp only [ly]
 refine tk 4 ?_; try simp only [ly]
 refine tk 5 ?_; try simp only [ly]
 refine tk 6 ?_; try simp only [ly]
 refine tk 8 ?_; try simp only [ly]
 refine rd 7 (fun K hK => ?_)
 go_simp
 refine (FL.out _).mono ?_; rintro e wz ⟨rfl, hbz⟩; have Dz := chnN (W0 := w) hbz (by assumption); have Pz := LM.keep (n := w.heap.size) hbz (by assumption); clear hbz
 try go_wp2_with fail
 clear hHeld
 refine hK.out _ _ (LM.cells (n := w.heap.size) (by assumption)) (fun hHeld => ?_)
 clear hK K
 try simp only [ly]
 refine rd 9 (fun K hK => ?_)
 go_simp
 refine (TM.out _).mono ?_; rintro e wz ⟨rfl, hbz⟩; have Dz := chnN (W0 := w) hbz (by assumption); have Pz := LM.keep (n := w.heap.size) hbz (by assumption); clear hbz
 try go_wp2_with fail
 clear hHeld
 refine hK.out _ _ (LM.cells (n := w.heap.size) (by assumption)) (fun hHeld => ?_)
 clear hK K
 try simp only [ly]
 refine tk 10 ?_; try simp only [ly]
 refine tk 11 ?_; try simp only [ly]
 refine tk 12 ?_; try simp only [ly]
 refine tk 13 ?_; try simp only [ly]
 refine tk 15 ?_; try simp only [ly]
 refine rd 14 (fun K hK => ?_)
 go_simp
 refine (TL.out _).mono ?_; rintro e wz ⟨rfl, hbz⟩; have Dz := chnN (W0 := w) hbz (by assumption); have Pz := LM.keep (n := w.heap.size) hbz (by assumption); clear hbz
 try go_wp2_with fail
 clear hHeld
 refine hK.out _ _ (LM.cells (n := w.heap.size) (by assumption)) (fun hHeld => ?_)
 clear hK K
 try simp only [ly]
 refine rd 16 (fun K hK => ?_)
 go_simp
 refine (FM.out _).mono ?_; rintro e wz ⟨rfl, hbz⟩; have Dz := chnN (W0 := w) hbz (by assumption); have Pz := LM.keep (n := w.heap.size) hbz (by assumption); clear hbz
 try go_wp2_with fail
 clear hHeld
 refine hK.out _ _ (LM.cells (n := w.heap.size) (by assumption)) (fun hHeld => ?_)
 clear hK K
 try simp only [ly]
 refine tk 17 ?_; try simp only [ly]
 refine tk 18 ?_; try simp only [ly]
 refine tk 19 ?_; try simp only [ly]
 refine tk0 20 ?_; try simp only [ly]
 refine tk0 21 ?_; try simp only [ly]
 refine tk0 22 ?_; try simp only [ly]
 refine tk0 23 ?_; try simp only [ly]
 refine tk0 24 ?_; try simp only [ly]
 refine tk 25 ?_; try simp only [ly]
 refine tk 26 ?_; try simp only [ly]
 refine wpAnyH_done (by kernel_rfl) ?_ _
 go_wp2_with fail
 go_ret
 exact ⟨rfl, by assumption⟩
theorem meet_3 (la lp lb lq ma mp mb mq : Int) (x3 : Bool) (w : World) (h0 : ((la == ma) && (lp == mp)) = false) (h1 : ((la == mb) && (lp == mq)) = false) (h2 : ((lb == ma) && (lq == mp)) = false) (h3 : ((lb == mb) && (lq == mq)) = x3) : Calls Tryz.prog 85 #[lkA la lp lb lq, lkA ma mp mb mq] w fun e w' => e = .returned (.bool x3) ∧ Below w.heap.size w w' := by
 have D0 := (Below.alN (Below.alN (Below.refl w.heap.size w) (.cells #[.int .i64 la, .int .i64 lp, .int .i64 lb, .int .i64 lq] 64)) (.cells #[.int .i64 ma, .int .i64 mp, .int .i64 mb, .int .i64 mq] 64)).drew
 have M0 := (lm_new w (.int .i64 la) (.int .i64 lp) (.int .i64 lb) (.int .i64 lq) (.int .i64 ma) (.int .i64 mp) (.int .i64 mb) (.int .i64 mq) 64).drew
 have FL : Hid (∀ w, Calls Tryz.prog 81 #[lkA la lp lb lq] w fun e w' => e = .returned (plA la lp) ∧ Below w.heap.size w w') := fun w => from_any _ _ _ _ w
 have TL : Hid (∀ w, Calls Tryz.prog 82 #[lkA la lp lb lq] w fun e w' => e = .returned (plA lb lq) ∧ Below w.heap.size w w') := fun w => to_any _ _ _ _ w
 have FM : Hid (∀ w, Calls Tryz.prog 81 #[lkA ma mp mb mq] w fun e w' => e = .returned (plA ma mp) ∧ Below w.heap.size w w') := fun w => from_any _ _ _ _ w
 have TM : Hid (∀ w, Calls Tryz.prog 82 #[lkA ma mp mb mq] w fun e w' => e = .returned (plA mb mq) ∧ Below w.heap.size w w') := fun w => to_any _ _ _ _ w
 have P0 : ∀ w, (binOp .eql 43 (plA la lp) (plA ma mp)).run Tryz.prog w = .ok (.bool false) w := fun w => by rw [place_eq, h0]
 have P1 : ∀ w, (binOp .eql 43 (plA la lp) (plA mb mq)).run Tryz.prog w = .ok (.bool false) w := fun w => by rw [place_eq, h1]
 have P2 : ∀ w, (binOp .eql 43 (plA lb lq) (plA ma mp)).run Tryz.prog w = .ok (.bool false) w := fun w => by rw [place_eq, h2]
 have P3 : ∀ w, (binOp .eql 43 (plA lb lq) (plA mb mq)).run Tryz.prog w = .ok (.bool x3) w := fun w => by rw [place_eq, h3]
 clear h0 h1 h2 h3
 go_enter Tryz.func85, Tryz.ntmps85
 go_wp2_with fail
 refine wp_region_held_drew (S := (fun w' => w'.cell? ⟨w.heap.size, 0, none⟩ = some (.int .i64 la) ∧ w'.cell? ⟨w.heap.size, 1, none⟩ = some (.int .i64 lp) ∧ w'.cell? ⟨w.heap.size, 2, none⟩ = some (.int .i64 lb) ∧ w'.cell? ⟨w.heap.size, 3, none⟩ = some (.int .i64 lq) ∧ w'.cell? ⟨w.heap.size + 1, 0, none⟩ = some (.int .i64 ma) ∧ w'.cell? ⟨w.heap.size + 1, 1, none⟩ = some (.int .i64 mp) ∧ w'.cell? ⟨w.heap.size + 1, 2, none⟩ = some (.int .i64 mb) ∧ w'.cell? ⟨w.heap.size + 1, 3, none⟩ = some (.int .i64 mq))) (by kernel_rfl) (LM.cells (n := w.heap.size) (by assumption)) (fun hHeld => ?_)
 refine tk 0 ?_; try simp only [ly]
 refine tk 2 ?_; try simp only [ly]
 refine rd 1 (fun K hK => ?_)
 go_simp
 refine (FL.out _).mono ?_; rintro e wz ⟨rfl, hbz⟩; have Dz := chnN (W0 := w) hbz (by assumption); have Pz := LM.keep (n := w.heap.size) hbz (by assumption); clear hbz
 try go_wp2_with fail
 clear hHeld
 refine hK.out _ _ (LM.cells (n := w.heap.size) (by assumption)) (fun hHeld => ?_)
 clear hK K
 try simp only [ly]
 refine rd 3 (fun K hK => ?_)
 go_simp
 refine (FM.out _).mono ?_; rintro e wz ⟨rfl, hbz⟩; have Dz := chnN (W0 := w) hbz (by assumption); have Pz := LM.keep (n := w.heap.size) hbz (by assumption); clear hbz
 try go_wp2_with fail
 clear hHeld
 refine hK.out _ _ (LM.cells (n := w.heap.size) (by assumption)) (fun hHeld => ?_)
 clear hK K
 try simp only [ly]
 refine tk 4 ?_; try simp only [ly]
 refine tk 5 ?_; try simp only [ly]
 refine tk 6 ?_; try simp only [ly]
 refine tk 8 ?_; try simp only [ly]
 refine rd 7 (fun K hK => ?_)
 go_simp
 refine (FL.out _).mono ?_; rintro e wz ⟨rfl, hbz⟩; have Dz := chnN (W0 := w) hbz (by assumption); have Pz := LM.keep (n := w.heap.size) hbz (by assumption); clear hbz
 try go_wp2_with fail
 clear hHeld
 refine hK.out _ _ (LM.cells (n := w.heap.size) (by assumption)) (fun hHeld => ?_)
 clear hK K
 try simp only [ly]
 refine rd 9 (fun K hK => ?_)
 go_simp
 refine (TM.out _).mono ?_; rintro e wz ⟨rfl, hbz⟩; have Dz := chnN (W0 := w) hbz (by assumption); have Pz := LM.keep (n := w.heap.size) hbz (by assumption); clear hbz
 try go_wp2_with fail
 clear hHeld
 refine hK.out _ _ (LM.cells (n := w.heap.size) (by assumption)) (fun hHeld => ?_)
 clear hK K
 try simp only [ly]
 refine tk 10 ?_; try simp only [ly]
 refine tk 11 ?_; try simp only [ly]
 refine tk 12 ?_; try simp only [ly]
 refine tk 13 ?_; try simp only [ly]
 refine tk 15 ?_; try simp only [ly]
 refine rd 14 (fun K hK => ?_)
 go_simp
 refine (TL.out _).mono ?_; rintro e wz ⟨rfl, hbz⟩; have Dz := chnN (W0 := w) hbz (by assumption); have Pz := LM.keep (n := w.heap.size) hbz (by assumption); clear hbz
 try go_wp2_with fail
 clear hHeld
 refine hK.out _ _ (LM.cells (n := w.heap.size) (by assumption)) (fun hHeld => ?_)
 clear hK K
 try simp only [ly]
 refine rd 16 (fun K hK => ?_)
 go_simp
 refine (FM.out _).mono ?_; rintro e wz ⟨rfl, hbz⟩; have Dz := chnN (W0 := w) hbz (by assumption); have Pz := LM.keep (n := w.heap.size) hbz (by assumption); clear hbz
 try go_wp2_with fail
 clear hHeld
 refine hK.out _ _ (LM.cells (n := w.heap.size) (by assumption)) (fun hHeld => ?_)
 clear hK K
 try simp only [ly]
 refine tk 17 ?_; try simp only [ly]
 refine tk 18 ?_; try simp only [ly]
 refine tk 19 ?_; try simp only [ly]
 refine tk 20 ?_; try simp only [ly]
 refine tk 22 ?_; try simp only [ly]
 refine rd 21 (fun K hK => ?_)
 go_simp
 refine (TL.out _).mono ?_; rintro e wz ⟨rfl, hbz⟩; have Dz := chnN (W0 := w) hbz (by assumption); have Pz := LM.keep (n := w.heap.size) hbz (by assumption); clear hbz
 try go_wp2_with fail
 clear hHeld
 refine hK.out _ _ (LM.cells (n := w.heap.size) (by assumption)) (fun hHeld => ?_)
 clear hK K
 try simp only [ly]
 refine rd 23 (fun K hK => ?_)
 go_simp
 refine (TM.out _).mono ?_; rintro e wz ⟨rfl, hbz⟩; have Dz := chnN (W0 := w) hbz (by assumption); have Pz := LM.keep (n := w.heap.size) hbz (by assumption); clear hbz
 try go_wp2_with fail
 clear hHeld
 refine hK.out _ _ (LM.cells (n := w.heap.size) (by assumption)) (fun hHeld => ?_)
 clear hK K
 try simp only [ly]
 refine tk 24 ?_; try simp only [ly]
 refine tk 25 ?_; try simp only [ly]
 refine tk 26 ?_; try simp only [ly]
 refine wpAnyH_done (by kernel_rfl) ?_ _
 go_wp2_with fail
 go_ret
 exact ⟨rfl, by assumption⟩
theorem meet_any (l m : Lk) (w : World) : Calls Tryz.prog 85 #[lkA l.a l.p l.b l.q, lkA m.a m.p m.b m.q] w fun e w' => e = .returned (.bool (meetB l m)) ∧ Below w.heap.size w w' := by
 unfold meetB
 cases h0 : ((l.a == m.a) && (l.p == m.p))
 ·cases h1 : ((l.a == m.b) && (l.p == m.q))
  ·cases h2 : ((l.b == m.a) && (l.q == m.p))
   ·exact meet_3 _ _ _ _ _ _ _ _ _ w h0 h1 h2 rfl
   ·exact meet_2 _ _ _ _ _ _ _ _ w h0 h1 h2
  ·exact meet_1 _ _ _ _ _ _ _ _ w h0 h1
 ·exact meet_0 _ _ _ _ _ _ _ _ w h0
theorem link1_any (o l : Lk) (n0 : Nat) (w : World) (hT : Lk4 w n0 (.int .i64 l.a) (.int .i64 l.p) (.int .i64 l.b) (.int .i64 l.q)) :
  Calls Tryz.prog 84 #[lkA o.a o.p o.b o.q, .pointer (some ⟨n0, 0, none⟩)] w fun e w' => e = .returned (.bool (meetB o l)) ∧ Below w.heap.size w w' := by
 have D0 := Below.alN (Below.refl w.heap.size w) (.cells #[.int .i64 o.a, .int .i64 o.p, .int .i64 o.b, .int .i64 o.q] 64)
 have T1 := hT.alloc (.cells #[.int .i64 o.a, .int .i64 o.p, .int .i64 o.b, .int .i64 o.q] 64)
 obtain ⟨l0, g0, g1, g2, g3⟩ := T1
 have SM : Hid (∀ w, Calls Tryz.prog 85 #[lkA o.a o.p o.b o.q, lkA l.a l.p l.b l.q] w fun e w' => e = .returned (.bool (meetB o l)) ∧ Below w.heap.size w w') := fun w => meet_any o l w
 clear hT
 generalize meetB o l = x at *
 generalize o.a = oa at *
 generalize o.p = op at *
 generalize o.b = ob at *
 generalize o.q = oq at *
 generalize l.a = la at *
 generalize l.p = lp at *
 generalize l.b = lb at *
 generalize l.q = lq at *
 go_enter Tryz.func84, Tryz.ntmps84
 go_wp2_with fail
 refine (SM.out _).mono ?_
 rintro e w1 ⟨rfl, hb1⟩
 have D1 := chnN hb1 D0
 clear D0 hb1 g0 g1 g2 g3 SM
 go_wp2_with fail
 go_ret
 exact ⟨rfl, D1⟩
theorem any_takeL {ls : List Lk} {k : Nat} {m l : Lk} (h : ls[k]? = some m) : (ls.take (k + 1)).any (fun m => meetB m l) = ((ls.take k).any (fun m => meetB m l) || meetB m l) := by
 obtain ⟨hk, e⟩ := List.getElem?_eq_some_iff.1 h
 rw [List.take_succ_eq_append_getElem hk, e]
 simp
theorem linkIdx_any (A : Option Addr) (n cap : Nat) (ls : List Lk) (l : Lk) (n0 : Nat) (w : World) (hL : Hid (Links w.heap.size w (.slice A n cap) ls)) (hT : Hid (Lk4 w n0 (.int .i64 l.a) (.int .i64 l.p) (.int .i64 l.b) (.int .i64 l.q))) :
  Calls Tryz.prog 112 #[.slice A n cap, .func (.func 84) #[] #[.pointer (some ⟨n0, 0, none⟩)]] w fun e w' => ∃ j : Int, e = .returned (.int .i64 j) ∧ Hid (decide (0 <= j) = ls.any (fun m => meetB m l)) ∧ Below w.heap.size w w' := by
 obtain ⟨rfl, hc, hm⟩ := hL.out.len
 unfold maxLen at hm
 go_enter Tryz.func112, Tryz.ntmps112
 go_wp2_with fail
 go_loopw [8] (fun i wr => ∃ k : Nat, i = .int .i64 (k : Int) ∧ k <= ls.length ∧ Below w.heap.size w wr ∧ Hid ((ls.take k).any (fun m => meetB m l) = false)) (fun i _ => ls.length - (intOf i).toNat)
 case atStart => exact ⟨0, rfl, by omega, Below.refl _ _, rfl⟩
 case round =>
  obtain ⟨k, rfl, hk, D1, hno⟩ := hrel
  by_cases hlt : k < ls.length
  ·obtain ⟨m, hxk⟩ : ∃ m, ls[k]? = some m := ⟨_, List.getElem?_eq_getElem hlt⟩
   obtain ⟨b, o, rfl, hb, c0, c1, c2, c3⟩ := (hL.out.below D1).at hxk
   have PR : Hid (Calls Tryz.prog 84 #[lkA m.a m.p m.b m.q, .pointer (some ⟨n0, 0, none⟩)] wr fun e w' => e = .returned (.bool (meetB m l)) ∧ Below wr.heap.size wr w') := link1_any m l n0 wr (hT.out.below D1 hT.out.1)
   have HX : Hid (ls[k]? = some m) := hxk
   have k1 : (0 : Int) <= (k : Int) := by omega
   have k2 : (k : Int) < (ls.length : Int) := by omega
   clear hL hxk hT
   cases hv : meetB m l
   ·rw [hv] at PR
    have HV : Hid ((ls.take (k + 1)).any (fun m => meetB m l) = false) := by show _ = _; rw [any_takeL HX.out, hno.out, hv]; rfl
    clear hv hno HX
    generalize m.a = ma at *
    generalize m.p = mp at *
    generalize m.b = mb at *
    generalize m.q = mq at *
    go_wp2_with fail
    refine PR.out.mono ?_
    rintro e w2 ⟨rfl, hb2⟩
    have D2 := chnN hb2 D1
    clear hb2 D1 c0 c1 c2 c3 PR
    go_wp2_with fail
    go_roundw
    case rel => exact ⟨k + 1, by go_num, by omega, D2, HV⟩
    case measure => simp [intOf]; omega
   ·rw [hv] at PR
    have fin : Hid (ls.any (fun m => meetB m l) = true) := List.any_eq_true.2 ⟨m, List.mem_of_getElem? HX.out, hv⟩
    clear hv hno HX
    generalize m.a = ma at *
    generalize m.p = mp at *
    generalize m.b = mb at *
    generalize m.q = mq at *
    go_wp2_with fail
    refine PR.out.mono ?_
    rintro e w2 ⟨rfl, hb2⟩
    have D2 := chnN hb2 D1
    clear hb2 D1 c0 c1 c2 c3 PR
    go_wp2_with fail
    go_ret
    exact ⟨_, rfl, (by show _ = _; rw [fin.out]; simp), D2⟩
  ·have fin : Hid (ls.any (fun m => meetB m l) = false) := by
    have := hno.out
    rw [show k = ls.length by omega, List.take_length] at this
    exact this
   go_wp2_with fail
   go_ret
   exact ⟨_, rfl, (by show _ = _; rw [fin.out]; simp), D1⟩
theorem linkHas_any (A : Option Addr) (n cap : Nat) (ls : List Lk) (l : Lk) (n0 : Nat) (w : World) (hL : Hid (Links w.heap.size w (.slice A n cap) ls)) (hT : Hid (Lk4 w n0 (.int .i64 l.a) (.int .i64 l.p) (.int .i64 l.b) (.int .i64 l.q))) :
  Calls Tryz.prog 83 #[.slice A n cap, .func (.func 84) #[] #[.pointer (some ⟨n0, 0, none⟩)]] w fun e w' => e = .returned (.bool (ls.any (fun m => meetB m l))) ∧ Below w.heap.size w w' := by
 have IX : Hid (Calls Tryz.prog 112 #[.slice A n cap, .func (.func 84) #[] #[.pointer (some ⟨n0, 0, none⟩)]] w fun e w' => ∃ j : Int, e = .returned (.int .i64 j) ∧ Hid (decide (0 <= j) = ls.any (fun m => meetB m l)) ∧ Below w.heap.size w w') := linkIdx_any A n cap ls l n0 w hL hT
 clear hL hT
 generalize ls.any (fun m => meetB m l) = x at *
 go_enter Tryz.func83, Tryz.ntmps83
 go_wp2_with fail
 refine IX.out.mono ?_
 rintro e w2 ⟨j, rfl, hj, hb2⟩
 clear IX
 go_wp2_with fail
 go_ret
 exact ⟨by rw [hj.out]; rfl, hb2⟩
theorem hasPlace_any (d p : Int) (A : Option Addr) (n cap : Nat) (vl : Value) (ds : List Dv) (w : World) (hD : Hid (Devs w.heap.size w (.slice A n cap) ds)) :
  Calls Tryz.prog 80 #[.agg #[.slice A n cap, vl], plA d p] w fun e w' => e = .returned (.bool (isPl ds d p)) ∧ Below w.heap.size w w' := by
 obtain ⟨rfl, hc, hm⟩ := hD.out.len
 unfold maxLen at hm
 have D0 := Below.alN (Below.alN (Below.refl w.heap.size w) (.cells #[.slice A ds.length cap, vl] 25)) (.cells #[.int .i64 d, .int .i64 p] 43)
 have B1 := (box2_new w (.slice A ds.length cap) vl 25).alloc (.cells #[.int .i64 d, .int .i64 p] 43)
 have B0 := box2_new (w.alloc (.cells #[.slice A ds.length cap, vl] 25)) (.int .i64 d) (.int .i64 p) 43
 rw [World.size_alloc] at B0
 obtain ⟨_, q0, q1, _⟩ := id B0
 obtain ⟨_, q2, _, _⟩ := id B1
 unfold isPl
 cases h0 : decide (0 <= d)
 ·go_enter Tryz.func80, Tryz.ntmps80
  go_wp2_with fail
  go_quiet (fail)
  go_wp2_with fail
  go_ret
  exact ⟨by simp, belowNN D0 _⟩
 cases h1 : decide (d < (ds.length : Int))
 ·go_enter Tryz.func80, Tryz.ntmps80
  go_wp2_with fail
  go_quiet (fail)
  go_wp2_with fail
  go_ret
  exact ⟨by simp, belowNN D0 _⟩
 cases h2 : decide (0 <= p)
 ·go_enter Tryz.func80, Tryz.ntmps80
  go_wp2_with fail
  go_quiet (fail)
  go_wp2_with fail
  go_ret
  exact ⟨by simp, belowNN D0 _⟩
 have hd0 : 0 <= d := by simpa using h0
 have hd1 : d < (ds.length : Int) := by simpa using h1
 obtain ⟨i, rfl⟩ : ∃ i : Nat, d = (i : Int) := ⟨d.toNat, by omega⟩
 have hi : i < ds.length := by omega
 obtain ⟨x, hx⟩ : ∃ x, ds[i]? = some x := ⟨_, List.getElem?_eq_getElem hi⟩
 obtain ⟨b, o, vb, vr, vt, rfl, hb, _, _, _, c0, c1, c2, c3, c4, c5, c6⟩ := (hD.out.below D0).at hx
 have ek : kindAt ds (i : Int) = x.kind := by
  unfold kindAt
  rw [Int.toNat_natCast, hx]
  rfl
 rw [ek]
 have PO : Hid (∀ w, Calls Tryz.prog 17 #[.int .i64 x.kind] w fun e w' => e = .returned (.int .i64 (portsV x.kind)) ∧ w' = w) := fun w => nports_any x.kind w
 clear hD hx ek c0 c2 c3 c4 c5 c6 hd0 hd1
 generalize portsV x.kind = pk at *
 generalize x.kind = kd at *
 go_enter Tryz.func80, Tryz.ntmps80
 go_wp2_with fail
 go_quiet ((go_at_call 17; exact Calls.quiet_of_same (PO.out _)))
 go_wp2_with fail
 go_ret
 exact ⟨by simp, belowNN D0 _⟩
def LB (w : World) (n : Nat) (x y a b c d : Value) : Prop := Box2 w n x y ∧ Lk4 w (n + 1) a b c d
theorem LB.cells {w : World} {n : Nat} {x y a b c d : Value} (H : LB w n x y a b c d) : w.cell? ⟨n, 0, none⟩ = some x ∧ w.cell? ⟨n, 1, none⟩ = some y ∧ w.cell? ⟨n + 1, 0, none⟩ = some a ∧ w.cell? ⟨n + 1, 1, none⟩ = some b ∧ w.cell? ⟨n + 1, 2, none⟩ = some c ∧ w.cell? ⟨n + 1, 3, none⟩ = some d := by
 obtain ⟨⟨_, h1, h2, _⟩, ⟨_, h5, h6, h7, h8⟩⟩ := H
 exact ⟨h1, h2, h5, h6, h7, h8⟩
theorem LB.keep {W w' : World} {n : Nat} {x y a b c d : Value} (hb : Below W.heap.size W w') (H : LB W n x y a b c d) : LB w' n x y a b c d := ⟨H.1.below hb H.1.1, H.2.below hb H.2.1⟩
theorem LB.drew {w : World} {n : Nat} {x y a b c d : Value} (H : LB w n x y a b c d) : LB w.drew n x y a b c d := H
theorem lb_new (w : World) (x y a b c d : Value) (s t : TypeId) : LB ((w.alloc (.cells #[x, y] s)).alloc (.cells #[a, b, c, d] t)) w.heap.size x y a b c d := by
 refine ⟨(box2_new w x y s).alloc _, ?_⟩
 have := lk4_new (w.alloc (.cells #[x, y] s)) a b c d t
 rw [World.size_alloc] at this
 exact this
def linkTold (ds : List Dv) (ahead : List Lk) (l : Lk) : Int := if isPl ds l.a l.p && isPl ds l.b l.q then (if selfB l || ahead.any (fun m => meetB m l) then 5 else 0) else 1
theorem checkLink_any (A B : Option Addr) (cap cap' : Nat) (ds : List Dv) (ls : List Lk) (j : Nat) (l : Lk) (w : World) (hx : Hid (ls[j]? = some l)) (hD : Hid (Devs w.heap.size w (.slice A ds.length cap) ds)) (hL : Hid (Links w.heap.size w (.slice B ls.length cap') ls)) :
  Calls Tryz.prog 50 #[.agg #[.slice A ds.length cap, .slice B ls.length cap'], .int .i64 (j : Int)] w fun e w' => e = .returned (.int .i64 (linkTold ds (ls.take j) l)) ∧ Below w.heap.size w w' := by
 have hj : j < ls.length := (List.getElem?_eq_some_iff.1 hx.out).1
 obtain ⟨_, hc, hm⟩ := hL.out.len
 unfold maxLen at hm
 have D0 := Below.alN (Below.refl w.heap.size w) (.cells #[.slice A ds.length cap, .slice B ls.length cap'] 25)
 obtain ⟨b, o, rfl, hb, c0, c1, c2, c3⟩ := (hL.out.below D0).at hx.out
 have k1 : (0 : Int) <= (j : Int) := by omega
 have k2 : (j : Int) < (ls.length : Int) := by omega
 have k3 : (j : Int) <= (cap' : Int) := by omega
 have FL : Hid (∀ w, Calls Tryz.prog 81 #[lkA l.a l.p l.b l.q] w fun e w' => e = .returned (plA l.a l.p) ∧ Below w.heap.size w w') := fun w => from_any _ _ _ _ w
 have TL : Hid (∀ w, Calls Tryz.prog 82 #[lkA l.a l.p l.b l.q] w fun e w' => e = .returned (plA l.b l.q) ∧ Below w.heap.size w w') := fun w => to_any _ _ _ _ w
 have I1 : Hid (∀ W, Below w.heap.size w W -> Calls Tryz.prog 80 #[.agg #[.slice A ds.length cap, .slice (some ⟨b, o, none⟩) ls.length cap'], plA l.a l.p] W fun e w' => e = .returned (.bool (isPl ds l.a l.p)) ∧ Below W.heap.size W w') := fun W h => hasPlace_any _ _ _ _ _ _ _ W ((hD.out.below h).mono h.size)
 have I2 : Hid (∀ W, Below w.heap.size w W -> Calls Tryz.prog 80 #[.agg #[.slice A ds.length cap, .slice (some ⟨b, o, none⟩) ls.length cap'], plA l.b l.q] W fun e w' => e = .returned (.bool (isPl ds l.b l.q)) ∧ Below W.heap.size W w') := fun W h => hasPlace_any _ _ _ _ _ _ _ W ((hD.out.below h).mono h.size)
 have CO : Hid (∀ W, Below w.heap.size w W -> LB W w.heap.size (.slice A ds.length cap) (.slice (some ⟨b, o, none⟩) ls.length cap') (.int .i64 l.a) (.int .i64 l.p) (.int .i64 l.b) (.int .i64 l.q) -> Calls Tryz.prog 83 #[.slice (some ⟨b, o, none⟩) j cap', .func (.func 84) #[] #[.pointer (some ⟨w.heap.size + 1, 0, none⟩)]] W fun e w' => e = .returned (.bool ((ls.take j).any (fun m => meetB m l))) ∧ Below W.heap.size W w') := fun W h hT => linkHas_any _ _ _ _ l _ W (Links.mono (SlAt.take (hL.out.below h) j (by omega)) h.size) hT.2
 have PE : ∀ w, (binOp .eql 43 (plA l.a l.p) (plA l.b l.q)).run Tryz.prog w = .ok (.bool (selfB l)) w := fun w => place_eq _ _ _ _ w
 generalize hres : linkTold ds (ls.take j) l = res
 have HR : Hid (res = if isPl ds l.a l.p && isPl ds l.b l.q then (if selfB l || (ls.take j).any (fun m => meetB m l) then 5 else 0) else 1) := hres.symm
 clear hres hL hD hx
 generalize isPl ds l.a l.p = x0 at *
 generalize isPl ds l.b l.q = x1 at *
 generalize selfB l = x2 at *
 generalize (ls.take j).any (fun m => meetB m l) = x3 at *
 generalize l.a = la at *
 generalize l.p = lp at *
 generalize l.b = lb at *
 generalize l.q = lq at *
 have D1 := (Below.alN D0 (.cells #[.int .i64 la, .int .i64 lp, .int .i64 lb, .int .i64 lq] 64)).drew
 have M1 := (lb_new w (.slice A ds.length cap) (.slice (some ⟨b, o, none⟩) ls.length cap') (.int .i64 la) (.int .i64 lp) (.int .i64 lb) (.int .i64 lq) 25 64).drew
 clear D0
 go_enter Tryz.func50, Tryz.ntmps50
 go_wp2_with fail
 go_region
 clear c0 c1 c2 c3
 have D2 := D1.drew
 have M2 := M1.drew
 clear D1 M1
 cases x0
 ·have HV : Hid (res = 1) := by show _ = _; rw [HR.out]; rfl
  clear HR I2 CO PE TL
  go_wp2_with fail
  refine wp_region_held_drew (S := (fun w' => w'.cell? ⟨w.heap.size, 0, none⟩ = some (.slice A ds.length cap) ∧ w'.cell? ⟨w.heap.size, 1, none⟩ = some (.slice (some ⟨b, o, none⟩) ls.length cap') ∧ w'.cell? ⟨w.heap.size + 1, 0, none⟩ = some (.int .i64 la) ∧ w'.cell? ⟨w.heap.size + 1, 1, none⟩ = some (.int .i64 lp) ∧ w'.cell? ⟨w.heap.size + 1, 2, none⟩ = some (.int .i64 lb) ∧ w'.cell? ⟨w.heap.size + 1, 3, none⟩ = some (.int .i64 lq))) (by kernel_rfl) (LB.cells (n := w.heap.size) (by assumption)) (fun hHeld => ?_)
  refine tk 0 ?_; try simp only [ly]
  refine tk 1 ?_; try simp only [ly]
  refine rd 2 (fun K hK => ?_)
  go_simp
  refine (FL.out _).mono ?_; rintro e wz ⟨rfl, hbz⟩; have Dz := chnN (W0 := w) hbz (by assumption); have Pz := LB.keep (n := w.heap.size) hbz (by assumption); clear hbz
  try go_wp2_with fail
  clear hHeld
  refine hK.out _ _ (LB.cells (n := w.heap.size) (by assumption)) (fun hHeld => ?_)
  clear hK K
  try simp only [ly]
  refine rd 3 (fun K hK => ?_)
  go_simp
  refine (I1.out _ (by assumption)).mono ?_; rintro e wz ⟨rfl, hbz⟩; have Dz := chnN (W0 := w) hbz (by assumption); have Pz := LB.keep (n := w.heap.size) hbz (by assumption); clear hbz
  try go_wp2_with fail
  clear hHeld
  refine hK.out _ _ (LB.cells (n := w.heap.size) (by assumption)) (fun hHeld => ?_)
  clear hK K
  try simp only [ly]
  refine tk 4 ?_; try simp only [ly]
  refine tk 5 ?_; try simp only [ly]
  refine tk0 6 ?_; try simp only [ly]
  refine tk0 7 ?_; try simp only [ly]
  refine tk0 8 ?_; try simp only [ly]
  refine tk0 9 ?_; try simp only [ly]
  refine tk0 10 ?_; try simp only [ly]
  refine tk 11 ?_; try simp only [ly]
  refine wpAnyH_done (by kernel_rfl) ?_ _
  go_wp2_with fail
  go_ret
  exact ⟨by rw [HV.out]; rfl, by assumption⟩
 ·have HR1 : Hid (res = if x1 then (if x2 || x3 then 5 else 0) else 1) := by show _ = _; rw [HR.out]; rfl
  clear HR
  go_wp2_with fail
  refine wp_region_held_drew (S := (fun w' => w'.cell? ⟨w.heap.size, 0, none⟩ = some (.slice A ds.length cap) ∧ w'.cell? ⟨w.heap.size, 1, none⟩ = some (.slice (some ⟨b, o, none⟩) ls.length cap') ∧ w'.cell? ⟨w.heap.size + 1, 0, none⟩ = some (.int .i64 la) ∧ w'.cell? ⟨w.heap.size + 1, 1, none⟩ = some (.int .i64 lp) ∧ w'.cell? ⟨w.heap.size + 1, 2, none⟩ = some (.int .i64 lb) ∧ w'.cell? ⟨w.heap.size + 1, 3, none⟩ = some (.int .i64 lq))) (by kernel_rfl) (LB.cells (n := w.heap.size) (by assumption)) (fun hHeld => ?_)
  refine tk 0 ?_; try simp only [ly]
  refine tk 1 ?_; try simp only [ly]
  refine rd 2 (fun K hK => ?_)
  go_simp
  refine (FL.out _).mono ?_; rintro e wz ⟨rfl, hbz⟩; have Dz := chnN (W0 := w) hbz (by assumption); have Pz := LB.keep (n := w.heap.size) hbz (by assumption); clear hbz
  try go_wp2_with fail
  clear hHeld
  refine hK.out _ _ (LB.cells (n := w.heap.size) (by assumption)) (fun hHeld => ?_)
  clear hK K
  try simp only [ly]
  refine rd 3 (fun K hK => ?_)
  go_simp
  refine (I1.out _ (by assumption)).mono ?_; rintro e wz ⟨rfl, hbz⟩; have Dz := chnN (W0 := w) hbz (by assumption); have Pz := LB.keep (n := w.heap.size) hbz (by assumption); clear hbz
  try go_wp2_with fail
  clear hHeld
  refine hK.out _ _ (LB.cells (n := w.heap.size) (by assumption)) (fun hHeld => ?_)
  clear hK K
  try simp only [ly]
  refine tk 4 ?_; try simp only [ly]
  refine tk 5 ?_; try simp only [ly]
  refine tk 6 ?_; try simp only [ly]
  refine tk 7 ?_; try simp only [ly]
  refine rd 8 (fun K hK => ?_)
  go_simp
  refine (TL.out _).mono ?_; rintro e wz ⟨rfl, hbz⟩; have Dz := chnN (W0 := w) hbz (by assumption); have Pz := LB.keep (n := w.heap.size) hbz (by assumption); clear hbz
  try go_wp2_with fail
  clear hHeld
  refine hK.out _ _ (LB.cells (n := w.heap.size) (by assumption)) (fun hHeld => ?_)
  clear hK K
  try simp only [ly]
  refine rd 9 (fun K hK => ?_)
  go_simp
  refine (I2.out _ (by assumption)).mono ?_; rintro e wz ⟨rfl, hbz⟩; have Dz := chnN (W0 := w) hbz (by assumption); have Pz := LB.keep (n := w.heap.size) hbz (by assumption); clear hbz
  try go_wp2_with fail
  clear hHeld
  refine hK.out _ _ (LB.cells (n := w.heap.size) (by assumption)) (fun hHeld => ?_)
  clear hK K
  try simp only [ly]
  refine tk 10 ?_; try simp only [ly]
  refine tk 11 ?_; try simp only [ly]
  refine wpAnyH_done (by kernel_rfl) ?_ _
  cases x1
  ·go_wp2_with fail
   go_ret
   exact ⟨by rw [HR1.out]; rfl, by assumption⟩
  clear D2 M2
  cases x2
  ·have HV : Hid (res = if x3 then 5 else 0) := by show _ = _; rw [HR1.out]; rfl
   clear HR1
   go_wp2_with fail
   refine wp_region_held_drew (S := (fun w' => w'.cell? ⟨w.heap.size, 0, none⟩ = some (.slice A ds.length cap) ∧ w'.cell? ⟨w.heap.size, 1, none⟩ = some (.slice (some ⟨b, o, none⟩) ls.length cap') ∧ w'.cell? ⟨w.heap.size + 1, 0, none⟩ = some (.int .i64 la) ∧ w'.cell? ⟨w.heap.size + 1, 1, none⟩ = some (.int .i64 lp) ∧ w'.cell? ⟨w.heap.size + 1, 2, none⟩ = some (.int .i64 lb) ∧ w'.cell? ⟨w.heap.size + 1, 3, none⟩ = some (.int .i64 lq))) (by kernel_rfl) (LB.cells (n := w.heap.size) (by first | assumption | exact Below.drew (by assumption) | exact LB.drew (by assumption))) (fun hHeld => ?_)
   refine tk 0 ?_ (hS := by first | assumption | exact Below.drew (by assumption) | exact LB.drew (by assumption)); try simp only [ly]
   refine tk 2 ?_ (hS := by first | assumption | exact Below.drew (by assumption) | exact LB.drew (by assumption)); try simp only [ly]
   refine rd 1 (fun K hK => ?_)
   go_simp
   refine (FL.out _).mono ?_; rintro e wz ⟨rfl, hbz⟩; have Dz := chnN (W0 := w) hbz (by first | assumption | exact Below.drew (by assumption) | exact LB.drew (by assumption)); have Pz := LB.keep (n := w.heap.size) hbz (by first | assumption | exact Below.drew (by assumption) | exact LB.drew (by assumption)); clear hbz
   try go_wp2_with fail
   clear hHeld
   refine hK.out _ _ (LB.cells (n := w.heap.size) (by first | assumption | exact Below.drew (by assumption) | exact LB.drew (by assumption))) (fun hHeld => ?_)
   clear hK K
   try simp only [ly]
   refine rd 3 (fun K hK => ?_)
   go_simp
   refine (TL.out _).mono ?_; rintro e wz ⟨rfl, hbz⟩; have Dz := chnN (W0 := w) hbz (by first | assumption | exact Below.drew (by assumption) | exact LB.drew (by assumption)); have Pz := LB.keep (n := w.heap.size) hbz (by first | assumption | exact Below.drew (by assumption) | exact LB.drew (by assumption)); clear hbz
   try go_wp2_with fail
   clear hHeld
   refine hK.out _ _ (LB.cells (n := w.heap.size) (by first | assumption | exact Below.drew (by assumption) | exact LB.drew (by assumption))) (fun hHeld => ?_)
   clear hK K
   try simp only [ly]
   refine tk 4 ?_ (hS := by first | assumption | exact Below.drew (by assumption) | exact LB.drew (by assumption)); try simp only [ly]
   refine tk 5 ?_ (hS := by first | assumption | exact Below.drew (by assumption) | exact LB.drew (by assumption)); try simp only [ly]
   refine tk 6 ?_ (hS := by first | assumption | exact Below.drew (by assumption) | exact LB.drew (by assumption)); try simp only [ly]
   refine tk 7 ?_ (hS := by first | assumption | exact Below.drew (by assumption) | exact LB.drew (by assumption)); try simp only [ly]
   refine rd 8 (fun K hK => ?_)
   go_simp
   refine (CO.out _ (by first | assumption | exact Below.drew (by assumption) | exact LB.drew (by assumption)) (by first | assumption | exact Below.drew (by assumption) | exact LB.drew (by assumption))).mono ?_; rintro e wz ⟨rfl, hbz⟩; have Dz := chnN (W0 := w) hbz (by first | assumption | exact Below.drew (by assumption) | exact LB.drew (by assumption)); have Pz := LB.keep (n := w.heap.size) hbz (by first | assumption | exact Below.drew (by assumption) | exact LB.drew (by assumption)); clear hbz
   try go_wp2_with fail
   clear hHeld
   refine hK.out _ _ (LB.cells (n := w.heap.size) (by first | assumption | exact Below.drew (by assumption) | exact LB.drew (by assumption))) (fun hHeld => ?_)
   clear hK K
   try simp only [ly]
   refine tk 9 ?_ (hS := by first | assumption | exact Below.drew (by assumption) | exact LB.drew (by assumption)); try simp only [ly]
   refine wpAnyH_done (by kernel_rfl) ?_ _
   cases x3
   ·go_wp2_with fail
    go_ret
    exact ⟨by rw [HV.out]; rfl, by first | assumption | exact Below.drew (by assumption) | exact LB.drew (by assumption)⟩
   ·go_wp2_with fail
    go_ret
    exact ⟨by rw [HV.out]; rfl, by first | assumption | exact Below.drew (by assumption) | exact LB.drew (by assumption)⟩
  ·have HV : Hid (res = 5) := by show _ = _; rw [HR1.out]; rfl
   clear HR1
   go_wp2_with fail
   refine wp_region_held_drew (S := (fun w' => w'.cell? ⟨w.heap.size, 0, none⟩ = some (.slice A ds.length cap) ∧ w'.cell? ⟨w.heap.size, 1, none⟩ = some (.slice (some ⟨b, o, none⟩) ls.length cap') ∧ w'.cell? ⟨w.heap.size + 1, 0, none⟩ = some (.int .i64 la) ∧ w'.cell? ⟨w.heap.size + 1, 1, none⟩ = some (.int .i64 lp) ∧ w'.cell? ⟨w.heap.size + 1, 2, none⟩ = some (.int .i64 lb) ∧ w'.cell? ⟨w.heap.size + 1, 3, none⟩ = some (.int .i64 lq))) (by kernel_rfl) (LB.cells (n := w.heap.size) (by first | assumption | exact Below.drew (by assumption) | exact LB.drew (by assumption))) (fun hHeld => ?_)
   refine tk 0 ?_ (hS := by first | assumption | exact Below.drew (by assumption) | exact LB.drew (by assumption)); try simp only [ly]
   refine tk 2 ?_ (hS := by first | assumption | exact Below.drew (by assumption) | exact LB.drew (by assumption)); try simp only [ly]
   refine rd 1 (fun K hK => ?_)
   go_simp
   refine (FL.out _).mono ?_; rintro e wz ⟨rfl, hbz⟩; have Dz := chnN (W0 := w) hbz (by first | assumption | exact Below.drew (by assumption) | exact LB.drew (by assumption)); have Pz := LB.keep (n := w.heap.size) hbz (by first | assumption | exact Below.drew (by assumption) | exact LB.drew (by assumption)); clear hbz
   try go_wp2_with fail
   clear hHeld
   refine hK.out _ _ (LB.cells (n := w.heap.size) (by first | assumption | exact Below.drew (by assumption) | exact LB.drew (by assumption))) (fun hHeld => ?_)
   clear hK K
   try simp only [ly]
   refine rd 3 (fun K hK => ?_)
   go_simp
   refine (TL.out _).mono ?_; rintro e wz ⟨rfl, hbz⟩; have Dz := chnN (W0 := w) hbz (by first | assumption | exact Below.drew (by assumption) | exact LB.drew (by assumption)); have Pz := LB.keep (n := w.heap.size) hbz (by first | assumption | exact Below.drew (by assumption) | exact LB.drew (by assumption)); clear hbz
   try go_wp2_with fail
   clear hHeld
   refine hK.out _ _ (LB.cells (n := w.heap.size) (by first | assumption | exact Below.drew (by assumption) | exact LB.drew (by assumption))) (fun hHeld => ?_)
   clear hK K
   try simp only [ly]
   refine tk 4 ?_ (hS := by first | assumption | exact Below.drew (by assumption) | exact LB.drew (by assumption)); try simp only [ly]
   refine tk 5 ?_ (hS := by first | assumption | exact Below.drew (by assumption) | exact LB.drew (by assumption)); try simp only [ly]
   refine' wpAnyH_take (i := 6) (v := undef) rfl (by kernel_rfl) (by kernel_rfl) (by kernel_rfl) (fun _ _ _ h => h) (Or.inr ⟨by rfl, rfl⟩) (by first | assumption | exact Below.drew (by assumption) | exact LB.drew (by assumption)) ?gr31
   try simp only [ly]
   refine' wpAnyH_take (i := 7) (v := undef) rfl (by kernel_rfl) (by kernel_rfl) (by kernel_rfl) (fun _ _ _ h => h) (Or.inr ⟨by rfl, rfl⟩) (by first | assumption | exact Below.drew (by assumption) | exact LB.drew (by assumption)) ?gr32
   try simp only [ly]
   refine' wpAnyH_take (i := 8) (v := undef) rfl (by kernel_rfl) (by kernel_rfl) (by kernel_rfl) (fun _ _ _ h => h) (Or.inr ⟨by rfl, rfl⟩) (by first | assumption | exact Below.drew (by assumption) | exact LB.drew (by assumption)) ?gr33
   try simp only [ly]
   refine tk 9 ?_ (hS := by first | assumption | exact Below.drew (by assumption) | exact LB.drew (by assumption)); try simp only [ly]
   refine wpAnyH_done (by kernel_rfl) ?_ _
   go_wp2_with fail
   go_ret
   exact ⟨by rw [HV.out]; rfl, by first | assumption | exact Below.drew (by assumption) | exact LB.drew (by assumption)⟩
end Go.Proofs.YtlmmeppifkigeaaGreat
namespace Go.Proofs.YtlmmeppifkigeaaGreat
open Go.RowKit Go.Maps
theorem stay_post (m : Mp) (W : World) : Calls Tryz.prog 132 #[] W (SPost m W (stayR 7)) :=
 (stay_any W).mono fun _ _ ⟨he, hb⟩ => ⟨0, zeroP, .nilFunc, 7, he, ⟨rfl, Or.inl rfl, fun h => by cases h⟩, hb⟩
theorem sendW_any (m : Mp) (ds : List Dv) (ls : List Lk) (n : Nat) (M : Mnd) (i : Nat) (d : Dv) (q : Int) (p : Pk) (c : Int) (w : World) (hM : Hid (MemAt w m ds ls n M)) (hx : Hid (ds[i]? = some d)) (hp : Hid p.ok) (hi : Hid (i64ok (i : Int))) (hc : Hid (i64ok c)) (ha : Hid (i64ok d.addr)) :
  Calls Tryz.prog 96 #[.pointer (some ⟨m.B, m.z, none⟩), plA (i : Int) q, pkV p, .int .i64 c] w (SPost m w (sendP d M i q p c)) := by
 unfold sendP
 by_cases k2 : d.kind = 2
 ·rw [if_pos k2]
  exact sendW_route m ds ls n M i d q p c _ w hM hx k2 (fun W h => route_any m ds ls n M i d p W h hx)
 rw [if_neg k2]
 by_cases k3 : d.kind = 3
 ·rw [if_pos k3]
  by_cases q0 : q = 0
  ·rw [if_pos q0]
   exact sendW_ask m ds ls n M i d q p c _ w hM hx k3 (by simpa using q0) (fun W h => ask_any m ds ls n M i d p W h hx hp hi)
  ·rw [if_neg q0]
   exact sendW_answer m ds ls n M i d q p c _ w hM hx k3 (by simpa using q0) (fun W h => answerW_any m ds ls n M i p W h hp hi)
 rw [if_neg k3]
 by_cases k4 : d.kind = 4
 ·rw [if_pos k4]
  by_cases q0 : q = 0
  ·rw [if_pos q0]
   exact sendW_hide m ds ls n M i d q p c _ w hM hx k4 (by simpa using q0) (fun W h => hide_any m ds ls n M i d p c W h hx hi hc)
  ·rw [if_neg q0]
   exact sendW_unhide m ds ls n M i d q p c _ w hM hx k4 (by simpa using q0) (fun W h => unhide_any m ds ls n M i d p W h hx hp hi)
 rw [if_neg k4]
 by_cases k5 : d.kind = 5
 ·rw [if_pos k5]
  by_cases q0 : q = 0
  ·rw [if_pos q0]
   exact sendW_spread m ds ls n M i d q p c _ w hM hx k5 (by simpa using q0) (fun W h => spread_any m ds ls n M i d p c W h hx hp hi)
  ·rw [if_neg q0]
   exact sendW_gather m ds ls n M i d q p c _ w hM hx k5 (by simpa using q0) (fun W h => gather_any m ds ls n M i d p W h hx hp hi ha)
 rw [if_neg k5]
 exact send_stay m ds ls n M i d q p c _ w hM hx (by omega) (fun W _ => stay_post m W)
abbrev arV (t : Int × Int) (p : Pk) : Value := .agg #[.int .i64 t.1, .int .i64 t.2, .int .i64 p.s, .int .i64 p.d, .int .i64 p.sp, .int .i64 p.dp]
def HPost (m : Mp) (ds : List Dv) (ls : List Lk) (n : Nat) (w : World) (h : HR) (e : Ending) (w' : World) : Prop :=
 e = .returned (.tuple #[arV h.tp h.p, .int .i64 h.err]) ∧ MemAt w' m ds ls (n + 1) h.M ∧ HK m w w'
theorem pkOk_ok {p : Pk} (h : pkOk p = true) : p.ok := by
 unfold pkOk adB poB at h
 simp only [Bool.and_eq_true, decide_eq_true_eq] at h
 exact ⟨i64ok_of (by omega) (by omega), i64ok_of (by omega) (by omega), i64ok_of (by omega) (by omega), i64ok_of (by omega) (by omega)⟩
theorem Bk.ck {w w' : World} {k : Nat} {c : Array Value} {t : TypeId} (h : Bk w k c t) (hc : CK w w') : Bk w' k c t :=
 (hc.block k (fun es x e => by unfold Bk at h; rw [h] at e; cases e) h.lt).trans h
theorem isPl_dev {ds : List Dv} {i q : Int} (h : isPl ds i q = true) : ∃ k : Nat, i = (k : Int) ∧ ∃ d, ds[k]? = some d ∧ ds.getD i.toNat default = d := by
 unfold isPl at h
 simp only [Bool.and_eq_true, decide_eq_true_eq] at h
 obtain ⟨⟨⟨h0, h1⟩, _⟩, _⟩ := h
 refine ⟨i.toNat, by omega, ds[i.toNat]'(by omega), List.getElem?_eq_getElem (by omega), ?_⟩
 rw [List.getD_eq_getElem?_getD, List.getElem?_eq_getElem (by omega)]
 rfl
end Go.Proofs.YtlmmeppifkigeaaGreat
