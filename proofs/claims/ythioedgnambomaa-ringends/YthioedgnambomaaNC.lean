/-
  Package net: links that meet.
-/
import Derived.Test.YthioedgnambomaaNE
import Derived.Test.YthioedgnambomaaNF
namespace Go.Proofs.Ythioedgnambomaa
open Go.RowKit

/-- Two links in blocks of a call's own, one behind the other. -/
def LM (w : World) (n : Nat) (a b c d e f g h : Value) : Prop := Lk4 w n a b c d ∧ Lk4 w (n + 1) e f g h
theorem LM.cells {w : World} {n : Nat} {a b c d e f g h : Value} (H : LM w n a b c d e f g h) : w.cell? ⟨n, 0, none⟩ = some a ∧ w.cell? ⟨n, 1, none⟩ = some b ∧ w.cell? ⟨n, 2, none⟩ = some c ∧ w.cell? ⟨n, 3, none⟩ = some d ∧ w.cell? ⟨n + 1, 0, none⟩ = some e ∧ w.cell? ⟨n + 1, 1, none⟩ = some f ∧ w.cell? ⟨n + 1, 2, none⟩ = some g ∧ w.cell? ⟨n + 1, 3, none⟩ = some h := by
  obtain ⟨⟨_, h1, h2, h3, h4⟩, ⟨_, h5, h6, h7, h8⟩⟩ := H
  exact ⟨h1, h2, h3, h4, h5, h6, h7, h8⟩
theorem LM.keep {W w' : World} {n : Nat} {a b c d e f g h : Value} (hb : Below W.heap.size W w') (H : LM W n a b c d e f g h) : LM w' n a b c d e f g h := ⟨H.1.below hb H.1.1, H.2.below hb H.2.1⟩
theorem LM.drew {w : World} {n : Nat} {a b c d e f g h : Value} (H : LM w n a b c d e f g h) : LM w.drew n a b c d e f g h := H
theorem lm_new (w : World) (a b c d e f g h : Value) (t : TypeId) : LM ((w.alloc (.cells #[a, b, c, d] t)).alloc (.cells #[e, f, g, h] t)) w.heap.size a b c d e f g h := by
  refine ⟨(lk4_new w a b c d t).alloc _, ?_⟩
  have := lk4_new (w.alloc (.cells #[a, b, c, d] t)) e f g h t
  rw [World.size_alloc] at this
  exact this
set_option maxHeartbeats 4000000 in
set_option maxRecDepth 100000 in
theorem meet_0 (la lp lb lq ma mp mb mq : Int) (w : World) (h0 : ((la == ma) && (lp == mp)) = true) : Calls Try.prog 54 #[lkA la lp lb lq, lkA ma mp mb mq] w fun e w' => e = .returned (.bool true) ∧ Below w.heap.size w w' := by
  have D0 := (Below.alN (Below.alN (Below.refl w.heap.size w) (.cells #[.int .i64 la, .int .i64 lp, .int .i64 lb, .int .i64 lq] 44)) (.cells #[.int .i64 ma, .int .i64 mp, .int .i64 mb, .int .i64 mq] 44)).drew
  have M0 := (lm_new w (.int .i64 la) (.int .i64 lp) (.int .i64 lb) (.int .i64 lq) (.int .i64 ma) (.int .i64 mp) (.int .i64 mb) (.int .i64 mq) 44).drew
  have FL : Hid (∀ w, Calls Try.prog 41 #[lkA la lp lb lq] w fun e w' => e = .returned (plA la lp) ∧ Below w.heap.size w w') := fun w => from_any _ _ _ _ w
  have TL : Hid (∀ w, Calls Try.prog 42 #[lkA la lp lb lq] w fun e w' => e = .returned (plA lb lq) ∧ Below w.heap.size w w') := fun w => to_any _ _ _ _ w
  have FM : Hid (∀ w, Calls Try.prog 41 #[lkA ma mp mb mq] w fun e w' => e = .returned (plA ma mp) ∧ Below w.heap.size w w') := fun w => from_any _ _ _ _ w
  have TM : Hid (∀ w, Calls Try.prog 42 #[lkA ma mp mb mq] w fun e w' => e = .returned (plA mb mq) ∧ Below w.heap.size w w') := fun w => to_any _ _ _ _ w
  have P0 : ∀ w, (binOp .eql 27 (plA la lp) (plA ma mp)).run Try.prog w = .ok (.bool true) w := fun w => by rw [place_eq, h0]
  clear h0
  go_enter Try.func54, Try.ntmps54
  go_wp2_with fail
  refine wp_region_held_drew (S := (fun w' => w'.cell? ⟨w.heap.size, 0, none⟩ = some (.int .i64 la) ∧ w'.cell? ⟨w.heap.size, 1, none⟩ = some (.int .i64 lp) ∧ w'.cell? ⟨w.heap.size, 2, none⟩ = some (.int .i64 lb) ∧ w'.cell? ⟨w.heap.size, 3, none⟩ = some (.int .i64 lq) ∧ w'.cell? ⟨w.heap.size + 1, 0, none⟩ = some (.int .i64 ma) ∧ w'.cell? ⟨w.heap.size + 1, 1, none⟩ = some (.int .i64 mp) ∧ w'.cell? ⟨w.heap.size + 1, 2, none⟩ = some (.int .i64 mb) ∧ w'.cell? ⟨w.heap.size + 1, 3, none⟩ = some (.int .i64 mq))) (by kernel_rfl) (LM.cells (n := w.heap.size) (by assumption)) (fun hHeld => ?_)
  refine' wpAnyH_take (i := 0) (v := _) rfl (by kernel_rfl) (by kernel_rfl) (by kernel_rfl) (fun _ _ _ h => h) (Or.inl ⟨by rfl, ?gy1⟩) (by assumption) ?gr1
  case gy1 => (intro w hSw; (try dsimp only at hSw); go_simp; (try with_reducible rfl))
  try simp only [List.getElem_toArray, List.getElem_cons_zero, Act.put, List.setIfInBounds_toArray, List.set_cons_zero, List.set_cons_succ]
  refine' wpAnyH_take (i := 2) (v := _) rfl (by kernel_rfl) (by kernel_rfl) (by kernel_rfl) (fun _ _ _ h => h) (Or.inl ⟨by rfl, ?gy2⟩) (by assumption) ?gr2
  case gy2 => (intro w hSw; (try dsimp only at hSw); go_simp; (try with_reducible rfl))
  try simp only [List.getElem_toArray, List.getElem_cons_zero, List.getElem_cons_succ, Act.put, List.setIfInBounds_toArray, List.set_cons_zero, List.set_cons_succ]
  refine wpAnyH_ready (rs := [1]) (by kernel_rfl) (by simp) (AllReadyH.cons rfl (fun K hK => ?_) AllReadyH.nil)
  go_simp
  refine (FL.out _).mono ?_; rintro e wz ⟨rfl, hbz⟩; have Dz := chnN (W0 := w) hbz (by assumption); have Pz := LM.keep (n := w.heap.size) hbz (by assumption); clear hbz
  try go_wp2_with fail
  clear hHeld
  refine hK.out _ _ (LM.cells (n := w.heap.size) (by assumption)) (fun hHeld => ?_)
  clear hK K
  try simp only [List.getElem_toArray, List.getElem_cons_zero, List.getElem_cons_succ, Act.put, List.setIfInBounds_toArray, List.set_cons_zero, List.set_cons_succ]
  refine wpAnyH_ready (rs := [3]) (by kernel_rfl) (by simp) (AllReadyH.cons rfl (fun K hK => ?_) AllReadyH.nil)
  go_simp
  refine (FM.out _).mono ?_; rintro e wz ⟨rfl, hbz⟩; have Dz := chnN (W0 := w) hbz (by assumption); have Pz := LM.keep (n := w.heap.size) hbz (by assumption); clear hbz
  try go_wp2_with fail
  clear hHeld
  refine hK.out _ _ (LM.cells (n := w.heap.size) (by assumption)) (fun hHeld => ?_)
  clear hK K
  try simp only [List.getElem_toArray, List.getElem_cons_zero, List.getElem_cons_succ, Act.put, List.setIfInBounds_toArray, List.set_cons_zero, List.set_cons_succ]
  refine' wpAnyH_take (i := 4) (v := _) rfl (by kernel_rfl) (by kernel_rfl) (by kernel_rfl) (fun _ _ _ h => h) (Or.inl ⟨by rfl, ?gy5⟩) (by assumption) ?gr5
  case gy5 => (intro w hSw; (try dsimp only at hSw); go_simp; (try with_reducible rfl))
  try simp only [List.getElem_toArray, List.getElem_cons_zero, List.getElem_cons_succ, Act.put, List.setIfInBounds_toArray, List.set_cons_zero, List.set_cons_succ]
  refine' wpAnyH_take (i := 5) (v := _) rfl (by kernel_rfl) (by kernel_rfl) (by kernel_rfl) (fun _ _ _ h => h) (Or.inl ⟨by rfl, ?gy6⟩) (by assumption) ?gr6
  case gy6 => (intro w hSw; (try dsimp only at hSw); go_simp; (try with_reducible rfl))
  try simp only [List.getElem_toArray, List.getElem_cons_zero, List.getElem_cons_succ, Act.put, List.setIfInBounds_toArray, List.set_cons_zero, List.set_cons_succ]
  refine' wpAnyH_take (i := 6) (v := undef) rfl (by kernel_rfl) (by kernel_rfl) (by kernel_rfl) (fun _ _ _ h => h) (Or.inr ⟨by rfl, rfl⟩) (by assumption) ?gr7
  try simp only [List.getElem_toArray, List.getElem_cons_zero, List.getElem_cons_succ, Act.put, List.setIfInBounds_toArray, List.set_cons_zero, List.set_cons_succ]
  refine' wpAnyH_take (i := 7) (v := undef) rfl (by kernel_rfl) (by kernel_rfl) (by kernel_rfl) (fun _ _ _ h => h) (Or.inr ⟨by rfl, rfl⟩) (by assumption) ?gr8
  try simp only [List.getElem_toArray, List.getElem_cons_zero, List.getElem_cons_succ, Act.put, List.setIfInBounds_toArray, List.set_cons_zero, List.set_cons_succ]
  refine' wpAnyH_take (i := 8) (v := undef) rfl (by kernel_rfl) (by kernel_rfl) (by kernel_rfl) (fun _ _ _ h => h) (Or.inr ⟨by rfl, rfl⟩) (by assumption) ?gr9
  try simp only [List.getElem_toArray, List.getElem_cons_zero, List.getElem_cons_succ, Act.put, List.setIfInBounds_toArray, List.set_cons_zero, List.set_cons_succ]
  refine' wpAnyH_take (i := 9) (v := undef) rfl (by kernel_rfl) (by kernel_rfl) (by kernel_rfl) (fun _ _ _ h => h) (Or.inr ⟨by rfl, rfl⟩) (by assumption) ?gr10
  try simp only [List.getElem_toArray, List.getElem_cons_zero, List.getElem_cons_succ, Act.put, List.setIfInBounds_toArray, List.set_cons_zero, List.set_cons_succ]
  refine' wpAnyH_take (i := 10) (v := undef) rfl (by kernel_rfl) (by kernel_rfl) (by kernel_rfl) (fun _ _ _ h => h) (Or.inr ⟨by rfl, rfl⟩) (by assumption) ?gr11
  try simp only [List.getElem_toArray, List.getElem_cons_zero, List.getElem_cons_succ, Act.put, List.setIfInBounds_toArray, List.set_cons_zero, List.set_cons_succ]
  refine' wpAnyH_take (i := 11) (v := _) rfl (by kernel_rfl) (by kernel_rfl) (by kernel_rfl) (fun _ _ _ h => h) (Or.inl ⟨by rfl, ?gy12⟩) (by assumption) ?gr12
  case gy12 => (intro w hSw; (try dsimp only at hSw); go_simp; (try with_reducible rfl))
  try simp only [List.getElem_toArray, List.getElem_cons_zero, List.getElem_cons_succ, Act.put, List.setIfInBounds_toArray, List.set_cons_zero, List.set_cons_succ]
  refine' wpAnyH_take (i := 12) (v := _) rfl (by kernel_rfl) (by kernel_rfl) (by kernel_rfl) (fun _ _ _ h => h) (Or.inl ⟨by rfl, ?gy13⟩) (by assumption) ?gr13
  case gy13 => (intro w hSw; (try dsimp only at hSw); go_simp; (try with_reducible rfl))
  try simp only [List.getElem_toArray, List.getElem_cons_zero, List.getElem_cons_succ, Act.put, List.setIfInBounds_toArray, List.set_cons_zero, List.set_cons_succ]
  refine' wpAnyH_take (i := 13) (v := undef) rfl (by kernel_rfl) (by kernel_rfl) (by kernel_rfl) (fun _ _ _ h => h) (Or.inr ⟨by rfl, rfl⟩) (by assumption) ?gr14
  try simp only [List.getElem_toArray, List.getElem_cons_zero, List.getElem_cons_succ, Act.put, List.setIfInBounds_toArray, List.set_cons_zero, List.set_cons_succ]
  refine' wpAnyH_take (i := 14) (v := undef) rfl (by kernel_rfl) (by kernel_rfl) (by kernel_rfl) (fun _ _ _ h => h) (Or.inr ⟨by rfl, rfl⟩) (by assumption) ?gr15
  try simp only [List.getElem_toArray, List.getElem_cons_zero, List.getElem_cons_succ, Act.put, List.setIfInBounds_toArray, List.set_cons_zero, List.set_cons_succ]
  refine' wpAnyH_take (i := 15) (v := undef) rfl (by kernel_rfl) (by kernel_rfl) (by kernel_rfl) (fun _ _ _ h => h) (Or.inr ⟨by rfl, rfl⟩) (by assumption) ?gr16
  try simp only [List.getElem_toArray, List.getElem_cons_zero, List.getElem_cons_succ, Act.put, List.setIfInBounds_toArray, List.set_cons_zero, List.set_cons_succ]
  refine' wpAnyH_take (i := 16) (v := undef) rfl (by kernel_rfl) (by kernel_rfl) (by kernel_rfl) (fun _ _ _ h => h) (Or.inr ⟨by rfl, rfl⟩) (by assumption) ?gr17
  try simp only [List.getElem_toArray, List.getElem_cons_zero, List.getElem_cons_succ, Act.put, List.setIfInBounds_toArray, List.set_cons_zero, List.set_cons_succ]
  refine' wpAnyH_take (i := 17) (v := undef) rfl (by kernel_rfl) (by kernel_rfl) (by kernel_rfl) (fun _ _ _ h => h) (Or.inr ⟨by rfl, rfl⟩) (by assumption) ?gr18
  try simp only [List.getElem_toArray, List.getElem_cons_zero, List.getElem_cons_succ, Act.put, List.setIfInBounds_toArray, List.set_cons_zero, List.set_cons_succ]
  refine' wpAnyH_take (i := 18) (v := _) rfl (by kernel_rfl) (by kernel_rfl) (by kernel_rfl) (fun _ _ _ h => h) (Or.inl ⟨by rfl, ?gy19⟩) (by assumption) ?gr19
  case gy19 => (intro w hSw; (try dsimp only at hSw); go_simp; (try with_reducible rfl))
  try simp only [List.getElem_toArray, List.getElem_cons_zero, List.getElem_cons_succ, Act.put, List.setIfInBounds_toArray, List.set_cons_zero, List.set_cons_succ]
  refine' wpAnyH_take (i := 19) (v := _) rfl (by kernel_rfl) (by kernel_rfl) (by kernel_rfl) (fun _ _ _ h => h) (Or.inl ⟨by rfl, ?gy20⟩) (by assumption) ?gr20
  case gy20 => (intro w hSw; (try dsimp only at hSw); go_simp; (try with_reducible rfl))
  try simp only [List.getElem_toArray, List.getElem_cons_zero, List.getElem_cons_succ, Act.put, List.setIfInBounds_toArray, List.set_cons_zero, List.set_cons_succ]
  refine' wpAnyH_take (i := 20) (v := undef) rfl (by kernel_rfl) (by kernel_rfl) (by kernel_rfl) (fun _ _ _ h => h) (Or.inr ⟨by rfl, rfl⟩) (by assumption) ?gr21
  try simp only [List.getElem_toArray, List.getElem_cons_zero, List.getElem_cons_succ, Act.put, List.setIfInBounds_toArray, List.set_cons_zero, List.set_cons_succ]
  refine' wpAnyH_take (i := 21) (v := undef) rfl (by kernel_rfl) (by kernel_rfl) (by kernel_rfl) (fun _ _ _ h => h) (Or.inr ⟨by rfl, rfl⟩) (by assumption) ?gr22
  try simp only [List.getElem_toArray, List.getElem_cons_zero, List.getElem_cons_succ, Act.put, List.setIfInBounds_toArray, List.set_cons_zero, List.set_cons_succ]
  refine' wpAnyH_take (i := 22) (v := undef) rfl (by kernel_rfl) (by kernel_rfl) (by kernel_rfl) (fun _ _ _ h => h) (Or.inr ⟨by rfl, rfl⟩) (by assumption) ?gr23
  try simp only [List.getElem_toArray, List.getElem_cons_zero, List.getElem_cons_succ, Act.put, List.setIfInBounds_toArray, List.set_cons_zero, List.set_cons_succ]
  refine' wpAnyH_take (i := 23) (v := undef) rfl (by kernel_rfl) (by kernel_rfl) (by kernel_rfl) (fun _ _ _ h => h) (Or.inr ⟨by rfl, rfl⟩) (by assumption) ?gr24
  try simp only [List.getElem_toArray, List.getElem_cons_zero, List.getElem_cons_succ, Act.put, List.setIfInBounds_toArray, List.set_cons_zero, List.set_cons_succ]
  refine' wpAnyH_take (i := 24) (v := undef) rfl (by kernel_rfl) (by kernel_rfl) (by kernel_rfl) (fun _ _ _ h => h) (Or.inr ⟨by rfl, rfl⟩) (by assumption) ?gr25
  try simp only [List.getElem_toArray, List.getElem_cons_zero, List.getElem_cons_succ, Act.put, List.setIfInBounds_toArray, List.set_cons_zero, List.set_cons_succ]
  refine' wpAnyH_take (i := 25) (v := _) rfl (by kernel_rfl) (by kernel_rfl) (by kernel_rfl) (fun _ _ _ h => h) (Or.inl ⟨by rfl, ?gy26⟩) (by assumption) ?gr26
  case gy26 => (intro w hSw; (try dsimp only at hSw); go_simp; (try with_reducible rfl))
  try simp only [List.getElem_toArray, List.getElem_cons_zero, List.getElem_cons_succ, Act.put, List.setIfInBounds_toArray, List.set_cons_zero, List.set_cons_succ]
  refine' wpAnyH_take (i := 26) (v := _) rfl (by kernel_rfl) (by kernel_rfl) (by kernel_rfl) (fun _ _ _ h => h) (Or.inl ⟨by rfl, ?gy27⟩) (by assumption) ?gr27
  case gy27 => (intro w hSw; (try dsimp only at hSw); go_simp; (try with_reducible rfl))
  try simp only [List.getElem_toArray, List.getElem_cons_zero, List.getElem_cons_succ, Act.put, List.setIfInBounds_toArray, List.set_cons_zero, List.set_cons_succ]
  refine wpAnyH_done (by kernel_rfl) ?_ _
  go_wp2_with fail
  go_ret
  exact ⟨rfl, by assumption⟩
set_option maxHeartbeats 4000000 in
set_option maxRecDepth 100000 in
theorem meet_1 (la lp lb lq ma mp mb mq : Int) (w : World) (h0 : ((la == ma) && (lp == mp)) = false) (h1 : ((la == mb) && (lp == mq)) = true) : Calls Try.prog 54 #[lkA la lp lb lq, lkA ma mp mb mq] w fun e w' => e = .returned (.bool true) ∧ Below w.heap.size w w' := by
  have D0 := (Below.alN (Below.alN (Below.refl w.heap.size w) (.cells #[.int .i64 la, .int .i64 lp, .int .i64 lb, .int .i64 lq] 44)) (.cells #[.int .i64 ma, .int .i64 mp, .int .i64 mb, .int .i64 mq] 44)).drew
  have M0 := (lm_new w (.int .i64 la) (.int .i64 lp) (.int .i64 lb) (.int .i64 lq) (.int .i64 ma) (.int .i64 mp) (.int .i64 mb) (.int .i64 mq) 44).drew
  have FL : Hid (∀ w, Calls Try.prog 41 #[lkA la lp lb lq] w fun e w' => e = .returned (plA la lp) ∧ Below w.heap.size w w') := fun w => from_any _ _ _ _ w
  have TL : Hid (∀ w, Calls Try.prog 42 #[lkA la lp lb lq] w fun e w' => e = .returned (plA lb lq) ∧ Below w.heap.size w w') := fun w => to_any _ _ _ _ w
  have FM : Hid (∀ w, Calls Try.prog 41 #[lkA ma mp mb mq] w fun e w' => e = .returned (plA ma mp) ∧ Below w.heap.size w w') := fun w => from_any _ _ _ _ w
  have TM : Hid (∀ w, Calls Try.prog 42 #[lkA ma mp mb mq] w fun e w' => e = .returned (plA mb mq) ∧ Below w.heap.size w w') := fun w => to_any _ _ _ _ w
  have P0 : ∀ w, (binOp .eql 27 (plA la lp) (plA ma mp)).run Try.prog w = .ok (.bool false) w := fun w => by rw [place_eq, h0]
  have P1 : ∀ w, (binOp .eql 27 (plA la lp) (plA mb mq)).run Try.prog w = .ok (.bool true) w := fun w => by rw [place_eq, h1]
  clear h0 h1
  go_enter Try.func54, Try.ntmps54
  go_wp2_with fail
  refine wp_region_held_drew (S := (fun w' => w'.cell? ⟨w.heap.size, 0, none⟩ = some (.int .i64 la) ∧ w'.cell? ⟨w.heap.size, 1, none⟩ = some (.int .i64 lp) ∧ w'.cell? ⟨w.heap.size, 2, none⟩ = some (.int .i64 lb) ∧ w'.cell? ⟨w.heap.size, 3, none⟩ = some (.int .i64 lq) ∧ w'.cell? ⟨w.heap.size + 1, 0, none⟩ = some (.int .i64 ma) ∧ w'.cell? ⟨w.heap.size + 1, 1, none⟩ = some (.int .i64 mp) ∧ w'.cell? ⟨w.heap.size + 1, 2, none⟩ = some (.int .i64 mb) ∧ w'.cell? ⟨w.heap.size + 1, 3, none⟩ = some (.int .i64 mq))) (by kernel_rfl) (LM.cells (n := w.heap.size) (by assumption)) (fun hHeld => ?_)
  refine' wpAnyH_take (i := 0) (v := _) rfl (by kernel_rfl) (by kernel_rfl) (by kernel_rfl) (fun _ _ _ h => h) (Or.inl ⟨by rfl, ?gy29⟩) (by assumption) ?gr29
  case gy29 => (intro w hSw; (try dsimp only at hSw); go_simp; (try with_reducible rfl))
  try simp only [List.getElem_toArray, List.getElem_cons_zero, Act.put, List.setIfInBounds_toArray, List.set_cons_zero, List.set_cons_succ]
  refine' wpAnyH_take (i := 2) (v := _) rfl (by kernel_rfl) (by kernel_rfl) (by kernel_rfl) (fun _ _ _ h => h) (Or.inl ⟨by rfl, ?gy30⟩) (by assumption) ?gr30
  case gy30 => (intro w hSw; (try dsimp only at hSw); go_simp; (try with_reducible rfl))
  try simp only [List.getElem_toArray, List.getElem_cons_zero, List.getElem_cons_succ, Act.put, List.setIfInBounds_toArray, List.set_cons_zero, List.set_cons_succ]
  refine wpAnyH_ready (rs := [1]) (by kernel_rfl) (by simp) (AllReadyH.cons rfl (fun K hK => ?_) AllReadyH.nil)
  go_simp
  refine (FL.out _).mono ?_; rintro e wz ⟨rfl, hbz⟩; have Dz := chnN (W0 := w) hbz (by assumption); have Pz := LM.keep (n := w.heap.size) hbz (by assumption); clear hbz
  try go_wp2_with fail
  clear hHeld
  refine hK.out _ _ (LM.cells (n := w.heap.size) (by assumption)) (fun hHeld => ?_)
  clear hK K
  try simp only [List.getElem_toArray, List.getElem_cons_zero, List.getElem_cons_succ, Act.put, List.setIfInBounds_toArray, List.set_cons_zero, List.set_cons_succ]
  refine wpAnyH_ready (rs := [3]) (by kernel_rfl) (by simp) (AllReadyH.cons rfl (fun K hK => ?_) AllReadyH.nil)
  go_simp
  refine (FM.out _).mono ?_; rintro e wz ⟨rfl, hbz⟩; have Dz := chnN (W0 := w) hbz (by assumption); have Pz := LM.keep (n := w.heap.size) hbz (by assumption); clear hbz
  try go_wp2_with fail
  clear hHeld
  refine hK.out _ _ (LM.cells (n := w.heap.size) (by assumption)) (fun hHeld => ?_)
  clear hK K
  try simp only [List.getElem_toArray, List.getElem_cons_zero, List.getElem_cons_succ, Act.put, List.setIfInBounds_toArray, List.set_cons_zero, List.set_cons_succ]
  refine' wpAnyH_take (i := 4) (v := _) rfl (by kernel_rfl) (by kernel_rfl) (by kernel_rfl) (fun _ _ _ h => h) (Or.inl ⟨by rfl, ?gy33⟩) (by assumption) ?gr33
  case gy33 => (intro w hSw; (try dsimp only at hSw); go_simp; (try with_reducible rfl))
  try simp only [List.getElem_toArray, List.getElem_cons_zero, List.getElem_cons_succ, Act.put, List.setIfInBounds_toArray, List.set_cons_zero, List.set_cons_succ]
  refine' wpAnyH_take (i := 5) (v := _) rfl (by kernel_rfl) (by kernel_rfl) (by kernel_rfl) (fun _ _ _ h => h) (Or.inl ⟨by rfl, ?gy34⟩) (by assumption) ?gr34
  case gy34 => (intro w hSw; (try dsimp only at hSw); go_simp; (try with_reducible rfl))
  try simp only [List.getElem_toArray, List.getElem_cons_zero, List.getElem_cons_succ, Act.put, List.setIfInBounds_toArray, List.set_cons_zero, List.set_cons_succ]
  refine' wpAnyH_take (i := 6) (v := _) rfl (by kernel_rfl) (by kernel_rfl) (by kernel_rfl) (fun _ _ _ h => h) (Or.inl ⟨by rfl, ?gy35⟩) (by assumption) ?gr35
  case gy35 => (intro w hSw; (try dsimp only at hSw); go_simp; (try with_reducible rfl))
  try simp only [List.getElem_toArray, List.getElem_cons_zero, List.getElem_cons_succ, Act.put, List.setIfInBounds_toArray, List.set_cons_zero, List.set_cons_succ]
  refine' wpAnyH_take (i := 8) (v := _) rfl (by kernel_rfl) (by kernel_rfl) (by kernel_rfl) (fun _ _ _ h => h) (Or.inl ⟨by rfl, ?gy36⟩) (by assumption) ?gr36
  case gy36 => (intro w hSw; (try dsimp only at hSw); go_simp; (try with_reducible rfl))
  try simp only [List.getElem_toArray, List.getElem_cons_zero, List.getElem_cons_succ, Act.put, List.setIfInBounds_toArray, List.set_cons_zero, List.set_cons_succ]
  refine wpAnyH_ready (rs := [7]) (by kernel_rfl) (by simp) (AllReadyH.cons rfl (fun K hK => ?_) AllReadyH.nil)
  go_simp
  refine (FL.out _).mono ?_; rintro e wz ⟨rfl, hbz⟩; have Dz := chnN (W0 := w) hbz (by assumption); have Pz := LM.keep (n := w.heap.size) hbz (by assumption); clear hbz
  try go_wp2_with fail
  clear hHeld
  refine hK.out _ _ (LM.cells (n := w.heap.size) (by assumption)) (fun hHeld => ?_)
  clear hK K
  try simp only [List.getElem_toArray, List.getElem_cons_zero, List.getElem_cons_succ, Act.put, List.setIfInBounds_toArray, List.set_cons_zero, List.set_cons_succ]
  refine wpAnyH_ready (rs := [9]) (by kernel_rfl) (by simp) (AllReadyH.cons rfl (fun K hK => ?_) AllReadyH.nil)
  go_simp
  refine (TM.out _).mono ?_; rintro e wz ⟨rfl, hbz⟩; have Dz := chnN (W0 := w) hbz (by assumption); have Pz := LM.keep (n := w.heap.size) hbz (by assumption); clear hbz
  try go_wp2_with fail
  clear hHeld
  refine hK.out _ _ (LM.cells (n := w.heap.size) (by assumption)) (fun hHeld => ?_)
  clear hK K
  try simp only [List.getElem_toArray, List.getElem_cons_zero, List.getElem_cons_succ, Act.put, List.setIfInBounds_toArray, List.set_cons_zero, List.set_cons_succ]
  refine' wpAnyH_take (i := 10) (v := _) rfl (by kernel_rfl) (by kernel_rfl) (by kernel_rfl) (fun _ _ _ h => h) (Or.inl ⟨by rfl, ?gy39⟩) (by assumption) ?gr39
  case gy39 => (intro w hSw; (try dsimp only at hSw); go_simp; (try with_reducible rfl))
  try simp only [List.getElem_toArray, List.getElem_cons_zero, List.getElem_cons_succ, Act.put, List.setIfInBounds_toArray, List.set_cons_zero, List.set_cons_succ]
  refine' wpAnyH_take (i := 11) (v := _) rfl (by kernel_rfl) (by kernel_rfl) (by kernel_rfl) (fun _ _ _ h => h) (Or.inl ⟨by rfl, ?gy40⟩) (by assumption) ?gr40
  case gy40 => (intro w hSw; (try dsimp only at hSw); go_simp; (try with_reducible rfl))
  try simp only [List.getElem_toArray, List.getElem_cons_zero, List.getElem_cons_succ, Act.put, List.setIfInBounds_toArray, List.set_cons_zero, List.set_cons_succ]
  refine' wpAnyH_take (i := 12) (v := _) rfl (by kernel_rfl) (by kernel_rfl) (by kernel_rfl) (fun _ _ _ h => h) (Or.inl ⟨by rfl, ?gy41⟩) (by assumption) ?gr41
  case gy41 => (intro w hSw; (try dsimp only at hSw); go_simp; (try with_reducible rfl))
  try simp only [List.getElem_toArray, List.getElem_cons_zero, List.getElem_cons_succ, Act.put, List.setIfInBounds_toArray, List.set_cons_zero, List.set_cons_succ]
  refine' wpAnyH_take (i := 13) (v := undef) rfl (by kernel_rfl) (by kernel_rfl) (by kernel_rfl) (fun _ _ _ h => h) (Or.inr ⟨by rfl, rfl⟩) (by assumption) ?gr42
  try simp only [List.getElem_toArray, List.getElem_cons_zero, List.getElem_cons_succ, Act.put, List.setIfInBounds_toArray, List.set_cons_zero, List.set_cons_succ]
  refine' wpAnyH_take (i := 14) (v := undef) rfl (by kernel_rfl) (by kernel_rfl) (by kernel_rfl) (fun _ _ _ h => h) (Or.inr ⟨by rfl, rfl⟩) (by assumption) ?gr43
  try simp only [List.getElem_toArray, List.getElem_cons_zero, List.getElem_cons_succ, Act.put, List.setIfInBounds_toArray, List.set_cons_zero, List.set_cons_succ]
  refine' wpAnyH_take (i := 15) (v := undef) rfl (by kernel_rfl) (by kernel_rfl) (by kernel_rfl) (fun _ _ _ h => h) (Or.inr ⟨by rfl, rfl⟩) (by assumption) ?gr44
  try simp only [List.getElem_toArray, List.getElem_cons_zero, List.getElem_cons_succ, Act.put, List.setIfInBounds_toArray, List.set_cons_zero, List.set_cons_succ]
  refine' wpAnyH_take (i := 16) (v := undef) rfl (by kernel_rfl) (by kernel_rfl) (by kernel_rfl) (fun _ _ _ h => h) (Or.inr ⟨by rfl, rfl⟩) (by assumption) ?gr45
  try simp only [List.getElem_toArray, List.getElem_cons_zero, List.getElem_cons_succ, Act.put, List.setIfInBounds_toArray, List.set_cons_zero, List.set_cons_succ]
  refine' wpAnyH_take (i := 17) (v := undef) rfl (by kernel_rfl) (by kernel_rfl) (by kernel_rfl) (fun _ _ _ h => h) (Or.inr ⟨by rfl, rfl⟩) (by assumption) ?gr46
  try simp only [List.getElem_toArray, List.getElem_cons_zero, List.getElem_cons_succ, Act.put, List.setIfInBounds_toArray, List.set_cons_zero, List.set_cons_succ]
  refine' wpAnyH_take (i := 18) (v := _) rfl (by kernel_rfl) (by kernel_rfl) (by kernel_rfl) (fun _ _ _ h => h) (Or.inl ⟨by rfl, ?gy47⟩) (by assumption) ?gr47
  case gy47 => (intro w hSw; (try dsimp only at hSw); go_simp; (try with_reducible rfl))
  try simp only [List.getElem_toArray, List.getElem_cons_zero, List.getElem_cons_succ, Act.put, List.setIfInBounds_toArray, List.set_cons_zero, List.set_cons_succ]
  refine' wpAnyH_take (i := 19) (v := _) rfl (by kernel_rfl) (by kernel_rfl) (by kernel_rfl) (fun _ _ _ h => h) (Or.inl ⟨by rfl, ?gy48⟩) (by assumption) ?gr48
  case gy48 => (intro w hSw; (try dsimp only at hSw); go_simp; (try with_reducible rfl))
  try simp only [List.getElem_toArray, List.getElem_cons_zero, List.getElem_cons_succ, Act.put, List.setIfInBounds_toArray, List.set_cons_zero, List.set_cons_succ]
  refine' wpAnyH_take (i := 20) (v := undef) rfl (by kernel_rfl) (by kernel_rfl) (by kernel_rfl) (fun _ _ _ h => h) (Or.inr ⟨by rfl, rfl⟩) (by assumption) ?gr49
  try simp only [List.getElem_toArray, List.getElem_cons_zero, List.getElem_cons_succ, Act.put, List.setIfInBounds_toArray, List.set_cons_zero, List.set_cons_succ]
  refine' wpAnyH_take (i := 21) (v := undef) rfl (by kernel_rfl) (by kernel_rfl) (by kernel_rfl) (fun _ _ _ h => h) (Or.inr ⟨by rfl, rfl⟩) (by assumption) ?gr50
  try simp only [List.getElem_toArray, List.getElem_cons_zero, List.getElem_cons_succ, Act.put, List.setIfInBounds_toArray, List.set_cons_zero, List.set_cons_succ]
  refine' wpAnyH_take (i := 22) (v := undef) rfl (by kernel_rfl) (by kernel_rfl) (by kernel_rfl) (fun _ _ _ h => h) (Or.inr ⟨by rfl, rfl⟩) (by assumption) ?gr51
  try simp only [List.getElem_toArray, List.getElem_cons_zero, List.getElem_cons_succ, Act.put, List.setIfInBounds_toArray, List.set_cons_zero, List.set_cons_succ]
  refine' wpAnyH_take (i := 23) (v := undef) rfl (by kernel_rfl) (by kernel_rfl) (by kernel_rfl) (fun _ _ _ h => h) (Or.inr ⟨by rfl, rfl⟩) (by assumption) ?gr52
  try simp only [List.getElem_toArray, List.getElem_cons_zero, List.getElem_cons_succ, Act.put, List.setIfInBounds_toArray, List.set_cons_zero, List.set_cons_succ]
  refine' wpAnyH_take (i := 24) (v := undef) rfl (by kernel_rfl) (by kernel_rfl) (by kernel_rfl) (fun _ _ _ h => h) (Or.inr ⟨by rfl, rfl⟩) (by assumption) ?gr53
  try simp only [List.getElem_toArray, List.getElem_cons_zero, List.getElem_cons_succ, Act.put, List.setIfInBounds_toArray, List.set_cons_zero, List.set_cons_succ]
  refine' wpAnyH_take (i := 25) (v := _) rfl (by kernel_rfl) (by kernel_rfl) (by kernel_rfl) (fun _ _ _ h => h) (Or.inl ⟨by rfl, ?gy54⟩) (by assumption) ?gr54
  case gy54 => (intro w hSw; (try dsimp only at hSw); go_simp; (try with_reducible rfl))
  try simp only [List.getElem_toArray, List.getElem_cons_zero, List.getElem_cons_succ, Act.put, List.setIfInBounds_toArray, List.set_cons_zero, List.set_cons_succ]
  refine' wpAnyH_take (i := 26) (v := _) rfl (by kernel_rfl) (by kernel_rfl) (by kernel_rfl) (fun _ _ _ h => h) (Or.inl ⟨by rfl, ?gy55⟩) (by assumption) ?gr55
  case gy55 => (intro w hSw; (try dsimp only at hSw); go_simp; (try with_reducible rfl))
  try simp only [List.getElem_toArray, List.getElem_cons_zero, List.getElem_cons_succ, Act.put, List.setIfInBounds_toArray, List.set_cons_zero, List.set_cons_succ]
  refine wpAnyH_done (by kernel_rfl) ?_ _
  go_wp2_with fail
  go_ret
  exact ⟨rfl, by assumption⟩
set_option maxHeartbeats 4000000 in
set_option maxRecDepth 100000 in
theorem meet_2 (la lp lb lq ma mp mb mq : Int) (w : World) (h0 : ((la == ma) && (lp == mp)) = false) (h1 : ((la == mb) && (lp == mq)) = false) (h2 : ((lb == ma) && (lq == mp)) = true) : Calls Try.prog 54 #[lkA la lp lb lq, lkA ma mp mb mq] w fun e w' => e = .returned (.bool true) ∧ Below w.heap.size w w' := by
  have D0 := (Below.alN (Below.alN (Below.refl w.heap.size w) (.cells #[.int .i64 la, .int .i64 lp, .int .i64 lb, .int .i64 lq] 44)) (.cells #[.int .i64 ma, .int .i64 mp, .int .i64 mb, .int .i64 mq] 44)).drew
  have M0 := (lm_new w (.int .i64 la) (.int .i64 lp) (.int .i64 lb) (.int .i64 lq) (.int .i64 ma) (.int .i64 mp) (.int .i64 mb) (.int .i64 mq) 44).drew
  have FL : Hid (∀ w, Calls Try.prog 41 #[lkA la lp lb lq] w fun e w' => e = .returned (plA la lp) ∧ Below w.heap.size w w') := fun w => from_any _ _ _ _ w
  have TL : Hid (∀ w, Calls Try.prog 42 #[lkA la lp lb lq] w fun e w' => e = .returned (plA lb lq) ∧ Below w.heap.size w w') := fun w => to_any _ _ _ _ w
  have FM : Hid (∀ w, Calls Try.prog 41 #[lkA ma mp mb mq] w fun e w' => e = .returned (plA ma mp) ∧ Below w.heap.size w w') := fun w => from_any _ _ _ _ w
  have TM : Hid (∀ w, Calls Try.prog 42 #[lkA ma mp mb mq] w fun e w' => e = .returned (plA mb mq) ∧ Below w.heap.size w w') := fun w => to_any _ _ _ _ w
  have P0 : ∀ w, (binOp .eql 27 (plA la lp) (plA ma mp)).run Try.prog w = .ok (.bool false) w := fun w => by rw [place_eq, h0]
  have P1 : ∀ w, (binOp .eql 27 (plA la lp) (plA mb mq)).run Try.prog w = .ok (.bool false) w := fun w => by rw [place_eq, h1]
  have P2 : ∀ w, (binOp .eql 27 (plA lb lq) (plA ma mp)).run Try.prog w = .ok (.bool true) w := fun w => by rw [place_eq, h2]
  clear h0 h1 h2
  go_enter Try.func54, Try.ntmps54
  go_wp2_with fail
  refine wp_region_held_drew (S := (fun w' => w'.cell? ⟨w.heap.size, 0, none⟩ = some (.int .i64 la) ∧ w'.cell? ⟨w.heap.size, 1, none⟩ = some (.int .i64 lp) ∧ w'.cell? ⟨w.heap.size, 2, none⟩ = some (.int .i64 lb) ∧ w'.cell? ⟨w.heap.size, 3, none⟩ = some (.int .i64 lq) ∧ w'.cell? ⟨w.heap.size + 1, 0, none⟩ = some (.int .i64 ma) ∧ w'.cell? ⟨w.heap.size + 1, 1, none⟩ = some (.int .i64 mp) ∧ w'.cell? ⟨w.heap.size + 1, 2, none⟩ = some (.int .i64 mb) ∧ w'.cell? ⟨w.heap.size + 1, 3, none⟩ = some (.int .i64 mq))) (by kernel_rfl) (LM.cells (n := w.heap.size) (by assumption)) (fun hHeld => ?_)
  refine' wpAnyH_take (i := 0) (v := _) rfl (by kernel_rfl) (by kernel_rfl) (by kernel_rfl) (fun _ _ _ h => h) (Or.inl ⟨by rfl, ?gy57⟩) (by assumption) ?gr57
  case gy57 => (intro w hSw; (try dsimp only at hSw); go_simp; (try with_reducible rfl))
  try simp only [List.getElem_toArray, List.getElem_cons_zero, Act.put, List.setIfInBounds_toArray, List.set_cons_zero, List.set_cons_succ]
  refine' wpAnyH_take (i := 2) (v := _) rfl (by kernel_rfl) (by kernel_rfl) (by kernel_rfl) (fun _ _ _ h => h) (Or.inl ⟨by rfl, ?gy58⟩) (by assumption) ?gr58
  case gy58 => (intro w hSw; (try dsimp only at hSw); go_simp; (try with_reducible rfl))
  try simp only [List.getElem_toArray, List.getElem_cons_zero, List.getElem_cons_succ, Act.put, List.setIfInBounds_toArray, List.set_cons_zero, List.set_cons_succ]
  refine wpAnyH_ready (rs := [1]) (by kernel_rfl) (by simp) (AllReadyH.cons rfl (fun K hK => ?_) AllReadyH.nil)
  go_simp
  refine (FL.out _).mono ?_; rintro e wz ⟨rfl, hbz⟩; have Dz := chnN (W0 := w) hbz (by assumption); have Pz := LM.keep (n := w.heap.size) hbz (by assumption); clear hbz
  try go_wp2_with fail
  clear hHeld
  refine hK.out _ _ (LM.cells (n := w.heap.size) (by assumption)) (fun hHeld => ?_)
  clear hK K
  try simp only [List.getElem_toArray, List.getElem_cons_zero, List.getElem_cons_succ, Act.put, List.setIfInBounds_toArray, List.set_cons_zero, List.set_cons_succ]
  refine wpAnyH_ready (rs := [3]) (by kernel_rfl) (by simp) (AllReadyH.cons rfl (fun K hK => ?_) AllReadyH.nil)
  go_simp
  refine (FM.out _).mono ?_; rintro e wz ⟨rfl, hbz⟩; have Dz := chnN (W0 := w) hbz (by assumption); have Pz := LM.keep (n := w.heap.size) hbz (by assumption); clear hbz
  try go_wp2_with fail
  clear hHeld
  refine hK.out _ _ (LM.cells (n := w.heap.size) (by assumption)) (fun hHeld => ?_)
  clear hK K
  try simp only [List.getElem_toArray, List.getElem_cons_zero, List.getElem_cons_succ, Act.put, List.setIfInBounds_toArray, List.set_cons_zero, List.set_cons_succ]
  refine' wpAnyH_take (i := 4) (v := _) rfl (by kernel_rfl) (by kernel_rfl) (by kernel_rfl) (fun _ _ _ h => h) (Or.inl ⟨by rfl, ?gy61⟩) (by assumption) ?gr61
  case gy61 => (intro w hSw; (try dsimp only at hSw); go_simp; (try with_reducible rfl))
  try simp only [List.getElem_toArray, List.getElem_cons_zero, List.getElem_cons_succ, Act.put, List.setIfInBounds_toArray, List.set_cons_zero, List.set_cons_succ]
  refine' wpAnyH_take (i := 5) (v := _) rfl (by kernel_rfl) (by kernel_rfl) (by kernel_rfl) (fun _ _ _ h => h) (Or.inl ⟨by rfl, ?gy62⟩) (by assumption) ?gr62
  case gy62 => (intro w hSw; (try dsimp only at hSw); go_simp; (try with_reducible rfl))
  try simp only [List.getElem_toArray, List.getElem_cons_zero, List.getElem_cons_succ, Act.put, List.setIfInBounds_toArray, List.set_cons_zero, List.set_cons_succ]
  refine' wpAnyH_take (i := 6) (v := _) rfl (by kernel_rfl) (by kernel_rfl) (by kernel_rfl) (fun _ _ _ h => h) (Or.inl ⟨by rfl, ?gy63⟩) (by assumption) ?gr63
  case gy63 => (intro w hSw; (try dsimp only at hSw); go_simp; (try with_reducible rfl))
  try simp only [List.getElem_toArray, List.getElem_cons_zero, List.getElem_cons_succ, Act.put, List.setIfInBounds_toArray, List.set_cons_zero, List.set_cons_succ]
  refine' wpAnyH_take (i := 8) (v := _) rfl (by kernel_rfl) (by kernel_rfl) (by kernel_rfl) (fun _ _ _ h => h) (Or.inl ⟨by rfl, ?gy64⟩) (by assumption) ?gr64
  case gy64 => (intro w hSw; (try dsimp only at hSw); go_simp; (try with_reducible rfl))
  try simp only [List.getElem_toArray, List.getElem_cons_zero, List.getElem_cons_succ, Act.put, List.setIfInBounds_toArray, List.set_cons_zero, List.set_cons_succ]
  refine wpAnyH_ready (rs := [7]) (by kernel_rfl) (by simp) (AllReadyH.cons rfl (fun K hK => ?_) AllReadyH.nil)
  go_simp
  refine (FL.out _).mono ?_; rintro e wz ⟨rfl, hbz⟩; have Dz := chnN (W0 := w) hbz (by assumption); have Pz := LM.keep (n := w.heap.size) hbz (by assumption); clear hbz
  try go_wp2_with fail
  clear hHeld
  refine hK.out _ _ (LM.cells (n := w.heap.size) (by assumption)) (fun hHeld => ?_)
  clear hK K
  try simp only [List.getElem_toArray, List.getElem_cons_zero, List.getElem_cons_succ, Act.put, List.setIfInBounds_toArray, List.set_cons_zero, List.set_cons_succ]
  refine wpAnyH_ready (rs := [9]) (by kernel_rfl) (by simp) (AllReadyH.cons rfl (fun K hK => ?_) AllReadyH.nil)
  go_simp
  refine (TM.out _).mono ?_; rintro e wz ⟨rfl, hbz⟩; have Dz := chnN (W0 := w) hbz (by assumption); have Pz := LM.keep (n := w.heap.size) hbz (by assumption); clear hbz
  try go_wp2_with fail
  clear hHeld
  refine hK.out _ _ (LM.cells (n := w.heap.size) (by assumption)) (fun hHeld => ?_)
  clear hK K
  try simp only [List.getElem_toArray, List.getElem_cons_zero, List.getElem_cons_succ, Act.put, List.setIfInBounds_toArray, List.set_cons_zero, List.set_cons_succ]
  refine' wpAnyH_take (i := 10) (v := _) rfl (by kernel_rfl) (by kernel_rfl) (by kernel_rfl) (fun _ _ _ h => h) (Or.inl ⟨by rfl, ?gy67⟩) (by assumption) ?gr67
  case gy67 => (intro w hSw; (try dsimp only at hSw); go_simp; (try with_reducible rfl))
  try simp only [List.getElem_toArray, List.getElem_cons_zero, List.getElem_cons_succ, Act.put, List.setIfInBounds_toArray, List.set_cons_zero, List.set_cons_succ]
  refine' wpAnyH_take (i := 11) (v := _) rfl (by kernel_rfl) (by kernel_rfl) (by kernel_rfl) (fun _ _ _ h => h) (Or.inl ⟨by rfl, ?gy68⟩) (by assumption) ?gr68
  case gy68 => (intro w hSw; (try dsimp only at hSw); go_simp; (try with_reducible rfl))
  try simp only [List.getElem_toArray, List.getElem_cons_zero, List.getElem_cons_succ, Act.put, List.setIfInBounds_toArray, List.set_cons_zero, List.set_cons_succ]
  refine' wpAnyH_take (i := 12) (v := _) rfl (by kernel_rfl) (by kernel_rfl) (by kernel_rfl) (fun _ _ _ h => h) (Or.inl ⟨by rfl, ?gy69⟩) (by assumption) ?gr69
  case gy69 => (intro w hSw; (try dsimp only at hSw); go_simp; (try with_reducible rfl))
  try simp only [List.getElem_toArray, List.getElem_cons_zero, List.getElem_cons_succ, Act.put, List.setIfInBounds_toArray, List.set_cons_zero, List.set_cons_succ]
  refine' wpAnyH_take (i := 13) (v := _) rfl (by kernel_rfl) (by kernel_rfl) (by kernel_rfl) (fun _ _ _ h => h) (Or.inl ⟨by rfl, ?gy70⟩) (by assumption) ?gr70
  case gy70 => (intro w hSw; (try dsimp only at hSw); go_simp; (try with_reducible rfl))
  try simp only [List.getElem_toArray, List.getElem_cons_zero, List.getElem_cons_succ, Act.put, List.setIfInBounds_toArray, List.set_cons_zero, List.set_cons_succ]
  refine' wpAnyH_take (i := 15) (v := _) rfl (by kernel_rfl) (by kernel_rfl) (by kernel_rfl) (fun _ _ _ h => h) (Or.inl ⟨by rfl, ?gy71⟩) (by assumption) ?gr71
  case gy71 => (intro w hSw; (try dsimp only at hSw); go_simp; (try with_reducible rfl))
  try simp only [List.getElem_toArray, List.getElem_cons_zero, List.getElem_cons_succ, Act.put, List.setIfInBounds_toArray, List.set_cons_zero, List.set_cons_succ]
  refine wpAnyH_ready (rs := [14]) (by kernel_rfl) (by simp) (AllReadyH.cons rfl (fun K hK => ?_) AllReadyH.nil)
  go_simp
  refine (TL.out _).mono ?_; rintro e wz ⟨rfl, hbz⟩; have Dz := chnN (W0 := w) hbz (by assumption); have Pz := LM.keep (n := w.heap.size) hbz (by assumption); clear hbz
  try go_wp2_with fail
  clear hHeld
  refine hK.out _ _ (LM.cells (n := w.heap.size) (by assumption)) (fun hHeld => ?_)
  clear hK K
  try simp only [List.getElem_toArray, List.getElem_cons_zero, List.getElem_cons_succ, Act.put, List.setIfInBounds_toArray, List.set_cons_zero, List.set_cons_succ]
  refine wpAnyH_ready (rs := [16]) (by kernel_rfl) (by simp) (AllReadyH.cons rfl (fun K hK => ?_) AllReadyH.nil)
  go_simp
  refine (FM.out _).mono ?_; rintro e wz ⟨rfl, hbz⟩; have Dz := chnN (W0 := w) hbz (by assumption); have Pz := LM.keep (n := w.heap.size) hbz (by assumption); clear hbz
  try go_wp2_with fail
  clear hHeld
  refine hK.out _ _ (LM.cells (n := w.heap.size) (by assumption)) (fun hHeld => ?_)
  clear hK K
  try simp only [List.getElem_toArray, List.getElem_cons_zero, List.getElem_cons_succ, Act.put, List.setIfInBounds_toArray, List.set_cons_zero, List.set_cons_succ]
  refine' wpAnyH_take (i := 17) (v := _) rfl (by kernel_rfl) (by kernel_rfl) (by kernel_rfl) (fun _ _ _ h => h) (Or.inl ⟨by rfl, ?gy74⟩) (by assumption) ?gr74
  case gy74 => (intro w hSw; (try dsimp only at hSw); go_simp; (try with_reducible rfl))
  try simp only [List.getElem_toArray, List.getElem_cons_zero, List.getElem_cons_succ, Act.put, List.setIfInBounds_toArray, List.set_cons_zero, List.set_cons_succ]
  refine' wpAnyH_take (i := 18) (v := _) rfl (by kernel_rfl) (by kernel_rfl) (by kernel_rfl) (fun _ _ _ h => h) (Or.inl ⟨by rfl, ?gy75⟩) (by assumption) ?gr75
  case gy75 => (intro w hSw; (try dsimp only at hSw); go_simp; (try with_reducible rfl))
  try simp only [List.getElem_toArray, List.getElem_cons_zero, List.getElem_cons_succ, Act.put, List.setIfInBounds_toArray, List.set_cons_zero, List.set_cons_succ]
  refine' wpAnyH_take (i := 19) (v := _) rfl (by kernel_rfl) (by kernel_rfl) (by kernel_rfl) (fun _ _ _ h => h) (Or.inl ⟨by rfl, ?gy76⟩) (by assumption) ?gr76
  case gy76 => (intro w hSw; (try dsimp only at hSw); go_simp; (try with_reducible rfl))
  try simp only [List.getElem_toArray, List.getElem_cons_zero, List.getElem_cons_succ, Act.put, List.setIfInBounds_toArray, List.set_cons_zero, List.set_cons_succ]
  refine' wpAnyH_take (i := 20) (v := undef) rfl (by kernel_rfl) (by kernel_rfl) (by kernel_rfl) (fun _ _ _ h => h) (Or.inr ⟨by rfl, rfl⟩) (by assumption) ?gr77
  try simp only [List.getElem_toArray, List.getElem_cons_zero, List.getElem_cons_succ, Act.put, List.setIfInBounds_toArray, List.set_cons_zero, List.set_cons_succ]
  refine' wpAnyH_take (i := 21) (v := undef) rfl (by kernel_rfl) (by kernel_rfl) (by kernel_rfl) (fun _ _ _ h => h) (Or.inr ⟨by rfl, rfl⟩) (by assumption) ?gr78
  try simp only [List.getElem_toArray, List.getElem_cons_zero, List.getElem_cons_succ, Act.put, List.setIfInBounds_toArray, List.set_cons_zero, List.set_cons_succ]
  refine' wpAnyH_take (i := 22) (v := undef) rfl (by kernel_rfl) (by kernel_rfl) (by kernel_rfl) (fun _ _ _ h => h) (Or.inr ⟨by rfl, rfl⟩) (by assumption) ?gr79
  try simp only [List.getElem_toArray, List.getElem_cons_zero, List.getElem_cons_succ, Act.put, List.setIfInBounds_toArray, List.set_cons_zero, List.set_cons_succ]
  refine' wpAnyH_take (i := 23) (v := undef) rfl (by kernel_rfl) (by kernel_rfl) (by kernel_rfl) (fun _ _ _ h => h) (Or.inr ⟨by rfl, rfl⟩) (by assumption) ?gr80
  try simp only [List.getElem_toArray, List.getElem_cons_zero, List.getElem_cons_succ, Act.put, List.setIfInBounds_toArray, List.set_cons_zero, List.set_cons_succ]
  refine' wpAnyH_take (i := 24) (v := undef) rfl (by kernel_rfl) (by kernel_rfl) (by kernel_rfl) (fun _ _ _ h => h) (Or.inr ⟨by rfl, rfl⟩) (by assumption) ?gr81
  try simp only [List.getElem_toArray, List.getElem_cons_zero, List.getElem_cons_succ, Act.put, List.setIfInBounds_toArray, List.set_cons_zero, List.set_cons_succ]
  refine' wpAnyH_take (i := 25) (v := _) rfl (by kernel_rfl) (by kernel_rfl) (by kernel_rfl) (fun _ _ _ h => h) (Or.inl ⟨by rfl, ?gy82⟩) (by assumption) ?gr82
  case gy82 => (intro w hSw; (try dsimp only at hSw); go_simp; (try with_reducible rfl))
  try simp only [List.getElem_toArray, List.getElem_cons_zero, List.getElem_cons_succ, Act.put, List.setIfInBounds_toArray, List.set_cons_zero, List.set_cons_succ]
  refine' wpAnyH_take (i := 26) (v := _) rfl (by kernel_rfl) (by kernel_rfl) (by kernel_rfl) (fun _ _ _ h => h) (Or.inl ⟨by rfl, ?gy83⟩) (by assumption) ?gr83
  case gy83 => (intro w hSw; (try dsimp only at hSw); go_simp; (try with_reducible rfl))
  try simp only [List.getElem_toArray, List.getElem_cons_zero, List.getElem_cons_succ, Act.put, List.setIfInBounds_toArray, List.set_cons_zero, List.set_cons_succ]
  refine wpAnyH_done (by kernel_rfl) ?_ _
  go_wp2_with fail
  go_ret
  exact ⟨rfl, by assumption⟩
set_option maxHeartbeats 4000000 in
set_option maxRecDepth 100000 in
theorem meet_3 (la lp lb lq ma mp mb mq : Int) (x3 : Bool) (w : World) (h0 : ((la == ma) && (lp == mp)) = false) (h1 : ((la == mb) && (lp == mq)) = false) (h2 : ((lb == ma) && (lq == mp)) = false) (h3 : ((lb == mb) && (lq == mq)) = x3) : Calls Try.prog 54 #[lkA la lp lb lq, lkA ma mp mb mq] w fun e w' => e = .returned (.bool x3) ∧ Below w.heap.size w w' := by
  have D0 := (Below.alN (Below.alN (Below.refl w.heap.size w) (.cells #[.int .i64 la, .int .i64 lp, .int .i64 lb, .int .i64 lq] 44)) (.cells #[.int .i64 ma, .int .i64 mp, .int .i64 mb, .int .i64 mq] 44)).drew
  have M0 := (lm_new w (.int .i64 la) (.int .i64 lp) (.int .i64 lb) (.int .i64 lq) (.int .i64 ma) (.int .i64 mp) (.int .i64 mb) (.int .i64 mq) 44).drew
  have FL : Hid (∀ w, Calls Try.prog 41 #[lkA la lp lb lq] w fun e w' => e = .returned (plA la lp) ∧ Below w.heap.size w w') := fun w => from_any _ _ _ _ w
  have TL : Hid (∀ w, Calls Try.prog 42 #[lkA la lp lb lq] w fun e w' => e = .returned (plA lb lq) ∧ Below w.heap.size w w') := fun w => to_any _ _ _ _ w
  have FM : Hid (∀ w, Calls Try.prog 41 #[lkA ma mp mb mq] w fun e w' => e = .returned (plA ma mp) ∧ Below w.heap.size w w') := fun w => from_any _ _ _ _ w
  have TM : Hid (∀ w, Calls Try.prog 42 #[lkA ma mp mb mq] w fun e w' => e = .returned (plA mb mq) ∧ Below w.heap.size w w') := fun w => to_any _ _ _ _ w
  have P0 : ∀ w, (binOp .eql 27 (plA la lp) (plA ma mp)).run Try.prog w = .ok (.bool false) w := fun w => by rw [place_eq, h0]
  have P1 : ∀ w, (binOp .eql 27 (plA la lp) (plA mb mq)).run Try.prog w = .ok (.bool false) w := fun w => by rw [place_eq, h1]
  have P2 : ∀ w, (binOp .eql 27 (plA lb lq) (plA ma mp)).run Try.prog w = .ok (.bool false) w := fun w => by rw [place_eq, h2]
  have P3 : ∀ w, (binOp .eql 27 (plA lb lq) (plA mb mq)).run Try.prog w = .ok (.bool x3) w := fun w => by rw [place_eq, h3]
  clear h0 h1 h2 h3
  go_enter Try.func54, Try.ntmps54
  go_wp2_with fail
  refine wp_region_held_drew (S := (fun w' => w'.cell? ⟨w.heap.size, 0, none⟩ = some (.int .i64 la) ∧ w'.cell? ⟨w.heap.size, 1, none⟩ = some (.int .i64 lp) ∧ w'.cell? ⟨w.heap.size, 2, none⟩ = some (.int .i64 lb) ∧ w'.cell? ⟨w.heap.size, 3, none⟩ = some (.int .i64 lq) ∧ w'.cell? ⟨w.heap.size + 1, 0, none⟩ = some (.int .i64 ma) ∧ w'.cell? ⟨w.heap.size + 1, 1, none⟩ = some (.int .i64 mp) ∧ w'.cell? ⟨w.heap.size + 1, 2, none⟩ = some (.int .i64 mb) ∧ w'.cell? ⟨w.heap.size + 1, 3, none⟩ = some (.int .i64 mq))) (by kernel_rfl) (LM.cells (n := w.heap.size) (by assumption)) (fun hHeld => ?_)
  refine' wpAnyH_take (i := 0) (v := _) rfl (by kernel_rfl) (by kernel_rfl) (by kernel_rfl) (fun _ _ _ h => h) (Or.inl ⟨by rfl, ?gy85⟩) (by assumption) ?gr85
  case gy85 => (intro w hSw; (try dsimp only at hSw); go_simp; (try with_reducible rfl))
  try simp only [List.getElem_toArray, List.getElem_cons_zero, Act.put, List.setIfInBounds_toArray, List.set_cons_zero, List.set_cons_succ]
  refine' wpAnyH_take (i := 2) (v := _) rfl (by kernel_rfl) (by kernel_rfl) (by kernel_rfl) (fun _ _ _ h => h) (Or.inl ⟨by rfl, ?gy86⟩) (by assumption) ?gr86
  case gy86 => (intro w hSw; (try dsimp only at hSw); go_simp; (try with_reducible rfl))
  try simp only [List.getElem_toArray, List.getElem_cons_zero, List.getElem_cons_succ, Act.put, List.setIfInBounds_toArray, List.set_cons_zero, List.set_cons_succ]
  refine wpAnyH_ready (rs := [1]) (by kernel_rfl) (by simp) (AllReadyH.cons rfl (fun K hK => ?_) AllReadyH.nil)
  go_simp
  refine (FL.out _).mono ?_; rintro e wz ⟨rfl, hbz⟩; have Dz := chnN (W0 := w) hbz (by assumption); have Pz := LM.keep (n := w.heap.size) hbz (by assumption); clear hbz
  try go_wp2_with fail
  clear hHeld
  refine hK.out _ _ (LM.cells (n := w.heap.size) (by assumption)) (fun hHeld => ?_)
  clear hK K
  try simp only [List.getElem_toArray, List.getElem_cons_zero, List.getElem_cons_succ, Act.put, List.setIfInBounds_toArray, List.set_cons_zero, List.set_cons_succ]
  refine wpAnyH_ready (rs := [3]) (by kernel_rfl) (by simp) (AllReadyH.cons rfl (fun K hK => ?_) AllReadyH.nil)
  go_simp
  refine (FM.out _).mono ?_; rintro e wz ⟨rfl, hbz⟩; have Dz := chnN (W0 := w) hbz (by assumption); have Pz := LM.keep (n := w.heap.size) hbz (by assumption); clear hbz
  try go_wp2_with fail
  clear hHeld
  refine hK.out _ _ (LM.cells (n := w.heap.size) (by assumption)) (fun hHeld => ?_)
  clear hK K
  try simp only [List.getElem_toArray, List.getElem_cons_zero, List.getElem_cons_succ, Act.put, List.setIfInBounds_toArray, List.set_cons_zero, List.set_cons_succ]
  refine' wpAnyH_take (i := 4) (v := _) rfl (by kernel_rfl) (by kernel_rfl) (by kernel_rfl) (fun _ _ _ h => h) (Or.inl ⟨by rfl, ?gy89⟩) (by assumption) ?gr89
  case gy89 => (intro w hSw; (try dsimp only at hSw); go_simp; (try with_reducible rfl))
  try simp only [List.getElem_toArray, List.getElem_cons_zero, List.getElem_cons_succ, Act.put, List.setIfInBounds_toArray, List.set_cons_zero, List.set_cons_succ]
  refine' wpAnyH_take (i := 5) (v := _) rfl (by kernel_rfl) (by kernel_rfl) (by kernel_rfl) (fun _ _ _ h => h) (Or.inl ⟨by rfl, ?gy90⟩) (by assumption) ?gr90
  case gy90 => (intro w hSw; (try dsimp only at hSw); go_simp; (try with_reducible rfl))
  try simp only [List.getElem_toArray, List.getElem_cons_zero, List.getElem_cons_succ, Act.put, List.setIfInBounds_toArray, List.set_cons_zero, List.set_cons_succ]
  refine' wpAnyH_take (i := 6) (v := _) rfl (by kernel_rfl) (by kernel_rfl) (by kernel_rfl) (fun _ _ _ h => h) (Or.inl ⟨by rfl, ?gy91⟩) (by assumption) ?gr91
  case gy91 => (intro w hSw; (try dsimp only at hSw); go_simp; (try with_reducible rfl))
  try simp only [List.getElem_toArray, List.getElem_cons_zero, List.getElem_cons_succ, Act.put, List.setIfInBounds_toArray, List.set_cons_zero, List.set_cons_succ]
  refine' wpAnyH_take (i := 8) (v := _) rfl (by kernel_rfl) (by kernel_rfl) (by kernel_rfl) (fun _ _ _ h => h) (Or.inl ⟨by rfl, ?gy92⟩) (by assumption) ?gr92
  case gy92 => (intro w hSw; (try dsimp only at hSw); go_simp; (try with_reducible rfl))
  try simp only [List.getElem_toArray, List.getElem_cons_zero, List.getElem_cons_succ, Act.put, List.setIfInBounds_toArray, List.set_cons_zero, List.set_cons_succ]
  refine wpAnyH_ready (rs := [7]) (by kernel_rfl) (by simp) (AllReadyH.cons rfl (fun K hK => ?_) AllReadyH.nil)
  go_simp
  refine (FL.out _).mono ?_; rintro e wz ⟨rfl, hbz⟩; have Dz := chnN (W0 := w) hbz (by assumption); have Pz := LM.keep (n := w.heap.size) hbz (by assumption); clear hbz
  try go_wp2_with fail
  clear hHeld
  refine hK.out _ _ (LM.cells (n := w.heap.size) (by assumption)) (fun hHeld => ?_)
  clear hK K
  try simp only [List.getElem_toArray, List.getElem_cons_zero, List.getElem_cons_succ, Act.put, List.setIfInBounds_toArray, List.set_cons_zero, List.set_cons_succ]
  refine wpAnyH_ready (rs := [9]) (by kernel_rfl) (by simp) (AllReadyH.cons rfl (fun K hK => ?_) AllReadyH.nil)
  go_simp
  refine (TM.out _).mono ?_; rintro e wz ⟨rfl, hbz⟩; have Dz := chnN (W0 := w) hbz (by assumption); have Pz := LM.keep (n := w.heap.size) hbz (by assumption); clear hbz
  try go_wp2_with fail
  clear hHeld
  refine hK.out _ _ (LM.cells (n := w.heap.size) (by assumption)) (fun hHeld => ?_)
  clear hK K
  try simp only [List.getElem_toArray, List.getElem_cons_zero, List.getElem_cons_succ, Act.put, List.setIfInBounds_toArray, List.set_cons_zero, List.set_cons_succ]
  refine' wpAnyH_take (i := 10) (v := _) rfl (by kernel_rfl) (by kernel_rfl) (by kernel_rfl) (fun _ _ _ h => h) (Or.inl ⟨by rfl, ?gy95⟩) (by assumption) ?gr95
  case gy95 => (intro w hSw; (try dsimp only at hSw); go_simp; (try with_reducible rfl))
  try simp only [List.getElem_toArray, List.getElem_cons_zero, List.getElem_cons_succ, Act.put, List.setIfInBounds_toArray, List.set_cons_zero, List.set_cons_succ]
  refine' wpAnyH_take (i := 11) (v := _) rfl (by kernel_rfl) (by kernel_rfl) (by kernel_rfl) (fun _ _ _ h => h) (Or.inl ⟨by rfl, ?gy96⟩) (by assumption) ?gr96
  case gy96 => (intro w hSw; (try dsimp only at hSw); go_simp; (try with_reducible rfl))
  try simp only [List.getElem_toArray, List.getElem_cons_zero, List.getElem_cons_succ, Act.put, List.setIfInBounds_toArray, List.set_cons_zero, List.set_cons_succ]
  refine' wpAnyH_take (i := 12) (v := _) rfl (by kernel_rfl) (by kernel_rfl) (by kernel_rfl) (fun _ _ _ h => h) (Or.inl ⟨by rfl, ?gy97⟩) (by assumption) ?gr97
  case gy97 => (intro w hSw; (try dsimp only at hSw); go_simp; (try with_reducible rfl))
  try simp only [List.getElem_toArray, List.getElem_cons_zero, List.getElem_cons_succ, Act.put, List.setIfInBounds_toArray, List.set_cons_zero, List.set_cons_succ]
  refine' wpAnyH_take (i := 13) (v := _) rfl (by kernel_rfl) (by kernel_rfl) (by kernel_rfl) (fun _ _ _ h => h) (Or.inl ⟨by rfl, ?gy98⟩) (by assumption) ?gr98
  case gy98 => (intro w hSw; (try dsimp only at hSw); go_simp; (try with_reducible rfl))
  try simp only [List.getElem_toArray, List.getElem_cons_zero, List.getElem_cons_succ, Act.put, List.setIfInBounds_toArray, List.set_cons_zero, List.set_cons_succ]
  refine' wpAnyH_take (i := 15) (v := _) rfl (by kernel_rfl) (by kernel_rfl) (by kernel_rfl) (fun _ _ _ h => h) (Or.inl ⟨by rfl, ?gy99⟩) (by assumption) ?gr99
  case gy99 => (intro w hSw; (try dsimp only at hSw); go_simp; (try with_reducible rfl))
  try simp only [List.getElem_toArray, List.getElem_cons_zero, List.getElem_cons_succ, Act.put, List.setIfInBounds_toArray, List.set_cons_zero, List.set_cons_succ]
  refine wpAnyH_ready (rs := [14]) (by kernel_rfl) (by simp) (AllReadyH.cons rfl (fun K hK => ?_) AllReadyH.nil)
  go_simp
  refine (TL.out _).mono ?_; rintro e wz ⟨rfl, hbz⟩; have Dz := chnN (W0 := w) hbz (by assumption); have Pz := LM.keep (n := w.heap.size) hbz (by assumption); clear hbz
  try go_wp2_with fail
  clear hHeld
  refine hK.out _ _ (LM.cells (n := w.heap.size) (by assumption)) (fun hHeld => ?_)
  clear hK K
  try simp only [List.getElem_toArray, List.getElem_cons_zero, List.getElem_cons_succ, Act.put, List.setIfInBounds_toArray, List.set_cons_zero, List.set_cons_succ]
  refine wpAnyH_ready (rs := [16]) (by kernel_rfl) (by simp) (AllReadyH.cons rfl (fun K hK => ?_) AllReadyH.nil)
  go_simp
  refine (FM.out _).mono ?_; rintro e wz ⟨rfl, hbz⟩; have Dz := chnN (W0 := w) hbz (by assumption); have Pz := LM.keep (n := w.heap.size) hbz (by assumption); clear hbz
  try go_wp2_with fail
  clear hHeld
  refine hK.out _ _ (LM.cells (n := w.heap.size) (by assumption)) (fun hHeld => ?_)
  clear hK K
  try simp only [List.getElem_toArray, List.getElem_cons_zero, List.getElem_cons_succ, Act.put, List.setIfInBounds_toArray, List.set_cons_zero, List.set_cons_succ]
  refine' wpAnyH_take (i := 17) (v := _) rfl (by kernel_rfl) (by kernel_rfl) (by kernel_rfl) (fun _ _ _ h => h) (Or.inl ⟨by rfl, ?gy102⟩) (by assumption) ?gr102
  case gy102 => (intro w hSw; (try dsimp only at hSw); go_simp; (try with_reducible rfl))
  try simp only [List.getElem_toArray, List.getElem_cons_zero, List.getElem_cons_succ, Act.put, List.setIfInBounds_toArray, List.set_cons_zero, List.set_cons_succ]
  refine' wpAnyH_take (i := 18) (v := _) rfl (by kernel_rfl) (by kernel_rfl) (by kernel_rfl) (fun _ _ _ h => h) (Or.inl ⟨by rfl, ?gy103⟩) (by assumption) ?gr103
  case gy103 => (intro w hSw; (try dsimp only at hSw); go_simp; (try with_reducible rfl))
  try simp only [List.getElem_toArray, List.getElem_cons_zero, List.getElem_cons_succ, Act.put, List.setIfInBounds_toArray, List.set_cons_zero, List.set_cons_succ]
  refine' wpAnyH_take (i := 19) (v := _) rfl (by kernel_rfl) (by kernel_rfl) (by kernel_rfl) (fun _ _ _ h => h) (Or.inl ⟨by rfl, ?gy104⟩) (by assumption) ?gr104
  case gy104 => (intro w hSw; (try dsimp only at hSw); go_simp; (try with_reducible rfl))
  try simp only [List.getElem_toArray, List.getElem_cons_zero, List.getElem_cons_succ, Act.put, List.setIfInBounds_toArray, List.set_cons_zero, List.set_cons_succ]
  refine' wpAnyH_take (i := 20) (v := _) rfl (by kernel_rfl) (by kernel_rfl) (by kernel_rfl) (fun _ _ _ h => h) (Or.inl ⟨by rfl, ?gy105⟩) (by assumption) ?gr105
  case gy105 => (intro w hSw; (try dsimp only at hSw); go_simp; (try with_reducible rfl))
  try simp only [List.getElem_toArray, List.getElem_cons_zero, List.getElem_cons_succ, Act.put, List.setIfInBounds_toArray, List.set_cons_zero, List.set_cons_succ]
  refine' wpAnyH_take (i := 22) (v := _) rfl (by kernel_rfl) (by kernel_rfl) (by kernel_rfl) (fun _ _ _ h => h) (Or.inl ⟨by rfl, ?gy106⟩) (by assumption) ?gr106
  case gy106 => (intro w hSw; (try dsimp only at hSw); go_simp; (try with_reducible rfl))
  try simp only [List.getElem_toArray, List.getElem_cons_zero, List.getElem_cons_succ, Act.put, List.setIfInBounds_toArray, List.set_cons_zero, List.set_cons_succ]
  refine wpAnyH_ready (rs := [21]) (by kernel_rfl) (by simp) (AllReadyH.cons rfl (fun K hK => ?_) AllReadyH.nil)
  go_simp
  refine (TL.out _).mono ?_; rintro e wz ⟨rfl, hbz⟩; have Dz := chnN (W0 := w) hbz (by assumption); have Pz := LM.keep (n := w.heap.size) hbz (by assumption); clear hbz
  try go_wp2_with fail
  clear hHeld
  refine hK.out _ _ (LM.cells (n := w.heap.size) (by assumption)) (fun hHeld => ?_)
  clear hK K
  try simp only [List.getElem_toArray, List.getElem_cons_zero, List.getElem_cons_succ, Act.put, List.setIfInBounds_toArray, List.set_cons_zero, List.set_cons_succ]
  refine wpAnyH_ready (rs := [23]) (by kernel_rfl) (by simp) (AllReadyH.cons rfl (fun K hK => ?_) AllReadyH.nil)
  go_simp
  refine (TM.out _).mono ?_; rintro e wz ⟨rfl, hbz⟩; have Dz := chnN (W0 := w) hbz (by assumption); have Pz := LM.keep (n := w.heap.size) hbz (by assumption); clear hbz
  try go_wp2_with fail
  clear hHeld
  refine hK.out _ _ (LM.cells (n := w.heap.size) (by assumption)) (fun hHeld => ?_)
  clear hK K
  try simp only [List.getElem_toArray, List.getElem_cons_zero, List.getElem_cons_succ, Act.put, List.setIfInBounds_toArray, List.set_cons_zero, List.set_cons_succ]
  refine' wpAnyH_take (i := 24) (v := _) rfl (by kernel_rfl) (by kernel_rfl) (by kernel_rfl) (fun _ _ _ h => h) (Or.inl ⟨by rfl, ?gy109⟩) (by assumption) ?gr109
  case gy109 => (intro w hSw; (try dsimp only at hSw); go_simp; (try with_reducible rfl))
  try simp only [List.getElem_toArray, List.getElem_cons_zero, List.getElem_cons_succ, Act.put, List.setIfInBounds_toArray, List.set_cons_zero, List.set_cons_succ]
  refine' wpAnyH_take (i := 25) (v := _) rfl (by kernel_rfl) (by kernel_rfl) (by kernel_rfl) (fun _ _ _ h => h) (Or.inl ⟨by rfl, ?gy110⟩) (by assumption) ?gr110
  case gy110 => (intro w hSw; (try dsimp only at hSw); go_simp; (try with_reducible rfl))
  try simp only [List.getElem_toArray, List.getElem_cons_zero, List.getElem_cons_succ, Act.put, List.setIfInBounds_toArray, List.set_cons_zero, List.set_cons_succ]
  refine' wpAnyH_take (i := 26) (v := _) rfl (by kernel_rfl) (by kernel_rfl) (by kernel_rfl) (fun _ _ _ h => h) (Or.inl ⟨by rfl, ?gy111⟩) (by assumption) ?gr111
  case gy111 => (intro w hSw; (try dsimp only at hSw); go_simp; (try with_reducible rfl))
  try simp only [List.getElem_toArray, List.getElem_cons_zero, List.getElem_cons_succ, Act.put, List.setIfInBounds_toArray, List.set_cons_zero, List.set_cons_succ]
  refine wpAnyH_done (by kernel_rfl) ?_ _
  go_wp2_with fail
  go_ret
  exact ⟨rfl, by assumption⟩
theorem meet_any (l m : Lk) (w : World) : Calls Try.prog 54 #[lkA l.a l.p l.b l.q, lkA m.a m.p m.b m.q] w fun e w' => e = .returned (.bool (meetB l m)) ∧ Below w.heap.size w w' := by
  unfold meetB
  cases h0 : ((l.a == m.a) && (l.p == m.p))
  · cases h1 : ((l.a == m.b) && (l.p == m.q))
    · cases h2 : ((l.b == m.a) && (l.q == m.p))
      · exact meet_3 _ _ _ _ _ _ _ _ _ w h0 h1 h2 rfl
      · exact meet_2 _ _ _ _ _ _ _ _ w h0 h1 h2
    · exact meet_1 _ _ _ _ _ _ _ _ w h0 h1
  · exact meet_0 _ _ _ _ _ _ _ _ w h0
set_option maxHeartbeats 1000000 in
theorem link1_any (o l : Lk) (n0 : Nat) (w : World) (hT : Lk4 w n0 (.int .i64 l.a) (.int .i64 l.p) (.int .i64 l.b) (.int .i64 l.q)) :
    Calls Try.prog 53 #[lkA o.a o.p o.b o.q, .pointer (some ⟨n0, 0, none⟩)] w fun e w' => e = .returned (.bool (meetB o l)) ∧ Below w.heap.size w w' := by
  have D0 := Below.alN (Below.refl w.heap.size w) (.cells #[.int .i64 o.a, .int .i64 o.p, .int .i64 o.b, .int .i64 o.q] 44)
  have T1 := hT.alloc (.cells #[.int .i64 o.a, .int .i64 o.p, .int .i64 o.b, .int .i64 o.q] 44)
  obtain ⟨l0, g0, g1, g2, g3⟩ := T1
  have SM : Hid (∀ w, Calls Try.prog 54 #[lkA o.a o.p o.b o.q, lkA l.a l.p l.b l.q] w fun e w' => e = .returned (.bool (meetB o l)) ∧ Below w.heap.size w w') := fun w => meet_any o l w
  clear hT
  generalize meetB o l = x at *
  generalize o.a = oa at *
  generalize o.p = op at *
  generalize o.b = ob at *
  generalize o.q = oq at *
  generalize l.a = la at *
  generalize l.p = lp at *
  generalize l.b = lb at *
  generalize l.q = lq at *
  go_enter Try.func53, Try.ntmps53
  go_wp2_with fail
  refine (SM.out _).mono ?_
  rintro e w1 ⟨rfl, hb1⟩
  have D1 := chnN hb1 D0
  clear D0 hb1 g0 g1 g2 g3 SM
  go_wp2_with fail
  go_ret
  exact ⟨rfl, D1⟩
theorem any_takeL {ls : List Lk} {k : Nat} {m l : Lk} (h : ls[k]? = some m) : (ls.take (k + 1)).any (fun m => meetB m l) = ((ls.take k).any (fun m => meetB m l) || meetB m l) := by
  obtain ⟨hk, e⟩ := List.getElem?_eq_some_iff.1 h
  rw [List.take_succ_eq_append_getElem hk, e]
  simp
set_option maxHeartbeats 4000000 in
set_option maxRecDepth 100000 in
theorem linkIdx_any (A : Option Addr) (n cap : Nat) (ls : List Lk) (l : Lk) (n0 : Nat) (w : World) (hL : Hid (Links w.heap.size w (.slice A n cap) ls)) (hT : Hid (Lk4 w n0 (.int .i64 l.a) (.int .i64 l.p) (.int .i64 l.b) (.int .i64 l.q))) :
    Calls Try.prog 72 #[.slice A n cap, .func (.func 53) #[] #[.pointer (some ⟨n0, 0, none⟩)]] w fun e w' => ∃ j : Int, e = .returned (.int .i64 j) ∧ Hid (decide (0 ≤ j) = ls.any (fun m => meetB m l)) ∧ Below w.heap.size w w' := by
  obtain ⟨rfl, hc, hm⟩ := hL.out.len
  unfold maxLen at hm
  go_enter Try.func72, Try.ntmps72
  go_wp2_with fail
  go_loopw [8] (fun i wr => ∃ k : Nat, i = .int .i64 (k : Int) ∧ k ≤ ls.length ∧ Below w.heap.size w wr ∧ Hid ((ls.take k).any (fun m => meetB m l) = false)) (fun i _ => ls.length - (intOf i).toNat)
  case atStart => exact ⟨0, rfl, by omega, Below.refl _ _, rfl⟩
  case round =>
    obtain ⟨k, rfl, hk, D1, hno⟩ := hrel
    by_cases hlt : k < ls.length
    · obtain ⟨m, hxk⟩ : ∃ m, ls[k]? = some m := ⟨_, List.getElem?_eq_getElem hlt⟩
      obtain ⟨b, o, rfl, hb, c0, c1, c2, c3⟩ := (hL.out.below D1).at hxk
      have PR : Hid (Calls Try.prog 53 #[lkA m.a m.p m.b m.q, .pointer (some ⟨n0, 0, none⟩)] wr fun e w' => e = .returned (.bool (meetB m l)) ∧ Below wr.heap.size wr w') := link1_any m l n0 wr (hT.out.below D1 hT.out.1)
      have HX : Hid (ls[k]? = some m) := hxk
      have k1 : (0 : Int) ≤ (k : Int) := by omega
      have k2 : (k : Int) < (ls.length : Int) := by omega
      clear hL hxk hT
      cases hv : meetB m l
      · rw [hv] at PR
        have HV : Hid ((ls.take (k + 1)).any (fun m => meetB m l) = false) := by show _ = _; rw [any_takeL HX.out, hno.out, hv]; rfl
        clear hv hno HX
        generalize m.a = ma at *
        generalize m.p = mp at *
        generalize m.b = mb at *
        generalize m.q = mq at *
        go_wp2_with fail
        refine PR.out.mono ?_
        rintro e w2 ⟨rfl, hb2⟩
        have D2 := chnN hb2 D1
        clear hb2 D1 c0 c1 c2 c3 PR
        go_wp2_with fail
        go_roundw
        case rel => exact ⟨k + 1, by go_num, by omega, D2, HV⟩
        case measure => simp [intOf]; omega
      · rw [hv] at PR
        have fin : Hid (ls.any (fun m => meetB m l) = true) := List.any_eq_true.2 ⟨m, List.mem_of_getElem? HX.out, hv⟩
        clear hv hno HX
        generalize m.a = ma at *
        generalize m.p = mp at *
        generalize m.b = mb at *
        generalize m.q = mq at *
        go_wp2_with fail
        refine PR.out.mono ?_
        rintro e w2 ⟨rfl, hb2⟩
        have D2 := chnN hb2 D1
        clear hb2 D1 c0 c1 c2 c3 PR
        go_wp2_with fail
        go_ret
        exact ⟨_, rfl, (by show _ = _; rw [fin.out]; simp), D2⟩
    · have fin : Hid (ls.any (fun m => meetB m l) = false) := by
        have := hno.out
        rw [show k = ls.length by omega, List.take_length] at this
        exact this
      go_wp2_with fail
      go_ret
      exact ⟨_, rfl, (by show _ = _; rw [fin.out]; simp), D1⟩
set_option maxHeartbeats 1000000 in
theorem linkHas_any (A : Option Addr) (n cap : Nat) (ls : List Lk) (l : Lk) (n0 : Nat) (w : World) (hL : Hid (Links w.heap.size w (.slice A n cap) ls)) (hT : Hid (Lk4 w n0 (.int .i64 l.a) (.int .i64 l.p) (.int .i64 l.b) (.int .i64 l.q))) :
    Calls Try.prog 52 #[.slice A n cap, .func (.func 53) #[] #[.pointer (some ⟨n0, 0, none⟩)]] w fun e w' => e = .returned (.bool (ls.any (fun m => meetB m l))) ∧ Below w.heap.size w w' := by
  have IX : Hid (Calls Try.prog 72 #[.slice A n cap, .func (.func 53) #[] #[.pointer (some ⟨n0, 0, none⟩)]] w fun e w' => ∃ j : Int, e = .returned (.int .i64 j) ∧ Hid (decide (0 ≤ j) = ls.any (fun m => meetB m l)) ∧ Below w.heap.size w w') := linkIdx_any A n cap ls l n0 w hL hT
  clear hL hT
  generalize ls.any (fun m => meetB m l) = x at *
  go_enter Try.func52, Try.ntmps52
  go_wp2_with fail
  refine IX.out.mono ?_
  rintro e w2 ⟨j, rfl, hj, hb2⟩
  clear IX
  go_wp2_with fail
  go_ret
  exact ⟨by rw [hj.out]; rfl, hb2⟩
theorem Lk4.cells {w : World} {n : Nat} {a b c d : Value} (h : Lk4 w n a b c d) : w.cell? ⟨n, 0, none⟩ = some a ∧ w.cell? ⟨n, 1, none⟩ = some b ∧ w.cell? ⟨n, 2, none⟩ = some c ∧ w.cell? ⟨n, 3, none⟩ = some d := h.2
theorem Lk4.keep {W w' : World} {n : Nat} {a b c d : Value} (hb : Below W.heap.size W w') (h : Lk4 W n a b c d) : Lk4 w' n a b c d := h.below hb h.1
end Go.Proofs.Ythioedgnambomaa
