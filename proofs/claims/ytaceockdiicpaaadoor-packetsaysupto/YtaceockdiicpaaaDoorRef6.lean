/-
  ReadPacket of the document's answer at a text with two ends of two pieces each.
-/
import Derived.Test.YtaceockdiicpaaaDoorRef5
namespace Go.Proofs.YtaceockdiicpaaaDoor
open Go.RowKit

set_option maxHeartbeats 2000000 in
set_option maxRecDepth 100000 in
theorem read_four (s : ByteArray) (f t a b c d : List UInt8) (x1 y1 x2 y2 : Int) (P5 P6 : World → Nat → Nat → Prop) (w : World)
    (h1 : Hid (∀ w, Calls Tryd.prog 29 #[.string s, .int .u8 62] w fun e w' => ∃ g cap, e = .returned (.slice (some ⟨g, 0, none⟩) 2 cap) ∧ 2 ≤ cap ∧ Two w' g f t ∧ Below w.heap.size w w'))
    (h5 : Ends ⟨f.toArray⟩ P5) (h6 : Ends ⟨t.toArray⟩ P6)
    (hg5 : Hid (∀ w g n, P5 w g n → n = 2 ∧ Two w g a b)) (hg6 : Hid (∀ w g n, P6 w g n → n = 2 ∧ Two w g c d))
    (ka : Hid (∀ w, Calls Tryd.prog 30 #[.string ⟨a.toArray⟩, .int .i64 15] w fun e w' => e = .returned (.int .i64 x1) ∧ w' = w))
    (kb : Hid (∀ w, Calls Tryd.prog 30 #[.string ⟨b.toArray⟩, .int .i64 7] w fun e w' => e = .returned (.int .i64 y1) ∧ w' = w))
    (kc : Hid (∀ w, Calls Tryd.prog 30 #[.string ⟨c.toArray⟩, .int .i64 15] w fun e w' => e = .returned (.int .i64 x2) ∧ w' = w))
    (kd : Hid (∀ w, Calls Tryd.prog 30 #[.string ⟨d.toArray⟩, .int .i64 7] w fun e w' => e = .returned (.int .i64 y2) ∧ w' = w))
    (res : Value) (hres : Hid ((((0 ≤ x1 ∧ x1 < 16) ∧ (0 ≤ x2 ∧ x2 < 16) ∧ (0 ≤ y1 ∧ y1 < 8) ∧ (0 ≤ y2 ∧ y2 < 8)) ∧ res = .tuple #[pk x1 x2 y1 y2, .int .i64 0]) ∨ (¬ ((0 ≤ x1 ∧ x1 < 16) ∧ (0 ≤ x2 ∧ x2 < 16) ∧ (0 ≤ y1 ∧ y1 < 8) ∧ (0 ≤ y2 ∧ y2 < 8)) ∧ res = .tuple #[pk 0 0 0 0, .int .i64 3]))) :
    Calls Tryd.prog 13 #[.string s] w fun e w' => e = .returned res ∧ Below w.heap.size w w' := by
  go_enter Tryd.func13, Tryd.ntmps13
  go_wp2_with fail
  refine (h1.out _).mono ?_
  rintro e w1 ⟨g, cap, rfl, hcap, T1, hb⟩
  have B1 := keepBox hb (box_new w 0 0 0 0)
  have D1 := chain hb ((Below.refl w.heap.size w).alloc (Nat.le_refl _) _)
  clear hb
  have T1d := T1.drew
  have C1 : Below w1.heap.size w1 w1.drew := (Below.refl _ _).drew
  obtain ⟨z1, q10, q11⟩ := id T1
  go_wp2_with fail
  go_cut [5, 6] (fun v5 v6 wx => ∃ g5 n5 cap5 g6 n6 cap6, v5 = .slice (some ⟨g5, 0, none⟩) n5 cap5 ∧ v6 = .slice (some ⟨g6, 0, none⟩) n6 cap6 ∧ n5 ≤ 2097153 ∧ n6 ≤ 2097153 ∧ P5 wx g5 n5 ∧ P6 wx g6 n6 ∧ Below w1.heap.size w1 wx)
  case first =>
    go_region_held3 (fun w' => w'.cell? ⟨g, 0, none⟩ = some (.string ⟨f.toArray⟩) ∧ w'.cell? ⟨g, 1, none⟩ = some (.string ⟨t.toArray⟩)) (go_keep) (first | (go_at_call_of 29 (Value.string ⟨f.toArray⟩); refine (h5.1 _).mono ?_; rintro e w2 ⟨g5, n5, cap5, rfl, hc5, hn5, S5, hb2⟩; have C2 := chain (W0 := w1) hb2 (by assumption); have T2 := keepTwo hb2 (by assumption); obtain ⟨z2, q20, q21⟩ := id T2) | (go_at_call_of 29 (Value.string ⟨t.toArray⟩); refine (h6.1 _).mono ?_; rintro e w3 ⟨g6, n6, cap6, rfl, hc6, hn6, S6, hb3⟩; have C3 := chain (W0 := w1) hb3 (by assumption); have T3 := keepTwo hb3 (by assumption); have S5b := h5.2 _ _ _ _ hb3 (by assumption); obtain ⟨z3, q30, q31⟩ := id T3))
    all_goals
      go_wp2_with fail
      go_meet
      exact ⟨_, _, _, _, _, _, rfl, rfl, by assumption, by assumption, by assumption, by assumption, by assumption⟩
  case rest =>
    obtain ⟨g5, n5, cap5, g6, n6, cap6, rfl, rfl, hn5, hn6, S5, S6, hb2⟩ := hcut
    have B2 := keepBox hb2 B1
    have D2 := chain hb2 D1
    clear B1 D1 T1 T1d C1 z1 q10 q11 hb2
    obtain ⟨rfl, T5⟩ := hg5.out _ _ _ S5
    obtain ⟨rfl, T6⟩ := hg6.out _ _ _ S6
    clear S5 S6 hg5 hg6
    obtain ⟨z5, q50, q51⟩ := id T5
    obtain ⟨z6, q60, q61⟩ := id T6
    clear h1 h5 h6 hn5 hn6
    go_wp2_with fail
    go_cut [7] (fun v7 wx => v7 = .pointer (some ⟨wc.heap.size, 0, none⟩) ∧ Box wx wc.heap.size x1 x2 y1 y2 ∧ Below wc.heap.size wc wx)
    case first =>
      go_region_held3 (fun w' => w'.cell? ⟨g5, 0, none⟩ = some (.string ⟨a.toArray⟩) ∧ w'.cell? ⟨g5, 1, none⟩ = some (.string ⟨b.toArray⟩) ∧ w'.cell? ⟨g6, 0, none⟩ = some (.string ⟨c.toArray⟩) ∧ w'.cell? ⟨g6, 1, none⟩ = some (.string ⟨d.toArray⟩)) (go_keep) (first | (go_at_call_of 30 (Value.string ⟨a.toArray⟩); refine (ka.out _).mono ?_; rintro e w2 ⟨rfl, rfl⟩) | (go_at_call_of 30 (Value.string ⟨b.toArray⟩); refine (kb.out _).mono ?_; rintro e w2 ⟨rfl, rfl⟩) | (go_at_call_of 30 (Value.string ⟨c.toArray⟩); refine (kc.out _).mono ?_; rintro e w2 ⟨rfl, rfl⟩) | (go_at_call_of 30 (Value.string ⟨d.toArray⟩); refine (kd.out _).mono ?_; rintro e w2 ⟨rfl, rfl⟩))
      all_goals
        go_wp2_with fail
        go_meet
        exact ⟨rfl, (box_new wc x1 x2 y1 y2).drew, ((Below.refl _ _).alloc (Nat.le_refl _) _).drew⟩
    case rest =>
      obtain ⟨rfl, BX, hb7⟩ := hcut
      have B3 := keepBox hb7 B2
      have D3 := chain hb7 D2
      clear B2 D2 z5 q50 q51 z6 q60 q61 T5 T6 ka kb kc kd
      obtain ⟨z7, ⟨q70, q71, q72, q73⟩, -⟩ := id BX
      go_wp2_with fail
      rcases hres.out with ⟨hr, rfl⟩ | ⟨hr, rfl⟩
      · have HR : Hid ((0 ≤ x1 ∧ x1 < 16) ∧ (0 ≤ x2 ∧ x2 < 16) ∧ (0 ≤ y1 ∧ y1 < 8) ∧ (0 ≤ y2 ∧ y2 < 8)) := hr
        clear hr hres
        refine (right_yes _ _ _ _ _ HR.out).mono ?_
        rintro e w8 ⟨rfl, hb8⟩
        have B8 := keepBox hb8 B3
        have X8 := keepBox hb8 BX
        have D8 := chain hb8 D3
        clear B3 BX D3 hb7 hb8 z7 q70 q71 q72 q73
        obtain ⟨z8, ⟨k0, k1, k2, k3⟩, f0, f1, f2, f3⟩ := id B8
        obtain ⟨z7, ⟨q70, q71, q72, q73⟩, -⟩ := id X8
        go_wp2
        refine bodyPost_ret (v := .tuple #[pk x1 x2 y1 y2, .int .i64 0]) (by simp [results, Tryd.results13, go_sem, k0, k1, k2, k3]) rfl ⟨rfl, ?_⟩
        exact below_set4 D8 (Nat.le_refl _) _ _ _ _
      · have HR : Hid (¬ ((0 ≤ x1 ∧ x1 < 16) ∧ (0 ≤ x2 ∧ x2 < 16) ∧ (0 ≤ y1 ∧ y1 < 8) ∧ (0 ≤ y2 ∧ y2 < 8))) := hr
        clear hr hres
        refine (right_no _ _ _ _ _ HR.out).mono ?_
        rintro e w8 ⟨rfl, hb8⟩
        have B8 := keepBox hb8 B3
        have D8 := chain hb8 D3
        clear B3 BX D3 hb7 hb8 z7 q70 q71 q72 q73
        obtain ⟨z8, ⟨k0, k1, k2, k3⟩, f0, f1, f2, f3⟩ := id B8
        go_wp2
        refine bodyPost_ret (v := .tuple #[pk 0 0 0 0, .int .i64 3]) (by simp [results, Tryd.results13, go_sem, k0, k1, k2, k3]) rfl ⟨rfl, ?_⟩
        exact below_set4 D8 (Nat.le_refl _) _ _ _ _
end Go.Proofs.YtaceockdiicpaaaDoor
