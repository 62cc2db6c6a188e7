/-
  ReadPacket of the document's answer at a text with one byte 62 (greater than): its two ends.
-/
import Derived.Test.YtaceockdiicpaaaDoorRef4
namespace Go.Proofs.YtaceockdiicpaaaDoor
open Go.RowKit

/-- A packet lies in a block of its own, which may be written. -/
def Box (w : World) (n : Nat) (a b c d : Int) : Prop :=
  n < w.heap.size ∧ (w.cell? ⟨n, 0, none⟩ = some (.int .i64 a) ∧ w.cell? ⟨n, 1, none⟩ = some (.int .i64 b) ∧ w.cell? ⟨n, 2, none⟩ = some (.int .i64 c) ∧ w.cell? ⟨n, 3, none⟩ = some (.int .i64 d)) ∧
    (w.frozen? ⟨n, 0, none⟩ = false ∧ w.frozen? ⟨n, 1, none⟩ = false ∧ w.frozen? ⟨n, 2, none⟩ = false ∧ w.frozen? ⟨n, 3, none⟩ = false)
theorem keepBox {W w' : World} {n : Nat} {a b c d : Int} (hb : Below W.heap.size W w') (h : Box W n a b c d) : Box w' n a b c d := by
  obtain ⟨h0, ⟨h1, h2, h3, h4⟩, k1, k2, k3, k4⟩ := h
  exact ⟨Nat.lt_of_lt_of_le h0 hb.size, ⟨(hb.cell (p := ⟨n, 0, none⟩) h0).trans h1, (hb.cell (p := ⟨n, 1, none⟩) h0).trans h2, (hb.cell (p := ⟨n, 2, none⟩) h0).trans h3, (hb.cell (p := ⟨n, 3, none⟩) h0).trans h4⟩,
    (hb.frozen (p := ⟨n, 0, none⟩) h0).trans k1, (hb.frozen (p := ⟨n, 1, none⟩) h0).trans k2, (hb.frozen (p := ⟨n, 2, none⟩) h0).trans k3, (hb.frozen (p := ⟨n, 3, none⟩) h0).trans k4⟩
theorem Box.drew {w : World} {n : Nat} {a b c d : Int} (h : Box w n a b c d) : Box w.drew n a b c d := h
theorem box_new (w : World) (a b c d : Int) : Box (w.alloc (.cells #[.int .i64 a, .int .i64 b, .int .i64 c, .int .i64 d] 23)) w.heap.size a b c d :=
  ⟨by simp, ⟨by simp [go_sem], by simp [go_sem], by simp [go_sem], by simp [go_sem]⟩, by simp [go_sem], by simp [go_sem], by simp [go_sem], by simp [go_sem]⟩
theorem allocBox {w : World} {n : Nat} {a b c d : Int} (h : Box w n a b c d) (o : Obj) : Box (w.alloc o) n a b c d := keepBox ((Below.refl _ _).alloc (Nat.le_refl _) o) h

/-- What Pieces does with an end of a packet: a slice of n texts of which P holds. -/
def Ends (s : ByteArray) (P : World → Nat → Nat → Prop) : Prop :=
  (∀ w, Calls Tryd.prog 29 #[.string s, .int .u8 58] w fun e w' => ∃ g n cap, e = .returned (.slice (some ⟨g, 0, none⟩) n cap) ∧ n ≤ cap ∧ n ≤ 2097153 ∧ P w' g n ∧ Below w.heap.size w w') ∧
  (∀ W w' g n, Below W.heap.size W w' → P W g n → P w' g n)

set_option maxHeartbeats 2000000 in
set_option maxRecDepth 100000 in
theorem read_bad5 (s : ByteArray) (f t : List UInt8) (P5 P6 : World → Nat → Nat → Prop) (w : World)
    (h1 : Hid (∀ w, Calls Tryd.prog 29 #[.string s, .int .u8 62] w fun e w' => ∃ g cap, e = .returned (.slice (some ⟨g, 0, none⟩) 2 cap) ∧ 2 ≤ cap ∧ Two w' g f t ∧ Below w.heap.size w w'))
    (h5 : Ends ⟨f.toArray⟩ P5) (h6 : Ends ⟨t.toArray⟩ P6)
    (hbad : Hid (∀ w g n, P5 w g n → ((n : Int) != 2) = true)) :
    Calls Tryd.prog 13 #[.string s] w fun e w' => e = .returned (.tuple #[pk 0 0 0 0, .int .i64 3]) ∧ Below w.heap.size w w' := by
  go_enter Tryd.func13, Tryd.ntmps13
  go_wp2_with fail
  refine (h1.out _).mono ?_
  rintro e w1 ⟨g, cap, rfl, hcap, T1, hb⟩
  have B1 := keepBox hb (box_new w 0 0 0 0)
  have D1 := chain hb ((Below.refl w.heap.size w).alloc (Nat.le_refl _) _)
  clear hb
  have T1d := T1.drew
  have C1 : Below w1.heap.size w1 w1.drew := (Below.refl _ _).drew
  obtain ⟨z1, q10, q11⟩ := id T1
  go_wp2_with fail
  go_cut [5, 6] (fun v5 v6 wx => ∃ g5 n5 cap5 g6 n6 cap6, v5 = .slice (some ⟨g5, 0, none⟩) n5 cap5 ∧ v6 = .slice (some ⟨g6, 0, none⟩) n6 cap6 ∧ n5 ≤ 2097153 ∧ n6 ≤ 2097153 ∧ P5 wx g5 n5 ∧ P6 wx g6 n6 ∧ Below w1.heap.size w1 wx)
  case first =>
    go_region_held3 (fun w' => w'.cell? ⟨g, 0, none⟩ = some (.string ⟨f.toArray⟩) ∧ w'.cell? ⟨g, 1, none⟩ = some (.string ⟨t.toArray⟩)) (go_keep) (first | (go_at_call_of 29 (Value.string ⟨f.toArray⟩); refine (h5.1 _).mono ?_; rintro e w2 ⟨g5, n5, cap5, rfl, hc5, hn5, S5, hb2⟩; have C2 := chain (W0 := w1) hb2 (by assumption); have T2 := keepTwo hb2 (by assumption); obtain ⟨z2, q20, q21⟩ := id T2) | (go_at_call_of 29 (Value.string ⟨t.toArray⟩); refine (h6.1 _).mono ?_; rintro e w3 ⟨g6, n6, cap6, rfl, hc6, hn6, S6, hb3⟩; have C3 := chain (W0 := w1) hb3 (by assumption); have T3 := keepTwo hb3 (by assumption); have S5b := h5.2 _ _ _ _ hb3 (by assumption); obtain ⟨z3, q30, q31⟩ := id T3))
    all_goals
      go_wp2_with fail
      go_meet
      exact ⟨_, _, _, _, _, _, rfl, rfl, by assumption, by assumption, by assumption, by assumption, by assumption⟩
  case rest =>
    obtain ⟨g5, n5, cap5, g6, n6, cap6, rfl, rfl, hn5, hn6, S5, S6, hb2⟩ := hcut
    have B2 := keepBox hb2 B1
    have D2 := chain hb2 D1
    clear B1 D1 T1 T1d C1 z1 q10 q11 hb2
    have hx := hbad.out _ _ _ S5
    obtain ⟨z4, ⟨k0, k1, k2, k3⟩, f0, f1, f2, f3⟩ := id B2
    clear S5 S6 h1 h5 h6 hbad
    go_wp2
    refine bodyPost_ret (v := .tuple #[pk 0 0 0 0, .int .i64 3]) (by simp [results, Tryd.results13, go_sem, k0, k1, k2, k3]) rfl ⟨rfl, ?_⟩
    exact below_set4 D2 (Nat.le_refl _) _ _ _ _

set_option maxHeartbeats 2000000 in
set_option maxRecDepth 100000 in
theorem read_bad6 (s : ByteArray) (f t : List UInt8) (P5 P6 : World → Nat → Nat → Prop) (w : World)
    (h1 : Hid (∀ w, Calls Tryd.prog 29 #[.string s, .int .u8 62] w fun e w' => ∃ g cap, e = .returned (.slice (some ⟨g, 0, none⟩) 2 cap) ∧ 2 ≤ cap ∧ Two w' g f t ∧ Below w.heap.size w w'))
    (h5 : Ends ⟨f.toArray⟩ P5) (h6 : Ends ⟨t.toArray⟩ P6)
    (hgood : Hid (∀ w g n, P5 w g n → n = 2)) (hbad : Hid (∀ w g n, P6 w g n → ((n : Int) != 2) = true)) :
    Calls Tryd.prog 13 #[.string s] w fun e w' => e = .returned (.tuple #[pk 0 0 0 0, .int .i64 3]) ∧ Below w.heap.size w w' := by
  go_enter Tryd.func13, Tryd.ntmps13
  go_wp2_with fail
  refine (h1.out _).mono ?_
  rintro e w1 ⟨g, cap, rfl, hcap, T1, hb⟩
  have B1 := keepBox hb (box_new w 0 0 0 0)
  have D1 := chain hb ((Below.refl w.heap.size w).alloc (Nat.le_refl _) _)
  clear hb
  have T1d := T1.drew
  have C1 : Below w1.heap.size w1 w1.drew := (Below.refl _ _).drew
  obtain ⟨z1, q10, q11⟩ := id T1
  go_wp2_with fail
  go_cut [5, 6] (fun v5 v6 wx => ∃ g5 n5 cap5 g6 n6 cap6, v5 = .slice (some ⟨g5, 0, none⟩) n5 cap5 ∧ v6 = .slice (some ⟨g6, 0, none⟩) n6 cap6 ∧ n5 ≤ 2097153 ∧ n6 ≤ 2097153 ∧ P5 wx g5 n5 ∧ P6 wx g6 n6 ∧ Below w1.heap.size w1 wx)
  case first =>
    go_region_held3 (fun w' => w'.cell? ⟨g, 0, none⟩ = some (.string ⟨f.toArray⟩) ∧ w'.cell? ⟨g, 1, none⟩ = some (.string ⟨t.toArray⟩)) (go_keep) (first | (go_at_call_of 29 (Value.string ⟨f.toArray⟩); refine (h5.1 _).mono ?_; rintro e w2 ⟨g5, n5, cap5, rfl, hc5, hn5, S5, hb2⟩; have C2 := chain (W0 := w1) hb2 (by assumption); have T2 := keepTwo hb2 (by assumption); obtain ⟨z2, q20, q21⟩ := id T2) | (go_at_call_of 29 (Value.string ⟨t.toArray⟩); refine (h6.1 _).mono ?_; rintro e w3 ⟨g6, n6, cap6, rfl, hc6, hn6, S6, hb3⟩; have C3 := chain (W0 := w1) hb3 (by assumption); have T3 := keepTwo hb3 (by assumption); have S5b := h5.2 _ _ _ _ hb3 (by assumption); obtain ⟨z3, q30, q31⟩ := id T3))
    all_goals
      go_wp2_with fail
      go_meet
      exact ⟨_, _, _, _, _, _, rfl, rfl, by assumption, by assumption, by assumption, by assumption, by assumption⟩
  case rest =>
    obtain ⟨g5, n5, cap5, g6, n6, cap6, rfl, rfl, hn5, hn6, S5, S6, hb2⟩ := hcut
    have B2 := keepBox hb2 B1
    have D2 := chain hb2 D1
    clear B1 D1 T1 T1d C1 z1 q10 q11 hb2
    have hx := hbad.out _ _ _ S6
    obtain rfl := hgood.out _ _ _ S5
    clear hgood
    obtain ⟨z4, ⟨k0, k1, k2, k3⟩, f0, f1, f2, f3⟩ := id B2
    clear S5 S6 h1 h5 h6 hbad
    go_wp2
    refine bodyPost_ret (v := .tuple #[pk 0 0 0 0, .int .i64 3]) (by simp [results, Tryd.results13, go_sem, k0, k1, k2, k3]) rfl ⟨rfl, ?_⟩
    exact below_set4 D2 (Nat.le_refl _) _ _ _ _
end Go.Proofs.YtaceockdiicpaaaDoor
