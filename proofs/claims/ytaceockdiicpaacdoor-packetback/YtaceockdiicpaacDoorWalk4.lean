/-
  PacketBack itself, out of the calls' contracts: it returns true, whatever packet and text it is given, and turns no memory that was there.
-/
import Derived.Test.YtaceockdiicpaacDoorWalk3
import Derived.Deep.RegionWith
import Derived.Deep.DeepCutAuto
namespace Go.Proofs.YtaceockdiicpaacDoor
open Go.RowKit

theorem print_one (w : World) :
    Calls Tryd.prog 4 #[pk 1 3 2 4] w fun e w' => e = .returned (.tuple #[.string ⟨#[49, 58, 50, 62, 51, 58, 52]⟩, .int .i64 0]) ∧ Below w.heap.size w w' :=
  print_yes 1 3 2 4 w (by decide) (by decide) (by decide) (by decide)

theorem print_nought (w : World) :
    Calls Tryd.prog 4 #[pk 0 0 0 0] w fun e w' => e = .returned (.tuple #[.string ⟨#[48, 58, 48, 62, 48, 58, 48]⟩, .int .i64 0]) ∧ Below w.heap.size w w' :=
  print_yes 0 0 0 0 w (by decide) (by decide) (by decide) (by decide)

/-- A packet lies in a block of its own, which may be written. -/
def Box (w : World) (n : Nat) (a b c d : Int) : Prop :=
  n < w.heap.size ∧ (w.cell? ⟨n, 0, none⟩ = some (.int .i64 a) ∧ w.cell? ⟨n, 1, none⟩ = some (.int .i64 b) ∧ w.cell? ⟨n, 2, none⟩ = some (.int .i64 c) ∧ w.cell? ⟨n, 3, none⟩ = some (.int .i64 d)) ∧
    (w.frozen? ⟨n, 0, none⟩ = false ∧ w.frozen? ⟨n, 1, none⟩ = false ∧ w.frozen? ⟨n, 2, none⟩ = false ∧ w.frozen? ⟨n, 3, none⟩ = false)
theorem keepBox {W w' : World} {n : Nat} {a b c d : Int} (hb : Below W.heap.size W w') (h : Box W n a b c d) : Box w' n a b c d := by
  obtain ⟨h0, ⟨h1, h2, h3, h4⟩, k1, k2, k3, k4⟩ := h
  exact ⟨Nat.lt_of_lt_of_le h0 hb.size, ⟨(hb.cell (p := ⟨n, 0, none⟩) h0).trans h1, (hb.cell (p := ⟨n, 1, none⟩) h0).trans h2, (hb.cell (p := ⟨n, 2, none⟩) h0).trans h3, (hb.cell (p := ⟨n, 3, none⟩) h0).trans h4⟩,
    (hb.frozen (p := ⟨n, 0, none⟩) h0).trans k1, (hb.frozen (p := ⟨n, 1, none⟩) h0).trans k2, (hb.frozen (p := ⟨n, 2, none⟩) h0).trans k3, (hb.frozen (p := ⟨n, 3, none⟩) h0).trans k4⟩
theorem Box.drew {w : World} {n : Nat} {a b c d : Int} (h : Box w n a b c d) : Box w.drew n a b c d := h
theorem box_new (w : World) (a b c d : Int) : Box (w.alloc (.cells #[.int .i64 a, .int .i64 b, .int .i64 c, .int .i64 d] 23)) w.heap.size a b c d :=
  ⟨by simp, ⟨by simp [go_sem], by simp [go_sem], by simp [go_sem], by simp [go_sem]⟩, by simp [go_sem], by simp [go_sem], by simp [go_sem], by simp [go_sem]⟩

theorem chain {W0 W w' : World} (hb : Below W.heap.size W w') (h : Below W0.heap.size W0 W) : Below W0.heap.size W0 w' := h.trans (hb.mono h.size)

set_option maxHeartbeats 2000000 in
set_option maxRecDepth 100000 in
theorem back_wrong (a b c d x y z u er : Int) (s t : ByteArray) (w : World) (hr : Hid (¬ ((0 ≤ a ∧ a < 16) ∧ (0 ≤ b ∧ b < 16) ∧ (0 ≤ c ∧ c < 8) ∧ (0 ≤ d ∧ d < 8))))
    (kp : Hid (∀ w, Calls Tryd.prog 8 #[.string s] w fun e w' => e = .returned (.tuple #[pk x y z u, .int .i64 er]) ∧ Below w.heap.size w w'))
    (kt : Hid (∀ w, Calls Tryd.prog 4 #[pk x y z u] w fun e w' => e = .returned (.tuple #[.string t, .int .i64 0]) ∧ Below w.heap.size w w'))
    (hok : er = 0 ∧ t = s ∨ er = 3) :
    Calls Tryd.prog 3 #[pk a b c d, .string s] w fun e w' => e = .returned (.bool true) ∧ Below w.heap.size w w' := by
  have HK : Hid (er = 0 ∧ t = s ∨ er = 3) := hok
  clear hok
  go_enter Tryd.func3, Tryd.ntmps3
  go_wp2_with fail
  refine (print_one _).mono ?_
  rintro e w1 ⟨rfl, hb1⟩
  have B1 := keepBox hb1 (box_new w a b c d)
  have D1 := chain hb1 ((Below.refl w.heap.size w).alloc (Nat.le_refl _) _)
  clear hb1
  have B1d := B1.drew
  obtain ⟨z1, ⟨q10, q11, q12, q13⟩, -⟩ := id B1
  go_wp2_with fail
  have C1 : Below w1.heap.size w1 w1.drew := (Below.refl _ _).drew
  go_cut [33] (fun v wx => v = .bool false ∧ Below w1.heap.size w1 wx)
  case first =>
    go_region_with (go_at_call 5; refine (flip_any _ _ _ _ _).mono ?_; rintro e w2 ⟨rfl, hb2⟩; have B2 := keepBox hb2 (by assumption); have C2 := chain (W0 := w1) hb2 (by assumption); obtain ⟨z2, ⟨q20, q21, q22, q23⟩, -⟩ := id B2)
    all_goals
      go_wp2_with fail
      go_meet
      exact ⟨rfl, by assumption⟩
  case rest =>
    obtain ⟨rfl, hb2⟩ := hcut
    have B2 := keepBox hb2 B1
    have D2 := chain hb2 D1
    clear z1 q10 q11 q12 q13 B1d B1 C1 hb2 D1
    obtain ⟨z1, ⟨q10, q11, q12, q13⟩, -⟩ := id B2
    go_wp2_with fail
    refine (code_no _ _ _ _ _ hr.out).mono ?_
    rintro e w3 ⟨rfl, hb3⟩
    have B3 := keepBox hb3 B2
    have D3 := chain hb3 D2
    clear z1 q10 q11 q12 q13 B2 D2 hb3
    go_wp2_with fail
    refine (kp.out _).mono ?_
    rintro e w4 ⟨rfl, hb4⟩
    have B4 := keepBox hb4 B3
    have D4 := chain hb4 D3
    clear B3 D3 hb4
    obtain ⟨z4, ⟨q40, q41, q42, q43⟩, f40, f41, f42, f43⟩ := id B4
    go_wp2_with fail
    refine (kt.out _).mono ?_
    rintro e w5 ⟨rfl, hb5⟩
    have D5 := chain hb5 (below_set4 D4 (Nat.le_refl _) _ _ _ _)
    rcases HK.out with ⟨rfl, rfl⟩ | rfl
    all_goals
      go_wp2
      go_ret
      exact ⟨rfl, D5⟩
end Go.Proofs.YtaceockdiicpaacDoor
