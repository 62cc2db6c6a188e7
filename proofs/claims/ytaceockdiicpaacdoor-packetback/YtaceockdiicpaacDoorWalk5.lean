/-
  PacketBack at a packet whose parts are right, and both ways together.
-/
import Derived.Test.YtaceockdiicpaacDoorWalk4
namespace Go.Proofs.YtaceockdiicpaacDoor
open Go.RowKit

theorem allocBox {w : World} {n : Nat} {a b c d : Int} (h : Box w n a b c d) (o : Obj) : Box (w.alloc o) n a b c d := keepBox ((Below.refl _ _).alloc (Nat.le_refl _) o) h

set_option maxHeartbeats 4000000 in
set_option maxRecDepth 100000 in
theorem back_right (a b c d n x y z u er : Int) (s t l : ByteArray) (w : World)
    (kc : Hid (∀ w, Calls Tryd.prog 6 #[pk a b c d] w fun e w' => e = .returned (.tuple #[.int .i64 n, .int .i64 0]) ∧ Below w.heap.size w w'))
    (ko : Hid (∀ w, Calls Tryd.prog 7 #[.int .i64 n] w fun e w' => e = .returned (.tuple #[pk a b c d, .int .i64 0]) ∧ Below w.heap.size w w'))
    (kl : Hid (∀ w, Calls Tryd.prog 4 #[pk a b c d] w fun e w' => e = .returned (.tuple #[.string l, .int .i64 0]) ∧ Below w.heap.size w w'))
    (ka : Hid (∀ w, Calls Tryd.prog 8 #[.string l] w fun e w' => e = .returned (.tuple #[pk a b c d, .int .i64 0]) ∧ Below w.heap.size w w'))
    (kp : Hid (∀ w, Calls Tryd.prog 8 #[.string s] w fun e w' => e = .returned (.tuple #[pk x y z u, .int .i64 er]) ∧ Below w.heap.size w w'))
    (kt : Hid (∀ w, Calls Tryd.prog 4 #[pk x y z u] w fun e w' => e = .returned (.tuple #[.string t, .int .i64 0]) ∧ Below w.heap.size w w'))
    (hok : er = 0 ∧ t = s ∨ er = 3) :
    Calls Tryd.prog 3 #[pk a b c d, .string s] w fun e w' => e = .returned (.bool true) ∧ Below w.heap.size w w' := by
  have HK : Hid (er = 0 ∧ t = s ∨ er = 3) := hok
  clear hok
  go_enter Tryd.func3, Tryd.ntmps3
  go_wp2_with fail
  refine (print_one _).mono ?_
  rintro e w1 ⟨rfl, hb1⟩
  have B1 := keepBox hb1 (box_new w a b c d)
  have D1 := chain hb1 ((Below.refl w.heap.size w).alloc (Nat.le_refl _) _)
  clear hb1
  have B1d := B1.drew
  obtain ⟨z1, ⟨q10, q11, q12, q13⟩, -⟩ := id B1
  go_wp2_with fail
  have C1 : Below w1.heap.size w1 w1.drew := (Below.refl _ _).drew
  go_cut [33] (fun v wx => v = .bool false ∧ Below w1.heap.size w1 wx)
  case first =>
    go_region_with (go_at_call 5; refine (flip_any _ _ _ _ _).mono ?_; rintro e w2 ⟨rfl, hb2⟩; have B2 := keepBox hb2 (by assumption); have C2 := chain (W0 := w1) hb2 (by assumption); obtain ⟨z2, ⟨q20, q21, q22, q23⟩, -⟩ := id B2)
    all_goals
      go_wp2_with fail
      go_meet
      exact ⟨rfl, by assumption⟩
  case rest =>
    obtain ⟨rfl, hb2⟩ := hcut
    have B2 := keepBox hb2 B1
    have D2 := chain hb2 D1
    clear z1 q10 q11 q12 q13 B1d B1 C1 hb2 D1
    obtain ⟨z1, ⟨q10, q11, q12, q13⟩, -⟩ := id B2
    go_wp2_with fail
    refine (kc.out _).mono ?_
    rintro e w3 ⟨rfl, hb3⟩
    have B3 := keepBox hb3 B2
    have D3 := chain hb3 D2
    clear z1 q10 q11 q12 q13 B2 D2 hb3
    go_wp2_with fail
    refine (ko.out _).mono ?_
    rintro e w4 ⟨rfl, hb4⟩
    have B4 := keepBox hb4 B3
    have D4 := chain hb4 D3
    clear B3 D3 hb4
    obtain ⟨z1, ⟨q10, q11, q12, q13⟩, -⟩ := id B4
    go_wp2_with fail
    refine (kl.out _).mono ?_
    rintro e w5 ⟨rfl, hb5⟩
    have B5 := keepBox hb5 (allocBox B4 _)
    have Q5 := keepBox hb5 (box_new w4 a b c d)
    have D5 := chain hb5 (D4.alloc D4.size _)
    clear z1 q10 q11 q12 q13 B4 D4 hb5
    go_wp2_with fail
    refine (ka.out _).mono ?_
    rintro e w6 ⟨rfl, hb6⟩
    have B6 := keepBox hb6 B5
    have Q6 := keepBox hb6 Q5
    have D6 := chain hb6 D5
    clear B5 Q5 D5 hb6
    have B7 := allocBox B6 (.cells #[.int .i64 a, .int .i64 b, .int .i64 c, .int .i64 d] 23)
    have D7 := D6.alloc D6.size (.cells #[.int .i64 a, .int .i64 b, .int .i64 c, .int .i64 d] 23)
    obtain ⟨z1, ⟨q10, q11, q12, q13⟩, -⟩ := id B6
    obtain ⟨z2, ⟨q20, q21, q22, q23⟩, -⟩ := id Q6
    go_wp2_with fail
    refine (kp.out _).mono ?_
    rintro e w8 ⟨rfl, hb8⟩
    have B8 := keepBox hb8 B7
    have D8 := chain hb8 D7
    clear B7 D7 B6 D6 Q6 hb8 z1 q10 q11 q12 q13 z2 q20 q21 q22 q23
    obtain ⟨z4, ⟨q40, q41, q42, q43⟩, f40, f41, f42, f43⟩ := id B8
    go_wp2_with fail
    refine (kt.out _).mono ?_
    rintro e w9 ⟨rfl, hb9⟩
    have D9 := chain hb9 (below_set4 D8 (Nat.le_refl _) _ _ _ _)
    rcases HK.out with ⟨rfl, rfl⟩ | rfl
    all_goals
      go_wp2
      go_ret
      exact ⟨rfl, D9⟩

/-- The text of a packet is the text. -/
theorem back_any (a b c d : Int) (s : ByteArray) (w : World) (hs : s.size ≤ maxLen) :
    Calls Tryd.prog 3 #[pk a b c d, .string s] w fun e w' => e = .returned (.bool true) ∧ Below w.heap.size w w' := by
  have main : ∃ x y z u er : Int, ∃ t : ByteArray,
      (∀ w, Calls Tryd.prog 8 #[.string s] w fun e w' => e = .returned (.tuple #[pk x y z u, .int .i64 er]) ∧ Below w.heap.size w w') ∧
      (∀ w, Calls Tryd.prog 4 #[pk x y z u] w fun e w' => e = .returned (.tuple #[.string t, .int .i64 0]) ∧ Below w.heap.size w w') ∧
      (er = 0 ∧ t = s ∨ er = 3) := by
    have kp := fun w => parse_any s w hs
    cases h : Pk.pkt s.data.toList with
    | none =>
      rw [h] at kp
      exact ⟨0, 0, 0, 0, 3, _, kp, print_nought, Or.inr rfl⟩
    | some q =>
      obtain ⟨x, y, z, u⟩ := q
      rw [h] at kp
      obtain ⟨h1, h2, h3, h4, h5⟩ := Pk.txt_pkt _ x y z u h
      refine ⟨x, y, z, u, 0, ⟨(Pk.txt x y z u).toArray⟩, kp, fun w => print_yes x y z u w h1 h2 h3 h4, Or.inl ⟨rfl, ?_⟩⟩
      rw [h5]
  obtain ⟨x, y, z, u, er, t, kp, kt, hok⟩ := main
  by_cases hr : (0 ≤ a ∧ a < 16) ∧ (0 ≤ b ∧ b < 16) ∧ (0 ≤ c ∧ c < 8) ∧ (0 ≤ d ∧ d < 8)
  · have hr2 := hr
    obtain ⟨⟨a0, a1⟩, ⟨b0, b1⟩, ⟨c0, c1⟩, ⟨d0, d1⟩⟩ := hr2
    obtain ⟨a, rfl⟩ := Int.eq_ofNat_of_zero_le a0
    obtain ⟨b, rfl⟩ := Int.eq_ofNat_of_zero_le b0
    obtain ⟨c, rfl⟩ := Int.eq_ofNat_of_zero_le c0
    obtain ⟨d, rfl⟩ := Int.eq_ofNat_of_zero_le d0
    have ko : ∀ w, Calls Tryd.prog 7 #[.int .i64 ((a : Int) * 1024 + b * 64 + c * 8 + d)] w fun e w' => e = .returned (.tuple #[pk a b c d, .int .i64 0]) ∧ Below w.heap.size w w' := by
      intro w
      have k := of_yes ((a : Int) * 1024 + b * 64 + c * 8 + d) w (by omega) (by omega)
      rw [show ((a : Int) * 1024 + b * 64 + c * 8 + d) / 1024 = a by omega, show ((a : Int) * 1024 + b * 64 + c * 8 + d) / 64 % 16 = b by omega, show ((a : Int) * 1024 + b * 64 + c * 8 + d) / 8 % 8 = c by omega, show ((a : Int) * 1024 + b * 64 + c * 8 + d) % 8 = d by omega] at k
      exact k
    have ka : ∀ w, Calls Tryd.prog 8 #[.string ⟨(Pk.txt a b c d).toArray⟩] w fun e w' => e = .returned (.tuple #[pk a b c d, .int .i64 0]) ∧ Below w.heap.size w w' := by
      intro w
      have k := parse_any ⟨(Pk.txt a b c d).toArray⟩ w (by
        rw [mk_size]
        have := Pk.txt_len a b c d
        unfold maxLen
        omega)
      rw [mk_list, Pk.pkt_txt a b c d (by omega) (by omega) (by omega) (by omega)] at k
      exact k
    exact back_right a b c d _ x y z u er s t _ w (fun w => code_yes a b c d w hr) ko (fun w => print_yes a b c d w (by omega) (by omega) (by omega) (by omega)) ka kp kt hok
  · exact back_wrong a b c d x y z u er s t w hr kp kt hok
end Go.Proofs.YtaceockdiicpaacDoor
