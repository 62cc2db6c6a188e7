/-
  PacketSays at a packet that is none, with a code that is none: it returns true.
-/
import Derived.Test.YtaceockdiicpaaaDoorSays0
namespace Go.Proofs.YtaceockdiicpaaaDoor
open Go.RowKit

set_option maxHeartbeats 4000000 in
set_option maxRecDepth 100000 in
theorem says_wrong_out (a b c d code n er q0 q1 q2 q3 fr x0 x1 x2 x3 jr : Int) (s t : ByteArray) (w : World)
    (her : er = 1) (hn0 : n = 0) (ht0 : t = ⟨#[]⟩)
    (kri : Hid (∀ w, Calls Tryd.prog 5 #[pk a b c d] w fun e w' => e = .returned (.bool false) ∧ Below w.heap.size w w'))
    (hfr : fr = 1) (hq : q0 = 0 ∧ q1 = 0 ∧ q2 = 0 ∧ q3 = 0) (hcb : (decide (0 ≤ code) && decide (code < 16384)) = false)
    (kch : Hid (∀ w, Calls Tryd.prog 14 #[pk a b c d] w fun e w' => e = .returned (.int .i64 er) ∧ Below w.heap.size w w'))
    (kco : Hid (∀ w, Calls Tryd.prog 9 #[pk a b c d] w fun e w' => e = .returned (.tuple #[.int .i64 n, .int .i64 er]) ∧ Below w.heap.size w w'))
    (kof : Hid (∀ w, Calls Tryd.prog 10 #[.int .i64 code] w fun e w' => e = .returned (.tuple #[pk q0 q1 q2 q3, .int .i64 fr]) ∧ Below w.heap.size w w'))
    (kpr : Hid (∀ w, Calls Tryd.prog 11 #[pk a b c d] w fun e w' => e = .returned (.tuple #[.string t, .int .i64 er]) ∧ Below w.heap.size w w'))
    (kpa : Hid (∀ w, Calls Tryd.prog 12 #[.string s] w fun e w' => e = .returned (.tuple #[pk x0 x1 x2 x3, .int .i64 jr]) ∧ Below w.heap.size w w'))
    (kre : Hid (∀ w, Calls Tryd.prog 13 #[.string s] w fun e w' => e = .returned (.tuple #[pk x0 x1 x2 x3, .int .i64 jr]) ∧ Below w.heap.size w w')) :
    Calls Tryd.prog 3 #[pk a b c d, .int .i64 code, .string s] w fun e w' => e = .returned (.bool true) ∧ Below w.heap.size w w' := by
  subst her hfr
  subst hn0 ht0
  obtain ⟨rfl, rfl, rfl, rfl⟩ := hq
  have HC : Hid ((decide (0 ≤ code) && decide (code < 16384)) = false) := hcb
  clear hcb
  go_enter Tryd.func3, Tryd.ntmps3
  go_wp2_with fail
  refine (kri.out _).mono ?_
  rintro e w1 ⟨rfl, hb1⟩
  have B1 := keepBox hb1 (box_new w a b c d)
  have D1 := chain hb1 ((Below.refl w.heap.size w).alloc (Nat.le_refl _) _)
  clear hb1
  have B2 := B1
  have D2 := D1
  clear B1 D1 kri
  have P5 := allocBox B2 (.cells #[.int .i64 0, .int .i64 0, .int .i64 0, .int .i64 0] 23)
  have Q5 := box_new w1 0 0 0 0
  have D5 := Below.alloc' D2 (.cells #[.int .i64 0, .int .i64 0, .int .i64 0, .int .i64 0] 23)
  obtain ⟨z5, ⟨q50, q51, q52, q53⟩, -⟩ := id P5
  clear B2 D2
  rcases (show code < 0 ∨ (0 ≤ code ∧ 16384 ≤ code) by have := HC.out; simp at this; omega) with hcc | ⟨hcc, hcd⟩
  all_goals
    clear HC
    go_wp2_with fail
    refine (kco.out _).mono ?_
    rintro e w6 ⟨rfl, hb6⟩
    have P6 := keepBox hb6 P5
    have Q6 := keepBox hb6 Q5
    have D6 := chain hb6 D5
    clear P5 Q5 D5 hb6 z5 q50 q51 q52 q53  kco
    go_wp2_with fail
    refine (kof.out _).mono ?_
    rintro e w7 ⟨rfl, hb7⟩
    have P7 := keepBox hb7 P6
    have Q7 := keepBox hb7 Q6
    have D7 := chain hb7 D6
    clear P6 Q6 D6 hb7 kof
    have P7a := allocBox P7 (.cells #[.int .i64 0, .int .i64 0, .int .i64 0, .int .i64 0] 23)
    obtain ⟨z5, ⟨q50, q51, q52, q53⟩, -⟩ := id P7a
    go_wp2_with fail
    refine (kpr.out _).mono ?_
    rintro e w8 ⟨rfl, hb8⟩
    have P8 := keepBox hb8 P7a
    have Q8 := keepBox hb8 (allocBox Q7 _)
    have R8 := keepBox hb8 (box_new w7 0 0 0 0)
    have D8 := chain hb8 (Below.alloc' D7 _)
    clear P7 P7a Q7 D7 hb8 z5 q50 q51 q52 q53 kpr
    go_wp2_with fail
    refine (kpa.out _).mono ?_
    rintro e w9 ⟨rfl, hb9⟩
    have P9 := keepBox hb9 P8
    have Q9 := keepBox hb9 Q8
    have R9 := keepBox hb9 R8
    have D9 := chain hb9 D8
    clear P8 Q8 R8 D8 hb9 kpa
    go_wp2_with fail
    refine (kre.out _).mono ?_
    rintro e w10 ⟨rfl, hb10⟩
    have P10 := keepBox hb10 (allocBox P9 _)
    have Q10 := keepBox hb10 (allocBox Q9 _)
    have R10 := keepBox hb10 (allocBox R9 _)
    have S10 := keepBox hb10 (box_new w9 x0 x1 x2 x3)
    have D10 := chain hb10 (Below.alloc' D9 _)
    clear P9 Q9 R9 D9 hb10 kre
    have P11 := (allocBox P10 (.cells #[.int .i64 x0, .int .i64 x1, .int .i64 x2, .int .i64 x3] 23)).drew
    have Q11 := (allocBox Q10 (.cells #[.int .i64 x0, .int .i64 x1, .int .i64 x2, .int .i64 x3] 23)).drew
    have R11 := (allocBox R10 (.cells #[.int .i64 x0, .int .i64 x1, .int .i64 x2, .int .i64 x3] 23)).drew
    have S11 := (allocBox S10 (.cells #[.int .i64 x0, .int .i64 x1, .int .i64 x2, .int .i64 x3] 23)).drew
    have X11 := (box_new w10 x0 x1 x2 x3).drew
    have D11 := (Below.alloc' D10 (.cells #[.int .i64 x0, .int .i64 x1, .int .i64 x2, .int .i64 x3] 23)).drew
    clear P10 Q10 R10 S10 D10
    go_wp2_with fail
    go_region_held3 (fun w' => w'.cell? ⟨w.heap.size, 0, none⟩ = some (.int .i64 a) ∧ w'.cell? ⟨w.heap.size, 1, none⟩ = some (.int .i64 b) ∧ w'.cell? ⟨w.heap.size, 2, none⟩ = some (.int .i64 c) ∧ w'.cell? ⟨w.heap.size, 3, none⟩ = some (.int .i64 d) ∧ w'.cell? ⟨w1.heap.size, 0, none⟩ = some (.int .i64 0) ∧ w'.cell? ⟨w1.heap.size, 1, none⟩ = some (.int .i64 0) ∧ w'.cell? ⟨w1.heap.size, 2, none⟩ = some (.int .i64 0) ∧ w'.cell? ⟨w1.heap.size, 3, none⟩ = some (.int .i64 0) ∧ w'.cell? ⟨w7.heap.size, 0, none⟩ = some (.int .i64 0) ∧ w'.cell? ⟨w7.heap.size, 1, none⟩ = some (.int .i64 0) ∧ w'.cell? ⟨w7.heap.size, 2, none⟩ = some (.int .i64 0) ∧ w'.cell? ⟨w7.heap.size, 3, none⟩ = some (.int .i64 0) ∧ w'.cell? ⟨w9.heap.size, 0, none⟩ = some (.int .i64 x0) ∧ w'.cell? ⟨w9.heap.size, 1, none⟩ = some (.int .i64 x1) ∧ w'.cell? ⟨w9.heap.size, 2, none⟩ = some (.int .i64 x2) ∧ w'.cell? ⟨w9.heap.size, 3, none⟩ = some (.int .i64 x3) ∧ w'.cell? ⟨w10.heap.size, 0, none⟩ = some (.int .i64 x0) ∧ w'.cell? ⟨w10.heap.size, 1, none⟩ = some (.int .i64 x1) ∧ w'.cell? ⟨w10.heap.size, 2, none⟩ = some (.int .i64 x2) ∧ w'.cell? ⟨w10.heap.size, 3, none⟩ = some (.int .i64 x3)) (exact five (by assumption) (by assumption) (by assumption) (by assumption) (by assumption)) (first | (go_at_call 14; refine (kch.out _).mono ?_; rintro e wz ⟨rfl, hbz⟩; have Dz := chain hbz (by assumption); have Pz := keepBox (n := w.heap.size) hbz (by assumption); have Qz := keepBox (n := w1.heap.size) hbz (by assumption); have Rz := keepBox (n := w7.heap.size) hbz (by assumption); have Sz := keepBox (n := w9.heap.size) hbz (by assumption); have Xz := keepBox (n := w10.heap.size) hbz (by assumption)) | (go_at_call 15; refine (flip_any _ _ _ _ _).mono ?_; rintro e wz ⟨rfl, hbz⟩; have Dz := chain hbz (by assumption); have Pz := keepBox (n := w.heap.size) hbz (by assumption); have Qz := keepBox (n := w1.heap.size) hbz (by assumption); have Rz := keepBox (n := w7.heap.size) hbz (by assumption); have Sz := keepBox (n := w9.heap.size) hbz (by assumption); have Xz := keepBox (n := w10.heap.size) hbz (by assumption)) | (go_at_call 16; refine (back_any _ _ _ _ _).mono ?_; rintro e wz ⟨rfl, hbz⟩; have Dz := chain hbz (by assumption); have Pz := keepBox (n := w.heap.size) hbz (by assumption); have Qz := keepBox (n := w1.heap.size) hbz (by assumption); have Rz := keepBox (n := w7.heap.size) hbz (by assumption); have Sz := keepBox (n := w9.heap.size) hbz (by assumption); have Xz := keepBox (n := w10.heap.size) hbz (by assumption)))
    go_wp2
    go_ret
    exact ⟨rfl, by assumption⟩

end Go.Proofs.YtaceockdiicpaaaDoor
