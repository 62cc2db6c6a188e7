/-
  fib.behind, fib.takes, fib.isRoute.
-/
import Derived.Test.YtlmmeppifkigeaaGreatLy
import Derived.Test.YtlmmeppifkigeaaGreatXAI
namespace Go.Proofs.YtlmmeppifkigeaaGreat
open Go.RowKit

theorem Three.cells {w : World} {n : Nat} {a b c : Value} (h : Three w n a b c) : w.cell? ⟨n, 0, none⟩ = some a ∧ w.cell? ⟨n, 1, none⟩ = some b ∧ w.cell? ⟨n, 2, none⟩ = some c := h.2
theorem Three.lt {w : World} {n : Nat} {a b c : Value} (h : Three w n a b c) : n < w.heap.size := h.1
abbrev rtw (v b p : Int) : Value := .agg #[.int .i64 v, .int .i64 b, .int .i64 p]
theorem intBits_andR (a b : Nat) (ha : a < 9223372036854775808) (hb : b < 9223372036854775808) : Go.bits .and .i64 (a : Int) (b : Int) = ((a &&& b : Nat) : Int) := by
  have e1 : BitVec.ofInt 64 (a : Int) = BitVec.ofNat 64 a := by simp
  have e2 : BitVec.ofInt 64 (b : Int) = BitVec.ofNat 64 b := by simp
  have hle : a &&& b ≤ a := Nat.and_le_left
  have hm : (BitVec.ofNat 64 a &&& BitVec.ofNat 64 b).toNat = a &&& b := by
    simp [BitVec.toNat_and, Nat.mod_eq_of_lt (show a < 18446744073709551616 by omega), Nat.mod_eq_of_lt (show b < 18446744073709551616 by omega)]
  show IntKind.i64.wrap ((BitVec.ofInt 64 (a : Int) &&& BitVec.ofInt 64 (b : Int)).toNat : Int) = _
  rw [e1, e2, hm, IntWalk.i64_in _ (by omega)]
/-- The bits behind, as a rest. -/
theorem and_mask (v : Int) (k m : Nat) (h0 : 0 ≤ v) (h1 : v < 16) (hm : m + 1 = 2 ^ k) (hk : m < 16) : (Go.bits .and .i64 v (m : Int) == 0) = decide (v % ((m + 1 : Nat) : Int) = 0) := by
  obtain ⟨n, rfl⟩ : ∃ n : Nat, v = n := ⟨v.toNat, by omega⟩
  rw [intBits_andR n m (by omega) (by omega)]
  have e : m = 2 ^ k - 1 := by omega
  have e2 : n &&& m = n % (m + 1) := by rw [hm, e, Nat.and_two_pow_sub_one_eq_mod]
  rw [e2, Bool.eq_iff_iff]
  simp

theorem behind_0 (v p : Int) (w : World) : Calls Tryz.prog 137 #[rtw v 4 p] w fun e w' => e = .returned (.int .i64 0) ∧ Below w.heap.size w w' := by
  go_enter Tryz.func137, Tryz.ntmps137
  go_wp2_with fail
  go_ret
  exact ⟨rfl, by go_grown⟩
set_option maxHeartbeats 1000000 in
theorem takes_0 (v p d : Int) (w : World) : Calls Tryz.prog 171 #[rtw v 4 p, .int .i64 d] w fun e w' => e = .returned (.bool (takesB ⟨v, 4, p⟩ d)) ∧ Below w.heap.size w w' := by
  have D0 := (Below.al (Below.refl w.heap.size w) (.cells #[.int .i64 v, .int .i64 4, .int .i64 p] 130)).drew
  have T0 := (three_new w (.int .i64 v) (.int .i64 4) (.int .i64 p) 130).drew
  have BE : Hid (∀ w, Calls Tryz.prog 137 #[rtw v 4 p] w fun e w' => e = .returned (.int .i64 0) ∧ Below w.heap.size w w') := fun w => behind_0 v p w
  have E : Hid (takesB ⟨v, 4, p⟩ d = (d / 1 == v / 1)) := by
    show decide (d / 1 = v / 1) = _
    rw [Bool.eq_iff_iff]
    simp
  go_enter Tryz.func171, Tryz.ntmps171
  go_wp2_with fail
  go_region_held3 (fun w' => w'.cell? ⟨w.heap.size, 0, none⟩ = some (.int .i64 v) ∧ w'.cell? ⟨w.heap.size, 1, none⟩ = some (.int .i64 4) ∧ w'.cell? ⟨w.heap.size, 2, none⟩ = some (.int .i64 p)) (exact Three.cells (n := w.heap.size) (by assumption))
    (first | (go_at_call 137; refine (BE.out _).mono ?_; rintro e wz ⟨rfl, hbz⟩; have Dz := chn hbz (by assumption); have Pz := keepThree (n := w.heap.size) hbz (Three.lt (by assumption)) (by assumption); clear hbz))
  go_wp2_with fail
  go_ret
  exact ⟨by rw [E.out]; simp, by assumption⟩

theorem behind_1 (v p : Int) (w : World) : Calls Tryz.prog 137 #[rtw v 3 p] w fun e w' => e = .returned (.int .i64 1) ∧ Below w.heap.size w w' := by
  go_enter Tryz.func137, Tryz.ntmps137
  go_wp2_with fail
  go_ret
  exact ⟨rfl, by go_grown⟩
set_option maxHeartbeats 1000000 in
theorem takes_1 (v p d : Int) (w : World) : Calls Tryz.prog 171 #[rtw v 3 p, .int .i64 d] w fun e w' => e = .returned (.bool (takesB ⟨v, 3, p⟩ d)) ∧ Below w.heap.size w w' := by
  have D0 := (Below.al (Below.refl w.heap.size w) (.cells #[.int .i64 v, .int .i64 3, .int .i64 p] 130)).drew
  have T0 := (three_new w (.int .i64 v) (.int .i64 3) (.int .i64 p) 130).drew
  have BE : Hid (∀ w, Calls Tryz.prog 137 #[rtw v 3 p] w fun e w' => e = .returned (.int .i64 1) ∧ Below w.heap.size w w') := fun w => behind_1 v p w
  have E : Hid (takesB ⟨v, 3, p⟩ d = (d / 2 == v / 2)) := by
    show decide (d / 2 = v / 2) = _
    rw [Bool.eq_iff_iff]
    simp
  go_enter Tryz.func171, Tryz.ntmps171
  go_wp2_with fail
  go_region_held3 (fun w' => w'.cell? ⟨w.heap.size, 0, none⟩ = some (.int .i64 v) ∧ w'.cell? ⟨w.heap.size, 1, none⟩ = some (.int .i64 3) ∧ w'.cell? ⟨w.heap.size, 2, none⟩ = some (.int .i64 p)) (exact Three.cells (n := w.heap.size) (by assumption))
    (first | (go_at_call 137; refine (BE.out _).mono ?_; rintro e wz ⟨rfl, hbz⟩; have Dz := chn hbz (by assumption); have Pz := keepThree (n := w.heap.size) hbz (Three.lt (by assumption)) (by assumption); clear hbz))
  go_wp2_with fail
  go_ret
  exact ⟨by rw [E.out]; simp, by assumption⟩

theorem behind_2 (v p : Int) (w : World) : Calls Tryz.prog 137 #[rtw v 2 p] w fun e w' => e = .returned (.int .i64 2) ∧ Below w.heap.size w w' := by
  go_enter Tryz.func137, Tryz.ntmps137
  go_wp2_with fail
  go_ret
  exact ⟨rfl, by go_grown⟩
set_option maxHeartbeats 1000000 in
theorem takes_2 (v p d : Int) (w : World) : Calls Tryz.prog 171 #[rtw v 2 p, .int .i64 d] w fun e w' => e = .returned (.bool (takesB ⟨v, 2, p⟩ d)) ∧ Below w.heap.size w w' := by
  have D0 := (Below.al (Below.refl w.heap.size w) (.cells #[.int .i64 v, .int .i64 2, .int .i64 p] 130)).drew
  have T0 := (three_new w (.int .i64 v) (.int .i64 2) (.int .i64 p) 130).drew
  have BE : Hid (∀ w, Calls Tryz.prog 137 #[rtw v 2 p] w fun e w' => e = .returned (.int .i64 2) ∧ Below w.heap.size w w') := fun w => behind_2 v p w
  have E : Hid (takesB ⟨v, 2, p⟩ d = (d / 4 == v / 4)) := by
    show decide (d / 4 = v / 4) = _
    rw [Bool.eq_iff_iff]
    simp
  go_enter Tryz.func171, Tryz.ntmps171
  go_wp2_with fail
  go_region_held3 (fun w' => w'.cell? ⟨w.heap.size, 0, none⟩ = some (.int .i64 v) ∧ w'.cell? ⟨w.heap.size, 1, none⟩ = some (.int .i64 2) ∧ w'.cell? ⟨w.heap.size, 2, none⟩ = some (.int .i64 p)) (exact Three.cells (n := w.heap.size) (by assumption))
    (first | (go_at_call 137; refine (BE.out _).mono ?_; rintro e wz ⟨rfl, hbz⟩; have Dz := chn hbz (by assumption); have Pz := keepThree (n := w.heap.size) hbz (Three.lt (by assumption)) (by assumption); clear hbz))
  go_wp2_with fail
  go_ret
  exact ⟨by rw [E.out]; simp, by assumption⟩

theorem behind_3 (v p : Int) (w : World) : Calls Tryz.prog 137 #[rtw v 1 p] w fun e w' => e = .returned (.int .i64 3) ∧ Below w.heap.size w w' := by
  go_enter Tryz.func137, Tryz.ntmps137
  go_wp2_with fail
  go_ret
  exact ⟨rfl, by go_grown⟩
set_option maxHeartbeats 1000000 in
theorem takes_3 (v p d : Int) (w : World) : Calls Tryz.prog 171 #[rtw v 1 p, .int .i64 d] w fun e w' => e = .returned (.bool (takesB ⟨v, 1, p⟩ d)) ∧ Below w.heap.size w w' := by
  have D0 := (Below.al (Below.refl w.heap.size w) (.cells #[.int .i64 v, .int .i64 1, .int .i64 p] 130)).drew
  have T0 := (three_new w (.int .i64 v) (.int .i64 1) (.int .i64 p) 130).drew
  have BE : Hid (∀ w, Calls Tryz.prog 137 #[rtw v 1 p] w fun e w' => e = .returned (.int .i64 3) ∧ Below w.heap.size w w') := fun w => behind_3 v p w
  have E : Hid (takesB ⟨v, 1, p⟩ d = (d / 8 == v / 8)) := by
    show decide (d / 8 = v / 8) = _
    rw [Bool.eq_iff_iff]
    simp
  go_enter Tryz.func171, Tryz.ntmps171
  go_wp2_with fail
  go_region_held3 (fun w' => w'.cell? ⟨w.heap.size, 0, none⟩ = some (.int .i64 v) ∧ w'.cell? ⟨w.heap.size, 1, none⟩ = some (.int .i64 1) ∧ w'.cell? ⟨w.heap.size, 2, none⟩ = some (.int .i64 p)) (exact Three.cells (n := w.heap.size) (by assumption))
    (first | (go_at_call 137; refine (BE.out _).mono ?_; rintro e wz ⟨rfl, hbz⟩; have Dz := chn hbz (by assumption); have Pz := keepThree (n := w.heap.size) hbz (Three.lt (by assumption)) (by assumption); clear hbz))
  go_wp2_with fail
  go_ret
  exact ⟨by rw [E.out]; simp, by assumption⟩

theorem behind_4 (v p : Int) (w : World) : Calls Tryz.prog 137 #[rtw v 0 p] w fun e w' => e = .returned (.int .i64 4) ∧ Below w.heap.size w w' := by
  go_enter Tryz.func137, Tryz.ntmps137
  go_wp2_with fail
  go_ret
  exact ⟨rfl, by go_grown⟩
set_option maxHeartbeats 1000000 in
theorem takes_4 (v p d : Int) (w : World) : Calls Tryz.prog 171 #[rtw v 0 p, .int .i64 d] w fun e w' => e = .returned (.bool (takesB ⟨v, 0, p⟩ d)) ∧ Below w.heap.size w w' := by
  have D0 := (Below.al (Below.refl w.heap.size w) (.cells #[.int .i64 v, .int .i64 0, .int .i64 p] 130)).drew
  have T0 := (three_new w (.int .i64 v) (.int .i64 0) (.int .i64 p) 130).drew
  have BE : Hid (∀ w, Calls Tryz.prog 137 #[rtw v 0 p] w fun e w' => e = .returned (.int .i64 4) ∧ Below w.heap.size w w') := fun w => behind_4 v p w
  have E : Hid (takesB ⟨v, 0, p⟩ d = (d / 16 == v / 16)) := by
    show decide (d / 16 = v / 16) = _
    rw [Bool.eq_iff_iff]
    simp
  go_enter Tryz.func171, Tryz.ntmps171
  go_wp2_with fail
  go_region_held3 (fun w' => w'.cell? ⟨w.heap.size, 0, none⟩ = some (.int .i64 v) ∧ w'.cell? ⟨w.heap.size, 1, none⟩ = some (.int .i64 0) ∧ w'.cell? ⟨w.heap.size, 2, none⟩ = some (.int .i64 p)) (exact Three.cells (n := w.heap.size) (by assumption))
    (first | (go_at_call 137; refine (BE.out _).mono ?_; rintro e wz ⟨rfl, hbz⟩; have Dz := chn hbz (by assumption); have Pz := keepThree (n := w.heap.size) hbz (Three.lt (by assumption)) (by assumption); clear hbz))
  go_wp2_with fail
  go_ret
  exact ⟨by rw [E.out]; simp, by assumption⟩
set_option maxHeartbeats 4000000 in
set_option maxRecDepth 100000 in
theorem isr_a (v b p : Int) (w : World) (h : decide (0 ≤ b) = false) : Calls Tryz.prog 108 #[rtw v b p] w fun e w' => e = .returned (.bool false) ∧ Below w.heap.size w w' := by
  have D0 := (Below.al (Below.refl w.heap.size w) (.cells #[.int .i64 v, .int .i64 b, .int .i64 p] 130)).drew
  have T0 := (three_new w (.int .i64 v) (.int .i64 b) (.int .i64 p) 130).drew
  go_enter Tryz.func108, Tryz.ntmps108
  go_wp2_with fail
  refine wp_region_held_drew (S := (fun w' => w'.cell? ⟨w.heap.size, 0, none⟩ = some (.int .i64 v) ∧ w'.cell? ⟨w.heap.size, 1, none⟩ = some (.int .i64 b) ∧ w'.cell? ⟨w.heap.size, 2, none⟩ = some (.int .i64 p))) (by kernel_rfl) (Three.cells (n := w.heap.size) (by assumption)) (fun hHeld => ?_)
  refine' tk 0 rfl (by kernel_rfl) (fun _ _ _ h => h) (by rfl) (by assumption) ?y1 ?r1
  case y1 => (intro w h; (try dsimp only at h); go_simp; (try with_reducible rfl))
  try simp only [lays]
  refine' tk 1 rfl (by kernel_rfl) (fun _ _ _ h => h) (by rfl) (by assumption) ?y2 ?r2
  case y2 => (intro w h; (try dsimp only at h); go_simp; (try with_reducible rfl))
  try simp only [lays]
  refine' tk 2 rfl (by kernel_rfl) (fun _ _ _ h => h) (by rfl) (by assumption) ?y3 ?r3
  case y3 => (intro w h; (try dsimp only at h); go_simp; (try with_reducible rfl))
  try simp only [lays]
  refine' tk 3 rfl (by kernel_rfl) (fun _ _ _ h => h) (by rfl) (by assumption) ?y4 ?r4
  case y4 => (intro w h; (try dsimp only at h); go_simp; (try with_reducible rfl))
  try simp only [lays]
  refine' tk0 4 rfl (by kernel_rfl) (fun _ _ _ h => h) (by rfl) (by assumption) ?_
  try simp only [lays]
  refine' tk0 5 rfl (by kernel_rfl) (fun _ _ _ h => h) (by rfl) (by assumption) ?_
  try simp only [lays]
  refine' tk0 6 rfl (by kernel_rfl) (fun _ _ _ h => h) (by rfl) (by assumption) ?_
  try simp only [lays]
  refine' tk 7 rfl (by kernel_rfl) (fun _ _ _ h => h) (by rfl) (by assumption) ?y8 ?r8
  case y8 => (intro w h; (try dsimp only at h); go_simp; (try with_reducible rfl))
  try simp only [lays]
  refine' tk 8 rfl (by kernel_rfl) (fun _ _ _ h => h) (by rfl) (by assumption) ?y9 ?r9
  case y9 => (intro w h; (try dsimp only at h); go_simp; (try with_reducible rfl))
  try simp only [lays]
  refine' tk0 9 rfl (by kernel_rfl) (fun _ _ _ h => h) (by rfl) (by assumption) ?_
  try simp only [lays]
  refine' tk0 10 rfl (by kernel_rfl) (fun _ _ _ h => h) (by rfl) (by assumption) ?_
  try simp only [lays]
  refine' tk0 11 rfl (by kernel_rfl) (fun _ _ _ h => h) (by rfl) (by assumption) ?_
  try simp only [lays]
  refine' tk 12 rfl (by kernel_rfl) (fun _ _ _ h => h) (by rfl) (by assumption) ?y13 ?r13
  case y13 => (intro w h; (try dsimp only at h); go_simp; (try with_reducible rfl))
  try simp only [lays]
  refine' tk 13 rfl (by kernel_rfl) (fun _ _ _ h => h) (by rfl) (by assumption) ?y14 ?r14
  case y14 => (intro w h; (try dsimp only at h); go_simp; (try with_reducible rfl))
  try simp only [lays]
  refine' tk0 14 rfl (by kernel_rfl) (fun _ _ _ h => h) (by rfl) (by assumption) ?_
  try simp only [lays]
  refine' tk0 15 rfl (by kernel_rfl) (fun _ _ _ h => h) (by rfl) (by assumption) ?_
  try simp only [lays]
  refine' tk0 16 rfl (by kernel_rfl) (fun _ _ _ h => h) (by rfl) (by assumption) ?_
  try simp only [lays]
  refine' tk 17 rfl (by kernel_rfl) (fun _ _ _ h => h) (by rfl) (by assumption) ?y18 ?r18
  case y18 => (intro w h; (try dsimp only at h); go_simp; (try with_reducible rfl))
  try simp only [lays]
  refine' tk 18 rfl (by kernel_rfl) (fun _ _ _ h => h) (by rfl) (by assumption) ?y19 ?r19
  case y19 => (intro w h; (try dsimp only at h); go_simp; (try with_reducible rfl))
  try simp only [lays]
  refine' tk0 19 rfl (by kernel_rfl) (fun _ _ _ h => h) (by rfl) (by assumption) ?_
  try simp only [lays]
  refine' tk0 20 rfl (by kernel_rfl) (fun _ _ _ h => h) (by rfl) (by assumption) ?_
  try simp only [lays]
  refine' tk0 21 rfl (by kernel_rfl) (fun _ _ _ h => h) (by rfl) (by assumption) ?_
  try simp only [lays]
  refine' tk0 22 rfl (by kernel_rfl) (fun _ _ _ h => h) (by rfl) (by assumption) ?_
  try simp only [lays]
  refine' tk0 23 rfl (by kernel_rfl) (fun _ _ _ h => h) (by rfl) (by assumption) ?_
  try simp only [lays]
  refine' tk0 24 rfl (by kernel_rfl) (fun _ _ _ h => h) (by rfl) (by assumption) ?_
  try simp only [lays]
  refine' tk0 25 rfl (by kernel_rfl) (fun _ _ _ h => h) (by rfl) (by assumption) ?_
  try simp only [lays]
  refine' tk0 26 rfl (by kernel_rfl) (fun _ _ _ h => h) (by rfl) (by assumption) ?_
  try simp only [lays]
  refine' tk 27 rfl (by kernel_rfl) (fun _ _ _ h => h) (by rfl) (by assumption) ?y28 ?r28
  case y28 => (intro w h; (try dsimp only at h); go_simp; (try with_reducible rfl))
  try simp only [lays]
  refine' tk 28 rfl (by kernel_rfl) (fun _ _ _ h => h) (by rfl) (by assumption) ?y29 ?r29
  case y29 => (intro w h; (try dsimp only at h); go_simp; (try with_reducible rfl))
  try simp only [lays]
  refine' tk0 29 rfl (by kernel_rfl) (fun _ _ _ h => h) (by rfl) (by assumption) ?_
  try simp only [lays]
  refine' tk0 30 rfl (by kernel_rfl) (fun _ _ _ h => h) (by rfl) (by assumption) ?_
  try simp only [lays]
  refine' tk0 31 rfl (by kernel_rfl) (fun _ _ _ h => h) (by rfl) (by assumption) ?_
  try simp only [lays]
  refine' tk 32 rfl (by kernel_rfl) (fun _ _ _ h => h) (by rfl) (by assumption) ?y33 ?r33
  case y33 => (intro w h; (try dsimp only at h); go_simp; (try with_reducible rfl))
  try simp only [lays]
  refine' tk 33 rfl (by kernel_rfl) (fun _ _ _ h => h) (by rfl) (by assumption) ?y34 ?r34
  case y34 => (intro w h; (try dsimp only at h); go_simp; (try with_reducible rfl))
  try simp only [lays]
  refine' tk0 34 rfl (by kernel_rfl) (fun _ _ _ h => h) (by rfl) (by assumption) ?_
  try simp only [lays]
  refine' tk0 35 rfl (by kernel_rfl) (fun _ _ _ h => h) (by rfl) (by assumption) ?_
  try simp only [lays]
  refine' tk0 36 rfl (by kernel_rfl) (fun _ _ _ h => h) (by rfl) (by assumption) ?_
  try simp only [lays]
  refine' tk 37 rfl (by kernel_rfl) (fun _ _ _ h => h) (by rfl) (by assumption) ?y38 ?r38
  case y38 => (intro w h; (try dsimp only at h); go_simp; (try with_reducible rfl))
  try simp only [lays]
  refine' tk 38 rfl (by kernel_rfl) (fun _ _ _ h => h) (by rfl) (by assumption) ?y39 ?r39
  case y39 => (intro w h; (try dsimp only at h); go_simp; (try with_reducible rfl))
  try simp only [lays]
  refine wpAnyH_done (by kernel_rfl) ?_ _
  go_wp2
  go_ret
  exact ⟨by simp, by assumption⟩
set_option maxHeartbeats 4000000 in
set_option maxRecDepth 100000 in
theorem isr_b (v b p : Int) (w : World) (h : decide (0 ≤ b) = true) (h1 : decide (b ≤ 4) = false) : Calls Tryz.prog 108 #[rtw v b p] w fun e w' => e = .returned (.bool false) ∧ Below w.heap.size w w' := by
  have D0 := (Below.al (Below.refl w.heap.size w) (.cells #[.int .i64 v, .int .i64 b, .int .i64 p] 130)).drew
  have T0 := (three_new w (.int .i64 v) (.int .i64 b) (.int .i64 p) 130).drew
  go_enter Tryz.func108, Tryz.ntmps108
  go_wp2_with fail
  refine wp_region_held_drew (S := (fun w' => w'.cell? ⟨w.heap.size, 0, none⟩ = some (.int .i64 v) ∧ w'.cell? ⟨w.heap.size, 1, none⟩ = some (.int .i64 b) ∧ w'.cell? ⟨w.heap.size, 2, none⟩ = some (.int .i64 p))) (by kernel_rfl) (Three.cells (n := w.heap.size) (by assumption)) (fun hHeld => ?_)
  refine' tk 0 rfl (by kernel_rfl) (fun _ _ _ h => h) (by rfl) (by assumption) ?y41 ?r41
  case y41 => (intro w h; (try dsimp only at h); go_simp; (try with_reducible rfl))
  try simp only [lays]
  refine' tk 1 rfl (by kernel_rfl) (fun _ _ _ h => h) (by rfl) (by assumption) ?y42 ?r42
  case y42 => (intro w h; (try dsimp only at h); go_simp; (try with_reducible rfl))
  try simp only [lays]
  refine' tk 2 rfl (by kernel_rfl) (fun _ _ _ h => h) (by rfl) (by assumption) ?y43 ?r43
  case y43 => (intro w h; (try dsimp only at h); go_simp; (try with_reducible rfl))
  try simp only [lays]
  refine' tk 3 rfl (by kernel_rfl) (fun _ _ _ h => h) (by rfl) (by assumption) ?y44 ?r44
  case y44 => (intro w h; (try dsimp only at h); go_simp; (try with_reducible rfl))
  try simp only [lays]
  refine' tk 4 rfl (by kernel_rfl) (fun _ _ _ h => h) (by rfl) (by assumption) ?y45 ?r45
  case y45 => (intro w h; (try dsimp only at h); go_simp; (try with_reducible rfl))
  try simp only [lays]
  refine' tk 5 rfl (by kernel_rfl) (fun _ _ _ h => h) (by rfl) (by assumption) ?y46 ?r46
  case y46 => (intro w h; (try dsimp only at h); go_simp; (try with_reducible rfl))
  try simp only [lays]
  refine' tk 6 rfl (by kernel_rfl) (fun _ _ _ h => h) (by rfl) (by assumption) ?y47 ?r47
  case y47 => (intro w h; (try dsimp only at h); go_simp; (try with_reducible rfl))
  try simp only [lays]
  refine' tk 7 rfl (by kernel_rfl) (fun _ _ _ h => h) (by rfl) (by assumption) ?y48 ?r48
  case y48 => (intro w h; (try dsimp only at h); go_simp; (try with_reducible rfl))
  try simp only [lays]
  refine' tk 8 rfl (by kernel_rfl) (fun _ _ _ h => h) (by rfl) (by assumption) ?y49 ?r49
  case y49 => (intro w h; (try dsimp only at h); go_simp; (try with_reducible rfl))
  try simp only [lays]
  refine' tk0 9 rfl (by kernel_rfl) (fun _ _ _ h => h) (by rfl) (by assumption) ?_
  try simp only [lays]
  refine' tk0 10 rfl (by kernel_rfl) (fun _ _ _ h => h) (by rfl) (by assumption) ?_
  try simp only [lays]
  refine' tk0 11 rfl (by kernel_rfl) (fun _ _ _ h => h) (by rfl) (by assumption) ?_
  try simp only [lays]
  refine' tk 12 rfl (by kernel_rfl) (fun _ _ _ h => h) (by rfl) (by assumption) ?y53 ?r53
  case y53 => (intro w h; (try dsimp only at h); go_simp; (try with_reducible rfl))
  try simp only [lays]
  refine' tk 13 rfl (by kernel_rfl) (fun _ _ _ h => h) (by rfl) (by assumption) ?y54 ?r54
  case y54 => (intro w h; (try dsimp only at h); go_simp; (try with_reducible rfl))
  try simp only [lays]
  refine' tk0 14 rfl (by kernel_rfl) (fun _ _ _ h => h) (by rfl) (by assumption) ?_
  try simp only [lays]
  refine' tk0 15 rfl (by kernel_rfl) (fun _ _ _ h => h) (by rfl) (by assumption) ?_
  try simp only [lays]
  refine' tk0 16 rfl (by kernel_rfl) (fun _ _ _ h => h) (by rfl) (by assumption) ?_
  try simp only [lays]
  refine' tk 17 rfl (by kernel_rfl) (fun _ _ _ h => h) (by rfl) (by assumption) ?y58 ?r58
  case y58 => (intro w h; (try dsimp only at h); go_simp; (try with_reducible rfl))
  try simp only [lays]
  refine' tk 18 rfl (by kernel_rfl) (fun _ _ _ h => h) (by rfl) (by assumption) ?y59 ?r59
  case y59 => (intro w h; (try dsimp only at h); go_simp; (try with_reducible rfl))
  try simp only [lays]
  refine' tk0 19 rfl (by kernel_rfl) (fun _ _ _ h => h) (by rfl) (by assumption) ?_
  try simp only [lays]
  refine' tk0 20 rfl (by kernel_rfl) (fun _ _ _ h => h) (by rfl) (by assumption) ?_
  try simp only [lays]
  refine' tk0 21 rfl (by kernel_rfl) (fun _ _ _ h => h) (by rfl) (by assumption) ?_
  try simp only [lays]
  refine' tk0 22 rfl (by kernel_rfl) (fun _ _ _ h => h) (by rfl) (by assumption) ?_
  try simp only [lays]
  refine' tk0 23 rfl (by kernel_rfl) (fun _ _ _ h => h) (by rfl) (by assumption) ?_
  try simp only [lays]
  refine' tk0 24 rfl (by kernel_rfl) (fun _ _ _ h => h) (by rfl) (by assumption) ?_
  try simp only [lays]
  refine' tk0 25 rfl (by kernel_rfl) (fun _ _ _ h => h) (by rfl) (by assumption) ?_
  try simp only [lays]
  refine' tk0 26 rfl (by kernel_rfl) (fun _ _ _ h => h) (by rfl) (by assumption) ?_
  try simp only [lays]
  refine' tk 27 rfl (by kernel_rfl) (fun _ _ _ h => h) (by rfl) (by assumption) ?y68 ?r68
  case y68 => (intro w h; (try dsimp only at h); go_simp; (try with_reducible rfl))
  try simp only [lays]
  refine' tk 28 rfl (by kernel_rfl) (fun _ _ _ h => h) (by rfl) (by assumption) ?y69 ?r69
  case y69 => (intro w h; (try dsimp only at h); go_simp; (try with_reducible rfl))
  try simp only [lays]
  refine' tk0 29 rfl (by kernel_rfl) (fun _ _ _ h => h) (by rfl) (by assumption) ?_
  try simp only [lays]
  refine' tk0 30 rfl (by kernel_rfl) (fun _ _ _ h => h) (by rfl) (by assumption) ?_
  try simp only [lays]
  refine' tk0 31 rfl (by kernel_rfl) (fun _ _ _ h => h) (by rfl) (by assumption) ?_
  try simp only [lays]
  refine' tk 32 rfl (by kernel_rfl) (fun _ _ _ h => h) (by rfl) (by assumption) ?y73 ?r73
  case y73 => (intro w h; (try dsimp only at h); go_simp; (try with_reducible rfl))
  try simp only [lays]
  refine' tk 33 rfl (by kernel_rfl) (fun _ _ _ h => h) (by rfl) (by assumption) ?y74 ?r74
  case y74 => (intro w h; (try dsimp only at h); go_simp; (try with_reducible rfl))
  try simp only [lays]
  refine' tk0 34 rfl (by kernel_rfl) (fun _ _ _ h => h) (by rfl) (by assumption) ?_
  try simp only [lays]
  refine' tk0 35 rfl (by kernel_rfl) (fun _ _ _ h => h) (by rfl) (by assumption) ?_
  try simp only [lays]
  refine' tk0 36 rfl (by kernel_rfl) (fun _ _ _ h => h) (by rfl) (by assumption) ?_
  try simp only [lays]
  refine' tk 37 rfl (by kernel_rfl) (fun _ _ _ h => h) (by rfl) (by assumption) ?y78 ?r78
  case y78 => (intro w h; (try dsimp only at h); go_simp; (try with_reducible rfl))
  try simp only [lays]
  refine' tk 38 rfl (by kernel_rfl) (fun _ _ _ h => h) (by rfl) (by assumption) ?y79 ?r79
  case y79 => (intro w h; (try dsimp only at h); go_simp; (try with_reducible rfl))
  try simp only [lays]
  refine wpAnyH_done (by kernel_rfl) ?_ _
  go_wp2
  go_ret
  exact ⟨by simp, by assumption⟩
set_option maxHeartbeats 4000000 in
set_option maxRecDepth 100000 in
theorem isr_c (v b p : Int) (w : World) (h : decide (0 ≤ b) = true) (h1 : decide (b ≤ 4) = true) (h2 : decide (0 ≤ v) = false) : Calls Tryz.prog 108 #[rtw v b p] w fun e w' => e = .returned (.bool false) ∧ Below w.heap.size w w' := by
  have D0 := (Below.al (Below.refl w.heap.size w) (.cells #[.int .i64 v, .int .i64 b, .int .i64 p] 130)).drew
  have T0 := (three_new w (.int .i64 v) (.int .i64 b) (.int .i64 p) 130).drew
  go_enter Tryz.func108, Tryz.ntmps108
  go_wp2_with fail
  refine wp_region_held_drew (S := (fun w' => w'.cell? ⟨w.heap.size, 0, none⟩ = some (.int .i64 v) ∧ w'.cell? ⟨w.heap.size, 1, none⟩ = some (.int .i64 b) ∧ w'.cell? ⟨w.heap.size, 2, none⟩ = some (.int .i64 p))) (by kernel_rfl) (Three.cells (n := w.heap.size) (by assumption)) (fun hHeld => ?_)
  refine' tk 0 rfl (by kernel_rfl) (fun _ _ _ h => h) (by rfl) (by assumption) ?y81 ?r81
  case y81 => (intro w h; (try dsimp only at h); go_simp; (try with_reducible rfl))
  try simp only [lays]
  refine' tk 1 rfl (by kernel_rfl) (fun _ _ _ h => h) (by rfl) (by assumption) ?y82 ?r82
  case y82 => (intro w h; (try dsimp only at h); go_simp; (try with_reducible rfl))
  try simp only [lays]
  refine' tk 2 rfl (by kernel_rfl) (fun _ _ _ h => h) (by rfl) (by assumption) ?y83 ?r83
  case y83 => (intro w h; (try dsimp only at h); go_simp; (try with_reducible rfl))
  try simp only [lays]
  refine' tk 3 rfl (by kernel_rfl) (fun _ _ _ h => h) (by rfl) (by assumption) ?y84 ?r84
  case y84 => (intro w h; (try dsimp only at h); go_simp; (try with_reducible rfl))
  try simp only [lays]
  refine' tk 4 rfl (by kernel_rfl) (fun _ _ _ h => h) (by rfl) (by assumption) ?y85 ?r85
  case y85 => (intro w h; (try dsimp only at h); go_simp; (try with_reducible rfl))
  try simp only [lays]
  refine' tk 5 rfl (by kernel_rfl) (fun _ _ _ h => h) (by rfl) (by assumption) ?y86 ?r86
  case y86 => (intro w h; (try dsimp only at h); go_simp; (try with_reducible rfl))
  try simp only [lays]
  refine' tk 6 rfl (by kernel_rfl) (fun _ _ _ h => h) (by rfl) (by assumption) ?y87 ?r87
  case y87 => (intro w h; (try dsimp only at h); go_simp; (try with_reducible rfl))
  try simp only [lays]
  refine' tk 7 rfl (by kernel_rfl) (fun _ _ _ h => h) (by rfl) (by assumption) ?y88 ?r88
  case y88 => (intro w h; (try dsimp only at h); go_simp; (try with_reducible rfl))
  try simp only [lays]
  refine' tk 8 rfl (by kernel_rfl) (fun _ _ _ h => h) (by rfl) (by assumption) ?y89 ?r89
  case y89 => (intro w h; (try dsimp only at h); go_simp; (try with_reducible rfl))
  try simp only [lays]
  refine' tk 9 rfl (by kernel_rfl) (fun _ _ _ h => h) (by rfl) (by assumption) ?y90 ?r90
  case y90 => (intro w h; (try dsimp only at h); go_simp; (try with_reducible rfl))
  try simp only [lays]
  refine' tk 10 rfl (by kernel_rfl) (fun _ _ _ h => h) (by rfl) (by assumption) ?y91 ?r91
  case y91 => (intro w h; (try dsimp only at h); go_simp; (try with_reducible rfl))
  try simp only [lays]
  refine' tk 11 rfl (by kernel_rfl) (fun _ _ _ h => h) (by rfl) (by assumption) ?y92 ?r92
  case y92 => (intro w h; (try dsimp only at h); go_simp; (try with_reducible rfl))
  try simp only [lays]
  refine' tk 12 rfl (by kernel_rfl) (fun _ _ _ h => h) (by rfl) (by assumption) ?y93 ?r93
  case y93 => (intro w h; (try dsimp only at h); go_simp; (try with_reducible rfl))
  try simp only [lays]
  refine' tk 13 rfl (by kernel_rfl) (fun _ _ _ h => h) (by rfl) (by assumption) ?y94 ?r94
  case y94 => (intro w h; (try dsimp only at h); go_simp; (try with_reducible rfl))
  try simp only [lays]
  refine' tk0 14 rfl (by kernel_rfl) (fun _ _ _ h => h) (by rfl) (by assumption) ?_
  try simp only [lays]
  refine' tk0 15 rfl (by kernel_rfl) (fun _ _ _ h => h) (by rfl) (by assumption) ?_
  try simp only [lays]
  refine' tk0 16 rfl (by kernel_rfl) (fun _ _ _ h => h) (by rfl) (by assumption) ?_
  try simp only [lays]
  refine' tk 17 rfl (by kernel_rfl) (fun _ _ _ h => h) (by rfl) (by assumption) ?y98 ?r98
  case y98 => (intro w h; (try dsimp only at h); go_simp; (try with_reducible rfl))
  try simp only [lays]
  refine' tk 18 rfl (by kernel_rfl) (fun _ _ _ h => h) (by rfl) (by assumption) ?y99 ?r99
  case y99 => (intro w h; (try dsimp only at h); go_simp; (try with_reducible rfl))
  try simp only [lays]
  refine' tk0 19 rfl (by kernel_rfl) (fun _ _ _ h => h) (by rfl) (by assumption) ?_
  try simp only [lays]
  refine' tk0 20 rfl (by kernel_rfl) (fun _ _ _ h => h) (by rfl) (by assumption) ?_
  try simp only [lays]
  refine' tk0 21 rfl (by kernel_rfl) (fun _ _ _ h => h) (by rfl) (by assumption) ?_
  try simp only [lays]
  refine' tk0 22 rfl (by kernel_rfl) (fun _ _ _ h => h) (by rfl) (by assumption) ?_
  try simp only [lays]
  refine' tk0 23 rfl (by kernel_rfl) (fun _ _ _ h => h) (by rfl) (by assumption) ?_
  try simp only [lays]
  refine' tk0 24 rfl (by kernel_rfl) (fun _ _ _ h => h) (by rfl) (by assumption) ?_
  try simp only [lays]
  refine' tk0 25 rfl (by kernel_rfl) (fun _ _ _ h => h) (by rfl) (by assumption) ?_
  try simp only [lays]
  refine' tk0 26 rfl (by kernel_rfl) (fun _ _ _ h => h) (by rfl) (by assumption) ?_
  try simp only [lays]
  refine' tk 27 rfl (by kernel_rfl) (fun _ _ _ h => h) (by rfl) (by assumption) ?y108 ?r108
  case y108 => (intro w h; (try dsimp only at h); go_simp; (try with_reducible rfl))
  try simp only [lays]
  refine' tk 28 rfl (by kernel_rfl) (fun _ _ _ h => h) (by rfl) (by assumption) ?y109 ?r109
  case y109 => (intro w h; (try dsimp only at h); go_simp; (try with_reducible rfl))
  try simp only [lays]
  refine' tk0 29 rfl (by kernel_rfl) (fun _ _ _ h => h) (by rfl) (by assumption) ?_
  try simp only [lays]
  refine' tk0 30 rfl (by kernel_rfl) (fun _ _ _ h => h) (by rfl) (by assumption) ?_
  try simp only [lays]
  refine' tk0 31 rfl (by kernel_rfl) (fun _ _ _ h => h) (by rfl) (by assumption) ?_
  try simp only [lays]
  refine' tk 32 rfl (by kernel_rfl) (fun _ _ _ h => h) (by rfl) (by assumption) ?y113 ?r113
  case y113 => (intro w h; (try dsimp only at h); go_simp; (try with_reducible rfl))
  try simp only [lays]
  refine' tk 33 rfl (by kernel_rfl) (fun _ _ _ h => h) (by rfl) (by assumption) ?y114 ?r114
  case y114 => (intro w h; (try dsimp only at h); go_simp; (try with_reducible rfl))
  try simp only [lays]
  refine' tk0 34 rfl (by kernel_rfl) (fun _ _ _ h => h) (by rfl) (by assumption) ?_
  try simp only [lays]
  refine' tk0 35 rfl (by kernel_rfl) (fun _ _ _ h => h) (by rfl) (by assumption) ?_
  try simp only [lays]
  refine' tk0 36 rfl (by kernel_rfl) (fun _ _ _ h => h) (by rfl) (by assumption) ?_
  try simp only [lays]
  refine' tk 37 rfl (by kernel_rfl) (fun _ _ _ h => h) (by rfl) (by assumption) ?y118 ?r118
  case y118 => (intro w h; (try dsimp only at h); go_simp; (try with_reducible rfl))
  try simp only [lays]
  refine' tk 38 rfl (by kernel_rfl) (fun _ _ _ h => h) (by rfl) (by assumption) ?y119 ?r119
  case y119 => (intro w h; (try dsimp only at h); go_simp; (try with_reducible rfl))
  try simp only [lays]
  refine wpAnyH_done (by kernel_rfl) ?_ _
  go_wp2
  go_ret
  exact ⟨by simp, by assumption⟩
set_option maxHeartbeats 4000000 in
set_option maxRecDepth 100000 in
theorem isr_d (v b p : Int) (w : World) (h : decide (0 ≤ b) = true) (h1 : decide (b ≤ 4) = true) (h2 : decide (0 ≤ v) = true) (h3 : decide (v < 16) = false) : Calls Tryz.prog 108 #[rtw v b p] w fun e w' => e = .returned (.bool false) ∧ Below w.heap.size w w' := by
  have D0 := (Below.al (Below.refl w.heap.size w) (.cells #[.int .i64 v, .int .i64 b, .int .i64 p] 130)).drew
  have T0 := (three_new w (.int .i64 v) (.int .i64 b) (.int .i64 p) 130).drew
  go_enter Tryz.func108, Tryz.ntmps108
  go_wp2_with fail
  refine wp_region_held_drew (S := (fun w' => w'.cell? ⟨w.heap.size, 0, none⟩ = some (.int .i64 v) ∧ w'.cell? ⟨w.heap.size, 1, none⟩ = some (.int .i64 b) ∧ w'.cell? ⟨w.heap.size, 2, none⟩ = some (.int .i64 p))) (by kernel_rfl) (Three.cells (n := w.heap.size) (by assumption)) (fun hHeld => ?_)
  refine' tk 0 rfl (by kernel_rfl) (fun _ _ _ h => h) (by rfl) (by assumption) ?y121 ?r121
  case y121 => (intro w h; (try dsimp only at h); go_simp; (try with_reducible rfl))
  try simp only [lays]
  refine' tk 1 rfl (by kernel_rfl) (fun _ _ _ h => h) (by rfl) (by assumption) ?y122 ?r122
  case y122 => (intro w h; (try dsimp only at h); go_simp; (try with_reducible rfl))
  try simp only [lays]
  refine' tk 2 rfl (by kernel_rfl) (fun _ _ _ h => h) (by rfl) (by assumption) ?y123 ?r123
  case y123 => (intro w h; (try dsimp only at h); go_simp; (try with_reducible rfl))
  try simp only [lays]
  refine' tk 3 rfl (by kernel_rfl) (fun _ _ _ h => h) (by rfl) (by assumption) ?y124 ?r124
  case y124 => (intro w h; (try dsimp only at h); go_simp; (try with_reducible rfl))
  try simp only [lays]
  refine' tk 4 rfl (by kernel_rfl) (fun _ _ _ h => h) (by rfl) (by assumption) ?y125 ?r125
  case y125 => (intro w h; (try dsimp only at h); go_simp; (try with_reducible rfl))
  try simp only [lays]
  refine' tk 5 rfl (by kernel_rfl) (fun _ _ _ h => h) (by rfl) (by assumption) ?y126 ?r126
  case y126 => (intro w h; (try dsimp only at h); go_simp; (try with_reducible rfl))
  try simp only [lays]
  refine' tk 6 rfl (by kernel_rfl) (fun _ _ _ h => h) (by rfl) (by assumption) ?y127 ?r127
  case y127 => (intro w h; (try dsimp only at h); go_simp; (try with_reducible rfl))
  try simp only [lays]
  refine' tk 7 rfl (by kernel_rfl) (fun _ _ _ h => h) (by rfl) (by assumption) ?y128 ?r128
  case y128 => (intro w h; (try dsimp only at h); go_simp; (try with_reducible rfl))
  try simp only [lays]
  refine' tk 8 rfl (by kernel_rfl) (fun _ _ _ h => h) (by rfl) (by assumption) ?y129 ?r129
  case y129 => (intro w h; (try dsimp only at h); go_simp; (try with_reducible rfl))
  try simp only [lays]
  refine' tk 9 rfl (by kernel_rfl) (fun _ _ _ h => h) (by rfl) (by assumption) ?y130 ?r130
  case y130 => (intro w h; (try dsimp only at h); go_simp; (try with_reducible rfl))
  try simp only [lays]
  refine' tk 10 rfl (by kernel_rfl) (fun _ _ _ h => h) (by rfl) (by assumption) ?y131 ?r131
  case y131 => (intro w h; (try dsimp only at h); go_simp; (try with_reducible rfl))
  try simp only [lays]
  refine' tk 11 rfl (by kernel_rfl) (fun _ _ _ h => h) (by rfl) (by assumption) ?y132 ?r132
  case y132 => (intro w h; (try dsimp only at h); go_simp; (try with_reducible rfl))
  try simp only [lays]
  refine' tk 12 rfl (by kernel_rfl) (fun _ _ _ h => h) (by rfl) (by assumption) ?y133 ?r133
  case y133 => (intro w h; (try dsimp only at h); go_simp; (try with_reducible rfl))
  try simp only [lays]
  refine' tk 13 rfl (by kernel_rfl) (fun _ _ _ h => h) (by rfl) (by assumption) ?y134 ?r134
  case y134 => (intro w h; (try dsimp only at h); go_simp; (try with_reducible rfl))
  try simp only [lays]
  refine' tk 14 rfl (by kernel_rfl) (fun _ _ _ h => h) (by rfl) (by assumption) ?y135 ?r135
  case y135 => (intro w h; (try dsimp only at h); go_simp; (try with_reducible rfl))
  try simp only [lays]
  refine' tk 15 rfl (by kernel_rfl) (fun _ _ _ h => h) (by rfl) (by assumption) ?y136 ?r136
  case y136 => (intro w h; (try dsimp only at h); go_simp; (try with_reducible rfl))
  try simp only [lays]
  refine' tk 16 rfl (by kernel_rfl) (fun _ _ _ h => h) (by rfl) (by assumption) ?y137 ?r137
  case y137 => (intro w h; (try dsimp only at h); go_simp; (try with_reducible rfl))
  try simp only [lays]
  refine' tk 17 rfl (by kernel_rfl) (fun _ _ _ h => h) (by rfl) (by assumption) ?y138 ?r138
  case y138 => (intro w h; (try dsimp only at h); go_simp; (try with_reducible rfl))
  try simp only [lays]
  refine' tk 18 rfl (by kernel_rfl) (fun _ _ _ h => h) (by rfl) (by assumption) ?y139 ?r139
  case y139 => (intro w h; (try dsimp only at h); go_simp; (try with_reducible rfl))
  try simp only [lays]
  refine' tk0 19 rfl (by kernel_rfl) (fun _ _ _ h => h) (by rfl) (by assumption) ?_
  try simp only [lays]
  refine' tk0 20 rfl (by kernel_rfl) (fun _ _ _ h => h) (by rfl) (by assumption) ?_
  try simp only [lays]
  refine' tk0 21 rfl (by kernel_rfl) (fun _ _ _ h => h) (by rfl) (by assumption) ?_
  try simp only [lays]
  refine' tk0 22 rfl (by kernel_rfl) (fun _ _ _ h => h) (by rfl) (by assumption) ?_
  try simp only [lays]
  refine' tk0 23 rfl (by kernel_rfl) (fun _ _ _ h => h) (by rfl) (by assumption) ?_
  try simp only [lays]
  refine' tk0 24 rfl (by kernel_rfl) (fun _ _ _ h => h) (by rfl) (by assumption) ?_
  try simp only [lays]
  refine' tk0 25 rfl (by kernel_rfl) (fun _ _ _ h => h) (by rfl) (by assumption) ?_
  try simp only [lays]
  refine' tk0 26 rfl (by kernel_rfl) (fun _ _ _ h => h) (by rfl) (by assumption) ?_
  try simp only [lays]
  refine' tk 27 rfl (by kernel_rfl) (fun _ _ _ h => h) (by rfl) (by assumption) ?y148 ?r148
  case y148 => (intro w h; (try dsimp only at h); go_simp; (try with_reducible rfl))
  try simp only [lays]
  refine' tk 28 rfl (by kernel_rfl) (fun _ _ _ h => h) (by rfl) (by assumption) ?y149 ?r149
  case y149 => (intro w h; (try dsimp only at h); go_simp; (try with_reducible rfl))
  try simp only [lays]
  refine' tk0 29 rfl (by kernel_rfl) (fun _ _ _ h => h) (by rfl) (by assumption) ?_
  try simp only [lays]
  refine' tk0 30 rfl (by kernel_rfl) (fun _ _ _ h => h) (by rfl) (by assumption) ?_
  try simp only [lays]
  refine' tk0 31 rfl (by kernel_rfl) (fun _ _ _ h => h) (by rfl) (by assumption) ?_
  try simp only [lays]
  refine' tk 32 rfl (by kernel_rfl) (fun _ _ _ h => h) (by rfl) (by assumption) ?y153 ?r153
  case y153 => (intro w h; (try dsimp only at h); go_simp; (try with_reducible rfl))
  try simp only [lays]
  refine' tk 33 rfl (by kernel_rfl) (fun _ _ _ h => h) (by rfl) (by assumption) ?y154 ?r154
  case y154 => (intro w h; (try dsimp only at h); go_simp; (try with_reducible rfl))
  try simp only [lays]
  refine' tk0 34 rfl (by kernel_rfl) (fun _ _ _ h => h) (by rfl) (by assumption) ?_
  try simp only [lays]
  refine' tk0 35 rfl (by kernel_rfl) (fun _ _ _ h => h) (by rfl) (by assumption) ?_
  try simp only [lays]
  refine' tk0 36 rfl (by kernel_rfl) (fun _ _ _ h => h) (by rfl) (by assumption) ?_
  try simp only [lays]
  refine' tk 37 rfl (by kernel_rfl) (fun _ _ _ h => h) (by rfl) (by assumption) ?y158 ?r158
  case y158 => (intro w h; (try dsimp only at h); go_simp; (try with_reducible rfl))
  try simp only [lays]
  refine' tk 38 rfl (by kernel_rfl) (fun _ _ _ h => h) (by rfl) (by assumption) ?y159 ?r159
  case y159 => (intro w h; (try dsimp only at h); go_simp; (try with_reducible rfl))
  try simp only [lays]
  refine wpAnyH_done (by kernel_rfl) ?_ _
  go_wp2
  go_ret
  exact ⟨by simp, by assumption⟩
set_option maxHeartbeats 4000000 in
set_option maxRecDepth 100000 in
theorem isr_e0 (v p : Int) (w : World) (h2 : decide (0 ≤ v) = true) (h3 : decide (v < 16) = true) (h4 : (Go.bits .and .i64 v (IntKind.i64.wrap (IntKind.i64.wrap 1 - 1)) == 0) = false) : Calls Tryz.prog 108 #[rtw v 4 p] w fun e w' => e = .returned (.bool false) ∧ Below w.heap.size w w' := by
  have D0 := (Below.al (Below.refl w.heap.size w) (.cells #[.int .i64 v, .int .i64 4, .int .i64 p] 130)).drew
  have T0 := (three_new w (.int .i64 v) (.int .i64 4) (.int .i64 p) 130).drew
  have BE : Hid (∀ w, Calls Tryz.prog 137 #[rtw v 4 p] w fun e w' => e = .returned (.int .i64 0) ∧ Below w.heap.size w w') := fun w => behind_0 v p w
  go_enter Tryz.func108, Tryz.ntmps108
  go_wp2_with fail
  refine wp_region_held_drew (S := (fun w' => w'.cell? ⟨w.heap.size, 0, none⟩ = some (.int .i64 v) ∧ w'.cell? ⟨w.heap.size, 1, none⟩ = some (.int .i64 4) ∧ w'.cell? ⟨w.heap.size, 2, none⟩ = some (.int .i64 p))) (by kernel_rfl) (Three.cells (n := w.heap.size) (by assumption)) (fun hHeld => ?_)
  refine' tk 0 rfl (by kernel_rfl) (fun _ _ _ h => h) (by rfl) (by assumption) ?y161 ?r161
  case y161 => (intro w h; (try dsimp only at h); go_simp; (try with_reducible rfl))
  try simp only [lays]
  refine' tk 1 rfl (by kernel_rfl) (fun _ _ _ h => h) (by rfl) (by assumption) ?y162 ?r162
  case y162 => (intro w h; (try dsimp only at h); go_simp; (try with_reducible rfl))
  try simp only [lays]
  refine' tk 2 rfl (by kernel_rfl) (fun _ _ _ h => h) (by rfl) (by assumption) ?y163 ?r163
  case y163 => (intro w h; (try dsimp only at h); go_simp; (try with_reducible rfl))
  try simp only [lays]
  refine' tk 3 rfl (by kernel_rfl) (fun _ _ _ h => h) (by rfl) (by assumption) ?y164 ?r164
  case y164 => (intro w h; (try dsimp only at h); go_simp; (try with_reducible rfl))
  try simp only [lays]
  refine' tk 4 rfl (by kernel_rfl) (fun _ _ _ h => h) (by rfl) (by assumption) ?y165 ?r165
  case y165 => (intro w h; (try dsimp only at h); go_simp; (try with_reducible rfl))
  try simp only [lays]
  refine' tk 5 rfl (by kernel_rfl) (fun _ _ _ h => h) (by rfl) (by assumption) ?y166 ?r166
  case y166 => (intro w h; (try dsimp only at h); go_simp; (try with_reducible rfl))
  try simp only [lays]
  refine' tk 6 rfl (by kernel_rfl) (fun _ _ _ h => h) (by rfl) (by assumption) ?y167 ?r167
  case y167 => (intro w h; (try dsimp only at h); go_simp; (try with_reducible rfl))
  try simp only [lays]
  refine' tk 7 rfl (by kernel_rfl) (fun _ _ _ h => h) (by rfl) (by assumption) ?y168 ?r168
  case y168 => (intro w h; (try dsimp only at h); go_simp; (try with_reducible rfl))
  try simp only [lays]
  refine' tk 8 rfl (by kernel_rfl) (fun _ _ _ h => h) (by rfl) (by assumption) ?y169 ?r169
  case y169 => (intro w h; (try dsimp only at h); go_simp; (try with_reducible rfl))
  try simp only [lays]
  refine' tk 9 rfl (by kernel_rfl) (fun _ _ _ h => h) (by rfl) (by assumption) ?y170 ?r170
  case y170 => (intro w h; (try dsimp only at h); go_simp; (try with_reducible rfl))
  try simp only [lays]
  refine' tk 10 rfl (by kernel_rfl) (fun _ _ _ h => h) (by rfl) (by assumption) ?y171 ?r171
  case y171 => (intro w h; (try dsimp only at h); go_simp; (try with_reducible rfl))
  try simp only [lays]
  refine' tk 11 rfl (by kernel_rfl) (fun _ _ _ h => h) (by rfl) (by assumption) ?y172 ?r172
  case y172 => (intro w h; (try dsimp only at h); go_simp; (try with_reducible rfl))
  try simp only [lays]
  refine' tk 12 rfl (by kernel_rfl) (fun _ _ _ h => h) (by rfl) (by assumption) ?y173 ?r173
  case y173 => (intro w h; (try dsimp only at h); go_simp; (try with_reducible rfl))
  try simp only [lays]
  refine' tk 13 rfl (by kernel_rfl) (fun _ _ _ h => h) (by rfl) (by assumption) ?y174 ?r174
  case y174 => (intro w h; (try dsimp only at h); go_simp; (try with_reducible rfl))
  try simp only [lays]
  refine' tk 14 rfl (by kernel_rfl) (fun _ _ _ h => h) (by rfl) (by assumption) ?y175 ?r175
  case y175 => (intro w h; (try dsimp only at h); go_simp; (try with_reducible rfl))
  try simp only [lays]
  refine' tk 15 rfl (by kernel_rfl) (fun _ _ _ h => h) (by rfl) (by assumption) ?y176 ?r176
  case y176 => (intro w h; (try dsimp only at h); go_simp; (try with_reducible rfl))
  try simp only [lays]
  refine' tk 16 rfl (by kernel_rfl) (fun _ _ _ h => h) (by rfl) (by assumption) ?y177 ?r177
  case y177 => (intro w h; (try dsimp only at h); go_simp; (try with_reducible rfl))
  try simp only [lays]
  refine' tk 17 rfl (by kernel_rfl) (fun _ _ _ h => h) (by rfl) (by assumption) ?y178 ?r178
  case y178 => (intro w h; (try dsimp only at h); go_simp; (try with_reducible rfl))
  try simp only [lays]
  refine' tk 18 rfl (by kernel_rfl) (fun _ _ _ h => h) (by rfl) (by assumption) ?y179 ?r179
  case y179 => (intro w h; (try dsimp only at h); go_simp; (try with_reducible rfl))
  try simp only [lays]
  refine' tk 19 rfl (by kernel_rfl) (fun _ _ _ h => h) (by rfl) (by assumption) ?y180 ?r180
  case y180 => (intro w h; (try dsimp only at h); go_simp; (try with_reducible rfl))
  try simp only [lays]
  refine' tk 20 rfl (by kernel_rfl) (fun _ _ _ h => h) (by rfl) (by assumption) ?y181 ?r181
  case y181 => (intro w h; (try dsimp only at h); go_simp; (try with_reducible rfl))
  try simp only [lays]
  refine' tk 21 rfl (by kernel_rfl) (fun _ _ _ h => h) (by rfl) (by assumption) ?y182 ?r182
  case y182 => (intro w h; (try dsimp only at h); go_simp; (try with_reducible rfl))
  try simp only [lays]
  refine wpAnyH_ready (rs := [22]) (by kernel_rfl) (by simp) (AllReadyH.cons rfl (fun K hK => ?_) AllReadyH.nil)
  go_simp
  refine (BE.out _).mono ?_; rintro e wz ⟨rfl, hbz⟩; have Dz := chn hbz (by assumption); have Pz := keepThree (n := w.heap.size) hbz (Three.lt (by assumption)) (by assumption); clear hbz
  try go_wp2_with fail
  clear hHeld
  refine hK.out _ _ (Three.cells (n := w.heap.size) (by assumption)) (fun hHeld => ?_)
  clear hK K
  try simp only [lays]
  refine' tk 23 rfl (by kernel_rfl) (fun _ _ _ h => h) (by rfl) (by assumption) ?y184 ?r184
  case y184 => (intro w h; (try dsimp only at h); go_simp; (try with_reducible rfl))
  try simp only [lays]
  refine' tk 24 rfl (by kernel_rfl) (fun _ _ _ h => h) (by rfl) (by assumption) ?y185 ?r185
  case y185 => (intro w h; (try dsimp only at h); go_simp; (try with_reducible rfl))
  try simp only [lays]
  refine' tk 25 rfl (by kernel_rfl) (fun _ _ _ h => h) (by rfl) (by assumption) ?y186 ?r186
  case y186 => (intro w h; (try dsimp only at h); go_simp; (try with_reducible rfl))
  try simp only [lays]
  refine' tk 26 rfl (by kernel_rfl) (fun _ _ _ h => h) (by rfl) (by assumption) ?y187 ?r187
  case y187 => (intro w h; (try dsimp only at h); go_simp; (try with_reducible rfl))
  try simp only [lays]
  refine' tk 27 rfl (by kernel_rfl) (fun _ _ _ h => h) (by rfl) (by assumption) ?y188 ?r188
  case y188 => (intro w h; (try dsimp only at h); go_simp; (try with_reducible rfl))
  try simp only [lays]
  refine' tk 28 rfl (by kernel_rfl) (fun _ _ _ h => h) (by rfl) (by assumption) ?y189 ?r189
  case y189 => (intro w h; (try dsimp only at h); go_simp; (try with_reducible rfl))
  try simp only [lays]
  refine' tk0 29 rfl (by kernel_rfl) (fun _ _ _ h => h) (by rfl) (by assumption) ?_
  try simp only [lays]
  refine' tk0 30 rfl (by kernel_rfl) (fun _ _ _ h => h) (by rfl) (by assumption) ?_
  try simp only [lays]
  refine' tk0 31 rfl (by kernel_rfl) (fun _ _ _ h => h) (by rfl) (by assumption) ?_
  try simp only [lays]
  refine' tk 32 rfl (by kernel_rfl) (fun _ _ _ h => h) (by rfl) (by assumption) ?y193 ?r193
  case y193 => (intro w h; (try dsimp only at h); go_simp; (try with_reducible rfl))
  try simp only [lays]
  refine' tk 33 rfl (by kernel_rfl) (fun _ _ _ h => h) (by rfl) (by assumption) ?y194 ?r194
  case y194 => (intro w h; (try dsimp only at h); go_simp; (try with_reducible rfl))
  try simp only [lays]
  refine' tk0 34 rfl (by kernel_rfl) (fun _ _ _ h => h) (by rfl) (by assumption) ?_
  try simp only [lays]
  refine' tk0 35 rfl (by kernel_rfl) (fun _ _ _ h => h) (by rfl) (by assumption) ?_
  try simp only [lays]
  refine' tk0 36 rfl (by kernel_rfl) (fun _ _ _ h => h) (by rfl) (by assumption) ?_
  try simp only [lays]
  refine' tk 37 rfl (by kernel_rfl) (fun _ _ _ h => h) (by rfl) (by assumption) ?y198 ?r198
  case y198 => (intro w h; (try dsimp only at h); go_simp; (try with_reducible rfl))
  try simp only [lays]
  refine' tk 38 rfl (by kernel_rfl) (fun _ _ _ h => h) (by rfl) (by assumption) ?y199 ?r199
  case y199 => (intro w h; (try dsimp only at h); go_simp; (try with_reducible rfl))
  try simp only [lays]
  refine wpAnyH_done (by kernel_rfl) ?_ _
  go_wp2
  go_ret
  exact ⟨by simp, by assumption⟩
set_option maxHeartbeats 4000000 in
set_option maxRecDepth 100000 in
theorem isr_f0 (v p : Int) (w : World) (h2 : decide (0 ≤ v) = true) (h3 : decide (v < 16) = true) (h4 : (Go.bits .and .i64 v (IntKind.i64.wrap (IntKind.i64.wrap 1 - 1)) == 0) = true) (h5 : decide (0 ≤ p) = false) : Calls Tryz.prog 108 #[rtw v 4 p] w fun e w' => e = .returned (.bool false) ∧ Below w.heap.size w w' := by
  have D0 := (Below.al (Below.refl w.heap.size w) (.cells #[.int .i64 v, .int .i64 4, .int .i64 p] 130)).drew
  have T0 := (three_new w (.int .i64 v) (.int .i64 4) (.int .i64 p) 130).drew
  have BE : Hid (∀ w, Calls Tryz.prog 137 #[rtw v 4 p] w fun e w' => e = .returned (.int .i64 0) ∧ Below w.heap.size w w') := fun w => behind_0 v p w
  go_enter Tryz.func108, Tryz.ntmps108
  go_wp2_with fail
  refine wp_region_held_drew (S := (fun w' => w'.cell? ⟨w.heap.size, 0, none⟩ = some (.int .i64 v) ∧ w'.cell? ⟨w.heap.size, 1, none⟩ = some (.int .i64 4) ∧ w'.cell? ⟨w.heap.size, 2, none⟩ = some (.int .i64 p))) (by kernel_rfl) (Three.cells (n := w.heap.size) (by assumption)) (fun hHeld => ?_)
  refine' tk 0 rfl (by kernel_rfl) (fun _ _ _ h => h) (by rfl) (by assumption) ?y201 ?r201
  case y201 => (intro w h; (try dsimp only at h); go_simp; (try with_reducible rfl))
  try simp only [lays]
  refine' tk 1 rfl (by kernel_rfl) (fun _ _ _ h => h) (by rfl) (by assumption) ?y202 ?r202
  case y202 => (intro w h; (try dsimp only at h); go_simp; (try with_reducible rfl))
  try simp only [lays]
  refine' tk 2 rfl (by kernel_rfl) (fun _ _ _ h => h) (by rfl) (by assumption) ?y203 ?r203
  case y203 => (intro w h; (try dsimp only at h); go_simp; (try with_reducible rfl))
  try simp only [lays]
  refine' tk 3 rfl (by kernel_rfl) (fun _ _ _ h => h) (by rfl) (by assumption) ?y204 ?r204
  case y204 => (intro w h; (try dsimp only at h); go_simp; (try with_reducible rfl))
  try simp only [lays]
  refine' tk 4 rfl (by kernel_rfl) (fun _ _ _ h => h) (by rfl) (by assumption) ?y205 ?r205
  case y205 => (intro w h; (try dsimp only at h); go_simp; (try with_reducible rfl))
  try simp only [lays]
  refine' tk 5 rfl (by kernel_rfl) (fun _ _ _ h => h) (by rfl) (by assumption) ?y206 ?r206
  case y206 => (intro w h; (try dsimp only at h); go_simp; (try with_reducible rfl))
  try simp only [lays]
  refine' tk 6 rfl (by kernel_rfl) (fun _ _ _ h => h) (by rfl) (by assumption) ?y207 ?r207
  case y207 => (intro w h; (try dsimp only at h); go_simp; (try with_reducible rfl))
  try simp only [lays]
  refine' tk 7 rfl (by kernel_rfl) (fun _ _ _ h => h) (by rfl) (by assumption) ?y208 ?r208
  case y208 => (intro w h; (try dsimp only at h); go_simp; (try with_reducible rfl))
  try simp only [lays]
  refine' tk 8 rfl (by kernel_rfl) (fun _ _ _ h => h) (by rfl) (by assumption) ?y209 ?r209
  case y209 => (intro w h; (try dsimp only at h); go_simp; (try with_reducible rfl))
  try simp only [lays]
  refine' tk 9 rfl (by kernel_rfl) (fun _ _ _ h => h) (by rfl) (by assumption) ?y210 ?r210
  case y210 => (intro w h; (try dsimp only at h); go_simp; (try with_reducible rfl))
  try simp only [lays]
  refine' tk 10 rfl (by kernel_rfl) (fun _ _ _ h => h) (by rfl) (by assumption) ?y211 ?r211
  case y211 => (intro w h; (try dsimp only at h); go_simp; (try with_reducible rfl))
  try simp only [lays]
  refine' tk 11 rfl (by kernel_rfl) (fun _ _ _ h => h) (by rfl) (by assumption) ?y212 ?r212
  case y212 => (intro w h; (try dsimp only at h); go_simp; (try with_reducible rfl))
  try simp only [lays]
  refine' tk 12 rfl (by kernel_rfl) (fun _ _ _ h => h) (by rfl) (by assumption) ?y213 ?r213
  case y213 => (intro w h; (try dsimp only at h); go_simp; (try with_reducible rfl))
  try simp only [lays]
  refine' tk 13 rfl (by kernel_rfl) (fun _ _ _ h => h) (by rfl) (by assumption) ?y214 ?r214
  case y214 => (intro w h; (try dsimp only at h); go_simp; (try with_reducible rfl))
  try simp only [lays]
  refine' tk 14 rfl (by kernel_rfl) (fun _ _ _ h => h) (by rfl) (by assumption) ?y215 ?r215
  case y215 => (intro w h; (try dsimp only at h); go_simp; (try with_reducible rfl))
  try simp only [lays]
  refine' tk 15 rfl (by kernel_rfl) (fun _ _ _ h => h) (by rfl) (by assumption) ?y216 ?r216
  case y216 => (intro w h; (try dsimp only at h); go_simp; (try with_reducible rfl))
  try simp only [lays]
  refine' tk 16 rfl (by kernel_rfl) (fun _ _ _ h => h) (by rfl) (by assumption) ?y217 ?r217
  case y217 => (intro w h; (try dsimp only at h); go_simp; (try with_reducible rfl))
  try simp only [lays]
  refine' tk 17 rfl (by kernel_rfl) (fun _ _ _ h => h) (by rfl) (by assumption) ?y218 ?r218
  case y218 => (intro w h; (try dsimp only at h); go_simp; (try with_reducible rfl))
  try simp only [lays]
  refine' tk 18 rfl (by kernel_rfl) (fun _ _ _ h => h) (by rfl) (by assumption) ?y219 ?r219
  case y219 => (intro w h; (try dsimp only at h); go_simp; (try with_reducible rfl))
  try simp only [lays]
  refine' tk 19 rfl (by kernel_rfl) (fun _ _ _ h => h) (by rfl) (by assumption) ?y220 ?r220
  case y220 => (intro w h; (try dsimp only at h); go_simp; (try with_reducible rfl))
  try simp only [lays]
  refine' tk 20 rfl (by kernel_rfl) (fun _ _ _ h => h) (by rfl) (by assumption) ?y221 ?r221
  case y221 => (intro w h; (try dsimp only at h); go_simp; (try with_reducible rfl))
  try simp only [lays]
  refine' tk 21 rfl (by kernel_rfl) (fun _ _ _ h => h) (by rfl) (by assumption) ?y222 ?r222
  case y222 => (intro w h; (try dsimp only at h); go_simp; (try with_reducible rfl))
  try simp only [lays]
  refine wpAnyH_ready (rs := [22]) (by kernel_rfl) (by simp) (AllReadyH.cons rfl (fun K hK => ?_) AllReadyH.nil)
  go_simp
  refine (BE.out _).mono ?_; rintro e wz ⟨rfl, hbz⟩; have Dz := chn hbz (by assumption); have Pz := keepThree (n := w.heap.size) hbz (Three.lt (by assumption)) (by assumption); clear hbz
  try go_wp2_with fail
  clear hHeld
  refine hK.out _ _ (Three.cells (n := w.heap.size) (by assumption)) (fun hHeld => ?_)
  clear hK K
  try simp only [lays]
  refine' tk 23 rfl (by kernel_rfl) (fun _ _ _ h => h) (by rfl) (by assumption) ?y224 ?r224
  case y224 => (intro w h; (try dsimp only at h); go_simp; (try with_reducible rfl))
  try simp only [lays]
  refine' tk 24 rfl (by kernel_rfl) (fun _ _ _ h => h) (by rfl) (by assumption) ?y225 ?r225
  case y225 => (intro w h; (try dsimp only at h); go_simp; (try with_reducible rfl))
  try simp only [lays]
  refine' tk 25 rfl (by kernel_rfl) (fun _ _ _ h => h) (by rfl) (by assumption) ?y226 ?r226
  case y226 => (intro w h; (try dsimp only at h); go_simp; (try with_reducible rfl))
  try simp only [lays]
  refine' tk 26 rfl (by kernel_rfl) (fun _ _ _ h => h) (by rfl) (by assumption) ?y227 ?r227
  case y227 => (intro w h; (try dsimp only at h); go_simp; (try with_reducible rfl))
  try simp only [lays]
  refine' tk 27 rfl (by kernel_rfl) (fun _ _ _ h => h) (by rfl) (by assumption) ?y228 ?r228
  case y228 => (intro w h; (try dsimp only at h); go_simp; (try with_reducible rfl))
  try simp only [lays]
  refine' tk 28 rfl (by kernel_rfl) (fun _ _ _ h => h) (by rfl) (by assumption) ?y229 ?r229
  case y229 => (intro w h; (try dsimp only at h); go_simp; (try with_reducible rfl))
  try simp only [lays]
  refine' tk 29 rfl (by kernel_rfl) (fun _ _ _ h => h) (by rfl) (by assumption) ?y230 ?r230
  case y230 => (intro w h; (try dsimp only at h); go_simp; (try with_reducible rfl))
  try simp only [lays]
  refine' tk 30 rfl (by kernel_rfl) (fun _ _ _ h => h) (by rfl) (by assumption) ?y231 ?r231
  case y231 => (intro w h; (try dsimp only at h); go_simp; (try with_reducible rfl))
  try simp only [lays]
  refine' tk 31 rfl (by kernel_rfl) (fun _ _ _ h => h) (by rfl) (by assumption) ?y232 ?r232
  case y232 => (intro w h; (try dsimp only at h); go_simp; (try with_reducible rfl))
  try simp only [lays]
  refine' tk 32 rfl (by kernel_rfl) (fun _ _ _ h => h) (by rfl) (by assumption) ?y233 ?r233
  case y233 => (intro w h; (try dsimp only at h); go_simp; (try with_reducible rfl))
  try simp only [lays]
  refine' tk 33 rfl (by kernel_rfl) (fun _ _ _ h => h) (by rfl) (by assumption) ?y234 ?r234
  case y234 => (intro w h; (try dsimp only at h); go_simp; (try with_reducible rfl))
  try simp only [lays]
  refine' tk0 34 rfl (by kernel_rfl) (fun _ _ _ h => h) (by rfl) (by assumption) ?_
  try simp only [lays]
  refine' tk0 35 rfl (by kernel_rfl) (fun _ _ _ h => h) (by rfl) (by assumption) ?_
  try simp only [lays]
  refine' tk0 36 rfl (by kernel_rfl) (fun _ _ _ h => h) (by rfl) (by assumption) ?_
  try simp only [lays]
  refine' tk 37 rfl (by kernel_rfl) (fun _ _ _ h => h) (by rfl) (by assumption) ?y238 ?r238
  case y238 => (intro w h; (try dsimp only at h); go_simp; (try with_reducible rfl))
  try simp only [lays]
  refine' tk 38 rfl (by kernel_rfl) (fun _ _ _ h => h) (by rfl) (by assumption) ?y239 ?r239
  case y239 => (intro w h; (try dsimp only at h); go_simp; (try with_reducible rfl))
  try simp only [lays]
  refine wpAnyH_done (by kernel_rfl) ?_ _
  go_wp2
  go_ret
  exact ⟨by simp, by assumption⟩
set_option maxHeartbeats 4000000 in
set_option maxRecDepth 100000 in
theorem isr_g0 (v p : Int) (w : World) (h2 : decide (0 ≤ v) = true) (h3 : decide (v < 16) = true) (h4 : (Go.bits .and .i64 v (IntKind.i64.wrap (IntKind.i64.wrap 1 - 1)) == 0) = true) (h5 : decide (0 ≤ p) = true) : Calls Tryz.prog 108 #[rtw v 4 p] w fun e w' => e = .returned (.bool (decide (p < 4))) ∧ Below w.heap.size w w' := by
  have D0 := (Below.al (Below.refl w.heap.size w) (.cells #[.int .i64 v, .int .i64 4, .int .i64 p] 130)).drew
  have T0 := (three_new w (.int .i64 v) (.int .i64 4) (.int .i64 p) 130).drew
  have BE : Hid (∀ w, Calls Tryz.prog 137 #[rtw v 4 p] w fun e w' => e = .returned (.int .i64 0) ∧ Below w.heap.size w w') := fun w => behind_0 v p w
  go_enter Tryz.func108, Tryz.ntmps108
  go_wp2_with fail
  refine wp_region_held_drew (S := (fun w' => w'.cell? ⟨w.heap.size, 0, none⟩ = some (.int .i64 v) ∧ w'.cell? ⟨w.heap.size, 1, none⟩ = some (.int .i64 4) ∧ w'.cell? ⟨w.heap.size, 2, none⟩ = some (.int .i64 p))) (by kernel_rfl) (Three.cells (n := w.heap.size) (by assumption)) (fun hHeld => ?_)
  refine' tk 0 rfl (by kernel_rfl) (fun _ _ _ h => h) (by rfl) (by assumption) ?y241 ?r241
  case y241 => (intro w h; (try dsimp only at h); go_simp; (try with_reducible rfl))
  try simp only [lays]
  refine' tk 1 rfl (by kernel_rfl) (fun _ _ _ h => h) (by rfl) (by assumption) ?y242 ?r242
  case y242 => (intro w h; (try dsimp only at h); go_simp; (try with_reducible rfl))
  try simp only [lays]
  refine' tk 2 rfl (by kernel_rfl) (fun _ _ _ h => h) (by rfl) (by assumption) ?y243 ?r243
  case y243 => (intro w h; (try dsimp only at h); go_simp; (try with_reducible rfl))
  try simp only [lays]
  refine' tk 3 rfl (by kernel_rfl) (fun _ _ _ h => h) (by rfl) (by assumption) ?y244 ?r244
  case y244 => (intro w h; (try dsimp only at h); go_simp; (try with_reducible rfl))
  try simp only [lays]
  refine' tk 4 rfl (by kernel_rfl) (fun _ _ _ h => h) (by rfl) (by assumption) ?y245 ?r245
  case y245 => (intro w h; (try dsimp only at h); go_simp; (try with_reducible rfl))
  try simp only [lays]
  refine' tk 5 rfl (by kernel_rfl) (fun _ _ _ h => h) (by rfl) (by assumption) ?y246 ?r246
  case y246 => (intro w h; (try dsimp only at h); go_simp; (try with_reducible rfl))
  try simp only [lays]
  refine' tk 6 rfl (by kernel_rfl) (fun _ _ _ h => h) (by rfl) (by assumption) ?y247 ?r247
  case y247 => (intro w h; (try dsimp only at h); go_simp; (try with_reducible rfl))
  try simp only [lays]
  refine' tk 7 rfl (by kernel_rfl) (fun _ _ _ h => h) (by rfl) (by assumption) ?y248 ?r248
  case y248 => (intro w h; (try dsimp only at h); go_simp; (try with_reducible rfl))
  try simp only [lays]
  refine' tk 8 rfl (by kernel_rfl) (fun _ _ _ h => h) (by rfl) (by assumption) ?y249 ?r249
  case y249 => (intro w h; (try dsimp only at h); go_simp; (try with_reducible rfl))
  try simp only [lays]
  refine' tk 9 rfl (by kernel_rfl) (fun _ _ _ h => h) (by rfl) (by assumption) ?y250 ?r250
  case y250 => (intro w h; (try dsimp only at h); go_simp; (try with_reducible rfl))
  try simp only [lays]
  refine' tk 10 rfl (by kernel_rfl) (fun _ _ _ h => h) (by rfl) (by assumption) ?y251 ?r251
  case y251 => (intro w h; (try dsimp only at h); go_simp; (try with_reducible rfl))
  try simp only [lays]
  refine' tk 11 rfl (by kernel_rfl) (fun _ _ _ h => h) (by rfl) (by assumption) ?y252 ?r252
  case y252 => (intro w h; (try dsimp only at h); go_simp; (try with_reducible rfl))
  try simp only [lays]
  refine' tk 12 rfl (by kernel_rfl) (fun _ _ _ h => h) (by rfl) (by assumption) ?y253 ?r253
  case y253 => (intro w h; (try dsimp only at h); go_simp; (try with_reducible rfl))
  try simp only [lays]
  refine' tk 13 rfl (by kernel_rfl) (fun _ _ _ h => h) (by rfl) (by assumption) ?y254 ?r254
  case y254 => (intro w h; (try dsimp only at h); go_simp; (try with_reducible rfl))
  try simp only [lays]
  refine' tk 14 rfl (by kernel_rfl) (fun _ _ _ h => h) (by rfl) (by assumption) ?y255 ?r255
  case y255 => (intro w h; (try dsimp only at h); go_simp; (try with_reducible rfl))
  try simp only [lays]
  refine' tk 15 rfl (by kernel_rfl) (fun _ _ _ h => h) (by rfl) (by assumption) ?y256 ?r256
  case y256 => (intro w h; (try dsimp only at h); go_simp; (try with_reducible rfl))
  try simp only [lays]
  refine' tk 16 rfl (by kernel_rfl) (fun _ _ _ h => h) (by rfl) (by assumption) ?y257 ?r257
  case y257 => (intro w h; (try dsimp only at h); go_simp; (try with_reducible rfl))
  try simp only [lays]
  refine' tk 17 rfl (by kernel_rfl) (fun _ _ _ h => h) (by rfl) (by assumption) ?y258 ?r258
  case y258 => (intro w h; (try dsimp only at h); go_simp; (try with_reducible rfl))
  try simp only [lays]
  refine' tk 18 rfl (by kernel_rfl) (fun _ _ _ h => h) (by rfl) (by assumption) ?y259 ?r259
  case y259 => (intro w h; (try dsimp only at h); go_simp; (try with_reducible rfl))
  try simp only [lays]
  refine' tk 19 rfl (by kernel_rfl) (fun _ _ _ h => h) (by rfl) (by assumption) ?y260 ?r260
  case y260 => (intro w h; (try dsimp only at h); go_simp; (try with_reducible rfl))
  try simp only [lays]
  refine' tk 20 rfl (by kernel_rfl) (fun _ _ _ h => h) (by rfl) (by assumption) ?y261 ?r261
  case y261 => (intro w h; (try dsimp only at h); go_simp; (try with_reducible rfl))
  try simp only [lays]
  refine' tk 21 rfl (by kernel_rfl) (fun _ _ _ h => h) (by rfl) (by assumption) ?y262 ?r262
  case y262 => (intro w h; (try dsimp only at h); go_simp; (try with_reducible rfl))
  try simp only [lays]
  refine wpAnyH_ready (rs := [22]) (by kernel_rfl) (by simp) (AllReadyH.cons rfl (fun K hK => ?_) AllReadyH.nil)
  go_simp
  refine (BE.out _).mono ?_; rintro e wz ⟨rfl, hbz⟩; have Dz := chn hbz (by assumption); have Pz := keepThree (n := w.heap.size) hbz (Three.lt (by assumption)) (by assumption); clear hbz
  try go_wp2_with fail
  clear hHeld
  refine hK.out _ _ (Three.cells (n := w.heap.size) (by assumption)) (fun hHeld => ?_)
  clear hK K
  try simp only [lays]
  refine' tk 23 rfl (by kernel_rfl) (fun _ _ _ h => h) (by rfl) (by assumption) ?y264 ?r264
  case y264 => (intro w h; (try dsimp only at h); go_simp; (try with_reducible rfl))
  try simp only [lays]
  refine' tk 24 rfl (by kernel_rfl) (fun _ _ _ h => h) (by rfl) (by assumption) ?y265 ?r265
  case y265 => (intro w h; (try dsimp only at h); go_simp; (try with_reducible rfl))
  try simp only [lays]
  refine' tk 25 rfl (by kernel_rfl) (fun _ _ _ h => h) (by rfl) (by assumption) ?y266 ?r266
  case y266 => (intro w h; (try dsimp only at h); go_simp; (try with_reducible rfl))
  try simp only [lays]
  refine' tk 26 rfl (by kernel_rfl) (fun _ _ _ h => h) (by rfl) (by assumption) ?y267 ?r267
  case y267 => (intro w h; (try dsimp only at h); go_simp; (try with_reducible rfl))
  try simp only [lays]
  refine' tk 27 rfl (by kernel_rfl) (fun _ _ _ h => h) (by rfl) (by assumption) ?y268 ?r268
  case y268 => (intro w h; (try dsimp only at h); go_simp; (try with_reducible rfl))
  try simp only [lays]
  refine' tk 28 rfl (by kernel_rfl) (fun _ _ _ h => h) (by rfl) (by assumption) ?y269 ?r269
  case y269 => (intro w h; (try dsimp only at h); go_simp; (try with_reducible rfl))
  try simp only [lays]
  refine' tk 29 rfl (by kernel_rfl) (fun _ _ _ h => h) (by rfl) (by assumption) ?y270 ?r270
  case y270 => (intro w h; (try dsimp only at h); go_simp; (try with_reducible rfl))
  try simp only [lays]
  refine' tk 30 rfl (by kernel_rfl) (fun _ _ _ h => h) (by rfl) (by assumption) ?y271 ?r271
  case y271 => (intro w h; (try dsimp only at h); go_simp; (try with_reducible rfl))
  try simp only [lays]
  refine' tk 31 rfl (by kernel_rfl) (fun _ _ _ h => h) (by rfl) (by assumption) ?y272 ?r272
  case y272 => (intro w h; (try dsimp only at h); go_simp; (try with_reducible rfl))
  try simp only [lays]
  refine' tk 32 rfl (by kernel_rfl) (fun _ _ _ h => h) (by rfl) (by assumption) ?y273 ?r273
  case y273 => (intro w h; (try dsimp only at h); go_simp; (try with_reducible rfl))
  try simp only [lays]
  refine' tk 33 rfl (by kernel_rfl) (fun _ _ _ h => h) (by rfl) (by assumption) ?y274 ?r274
  case y274 => (intro w h; (try dsimp only at h); go_simp; (try with_reducible rfl))
  try simp only [lays]
  refine' tk 34 rfl (by kernel_rfl) (fun _ _ _ h => h) (by rfl) (by assumption) ?y275 ?r275
  case y275 => (intro w h; (try dsimp only at h); go_simp; (try with_reducible rfl))
  try simp only [lays]
  refine' tk 35 rfl (by kernel_rfl) (fun _ _ _ h => h) (by rfl) (by assumption) ?y276 ?r276
  case y276 => (intro w h; (try dsimp only at h); go_simp; (try with_reducible rfl))
  try simp only [lays]
  refine' tk 36 rfl (by kernel_rfl) (fun _ _ _ h => h) (by rfl) (by assumption) ?y277 ?r277
  case y277 => (intro w h; (try dsimp only at h); go_simp; (try with_reducible rfl))
  try simp only [lays]
  refine' tk 37 rfl (by kernel_rfl) (fun _ _ _ h => h) (by rfl) (by assumption) ?y278 ?r278
  case y278 => (intro w h; (try dsimp only at h); go_simp; (try with_reducible rfl))
  try simp only [lays]
  refine' tk 38 rfl (by kernel_rfl) (fun _ _ _ h => h) (by rfl) (by assumption) ?y279 ?r279
  case y279 => (intro w h; (try dsimp only at h); go_simp; (try with_reducible rfl))
  try simp only [lays]
  refine wpAnyH_done (by kernel_rfl) ?_ _
  go_wp2
  go_ret
  exact ⟨by simp, by assumption⟩
theorem isr_0 (v p : Int) (w : World) (h2 : decide (0 ≤ v) = true) (h3 : decide (v < 16) = true) : Calls Tryz.prog 108 #[rtw v 4 p] w fun e w' => e = .returned (.bool (isR ⟨v, 4, p⟩)) ∧ Below w.heap.size w w' := by
  have hm := and_mask v 0 0 (of_decide_eq_true h2) (of_decide_eq_true h3) (by decide) (by decide)
  have e : isR ⟨v, 4, p⟩ = ((Go.bits .and .i64 v (IntKind.i64.wrap (IntKind.i64.wrap 1 - 1)) == 0) && decide (0 ≤ p) && decide (p < 4)) := by
    rw [show IntKind.i64.wrap (IntKind.i64.wrap 1 - 1) = ((0 : Nat) : Int) from rfl, hm]
    show (decide ((0 : Int) ≤ 4) && decide ((4 : Int) ≤ 4) && decide (0 ≤ v) && decide (v < 16) && decide (v % 1 = 0) && decide (0 ≤ p) && decide (p < 4)) = (decide (v % 1 = 0) && decide (0 ≤ p) && decide (p < 4))
    rw [h2, h3]
    simp
  rw [e]
  cases h4 : (Go.bits .and .i64 v (IntKind.i64.wrap (IntKind.i64.wrap 1 - 1)) == 0)
  · exact isr_e0 v p w h2 h3 h4
  cases h5 : decide (0 ≤ p)
  · exact isr_f0 v p w h2 h3 h4 h5
  · exact isr_g0 v p w h2 h3 h4 h5
set_option maxHeartbeats 4000000 in
set_option maxRecDepth 100000 in
theorem isr_e1 (v p : Int) (w : World) (h2 : decide (0 ≤ v) = true) (h3 : decide (v < 16) = true) (h4 : (Go.bits .and .i64 v (IntKind.i64.wrap (IntKind.i64.wrap 2 - 1)) == 0) = false) : Calls Tryz.prog 108 #[rtw v 3 p] w fun e w' => e = .returned (.bool false) ∧ Below w.heap.size w w' := by
  have D0 := (Below.al (Below.refl w.heap.size w) (.cells #[.int .i64 v, .int .i64 3, .int .i64 p] 130)).drew
  have T0 := (three_new w (.int .i64 v) (.int .i64 3) (.int .i64 p) 130).drew
  have BE : Hid (∀ w, Calls Tryz.prog 137 #[rtw v 3 p] w fun e w' => e = .returned (.int .i64 1) ∧ Below w.heap.size w w') := fun w => behind_1 v p w
  go_enter Tryz.func108, Tryz.ntmps108
  go_wp2_with fail
  refine wp_region_held_drew (S := (fun w' => w'.cell? ⟨w.heap.size, 0, none⟩ = some (.int .i64 v) ∧ w'.cell? ⟨w.heap.size, 1, none⟩ = some (.int .i64 3) ∧ w'.cell? ⟨w.heap.size, 2, none⟩ = some (.int .i64 p))) (by kernel_rfl) (Three.cells (n := w.heap.size) (by assumption)) (fun hHeld => ?_)
  refine' tk 0 rfl (by kernel_rfl) (fun _ _ _ h => h) (by rfl) (by assumption) ?y281 ?r281
  case y281 => (intro w h; (try dsimp only at h); go_simp; (try with_reducible rfl))
  try simp only [lays]
  refine' tk 1 rfl (by kernel_rfl) (fun _ _ _ h => h) (by rfl) (by assumption) ?y282 ?r282
  case y282 => (intro w h; (try dsimp only at h); go_simp; (try with_reducible rfl))
  try simp only [lays]
  refine' tk 2 rfl (by kernel_rfl) (fun _ _ _ h => h) (by rfl) (by assumption) ?y283 ?r283
  case y283 => (intro w h; (try dsimp only at h); go_simp; (try with_reducible rfl))
  try simp only [lays]
  refine' tk 3 rfl (by kernel_rfl) (fun _ _ _ h => h) (by rfl) (by assumption) ?y284 ?r284
  case y284 => (intro w h; (try dsimp only at h); go_simp; (try with_reducible rfl))
  try simp only [lays]
  refine' tk 4 rfl (by kernel_rfl) (fun _ _ _ h => h) (by rfl) (by assumption) ?y285 ?r285
  case y285 => (intro w h; (try dsimp only at h); go_simp; (try with_reducible rfl))
  try simp only [lays]
  refine' tk 5 rfl (by kernel_rfl) (fun _ _ _ h => h) (by rfl) (by assumption) ?y286 ?r286
  case y286 => (intro w h; (try dsimp only at h); go_simp; (try with_reducible rfl))
  try simp only [lays]
  refine' tk 6 rfl (by kernel_rfl) (fun _ _ _ h => h) (by rfl) (by assumption) ?y287 ?r287
  case y287 => (intro w h; (try dsimp only at h); go_simp; (try with_reducible rfl))
  try simp only [lays]
  refine' tk 7 rfl (by kernel_rfl) (fun _ _ _ h => h) (by rfl) (by assumption) ?y288 ?r288
  case y288 => (intro w h; (try dsimp only at h); go_simp; (try with_reducible rfl))
  try simp only [lays]
  refine' tk 8 rfl (by kernel_rfl) (fun _ _ _ h => h) (by rfl) (by assumption) ?y289 ?r289
  case y289 => (intro w h; (try dsimp only at h); go_simp; (try with_reducible rfl))
  try simp only [lays]
  refine' tk 9 rfl (by kernel_rfl) (fun _ _ _ h => h) (by rfl) (by assumption) ?y290 ?r290
  case y290 => (intro w h; (try dsimp only at h); go_simp; (try with_reducible rfl))
  try simp only [lays]
  refine' tk 10 rfl (by kernel_rfl) (fun _ _ _ h => h) (by rfl) (by assumption) ?y291 ?r291
  case y291 => (intro w h; (try dsimp only at h); go_simp; (try with_reducible rfl))
  try simp only [lays]
  refine' tk 11 rfl (by kernel_rfl) (fun _ _ _ h => h) (by rfl) (by assumption) ?y292 ?r292
  case y292 => (intro w h; (try dsimp only at h); go_simp; (try with_reducible rfl))
  try simp only [lays]
  refine' tk 12 rfl (by kernel_rfl) (fun _ _ _ h => h) (by rfl) (by assumption) ?y293 ?r293
  case y293 => (intro w h; (try dsimp only at h); go_simp; (try with_reducible rfl))
  try simp only [lays]
  refine' tk 13 rfl (by kernel_rfl) (fun _ _ _ h => h) (by rfl) (by assumption) ?y294 ?r294
  case y294 => (intro w h; (try dsimp only at h); go_simp; (try with_reducible rfl))
  try simp only [lays]
  refine' tk 14 rfl (by kernel_rfl) (fun _ _ _ h => h) (by rfl) (by assumption) ?y295 ?r295
  case y295 => (intro w h; (try dsimp only at h); go_simp; (try with_reducible rfl))
  try simp only [lays]
  refine' tk 15 rfl (by kernel_rfl) (fun _ _ _ h => h) (by rfl) (by assumption) ?y296 ?r296
  case y296 => (intro w h; (try dsimp only at h); go_simp; (try with_reducible rfl))
  try simp only [lays]
  refine' tk 16 rfl (by kernel_rfl) (fun _ _ _ h => h) (by rfl) (by assumption) ?y297 ?r297
  case y297 => (intro w h; (try dsimp only at h); go_simp; (try with_reducible rfl))
  try simp only [lays]
  refine' tk 17 rfl (by kernel_rfl) (fun _ _ _ h => h) (by rfl) (by assumption) ?y298 ?r298
  case y298 => (intro w h; (try dsimp only at h); go_simp; (try with_reducible rfl))
  try simp only [lays]
  refine' tk 18 rfl (by kernel_rfl) (fun _ _ _ h => h) (by rfl) (by assumption) ?y299 ?r299
  case y299 => (intro w h; (try dsimp only at h); go_simp; (try with_reducible rfl))
  try simp only [lays]
  refine' tk 19 rfl (by kernel_rfl) (fun _ _ _ h => h) (by rfl) (by assumption) ?y300 ?r300
  case y300 => (intro w h; (try dsimp only at h); go_simp; (try with_reducible rfl))
  try simp only [lays]
  refine' tk 20 rfl (by kernel_rfl) (fun _ _ _ h => h) (by rfl) (by assumption) ?y301 ?r301
  case y301 => (intro w h; (try dsimp only at h); go_simp; (try with_reducible rfl))
  try simp only [lays]
  refine' tk 21 rfl (by kernel_rfl) (fun _ _ _ h => h) (by rfl) (by assumption) ?y302 ?r302
  case y302 => (intro w h; (try dsimp only at h); go_simp; (try with_reducible rfl))
  try simp only [lays]
  refine wpAnyH_ready (rs := [22]) (by kernel_rfl) (by simp) (AllReadyH.cons rfl (fun K hK => ?_) AllReadyH.nil)
  go_simp
  refine (BE.out _).mono ?_; rintro e wz ⟨rfl, hbz⟩; have Dz := chn hbz (by assumption); have Pz := keepThree (n := w.heap.size) hbz (Three.lt (by assumption)) (by assumption); clear hbz
  try go_wp2_with fail
  clear hHeld
  refine hK.out _ _ (Three.cells (n := w.heap.size) (by assumption)) (fun hHeld => ?_)
  clear hK K
  try simp only [lays]
  refine' tk 23 rfl (by kernel_rfl) (fun _ _ _ h => h) (by rfl) (by assumption) ?y304 ?r304
  case y304 => (intro w h; (try dsimp only at h); go_simp; (try with_reducible rfl))
  try simp only [lays]
  refine' tk 24 rfl (by kernel_rfl) (fun _ _ _ h => h) (by rfl) (by assumption) ?y305 ?r305
  case y305 => (intro w h; (try dsimp only at h); go_simp; (try with_reducible rfl))
  try simp only [lays]
  refine' tk 25 rfl (by kernel_rfl) (fun _ _ _ h => h) (by rfl) (by assumption) ?y306 ?r306
  case y306 => (intro w h; (try dsimp only at h); go_simp; (try with_reducible rfl))
  try simp only [lays]
  refine' tk 26 rfl (by kernel_rfl) (fun _ _ _ h => h) (by rfl) (by assumption) ?y307 ?r307
  case y307 => (intro w h; (try dsimp only at h); go_simp; (try with_reducible rfl))
  try simp only [lays]
  refine' tk 27 rfl (by kernel_rfl) (fun _ _ _ h => h) (by rfl) (by assumption) ?y308 ?r308
  case y308 => (intro w h; (try dsimp only at h); go_simp; (try with_reducible rfl))
  try simp only [lays]
  refine' tk 28 rfl (by kernel_rfl) (fun _ _ _ h => h) (by rfl) (by assumption) ?y309 ?r309
  case y309 => (intro w h; (try dsimp only at h); go_simp; (try with_reducible rfl))
  try simp only [lays]
  refine' tk0 29 rfl (by kernel_rfl) (fun _ _ _ h => h) (by rfl) (by assumption) ?_
  try simp only [lays]
  refine' tk0 30 rfl (by kernel_rfl) (fun _ _ _ h => h) (by rfl) (by assumption) ?_
  try simp only [lays]
  refine' tk0 31 rfl (by kernel_rfl) (fun _ _ _ h => h) (by rfl) (by assumption) ?_
  try simp only [lays]
  refine' tk 32 rfl (by kernel_rfl) (fun _ _ _ h => h) (by rfl) (by assumption) ?y313 ?r313
  case y313 => (intro w h; (try dsimp only at h); go_simp; (try with_reducible rfl))
  try simp only [lays]
  refine' tk 33 rfl (by kernel_rfl) (fun _ _ _ h => h) (by rfl) (by assumption) ?y314 ?r314
  case y314 => (intro w h; (try dsimp only at h); go_simp; (try with_reducible rfl))
  try simp only [lays]
  refine' tk0 34 rfl (by kernel_rfl) (fun _ _ _ h => h) (by rfl) (by assumption) ?_
  try simp only [lays]
  refine' tk0 35 rfl (by kernel_rfl) (fun _ _ _ h => h) (by rfl) (by assumption) ?_
  try simp only [lays]
  refine' tk0 36 rfl (by kernel_rfl) (fun _ _ _ h => h) (by rfl) (by assumption) ?_
  try simp only [lays]
  refine' tk 37 rfl (by kernel_rfl) (fun _ _ _ h => h) (by rfl) (by assumption) ?y318 ?r318
  case y318 => (intro w h; (try dsimp only at h); go_simp; (try with_reducible rfl))
  try simp only [lays]
  refine' tk 38 rfl (by kernel_rfl) (fun _ _ _ h => h) (by rfl) (by assumption) ?y319 ?r319
  case y319 => (intro w h; (try dsimp only at h); go_simp; (try with_reducible rfl))
  try simp only [lays]
  refine wpAnyH_done (by kernel_rfl) ?_ _
  go_wp2
  go_ret
  exact ⟨by simp, by assumption⟩
set_option maxHeartbeats 4000000 in
set_option maxRecDepth 100000 in
theorem isr_f1 (v p : Int) (w : World) (h2 : decide (0 ≤ v) = true) (h3 : decide (v < 16) = true) (h4 : (Go.bits .and .i64 v (IntKind.i64.wrap (IntKind.i64.wrap 2 - 1)) == 0) = true) (h5 : decide (0 ≤ p) = false) : Calls Tryz.prog 108 #[rtw v 3 p] w fun e w' => e = .returned (.bool false) ∧ Below w.heap.size w w' := by
  have D0 := (Below.al (Below.refl w.heap.size w) (.cells #[.int .i64 v, .int .i64 3, .int .i64 p] 130)).drew
  have T0 := (three_new w (.int .i64 v) (.int .i64 3) (.int .i64 p) 130).drew
  have BE : Hid (∀ w, Calls Tryz.prog 137 #[rtw v 3 p] w fun e w' => e = .returned (.int .i64 1) ∧ Below w.heap.size w w') := fun w => behind_1 v p w
  go_enter Tryz.func108, Tryz.ntmps108
  go_wp2_with fail
  refine wp_region_held_drew (S := (fun w' => w'.cell? ⟨w.heap.size, 0, none⟩ = some (.int .i64 v) ∧ w'.cell? ⟨w.heap.size, 1, none⟩ = some (.int .i64 3) ∧ w'.cell? ⟨w.heap.size, 2, none⟩ = some (.int .i64 p))) (by kernel_rfl) (Three.cells (n := w.heap.size) (by assumption)) (fun hHeld => ?_)
  refine' tk 0 rfl (by kernel_rfl) (fun _ _ _ h => h) (by rfl) (by assumption) ?y321 ?r321
  case y321 => (intro w h; (try dsimp only at h); go_simp; (try with_reducible rfl))
  try simp only [lays]
  refine' tk 1 rfl (by kernel_rfl) (fun _ _ _ h => h) (by rfl) (by assumption) ?y322 ?r322
  case y322 => (intro w h; (try dsimp only at h); go_simp; (try with_reducible rfl))
  try simp only [lays]
  refine' tk 2 rfl (by kernel_rfl) (fun _ _ _ h => h) (by rfl) (by assumption) ?y323 ?r323
  case y323 => (intro w h; (try dsimp only at h); go_simp; (try with_reducible rfl))
  try simp only [lays]
  refine' tk 3 rfl (by kernel_rfl) (fun _ _ _ h => h) (by rfl) (by assumption) ?y324 ?r324
  case y324 => (intro w h; (try dsimp only at h); go_simp; (try with_reducible rfl))
  try simp only [lays]
  refine' tk 4 rfl (by kernel_rfl) (fun _ _ _ h => h) (by rfl) (by assumption) ?y325 ?r325
  case y325 => (intro w h; (try dsimp only at h); go_simp; (try with_reducible rfl))
  try simp only [lays]
  refine' tk 5 rfl (by kernel_rfl) (fun _ _ _ h => h) (by rfl) (by assumption) ?y326 ?r326
  case y326 => (intro w h; (try dsimp only at h); go_simp; (try with_reducible rfl))
  try simp only [lays]
  refine' tk 6 rfl (by kernel_rfl) (fun _ _ _ h => h) (by rfl) (by assumption) ?y327 ?r327
  case y327 => (intro w h; (try dsimp only at h); go_simp; (try with_reducible rfl))
  try simp only [lays]
  refine' tk 7 rfl (by kernel_rfl) (fun _ _ _ h => h) (by rfl) (by assumption) ?y328 ?r328
  case y328 => (intro w h; (try dsimp only at h); go_simp; (try with_reducible rfl))
  try simp only [lays]
  refine' tk 8 rfl (by kernel_rfl) (fun _ _ _ h => h) (by rfl) (by assumption) ?y329 ?r329
  case y329 => (intro w h; (try dsimp only at h); go_simp; (try with_reducible rfl))
  try simp only [lays]
  refine' tk 9 rfl (by kernel_rfl) (fun _ _ _ h => h) (by rfl) (by assumption) ?y330 ?r330
  case y330 => (intro w h; (try dsimp only at h); go_simp; (try with_reducible rfl))
  try simp only [lays]
  refine' tk 10 rfl (by kernel_rfl) (fun _ _ _ h => h) (by rfl) (by assumption) ?y331 ?r331
  case y331 => (intro w h; (try dsimp only at h); go_simp; (try with_reducible rfl))
  try simp only [lays]
  refine' tk 11 rfl (by kernel_rfl) (fun _ _ _ h => h) (by rfl) (by assumption) ?y332 ?r332
  case y332 => (intro w h; (try dsimp only at h); go_simp; (try with_reducible rfl))
  try simp only [lays]
  refine' tk 12 rfl (by kernel_rfl) (fun _ _ _ h => h) (by rfl) (by assumption) ?y333 ?r333
  case y333 => (intro w h; (try dsimp only at h); go_simp; (try with_reducible rfl))
  try simp only [lays]
  refine' tk 13 rfl (by kernel_rfl) (fun _ _ _ h => h) (by rfl) (by assumption) ?y334 ?r334
  case y334 => (intro w h; (try dsimp only at h); go_simp; (try with_reducible rfl))
  try simp only [lays]
  refine' tk 14 rfl (by kernel_rfl) (fun _ _ _ h => h) (by rfl) (by assumption) ?y335 ?r335
  case y335 => (intro w h; (try dsimp only at h); go_simp; (try with_reducible rfl))
  try simp only [lays]
  refine' tk 15 rfl (by kernel_rfl) (fun _ _ _ h => h) (by rfl) (by assumption) ?y336 ?r336
  case y336 => (intro w h; (try dsimp only at h); go_simp; (try with_reducible rfl))
  try simp only [lays]
  refine' tk 16 rfl (by kernel_rfl) (fun _ _ _ h => h) (by rfl) (by assumption) ?y337 ?r337
  case y337 => (intro w h; (try dsimp only at h); go_simp; (try with_reducible rfl))
  try simp only [lays]
  refine' tk 17 rfl (by kernel_rfl) (fun _ _ _ h => h) (by rfl) (by assumption) ?y338 ?r338
  case y338 => (intro w h; (try dsimp only at h); go_simp; (try with_reducible rfl))
  try simp only [lays]
  refine' tk 18 rfl (by kernel_rfl) (fun _ _ _ h => h) (by rfl) (by assumption) ?y339 ?r339
  case y339 => (intro w h; (try dsimp only at h); go_simp; (try with_reducible rfl))
  try simp only [lays]
  refine' tk 19 rfl (by kernel_rfl) (fun _ _ _ h => h) (by rfl) (by assumption) ?y340 ?r340
  case y340 => (intro w h; (try dsimp only at h); go_simp; (try with_reducible rfl))
  try simp only [lays]
  refine' tk 20 rfl (by kernel_rfl) (fun _ _ _ h => h) (by rfl) (by assumption) ?y341 ?r341
  case y341 => (intro w h; (try dsimp only at h); go_simp; (try with_reducible rfl))
  try simp only [lays]
  refine' tk 21 rfl (by kernel_rfl) (fun _ _ _ h => h) (by rfl) (by assumption) ?y342 ?r342
  case y342 => (intro w h; (try dsimp only at h); go_simp; (try with_reducible rfl))
  try simp only [lays]
  refine wpAnyH_ready (rs := [22]) (by kernel_rfl) (by simp) (AllReadyH.cons rfl (fun K hK => ?_) AllReadyH.nil)
  go_simp
  refine (BE.out _).mono ?_; rintro e wz ⟨rfl, hbz⟩; have Dz := chn hbz (by assumption); have Pz := keepThree (n := w.heap.size) hbz (Three.lt (by assumption)) (by assumption); clear hbz
  try go_wp2_with fail
  clear hHeld
  refine hK.out _ _ (Three.cells (n := w.heap.size) (by assumption)) (fun hHeld => ?_)
  clear hK K
  try simp only [lays]
  refine' tk 23 rfl (by kernel_rfl) (fun _ _ _ h => h) (by rfl) (by assumption) ?y344 ?r344
  case y344 => (intro w h; (try dsimp only at h); go_simp; (try with_reducible rfl))
  try simp only [lays]
  refine' tk 24 rfl (by kernel_rfl) (fun _ _ _ h => h) (by rfl) (by assumption) ?y345 ?r345
  case y345 => (intro w h; (try dsimp only at h); go_simp; (try with_reducible rfl))
  try simp only [lays]
  refine' tk 25 rfl (by kernel_rfl) (fun _ _ _ h => h) (by rfl) (by assumption) ?y346 ?r346
  case y346 => (intro w h; (try dsimp only at h); go_simp; (try with_reducible rfl))
  try simp only [lays]
  refine' tk 26 rfl (by kernel_rfl) (fun _ _ _ h => h) (by rfl) (by assumption) ?y347 ?r347
  case y347 => (intro w h; (try dsimp only at h); go_simp; (try with_reducible rfl))
  try simp only [lays]
  refine' tk 27 rfl (by kernel_rfl) (fun _ _ _ h => h) (by rfl) (by assumption) ?y348 ?r348
  case y348 => (intro w h; (try dsimp only at h); go_simp; (try with_reducible rfl))
  try simp only [lays]
  refine' tk 28 rfl (by kernel_rfl) (fun _ _ _ h => h) (by rfl) (by assumption) ?y349 ?r349
  case y349 => (intro w h; (try dsimp only at h); go_simp; (try with_reducible rfl))
  try simp only [lays]
  refine' tk 29 rfl (by kernel_rfl) (fun _ _ _ h => h) (by rfl) (by assumption) ?y350 ?r350
  case y350 => (intro w h; (try dsimp only at h); go_simp; (try with_reducible rfl))
  try simp only [lays]
  refine' tk 30 rfl (by kernel_rfl) (fun _ _ _ h => h) (by rfl) (by assumption) ?y351 ?r351
  case y351 => (intro w h; (try dsimp only at h); go_simp; (try with_reducible rfl))
  try simp only [lays]
  refine' tk 31 rfl (by kernel_rfl) (fun _ _ _ h => h) (by rfl) (by assumption) ?y352 ?r352
  case y352 => (intro w h; (try dsimp only at h); go_simp; (try with_reducible rfl))
  try simp only [lays]
  refine' tk 32 rfl (by kernel_rfl) (fun _ _ _ h => h) (by rfl) (by assumption) ?y353 ?r353
  case y353 => (intro w h; (try dsimp only at h); go_simp; (try with_reducible rfl))
  try simp only [lays]
  refine' tk 33 rfl (by kernel_rfl) (fun _ _ _ h => h) (by rfl) (by assumption) ?y354 ?r354
  case y354 => (intro w h; (try dsimp only at h); go_simp; (try with_reducible rfl))
  try simp only [lays]
  refine' tk0 34 rfl (by kernel_rfl) (fun _ _ _ h => h) (by rfl) (by assumption) ?_
  try simp only [lays]
  refine' tk0 35 rfl (by kernel_rfl) (fun _ _ _ h => h) (by rfl) (by assumption) ?_
  try simp only [lays]
  refine' tk0 36 rfl (by kernel_rfl) (fun _ _ _ h => h) (by rfl) (by assumption) ?_
  try simp only [lays]
  refine' tk 37 rfl (by kernel_rfl) (fun _ _ _ h => h) (by rfl) (by assumption) ?y358 ?r358
  case y358 => (intro w h; (try dsimp only at h); go_simp; (try with_reducible rfl))
  try simp only [lays]
  refine' tk 38 rfl (by kernel_rfl) (fun _ _ _ h => h) (by rfl) (by assumption) ?y359 ?r359
  case y359 => (intro w h; (try dsimp only at h); go_simp; (try with_reducible rfl))
  try simp only [lays]
  refine wpAnyH_done (by kernel_rfl) ?_ _
  go_wp2
  go_ret
  exact ⟨by simp, by assumption⟩
set_option maxHeartbeats 4000000 in
set_option maxRecDepth 100000 in
theorem isr_g1 (v p : Int) (w : World) (h2 : decide (0 ≤ v) = true) (h3 : decide (v < 16) = true) (h4 : (Go.bits .and .i64 v (IntKind.i64.wrap (IntKind.i64.wrap 2 - 1)) == 0) = true) (h5 : decide (0 ≤ p) = true) : Calls Tryz.prog 108 #[rtw v 3 p] w fun e w' => e = .returned (.bool (decide (p < 4))) ∧ Below w.heap.size w w' := by
  have D0 := (Below.al (Below.refl w.heap.size w) (.cells #[.int .i64 v, .int .i64 3, .int .i64 p] 130)).drew
  have T0 := (three_new w (.int .i64 v) (.int .i64 3) (.int .i64 p) 130).drew
  have BE : Hid (∀ w, Calls Tryz.prog 137 #[rtw v 3 p] w fun e w' => e = .returned (.int .i64 1) ∧ Below w.heap.size w w') := fun w => behind_1 v p w
  go_enter Tryz.func108, Tryz.ntmps108
  go_wp2_with fail
  refine wp_region_held_drew (S := (fun w' => w'.cell? ⟨w.heap.size, 0, none⟩ = some (.int .i64 v) ∧ w'.cell? ⟨w.heap.size, 1, none⟩ = some (.int .i64 3) ∧ w'.cell? ⟨w.heap.size, 2, none⟩ = some (.int .i64 p))) (by kernel_rfl) (Three.cells (n := w.heap.size) (by assumption)) (fun hHeld => ?_)
  refine' tk 0 rfl (by kernel_rfl) (fun _ _ _ h => h) (by rfl) (by assumption) ?y361 ?r361
  case y361 => (intro w h; (try dsimp only at h); go_simp; (try with_reducible rfl))
  try simp only [lays]
  refine' tk 1 rfl (by kernel_rfl) (fun _ _ _ h => h) (by rfl) (by assumption) ?y362 ?r362
  case y362 => (intro w h; (try dsimp only at h); go_simp; (try with_reducible rfl))
  try simp only [lays]
  refine' tk 2 rfl (by kernel_rfl) (fun _ _ _ h => h) (by rfl) (by assumption) ?y363 ?r363
  case y363 => (intro w h; (try dsimp only at h); go_simp; (try with_reducible rfl))
  try simp only [lays]
  refine' tk 3 rfl (by kernel_rfl) (fun _ _ _ h => h) (by rfl) (by assumption) ?y364 ?r364
  case y364 => (intro w h; (try dsimp only at h); go_simp; (try with_reducible rfl))
  try simp only [lays]
  refine' tk 4 rfl (by kernel_rfl) (fun _ _ _ h => h) (by rfl) (by assumption) ?y365 ?r365
  case y365 => (intro w h; (try dsimp only at h); go_simp; (try with_reducible rfl))
  try simp only [lays]
  refine' tk 5 rfl (by kernel_rfl) (fun _ _ _ h => h) (by rfl) (by assumption) ?y366 ?r366
  case y366 => (intro w h; (try dsimp only at h); go_simp; (try with_reducible rfl))
  try simp only [lays]
  refine' tk 6 rfl (by kernel_rfl) (fun _ _ _ h => h) (by rfl) (by assumption) ?y367 ?r367
  case y367 => (intro w h; (try dsimp only at h); go_simp; (try with_reducible rfl))
  try simp only [lays]
  refine' tk 7 rfl (by kernel_rfl) (fun _ _ _ h => h) (by rfl) (by assumption) ?y368 ?r368
  case y368 => (intro w h; (try dsimp only at h); go_simp; (try with_reducible rfl))
  try simp only [lays]
  refine' tk 8 rfl (by kernel_rfl) (fun _ _ _ h => h) (by rfl) (by assumption) ?y369 ?r369
  case y369 => (intro w h; (try dsimp only at h); go_simp; (try with_reducible rfl))
  try simp only [lays]
  refine' tk 9 rfl (by kernel_rfl) (fun _ _ _ h => h) (by rfl) (by assumption) ?y370 ?r370
  case y370 => (intro w h; (try dsimp only at h); go_simp; (try with_reducible rfl))
  try simp only [lays]
  refine' tk 10 rfl (by kernel_rfl) (fun _ _ _ h => h) (by rfl) (by assumption) ?y371 ?r371
  case y371 => (intro w h; (try dsimp only at h); go_simp; (try with_reducible rfl))
  try simp only [lays]
  refine' tk 11 rfl (by kernel_rfl) (fun _ _ _ h => h) (by rfl) (by assumption) ?y372 ?r372
  case y372 => (intro w h; (try dsimp only at h); go_simp; (try with_reducible rfl))
  try simp only [lays]
  refine' tk 12 rfl (by kernel_rfl) (fun _ _ _ h => h) (by rfl) (by assumption) ?y373 ?r373
  case y373 => (intro w h; (try dsimp only at h); go_simp; (try with_reducible rfl))
  try simp only [lays]
  refine' tk 13 rfl (by kernel_rfl) (fun _ _ _ h => h) (by rfl) (by assumption) ?y374 ?r374
  case y374 => (intro w h; (try dsimp only at h); go_simp; (try with_reducible rfl))
  try simp only [lays]
  refine' tk 14 rfl (by kernel_rfl) (fun _ _ _ h => h) (by rfl) (by assumption) ?y375 ?r375
  case y375 => (intro w h; (try dsimp only at h); go_simp; (try with_reducible rfl))
  try simp only [lays]
  refine' tk 15 rfl (by kernel_rfl) (fun _ _ _ h => h) (by rfl) (by assumption) ?y376 ?r376
  case y376 => (intro w h; (try dsimp only at h); go_simp; (try with_reducible rfl))
  try simp only [lays]
  refine' tk 16 rfl (by kernel_rfl) (fun _ _ _ h => h) (by rfl) (by assumption) ?y377 ?r377
  case y377 => (intro w h; (try dsimp only at h); go_simp; (try with_reducible rfl))
  try simp only [lays]
  refine' tk 17 rfl (by kernel_rfl) (fun _ _ _ h => h) (by rfl) (by assumption) ?y378 ?r378
  case y378 => (intro w h; (try dsimp only at h); go_simp; (try with_reducible rfl))
  try simp only [lays]
  refine' tk 18 rfl (by kernel_rfl) (fun _ _ _ h => h) (by rfl) (by assumption) ?y379 ?r379
  case y379 => (intro w h; (try dsimp only at h); go_simp; (try with_reducible rfl))
  try simp only [lays]
  refine' tk 19 rfl (by kernel_rfl) (fun _ _ _ h => h) (by rfl) (by assumption) ?y380 ?r380
  case y380 => (intro w h; (try dsimp only at h); go_simp; (try with_reducible rfl))
  try simp only [lays]
  refine' tk 20 rfl (by kernel_rfl) (fun _ _ _ h => h) (by rfl) (by assumption) ?y381 ?r381
  case y381 => (intro w h; (try dsimp only at h); go_simp; (try with_reducible rfl))
  try simp only [lays]
  refine' tk 21 rfl (by kernel_rfl) (fun _ _ _ h => h) (by rfl) (by assumption) ?y382 ?r382
  case y382 => (intro w h; (try dsimp only at h); go_simp; (try with_reducible rfl))
  try simp only [lays]
  refine wpAnyH_ready (rs := [22]) (by kernel_rfl) (by simp) (AllReadyH.cons rfl (fun K hK => ?_) AllReadyH.nil)
  go_simp
  refine (BE.out _).mono ?_; rintro e wz ⟨rfl, hbz⟩; have Dz := chn hbz (by assumption); have Pz := keepThree (n := w.heap.size) hbz (Three.lt (by assumption)) (by assumption); clear hbz
  try go_wp2_with fail
  clear hHeld
  refine hK.out _ _ (Three.cells (n := w.heap.size) (by assumption)) (fun hHeld => ?_)
  clear hK K
  try simp only [lays]
  refine' tk 23 rfl (by kernel_rfl) (fun _ _ _ h => h) (by rfl) (by assumption) ?y384 ?r384
  case y384 => (intro w h; (try dsimp only at h); go_simp; (try with_reducible rfl))
  try simp only [lays]
  refine' tk 24 rfl (by kernel_rfl) (fun _ _ _ h => h) (by rfl) (by assumption) ?y385 ?r385
  case y385 => (intro w h; (try dsimp only at h); go_simp; (try with_reducible rfl))
  try simp only [lays]
  refine' tk 25 rfl (by kernel_rfl) (fun _ _ _ h => h) (by rfl) (by assumption) ?y386 ?r386
  case y386 => (intro w h; (try dsimp only at h); go_simp; (try with_reducible rfl))
  try simp only [lays]
  refine' tk 26 rfl (by kernel_rfl) (fun _ _ _ h => h) (by rfl) (by assumption) ?y387 ?r387
  case y387 => (intro w h; (try dsimp only at h); go_simp; (try with_reducible rfl))
  try simp only [lays]
  refine' tk 27 rfl (by kernel_rfl) (fun _ _ _ h => h) (by rfl) (by assumption) ?y388 ?r388
  case y388 => (intro w h; (try dsimp only at h); go_simp; (try with_reducible rfl))
  try simp only [lays]
  refine' tk 28 rfl (by kernel_rfl) (fun _ _ _ h => h) (by rfl) (by assumption) ?y389 ?r389
  case y389 => (intro w h; (try dsimp only at h); go_simp; (try with_reducible rfl))
  try simp only [lays]
  refine' tk 29 rfl (by kernel_rfl) (fun _ _ _ h => h) (by rfl) (by assumption) ?y390 ?r390
  case y390 => (intro w h; (try dsimp only at h); go_simp; (try with_reducible rfl))
  try simp only [lays]
  refine' tk 30 rfl (by kernel_rfl) (fun _ _ _ h => h) (by rfl) (by assumption) ?y391 ?r391
  case y391 => (intro w h; (try dsimp only at h); go_simp; (try with_reducible rfl))
  try simp only [lays]
  refine' tk 31 rfl (by kernel_rfl) (fun _ _ _ h => h) (by rfl) (by assumption) ?y392 ?r392
  case y392 => (intro w h; (try dsimp only at h); go_simp; (try with_reducible rfl))
  try simp only [lays]
  refine' tk 32 rfl (by kernel_rfl) (fun _ _ _ h => h) (by rfl) (by assumption) ?y393 ?r393
  case y393 => (intro w h; (try dsimp only at h); go_simp; (try with_reducible rfl))
  try simp only [lays]
  refine' tk 33 rfl (by kernel_rfl) (fun _ _ _ h => h) (by rfl) (by assumption) ?y394 ?r394
  case y394 => (intro w h; (try dsimp only at h); go_simp; (try with_reducible rfl))
  try simp only [lays]
  refine' tk 34 rfl (by kernel_rfl) (fun _ _ _ h => h) (by rfl) (by assumption) ?y395 ?r395
  case y395 => (intro w h; (try dsimp only at h); go_simp; (try with_reducible rfl))
  try simp only [lays]
  refine' tk 35 rfl (by kernel_rfl) (fun _ _ _ h => h) (by rfl) (by assumption) ?y396 ?r396
  case y396 => (intro w h; (try dsimp only at h); go_simp; (try with_reducible rfl))
  try simp only [lays]
  refine' tk 36 rfl (by kernel_rfl) (fun _ _ _ h => h) (by rfl) (by assumption) ?y397 ?r397
  case y397 => (intro w h; (try dsimp only at h); go_simp; (try with_reducible rfl))
  try simp only [lays]
  refine' tk 37 rfl (by kernel_rfl) (fun _ _ _ h => h) (by rfl) (by assumption) ?y398 ?r398
  case y398 => (intro w h; (try dsimp only at h); go_simp; (try with_reducible rfl))
  try simp only [lays]
  refine' tk 38 rfl (by kernel_rfl) (fun _ _ _ h => h) (by rfl) (by assumption) ?y399 ?r399
  case y399 => (intro w h; (try dsimp only at h); go_simp; (try with_reducible rfl))
  try simp only [lays]
  refine wpAnyH_done (by kernel_rfl) ?_ _
  go_wp2
  go_ret
  exact ⟨by simp, by assumption⟩
theorem isr_1 (v p : Int) (w : World) (h2 : decide (0 ≤ v) = true) (h3 : decide (v < 16) = true) : Calls Tryz.prog 108 #[rtw v 3 p] w fun e w' => e = .returned (.bool (isR ⟨v, 3, p⟩)) ∧ Below w.heap.size w w' := by
  have hm := and_mask v 1 1 (of_decide_eq_true h2) (of_decide_eq_true h3) (by decide) (by decide)
  have e : isR ⟨v, 3, p⟩ = ((Go.bits .and .i64 v (IntKind.i64.wrap (IntKind.i64.wrap 2 - 1)) == 0) && decide (0 ≤ p) && decide (p < 4)) := by
    rw [show IntKind.i64.wrap (IntKind.i64.wrap 2 - 1) = ((1 : Nat) : Int) from rfl, hm]
    show (decide ((0 : Int) ≤ 3) && decide ((3 : Int) ≤ 4) && decide (0 ≤ v) && decide (v < 16) && decide (v % 2 = 0) && decide (0 ≤ p) && decide (p < 4)) = (decide (v % 2 = 0) && decide (0 ≤ p) && decide (p < 4))
    rw [h2, h3]
    simp
  rw [e]
  cases h4 : (Go.bits .and .i64 v (IntKind.i64.wrap (IntKind.i64.wrap 2 - 1)) == 0)
  · exact isr_e1 v p w h2 h3 h4
  cases h5 : decide (0 ≤ p)
  · exact isr_f1 v p w h2 h3 h4 h5
  · exact isr_g1 v p w h2 h3 h4 h5
end Go.Proofs.YtlmmeppifkigeaaGreat
