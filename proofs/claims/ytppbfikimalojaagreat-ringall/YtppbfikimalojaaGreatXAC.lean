/-
  XAC.
-/
import Derived.Test.YtppbfikimalojaaGreatXLy
import Derived.Test.YtppbfikimalojaaGreatXAA
import Derived.Laws.AppendOwnNone
import Derived.Lib.SliceRun
import Derived.Laws.EntriesVeiled
import Derived.Laws.CopyRow
set_option maxHeartbeats 8000000
set_option maxRecDepth 100000
namespace Go.Proofs.YtppbfikimalojaaGreat
open Go.RowKit
theorem Three.cells {w : World} {n : Nat} {a b c : Value} (h : Three w n a b c) : w.cell? ⟨n, 0, none⟩ = some a ∧ w.cell? ⟨n, 1, none⟩ = some b ∧ w.cell? ⟨n, 2, none⟩ = some c := h.2
theorem Three.lt {w : World} {n : Nat} {a b c : Value} (h : Three w n a b c) : n < w.heap.size := h.1
abbrev rtw (v b p : Int) : Value := .agg #[.int .i64 v, .int .i64 b, .int .i64 p]
theorem intBits_andR (a b : Nat) (ha : a < 9223372036854775808) (hb : b < 9223372036854775808) : Go.bits .and .i64 (a : Int) (b : Int) = ((a &&& b : Nat) : Int) := by
 have e1 : BitVec.ofInt 64 (a : Int) = BitVec.ofNat 64 a := by simp
 have e2 : BitVec.ofInt 64 (b : Int) = BitVec.ofNat 64 b := by simp
 have hle : a &&& b <= a := Nat.and_le_left
 have hm : (BitVec.ofNat 64 a &&& BitVec.ofNat 64 b).toNat = a &&& b := by
  simp [BitVec.toNat_and, Nat.mod_eq_of_lt (show a < 18446744073709551616 by omega), Nat.mod_eq_of_lt (show b < 18446744073709551616 by omega)]
 show IntKind.i64.wrap ((BitVec.ofInt 64 (a : Int) &&& BitVec.ofInt 64 (b : Int)).toNat : Int) = _
 rw [e1, e2, hm, IntWalk.i64_in _ (by omega)]
theorem and_mask (v : Int) (k m : Nat) (h0 : 0 <= v) (h1 : v < 16) (hm : m + 1 = 2 ^ k) (hk : m < 16) : (Go.bits .and .i64 v (m : Int) == 0) = decide (v % ((m + 1 : Nat) : Int) = 0) := by
 obtain ⟨n, rfl⟩ : ∃ n : Nat, v = n := ⟨v.toNat, by omega⟩
 rw [intBits_andR n m (by omega) (by omega)]
 have e : m = 2 ^ k - 1 := by omega
 have e2 : n &&& m = n % (m + 1) := by rw [hm, e, Nat.and_two_pow_sub_one_eq_mod]
 rw [e2, Bool.eq_iff_iff]
 simp
theorem behind_0 (v p : Int) (w : World) : Calls Tryz.prog 193 #[rtw v 4 p] w fun e w' => e = .returned (.int .i64 0) ∧ Below w.heap.size w w' := by
 go_enter Tryz.func193, Tryz.ntmps193
 go_wp2_with fail
 go_ret
 exact ⟨rfl, by go_grown⟩
theorem takes_x (v b p d m n : Int) (w : World) (hm : (m = 0 ∧ n = 1) ∨ (m = 1 ∧ n = 2) ∨ (m = 2 ∧ n = 4) ∨ (m = 3 ∧ n = 8) ∨ (m = 4 ∧ n = 16)) (BE : Hid (∀ w, Calls Tryz.prog 193 #[rtw v b p] w fun e w' => e = .returned (.int .i64 m) ∧ Below w.heap.size w w')) (E : Hid (takesB ⟨v, b, p⟩ d = (d / n == v / n))) : Calls Tryz.prog 230 #[rtw v b p, .int .i64 d] w fun e w' => e = .returned (.bool (takesB ⟨v, b, p⟩ d)) ∧ Below w.heap.size w w' := by
 have D0 := (Below.al (Below.refl w.heap.size w) (.cells #[.int .i64 v, .int .i64 b, .int .i64 p] 210)).drew
 have T0 := (three_new w (.int .i64 v) (.int .i64 b) (.int .i64 p) 210).drew
 rcases hm with ⟨rfl, rfl⟩ | ⟨rfl, rfl⟩ | ⟨rfl, rfl⟩ | ⟨rfl, rfl⟩ | ⟨rfl, rfl⟩
 all_goals
  go_enter Tryz.func230, Tryz.ntmps230
  go_wp2_with fail
  go_region_held3 (fun w' => w'.cell? ⟨w.heap.size, 0, none⟩ = some (.int .i64 v) ∧ w'.cell? ⟨w.heap.size, 1, none⟩ = some (.int .i64 b) ∧ w'.cell? ⟨w.heap.size, 2, none⟩ = some (.int .i64 p)) (exact Three.cells (n := w.heap.size) (by assumption))
   (first | (go_at_call 193; refine (BE.out _).mono ?_; rintro e wz ⟨rfl, hbz⟩; have Dz := chn hbz (by assumption); have Pz := keepThree (n := w.heap.size) hbz (Three.lt (by assumption)) (by assumption); clear hbz))
  go_wp2_with fail
  go_ret
  exact ⟨by rw [E.out]; simp, by assumption⟩
theorem behind_1 (v p : Int) (w : World) : Calls Tryz.prog 193 #[rtw v 3 p] w fun e w' => e = .returned (.int .i64 1) ∧ Below w.heap.size w w' := by
 go_enter Tryz.func193, Tryz.ntmps193
 go_wp2_with fail
 go_ret
 exact ⟨rfl, by go_grown⟩
theorem behind_2 (v p : Int) (w : World) : Calls Tryz.prog 193 #[rtw v 2 p] w fun e w' => e = .returned (.int .i64 2) ∧ Below w.heap.size w w' := by
 go_enter Tryz.func193, Tryz.ntmps193
 go_wp2_with fail
 go_ret
 exact ⟨rfl, by go_grown⟩
theorem behind_3 (v p : Int) (w : World) : Calls Tryz.prog 193 #[rtw v 1 p] w fun e w' => e = .returned (.int .i64 3) ∧ Below w.heap.size w w' := by
 go_enter Tryz.func193, Tryz.ntmps193
 go_wp2_with fail
 go_ret
 exact ⟨rfl, by go_grown⟩
theorem behind_4 (v p : Int) (w : World) : Calls Tryz.prog 193 #[rtw v 0 p] w fun e w' => e = .returned (.int .i64 4) ∧ Below w.heap.size w w' := by
 go_enter Tryz.func193, Tryz.ntmps193
 go_wp2_with fail
 go_ret
 exact ⟨rfl, by go_grown⟩
theorem isr_a (v b p : Int) (w : World) (h : decide (0 <= b) = false) : Calls Tryz.prog 166 #[rtw v b p] w fun e w' => e = .returned (.bool false) ∧ Below w.heap.size w w' := by
 have D0 := (Below.al (Below.refl w.heap.size w) (.cells #[.int .i64 v, .int .i64 b, .int .i64 p] 210)).drew
 have T0 := (three_new w (.int .i64 v) (.int .i64 b) (.int .i64 p) 210).drew
 go_enter Tryz.func166, Tryz.ntmps166
 go_wp2_with fail
 refine wp_region_held_drew (S := (fun w' => w'.cell? ⟨w.heap.size, 0, none⟩ = some (.int .i64 v) ∧ w'.cell? ⟨w.heap.size, 1, none⟩ = some (.int .i64 b) ∧ w'.cell? ⟨w.heap.size, 2, none⟩ = some (.int .i64 p))) (by kernel_rfl) (Three.cells (n := w.heap.size) (by assumption)) (fun hHeld => ?_)
 refine tk 0 ?_; try simp only [ly]
 refine tk 1 ?_; try simp only [ly]
 refine tk 2 ?_; try simp only [ly]
 refine tk 3 ?_; try simp only [ly]
 refine tk0 4 ?_; try simp only [ly]
 refine tk0 5 ?_; try simp only [ly]
 refine tk0 6 ?_; try simp only [ly]
 refine tk 7 ?_; try simp only [ly]
 refine tk 8 ?_; try simp only [ly]
 refine tk0 9 ?_; try simp only [ly]
 refine tk0 10 ?_; try simp only [ly]
 refine tk0 11 ?_; try simp only [ly]
 refine tk 12 ?_; try simp only [ly]
 refine tk 13 ?_; try simp only [ly]
 refine tk0 14 ?_; try simp only [ly]
 refine tk0 15 ?_; try simp only [ly]
 refine tk0 16 ?_; try simp only [ly]
 refine tk 17 ?_; try simp only [ly]
 refine tk 18 ?_; try simp only [ly]
 refine tk0 19 ?_; try simp only [ly]
 refine tk0 20 ?_; try simp only [ly]
 refine tk0 21 ?_; try simp only [ly]
 refine tk0 22 ?_; try simp only [ly]
 refine tk0 23 ?_; try simp only [ly]
 refine tk0 24 ?_; try simp only [ly]
 refine tk0 25 ?_; try simp only [ly]
 refine tk0 26 ?_; try simp only [ly]
 refine tk 27 ?_; try simp only [ly]
 refine tk 28 ?_; try simp only [ly]
 refine tk0 29 ?_; try simp only [ly]
 refine tk0 30 ?_; try simp only [ly]
 refine tk0 31 ?_; try simp only [ly]
 refine tk 32 ?_; try simp only [ly]
 refine tk 33 ?_; try simp only [ly]
 refine tk0 34 ?_; try simp only [ly]
 refine tk0 35 ?_; try simp only [ly]
 refine tk0 36 ?_; try simp only [ly]
 refine tk 37 ?_; try simp only [ly]
 refine tk 38 ?_; try simp only [ly]
 refine wpAnyH_done (by kernel_rfl) ?_ _
 go_wp2
 go_ret
 exact ⟨by simp, by assumption⟩
theorem isr_b (v b p : Int) (w : World) (h : decide (0 <= b) = true) (h1 : decide (b <= 4) = false) : Calls Tryz.prog 166 #[rtw v b p] w fun e w' => e = .returned (.bool false) ∧ Below w.heap.size w w' := by
 have D0 := (Below.al (Below.refl w.heap.size w) (.cells #[.int .i64 v, .int .i64 b, .int .i64 p] 210)).drew
 have T0 := (three_new w (.int .i64 v) (.int .i64 b) (.int .i64 p) 210).drew
 go_enter Tryz.func166, Tryz.ntmps166
 go_wp2_with fail
 refine wp_region_held_drew (S := (fun w' => w'.cell? ⟨w.heap.size, 0, none⟩ = some (.int .i64 v) ∧ w'.cell? ⟨w.heap.size, 1, none⟩ = some (.int .i64 b) ∧ w'.cell? ⟨w.heap.size, 2, none⟩ = some (.int .i64 p))) (by kernel_rfl) (Three.cells (n := w.heap.size) (by assumption)) (fun hHeld => ?_)
 refine tk 0 ?_; try simp only [ly]
 refine tk 1 ?_; try simp only [ly]
 refine tk 2 ?_; try simp only [ly]
 refine tk 3 ?_; try simp only [ly]
 refine tk 4 ?_; try simp only [ly]
 refine tk 5 ?_; try simp only [ly]
 refine tk 6 ?_; try simp only [ly]
 refine tk 7 ?_; try simp only [ly]
 refine tk 8 ?_; try simp only [ly]
 refine tk0 9 ?_; try simp only [ly]
 refine tk0 10 ?_; try simp only [ly]
 refine tk0 11 ?_; try simp only [ly]
 refine tk 12 ?_; try simp only [ly]
 refine tk 13 ?_; try simp only [ly]
 refine tk0 14 ?_; try simp only [ly]
 refine tk0 15 ?_; try simp only [ly]
 refine tk0 16 ?_; try simp only [ly]
 refine tk 17 ?_; try simp only [ly]
 refine tk 18 ?_; try simp only [ly]
 refine tk0 19 ?_; try simp only [ly]
 refine tk0 20 ?_; try simp only [ly]
 refine tk0 21 ?_; try simp only [ly]
 refine tk0 22 ?_; try simp only [ly]
 refine tk0 23 ?_; try simp only [ly]
 refine tk0 24 ?_; try simp only [ly]
 refine tk0 25 ?_; try simp only [ly]
 refine tk0 26 ?_; try simp only [ly]
 refine tk 27 ?_; try simp only [ly]
 refine tk 28 ?_; try simp only [ly]
 refine tk0 29 ?_; try simp only [ly]
 refine tk0 30 ?_; try simp only [ly]
 refine tk0 31 ?_; try simp only [ly]
 refine tk 32 ?_; try simp only [ly]
 refine tk 33 ?_; try simp only [ly]
 refine tk0 34 ?_; try simp only [ly]
 refine tk0 35 ?_; try simp only [ly]
 refine tk0 36 ?_; try simp only [ly]
 refine tk 37 ?_; try simp only [ly]
 refine tk 38 ?_; try simp only [ly]
 refine wpAnyH_done (by kernel_rfl) ?_ _
 go_wp2
 go_ret
 exact ⟨by simp, by assumption⟩
theorem isr_c (v b p : Int) (w : World) (h : decide (0 <= b) = true) (h1 : decide (b <= 4) = true) (h2 : decide (0 <= v) = false) : Calls Tryz.prog 166 #[rtw v b p] w fun e w' => e = .returned (.bool false) ∧ Below w.heap.size w w' := by
 have D0 := (Below.al (Below.refl w.heap.size w) (.cells #[.int .i64 v, .int .i64 b, .int .i64 p] 210)).drew
 have T0 := (three_new w (.int .i64 v) (.int .i64 b) (.int .i64 p) 210).drew
 go_enter Tryz.func166, Tryz.ntmps166
 go_wp2_with fail
 refine wp_region_held_drew (S := (fun w' => w'.cell? ⟨w.heap.size, 0, none⟩ = some (.int .i64 v) ∧ w'.cell? ⟨w.heap.size, 1, none⟩ = some (.int .i64 b) ∧ w'.cell? ⟨w.heap.size, 2, none⟩ = some (.int .i64 p))) (by kernel_rfl) (Three.cells (n := w.heap.size) (by assumption)) (fun hHeld => ?_)
 refine tk 0 ?_; try simp only [ly]
 refine tk 1 ?_; try simp only [ly]
 refine tk 2 ?_; try simp only [ly]
 refine tk 3 ?_; try simp only [ly]
 refine tk 4 ?_; try simp only [ly]
 refine tk 5 ?_; try simp only [ly]
 refine tk 6 ?_; try simp only [ly]
 refine tk 7 ?_; try simp only [ly]
 refine tk 8 ?_; try simp only [ly]
 refine tk 9 ?_; try simp only [ly]
 refine tk 10 ?_; try simp only [ly]
 refine tk 11 ?_; try simp only [ly]
 refine tk 12 ?_; try simp only [ly]
 refine tk 13 ?_; try simp only [ly]
 refine tk0 14 ?_; try simp only [ly]
 refine tk0 15 ?_; try simp only [ly]
 refine tk0 16 ?_; try simp only [ly]
 refine tk 17 ?_; try simp only [ly]
 refine tk 18 ?_; try simp only [ly]
 refine tk0 19 ?_; try simp only [ly]
 refine tk0 20 ?_; try simp only [ly]
 refine tk0 21 ?_; try simp only [ly]
 refine tk0 22 ?_; try simp only [ly]
 refine tk0 23 ?_; try simp only [ly]
 refine tk0 24 ?_; try simp only [ly]
 refine tk0 25 ?_; try simp only [ly]
 refine tk0 26 ?_; try simp only [ly]
 refine tk 27 ?_; try simp only [ly]
 refine tk 28 ?_; try simp only [ly]
 refine tk0 29 ?_; try simp only [ly]
 refine tk0 30 ?_; try simp only [ly]
 refine tk0 31 ?_; try simp only [ly]
 refine tk 32 ?_; try simp only [ly]
 refine tk 33 ?_; try simp only [ly]
 refine tk0 34 ?_; try simp only [ly]
 refine tk0 35 ?_; try simp only [ly]
 refine tk0 36 ?_; try simp only [ly]
 refine tk 37 ?_; try simp only [ly]
 refine tk 38 ?_; try simp only [ly]
 refine wpAnyH_done (by kernel_rfl) ?_ _
 go_wp2
 go_ret
 exact ⟨by simp, by assumption⟩
theorem isr_d (v b p : Int) (w : World) (h : decide (0 <= b) = true) (h1 : decide (b <= 4) = true) (h2 : decide (0 <= v) = true) (h3 : decide (v < 16) = false) : Calls Tryz.prog 166 #[rtw v b p] w fun e w' => e = .returned (.bool false) ∧ Below w.heap.size w w' := by
 have D0 := (Below.al (Below.refl w.heap.size w) (.cells #[.int .i64 v, .int .i64 b, .int .i64 p] 210)).drew
 have T0 := (three_new w (.int .i64 v) (.int .i64 b) (.int .i64 p) 210).drew
 go_enter Tryz.func166, Tryz.ntmps166
 go_wp2_with fail
 refine wp_region_held_drew (S := (fun w' => w'.cell? ⟨w.heap.size, 0, none⟩ = some (.int .i64 v) ∧ w'.cell? ⟨w.heap.size, 1, none⟩ = some (.int .i64 b) ∧ w'.cell? ⟨w.heap.size, 2, none⟩ = some (.int .i64 p))) (by kernel_rfl) (Three.cells (n := w.heap.size) (by assumption)) (fun hHeld => ?_)
 refine tk 0 ?_; try simp only [ly]
 refine tk 1 ?_; try simp only [ly]
 refine tk 2 ?_; try simp only [ly]
 refine tk 3 ?_; try simp only [ly]
 refine tk 4 ?_; try simp only [ly]
 refine tk 5 ?_; try simp only [ly]
 refine tk 6 ?_; try simp only [ly]
 refine tk 7 ?_; try simp only [ly]
 refine tk 8 ?_; try simp only [ly]
 refine tk 9 ?_; try simp only [ly]
 refine tk 10 ?_; try simp only [ly]
 refine tk 11 ?_; try simp only [ly]
 refine tk 12 ?_; try simp only [ly]
 refine tk 13 ?_; try simp only [ly]
 refine tk 14 ?_; try simp only [ly]
 refine tk 15 ?_; try simp only [ly]
 refine tk 16 ?_; try simp only [ly]
 refine tk 17 ?_; try simp only [ly]
 refine tk 18 ?_; try simp only [ly]
 refine tk0 19 ?_; try simp only [ly]
 refine tk0 20 ?_; try simp only [ly]
 refine tk0 21 ?_; try simp only [ly]
 refine tk0 22 ?_; try simp only [ly]
 refine tk0 23 ?_; try simp only [ly]
 refine tk0 24 ?_; try simp only [ly]
 refine tk0 25 ?_; try simp only [ly]
 refine tk0 26 ?_; try simp only [ly]
 refine tk 27 ?_; try simp only [ly]
 refine tk 28 ?_; try simp only [ly]
 refine tk0 29 ?_; try simp only [ly]
 refine tk0 30 ?_; try simp only [ly]
 refine tk0 31 ?_; try simp only [ly]
 refine tk 32 ?_; try simp only [ly]
 refine tk 33 ?_; try simp only [ly]
 refine tk0 34 ?_; try simp only [ly]
 refine tk0 35 ?_; try simp only [ly]
 refine tk0 36 ?_; try simp only [ly]
 refine tk 37 ?_; try simp only [ly]
 refine tk 38 ?_; try simp only [ly]
 refine wpAnyH_done (by kernel_rfl) ?_ _
 go_wp2
 go_ret
 exact ⟨by simp, by assumption⟩
theorem isr_e (v b p m n : Int) (w : World) (h0 : decide (0 ≤ b) = true) (h1 : decide (b ≤ 4) = true) (h2 : decide (0 <= v) = true) (h3 : decide (v < 16) = true) (hm : (m = 0 ∧ n = 1) ∨ (m = 1 ∧ n = 2) ∨ (m = 2 ∧ n = 4) ∨ (m = 3 ∧ n = 8) ∨ (m = 4 ∧ n = 16)) (BE : Hid (∀ w, Calls Tryz.prog 193 #[rtw v b p] w fun e w' => e = .returned (.int .i64 m) ∧ Below w.heap.size w w')) (h4 : (Go.bits .and .i64 v (IntKind.i64.wrap (IntKind.i64.wrap n - 1)) == 0) = false) : Calls Tryz.prog 166 #[rtw v b p] w fun e w' => e = .returned (.bool false) ∧ Below w.heap.size w w' := by
 have D0 := (Below.al (Below.refl w.heap.size w) (.cells #[.int .i64 v, .int .i64 b, .int .i64 p] 210)).drew
 have T0 := (three_new w (.int .i64 v) (.int .i64 b) (.int .i64 p) 210).drew
 rcases hm with ⟨rfl, rfl⟩ | ⟨rfl, rfl⟩ | ⟨rfl, rfl⟩ | ⟨rfl, rfl⟩ | ⟨rfl, rfl⟩
 all_goals
  go_enter Tryz.func166, Tryz.ntmps166
  go_wp2_with fail
  refine wp_region_held_drew (S := (fun w' => w'.cell? ⟨w.heap.size, 0, none⟩ = some (.int .i64 v) ∧ w'.cell? ⟨w.heap.size, 1, none⟩ = some (.int .i64 b) ∧ w'.cell? ⟨w.heap.size, 2, none⟩ = some (.int .i64 p))) (by kernel_rfl) (Three.cells (n := w.heap.size) (by assumption)) (fun hHeld => ?_)
  refine tk 0 ?_; try simp only [ly]
  refine tk 1 ?_; try simp only [ly]
  refine tk 2 ?_; try simp only [ly]
  refine tk 3 ?_; try simp only [ly]
  refine tk 4 ?_; try simp only [ly]
  refine tk 5 ?_; try simp only [ly]
  refine tk 6 ?_; try simp only [ly]
  refine tk 7 ?_; try simp only [ly]
  refine tk 8 ?_; try simp only [ly]
  refine tk 9 ?_; try simp only [ly]
  refine tk 10 ?_; try simp only [ly]
  refine tk 11 ?_; try simp only [ly]
  refine tk 12 ?_; try simp only [ly]
  refine tk 13 ?_; try simp only [ly]
  refine tk 14 ?_; try simp only [ly]
  refine tk 15 ?_; try simp only [ly]
  refine tk 16 ?_; try simp only [ly]
  refine tk 17 ?_; try simp only [ly]
  refine tk 18 ?_; try simp only [ly]
  refine tk 19 ?_; try simp only [ly]
  refine tk 20 ?_; try simp only [ly]
  refine tk 21 ?_; try simp only [ly]
  refine rd 22 (fun K hK => ?_)
  go_simp
  refine (BE.out _).mono ?_; rintro e wz ⟨rfl, hbz⟩; have Dz := chn hbz (by assumption); have Pz := keepThree (n := w.heap.size) hbz (Three.lt (by assumption)) (by assumption); clear hbz
  try go_wp2_with fail
  clear hHeld
  refine hK.out _ _ (Three.cells (n := w.heap.size) (by assumption)) (fun hHeld => ?_)
  clear hK K
  try simp only [ly]
  refine tk 23 ?_; try simp only [ly]
  refine tk 24 ?_; try simp only [ly]
  refine tk 25 ?_; try simp only [ly]
  refine tk 26 ?_; try simp only [ly]
  refine tk 27 ?_; try simp only [ly]
  refine tk 28 ?_; try simp only [ly]
  refine tk0 29 ?_; try simp only [ly]
  refine tk0 30 ?_; try simp only [ly]
  refine tk0 31 ?_; try simp only [ly]
  refine tk 32 ?_; try simp only [ly]
  refine tk 33 ?_; try simp only [ly]
  refine tk0 34 ?_; try simp only [ly]
  refine tk0 35 ?_; try simp only [ly]
  refine tk0 36 ?_; try simp only [ly]
  refine tk 37 ?_; try simp only [ly]
  refine tk 38 ?_; try simp only [ly]
  refine wpAnyH_done (by kernel_rfl) ?_ _
  go_wp2
  go_ret
  exact ⟨by simp, by assumption⟩
theorem isr_f (v b p m n : Int) (w : World) (h0 : decide (0 ≤ b) = true) (h1 : decide (b ≤ 4) = true) (h2 : decide (0 <= v) = true) (h3 : decide (v < 16) = true) (hm : (m = 0 ∧ n = 1) ∨ (m = 1 ∧ n = 2) ∨ (m = 2 ∧ n = 4) ∨ (m = 3 ∧ n = 8) ∨ (m = 4 ∧ n = 16)) (BE : Hid (∀ w, Calls Tryz.prog 193 #[rtw v b p] w fun e w' => e = .returned (.int .i64 m) ∧ Below w.heap.size w w')) (h4 : (Go.bits .and .i64 v (IntKind.i64.wrap (IntKind.i64.wrap n - 1)) == 0) = true) (h5 : decide (0 <= p) = false) : Calls Tryz.prog 166 #[rtw v b p] w fun e w' => e = .returned (.bool false) ∧ Below w.heap.size w w' := by
 have D0 := (Below.al (Below.refl w.heap.size w) (.cells #[.int .i64 v, .int .i64 b, .int .i64 p] 210)).drew
 have T0 := (three_new w (.int .i64 v) (.int .i64 b) (.int .i64 p) 210).drew
 rcases hm with ⟨rfl, rfl⟩ | ⟨rfl, rfl⟩ | ⟨rfl, rfl⟩ | ⟨rfl, rfl⟩ | ⟨rfl, rfl⟩
 all_goals
  go_enter Tryz.func166, Tryz.ntmps166
  go_wp2_with fail
  refine wp_region_held_drew (S := (fun w' => w'.cell? ⟨w.heap.size, 0, none⟩ = some (.int .i64 v) ∧ w'.cell? ⟨w.heap.size, 1, none⟩ = some (.int .i64 b) ∧ w'.cell? ⟨w.heap.size, 2, none⟩ = some (.int .i64 p))) (by kernel_rfl) (Three.cells (n := w.heap.size) (by assumption)) (fun hHeld => ?_)
  refine tk 0 ?_; try simp only [ly]
  refine tk 1 ?_; try simp only [ly]
  refine tk 2 ?_; try simp only [ly]
  refine tk 3 ?_; try simp only [ly]
  refine tk 4 ?_; try simp only [ly]
  refine tk 5 ?_; try simp only [ly]
  refine tk 6 ?_; try simp only [ly]
  refine tk 7 ?_; try simp only [ly]
  refine tk 8 ?_; try simp only [ly]
  refine tk 9 ?_; try simp only [ly]
  refine tk 10 ?_; try simp only [ly]
  refine tk 11 ?_; try simp only [ly]
  refine tk 12 ?_; try simp only [ly]
  refine tk 13 ?_; try simp only [ly]
  refine tk 14 ?_; try simp only [ly]
  refine tk 15 ?_; try simp only [ly]
  refine tk 16 ?_; try simp only [ly]
  refine tk 17 ?_; try simp only [ly]
  refine tk 18 ?_; try simp only [ly]
  refine tk 19 ?_; try simp only [ly]
  refine tk 20 ?_; try simp only [ly]
  refine tk 21 ?_; try simp only [ly]
  refine rd 22 (fun K hK => ?_)
  go_simp
  refine (BE.out _).mono ?_; rintro e wz ⟨rfl, hbz⟩; have Dz := chn hbz (by assumption); have Pz := keepThree (n := w.heap.size) hbz (Three.lt (by assumption)) (by assumption); clear hbz
  try go_wp2_with fail
  clear hHeld
  refine hK.out _ _ (Three.cells (n := w.heap.size) (by assumption)) (fun hHeld => ?_)
  clear hK K
  try simp only [ly]
  refine tk 23 ?_; try simp only [ly]
  refine tk 24 ?_; try simp only [ly]
  refine tk 25 ?_; try simp only [ly]
  refine tk 26 ?_; try simp only [ly]
  refine tk 27 ?_; try simp only [ly]
  refine tk 28 ?_; try simp only [ly]
  refine tk 29 ?_; try simp only [ly]
  refine tk 30 ?_; try simp only [ly]
  refine tk 31 ?_; try simp only [ly]
  refine tk 32 ?_; try simp only [ly]
  refine tk 33 ?_; try simp only [ly]
  refine tk0 34 ?_; try simp only [ly]
  refine tk0 35 ?_; try simp only [ly]
  refine tk0 36 ?_; try simp only [ly]
  refine tk 37 ?_; try simp only [ly]
  refine tk 38 ?_; try simp only [ly]
  refine wpAnyH_done (by kernel_rfl) ?_ _
  go_wp2
  go_ret
  exact ⟨by simp, by assumption⟩
theorem isr_g (v b p m n : Int) (w : World) (h0 : decide (0 ≤ b) = true) (h1 : decide (b ≤ 4) = true) (h2 : decide (0 <= v) = true) (h3 : decide (v < 16) = true) (hm : (m = 0 ∧ n = 1) ∨ (m = 1 ∧ n = 2) ∨ (m = 2 ∧ n = 4) ∨ (m = 3 ∧ n = 8) ∨ (m = 4 ∧ n = 16)) (BE : Hid (∀ w, Calls Tryz.prog 193 #[rtw v b p] w fun e w' => e = .returned (.int .i64 m) ∧ Below w.heap.size w w')) (h4 : (Go.bits .and .i64 v (IntKind.i64.wrap (IntKind.i64.wrap n - 1)) == 0) = true) (h5 : decide (0 <= p) = true) : Calls Tryz.prog 166 #[rtw v b p] w fun e w' => e = .returned (.bool (decide (p < 4))) ∧ Below w.heap.size w w' := by
 have D0 := (Below.al (Below.refl w.heap.size w) (.cells #[.int .i64 v, .int .i64 b, .int .i64 p] 210)).drew
 have T0 := (three_new w (.int .i64 v) (.int .i64 b) (.int .i64 p) 210).drew
 rcases hm with ⟨rfl, rfl⟩ | ⟨rfl, rfl⟩ | ⟨rfl, rfl⟩ | ⟨rfl, rfl⟩ | ⟨rfl, rfl⟩
 all_goals
  go_enter Tryz.func166, Tryz.ntmps166
  go_wp2_with fail
  refine wp_region_held_drew (S := (fun w' => w'.cell? ⟨w.heap.size, 0, none⟩ = some (.int .i64 v) ∧ w'.cell? ⟨w.heap.size, 1, none⟩ = some (.int .i64 b) ∧ w'.cell? ⟨w.heap.size, 2, none⟩ = some (.int .i64 p))) (by kernel_rfl) (Three.cells (n := w.heap.size) (by assumption)) (fun hHeld => ?_)
  refine tk 0 ?_; try simp only [ly]
  refine tk 1 ?_; try simp only [ly]
  refine tk 2 ?_; try simp only [ly]
  refine tk 3 ?_; try simp only [ly]
  refine tk 4 ?_; try simp only [ly]
  refine tk 5 ?_; try simp only [ly]
  refine tk 6 ?_; try simp only [ly]
  refine tk 7 ?_; try simp only [ly]
  refine tk 8 ?_; try simp only [ly]
  refine tk 9 ?_; try simp only [ly]
  refine tk 10 ?_; try simp only [ly]
  refine tk 11 ?_; try simp only [ly]
  refine tk 12 ?_; try simp only [ly]
  refine tk 13 ?_; try simp only [ly]
  refine tk 14 ?_; try simp only [ly]
  refine tk 15 ?_; try simp only [ly]
  refine tk 16 ?_; try simp only [ly]
  refine tk 17 ?_; try simp only [ly]
  refine tk 18 ?_; try simp only [ly]
  refine tk 19 ?_; try simp only [ly]
  refine tk 20 ?_; try simp only [ly]
  refine tk 21 ?_; try simp only [ly]
  refine rd 22 (fun K hK => ?_)
  go_simp
  refine (BE.out _).mono ?_; rintro e wz ⟨rfl, hbz⟩; have Dz := chn hbz (by assumption); have Pz := keepThree (n := w.heap.size) hbz (Three.lt (by assumption)) (by assumption); clear hbz
  try go_wp2_with fail
  clear hHeld
  refine hK.out _ _ (Three.cells (n := w.heap.size) (by assumption)) (fun hHeld => ?_)
  clear hK K
  try simp only [ly]
  refine tk 23 ?_; try simp only [ly]
  refine tk 24 ?_; try simp only [ly]
  refine tk 25 ?_; try simp only [ly]
  refine tk 26 ?_; try simp only [ly]
  refine tk 27 ?_; try simp only [ly]
  refine tk 28 ?_; try simp only [ly]
  refine tk 29 ?_; try simp only [ly]
  refine tk 30 ?_; try simp only [ly]
  refine tk 31 ?_; try simp only [ly]
  refine tk 32 ?_; try simp only [ly]
  refine tk 33 ?_; try simp only [ly]
  refine tk 34 ?_; try simp only [ly]
  refine tk 35 ?_; try simp only [ly]
  refine tk 36 ?_; try simp only [ly]
  refine tk 37 ?_; try simp only [ly]
  refine tk 38 ?_; try simp only [ly]
  refine wpAnyH_done (by kernel_rfl) ?_ _
  go_wp2
  go_ret
  exact ⟨by simp, by assumption⟩
theorem isr_0 (v p : Int) (w : World) (h2 : decide (0 <= v) = true) (h3 : decide (v < 16) = true) : Calls Tryz.prog 166 #[rtw v 4 p] w fun e w' => e = .returned (.bool (isR ⟨v, 4, p⟩)) ∧ Below w.heap.size w w' := by
 have hm := and_mask v 0 0 (of_decide_eq_true h2) (of_decide_eq_true h3) (by decide) (by decide)
 have e : isR ⟨v, 4, p⟩ = ((Go.bits .and .i64 v (IntKind.i64.wrap (IntKind.i64.wrap 1 - 1)) == 0) && decide (0 <= p) && decide (p < 4)) := by
  rw [show IntKind.i64.wrap (IntKind.i64.wrap 1 - 1) = ((0 : Nat) : Int) from rfl, hm]
  show (decide ((0 : Int) <= 4) && decide ((4 : Int) <= 4) && decide (0 <= v) && decide (v < 16) && decide (v % 1 = 0) && decide (0 <= p) && decide (p < 4)) = (decide (v % 1 = 0) && decide (0 <= p) && decide (p < 4))
  rw [h2, h3]
  simp
 rw [e]
 cases h4 : (Go.bits .and .i64 v (IntKind.i64.wrap (IntKind.i64.wrap 1 - 1)) == 0)
 ·exact isr_e v 4 p 0 1 w rfl rfl h2 h3 (by simp) (fun w => behind_0 v p w) h4
 cases h5 : decide (0 <= p)
 ·exact isr_f v 4 p 0 1 w rfl rfl h2 h3 (by simp) (fun w => behind_0 v p w) h4 h5
 ·exact isr_g v 4 p 0 1 w rfl rfl h2 h3 (by simp) (fun w => behind_0 v p w) h4 h5
theorem isr_1 (v p : Int) (w : World) (h2 : decide (0 <= v) = true) (h3 : decide (v < 16) = true) : Calls Tryz.prog 166 #[rtw v 3 p] w fun e w' => e = .returned (.bool (isR ⟨v, 3, p⟩)) ∧ Below w.heap.size w w' := by
 have hm := and_mask v 1 1 (of_decide_eq_true h2) (of_decide_eq_true h3) (by decide) (by decide)
 have e : isR ⟨v, 3, p⟩ = ((Go.bits .and .i64 v (IntKind.i64.wrap (IntKind.i64.wrap 2 - 1)) == 0) && decide (0 <= p) && decide (p < 4)) := by
  rw [show IntKind.i64.wrap (IntKind.i64.wrap 2 - 1) = ((1 : Nat) : Int) from rfl, hm]
  show (decide ((0 : Int) <= 3) && decide ((3 : Int) <= 4) && decide (0 <= v) && decide (v < 16) && decide (v % 2 = 0) && decide (0 <= p) && decide (p < 4)) = (decide (v % 2 = 0) && decide (0 <= p) && decide (p < 4))
  rw [h2, h3]
  simp
 rw [e]
 cases h4 : (Go.bits .and .i64 v (IntKind.i64.wrap (IntKind.i64.wrap 2 - 1)) == 0)
 ·exact isr_e v 3 p 1 2 w rfl rfl h2 h3 (by simp) (fun w => behind_1 v p w) h4
 cases h5 : decide (0 <= p)
 ·exact isr_f v 3 p 1 2 w rfl rfl h2 h3 (by simp) (fun w => behind_1 v p w) h4 h5
 ·exact isr_g v 3 p 1 2 w rfl rfl h2 h3 (by simp) (fun w => behind_1 v p w) h4 h5
theorem isr_2 (v p : Int) (w : World) (h2 : decide (0 <= v) = true) (h3 : decide (v < 16) = true) : Calls Tryz.prog 166 #[rtw v 2 p] w fun e w' => e = .returned (.bool (isR ⟨v, 2, p⟩)) ∧ Below w.heap.size w w' := by
 have hm := and_mask v 2 3 (of_decide_eq_true h2) (of_decide_eq_true h3) (by decide) (by decide)
 have e : isR ⟨v, 2, p⟩ = ((Go.bits .and .i64 v (IntKind.i64.wrap (IntKind.i64.wrap 4 - 1)) == 0) && decide (0 <= p) && decide (p < 4)) := by
  rw [show IntKind.i64.wrap (IntKind.i64.wrap 4 - 1) = ((3 : Nat) : Int) from rfl, hm]
  show (decide ((0 : Int) <= 2) && decide ((2 : Int) <= 4) && decide (0 <= v) && decide (v < 16) && decide (v % 4 = 0) && decide (0 <= p) && decide (p < 4)) = (decide (v % 4 = 0) && decide (0 <= p) && decide (p < 4))
  rw [h2, h3]
  simp
 rw [e]
 cases h4 : (Go.bits .and .i64 v (IntKind.i64.wrap (IntKind.i64.wrap 4 - 1)) == 0)
 ·exact isr_e v 2 p 2 4 w rfl rfl h2 h3 (by simp) (fun w => behind_2 v p w) h4
 cases h5 : decide (0 <= p)
 ·exact isr_f v 2 p 2 4 w rfl rfl h2 h3 (by simp) (fun w => behind_2 v p w) h4 h5
 ·exact isr_g v 2 p 2 4 w rfl rfl h2 h3 (by simp) (fun w => behind_2 v p w) h4 h5
theorem isr_3 (v p : Int) (w : World) (h2 : decide (0 <= v) = true) (h3 : decide (v < 16) = true) : Calls Tryz.prog 166 #[rtw v 1 p] w fun e w' => e = .returned (.bool (isR ⟨v, 1, p⟩)) ∧ Below w.heap.size w w' := by
 have hm := and_mask v 3 7 (of_decide_eq_true h2) (of_decide_eq_true h3) (by decide) (by decide)
 have e : isR ⟨v, 1, p⟩ = ((Go.bits .and .i64 v (IntKind.i64.wrap (IntKind.i64.wrap 8 - 1)) == 0) && decide (0 <= p) && decide (p < 4)) := by
  rw [show IntKind.i64.wrap (IntKind.i64.wrap 8 - 1) = ((7 : Nat) : Int) from rfl, hm]
  show (decide ((0 : Int) <= 1) && decide ((1 : Int) <= 4) && decide (0 <= v) && decide (v < 16) && decide (v % 8 = 0) && decide (0 <= p) && decide (p < 4)) = (decide (v % 8 = 0) && decide (0 <= p) && decide (p < 4))
  rw [h2, h3]
  simp
 rw [e]
 cases h4 : (Go.bits .and .i64 v (IntKind.i64.wrap (IntKind.i64.wrap 8 - 1)) == 0)
 ·exact isr_e v 1 p 3 8 w rfl rfl h2 h3 (by simp) (fun w => behind_3 v p w) h4
 cases h5 : decide (0 <= p)
 ·exact isr_f v 1 p 3 8 w rfl rfl h2 h3 (by simp) (fun w => behind_3 v p w) h4 h5
 ·exact isr_g v 1 p 3 8 w rfl rfl h2 h3 (by simp) (fun w => behind_3 v p w) h4 h5
theorem isr_4 (v p : Int) (w : World) (h2 : decide (0 <= v) = true) (h3 : decide (v < 16) = true) : Calls Tryz.prog 166 #[rtw v 0 p] w fun e w' => e = .returned (.bool (isR ⟨v, 0, p⟩)) ∧ Below w.heap.size w w' := by
 have hm := and_mask v 4 15 (of_decide_eq_true h2) (of_decide_eq_true h3) (by decide) (by decide)
 have e : isR ⟨v, 0, p⟩ = ((Go.bits .and .i64 v (IntKind.i64.wrap (IntKind.i64.wrap 16 - 1)) == 0) && decide (0 <= p) && decide (p < 4)) := by
  rw [show IntKind.i64.wrap (IntKind.i64.wrap 16 - 1) = ((15 : Nat) : Int) from rfl, hm]
  show (decide ((0 : Int) <= 0) && decide ((0 : Int) <= 4) && decide (0 <= v) && decide (v < 16) && decide (v % 16 = 0) && decide (0 <= p) && decide (p < 4)) = (decide (v % 16 = 0) && decide (0 <= p) && decide (p < 4))
  rw [h2, h3]
  simp
 rw [e]
 cases h4 : (Go.bits .and .i64 v (IntKind.i64.wrap (IntKind.i64.wrap 16 - 1)) == 0)
 ·exact isr_e v 0 p 4 16 w rfl rfl h2 h3 (by simp) (fun w => behind_4 v p w) h4
 cases h5 : decide (0 <= p)
 ·exact isr_f v 0 p 4 16 w rfl rfl h2 h3 (by simp) (fun w => behind_4 v p w) h4 h5
 ·exact isr_g v 0 p 4 16 w rfl rfl h2 h3 (by simp) (fun w => behind_4 v p w) h4 h5
theorem isRoute_any (r : Rt) (w : World) : Calls Tryz.prog 166 #[rtv r] w fun e w' => e = .returned (.bool (isR r)) ∧ Below w.heap.size w w' := by
 obtain ⟨v, b, p⟩ := r
 cases h : decide (0 <= b)
 ·rw [show isR ⟨v, b, p⟩ = false by simp [isR, h]]
  exact isr_a v b p w h
 cases h1 : decide (b <= 4)
 ·rw [show isR ⟨v, b, p⟩ = false by simp [isR, h1]]
  exact isr_b v b p w h h1
 cases h2 : decide (0 <= v)
 ·rw [show isR ⟨v, b, p⟩ = false by simp [isR, h2]]
  exact isr_c v b p w h h1 h2
 cases h3 : decide (v < 16)
 ·rw [show isR ⟨v, b, p⟩ = false by simp [isR, h3]]
  exact isr_d v b p w h h1 h2 h3
 have hb : b = 0 ∨ b = 1 ∨ b = 2 ∨ b = 3 ∨ b = 4 := by
  have := of_decide_eq_true h
  have := of_decide_eq_true h1
  omega
 rcases hb with rfl | rfl | rfl | rfl | rfl
 ·exact isr_4 v p w h2 h3
 ·exact isr_3 v p w h2 h3
 ·exact isr_2 v p w h2 h3
 ·exact isr_1 v p w h2 h3
 ·exact isr_0 v p w h2 h3
theorem takes_any (r : Rt) (d : Int) (w : World) (hr : isR r = true) : Calls Tryz.prog 230 #[rtv r, .int .i64 d] w fun e w' => e = .returned (.bool (takesB r d)) ∧ Below w.heap.size w w' := by
 have h1 := isR_bits hr
 obtain ⟨v, b, p⟩ := r
 simp only at h1
 have hb : b = 0 ∨ b = 1 ∨ b = 2 ∨ b = 3 ∨ b = 4 := by omega
 rcases hb with rfl | rfl | rfl | rfl | rfl
 ·exact takes_x v 0 p d 4 16 w (by simp) (fun w => behind_4 v p w) (by show decide (d / 16 = v / 16) = _; rw [Bool.eq_iff_iff]; simp)
 ·exact takes_x v 1 p d 3 8 w (by simp) (fun w => behind_3 v p w) (by show decide (d / 8 = v / 8) = _; rw [Bool.eq_iff_iff]; simp)
 ·exact takes_x v 2 p d 2 4 w (by simp) (fun w => behind_2 v p w) (by show decide (d / 4 = v / 4) = _; rw [Bool.eq_iff_iff]; simp)
 ·exact takes_x v 3 p d 1 2 w (by simp) (fun w => behind_1 v p w) (by show decide (d / 2 = v / 2) = _; rw [Bool.eq_iff_iff]; simp)
 ·exact takes_x v 4 p d 0 1 w (by simp) (fun w => behind_0 v p w) (by show decide (d / 1 = v / 1) = _; rw [Bool.eq_iff_iff]; simp)
theorem belowN {B : Nat} {a w : World} (h : Below B a w) (n : Nat) : Below B a (w.drewN n) := h.trans ⟨rfl, rfl, rfl, Nat.le_refl _, fun _ _ => rfl⟩
def BoxR (w : World) (n : Nat) (v m p : Int) : Prop := Three w n (.int .i64 v) (.int .i64 m) (.int .i64 p) ∧ w.frozen? ⟨n, 0, none⟩ = false ∧ w.frozen? ⟨n, 1, none⟩ = false ∧ w.frozen? ⟨n, 2, none⟩ = false
theorem BoxR.below {B : Nat} {W w' : World} {n : Nat} {v m p : Int} (h : BoxR W n v m p) (hb : Below B W w') (hB : n < B) : BoxR w' n v m p :=
 ⟨keepThree hb hB h.1, (hb.frozen (p := ⟨n, 0, none⟩) hB).trans h.2.1, (hb.frozen (p := ⟨n, 1, none⟩) hB).trans h.2.2.1, (hb.frozen (p := ⟨n, 2, none⟩) hB).trans h.2.2.2⟩
theorem BoxR.alloc {w : World} {n : Nat} {v m p : Int} (h : BoxR w n v m p) (o : Obj) : BoxR (w.alloc o) n v m p := h.below ((Below.refl _ _).alloc (Nat.le_refl _) o) h.1.1
theorem box_new (w : World) (v m p : Int) (t : TypeId) : BoxR (w.alloc (.cells #[.int .i64 v, .int .i64 m, .int .i64 p] t)) w.heap.size v m p :=
 ⟨three_new w _ _ _ t, by simp [go_sem], by simp [go_sem], by simp [go_sem]⟩
theorem setBoxR {w : World} {n : Nat} {v m p : Int} (h : BoxR w n v m p) (x y z : Int) :
  BoxR (((w.setCell ⟨n, 0, none⟩ (.int .i64 x)).setCell ⟨n, 1, none⟩ (.int .i64 y)).setCell ⟨n, 2, none⟩ (.int .i64 z)) n x y z := by
 obtain ⟨⟨h0, h1, h2, h3⟩, k1, k2, k3⟩ := h
 refine ⟨⟨by simpa using h0, ?_, ?_, ?_⟩, ?_, ?_, ?_⟩ <;> simp [go_sem, h1, h2, h3, k1, k2, k3]
theorem out_row (b o cap : Nat) (xs : List Rt) (d : Int) (w : World) (hb : b < w.heap.size) (hn : xs.length <= cap) (hcap : cap <= maxLen) (hr : Hid (TAt w b o xs)) (h0 : 0 <= d) (h1 : d < 16) :
  Calls Tryz.prog 226 #[.slice (some ⟨b, o, none⟩) xs.length cap, .int .i64 d] w fun e w' => e = .returned (.tuple #[.int .i64 (bestOf xs d).2, .bool (!((bestOf xs d).1 == -1))]) ∧ Below w.heap.size w w' := by
 unfold maxLen at hcap
 have t1 : decide (d < 0) = false := by simp; omega
 have t2 : decide (16 <= d) = false := by simp; omega
 have D0 := Below.al (Below.refl w.heap.size w) (.cells #[.int .i64 0, .int .i64 (-1), .int .i64 0] 210)
 have B0 := box_new w 0 (-1) 0 210
 clear h0 h1
 go_enter Tryz.func226, Tryz.ntmps226
 go_wp2_with fail
 go_loopw [18] (fun i wr => ∃ k : Nat, ∃ v m p : Int, i = .int .i64 (k : Int) ∧ k <= xs.length ∧ Below w.heap.size w wr ∧ BoxR wr w.heap.size v m p ∧ Hid (bestOf (xs.take k) d = (m, p))) (fun i _ => xs.length - (intOf i).toNat)
 case atStart => exact ⟨0, 0, -1, 0, rfl, by omega, D0, B0, rfl⟩
 case round =>
  obtain ⟨k, v, m, p, rfl, hk, D1, B1, hl⟩ := hrel
  by_cases hlt : k < xs.length
  ·obtain ⟨r, hxk⟩ : ∃ r, xs[k]? = some r := ⟨_, List.getElem?_eq_getElem hlt⟩
   obtain ⟨c0, c1, c2⟩ := (hr.out.below D1 hb).at hxk
   have Hd : Hid (bestOf (xs.take (k + 1)) d = if isR r && takesB r d && decide (m < r.b) then (r.b, r.p) else (m, p)) := by
    show _ = _
    rw [bestOf_take hxk, hl.out]
    rfl
   have IS : Hid (∀ w, Calls Tryz.prog 166 #[rtw r.v r.b r.p] w fun e w' => e = .returned (.bool (isR r)) ∧ Below w.heap.size w w') := fun w => isRoute_any r w
   have TK : Hid (isR r = true -> ∀ w, Calls Tryz.prog 230 #[rtw r.v r.b r.p, .int .i64 d] w fun e w' => e = .returned (.bool (takesB r d)) ∧ Below w.heap.size w w') := fun h w => takes_any r d w h
   have D2 := Below.al D1 (.cells #[.int .i64 r.v, .int .i64 r.b, .int .i64 r.p] 210)
   have B2 := B1.alloc (.cells #[.int .i64 r.v, .int .i64 r.b, .int .i64 r.p] 210)
   have T2 := three_new wr (.int .i64 r.v) (.int .i64 r.b) (.int .i64 r.p) 210
   have lw := D1.size
   have lb := B1.1.1
   obtain ⟨⟨_, g0, g1, g2⟩, _⟩ := id B2
   clear hxk hl B1 D1 hr D0 B0
   generalize isR r = x at *
   generalize takesB r d = y at *
   generalize r.v = rv0 at *
   generalize r.b = rb0 at *
   generalize r.p = rp0 at *
   go_wp2_with fail
   refine (IS.out _).mono ?_
   rintro e w3 ⟨rfl, hb3⟩
   have D3 := chn hb3 D2
   have B3 := B2.below hb3 (by simp; omega)
   have T3 := keepThree hb3 (by simp) T2
   clear hb3 D2 B2 T2 g0 g1 g2 c0 c1 c2 IS
   cases x
   ·go_wp2_with fail
    go_roundw
    case rel => exact ⟨k + 1, v, m, p, by go_num, by omega, D3, B3, by show _ = _; rw [Hd.out]; simp⟩
    case measure => simp [intOf]; omega
   ·obtain ⟨_, z0, z1, z2⟩ := id T3
    go_wp2_with fail
    refine (TK.out (by trivial) _).mono ?_
    rintro e w4 ⟨rfl, hb4⟩
    have D4 := chn hb4 D3
    have B4 := B3.below hb4 B3.1.1
    have T4 := keepThree hb4 T3.1 T3
    clear hb4 D3 B3 T3 z0 z1 z2 TK
    cases y
    ·go_wp2_with fail
     go_roundw
     case rel => exact ⟨k + 1, v, m, p, by go_num, by omega, D4, B4, by show _ = _; rw [Hd.out]; simp⟩
     case measure => simp [intOf]; omega
    ·obtain ⟨_, z0, z1, z2⟩ := id T4
     obtain ⟨⟨_, q0, q1, q2⟩, f0, f1, f2⟩ := id B4
     cases hm : decide (m < rb0)
     ·have Hn : Hid (bestOf (xs.take (k + 1)) d = (m, p)) := by show _ = _; rw [Hd.out, hm]; simp
      clear Hd
      go_wp2_with fail
      go_roundw
      case rel => exact ⟨k + 1, v, m, p, by go_num, by omega, D4, B4, Hn⟩
      case measure => simp [intOf]; omega
     ·have Hn : Hid (bestOf (xs.take (k + 1)) d = (rb0, rp0)) := by show _ = _; rw [Hd.out, hm]; simp
      clear Hd
      have B5 := setBoxR B4 rv0 rb0 rp0
      have D5 := ((D4.setCell (p := ⟨w.heap.size, 0, none⟩) (Nat.le_refl _) (.int .i64 rv0)).setCell (p := ⟨w.heap.size, 1, none⟩) (Nat.le_refl _) (.int .i64 rb0)).setCell (p := ⟨w.heap.size, 2, none⟩) (Nat.le_refl _) (.int .i64 rp0)
      go_wp2_with fail
      go_roundw
      case rel => exact ⟨k + 1, rv0, rb0, rp0, by go_num, by omega, D5, B5, Hn⟩
      case measure => simp [intOf]; omega
  ·obtain rfl : k = xs.length := by omega
   have Hn : Hid (bestOf xs d = (m, p)) := by
    have := hl.out
    rw [List.take_length] at this
    exact this
   obtain ⟨⟨_, q0, q1, q2⟩, f0, f1, f2⟩ := id B1
   go_wp2_with fail
   go_quiet (fail)
   go_wp2_with fail
   go_ret2
   exact ⟨by rw [Hn.out]; rfl, belowN D1 _⟩
theorem out_none (A : Option Addr) (cap : Nat) (d : Int) (w : World) (h0 : 0 <= d) (h1 : d < 16) :
  Calls Tryz.prog 226 #[.slice A 0 cap, .int .i64 d] w fun e w' => e = .returned (.tuple #[.int .i64 0, .bool false]) ∧ Below w.heap.size w w' := by
 have t1 : decide (d < 0) = false := by simp; omega
 have t2 : decide (16 <= d) = false := by simp; omega
 have D0 := Below.al (Below.refl w.heap.size w) (.cells #[.int .i64 0, .int .i64 (-1), .int .i64 0] 210)
 have B0 := box_new w 0 (-1) 0 210
 clear h0 h1
 go_enter Tryz.func226, Tryz.ntmps226
 go_wp2_with fail
 go_loopw [18] (fun i wr => i = .int .i64 0 ∧ Below w.heap.size w wr ∧ BoxR wr w.heap.size 0 (-1) 0) (fun i _ => 0)
 case atStart => exact ⟨rfl, D0, B0⟩
 case round =>
  obtain ⟨rfl, D1, B1⟩ := hrel
  obtain ⟨⟨_, q0, q1, q2⟩, f0, f1, f2⟩ := id B1
  go_wp2_with fail
  go_quiet (fail)
  go_wp2_with fail
  go_ret2
  exact ⟨rfl, belowN D1 _⟩
theorem out_wide (v : Value) (d : Int) (w : World) (h : d < 0 ∨ 16 <= d) :
  Calls Tryz.prog 226 #[v, .int .i64 d] w fun e w' => e = .returned (.tuple #[.int .i64 0, .bool false]) ∧ Below w.heap.size w w' := by
 by_cases h0 : d < 0
 ·have t1 : decide (d < 0) = true := by simp; omega
  go_enter Tryz.func226, Tryz.ntmps226
  go_wp2_with fail
  go_ret2
  exact ⟨rfl, Below.refl _ _⟩
 ·have t1 : decide (d < 0) = false := by simp; omega
  have t2 : decide (16 <= d) = true := by simp; omega
  go_enter Tryz.func226, Tryz.ntmps226
  go_wp2_with fail
  go_ret2
  exact ⟨rfl, Below.refl _ _⟩
theorem out_any {v : Value} {xs : List Rt} (d : Int) (w : World) (h : Routes w.heap.size w v xs) :
  Calls Tryz.prog 226 #[v, .int .i64 d] w fun e w' => e = .returned (.tuple #[.int .i64 (outN xs d), .bool (outB xs d)]) ∧ Below w.heap.size w w' := by
 by_cases hd : 0 <= d ∧ d < 16
 ·have e1 : outN xs d = (bestOf xs d).2 := by unfold outN; rw [if_pos hd]
  have e2 : outB xs d = !((bestOf xs d).1 == -1) := by unfold outB; simp [hd]
  rw [e1, e2]
  obtain ⟨A, cap, rfl, _, h1, h2, h3⟩ := h
  by_cases hx : xs = []
  ·subst hx
   exact out_none A cap d w hd.1 hd.2
  ·obtain ⟨b, o, rfl, hb, hr⟩ := h3 hx
   exact out_row b o cap xs d w hb h1 h2 hr hd.1 hd.2
 ·have e1 : outN xs d = 0 := by unfold outN; rw [if_neg hd]
  have e2 : outB xs d = false := by
   unfold outB
   by_cases h0 : 0 <= d
   ·have : ¬ d < 16 := fun h1 => hd ⟨h0, h1⟩
    simp [this]
   ·simp [h0]
  rw [e1, e2]
  exact out_wide v d w (by omega)
end Go.Proofs.YtppbfikimalojaaGreat
namespace Go.Proofs.YtppbfikimalojaaGreat
open Go.RowKit Go.Maps
def zeroP : Pk := ⟨0, 0, 0, 0⟩
def flipP (p : Pk) : Pk := ⟨p.d, p.s, p.dp, p.sp⟩
def adB (n : Int) : Bool := decide (0 <= n) && decide (n < 16)
def poB (n : Int) : Bool := decide (0 <= n) && decide (n < 8)
def pkOk (p : Pk) : Bool := adB p.s && adB p.d && poB p.sp && poB p.dp
inductive Lrn where
 | no
 | flow (i : Int) (p : Pk)
 | own (i port : Int) (s : Int × Int)
 | back (i : Int) (p : Pk) (b : Int)
structure Mnd where
 fl : Int × Pk -> Option Unit
 ow : Int × Int -> Option (Int × Int)
 bk : Int × Pk -> Option Int
noncomputable def learnP (M : Mnd) : Lrn -> Mnd
 | .no => M
 | .flow i p => { M with fl := putF M.fl (i, p) () }
 | .own i k s => { M with ow := putF M.ow (i, k) s }
 | .back i p b => { M with bk := putF M.bk (i, p) b }
structure SR where
 err : Int
 port : Int
 p : Pk
 l : Lrn
def stayR (e : Int) : SR := ⟨e, 0, zeroP, .no⟩
def passR (port : Int) (p : Pk) : SR := ⟨0, port, p, .no⟩
def rulesOf (d : Dv) : List Rl := d.rules.map fun r => ⟨r.ok, r.a, r.b, r.c, r.d, r.ha, r.hb, r.hc, r.hd⟩
def routesOf (d : Dv) : List Rt := d.routes.map rtOf
def routeP (d : Dv) (p : Pk) : SR := if outB (routesOf d) p.d && letsB (rulesOf d) p.s p.d p.sp p.dp then passR (outN (routesOf d) p.d) p else stayR 7
def askP (d : Dv) (i : Int) (p : Pk) : SR := if letsB (rulesOf d) p.s p.d p.sp p.dp then ⟨0, 1, p, .flow i p⟩ else stayR 7
def answerP (M : Mnd) (i : Int) (p : Pk) : SR := if (M.fl (i, flipP p)).isSome then passR 0 p else stayR 7
def ownFrom (M : Mnd) (i : Int) (s : Int × Int) (k : Nat) : Option Nat := if h : k < 8 then (if M.ow (i, (k : Int)) = some s then some k else ownFrom M i s (k + 1)) else none
termination_by 8 - k
def poolB (d : Dv) (c : Int) : Bool := poB c && d.pool.testBit c.toNat
def hideP (d : Dv) (M : Mnd) (i : Int) (p : Pk) (c : Int) : SR :=
 match ownFrom M i (p.s, p.sp) 0 with
 | some k => ⟨0, 1, ⟨d.addr, p.d, (k : Int), p.dp⟩, .own i (k : Int) (p.s, p.sp)⟩
 | none => if poolB d c then (if (M.ow (i, c)).isSome then stayR 6 else ⟨0, 1, ⟨d.addr, p.d, c, p.dp⟩, .own i c (p.s, p.sp)⟩) else stayR 1
def unhideP (d : Dv) (M : Mnd) (i : Int) (p : Pk) : SR :=
 match M.ow (i, p.dp) with
 | some s => if p.d == d.addr then passR 0 ⟨p.s, s.1, p.sp, s.2⟩ else stayR 7
 | none => stayR 7
def spreadP (d : Dv) (M : Mnd) (i : Int) (p : Pk) (c : Int) : SR :=
 if p.d == d.addr then
  match M.bk (i, p) with
  | some b => ⟨0, 1, ⟨p.s, b, p.sp, p.dp⟩, .back i p b⟩
  | none => if decide (0 <= c) && decide (c < (d.backs.length : Int)) then ⟨0, 1, ⟨p.s, d.backs.getD c.toNat 0, p.sp, p.dp⟩, .back i p (d.backs.getD c.toNat 0)⟩ else stayR 1
 else passR 1 p
def gatherP (d : Dv) (M : Mnd) (i : Int) (p : Pk) : SR :=
 passR 0 (if M.bk (i, ⟨p.d, d.addr, p.dp, p.sp⟩) = some p.s then ⟨d.addr, p.d, p.sp, p.dp⟩ else p)
def sendP (d : Dv) (M : Mnd) (i q : Int) (p : Pk) (c : Int) : SR :=
 if d.kind = 2 then routeP d p
 else if d.kind = 3 then (if q = 0 then askP d i p else answerP M i p)
 else if d.kind = 4 then (if q = 0 then hideP d M i p c else unhideP d M i p)
 else if d.kind = 5 then (if q = 0 then spreadP d M i p c else gatherP d M i p)
 else stayR 7
structure HR where
 err : Int
 tp : Int × Int
 p : Pk
 M : Mnd
def badH (e : Int) (M : Mnd) : HR := ⟨e, (0, 0), zeroP, M⟩
noncomputable def handleP (ds : List Dv) (ls : List Lk) (M : Mnd) (i q : Int) (p : Pk) (c : Int) : HR :=
 if isPl ds i q then
  (if pkOk p then
    (if (sendP (ds.getD i.toNat default) M i q p c).err = 0 then
      match peerF ls i (sendP (ds.getD i.toNat default) M i q p c).port with
      | some t => ⟨0, t, (sendP (ds.getD i.toNat default) M i q p c).p, learnP M (sendP (ds.getD i.toNat default) M i q p c).l⟩
      | none => badH 7 M
    else badH (sendP (ds.getD i.toNat default) M i q p c).err M)
  else badH 1 M)
 else badH 4 M
structure Mp where
 z : Nat
 pre : List Value
 post : List Value
 ty : TypeId
 B : Nat
 f : Nat
 o : Nat
 k : Nat
 A : Option Addr
 cap : Nat
 L : Option Addr
 cap' : Nat
structure HK (m : Mp) (w w' : World) : Prop where
 os : w'.os = w.os
 tape : w'.tape = w.tape
 output : w'.output = w.output
 size : w.heap.size <= w'.heap.size
 block : ∀ b, b < w.heap.size -> b ≠ m.f -> b ≠ m.o -> b ≠ m.k -> w'.heap[b]? = w.heap[b]?
structure CK (w w' : World) : Prop where
 size : w.heap.size <= w'.heap.size
 block : ∀ b, (∀ es c, w.heap[b]? ≠ some (.map es c)) -> b < w.heap.size -> w'.heap[b]? = w.heap[b]?
section
variable {w w' w'' : World} {m : Mp} {ds : List Dv} {ls : List Lk} {n : Nat} {M : Mnd}
end
section
variable {w : World} {m : Mp} {ds : List Dv} {ls : List Lk} {n : Nat} {M : Mnd}
end
theorem SlAt.own {α : Type} {base n : Nat} {w : World} {t : TypeId} {R : List Value -> α -> Prop} {v : Value} {xs : List α} {cs : List Value} (h : w.ownsRow base t n v xs.length cs) (hr : ∀ k x, xs[k]? = some x -> R ((cs.drop (k * n)).take n) x) : SlAt w.heap.size w n R v xs := by
 have h' := h
 obtain ⟨hl, hc⟩ := h
 rcases hc with ⟨rfl, h0⟩ | ⟨g, cap, cur, rfl, hb, hg, hn, hcap, hs, ht⟩
 ·exact ⟨none, 0, by rw [h0], fun _ => rfl, by omega, by unfold maxLen; omega, fun hn => absurd (List.length_eq_zero_iff.1 h0) hn⟩
 ·refine ⟨_, cap, rfl, (fun e => by cases e), hn, hcap, fun _ => ⟨g, 0, rfl, (Array.getElem?_eq_some_iff.1 hg).1, fun k x hx => ?_⟩⟩
  have hk := (List.getElem?_eq_some_iff.1 hx).1
  have hle : k * n + n <= cs.length := by
   have hm := Nat.mul_le_mul_right n (show k + 1 <= xs.length from hk)
   rw [Nat.add_mul, Nat.one_mul] at hm
   omega
  refine ⟨(cs.drop (k * n)).take n, ?_, hr k x hx, fun j u hj => ?_⟩
  ·rw [List.length_take, List.length_drop]
   omega
  ·have hjn : j < n := by
    have := (List.getElem?_eq_some_iff.1 hj).1
    rw [List.length_take] at this
    omega
   rw [List.getElem?_take_of_lt hjn, List.getElem?_drop] at hj
   have := h'.cells (g := g) rfl (k * n + j) u hj
   rw [Addr.add_lit] at this
   rwa [show 0 + k * n + j = 0 + (k * n + j) by omega]
theorem append_runC {P : Program} {w w' : World} {ops : Array Oper} {rest : List Oper} {o : Oper} {a : Act} {Q : Exit -> Act -> World -> Prop} (hgd : o.guard = none) (s x : Operand) (t : TypeId)
  (ho : o.op = .call { callee := .builtin .append, args := #[s, x], argTypes := #[t, t] }) {v x' v' : Value} (hs : a.eval s = v) (hx : a.eval x = x') (hr : (Builtin.append_ #[t, t] o.type #[v, x']).run P w = .ok v' w')
  (h : wpList P ops Q rest (a.put o.dst v') w') : wpList P ops Q (o :: rest) a w := by
 refine wpList_plain hgd fun K hK => ?_
 unfold Oper.wp execOp
 simp only [ho, resolve, invoke, builtin, Sem.run_bind, Sem.run_pure, Result.andThen_ok, List.map_toArray, List.map_cons, List.map_nil, hs, hx, hr]
 exact hK _ _ h
abbrev pkC (p : Pk) : Obj := .cells #[.int .i64 p.s, .int .i64 p.d, .int .i64 p.sp, .int .i64 p.dp] 29
section
variable {w : World} {m : Mp} {ds : List Dv} {ls : List Lk} {n : Nat} {M : Mnd}
end
def Bk (w : World) (k : Nat) (c : Array Value) (t : TypeId) : Prop := w.heap[k]? = some (.cells c t (0, 0))
section
variable {w w' : World} {k : Nat} {c : Array Value} {t : TypeId}
theorem Bk.lt (h : Bk w k c t) : k < w.heap.size := (Array.getElem?_eq_some_iff.1 h).1
theorem Bk.below {B : Nat} (h : Bk w k c t) (hb : Below B w w') (hk : k < B) : Bk w' k c t := (hb.block k hk).trans h
theorem Bk.keep (hb : Below w.heap.size w w') (h : Bk w k c t) : Bk w' k c t := h.below hb h.lt
theorem Bk.alloc (h : Bk w k c t) (o : Obj) : Bk (w.alloc o) k c t := h.below ((Below.refl _ _).alloc (Nat.le_refl _) o) h.lt
theorem Bk.drew (h : Bk w k c t) : Bk w.drew k c t := h
theorem bk_new (w : World) (c : Array Value) (t : TypeId) : Bk (w.alloc (.cells c t)) w.heap.size c t := by
 show (w.heap.push _)[w.heap.size]? = _
 simp
theorem bk_new' (w : World) (c : Array Value) (t : TypeId) (k : Nat) (h : k = w.heap.size) : Bk (w.alloc (.cells c t)) k c t := by rw [h]; exact bk_new w c t
theorem Bk.at (h : Bk w k c t) (j : Nat) : w.cell? ⟨k, j, none⟩ = c[j]? := cell_of_row w k j _ _ _ h
theorem Bk.fz (h : Bk w k c t) (j : Nat) : w.frozen? ⟨k, j, none⟩ = false := by
 unfold Bk at h
 simp [World.frozen?, h]
end
structure Put (k : Nat) (w w' : World) : Prop where
 os : w'.os = w.os
 tape : w'.tape = w.tape
 output : w'.output = w.output
 size : w'.heap.size = w.heap.size
 block : ∀ b, b ≠ k -> w'.heap[b]? = w.heap[b]?
theorem Bk.setO {w : World} {k b j : Nat} {c : Array Value} {t : TypeId} (h : Bk w k c t) (hne : k ≠ b) (u : Value) : Bk (w.setCell ⟨b, j, none⟩ u) k c t := (Below.heap_setCell w ⟨b, j, none⟩ u k hne).trans h
theorem Bk.drewN {w : World} {k : Nat} {c : Array Value} {t : TypeId} (h : Bk w k c t) (n : Nat) : Bk (w.drewN n) k c t := h
theorem Bk.setS {w : World} {k j : Nat} {c : Array Value} {t : TypeId} (h : Bk w k c t) (u : Value) : Bk (w.setCell ⟨k, j, none⟩ u) k (c.setIfInBounds j u) t := by
 unfold Bk at *
 simp [World.setCell, Array.getElem?_modify, h]
theorem Bk.four {w : World} {k : Nat} {t : TypeId} {a b c d : Value} (h : Bk w k #[a, b, c, d] t) : w.cell? ⟨k, 0, none⟩ = some a ∧ w.cell? ⟨k, 1, none⟩ = some b ∧ w.cell? ⟨k, 2, none⟩ = some c ∧ w.cell? ⟨k, 3, none⟩ = some d ∧ w.frozen? ⟨k, 0, none⟩ = false ∧ w.frozen? ⟨k, 1, none⟩ = false ∧ w.frozen? ⟨k, 2, none⟩ = false ∧ w.frozen? ⟨k, 3, none⟩ = false := ⟨h.at 0, h.at 1, h.at 2, h.at 3, h.fz 0, h.fz 1, h.fz 2, h.fz 3⟩
theorem Bk.two {w : World} {k : Nat} {t : TypeId} {a b : Value} (h : Bk w k #[a, b] t) : w.cell? ⟨k, 0, none⟩ = some a ∧ w.cell? ⟨k, 1, none⟩ = some b := ⟨h.at 0, h.at 1⟩
theorem Bk.six {w : World} {k : Nat} {t : TypeId} {a b c d e f : Value} (h : Bk w k #[a, b, c, d, e, f] t) : (w.cell? ⟨k, 0, none⟩ = some a ∧ w.cell? ⟨k, 1, none⟩ = some b ∧ w.cell? ⟨k, 2, none⟩ = some c ∧ w.cell? ⟨k, 3, none⟩ = some d ∧ w.cell? ⟨k, 4, none⟩ = some e ∧ w.cell? ⟨k, 5, none⟩ = some f) ∧ (w.frozen? ⟨k, 0, none⟩ = false ∧ w.frozen? ⟨k, 1, none⟩ = false ∧ w.frozen? ⟨k, 2, none⟩ = false ∧ w.frozen? ⟨k, 3, none⟩ = false ∧ w.frozen? ⟨k, 4, none⟩ = false ∧ w.frozen? ⟨k, 5, none⟩ = false) := ⟨⟨h.at 0, h.at 1, h.at 2, h.at 3, h.at 4, h.at 5⟩, ⟨h.fz 0, h.fz 1, h.fz 2, h.fz 3, h.fz 4, h.fz 5⟩⟩
def FV (v : Value) : Prop := v = .nilFunc ∨ ∃ fn cp, v = .func fn #[] cp
theorem rules_of {base : Nat} {w : World} {v : Value} {xs : List NRule} (h : SlAt base w 5 IsRule v xs) : Rules base w v (xs.map fun r => ⟨r.ok, r.a, r.b, r.c, r.d, r.ha, r.hb, r.hc, r.hd⟩) := by
 obtain ⟨A, cap, rfl, h0, h1, h2, h3⟩ := h
 refine ⟨A, cap, by rw [List.length_map], h0, by rw [List.length_map]; exact h1, h2, fun hn => ?_⟩
 obtain ⟨b, o, ea, hl, hr⟩ := h3 (fun e => hn (by rw [e]; rfl))
 refine ⟨b, o, ea, hl, fun j u hj => ?_⟩
 have hjl := (List.getElem?_eq_some_iff.1 hj).1
 rw [cellsR_length, List.length_map] at hjl
 have hk : j / 5 < xs.length := by omega
 have hx : xs[j / 5]? = some xs[j / 5] := List.getElem?_eq_getElem hk
 obtain ⟨cs, _, rfl, hc⟩ := hr _ _ hx
 obtain ⟨c0, c1, c2, c3, c4⟩ := cellsR_at (xs.map fun r : NRule => (⟨r.ok, r.a, r.b, r.c, r.d, r.ha, r.hb, r.hc, r.hd⟩ : Rl)) (j / 5) _ (by rw [List.getElem?_map, hx]; rfl)
 have hm : j % 5 = 0 ∨ j % 5 = 1 ∨ j % 5 = 2 ∨ j % 5 = 3 ∨ j % 5 = 4 := by omega
 have eo : o + j = o + j / 5 * 5 + j % 5 := by omega
 rw [eo]
 rcases hm with hm | hm | hm | hm | hm
 ·rw [show j = j / 5 * 5 by omega, c0] at hj
  rw [hm, <- Option.some.inj hj]
  exact hc 0 _ rfl
 ·rw [show j = j / 5 * 5 + 1 by omega, c1] at hj
  rw [hm, <- Option.some.inj hj]
  exact hc 1 _ rfl
 ·rw [show j = j / 5 * 5 + 2 by omega, c2] at hj
  rw [hm, <- Option.some.inj hj]
  exact hc 2 _ rfl
 ·rw [show j = j / 5 * 5 + 3 by omega, c3] at hj
  rw [hm, <- Option.some.inj hj]
  exact hc 3 _ rfl
 ·rw [show j = j / 5 * 5 + 4 by omega, c4] at hj
  rw [hm, <- Option.some.inj hj]
  exact hc 4 _ rfl
structure DevAt (w : World) (d : Dv) (b o : Nat) (vb vr vt : Value) : Prop where
 c0 : w.cell? ⟨b, o, none⟩ = some (.string d.name)
 c1 : w.cell? ⟨b, o + 1, none⟩ = some (.int .i64 d.kind)
 c2 : w.cell? ⟨b, o + 2, none⟩ = some (.int .i64 d.addr)
 c3 : w.cell? ⟨b, o + 3, none⟩ = some (.int .u8 (d.pool : Int))
 c4 : w.cell? ⟨b, o + 4, none⟩ = some vb
 c5 : w.cell? ⟨b, o + 5, none⟩ = some vr
 c6 : w.cell? ⟨b, o + 6, none⟩ = some vt
 backs : SlAt w.heap.size w 1 IsI vb d.backs
 rules : Rules w.heap.size w vr (rulesOf d)
 routes : Routes w.heap.size w vt (routesOf d)
section
variable {lo hi g : Nat} {w w' : World} {ds : List Dv}
end
structure Small (ds : List Dv) (ls : List Lk) : Prop where
 nd : ds.length <= 1048576
 nl : ls.length <= 1048576
 backs : ∀ d ∈ ds, d.backs.length <= 1048576
 rules : ∀ d ∈ ds, d.rules.length <= 1048576
 routes : ∀ d ∈ ds, d.routes.length <= 1048576
end Go.Proofs.YtppbfikimalojaaGreat
namespace Go.Proofs.YtppbfikimalojaaGreat
open Go.RowKit
def LM (w : World) (n : Nat) (a b c d e f g h : Value) : Prop := Lk4 w n a b c d ∧ Lk4 w (n + 1) e f g h
theorem LM.cells {w : World} {n : Nat} {a b c d e f g h : Value} (H : LM w n a b c d e f g h) : w.cell? ⟨n, 0, none⟩ = some a ∧ w.cell? ⟨n, 1, none⟩ = some b ∧ w.cell? ⟨n, 2, none⟩ = some c ∧ w.cell? ⟨n, 3, none⟩ = some d ∧ w.cell? ⟨n + 1, 0, none⟩ = some e ∧ w.cell? ⟨n + 1, 1, none⟩ = some f ∧ w.cell? ⟨n + 1, 2, none⟩ = some g ∧ w.cell? ⟨n + 1, 3, none⟩ = some h := by
 obtain ⟨⟨_, h1, h2, h3, h4⟩, ⟨_, h5, h6, h7, h8⟩⟩ := H
 exact ⟨h1, h2, h3, h4, h5, h6, h7, h8⟩
theorem LM.keep {W w' : World} {n : Nat} {a b c d e f g h : Value} (hb : Below W.heap.size W w') (H : LM W n a b c d e f g h) : LM w' n a b c d e f g h := ⟨H.1.below hb H.1.1, H.2.below hb H.2.1⟩
theorem LM.drew {w : World} {n : Nat} {a b c d e f g h : Value} (H : LM w n a b c d e f g h) : LM w.drew n a b c d e f g h := H
theorem lm_new (w : World) (a b c d e f g h : Value) (t : TypeId) : LM ((w.alloc (.cells #[a, b, c, d] t)).alloc (.cells #[e, f, g, h] t)) w.heap.size a b c d e f g h := by
 refine ⟨(lk4_new w a b c d t).alloc _, ?_⟩
 have := lk4_new (w.alloc (.cells #[a, b, c, d] t)) e f g h t
 rw [World.size_alloc] at this
 exact this
theorem meet_0 (la lp lb lq ma mp mb mq : Int) (w : World) (h0 : ((la == ma) && (lp == mp)) = true) : Calls Tryz.prog 124 #[lkA la lp lb lq, lkA ma mp mb mq] w fun e w' => e = .returned (.bool true) ∧ Below w.heap.size w w' := by
 have D0 := (Below.alN (Below.alN (Below.refl w.heap.size w) (.cells #[.int .i64 la, .int .i64 lp, .int .i64 lb, .int .i64 lq] 96)) (.cells #[.int .i64 ma, .int .i64 mp, .int .i64 mb, .int .i64 mq] 96)).drew
 have M0 := (lm_new w (.int .i64 la) (.int .i64 lp) (.int .i64 lb) (.int .i64 lq) (.int .i64 ma) (.int .i64 mp) (.int .i64 mb) (.int .i64 mq) 96).drew
 have FL : Hid (∀ w, Calls Tryz.prog 120 #[lkA la lp lb lq] w fun e w' => e = .returned (plA la lp) ∧ Below w.heap.size w w') := fun w => from_any _ _ _ _ w
 have TL : Hid (∀ w, Calls Tryz.prog 121 #[lkA la lp lb lq] w fun e w' => e = .returned (plA lb lq) ∧ Below w.heap.size w w') := fun w => to_any _ _ _ _ w
 have FM : Hid (∀ w, Calls Tryz.prog 120 #[lkA ma mp mb mq] w fun e w' => e = .returned (plA ma mp) ∧ Below w.heap.size w w') := fun w => from_any _ _ _ _ w
 have TM : Hid (∀ w, Calls Tryz.prog 121 #[lkA ma mp mb mq] w fun e w' => e = .returned (plA mb mq) ∧ Below w.heap.size w w') := fun w => to_any _ _ _ _ w
 have P0 : ∀ w, (binOp .eql 27 (plA la lp) (plA ma mp)).run Tryz.prog w = .ok (.bool true) w := fun w => by rw [place_eq, h0]
 clear h0
 go_enter Tryz.func124, Tryz.ntmps124
 go_wp2_with fail
 refine wp_region_held_drew (S := (fun w' => w'.cell? ⟨w.heap.size, 0, none⟩ = some (.int .i64 la) ∧ w'.cell? ⟨w.heap.size, 1, none⟩ = some (.int .i64 lp) ∧ w'.cell? ⟨w.heap.size, 2, none⟩ = some (.int .i64 lb) ∧ w'.cell? ⟨w.heap.size, 3, none⟩ = some (.int .i64 lq) ∧ w'.cell? ⟨w.heap.size + 1, 0, none⟩ = some (.int .i64 ma) ∧ w'.cell? ⟨w.heap.size + 1, 1, none⟩ = some (.int .i64 mp) ∧ w'.cell? ⟨w.heap.size + 1, 2, none⟩ = some (.int .i64 mb) ∧ w'.cell? ⟨w.heap.size + 1, 3, none⟩ = some (.int .i64 mq))) (by kernel_rfl) (LM.cells (n := w.heap.size) (by assumption)) (fun hHeld => ?_)
 refine tk 0 ?_; try simp only [ly]
 refine tk 2 ?_; try simp only [ly]
 refine rd 1 (fun K hK => ?_)
 go_simp
 refine (FL.out _).mono ?_; rintro e wz ⟨rfl, hbz⟩; have Dz := chnN (W0 := w) hbz (by assumption); have Pz := LM.keep (n := w.heap.size) hbz (by assumption); clear hbz
 try go_wp2_with fail
 clear hHeld
 refine hK.out _ _ (LM.cells (n := w.heap.size) (by assumption)) (fun hHeld => ?_)
 clear hK K
 try simp only [ly]
 refine rd 3 (fun K hK => ?_)
 go_simp
 refine (FM.out _).mono ?_; rintro e wz ⟨rfl, hbz⟩; have Dz := chnN (W0 := w) hbz (by assumption); have Pz := LM.keep (n := w.heap.size) hbz (by assumption); clear hbz
 try go_wp2_with fail
 clear hHeld
 refine hK.out _ _ (LM.cells (n := w.heap.size) (by assumption)) (fun hHeld => ?_)
 clear hK K
 try simp only [ly]
 refine tk 4 ?_; try simp only [ly]
 refine tk 5 ?_; try simp only [ly]
 refine tk0 6 ?_; try simp only [ly]
 refine tk0 7 ?_; try simp only [ly]
 refine tk0 8 ?_; try simp only [ly]
 refine tk0 9 ?_; try simp only [ly]
 refine tk0 10 ?_; try simp only [ly]
 refine tk 11 ?_; try simp only [ly]
 refine tk 12 ?_; try simp only [ly]
 refine tk0 13 ?_; try simp only [ly]
 refine tk0 14 ?_; try simp only [ly]
 refine tk0 15 ?_; try simp only [ly]
 refine tk0 16 ?_; try simp only [ly]
 refine tk0 17 ?_; try simp only [ly]
 refine tk 18 ?_; try simp only [ly]
 refine tk 19 ?_; try simp only [ly]
 refine tk0 20 ?_; try simp only [ly]
 refine tk0 21 ?_; try simp only [ly]
 refine tk0 22 ?_; try simp only [ly]
 refine tk0 23 ?_; try simp only [ly]
 refine tk0 24 ?_; try simp only [ly]
 refine tk 25 ?_; try simp only [ly]
 refine tk 26 ?_; try simp only [ly]
 refine wpAnyH_done (by kernel_rfl) ?_ _
 go_wp2_with fail
 go_ret
 exact ⟨rfl, by assumption⟩
theorem meet_1 (la lp lb lq ma mp mb mq : Int) (w : World) (h0 : ((la == ma) && (lp == mp)) = false) (h1 : ((la == mb) && (lp == mq)) = true) : Calls Tryz.prog 124 #[lkA la lp lb lq, lkA ma mp mb mq] w fun e w' => e = .returned (.bool true) ∧ Below w.heap.size w w' := by
 have D0 := (Below.alN (Below.alN (Below.refl w.heap.size w) (.cells #[.int .i64 la, .int .i64 lp, .int .i64 lb, .int .i64 lq] 96)) (.cells #[.int .i64 ma, .int .i64 mp, .int .i64 mb, .int .i64 mq] 96)).drew
 have M0 := (lm_new w (.int .i64 la) (.int .i64 lp) (.int .i64 lb) (.int .i64 lq) (.int .i64 ma) (.int .i64 mp) (.int .i64 mb) (.int .i64 mq) 96).drew
 have FL : Hid (∀ w, Calls Tryz.prog 120 #[lkA la lp lb lq] w fun e w' => e = .returned (plA la lp) ∧ Below w.heap.size w w') := fun w => from_any _ _ _ _ w
 have TL : Hid (∀ w, Calls Tryz.prog 121 #[lkA la lp lb lq] w fun e w' => e = .returned (plA lb lq) ∧ Below w.heap.size w w') := fun w => to_any _ _ _ _ w
 have FM : Hid (∀ w, Calls Tryz.prog 120 #[lkA ma mp mb mq] w fun e w' => e = .returned (plA ma mp) ∧ Below w.heap.size w w') := fun w => from_any _ _ _ _ w
 have TM : Hid (∀ w, Calls Tryz.prog 121 #[lkA ma mp mb mq] w fun e w' => e = .returned (plA mb mq) ∧ Below w.heap.size w w') := fun w => to_any _ _ _ _ w
 have P0 : ∀ w, (binOp .eql 27 (plA la lp) (plA ma mp)).run Tryz.prog w = .ok (.bool false) w := fun w => by rw [place_eq, h0]
 have P1 : ∀ w, (binOp .eql 27 (plA la lp) (plA mb mq)).run Tryz.prog w = .ok (.bool true) w := fun w => by rw [place_eq, h1]
 clear h0 h1
 go_enter Tryz.func124, Tryz.ntmps124
 go_wp2_with fail
 refine wp_region_held_drew (S := (fun w' => w'.cell? ⟨w.heap.size, 0, none⟩ = some (.int .i64 la) ∧ w'.cell? ⟨w.heap.size, 1, none⟩ = some (.int .i64 lp) ∧ w'.cell? ⟨w.heap.size, 2, none⟩ = some (.int .i64 lb) ∧ w'.cell? ⟨w.heap.size, 3, none⟩ = some (.int .i64 lq) ∧ w'.cell? ⟨w.heap.size + 1, 0, none⟩ = some (.int .i64 ma) ∧ w'.cell? ⟨w.heap.size + 1, 1, none⟩ = some (.int .i64 mp) ∧ w'.cell? ⟨w.heap.size + 1, 2, none⟩ = some (.int .i64 mb) ∧ w'.cell? ⟨w.heap.size + 1, 3, none⟩ = some (.int .i64 mq))) (by kernel_rfl) (LM.cells (n := w.heap.size) (by assumption)) (fun hHeld => ?_)
 refine tk 0 ?_; try simp only [ly]
 refine tk 2 ?_; try simp only [ly]
 refine rd 1 (fun K hK => ?_)
 go_simp
 refine (FL.out _).mono ?_; rintro e wz ⟨rfl, hbz⟩; have Dz := chnN (W0 := w) hbz (by assumption); have Pz := LM.keep (n := w.heap.size) hbz (by assumption); clear hbz
 try go_wp2_with fail
 clear hHeld
 refine hK.out _ _ (LM.cells (n := w.heap.size) (by assumption)) (fun hHeld => ?_)
 clear hK K
 try simp only [ly]
 refine rd 3 (fun K hK => ?_)
 go_simp
 refine (FM.out _).mono ?_; rintro e wz ⟨rfl, hbz⟩; have Dz := chnN (W0 := w) hbz (by assumption); have Pz := LM.keep (n := w.heap.size) hbz (by assumption); clear hbz
 try go_wp2_with fail
 clear hHeld
 refine hK.out _ _ (LM.cells (n := w.heap.size) (by assumption)) (fun hHeld => ?_)
 clear hK K
 try simp only [ly]
 refine tk 4 ?_; try simp only [ly]
 refine tk 5 ?_; try simp only [ly]
 refine tk 6 ?_; try simp only [ly]
 refine tk 8 ?_; try simp only [ly]
 refine rd 7 (fun K hK => ?_)
 go_simp
 refine (FL.out _).mono ?_; rintro e wz ⟨rfl, hbz⟩; have Dz := chnN (W0 := w) hbz (by assumption); have Pz := LM.keep (n := w.heap.size) hbz (by assumption); clear hbz
 try go_wp2_with fail
 clear hHeld
 refine hK.out _ _ (LM.cells (n := w.heap.size) (by assumption)) (fun hHeld => ?_)
 clear hK K
 try simp only [ly]
 refine rd 9 (fun K hK => ?_)
 go_simp
 refine (TM.out _).mono ?_; rintro e wz ⟨rfl, hbz⟩; have Dz := chnN (W0 := w) hbz (by assumption); have Pz := LM.keep (n := w.heap.size) hbz (by assumption); clear hbz
 try go_wp2_with fail
 clear hHeld
 refine hK.out _ _ (LM.cells (n := w.heap.size) (by assumption)) (fun hHeld => ?_)
 clear hK K
 try simp only [ly]
 refine tk 10 ?_; try simp only [ly]
 refine tk 11 ?_; try simp only [ly]
 refine tk 12 ?_; try simp only [ly]
 refine tk0 13 ?_; try simp only [ly]
 refine tk0 14 ?_; try simp only [ly]
 refine tk0 15 ?_; try simp only [ly]
 refine tk0 16 ?_; try simp only [ly]
 refine tk0 17 ?_; try simp only [ly]
 refine tk 18 ?_; try simp only [ly]
 refine tk 19 ?_; try simp only [ly]
 refine tk0 20 ?_; try simp only [ly]
 refine tk0 21 ?_; try simp only [ly]
 refine tk0 22 ?_; try simp only [ly]
 refine tk0 23 ?_; try simp only [ly]
 refine tk0 24 ?_; try simp only [ly]
 refine tk 25 ?_; try simp only [ly]
 refine tk 26 ?_; try simp only [ly]
 refine wpAnyH_done (by kernel_rfl) ?_ _
 go_wp2_with fail
 go_ret
 exact ⟨rfl, by assumption⟩
theorem meet_2 (la lp lb lq ma mp mb mq : Int) (w : World) (h0 : ((la == ma) && (lp == mp)) = false) (h1 : ((la == mb) && (lp == mq)) = false) (h2 : ((lb == ma) && (lq == mp)) = true) : Calls Tryz.prog 124 #[lkA la lp lb lq, lkA ma mp mb mq] w fun e w' => e = .returned (.bool true) ∧ Below w.heap.size w w' := by
 have D0 := (Below.alN (Below.alN (Below.refl w.heap.size w) (.cells #[.int .i64 la, .int .i64 lp, .int .i64 lb, .int .i64 lq] 96)) (.cells #[.int .i64 ma, .int .i64 mp, .int .i64 mb, .int .i64 mq] 96)).drew
 have M0 := (lm_new w (.int .i64 la) (.int .i64 lp) (.int .i64 lb) (.int .i64 lq) (.int .i64 ma) (.int .i64 mp) (.int .i64 mb) (.int .i64 mq) 96).drew
 have FL : Hid (∀ w, Calls Tryz.prog 120 #[lkA la lp lb lq] w fun e w' => e = .returned (plA la lp) ∧ Below w.heap.size w w') := fun w => from_any _ _ _ _ w
 have TL : Hid (∀ w, Calls Tryz.prog 121 #[lkA la lp lb lq] w fun e w' => e = .returned (plA lb lq) ∧ Below w.heap.size w w') := fun w => to_any _ _ _ _ w
 have FM : Hid (∀ w, Calls Tryz.prog 120 #[lkA ma mp mb mq] w fun e w' => e = .returned (plA ma mp) ∧ Below w.heap.size w w') := fun w => from_any _ _ _ _ w
 have TM : Hid (∀ w, Calls Tryz.prog 121 #[lkA ma mp mb mq] w fun e w' => e = .returned (plA mb mq) ∧ Below w.heap.size w w') := fun w => to_any _ _ _ _ w
 have P0 : ∀ w, (binOp .eql 27 (plA la lp) (plA ma mp)).run Tryz.prog w = .ok (.bool false) w := fun w => by rw [place_eq, h0]
 have P1 : ∀ w, (binOp .eql 27 (plA la lp) (plA mb mq)).run Tryz.prog w = .ok (.bool false) w := fun w => by rw [place_eq, h1]
 have P2 : ∀ w, (binOp .eql 27 (plA lb lq) (plA ma mp)).run Tryz.prog w = .ok (.bool true) w := fun w => by rw [place_eq, h2]
 clear h0 h1 h2
 go_enter Tryz.func124, Tryz.ntmps124
 go_wp2_with fail
 refine wp_region_held_drew (S := (fun w' => w'.cell? ⟨w.heap.size, 0, none⟩ = some (.int .i64 la) ∧ w'.cell? ⟨w.heap.size, 1, none⟩ = some (.int .i64 lp) ∧ w'.cell? ⟨w.heap.size, 2, none⟩ = some (.int .i64 lb) ∧ w'.cell? ⟨w.heap.size, 3, none⟩ = some (.int .i64 lq) ∧ w'.cell? ⟨w.heap.size + 1, 0, none⟩ = some (.int .i64 ma) ∧ w'.cell? ⟨w.heap.size + 1, 1, none⟩ = some (.int .i64 mp) ∧ w'.cell? ⟨w.heap.size + 1, 2, none⟩ = some (.int .i64 mb) ∧ w'.cell? ⟨w.heap.size + 1, 3, none⟩ = some (.int .i64 mq))) (by kernel_rfl) (LM.cells (n := w.heap.size) (by assumption)) (fun hHeld => ?_)
 refine tk 0 ?_; try simp only [ly]
 refine tk 2 ?_; try simp only [ly]
 refine rd 1 (fun K hK => ?_)
 go_simp
 refine (FL.out _).mono ?_; rintro e wz ⟨rfl, hbz⟩; have Dz := chnN (W0 := w) hbz (by assumption); have Pz := LM.keep (n := w.heap.size) hbz (by assumption); clear hbz
 try go_wp2_with fail
 clear hHeld
 refine hK.out _ _ (LM.cells (n := w.heap.size) (by assumption)) (fun hHeld => ?_)
 clear hK K
 try simp only [ly]
 refine rd 3 (fun K hK => ?_)
 go_simp
 refine (FM.out _).mono ?_; rintro e wz ⟨rfl, hbz⟩; have Dz := chnN (W0 := w) hbz (by assumption); have Pz := LM.keep (n := w.heap.size) hbz (by assumption); clear hbz
 try go_wp2_with fail
 clear hHeld
 refine hK.out _ _ (LM.cells (n := w.heap.size) (by assumption)) (fun hHeld => ?_)
 clear hK K
 try simp only [ly]
 refine tk 4 ?_; try simp only [ly]
 refine tk 5 ?_; try simp only [ly]
 refine tk 6 ?_; try simp only [ly]
 refine tk 8 ?_; try simp only [ly]
 refine rd 7 (fun K hK => ?_)
 go_simp
 refine (FL.out _).mono ?_; rintro e wz ⟨rfl, hbz⟩; have Dz := chnN (W0 := w) hbz (by assumption); have Pz := LM.keep (n := w.heap.size) hbz (by assumption); clear hbz
 try go_wp2_with fail
 clear hHeld
 refine hK.out _ _ (LM.cells (n := w.heap.size) (by assumption)) (fun hHeld => ?_)
 clear hK K
 try simp only [ly]
 refine rd 9 (fun K hK => ?_)
 go_simp
 refine (TM.out _).mono ?_; rintro e wz ⟨rfl, hbz⟩; have Dz := chnN (W0 := w) hbz (by assumption); have Pz := LM.keep (n := w.heap.size) hbz (by assumption); clear hbz
 try go_wp2_with fail
 clear hHeld
 refine hK.out _ _ (LM.cells (n := w.heap.size) (by assumption)) (fun hHeld => ?_)
 clear hK K
 try simp only [ly]
 refine tk 10 ?_; try simp only [ly]
 refine tk 11 ?_; try simp only [ly]
 refine tk 12 ?_; try simp only [ly]
 refine tk 13 ?_; try simp only [ly]
 refine tk 15 ?_; try simp only [ly]
 refine rd 14 (fun K hK => ?_)
 go_simp
 refine (TL.out _).mono ?_; rintro e wz ⟨rfl, hbz⟩; have Dz := chnN (W0 := w) hbz (by assumption); have Pz := LM.keep (n := w.heap.size) hbz (by assumption); clear hbz
 try go_wp2_with fail
 clear hHeld
 refine hK.out _ _ (LM.cells (n := w.heap.size) (by assumption)) (fun hHeld => ?_)
 clear hK K
 try simp only [ly]
 refine rd 16 (fun K hK => ?_)
 go_simp
 refine (FM.out _).mono ?_; rintro e wz ⟨rfl, hbz⟩; have Dz := chnN (W0 := w) hbz (by assumption); have Pz := LM.keep (n := w.heap.size) hbz (by assumption); clear hbz
 try go_wp2_with fail
 clear hHeld
 refine hK.out _ _ (LM.cells (n := w.heap.size) (by assumption)) (fun hHeld => ?_)
 clear hK K
 try simp only [ly]
 refine tk 17 ?_; try simp only [ly]
 refine tk 18 ?_; try simp only [ly]
 refine tk 19 ?_; try simp only [ly]
 refine tk0 20 ?_; try simp only [ly]
 refine tk0 21 ?_; try simp only [ly]
 refine tk0 22 ?_; try simp only [ly]
 refine tk0 23 ?_; try simp only [ly]
 refine tk0 24 ?_; try simp only [ly]
 refine tk 25 ?_; try simp only [ly]
 refine tk 26 ?_; try simp only [ly]
 refine wpAnyH_done (by kernel_rfl) ?_ _
 go_wp2_with fail
 go_ret
 exact ⟨rfl, by assumption⟩
theorem meet_3 (la lp lb lq ma mp mb mq : Int) (x3 : Bool) (w : World) (h0 : ((la == ma) && (lp == mp)) = false) (h1 : ((la == mb) && (lp == mq)) = false) (h2 : ((lb == ma) && (lq == mp)) = false) (h3 : ((lb == mb) && (lq == mq)) = x3) : Calls Tryz.prog 124 #[lkA la lp lb lq, lkA ma mp mb mq] w fun e w' => e = .returned (.bool x3) ∧ Below w.heap.size w w' := by
 have D0 := (Below.alN (Below.alN (Below.refl w.heap.size w) (.cells #[.int .i64 la, .int .i64 lp, .int .i64 lb, .int .i64 lq] 96)) (.cells #[.int .i64 ma, .int .i64 mp, .int .i64 mb, .int .i64 mq] 96)).drew
 have M0 := (lm_new w (.int .i64 la) (.int .i64 lp) (.int .i64 lb) (.int .i64 lq) (.int .i64 ma) (.int .i64 mp) (.int .i64 mb) (.int .i64 mq) 96).drew
 have FL : Hid (∀ w, Calls Tryz.prog 120 #[lkA la lp lb lq] w fun e w' => e = .returned (plA la lp) ∧ Below w.heap.size w w') := fun w => from_any _ _ _ _ w
 have TL : Hid (∀ w, Calls Tryz.prog 121 #[lkA la lp lb lq] w fun e w' => e = .returned (plA lb lq) ∧ Below w.heap.size w w') := fun w => to_any _ _ _ _ w
 have FM : Hid (∀ w, Calls Tryz.prog 120 #[lkA ma mp mb mq] w fun e w' => e = .returned (plA ma mp) ∧ Below w.heap.size w w') := fun w => from_any _ _ _ _ w
 have TM : Hid (∀ w, Calls Tryz.prog 121 #[lkA ma mp mb mq] w fun e w' => e = .returned (plA mb mq) ∧ Below w.heap.size w w') := fun w => to_any _ _ _ _ w
 have P0 : ∀ w, (binOp .eql 27 (plA la lp) (plA ma mp)).run Tryz.prog w = .ok (.bool false) w := fun w => by rw [place_eq, h0]
 have P1 : ∀ w, (binOp .eql 27 (plA la lp) (plA mb mq)).run Tryz.prog w = .ok (.bool false) w := fun w => by rw [place_eq, h1]
 have P2 : ∀ w, (binOp .eql 27 (plA lb lq) (plA ma mp)).run Tryz.prog w = .ok (.bool false) w := fun w => by rw [place_eq, h2]
 have P3 : ∀ w, (binOp .eql 27 (plA lb lq) (plA mb mq)).run Tryz.prog w = .ok (.bool x3) w := fun w => by rw [place_eq, h3]
 clear h0 h1 h2 h3
 go_enter Tryz.func124, Tryz.ntmps124
 go_wp2_with fail
 refine wp_region_held_drew (S := (fun w' => w'.cell? ⟨w.heap.size, 0, none⟩ = some (.int .i64 la) ∧ w'.cell? ⟨w.heap.size, 1, none⟩ = some (.int .i64 lp) ∧ w'.cell? ⟨w.heap.size, 2, none⟩ = some (.int .i64 lb) ∧ w'.cell? ⟨w.heap.size, 3, none⟩ = some (.int .i64 lq) ∧ w'.cell? ⟨w.heap.size + 1, 0, none⟩ = some (.int .i64 ma) ∧ w'.cell? ⟨w.heap.size + 1, 1, none⟩ = some (.int .i64 mp) ∧ w'.cell? ⟨w.heap.size + 1, 2, none⟩ = some (.int .i64 mb) ∧ w'.cell? ⟨w.heap.size + 1, 3, none⟩ = some (.int .i64 mq))) (by kernel_rfl) (LM.cells (n := w.heap.size) (by assumption)) (fun hHeld => ?_)
 refine tk 0 ?_; try simp only [ly]
 refine tk 2 ?_; try simp only [ly]
 refine rd 1 (fun K hK => ?_)
 go_simp
 refine (FL.out _).mono ?_; rintro e wz ⟨rfl, hbz⟩; have Dz := chnN (W0 := w) hbz (by assumption); have Pz := LM.keep (n := w.heap.size) hbz (by assumption); clear hbz
 try go_wp2_with fail
 clear hHeld
 refine hK.out _ _ (LM.cells (n := w.heap.size) (by assumption)) (fun hHeld => ?_)
 clear hK K
 try simp only [ly]
 refine rd 3 (fun K hK => ?_)
 go_simp
 refine (FM.out _).mono ?_; rintro e wz ⟨rfl, hbz⟩; have Dz := chnN (W0 := w) hbz (by assumption); have Pz := LM.keep (n := w.heap.size) hbz (by assumption); clear hbz
 try go_wp2_with fail
 clear hHeld
 refine hK.out _ _ (LM.cells (n := w.heap.size) (by assumption)) (fun hHeld => ?_)
 clear hK K
 try simp only [ly]
 refine tk 4 ?_; try simp only [ly]
 refine tk 5 ?_; try simp only [ly]
 refine tk 6 ?_; try simp only [ly]
 refine tk 8 ?_; try simp only [ly]
 refine rd 7 (fun K hK => ?_)
 go_simp
 refine (FL.out _).mono ?_; rintro e wz ⟨rfl, hbz⟩; have Dz := chnN (W0 := w) hbz (by assumption); have Pz := LM.keep (n := w.heap.size) hbz (by assumption); clear hbz
 try go_wp2_with fail
 clear hHeld
 refine hK.out _ _ (LM.cells (n := w.heap.size) (by assumption)) (fun hHeld => ?_)
 clear hK K
 try simp only [ly]
 refine rd 9 (fun K hK => ?_)
 go_simp
 refine (TM.out _).mono ?_; rintro e wz ⟨rfl, hbz⟩; have Dz := chnN (W0 := w) hbz (by assumption); have Pz := LM.keep (n := w.heap.size) hbz (by assumption); clear hbz
 try go_wp2_with fail
 clear hHeld
 refine hK.out _ _ (LM.cells (n := w.heap.size) (by assumption)) (fun hHeld => ?_)
 clear hK K
 try simp only [ly]
 refine tk 10 ?_; try simp only [ly]
 refine tk 11 ?_; try simp only [ly]
 refine tk 12 ?_; try simp only [ly]
 refine tk 13 ?_; try simp only [ly]
 refine tk 15 ?_; try simp only [ly]
 refine rd 14 (fun K hK => ?_)
 go_simp
 refine (TL.out _).mono ?_; rintro e wz ⟨rfl, hbz⟩; have Dz := chnN (W0 := w) hbz (by assumption); have Pz := LM.keep (n := w.heap.size) hbz (by assumption); clear hbz
 try go_wp2_with fail
 clear hHeld
 refine hK.out _ _ (LM.cells (n := w.heap.size) (by assumption)) (fun hHeld => ?_)
 clear hK K
 try simp only [ly]
 refine rd 16 (fun K hK => ?_)
 go_simp
 refine (FM.out _).mono ?_; rintro e wz ⟨rfl, hbz⟩; have Dz := chnN (W0 := w) hbz (by assumption); have Pz := LM.keep (n := w.heap.size) hbz (by assumption); clear hbz
 try go_wp2_with fail
 clear hHeld
 refine hK.out _ _ (LM.cells (n := w.heap.size) (by assumption)) (fun hHeld => ?_)
 clear hK K
 try simp only [ly]
 refine tk 17 ?_; try simp only [ly]
 refine tk 18 ?_; try simp only [ly]
 refine tk 19 ?_; try simp only [ly]
 refine tk 20 ?_; try simp only [ly]
 refine tk 22 ?_; try simp only [ly]
 refine rd 21 (fun K hK => ?_)
 go_simp
 refine (TL.out _).mono ?_; rintro e wz ⟨rfl, hbz⟩; have Dz := chnN (W0 := w) hbz (by assumption); have Pz := LM.keep (n := w.heap.size) hbz (by assumption); clear hbz
 try go_wp2_with fail
 clear hHeld
 refine hK.out _ _ (LM.cells (n := w.heap.size) (by assumption)) (fun hHeld => ?_)
 clear hK K
 try simp only [ly]
 refine rd 23 (fun K hK => ?_)
 go_simp
 refine (TM.out _).mono ?_; rintro e wz ⟨rfl, hbz⟩; have Dz := chnN (W0 := w) hbz (by assumption); have Pz := LM.keep (n := w.heap.size) hbz (by assumption); clear hbz
 try go_wp2_with fail
 clear hHeld
 refine hK.out _ _ (LM.cells (n := w.heap.size) (by assumption)) (fun hHeld => ?_)
 clear hK K
 try simp only [ly]
 refine tk 24 ?_; try simp only [ly]
 refine tk 25 ?_; try simp only [ly]
 refine tk 26 ?_; try simp only [ly]
 refine wpAnyH_done (by kernel_rfl) ?_ _
 go_wp2_with fail
 go_ret
 exact ⟨rfl, by assumption⟩
theorem meet_any (l m : Lk) (w : World) : Calls Tryz.prog 124 #[lkA l.a l.p l.b l.q, lkA m.a m.p m.b m.q] w fun e w' => e = .returned (.bool (meetB l m)) ∧ Below w.heap.size w w' := by
 unfold meetB
 cases h0 : ((l.a == m.a) && (l.p == m.p))
 ·cases h1 : ((l.a == m.b) && (l.p == m.q))
  ·cases h2 : ((l.b == m.a) && (l.q == m.p))
   ·exact meet_3 _ _ _ _ _ _ _ _ _ w h0 h1 h2 rfl
   ·exact meet_2 _ _ _ _ _ _ _ _ w h0 h1 h2
  ·exact meet_1 _ _ _ _ _ _ _ _ w h0 h1
 ·exact meet_0 _ _ _ _ _ _ _ _ w h0
theorem link1_any (o l : Lk) (n0 : Nat) (w : World) (hT : Lk4 w n0 (.int .i64 l.a) (.int .i64 l.p) (.int .i64 l.b) (.int .i64 l.q)) :
  Calls Tryz.prog 123 #[lkA o.a o.p o.b o.q, .pointer (some ⟨n0, 0, none⟩)] w fun e w' => e = .returned (.bool (meetB o l)) ∧ Below w.heap.size w w' := by
 have D0 := Below.alN (Below.refl w.heap.size w) (.cells #[.int .i64 o.a, .int .i64 o.p, .int .i64 o.b, .int .i64 o.q] 96)
 have T1 := hT.alloc (.cells #[.int .i64 o.a, .int .i64 o.p, .int .i64 o.b, .int .i64 o.q] 96)
 obtain ⟨l0, g0, g1, g2, g3⟩ := T1
 have SM : Hid (∀ w, Calls Tryz.prog 124 #[lkA o.a o.p o.b o.q, lkA l.a l.p l.b l.q] w fun e w' => e = .returned (.bool (meetB o l)) ∧ Below w.heap.size w w') := fun w => meet_any o l w
 clear hT
 generalize meetB o l = x at *
 generalize o.a = oa at *
 generalize o.p = op at *
 generalize o.b = ob at *
 generalize o.q = oq at *
 generalize l.a = la at *
 generalize l.p = lp at *
 generalize l.b = lb at *
 generalize l.q = lq at *
 go_enter Tryz.func123, Tryz.ntmps123
 go_wp2_with fail
 refine (SM.out _).mono ?_
 rintro e w1 ⟨rfl, hb1⟩
 have D1 := chnN hb1 D0
 clear D0 hb1 g0 g1 g2 g3 SM
 go_wp2_with fail
 go_ret
 exact ⟨rfl, D1⟩
theorem any_takeL {ls : List Lk} {k : Nat} {m l : Lk} (h : ls[k]? = some m) : (ls.take (k + 1)).any (fun m => meetB m l) = ((ls.take k).any (fun m => meetB m l) || meetB m l) := by
 obtain ⟨hk, e⟩ := List.getElem?_eq_some_iff.1 h
 rw [List.take_succ_eq_append_getElem hk, e]
 simp
theorem linkIdx_any (A : Option Addr) (n cap : Nat) (ls : List Lk) (l : Lk) (n0 : Nat) (w : World) (hL : Hid (Links w.heap.size w (.slice A n cap) ls)) (hT : Hid (Lk4 w n0 (.int .i64 l.a) (.int .i64 l.p) (.int .i64 l.b) (.int .i64 l.q))) :
  Calls Tryz.prog 170 #[.slice A n cap, .func (.func 123) #[] #[.pointer (some ⟨n0, 0, none⟩)]] w fun e w' => ∃ j : Int, e = .returned (.int .i64 j) ∧ Hid (decide (0 <= j) = ls.any (fun m => meetB m l)) ∧ Below w.heap.size w w' := by
 obtain ⟨rfl, hc, hm⟩ := hL.out.len
 unfold maxLen at hm
 go_enter Tryz.func170, Tryz.ntmps170
 go_wp2_with fail
 go_loopw [8] (fun i wr => ∃ k : Nat, i = .int .i64 (k : Int) ∧ k <= ls.length ∧ Below w.heap.size w wr ∧ Hid ((ls.take k).any (fun m => meetB m l) = false)) (fun i _ => ls.length - (intOf i).toNat)
 case atStart => exact ⟨0, rfl, by omega, Below.refl _ _, rfl⟩
 case round =>
  obtain ⟨k, rfl, hk, D1, hno⟩ := hrel
  by_cases hlt : k < ls.length
  ·obtain ⟨m, hxk⟩ : ∃ m, ls[k]? = some m := ⟨_, List.getElem?_eq_getElem hlt⟩
   obtain ⟨b, o, rfl, hb, c0, c1, c2, c3⟩ := (hL.out.below D1).at hxk
   have PR : Hid (Calls Tryz.prog 123 #[lkA m.a m.p m.b m.q, .pointer (some ⟨n0, 0, none⟩)] wr fun e w' => e = .returned (.bool (meetB m l)) ∧ Below wr.heap.size wr w') := link1_any m l n0 wr (hT.out.below D1 hT.out.1)
   have HX : Hid (ls[k]? = some m) := hxk
   have k1 : (0 : Int) <= (k : Int) := by omega
   have k2 : (k : Int) < (ls.length : Int) := by omega
   clear hL hxk hT
   cases hv : meetB m l
   ·rw [hv] at PR
    have HV : Hid ((ls.take (k + 1)).any (fun m => meetB m l) = false) := by show _ = _; rw [any_takeL HX.out, hno.out, hv]; rfl
    clear hv hno HX
    generalize m.a = ma at *
    generalize m.p = mp at *
    generalize m.b = mb at *
    generalize m.q = mq at *
    go_wp2_with fail
    refine PR.out.mono ?_
    rintro e w2 ⟨rfl, hb2⟩
    have D2 := chnN hb2 D1
    clear hb2 D1 c0 c1 c2 c3 PR
    go_wp2_with fail
    go_roundw
    case rel => exact ⟨k + 1, by go_num, by omega, D2, HV⟩
    case measure => simp [intOf]; omega
   ·rw [hv] at PR
    have fin : Hid (ls.any (fun m => meetB m l) = true) := List.any_eq_true.2 ⟨m, List.mem_of_getElem? HX.out, hv⟩
    clear hv hno HX
    generalize m.a = ma at *
    generalize m.p = mp at *
    generalize m.b = mb at *
    generalize m.q = mq at *
    go_wp2_with fail
    refine PR.out.mono ?_
    rintro e w2 ⟨rfl, hb2⟩
    have D2 := chnN hb2 D1
    clear hb2 D1 c0 c1 c2 c3 PR
    go_wp2_with fail
    go_ret
    exact ⟨_, rfl, (by show _ = _; rw [fin.out]; simp), D2⟩
  ·have fin : Hid (ls.any (fun m => meetB m l) = false) := by
    have := hno.out
    rw [show k = ls.length by omega, List.take_length] at this
    exact this
   go_wp2_with fail
   go_ret
   exact ⟨_, rfl, (by show _ = _; rw [fin.out]; simp), D1⟩
theorem linkHas_any (A : Option Addr) (n cap : Nat) (ls : List Lk) (l : Lk) (n0 : Nat) (w : World) (hL : Hid (Links w.heap.size w (.slice A n cap) ls)) (hT : Hid (Lk4 w n0 (.int .i64 l.a) (.int .i64 l.p) (.int .i64 l.b) (.int .i64 l.q))) :
  Calls Tryz.prog 122 #[.slice A n cap, .func (.func 123) #[] #[.pointer (some ⟨n0, 0, none⟩)]] w fun e w' => e = .returned (.bool (ls.any (fun m => meetB m l))) ∧ Below w.heap.size w w' := by
 have IX : Hid (Calls Tryz.prog 170 #[.slice A n cap, .func (.func 123) #[] #[.pointer (some ⟨n0, 0, none⟩)]] w fun e w' => ∃ j : Int, e = .returned (.int .i64 j) ∧ Hid (decide (0 <= j) = ls.any (fun m => meetB m l)) ∧ Below w.heap.size w w') := linkIdx_any A n cap ls l n0 w hL hT
 clear hL hT
 generalize ls.any (fun m => meetB m l) = x at *
 go_enter Tryz.func122, Tryz.ntmps122
 go_wp2_with fail
 refine IX.out.mono ?_
 rintro e w2 ⟨j, rfl, hj, hb2⟩
 clear IX
 go_wp2_with fail
 go_ret
 exact ⟨by rw [hj.out]; rfl, hb2⟩
end Go.Proofs.YtppbfikimalojaaGreat
