/-
  Tables: made; slices.Equal.
-/
import Derived.Test.YtgcimcpcnoojnaaEval2
import Derived.Deep.OwnRows
namespace Go.Proofs.Ytgcimcpcnoojnaa
open Go.RowKit Go.Maps

theorem Try.u29 : Try.prog.underlying 29 = some (.slice 4) := by kernel_rfl
theorem Try.info4 : (Try.prog.info? 4).map (fun i => (i.zero, i.size, i.bytes)) = some (some (.bool false), 1, 1) := by kernel_rfl

/-- A table lies in a row of its own. -/
def Tab (w : World) (tb n : Nat) (t : Nat → Bool) : Prop := w.rowIs tb 4 n (fun k => .bool (t k))

theorem pow_wrap {vars pp : Nat} (hv : vars ≤ 16) (hpp : 2 ^ vars = pp) : wrap64 (2 ^ vars) = (pp : Int) ∧ IntKind.i64.wrap (2 ^ vars) = (pp : Int) := by
  have hpw : 2 ^ vars ≤ 2 ^ 16 := Nat.pow_le_pow_right (by omega) hv
  have e : (2 : Int) ^ vars = ((2 ^ vars : Nat) : Int) := by simp
  have hw : IntKind.i64.wrap (2 ^ vars) = (pp : Int) := by
    rw [e, hpp]
    exact IntWalk.i64_in _ (by omega)
  exact ⟨by rw [← IntWalk.i64_left]; exact hw, hw⟩

set_option maxHeartbeats 2000000 in
set_option maxRecDepth 100000 in
theorem made_7 {vars n : Nat} {w : World} {t : Nat → Bool} (hv : vars ≤ 8) (hn : 2 ^ vars = n)
    (hc : Hq (∀ (wr : World) (b : Nat), Below w.heap.size w wr → b < n → Calls Try.prog 12 #[.int .i64 (b : Int)] wr fun e w' => e = .returned (.bool (t b)) ∧ Below wr.heap.size wr w')) :
    Calls Try.prog 11 #[.int .i64 (vars : Int), .func (.func 12) #[] #[]] w fun e w' => ∃ tb, e = .returned (.slice (some ⟨tb, 0, none⟩) n n) ∧ w.heap.size ≤ tb ∧ Tab w' tb n t ∧ Below w.heap.size w w' := by
  obtain ⟨hw1, hw2⟩ := pow_wrap (by omega) hn
  have hn8 : n ≤ 256 := by
    have : 2 ^ vars ≤ 2 ^ 8 := Nat.pow_le_pow_right (by omega) hv
    omega
  have hmk := run_make_row' (P := Try.prog) 29 4 (.bool false) 1 Try.u29 Try.info4 rfl .i64 .i64 n (by omega) (by omega)
  go_enter Try.func11, Try.ntmps11
  go_wp2_with fail
  go_loopw [12] (fun i wr => ∃ k : Nat, k ≤ n ∧ i = .int .i64 (k : Int) ∧ wr.rowIs w.heap.size 4 n (fun j => .bool (if j < k then t j else false)) ∧ Below w.heap.size w wr) (fun i _ => n - (intOf i).toNat)
  case atStart =>
    refine ⟨0, by omega, rfl, ?_, (Below.refl _ _).alloc (Nat.le_refl _) _⟩
    exact (World.rowIs_made w (.bool false) n 4).congr (fun j _ => by simp)
  case round =>
    obtain ⟨k, hk, rfl, hR, hB⟩ := hrel
    by_cases hlt : k < n
    · have hlR := hR.lt
      go_wp2_with fail
      refine (hc.out _ k hB hlt).mono ?_
      rintro e w2 ⟨rfl, hb2⟩
      have hR2 := hR.of_block (hb2.block _ hlR)
      have hB2 := hB.trans (hb2.mono (by omega))
      have hR3 := hR2.set k (.bool (t k))
      have hfr := hR2.frozen k
      have hcell := hR2.cell hlt
      have hR4 : (w2.setCell ⟨w.heap.size, k, none⟩ (.bool (t k))).rowIs w.heap.size 4 n (fun j => .bool (if j < k + 1 then t j else false)) := hR3.congr (fun j _ => by
        by_cases h1 : j = k
        · subst h1; simp
        · by_cases h2 : j < k
          · rw [if_neg h1, if_pos h2, if_pos (by omega)]
          · rw [if_neg h1, if_neg h2, if_neg (by omega)])
      have hB4 := hB2.setCell (p := ⟨w.heap.size, k, none⟩) (Nat.le_refl _) (.bool (t k))
      clear hR3 hR hB hb2
      go_wp2_with fail
      go_roundw
      case rel => exact ⟨k + 1, by omega, by go_num, hR4, hB4⟩
      case measure => simp [intOf]; omega
    · go_wp2_with fail
      go_ret
      exact ⟨w.heap.size, rfl, Nat.le_refl _, hR.congr (fun j hj => by rw [if_pos (by omega)]), hB⟩

set_option maxHeartbeats 2000000 in
set_option maxRecDepth 100000 in
theorem made_8 {vars n : Nat} {w : World} {t : Nat → Bool} (hv : vars ≤ 8) (hn : 2 ^ vars = n)
    (hc : Hq (∀ (wr : World) (b : Nat), Below w.heap.size w wr → b < n → Calls Try.prog 13 #[.int .i64 (b : Int)] wr fun e w' => e = .returned (.bool (t b)) ∧ Below wr.heap.size wr w')) :
    Calls Try.prog 11 #[.int .i64 (vars : Int), .func (.func 13) #[] #[]] w fun e w' => ∃ tb, e = .returned (.slice (some ⟨tb, 0, none⟩) n n) ∧ w.heap.size ≤ tb ∧ Tab w' tb n t ∧ Below w.heap.size w w' := by
  obtain ⟨hw1, hw2⟩ := pow_wrap (by omega) hn
  have hn8 : n ≤ 256 := by
    have : 2 ^ vars ≤ 2 ^ 8 := Nat.pow_le_pow_right (by omega) hv
    omega
  have hmk := run_make_row' (P := Try.prog) 29 4 (.bool false) 1 Try.u29 Try.info4 rfl .i64 .i64 n (by omega) (by omega)
  go_enter Try.func11, Try.ntmps11
  go_wp2_with fail
  go_loopw [12] (fun i wr => ∃ k : Nat, k ≤ n ∧ i = .int .i64 (k : Int) ∧ wr.rowIs w.heap.size 4 n (fun j => .bool (if j < k then t j else false)) ∧ Below w.heap.size w wr) (fun i _ => n - (intOf i).toNat)
  case atStart =>
    refine ⟨0, by omega, rfl, ?_, (Below.refl _ _).alloc (Nat.le_refl _) _⟩
    exact (World.rowIs_made w (.bool false) n 4).congr (fun j _ => by simp)
  case round =>
    obtain ⟨k, hk, rfl, hR, hB⟩ := hrel
    by_cases hlt : k < n
    · have hlR := hR.lt
      go_wp2_with fail
      refine (hc.out _ k hB hlt).mono ?_
      rintro e w2 ⟨rfl, hb2⟩
      have hR2 := hR.of_block (hb2.block _ hlR)
      have hB2 := hB.trans (hb2.mono (by omega))
      have hR3 := hR2.set k (.bool (t k))
      have hfr := hR2.frozen k
      have hcell := hR2.cell hlt
      have hR4 : (w2.setCell ⟨w.heap.size, k, none⟩ (.bool (t k))).rowIs w.heap.size 4 n (fun j => .bool (if j < k + 1 then t j else false)) := hR3.congr (fun j _ => by
        by_cases h1 : j = k
        · subst h1; simp
        · by_cases h2 : j < k
          · rw [if_neg h1, if_pos h2, if_pos (by omega)]
          · rw [if_neg h1, if_neg h2, if_neg (by omega)])
      have hB4 := hB2.setCell (p := ⟨w.heap.size, k, none⟩) (Nat.le_refl _) (.bool (t k))
      clear hR3 hR hB hb2
      go_wp2_with fail
      go_roundw
      case rel => exact ⟨k + 1, by omega, by go_num, hR4, hB4⟩
      case measure => simp [intOf]; omega
    · go_wp2_with fail
      go_ret
      exact ⟨w.heap.size, rfl, Nat.le_refl _, hR.congr (fun j hj => by rw [if_pos (by omega)]), hB⟩

set_option maxHeartbeats 2000000 in
set_option maxRecDepth 100000 in
theorem made_19 {vars n : Nat} {p1 p2 : Value} {w : World} {t : Nat → Bool} (hv : vars ≤ 8) (hn : 2 ^ vars = n)
    (hc : Hq (∀ (wr : World) (b : Nat), Below w.heap.size w wr → b < n → Calls Try.prog 58 #[.int .i64 (b : Int), p1, p2] wr fun e w' => e = .returned (.bool (t b)) ∧ Below wr.heap.size wr w')) :
    Calls Try.prog 11 #[.int .i64 (vars : Int), .func (.func 58) #[] #[p1, p2]] w fun e w' => ∃ tb, e = .returned (.slice (some ⟨tb, 0, none⟩) n n) ∧ w.heap.size ≤ tb ∧ Tab w' tb n t ∧ Below w.heap.size w w' := by
  obtain ⟨hw1, hw2⟩ := pow_wrap (by omega) hn
  have hn8 : n ≤ 256 := by
    have : 2 ^ vars ≤ 2 ^ 8 := Nat.pow_le_pow_right (by omega) hv
    omega
  have hmk := run_make_row' (P := Try.prog) 29 4 (.bool false) 1 Try.u29 Try.info4 rfl .i64 .i64 n (by omega) (by omega)
  go_enter Try.func11, Try.ntmps11
  go_wp2_with fail
  go_loopw [12] (fun i wr => ∃ k : Nat, k ≤ n ∧ i = .int .i64 (k : Int) ∧ wr.rowIs w.heap.size 4 n (fun j => .bool (if j < k then t j else false)) ∧ Below w.heap.size w wr) (fun i _ => n - (intOf i).toNat)
  case atStart =>
    refine ⟨0, by omega, rfl, ?_, (Below.refl _ _).alloc (Nat.le_refl _) _⟩
    exact (World.rowIs_made w (.bool false) n 4).congr (fun j _ => by simp)
  case round =>
    obtain ⟨k, hk, rfl, hR, hB⟩ := hrel
    by_cases hlt : k < n
    · have hlR := hR.lt
      go_wp2_with fail
      refine (hc.out _ k hB hlt).mono ?_
      rintro e w2 ⟨rfl, hb2⟩
      have hR2 := hR.of_block (hb2.block _ hlR)
      have hB2 := hB.trans (hb2.mono (by omega))
      have hR3 := hR2.set k (.bool (t k))
      have hfr := hR2.frozen k
      have hcell := hR2.cell hlt
      have hR4 : (w2.setCell ⟨w.heap.size, k, none⟩ (.bool (t k))).rowIs w.heap.size 4 n (fun j => .bool (if j < k + 1 then t j else false)) := hR3.congr (fun j _ => by
        by_cases h1 : j = k
        · subst h1; simp
        · by_cases h2 : j < k
          · rw [if_neg h1, if_pos h2, if_pos (by omega)]
          · rw [if_neg h1, if_neg h2, if_neg (by omega)])
      have hB4 := hB2.setCell (p := ⟨w.heap.size, k, none⟩) (Nat.le_refl _) (.bool (t k))
      clear hR3 hR hB hb2
      go_wp2_with fail
      go_roundw
      case rel => exact ⟨k + 1, by omega, by go_num, hR4, hB4⟩
      case measure => simp [intOf]; omega
    · go_wp2_with fail
      go_ret
      exact ⟨w.heap.size, rfl, Nat.le_refl _, hR.congr (fun j hj => by rw [if_pos (by omega)]), hB⟩

set_option maxHeartbeats 2000000 in
set_option maxRecDepth 100000 in
theorem made_20 {vars n : Nat} {p1 : Value} {w : World} {t : Nat → Bool} (hv : vars ≤ 8) (hn : 2 ^ vars = n)
    (hc : Hq (∀ (wr : World) (b : Nat), Below w.heap.size w wr → b < n → Calls Try.prog 59 #[.int .i64 (b : Int), p1] wr fun e w' => e = .returned (.bool (t b)) ∧ Below wr.heap.size wr w')) :
    Calls Try.prog 11 #[.int .i64 (vars : Int), .func (.func 59) #[] #[p1]] w fun e w' => ∃ tb, e = .returned (.slice (some ⟨tb, 0, none⟩) n n) ∧ w.heap.size ≤ tb ∧ Tab w' tb n t ∧ Below w.heap.size w w' := by
  obtain ⟨hw1, hw2⟩ := pow_wrap (by omega) hn
  have hn8 : n ≤ 256 := by
    have : 2 ^ vars ≤ 2 ^ 8 := Nat.pow_le_pow_right (by omega) hv
    omega
  have hmk := run_make_row' (P := Try.prog) 29 4 (.bool false) 1 Try.u29 Try.info4 rfl .i64 .i64 n (by omega) (by omega)
  go_enter Try.func11, Try.ntmps11
  go_wp2_with fail
  go_loopw [12] (fun i wr => ∃ k : Nat, k ≤ n ∧ i = .int .i64 (k : Int) ∧ wr.rowIs w.heap.size 4 n (fun j => .bool (if j < k then t j else false)) ∧ Below w.heap.size w wr) (fun i _ => n - (intOf i).toNat)
  case atStart =>
    refine ⟨0, by omega, rfl, ?_, (Below.refl _ _).alloc (Nat.le_refl _) _⟩
    exact (World.rowIs_made w (.bool false) n 4).congr (fun j _ => by simp)
  case round =>
    obtain ⟨k, hk, rfl, hR, hB⟩ := hrel
    by_cases hlt : k < n
    · have hlR := hR.lt
      go_wp2_with fail
      refine (hc.out _ k hB hlt).mono ?_
      rintro e w2 ⟨rfl, hb2⟩
      have hR2 := hR.of_block (hb2.block _ hlR)
      have hB2 := hB.trans (hb2.mono (by omega))
      have hR3 := hR2.set k (.bool (t k))
      have hfr := hR2.frozen k
      have hcell := hR2.cell hlt
      have hR4 : (w2.setCell ⟨w.heap.size, k, none⟩ (.bool (t k))).rowIs w.heap.size 4 n (fun j => .bool (if j < k + 1 then t j else false)) := hR3.congr (fun j _ => by
        by_cases h1 : j = k
        · subst h1; simp
        · by_cases h2 : j < k
          · rw [if_neg h1, if_pos h2, if_pos (by omega)]
          · rw [if_neg h1, if_neg h2, if_neg (by omega)])
      have hB4 := hB2.setCell (p := ⟨w.heap.size, k, none⟩) (Nat.le_refl _) (.bool (t k))
      clear hR3 hR hB hb2
      go_wp2_with fail
      go_roundw
      case rel => exact ⟨k + 1, by omega, by go_num, hR4, hB4⟩
      case measure => simp [intOf]; omega
    · go_wp2_with fail
      go_ret
      exact ⟨w.heap.size, rfl, Nat.le_refl _, hR.congr (fun j hj => by rw [if_pos (by omega)]), hB⟩

set_option maxHeartbeats 2000000 in
set_option maxRecDepth 100000 in
theorem made_21 {vars n : Nat} {p1 p2 : Value} {w : World} {t : Nat → Bool} (hv : vars ≤ 8) (hn : 2 ^ vars = n)
    (hc : Hq (∀ (wr : World) (b : Nat), Below w.heap.size w wr → b < n → Calls Try.prog 60 #[.int .i64 (b : Int), p1, p2] wr fun e w' => e = .returned (.bool (t b)) ∧ Below wr.heap.size wr w')) :
    Calls Try.prog 11 #[.int .i64 (vars : Int), .func (.func 60) #[] #[p1, p2]] w fun e w' => ∃ tb, e = .returned (.slice (some ⟨tb, 0, none⟩) n n) ∧ w.heap.size ≤ tb ∧ Tab w' tb n t ∧ Below w.heap.size w w' := by
  obtain ⟨hw1, hw2⟩ := pow_wrap (by omega) hn
  have hn8 : n ≤ 256 := by
    have : 2 ^ vars ≤ 2 ^ 8 := Nat.pow_le_pow_right (by omega) hv
    omega
  have hmk := run_make_row' (P := Try.prog) 29 4 (.bool false) 1 Try.u29 Try.info4 rfl .i64 .i64 n (by omega) (by omega)
  go_enter Try.func11, Try.ntmps11
  go_wp2_with fail
  go_loopw [12] (fun i wr => ∃ k : Nat, k ≤ n ∧ i = .int .i64 (k : Int) ∧ wr.rowIs w.heap.size 4 n (fun j => .bool (if j < k then t j else false)) ∧ Below w.heap.size w wr) (fun i _ => n - (intOf i).toNat)
  case atStart =>
    refine ⟨0, by omega, rfl, ?_, (Below.refl _ _).alloc (Nat.le_refl _) _⟩
    exact (World.rowIs_made w (.bool false) n 4).congr (fun j _ => by simp)
  case round =>
    obtain ⟨k, hk, rfl, hR, hB⟩ := hrel
    by_cases hlt : k < n
    · have hlR := hR.lt
      go_wp2_with fail
      refine (hc.out _ k hB hlt).mono ?_
      rintro e w2 ⟨rfl, hb2⟩
      have hR2 := hR.of_block (hb2.block _ hlR)
      have hB2 := hB.trans (hb2.mono (by omega))
      have hR3 := hR2.set k (.bool (t k))
      have hfr := hR2.frozen k
      have hcell := hR2.cell hlt
      have hR4 : (w2.setCell ⟨w.heap.size, k, none⟩ (.bool (t k))).rowIs w.heap.size 4 n (fun j => .bool (if j < k + 1 then t j else false)) := hR3.congr (fun j _ => by
        by_cases h1 : j = k
        · subst h1; simp
        · by_cases h2 : j < k
          · rw [if_neg h1, if_pos h2, if_pos (by omega)]
          · rw [if_neg h1, if_neg h2, if_neg (by omega)])
      have hB4 := hB2.setCell (p := ⟨w.heap.size, k, none⟩) (Nat.le_refl _) (.bool (t k))
      clear hR3 hR hB hb2
      go_wp2_with fail
      go_roundw
      case rel => exact ⟨k + 1, by omega, by go_num, hR4, hB4⟩
      case measure => simp [intOf]; omega
    · go_wp2_with fail
      go_ret
      exact ⟨w.heap.size, rfl, Nat.le_refl _, hR.congr (fun j hj => by rw [if_pos (by omega)]), hB⟩

set_option maxHeartbeats 2000000 in
set_option maxRecDepth 100000 in
theorem made_22 {vars n : Nat} {p1 p2 : Value} {w : World} {t : Nat → Bool} (hv : vars ≤ 8) (hn : 2 ^ vars = n)
    (hc : Hq (∀ (wr : World) (b : Nat), Below w.heap.size w wr → b < n → Calls Try.prog 61 #[.int .i64 (b : Int), p1, p2] wr fun e w' => e = .returned (.bool (t b)) ∧ Below wr.heap.size wr w')) :
    Calls Try.prog 11 #[.int .i64 (vars : Int), .func (.func 61) #[] #[p1, p2]] w fun e w' => ∃ tb, e = .returned (.slice (some ⟨tb, 0, none⟩) n n) ∧ w.heap.size ≤ tb ∧ Tab w' tb n t ∧ Below w.heap.size w w' := by
  obtain ⟨hw1, hw2⟩ := pow_wrap (by omega) hn
  have hn8 : n ≤ 256 := by
    have : 2 ^ vars ≤ 2 ^ 8 := Nat.pow_le_pow_right (by omega) hv
    omega
  have hmk := run_make_row' (P := Try.prog) 29 4 (.bool false) 1 Try.u29 Try.info4 rfl .i64 .i64 n (by omega) (by omega)
  go_enter Try.func11, Try.ntmps11
  go_wp2_with fail
  go_loopw [12] (fun i wr => ∃ k : Nat, k ≤ n ∧ i = .int .i64 (k : Int) ∧ wr.rowIs w.heap.size 4 n (fun j => .bool (if j < k then t j else false)) ∧ Below w.heap.size w wr) (fun i _ => n - (intOf i).toNat)
  case atStart =>
    refine ⟨0, by omega, rfl, ?_, (Below.refl _ _).alloc (Nat.le_refl _) _⟩
    exact (World.rowIs_made w (.bool false) n 4).congr (fun j _ => by simp)
  case round =>
    obtain ⟨k, hk, rfl, hR, hB⟩ := hrel
    by_cases hlt : k < n
    · have hlR := hR.lt
      go_wp2_with fail
      refine (hc.out _ k hB hlt).mono ?_
      rintro e w2 ⟨rfl, hb2⟩
      have hR2 := hR.of_block (hb2.block _ hlR)
      have hB2 := hB.trans (hb2.mono (by omega))
      have hR3 := hR2.set k (.bool (t k))
      have hfr := hR2.frozen k
      have hcell := hR2.cell hlt
      have hR4 : (w2.setCell ⟨w.heap.size, k, none⟩ (.bool (t k))).rowIs w.heap.size 4 n (fun j => .bool (if j < k + 1 then t j else false)) := hR3.congr (fun j _ => by
        by_cases h1 : j = k
        · subst h1; simp
        · by_cases h2 : j < k
          · rw [if_neg h1, if_pos h2, if_pos (by omega)]
          · rw [if_neg h1, if_neg h2, if_neg (by omega)])
      have hB4 := hB2.setCell (p := ⟨w.heap.size, k, none⟩) (Nat.le_refl _) (.bool (t k))
      clear hR3 hR hB hb2
      go_wp2_with fail
      go_roundw
      case rel => exact ⟨k + 1, by omega, by go_num, hR4, hB4⟩
      case measure => simp [intOf]; omega
    · go_wp2_with fail
      go_ret
      exact ⟨w.heap.size, rfl, Nat.le_refl _, hR.congr (fun j hj => by rw [if_pos (by omega)]), hB⟩

set_option maxHeartbeats 2000000 in
set_option maxRecDepth 100000 in
theorem made_23 {vars n : Nat} {p1 p2 p3 : Value} {w : World} {t : Nat → Bool} (hv : vars ≤ 8) (hn : 2 ^ vars = n)
    (hc : Hq (∀ (wr : World) (b : Nat), Below w.heap.size w wr → b < n → Calls Try.prog 62 #[.int .i64 (b : Int), p1, p2, p3] wr fun e w' => e = .returned (.bool (t b)) ∧ Below wr.heap.size wr w')) :
    Calls Try.prog 11 #[.int .i64 (vars : Int), .func (.func 62) #[] #[p1, p2, p3]] w fun e w' => ∃ tb, e = .returned (.slice (some ⟨tb, 0, none⟩) n n) ∧ w.heap.size ≤ tb ∧ Tab w' tb n t ∧ Below w.heap.size w w' := by
  obtain ⟨hw1, hw2⟩ := pow_wrap (by omega) hn
  have hn8 : n ≤ 256 := by
    have : 2 ^ vars ≤ 2 ^ 8 := Nat.pow_le_pow_right (by omega) hv
    omega
  have hmk := run_make_row' (P := Try.prog) 29 4 (.bool false) 1 Try.u29 Try.info4 rfl .i64 .i64 n (by omega) (by omega)
  go_enter Try.func11, Try.ntmps11
  go_wp2_with fail
  go_loopw [12] (fun i wr => ∃ k : Nat, k ≤ n ∧ i = .int .i64 (k : Int) ∧ wr.rowIs w.heap.size 4 n (fun j => .bool (if j < k then t j else false)) ∧ Below w.heap.size w wr) (fun i _ => n - (intOf i).toNat)
  case atStart =>
    refine ⟨0, by omega, rfl, ?_, (Below.refl _ _).alloc (Nat.le_refl _) _⟩
    exact (World.rowIs_made w (.bool false) n 4).congr (fun j _ => by simp)
  case round =>
    obtain ⟨k, hk, rfl, hR, hB⟩ := hrel
    by_cases hlt : k < n
    · have hlR := hR.lt
      go_wp2_with fail
      refine (hc.out _ k hB hlt).mono ?_
      rintro e w2 ⟨rfl, hb2⟩
      have hR2 := hR.of_block (hb2.block _ hlR)
      have hB2 := hB.trans (hb2.mono (by omega))
      have hR3 := hR2.set k (.bool (t k))
      have hfr := hR2.frozen k
      have hcell := hR2.cell hlt
      have hR4 : (w2.setCell ⟨w.heap.size, k, none⟩ (.bool (t k))).rowIs w.heap.size 4 n (fun j => .bool (if j < k + 1 then t j else false)) := hR3.congr (fun j _ => by
        by_cases h1 : j = k
        · subst h1; simp
        · by_cases h2 : j < k
          · rw [if_neg h1, if_pos h2, if_pos (by omega)]
          · rw [if_neg h1, if_neg h2, if_neg (by omega)])
      have hB4 := hB2.setCell (p := ⟨w.heap.size, k, none⟩) (Nat.le_refl _) (.bool (t k))
      clear hR3 hR hB hb2
      go_wp2_with fail
      go_roundw
      case rel => exact ⟨k + 1, by omega, by go_num, hR4, hB4⟩
      case measure => simp [intOf]; omega
    · go_wp2_with fail
      go_ret
      exact ⟨w.heap.size, rfl, Nat.le_refl _, hR.congr (fun j hj => by rw [if_pos (by omega)]), hB⟩

set_option maxHeartbeats 2000000 in
set_option maxRecDepth 100000 in
theorem made_24 {vars n : Nat} {p1 p2 p3 : Value} {w : World} {t : Nat → Bool} (hv : vars ≤ 8) (hn : 2 ^ vars = n)
    (hc : Hq (∀ (wr : World) (b : Nat), Below w.heap.size w wr → b < n → Calls Try.prog 63 #[.int .i64 (b : Int), p1, p2, p3] wr fun e w' => e = .returned (.bool (t b)) ∧ Below wr.heap.size wr w')) :
    Calls Try.prog 11 #[.int .i64 (vars : Int), .func (.func 63) #[] #[p1, p2, p3]] w fun e w' => ∃ tb, e = .returned (.slice (some ⟨tb, 0, none⟩) n n) ∧ w.heap.size ≤ tb ∧ Tab w' tb n t ∧ Below w.heap.size w w' := by
  obtain ⟨hw1, hw2⟩ := pow_wrap (by omega) hn
  have hn8 : n ≤ 256 := by
    have : 2 ^ vars ≤ 2 ^ 8 := Nat.pow_le_pow_right (by omega) hv
    omega
  have hmk := run_make_row' (P := Try.prog) 29 4 (.bool false) 1 Try.u29 Try.info4 rfl .i64 .i64 n (by omega) (by omega)
  go_enter Try.func11, Try.ntmps11
  go_wp2_with fail
  go_loopw [12] (fun i wr => ∃ k : Nat, k ≤ n ∧ i = .int .i64 (k : Int) ∧ wr.rowIs w.heap.size 4 n (fun j => .bool (if j < k then t j else false)) ∧ Below w.heap.size w wr) (fun i _ => n - (intOf i).toNat)
  case atStart =>
    refine ⟨0, by omega, rfl, ?_, (Below.refl _ _).alloc (Nat.le_refl _) _⟩
    exact (World.rowIs_made w (.bool false) n 4).congr (fun j _ => by simp)
  case round =>
    obtain ⟨k, hk, rfl, hR, hB⟩ := hrel
    by_cases hlt : k < n
    · have hlR := hR.lt
      go_wp2_with fail
      refine (hc.out _ k hB hlt).mono ?_
      rintro e w2 ⟨rfl, hb2⟩
      have hR2 := hR.of_block (hb2.block _ hlR)
      have hB2 := hB.trans (hb2.mono (by omega))
      have hR3 := hR2.set k (.bool (t k))
      have hfr := hR2.frozen k
      have hcell := hR2.cell hlt
      have hR4 : (w2.setCell ⟨w.heap.size, k, none⟩ (.bool (t k))).rowIs w.heap.size 4 n (fun j => .bool (if j < k + 1 then t j else false)) := hR3.congr (fun j _ => by
        by_cases h1 : j = k
        · subst h1; simp
        · by_cases h2 : j < k
          · rw [if_neg h1, if_pos h2, if_pos (by omega)]
          · rw [if_neg h1, if_neg h2, if_neg (by omega)])
      have hB4 := hB2.setCell (p := ⟨w.heap.size, k, none⟩) (Nat.le_refl _) (.bool (t k))
      clear hR3 hR hB hb2
      go_wp2_with fail
      go_roundw
      case rel => exact ⟨k + 1, by omega, by go_num, hR4, hB4⟩
      case measure => simp [intOf]; omega
    · go_wp2_with fail
      go_ret
      exact ⟨w.heap.size, rfl, Nat.le_refl _, hR.congr (fun j hj => by rw [if_pos (by omega)]), hB⟩

set_option maxHeartbeats 2000000 in
set_option maxRecDepth 100000 in
theorem made_25 {vars n : Nat} {p1 p2 p3 : Value} {w : World} {t : Nat → Bool} (hv : vars ≤ 8) (hn : 2 ^ vars = n)
    (hc : Hq (∀ (wr : World) (b : Nat), Below w.heap.size w wr → b < n → Calls Try.prog 64 #[.int .i64 (b : Int), p1, p2, p3] wr fun e w' => e = .returned (.bool (t b)) ∧ Below wr.heap.size wr w')) :
    Calls Try.prog 11 #[.int .i64 (vars : Int), .func (.func 64) #[] #[p1, p2, p3]] w fun e w' => ∃ tb, e = .returned (.slice (some ⟨tb, 0, none⟩) n n) ∧ w.heap.size ≤ tb ∧ Tab w' tb n t ∧ Below w.heap.size w w' := by
  obtain ⟨hw1, hw2⟩ := pow_wrap (by omega) hn
  have hn8 : n ≤ 256 := by
    have : 2 ^ vars ≤ 2 ^ 8 := Nat.pow_le_pow_right (by omega) hv
    omega
  have hmk := run_make_row' (P := Try.prog) 29 4 (.bool false) 1 Try.u29 Try.info4 rfl .i64 .i64 n (by omega) (by omega)
  go_enter Try.func11, Try.ntmps11
  go_wp2_with fail
  go_loopw [12] (fun i wr => ∃ k : Nat, k ≤ n ∧ i = .int .i64 (k : Int) ∧ wr.rowIs w.heap.size 4 n (fun j => .bool (if j < k then t j else false)) ∧ Below w.heap.size w wr) (fun i _ => n - (intOf i).toNat)
  case atStart =>
    refine ⟨0, by omega, rfl, ?_, (Below.refl _ _).alloc (Nat.le_refl _) _⟩
    exact (World.rowIs_made w (.bool false) n 4).congr (fun j _ => by simp)
  case round =>
    obtain ⟨k, hk, rfl, hR, hB⟩ := hrel
    by_cases hlt : k < n
    · have hlR := hR.lt
      go_wp2_with fail
      refine (hc.out _ k hB hlt).mono ?_
      rintro e w2 ⟨rfl, hb2⟩
      have hR2 := hR.of_block (hb2.block _ hlR)
      have hB2 := hB.trans (hb2.mono (by omega))
      have hR3 := hR2.set k (.bool (t k))
      have hfr := hR2.frozen k
      have hcell := hR2.cell hlt
      have hR4 : (w2.setCell ⟨w.heap.size, k, none⟩ (.bool (t k))).rowIs w.heap.size 4 n (fun j => .bool (if j < k + 1 then t j else false)) := hR3.congr (fun j _ => by
        by_cases h1 : j = k
        · subst h1; simp
        · by_cases h2 : j < k
          · rw [if_neg h1, if_pos h2, if_pos (by omega)]
          · rw [if_neg h1, if_neg h2, if_neg (by omega)])
      have hB4 := hB2.setCell (p := ⟨w.heap.size, k, none⟩) (Nat.le_refl _) (.bool (t k))
      clear hR3 hR hB hb2
      go_wp2_with fail
      go_roundw
      case rel => exact ⟨k + 1, by omega, by go_num, hR4, hB4⟩
      case measure => simp [intOf]; omega
    · go_wp2_with fail
      go_ret
      exact ⟨w.heap.size, rfl, Nat.le_refl _, hR.congr (fun j hj => by rw [if_pos (by omega)]), hB⟩

end Go.Proofs.Ytgcimcpcnoojnaa


