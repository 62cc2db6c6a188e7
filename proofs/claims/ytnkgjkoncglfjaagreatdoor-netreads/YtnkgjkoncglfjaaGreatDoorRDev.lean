/-
  The document's answer on nets: a device.
-/
import Derived.Test.YtnkgjkoncglfjaaGreatDoorRPeer
namespace Go.Proofs.YtnkgjkoncglfjaaGreatDoor
open Go.RowKit

set_option maxHeartbeats 4000000 in
set_option maxRecDepth 100000 in
theorem rdev_1 (nm : ByteArray) (ad : Int) (pl : Nat) (Ab Ar At : Option Addr) (nb cb nr cr nt ct : Nat) (c : Int) (w : World) 
    (RT : Hid (∀ W, Below w.heap.size w W → Calls Tryz.prog 62 #[.slice At nt ct] W fun e w' => e = .returned (.int .i64 c) ∧ Below W.heap.size W w')) :
    Calls Tryz.prog 35 #[.agg #[.string nm, .int .i64 1, .int .i64 ad, .int .u8 (pl : Int), .slice Ab nb cb, .slice Ar nr cr, .slice At nt ct]] w fun e w' => e = .returned (.int .i64 (if (!(decide (0 ≤ ad) && decide (ad ≤ 15))) || (decide (0 < pl) != false) then 1 else if 3 < nb then 2 else if 0 < nb then 1 else if (decide (0 < nr)) || (decide (0 < nt)) then 1 else if 8 < nr then 2 else c)) ∧ Below w.heap.size w w' := by
  have D0 := Below.alN (Below.refl w.heap.size w) (.cells #[.string nm, .int .i64 1, .int .i64 ad, .int .u8 (pl : Int), .slice Ab nb cb, .slice Ar nr cr, .slice At nt ct] 50)
  have I0 : Hid (∀ w, Calls Tryz.prog 34 #[.int .i64 1, .int .i64 1, .int .i64 5] w fun e w' => e = .returned (.bool true) ∧ w' = w) := fun w => inN 1 1 5 w
  have V0 := seven_new w (.string nm) (.int .i64 1) (.int .i64 ad) (.int .u8 (pl : Int)) (.slice Ab nb cb) (.slice Ar nr cr) (.slice At nt ct) 50
  obtain ⟨_, q0, q1, q2, q3, q4, q5, q6⟩ := id V0
  have I1 : Hid (∀ w, Calls Tryz.prog 34 #[.int .i64 ad, .int .i64 0, .int .i64 15] w fun e w' => e = .returned (.bool (decide (0 ≤ ad) && decide (ad ≤ 15))) ∧ w' = w) := fun w => inN ad 0 15 w
  generalize (decide (0 ≤ ad) && decide (ad ≤ 15)) = x0 at *
  cases x0
  · go_enter Tryz.func35, Tryz.ntmps35
    go_wp2_with (first | (go_at_call_of 34 (Value.int .i64 1); refine (I0.out _).mono ?_; rintro e w' ⟨rfl, rfl⟩) | (go_at_call_of 34 (Value.int .i64 ad); refine (I1.out _).mono ?_; rintro e w' ⟨rfl, rfl⟩))
    go_ret
    first | exact ⟨rfl, D0⟩ | exact ⟨by simp, D0⟩
  cases p0 : decide (0 < pl)
  · have p1 : decide ((0 : Int) < (pl : Int)) = false := by rw [← p0]; simp
    by_cases n3 : 3 < nb
    · have u3 : decide ((3 : Int) < (nb : Int)) = true := by simp; omega
      go_enter Tryz.func35, Tryz.ntmps35
      go_wp2_with (first | (go_at_call_of 34 (Value.int .i64 1); refine (I0.out _).mono ?_; rintro e w' ⟨rfl, rfl⟩) | (go_at_call_of 34 (Value.int .i64 ad); refine (I1.out _).mono ?_; rintro e w' ⟨rfl, rfl⟩))
      go_ret
      first | exact ⟨rfl, D0⟩ | exact ⟨by simp, D0⟩
    have u3 : decide ((3 : Int) < (nb : Int)) = false := by simp; omega
    by_cases n0 : 0 < nb
    · have u0 : ((nb : Int) == 0) = false := by simp; omega
      go_enter Tryz.func35, Tryz.ntmps35
      go_wp2_with (first | (go_at_call_of 34 (Value.int .i64 1); refine (I0.out _).mono ?_; rintro e w' ⟨rfl, rfl⟩) | (go_at_call_of 34 (Value.int .i64 ad); refine (I1.out _).mono ?_; rintro e w' ⟨rfl, rfl⟩))
      go_ret
      first | exact ⟨rfl, D0⟩ | exact ⟨by simp, D0⟩
    obtain rfl : nb = 0 := by omega
    clear n3 u3 n0
    by_cases r0 : 0 < nr
    · have v0 : decide ((0 : Int) < (nr : Int)) = true := by simp; omega
      go_enter Tryz.func35, Tryz.ntmps35
      go_wp2_with (first | (go_at_call_of 34 (Value.int .i64 1); refine (I0.out _).mono ?_; rintro e w' ⟨rfl, rfl⟩) | (go_at_call_of 34 (Value.int .i64 ad); refine (I1.out _).mono ?_; rintro e w' ⟨rfl, rfl⟩))
      go_loopw [4] (fun i wr => i = .int .i64 0 ∧ wr = (w.alloc (.cells #[.string nm, .int .i64 1, .int .i64 ad, .int .u8 (pl : Int), .slice Ab 0 cb, .slice Ar nr cr, .slice At nt ct] 50))) (fun i _ => 0)
      case atStart => exact ⟨rfl, rfl⟩
      case round =>
        obtain ⟨rfl, rfl⟩ := hrel
        go_wp2_with fail
        go_ret
        first | exact ⟨rfl, D0⟩ | exact ⟨by simp, D0⟩
    have v0 : decide ((0 : Int) < (nr : Int)) = false := by simp; omega
    by_cases t0 : 0 < nt
    · have z0 : decide ((0 : Int) < (nt : Int)) = true := by simp; omega
      go_enter Tryz.func35, Tryz.ntmps35
      go_wp2_with (first | (go_at_call_of 34 (Value.int .i64 1); refine (I0.out _).mono ?_; rintro e w' ⟨rfl, rfl⟩) | (go_at_call_of 34 (Value.int .i64 ad); refine (I1.out _).mono ?_; rintro e w' ⟨rfl, rfl⟩))
      go_loopw [4] (fun i wr => i = .int .i64 0 ∧ wr = (w.alloc (.cells #[.string nm, .int .i64 1, .int .i64 ad, .int .u8 (pl : Int), .slice Ab 0 cb, .slice Ar nr cr, .slice At nt ct] 50))) (fun i _ => 0)
      case atStart => exact ⟨rfl, rfl⟩
      case round =>
        obtain ⟨rfl, rfl⟩ := hrel
        go_wp2_with fail
        go_ret
        first | exact ⟨rfl, D0⟩ | exact ⟨by simp, D0⟩
    have z0 : decide ((0 : Int) < (nt : Int)) = false := by simp; omega
    have r8 : ¬ 8 < nr := by omega
    have v8 : decide ((8 : Int) < (nr : Int)) = false := by simp; omega
    go_enter Tryz.func35, Tryz.ntmps35
    go_wp2_with (first | (go_at_call_of 34 (Value.int .i64 1); refine (I0.out _).mono ?_; rintro e w' ⟨rfl, rfl⟩) | (go_at_call_of 34 (Value.int .i64 ad); refine (I1.out _).mono ?_; rintro e w' ⟨rfl, rfl⟩))
    go_loopw [4] (fun i wr => i = .int .i64 0 ∧ wr = (w.alloc (.cells #[.string nm, .int .i64 1, .int .i64 ad, .int .u8 (pl : Int), .slice Ab 0 cb, .slice Ar nr cr, .slice At nt ct] 50))) (fun i _ => 0)
    case atStart => exact ⟨rfl, rfl⟩
    case round =>
      obtain ⟨rfl, rfl⟩ := hrel
      go_wp2_with fail
      refine (RT.out _ D0).mono ?_
      rintro e w2 ⟨rfl, hb2⟩
      have D2 := chnN hb2 D0
      go_wp2_with fail
      go_ret
      first | exact ⟨rfl, D2⟩ | exact ⟨by simp, D2⟩
  · have p1 : decide ((0 : Int) < (pl : Int)) = true := by rw [← p0]; simp
    go_enter Tryz.func35, Tryz.ntmps35
    go_wp2_with (first | (go_at_call_of 34 (Value.int .i64 1); refine (I0.out _).mono ?_; rintro e w' ⟨rfl, rfl⟩) | (go_at_call_of 34 (Value.int .i64 ad); refine (I1.out _).mono ?_; rintro e w' ⟨rfl, rfl⟩))
    go_ret
    first | exact ⟨rfl, D0⟩ | exact ⟨by simp, D0⟩
set_option maxHeartbeats 4000000 in
set_option maxRecDepth 100000 in
theorem rdev_2 (nm : ByteArray) (ad : Int) (pl : Nat) (Ab Ar At : Option Addr) (nb cb nr cr nt ct : Nat) (c : Int) (w : World) 
    (RT : Hid (∀ W, Below w.heap.size w W → Calls Tryz.prog 62 #[.slice At nt ct] W fun e w' => e = .returned (.int .i64 c) ∧ Below W.heap.size W w')) :
    Calls Tryz.prog 35 #[.agg #[.string nm, .int .i64 2, .int .i64 ad, .int .u8 (pl : Int), .slice Ab nb cb, .slice Ar nr cr, .slice At nt ct]] w fun e w' => e = .returned (.int .i64 (if (!(ad == 0)) || (decide (0 < pl) != false) then 1 else if 3 < nb then 2 else if 0 < nb then 1 else if false then 1 else if 8 < nr then 2 else c)) ∧ Below w.heap.size w w' := by
  have D0 := Below.alN (Below.refl w.heap.size w) (.cells #[.string nm, .int .i64 2, .int .i64 ad, .int .u8 (pl : Int), .slice Ab nb cb, .slice Ar nr cr, .slice At nt ct] 50)
  have I0 : Hid (∀ w, Calls Tryz.prog 34 #[.int .i64 2, .int .i64 1, .int .i64 5] w fun e w' => e = .returned (.bool true) ∧ w' = w) := fun w => inN 2 1 5 w
  have V0 := seven_new w (.string nm) (.int .i64 2) (.int .i64 ad) (.int .u8 (pl : Int)) (.slice Ab nb cb) (.slice Ar nr cr) (.slice At nt ct) 50
  obtain ⟨_, q0, q1, q2, q3, q4, q5, q6⟩ := id V0
  cases a0 : (ad == 0)
  · have a1 : (ad != 0) = true := by simp [bne, a0]
    go_enter Tryz.func35, Tryz.ntmps35
    go_wp2_with (go_at_call_of 34 (Value.int .i64 2); refine (I0.out _).mono ?_; rintro e w' ⟨rfl, rfl⟩)
    go_ret
    first | exact ⟨rfl, D0⟩ | exact ⟨by simp, D0⟩
  have a1 : (ad != 0) = false := by simp [bne, a0]
  cases p0 : decide (0 < pl)
  · have p1 : decide ((0 : Int) < (pl : Int)) = false := by rw [← p0]; simp
    by_cases n3 : 3 < nb
    · have u3 : decide ((3 : Int) < (nb : Int)) = true := by simp; omega
      go_enter Tryz.func35, Tryz.ntmps35
      go_wp2_with (go_at_call_of 34 (Value.int .i64 2); refine (I0.out _).mono ?_; rintro e w' ⟨rfl, rfl⟩)
      go_ret
      first | exact ⟨rfl, D0⟩ | exact ⟨by simp, D0⟩
    have u3 : decide ((3 : Int) < (nb : Int)) = false := by simp; omega
    by_cases n0 : 0 < nb
    · have u0 : ((nb : Int) == 0) = false := by simp; omega
      go_enter Tryz.func35, Tryz.ntmps35
      go_wp2_with (go_at_call_of 34 (Value.int .i64 2); refine (I0.out _).mono ?_; rintro e w' ⟨rfl, rfl⟩)
      go_ret
      first | exact ⟨rfl, D0⟩ | exact ⟨by simp, D0⟩
    obtain rfl : nb = 0 := by omega
    clear n3 u3 n0
    by_cases r0 : 0 < nr
    · have v0 : decide ((0 : Int) < (nr : Int)) = true := by simp; omega
      by_cases r8 : 8 < nr
      · have v8 : decide ((8 : Int) < (nr : Int)) = true := by simp; omega
        by_cases t0 : 0 < nt
        · have z0 : decide ((0 : Int) < (nt : Int)) = true := by simp; omega
          go_enter Tryz.func35, Tryz.ntmps35
          go_wp2_with (go_at_call_of 34 (Value.int .i64 2); refine (I0.out _).mono ?_; rintro e w' ⟨rfl, rfl⟩)
          go_loopw [4] (fun i wr => i = .int .i64 0 ∧ wr = (w.alloc (.cells #[.string nm, .int .i64 2, .int .i64 ad, .int .u8 (pl : Int), .slice Ab 0 cb, .slice Ar nr cr, .slice At nt ct] 50))) (fun i _ => 0)
          case atStart => exact ⟨rfl, rfl⟩
          case round =>
            obtain ⟨rfl, rfl⟩ := hrel
            go_wp2_with fail
            go_ret
            first | exact ⟨rfl, D0⟩ | exact ⟨by simp, D0⟩
        · have z0 : decide ((0 : Int) < (nt : Int)) = false := by simp; omega
          go_enter Tryz.func35, Tryz.ntmps35
          go_wp2_with (go_at_call_of 34 (Value.int .i64 2); refine (I0.out _).mono ?_; rintro e w' ⟨rfl, rfl⟩)
          go_loopw [4] (fun i wr => i = .int .i64 0 ∧ wr = (w.alloc (.cells #[.string nm, .int .i64 2, .int .i64 ad, .int .u8 (pl : Int), .slice Ab 0 cb, .slice Ar nr cr, .slice At nt ct] 50))) (fun i _ => 0)
          case atStart => exact ⟨rfl, rfl⟩
          case round =>
            obtain ⟨rfl, rfl⟩ := hrel
            go_wp2_with fail
            go_ret
            first | exact ⟨rfl, D0⟩ | exact ⟨by simp, D0⟩
      have v8 : decide ((8 : Int) < (nr : Int)) = false := by simp; omega
      by_cases t0 : 0 < nt
      · have z0 : decide ((0 : Int) < (nt : Int)) = true := by simp; omega
        go_enter Tryz.func35, Tryz.ntmps35
        go_wp2_with (go_at_call_of 34 (Value.int .i64 2); refine (I0.out _).mono ?_; rintro e w' ⟨rfl, rfl⟩)
        go_loopw [4] (fun i wr => i = .int .i64 0 ∧ wr = (w.alloc (.cells #[.string nm, .int .i64 2, .int .i64 ad, .int .u8 (pl : Int), .slice Ab 0 cb, .slice Ar nr cr, .slice At nt ct] 50))) (fun i _ => 0)
        case atStart => exact ⟨rfl, rfl⟩
        case round =>
          obtain ⟨rfl, rfl⟩ := hrel
          go_wp2_with fail
          refine (RT.out _ D0).mono ?_
          rintro e w2 ⟨rfl, hb2⟩
          have D2 := chnN hb2 D0
          go_wp2_with fail
          go_ret
          first | exact ⟨rfl, D2⟩ | exact ⟨by simp, D2⟩
      · have z0 : decide ((0 : Int) < (nt : Int)) = false := by simp; omega
        go_enter Tryz.func35, Tryz.ntmps35
        go_wp2_with (go_at_call_of 34 (Value.int .i64 2); refine (I0.out _).mono ?_; rintro e w' ⟨rfl, rfl⟩)
        go_loopw [4] (fun i wr => i = .int .i64 0 ∧ wr = (w.alloc (.cells #[.string nm, .int .i64 2, .int .i64 ad, .int .u8 (pl : Int), .slice Ab 0 cb, .slice Ar nr cr, .slice At nt ct] 50))) (fun i _ => 0)
        case atStart => exact ⟨rfl, rfl⟩
        case round =>
          obtain ⟨rfl, rfl⟩ := hrel
          go_wp2_with fail
          refine (RT.out _ D0).mono ?_
          rintro e w2 ⟨rfl, hb2⟩
          have D2 := chnN hb2 D0
          go_wp2_with fail
          go_ret
          first | exact ⟨rfl, D2⟩ | exact ⟨by simp, D2⟩
    · have v0 : decide ((0 : Int) < (nr : Int)) = false := by simp; omega
      have r8 : ¬ 8 < nr := by omega
      have v8 : decide ((8 : Int) < (nr : Int)) = false := by simp; omega
      by_cases t0 : 0 < nt
      · have z0 : decide ((0 : Int) < (nt : Int)) = true := by simp; omega
        go_enter Tryz.func35, Tryz.ntmps35
        go_wp2_with (go_at_call_of 34 (Value.int .i64 2); refine (I0.out _).mono ?_; rintro e w' ⟨rfl, rfl⟩)
        go_loopw [4] (fun i wr => i = .int .i64 0 ∧ wr = (w.alloc (.cells #[.string nm, .int .i64 2, .int .i64 ad, .int .u8 (pl : Int), .slice Ab 0 cb, .slice Ar nr cr, .slice At nt ct] 50))) (fun i _ => 0)
        case atStart => exact ⟨rfl, rfl⟩
        case round =>
          obtain ⟨rfl, rfl⟩ := hrel
          go_wp2_with fail
          refine (RT.out _ D0).mono ?_
          rintro e w2 ⟨rfl, hb2⟩
          have D2 := chnN hb2 D0
          go_wp2_with fail
          go_ret
          first | exact ⟨rfl, D2⟩ | exact ⟨by simp, D2⟩
      · have z0 : decide ((0 : Int) < (nt : Int)) = false := by simp; omega
        go_enter Tryz.func35, Tryz.ntmps35
        go_wp2_with (go_at_call_of 34 (Value.int .i64 2); refine (I0.out _).mono ?_; rintro e w' ⟨rfl, rfl⟩)
        go_loopw [4] (fun i wr => i = .int .i64 0 ∧ wr = (w.alloc (.cells #[.string nm, .int .i64 2, .int .i64 ad, .int .u8 (pl : Int), .slice Ab 0 cb, .slice Ar nr cr, .slice At nt ct] 50))) (fun i _ => 0)
        case atStart => exact ⟨rfl, rfl⟩
        case round =>
          obtain ⟨rfl, rfl⟩ := hrel
          go_wp2_with fail
          refine (RT.out _ D0).mono ?_
          rintro e w2 ⟨rfl, hb2⟩
          have D2 := chnN hb2 D0
          go_wp2_with fail
          go_ret
          first | exact ⟨rfl, D2⟩ | exact ⟨by simp, D2⟩
  · have p1 : decide ((0 : Int) < (pl : Int)) = true := by rw [← p0]; simp
    go_enter Tryz.func35, Tryz.ntmps35
    go_wp2_with (go_at_call_of 34 (Value.int .i64 2); refine (I0.out _).mono ?_; rintro e w' ⟨rfl, rfl⟩)
    go_ret
    first | exact ⟨rfl, D0⟩ | exact ⟨by simp, D0⟩
set_option maxHeartbeats 4000000 in
set_option maxRecDepth 100000 in
theorem rdev_3 (nm : ByteArray) (ad : Int) (pl : Nat) (Ab Ar At : Option Addr) (nb cb nr cr nt ct : Nat) (c : Int) (w : World) 
    (RT : Hid (∀ W, Below w.heap.size w W → Calls Tryz.prog 62 #[.slice At nt ct] W fun e w' => e = .returned (.int .i64 c) ∧ Below W.heap.size W w')) :
    Calls Tryz.prog 35 #[.agg #[.string nm, .int .i64 3, .int .i64 ad, .int .u8 (pl : Int), .slice Ab nb cb, .slice Ar nr cr, .slice At nt ct]] w fun e w' => e = .returned (.int .i64 (if (!(ad == 0)) || (decide (0 < pl) != false) then 1 else if 3 < nb then 2 else if 0 < nb then 1 else if decide (0 < nt) then 1 else if 8 < nr then 2 else c)) ∧ Below w.heap.size w w' := by
  have D0 := Below.alN (Below.refl w.heap.size w) (.cells #[.string nm, .int .i64 3, .int .i64 ad, .int .u8 (pl : Int), .slice Ab nb cb, .slice Ar nr cr, .slice At nt ct] 50)
  have I0 : Hid (∀ w, Calls Tryz.prog 34 #[.int .i64 3, .int .i64 1, .int .i64 5] w fun e w' => e = .returned (.bool true) ∧ w' = w) := fun w => inN 3 1 5 w
  have V0 := seven_new w (.string nm) (.int .i64 3) (.int .i64 ad) (.int .u8 (pl : Int)) (.slice Ab nb cb) (.slice Ar nr cr) (.slice At nt ct) 50
  obtain ⟨_, q0, q1, q2, q3, q4, q5, q6⟩ := id V0
  cases a0 : (ad == 0)
  · have a1 : (ad != 0) = true := by simp [bne, a0]
    go_enter Tryz.func35, Tryz.ntmps35
    go_wp2_with (go_at_call_of 34 (Value.int .i64 3); refine (I0.out _).mono ?_; rintro e w' ⟨rfl, rfl⟩)
    go_ret
    first | exact ⟨rfl, D0⟩ | exact ⟨by simp, D0⟩
  have a1 : (ad != 0) = false := by simp [bne, a0]
  cases p0 : decide (0 < pl)
  · have p1 : decide ((0 : Int) < (pl : Int)) = false := by rw [← p0]; simp
    by_cases n3 : 3 < nb
    · have u3 : decide ((3 : Int) < (nb : Int)) = true := by simp; omega
      go_enter Tryz.func35, Tryz.ntmps35
      go_wp2_with (go_at_call_of 34 (Value.int .i64 3); refine (I0.out _).mono ?_; rintro e w' ⟨rfl, rfl⟩)
      go_ret
      first | exact ⟨rfl, D0⟩ | exact ⟨by simp, D0⟩
    have u3 : decide ((3 : Int) < (nb : Int)) = false := by simp; omega
    by_cases n0 : 0 < nb
    · have u0 : ((nb : Int) == 0) = false := by simp; omega
      go_enter Tryz.func35, Tryz.ntmps35
      go_wp2_with (go_at_call_of 34 (Value.int .i64 3); refine (I0.out _).mono ?_; rintro e w' ⟨rfl, rfl⟩)
      go_ret
      first | exact ⟨rfl, D0⟩ | exact ⟨by simp, D0⟩
    obtain rfl : nb = 0 := by omega
    clear n3 u3 n0
    by_cases r0 : 0 < nr
    · have v0 : decide ((0 : Int) < (nr : Int)) = true := by simp; omega
      by_cases t0 : 0 < nt
      · have z0 : decide ((0 : Int) < (nt : Int)) = true := by simp; omega
        go_enter Tryz.func35, Tryz.ntmps35
        go_wp2_with (go_at_call_of 34 (Value.int .i64 3); refine (I0.out _).mono ?_; rintro e w' ⟨rfl, rfl⟩)
        go_loopw [4] (fun i wr => i = .int .i64 0 ∧ wr = (w.alloc (.cells #[.string nm, .int .i64 3, .int .i64 ad, .int .u8 (pl : Int), .slice Ab 0 cb, .slice Ar nr cr, .slice At nt ct] 50))) (fun i _ => 0)
        case atStart => exact ⟨rfl, rfl⟩
        case round =>
          obtain ⟨rfl, rfl⟩ := hrel
          go_wp2_with fail
          go_ret
          first | exact ⟨rfl, D0⟩ | exact ⟨by simp, D0⟩
      have z0 : decide ((0 : Int) < (nt : Int)) = false := by simp; omega
      by_cases r8 : 8 < nr
      · have v8 : decide ((8 : Int) < (nr : Int)) = true := by simp; omega
        go_enter Tryz.func35, Tryz.ntmps35
        go_wp2_with (go_at_call_of 34 (Value.int .i64 3); refine (I0.out _).mono ?_; rintro e w' ⟨rfl, rfl⟩)
        go_loopw [4] (fun i wr => i = .int .i64 0 ∧ wr = (w.alloc (.cells #[.string nm, .int .i64 3, .int .i64 ad, .int .u8 (pl : Int), .slice Ab 0 cb, .slice Ar nr cr, .slice At nt ct] 50))) (fun i _ => 0)
        case atStart => exact ⟨rfl, rfl⟩
        case round =>
          obtain ⟨rfl, rfl⟩ := hrel
          go_wp2_with fail
          go_ret
          first | exact ⟨rfl, D0⟩ | exact ⟨by simp, D0⟩
      have v8 : decide ((8 : Int) < (nr : Int)) = false := by simp; omega
      go_enter Tryz.func35, Tryz.ntmps35
      go_wp2_with (go_at_call_of 34 (Value.int .i64 3); refine (I0.out _).mono ?_; rintro e w' ⟨rfl, rfl⟩)
      go_loopw [4] (fun i wr => i = .int .i64 0 ∧ wr = (w.alloc (.cells #[.string nm, .int .i64 3, .int .i64 ad, .int .u8 (pl : Int), .slice Ab 0 cb, .slice Ar nr cr, .slice At nt ct] 50))) (fun i _ => 0)
      case atStart => exact ⟨rfl, rfl⟩
      case round =>
        obtain ⟨rfl, rfl⟩ := hrel
        go_wp2_with fail
        refine (RT.out _ D0).mono ?_
        rintro e w2 ⟨rfl, hb2⟩
        have D2 := chnN hb2 D0
        go_wp2_with fail
        go_ret
        first | exact ⟨rfl, D2⟩ | exact ⟨by simp, D2⟩
    · have v0 : decide ((0 : Int) < (nr : Int)) = false := by simp; omega
      by_cases t0 : 0 < nt
      · have z0 : decide ((0 : Int) < (nt : Int)) = true := by simp; omega
        go_enter Tryz.func35, Tryz.ntmps35
        go_wp2_with (go_at_call_of 34 (Value.int .i64 3); refine (I0.out _).mono ?_; rintro e w' ⟨rfl, rfl⟩)
        go_loopw [4] (fun i wr => i = .int .i64 0 ∧ wr = (w.alloc (.cells #[.string nm, .int .i64 3, .int .i64 ad, .int .u8 (pl : Int), .slice Ab 0 cb, .slice Ar nr cr, .slice At nt ct] 50))) (fun i _ => 0)
        case atStart => exact ⟨rfl, rfl⟩
        case round =>
          obtain ⟨rfl, rfl⟩ := hrel
          go_wp2_with fail
          go_ret
          first | exact ⟨rfl, D0⟩ | exact ⟨by simp, D0⟩
      have z0 : decide ((0 : Int) < (nt : Int)) = false := by simp; omega
      have r8 : ¬ 8 < nr := by omega
      have v8 : decide ((8 : Int) < (nr : Int)) = false := by simp; omega
      go_enter Tryz.func35, Tryz.ntmps35
      go_wp2_with (go_at_call_of 34 (Value.int .i64 3); refine (I0.out _).mono ?_; rintro e w' ⟨rfl, rfl⟩)
      go_loopw [4] (fun i wr => i = .int .i64 0 ∧ wr = (w.alloc (.cells #[.string nm, .int .i64 3, .int .i64 ad, .int .u8 (pl : Int), .slice Ab 0 cb, .slice Ar nr cr, .slice At nt ct] 50))) (fun i _ => 0)
      case atStart => exact ⟨rfl, rfl⟩
      case round =>
        obtain ⟨rfl, rfl⟩ := hrel
        go_wp2_with fail
        refine (RT.out _ D0).mono ?_
        rintro e w2 ⟨rfl, hb2⟩
        have D2 := chnN hb2 D0
        go_wp2_with fail
        go_ret
        first | exact ⟨rfl, D2⟩ | exact ⟨by simp, D2⟩
  · have p1 : decide ((0 : Int) < (pl : Int)) = true := by rw [← p0]; simp
    go_enter Tryz.func35, Tryz.ntmps35
    go_wp2_with (go_at_call_of 34 (Value.int .i64 3); refine (I0.out _).mono ?_; rintro e w' ⟨rfl, rfl⟩)
    go_ret
    first | exact ⟨rfl, D0⟩ | exact ⟨by simp, D0⟩
set_option maxHeartbeats 4000000 in
set_option maxRecDepth 100000 in
theorem rdev_4 (nm : ByteArray) (ad : Int) (pl : Nat) (Ab Ar At : Option Addr) (nb cb nr cr nt ct : Nat) (c : Int) (w : World) 
    (RT : Hid (∀ W, Below w.heap.size w W → Calls Tryz.prog 62 #[.slice At nt ct] W fun e w' => e = .returned (.int .i64 c) ∧ Below W.heap.size W w')) :
    Calls Tryz.prog 35 #[.agg #[.string nm, .int .i64 4, .int .i64 ad, .int .u8 (pl : Int), .slice Ab nb cb, .slice Ar nr cr, .slice At nt ct]] w fun e w' => e = .returned (.int .i64 (if (!(decide (0 ≤ ad) && decide (ad ≤ 15))) || (decide (0 < pl) != true) then 1 else if 3 < nb then 2 else if 0 < nb then 1 else if (decide (0 < nr)) || (decide (0 < nt)) then 1 else if 8 < nr then 2 else c)) ∧ Below w.heap.size w w' := by
  have D0 := Below.alN (Below.refl w.heap.size w) (.cells #[.string nm, .int .i64 4, .int .i64 ad, .int .u8 (pl : Int), .slice Ab nb cb, .slice Ar nr cr, .slice At nt ct] 50)
  have I0 : Hid (∀ w, Calls Tryz.prog 34 #[.int .i64 4, .int .i64 1, .int .i64 5] w fun e w' => e = .returned (.bool true) ∧ w' = w) := fun w => inN 4 1 5 w
  have V0 := seven_new w (.string nm) (.int .i64 4) (.int .i64 ad) (.int .u8 (pl : Int)) (.slice Ab nb cb) (.slice Ar nr cr) (.slice At nt ct) 50
  obtain ⟨_, q0, q1, q2, q3, q4, q5, q6⟩ := id V0
  have I1 : Hid (∀ w, Calls Tryz.prog 34 #[.int .i64 ad, .int .i64 0, .int .i64 15] w fun e w' => e = .returned (.bool (decide (0 ≤ ad) && decide (ad ≤ 15))) ∧ w' = w) := fun w => inN ad 0 15 w
  generalize (decide (0 ≤ ad) && decide (ad ≤ 15)) = x0 at *
  cases x0
  · go_enter Tryz.func35, Tryz.ntmps35
    go_wp2_with (first | (go_at_call_of 34 (Value.int .i64 4); refine (I0.out _).mono ?_; rintro e w' ⟨rfl, rfl⟩) | (go_at_call_of 34 (Value.int .i64 ad); refine (I1.out _).mono ?_; rintro e w' ⟨rfl, rfl⟩))
    go_ret
    first | exact ⟨rfl, D0⟩ | exact ⟨by simp, D0⟩
  cases p0 : decide (0 < pl)
  · have p1 : decide ((0 : Int) < (pl : Int)) = false := by rw [← p0]; simp
    go_enter Tryz.func35, Tryz.ntmps35
    go_wp2_with (first | (go_at_call_of 34 (Value.int .i64 4); refine (I0.out _).mono ?_; rintro e w' ⟨rfl, rfl⟩) | (go_at_call_of 34 (Value.int .i64 ad); refine (I1.out _).mono ?_; rintro e w' ⟨rfl, rfl⟩))
    go_ret
    first | exact ⟨rfl, D0⟩ | exact ⟨by simp, D0⟩
  · have p1 : decide ((0 : Int) < (pl : Int)) = true := by rw [← p0]; simp
    by_cases n3 : 3 < nb
    · have u3 : decide ((3 : Int) < (nb : Int)) = true := by simp; omega
      go_enter Tryz.func35, Tryz.ntmps35
      go_wp2_with (first | (go_at_call_of 34 (Value.int .i64 4); refine (I0.out _).mono ?_; rintro e w' ⟨rfl, rfl⟩) | (go_at_call_of 34 (Value.int .i64 ad); refine (I1.out _).mono ?_; rintro e w' ⟨rfl, rfl⟩))
      go_ret
      first | exact ⟨rfl, D0⟩ | exact ⟨by simp, D0⟩
    have u3 : decide ((3 : Int) < (nb : Int)) = false := by simp; omega
    by_cases n0 : 0 < nb
    · have u0 : ((nb : Int) == 0) = false := by simp; omega
      go_enter Tryz.func35, Tryz.ntmps35
      go_wp2_with (first | (go_at_call_of 34 (Value.int .i64 4); refine (I0.out _).mono ?_; rintro e w' ⟨rfl, rfl⟩) | (go_at_call_of 34 (Value.int .i64 ad); refine (I1.out _).mono ?_; rintro e w' ⟨rfl, rfl⟩))
      go_ret
      first | exact ⟨rfl, D0⟩ | exact ⟨by simp, D0⟩
    obtain rfl : nb = 0 := by omega
    clear n3 u3 n0
    by_cases r0 : 0 < nr
    · have v0 : decide ((0 : Int) < (nr : Int)) = true := by simp; omega
      go_enter Tryz.func35, Tryz.ntmps35
      go_wp2_with (first | (go_at_call_of 34 (Value.int .i64 4); refine (I0.out _).mono ?_; rintro e w' ⟨rfl, rfl⟩) | (go_at_call_of 34 (Value.int .i64 ad); refine (I1.out _).mono ?_; rintro e w' ⟨rfl, rfl⟩))
      go_loopw [4] (fun i wr => i = .int .i64 0 ∧ wr = (w.alloc (.cells #[.string nm, .int .i64 4, .int .i64 ad, .int .u8 (pl : Int), .slice Ab 0 cb, .slice Ar nr cr, .slice At nt ct] 50))) (fun i _ => 0)
      case atStart => exact ⟨rfl, rfl⟩
      case round =>
        obtain ⟨rfl, rfl⟩ := hrel
        go_wp2_with fail
        go_ret
        first | exact ⟨rfl, D0⟩ | exact ⟨by simp, D0⟩
    have v0 : decide ((0 : Int) < (nr : Int)) = false := by simp; omega
    by_cases t0 : 0 < nt
    · have z0 : decide ((0 : Int) < (nt : Int)) = true := by simp; omega
      go_enter Tryz.func35, Tryz.ntmps35
      go_wp2_with (first | (go_at_call_of 34 (Value.int .i64 4); refine (I0.out _).mono ?_; rintro e w' ⟨rfl, rfl⟩) | (go_at_call_of 34 (Value.int .i64 ad); refine (I1.out _).mono ?_; rintro e w' ⟨rfl, rfl⟩))
      go_loopw [4] (fun i wr => i = .int .i64 0 ∧ wr = (w.alloc (.cells #[.string nm, .int .i64 4, .int .i64 ad, .int .u8 (pl : Int), .slice Ab 0 cb, .slice Ar nr cr, .slice At nt ct] 50))) (fun i _ => 0)
      case atStart => exact ⟨rfl, rfl⟩
      case round =>
        obtain ⟨rfl, rfl⟩ := hrel
        go_wp2_with fail
        go_ret
        first | exact ⟨rfl, D0⟩ | exact ⟨by simp, D0⟩
    have z0 : decide ((0 : Int) < (nt : Int)) = false := by simp; omega
    have r8 : ¬ 8 < nr := by omega
    have v8 : decide ((8 : Int) < (nr : Int)) = false := by simp; omega
    go_enter Tryz.func35, Tryz.ntmps35
    go_wp2_with (first | (go_at_call_of 34 (Value.int .i64 4); refine (I0.out _).mono ?_; rintro e w' ⟨rfl, rfl⟩) | (go_at_call_of 34 (Value.int .i64 ad); refine (I1.out _).mono ?_; rintro e w' ⟨rfl, rfl⟩))
    go_loopw [4] (fun i wr => i = .int .i64 0 ∧ wr = (w.alloc (.cells #[.string nm, .int .i64 4, .int .i64 ad, .int .u8 (pl : Int), .slice Ab 0 cb, .slice Ar nr cr, .slice At nt ct] 50))) (fun i _ => 0)
    case atStart => exact ⟨rfl, rfl⟩
    case round =>
      obtain ⟨rfl, rfl⟩ := hrel
      go_wp2_with fail
      refine (RT.out _ D0).mono ?_
      rintro e w2 ⟨rfl, hb2⟩
      have D2 := chnN hb2 D0
      go_wp2_with fail
      go_ret
      first | exact ⟨rfl, D2⟩ | exact ⟨by simp, D2⟩
end Go.Proofs.YtnkgjkoncglfjaaGreatDoor


