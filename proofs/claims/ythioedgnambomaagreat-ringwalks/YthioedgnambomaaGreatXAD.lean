/-
  The document's answer on nets: a device.
-/
import Derived.Test.YthioedgnambomaaGreatXAC
import Derived.Test.YthioedgnambomaaGreatLy
namespace Go.Proofs.YthioedgnambomaaGreat
open Go.RowKit

set_option maxHeartbeats 4000000 in
set_option maxRecDepth 100000 in
theorem rdev_1 (nm : ByteArray) (ad : Int) (pl : Nat) (Ab Ar At : Option Addr) (nb cb nr cr nt ct : Nat) (c : Int) (w : World) 
    (RT : Hid (∀ W, Below w.heap.size w W → Calls Tryz.prog 46 #[.slice At nt ct] W fun e w' => e = .returned (.int .i64 c) ∧ Below W.heap.size W w')) :
    Calls Tryz.prog 22 #[.agg #[.string nm, .int .i64 1, .int .i64 ad, .int .u8 (pl : Int), .slice Ab nb cb, .slice Ar nr cr, .slice At nt ct]] w fun e w' => e = .returned (.int .i64 (if (!(decide (0 ≤ ad) && decide (ad ≤ 15))) || (decide (0 < pl) != false) then 1 else if 3 < nb then 2 else if 0 < nb then 1 else if (decide (0 < nr)) || (decide (0 < nt)) then 1 else if 8 < nr then 2 else c)) ∧ Below w.heap.size w w' := by
  have D0 := Below.alN (Below.refl w.heap.size w) (.cells #[.string nm, .int .i64 1, .int .i64 ad, .int .u8 (pl : Int), .slice Ab nb cb, .slice Ar nr cr, .slice At nt ct] 41)
  have I0 : Hid (∀ w, Calls Tryz.prog 7 #[.int .i64 1, .int .i64 1, .int .i64 5] w fun e w' => e = .returned (.bool true) ∧ w' = w) := fun w => inN 1 1 5 w
  have V0 := seven_new w (.string nm) (.int .i64 1) (.int .i64 ad) (.int .u8 (pl : Int)) (.slice Ab nb cb) (.slice Ar nr cr) (.slice At nt ct) 41
  obtain ⟨_, q0, q1, q2, q3, q4, q5, q6⟩ := id V0
  have I1 : Hid (∀ w, Calls Tryz.prog 7 #[.int .i64 ad, .int .i64 0, .int .i64 15] w fun e w' => e = .returned (.bool (decide (0 ≤ ad) && decide (ad ≤ 15))) ∧ w' = w) := fun w => inN ad 0 15 w
  generalize (decide (0 ≤ ad) && decide (ad ≤ 15)) = x0 at *
  cases x0
  · go_enter Tryz.func22, Tryz.ntmps22
    go_wp2_with (first | (go_at_call_of 7 (Value.int .i64 1); refine (I0.out _).mono ?_; rintro e w' ⟨rfl, rfl⟩) | (go_at_call_of 7 (Value.int .i64 ad); refine (I1.out _).mono ?_; rintro e w' ⟨rfl, rfl⟩))
    go_ret
    first | exact ⟨rfl, D0⟩ | exact ⟨by simp, D0⟩
  cases p0 : decide (0 < pl)
  · have p1 : decide ((0 : Int) < (pl : Int)) = false := by rw [← p0]; simp
    by_cases n3 : 3 < nb
    · have u3 : decide ((3 : Int) < (nb : Int)) = true := by simp; omega
      go_enter Tryz.func22, Tryz.ntmps22
      go_wp2_with (first | (go_at_call_of 7 (Value.int .i64 1); refine (I0.out _).mono ?_; rintro e w' ⟨rfl, rfl⟩) | (go_at_call_of 7 (Value.int .i64 ad); refine (I1.out _).mono ?_; rintro e w' ⟨rfl, rfl⟩))
      go_ret
      first | exact ⟨rfl, D0⟩ | exact ⟨by simp, D0⟩
    have u3 : decide ((3 : Int) < (nb : Int)) = false := by simp; omega
    by_cases n0 : 0 < nb
    · have u0 : ((nb : Int) == 0) = false := by simp; omega
      go_enter Tryz.func22, Tryz.ntmps22
      go_wp2_with (first | (go_at_call_of 7 (Value.int .i64 1); refine (I0.out _).mono ?_; rintro e w' ⟨rfl, rfl⟩) | (go_at_call_of 7 (Value.int .i64 ad); refine (I1.out _).mono ?_; rintro e w' ⟨rfl, rfl⟩))
      go_ret
      first | exact ⟨rfl, D0⟩ | exact ⟨by simp, D0⟩
    obtain rfl : nb = 0 := by omega
    clear n3 u3 n0
    by_cases r0 : 0 < nr
    · have v0 : decide ((0 : Int) < (nr : Int)) = true := by simp; omega
      go_enter Tryz.func22, Tryz.ntmps22
      go_wp2_with (first | (go_at_call_of 7 (Value.int .i64 1); refine (I0.out _).mono ?_; rintro e w' ⟨rfl, rfl⟩) | (go_at_call_of 7 (Value.int .i64 ad); refine (I1.out _).mono ?_; rintro e w' ⟨rfl, rfl⟩))
      go_loopw [4] (fun i wr => i = .int .i64 0 ∧ wr = (w.alloc (.cells #[.string nm, .int .i64 1, .int .i64 ad, .int .u8 (pl : Int), .slice Ab 0 cb, .slice Ar nr cr, .slice At nt ct] 41))) (fun i _ => 0)
      case atStart => exact ⟨rfl, rfl⟩
      case round =>
        obtain ⟨rfl, rfl⟩ := hrel
        go_wp2_with fail
        go_ret
        first | exact ⟨rfl, D0⟩ | exact ⟨by simp, D0⟩
    have v0 : decide ((0 : Int) < (nr : Int)) = false := by simp; omega
    by_cases t0 : 0 < nt
    · have z0 : decide ((0 : Int) < (nt : Int)) = true := by simp; omega
      go_enter Tryz.func22, Tryz.ntmps22
      go_wp2_with (first | (go_at_call_of 7 (Value.int .i64 1); refine (I0.out _).mono ?_; rintro e w' ⟨rfl, rfl⟩) | (go_at_call_of 7 (Value.int .i64 ad); refine (I1.out _).mono ?_; rintro e w' ⟨rfl, rfl⟩))
      go_loopw [4] (fun i wr => i = .int .i64 0 ∧ wr = (w.alloc (.cells #[.string nm, .int .i64 1, .int .i64 ad, .int .u8 (pl : Int), .slice Ab 0 cb, .slice Ar nr cr, .slice At nt ct] 41))) (fun i _ => 0)
      case atStart => exact ⟨rfl, rfl⟩
      case round =>
        obtain ⟨rfl, rfl⟩ := hrel
        go_wp2_with fail
        go_ret
        first | exact ⟨rfl, D0⟩ | exact ⟨by simp, D0⟩
    have z0 : decide ((0 : Int) < (nt : Int)) = false := by simp; omega
    have r8 : ¬ 8 < nr := by omega
    have v8 : decide ((8 : Int) < (nr : Int)) = false := by simp; omega
    go_enter Tryz.func22, Tryz.ntmps22
    go_wp2_with (first | (go_at_call_of 7 (Value.int .i64 1); refine (I0.out _).mono ?_; rintro e w' ⟨rfl, rfl⟩) | (go_at_call_of 7 (Value.int .i64 ad); refine (I1.out _).mono ?_; rintro e w' ⟨rfl, rfl⟩))
    go_loopw [4] (fun i wr => i = .int .i64 0 ∧ wr = (w.alloc (.cells #[.string nm, .int .i64 1, .int .i64 ad, .int .u8 (pl : Int), .slice Ab 0 cb, .slice Ar nr cr, .slice At nt ct] 41))) (fun i _ => 0)
    case atStart => exact ⟨rfl, rfl⟩
    case round =>
      obtain ⟨rfl, rfl⟩ := hrel
      go_wp2_with fail
      refine (RT.out _ D0).mono ?_
      rintro e w2 ⟨rfl, hb2⟩
      have D2 := chnN hb2 D0
      go_wp2_with fail
      go_ret
      first | exact ⟨rfl, D2⟩ | exact ⟨by simp, D2⟩
  · have p1 : decide ((0 : Int) < (pl : Int)) = true := by rw [← p0]; simp
    go_enter Tryz.func22, Tryz.ntmps22
    go_wp2_with (first | (go_at_call_of 7 (Value.int .i64 1); refine (I0.out _).mono ?_; rintro e w' ⟨rfl, rfl⟩) | (go_at_call_of 7 (Value.int .i64 ad); refine (I1.out _).mono ?_; rintro e w' ⟨rfl, rfl⟩))
    go_ret
    first | exact ⟨rfl, D0⟩ | exact ⟨by simp, D0⟩
set_option maxHeartbeats 4000000 in
set_option maxRecDepth 100000 in
theorem rdev_2 (nm : ByteArray) (ad : Int) (pl : Nat) (Ab Ar At : Option Addr) (nb cb nr cr nt ct : Nat) (c : Int) (w : World) 
    (RT : Hid (∀ W, Below w.heap.size w W → Calls Tryz.prog 46 #[.slice At nt ct] W fun e w' => e = .returned (.int .i64 c) ∧ Below W.heap.size W w')) :
    Calls Tryz.prog 22 #[.agg #[.string nm, .int .i64 2, .int .i64 ad, .int .u8 (pl : Int), .slice Ab nb cb, .slice Ar nr cr, .slice At nt ct]] w fun e w' => e = .returned (.int .i64 (if (!(ad == 0)) || (decide (0 < pl) != false) then 1 else if 3 < nb then 2 else if 0 < nb then 1 else if false then 1 else if 8 < nr then 2 else c)) ∧ Below w.heap.size w w' := by
  have D0 := Below.alN (Below.refl w.heap.size w) (.cells #[.string nm, .int .i64 2, .int .i64 ad, .int .u8 (pl : Int), .slice Ab nb cb, .slice Ar nr cr, .slice At nt ct] 41)
  have I0 : Hid (∀ w, Calls Tryz.prog 7 #[.int .i64 2, .int .i64 1, .int .i64 5] w fun e w' => e = .returned (.bool true) ∧ w' = w) := fun w => inN 2 1 5 w
  have V0 := seven_new w (.string nm) (.int .i64 2) (.int .i64 ad) (.int .u8 (pl : Int)) (.slice Ab nb cb) (.slice Ar nr cr) (.slice At nt ct) 41
  obtain ⟨_, q0, q1, q2, q3, q4, q5, q6⟩ := id V0
  cases a0 : (ad == 0)
  · have a1 : (ad != 0) = true := by simp [bne, a0]
    go_enter Tryz.func22, Tryz.ntmps22
    go_wp2_with (go_at_call_of 7 (Value.int .i64 2); refine (I0.out _).mono ?_; rintro e w' ⟨rfl, rfl⟩)
    go_ret
    first | exact ⟨rfl, D0⟩ | exact ⟨by simp, D0⟩
  have a1 : (ad != 0) = false := by simp [bne, a0]
  cases p0 : decide (0 < pl)
  · have p1 : decide ((0 : Int) < (pl : Int)) = false := by rw [← p0]; simp
    by_cases n3 : 3 < nb
    · have u3 : decide ((3 : Int) < (nb : Int)) = true := by simp; omega
      go_enter Tryz.func22, Tryz.ntmps22
      go_wp2_with (go_at_call_of 7 (Value.int .i64 2); refine (I0.out _).mono ?_; rintro e w' ⟨rfl, rfl⟩)
      go_ret
      first | exact ⟨rfl, D0⟩ | exact ⟨by simp, D0⟩
    have u3 : decide ((3 : Int) < (nb : Int)) = false := by simp; omega
    by_cases n0 : 0 < nb
    · have u0 : ((nb : Int) == 0) = false := by simp; omega
      go_enter Tryz.func22, Tryz.ntmps22
      go_wp2_with (go_at_call_of 7 (Value.int .i64 2); refine (I0.out _).mono ?_; rintro e w' ⟨rfl, rfl⟩)
      go_ret
      first | exact ⟨rfl, D0⟩ | exact ⟨by simp, D0⟩
    obtain rfl : nb = 0 := by omega
    clear n3 u3 n0
    by_cases r0 : 0 < nr
    · have v0 : decide ((0 : Int) < (nr : Int)) = true := by simp; omega
      by_cases r8 : 8 < nr
      · have v8 : decide ((8 : Int) < (nr : Int)) = true := by simp; omega
        by_cases t0 : 0 < nt
        · have z0 : decide ((0 : Int) < (nt : Int)) = true := by simp; omega
          go_enter Tryz.func22, Tryz.ntmps22
          go_wp2_with (go_at_call_of 7 (Value.int .i64 2); refine (I0.out _).mono ?_; rintro e w' ⟨rfl, rfl⟩)
          go_loopw [4] (fun i wr => i = .int .i64 0 ∧ wr = (w.alloc (.cells #[.string nm, .int .i64 2, .int .i64 ad, .int .u8 (pl : Int), .slice Ab 0 cb, .slice Ar nr cr, .slice At nt ct] 41))) (fun i _ => 0)
          case atStart => exact ⟨rfl, rfl⟩
          case round =>
            obtain ⟨rfl, rfl⟩ := hrel
            go_wp2_with fail
            go_ret
            first | exact ⟨rfl, D0⟩ | exact ⟨by simp, D0⟩
        · have z0 : decide ((0 : Int) < (nt : Int)) = false := by simp; omega
          go_enter Tryz.func22, Tryz.ntmps22
          go_wp2_with (go_at_call_of 7 (Value.int .i64 2); refine (I0.out _).mono ?_; rintro e w' ⟨rfl, rfl⟩)
          go_loopw [4] (fun i wr => i = .int .i64 0 ∧ wr = (w.alloc (.cells #[.string nm, .int .i64 2, .int .i64 ad, .int .u8 (pl : Int), .slice Ab 0 cb, .slice Ar nr cr, .slice At nt ct] 41))) (fun i _ => 0)
          case atStart => exact ⟨rfl, rfl⟩
          case round =>
            obtain ⟨rfl, rfl⟩ := hrel
            go_wp2_with fail
            go_ret
            first | exact ⟨rfl, D0⟩ | exact ⟨by simp, D0⟩
      have v8 : decide ((8 : Int) < (nr : Int)) = false := by simp; omega
      by_cases t0 : 0 < nt
      · have z0 : decide ((0 : Int) < (nt : Int)) = true := by simp; omega
        go_enter Tryz.func22, Tryz.ntmps22
        go_wp2_with (go_at_call_of 7 (Value.int .i64 2); refine (I0.out _).mono ?_; rintro e w' ⟨rfl, rfl⟩)
        go_loopw [4] (fun i wr => i = .int .i64 0 ∧ wr = (w.alloc (.cells #[.string nm, .int .i64 2, .int .i64 ad, .int .u8 (pl : Int), .slice Ab 0 cb, .slice Ar nr cr, .slice At nt ct] 41))) (fun i _ => 0)
        case atStart => exact ⟨rfl, rfl⟩
        case round =>
          obtain ⟨rfl, rfl⟩ := hrel
          go_wp2_with fail
          refine (RT.out _ D0).mono ?_
          rintro e w2 ⟨rfl, hb2⟩
          have D2 := chnN hb2 D0
          go_wp2_with fail
          go_ret
          first | exact ⟨rfl, D2⟩ | exact ⟨by simp, D2⟩
      · have z0 : decide ((0 : Int) < (nt : Int)) = false := by simp; omega
        go_enter Tryz.func22, Tryz.ntmps22
        go_wp2_with (go_at_call_of 7 (Value.int .i64 2); refine (I0.out _).mono ?_; rintro e w' ⟨rfl, rfl⟩)
        go_loopw [4] (fun i wr => i = .int .i64 0 ∧ wr = (w.alloc (.cells #[.string nm, .int .i64 2, .int .i64 ad, .int .u8 (pl : Int), .slice Ab 0 cb, .slice Ar nr cr, .slice At nt ct] 41))) (fun i _ => 0)
        case atStart => exact ⟨rfl, rfl⟩
        case round =>
          obtain ⟨rfl, rfl⟩ := hrel
          go_wp2_with fail
          refine (RT.out _ D0).mono ?_
          rintro e w2 ⟨rfl, hb2⟩
          have D2 := chnN hb2 D0
          go_wp2_with fail
          go_ret
          first | exact ⟨rfl, D2⟩ | exact ⟨by simp, D2⟩
    · have v0 : decide ((0 : Int) < (nr : Int)) = false := by simp; omega
      have r8 : ¬ 8 < nr := by omega
      have v8 : decide ((8 : Int) < (nr : Int)) = false := by simp; omega
      by_cases t0 : 0 < nt
      · have z0 : decide ((0 : Int) < (nt : Int)) = true := by simp; omega
        go_enter Tryz.func22, Tryz.ntmps22
        go_wp2_with (go_at_call_of 7 (Value.int .i64 2); refine (I0.out _).mono ?_; rintro e w' ⟨rfl, rfl⟩)
        go_loopw [4] (fun i wr => i = .int .i64 0 ∧ wr = (w.alloc (.cells #[.string nm, .int .i64 2, .int .i64 ad, .int .u8 (pl : Int), .slice Ab 0 cb, .slice Ar nr cr, .slice At nt ct] 41))) (fun i _ => 0)
        case atStart => exact ⟨rfl, rfl⟩
        case round =>
          obtain ⟨rfl, rfl⟩ := hrel
          go_wp2_with fail
          refine (RT.out _ D0).mono ?_
          rintro e w2 ⟨rfl, hb2⟩
          have D2 := chnN hb2 D0
          go_wp2_with fail
          go_ret
          first | exact ⟨rfl, D2⟩ | exact ⟨by simp, D2⟩
      · have z0 : decide ((0 : Int) < (nt : Int)) = false := by simp; omega
        go_enter Tryz.func22, Tryz.ntmps22
        go_wp2_with (go_at_call_of 7 (Value.int .i64 2); refine (I0.out _).mono ?_; rintro e w' ⟨rfl, rfl⟩)
        go_loopw [4] (fun i wr => i = .int .i64 0 ∧ wr = (w.alloc (.cells #[.string nm, .int .i64 2, .int .i64 ad, .int .u8 (pl : Int), .slice Ab 0 cb, .slice Ar nr cr, .slice At nt ct] 41))) (fun i _ => 0)
        case atStart => exact ⟨rfl, rfl⟩
        case round =>
          obtain ⟨rfl, rfl⟩ := hrel
          go_wp2_with fail
          refine (RT.out _ D0).mono ?_
          rintro e w2 ⟨rfl, hb2⟩
          have D2 := chnN hb2 D0
          go_wp2_with fail
          go_ret
          first | exact ⟨rfl, D2⟩ | exact ⟨by simp, D2⟩
  · have p1 : decide ((0 : Int) < (pl : Int)) = true := by rw [← p0]; simp
    go_enter Tryz.func22, Tryz.ntmps22
    go_wp2_with (go_at_call_of 7 (Value.int .i64 2); refine (I0.out _).mono ?_; rintro e w' ⟨rfl, rfl⟩)
    go_ret
    first | exact ⟨rfl, D0⟩ | exact ⟨by simp, D0⟩
set_option maxHeartbeats 4000000 in
set_option maxRecDepth 100000 in
theorem rdev_3 (nm : ByteArray) (ad : Int) (pl : Nat) (Ab Ar At : Option Addr) (nb cb nr cr nt ct : Nat) (c : Int) (w : World) 
    (RT : Hid (∀ W, Below w.heap.size w W → Calls Tryz.prog 46 #[.slice At nt ct] W fun e w' => e = .returned (.int .i64 c) ∧ Below W.heap.size W w')) :
    Calls Tryz.prog 22 #[.agg #[.string nm, .int .i64 3, .int .i64 ad, .int .u8 (pl : Int), .slice Ab nb cb, .slice Ar nr cr, .slice At nt ct]] w fun e w' => e = .returned (.int .i64 (if (!(ad == 0)) || (decide (0 < pl) != false) then 1 else if 3 < nb then 2 else if 0 < nb then 1 else if decide (0 < nt) then 1 else if 8 < nr then 2 else c)) ∧ Below w.heap.size w w' := by
  have D0 := Below.alN (Below.refl w.heap.size w) (.cells #[.string nm, .int .i64 3, .int .i64 ad, .int .u8 (pl : Int), .slice Ab nb cb, .slice Ar nr cr, .slice At nt ct] 41)
  have I0 : Hid (∀ w, Calls Tryz.prog 7 #[.int .i64 3, .int .i64 1, .int .i64 5] w fun e w' => e = .returned (.bool true) ∧ w' = w) := fun w => inN 3 1 5 w
  have V0 := seven_new w (.string nm) (.int .i64 3) (.int .i64 ad) (.int .u8 (pl : Int)) (.slice Ab nb cb) (.slice Ar nr cr) (.slice At nt ct) 41
  obtain ⟨_, q0, q1, q2, q3, q4, q5, q6⟩ := id V0
  cases a0 : (ad == 0)
  · have a1 : (ad != 0) = true := by simp [bne, a0]
    go_enter Tryz.func22, Tryz.ntmps22
    go_wp2_with (go_at_call_of 7 (Value.int .i64 3); refine (I0.out _).mono ?_; rintro e w' ⟨rfl, rfl⟩)
    go_ret
    first | exact ⟨rfl, D0⟩ | exact ⟨by simp, D0⟩
  have a1 : (ad != 0) = false := by simp [bne, a0]
  cases p0 : decide (0 < pl)
  · have p1 : decide ((0 : Int) < (pl : Int)) = false := by rw [← p0]; simp
    by_cases n3 : 3 < nb
    · have u3 : decide ((3 : Int) < (nb : Int)) = true := by simp; omega
      go_enter Tryz.func22, Tryz.ntmps22
      go_wp2_with (go_at_call_of 7 (Value.int .i64 3); refine (I0.out _).mono ?_; rintro e w' ⟨rfl, rfl⟩)
      go_ret
      first | exact ⟨rfl, D0⟩ | exact ⟨by simp, D0⟩
    have u3 : decide ((3 : Int) < (nb : Int)) = false := by simp; omega
    by_cases n0 : 0 < nb
    · have u0 : ((nb : Int) == 0) = false := by simp; omega
      go_enter Tryz.func22, Tryz.ntmps22
      go_wp2_with (go_at_call_of 7 (Value.int .i64 3); refine (I0.out _).mono ?_; rintro e w' ⟨rfl, rfl⟩)
      go_ret
      first | exact ⟨rfl, D0⟩ | exact ⟨by simp, D0⟩
    obtain rfl : nb = 0 := by omega
    clear n3 u3 n0
    by_cases r0 : 0 < nr
    · have v0 : decide ((0 : Int) < (nr : Int)) = true := by simp; omega
      by_cases t0 : 0 < nt
      · have z0 : decide ((0 : Int) < (nt : Int)) = true := by simp; omega
        go_enter Tryz.func22, Tryz.ntmps22
        go_wp2_with (go_at_call_of 7 (Value.int .i64 3); refine (I0.out _).mono ?_; rintro e w' ⟨rfl, rfl⟩)
        go_loopw [4] (fun i wr => i = .int .i64 0 ∧ wr = (w.alloc (.cells #[.string nm, .int .i64 3, .int .i64 ad, .int .u8 (pl : Int), .slice Ab 0 cb, .slice Ar nr cr, .slice At nt ct] 41))) (fun i _ => 0)
        case atStart => exact ⟨rfl, rfl⟩
        case round =>
          obtain ⟨rfl, rfl⟩ := hrel
          go_wp2_with fail
          go_ret
          first | exact ⟨rfl, D0⟩ | exact ⟨by simp, D0⟩
      have z0 : decide ((0 : Int) < (nt : Int)) = false := by simp; omega
      by_cases r8 : 8 < nr
      · have v8 : decide ((8 : Int) < (nr : Int)) = true := by simp; omega
        go_enter Tryz.func22, Tryz.ntmps22
        go_wp2_with (go_at_call_of 7 (Value.int .i64 3); refine (I0.out _).mono ?_; rintro e w' ⟨rfl, rfl⟩)
        go_loopw [4] (fun i wr => i = .int .i64 0 ∧ wr = (w.alloc (.cells #[.string nm, .int .i64 3, .int .i64 ad, .int .u8 (pl : Int), .slice Ab 0 cb, .slice Ar nr cr, .slice At nt ct] 41))) (fun i _ => 0)
        case atStart => exact ⟨rfl, rfl⟩
        case round =>
          obtain ⟨rfl, rfl⟩ := hrel
          go_wp2_with fail
          go_ret
          first | exact ⟨rfl, D0⟩ | exact ⟨by simp, D0⟩
      have v8 : decide ((8 : Int) < (nr : Int)) = false := by simp; omega
      go_enter Tryz.func22, Tryz.ntmps22
      go_wp2_with (go_at_call_of 7 (Value.int .i64 3); refine (I0.out _).mono ?_; rintro e w' ⟨rfl, rfl⟩)
      go_loopw [4] (fun i wr => i = .int .i64 0 ∧ wr = (w.alloc (.cells #[.string nm, .int .i64 3, .int .i64 ad, .int .u8 (pl : Int), .slice Ab 0 cb, .slice Ar nr cr, .slice At nt ct] 41))) (fun i _ => 0)
      case atStart => exact ⟨rfl, rfl⟩
      case round =>
        obtain ⟨rfl, rfl⟩ := hrel
        go_wp2_with fail
        refine (RT.out _ D0).mono ?_
        rintro e w2 ⟨rfl, hb2⟩
        have D2 := chnN hb2 D0
        go_wp2_with fail
        go_ret
        first | exact ⟨rfl, D2⟩ | exact ⟨by simp, D2⟩
    · have v0 : decide ((0 : Int) < (nr : Int)) = false := by simp; omega
      by_cases t0 : 0 < nt
      · have z0 : decide ((0 : Int) < (nt : Int)) = true := by simp; omega
        go_enter Tryz.func22, Tryz.ntmps22
        go_wp2_with (go_at_call_of 7 (Value.int .i64 3); refine (I0.out _).mono ?_; rintro e w' ⟨rfl, rfl⟩)
        go_loopw [4] (fun i wr => i = .int .i64 0 ∧ wr = (w.alloc (.cells #[.string nm, .int .i64 3, .int .i64 ad, .int .u8 (pl : Int), .slice Ab 0 cb, .slice Ar nr cr, .slice At nt ct] 41))) (fun i _ => 0)
        case atStart => exact ⟨rfl, rfl⟩
        case round =>
          obtain ⟨rfl, rfl⟩ := hrel
          go_wp2_with fail
          go_ret
          first | exact ⟨rfl, D0⟩ | exact ⟨by simp, D0⟩
      have z0 : decide ((0 : Int) < (nt : Int)) = false := by simp; omega
      have r8 : ¬ 8 < nr := by omega
      have v8 : decide ((8 : Int) < (nr : Int)) = false := by simp; omega
      go_enter Tryz.func22, Tryz.ntmps22
      go_wp2_with (go_at_call_of 7 (Value.int .i64 3); refine (I0.out _).mono ?_; rintro e w' ⟨rfl, rfl⟩)
      go_loopw [4] (fun i wr => i = .int .i64 0 ∧ wr = (w.alloc (.cells #[.string nm, .int .i64 3, .int .i64 ad, .int .u8 (pl : Int), .slice Ab 0 cb, .slice Ar nr cr, .slice At nt ct] 41))) (fun i _ => 0)
      case atStart => exact ⟨rfl, rfl⟩
      case round =>
        obtain ⟨rfl, rfl⟩ := hrel
        go_wp2_with fail
        refine (RT.out _ D0).mono ?_
        rintro e w2 ⟨rfl, hb2⟩
        have D2 := chnN hb2 D0
        go_wp2_with fail
        go_ret
        first | exact ⟨rfl, D2⟩ | exact ⟨by simp, D2⟩
  · have p1 : decide ((0 : Int) < (pl : Int)) = true := by rw [← p0]; simp
    go_enter Tryz.func22, Tryz.ntmps22
    go_wp2_with (go_at_call_of 7 (Value.int .i64 3); refine (I0.out _).mono ?_; rintro e w' ⟨rfl, rfl⟩)
    go_ret
    first | exact ⟨rfl, D0⟩ | exact ⟨by simp, D0⟩
set_option maxHeartbeats 4000000 in
set_option maxRecDepth 100000 in
theorem rdev_4 (nm : ByteArray) (ad : Int) (pl : Nat) (Ab Ar At : Option Addr) (nb cb nr cr nt ct : Nat) (c : Int) (w : World) 
    (RT : Hid (∀ W, Below w.heap.size w W → Calls Tryz.prog 46 #[.slice At nt ct] W fun e w' => e = .returned (.int .i64 c) ∧ Below W.heap.size W w')) :
    Calls Tryz.prog 22 #[.agg #[.string nm, .int .i64 4, .int .i64 ad, .int .u8 (pl : Int), .slice Ab nb cb, .slice Ar nr cr, .slice At nt ct]] w fun e w' => e = .returned (.int .i64 (if (!(decide (0 ≤ ad) && decide (ad ≤ 15))) || (decide (0 < pl) != true) then 1 else if 3 < nb then 2 else if 0 < nb then 1 else if (decide (0 < nr)) || (decide (0 < nt)) then 1 else if 8 < nr then 2 else c)) ∧ Below w.heap.size w w' := by
  have D0 := Below.alN (Below.refl w.heap.size w) (.cells #[.string nm, .int .i64 4, .int .i64 ad, .int .u8 (pl : Int), .slice Ab nb cb, .slice Ar nr cr, .slice At nt ct] 41)
  have I0 : Hid (∀ w, Calls Tryz.prog 7 #[.int .i64 4, .int .i64 1, .int .i64 5] w fun e w' => e = .returned (.bool true) ∧ w' = w) := fun w => inN 4 1 5 w
  have V0 := seven_new w (.string nm) (.int .i64 4) (.int .i64 ad) (.int .u8 (pl : Int)) (.slice Ab nb cb) (.slice Ar nr cr) (.slice At nt ct) 41
  obtain ⟨_, q0, q1, q2, q3, q4, q5, q6⟩ := id V0
  have I1 : Hid (∀ w, Calls Tryz.prog 7 #[.int .i64 ad, .int .i64 0, .int .i64 15] w fun e w' => e = .returned (.bool (decide (0 ≤ ad) && decide (ad ≤ 15))) ∧ w' = w) := fun w => inN ad 0 15 w
  generalize (decide (0 ≤ ad) && decide (ad ≤ 15)) = x0 at *
  cases x0
  · go_enter Tryz.func22, Tryz.ntmps22
    go_wp2_with (first | (go_at_call_of 7 (Value.int .i64 4); refine (I0.out _).mono ?_; rintro e w' ⟨rfl, rfl⟩) | (go_at_call_of 7 (Value.int .i64 ad); refine (I1.out _).mono ?_; rintro e w' ⟨rfl, rfl⟩))
    go_ret
    first | exact ⟨rfl, D0⟩ | exact ⟨by simp, D0⟩
  cases p0 : decide (0 < pl)
  · have p1 : decide ((0 : Int) < (pl : Int)) = false := by rw [← p0]; simp
    go_enter Tryz.func22, Tryz.ntmps22
    go_wp2_with (first | (go_at_call_of 7 (Value.int .i64 4); refine (I0.out _).mono ?_; rintro e w' ⟨rfl, rfl⟩) | (go_at_call_of 7 (Value.int .i64 ad); refine (I1.out _).mono ?_; rintro e w' ⟨rfl, rfl⟩))
    go_ret
    first | exact ⟨rfl, D0⟩ | exact ⟨by simp, D0⟩
  · have p1 : decide ((0 : Int) < (pl : Int)) = true := by rw [← p0]; simp
    by_cases n3 : 3 < nb
    · have u3 : decide ((3 : Int) < (nb : Int)) = true := by simp; omega
      go_enter Tryz.func22, Tryz.ntmps22
      go_wp2_with (first | (go_at_call_of 7 (Value.int .i64 4); refine (I0.out _).mono ?_; rintro e w' ⟨rfl, rfl⟩) | (go_at_call_of 7 (Value.int .i64 ad); refine (I1.out _).mono ?_; rintro e w' ⟨rfl, rfl⟩))
      go_ret
      first | exact ⟨rfl, D0⟩ | exact ⟨by simp, D0⟩
    have u3 : decide ((3 : Int) < (nb : Int)) = false := by simp; omega
    by_cases n0 : 0 < nb
    · have u0 : ((nb : Int) == 0) = false := by simp; omega
      go_enter Tryz.func22, Tryz.ntmps22
      go_wp2_with (first | (go_at_call_of 7 (Value.int .i64 4); refine (I0.out _).mono ?_; rintro e w' ⟨rfl, rfl⟩) | (go_at_call_of 7 (Value.int .i64 ad); refine (I1.out _).mono ?_; rintro e w' ⟨rfl, rfl⟩))
      go_ret
      first | exact ⟨rfl, D0⟩ | exact ⟨by simp, D0⟩
    obtain rfl : nb = 0 := by omega
    clear n3 u3 n0
    by_cases r0 : 0 < nr
    · have v0 : decide ((0 : Int) < (nr : Int)) = true := by simp; omega
      go_enter Tryz.func22, Tryz.ntmps22
      go_wp2_with (first | (go_at_call_of 7 (Value.int .i64 4); refine (I0.out _).mono ?_; rintro e w' ⟨rfl, rfl⟩) | (go_at_call_of 7 (Value.int .i64 ad); refine (I1.out _).mono ?_; rintro e w' ⟨rfl, rfl⟩))
      go_loopw [4] (fun i wr => i = .int .i64 0 ∧ wr = (w.alloc (.cells #[.string nm, .int .i64 4, .int .i64 ad, .int .u8 (pl : Int), .slice Ab 0 cb, .slice Ar nr cr, .slice At nt ct] 41))) (fun i _ => 0)
      case atStart => exact ⟨rfl, rfl⟩
      case round =>
        obtain ⟨rfl, rfl⟩ := hrel
        go_wp2_with fail
        go_ret
        first | exact ⟨rfl, D0⟩ | exact ⟨by simp, D0⟩
    have v0 : decide ((0 : Int) < (nr : Int)) = false := by simp; omega
    by_cases t0 : 0 < nt
    · have z0 : decide ((0 : Int) < (nt : Int)) = true := by simp; omega
      go_enter Tryz.func22, Tryz.ntmps22
      go_wp2_with (first | (go_at_call_of 7 (Value.int .i64 4); refine (I0.out _).mono ?_; rintro e w' ⟨rfl, rfl⟩) | (go_at_call_of 7 (Value.int .i64 ad); refine (I1.out _).mono ?_; rintro e w' ⟨rfl, rfl⟩))
      go_loopw [4] (fun i wr => i = .int .i64 0 ∧ wr = (w.alloc (.cells #[.string nm, .int .i64 4, .int .i64 ad, .int .u8 (pl : Int), .slice Ab 0 cb, .slice Ar nr cr, .slice At nt ct] 41))) (fun i _ => 0)
      case atStart => exact ⟨rfl, rfl⟩
      case round =>
        obtain ⟨rfl, rfl⟩ := hrel
        go_wp2_with fail
        go_ret
        first | exact ⟨rfl, D0⟩ | exact ⟨by simp, D0⟩
    have z0 : decide ((0 : Int) < (nt : Int)) = false := by simp; omega
    have r8 : ¬ 8 < nr := by omega
    have v8 : decide ((8 : Int) < (nr : Int)) = false := by simp; omega
    go_enter Tryz.func22, Tryz.ntmps22
    go_wp2_with (first | (go_at_call_of 7 (Value.int .i64 4); refine (I0.out _).mono ?_; rintro e w' ⟨rfl, rfl⟩) | (go_at_call_of 7 (Value.int .i64 ad); refine (I1.out _).mono ?_; rintro e w' ⟨rfl, rfl⟩))
    go_loopw [4] (fun i wr => i = .int .i64 0 ∧ wr = (w.alloc (.cells #[.string nm, .int .i64 4, .int .i64 ad, .int .u8 (pl : Int), .slice Ab 0 cb, .slice Ar nr cr, .slice At nt ct] 41))) (fun i _ => 0)
    case atStart => exact ⟨rfl, rfl⟩
    case round =>
      obtain ⟨rfl, rfl⟩ := hrel
      go_wp2_with fail
      refine (RT.out _ D0).mono ?_
      rintro e w2 ⟨rfl, hb2⟩
      have D2 := chnN hb2 D0
      go_wp2_with fail
      go_ret
      first | exact ⟨rfl, D2⟩ | exact ⟨by simp, D2⟩
end Go.Proofs.YthioedgnambomaaGreat



namespace Go.Proofs.YthioedgnambomaaGreat
open Go.RowKit

set_option maxHeartbeats 8000000 in
set_option maxRecDepth 100000 in
theorem rdev_5 (nm : ByteArray) (ad : Int) (pl : Nat) (Ab Ar At : Option Addr) (bs : List Int) (cb nr cr nt ct : Nat) (c : Int) (w : World) (hcap : bs.length ≤ cb) (hmax : cb ≤ maxLen) (hB : Hid (SlAt w.heap.size w 1 IsI (.slice Ab bs.length cb) bs))
    (RT : Hid (∀ W, Below w.heap.size w W → Calls Tryz.prog 46 #[.slice At nt ct] W fun e w' => e = .returned (.int .i64 c) ∧ Below W.heap.size W w')) :
    Calls Tryz.prog 22 #[.agg #[.string nm, .int .i64 5, .int .i64 ad, .int .u8 (pl : Int), .slice Ab bs.length cb, .slice Ar nr cr, .slice At nt ct]] w fun e w' => e = .returned (.int .i64 (if (!(decide (0 ≤ ad) && decide (ad ≤ 15))) || (decide (0 < pl) != false) then 1 else if 3 < bs.length then 2 else if bs.length = 0 then 1 else if backsFrom bs ad 0 = 1 then 1 else if (decide (0 < nr)) || (decide (0 < nt)) then 1 else c)) ∧ Below w.heap.size w w' := by
  unfold maxLen at hmax
  have D0 := Below.alN (Below.refl w.heap.size w) (.cells #[.string nm, .int .i64 5, .int .i64 ad, .int .u8 (pl : Int), .slice Ab bs.length cb, .slice Ar nr cr, .slice At nt ct] 41)
  have I0 : Hid (∀ w, Calls Tryz.prog 7 #[.int .i64 5, .int .i64 1, .int .i64 5] w fun e w' => e = .returned (.bool true) ∧ w' = w) := fun w => inN 5 1 5 w
  have V0 := seven_new w (.string nm) (.int .i64 5) (.int .i64 ad) (.int .u8 (pl : Int)) (.slice Ab bs.length cb) (.slice Ar nr cr) (.slice At nt ct) 41
  have I1 : Hid (∀ w, Calls Tryz.prog 7 #[.int .i64 ad, .int .i64 0, .int .i64 15] w fun e w' => e = .returned (.bool (decide (0 ≤ ad) && decide (ad ≤ 15))) ∧ w' = w) := fun w => inN ad 0 15 w
  obtain ⟨_, q0, q1, q2, q3, q4, q5, q6⟩ := id V0
  generalize (decide (0 ≤ ad) && decide (ad ≤ 15)) = x0 at *
  cases x0
  · go_enter Tryz.func22, Tryz.ntmps22
    go_wp2_with (first | (go_at_call_of 7 (Value.int .i64 5); refine (I0.out _).mono ?_; rintro e w' ⟨rfl, rfl⟩) | (go_at_call_of 7 (Value.int .i64 ad); refine (I1.out _).mono ?_; rintro e w' ⟨rfl, rfl⟩))
    go_ret
    first | exact ⟨rfl, D0⟩ | exact ⟨by simp, D0⟩
  cases p0 : decide (0 < pl)
  · have p1 : decide ((0 : Int) < (pl : Int)) = false := by rw [← p0]; simp
    by_cases n3 : 3 < bs.length
    · have u3 : decide ((3 : Int) < (bs.length : Int)) = true := by simp; omega
      go_enter Tryz.func22, Tryz.ntmps22
      go_wp2_with (first | (go_at_call_of 7 (Value.int .i64 5); refine (I0.out _).mono ?_; rintro e w' ⟨rfl, rfl⟩) | (go_at_call_of 7 (Value.int .i64 ad); refine (I1.out _).mono ?_; rintro e w' ⟨rfl, rfl⟩))
      go_ret
      first | exact ⟨rfl, D0⟩ | exact ⟨by simp, D0⟩
    have u3 : decide ((3 : Int) < (bs.length : Int)) = false := by simp; omega
    by_cases n0 : bs.length = 0
    · have e := List.length_eq_zero_iff.1 n0
      subst e
      clear n0 n3 u3
      go_enter Tryz.func22, Tryz.ntmps22
      go_wp2_with (first | (go_at_call_of 7 (Value.int .i64 5); refine (I0.out _).mono ?_; rintro e w' ⟨rfl, rfl⟩) | (go_at_call_of 7 (Value.int .i64 ad); refine (I1.out _).mono ?_; rintro e w' ⟨rfl, rfl⟩))
      go_ret
      first | exact ⟨rfl, D0⟩ | exact ⟨by simp, D0⟩
    have u0 : ((bs.length : Int) == 0) = false := by simp; exact fun e => n0 (by rw [e]; rfl)
    have FIN : Hid ((if (!true) || (false != false) then (1 : Int) else if 3 < bs.length then 2 else if bs.length = 0 then 1 else if backsFrom bs ad 0 = 1 then 1 else if (decide (0 < nr)) || (decide (0 < nt)) then 1 else c) = if backsFrom bs ad 0 = 1 then 1 else if (decide (0 < nr)) || (decide (0 < nt)) then 1 else c) := by
      show _ = _
      rw [if_neg (by simp), if_neg n3, if_neg n0]
    rw [FIN.out]
    clear FIN n3 n0
    generalize hres : (if backsFrom bs ad 0 = 1 then (1 : Int) else if (decide (0 < nr)) || (decide (0 < nt)) then 1 else c) = res
    have HR : Hid (res = if backsFrom bs ad 0 = 1 then (1 : Int) else if (decide (0 < nr)) || (decide (0 < nt)) then 1 else c) := hres.symm
    clear hres
    go_enter Tryz.func22, Tryz.ntmps22
    go_wp2_with (first | (go_at_call_of 7 (Value.int .i64 5); refine (I0.out _).mono ?_; rintro e w' ⟨rfl, rfl⟩) | (go_at_call_of 7 (Value.int .i64 ad); refine (I1.out _).mono ?_; rintro e w' ⟨rfl, rfl⟩))
    clear I0 I1
    go_loopw [4] (fun i wr => ∃ k : Nat, i = .int .i64 (k : Int) ∧ k ≤ bs.length ∧ Below w.heap.size w wr ∧ Seven wr w.heap.size (.string nm) (.int .i64 5) (.int .i64 ad) (.int .u8 (pl : Int)) (.slice Ab bs.length cb) (.slice Ar nr cr) (.slice At nt ct) ∧ Hid (backsFrom bs ad 0 = backsFrom bs ad k)) (fun i _ => bs.length - (intOf i).toNat)
    case atStart => exact ⟨0, rfl, by omega, D0, V0, rfl⟩
    case round =>
      clear D0 V0 q0 q1 q2 q3 q4 q5 q6
      obtain ⟨k, rfl, hk, D1, V1, hl⟩ := hrel
      obtain ⟨lV, q0, q1, q2, q3, q4, q5, q6⟩ := id V1
      by_cases hlt : k < bs.length
      · obtain ⟨x, hxk⟩ : ∃ x, bs[k]? = some x := ⟨_, List.getElem?_eq_getElem hlt⟩
        obtain ⟨b, o, rfl, hb, hcell⟩ := Ints.at (SlAt.below hB.out D1 (fun _ _ _ h => h)) hxk
        have cx := hcell k x hxk
        have IX : Hid (∀ w, Calls Tryz.prog 7 #[.int .i64 x, .int .i64 0, .int .i64 15] w fun e w' => e = .returned (.bool (decide (0 ≤ x) && decide (x ≤ 15))) ∧ w' = w) := fun w => inN x 0 15 w
        have Hd : Hid (backsFrom bs ad k = if (decide (0 ≤ x) && decide (x ≤ 15)) && !(x == ad) && !((bs.take k).any (fun y => y == x)) then backsFrom bs ad (k + 1) else 1) := backsFrom_at hxk
        have k1 : (0 : Int) ≤ (k : Int) := by omega
        have k2 : (k : Int) < (bs.length : Int) := by omega
        have HC : Hid (∀ j y, bs[j]? = some y → wr.cell? ⟨b, o + j, none⟩ = some (.int .i64 y)) := hcell
        have HX : Hid (bs[k]? = some x) := hxk
        clear hcell hxk
        generalize (decide (0 ≤ x) && decide (x ≤ 15)) = y0 at *
        cases y0
        · have hb1 : Hid (res = 1) := by show _ = _; rw [HR.out, hl.out, Hd.out]; simp
          clear HR Hd hl
          go_wp2_with fail
          go_quiet ((go_at_call 7; exact Calls.quiet_of_same (IX.out _)))
          go_wp2_with fail
          go_ret
          exact ⟨by rw [hb1.out]; rfl, belowNN D1 _⟩
        cases y1 : (x == ad)
        · go_wp2_with fail
          go_quiet ((go_at_call 7; exact Calls.quiet_of_same (IX.out _)))
          go_wp2_with fail
          go_loopw [5] (fun i wr => ∃ j : Nat, i = .int .i64 (j : Int) ∧ j ≤ k ∧ Below w.heap.size w wr ∧ Seven wr w.heap.size (.string nm) (.int .i64 5) (.int .i64 ad) (.int .u8 (pl : Int)) (.slice (some ⟨b, o, none⟩) bs.length cb) (.slice Ar nr cr) (.slice At nt ct) ∧ Hid ((bs.take j).any (fun y => y == x) = false)) (fun i _ => k - (intOf i).toNat)
          case atStart => exact ⟨0, rfl, by omega, belowNN D1 _, V1.below (belowNN (Below.refl wr.heap.size wr) _) lV, rfl⟩
          case round =>
            clear D1 V1 q0 q1 q2 q3 q4 q5 q6 cx HC lV
            obtain ⟨j, rfl, hj, D1, V1, hno⟩ := hrel
            obtain ⟨lV, q0, q1, q2, q3, q4, q5, q6⟩ := id V1
            by_cases hjk : j < k
            · obtain ⟨y, hyj⟩ : ∃ y, bs[j]? = some y := ⟨_, List.getElem?_eq_getElem (by omega)⟩
              obtain ⟨b', o', e', _, hcell⟩ := Ints.at (SlAt.below hB.out D1 (fun _ _ _ h => h)) hyj
              cases e'
              have cx := hcell k x HX.out
              have cy := hcell j y hyj
              have j1 : (0 : Int) ≤ (j : Int) := by omega
              have j2 : (j : Int) < (bs.length : Int) := by omega
              cases z0 : (y == x)
              · have Hn : Hid ((bs.take (j + 1)).any (fun z => z == x) = false) := by show _ = _; rw [any_takeI hyj, hno.out, z0]; rfl
                clear hcell hyj hno
                go_wp2_with fail
                go_quiet (fail)
                go_wp2_with fail
                go_roundw
                case rel => exact ⟨j + 1, by go_num, by omega, belowNN D1 _, V1.below (belowNN (Below.refl wr.heap.size wr) _) lV, Hn⟩
                case measure => simp [intOf]; omega
              · have hany : (bs.take k).any (fun z => z == x) = true := List.any_eq_true.2 ⟨y, List.mem_of_getElem? (i := j) (by rw [List.getElem?_take, if_pos hjk]; exact hyj), z0⟩
                have hb1 : Hid (res = 1) := by show _ = _; rw [HR.out, hl.out, Hd.out, y1, hany]; simp
                clear HR Hd hl hcell hyj hno hany
                go_wp2_with fail
                go_quiet (fail)
                go_wp2_with fail
                go_ret
                exact ⟨by rw [hb1.out]; rfl, belowNN D1 _⟩
            · obtain rfl : j = k := by omega
              have Hn : Hid (backsFrom bs ad 0 = backsFrom bs ad (j + 1)) := by show _ = _; rw [hl.out, Hd.out, y1, hno.out]; simp
              clear hl Hd hno
              go_wp2_with fail
              go_roundw
              case rel => exact ⟨j + 1, by go_num, by omega, D1, V1, Hn⟩
              case measure => simp [intOf]; omega
        · have hb1 : Hid (res = 1) := by show _ = _; rw [HR.out, hl.out, Hd.out, y1]; simp
          clear HR Hd hl
          go_wp2_with fail
          go_quiet ((go_at_call 7; exact Calls.quiet_of_same (IX.out _)))
          go_wp2_with fail
          go_ret
          exact ⟨by rw [hb1.out]; rfl, belowNN D1 _⟩
      · have h0 : backsFrom bs ad 0 = 0 := by rw [hl.out, backsFrom_end (by omega)]
        clear hl
        by_cases r0 : 0 < nr
        · have v0 : decide ((0 : Int) < (nr : Int)) = true := by simp; omega
          have hb1 : Hid (res = 1) := by show _ = _; rw [HR.out, h0]; simp [r0]
          clear HR h0
          go_wp2_with fail
          go_ret
          exact ⟨by rw [hb1.out]; rfl, D1⟩
        have v0 : decide ((0 : Int) < (nr : Int)) = false := by simp; omega
        by_cases t0 : 0 < nt
        · have z0 : decide ((0 : Int) < (nt : Int)) = true := by simp; omega
          have hb1 : Hid (res = 1) := by show _ = _; rw [HR.out, h0]; simp [t0]
          clear HR h0
          go_wp2_with fail
          go_ret
          exact ⟨by rw [hb1.out]; rfl, D1⟩
        have z0 : decide ((0 : Int) < (nt : Int)) = false := by simp; omega
        have r8 : ¬ 8 < nr := by omega
        have v8 : decide ((8 : Int) < (nr : Int)) = false := by simp; omega
        have hb1 : Hid (res = c) := by show _ = _; rw [HR.out, h0]; simp [r0, t0]
        clear HR h0
        go_wp2_with fail
        refine (RT.out _ D1).mono ?_
        rintro e w2 ⟨rfl, hb2⟩
        have D2 := chnN hb2 D1
        go_wp2_with fail
        go_ret
        exact ⟨by rw [hb1.out]; rfl, D2⟩
  · have p1 : decide ((0 : Int) < (pl : Int)) = true := by rw [← p0]; simp
    go_enter Tryz.func22, Tryz.ntmps22
    go_wp2_with (first | (go_at_call_of 7 (Value.int .i64 5); refine (I0.out _).mono ?_; rintro e w' ⟨rfl, rfl⟩) | (go_at_call_of 7 (Value.int .i64 ad); refine (I1.out _).mono ?_; rintro e w' ⟨rfl, rfl⟩))
    go_ret
    first | exact ⟨rfl, D0⟩ | exact ⟨by simp, D0⟩
end Go.Proofs.YthioedgnambomaaGreat



namespace Go.Proofs.YthioedgnambomaaGreat
open Go.RowKit

set_option maxHeartbeats 1000000 in
set_option maxRecDepth 100000 in
theorem rdev_none (nm : ByteArray) (k ad : Int) (pl : Nat) (vb vr vt : Value) (w : World) (h : ¬ (1 ≤ k ∧ k ≤ 5)) :
    Calls Tryz.prog 22 #[.agg #[.string nm, .int .i64 k, .int .i64 ad, .int .u8 (pl : Int), vb, vr, vt]] w fun e w' => e = .returned (.int .i64 1) ∧ Below w.heap.size w w' := by
  have D0 := Below.alN (Below.refl w.heap.size w) (.cells #[.string nm, .int .i64 k, .int .i64 ad, .int .u8 (pl : Int), vb, vr, vt] 41)
  have I0 : Hid (∀ w, Calls Tryz.prog 7 #[.int .i64 k, .int .i64 1, .int .i64 5] w fun e w' => e = .returned (.bool false) ∧ w' = w) := fun w => by
    have := inN k 1 5 w
    rw [show (decide (1 ≤ k) && decide (k ≤ 5)) = false by
      rw [Bool.eq_false_iff]
      simp only [ne_eq, Bool.and_eq_true, decide_eq_true_eq]
      exact h] at this
    exact this
  clear h
  go_enter Tryz.func22, Tryz.ntmps22
  go_wp2_with (go_at_call 7; refine (I0.out _).mono ?_; rintro e w' ⟨rfl, rfl⟩)
  go_ret
  exact ⟨rfl, D0⟩
/-- The document's check of a device. -/
theorem rdevice_any (d : Dv) (vb vr vt : Value) (c : Int) (w : World) (hb : SlAt w.heap.size w 1 IsI vb d.backs) (hr : SlAt w.heap.size w 5 IsRule vr d.rules) (ht : SlAt w.heap.size w 3 IsRoute vt d.routes)
    (RT : Hid (∀ W, Below w.heap.size w W → Calls Tryz.prog 46 #[vt] W fun e w' => e = .returned (.int .i64 c) ∧ Below W.heap.size W w')) :
    Calls Tryz.prog 22 #[.agg #[.string d.name, .int .i64 d.kind, .int .i64 d.addr, .int .u8 (d.pool : Int), vb, vr, vt]] w fun e w' => e = .returned (.int .i64 (devV d.kind d.addr d.pool d.backs d.rules.length d.routes.length c)) ∧ Below w.heap.size w w' := by
  obtain ⟨nm, k, ad, pl, bs, rs, ts, _, _⟩ := d
  simp only at hb hr ht ⊢
  have hb0 := hb
  obtain ⟨Ab, cb, rfl, _, b1, b2, _⟩ := hb
  obtain ⟨Ar, cr, rfl, _, _, _, _⟩ := hr
  obtain ⟨At, ct, rfl, _, _, _, _⟩ := ht
  by_cases hk : 1 ≤ k ∧ k ≤ 5
  · have e0 : (decide (1 ≤ k) && decide (k ≤ 5)) = true := by simp [hk]
    have hkk : k = 1 ∨ k = 2 ∨ k = 3 ∨ k = 4 ∨ k = 5 := by omega
    have nil : bs.length = 0 → backsFrom bs ad 0 = 0 := fun h => backsFrom_end (by omega)
    rcases hkk with rfl | rfl | rfl | rfl | rfl
    · refine (rdev_1 nm ad pl Ab Ar At bs.length cb rs.length cr ts.length ct c w RT).mono fun e w' ⟨e1, e2⟩ => ⟨?_, e2⟩
      rw [e1]
      congr 2
      unfold devV hasAddr
      by_cases n0 : bs.length = 0
      · simp [n0, nil n0]
      · simp [n0, Nat.pos_of_ne_zero n0]
    · refine (rdev_2 nm ad pl Ab Ar At bs.length cb rs.length cr ts.length ct c w RT).mono fun e w' ⟨e1, e2⟩ => ⟨?_, e2⟩
      rw [e1]
      congr 2
      unfold devV hasAddr
      by_cases n0 : bs.length = 0
      · simp [n0, nil n0]
      · simp [n0, Nat.pos_of_ne_zero n0]
    · refine (rdev_3 nm ad pl Ab Ar At bs.length cb rs.length cr ts.length ct c w RT).mono fun e w' ⟨e1, e2⟩ => ⟨?_, e2⟩
      rw [e1]
      congr 2
      unfold devV hasAddr
      by_cases n0 : bs.length = 0
      · simp [n0, nil n0]
      · simp [n0, Nat.pos_of_ne_zero n0]
    · refine (rdev_4 nm ad pl Ab Ar At bs.length cb rs.length cr ts.length ct c w RT).mono fun e w' ⟨e1, e2⟩ => ⟨?_, e2⟩
      rw [e1]
      congr 2
      unfold devV hasAddr
      by_cases n0 : bs.length = 0
      · simp [n0, nil n0]
      · simp [n0, Nat.pos_of_ne_zero n0]
    · refine (rdev_5 nm ad pl Ab Ar At bs cb rs.length cr ts.length ct c w b1 b2 hb0 RT).mono fun e w' ⟨e1, e2⟩ => ⟨?_, e2⟩
      rw [e1]
      congr 2
      unfold devV hasAddr
      by_cases r8 : 8 < rs.length
      · simp [Nat.lt_trans (show 0 < 8 by omega) r8]
      · simp [r8]
  · refine (rdev_none nm k ad pl _ _ _ w hk).mono fun e w' ⟨e1, e2⟩ => ⟨?_, e2⟩
    rw [e1]
    unfold devV
    rw [if_pos]
    rw [Bool.not_eq_true', Bool.eq_false_iff]
    simp only [ne_eq, Bool.and_eq_true, decide_eq_true_eq]
    exact hk
end Go.Proofs.YthioedgnambomaaGreat



namespace Go.Proofs.YthioedgnambomaaGreat
open Go.RowKit

theorem finR (n lo hi : Int) (w : World) : Calls Tryz.prog 7 #[.int .i64 n, .int .i64 lo, .int .i64 hi] w fun e w' => e = .returned (.bool (decide (lo ≤ n) && decide (n ≤ hi))) ∧ w' = w := by
  by_cases h : lo ≤ n
  · go_enter Tryz.func7, Tryz.ntmps7
    go_wp2_with fail
    go_ret
    exact ⟨by simp [h], rfl⟩
  · have h' : decide (lo ≤ n) = false := by simp; omega
    go_enter Tryz.func7, Tryz.ntmps7
    go_wp2_with fail
    go_ret
    exact ⟨by simp, rfl⟩
/-- The first bits of an address. -/
def topV (n : Int) (b : Int) : Int := n / 2 ^ bh b * 2 ^ bh b
theorem top_0 (n : Int) (w : World) (h0 : 0 ≤ n) (h1 : n < 16) : Calls Tryz.prog 69 #[.int .i64 n, .int .i64 4] w fun e w' => e = .returned (.int .i64 (topV n 4)) ∧ w' = w := by
  have hw2 : IntKind.i64.wrap n = n := IntWalk.i64_in _ (by omega)
  have hw : wrap64 n = n := by rw [← IntWalk.i64_left]; exact hw2
  have E : Hid (topV n 4 = n) := by show n / 1 * 1 = n; omega
  clear h0 h1
  go_enter Tryz.func69, Tryz.ntmps69
  go_wp2_with fail
  go_ret
  refine ⟨?_, rfl⟩
  rw [E.out]
  first | rfl | (simp; done) | (simp; rw [hw]) | (simp; rw [hw2])
theorem top_1 (n : Int) (w : World) (h0 : 0 ≤ n) (h1 : n < 16) : Calls Tryz.prog 69 #[.int .i64 n, .int .i64 3] w fun e w' => e = .returned (.int .i64 (topV n 3)) ∧ w' = w := by
  have hw : wrap64 (n / 2 * 2) = n / 2 * 2 := by rw [← IntWalk.i64_left]; exact IntWalk.i64_in _ (by omega)
  have hw2 : IntKind.i64.wrap (n / 2 * 2) = n / 2 * 2 := IntWalk.i64_in _ (by omega)
  have E : Hid (topV n 3 = n / 2 * 2) := rfl
  have F : Hid (0 ≤ n ∧ n < 16) := ⟨h0, h1⟩
  clear h0 h1
  go_enter Tryz.func69, Tryz.ntmps69
  go_wp2_with fail
  go_ret
  refine ⟨?_, rfl⟩
  rw [E.out]
  first | rfl | (simp; done) | (simp; rw [hw]) | (simp; have := F.out; rw [← IntWalk.i64_left]; exact (IntWalk.i64_in _ (by omega)).symm)
theorem top_2 (n : Int) (w : World) (h0 : 0 ≤ n) (h1 : n < 16) : Calls Tryz.prog 69 #[.int .i64 n, .int .i64 2] w fun e w' => e = .returned (.int .i64 (topV n 2)) ∧ w' = w := by
  have hw : wrap64 (n / 4 * 4) = n / 4 * 4 := by rw [← IntWalk.i64_left]; exact IntWalk.i64_in _ (by omega)
  have hw2 : IntKind.i64.wrap (n / 4 * 4) = n / 4 * 4 := IntWalk.i64_in _ (by omega)
  have E : Hid (topV n 2 = n / 4 * 4) := rfl
  have F : Hid (0 ≤ n ∧ n < 16) := ⟨h0, h1⟩
  clear h0 h1
  go_enter Tryz.func69, Tryz.ntmps69
  go_wp2_with fail
  go_ret
  refine ⟨?_, rfl⟩
  rw [E.out]
  first | rfl | (simp; done) | (simp; rw [hw]) | (simp; have := F.out; rw [← IntWalk.i64_left]; exact (IntWalk.i64_in _ (by omega)).symm)
theorem top_3 (n : Int) (w : World) (h0 : 0 ≤ n) (h1 : n < 16) : Calls Tryz.prog 69 #[.int .i64 n, .int .i64 1] w fun e w' => e = .returned (.int .i64 (topV n 1)) ∧ w' = w := by
  have hw : wrap64 (n / 8 * 8) = n / 8 * 8 := by rw [← IntWalk.i64_left]; exact IntWalk.i64_in _ (by omega)
  have hw2 : IntKind.i64.wrap (n / 8 * 8) = n / 8 * 8 := IntWalk.i64_in _ (by omega)
  have E : Hid (topV n 1 = n / 8 * 8) := rfl
  have F : Hid (0 ≤ n ∧ n < 16) := ⟨h0, h1⟩
  clear h0 h1
  go_enter Tryz.func69, Tryz.ntmps69
  go_wp2_with fail
  go_ret
  refine ⟨?_, rfl⟩
  rw [E.out]
  first | rfl | (simp; done) | (simp; rw [hw]) | (simp; have := F.out; rw [← IntWalk.i64_left]; exact (IntWalk.i64_in _ (by omega)).symm)
theorem top_4 (n : Int) (w : World) (h0 : 0 ≤ n) (h1 : n < 16) : Calls Tryz.prog 69 #[.int .i64 n, .int .i64 0] w fun e w' => e = .returned (.int .i64 (topV n 0)) ∧ w' = w := by
  have hw : wrap64 (n / 16 * 16) = n / 16 * 16 := by rw [← IntWalk.i64_left]; exact IntWalk.i64_in _ (by omega)
  have hw2 : IntKind.i64.wrap (n / 16 * 16) = n / 16 * 16 := IntWalk.i64_in _ (by omega)
  have E : Hid (topV n 0 = n / 16 * 16) := rfl
  have F : Hid (0 ≤ n ∧ n < 16) := ⟨h0, h1⟩
  clear h0 h1
  go_enter Tryz.func69, Tryz.ntmps69
  go_wp2_with fail
  go_ret
  refine ⟨?_, rfl⟩
  rw [E.out]
  first | rfl | (simp; done) | (simp; rw [hw]) | (simp; have := F.out; rw [← IntWalk.i64_left]; exact (IntWalk.i64_in _ (by omega)).symm)
theorem top_any (n b : Int) (w : World) (h0 : 0 ≤ n) (h1 : n < 16) (h2 : 0 ≤ b) (h3 : b ≤ 4) : Calls Tryz.prog 69 #[.int .i64 n, .int .i64 b] w fun e w' => e = .returned (.int .i64 (topV n b)) ∧ w' = w := by
  have hb : b = 0 ∨ b = 1 ∨ b = 2 ∨ b = 3 ∨ b = 4 := by omega
  rcases hb with rfl | rfl | rfl | rfl | rfl
  · exact top_4 n w h0 h1
  · exact top_3 n w h0 h1
  · exact top_2 n w h0 h1
  · exact top_1 n w h0 h1
  · exact top_0 n w h0 h1
theorem top_same (v b : Int) : (topV v b == v) = decide (v % 2 ^ bh b = 0) := by
  have h := Int.mul_ediv_add_emod v (2 ^ bh b)
  unfold topV
  rw [Bool.eq_iff_iff, Int.mul_comm]
  generalize (2 : Int) ^ bh b = m at *
  simp
  omega
theorem top_takes {r : Rt} {d : Int} (hr : isR r = true) : (topV d r.b == r.v) = takesB r d := by
  have h := Int.mul_ediv_add_emod r.v (2 ^ bh r.b)
  have h2 := (isR_val hr).2.2
  have hp : (0 : Int) < 2 ^ bh r.b := Int.pow_pos (by omega)
  unfold topV takesB
  rw [Bool.eq_iff_iff, Int.mul_comm]
  generalize (2 : Int) ^ bh r.b = m at *
  simp
  rw [h2, Int.add_zero] at h
  constructor
  · intro e
    rw [← h] at e
    exact Int.eq_of_mul_eq_mul_left (by omega) e
  · intro e
    rw [e, h]

set_option maxHeartbeats 2000000 in
theorem right_case (v b p t : Int) (w : World) (x0 x1 x3 : Bool)
    (h0 : Hid (∀ w, Calls Tryz.prog 7 #[.int .i64 b, .int .i64 0, .int .i64 4] w fun e w' => e = .returned (.bool x0) ∧ w' = w))
    (h1 : Hid (∀ w, Calls Tryz.prog 7 #[.int .i64 v, .int .i64 0, .int .i64 15] w fun e w' => e = .returned (.bool x1) ∧ w' = w))
    (h2 : Hid ((x0 && x1) = true → ∀ w, Calls Tryz.prog 69 #[.int .i64 v, .int .i64 b] w fun e w' => e = .returned (.int .i64 t) ∧ w' = w))
    (h3 : Hid (∀ w, Calls Tryz.prog 7 #[.int .i64 p, .int .i64 0, .int .i64 3] w fun e w' => e = .returned (.bool x3) ∧ w' = w)) :
    Calls Tryz.prog 68 #[rtw v b p] w fun e w' => e = .returned (.bool (x0 && x1 && (t == v) && x3)) ∧ Below w.heap.size w w' := by
  have D0 := Below.al (Below.refl w.heap.size w) (.cells #[.int .i64 v, .int .i64 b, .int .i64 p] 115)
  cases x0
  · go_enter Tryz.func68, Tryz.ntmps68
    go_wp2_with fail
    go_quiet ((go_at_call_of 7 (Value.int .i64 b); exact Calls.quiet_of_same (h0.out _)))
    go_wp2_with fail
    go_ret
    exact ⟨by simp, belowN D0 _⟩
  cases x1
  · go_enter Tryz.func68, Tryz.ntmps68
    go_wp2_with fail
    go_quiet ((first | (go_at_call_of 7 (Value.int .i64 b); exact Calls.quiet_of_same (h0.out _)) | (go_at_call_of 7 (Value.int .i64 v); exact Calls.quiet_of_same (h1.out _))))
    go_wp2_with fail
    go_ret
    exact ⟨by simp, belowN D0 _⟩
  have H2 : Hid (∀ w, Calls Tryz.prog 69 #[.int .i64 v, .int .i64 b] w fun e w' => e = .returned (.int .i64 t) ∧ w' = w) := h2.out rfl
  clear h2
  cases ht : (t == v)
  · go_enter Tryz.func68, Tryz.ntmps68
    go_wp2_with fail
    go_quiet ((first | (go_at_call_of 7 (Value.int .i64 b); exact Calls.quiet_of_same (h0.out _)) | (go_at_call_of 7 (Value.int .i64 v); exact Calls.quiet_of_same (h1.out _)) | (go_at_call 69; exact Calls.quiet_of_same (H2.out _))))
    go_wp2_with fail
    go_ret
    exact ⟨by simp, belowN D0 _⟩
  · go_enter Tryz.func68, Tryz.ntmps68
    go_wp2_with fail
    go_quiet ((first | (go_at_call_of 7 (Value.int .i64 b); exact Calls.quiet_of_same (h0.out _)) | (go_at_call_of 7 (Value.int .i64 v); exact Calls.quiet_of_same (h1.out _)) | (go_at_call_of 7 (Value.int .i64 p); exact Calls.quiet_of_same (h3.out _)) | (go_at_call 69; exact Calls.quiet_of_same (H2.out _))))
    go_wp2_with fail
    go_ret
    exact ⟨by simp, belowN D0 _⟩
/-- rightRoute. -/
theorem rright_any (r : Rt) (w : World) : Calls Tryz.prog 68 #[rtw r.v r.b r.p] w fun e w' => e = .returned (.bool (isR r)) ∧ Below w.heap.size w w' := by
  obtain ⟨v, b, p⟩ := r
  have e : isR ⟨v, b, p⟩ = ((decide (0 ≤ b) && decide (b ≤ 4)) && (decide (0 ≤ v) && decide (v ≤ 15)) && (topV v b == v) && (decide (0 ≤ p) && decide (p ≤ 3))) := by
    rw [top_same, show decide (v ≤ 15) = decide (v < 16) by rw [decide_eq_decide]; omega, show decide (p ≤ 3) = decide (p < 4) by rw [decide_eq_decide]; omega]
    simp only [isR, Bool.and_assoc]
  rw [e]
  refine right_case v b p (topV v b) w _ _ _ (fun w => finR b 0 4 w) (fun w => finR v 0 15 w) (fun h w => ?_) (fun w => finR p 0 3 w)
  simp only [Bool.and_eq_true, decide_eq_true_eq] at h
  exact top_any v b w h.2.1 (by omega) h.1.1 h.1.2

/-! ### Out -/
def pB (d : Int) (n : Nat) (r : Rt) : Bool := isR r && (r.b == (n : Int)) && takesB r d
/-- The document's route: the most bits first. -/
def rout (l : List Rt) (d : Int) : Nat → Option Rt
  | 0 => none
  | n + 1 => (l.find? (pB d n)).or (rout l d n)
def rp : Option Rt → Int
  | some r => r.p
  | none => 0
theorem find_take {xs : List Rt} {k : Nat} {r : Rt} {q : Rt → Bool} (h : xs[k]? = some r) : (xs.take (k + 1)).find? q = ((xs.take k).find? q).or (if q r then some r else none) := by
  obtain ⟨hk, e⟩ := List.getElem?_eq_some_iff.1 h
  rw [List.take_succ_eq_append_getElem hk, e, List.find?_append]
  congr 1
  simp only [List.find?_cons, List.find?_nil]
  cases q r <;> simp
theorem find_here {xs : List Rt} {k : Nat} {r : Rt} {q : Rt → Bool} (h : xs[k]? = some r) (h0 : (xs.take k).find? q = none) (hq : q r = true) : xs.find? q = some r := by
  have e := find_take (q := q) h
  rw [h0, hq] at e
  simp only [if_true, Option.none_or] at e
  rw [← List.take_append_drop (k + 1) xs, List.find?_append, e]
  rfl
theorem best_spec (d : Int) (l : List Rt) : ((bestOf l d).1 = -1 ∧ ∀ r ∈ l, (isR r && takesB r d) = false) ∨ (∃ n : Nat, n ≤ 4 ∧ (bestOf l d).1 = (n : Int) ∧ (∃ r, l.find? (pB d n) = some r ∧ r.p = (bestOf l d).2) ∧ ∀ r ∈ l, (isR r && takesB r d) = true → r.b ≤ (n : Int)) := by
  suffices H : ∀ m : List Rt, ((bestOf m.reverse d).1 = -1 ∧ ∀ r ∈ m.reverse, (isR r && takesB r d) = false) ∨ (∃ n : Nat, n ≤ 4 ∧ (bestOf m.reverse d).1 = (n : Int) ∧ (∃ r, m.reverse.find? (pB d n) = some r ∧ r.p = (bestOf m.reverse d).2) ∧ ∀ r ∈ m.reverse, (isR r && takesB r d) = true → r.b ≤ (n : Int)) by
    have := H l.reverse
    rw [List.reverse_reverse] at this
    exact this
  intro m
  induction m with
  | nil => exact Or.inl ⟨rfl, fun r h => by cases h⟩
  | cons x m ih =>
    rw [List.reverse_cons, bestOf_snoc]
    generalize m.reverse = l at *
    by_cases hq : (isR x && takesB x d) = true
    · have hb := isR_bits (by simp only [Bool.and_eq_true] at hq; exact hq.1)
      obtain ⟨n', hn'⟩ : ∃ n' : Nat, x.b = (n' : Int) := ⟨x.b.toNat, by omega⟩
      by_cases hm : (bestOf l d).1 < x.b
      · have e : better d (bestOf l d) x = (x.b, x.p) := by
          unfold better
          rw [hq, Bool.true_and, if_pos (decide_eq_true hm)]
        rw [e]
        refine Or.inr ⟨n', by omega, hn', ⟨x, ?_, rfl⟩, ?_⟩
        · have h0 : l.find? (pB d n') = none := by
            rw [List.find?_eq_none]
            intro r hr hp
            simp only [pB, Bool.and_eq_true, beq_iff_eq] at hp
            rcases ih with ⟨_, h⟩ | ⟨n, _, e1, _, h⟩
            · have := h r hr
              rw [hp.1.1, hp.2] at this
              cases this
            · have := h r hr (by rw [hp.1.1, hp.2]; rfl)
              omega
          rw [List.find?_append, h0, Option.none_or]
          simp only [List.find?_cons]
          have : pB d n' x = true := by
            simp only [Bool.and_eq_true] at hq
            simp only [pB, hq.1, hq.2, hn', beq_self_eq_true, Bool.and_self]
          rw [this]
        · intro r hr hqr
          rcases List.mem_append.1 hr with hr | hr
          · rcases ih with ⟨_, h⟩ | ⟨n, _, e1, _, h⟩
            · have := h r hr
              rw [hqr] at this
              cases this
            · have := h r hr hqr
              omega
          · simp only [List.mem_cons, List.not_mem_nil, or_false] at hr
            subst hr
            omega
      · have e : better d (bestOf l d) x = bestOf l d := by
          unfold better
          rw [hq, Bool.true_and, if_neg (by simp only [decide_eq_true_eq]; exact hm)]
        rw [e]
        rcases ih with ⟨e1, _⟩ | ⟨n, hn, e1, ⟨r0, hf, hp⟩, h⟩
        · omega
        · refine Or.inr ⟨n, hn, e1, ⟨r0, by rw [List.find?_append, hf]; rfl, hp⟩, ?_⟩
          intro r hr hqr
          rcases List.mem_append.1 hr with hr | hr
          · exact h r hr hqr
          · simp only [List.mem_cons, List.not_mem_nil, or_false] at hr
            subst hr
            omega
    · have e : better d (bestOf l d) x = bestOf l d := by
        unfold better
        rw [if_neg (by simp only [Bool.and_eq_true] at hq ⊢; exact fun h => hq h.1)]
      rw [e]
      have hq' : (isR x && takesB x d) = false := by simpa using hq
      rcases ih with ⟨e1, h⟩ | ⟨n, hn, e1, ⟨r0, hf, hp⟩, h⟩
      · refine Or.inl ⟨e1, fun r hr => ?_⟩
        rcases List.mem_append.1 hr with hr | hr
        · exact h r hr
        · simp only [List.mem_cons, List.not_mem_nil, or_false] at hr
          subst hr
          exact hq'
      · refine Or.inr ⟨n, hn, e1, ⟨r0, by rw [List.find?_append, hf]; rfl, hp⟩, ?_⟩
        intro r hr hqr
        rcases List.mem_append.1 hr with hr | hr
        · exact h r hr hqr
        · simp only [List.mem_cons, List.not_mem_nil, or_false] at hr
          subst hr
          rw [hq'] at hqr
          cases hqr
theorem rout_none {l : List Rt} {d : Int} (h : ∀ r ∈ l, (isR r && takesB r d) = false) : ∀ n, rout l d n = none
  | 0 => rfl
  | n + 1 => by
    have : l.find? (pB d n) = none := by
      rw [List.find?_eq_none]
      intro r hr hp
      simp only [pB, Bool.and_eq_true] at hp
      have := h r hr
      rw [hp.1.1, hp.2] at this
      cases this
    rw [rout, this, Option.none_or]
    exact rout_none h n
theorem rout_hit {l : List Rt} {d : Int} {n : Nat} {r : Rt} (hf : l.find? (pB d n) = some r) (h : ∀ r ∈ l, (isR r && takesB r d) = true → r.b ≤ (n : Int)) : ∀ N, n < N → rout l d N = some r
  | 0, hN => by omega
  | N + 1, hN => by
    by_cases he : n = N
    · subst he
      rw [rout, hf]
      rfl
    · have : l.find? (pB d N) = none := by
        rw [List.find?_eq_none]
        intro r hr hp
        simp only [pB, Bool.and_eq_true, beq_iff_eq] at hp
        have := h r hr (by rw [hp.1.1, hp.2]; rfl)
        omega
      rw [rout, this, Option.none_or]
      exact rout_hit hf h N (by omega)
/-- The document's route is the best one. -/
theorem rout_out (l : List Rt) {d : Int} (hd : 0 ≤ d ∧ d < 16) : rp (rout l d 5) = outN l d ∧ (rout l d 5).isSome = outB l d := by
  unfold outN outB
  rw [if_pos hd, decide_eq_true hd.1, decide_eq_true hd.2]
  rcases best_spec d l with ⟨e, h⟩ | ⟨n, hn, e, ⟨r, hf, hp⟩, h⟩
  · rw [rout_none h 5, (bestOf_low l d).2 e, e]
    exact ⟨rfl, rfl⟩
  · rw [rout_hit hf h 5 (by omega), e, ← hp]
    refine ⟨rfl, ?_⟩
    have : ((n : Int) == -1) = false := by simp
    rw [this]
    rfl

set_option maxHeartbeats 8000000 in
set_option maxRecDepth 100000 in
theorem rout_row (b o cap : Nat) (xs : List Rt) (d : Int) (w : World) (hb : b < w.heap.size) (hn : xs.length ≤ cap) (hcap : cap ≤ maxLen) (hr : Hid (TAt w b o xs)) (h0 : 0 ≤ d) (h1 : d < 16) :
    Calls Tryz.prog 32 #[.slice (some ⟨b, o, none⟩) xs.length cap, .int .i64 d] w fun e w' => e = .returned (.tuple #[.int .i64 (rp (rout xs d 5)), .bool (rout xs d 5).isSome]) ∧ Below w.heap.size w w' := by
  unfold maxLen at hcap
  have IN : Hid (∀ w, Calls Tryz.prog 7 #[.int .i64 d, .int .i64 0, .int .i64 15] w fun e w' => e = .returned (.bool true) ∧ w' = w) := fun w => by
    have := finR d 0 15 w
    rw [show (decide (0 ≤ d) && decide (d ≤ 15)) = true by simp; omega] at this
    exact this
  have H0 : Hid (0 ≤ d ∧ d < 16) := ⟨h0, h1⟩
  clear h0 h1
  go_enter Tryz.func32, Tryz.ntmps32
  go_wp2_with fail
  go_loopw [6] (fun i wr => ∃ j : Int, i = .int .i64 j ∧ -1 ≤ j ∧ j ≤ 4 ∧ Below w.heap.size w wr ∧ Hid (rout xs d 5 = rout xs d (j + 1).toNat)) (fun i _ => (intOf i + 1).toNat)
  case atStart => exact ⟨4, rfl, by omega, by omega, Below.refl _ _, rfl⟩
  case round =>
    obtain ⟨j, rfl, hj1, hj2, D1, hl⟩ := hrel
    by_cases hj : j = -1
    · subst hj
      have e : Hid (rout xs d 5 = none) := hl.out
      go_wp2_with fail
      go_ret2
      exact ⟨by rw [e.out]; rfl, D1⟩
    · obtain ⟨m, rfl⟩ : ∃ m : Nat, j = m := ⟨j.toNat, by omega⟩
      have hm4 : m ≤ 4 := by omega
      have HL : Hid (rout xs d 5 = (xs.find? (pB d m)).or (rout xs d m)) := hl.out
      have tm : decide ((0 : Int) ≤ (m : Int)) = true := by simp
      clear hl hj hj1 hj2
      go_wp2_with fail
      refine (IN.out _).mono ?_
      rintro e w1 ⟨rfl, rfl⟩
      go_wp2_with fail
      go_loopw [7] (fun i wr => ∃ k : Nat, i = .int .i64 (k : Int) ∧ k ≤ xs.length ∧ Below w.heap.size w wr ∧ Hid ((xs.take k).find? (pB d m) = none)) (fun i _ => xs.length - (intOf i).toNat)
      case atStart => exact ⟨0, rfl, by omega, D1, rfl⟩
      case round =>
        clear D1
        obtain ⟨k, rfl, hk, D1, hno⟩ := hrel
        by_cases hlt : k < xs.length
        · obtain ⟨r, hxk⟩ : ∃ r, xs[k]? = some r := ⟨_, List.getElem?_eq_getElem hlt⟩
          have RA := hr.out.below D1 hb
          obtain ⟨c0, c1, c2⟩ := RA.at hxk
          have IS : Hid (∀ w', Below wr.heap.size wr w' → Calls Tryz.prog 68 #[rtw r.v r.b r.p] w' fun e w'' => e = .returned (.bool (isR r)) ∧ Hid (Below w.heap.size w w'') ∧ w''.cell? ⟨b, o + k * 3, none⟩ = some (.int .i64 r.v) ∧ w''.cell? ⟨b, o + k * 3 + 1, none⟩ = some (.int .i64 r.b) ∧ w''.cell? ⟨b, o + k * 3 + 2, none⟩ = some (.int .i64 r.p)) := fun w' hw' =>
            (rright_any r w').mono fun e w'' ⟨h1, h2⟩ => by
              have hB := hw'.trans (h2.mono hw'.size)
              have hb' : b < wr.heap.size := Nat.lt_of_lt_of_le hb D1.size
              obtain ⟨y0, y1, y2⟩ := (RA.below hB hb').at hxk
              exact ⟨h1, chn hB D1, y0, y1, y2⟩
          have TP : Hid ((isR r && (r.b == (m : Int))) = true → ∀ w', Calls Tryz.prog 69 #[.int .i64 d, .int .i64 (m : Int)] w' fun e w'' => e = .returned (.int .i64 (topV d r.b)) ∧ w'' = w') := fun h w' => by
            simp only [Bool.and_eq_true, beq_iff_eq] at h
            rw [h.2]
            exact top_any d m w' H0.out.1 H0.out.2 (by omega) (by omega)
          have HP : pB d m r = (isR r && (r.b == (m : Int)) && (topV d r.b == r.v)) := by
            unfold pB
            cases hx : isR r
            · rfl
            · rw [top_takes hx]
          have NX : Hid ((isR r && (r.b == (m : Int)) && (topV d r.b == r.v)) = false → Hid ((xs.take (k + 1)).find? (pB d m) = none)) := fun h => by
            show _ = _
            rw [find_take hxk, hno.out, HP, h]
            rfl
          have HT : Hid ((isR r && (r.b == (m : Int)) && (topV d r.b == r.v)) = true → rp (rout xs d 5) = r.p ∧ (rout xs d 5).isSome = true) := fun h => by
            rw [HL.out, find_here hxk hno.out (by rw [HP, h])]
            exact ⟨rfl, rfl⟩
          have R0 : Below wr.heap.size wr wr.drew := (Below.refl _ _).drew
          have lw := D1.size
          have k1 : (0 : Int) ≤ (k : Int) := by omega
          have k2 : (k : Int) < (xs.length : Int) := by omega
          clear hxk RA HP hno
          generalize topV d r.b = tv at *
          generalize isR r = x at *
          generalize hy : (r.b == (m : Int)) = y at *
          generalize r.v = rv0 at *
          generalize r.b = rb0 at *
          generalize r.p = rp0 at *
          cases x
          · clear TP HT
            go_wp2_with fail
            refine wp_region_held_drew (S := (fun w' => w'.cell? ⟨b, o + k * 3, none⟩ = some (.int .i64 rv0) ∧ w'.cell? ⟨b, o + k * 3 + 1, none⟩ = some (.int .i64 rb0) ∧ w'.cell? ⟨b, o + k * 3 + 2, none⟩ = some (.int .i64 rp0))) (by kernel_rfl) (⟨by assumption, by assumption, by assumption⟩) (fun hHeld => ?_)
            refine' tk 0 rfl (by kernel_rfl) (fun _ _ _ h => h) (by rfl) (by assumption) ?y1 ?r1
            case y1 => (intro w h; (try dsimp only at h); go_simp; (try with_reducible rfl))
            try simp only [lays]
            refine' tk 1 rfl (by kernel_rfl) (fun _ _ _ h => h) (by rfl) (by assumption) ?y2 ?r2
            case y2 => (intro w h; (try dsimp only at h); go_simp; (try with_reducible rfl))
            try simp only [lays]
            refine' tk 2 rfl (by kernel_rfl) (fun _ _ _ h => h) (by rfl) (by assumption) ?y3 ?r3
            case y3 => (intro w h; (try dsimp only at h); go_simp; (try with_reducible rfl))
            try simp only [lays]
            refine' tk 3 rfl (by kernel_rfl) (fun _ _ _ h => h) (by rfl) (by assumption) ?y4 ?r4
            case y4 => (intro w h; (try dsimp only at h); go_simp; (try with_reducible rfl))
            try simp only [lays]
            refine wpAnyH_ready (rs := [4]) (by kernel_rfl) (by simp) (AllReadyH.cons rfl (fun K hK => ?_) AllReadyH.nil)
            go_simp
            refine (IS.out _ (by assumption)).mono ?_; rintro e wz ⟨rfl, D3, z0, z1, z2⟩
            try go_wp2_with fail
            clear hHeld
            refine hK.out _ _ (⟨by assumption, by assumption, by assumption⟩) (fun hHeld => ?_)
            clear hK K
            try simp only [lays]
            refine' tk 5 rfl (by kernel_rfl) (fun _ _ _ h => h) (by rfl) (by assumption) ?y6 ?r6
            case y6 => (intro w h; (try dsimp only at h); go_simp; (try with_reducible rfl))
            try simp only [lays]
            refine' tk0 6 rfl (by kernel_rfl) (fun _ _ _ h => h) (by rfl) (by assumption) ?_
            try simp only [lays]
            refine' tk0 7 rfl (by kernel_rfl) (fun _ _ _ h => h) (by rfl) (by assumption) ?_
            try simp only [lays]
            refine' tk0 8 rfl (by kernel_rfl) (fun _ _ _ h => h) (by rfl) (by assumption) ?_
            try simp only [lays]
            refine' tk0 9 rfl (by kernel_rfl) (fun _ _ _ h => h) (by rfl) (by assumption) ?_
            try simp only [lays]
            refine' tk0 10 rfl (by kernel_rfl) (fun _ _ _ h => h) (by rfl) (by assumption) ?_
            try simp only [lays]
            refine' tk0 11 rfl (by kernel_rfl) (fun _ _ _ h => h) (by rfl) (by assumption) ?_
            try simp only [lays]
            refine' tk0 12 rfl (by kernel_rfl) (fun _ _ _ h => h) (by rfl) (by assumption) ?_
            try simp only [lays]
            refine' tk 13 rfl (by kernel_rfl) (fun _ _ _ h => h) (by rfl) (by assumption) ?y14 ?r14
            case y14 => (intro w h; (try dsimp only at h); go_simp; (try with_reducible rfl))
            try simp only [lays]
            refine' tk 14 rfl (by kernel_rfl) (fun _ _ _ h => h) (by rfl) (by assumption) ?y15 ?r15
            case y15 => (intro w h; (try dsimp only at h); go_simp; (try with_reducible rfl))
            try simp only [lays]
            refine' tk0 15 rfl (by kernel_rfl) (fun _ _ _ h => h) (by rfl) (by assumption) ?_
            try simp only [lays]
            refine' tk0 16 rfl (by kernel_rfl) (fun _ _ _ h => h) (by rfl) (by assumption) ?_
            try simp only [lays]
            refine' tk0 17 rfl (by kernel_rfl) (fun _ _ _ h => h) (by rfl) (by assumption) ?_
            try simp only [lays]
            refine' tk0 18 rfl (by kernel_rfl) (fun _ _ _ h => h) (by rfl) (by assumption) ?_
            try simp only [lays]
            refine' tk0 19 rfl (by kernel_rfl) (fun _ _ _ h => h) (by rfl) (by assumption) ?_
            try simp only [lays]
            refine' tk0 20 rfl (by kernel_rfl) (fun _ _ _ h => h) (by rfl) (by assumption) ?_
            try simp only [lays]
            refine' tk0 21 rfl (by kernel_rfl) (fun _ _ _ h => h) (by rfl) (by assumption) ?_
            try simp only [lays]
            refine' tk0 22 rfl (by kernel_rfl) (fun _ _ _ h => h) (by rfl) (by assumption) ?_
            try simp only [lays]
            refine' tk0 23 rfl (by kernel_rfl) (fun _ _ _ h => h) (by rfl) (by assumption) ?_
            try simp only [lays]
            refine' tk 24 rfl (by kernel_rfl) (fun _ _ _ h => h) (by rfl) (by assumption) ?y25 ?r25
            case y25 => (intro w h; (try dsimp only at h); go_simp; (try with_reducible rfl))
            try simp only [lays]
            refine wpAnyH_done (by kernel_rfl) ?_ _
            go_wp2_with fail
            go_roundw
            case rel => exact ⟨k + 1, by go_num, by omega, D3.out, NX.out rfl⟩
            case measure => simp [intOf]; omega
          cases y
          · clear TP HT
            go_wp2_with fail
            refine wp_region_held_drew (S := (fun w' => w'.cell? ⟨b, o + k * 3, none⟩ = some (.int .i64 rv0) ∧ w'.cell? ⟨b, o + k * 3 + 1, none⟩ = some (.int .i64 rb0) ∧ w'.cell? ⟨b, o + k * 3 + 2, none⟩ = some (.int .i64 rp0))) (by kernel_rfl) (⟨by assumption, by assumption, by assumption⟩) (fun hHeld => ?_)
            refine' tk 0 rfl (by kernel_rfl) (fun _ _ _ h => h) (by rfl) (by assumption) ?y27 ?r27
            case y27 => (intro w h; (try dsimp only at h); go_simp; (try with_reducible rfl))
            try simp only [lays]
            refine' tk 1 rfl (by kernel_rfl) (fun _ _ _ h => h) (by rfl) (by assumption) ?y28 ?r28
            case y28 => (intro w h; (try dsimp only at h); go_simp; (try with_reducible rfl))
            try simp only [lays]
            refine' tk 2 rfl (by kernel_rfl) (fun _ _ _ h => h) (by rfl) (by assumption) ?y29 ?r29
            case y29 => (intro w h; (try dsimp only at h); go_simp; (try with_reducible rfl))
            try simp only [lays]
            refine' tk 3 rfl (by kernel_rfl) (fun _ _ _ h => h) (by rfl) (by assumption) ?y30 ?r30
            case y30 => (intro w h; (try dsimp only at h); go_simp; (try with_reducible rfl))
            try simp only [lays]
            refine wpAnyH_ready (rs := [4]) (by kernel_rfl) (by simp) (AllReadyH.cons rfl (fun K hK => ?_) AllReadyH.nil)
            go_simp
            refine (IS.out _ (by assumption)).mono ?_; rintro e wz ⟨rfl, D3, z0, z1, z2⟩
            try go_wp2_with fail
            clear hHeld
            refine hK.out _ _ (⟨by assumption, by assumption, by assumption⟩) (fun hHeld => ?_)
            clear hK K
            try simp only [lays]
            refine' tk 5 rfl (by kernel_rfl) (fun _ _ _ h => h) (by rfl) (by assumption) ?y32 ?r32
            case y32 => (intro w h; (try dsimp only at h); go_simp; (try with_reducible rfl))
            try simp only [lays]
            refine' tk 6 rfl (by kernel_rfl) (fun _ _ _ h => h) (by rfl) (by assumption) ?y33 ?r33
            case y33 => (intro w h; (try dsimp only at h); go_simp; (try with_reducible rfl))
            try simp only [lays]
            refine' tk 7 rfl (by kernel_rfl) (fun _ _ _ h => h) (by rfl) (by assumption) ?y34 ?r34
            case y34 => (intro w h; (try dsimp only at h); go_simp; (try with_reducible rfl))
            try simp only [lays]
            refine' tk 8 rfl (by kernel_rfl) (fun _ _ _ h => h) (by rfl) (by assumption) ?y35 ?r35
            case y35 => (intro w h; (try dsimp only at h); go_simp; (try with_reducible rfl))
            try simp only [lays]
            refine' tk 9 rfl (by kernel_rfl) (fun _ _ _ h => h) (by rfl) (by assumption) ?y36 ?r36
            case y36 => (intro w h; (try dsimp only at h); go_simp; (try with_reducible rfl))
            try simp only [lays]
            refine' tk 10 rfl (by kernel_rfl) (fun _ _ _ h => h) (by rfl) (by assumption) ?y37 ?r37
            case y37 => (intro w h; (try dsimp only at h); go_simp; (try with_reducible rfl))
            try simp only [lays]
            refine' tk 11 rfl (by kernel_rfl) (fun _ _ _ h => h) (by rfl) (by assumption) ?y38 ?r38
            case y38 => (intro w h; (try dsimp only at h); go_simp; (try with_reducible rfl))
            try simp only [lays]
            refine' tk 12 rfl (by kernel_rfl) (fun _ _ _ h => h) (by rfl) (by assumption) ?y39 ?r39
            case y39 => (intro w h; (try dsimp only at h); go_simp; (try with_reducible rfl))
            try simp only [lays]
            refine' tk 13 rfl (by kernel_rfl) (fun _ _ _ h => h) (by rfl) (by assumption) ?y40 ?r40
            case y40 => (intro w h; (try dsimp only at h); go_simp; (try with_reducible rfl))
            try simp only [lays]
            refine' tk 14 rfl (by kernel_rfl) (fun _ _ _ h => h) (by rfl) (by assumption) ?y41 ?r41
            case y41 => (intro w h; (try dsimp only at h); go_simp; (try with_reducible rfl))
            try simp only [lays]
            refine' tk0 15 rfl (by kernel_rfl) (fun _ _ _ h => h) (by rfl) (by assumption) ?_
            try simp only [lays]
            refine' tk0 16 rfl (by kernel_rfl) (fun _ _ _ h => h) (by rfl) (by assumption) ?_
            try simp only [lays]
            refine' tk0 17 rfl (by kernel_rfl) (fun _ _ _ h => h) (by rfl) (by assumption) ?_
            try simp only [lays]
            refine' tk0 18 rfl (by kernel_rfl) (fun _ _ _ h => h) (by rfl) (by assumption) ?_
            try simp only [lays]
            refine' tk0 19 rfl (by kernel_rfl) (fun _ _ _ h => h) (by rfl) (by assumption) ?_
            try simp only [lays]
            refine' tk0 20 rfl (by kernel_rfl) (fun _ _ _ h => h) (by rfl) (by assumption) ?_
            try simp only [lays]
            refine' tk0 21 rfl (by kernel_rfl) (fun _ _ _ h => h) (by rfl) (by assumption) ?_
            try simp only [lays]
            refine' tk0 22 rfl (by kernel_rfl) (fun _ _ _ h => h) (by rfl) (by assumption) ?_
            try simp only [lays]
            refine' tk0 23 rfl (by kernel_rfl) (fun _ _ _ h => h) (by rfl) (by assumption) ?_
            try simp only [lays]
            refine' tk 24 rfl (by kernel_rfl) (fun _ _ _ h => h) (by rfl) (by assumption) ?y51 ?r51
            case y51 => (intro w h; (try dsimp only at h); go_simp; (try with_reducible rfl))
            try simp only [lays]
            refine wpAnyH_done (by kernel_rfl) ?_ _
            go_wp2_with fail
            go_roundw
            case rel => exact ⟨k + 1, by go_num, by omega, D3.out, NX.out rfl⟩
            case measure => simp [intOf]; omega
          · go_wp2_with fail
            refine wp_region_held_drew (S := (fun w' => w'.cell? ⟨b, o + k * 3, none⟩ = some (.int .i64 rv0) ∧ w'.cell? ⟨b, o + k * 3 + 1, none⟩ = some (.int .i64 rb0) ∧ w'.cell? ⟨b, o + k * 3 + 2, none⟩ = some (.int .i64 rp0))) (by kernel_rfl) (⟨by assumption, by assumption, by assumption⟩) (fun hHeld => ?_)
            refine' tk 0 rfl (by kernel_rfl) (fun _ _ _ h => h) (by rfl) (by assumption) ?y53 ?r53
            case y53 => (intro w h; (try dsimp only at h); go_simp; (try with_reducible rfl))
            try simp only [lays]
            refine' tk 1 rfl (by kernel_rfl) (fun _ _ _ h => h) (by rfl) (by assumption) ?y54 ?r54
            case y54 => (intro w h; (try dsimp only at h); go_simp; (try with_reducible rfl))
            try simp only [lays]
            refine' tk 2 rfl (by kernel_rfl) (fun _ _ _ h => h) (by rfl) (by assumption) ?y55 ?r55
            case y55 => (intro w h; (try dsimp only at h); go_simp; (try with_reducible rfl))
            try simp only [lays]
            refine' tk 3 rfl (by kernel_rfl) (fun _ _ _ h => h) (by rfl) (by assumption) ?y56 ?r56
            case y56 => (intro w h; (try dsimp only at h); go_simp; (try with_reducible rfl))
            try simp only [lays]
            refine wpAnyH_ready (rs := [4]) (by kernel_rfl) (by simp) (AllReadyH.cons rfl (fun K hK => ?_) AllReadyH.nil)
            go_simp
            refine (IS.out _ (by assumption)).mono ?_; rintro e wz ⟨rfl, D3, z0, z1, z2⟩
            try go_wp2_with fail
            clear hHeld
            refine hK.out _ _ (⟨by assumption, by assumption, by assumption⟩) (fun hHeld => ?_)
            clear hK K
            try simp only [lays]
            refine' tk 5 rfl (by kernel_rfl) (fun _ _ _ h => h) (by rfl) (by assumption) ?y58 ?r58
            case y58 => (intro w h; (try dsimp only at h); go_simp; (try with_reducible rfl))
            try simp only [lays]
            refine' tk 6 rfl (by kernel_rfl) (fun _ _ _ h => h) (by rfl) (by assumption) ?y59 ?r59
            case y59 => (intro w h; (try dsimp only at h); go_simp; (try with_reducible rfl))
            try simp only [lays]
            refine' tk 7 rfl (by kernel_rfl) (fun _ _ _ h => h) (by rfl) (by assumption) ?y60 ?r60
            case y60 => (intro w h; (try dsimp only at h); go_simp; (try with_reducible rfl))
            try simp only [lays]
            refine' tk 8 rfl (by kernel_rfl) (fun _ _ _ h => h) (by rfl) (by assumption) ?y61 ?r61
            case y61 => (intro w h; (try dsimp only at h); go_simp; (try with_reducible rfl))
            try simp only [lays]
            refine' tk 9 rfl (by kernel_rfl) (fun _ _ _ h => h) (by rfl) (by assumption) ?y62 ?r62
            case y62 => (intro w h; (try dsimp only at h); go_simp; (try with_reducible rfl))
            try simp only [lays]
            refine' tk 10 rfl (by kernel_rfl) (fun _ _ _ h => h) (by rfl) (by assumption) ?y63 ?r63
            case y63 => (intro w h; (try dsimp only at h); go_simp; (try with_reducible rfl))
            try simp only [lays]
            refine' tk 11 rfl (by kernel_rfl) (fun _ _ _ h => h) (by rfl) (by assumption) ?y64 ?r64
            case y64 => (intro w h; (try dsimp only at h); go_simp; (try with_reducible rfl))
            try simp only [lays]
            refine' tk 12 rfl (by kernel_rfl) (fun _ _ _ h => h) (by rfl) (by assumption) ?y65 ?r65
            case y65 => (intro w h; (try dsimp only at h); go_simp; (try with_reducible rfl))
            try simp only [lays]
            refine' tk 13 rfl (by kernel_rfl) (fun _ _ _ h => h) (by rfl) (by assumption) ?y66 ?r66
            case y66 => (intro w h; (try dsimp only at h); go_simp; (try with_reducible rfl))
            try simp only [lays]
            refine' tk 14 rfl (by kernel_rfl) (fun _ _ _ h => h) (by rfl) (by assumption) ?y67 ?r67
            case y67 => (intro w h; (try dsimp only at h); go_simp; (try with_reducible rfl))
            try simp only [lays]
            refine' tk 15 rfl (by kernel_rfl) (fun _ _ _ h => h) (by rfl) (by assumption) ?y68 ?r68
            case y68 => (intro w h; (try dsimp only at h); go_simp; (try with_reducible rfl))
            try simp only [lays]
            refine' tk 16 rfl (by kernel_rfl) (fun _ _ _ h => h) (by rfl) (by assumption) ?y69 ?r69
            case y69 => (intro w h; (try dsimp only at h); go_simp; (try with_reducible rfl))
            try simp only [lays]
            refine' tk 18 rfl (by kernel_rfl) (fun _ _ _ h => h) (by rfl) (by assumption) ?y70 ?r70
            case y70 => (intro w h; (try dsimp only at h); go_simp; (try with_reducible rfl))
            try simp only [lays]
            refine' tk 19 rfl (by kernel_rfl) (fun _ _ _ h => h) (by rfl) (by assumption) ?y71 ?r71
            case y71 => (intro w h; (try dsimp only at h); go_simp; (try with_reducible rfl))
            try simp only [lays]
            refine' tk 20 rfl (by kernel_rfl) (fun _ _ _ h => h) (by rfl) (by assumption) ?y72 ?r72
            case y72 => (intro w h; (try dsimp only at h); go_simp; (try with_reducible rfl))
            try simp only [lays]
            refine' tk 21 rfl (by kernel_rfl) (fun _ _ _ h => h) (by rfl) (by assumption) ?y73 ?r73
            case y73 => (intro w h; (try dsimp only at h); go_simp; (try with_reducible rfl))
            try simp only [lays]
            refine' tk 22 rfl (by kernel_rfl) (fun _ _ _ h => h) (by rfl) (by assumption) ?y74 ?r74
            case y74 => (intro w h; (try dsimp only at h); go_simp; (try with_reducible rfl))
            try simp only [lays]
            refine wpAnyH_ready (rs := [17]) (by kernel_rfl) (by simp) (AllReadyH.cons rfl (fun K hK => ?_) AllReadyH.nil)
            go_simp
            refine (TP.out rfl _).mono ?_; rintro e wy ⟨rfl, rfl⟩
            try go_wp2_with fail
            clear hHeld
            refine hK.out _ _ (⟨by assumption, by assumption, by assumption⟩) (fun hHeld => ?_)
            clear hK K
            try simp only [lays]
            refine' tk 23 rfl (by kernel_rfl) (fun _ _ _ h => h) (by rfl) (by assumption) ?y76 ?r76
            case y76 => (intro w h; (try dsimp only at h); go_simp; (try with_reducible rfl))
            try simp only [lays]
            refine' tk 24 rfl (by kernel_rfl) (fun _ _ _ h => h) (by rfl) (by assumption) ?y77 ?r77
            case y77 => (intro w h; (try dsimp only at h); go_simp; (try with_reducible rfl))
            try simp only [lays]
            refine wpAnyH_done (by kernel_rfl) ?_ _
            cases hq : (tv == rv0)
            · have HNO : Hid ((true && true && (tv == rv0)) = false) := by show _ = _; rw [hq]; rfl
              go_wp2_with fail
              go_roundw
              case rel => exact ⟨k + 1, by go_num, by omega, D3.out, NX.out HNO.out⟩
              case measure => simp [intOf]; omega
            · have HYES : Hid (rp (rout xs d 5) = rp0 ∧ (rout xs d 5).isSome = true) := HT.out (by rw [hq]; rfl)
              go_wp2_with fail
              go_ret2
              exact ⟨by rw [HYES.out.1, HYES.out.2]; rfl, D3.out⟩
        · obtain rfl : k = xs.length := by omega
          have HN : Hid (rout xs d 5 = rout xs d m) := by
            show _ = _
            have := hno.out
            rw [List.take_length] at this
            rw [HL.out, this, Option.none_or]
          go_wp2_with fail
          go_roundw
          case rel => exact ⟨(m : Int) - 1, by go_num, by omega, by omega, D1, by show _ = _; rw [HN.out]; congr 1; omega⟩
          case measure => simp [intOf]
end Go.Proofs.YthioedgnambomaaGreat


