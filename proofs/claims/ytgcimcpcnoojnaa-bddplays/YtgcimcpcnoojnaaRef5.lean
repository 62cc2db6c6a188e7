/-
  The closure of Swap.
-/
import Derived.Test.YtgcimcpcnoojnaaRef4
namespace Go.Proofs.Ytgcimcpcnoojnaa
open Go.RowKit Go.Maps

theorem and_test {b q k : Nat} (hq : q = 2 ^ k) (hb : b < 65536) (hk : k ≤ 16) : (Go.bits .and .i64 (b : Int) (q : Int) != 0) = b.testBit k := by
  have h16 : 2 ^ k ≤ 2 ^ 16 := Nat.pow_le_pow_right (by omega) hk
  rw [intBits_and b q (by omega) (by omega), hq, and_two]
  have : 0 < 2 ^ k := Nat.two_pow_pos _
  generalize b.testBit k = c
  generalize 2 ^ k = p at *
  cases c
  · simp
  · simp
    omega

set_option maxHeartbeats 4000000 in
set_option maxRecDepth 100000 in
theorem clo25 {w : World} {A ia ta n bb vb xb vars b i j : Nat} {s : Nat → Bool} (hA : SeenAt w A ia ta n s) (h : w.cell? ⟨vb, 0, none⟩ = some (.int .i64 (vars : Int))) (hf : w.cell? ⟨bb, 0, none⟩ = some (.func (.func 57) #[] #[.pointer (some ⟨vb, 0, none⟩)])) (hx : w.cell? ⟨xb, 2, none⟩ = some (.int .i64 (i : Int))) (hx3 : w.cell? ⟨xb, 3, none⟩ = some (.int .i64 (j : Int)))
    (hv : vars ≤ 8) (hn : 2 ^ vars = n) (hi : i < vars) (hj : j < vars) (hb : b < n) :
    Calls Try.prog 64 #[.int .i64 (b : Int), .pointer (some ⟨bb, 0, none⟩), .pointer (some ⟨xb, 0, none⟩), .pointer (some ⟨A, 0, none⟩)] w fun e w' => e = .returned (.bool (s (swBits b (vars - 1 - i) (vars - 1 - j)))) ∧ Below w.heap.size w w' := by
  obtain ⟨a0, a1, aT⟩ := hA
  have hn8 : n ≤ 256 := by
    have : 2 ^ vars ≤ 2 ^ 8 := Nat.pow_le_pow_right (by omega) hv
    omega
  obtain ⟨qi, hqi⟩ : ∃ q, q = 2 ^ (vars - 1 - i) := ⟨_, rfl⟩
  obtain ⟨qj, hqj⟩ : ∃ q, q = 2 ^ (vars - 1 - j) := ⟨_, rfl⟩
  have hci := Hq.mk (fun (W : World) (hW : W.cell? ⟨vb, 0, none⟩ = some (.int .i64 (vars : Int))) => bit18v hW (show vars ≤ 16 by omega) hi hqi)
  have hcj := Hq.mk (fun (W : World) (hW : W.cell? ⟨vb, 0, none⟩ = some (.int .i64 (vars : Int))) => bit18v hW (show vars ≤ 16 by omega) hj hqj)
  have pi : qi < 2 ^ vars := by rw [hqi]; exact Nat.pow_lt_pow_right (by omega) (by omega)
  have pj : qj < 2 ^ vars := by rw [hqj]; exact Nat.pow_lt_pow_right (by omega) (by omega)
  have ti := and_test hqi (show b < 65536 by omega) (by omega)
  have tj := and_test hqj (show b < 65536 by omega) (by omega)
  have y0l := clr_le b (vars - 1 - i)
  have y1l := clr_le (clr b (vars - 1 - i)) (vars - 1 - j)
  have e0 := intBits_andNot b qi _ hqi (by omega) (by omega)
  have e1 := intBits_andNot (clr b (vars - 1 - i)) qj _ hqj (by omega) (by omega)
  have o1 := intBits_or (clr (clr b (vars - 1 - i)) (vars - 1 - j)) qj vars (by omega) (by omega) pj
  have o2 := intBits_or (clr (clr b (vars - 1 - i)) (vars - 1 - j)) qi vars (by omega) (by omega) pi
  have o3 := intBits_or (clr (clr b (vars - 1 - i)) (vars - 1 - j) ||| qj) qi vars (by omega) (Nat.or_lt_two_pow (by omega) pj) pi
  have m0 : clr (clr b (vars - 1 - i)) (vars - 1 - j) < n := by omega
  have m1 : clr (clr b (vars - 1 - i)) (vars - 1 - j) ||| qj < n := by rw [← hn]; exact Nat.or_lt_two_pow (by omega) pj
  have m2 : clr (clr b (vars - 1 - i)) (vars - 1 - j) ||| qi < n := by rw [← hn]; exact Nat.or_lt_two_pow (by omega) pi
  have m3 : (clr (clr b (vars - 1 - i)) (vars - 1 - j) ||| qj) ||| qi < n := by rw [← hn]; exact Nat.or_lt_two_pow (Nat.or_lt_two_pow (by omega) pj) pi
  have c0 := World.rowIs.cell aT m0
  have c1 := World.rowIs.cell aT m1
  have c2 := World.rowIs.cell aT m2
  have c3 := World.rowIs.cell aT m3
  unfold swBits
  rw [← hqi, ← hqj]
  clear hqi hqj aT pi pj
  generalize clr (clr b (vars - 1 - i)) (vars - 1 - j) = y1 at *
  generalize clr b (vars - 1 - i) = y0 at *
  generalize y1 ||| qj = y2 at *
  generalize y1 ||| qi = y3 at *
  generalize y2 ||| qi = y4 at *
  cases hti : b.testBit (vars - 1 - i)
  · rw [hti] at ti
    cases htj : b.testBit (vars - 1 - j)
    · rw [htj] at tj
      go_enter Try.func64, Try.ntmps64
      go_wp2_with fail
      go_quiet ((first | (go_at_call_of 57 (Value.int .i64 (i : Int)); refine Calls.quiet_of_same (hci.out _ h)) | (go_at_call_of 57 (Value.int .i64 (j : Int)); refine Calls.quiet_of_same (hcj.out _ h))))
      go_wp2_with (first | (go_at_call_of 57 (Value.int .i64 (i : Int)); refine (hci.out (w.drewN nq) h).mono ?_; rintro e w2 ⟨rfl, rfl⟩) | (go_at_call_of 57 (Value.int .i64 (j : Int)); refine (hcj.out (w.drewN nq) h).mono ?_; rintro e w2 ⟨rfl, rfl⟩))
      go_ret
      exact ⟨by simp, below_drewN w nq⟩
    · rw [htj] at tj
      go_enter Try.func64, Try.ntmps64
      go_wp2_with fail
      go_quiet ((first | (go_at_call_of 57 (Value.int .i64 (i : Int)); refine Calls.quiet_of_same (hci.out _ h)) | (go_at_call_of 57 (Value.int .i64 (j : Int)); refine Calls.quiet_of_same (hcj.out _ h))))
      go_wp2_with (first | (go_at_call_of 57 (Value.int .i64 (i : Int)); refine (hci.out (w.drewN nq) h).mono ?_; rintro e w2 ⟨rfl, rfl⟩) | (go_at_call_of 57 (Value.int .i64 (j : Int)); refine (hcj.out (w.drewN nq) h).mono ?_; rintro e w2 ⟨rfl, rfl⟩))
      go_ret
      exact ⟨by simp, below_drewN w nq⟩
  · rw [hti] at ti
    cases htj : b.testBit (vars - 1 - j)
    · rw [htj] at tj
      go_enter Try.func64, Try.ntmps64
      go_wp2_with fail
      go_quiet ((first | (go_at_call_of 57 (Value.int .i64 (i : Int)); refine Calls.quiet_of_same (hci.out _ h)) | (go_at_call_of 57 (Value.int .i64 (j : Int)); refine Calls.quiet_of_same (hcj.out _ h))))
      go_wp2_with (first | (go_at_call_of 57 (Value.int .i64 (i : Int)); refine (hci.out (w.drewN nq) h).mono ?_; rintro e w2 ⟨rfl, rfl⟩) | (go_at_call_of 57 (Value.int .i64 (j : Int)); refine (hcj.out (w.drewN nq) h).mono ?_; rintro e w2 ⟨rfl, rfl⟩))
      go_ret
      exact ⟨by simp, below_drewN w nq⟩
    · rw [htj] at tj
      go_enter Try.func64, Try.ntmps64
      go_wp2_with fail
      go_quiet ((first | (go_at_call_of 57 (Value.int .i64 (i : Int)); refine Calls.quiet_of_same (hci.out _ h)) | (go_at_call_of 57 (Value.int .i64 (j : Int)); refine Calls.quiet_of_same (hcj.out _ h))))
      go_wp2_with (first | (go_at_call_of 57 (Value.int .i64 (i : Int)); refine (hci.out (w.drewN nq) h).mono ?_; rintro e w2 ⟨rfl, rfl⟩) | (go_at_call_of 57 (Value.int .i64 (j : Int)); refine (hcj.out (w.drewN nq) h).mono ?_; rintro e w2 ⟨rfl, rfl⟩))
      go_ret
      exact ⟨by simp, below_drewN w nq⟩
end Go.Proofs.Ytgcimcpcnoojnaa


