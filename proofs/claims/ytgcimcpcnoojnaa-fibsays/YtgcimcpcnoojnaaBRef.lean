/-
  The document's answer: In, Has, Packet.
-/
import Derived.Test.YtgcimcpcnoojnaaHas
namespace Go.Proofs.Ytgcimcpcnoojnaa
open Go.RowKit Go.Maps

theorem rin_any (n : Int) (w : World) : Calls Try.prog 10 #[.int .i64 n, .int .i64 0, .int .i64 15] w fun e w' => e = .returned (.bool (decide (0 ≤ n) && decide (n ≤ 15))) ∧ w' = w := by
  by_cases h0 : 0 ≤ n
  · have t : decide (0 ≤ n) = true := by simp [h0]
    go_enter Try.func10, Try.ntmps10
    go_wp2_with fail
    go_ret
    exact ⟨by simp [h0], rfl⟩
  · have t : decide (0 ≤ n) = false := by simp; omega
    go_enter Try.func10, Try.ntmps10
    go_wp2_with fail
    go_ret
    exact ⟨by simp, rfl⟩

set_option maxHeartbeats 400000 in
theorem rhas_any (b : Nat) (n : Nat) (w : World) (_h1 : b < 65536) (hn : n < 16) :
    Calls Try.prog 72 #[.int .i64 (b : Int), .int .i64 (n : Int)] w fun e w' => e = .returned (.bool (b.testBit n)) ∧ w' = w := by
  have t : (decide ((0 : Int) ≤ (n : Int)) && decide ((n : Int) ≤ 15)) = true := by simp; omega
  have he : Hid ((((b : Int) / 2 ^ n).tmod 2 == 1) = b.testBit n) := by
    show _ = _
    rw [Nat.testBit, Nat.one_and_eq_mod_two, show ((b : Int) / 2 ^ n) = ((b >>> n : Nat) : Int) by rw [Nat.shiftRight_eq_div_pow]; simp]
    have e : (((b >>> n : Nat) : Int).tmod 2) = (((b >>> n) % 2 : Nat) : Int) := rfl
    rw [e]
    have : (b >>> n) % 2 = 0 ∨ (b >>> n) % 2 = 1 := by omega
    rcases this with h | h <;> rw [h] <;> rfl
  go_enter Try.func72, Try.ntmps72
  go_wp2_with (go_at_call 10; refine (rin_any _ _).mono ?_; rintro e w' ⟨rfl, rfl⟩; rw [t])
  go_ret
  refine ⟨?_, rfl⟩
  rw [← he.out]
  simp

set_option maxHeartbeats 400000 in
theorem rpacket_any (c : Nat) (w : World) (hc : c < 16384) :
    Calls Try.prog 71 #[.int .i64 (c : Int)] w fun e w' => e = .returned (pk ((c / 1024 : Nat) : Int) ((c / 64 % 16 : Nat) : Int) ((c / 8 % 8 : Nat) : Int) ((c % 8 : Nat) : Int)) ∧ Below w.heap.size w w' := by
  go_enter Try.func71, Try.ntmps71
  go_wp2_with fail
  exact bodyPost_ret (v := pk ((c / 1024 : Nat) : Int) ((c / 64 % 16 : Nat) : Int) ((c / 8 % 8 : Nat) : Int) ((c % 8 : Nat) : Int)) (by simp [results, Try.results71, go_sem]) rfl ⟨rfl, by go_grown⟩

set_option maxHeartbeats 1000000 in
theorem rHas_any (a b c d p q r s : Nat) (w : World) (ha : a < 65536) (hb : b < 65536) (hc : c < 256) (hd : d < 256) (hp : p < 16) (hq : q < 16) (hr : r < 16) (hs : s < 16) :
    Calls Try.prog 23 #[mt a b c d, pk (p : Int) (q : Int) (r : Int) (s : Int)] w fun e w' => e = .returned (.bool (a.testBit p && b.testBit q && c.testBit r && d.testBit s)) ∧ Below w.heap.size w w' := by
  have k0 : Hid (∀ w, Calls Try.prog 72 #[.int .i64 (a : Int), .int .i64 (p : Int)] w fun e w' => e = .returned (.bool (a.testBit p)) ∧ w' = w) := fun w => rhas_any a p w ha hp
  have k1 : Hid (∀ w, Calls Try.prog 72 #[.int .i64 (b : Int), .int .i64 (q : Int)] w fun e w' => e = .returned (.bool (b.testBit q)) ∧ w' = w) := fun w => rhas_any b q w hb hq
  have k2 : Hid (∀ w, Calls Try.prog 72 #[.int .i64 (c : Int), .int .i64 (r : Int)] w fun e w' => e = .returned (.bool (c.testBit r)) ∧ w' = w) := fun w => rhas_any c r w (by omega) hr
  have k3 : Hid (∀ w, Calls Try.prog 72 #[.int .i64 (d : Int), .int .i64 (s : Int)] w fun e w' => e = .returned (.bool (d.testBit s)) ∧ w' = w) := fun w => rhas_any d s w (by omega) hs
  generalize a.testBit p = x0 at *
  generalize b.testBit q = x1 at *
  generalize c.testBit r = x2 at *
  generalize d.testBit s = x3 at *
  clear hp hq hr hs
  cases x0
  · go_enter Try.func23, Try.ntmps23
    go_wp2_with fail
    refine (k0.out _).mono ?_
    rintro e w1 ⟨rfl, rfl⟩
    go_wp2_with fail
    go_ret
    exact ⟨by simp, by go_grown⟩
  cases x1
  · go_enter Try.func23, Try.ntmps23
    go_wp2_with fail
    refine (k0.out _).mono ?_
    rintro e w1 ⟨rfl, rfl⟩
    go_wp2_with fail
    refine (k1.out _).mono ?_
    rintro e w1 ⟨rfl, rfl⟩
    go_wp2_with fail
    go_ret
    exact ⟨by simp, by go_grown⟩
  cases x2
  · go_enter Try.func23, Try.ntmps23
    go_wp2_with fail
    refine (k0.out _).mono ?_
    rintro e w1 ⟨rfl, rfl⟩
    go_wp2_with fail
    refine (k1.out _).mono ?_
    rintro e w1 ⟨rfl, rfl⟩
    go_wp2_with fail
    refine (k2.out _).mono ?_
    rintro e w1 ⟨rfl, rfl⟩
    go_wp2_with fail
    go_ret
    exact ⟨by simp, by go_grown⟩
  · go_enter Try.func23, Try.ntmps23
    go_wp2_with fail
    refine (k0.out _).mono ?_
    rintro e w1 ⟨rfl, rfl⟩
    go_wp2_with fail
    refine (k1.out _).mono ?_
    rintro e w1 ⟨rfl, rfl⟩
    go_wp2_with fail
    refine (k2.out _).mono ?_
    rintro e w1 ⟨rfl, rfl⟩
    go_wp2_with fail
    refine (k3.out _).mono ?_
    rintro e w1 ⟨rfl, rfl⟩
    go_wp2_with fail
    go_ret
    exact ⟨by simp, by go_grown⟩
end Go.Proofs.Ytgcimcpcnoojnaa


