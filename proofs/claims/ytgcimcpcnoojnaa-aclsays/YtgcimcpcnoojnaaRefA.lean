/-
  The document's answer: has, Has, Packet, Lets.
-/
import Derived.Test.YtgcimcpcnoojnaaLets
import Derived.Deep.RegionHeld3
namespace Go.Proofs.Ytgcimcpcnoojnaa
open Go.RowKit

theorem rin_any (n : Int) (w : World) : Calls Try.prog 10 #[.int .i64 n, .int .i64 0, .int .i64 15] w fun e w' => e = .returned (.bool (decide (0 ≤ n) && decide (n ≤ 15))) ∧ w' = w := by
  by_cases h0 : 0 ≤ n
  · have t : decide (0 ≤ n) = true := by simp [h0]
    go_enter Try.func10, Try.ntmps10
    go_wp2_with fail
    go_ret
    exact ⟨by simp [h0], rfl⟩
  · have t : decide (0 ≤ n) = false := by simp; omega
    go_enter Try.func10, Try.ntmps10
    go_wp2_with fail
    go_ret
    exact ⟨by simp, rfl⟩

set_option maxHeartbeats 400000 in
theorem rhas_nat (b : Nat) (n : Nat) (w : World) (hn : n < 16) :
    Calls Try.prog 72 #[.int .i64 (b : Int), .int .i64 (n : Int)] w fun e w' => e = .returned (.bool (b.testBit n)) ∧ w' = w := by
  have t : (decide ((0 : Int) ≤ (n : Int)) && decide ((n : Int) ≤ 15)) = true := by simp; omega
  have he : Hid ((((b : Int) / 2 ^ n).tmod 2 == 1) = b.testBit n) := by
    show _ = _
    rw [Nat.testBit, Nat.one_and_eq_mod_two, show ((b : Int) / 2 ^ n) = ((b >>> n : Nat) : Int) by rw [Nat.shiftRight_eq_div_pow]; simp]
    have e : (((b >>> n : Nat) : Int).tmod 2) = (((b >>> n) % 2 : Nat) : Int) := rfl
    rw [e]
    have : (b >>> n) % 2 = 0 ∨ (b >>> n) % 2 = 1 := by omega
    rcases this with h | h <;> rw [h] <;> rfl
  go_enter Try.func72, Try.ntmps72
  go_wp2_with (go_at_call 10; refine (rin_any _ _).mono ?_; rintro e w' ⟨rfl, rfl⟩; rw [t])
  go_ret
  refine ⟨?_, rfl⟩
  rw [← he.out]
  simp
set_option maxHeartbeats 400000 in
theorem rhas_int (b : Nat) (n : Int) (w : World) (h1 : b < 65536) :
    Calls Try.prog 72 #[.int .i64 (b : Int), .int .i64 n] w fun e w' => e = .returned (.bool (hasB b n)) ∧ w' = w := by
  by_cases hn : 0 ≤ n ∧ n ≤ 15
  · obtain ⟨k, rfl⟩ : ∃ k : Nat, n = k := ⟨n.toNat, by omega⟩
    have e : hasB b (k : Int) = b.testBit k := by simp [hasB]
    rw [e]
    exact rhas_nat b k w (by omega)
  · have t : (decide ((0 : Int) ≤ n) && decide (n ≤ 15)) = false := by
      by_cases h : 0 ≤ n
      · simp; omega
      · simp; omega
    have e : hasB b n = false := by
      unfold hasB
      by_cases h : 0 ≤ n
      · rw [Nat.testBit_lt_two_pow (Nat.lt_of_lt_of_le h1 (Nat.pow_le_pow_right (n := 2) (by omega) (show 16 ≤ n.toNat by omega)))]
        simp
      · simp; omega
    rw [e]
    clear hn e
    go_enter Try.func72, Try.ntmps72
    go_wp2_with (go_at_call 10; refine (rin_any _ _).mono ?_; rintro e w' ⟨rfl, rfl⟩; rw [t])
    go_ret
    exact ⟨rfl, rfl⟩

set_option maxHeartbeats 400000 in
theorem rpacket_any (c : Nat) (w : World) (hc : c < 16384) :
    Calls Try.prog 71 #[.int .i64 (c : Int)] w fun e w' => e = .returned (pk ((c / 1024 : Nat) : Int) ((c / 64 % 16 : Nat) : Int) ((c / 8 % 8 : Nat) : Int) ((c % 8 : Nat) : Int)) ∧ Below w.heap.size w w' := by
  go_enter Try.func71, Try.ntmps71
  go_wp2_with fail
  exact bodyPost_ret (v := pk ((c / 1024 : Nat) : Int) ((c / 64 % 16 : Nat) : Int) ((c / 8 % 8 : Nat) : Int) ((c % 8 : Nat) : Int)) (by simp [results, Try.results71, go_sem]) rfl ⟨rfl, by go_grown⟩

set_option maxHeartbeats 1000000 in
theorem rHas_case (a b c d : Nat) (p q r s : Int) (w : World) (x0 x1 x2 x3 : Bool) (ha : a < 65536) (hb : b < 65536) (hc : c < 256) (hd : d < 256)
    (k0 : Hid (∀ w, Calls Try.prog 72 #[.int .i64 (a : Int), .int .i64 p] w fun e w' => e = .returned (.bool x0) ∧ w' = w))
    (k1 : Hid (∀ w, Calls Try.prog 72 #[.int .i64 (b : Int), .int .i64 q] w fun e w' => e = .returned (.bool x1) ∧ w' = w))
    (k2 : Hid (∀ w, Calls Try.prog 72 #[.int .i64 (c : Int), .int .i64 r] w fun e w' => e = .returned (.bool x2) ∧ w' = w))
    (k3 : Hid (∀ w, Calls Try.prog 72 #[.int .i64 (d : Int), .int .i64 s] w fun e w' => e = .returned (.bool x3) ∧ w' = w)) :
    Calls Try.prog 23 #[mt a b c d, pk p q r s] w fun e w' => e = .returned (.bool (x0 && x1 && x2 && x3)) ∧ Below w.heap.size w w' := by
  cases x0
  · go_enter Try.func23, Try.ntmps23
    go_wp2_with fail
    refine (k0.out _).mono ?_
    rintro e w1 ⟨rfl, rfl⟩
    go_wp2_with fail
    go_ret
    exact ⟨by simp, by go_grown⟩
  cases x1
  · go_enter Try.func23, Try.ntmps23
    go_wp2_with fail
    refine (k0.out _).mono ?_
    rintro e w1 ⟨rfl, rfl⟩
    go_wp2_with fail
    refine (k1.out _).mono ?_
    rintro e w1 ⟨rfl, rfl⟩
    go_wp2_with fail
    go_ret
    exact ⟨by simp, by go_grown⟩
  cases x2
  · go_enter Try.func23, Try.ntmps23
    go_wp2_with fail
    refine (k0.out _).mono ?_
    rintro e w1 ⟨rfl, rfl⟩
    go_wp2_with fail
    refine (k1.out _).mono ?_
    rintro e w1 ⟨rfl, rfl⟩
    go_wp2_with fail
    refine (k2.out _).mono ?_
    rintro e w1 ⟨rfl, rfl⟩
    go_wp2_with fail
    go_ret
    exact ⟨by simp, by go_grown⟩
  · go_enter Try.func23, Try.ntmps23
    go_wp2_with fail
    refine (k0.out _).mono ?_
    rintro e w1 ⟨rfl, rfl⟩
    go_wp2_with fail
    refine (k1.out _).mono ?_
    rintro e w1 ⟨rfl, rfl⟩
    go_wp2_with fail
    refine (k2.out _).mono ?_
    rintro e w1 ⟨rfl, rfl⟩
    go_wp2_with fail
    refine (k3.out _).mono ?_
    rintro e w1 ⟨rfl, rfl⟩
    go_wp2_with fail
    go_ret
    exact ⟨by simp, by go_grown⟩
theorem rHas_in (a b c d : Nat) (p q r s : Int) (w : World) (ha : a < 65536) (hb : b < 65536) (hc : c < 256) (hd : d < 256) :
    Calls Try.prog 23 #[mt a b c d, pk p q r s] w fun e w' => e = .returned (.bool (inB a b c d p q r s)) ∧ Below w.heap.size w w' :=
  rHas_case a b c d p q r s w _ _ _ _ ha hb hc hd (fun w => rhas_int a p w ha) (fun w => rhas_int b q w hb) (fun w => rhas_int c r w (by omega)) (fun w => rhas_int d s w (by omega))


set_option maxHeartbeats 4000000 in
set_option maxRecDepth 100000 in
theorem rlets_row (b o cap : Nat) (xs : List Rl) (p q s t : Int) (w : World) (hb : b < w.heap.size) (hn : xs.length ≤ cap) (hcap : cap ≤ maxLen) (hr : RAt w b o xs) :
    Calls Try.prog 26 #[.slice (some ⟨b, o, none⟩) xs.length cap, pk p q s t] w fun e w' => e = .returned (.bool (letsB xs p q s t)) ∧ Below w.heap.size w w' := by
  unfold maxLen at hcap
  have D0 := Below.alloc' (Below.refl w.heap.size w) (.cells #[.int .i64 p, .int .i64 q, .int .i64 s, .int .i64 t] 53)
  have F0 := four_new w (.int .i64 p) (.int .i64 q) (.int .i64 s) (.int .i64 t) 53
  go_enter Try.func26, Try.ntmps26
  go_wp2_with fail
  go_loopw [5] (fun i wr => ∃ k : Nat, i = .int .i64 (k : Int) ∧ k ≤ xs.length ∧ Below w.heap.size w wr ∧ Four wr w.heap.size (.int .i64 p) (.int .i64 q) (.int .i64 s) (.int .i64 t) ∧ letsB xs p q s t = letsB (xs.drop k) p q s t) (fun i _ => xs.length - (intOf i).toNat)
  case atStart => exact ⟨0, rfl, by omega, D0, F0, rfl⟩
  case round =>
    obtain ⟨k, rfl, hk, D1, F1, hl⟩ := hrel
    have Hl : Hid (letsB xs p q s t = letsB (xs.drop k) p q s t) := hl
    clear hl
    by_cases hlt : k < xs.length
    · obtain ⟨r, hxk⟩ : ∃ r, xs[k]? = some r := ⟨_, List.getElem?_eq_getElem hlt⟩
      have RA := hr.below D1 hb
      obtain ⟨c0, c1, c2, c3, c4⟩ := RA.at hxk
      have Hd : Hid (letsB (xs.drop k) p q s t = if inR r p q s t then r.ok else letsB (xs.drop (k + 1)) p q s t) := letsB_drop hxk p q s t
      have IN : Hid (∀ w', Below wr.heap.size wr w' → Calls Try.prog 23 #[mt r.a r.b r.c r.d, pk p q s t] w' fun e w'' => e = .returned (.bool (inR r p q s t)) ∧ Hid (Below w.heap.size w w'') ∧ Hid (Four w'' w.heap.size (.int .i64 p) (.int .i64 q) (.int .i64 s) (.int .i64 t)) ∧ w''.cell? ⟨b, o + k * 5, none⟩ = some (.bool r.ok) ∧ w''.cell? ⟨b, o + k * 5 + 1, none⟩ = some (.int .u16 (r.a : Int)) ∧ w''.cell? ⟨b, o + k * 5 + 2, none⟩ = some (.int .u16 (r.b : Int)) ∧ w''.cell? ⟨b, o + k * 5 + 3, none⟩ = some (.int .u8 (r.c : Int)) ∧ w''.cell? ⟨b, o + k * 5 + 4, none⟩ = some (.int .u8 (r.d : Int)) ∧ w''.cell? ⟨w.heap.size, 0, none⟩ = some (.int .i64 p) ∧ w''.cell? ⟨w.heap.size, 1, none⟩ = some (.int .i64 q) ∧ w''.cell? ⟨w.heap.size, 2, none⟩ = some (.int .i64 s) ∧ w''.cell? ⟨w.heap.size, 3, none⟩ = some (.int .i64 t)) := fun w' hw' =>
        (rHas_in r.a r.b r.c r.d p q s t w' r.ha r.hb r.hc r.hd).mono fun e w'' ⟨h1, h2⟩ => by
          have hB := hw'.trans (h2.mono hw'.size)
          have F2 := keepFour hB F1
          have hb' : b < wr.heap.size := Nat.lt_of_lt_of_le hb D1.size
          obtain ⟨y0, y1, y2, y3, y4⟩ := (RA.below hB hb').at hxk
          exact ⟨h1, chain hB D1, F2, y0, y1, y2, y3, y4, F2.2.1, F2.2.2.1, F2.2.2.2.1, F2.2.2.2.2⟩
      obtain ⟨l0, g0, g1, g2, g3⟩ := id F1
      have lw := D1.size
      have R0 : Below wr.heap.size wr wr.drew := (Below.refl _ _).drew
      have k1 : (0 : Int) ≤ (k : Int) := by omega
      have k2 : (k : Int) < (xs.length : Int) := by omega
      clear hr hxk RA
      generalize inR r p q s t = v at *
      generalize r.ok = ok at *
      generalize r.a = ra at *
      generalize r.b = rb at *
      generalize r.c = rc at *
      generalize r.d = rd at *
      go_wp2_with fail
      go_region_held3 (fun w' => w'.cell? ⟨b, o + k * 5, none⟩ = some (.bool ok) ∧ w'.cell? ⟨b, o + k * 5 + 1, none⟩ = some (.int .u16 (ra : Int)) ∧ w'.cell? ⟨b, o + k * 5 + 2, none⟩ = some (.int .u16 (rb : Int)) ∧ w'.cell? ⟨b, o + k * 5 + 3, none⟩ = some (.int .u8 (rc : Int)) ∧ w'.cell? ⟨b, o + k * 5 + 4, none⟩ = some (.int .u8 (rd : Int)) ∧ w'.cell? ⟨w.heap.size, 0, none⟩ = some (.int .i64 p) ∧ w'.cell? ⟨w.heap.size, 1, none⟩ = some (.int .i64 q) ∧ w'.cell? ⟨w.heap.size, 2, none⟩ = some (.int .i64 s) ∧ w'.cell? ⟨w.heap.size, 3, none⟩ = some (.int .i64 t)) (exact ⟨by assumption, by assumption, by assumption, by assumption, by assumption, by assumption, by assumption, by assumption, by assumption⟩)
        (first | (go_at_call 23; refine (IN.out _ (by assumption)).mono ?_; rintro e wn ⟨rfl, D3, F3, z0, z1, z2, z3, z4, z5, z6, z7, z8⟩))
      cases v
      · go_wp2_with fail
        go_roundw
        case rel => exact ⟨k + 1, by go_num, by omega, D3.out, F3.out, by rw [Hl.out, Hd.out]; simp⟩
        case measure => simp [intOf]; omega
      · go_wp2_with fail
        go_ret
        exact ⟨by rw [Hl.out, Hd.out]; simp, D3.out⟩
    · go_wp2_with fail
      go_ret
      exact ⟨by rw [Hl.out, List.drop_eq_nil_of_le (by omega)]; rfl, D1⟩

set_option maxHeartbeats 1000000 in
theorem rlets_none (A : Option Addr) (cap : Nat) (p q s t : Int) (w : World) :
    Calls Try.prog 26 #[.slice A 0 cap, pk p q s t] w fun e w' => e = .returned (.bool false) ∧ Below w.heap.size w w' := by
  have D0 := Below.alloc' (Below.refl w.heap.size w) (.cells #[.int .i64 p, .int .i64 q, .int .i64 s, .int .i64 t] 53)
  go_enter Try.func26, Try.ntmps26
  go_wp2_with fail
  go_loopw [5] (fun i wr => i = .int .i64 0 ∧ Below w.heap.size w wr) (fun i _ => 0)
  case atStart => exact ⟨rfl, D0⟩
  case round =>
    obtain ⟨rfl, D1⟩ := hrel
    go_wp2_with fail
    go_ret
    exact ⟨rfl, D1⟩
theorem rlets_any {v : Value} {xs : List Rl} (p q s t : Int) (w : World) (h : Rules w.heap.size w v xs) :
    Calls Try.prog 26 #[v, pk p q s t] w fun e w' => e = .returned (.bool (letsB xs p q s t)) ∧ Below w.heap.size w w' := by
  obtain ⟨A, cap, rfl, _, h1, h2, h3⟩ := h
  by_cases hx : xs = []
  · subst hx
    exact rlets_none A cap p q s t w
  · obtain ⟨b, o, rfl, hb, hr⟩ := h3 hx
    exact rlets_row b o cap xs p q s t w hb h1 h2 hr
end Go.Proofs.Ytgcimcpcnoojnaa


