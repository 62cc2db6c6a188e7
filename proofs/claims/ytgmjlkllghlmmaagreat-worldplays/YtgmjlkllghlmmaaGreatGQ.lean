/-
  The document's answer: has, Has, Packet, Lets.
-/
import Derived.Test.YtgmjlkllghlmmaaGreatGR
import Derived.Deep.RegionHeld3
import Derived.Test.YtgmjlkllghlmmaaGreatFRef
import Derived.Test.YtgmjlkllghlmmaaGreatNp
namespace Go.Proofs.YtgmjlkllghlmmaaGreat
open Go.RowKit

theorem rin_any (n : Int) (w : World) : Calls Tryz.prog 23 #[.int .i64 n, .int .i64 0, .int .i64 15] w fun e w' => e = .returned (.bool (decide (0 ≤ n) && decide (n ≤ 15))) ∧ w' = w := by
  by_cases h0 : 0 ≤ n
  · have t : decide (0 ≤ n) = true := by simp [h0]
    go_enter Tryz.func23, Tryz.ntmps23
    go_wp2_with fail
    go_ret
    exact ⟨by simp [h0], rfl⟩
  · have t : decide (0 ≤ n) = false := by simp; omega
    go_enter Tryz.func23, Tryz.ntmps23
    go_wp2_with fail
    go_ret
    exact ⟨by simp, rfl⟩

set_option maxHeartbeats 400000 in
theorem rhas_nat (b : Nat) (n : Nat) (w : World) (hn : n < 16) :
    Calls Tryz.prog 39 #[.int .i64 (b : Int), .int .i64 (n : Int)] w fun e w' => e = .returned (.bool (b.testBit n)) ∧ w' = w := by
  have t : (decide ((0 : Int) ≤ (n : Int)) && decide ((n : Int) ≤ 15)) = true := by simp; omega
  have he : Hid ((((b : Int) / 2 ^ n).tmod 2 == 1) = b.testBit n) := by
    show _ = _
    rw [Nat.testBit, Nat.one_and_eq_mod_two, show ((b : Int) / 2 ^ n) = ((b >>> n : Nat) : Int) by rw [Nat.shiftRight_eq_div_pow]; simp]
    have e : (((b >>> n : Nat) : Int).tmod 2) = (((b >>> n) % 2 : Nat) : Int) := rfl
    rw [e]
    have : (b >>> n) % 2 = 0 ∨ (b >>> n) % 2 = 1 := by omega
    rcases this with h | h <;> rw [h] <;> rfl
  go_enter Tryz.func39, Tryz.ntmps39
  go_wp2_with (go_at_call 23; refine (rin_any _ _).mono ?_; rintro e w' ⟨rfl, rfl⟩; rw [t])
  go_ret
  refine ⟨?_, rfl⟩
  rw [← he.out]
  simp
set_option maxHeartbeats 400000 in
theorem rhas_int (b : Nat) (n : Int) (w : World) (h1 : b < 65536) :
    Calls Tryz.prog 39 #[.int .i64 (b : Int), .int .i64 n] w fun e w' => e = .returned (.bool (hasB b n)) ∧ w' = w := by
  by_cases hn : 0 ≤ n ∧ n ≤ 15
  · obtain ⟨k, rfl⟩ : ∃ k : Nat, n = k := ⟨n.toNat, by omega⟩
    have e : hasB b (k : Int) = b.testBit k := by simp [hasB]
    rw [e]
    exact rhas_nat b k w (by omega)
  · have t : (decide ((0 : Int) ≤ n) && decide (n ≤ 15)) = false := by
      by_cases h : 0 ≤ n
      · simp; omega
      · simp; omega
    have e : hasB b n = false := by
      unfold hasB
      by_cases h : 0 ≤ n
      · rw [Nat.testBit_lt_two_pow (Nat.lt_of_lt_of_le h1 (Nat.pow_le_pow_right (n := 2) (by omega) (show 16 ≤ n.toNat by omega)))]
        simp
      · simp; omega
    rw [e]
    clear hn e
    go_enter Tryz.func39, Tryz.ntmps39
    go_wp2_with (go_at_call 23; refine (rin_any _ _).mono ?_; rintro e w' ⟨rfl, rfl⟩; rw [t])
    go_ret
    exact ⟨rfl, rfl⟩

set_option maxHeartbeats 1000000 in
theorem rHas_case (a b c d : Nat) (p q r s : Int) (w : World) (x0 x1 x2 x3 : Bool) (ha : a < 65536) (hb : b < 65536) (hc : c < 256) (hd : d < 256)
    (k0 : Hid (∀ w, Calls Tryz.prog 39 #[.int .i64 (a : Int), .int .i64 p] w fun e w' => e = .returned (.bool x0) ∧ w' = w))
    (k1 : Hid (∀ w, Calls Tryz.prog 39 #[.int .i64 (b : Int), .int .i64 q] w fun e w' => e = .returned (.bool x1) ∧ w' = w))
    (k2 : Hid (∀ w, Calls Tryz.prog 39 #[.int .i64 (c : Int), .int .i64 r] w fun e w' => e = .returned (.bool x2) ∧ w' = w))
    (k3 : Hid (∀ w, Calls Tryz.prog 39 #[.int .i64 (d : Int), .int .i64 s] w fun e w' => e = .returned (.bool x3) ∧ w' = w)) :
    Calls Tryz.prog 81 #[mt a b c d, pk p q r s] w fun e w' => e = .returned (.bool (x0 && x1 && x2 && x3)) ∧ Below w.heap.size w w' := by
  cases x0
  · go_enter Tryz.func81, Tryz.ntmps81
    go_wp2_with fail
    refine (k0.out _).mono ?_
    rintro e w1 ⟨rfl, rfl⟩
    go_wp2_with fail
    go_ret
    exact ⟨by simp, by go_grown⟩
  cases x1
  · go_enter Tryz.func81, Tryz.ntmps81
    go_wp2_with fail
    refine (k0.out _).mono ?_
    rintro e w1 ⟨rfl, rfl⟩
    go_wp2_with fail
    refine (k1.out _).mono ?_
    rintro e w1 ⟨rfl, rfl⟩
    go_wp2_with fail
    go_ret
    exact ⟨by simp, by go_grown⟩
  cases x2
  · go_enter Tryz.func81, Tryz.ntmps81
    go_wp2_with fail
    refine (k0.out _).mono ?_
    rintro e w1 ⟨rfl, rfl⟩
    go_wp2_with fail
    refine (k1.out _).mono ?_
    rintro e w1 ⟨rfl, rfl⟩
    go_wp2_with fail
    refine (k2.out _).mono ?_
    rintro e w1 ⟨rfl, rfl⟩
    go_wp2_with fail
    go_ret
    exact ⟨by simp, by go_grown⟩
  · go_enter Tryz.func81, Tryz.ntmps81
    go_wp2_with fail
    refine (k0.out _).mono ?_
    rintro e w1 ⟨rfl, rfl⟩
    go_wp2_with fail
    refine (k1.out _).mono ?_
    rintro e w1 ⟨rfl, rfl⟩
    go_wp2_with fail
    refine (k2.out _).mono ?_
    rintro e w1 ⟨rfl, rfl⟩
    go_wp2_with fail
    refine (k3.out _).mono ?_
    rintro e w1 ⟨rfl, rfl⟩
    go_wp2_with fail
    go_ret
    exact ⟨by simp, by go_grown⟩
theorem rHas_in (a b c d : Nat) (p q r s : Int) (w : World) (ha : a < 65536) (hb : b < 65536) (hc : c < 256) (hd : d < 256) :
    Calls Tryz.prog 81 #[mt a b c d, pk p q r s] w fun e w' => e = .returned (.bool (inB a b c d p q r s)) ∧ Below w.heap.size w w' :=
  rHas_case a b c d p q r s w _ _ _ _ ha hb hc hd (fun w => rhas_int a p w ha) (fun w => rhas_int b q w hb) (fun w => rhas_int c r w (by omega)) (fun w => rhas_int d s w (by omega))


set_option maxHeartbeats 4000000 in
set_option maxRecDepth 100000 in
theorem rlets_row (b o cap : Nat) (xs : List Rl) (p q s t : Int) (w : World) (hb : b < w.heap.size) (hn : xs.length ≤ cap) (hcap : cap ≤ maxLen) (hr : RAt w b o xs) :
    Calls Tryz.prog 33 #[.slice (some ⟨b, o, none⟩) xs.length cap, pk p q s t] w fun e w' => e = .returned (.bool (letsB xs p q s t)) ∧ Below w.heap.size w w' := by
  unfold maxLen at hcap
  have D0 := Below.alloc' (Below.refl w.heap.size w) (.cells #[.int .i64 p, .int .i64 q, .int .i64 s, .int .i64 t] 39)
  have F0 := four_new w (.int .i64 p) (.int .i64 q) (.int .i64 s) (.int .i64 t) 39
  go_enter Tryz.func33, Tryz.ntmps33
  go_wp2_with fail
  go_loopw [5] (fun i wr => ∃ k : Nat, i = .int .i64 (k : Int) ∧ k ≤ xs.length ∧ Below w.heap.size w wr ∧ Four wr w.heap.size (.int .i64 p) (.int .i64 q) (.int .i64 s) (.int .i64 t) ∧ letsB xs p q s t = letsB (xs.drop k) p q s t) (fun i _ => xs.length - (intOf i).toNat)
  case atStart => exact ⟨0, rfl, by omega, D0, F0, rfl⟩
  case round =>
    obtain ⟨k, rfl, hk, D1, F1, hl⟩ := hrel
    have Hl : Hid (letsB xs p q s t = letsB (xs.drop k) p q s t) := hl
    clear hl
    by_cases hlt : k < xs.length
    · obtain ⟨r, hxk⟩ : ∃ r, xs[k]? = some r := ⟨_, List.getElem?_eq_getElem hlt⟩
      have RA := hr.below D1 hb
      obtain ⟨c0, c1, c2, c3, c4⟩ := RA.at hxk
      have Hd : Hid (letsB (xs.drop k) p q s t = if inR r p q s t then r.ok else letsB (xs.drop (k + 1)) p q s t) := letsB_drop hxk p q s t
      have IN : Hid (∀ w', Below wr.heap.size wr w' → Calls Tryz.prog 81 #[mt r.a r.b r.c r.d, pk p q s t] w' fun e w'' => e = .returned (.bool (inR r p q s t)) ∧ Hid (Below w.heap.size w w'') ∧ Hid (Four w'' w.heap.size (.int .i64 p) (.int .i64 q) (.int .i64 s) (.int .i64 t)) ∧ w''.cell? ⟨b, o + k * 5, none⟩ = some (.bool r.ok) ∧ w''.cell? ⟨b, o + k * 5 + 1, none⟩ = some (.int .u16 (r.a : Int)) ∧ w''.cell? ⟨b, o + k * 5 + 2, none⟩ = some (.int .u16 (r.b : Int)) ∧ w''.cell? ⟨b, o + k * 5 + 3, none⟩ = some (.int .u8 (r.c : Int)) ∧ w''.cell? ⟨b, o + k * 5 + 4, none⟩ = some (.int .u8 (r.d : Int)) ∧ w''.cell? ⟨w.heap.size, 0, none⟩ = some (.int .i64 p) ∧ w''.cell? ⟨w.heap.size, 1, none⟩ = some (.int .i64 q) ∧ w''.cell? ⟨w.heap.size, 2, none⟩ = some (.int .i64 s) ∧ w''.cell? ⟨w.heap.size, 3, none⟩ = some (.int .i64 t)) := fun w' hw' =>
        (rHas_in r.a r.b r.c r.d p q s t w' r.ha r.hb r.hc r.hd).mono fun e w'' ⟨h1, h2⟩ => by
          have hB := hw'.trans (h2.mono hw'.size)
          have F2 := keepFour hB F1
          have hb' : b < wr.heap.size := Nat.lt_of_lt_of_le hb D1.size
          obtain ⟨y0, y1, y2, y3, y4⟩ := (RA.below hB hb').at hxk
          exact ⟨h1, chain hB D1, F2, y0, y1, y2, y3, y4, F2.2.1, F2.2.2.1, F2.2.2.2.1, F2.2.2.2.2⟩
      obtain ⟨l0, g0, g1, g2, g3⟩ := id F1
      have lw := D1.size
      have R0 : Below wr.heap.size wr wr.drew := (Below.refl _ _).drew
      have k1 : (0 : Int) ≤ (k : Int) := by omega
      have k2 : (k : Int) < (xs.length : Int) := by omega
      clear hr hxk RA
      generalize inR r p q s t = v at *
      generalize r.ok = ok at *
      generalize r.a = ra at *
      generalize r.b = rb at *
      generalize r.c = rc at *
      generalize r.d = rd at *
      go_wp2_with fail
      go_region_held3 (fun w' => w'.cell? ⟨b, o + k * 5, none⟩ = some (.bool ok) ∧ w'.cell? ⟨b, o + k * 5 + 1, none⟩ = some (.int .u16 (ra : Int)) ∧ w'.cell? ⟨b, o + k * 5 + 2, none⟩ = some (.int .u16 (rb : Int)) ∧ w'.cell? ⟨b, o + k * 5 + 3, none⟩ = some (.int .u8 (rc : Int)) ∧ w'.cell? ⟨b, o + k * 5 + 4, none⟩ = some (.int .u8 (rd : Int)) ∧ w'.cell? ⟨w.heap.size, 0, none⟩ = some (.int .i64 p) ∧ w'.cell? ⟨w.heap.size, 1, none⟩ = some (.int .i64 q) ∧ w'.cell? ⟨w.heap.size, 2, none⟩ = some (.int .i64 s) ∧ w'.cell? ⟨w.heap.size, 3, none⟩ = some (.int .i64 t)) (exact ⟨by assumption, by assumption, by assumption, by assumption, by assumption, by assumption, by assumption, by assumption, by assumption⟩)
        (first | (go_at_call 81; refine (IN.out _ (by assumption)).mono ?_; rintro e wn ⟨rfl, D3, F3, z0, z1, z2, z3, z4, z5, z6, z7, z8⟩))
      cases v
      · go_wp2_with fail
        go_roundw
        case rel => exact ⟨k + 1, by go_num, by omega, D3.out, F3.out, by rw [Hl.out, Hd.out]; simp⟩
        case measure => simp [intOf]; omega
      · go_wp2_with fail
        go_ret
        exact ⟨by rw [Hl.out, Hd.out]; simp, D3.out⟩
    · go_wp2_with fail
      go_ret
      exact ⟨by rw [Hl.out, List.drop_eq_nil_of_le (by omega)]; rfl, D1⟩

set_option maxHeartbeats 1000000 in
theorem rlets_none (A : Option Addr) (cap : Nat) (p q s t : Int) (w : World) :
    Calls Tryz.prog 33 #[.slice A 0 cap, pk p q s t] w fun e w' => e = .returned (.bool false) ∧ Below w.heap.size w w' := by
  have D0 := Below.alloc' (Below.refl w.heap.size w) (.cells #[.int .i64 p, .int .i64 q, .int .i64 s, .int .i64 t] 39)
  go_enter Tryz.func33, Tryz.ntmps33
  go_wp2_with fail
  go_loopw [5] (fun i wr => i = .int .i64 0 ∧ Below w.heap.size w wr) (fun i _ => 0)
  case atStart => exact ⟨rfl, D0⟩
  case round =>
    obtain ⟨rfl, D1⟩ := hrel
    go_wp2_with fail
    go_ret
    exact ⟨rfl, D1⟩
theorem rlets_any {v : Value} {xs : List Rl} (p q s t : Int) (w : World) (h : Rules w.heap.size w v xs) :
    Calls Tryz.prog 33 #[v, pk p q s t] w fun e w' => e = .returned (.bool (letsB xs p q s t)) ∧ Below w.heap.size w w' := by
  obtain ⟨A, cap, rfl, _, h1, h2, h3⟩ := h
  by_cases hx : xs = []
  · subst hx
    exact rlets_none A cap p q s t w
  · obtain ⟨b, o, rfl, hb, hr⟩ := h3 hx
    exact rlets_row b o cap xs p q s t w hb h1 h2 hr
end Go.Proofs.YtgmjlkllghlmmaaGreat


namespace Go.Proofs.YtgmjlkllghlmmaaGreat
open Go.RowKit

set_option maxHeartbeats 2000000 in
theorem rout_nil (A : Option Addr) (cap : Nat) (d : Int) (w : World) (h0 : 0 ≤ d) (h1 : d < 16) :
    Calls Tryz.prog 32 #[.slice A 0 cap, .int .i64 d] w fun e w' => e = .returned (.tuple #[.int .i64 0, .bool false]) ∧ Below w.heap.size w w' := by
  have IN : Hid (∀ w, Calls Tryz.prog 23 #[.int .i64 d, .int .i64 0, .int .i64 15] w fun e w' => e = .returned (.bool true) ∧ w' = w) := fun w => by
    have := finR d 0 15 w
    rw [show (decide (0 ≤ d) && decide (d ≤ 15)) = true by simp; omega] at this
    exact this
  clear h0 h1
  go_enter Tryz.func32, Tryz.ntmps32
  go_wp2_with fail
  go_loopw [6] (fun i wr => ∃ j : Int, i = .int .i64 j ∧ -1 ≤ j ∧ j ≤ 4 ∧ Below w.heap.size w wr) (fun i _ => (intOf i + 1).toNat)
  case atStart => exact ⟨4, rfl, by omega, by omega, Below.refl _ _⟩
  case round =>
    obtain ⟨j, rfl, hj1, hj2, D1⟩ := hrel
    by_cases hj : j = -1
    · subst hj
      go_wp2_with fail
      go_ret2
      exact ⟨rfl, D1⟩
    · obtain ⟨m, rfl⟩ : ∃ m : Nat, j = m := ⟨j.toNat, by omega⟩
      have tm : decide ((0 : Int) ≤ (m : Int)) = true := by simp
      clear hj hj1
      go_wp2_with fail
      refine (IN.out _).mono ?_
      rintro e w1 ⟨rfl, rfl⟩
      go_wp2_with fail
      go_loopw [7] (fun i wr => i = .int .i64 0 ∧ Below w.heap.size w wr) (fun i _ => 0)
      case atStart => exact ⟨rfl, D1⟩
      case round =>
        clear D1
        obtain ⟨rfl, D1⟩ := hrel
        go_wp2_with fail
        go_roundw
        case rel => exact ⟨(m : Int) - 1, by go_num, by omega, by omega, D1⟩
        case measure => simp [intOf]

set_option maxHeartbeats 1000000 in
theorem rout_wide (v : Value) (d : Int) (w : World) (h : d < 0 ∨ 16 ≤ d) :
    Calls Tryz.prog 32 #[v, .int .i64 d] w fun e w' => e = .returned (.tuple #[.int .i64 0, .bool false]) ∧ Below w.heap.size w w' := by
  have IN : Hid (∀ w, Calls Tryz.prog 23 #[.int .i64 d, .int .i64 0, .int .i64 15] w fun e w' => e = .returned (.bool false) ∧ w' = w) := fun w => by
    have := finR d 0 15 w
    rw [show (decide (0 ≤ d) && decide (d ≤ 15)) = false by
      rcases h with h | h
      · simp; omega
      · simp; omega] at this
    exact this
  clear h
  go_enter Tryz.func32, Tryz.ntmps32
  go_wp2_with fail
  go_loopw [6] (fun i wr => i = .int .i64 4 ∧ wr = w) (fun i _ => 0)
  case atStart => exact ⟨rfl, rfl⟩
  case round =>
    obtain ⟨rfl, rfl⟩ := hrel
    go_wp2_with fail
    refine (IN.out _).mono ?_
    rintro e w1 ⟨rfl, rfl⟩
    go_wp2_with fail
    go_ret2
    exact ⟨rfl, Below.refl _ _⟩

/-- The document's Out. -/
theorem rout_any {v : Value} {xs : List Rt} (d : Int) (w : World) (h : Routes w.heap.size w v xs) :
    Calls Tryz.prog 32 #[v, .int .i64 d] w fun e w' => e = .returned (.tuple #[.int .i64 (outN xs d), .bool (outB xs d)]) ∧ Below w.heap.size w w' := by
  by_cases hd : 0 ≤ d ∧ d < 16
  · obtain ⟨e1, e2⟩ := rout_out xs hd
    rw [← e1, ← e2]
    obtain ⟨A, cap, rfl, _, h1, h2, h3⟩ := h
    by_cases hx : xs = []
    · subst hx
      exact rout_nil A cap d w hd.1 hd.2
    · obtain ⟨b, o, rfl, hb, hr⟩ := h3 hx
      exact rout_row b o cap xs d w hb h1 h2 hr hd.1 hd.2
  · have e1 : outN xs d = 0 := by unfold outN; rw [if_neg hd]
    have e2 : outB xs d = false := by
      unfold outB
      by_cases h0 : 0 ≤ d
      · have : ¬ d < 16 := fun h1 => hd ⟨h0, h1⟩
        simp [this]
      · simp [h0]
    rw [e1, e2]
    exact rout_wide v d w (by omega)

set_option maxHeartbeats 8000000 in
set_option maxRecDepth 100000 in
theorem routes_row (b o cap : Nat) (xs : List Rt) (w : World) (hb : b < w.heap.size) (hr : Hid (TAt w b o xs)) (h8 : xs.length ≤ 8) :
    Calls Tryz.prog 64 #[.slice (some ⟨b, o, none⟩) xs.length cap] w fun e w' => e = .returned (.int .i64 (checkFrom xs 0)) ∧ Below w.heap.size w w' := by
  have t8 : decide ((8 : Int) < (xs.length : Int)) = false := by simp; omega
  go_enter Tryz.func64, Tryz.ntmps64
  go_wp2_with fail
  go_loopw [3] (fun i wr => ∃ k : Nat, i = .int .i64 (k : Int) ∧ k ≤ xs.length ∧ Below w.heap.size w wr ∧ Hid (checkFrom xs 0 = checkFrom xs k)) (fun i _ => xs.length - (intOf i).toNat)
  case atStart => exact ⟨0, rfl, by omega, Below.refl _ _, rfl⟩
  case round =>
    obtain ⟨k, rfl, hk, D1, hl⟩ := hrel
    by_cases hlt : k < xs.length
    · obtain ⟨r, hxk⟩ : ∃ r, xs[k]? = some r := ⟨_, List.getElem?_eq_getElem hlt⟩
      obtain ⟨c0, c1, c2⟩ := (hr.out.below D1 hb).at hxk
      have Hd : Hid (checkFrom xs k = if (if isR r then (if (xs.take k).any (fun a => sameA a r) then 5 else 0) else 1 : Int) = 0 then checkFrom xs (k + 1) else (if isR r then (if (xs.take k).any (fun a => sameA a r) then 5 else 0) else 1 : Int)) := checkFrom_at hxk
      have IS : Hid (∀ w, Calls Tryz.prog 79 #[rtw r.v r.b r.p] w fun e w' => e = .returned (.bool (isR r)) ∧ Below w.heap.size w w') := fun w => rright_any r w
      have HX : Hid (xs[k]? = some r) := hxk
      have k1 : (0 : Int) ≤ (k : Int) := by omega
      have k2 : (k : Int) < (xs.length : Int) := by omega
      clear hxk
      cases hx : isR r
      · rw [hx] at IS Hd
        have fin : Hid (checkFrom xs 0 = 1) := by show _ = _; rw [hl.out, Hd.out]; simp
        clear hl Hd HX hx
        generalize r.v = rv0 at *
        generalize r.b = rb0 at *
        generalize r.p = rp0 at *
        go_wp2_with fail
        refine (IS.out _).mono ?_
        rintro e w3 ⟨rfl, hb3⟩
        have D3 := chn hb3 D1
        clear hb3 D1 c0 c1 c2 IS
        go_wp2_with fail
        go_ret
        exact ⟨by rw [fin.out]; rfl, D3⟩
      · rw [hx] at IS Hd
        clear hx
        go_wp2_with fail
        refine (IS.out _).mono ?_
        rintro e w3 ⟨rfl, hb3⟩
        have D3 := chn hb3 D1
        clear hb3 D1 c0 c1 c2 IS
        go_wp2_with fail
        go_loopw [4] (fun i wr => ∃ j : Nat, i = .int .i64 (j : Int) ∧ j ≤ k ∧ Below w.heap.size w wr ∧ Hid ((xs.take j).any (fun a => sameA a r) = false)) (fun i _ => k - (intOf i).toNat)
        case atStart => exact ⟨0, rfl, by omega, D3, rfl⟩
        case round =>
          clear D3
          obtain ⟨j, rfl, hj, D1, hno⟩ := hrel
          by_cases hjk : j < k
          · obtain ⟨a, hxj⟩ : ∃ a, xs[j]? = some a := ⟨_, List.getElem?_eq_getElem (by omega)⟩
            obtain ⟨c0, c1, c2⟩ := (hr.out.below D1 hb).at HX.out
            obtain ⟨g0, g1, g2⟩ := (hr.out.below D1 hb).at hxj
            have j1 : (0 : Int) ≤ (j : Int) := by omega
            have j2 : (j : Int) < (xs.length : Int) := by omega
            have NX : Hid (((a.v == r.v) && (a.b == r.b)) = false → Hid ((xs.take (j + 1)).any (fun a => sameA a r) = false)) := fun h => by
              show _ = _
              rw [any_take hxj, hno.out]
              exact h
            have HT : Hid (((a.v == r.v) && (a.b == r.b)) = true → checkFrom xs 0 = 5) := fun h => by
              have : (xs.take k).any (fun a => sameA a r) = true := any_here (k := j) (by rw [List.getElem?_take]; simp [hjk]; rw [← hxj]) h
              rw [hl.out, Hd.out, this]
              simp
            clear hxj hno
            generalize a.v = av0 at *
            generalize a.b = ab0 at *
            generalize a.p = ap0 at *
            generalize r.v = rv0 at *
            generalize r.b = rb0 at *
            generalize r.p = rp0 at *
            cases hv : (av0 == rv0)
            · have NX' : Hid (Hid ((xs.take (j + 1)).any (fun a => sameA a r) = false)) := NX.out (by rw [hv]; rfl)
              clear NX HT
              go_wp2_with fail
              go_quiet (fail)
              go_wp2_with fail
              go_roundw
              case rel => exact ⟨j + 1, by go_num, by omega, belowN D1 _, NX'.out⟩
              case measure => simp [intOf]; omega
            · cases hv2 : (ab0 == rb0)
              · have NX' : Hid (Hid ((xs.take (j + 1)).any (fun a => sameA a r) = false)) := NX.out (by rw [hv, hv2]; rfl)
                clear NX HT
                go_wp2_with fail
                go_quiet (fail)
                go_wp2_with fail
                go_roundw
                case rel => exact ⟨j + 1, by go_num, by omega, belowN D1 _, NX'.out⟩
                case measure => simp [intOf]; omega
              · have fin : Hid (checkFrom xs 0 = 5) := HT.out (by rw [hv, hv2]; rfl)
                clear NX HT
                go_wp2_with fail
                go_quiet (fail)
                go_wp2_with fail
                go_ret
                exact ⟨by rw [fin.out]; rfl, belowN D1 _⟩
          · obtain rfl : j = k := by omega
            have HN : Hid (checkFrom xs 0 = checkFrom xs (j + 1)) := by
              show _ = _
              rw [hl.out, Hd.out, hno.out]
              simp
            go_wp2_with fail
            go_roundw
            case rel => exact ⟨j + 1, by go_num, by omega, D1, HN⟩
            case measure => simp [intOf]; omega
    · have fin : Hid (checkFrom xs 0 = 0) := by show _ = _; rw [hl.out, checkFrom_end (by omega)]
      go_wp2_with fail
      go_ret
      exact ⟨by rw [fin.out]; rfl, D1⟩
set_option maxHeartbeats 1000000 in
theorem routes_nil (A : Option Addr) (cap : Nat) (w : World) :
    Calls Tryz.prog 64 #[.slice A 0 cap] w fun e w' => e = .returned (.int .i64 0) ∧ Below w.heap.size w w' := by
  go_enter Tryz.func64, Tryz.ntmps64
  go_wp2_with fail
  go_loopw [3] (fun i wr => i = .int .i64 0 ∧ Below w.heap.size w wr) (fun i _ => 0)
  case atStart => exact ⟨rfl, Below.refl _ _⟩
  case round =>
    obtain ⟨rfl, D1⟩ := hrel
    go_wp2_with fail
    go_ret
    exact ⟨rfl, D1⟩
theorem routes_large (A : Option Addr) (n cap : Nat) (w : World) (h : 8 < n) :
    Calls Tryz.prog 64 #[.slice A n cap] w fun e w' => e = .returned (.int .i64 2) ∧ Below w.heap.size w w' := by
  have t8 : decide ((8 : Int) < (n : Int)) = true := by simp; omega
  go_enter Tryz.func64, Tryz.ntmps64
  go_wp2_with fail
  go_ret
  exact ⟨rfl, Below.refl _ _⟩
/-- The document's Check. -/
theorem routes_any {v : Value} {xs : List Rt} (w : World) (h : Routes w.heap.size w v xs) :
    Calls Tryz.prog 64 #[v] w fun e w' => e = .returned (.int .i64 (checkV xs)) ∧ Below w.heap.size w w' := by
  obtain ⟨A, cap, rfl, _, _, _, h3⟩ := h
  unfold checkV
  by_cases h8 : 8 < xs.length
  · rw [if_pos h8]
    exact routes_large A xs.length cap w h8
  · rw [if_neg h8]
    by_cases hx : xs = []
    · subst hx
      rw [checkFrom_end (by simp)]
      exact routes_nil A cap w
    · obtain ⟨b, o, rfl, hb, hr⟩ := h3 hx
      exact routes_row b o cap xs w hb hr (by omega)
end Go.Proofs.YtgmjlkllghlmmaaGreat

namespace Go.Proofs.YtgmjlkllghlmmaaGreat
open Go.RowKit

theorem inN (n lo hi : Int) (w : World) : Calls Tryz.prog 23 #[.int .i64 n, .int .i64 lo, .int .i64 hi] w fun e w' => e = .returned (.bool (decide (lo ≤ n) && decide (n ≤ hi))) ∧ w' = w := by
  by_cases h : lo ≤ n
  · go_enter Tryz.func23, Tryz.ntmps23
    go_wp2_with fail
    go_ret
    exact ⟨by simp [h], rfl⟩
  · have h' : decide (lo ≤ n) = false := by simp; omega
    go_enter Tryz.func23, Tryz.ntmps23
    go_wp2_with fail
    go_ret
    exact ⟨by simp, rfl⟩
set_option maxHeartbeats 1000000 in
theorem rports_any (k : Int) (w : World) : Calls Tryz.prog 25 #[.int .i64 k] w fun e w' => e = .returned (.int .i64 (portsV k)) ∧ Below w.heap.size w w' := by
  have IN : Hid (∀ w, Calls Tryz.prog 23 #[.int .i64 k, .int .i64 1, .int .i64 5] w fun e w' => e = .returned (.bool (decide (1 ≤ k) && decide (k ≤ 5))) ∧ w' = w) := fun w => inN k 1 5 w
  by_cases h : 1 ≤ k ∧ k ≤ 5
  · rw [show (decide (1 ≤ k) && decide (k ≤ 5)) = true by simp [h]] at IN
    have hk : k = 1 ∨ k = 2 ∨ k = 3 ∨ k = 4 ∨ k = 5 := by omega
    clear h
    rcases hk with rfl | rfl | rfl | rfl | rfl
    all_goals
      go_enter Tryz.func25, Tryz.ntmps25
      go_wp2_with fail
      refine (IN.out _).mono ?_
      rintro e w1 ⟨rfl, rfl⟩
      go_wp2_with fail
      go_ret
      exact ⟨rfl, Below.alN (Below.refl _ _) _⟩
  · rw [show (decide (1 ≤ k) && decide (k ≤ 5)) = false by
      rw [Bool.eq_false_iff]
      simp only [ne_eq, Bool.and_eq_true, decide_eq_true_eq]
      exact h] at IN
    have e : portsV k = 0 := by
      unfold portsV
      rw [if_neg (by omega), if_neg (by omega), if_neg (by omega)]
    rw [e]
    clear h e
    go_enter Tryz.func25, Tryz.ntmps25
    go_wp2_with fail
    refine (IN.out _).mono ?_
    rintro e w1 ⟨rfl, rfl⟩
    go_wp2_with fail
    go_ret
    exact ⟨rfl, Below.refl _ _⟩

set_option maxHeartbeats 4000000 in
set_option maxRecDepth 100000 in
theorem rpeer_any (vd : Value) (A : Option Addr) (n cap : Nat) (ls : List Lk) (d p : Int) (w : World) (hL : Hid (Links w.heap.size w (.slice A n cap) ls)) :
    Calls Tryz.prog 43 #[.agg #[vd, .slice A n cap], .agg #[.int .i64 d, .int .i64 p]] w fun e w' => e = .returned (.tuple #[placeV (peerF ls d p), .bool (peerF ls d p).isSome]) ∧ Below w.heap.size w w' := by
  obtain ⟨rfl, hc, hm⟩ := hL.out.len
  unfold maxLen at hm
  have D1 := Below.alN (Below.refl w.heap.size w) (.cells #[vd, .slice A ls.length cap] 25)
  have D2 := Below.alN D1 (.cells #[.int .i64 d, .int .i64 p] 37)
  have D3 := Below.alN D2 (.cells #[.int .i64 0, .int .i64 0] 37)
  have B1 := ((box2_new w vd (.slice A ls.length cap) 25).alloc (.cells #[.int .i64 d, .int .i64 p] 37)).alloc (.cells #[.int .i64 0, .int .i64 0] 37)
  have B2 := (box2_new (w.alloc (.cells #[vd, .slice A ls.length cap] 25)) (.int .i64 d) (.int .i64 p) 37).alloc (.cells #[.int .i64 0, .int .i64 0] 37)
  have B3 := box2_new ((w.alloc (.cells #[vd, .slice A ls.length cap] 25)).alloc (.cells #[.int .i64 d, .int .i64 p] 37)) (.int .i64 0) (.int .i64 0) 37
  simp only [World.size_alloc] at B2 B3
  go_enter Tryz.func43, Tryz.ntmps43
  go_wp2_with fail
  go_loopw [6] (fun i wr => ∃ k : Nat, i = .int .i64 (k : Int) ∧ k ≤ ls.length ∧ Below w.heap.size w wr ∧ Box2 wr w.heap.size vd (.slice A ls.length cap) ∧ Box2 wr (w.heap.size + 1) (.int .i64 d) (.int .i64 p) ∧ Box2 wr (w.heap.size + 1 + 1) (.int .i64 0) (.int .i64 0) ∧ Hid (peerF ls d p = peerF (ls.drop k) d p)) (fun i _ => ls.length - (intOf i).toNat)
  case atStart => exact ⟨0, rfl, by omega, D3, B1, B2, B3, rfl⟩
  case round =>
    clear B1 B2 B3 D1 D2 D3
    obtain ⟨k, rfl, hk, D1, B1, B2, B3, hl⟩ := hrel
    obtain ⟨n1, e0, e1, _⟩ := id B1
    by_cases hlt : k < ls.length
    · obtain ⟨l, hlk⟩ : ∃ l, ls[k]? = some l := ⟨_, List.getElem?_eq_getElem hlt⟩
      obtain ⟨b, o, rfl, hb, c0, c1, c2, c3⟩ := (hL.out.below D1).at hlk
      have Hd : Hid (peerF (ls.drop k) d p = (endOf l d p).or (peerF (ls.drop (k + 1)) d p)) := peerF_drop hlk d p
      have D2 := Below.alN D1 (.cells #[.int .i64 l.a, .int .i64 l.p, .int .i64 l.b, .int .i64 l.q] 83)
      have E1 := B1.alloc (.cells #[.int .i64 l.a, .int .i64 l.p, .int .i64 l.b, .int .i64 l.q] 83)
      have E2 := B2.alloc (.cells #[.int .i64 l.a, .int .i64 l.p, .int .i64 l.b, .int .i64 l.q] 83)
      have E3 := B3.alloc (.cells #[.int .i64 l.a, .int .i64 l.p, .int .i64 l.b, .int .i64 l.q] 83)
      have k1 : (0 : Int) ≤ (k : Int) := by omega
      have k2 : (k : Int) < (ls.length : Int) := by omega
      have lw := D1.size
      unfold endOf at Hd
      clear hlk hL
      generalize l.a = la at *
      generalize l.p = lp at *
      generalize l.b = lb at *
      generalize l.q = lq at *
      obtain ⟨n2, f0, f1, f2, f3⟩ := id E2
      obtain ⟨n3, g0, g1, g2, g3⟩ := id E3
      obtain ⟨m2, h0, h1, _⟩ := id B2
      cases x0 : ((la == d) && (lp == p))
      · cases x1 : ((lb == d) && (lq == p))
        · have Hn : Hid (peerF ls d p = peerF (ls.drop (k + 1)) d p) := by show _ = _; rw [hl.out, Hd.out, x0, x1]; rfl
          clear hl Hd
          cases y0 : (la == d)
          · cases y1 : (lb == d)
            · clear x0 x1
              go_wp2_with fail
              go_roundw
              case rel => exact ⟨k + 1, by go_num, by omega, D2, E1, E2, E3, Hn⟩
              case measure => simp [intOf]; omega
            · have y2 : (lq == p) = false := by rw [y1] at x1; simpa using x1
              clear x0 x1
              go_wp2_with fail
              go_roundw
              case rel => exact ⟨k + 1, by go_num, by omega, D2, E1, E2, E3, Hn⟩
              case measure => simp [intOf]; omega
          · have y3 : (lp == p) = false := by rw [y0] at x0; simpa using x0
            cases y1 : (lb == d)
            · clear x0 x1
              go_wp2_with fail
              go_roundw
              case rel => exact ⟨k + 1, by go_num, by omega, D2, E1, E2, E3, Hn⟩
              case measure => simp [intOf]; omega
            · have y2 : (lq == p) = false := by rw [y1] at x1; simpa using x1
              clear x0 x1
              go_wp2_with fail
              go_roundw
              case rel => exact ⟨k + 1, by go_num, by omega, D2, E1, E2, E3, Hn⟩
              case measure => simp [intOf]; omega
        · have Hn : Hid (peerF ls d p = some (la, lp)) := by show _ = _; rw [hl.out, Hd.out, x0, x1]; rfl
          clear hl Hd
          obtain ⟨y1, y2⟩ : (lb == d) = true ∧ (lq == p) = true := by simpa using x1
          cases y0 : (la == d)
          · clear x0 x1
            go_wp2_with fail
            refine bodyPost_ret (v := .tuple #[.agg #[.int .i64 la, .int .i64 lp], .bool true]) (by simp [results, Tryz.results43, go_sem, g0, g1]) rfl ⟨by rw [Hn.out]; rfl, ?_⟩
            exact (D2.setCell (by simp; omega) _).setCell (by simp; omega) _
          · have y3 : (lp == p) = false := by rw [y0] at x0; simpa using x0
            clear x0 x1
            go_wp2_with fail
            refine bodyPost_ret (v := .tuple #[.agg #[.int .i64 la, .int .i64 lp], .bool true]) (by simp [results, Tryz.results43, go_sem, g0, g1]) rfl ⟨by rw [Hn.out]; rfl, ?_⟩
            exact (D2.setCell (by simp; omega) _).setCell (by simp; omega) _
      · have Hn : Hid (peerF ls d p = some (lb, lq)) := by show _ = _; rw [hl.out, Hd.out, x0]; rfl
        clear hl Hd
        obtain ⟨y1, y2⟩ : (la == d) = true ∧ (lp == p) = true := by simpa using x0
        clear x0
        go_wp2_with fail
        refine bodyPost_ret (v := .tuple #[.agg #[.int .i64 lb, .int .i64 lq], .bool true]) (by simp [results, Tryz.results43, go_sem, g0, g1]) rfl ⟨by rw [Hn.out]; rfl, ?_⟩
        exact (D2.setCell (by simp; omega) _).setCell (by simp; omega) _
    · have Hn : Hid (peerF ls d p = none) := by show _ = _; rw [hl.out, List.drop_eq_nil_of_le (by omega)]; rfl
      obtain ⟨n3, g0, g1, g2, g3⟩ := id B3
      go_wp2_with fail
      refine bodyPost_ret (v := .tuple #[.agg #[.int .i64 0, .int .i64 0], .bool false]) (by simp [results, Tryz.results43, go_sem, g0, g1]) rfl ⟨by rw [Hn.out]; rfl, ?_⟩
      exact (D1.setCell (by simp; omega) _).setCell (by simp; omega) _
end Go.Proofs.YtgmjlkllghlmmaaGreat
