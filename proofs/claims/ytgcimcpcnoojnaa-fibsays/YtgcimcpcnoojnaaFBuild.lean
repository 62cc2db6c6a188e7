/-
  fib.sentTo, fib.Build.
-/
import Derived.Test.YtgcimcpcnoojnaaFRoutes
import Derived.Test.YtgcimcpcnoojnaaBLaw2
import Derived.Test.YtgcimcpcnoojnaaAll
namespace Go.Proofs.Ytgcimcpcnoojnaa
open Go.RowKit Go.Maps

/-- Does what is for address i go out at port q? -/
def sentB (xs : List Rt) (q : Int) (i : Nat) : Bool := outB xs (i : Int) && (outN xs (i : Int) == q)
theorem or_u16 (z c : Nat) (hz : z < 65536) (hc : c < 16) : Go.bits .or .u16 (z : Int) (IntKind.u16.wrap (2 ^ c)) = ((z ||| 2 ^ c : Nat) : Int) ∧ z ||| 2 ^ c < 65536 := by
  have hp : 2 ^ c < 65536 := Nat.pow_lt_pow_right (a := 2) (by omega) (show c < 16 by omega)
  have hlt : z ||| 2 ^ c < 65536 := Nat.or_lt_two_pow (n := 16) hz hp
  have e0 : IntKind.u16.wrap (2 ^ c) = ((2 ^ c : Nat) : Int) := by
    have e : (2 : Int) ^ c = ((2 ^ c : Nat) : Int) := by simp
    rw [e]
    exact IntWalk.u16_in _ ⟨Int.natCast_nonneg _, by have := Int.ofNat_lt.2 hp; omega⟩
  refine ⟨?_, hlt⟩
  rw [e0]
  generalize 2 ^ c = p at *
  have e1 : BitVec.ofInt 16 (z : Int) = BitVec.ofNat 16 z := by simp
  have e2 : BitVec.ofInt 16 (p : Int) = BitVec.ofNat 16 p := by simp
  have hm : (BitVec.ofNat 16 z ||| BitVec.ofNat 16 p).toNat = z ||| p := by
    simp [BitVec.toNat_or, Nat.mod_eq_of_lt hz, Nat.mod_eq_of_lt hp]
  show IntKind.u16.wrap ((BitVec.ofInt 16 (z : Int) ||| BitVec.ofInt 16 (p : Int)).toNat : Int) = _
  rw [e1, e2, hm]
  exact IntWalk.u16_in _ (by omega)

set_option maxHeartbeats 2000000 in
set_option maxRecDepth 100000 in
theorem sent_any {v : Value} {xs : List Rt} (q : Int) (w : World) (h : Hid (Routes w.heap.size w v xs)) :
    Calls Try.prog 84 #[v, .int .i64 q] w fun e w' => ∃ s : Nat, e = .returned (.int .u16 (s : Int)) ∧ s < 65536 ∧ Hid (∀ i, i < 16 → s.testBit i = sentB xs q i) ∧ Below w.heap.size w w' := by
  go_enter Try.func84, Try.ntmps84
  go_wp2_with fail
  go_loopw [5, 9] (fun s i wr => ∃ c z : Nat, i = .int .i64 (c : Int) ∧ s = .int .u16 (z : Int) ∧ c ≤ 16 ∧ z < 65536 ∧ Below w.heap.size w wr ∧ Hid (∀ i, z.testBit i = (decide (i < c) && sentB xs q i))) (fun _ i _ => 16 - (intOf i).toNat)
  case atStart => exact ⟨0, 0, rfl, rfl, by omega, by omega, Below.refl _ _, fun i => by simp⟩
  case round =>
    obtain ⟨c, z, rfl, rfl, hc, hz, D1, hb⟩ := hrel
    by_cases hlt : c < 16
    · have OU : Hid (Calls Try.prog 33 #[v, .int .i64 (c : Int)] wr fun e w'' => e = .returned (.tuple #[.int .i64 (outN xs (c : Int)), .bool (outB xs (c : Int))]) ∧ Below wr.heap.size wr w'') := out_any (c : Int) wr ((h.out.below D1).mono D1.size)
      have HS : Hid (sentB xs q c = (outB xs (c : Int) && (outN xs (c : Int) == q))) := rfl
      obtain ⟨o1, o2⟩ := or_u16 z c hz hlt
      have NO : Hid (sentB xs q c = false → ∀ i, z.testBit i = (decide (i < c + 1) && sentB xs q i)) := fun hn i => by
        rw [hb.out i]
        by_cases hi : i = c
        · subst hi
          rw [hn]
          simp
        · congr 1
          rw [decide_eq_decide]
          omega
      have YES : Hid (sentB xs q c = true → ∀ i, (z ||| 2 ^ c).testBit i = (decide (i < c + 1) && sentB xs q i)) := fun hy i => by
        rw [Nat.testBit_or, hb.out i, Nat.testBit_two_pow]
        by_cases hi : i = c
        · subst hi
          rw [hy]
          simp
        · have e1 : decide (i < c + 1) = decide (i < c) := by rw [decide_eq_decide]; omega
          have e2 : decide (c = i) = false := by simp; omega
          rw [e1, e2, Bool.or_false]
      clear hb
      generalize outN xs (c : Int) = n0 at *
      generalize outB xs (c : Int) = k0 at *
      go_wp2_with fail
      refine OU.out.mono ?_
      rintro e w2 ⟨rfl, hb2⟩
      have D2 := chn hb2 D1
      clear OU hb2 D1
      cases k0
      · have NO' : Hid (∀ i, z.testBit i = (decide (i < c + 1) && sentB xs q i)) := NO.out (by rw [HS.out]; rfl)
        clear NO YES HS o1 o2
        go_wp2_with fail
        go_roundw
        case rel => exact ⟨c + 1, z, by go_num, rfl, by omega, hz, D2, NO'⟩
        case measure => simp [intOf]; omega
      · cases hq : (n0 == q)
        · have NO' : Hid (∀ i, z.testBit i = (decide (i < c + 1) && sentB xs q i)) := NO.out (by rw [HS.out, hq]; rfl)
          clear NO YES HS o1 o2
          go_wp2_with fail
          go_roundw
          case rel => exact ⟨c + 1, z, by go_num, rfl, by omega, hz, D2, NO'⟩
          case measure => simp [intOf]; omega
        · have YES' : Hid (∀ i, (z ||| 2 ^ c).testBit i = (decide (i < c + 1) && sentB xs q i)) := YES.out (by rw [HS.out, hq]; rfl)
          have O1 : Hid (Go.bits .or .u16 (z : Int) (IntKind.u16.wrap (2 ^ c)) = ((z ||| 2 ^ c : Nat) : Int)) := o1
          clear NO YES HS o1
          go_wp2_with fail
          go_roundw
          case rel => exact ⟨c + 1, z ||| 2 ^ c, by go_num, congrArg (Value.int .u16) O1.out, by omega, o2, D2, YES'⟩
          case measure => simp [intOf]; omega
    · obtain rfl : c = 16 := by omega
      have fin : Hid (∀ i, i < 16 → z.testBit i = sentB xs q i) := fun i hi => by
        rw [hb.out i, decide_eq_true hi]
        rfl
      clear hb
      go_wp2_with fail
      go_ret
      exact ⟨z, rfl, hz, fin, D1⟩

theorem four_set (w : World) (n : Nat) (x : Value) (a b c d : Value) (h : Four w n a b c d) : (w.setCell ⟨n, 1, none⟩ x).cell? ⟨n, 0, none⟩ = some a ∧ (w.setCell ⟨n, 1, none⟩ x).cell? ⟨n, 1, none⟩ = some x ∧ (w.setCell ⟨n, 1, none⟩ x).cell? ⟨n, 2, none⟩ = some c ∧ (w.setCell ⟨n, 1, none⟩ x).cell? ⟨n, 3, none⟩ = some d := by
  obtain ⟨h0, h1, h2, h3, h4⟩ := h
  refine ⟨?_, ?_, ?_, ?_⟩ <;> simp [go_sem, h1, h2, h3, h4]

section
variable {base a M : Nat} {w : World} {ns : List Nd}
set_option maxHeartbeats 2000000 in
set_option maxRecDepth 100000 in
/-- Build of right routes. -/
theorem fbuild_ok (h : Ar base a M 14 40000 w ns) {v : Value} {xs : List Rt} (q : Int) (hR : Hid (Routes w.heap.size w v xs)) (hc : checkV xs = 0) :
    Calls Try.prog 36 #[.pointer (some ⟨a, 0, none⟩), v, .int .i64 q] w fun e w' => ∃ s : Nat, Hid (∀ i, i < 16 → s.testBit i = sentB xs q i) ∧ MkPost base a M 14 40000 w ns 44 0 (phi 65535 s 255 255) e w' := by
  have CK : Hid (Calls Try.prog 35 #[v] w fun e w'' => e = .returned (.int .i64 0) ∧ Below w.heap.size w w'') := by
    have := check_any w hR.out
    rw [hc] at this
    exact this
  clear hc
  go_enter Try.func36, Try.ntmps36
  go_wp2_with fail
  refine CK.out.mono ?_
  rintro e w1 ⟨rfl, D1⟩
  clear CK
  go_wp2_with fail
  refine (all_any _).mono ?_
  rintro e w2 ⟨rfl, hb2⟩
  have D2 := chn hb2 D1
  have D3 := Below.al D2 (.cells #[.int .u16 65535, .int .u16 65535, .int .u8 255, .int .u8 255] 49)
  have F3 := four_new w2 (.int .u16 65535) (.int .u16 65535) (.int .u8 255) (.int .u8 255) 49
  have fz3 : (w2.alloc (.cells #[.int .u16 65535, .int .u16 65535, .int .u8 255, .int .u8 255] 49)).frozen? ⟨w2.heap.size, 1, none⟩ = false := by simp [go_sem]
  have z2 := D2.size
  have SE : Hid (Calls Try.prog 84 #[v, .int .i64 q] (w2.alloc (.cells #[.int .u16 65535, .int .u16 65535, .int .u8 255, .int .u8 255] 49)) fun e w' => ∃ s : Nat, e = .returned (.int .u16 (s : Int)) ∧ s < 65536 ∧ Hid (∀ i, i < 16 → s.testBit i = sentB xs q i) ∧ Below (w2.alloc (.cells #[.int .u16 65535, .int .u16 65535, .int .u8 255, .int .u8 255] 49)).heap.size (w2.alloc (.cells #[.int .u16 65535, .int .u16 65535, .int .u8 255, .int .u8 255] 49)) w') := sent_any q _ ((hR.out.below D3).mono D3.size)
  clear hb2 D1 D2 hR
  go_wp2_with fail
  refine SE.out.mono ?_
  rintro e w4 ⟨s, rfl, hs, hbits, hb4⟩
  have D4 := chn hb4 D3
  have F4 := keepFour hb4 F3
  have fz4 : w4.frozen? ⟨w2.heap.size, 1, none⟩ = false := (hb4.frozen (p := ⟨w2.heap.size, 1, none⟩) (by simp)).trans fz3
  have F5 := four_set w4 w2.heap.size (.int .u16 (s : Int)) _ _ _ _ F4
  have D5 := D4.setCell (p := ⟨w2.heap.size, 1, none⟩) z2 (.int .u16 (s : Int))
  have A5 := h.below D5
  have K5 := h.kbelow D5
  obtain ⟨_, x0, x1, x2, x3⟩ := id F4
  obtain ⟨y0, y1, y2, y3⟩ := F5
  have BM : Hid (Calls Try.prog 20 #[.pointer (some ⟨a, 0, none⟩), mt 65535 s 255 255] (w4.setCell ⟨w2.heap.size, 1, none⟩ (.int .u16 (s : Int))) (MkPost base a M 14 40000 (w4.setCell ⟨w2.heap.size, 1, none⟩ (.int .u16 (s : Int))) ns 44 0 (phi 65535 s 255 255))) := build_match A5 (Nat.le_refl _) 65535 s 255 255 (by omega) hs (by omega) (by omega)
  clear SE F3 fz3 D3 hb4 D4 A5 D5
  go_wp2_with fail
  refine BM.out.mono ?_
  rintro e w6 hp
  obtain ⟨ns6, v6, er6, rfl, A6, K6, X6, l6, d6⟩ := hp.pair
  have fin : Hid (MkPost base a M 14 40000 w ns 44 0 (phi 65535 s 255 255) (.returned (.tuple #[.int .i64 v6, .int .i64 er6])) w6) := by
    refine ⟨ns6, A6, K5.trans K6, X6, l6, ?_⟩
    rcases d6.out with ⟨rfl, f, rfl, r⟩ | ⟨rfl, rfl, r⟩
    · exact Or.inl ⟨f, rfl, r⟩
    · exact Or.inr ⟨rfl, r⟩
  clear BM hp d6 A6 K6 K5 X6 y0 y1 y2 y3 x0 x1 x2 x3 F4 h
  go_wp2_with fail
  go_ret2
  exact ⟨s, hbits, fin.out⟩
end

set_option maxHeartbeats 1000000 in
/-- Build of wrong routes. -/
theorem fbuild_bad (p : Value) {v : Value} {xs : List Rt} (q c : Int) (w : World) (hR : Hid (Routes w.heap.size w v xs)) (hv : checkV xs = c) (hc : c = 1 ∨ c = 2 ∨ c = 5) :
    Calls Try.prog 36 #[p, v, .int .i64 q] w fun e w' => e = .returned (.tuple #[.int .i64 0, .int .i64 c]) ∧ Below w.heap.size w w' := by
  have CK : Hid (Calls Try.prog 35 #[v] w fun e w'' => e = .returned (.int .i64 c) ∧ Below w.heap.size w w'') := by
    have := check_any w hR.out
    rw [hv] at this
    exact this
  clear hv hR
  rcases hc with rfl | rfl | rfl
  all_goals
    go_enter Try.func36, Try.ntmps36
    go_wp2_with fail
    refine CK.out.mono ?_
    rintro e w1 ⟨rfl, D1⟩
    clear CK
    go_wp2_with fail
    go_ret2
    exact ⟨rfl, D1⟩
end Go.Proofs.Ytgcimcpcnoojnaa


