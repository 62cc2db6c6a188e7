/-
  held, and MatchBuilds: it returns true, whatever is handed in.
-/
import Derived.Test.YtgcimcpcnoojnaaBMatch
import Derived.Test.YtgcimcpcnoojnaaEv1
import Derived.Test.YtgcimcpcnoojnaaBRef
namespace Go.Proofs.Ytgcimcpcnoojnaa
open Go.RowKit Go.Maps

theorem mod_bit (x k : Nat) : (if x.testBit k then 2 ^ k else 0) + x % 2 ^ k = x % 2 ^ (k + 1) := by
  rw [Nat.mod_pow_succ, Nat.testBit_eq_decide_div_mod_eq]
  have : x / 2 ^ k % 2 = 0 ∨ x / 2 ^ k % 2 = 1 := by omega
  rcases this with h | h
  · rw [h]; simp
  · rw [h]; simp [Nat.add_comm]
theorem val_env (n c : Nat) : ∀ (k first : Nat), first + k ≤ n → val k first (envOf n c) = c / 2 ^ (n - first - k) % 2 ^ k := by
  intro k
  induction k with
  | zero => intro first _; simp [val, Nat.mod_one]
  | succ k ih =>
    intro first h
    rw [val, ih (first + 1) (by omega), envOf, show n - (first + 1) - k = n - first - (k + 1) by omega, ← mod_bit]
    have e : c.testBit (n - 1 - first) = (c / 2 ^ (n - first - (k + 1))).testBit k := by
      rw [Nat.testBit_div_two_pow]
      congr 1
      omega
    rw [e]

/-- What Build makes, at a code. -/
theorem phi_env (sa sb sc sd c : Nat) (hc : c < 16384) : phi sa sb sc sd (envOf 14 c) = (sa.testBit (c / 1024) && sb.testBit (c / 64 % 16) && sc.testBit (c / 8 % 8) && sd.testBit (c % 8)) := by
  unfold phi
  simp only [sel_val, val_env 14 c _ _ (show 0 + 4 ≤ 14 by decide), val_env 14 c _ _ (show 4 + 4 ≤ 14 by decide), val_env 14 c _ _ (show 8 + 3 ≤ 14 by decide), val_env 14 c _ _ (show 11 + 3 ≤ 14 by decide)]
  have h1 : c / 2 ^ (14 - 0 - 4) % 2 ^ 4 = c / 1024 := by
    have : c / 1024 < 16 := by omega
    exact Nat.mod_eq_of_lt this
  rw [h1, Bool.and_true, Bool.and_assoc, Bool.and_assoc]
  have h2 : c / 2 ^ (14 - 4 - 4) % 2 ^ 4 = c / 64 % 16 := rfl
  have h3 : c / 2 ^ (14 - 8 - 3) % 2 ^ 3 = c / 8 % 8 := rfl
  have h4 : c / 2 ^ (14 - 11 - 3) % 2 ^ 3 = c % 8 := by simp
  rw [h2, h3, h4]

section
variable {base a M vars most : Nat} {w w' : World} {ns : List Nd}

set_option maxHeartbeats 1000000 in
theorem closure_any (sa sb sc sd c n0 : Nat) (w : World) (ha : sa < 65536) (hb : sb < 65536) (hc : sc < 256) (hd : sd < 256) (hcc : c < 16384) (hn : n0 < w.heap.size)
    (q0 : w.cell? ⟨n0, 0, none⟩ = some (.int .u16 (sa : Int))) (q1 : w.cell? ⟨n0, 1, none⟩ = some (.int .u16 (sb : Int))) (q2 : w.cell? ⟨n0, 2, none⟩ = some (.int .u8 (sc : Int))) (q3 : w.cell? ⟨n0, 3, none⟩ = some (.int .u8 (sd : Int))) :
    Calls Try.prog 22 #[pk ((c / 1024 : Nat) : Int) ((c / 64 % 16 : Nat) : Int) ((c / 8 % 8 : Nat) : Int) ((c % 8 : Nat) : Int), .pointer (some ⟨n0, 0, none⟩)] w fun e w' => e = .returned (.bool (sa.testBit (c / 1024) && sb.testBit (c / 64 % 16) && sc.testBit (c / 8 % 8) && sd.testBit (c % 8))) ∧ Below w.heap.size w w' := by
  have K : Go.RowKit.Hid (∀ w, Calls Try.prog 23 #[mt sa sb sc sd, pk ((c / 1024 : Nat) : Int) ((c / 64 % 16 : Nat) : Int) ((c / 8 % 8 : Nat) : Int) ((c % 8 : Nat) : Int)] w fun e w' => e = .returned (.bool (sa.testBit (c / 1024) && sb.testBit (c / 64 % 16) && sc.testBit (c / 8 % 8) && sd.testBit (c % 8))) ∧ Below w.heap.size w w') := fun w =>
    rHas_any sa sb sc sd _ _ _ _ w ha hb hc hd (by omega) (by omega) (by omega) (by omega)
  generalize (sa.testBit (c / 1024) && sb.testBit (c / 64 % 16) && sc.testBit (c / 8 % 8) && sd.testBit (c % 8)) = r at *
  generalize c / 1024 = p0 at *
  generalize c / 64 % 16 = p1 at *
  generalize c / 8 % 8 = p2 at *
  generalize c % 8 = p3 at *
  have F := four_new w (.int .i64 (p0 : Int)) (.int .i64 (p1 : Int)) (.int .i64 (p2 : Int)) (.int .i64 (p3 : Int)) 53
  have D := Below.alloc' (Below.refl w.heap.size w) (.cells #[.int .i64 (p0 : Int), .int .i64 (p1 : Int), .int .i64 (p2 : Int), .int .i64 (p3 : Int)] 53)
  obtain ⟨l0, g0, g1, g2, g3⟩ := F
  clear ha hb hc hd hcc
  go_enter Try.func22, Try.ntmps22
  go_wp2_with fail
  refine (K.out _).mono ?_
  rintro e w1 ⟨rfl, hb1⟩
  have D1 := chain hb1 D
  clear D hb1 g0 g1 g2 g3 l0
  go_wp2_with fail
  go_ret
  exact ⟨rfl, D1⟩

set_option maxHeartbeats 4000000 in
set_option maxRecDepth 100000 in
theorem held_any (h : Ar base a M 14 most w ns) (f n0 : Nat) (hf : f < ns.length) (sa sb sc sd : Nat) (ha : sa < 65536) (hb : sb < 65536) (hc : sc < 256) (hd : sd < 256)
    (hev : ∀ x, ev ns f x = phi sa sb sc sd x) (L : Loc (ca base a M 14 most) w n0 #[.int .u16 (sa : Int), .int .u16 (sb : Int), .int .u8 (sc : Int), .int .u8 (sd : Int)] 49) :
    Calls Try.prog 21 #[.pointer (some ⟨a, 0, none⟩), .int .i64 (f : Int), .func (.func 22) #[] #[.pointer (some ⟨n0, 0, none⟩)]] w fun e w' => e = .returned (.bool true) ∧ Ar base a M 14 most w' ns ∧ Kp (ca base a M 14 most) w w' := by
  have EV : Go.RowKit.Hid (∀ c, c < 16384 → ev ns f (envOf 14 c) = (sa.testBit (c / 1024) && sb.testBit (c / 64 % 16) && sc.testBit (c / 8 % 8) && sd.testBit (c % 8))) := fun c hc => by rw [hev, phi_env sa sb sc sd c hc]
  clear hev
  go_enter Try.func21, Try.ntmps21
  go_wp2_with fail
  go_loopw [10] (fun i wr => ∃ c : Nat, i = .int .i64 (c : Int) ∧ c ≤ 16384 ∧ Ar base a M 14 most wr ns ∧ Kp (ca base a M 14 most) w wr) (fun i _ => 16384 - (intOf i).toNat)
  case atStart => exact ⟨0, rfl, by omega, h, Kp.refl _ _⟩
  case round =>
    obtain ⟨c, rfl, hcc, hA, hK⟩ := hrel
    by_cases hlt : c < 16384
    · have CL : Go.RowKit.Hid (∀ w', Loc (ca base a M 14 most) w' n0 #[.int .u16 (sa : Int), .int .u16 (sb : Int), .int .u8 (sc : Int), .int .u8 (sd : Int)] 49 → Calls Try.prog 22 #[pk ((c / 1024 : Nat) : Int) ((c / 64 % 16 : Nat) : Int) ((c / 8 % 8 : Nat) : Int) ((c % 8 : Nat) : Int), .pointer (some ⟨n0, 0, none⟩)] w' fun e w'' => e = .returned (.bool (ev ns f (envOf 14 c))) ∧ Below w'.heap.size w' w'') := fun w' L' => by
        obtain ⟨q0, q1, q2, q3⟩ := L'.four
        rw [EV.out c hlt]
        exact closure_any sa sb sc sd c n0 w' ha hb hc hd hlt L'.out.lt q0 q1 q2 q3
      have EC : Go.RowKit.Hid (Calls Try.prog 65 #[.pointer (some ⟨a, 0, none⟩), .int .i64 (f : Int), .int .i64 (c : Int)] wr fun e w' => e = .returned (.tuple #[.bool (ev ns f (envOf 14 c)), .int .i64 0]) ∧ Ar base a M 14 most w' ns ∧ Kp (ca base a M 14 most) wr w') := eval_ok hA hf (by show c < 16384; exact hlt)
      have PK : Go.RowKit.Hid (∀ w, Calls Try.prog 71 #[.int .i64 (c : Int)] w fun e w' => e = .returned (pk ((c / 1024 : Nat) : Int) ((c / 64 % 16 : Nat) : Int) ((c / 8 % 8 : Nat) : Int) ((c % 8 : Nat) : Int)) ∧ Below w.heap.size w w') := fun w => rpacket_any c w hlt
      have L1 := L.kp hK
      generalize ev ns f (envOf 14 c) = r at *
      generalize c / 1024 = p0 at *
      generalize c / 64 % 16 = p1 at *
      generalize c / 8 % 8 = p2 at *
      generalize c % 8 = p3 at *
      clear EV ha hb hc hd
      go_wp2_with fail
      refine EC.out.mono ?_
      rintro e w2 ⟨rfl, A2, K2⟩
      have L2 := L1.kp K2
      have KK2 := hK.trans K2
      clear EC hA hK L1 K2
      go_wp2_with fail
      refine (PK.out _).mono ?_
      rintro e w3 ⟨rfl, hb3⟩
      have A3 := A2.below hb3
      have L3 := Loc.below L2 A2 hb3
      have KK3 := KK2.trans (A2.kbelow hb3)
      clear A2 L2 KK2 hb3 PK
      go_wp2_with fail
      refine (CL.out _ L3).mono ?_
      rintro e w4 ⟨rfl, hb4⟩
      have A4 := A3.below hb4
      have KK4 := KK3.trans (A3.kbelow hb4)
      clear A3 L3 KK3 hb4 CL
      cases r
      all_goals
        go_wp2_with fail
        go_roundw
        case rel => exact ⟨c + 1, congrArg (Value.int .i64) (by omega), by omega, A4, KK4⟩
        case measure => simp [intOf]; omega
    · go_wp2_with fail
      go_ret
      exact ⟨rfl, hA, hK⟩
end
end Go.Proofs.Ytgcimcpcnoojnaa


