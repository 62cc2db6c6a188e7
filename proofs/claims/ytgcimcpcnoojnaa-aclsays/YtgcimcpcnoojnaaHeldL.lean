/-
  held, of what a list of rules lets through.
-/
import Derived.Test.YtgcimcpcnoojnaaPhi
import Derived.Test.YtgcimcpcnoojnaaEv1
import Derived.Test.YtgcimcpcnoojnaaRefA
namespace Go.Proofs.Ytgcimcpcnoojnaa
open Go.RowKit Go.Maps

section
variable {base a M most : Nat} {w w' : World} {ns : List Nd}

set_option maxHeartbeats 1000000 in
theorem closureL_any (A : Option Addr) (n cap n0 : Nat) (xs : List Rl) (p q s t : Int) (w : World) (hn : n0 < w.heap.size) (q0 : w.cell? ⟨n0, 0, none⟩ = some (.slice A n cap)) (hR : Rules w.heap.size w (.slice A n cap) xs) :
    Calls Try.prog 29 #[pk p q s t, .pointer (some ⟨n0, 0, none⟩)] w fun e w' => e = .returned (.bool (letsB xs p q s t)) ∧ Below w.heap.size w w' := by
  have D := Below.alloc' (Below.refl w.heap.size w) (.cells #[.int .i64 p, .int .i64 q, .int .i64 s, .int .i64 t] 53)
  have K : Hid (Calls Try.prog 26 #[.slice A n cap, pk p q s t] (w.alloc (.cells #[.int .i64 p, .int .i64 q, .int .i64 s, .int .i64 t] 53)) fun e w' => e = .returned (.bool (letsB xs p q s t)) ∧ Below (w.alloc (.cells #[.int .i64 p, .int .i64 q, .int .i64 s, .int .i64 t] 53)).heap.size (w.alloc (.cells #[.int .i64 p, .int .i64 q, .int .i64 s, .int .i64 t] 53)) w') :=
    rlets_any p q s t _ ((hR.below D).mono (by simp))
  have F := four_new w (.int .i64 p) (.int .i64 q) (.int .i64 s) (.int .i64 t) 53
  obtain ⟨l0, g0, g1, g2, g3⟩ := F
  clear hR
  generalize letsB xs p q s t = r at *
  go_enter Try.func29, Try.ntmps29
  go_wp2_with fail
  refine K.out.mono ?_
  rintro e w1 ⟨rfl, hb1⟩
  have D1 := chain hb1 D
  clear D hb1 g0 g1 g2 g3 l0 K
  go_wp2_with fail
  go_ret
  exact ⟨rfl, D1⟩

set_option maxHeartbeats 4000000 in
set_option maxRecDepth 100000 in
theorem heldL_any (h : Ar base a M 14 most w ns) (f n0 : Nat) (hf : f < ns.length) (A : Option Addr) (n cap : Nat) (xs : List Rl) (hev : ∀ x, ev ns f x = letsF xs x) (L : Loc (ca base a M 14 most) w n0 #[.slice A n cap] 57) (R : RulesK (ca base a M 14 most) w (.slice A n cap) xs) :
    Calls Try.prog 21 #[.pointer (some ⟨a, 0, none⟩), .int .i64 (f : Int), .func (.func 29) #[] #[.pointer (some ⟨n0, 0, none⟩)]] w fun e w' => e = .returned (.bool true) ∧ Ar base a M 14 most w' ns ∧ Kp (ca base a M 14 most) w w' := by
  have EV : Go.RowKit.Hid (∀ c, c < 16384 → ev ns f (envOf 14 c) = letsC xs c) := fun c hc => by rw [hev, letsF_env xs c hc]
  have R' : Go.RowKit.Hid (RulesK (ca base a M 14 most) w (.slice A n cap) xs) := R
  clear hev R
  go_enter Try.func21, Try.ntmps21
  go_wp2_with fail
  go_loopw [10] (fun i wr => ∃ c : Nat, i = .int .i64 (c : Int) ∧ c ≤ 16384 ∧ Ar base a M 14 most wr ns ∧ Kp (ca base a M 14 most) w wr) (fun i _ => 16384 - (intOf i).toNat)
  case atStart => exact ⟨0, rfl, by omega, h, Kp.refl _ _⟩
  case round =>
    obtain ⟨c, rfl, hcc, hA, hK⟩ := hrel
    by_cases hlt : c < 16384
    · have CL : Go.RowKit.Hid (∀ w', Loc (ca base a M 14 most) w' n0 #[.slice A n cap] 57 → Kp (ca base a M 14 most) w w' → Calls Try.prog 29 #[pk ((c / 1024 : Nat) : Int) ((c / 64 % 16 : Nat) : Int) ((c / 8 % 8 : Nat) : Int) ((c % 8 : Nat) : Int), .pointer (some ⟨n0, 0, none⟩)] w' fun e w'' => e = .returned (.bool (ev ns f (envOf 14 c))) ∧ Below w'.heap.size w' w'') := fun w' L' K' => by
        rw [EV.out c hlt]
        exact closureL_any A n cap n0 xs _ _ _ _ w' L'.out.lt (by rw [cell_of_row w' n0 0 _ _ _ L'.blk]; rfl) (R'.out.kp K').rules
      have EC : Go.RowKit.Hid (Calls Try.prog 65 #[.pointer (some ⟨a, 0, none⟩), .int .i64 (f : Int), .int .i64 (c : Int)] wr fun e w' => e = .returned (.tuple #[.bool (ev ns f (envOf 14 c)), .int .i64 0]) ∧ Ar base a M 14 most w' ns ∧ Kp (ca base a M 14 most) wr w') := eval_ok hA hf (by show c < 16384; exact hlt)
      have PK : Go.RowKit.Hid (∀ w, Calls Try.prog 71 #[.int .i64 (c : Int)] w fun e w' => e = .returned (pk ((c / 1024 : Nat) : Int) ((c / 64 % 16 : Nat) : Int) ((c / 8 % 8 : Nat) : Int) ((c % 8 : Nat) : Int)) ∧ Below w.heap.size w w') := fun w => rpacket_any c w hlt
      have L1 := L.kp hK
      generalize ev ns f (envOf 14 c) = r at *
      generalize c / 1024 = p0 at *
      generalize c / 64 % 16 = p1 at *
      generalize c / 8 % 8 = p2 at *
      generalize c % 8 = p3 at *
      clear EV R'
      go_wp2_with fail
      refine EC.out.mono ?_
      rintro e w2 ⟨rfl, A2, K2⟩
      have L2 := L1.kp K2
      have KK2 := hK.trans K2
      clear EC hA hK L1 K2
      go_wp2_with fail
      refine (PK.out _).mono ?_
      rintro e w3 ⟨rfl, hb3⟩
      have A3 := A2.below hb3
      have L3 := Loc.below L2 A2 hb3
      have KK3 := KK2.trans (A2.kbelow hb3)
      clear A2 L2 KK2 hb3 PK
      go_wp2_with fail
      refine (CL.out _ L3 KK3).mono ?_
      rintro e w4 ⟨rfl, hb4⟩
      have A4 := A3.below hb4
      have KK4 := KK3.trans (A3.kbelow hb4)
      clear A3 L3 KK3 hb4 CL
      cases r
      all_goals
        go_wp2_with fail
        go_roundw
        case rel => exact ⟨c + 1, congrArg (Value.int .i64) (by omega), by omega, A4, KK4⟩
        case measure => simp [intOf]; omega
    · go_wp2_with fail
      go_ret
      exact ⟨rfl, hA, hK⟩
end
end Go.Proofs.Ytgcimcpcnoojnaa


