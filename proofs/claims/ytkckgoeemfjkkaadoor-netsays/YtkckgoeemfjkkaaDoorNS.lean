/-
  NetSays: it returns true.
-/
import Derived.Test.YtkckgoeemfjkkaaDoorRT2
import Derived.Test.YtkckgoeemfjkkaaDoorRNet
import Derived.Test.YtkckgoeemfjkkaaDoorPW5
namespace Go.Proofs.YtkckgoeemfjkkaaDoor
open Go.RowKit

set_option maxHeartbeats 1000000 in
set_option maxRecDepth 100000 in
/-- The document's Net. -/
theorem rnet_any (vd vl : Value) (ds : List Dv) (ls : List Lk) (w : World) (hD : Devs w.heap.size w vd ds) (hL : Links w.heap.size w vl ls) :
    Calls Tryd.prog 4 #[.agg #[vd, vl]] w fun e w' => e = .returned (.int .i64 (netV ds ls)) ∧ Below w.heap.size w w' := by
  have hD0 := hD
  have hL0 := hL
  obtain ⟨A, cap, rfl, _, _, _, _⟩ := hD
  obtain ⟨B, cap', rfl, _, _, _, _⟩ := hL
  unfold netV
  by_cases h : 10 < ds.length ∨ 15 < ls.length
  · rw [if_pos h]
    have D0 := Below.alN (Below.refl w.heap.size w) (.cells #[.slice A ds.length cap, .slice B ls.length cap'] 25)
    clear hD0 hL0
    by_cases h10 : 10 < ds.length
    · have t10 : decide ((10 : Int) < (ds.length : Int)) = true := by simp; omega
      clear h
      go_enter Tryd.func4, Tryd.ntmps4
      go_wp2_with fail
      go_ret
      exact ⟨rfl, D0⟩
    · have t10 : decide ((10 : Int) < (ds.length : Int)) = false := by simp; omega
      have t15 : decide ((15 : Int) < (ls.length : Int)) = true := by simp; omega
      clear h
      go_enter Tryd.func4, Tryd.ntmps4
      go_wp2_with fail
      go_ret
      exact ⟨rfl, D0⟩
  · rw [if_neg h]
    exact rnet_row A B cap cap' ds ls _ w hD0 hL0 (by omega) (by omega) rfl
set_option maxHeartbeats 1000000 in
theorem print_bad (A B : Option Addr) (n cap m cap' : Nat) (nv : Int) (w : World) (hz : (nv == 0) = false)
    (CK : Hid (∀ W, Below w.heap.size w W → Calls Tryd.prog 9 #[.agg #[.slice A n cap, .slice B m cap']] W fun e w' => e = .returned (.int .i64 nv) ∧ Below W.heap.size W w')) :
    Calls Tryd.prog 6 #[.agg #[.slice A n cap, .slice B m cap']] w fun e w' => e = .returned (.tuple #[.string ⟨#[]⟩, .int .i64 nv]) ∧ Below w.heap.size w w' := by
  have D0 := Below.alN (Below.refl w.heap.size w) (.cells #[.slice A n cap, .slice B m cap'] 25)
  go_enter Tryd.func6, Tryd.ntmps6
  go_wp2_with fail
  refine (CK.out _ D0).mono ?_
  rintro e w1 ⟨rfl, hb1⟩
  have D1 := chnN hb1 D0
  go_wp2_with fail
  go_ret2
  exact ⟨rfl, D1⟩
/-- Two boxes. -/
def BB (W : World) (n : Nat) (a b c d : Value) : Prop := Box2 W n a b ∧ Box2 W (n + 1) c d
theorem BB.keep {W W' : World} {n : Nat} {a b c d : Value} (h : BB W n a b c d) (hb : Below W.heap.size W W') : BB W' n a b c d := ⟨h.1.below hb h.1.1, h.2.below hb h.2.1⟩
theorem BB.alloc {W : World} {n : Nat} {a b c d : Value} (h : BB W n a b c d) (o : Obj) : BB (W.alloc o) n a b c d := h.keep ((Below.refl _ _).alloc (Nat.le_refl _) o)
set_option maxHeartbeats 8000000 in
set_option maxRecDepth 100000 in
theorem netSays_case (A B : Option Addr) (cap cap' n m : Nat) (x y k nv : Int) (pv : Option (Int × Int)) (tx : ByteArray) (w : World)
    (RN : Hid (∀ W, Below w.heap.size w W → Calls Tryd.prog 4 #[.agg #[.slice A n cap, .slice B m cap']] W fun e w' => e = .returned (.int .i64 nv) ∧ Below W.heap.size W w'))
    (CK : Hid (∀ W, Below w.heap.size w W → Calls Tryd.prog 9 #[.agg #[.slice A n cap, .slice B m cap']] W fun e w' => e = .returned (.int .i64 nv) ∧ Below W.heap.size W w'))
    (NT : Hid ((nv == 0) = true → ∀ W, Below w.heap.size w W → Calls Tryd.prog 5 #[.agg #[.slice A n cap, .slice B m cap']] W fun e w' => e = .returned (.string tx) ∧ Below W.heap.size W w'))
    (PR : Hid (∀ W, Below w.heap.size w W → Calls Tryd.prog 6 #[.agg #[.slice A n cap, .slice B m cap']] W fun e w' => e = .returned (.tuple #[.string tx, .int .i64 nv]) ∧ Below W.heap.size W w'))
    (PE : Hid (∀ W, Below w.heap.size w W → Calls Tryd.prog 7 #[.agg #[.slice A n cap, .slice B m cap'], plA x y] W fun e w' => e = .returned (.tuple #[placeV pv, .bool pv.isSome]) ∧ Below W.heap.size W w'))
    (RP : Hid (∀ W, Below w.heap.size w W → Calls Tryd.prog 8 #[.agg #[.slice A n cap, .slice B m cap'], plA x y] W fun e w' => e = .returned (.tuple #[placeV pv, .bool pv.isSome]) ∧ Below W.heap.size W w'))
    (hE : Hid ((nv == 0) = false → tx = ⟨#[]⟩)) :
    Calls Tryd.prog 3 #[.agg #[.slice A n cap, .slice B m cap'], plA x y, .int .i64 k] w fun e w' => e = .returned (.bool true) ∧ Below w.heap.size w w' := by
  have PO : Hid (∀ w, Calls Tryd.prog 10 #[.int .i64 k] w fun e w' => e = .returned (.int .i64 (portsV k)) ∧ w' = w) := fun w => nports_any k w
  have RO : Hid (∀ w, Calls Tryd.prog 11 #[.int .i64 k] w fun e w' => e = .returned (.int .i64 (portsV k)) ∧ Below w.heap.size w w') := fun w => rports_any k w
  generalize portsV k = pk at *
  obtain ⟨pd, pp, ok, hpv⟩ : ∃ (pd pp : Int) (ok : Bool), placeV pv = plA pd pp ∧ pv.isSome = ok := by
    cases pv with
    | none => exact ⟨0, 0, _, rfl, rfl⟩
    | some z => exact ⟨z.1, z.2, _, rfl, rfl⟩
  rw [hpv.1, hpv.2] at PE RP
  clear hpv
  have D0 := Below.alN (Below.alN (Below.refl w.heap.size w) (.cells #[.slice A n cap, .slice B m cap'] 25)) (.cells #[.int .i64 x, .int .i64 y] 27)
  have Q0 : BB ((w.alloc (.cells #[.slice A n cap, .slice B m cap'] 25)).alloc (.cells #[.int .i64 x, .int .i64 y] 27)) w.heap.size (.slice A n cap) (.slice B m cap') (.int .i64 x) (.int .i64 y) := by
    refine ⟨(box2_new w _ _ _).alloc _, ?_⟩
    have := box2_new (w.alloc (.cells #[.slice A n cap, .slice B m cap'] 25)) (.int .i64 x) (.int .i64 y) 27
    rw [World.size_alloc] at this
    exact this
  obtain ⟨⟨_, b0, b1, _⟩, ⟨_, b2, b3, _⟩⟩ := id Q0
  go_enter Tryd.func3, Tryd.ntmps3
  go_wp2_with fail
  refine (RN.out _ D0).mono ?_
  rintro e w1 ⟨rfl, hb1⟩
  have D1 := chnN hb1 D0
  have Q1 := Q0.keep hb1
  clear hb1 D0 Q0 b0 b1 b2 b3 RN
  obtain ⟨⟨_, b0, b1, _⟩, ⟨_, b2, b3, _⟩⟩ := id Q1
  cases hz : (nv == 0)
  all_goals
    first
      | (have NT2 := NT.out hz
         go_wp2_with fail
         refine (NT2 _ D1).mono ?_
         rintro e w2 ⟨rfl, hb2⟩
         have D2 := chnN hb2 D1
         have Q2 := Q1.keep hb2
         clear hb2 D1 Q1 b0 b1 b2 b3 NT2 NT hE
         obtain ⟨⟨_, b0, b1, _⟩, ⟨_, b2, b3, _⟩⟩ := id Q2)
      | (obtain rfl := hE.out hz
         have D2 := D1
         have Q2 := Q1)
    go_wp2_with fail
    refine (PR.out _ D2).mono ?_
    rintro e w3 ⟨rfl, hb3⟩
    have D3 := chnN hb3 D2
    have Q3 := Q2.keep hb3
    clear hb3 D2 Q2 b0 b1 b2 b3 PR
    obtain ⟨⟨_, b0, b1, _⟩, ⟨_, b2, b3, _⟩⟩ := id Q3
    go_wp2_with fail
    refine (PE.out _ D3).mono ?_
    rintro e w4 ⟨rfl, hb4⟩
    have D4 := Below.alN (chnN hb4 D3) (.cells #[.int .i64 pd, .int .i64 pp] 27)
    have Q4 := (Q3.keep hb4).alloc (.cells #[.int .i64 pd, .int .i64 pp] 27)
    have Z4 := box2_new w4 (.int .i64 pd) (.int .i64 pp) 27
    clear hb4 D3 Q3 b0 b1 b2 b3 PE
    obtain ⟨⟨_, b0, b1, _⟩, ⟨_, b2, b3, _⟩⟩ := id Q4
    go_wp2_with fail
    refine (RP.out _ D4).mono ?_
    rintro e w5 ⟨rfl, hb5⟩
    have D5 := Below.alN (chnN hb5 D4) (.cells #[.int .i64 pd, .int .i64 pp] 27)
    have Q5 := (Q4.keep hb5).alloc (.cells #[.int .i64 pd, .int .i64 pp] 27)
    have Z5 := (Z4.below hb5 Z4.1).alloc (.cells #[.int .i64 pd, .int .i64 pp] 27)
    have Y5 := box2_new w5 (.int .i64 pd) (.int .i64 pp) 27
    clear hb5 D4 Q4 Z4 b0 b1 b2 b3 RP
    obtain ⟨⟨_, b0, b1, _⟩, ⟨_, b2, b3, _⟩⟩ := id Q5
    go_wp2_with fail
    refine (CK.out _ D5).mono ?_
    rintro e w6 ⟨rfl, hb6⟩
    have D6 := chnN hb6 D5
    have Z6 := Z5.below hb6 Z5.1
    have Y6 := Y5.below hb6 Y5.1
    clear hb6 D5 Q5 Z5 Y5 b0 b1 b2 b3 CK
    obtain ⟨_, e0, e1, _⟩ := id Z6
    obtain ⟨_, e2, e3, _⟩ := id Y6
    have PEQ : ∀ w, (binOp .eql 27 (plA pd pp) (plA pd pp)).run Tryd.prog w = .ok (.bool true) w := fun w => by rw [place_eq]; simp
    go_wp2_with fail
    refine (PO.out _).mono ?_
    rintro e w7 ⟨rfl, rfl⟩
    go_wp2_with fail
    refine (RO.out _).mono ?_
    rintro e w8 ⟨rfl, hb8⟩
    have D8 := chnN hb8 D6
    go_wp2_with fail
    go_ret
    exact ⟨by simp, D8⟩
theorem netSays_any (vd vl : Value) (ds : List Dv) (ls : List Lk) (x y k : Int) (w : World) (hD : Devs w.heap.size w vd ds) (hL : Links w.heap.size w vl ls) (hDL : DLn 0 w) :
    Calls Tryd.prog 3 #[.agg #[vd, vl], plA x y, .int .i64 k] w fun e w' => e = .returned (.bool true) ∧ Below w.heap.size w w' := by
  have hD0 := hD
  have hL0 := hL
  obtain ⟨A, cap, rfl, _, _, _, _⟩ := hD
  obtain ⟨B, cap', rfl, _, _, _, _⟩ := hL
  have dD : ∀ W, Below w.heap.size w W → Devs W.heap.size W (.slice A ds.length cap) ds := fun W h => (hD0.below h).mono h.size
  have dL : ∀ W, Below w.heap.size w W → Links W.heap.size W (.slice B ls.length cap') ls := fun W h => (hL0.below h).mono h.size
  by_cases hz : netV ds ls = 0
  · obtain ⟨l10, l15, _, hp⟩ := netV_links hz
    have hr := netV_right hz
    have ck : ∀ W, Below w.heap.size w W → Calls Tryd.prog 9 #[.agg #[.slice A ds.length cap, .slice B ls.length cap']] W fun e w' => e = .returned (.int .i64 0) ∧ Below W.heap.size W w' := fun W h => by
      have := net_any _ _ ds ls W (dD W h) (dL W h)
      rw [hz] at this
      exact this
    refine netSays_case A B cap cap' ds.length ls.length x y k 0 (peerF ls x y) ⟨(netT ds ls).toArray⟩ w (fun W h => ?_) ck (fun _ W h => ?_) (fun W h => ?_) (fun W h => ?_) (fun W h => ?_) (fun h => by cases h)
    · have := rnet_any _ _ ds ls W (dD W h) (dL W h)
      rw [hz] at this
      exact this
    · refine (rtext_row A B cap cap' ds ls W (dD W h) (dL W h) l10 l15 hr hp).mono fun e w' ⟨s, e1, e2, e3⟩ => ⟨?_, e3⟩
      rw [e1, ← nm_eta s, e2.out]
    · exact print_row A B cap cap' ds ls W (dD W h) (dL W h) (hDL.below h hDL.lt) l10 l15 hr hp (fun W' h' => ck W' (h.trans (h'.mono h.size)))
    · exact peer_any _ _ _ _ ls x y W (dL W h)
    · exact rpeer_any _ _ _ _ ls x y W (dL W h)
  · have hz1 : (netV ds ls == 0) = false := by simpa using hz
    have ck : ∀ W, Below w.heap.size w W → Calls Tryd.prog 9 #[.agg #[.slice A ds.length cap, .slice B ls.length cap']] W fun e w' => e = .returned (.int .i64 (netV ds ls)) ∧ Below W.heap.size W w' := fun W h => net_any _ _ ds ls W (dD W h) (dL W h)
    refine netSays_case A B cap cap' ds.length ls.length x y k (netV ds ls) (peerF ls x y) ⟨#[]⟩ w (fun W h => ?_) ck (fun h => ?_) (fun W h => ?_) (fun W h => ?_) (fun W h => ?_) (fun _ => rfl)
    · exact rnet_any _ _ ds ls W (dD W h) (dL W h)
    · rw [hz1] at h
      cases h
    · exact print_bad A B ds.length cap ls.length cap' (netV ds ls) W hz1 (fun W' h' => ck W' (h.trans (h'.mono h.size)))
    · exact peer_any _ _ _ _ ls x y W (dL W h)
    · exact rpeer_any _ _ _ _ ls x y W (dL W h)
end Go.Proofs.YtkckgoeemfjkkaaDoor
