/-
  MatchBuilds: it returns true, whatever is handed in.
-/
import Derived.Test.YtgcimcpcnoojnaaBLaw
namespace Go.Proofs.Ytgcimcpcnoojnaa
open Go.RowKit Go.Maps

section
variable {base a M vars most : Nat} {w w' : World} {ns : List Nd}
theorem Ar.notMine (h : Ar base a M vars most w ns) {i : Nat} (hi : i < base) : ¬ (ca base a M vars most).mine i := by
  have h1 := h.lowA
  have h2 := h.lowM
  rintro (e | e | e | e | e | e)
  · have : i = a := e
    omega
  · have : i = a := e
    omega
  · have : i = M := e
    omega
  · cases e
  · cases e
  · cases e
theorem Ar.locOld (h : Ar base a M vars most w ns) {i : Nat} {cs : Array Value} {t : TypeId} (hi : i < base) (hb : w.heap[i]? = some (.cells cs t)) : Loc (ca base a M vars most) w i cs t := by
  obtain ⟨_, _, rb, rl⟩ := h.row
  exact ⟨⟨(Array.getElem?_eq_some_iff.1 hb).1, h.notMine hi, by show i ≠ rowOf w a; omega⟩, hb⟩
theorem Ar.kp_below (h : Ar base a M vars most w ns) (k : Kp (ca base a M vars most) w w') : Below base w w' := by
  obtain ⟨_, _, rb, rl⟩ := h.row
  have h1 := h.lowA
  have h2 := h.lta
  exact ⟨k.os, k.tape, k.output, k.size, fun i hi => k.blk i (by omega) (h.notMine hi) (by show i ≠ rowOf w a; omega)⟩
end

set_option maxHeartbeats 4000000 in
set_option maxRecDepth 100000 in
theorem builds_any (sa sb sc sd : Nat) (v : Int) (w : World) (ha : sa < 65536) (hb : sb < 65536) (hc : sc < 256) (hd : sd < 256) :
    Calls Try.prog 4 #[mt sa sb sc sd, .int .i64 v] w fun e w' => e = .returned (.bool true) ∧ Below w.heap.size w w' := by
  have N1 : Go.RowKit.Hid (∀ w : World, Calls Try.prog 9 #[.int .i64 14, .int .i64 40000] w fun e w' => ∃ a M, e = .returned (.tuple #[.pointer (some ⟨a, 0, none⟩), .int .i64 0]) ∧ Ar w.heap.size a M 14 40000 w' [(14, 0, 0), (14, 1, 1)] ∧ Below w.heap.size w w') := fun w => new_ok (v := 14) (m := 40000) w (by omega) (by omega) (by omega) (by omega)
  have hb0 : (w.alloc (.cells #[.int .u16 (sa : Int), .int .u16 (sb : Int), .int .u8 (sc : Int), .int .u8 (sd : Int)] 49)).heap[w.heap.size]? = some (.cells #[.int .u16 (sa : Int), .int .u16 (sb : Int), .int .u8 (sc : Int), .int .u8 (sd : Int)] 49) := Go.heap_alloc_new _ _
  have hz : (w.alloc (.cells #[.int .u16 (sa : Int), .int .u16 (sb : Int), .int .u8 (sc : Int), .int .u8 (sd : Int)] 49)).heap.size = w.heap.size + 1 := by simp
  have D0 := Below.alloc' (Below.refl w.heap.size w) (.cells #[.int .u16 (sa : Int), .int .u16 (sb : Int), .int .u8 (sc : Int), .int .u8 (sd : Int)] 49)
  go_enter Try.func4, Try.ntmps4
  go_wp2_with fail
  refine (N1.out _).mono ?_
  rintro e w2 ⟨a, M, rfl, A2, hb2⟩
  have D2 := chain hb2 D0
  have blk2 : w2.heap[w.heap.size]? = some (.cells #[.int .u16 (sa : Int), .int .u16 (sb : Int), .int .u8 (sc : Int), .int .u8 (sd : Int)] 49) := (hb2.block _ (by rw [hz]; omega)).trans hb0
  rw [hz] at A2
  have L2 := A2.locOld (by omega) blk2
  clear N1 hb0 hb2 D0 hz
  obtain ⟨c0, c1, c2, c3⟩ := L2.four
  have BM : Go.RowKit.Hid (Calls Try.prog 20 #[.pointer (some ⟨a, 0, none⟩), mt sa sb sc sd] w2 (MkPost (w.heap.size + 1) a M 14 40000 w2 [(14, 0, 0), (14, 1, 1)] 44 0 (phi sa sb sc sd))) := build_match A2 (Nat.le_refl _) sa sb sc sd ha hb hc hd
  go_wp2_with fail
  refine BM.out.mono ?_
  rintro e w3 ⟨ns3, A3, K3, X3, l3, hres⟩
  have L3 := L2.kp K3
  have D3 := D2.trans ((A2.kp_below K3).mono (by omega))
  clear BM c0 c1 c2 c3 L2 A2 K3 D2 blk2
  simp only [List.length_cons, List.length_nil] at l3
  obtain ⟨f, rfl, lt3, _, ev3⟩ : ∃ f : Nat, e = .returned (.tuple #[.int .i64 (f : Int), .int .i64 0]) ∧ f < ns3.length ∧ 0 ≤ nv ns3 f ∧ ∀ x, ev ns3 f x = phi sa sb sc sd x := by
    rcases hres with h | ⟨_, h⟩
    · exact h
    · omega
  have HE : Go.RowKit.Hid (Calls Try.prog 21 #[.pointer (some ⟨a, 0, none⟩), .int .i64 (f : Int), .func (.func 22) #[] #[.pointer (some ⟨w.heap.size, 0, none⟩)]] w3 fun e w' => e = .returned (.bool true) ∧ Ar (w.heap.size + 1) a M 14 40000 w' ns3 ∧ Kp (ca (w.heap.size + 1) a M 14 40000) w3 w') := held_any A3 f w.heap.size lt3 sa sb sc sd ha hb hc hd ev3 L3
  clear hres ev3 X3
  go_wp2_with fail
  refine HE.out.mono ?_
  rintro e w4 ⟨rfl, A4, K4⟩
  have L4 := L3.kp K4
  have D4 := D3.trans ((A3.kp_below K4).mono (by omega))
  have blk4 := L4.blk
  have lt4 : w.heap.size < w4.heap.size := L4.out.lt
  clear HE A3 L3 D3 A4 K4 L4
  by_cases hv : v < 1 ∨ 16 < v
  · have NB : Go.RowKit.Hid (∀ w, Calls Try.prog 9 #[.int .i64 v, .int .i64 40] w fun e w' => e = .returned (.tuple #[.pointer none, .int .i64 1]) ∧ w' = w) := fun w => new_bad v w hv
    clear hv
    go_wp2_with fail
    refine (NB.out _).mono ?_
    rintro e w5 ⟨rfl, rfl⟩
    go_wp2_with fail
    go_ret
    exact ⟨by simp, D4⟩
  · obtain ⟨n, rfl⟩ : ∃ n : Nat, v = n := ⟨v.toNat, by omega⟩
    have NG : Go.RowKit.Hid (∀ w : World, Calls Try.prog 9 #[.int .i64 (n : Int), .int .i64 40] w fun e w' => ∃ a M, e = .returned (.tuple #[.pointer (some ⟨a, 0, none⟩), .int .i64 0]) ∧ Ar w.heap.size a M n 40 w' [(n, 0, 0), (n, 1, 1)] ∧ Below w.heap.size w w') := fun w => new_ok (v := n) (m := 40) w (by omega) (by omega) (by omega) (by omega)
    go_wp2_with fail
    refine (NG.out _).mono ?_
    rintro e w5 ⟨a', M', rfl, A5, hb5⟩
    have D5 := chain hb5 D4
    have L5 := A5.locOld lt4 ((hb5.block _ lt4).trans blk4)
    obtain ⟨c0, c1, c2, c3⟩ := L5.four
    clear NG hb5 D4 blk4
    by_cases h14 : n < 14
    · have BF : Go.RowKit.Hid (Calls Try.prog 20 #[.pointer (some ⟨a', 0, none⟩), mt sa sb sc sd] w5 fun e w' => e = .returned (.tuple #[.int .i64 0, .int .i64 1]) ∧ Below w5.heap.size w5 w') := build_few A5 h14 sa sb sc sd
      have t : decide ((n : Int) < 14) = true := by simp; omega
      go_wp2_with fail
      refine BF.out.mono ?_
      rintro e w6 ⟨rfl, hb6⟩
      have D6 := chain hb6 D5
      clear hb6 D5 A5 L5 c0 c1 c2 c3 BF
      go_wp2_with fail
      go_ret
      exact ⟨by simp, D6⟩
    · have BF : Go.RowKit.Hid (Calls Try.prog 20 #[.pointer (some ⟨a', 0, none⟩), mt sa sb sc sd] w5 (MkPost w4.heap.size a' M' n 40 w5 [(n, 0, 0), (n, 1, 1)] 44 0 (phi sa sb sc sd))) := build_match A5 (by omega) sa sb sc sd ha hb hc hd
      have t : decide ((n : Int) < 14) = false := by simp; omega
      go_wp2_with fail
      refine BF.out.mono ?_
      rintro e w6 hp6
      obtain ⟨ns6, v6, er6, rfl, A6, K6, X6, l6, d6⟩ := hp6.pair
      have D6 := D5.trans ((A5.kp_below K6).mono (by omega))
      clear hp6 D5 A5 L5 c0 c1 c2 c3 BF A6 K6 X6 l6
      rcases d6.out with ⟨rfl, f6, rfl, _⟩ | ⟨rfl, rfl, _⟩
      · go_wp2_with fail
        go_ret
        exact ⟨by simp, D6⟩
      · go_wp2_with fail
        go_ret
        exact ⟨by simp, D6⟩
end Go.Proofs.Ytgcimcpcnoojnaa


