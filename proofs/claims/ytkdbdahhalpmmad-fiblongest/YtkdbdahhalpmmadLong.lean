/-
  FibLongest: it returns true.
-/
import Derived.Test.YtkdbdahhalpmmadTApp
namespace Go.Proofs.Ytkdbdahhalpmmad
open Go.RowKit

theorem checkFrom_vals (xs : List Rt) : ∀ (m k : Nat), xs.length - k ≤ m → checkFrom xs k = 0 ∨ checkFrom xs k = 1 ∨ checkFrom xs k = 5
  | 0, k, h => by rw [checkFrom_end (by omega)]; simp
  | m + 1, k, h => by
    by_cases hk : k < xs.length
    · rw [checkFrom_at (List.getElem?_eq_getElem hk)]
      split
      · exact checkFrom_vals xs m (k + 1) (by omega)
      · unfold wrongAt
        split
        · split <;> simp
        · simp
    · rw [checkFrom_end (by omega)]; simp
theorem checkV_vals (xs : List Rt) : checkV xs = 0 ∨ checkV xs = 1 ∨ checkV xs = 2 ∨ checkV xs = 5 := by
  unfold checkV
  split
  · simp
  · rcases checkFrom_vals xs xs.length 0 (by omega) with h | h | h <;> simp [h]

set_option maxHeartbeats 4000000 in
set_option maxRecDepth 100000 in
theorem longest_any (vl : Value) (l : List Rt) (d q : Int) (w : World) (hl : Hid (Routes w.heap.size w vl l)) :
    Calls Try.prog 7 #[vl, .int .i64 d, .int .i64 q] w fun e w' => e = .returned (.bool true) ∧ Below w.heap.size w w' := by
  have D0 := Below.al (Below.refl w.heap.size w) (.cells #[.int .i64 8, .int .i64 1, .int .i64 2, .int .i64 12, .int .i64 2, .int .i64 3] 64)
  have L1 : Hid (Calls Try.prog 33 #[.slice (some ⟨w.heap.size, 0, none⟩) 2 2, .int .i64 13] (w.alloc (.cells #[.int .i64 8, .int .i64 1, .int .i64 2, .int .i64 12, .int .i64 2, .int .i64 3] 64)) fun e w' => e = .returned (.tuple #[.int .i64 3, .bool true]) ∧ Below (w.alloc (.cells #[.int .i64 8, .int .i64 1, .int .i64 2, .int .i64 12, .int .i64 2, .int .i64 3] 64)).heap.size (w.alloc (.cells #[.int .i64 8, .int .i64 1, .int .i64 2, .int .i64 12, .int .i64 2, .int .i64 3] 64)) w') := by
    have := out_any 13 _ (two_routes w)
    rw [show outN [⟨8, 1, 2⟩, ⟨12, 2, 3⟩] 13 = 3 by decide, show outB [⟨8, 1, 2⟩, ⟨12, 2, 3⟩] 13 = true by decide] at this
    exact this
  have CK : Hid (∀ w', Below w.heap.size w w' → Calls Try.prog 34 #[vl] w' fun e w'' => e = .returned (.int .i64 (checkV l)) ∧ Below w'.heap.size w' w'') := fun w' h => check_any w' ((hl.out.below h).mono h.size)
  have HV : Hid (checkV l = 0 → l.length ≤ 8) := checkV_len
  have hv := checkV_vals l
  generalize checkV l = c at *
  go_enter Try.func7, Try.ntmps7
  go_wp2_with fail
  refine L1.out.mono ?_
  rintro e w1 ⟨rfl, hb1⟩
  have D1 := chn hb1 D0
  clear L1 hb1 D0
  go_wp2_with fail
  refine (CK.out _ D1).mono ?_
  rintro e w2 ⟨rfl, hb2⟩
  have D2 := chn hb2 D1
  clear CK hb2 D1
  rcases hv with rfl | rfl | rfl | rfl
  · cases h0 : decide (d < 0)
    · cases h1 : decide (15 < d)
      · have hd : 0 ≤ d ∧ d < 16 := ⟨by simp at h0; omega, by simp at h1; omega⟩
        have hlen := HV.out rfl
        have b1 := Int.emod_nonneg q (b := 4) (by omega)
        have b2 := Int.emod_lt_of_pos q (b := 4) (by omega)
        have OL : Hid (∀ w', Below w.heap.size w w' → Calls Try.prog 33 #[vl, .int .i64 d] w' fun e w'' => e = .returned (.tuple #[.int .i64 (outN l d), .bool (outB l d)]) ∧ Below w'.heap.size w' w'') := fun w' h => out_any d w' ((hl.out.below h).mono h.size)
        have RS : Hid (∀ w', Calls Try.prog 10 #[.int .i64 q, .int .i64 4] w' fun e w'' => e = .returned (.int .i64 (q % 4)) ∧ w'' = w') := fun w' => rest_any w' q 4 (by omega) (by omega)
        generalize q % 4 = k at *
        have E1 := out_ahead l hd ⟨b1, b2⟩
        have E2 := out_last l hd ⟨b1, b2⟩
        have A1 : Hid (∀ w2 : World, Below w.heap.size w w2 → ∃ v' w', (Builtin.append_ #[60, 60] 60 #[.slice (some ⟨w2.heap.size, 0, none⟩) 1 1, vl]).run Try.prog (w2.alloc (.cells #[.int .i64 d, .int .i64 4, .int .i64 k] 64)) = .ok v' w' ∧ Hid (Calls Try.prog 33 #[v', .int .i64 d] w' fun e w'' => e = .returned (.tuple #[.int .i64 k, .bool true]) ∧ Below w'.heap.size w' w'') ∧ Below w.heap.size w w') := fun w2 h => by
          have D := Below.al h (.cells #[.int .i64 d, .int .i64 4, .int .i64 k] 64)
          have o := one_own w2 ⟨d, 4, k⟩
          obtain ⟨v', w', h1, h2, h3⟩ := app_routes 60 o ((hl.out.below D).mono D.size) (by simp; omega) (by simp)
          refine ⟨v', w', h1, ?_, Below.app D o h3 h.size (by simp)⟩
          have := out_any d w' (Routes.own h2)
          rw [show [(⟨d, 4, k⟩ : Rt)] ++ l = ⟨d, 4, k⟩ :: l from rfl, E1.1, E1.2] at this
          exact this
        have CL : Hid (∀ w', Below w.heap.size w w' → Calls Try.prog 35 #[vl] w' fun e w'' => ∃ v', e = .returned v' ∧ Hid (w''.ownsRow w'.heap.size 64 3 v' l.length (cellsT l)) ∧ Below w'.heap.size w' w'') := fun w' h => clone_any w' ((hl.out.below h).mono h.size) (by omega)
        have A2 : Hid (∀ (W w2 : World) (v : Value), Below w.heap.size w w2 → w.heap.size ≤ W.heap.size → W.heap.size ≤ w2.heap.size → w2.ownsRow W.heap.size 64 3 v l.length (cellsT l) → ∃ v' w', (Builtin.append_ #[60, 60] 60 #[v, .slice (some ⟨w2.heap.size, 0, none⟩) 1 1]).run Try.prog (w2.alloc (.cells #[.int .i64 0, .int .i64 0, .int .i64 k] 64)) = .ok v' w' ∧ Hid (Calls Try.prog 33 #[v', .int .i64 d] w' fun e w'' => e = .returned (.tuple #[.int .i64 (outN (l ++ [⟨0, 0, k⟩]) d), .bool true]) ∧ Below w'.heap.size w' w'') ∧ Below w.heap.size w w') := fun W w2 v h hW hW2 ho => by
          have D := Below.al h (.cells #[.int .i64 0, .int .i64 0, .int .i64 k] 64)
          have o := ownsRow_below ho ((Below.refl _ _).alloc (Nat.le_refl _) (.cells #[.int .i64 0, .int .i64 0, .int .i64 k] 64))
          obtain ⟨v', w', h1, h2, h3⟩ := app_routes 60 o (one_routes w2 ⟨0, 0, k⟩ 64) (by simp; omega) (by simp; omega)
          refine ⟨v', w', h1, ?_, Below.app D o h3 hW (by simp; omega)⟩
          have := out_any d w' (Routes.own h2)
          rw [E2.1] at this
          exact this
        have FIN : Hid (outN (l ++ [⟨0, 0, k⟩]) d = if outB l d then outN l d else k) := by
          show _ = _
          cases hb : outB l d
          · rw [E2.2.2 hb]; rfl
          · rw [E2.2.1 hb]; rfl
        clear E1 E2 hl hlen hd HV b1 b2
        generalize outN (l ++ [⟨0, 0, k⟩]) d = m2 at *
        generalize outN l d = n1 at *
        generalize outB l d = ok1 at *
        go_wp2_with fail
        refine (OL.out _ D2).mono ?_
        rintro e w3 ⟨rfl, hb3⟩
        have D3 := chn hb3 D2
        clear OL hb3 D2
        go_wp2_with fail
        refine (RS.out _).mono ?_
        rintro e w4 ⟨rfl, rfl⟩
        obtain ⟨v5, w5, r5, O5, D5⟩ := A1.out _ D3
        clear A1
        go_wp2_with (at_builtin; refine append_run rfl _ _ 60 rfl rfl rfl r5 ?_)
        refine O5.out.mono ?_
        rintro e w6 ⟨rfl, hb6⟩
        have D6 := chn hb6 D5
        clear O5 hb6 D5 r5
        go_wp2_with fail
        refine (CL.out _ D6).mono ?_
        rintro e w7 ⟨v7, rfl, o7, hb7⟩
        have D7 := chn hb7 D6
        obtain ⟨v8, w8, r8, O8, D8⟩ := A2.out w6 w7 v7 D7 D6.size hb7.size o7.out
        clear A2 CL hb7 o7
        go_wp2_with (at_builtin; refine append_run rfl _ _ 60 rfl rfl rfl r8 ?_)
        refine O8.out.mono ?_
        rintro e w9 ⟨rfl, hb9⟩
        have D9 := chn hb9 D8
        clear O8 hb9 D8 r8 D7 D6 D3
        cases ok1
        · obtain rfl : m2 = k := FIN.out
          clear FIN
          cases hq : (m2 == n1)
          · go_wp2_with fail
            go_ret
            exact ⟨by simp, D9⟩
          · go_wp2_with fail
            go_ret
            exact ⟨by simp, D9⟩
        · obtain rfl : m2 = n1 := FIN.out
          clear FIN
          go_wp2_with fail
          go_ret
          exact ⟨by simp, D9⟩
      · go_wp2_with fail
        go_ret
        exact ⟨rfl, D2⟩
    · go_wp2_with fail
      go_ret
      exact ⟨rfl, D2⟩
  · go_wp2_with fail
    go_ret
    exact ⟨rfl, D2⟩
  · go_wp2_with fail
    go_ret
    exact ⟨rfl, D2⟩
  · go_wp2_with fail
    go_ret
    exact ⟨rfl, D2⟩
end Go.Proofs.Ytkdbdahhalpmmad
