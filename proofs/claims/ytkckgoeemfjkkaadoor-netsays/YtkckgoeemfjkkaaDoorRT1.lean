/-
  The document's answer on nets: numbers with commas between.
-/
import Derived.Test.YtkckgoeemfjkkaaDoorPW4
import Derived.Test.YtkckgoeemfjkkaaDoorR4
namespace Go.Proofs.YtkckgoeemfjkkaaDoor
open Go.RowKit

set_option maxHeartbeats 4000000 in
set_option maxRecDepth 100000 in
theorem commas_any (v : Value) (l : List Int) (w : World) (hB : Hid (SlAt w.heap.size w 1 IsI v l)) (hl : l.length ≤ 8) (hx : Hid (∀ x ∈ l, 0 ≤ x ∧ x < 100)) :
    Calls Tryd.prog 17 #[v] w fun e w' => ∃ s : ByteArray, e = .returned (.string s) ∧ Hid (s.data.toList = numsT l) ∧ s.size ≤ 24 ∧ w' = w := by
  obtain ⟨A, cap, rfl, _, h1, h2, _⟩ := id hB.out
  unfold maxLen at h2
  go_enter Tryd.func17, Tryd.ntmps17
  go_wp2_with fail
  go_loop [3, 4] (fun o i => ∃ (k : Nat) (s : ByteArray), o = .string s ∧ i = .int .i64 (k : Int) ∧ k ≤ l.length ∧ s.size ≤ 3 * k ∧ Hid (s.data.toList = Lib.join ((l.take k).map dcB) [44])) (fun _ i => l.length - (intOf i).toNat)
  case atStart => exact ⟨0, ⟨#[]⟩, rfl, rfl, by omega, Nat.le_refl _, rfl⟩
  case round =>
    obtain ⟨k, s, rfl, rfl, hk, hs, HS⟩ := hrel
    by_cases hlt : k < l.length
    · obtain ⟨x, hxk⟩ : ∃ x, l[k]? = some x := ⟨_, List.getElem?_eq_getElem hlt⟩
      obtain ⟨b, o, rfl, _, hcell⟩ := Ints.at hB.out hxk
      have c0 := hcell k x hxk
      have hx0 := hx.out x (List.mem_of_getElem? hxk)
      obtain ⟨x1, hx1, lx1, I1⟩ := itoa_ex x hx0.1 hx0.2
      have htk : (l.take (k + 1)).map dcB = (l.take k).map dcB ++ [dcB x] := by rw [List.take_add_one, hxk, List.map_append]; rfl
      have k1 : (0 : Int) ≤ (k : Int) := by omega
      have k2 : (k : Int) < (l.length : Int) := by omega
      by_cases h0 : k = 0
      · subst h0
        rw [Nat.add_zero] at c0
        obtain ⟨s1, e1, hs1⟩ := sum_ex s x1 (by omega)
        have HV : Hid (s1.data.toList = Lib.join ((l.take (0 + 1)).map dcB) [44]) := by
          show _ = _
          rw [hs1.out, app_toList, HS.out, hx1.out, htk]
          simp [Lib.join_nil, Lib.join_one]
        have hv : s1.size ≤ 3 * (0 + 1) := by rw [hs1.out, ByteArray.size_append]; omega
        clear hxk hcell hB hx htk hs1 hx1 HS
        go_wp2_with (go_at_call 15; refine (I1.out _).mono ?_; rintro e w' ⟨rfl, rfl⟩)
        go_round
        case rel => exact ⟨0 + 1, s1, rfl, by go_num, by omega, hv, HV⟩
        case measure => simp [intOf]; omega
      · have t0 : decide ((0 : Int) < (k : Int)) = true := by simp; omega
        obtain ⟨s1, e1, hs1⟩ := sum_ex s ⟨#[44]⟩ (by show s.size + 1 ≤ _; omega)
        have z1 : s1.size ≤ 3 * k + 1 := by rw [hs1.out, ByteArray.size_append]; show s.size + 1 ≤ _; omega
        obtain ⟨s2, e2, hs2⟩ := sum_ex s1 x1 (by omega)
        have HV : Hid (s2.data.toList = Lib.join ((l.take (k + 1)).map dcB) [44]) := by
          show _ = _
          rw [hs2.out, app_toList, hs1.out, app_toList, HS.out, hx1.out, htk, join_snoc _ _ _ (by
            intro e
            have := congrArg List.length e
            rw [List.length_map, List.length_take, List.length_nil] at this
            omega)]
        have hv : s2.size ≤ 3 * (k + 1) := by rw [hs2.out, ByteArray.size_append]; omega
        have p0 : 0 < k := by omega
        clear hxk hcell hB hx htk hs1 hs2 hx1 HS
        go_wp2_with (go_at_call 15; refine (I1.out _).mono ?_; rintro e w' ⟨rfl, rfl⟩)
        go_round
        case rel => exact ⟨k + 1, s2, rfl, by go_num, by omega, hv, HV⟩
        case measure => simp [intOf]; omega
    · have HV : Hid (s.data.toList = numsT l) := by
        show _ = _
        rw [HS.out, List.take_of_length_le (by omega)]
        rfl
      go_wp2_with fail
      go_ret
      exact ⟨s, rfl, HV, by omega, rfl⟩
end Go.Proofs.YtkckgoeemfjkkaaDoor
