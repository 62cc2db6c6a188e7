/-
  Package net: names.
-/
import Derived.Test.YthioedgnambomaaNA
import Derived.Lib.Bytealg
namespace Go.Proofs.Ythioedgnambomaa
open Go.RowKit

theorem all_dropN (s : ByteArray) (k : Nat) (h : k < s.size) : (s.data.toList.drop k).all nameB = (nameB s[k] && (s.data.toList.drop (k + 1)).all nameB) := by
  rw [List.drop_eq_getElem_cons (by rw [← Lib.size_eq]; exact h), List.all_cons]
  rfl
set_option maxHeartbeats 4000000 in
theorem isName_loop (s : ByteArray) (w : World) (h1 : 1 ≤ s.size) (h8 : s.size ≤ 8) (res : Bool) (hres : Hid (s.data.toList.all nameB = res)) :
    Calls Try.prog 44 #[.string s] w fun e w' => e = .returned (.bool res) ∧ w' = w := by
  have t1 : decide ((s.size : Int) < 1) = false := by simp; omega
  have t8 : decide ((8 : Int) < (s.size : Int)) = false := by simp; omega
  go_enter Try.func44, Try.ntmps44
  go_wp2_with fail
  go_loop [16] (fun i => ∃ k : Nat, k ≤ s.size ∧ i = .int .i64 k ∧ Hid ((s.data.toList.drop k).all nameB = res)) (fun i => s.size - (intOf i).toNat)
  case atStart => exact ⟨0, by omega, rfl, hres⟩
  case round =>
    obtain ⟨k, hk, rfl, HD⟩ := hrel
    by_cases hlt : k < s.size
    · have HS : Hid ((s.data.toList.drop k).all nameB = (nameB s[k] && (s.data.toList.drop (k + 1)).all nameB)) := all_dropN s k hlt
      have HN : Hid (nameB s[k] = ((decide (97 ≤ (s[k].toNat : Int)) && decide ((s[k].toNat : Int) ≤ 122)) || (decide (48 ≤ (s[k].toNat : Int)) && decide ((s[k].toNat : Int) ≤ 57)))) := rfl
      cases a1 : decide (97 ≤ (s[k].toNat : Int)) <;> cases a2 : decide ((s[k].toNat : Int) ≤ 122) <;> cases a3 : decide (48 ≤ (s[k].toNat : Int)) <;> cases a4 : decide ((s[k].toNat : Int) ≤ 57)
      all_goals
        rw [a1, a2, a3, a4] at HN
        first
          | (have HV : Hid ((s.data.toList.drop (k + 1)).all nameB = res) := by
               show _ = _
               rw [← HD.out, HS.out, HN.out]
               rfl
             clear HN HS HD
             go_wp2_with fail
             go_round
             case rel => exact ⟨k + 1, by omega, congrArg (Value.int .i64) (by omega), HV⟩
             case measure => simp [intOf]; omega)
          | (have HV : Hid (res = false) := by
               show _ = _
               rw [← HD.out, HS.out, HN.out]
               rfl
             clear HN HS HD
             go_wp2_with fail
             go_ret
             exact ⟨by rw [HV.out]; rfl, rfl⟩)
    · have HV : Hid (res = true) := by
        show _ = _
        rw [← HD.out, List.drop_eq_nil_of_le (by rw [← Lib.size_eq]; omega)]
        rfl
      go_wp2_with fail
      go_ret
      exact ⟨by rw [HV.out]; rfl, rfl⟩
theorem isName_any (s : ByteArray) (w : World) : Calls Try.prog 44 #[.string s] w fun e w' => e = .returned (.bool (nameOk s)) ∧ w' = w := by
  unfold nameOk
  by_cases h1 : 1 ≤ s.size
  · by_cases h8 : s.size ≤ 8
    · simp only [h1, h8, decide_true, Bool.true_and]
      exact isName_loop s w h1 h8 _ rfl
    · simp only [h1, h8, decide_true, decide_false, Bool.and_false, Bool.false_and]
      have t1 : decide ((s.size : Int) < 1) = false := by simp; omega
      have t8 : decide ((8 : Int) < (s.size : Int)) = true := by simp; omega
      go_enter Try.func44, Try.ntmps44
      go_wp2_with fail
      go_ret
      exact ⟨rfl, rfl⟩
  · simp only [h1, decide_false, Bool.false_and]
    have t1 : decide ((s.size : Int) < 1) = true := by simp; omega
    go_enter Try.func44, Try.ntmps44
    go_wp2_with fail
    go_ret
    exact ⟨rfl, rfl⟩
end Go.Proofs.Ythioedgnambomaa
