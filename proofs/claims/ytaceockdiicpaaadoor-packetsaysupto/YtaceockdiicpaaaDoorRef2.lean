/-
  Digits of the document's answer: a text's number, if it is at most so great; else -1.
-/
import Derived.Test.YtaceockdiicpaaaDoorRef1
import Derived.Test.YtaceockdiicpaaaDoorPlain2
namespace Go.Proofs.YtaceockdiicpaaaDoor
open Go.RowKit

theorem head48 (s : ByteArray) (h : 0 < s.size) : s.data.toList.head? = some 48 ↔ (s[0].toNat : Int) = 48 := by
  rw [head_of s h]
  constructor
  · intro e
    have := Option.some.inj e
    rw [this]; rfl
  · intro e
    congr 1
    apply UInt8.toNat_inj.1
    have e2 : s[0].toNat = 48 := by omega
    rw [e2]; rfl

set_option maxHeartbeats 2000000 in
theorem digits_any (s : ByteArray) (most : Int) (w : World) (hm : s.size ≤ maxLen) :
    Calls Tryd.prog 30 #[.string s, .int .i64 most] w fun e w' => e = .returned (.int .i64 (Pk.dg most s.data.toList)) ∧ w' = w := by
  have hl : Hid (s.data.toList.length = s.size) := (Lib.size_eq s).symm
  unfold maxLen at hm
  go_enter Tryd.func30, Tryd.ntmps30
  go_wp2
  go_loop [5, 6] (fun a i => ∃ k n : Nat, k ≤ s.size ∧ k ≤ 5 ∧ i = .int .i64 k ∧ a = .int .i64 n ∧ n < 10 ^ k ∧ Pk.digs n (s.data.toList.drop k) = Pk.digs 0 s.data.toList) (fun _ i => s.size - (intOf i).toNat)
  case atStart => exact ⟨0, 0, by omega, by omega, rfl, rfl, by simp, by simp⟩
  case round =>
    obtain ⟨k, n, hk, hk5, rfl, rfl, hn, hd⟩ := hrel
    have HD : Hid (Pk.digs n (s.data.toList.drop k) = Pk.digs 0 s.data.toList) := hd
    clear hd
    by_cases hlt : k < s.size
    · by_cases hlt5 : k < 5
      · have hp : 10 ^ k ≤ 10 ^ 4 := Nat.pow_le_pow_right (by omega) (by omega)
        have hn2 : n ≤ 9999 := by omega
        have HN : Hid (n < 10 ^ k) := hn
        clear hn hp
        by_cases hlo : 48 ≤ (s[k].toNat : Int)
        · by_cases hhi : (s[k].toNat : Int) ≤ 57
          · have S : Hid (Pk.digs n (s.data.toList.drop k) = Pk.digs (10 * n + (s[k].toNat - 48)) (s.data.toList.drop (k + 1))) := digs_step s n k hlt hlo hhi
            go_wp2
            go_round
            case rel => exact ⟨k + 1, 10 * n + (s[k].toNat - 48), by omega, by omega, congrArg (Value.int .i64) (by omega), congrArg (Value.int .i64) (by omega), by have := HN.out; rw [Nat.pow_succ]; omega, S.out.symm.trans HD.out⟩
            case measure => simp [intOf]; omega
          · go_wp2
            go_ret
            rw [Pk.dg_stop most _ (by rw [← HD.out, digs_stop s n k hlt (Or.inr (by omega))])]
            exact ⟨rfl, rfl⟩
        · go_wp2
          go_ret
          rw [Pk.dg_stop most _ (by rw [← HD.out, digs_stop s n k hlt (Or.inl (by omega))])]
          exact ⟨rfl, rfl⟩
      · go_wp2_with fail
        refine (in_no _ _ _ _ (by omega)).mono ?_; rintro e w1 ⟨rfl, rfl⟩
        go_wp2
        go_ret
        rw [Pk.dg_long most _ (Or.inr (by rw [hl.out]; omega))]
        exact ⟨rfl, rfl⟩
    · by_cases h0 : 1 ≤ s.size ∧ s.size ≤ 4
      · obtain ⟨h1, h4⟩ := h0
        have E : Hid (Pk.digs 0 s.data.toList = some n) := by
          have := HD.out
          rw [digs_end s n k (by omega)] at this
          exact this.symm
        clear hn
        go_wp2_with fail
        refine (in_yes _ _ _ _ (by omega) (by omega)).mono ?_; rintro e w1 ⟨rfl, rfl⟩
        by_cases hbig : most < n
        · go_wp2
          go_ret
          rw [Pk.dg_big most _ n E.out hbig]
          exact ⟨rfl, rfl⟩
        · by_cases hone : 1 < s.size
          · by_cases hz : (s[0].toNat : Int) = 48
            · go_wp2
              go_ret
              rw [Pk.dg_nought most _ (by rw [hl.out]; omega) ((head48 s (by omega)).2 hz)]
              exact ⟨rfl, rfl⟩
            · have hzb : ((s[0].toNat : Int) == 48) = false := beq_eq_false_iff_ne.2 hz
              go_wp2
              go_ret
              rw [Pk.dg_ok most _ n (by rw [hl.out]; omega) (by rw [hl.out]; omega) (fun ⟨_, e⟩ => hz ((head48 s (by omega)).1 e)) E.out (by omega)]
              exact ⟨rfl, rfl⟩
          · go_wp2
            go_ret
            rw [Pk.dg_ok most _ n (by rw [hl.out]; omega) (by rw [hl.out]; omega) (fun ⟨e, _⟩ => hone (by rw [hl.out] at e; omega)) E.out (by omega)]
            exact ⟨rfl, rfl⟩
      · go_wp2_with fail
        refine (in_no _ _ _ _ (by omega)).mono ?_; rintro e w1 ⟨rfl, rfl⟩
        go_wp2
        go_ret
        rw [Pk.dg_long most _ (by rw [hl.out]; omega)]
        exact ⟨rfl, rfl⟩
end Go.Proofs.YtaceockdiicpaaaDoor
