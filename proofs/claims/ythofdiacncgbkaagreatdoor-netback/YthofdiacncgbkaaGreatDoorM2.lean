/-
  strings.Cut at a separator of one byte, and number.Parse: what they return; no memory that was there turns.
-/
import Derived.Test.YthofdiacncgbkaaGreatDoorM1
import Derived.Test.YthofdiacncgbkaaGreatDoorShelf
import Derived.Test.YthofdiacncgbkaaGreatDoorMt1
namespace Go.Proofs.YthofdiacncgbkaaGreatDoor
open Go.RowKit

theorem extract_hit (s : ByteArray) (c : UInt8) (a b : List UInt8) (h : s.data.toList = a ++ c :: b) :
    s.extract 0 a.length = ⟨a.toArray⟩ ∧ s.extract (a.length + 1) s.size = ⟨b.toArray⟩ := by
  have hs : s.size = a.length + (b.length + 1) := by rw [Lib.size_eq, h]; simp
  constructor
  · rw [Lib.extract_eq, h]; simp
  · rw [Lib.extract_eq, h, hs]
    have e1 : List.drop (a.length + 1) (a ++ c :: b) = b := by
      rw [List.drop_append]; simp
    rw [e1, List.take_of_length_le (by omega)]

set_option maxHeartbeats 1000000 in
theorem cut0_none (s : ByteArray) (c : UInt8) (w : World) (h : Pk.brk c s.data.toList = none) :
    Calls Tryz.prog 28 #[.string s, .string ⟨#[c]⟩] w fun e w' => e = .returned (.tuple #[.string s, .string ⟨#[]⟩, .bool false]) ∧ ∃ n, w' = w.drewN n := by
  have K : Hid (∀ w, Calls Tryz.prog 57 #[.string s, .string ⟨#[c]⟩] w fun e w' => e = .returned (.int .i64 (-1)) ∧ w' = w) := fun w => by
    have := Tryz.stringslite_Index_one s c w
    rw [Pk.indexByte_none c _ h] at this
    exact this
  clear h
  go_enter Tryz.func28, Tryz.ntmps28
  go_wp2_with fail
  refine (K.out _).mono ?_
  rintro e w1 ⟨rfl, rfl⟩
  go_wp2
  go_ret3
  exact ⟨rfl, 0, rfl⟩

theorem ret_cut {x y x' y' : ByteArray} {b : Bool} (h : x = x') (k : y = y') : Ending.returned (.tuple #[.string x, .string y, .bool b]) = .returned (.tuple #[.string x', .string y', .bool b]) := by rw [h, k]

set_option maxHeartbeats 1000000 in
theorem cut0_some (s : ByteArray) (c : UInt8) (a b : List UInt8) (w : World) (hm : s.size ≤ maxLen) (h : Pk.brk c s.data.toList = some (a, b)) :
    Calls Tryz.prog 28 #[.string s, .string ⟨#[c]⟩] w fun e w' => e = .returned (.tuple #[.string ⟨a.toArray⟩, .string ⟨b.toArray⟩, .bool true]) ∧ ∃ n, w' = w.drewN n := by
  obtain ⟨hl, hn⟩ := Pk.brk_some c _ a b h
  have K : Hid (∀ w, Calls Tryz.prog 57 #[.string s, .string ⟨#[c]⟩] w fun e w' => e = .returned (.int .i64 (a.length : Int)) ∧ w' = w) := fun w => by
    have := Tryz.stringslite_Index_one s c w
    rw [hl, Pk.indexByte_at c a b hn] at this
    exact this
  have E : Hid (s.extract 0 a.length = ⟨a.toArray⟩ ∧ s.extract (a.length + 1) s.size = ⟨b.toArray⟩) := extract_hit s c a b hl
  have hs : s.size = a.length + (b.length + 1) := by rw [Lib.size_eq, hl]; simp
  unfold maxLen at hm
  generalize a.length = i at *
  have c1 : (0 : Int) ≤ ↑i := by omega
  have c2 : (↑i : Int) ≤ ↑s.size := by omega
  have c3 : (0 : Int) ≤ ↑i + 1 := by omega
  have c4 : (↑i + 1 : Int) ≤ ↑s.size := by omega
  have hi : i < s.size := by omega
  clear h hl hs
  go_enter Tryz.func28, Tryz.ntmps28
  go_wp2_with fail
  refine (K.out _).mono ?_
  rintro e w1 ⟨rfl, rfl⟩
  go_wp2_with fail
  go_quiet (fail)
  go_wp2
  go_ret3
  exact ⟨ret_cut E.out.1 E.out.2, nq, rfl⟩

set_option maxHeartbeats 1000000 in
theorem cut_none (s : ByteArray) (c : UInt8) (w : World) (h : Pk.brk c s.data.toList = none) :
    Calls Tryz.prog 9 #[.string s, .string ⟨#[c]⟩] w fun e w' => e = .returned (.tuple #[.string s, .string ⟨#[]⟩, .bool false]) ∧ ∃ n, w' = w.drewN n := by
  have K : Hid (Pk.brk c s.data.toList = none) := h
  clear h
  go_enter Tryz.func9, Tryz.ntmps9
  go_wp2_with fail
  refine (cut0_none s c _ K.out).mono ?_
  rintro e w1 ⟨rfl, n, rfl⟩
  go_wp2
  go_ret3
  exact ⟨rfl, n, rfl⟩

set_option maxHeartbeats 1000000 in
theorem cut_some (s : ByteArray) (c : UInt8) (a b : List UInt8) (w : World) (hm : s.size ≤ maxLen) (h : Pk.brk c s.data.toList = some (a, b)) :
    Calls Tryz.prog 9 #[.string s, .string ⟨#[c]⟩] w fun e w' => e = .returned (.tuple #[.string ⟨a.toArray⟩, .string ⟨b.toArray⟩, .bool true]) ∧ ∃ n, w' = w.drewN n := by
  have K : Hid (Pk.brk c s.data.toList = some (a, b)) := h
  have M : Hid (s.size ≤ maxLen) := hm
  clear h hm
  go_enter Tryz.func9, Tryz.ntmps9
  go_wp2_with fail
  refine (cut0_some s c a b _ M.out K.out).mono ?_
  rintro e w1 ⟨rfl, n, rfl⟩
  go_wp2
  go_ret3
  exact ⟨rfl, n, rfl⟩

theorem head_of (s : ByteArray) (h : 0 < s.size) : s.data.toList.head? = some s[0] := by
  rw [List.head?_eq_getElem?, List.getElem?_eq_getElem (by rw [← Lib.size_eq]; exact h)]
  rfl
theorem drop_of (s : ByteArray) (k : Nat) (h : k < s.size) : s.data.toList.drop k = s[k] :: s.data.toList.drop (k + 1) := by
  rw [List.drop_eq_getElem_cons (by rw [← Lib.size_eq]; exact h)]
  rfl

set_option maxHeartbeats 1000000 in
theorem number_empty (s : ByteArray) (w : World) (h : s.size = 0) :
    Calls Tryz.prog 97 #[.string s] w fun e w' => e = .returned (.tuple #[.int .i64 0, .bool false]) ∧ w' = w := by
  obtain rfl : s = ⟨#[]⟩ := by
    apply ByteArray.ext
    exact Array.eq_empty_of_size_eq_zero h
  clear h
  go_enter Tryz.func97, Tryz.ntmps97
  go_wp2
  go_ret2
  exact ⟨rfl, rfl⟩

theorem not_empty (s : ByteArray) (h : 0 < s.size) : ¬ s.toList = [] := by
  intro e
  rw [Lib.toList_data] at e
  have k := Lib.size_eq s
  rw [e, List.length_nil] at k
  omega

set_option maxHeartbeats 1000000 in
theorem number_long (s : ByteArray) (w : World) (h : 4 < s.size) (hm : s.size ≤ maxLen) :
    Calls Tryz.prog 97 #[.string s] w fun e w' => e = .returned (.tuple #[.int .i64 0, .bool false]) ∧ w' = w := by
  have hne := not_empty s (by omega)
  unfold maxLen at hm
  go_enter Tryz.func97, Tryz.ntmps97
  go_wp2
  go_ret2
  exact ⟨rfl, rfl⟩

set_option maxHeartbeats 1000000 in
theorem number_nought (s : ByteArray) (w : World) (h : 1 < s.size) (h4 : s.size ≤ 4) (hz : (s[0].toNat : Int) = 48) :
    Calls Tryz.prog 97 #[.string s] w fun e w' => e = .returned (.tuple #[.int .i64 0, .bool false]) ∧ w' = w := by
  have hne := not_empty s (by omega)
  go_enter Tryz.func97, Tryz.ntmps97
  go_wp2
  go_ret2
  exact ⟨rfl, rfl⟩

theorem digs_step (s : ByteArray) (n k : Nat) (h : k < s.size) (h1 : 48 ≤ (s[k].toNat : Int)) (h2 : (s[k].toNat : Int) ≤ 57) :
    Pk.digs n (s.data.toList.drop k) = Pk.digs (10 * n + (s[k].toNat - 48)) (s.data.toList.drop (k + 1)) := by
  rw [drop_of s k h, Pk.digs, if_pos (by omega)]
theorem digs_stop (s : ByteArray) (n k : Nat) (h : k < s.size) (h1 : (s[k].toNat : Int) < 48 ∨ 57 < (s[k].toNat : Int)) :
    Pk.digs n (s.data.toList.drop k) = none := by
  rw [drop_of s k h, Pk.digs, if_neg (by omega)]
theorem digs_end (s : ByteArray) (n k : Nat) (h : s.size ≤ k) : Pk.digs n (s.data.toList.drop k) = some n := by
  rw [List.drop_of_length_le (by rw [← Lib.size_eq]; exact h)]
  rfl

/-- What parseNumber tells. -/
def numV (o : Option Nat) : Value := .tuple #[.int .i64 (o.getD 0 : Nat), .bool o.isSome]

set_option maxHeartbeats 1000000 in
theorem number_loop (s : ByteArray) (w : World) (h0 : 0 < s.size) (h4 : s.size ≤ 4) (hz : 1 < s.size → (s[0].toNat : Int) ≠ 48) :
    Calls Tryz.prog 97 #[.string s] w fun e w' => e = .returned (numV (Pk.digs 0 s.data.toList)) ∧ w' = w := by
  have hne := not_empty s h0
  have hne2 : s.toList.isEmpty = false := by rw [List.isEmpty_eq_false_iff]; exact hne
  have h4b : decide (4 < (s.size : Int)) = false := by simp; omega
  by_cases h1 : 1 < s.size
  all_goals
    try have hz0 : ((s[0].toNat : Int) == 48) = false := beq_eq_false_iff_ne.2 (hz h1)
    clear hz
    go_enter Tryz.func97, Tryz.ntmps97
    go_wp2
    go_loop [4, 25] (fun a i => ∃ k n : Nat, k ≤ s.size ∧ i = .int .i64 k ∧ a = .int .i64 n ∧ n < 10 ^ k ∧ Pk.digs n (s.data.toList.drop k) = Pk.digs 0 s.data.toList) (fun _ i => s.size - (intOf i).toNat)
    case atStart => exact ⟨0, 0, by omega, rfl, rfl, by simp, by simp⟩
    case round =>
      obtain ⟨k, n, hk, rfl, rfl, hn, hd⟩ := hrel
      have HD : Hid (Pk.digs n (s.data.toList.drop k) = Pk.digs 0 s.data.toList) := hd
      clear hd
      by_cases hlt : k < s.size
      · have hp : 10 ^ k ≤ 10 ^ 3 := Nat.pow_le_pow_right (by omega) (by omega)
        have hn2 : n ≤ 999 := by omega
        have HN : Hid (n < 10 ^ k) := hn
        clear hn hp
        by_cases hlo : 48 ≤ (s[k].toNat : Int)
        · by_cases hhi : (s[k].toNat : Int) ≤ 57
          · have S : Hid (Pk.digs n (s.data.toList.drop k) = Pk.digs (10 * n + (s[k].toNat - 48)) (s.data.toList.drop (k + 1))) := digs_step s n k hlt hlo hhi
            go_wp2
            go_round
            case rel => exact ⟨k + 1, 10 * n + (s[k].toNat - 48), by omega, congrArg (Value.int .i64) (by omega), congrArg (Value.int .i64) (by omega), by have := HN.out; rw [Nat.pow_succ]; omega, S.out.symm.trans HD.out⟩
            case measure => simp [intOf]; omega
          · go_wp2
            go_ret2
            rw [← HD.out, digs_stop s n k hlt (Or.inr (by omega))]
            exact ⟨rfl, rfl⟩
        · go_wp2
          go_ret2
          rw [← HD.out, digs_stop s n k hlt (Or.inl (by omega))]
          exact ⟨rfl, rfl⟩
      · go_wp2
        go_ret2
        rw [← HD.out, digs_end s n k (by omega)]
        exact ⟨rfl, rfl⟩

theorem number_any (s : ByteArray) (w : World) (hm : s.size ≤ maxLen) :
    Calls Tryz.prog 97 #[.string s] w fun e w' => e = .returned (numV (Pk.num s.data.toList)) ∧ w' = w := by
  have hl : s.data.toList.length = s.size := (Lib.size_eq s).symm
  unfold Pk.num
  by_cases h0 : s.size = 0
  · rw [if_pos (Or.inl (by omega))]
    exact number_empty s w h0
  by_cases h4 : 4 < s.size
  · rw [if_pos (Or.inr (Or.inl (by omega)))]
    exact number_long s w h4 hm
  have hh := head_of s (by omega)
  by_cases hz : 1 < s.size ∧ s[0] = 48
  · rw [if_pos (Or.inr (Or.inr ⟨by omega, by rw [hh, hz.2]⟩))]
    exact number_nought s w hz.1 (by omega) (by rw [hz.2]; rfl)
  · rw [if_neg (by
      rintro (h | h | ⟨h, k⟩)
      · omega
      · omega
      · rw [hh] at k
        exact hz ⟨by omega, Option.some.inj k⟩)]
    refine number_loop s w (by omega) (by omega) (fun h e => hz ⟨h, ?_⟩)
    apply UInt8.toNat_inj.1
    have e2 : s[0].toNat = 48 := by omega
    rw [e2]; rfl
end Go.Proofs.YthofdiacncgbkaaGreatDoor


