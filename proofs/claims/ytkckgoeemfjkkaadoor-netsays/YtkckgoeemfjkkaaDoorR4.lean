/-
  The document's answer: has, Joined, rows.
-/
import Derived.Test.YtkckgoeemfjkkaaDoorR1
import Derived.Test.YtkckgoeemfjkkaaDoorM5
namespace Go.Proofs.YtkckgoeemfjkkaaDoor
open Go.RowKit

theorem rhas_eq (b : Nat) (n : Nat) : (((b : Int) / 2 ^ n).tmod 2 == 1) = b.testBit n := by
  rw [Nat.testBit, Nat.one_and_eq_mod_two, show ((b : Int) / 2 ^ n) = ((b >>> n : Nat) : Int) by rw [Nat.shiftRight_eq_div_pow]; simp]
  have e : (((b >>> n : Nat) : Int).tmod 2) = (((b >>> n) % 2 : Nat) : Int) := rfl
  rw [e]
  have : (b >>> n) % 2 = 0 ∨ (b >>> n) % 2 = 1 := by omega
  rcases this with h | h <;> rw [h] <;> rfl

set_option maxHeartbeats 400000 in
theorem rhas_any (b : Nat) (n : Int) (w : World) (h1 : b < 65536) :
    Calls Tryd.prog 16 #[.int .i64 (b : Int), .int .i64 n] w fun e w' => e = .returned (.bool (hasB b n)) ∧ w' = w := by
  by_cases hn : 0 ≤ n ∧ n ≤ 15
  · obtain ⟨k, rfl⟩ : ∃ k : Nat, n = k := ⟨n.toNat, by omega⟩
    have he : Hid ((((b : Int) / 2 ^ k).tmod 2 == 1) = hasB b k) := by
      show _ = _
      rw [rhas_eq, hasB_nat]
    have IN : Hid (∀ w, Calls Tryd.prog 12 #[.int .i64 (k : Int), .int .i64 0, .int .i64 15] w fun e w' => e = .returned (.bool true) ∧ w' = w) := fun w => in_yes _ _ _ w hn.1 hn.2
    have hk : (k : Int) ≤ 64 := by omega
    clear hn
    go_enter Tryd.func16, Tryd.ntmps16
    go_wp2_with fail
    refine (IN.out _).mono ?_
    rintro e w' ⟨rfl, rfl⟩
    go_wp2_with fail
    go_ret
    refine ⟨?_, rfl⟩
    rw [← he.out]
    simp
  · have e : hasB b n = false := by
      unfold hasB
      by_cases h0 : 0 ≤ n
      · have : 16 ≤ n.toNat := by omega
        rw [Nat.testBit_lt_two_pow (Nat.lt_of_lt_of_le (show b < 2 ^ 16 by omega) (Nat.pow_le_pow_right (by omega) this)), Bool.and_false]
      · simp [h0]
    rw [e]
    have IN : Hid (∀ w, Calls Tryd.prog 12 #[.int .i64 n, .int .i64 0, .int .i64 15] w fun e w' => e = .returned (.bool false) ∧ w' = w) := fun w => in_no _ _ _ w hn
    clear hn e
    go_enter Tryd.func16, Tryd.ntmps16
    go_wp2_with fail
    refine (IN.out _).mono ?_
    rintro e w' ⟨rfl, rfl⟩
    go_wp2_with fail
    go_ret
    exact ⟨rfl, rfl⟩

theorem join_snoc (l : List (List UInt8)) (x sep : List UInt8) (h : l ≠ []) : Lib.join (l ++ [x]) sep = Lib.join l sep ++ sep ++ x := by
  cases l with
  | nil => exact absurd rfl h
  | cons y r =>
    rw [List.cons_append, Lib.join_cons, Lib.join_cons]
    simp [Lib.joinTail]
theorem cat_two (a b : List UInt8) : ((⟨a.toArray⟩ : ByteArray) ++ (⟨b.toArray⟩ : ByteArray)) = ⟨(a ++ b).toArray⟩ := by
  apply ByteArray.ext
  rw [ByteArray.data_append]
  simp

set_option maxHeartbeats 2000000 in
theorem joined_any (L : List (List UInt8)) (g cap : Nat) (w : World) (hl : L.length ≤ 16) (hlen : ∀ k, (Lib.join (L.take k) [44]).length ≤ 200)
    (hc : ∀ (j : Nat) x, L[j]? = some x → w.cell? ⟨g, j, none⟩ = some (.string ⟨x.toArray⟩)) (hx : ∀ x ∈ L, x.length ≤ 5) (_hcap : L.length ≤ cap) :
    Calls Tryd.prog 56 #[.slice (some ⟨g, 0, none⟩) L.length cap, .string ⟨#[44]⟩] w fun e w' => e = .returned (.string ⟨(Lib.join L [44]).toArray⟩) ∧ w' = w := by
  have HC : Hid (∀ (j : Nat) x, L[j]? = some x → w.cell? ⟨g, j, none⟩ = some (.string ⟨x.toArray⟩)) := hc
  have HL : Hid (∀ k, (Lib.join (L.take k) [44]).length ≤ 200) := hlen
  have HX : Hid (∀ x ∈ L, x.length ≤ 5) := hx
  clear hc hlen hx
  go_enter Tryd.func56, Tryd.ntmps56
  go_wp2_with fail
  go_loopw [6, 5] (fun i o wr => ∃ k : Nat, i = .int .i64 (k : Int) ∧ k ≤ L.length ∧ o = .string ⟨(Lib.join (L.take k) [44]).toArray⟩ ∧ wr = w) (fun i _ _ => L.length - (intOf i).toNat)
  case atStart => exact ⟨0, rfl, Nat.zero_le _, rfl, rfl⟩
  case round =>
    obtain ⟨k, rfl, hk, rfl, rfl⟩ := hrel
    have hj := HL.out k
    by_cases hlt : k < L.length
    · obtain ⟨x, hxk⟩ : ∃ x, L[k]? = some x := ⟨L[k], List.getElem?_eq_getElem hlt⟩
      have cx := HC.out k x hxk
      have lx := HX.out x (List.mem_of_getElem? hxk)
      have htk : L.take (k + 1) = L.take k ++ [x] := by rw [List.take_add_one, hxk]; rfl
      by_cases h0 : k = 0
      · subst h0
        have HE : Hid ((⟨(Lib.join (L.take 0) [44]).toArray⟩ : ByteArray) ++ (⟨x.toArray⟩ : ByteArray) = ⟨(Lib.join (L.take (0 + 1)) [44]).toArray⟩) := by
          show _ = _
          rw [cat_two, htk]
          simp [Lib.join_nil, Lib.join_one]
        generalize Lib.join (L.take 0) [44] = J at *
        clear htk hxk
        go_wp2_with fail
        go_roundw
        case rel => exact ⟨0 + 1, congrArg (Value.int .i64) (by omega), by omega, congrArg Value.string HE.out, (by first | rfl | trivial)⟩
        case measure => simp [intOf]; omega
      · have HE : Hid ((⟨(Lib.join (L.take k) [44]).toArray⟩ : ByteArray) ++ (⟨#[44]⟩ : ByteArray) ++ (⟨x.toArray⟩ : ByteArray) = ⟨(Lib.join (L.take (k + 1)) [44]).toArray⟩) := by
          show _ = _
          have e44 : (⟨#[44]⟩ : ByteArray) = ⟨([44] : List UInt8).toArray⟩ := rfl
          rw [e44, cat_two, cat_two, htk, join_snoc _ _ _ (by
            intro e
            have := congrArg List.length e
            rw [List.length_take, List.length_nil] at this
            omega)]
        have t0 : decide ((0 : Int) < (k : Int)) = true := by simp; omega
        generalize Lib.join (L.take k) [44] = J at *
        clear htk hxk
        go_wp2_with fail
        go_roundw
        case rel => exact ⟨k + 1, congrArg (Value.int .i64) (by omega), by omega, congrArg Value.string HE.out, (by first | rfl | trivial)⟩
        case measure => simp [intOf]; omega
    · have HE : Hid (L.take k = L) := List.take_of_length_le (by omega)
      rw [HE.out]
      go_wp2_with fail
      go_ret
      exact ⟨rfl, rfl⟩
end Go.Proofs.YtkckgoeemfjkkaaDoor


