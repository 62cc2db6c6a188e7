/-
  What the document's answer tells of packets as numbers and as texts: In, Right, Code, Packet, Back, PacketText, Digits: each returns what the plain functions tell, and turns no memory that was there.
-/
import Derived.Test.YtaceockdiicpaaaDoorWalk3
namespace Go.Proofs.YtaceockdiicpaaaDoor
open Go.RowKit

set_option maxHeartbeats 400000 in
theorem in_yes (n lo hi : Int) (w : World) (h0 : lo ≤ n) (h1 : n ≤ hi) : Calls Tryd.prog 24 #[.int .i64 n, .int .i64 lo, .int .i64 hi] w fun e w' => e = .returned (.bool true) ∧ w' = w := by
  go_enter Tryd.func24, Tryd.ntmps24
  go_wp2
  go_ret
  exact ⟨rfl, rfl⟩
set_option maxHeartbeats 400000 in
theorem in_no (n lo hi : Int) (w : World) (h : ¬ (lo ≤ n ∧ n ≤ hi)) : Calls Tryd.prog 24 #[.int .i64 n, .int .i64 lo, .int .i64 hi] w fun e w' => e = .returned (.bool false) ∧ w' = w := by
  by_cases h0 : lo ≤ n
  · have h1 : ¬ n ≤ hi := fun e => h ⟨h0, e⟩
    clear h
    go_enter Tryd.func24, Tryd.ntmps24
    go_wp2
    go_ret
    exact ⟨rfl, rfl⟩
  · clear h
    go_enter Tryd.func24, Tryd.ntmps24
    go_wp2
    go_ret
    exact ⟨rfl, rfl⟩

set_option maxHeartbeats 1000000 in
theorem right_yes (a b c d : Int) (w : World) (h : (0 ≤ a ∧ a < 16) ∧ (0 ≤ b ∧ b < 16) ∧ (0 ≤ c ∧ c < 8) ∧ (0 ≤ d ∧ d < 8)) :
    Calls Tryd.prog 5 #[pk a b c d] w fun e w' => e = .returned (.bool true) ∧ Below w.heap.size w w' := by
  obtain ⟨⟨a0, a1⟩, ⟨b0, b1⟩, ⟨c0, c1⟩, ⟨d0, d1⟩⟩ := h
  go_enter Tryd.func5, Tryd.ntmps5
  go_wp2_with (go_at_call 24; refine (in_yes _ _ _ _ (by omega) (by omega)).mono ?_; rintro e w' ⟨rfl, rfl⟩)
  go_ret
  exact ⟨rfl, by go_grown⟩

set_option maxHeartbeats 1000000 in
theorem right_no (a b c d : Int) (w : World) (h : ¬ ((0 ≤ a ∧ a < 16) ∧ (0 ≤ b ∧ b < 16) ∧ (0 ≤ c ∧ c < 8) ∧ (0 ≤ d ∧ d < 8))) :
    Calls Tryd.prog 5 #[pk a b c d] w fun e w' => e = .returned (.bool false) ∧ Below w.heap.size w w' := by
  by_cases ha : 0 ≤ a ∧ a < 16
  · by_cases hb : 0 ≤ b ∧ b < 16
    · by_cases hc : 0 ≤ c ∧ c < 8
      · have hd : ¬ (0 ≤ d ∧ d < 8) := fun e => h ⟨ha, hb, hc, e⟩
        clear h
        obtain ⟨a0, a1⟩ := ha
        obtain ⟨b0, b1⟩ := hb
        obtain ⟨c0, c1⟩ := hc
        have HD : Hid (¬ (0 ≤ d ∧ d < 8)) := hd
        clear hd
        go_enter Tryd.func5, Tryd.ntmps5
        go_wp2_with fail
        refine (in_yes _ _ _ _ (by omega) (by omega)).mono ?_; rintro e w1 ⟨rfl, rfl⟩
        go_wp2_with fail
        refine (in_yes _ _ _ _ (by omega) (by omega)).mono ?_; rintro e w1 ⟨rfl, rfl⟩
        go_wp2_with fail
        refine (in_yes _ _ _ _ (by omega) (by omega)).mono ?_; rintro e w1 ⟨rfl, rfl⟩
        go_wp2_with fail
        refine (in_no _ _ _ _ (by have := HD.out; omega)).mono ?_; rintro e w1 ⟨rfl, rfl⟩
        go_wp2
        go_ret
        exact ⟨rfl, by go_grown⟩
      · clear h
        obtain ⟨a0, a1⟩ := ha
        obtain ⟨b0, b1⟩ := hb
        have HD : Hid (¬ (0 ≤ c ∧ c < 8)) := hc
        clear hc
        go_enter Tryd.func5, Tryd.ntmps5
        go_wp2_with fail
        refine (in_yes _ _ _ _ (by omega) (by omega)).mono ?_; rintro e w1 ⟨rfl, rfl⟩
        go_wp2_with fail
        refine (in_yes _ _ _ _ (by omega) (by omega)).mono ?_; rintro e w1 ⟨rfl, rfl⟩
        go_wp2_with fail
        refine (in_no _ _ _ _ (by have := HD.out; omega)).mono ?_; rintro e w1 ⟨rfl, rfl⟩
        go_wp2
        go_ret
        exact ⟨rfl, by go_grown⟩
    · clear h
      obtain ⟨a0, a1⟩ := ha
      have HD : Hid (¬ (0 ≤ b ∧ b < 16)) := hb
      clear hb
      go_enter Tryd.func5, Tryd.ntmps5
      go_wp2_with fail
      refine (in_yes _ _ _ _ (by omega) (by omega)).mono ?_; rintro e w1 ⟨rfl, rfl⟩
      go_wp2_with fail
      refine (in_no _ _ _ _ (by have := HD.out; omega)).mono ?_; rintro e w1 ⟨rfl, rfl⟩
      go_wp2
      go_ret
      exact ⟨rfl, by go_grown⟩
  · clear h
    have HD : Hid (¬ (0 ≤ a ∧ a < 16)) := ha
    clear ha
    go_enter Tryd.func5, Tryd.ntmps5
    go_wp2_with fail
    refine (in_no _ _ _ _ (by have := HD.out; omega)).mono ?_; rintro e w1 ⟨rfl, rfl⟩
    go_wp2
    go_ret
    exact ⟨rfl, by go_grown⟩

set_option maxHeartbeats 1000000 in
theorem rcode_yes (a b c d : Int) (w : World) (h : (0 ≤ a ∧ a < 16) ∧ (0 ≤ b ∧ b < 16) ∧ (0 ≤ c ∧ c < 8) ∧ (0 ≤ d ∧ d < 8)) :
    Calls Tryd.prog 6 #[pk a b c d] w fun e w' => e = .returned (.int .i64 (a * 1024 + b * 64 + c * 8 + d)) ∧ Below w.heap.size w w' := by
  obtain ⟨⟨a0, a1⟩, ⟨b0, b1⟩, ⟨c0, c1⟩, ⟨d0, d1⟩⟩ := h
  go_enter Tryd.func6, Tryd.ntmps6
  go_wp2
  go_ret
  exact ⟨rfl, by go_grown⟩

set_option maxHeartbeats 1000000 in
theorem rpacket_yes (n : Int) (w : World) (h0 : 0 ≤ n) (h1 : n < 16384) :
    Calls Tryd.prog 8 #[.int .i64 n] w fun e w' => e = .returned (pk (n / 1024) (n / 64 % 16) (n / 8 % 8) (n % 8)) ∧ Below w.heap.size w w' := by
  go_enter Tryd.func8, Tryd.ntmps8
  go_wp2
  exact bodyPost_ret (v := pk (n / 1024) (n / 64 % 16) (n / 8 % 8) (n % 8)) (by simp [results, Tryd.results8, go_sem]) rfl ⟨rfl, by go_grown⟩

set_option maxHeartbeats 1000000 in
theorem back_any (a b c d : Int) (w : World) :
    Calls Tryd.prog 16 #[pk a b c d] w fun e w' => e = .returned (pk b a d c) ∧ Below w.heap.size w w' := by
  go_enter Tryd.func16, Tryd.ntmps16
  go_wp2
  exact bodyPost_ret (v := pk b a d c) (by simp [results, Tryd.results16, go_sem]) rfl ⟨rfl, by go_grown⟩

theorem cat7 (a b c d : List UInt8) : ((⟨a.toArray⟩ : ByteArray) ++ (⟨#[58]⟩ : ByteArray) ++ (⟨b.toArray⟩ : ByteArray) ++ (⟨#[62]⟩ : ByteArray) ++ (⟨c.toArray⟩ : ByteArray) ++ (⟨#[58]⟩ : ByteArray) ++ (⟨d.toArray⟩ : ByteArray)) = ⟨((a ++ 58 :: b) ++ 62 :: (c ++ 58 :: d)).toArray⟩ := by
  apply ByteArray.ext
  simp [ByteArray.data_append]

set_option maxHeartbeats 1000000 in
set_option maxRecDepth 100000 in
theorem ptext_yes (a b c d : Nat) (w : World) (ha : a < 16) (hb : b < 16) (hc : c < 8) (hd : d < 8) :
    Calls Tryd.prog 7 #[pk a b c d] w fun e w' => e = .returned (.string ⟨(Pk.txt a b c d).toArray⟩) ∧ Below w.heap.size w w' := by
  have k : ∀ n : Nat, n < 16 → ∀ w, Calls Tryd.prog 25 #[.int .i64 n] w fun e w' => e = .returned (.string ⟨(Pk.dec n).toArray⟩) ∧ w' = w := by
    intro n hn w
    have := Tryd.strconv_Itoa_small n (by omega) w
    rw [Pk.decDigits_dec n (by omega)] at this
    exact this
  have ka : Hid (∀ w, Calls Tryd.prog 25 #[.int .i64 a] w fun e w' => e = .returned (.string ⟨(Pk.dec a).toArray⟩) ∧ w' = w) := k a (by omega)
  have kb : Hid (∀ w, Calls Tryd.prog 25 #[.int .i64 b] w fun e w' => e = .returned (.string ⟨(Pk.dec b).toArray⟩) ∧ w' = w) := k b (by omega)
  have kc : Hid (∀ w, Calls Tryd.prog 25 #[.int .i64 c] w fun e w' => e = .returned (.string ⟨(Pk.dec c).toArray⟩) ∧ w' = w) := k c (by omega)
  have kd : Hid (∀ w, Calls Tryd.prog 25 #[.int .i64 d] w fun e w' => e = .returned (.string ⟨(Pk.dec d).toArray⟩) ∧ w' = w) := k d (by omega)
  clear k
  unfold Pk.txt Pk.txtEnd
  have la := Pk.dec_len a
  have lb := Pk.dec_len b
  have lc := Pk.dec_len c
  have ld := Pk.dec_len d
  generalize Pk.dec a = ta at *
  generalize Pk.dec b = tb at *
  generalize Pk.dec c = tc at *
  generalize Pk.dec d = td at *
  go_enter Tryd.func7, Tryd.ntmps7
  go_wp2_with fail
  go_quiet ((first | (go_at_call_of 25 (Value.int IntKind.i64 (a : Int)); exact Calls.quiet_of_same (ka.out _)) | (go_at_call_of 25 (Value.int IntKind.i64 (b : Int)); exact Calls.quiet_of_same (kb.out _)) | (go_at_call_of 25 (Value.int IntKind.i64 (c : Int)); exact Calls.quiet_of_same (kc.out _)) | (go_at_call_of 25 (Value.int IntKind.i64 (d : Int)); exact Calls.quiet_of_same (kd.out _))))
  go_wp2
  go_ret
  exact ⟨ret_str (cat7 ta tc tb td), below_drewN ((Below.refl _ _).alloc (Nat.le_refl _) _) _⟩
end Go.Proofs.YtaceockdiicpaaaDoor
