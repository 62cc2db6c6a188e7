/-
  What the calls of package packet do that take or tell packets as numbers: each returns what the chapter says, and turns no memory that was there.
-/
import Derived.Test.YtaceockdiicpaaaDoorShelf
import Derived.Test.YtaceockdiicpaaaDoorPlain
import Derived.WalkKit
import Derived.WalkSpells
import Derived.WalkLawsBesides
import Derived.Handy
import Derived.BigQuiet
import Derived.Deep.QuietTactic
namespace Go.Proofs.YtaceockdiicpaaaDoor
open Go.RowKit

abbrev pk (a b c d : Int) : Value := .agg #[.int .i64 a, .int .i64 b, .int .i64 c, .int .i64 d]
/-- May these be a packet's parts? -/
def rightB (a b c d : Int) : Bool := decide ((0 ≤ a ∧ a < 16) ∧ (0 ≤ b ∧ b < 16) ∧ (0 ≤ c ∧ c < 8) ∧ (0 ≤ d ∧ d < 8))

set_option maxHeartbeats 400000 in
theorem isAddr_yes (n : Int) (w : World) (h0 : 0 ≤ n) (h1 : n < 16) : Calls Tryd.prog 31 #[.int .i64 n] w fun e w' => e = .returned (.bool true) ∧ w' = w := by
  go_enter Tryd.func31, Tryd.ntmps31
  go_wp2
  go_ret
  exact ⟨rfl, rfl⟩
set_option maxHeartbeats 400000 in
theorem isAddr_no (n : Int) (w : World) (h : ¬ (0 ≤ n ∧ n < 16)) : Calls Tryd.prog 31 #[.int .i64 n] w fun e w' => e = .returned (.bool false) ∧ w' = w := by
  by_cases h0 : 0 ≤ n
  · have h1 : ¬ n < 16 := fun e => h ⟨h0, e⟩
    clear h
    go_enter Tryd.func31, Tryd.ntmps31
    go_wp2
    go_ret
    exact ⟨rfl, rfl⟩
  · clear h
    go_enter Tryd.func31, Tryd.ntmps31
    go_wp2
    go_ret
    exact ⟨rfl, rfl⟩
set_option maxHeartbeats 400000 in
theorem isPort_yes (n : Int) (w : World) (h0 : 0 ≤ n) (h1 : n < 8) : Calls Tryd.prog 32 #[.int .i64 n] w fun e w' => e = .returned (.bool true) ∧ w' = w := by
  go_enter Tryd.func32, Tryd.ntmps32
  go_wp2
  go_ret
  exact ⟨rfl, rfl⟩
set_option maxHeartbeats 400000 in
theorem isPort_no (n : Int) (w : World) (h : ¬ (0 ≤ n ∧ n < 8)) : Calls Tryd.prog 32 #[.int .i64 n] w fun e w' => e = .returned (.bool false) ∧ w' = w := by
  by_cases h0 : 0 ≤ n
  · have h1 : ¬ n < 8 := fun e => h ⟨h0, e⟩
    clear h
    go_enter Tryd.func32, Tryd.ntmps32
    go_wp2
    go_ret
    exact ⟨rfl, rfl⟩
  · clear h
    go_enter Tryd.func32, Tryd.ntmps32
    go_wp2
    go_ret
    exact ⟨rfl, rfl⟩

set_option maxHeartbeats 1000000 in
theorem check_yes (a b c d : Int) (w : World) (h : (0 ≤ a ∧ a < 16) ∧ (0 ≤ b ∧ b < 16) ∧ (0 ≤ c ∧ c < 8) ∧ (0 ≤ d ∧ d < 8)) :
    Calls Tryd.prog 14 #[pk a b c d] w fun e w' => e = .returned (.int .i64 0) ∧ Below w.heap.size w w' := by
  obtain ⟨⟨a0, a1⟩, ⟨b0, b1⟩, ⟨c0, c1⟩, ⟨d0, d1⟩⟩ := h
  go_enter Tryd.func14, Tryd.ntmps14
  go_wp2_with (first | (go_at_call 31; refine (isAddr_yes _ _ (by omega) (by omega)).mono ?_; rintro e w' ⟨rfl, rfl⟩) | (go_at_call 32; refine (isPort_yes _ _ (by omega) (by omega)).mono ?_; rintro e w' ⟨rfl, rfl⟩))
  go_ret
  exact ⟨rfl, by go_grown⟩

set_option maxHeartbeats 1000000 in
theorem check_no (a b c d : Int) (w : World) (h : ¬ ((0 ≤ a ∧ a < 16) ∧ (0 ≤ b ∧ b < 16) ∧ (0 ≤ c ∧ c < 8) ∧ (0 ≤ d ∧ d < 8))) :
    Calls Tryd.prog 14 #[pk a b c d] w fun e w' => e = .returned (.int .i64 1) ∧ Below w.heap.size w w' := by
  by_cases ha : 0 ≤ a ∧ a < 16
  · by_cases hb : 0 ≤ b ∧ b < 16
    · by_cases hc : 0 ≤ c ∧ c < 8
      · have hd : ¬ (0 ≤ d ∧ d < 8) := fun e => h ⟨ha, hb, hc, e⟩
        clear h
        obtain ⟨a0, a1⟩ := ha
        obtain ⟨b0, b1⟩ := hb
        obtain ⟨c0, c1⟩ := hc
        have HD : Hid (¬ (0 ≤ d ∧ d < 8)) := hd
        clear hd
        go_enter Tryd.func14, Tryd.ntmps14
        go_wp2_with fail
        refine (isAddr_yes _ _ (by omega) (by omega)).mono ?_; rintro e w1 ⟨rfl, rfl⟩
        go_wp2_with fail
        refine (isAddr_yes _ _ (by omega) (by omega)).mono ?_; rintro e w1 ⟨rfl, rfl⟩
        go_wp2_with fail
        refine (isPort_yes _ _ (by omega) (by omega)).mono ?_; rintro e w1 ⟨rfl, rfl⟩
        go_wp2_with fail
        refine (isPort_no _ _ HD.out).mono ?_; rintro e w1 ⟨rfl, rfl⟩
        go_wp2
        go_ret
        exact ⟨rfl, by go_grown⟩
      · clear h
        obtain ⟨a0, a1⟩ := ha
        obtain ⟨b0, b1⟩ := hb
        have HD : Hid (¬ (0 ≤ c ∧ c < 8)) := hc
        clear hc
        go_enter Tryd.func14, Tryd.ntmps14
        go_wp2_with fail
        refine (isAddr_yes _ _ (by omega) (by omega)).mono ?_; rintro e w1 ⟨rfl, rfl⟩
        go_wp2_with fail
        refine (isAddr_yes _ _ (by omega) (by omega)).mono ?_; rintro e w1 ⟨rfl, rfl⟩
        go_wp2_with fail
        refine (isPort_no _ _ HD.out).mono ?_; rintro e w1 ⟨rfl, rfl⟩
        go_wp2
        go_ret
        exact ⟨rfl, by go_grown⟩
    · clear h
      obtain ⟨a0, a1⟩ := ha
      have HD : Hid (¬ (0 ≤ b ∧ b < 16)) := hb
      clear hb
      go_enter Tryd.func14, Tryd.ntmps14
      go_wp2_with fail
      refine (isAddr_yes _ _ (by omega) (by omega)).mono ?_; rintro e w1 ⟨rfl, rfl⟩
      go_wp2_with fail
      refine (isAddr_no _ _ HD.out).mono ?_; rintro e w1 ⟨rfl, rfl⟩
      go_wp2
      go_ret
      exact ⟨rfl, by go_grown⟩
  · clear h
    have HD : Hid (¬ (0 ≤ a ∧ a < 16)) := ha
    clear ha
    go_enter Tryd.func14, Tryd.ntmps14
    go_wp2_with fail
    refine (isAddr_no _ _ HD.out).mono ?_; rintro e w1 ⟨rfl, rfl⟩
    go_wp2
    go_ret
    exact ⟨rfl, by go_grown⟩

theorem bcell {W w1 : World} (hb : Below W.heap.size W w1) : (∀ b o, b < W.heap.size → w1.cell? ⟨b, o, none⟩ = W.cell? ⟨b, o, none⟩) ∧ (∀ b o, b < W.heap.size → w1.frozen? ⟨b, o, none⟩ = W.frozen? ⟨b, o, none⟩) :=
  ⟨fun b o h => hb.cell (p := ⟨b, o, none⟩) h, fun b o h => hb.frozen (p := ⟨b, o, none⟩) h⟩

set_option maxHeartbeats 1000000 in
theorem code_yes (a b c d : Int) (w : World) (h : (0 ≤ a ∧ a < 16) ∧ (0 ≤ b ∧ b < 16) ∧ (0 ≤ c ∧ c < 8) ∧ (0 ≤ d ∧ d < 8)) :
    Calls Tryd.prog 9 #[pk a b c d] w fun e w' => e = .returned (.tuple #[.int .i64 (a * 1024 + b * 64 + c * 8 + d), .int .i64 0]) ∧ Below w.heap.size w w' := by
  have HD := h
  obtain ⟨⟨a0, a1⟩, ⟨b0, b1⟩, ⟨c0, c1⟩, ⟨d0, d1⟩⟩ := h
  have HH : Hid ((0 ≤ a ∧ a < 16) ∧ (0 ≤ b ∧ b < 16) ∧ (0 ≤ c ∧ c < 8) ∧ (0 ≤ d ∧ d < 8)) := HD
  clear HD
  go_enter Tryd.func9, Tryd.ntmps9
  go_wp2_with fail
  refine (check_yes _ _ _ _ _ HH.out).mono ?_
  rintro e w1 ⟨rfl, hb⟩
  obtain ⟨hc, hf⟩ := bcell hb
  go_wp2
  go_ret2
  exact ⟨rfl, ((Below.refl _ _).alloc (Nat.le_refl _) _).trans (hb.mono (by simp))⟩

set_option maxHeartbeats 1000000 in
theorem code_no (a b c d : Int) (w : World) (h : ¬ ((0 ≤ a ∧ a < 16) ∧ (0 ≤ b ∧ b < 16) ∧ (0 ≤ c ∧ c < 8) ∧ (0 ≤ d ∧ d < 8))) :
    Calls Tryd.prog 9 #[pk a b c d] w fun e w' => e = .returned (.tuple #[.int .i64 0, .int .i64 1]) ∧ Below w.heap.size w w' := by
  have HH : Hid (¬ ((0 ≤ a ∧ a < 16) ∧ (0 ≤ b ∧ b < 16) ∧ (0 ≤ c ∧ c < 8) ∧ (0 ≤ d ∧ d < 8))) := h
  clear h
  go_enter Tryd.func9, Tryd.ntmps9
  go_wp2_with fail
  refine (check_no _ _ _ _ _ HH.out).mono ?_
  rintro e w1 ⟨rfl, hb⟩
  obtain ⟨hc, hf⟩ := bcell hb
  go_wp2
  go_ret2
  exact ⟨rfl, ((Below.refl _ _).alloc (Nat.le_refl _) _).trans (hb.mono (by simp))⟩

set_option maxHeartbeats 1000000 in
theorem of_no (n : Int) (w : World) (h : ¬ (0 ≤ n ∧ n < 16384)) :
    Calls Tryd.prog 10 #[.int .i64 n] w fun e w' => e = .returned (.tuple #[pk 0 0 0 0, .int .i64 1]) ∧ Below w.heap.size w w' := by
  by_cases h0 : n < 0
  · clear h
    go_enter Tryd.func10, Tryd.ntmps10
    go_wp2
    exact bodyPost_ret (v := .tuple #[pk 0 0 0 0, .int .i64 1]) (by simp [results, Tryd.results10, go_sem]) rfl ⟨rfl, by go_grown⟩
  · have h1 : 16384 ≤ n := by omega
    clear h
    go_enter Tryd.func10, Tryd.ntmps10
    go_wp2
    exact bodyPost_ret (v := .tuple #[pk 0 0 0 0, .int .i64 1]) (by simp [results, Tryd.results10, go_sem]) rfl ⟨rfl, by go_grown⟩

set_option maxHeartbeats 1000000 in
theorem of_yes (n : Int) (w : World) (h0 : 0 ≤ n) (h1 : n < 16384) :
    Calls Tryd.prog 10 #[.int .i64 n] w fun e w' => e = .returned (.tuple #[pk (n / 1024) (n / 64 % 16) (n / 8 % 8) (n % 8), .int .i64 0]) ∧ Below w.heap.size w w' := by
  go_enter Tryd.func10, Tryd.ntmps10
  go_wp2
  exact bodyPost_ret (v := .tuple #[pk (n / 1024) (n / 64 % 16) (n / 8 % 8) (n % 8), .int .i64 0]) (by simp [results, Tryd.results10, go_sem]) rfl ⟨rfl, by go_grown⟩

set_option maxHeartbeats 1000000 in
theorem flip_any (a b c d : Int) (w : World) :
    Calls Tryd.prog 15 #[pk a b c d] w fun e w' => e = .returned (pk b a d c) ∧ Below w.heap.size w w' := by
  go_enter Tryd.func15, Tryd.ntmps15
  go_wp2
  exact bodyPost_ret (v := pk b a d c) (by simp [results, Tryd.results15, go_sem]) rfl ⟨rfl, by go_grown⟩

theorem ret_str {x y : ByteArray} (h : x = y) : Ending.returned (.string x) = .returned (.string y) := by rw [h]
theorem cat3 (a b : List UInt8) (c : UInt8) : ((⟨a.toArray⟩ : ByteArray) ++ (⟨#[c]⟩ : ByteArray) ++ (⟨b.toArray⟩ : ByteArray)) = ⟨(a ++ c :: b).toArray⟩ := by
  apply ByteArray.ext
  simp [ByteArray.data_append]

set_option maxHeartbeats 1000000 in
theorem printEnd_any (a p : Nat) (w : World) (ha : a < 100) (hp : p < 100) :
    Calls Tryd.prog 26 #[.int .i64 a, .int .i64 p] w fun e w' => e = .returned (.string ⟨(Pk.txtEnd a p).toArray⟩) ∧ w' = w := by
  go_enter Tryd.func26, Tryd.ntmps26
  go_wp2_with fail
  refine (Tryd.strconv_Itoa_small _ ha _).mono ?_
  rintro e w1 ⟨rfl, rfl⟩
  rw [Pk.decDigits_dec a ha]
  generalize hda : Pk.dec a = da
  have la : da.length ≤ 2 := by rw [← hda]; exact Pk.dec_len a
  have HA : Hid (Pk.dec a = da) := hda
  clear hda
  go_wp2_with fail
  refine (Tryd.strconv_Itoa_small _ hp _).mono ?_
  rintro e w1 ⟨rfl, rfl⟩
  rw [Pk.decDigits_dec p hp]
  generalize hdp : Pk.dec p = dp
  have lp : dp.length ≤ 2 := by rw [← hdp]; exact Pk.dec_len p
  have HP : Hid (Pk.dec p = dp) := hdp
  clear hdp
  go_wp2
  go_ret
  refine ⟨ret_str ?_, rfl⟩
  unfold Pk.txtEnd
  rw [HA.out, HP.out]
  exact cat3 da dp 58

set_option maxHeartbeats 1000000 in
theorem print_no (a b c d : Int) (w : World) (h : ¬ ((0 ≤ a ∧ a < 16) ∧ (0 ≤ b ∧ b < 16) ∧ (0 ≤ c ∧ c < 8) ∧ (0 ≤ d ∧ d < 8))) :
    Calls Tryd.prog 11 #[pk a b c d] w fun e w' => e = .returned (.tuple #[.string ⟨#[]⟩, .int .i64 1]) ∧ Below w.heap.size w w' := by
  have HH : Hid (¬ ((0 ≤ a ∧ a < 16) ∧ (0 ≤ b ∧ b < 16) ∧ (0 ≤ c ∧ c < 8) ∧ (0 ≤ d ∧ d < 8))) := h
  clear h
  go_enter Tryd.func11, Tryd.ntmps11
  go_wp2_with fail
  refine (check_no _ _ _ _ _ HH.out).mono ?_
  rintro e w1 ⟨rfl, hb⟩
  obtain ⟨hc, hf⟩ := bcell hb
  go_wp2
  go_ret2
  exact ⟨rfl, ((Below.refl _ _).alloc (Nat.le_refl _) _).trans (hb.mono (by simp))⟩

theorem ret_str2 {x y : ByteArray} {v : Value} (h : x = y) : Ending.returned (.tuple #[.string x, v]) = .returned (.tuple #[.string y, v]) := by rw [h]

set_option maxHeartbeats 1000000 in
theorem print_yes (a b c d : Nat) (w : World) (ha : a < 16) (hb : b < 16) (hc : c < 8) (hd : d < 8) :
    Calls Tryd.prog 11 #[pk a b c d] w fun e w' => e = .returned (.tuple #[.string ⟨(Pk.txt a b c d).toArray⟩, .int .i64 0]) ∧ Below w.heap.size w w' := by
  have k1 : ∀ w, Calls Tryd.prog 26 #[.int .i64 a, .int .i64 c] w fun e w' => e = .returned (.string ⟨(Pk.txtEnd a c).toArray⟩) ∧ w' = w := fun w => printEnd_any a c w (by omega) (by omega)
  have k2 : ∀ w, Calls Tryd.prog 26 #[.int .i64 b, .int .i64 d] w fun e w' => e = .returned (.string ⟨(Pk.txtEnd b d).toArray⟩) ∧ w' = w := fun w => printEnd_any b d w (by omega) (by omega)
  unfold Pk.txt
  have l1 := Pk.txtEnd_len a c
  have l2 := Pk.txtEnd_len b d
  generalize Pk.txtEnd a c = t1 at *
  generalize Pk.txtEnd b d = t2 at *
  have K1 : Hid (∀ w, Calls Tryd.prog 26 #[.int .i64 a, .int .i64 c] w fun e w' => e = .returned (.string ⟨t1.toArray⟩) ∧ w' = w) := k1
  have K2 : Hid (∀ w, Calls Tryd.prog 26 #[.int .i64 b, .int .i64 d] w fun e w' => e = .returned (.string ⟨t2.toArray⟩) ∧ w' = w) := k2
  clear k1 k2
  go_enter Tryd.func11, Tryd.ntmps11
  go_wp2_with fail
  refine (check_yes _ _ _ _ _ (by omega)).mono ?_
  rintro e w1 ⟨rfl, hbe⟩
  obtain ⟨hce, hf⟩ := bcell hbe
  go_wp2_with fail
  go_quiet ((first | (go_at_call_of 26 (Value.int IntKind.i64 (a : Int)); exact Calls.quiet_of_same (K1.out _)) | (go_at_call_of 26 (Value.int IntKind.i64 (b : Int)); exact Calls.quiet_of_same (K2.out _))))
  go_wp2
  go_ret2
  exact ⟨ret_str2 (cat3 t1 t2 62), below_drewN (((Below.refl _ _).alloc (Nat.le_refl _) _).trans (hbe.mono (by simp))) _⟩
end Go.Proofs.YtaceockdiicpaaaDoor
