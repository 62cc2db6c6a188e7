/-
  Texts of nets: a device's line, of a kind with an address.
-/
import Derived.Test.YthofdiacncgbkaaGreatDoorPA6
namespace Go.Proofs.YthofdiacncgbkaaGreatDoor
open Go.RowKit

set_option maxHeartbeats 4000000 in
set_option maxRecDepth 100000 in
theorem pd_1n (g : Nat) (s0 s1 s2 : ByteArray) (w : World) (hs : nameOk s1 = true) (h1 : s1.size ≤ 4096) (h2 : s2.size ≤ 4096) (ho : pnum s2.data.toList = none) (T : Texts w g [s0, s1, s2]) (KO : Hid (∀ W, Below w.heap.size w W → Calls Tryz.prog 98 #[.slice (some ⟨g, 0, none⟩) 3 3] W fun e w' => e = .returned (.tuple #[.int .i64 1, .bool true]) ∧ Below W.heap.size W w')) :
    Calls Tryz.prog 64 #[.slice (some ⟨g, 0, none⟩) 3 3] w fun e w' => DevOut w none e w' := by
  have IN : Hid (∀ w, Calls Tryz.prog 65 #[.string s1] w fun e w' => e = .returned (.bool true) ∧ w' = w) := fun w => by
    have := isName_any s1 w
    rw [hs] at this
    exact this
  have CL : Hid (∀ w, Calls Tryz.prog 99 #[.string s1] w fun e w' => e = .returned (.string s1) ∧ Below w.heap.size w w') := fun w => clone_any s1 w h1
  have HA : Hid (∀ w, Calls Tryz.prog 50 #[.int .i64 1] w fun e w' => e = .returned (.bool true) ∧ w' = w) := fun w => hasAddr_any 1 w
  clear hs h1
  have PN : Hid (∀ w, Calls Tryz.prog 63 #[.string s2] w fun e w' => e = .returned (.tuple #[.int .i64 0, .bool false]) ∧ w' = w) := fun w => by
    have := parseNumber_any s2 w (by unfold maxLen; omega)
    rw [ho] at this
    exact this
  clear ho
  have R0 := sevenU_new w (.string ⟨#[]⟩) (.int .i64 0) (.int .i64 0) (.int .u8 0) (.slice none 0 0) (.slice none 0 0) (.slice none 0 0) 37
  have D0 := Below.alloc' (Below.refl w.heap.size w) (.cells #[.string ⟨#[]⟩, .int .i64 0, .int .i64 0, .int .u8 0, .slice none 0 0, .slice none 0 0, .slice none 0 0] 37)
  have hsz : w.heap.size ≤ w.heap.size := Nat.le_refl _
  have T0 := keepTexts D0 T
  go_enter Tryz.func64, Tryz.ntmps64
  generalize hW : w.alloc (.cells #[.string ⟨#[]⟩, .int .i64 0, .int .i64 0, .int .u8 0, .slice none 0 0, .slice none 0 0, .slice none 0 0] 37) = w1 at *
  go_wp2_with fail
  refine (KO.out _ D0).mono ?_
  rintro e w2 ⟨rfl, hb2⟩
  have R2 := keepSevenU hb2 R0
  have T2 := keepTexts hb2 T0
  have D2 := chain hb2 D0
  clear R0 D0 T0 hW hb2 KO T
  have c1 := T2.2 1 s1 rfl
  go_wp2_with fail
  refine (IN.out _).mono ?_
  rintro e w3 ⟨rfl, rfl⟩
  go_wp2_with fail
  refine (CL.out _).mono ?_
  rintro e w4 ⟨rfl, hb4⟩
  have R4 := keepSevenU hb4 R2
  have T4 := keepTexts hb4 T2
  have D4 := chain hb4 D2
  have T5 := keepTexts ((Below.refl _ _).alloc (Nat.le_refl _) (.cells #[.string s1, .int .i64 1, .int .i64 0, .int .u8 0, .slice none 0 0, .slice none 0 0, .slice none 0 0] 37)) T4
  have D6 := Below.alloc' D4 (.cells #[.string s1, .int .i64 1, .int .i64 0, .int .u8 0, .slice none 0 0, .slice none 0 0, .slice none 0 0] 37)
  have R6 := keepSevenU ((Below.refl _ _).alloc (Nat.le_refl _) (.cells #[.string s1, .int .i64 1, .int .i64 0, .int .u8 0, .slice none 0 0, .slice none 0 0, .slice none 0 0] 37)) R4
  have T6 := keepTexts ((Below.refl _ _).alloc (Nat.le_refl _) (.cells #[.string s1, .int .i64 1, .int .i64 0, .int .u8 0, .slice none 0 0, .slice none 0 0, .slice none 0 0] 37)) T4
  have X6 := sevenU_new w4 (.string s1) (.int .i64 1) (.int .i64 0) (.int .u8 0) (.slice none 0 0) (.slice none 0 0) (.slice none 0 0) 37
  have hne : w.heap.size ≠ w4.heap.size := by have := R4.1; omega
  have c2 := T5.2 2 s2 rfl
  clear R2 T2 D2 hb4 c1 R4 T4 T5
  go_wp2_with fail
  refine (HA.out _).mono ?_
  rintro e w5 ⟨rfl, rfl⟩
  go_wp2_with fail
  refine (PN.out _).mono ?_
  rintro e w6 ⟨rfl, rfl⟩
  clear T6 X6
  obtain ⟨l0, ⟨r0, r1, r2, r3, r4, r5, r6⟩, f0, f1, f2, f3, f4, f5, f6⟩ := R6
  go_wp2_with fail
  exact bodyPost_ret (v := .tuple #[dvA ⟨#[]⟩ 0 0 0 (.slice none 0 0), .bool false]) (by simp [results, Tryz.results64, go_sem, dvA, r0, r1, r2, r3, r4, r5, r6]) rfl ⟨below_set7 D6 hsz _ _ _ _ _ _ _, rfl⟩
set_option maxHeartbeats 4000000 in
set_option maxRecDepth 100000 in
theorem pd_1 (g : Nat) (s0 s1 s2 : ByteArray) (ad : Int) (w : World) (hs : nameOk s1 = true) (h1 : s1.size ≤ 4096) (h2 : s2.size ≤ 4096) (ho : pnum s2.data.toList = some ad) (T : Texts w g [s0, s1, s2]) (KO : Hid (∀ W, Below w.heap.size w W → Calls Tryz.prog 98 #[.slice (some ⟨g, 0, none⟩) 3 3] W fun e w' => e = .returned (.tuple #[.int .i64 1, .bool true]) ∧ Below W.heap.size W w')) (hl : s1.size ≤ maxLen) :
    Calls Tryz.prog 64 #[.slice (some ⟨g, 0, none⟩) 3 3] w fun e w' => DevOut w (some ⟨s1, 1, ad, 0, [], [], [], by omega, hl⟩) e w' := by
  have IN : Hid (∀ w, Calls Tryz.prog 65 #[.string s1] w fun e w' => e = .returned (.bool true) ∧ w' = w) := fun w => by
    have := isName_any s1 w
    rw [hs] at this
    exact this
  have CL : Hid (∀ w, Calls Tryz.prog 99 #[.string s1] w fun e w' => e = .returned (.string s1) ∧ Below w.heap.size w w') := fun w => clone_any s1 w h1
  have HA : Hid (∀ w, Calls Tryz.prog 50 #[.int .i64 1] w fun e w' => e = .returned (.bool true) ∧ w' = w) := fun w => hasAddr_any 1 w
  clear hs h1
  have PN : Hid (∀ w, Calls Tryz.prog 63 #[.string s2] w fun e w' => e = .returned (.tuple #[.int .i64 ad, .bool true]) ∧ w' = w) := fun w => by
    have := parseNumber_any s2 w (by unfold maxLen; omega)
    rw [ho] at this
    exact this
  clear ho
  have R0 := sevenU_new w (.string ⟨#[]⟩) (.int .i64 0) (.int .i64 0) (.int .u8 0) (.slice none 0 0) (.slice none 0 0) (.slice none 0 0) 37
  have D0 := Below.alloc' (Below.refl w.heap.size w) (.cells #[.string ⟨#[]⟩, .int .i64 0, .int .i64 0, .int .u8 0, .slice none 0 0, .slice none 0 0, .slice none 0 0] 37)
  have hsz : w.heap.size ≤ w.heap.size := Nat.le_refl _
  have T0 := keepTexts D0 T
  go_enter Tryz.func64, Tryz.ntmps64
  generalize hW : w.alloc (.cells #[.string ⟨#[]⟩, .int .i64 0, .int .i64 0, .int .u8 0, .slice none 0 0, .slice none 0 0, .slice none 0 0] 37) = w1 at *
  go_wp2_with fail
  refine (KO.out _ D0).mono ?_
  rintro e w2 ⟨rfl, hb2⟩
  have R2 := keepSevenU hb2 R0
  have T2 := keepTexts hb2 T0
  have D2 := chain hb2 D0
  clear R0 D0 T0 hW hb2 KO T
  have c1 := T2.2 1 s1 rfl
  go_wp2_with fail
  refine (IN.out _).mono ?_
  rintro e w3 ⟨rfl, rfl⟩
  go_wp2_with fail
  refine (CL.out _).mono ?_
  rintro e w4 ⟨rfl, hb4⟩
  have R4 := keepSevenU hb4 R2
  have T4 := keepTexts hb4 T2
  have D4 := chain hb4 D2
  have T5 := keepTexts ((Below.refl _ _).alloc (Nat.le_refl _) (.cells #[.string s1, .int .i64 1, .int .i64 0, .int .u8 0, .slice none 0 0, .slice none 0 0, .slice none 0 0] 37)) T4
  have D6 := Below.alloc' D4 (.cells #[.string s1, .int .i64 1, .int .i64 ad, .int .u8 0, .slice none 0 0, .slice none 0 0, .slice none 0 0] 37)
  have R6 := keepSevenU ((Below.refl _ _).alloc (Nat.le_refl _) (.cells #[.string s1, .int .i64 1, .int .i64 ad, .int .u8 0, .slice none 0 0, .slice none 0 0, .slice none 0 0] 37)) R4
  have T6 := keepTexts ((Below.refl _ _).alloc (Nat.le_refl _) (.cells #[.string s1, .int .i64 1, .int .i64 ad, .int .u8 0, .slice none 0 0, .slice none 0 0, .slice none 0 0] 37)) T4
  have X6 := sevenU_new w4 (.string s1) (.int .i64 1) (.int .i64 ad) (.int .u8 0) (.slice none 0 0) (.slice none 0 0) (.slice none 0 0) 37
  have hne : w.heap.size ≠ w4.heap.size := by have := R4.1; omega
  have c2 := T5.2 2 s2 rfl
  clear R2 T2 D2 hb4 c1 R4 T4 T5
  go_wp2_with fail
  refine (HA.out _).mono ?_
  rintro e w5 ⟨rfl, rfl⟩
  go_wp2_with fail
  refine (PN.out _).mono ?_
  rintro e w6 ⟨rfl, rfl⟩
  clear T6 X6
  obtain ⟨l0, ⟨r0, r1, r2, r3, r4, r5, r6⟩, f0, f1, f2, f3, f4, f5, f6⟩ := R6
  go_wp2_with fail
  exact bodyPost_ret (v := .tuple #[dvA s1 1 ad 0 (.slice none 0 0), .bool true]) (by simp [results, Tryz.results64, go_sem, dvA, r0, r1, r2, r3, r4, r5, r6]) rfl ⟨below_set7 D6 hsz _ _ _ _ _ _ _, rfl, rfl, by simp, _, rfl, ⟨rfl, .inl ⟨rfl, rfl⟩⟩⟩
end Go.Proofs.YthofdiacncgbkaaGreatDoor
