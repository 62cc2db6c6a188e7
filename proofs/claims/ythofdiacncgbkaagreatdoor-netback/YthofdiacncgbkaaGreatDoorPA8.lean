/-
  Texts of nets: a device's line, of a kind with an address and a list.
-/
import Derived.Test.YthofdiacncgbkaaGreatDoorPA7
namespace Go.Proofs.YthofdiacncgbkaaGreatDoor
open Go.RowKit

set_option maxHeartbeats 4000000 in
set_option maxRecDepth 100000 in
theorem pd_4 (g : Nat) (s0 s1 s2 s3 : ByteArray) (ad : Int) (z : Nat) (b1 b2 : Bool) (w : World) (hs : nameOk s1 = true) (h1 : s1.size ≤ 4096) (PN : Hid (∀ w, Calls Tryz.prog 63 #[.string s2] w fun e w' => e = .returned (.tuple #[.int .i64 ad, .bool b1]) ∧ w' = w))(PP : Hid (∀ w, Calls Tryz.prog 100 #[.string s3] w fun e w' => e = .returned (.tuple #[.int .u8 (z : Int), .bool b2]) ∧ Below w.heap.size w w')) (T : Texts w g [s0, s1, s2, s3]) (KO : Hid (∀ W, Below w.heap.size w W → Calls Tryz.prog 98 #[.slice (some ⟨g, 0, none⟩) 4 4] W fun e w' => e = .returned (.tuple #[.int .i64 4, .bool true]) ∧ Below W.heap.size W w')) (hl : s1.size ≤ maxLen) (hz : z < 256) :
    Calls Tryz.prog 64 #[.slice (some ⟨g, 0, none⟩) 4 4] w fun e w' => DevOut w (if b1 && b2 then some ⟨s1, 4, ad, z, [], [], [], hz, hl⟩ else none) e w' := by
  have IN : Hid (∀ w, Calls Tryz.prog 65 #[.string s1] w fun e w' => e = .returned (.bool true) ∧ w' = w) := fun w => by
    have := isName_any s1 w
    rw [hs] at this
    exact this
  have CL : Hid (∀ w, Calls Tryz.prog 99 #[.string s1] w fun e w' => e = .returned (.string s1) ∧ Below w.heap.size w w') := fun w => clone_any s1 w h1
  have HA : Hid (∀ w, Calls Tryz.prog 50 #[.int .i64 4] w fun e w' => e = .returned (.bool true) ∧ w' = w) := fun w => hasAddr_any 4 w
  clear hs h1
  have R0 := sevenU_new w (.string ⟨#[]⟩) (.int .i64 0) (.int .i64 0) (.int .u8 0) (.slice none 0 0) (.slice none 0 0) (.slice none 0 0) 37
  have D0 := Below.alloc' (Below.refl w.heap.size w) (.cells #[.string ⟨#[]⟩, .int .i64 0, .int .i64 0, .int .u8 0, .slice none 0 0, .slice none 0 0, .slice none 0 0] 37)
  have hsz : w.heap.size ≤ w.heap.size := Nat.le_refl _
  have T0 := keepTexts D0 T
  go_enter Tryz.func64, Tryz.ntmps64
  generalize hW : w.alloc (.cells #[.string ⟨#[]⟩, .int .i64 0, .int .i64 0, .int .u8 0, .slice none 0 0, .slice none 0 0, .slice none 0 0] 37) = w1 at *
  go_wp2_with fail
  refine (KO.out _ D0).mono ?_
  rintro e w2 ⟨rfl, hb2⟩
  have R2 := keepSevenU hb2 R0
  have T2 := keepTexts hb2 T0
  have D2 := chain hb2 D0
  clear R0 D0 T0 hW hb2 KO T
  have c1 := T2.2 1 s1 rfl
  go_wp2_with fail
  refine (IN.out _).mono ?_
  rintro e w3 ⟨rfl, rfl⟩
  go_wp2_with fail
  refine (CL.out _).mono ?_
  rintro e w4 ⟨rfl, hb4⟩
  have R4 := keepSevenU hb4 R2
  have T4 := keepTexts hb4 T2
  have D4 := chain hb4 D2
  have T5 := keepTexts ((Below.refl _ _).alloc (Nat.le_refl _) (.cells #[.string s1, .int .i64 4, .int .i64 0, .int .u8 0, .slice none 0 0, .slice none 0 0, .slice none 0 0] 37)) T4
  have D6 := Below.alloc' D4 (.cells #[.string s1, .int .i64 4, .int .i64 ad, .int .u8 0, .slice none 0 0, .slice none 0 0, .slice none 0 0] 37)
  have R6 := keepSevenU ((Below.refl _ _).alloc (Nat.le_refl _) (.cells #[.string s1, .int .i64 4, .int .i64 ad, .int .u8 0, .slice none 0 0, .slice none 0 0, .slice none 0 0] 37)) R4
  have T6 := keepTexts ((Below.refl _ _).alloc (Nat.le_refl _) (.cells #[.string s1, .int .i64 4, .int .i64 ad, .int .u8 0, .slice none 0 0, .slice none 0 0, .slice none 0 0] 37)) T4
  have X6 := sevenU_new w4 (.string s1) (.int .i64 4) (.int .i64 ad) (.int .u8 0) (.slice none 0 0) (.slice none 0 0) (.slice none 0 0) 37
  have hne : w.heap.size ≠ w4.heap.size := by have := R4.1; omega
  have c2 := T5.2 2 s2 rfl
  clear R2 T2 D2 hb4 c1 R4 T4 T5
  go_wp2_with fail
  refine (HA.out _).mono ?_
  rintro e w5 ⟨rfl, rfl⟩
  go_wp2_with fail
  refine (PN.out _).mono ?_
  rintro e w6 ⟨rfl, rfl⟩
  have c3 := T6.2 3 s3 rfl
  clear T6
  go_wp2_with fail
  refine (PP.out _).mono ?_
  rintro e w7 ⟨rfl, hb7⟩
  have R7 := keepSevenU hb7 R6
  have X7 := keepSevenU hb7 X6
  have D7 := chain hb7 D6
  have hle : w.heap.size ≤ w4.heap.size := by have := D4.size; omega
  have D8 := D7.setCell (p := ⟨w4.heap.size, 3, none⟩) hle (.int .u8 (z : Int))
  clear R6 X6 D6 D4 hb7 c3 c2 PN PP IN CL HA
  obtain ⟨l0, ⟨r0, r1, r2, r3, r4, r5, r6⟩, f0, f1, f2, f3, f4, f5, f6⟩ := R7
  obtain ⟨m0, ⟨x0, x1, x2, x3, x4, x5, x6⟩, y0, y1, y2, y3, y4, y5, y6⟩ := X7
  cases b1
  · go_wp2_with fail
    exact bodyPost_ret (v := .tuple #[dvA ⟨#[]⟩ 0 0 0 (.slice none 0 0), .bool false]) (by simp [results, Tryz.results64, go_sem, dvA, r0, r1, r2, r3, r4, r5, r6]) rfl ⟨below_set7 D8 hsz _ _ _ _ _ _ _, rfl⟩
  · cases b2
    · go_wp2_with fail
      exact bodyPost_ret (v := .tuple #[dvA ⟨#[]⟩ 0 0 0 (.slice none 0 0), .bool false]) (by simp [results, Tryz.results64, go_sem, dvA, r0, r1, r2, r3, r4, r5, r6]) rfl ⟨below_set7 D8 hsz _ _ _ _ _ _ _, rfl⟩
    · go_wp2_with fail
      exact bodyPost_ret (v := .tuple #[dvA s1 4 ad z (.slice none 0 0), .bool true]) (by simp [results, Tryz.results64, go_sem, dvA, r0, r1, r2, r3, r4, r5, r6]) rfl ⟨below_set7 D8 hsz _ _ _ _ _ _ _, rfl, rfl, by simp, _, rfl, ⟨rfl, .inl ⟨rfl, rfl⟩⟩⟩
theorem own_slice {w : World} {B e size n : Nat} {v : Value} {xs : List Value} (h : w.ownsRow B e size v n xs) : ∃ A cap, v = .slice A n cap := by
  rcases h.2 with ⟨rfl, h0⟩ | ⟨g, cap, cur, h1, _⟩
  · exact ⟨none, 0, by rw [h0]⟩
  · exact ⟨_, cap, h1⟩
theorem own_set7 {w : World} {B b e size n : Nat} {v : Value} {xs : List Value} (h : w.ownsRow B e size v n xs) (hb : b < B) (v0 v1 v2 v3 v4 v5 v6 : Value) : World.ownsRow (((((((w.setCell ⟨b, 0, none⟩ v0).setCell ⟨b, 1, none⟩ v1).setCell ⟨b, 2, none⟩ v2).setCell ⟨b, 3, none⟩ v3).setCell ⟨b, 4, none⟩ v4).setCell ⟨b, 5, none⟩ v5).setCell ⟨b, 6, none⟩ v6) B e size v n xs := (ownsRow_setCell_below (ownsRow_setCell_below (ownsRow_setCell_below (ownsRow_setCell_below (ownsRow_setCell_below (ownsRow_setCell_below (ownsRow_setCell_below h (a := ⟨b, 0, none⟩) hb v0) (a := ⟨b, 1, none⟩) hb v1) (a := ⟨b, 2, none⟩) hb v2) (a := ⟨b, 3, none⟩) hb v3) (a := ⟨b, 4, none⟩) hb v4) (a := ⟨b, 5, none⟩) hb v5) (a := ⟨b, 6, none⟩) hb v6)
set_option maxHeartbeats 4000000 in
set_option maxRecDepth 100000 in
theorem pd_5 (g : Nat) (s0 s1 s2 s3 : ByteArray) (ad : Int) (l : List Int) (b1 b2 : Bool) (w : World) (hs : nameOk s1 = true) (h1 : s1.size ≤ 4096) (PN : Hid (∀ w, Calls Tryz.prog 63 #[.string s2] w fun e w' => e = .returned (.tuple #[.int .i64 ad, .bool b1]) ∧ w' = w))(PP : Hid (∀ w, Calls Tryz.prog 101 #[.string s3] w fun e w' => Below w.heap.size w w' ∧ ∃ v, e = .returned (.tuple #[v, .bool b2]) ∧ w'.ownsRow w.heap.size 3 1 v l.length (intsC l))) (T : Texts w g [s0, s1, s2, s3]) (KO : Hid (∀ W, Below w.heap.size w W → Calls Tryz.prog 98 #[.slice (some ⟨g, 0, none⟩) 4 4] W fun e w' => e = .returned (.tuple #[.int .i64 5, .bool true]) ∧ Below W.heap.size W w')) (hl : s1.size ≤ maxLen) (hll : l.length ≤ 4097) :
    Calls Tryz.prog 64 #[.slice (some ⟨g, 0, none⟩) 4 4] w fun e w' => DevOut w (if b1 && b2 then some ⟨s1, 5, ad, 0, l, [], [], by omega, hl⟩ else none) e w' := by
  have IN : Hid (∀ w, Calls Tryz.prog 65 #[.string s1] w fun e w' => e = .returned (.bool true) ∧ w' = w) := fun w => by
    have := isName_any s1 w
    rw [hs] at this
    exact this
  have CL : Hid (∀ w, Calls Tryz.prog 99 #[.string s1] w fun e w' => e = .returned (.string s1) ∧ Below w.heap.size w w') := fun w => clone_any s1 w h1
  have HA : Hid (∀ w, Calls Tryz.prog 50 #[.int .i64 5] w fun e w' => e = .returned (.bool true) ∧ w' = w) := fun w => hasAddr_any 5 w
  clear hs h1
  have R0 := sevenU_new w (.string ⟨#[]⟩) (.int .i64 0) (.int .i64 0) (.int .u8 0) (.slice none 0 0) (.slice none 0 0) (.slice none 0 0) 37
  have D0 := Below.alloc' (Below.refl w.heap.size w) (.cells #[.string ⟨#[]⟩, .int .i64 0, .int .i64 0, .int .u8 0, .slice none 0 0, .slice none 0 0, .slice none 0 0] 37)
  have hsz : w.heap.size ≤ w.heap.size := Nat.le_refl _
  have T0 := keepTexts D0 T
  go_enter Tryz.func64, Tryz.ntmps64
  generalize hW : w.alloc (.cells #[.string ⟨#[]⟩, .int .i64 0, .int .i64 0, .int .u8 0, .slice none 0 0, .slice none 0 0, .slice none 0 0] 37) = w1 at *
  go_wp2_with fail
  refine (KO.out _ D0).mono ?_
  rintro e w2 ⟨rfl, hb2⟩
  have R2 := keepSevenU hb2 R0
  have T2 := keepTexts hb2 T0
  have D2 := chain hb2 D0
  clear R0 D0 T0 hW hb2 KO T
  have c1 := T2.2 1 s1 rfl
  go_wp2_with fail
  refine (IN.out _).mono ?_
  rintro e w3 ⟨rfl, rfl⟩
  go_wp2_with fail
  refine (CL.out _).mono ?_
  rintro e w4 ⟨rfl, hb4⟩
  have R4 := keepSevenU hb4 R2
  have T4 := keepTexts hb4 T2
  have D4 := chain hb4 D2
  have T5 := keepTexts ((Below.refl _ _).alloc (Nat.le_refl _) (.cells #[.string s1, .int .i64 5, .int .i64 0, .int .u8 0, .slice none 0 0, .slice none 0 0, .slice none 0 0] 37)) T4
  have D6 := Below.alloc' D4 (.cells #[.string s1, .int .i64 5, .int .i64 ad, .int .u8 0, .slice none 0 0, .slice none 0 0, .slice none 0 0] 37)
  have R6 := keepSevenU ((Below.refl _ _).alloc (Nat.le_refl _) (.cells #[.string s1, .int .i64 5, .int .i64 ad, .int .u8 0, .slice none 0 0, .slice none 0 0, .slice none 0 0] 37)) R4
  have T6 := keepTexts ((Below.refl _ _).alloc (Nat.le_refl _) (.cells #[.string s1, .int .i64 5, .int .i64 ad, .int .u8 0, .slice none 0 0, .slice none 0 0, .slice none 0 0] 37)) T4
  have X6 := sevenU_new w4 (.string s1) (.int .i64 5) (.int .i64 ad) (.int .u8 0) (.slice none 0 0) (.slice none 0 0) (.slice none 0 0) 37
  have hne : w.heap.size ≠ w4.heap.size := by have := R4.1; omega
  have c2 := T5.2 2 s2 rfl
  clear R2 T2 D2 hb4 c1 R4 T4 T5
  go_wp2_with fail
  refine (HA.out _).mono ?_
  rintro e w5 ⟨rfl, rfl⟩
  go_wp2_with fail
  refine (PN.out _).mono ?_
  rintro e w6 ⟨rfl, rfl⟩
  have c3 := T6.2 3 s3 rfl
  clear T6
  go_wp2_with fail
  refine (PP.out _).mono ?_
  rintro e w7 ⟨hb7, v, rfl, O7⟩
  obtain ⟨A, cap, rfl⟩ := own_slice O7
  have hbase : w.heap.size < (w4.alloc (.cells #[.string s1, .int .i64 5, .int .i64 ad, .int .u8 0, .slice none 0 0, .slice none 0 0, .slice none 0 0] 37)).heap.size := R6.1
  have hbase2 : w4.heap.size < (w4.alloc (.cells #[.string s1, .int .i64 5, .int .i64 ad, .int .u8 0, .slice none 0 0, .slice none 0 0, .slice none 0 0] 37)).heap.size := X6.1
  have R7 := keepSevenU hb7 R6
  have X7 := keepSevenU hb7 X6
  have D7 := chain hb7 D6
  have hle : w.heap.size ≤ w4.heap.size := by have := D4.size; omega
  have D8 := D7.setCell (p := ⟨w4.heap.size, 4, none⟩) hle (.slice A l.length cap)
  have O8 := ownsRow_setCell_below O7 (a := ⟨w4.heap.size, 4, none⟩) hbase2 (.slice A l.length cap)
  clear R6 X6 D6 hb7 c3 c2 PN PP IN CL HA O7
  obtain ⟨l0, ⟨r0, r1, r2, r3, r4, r5, r6⟩, f0, f1, f2, f3, f4, f5, f6⟩ := R7
  obtain ⟨m0, ⟨x0, x1, x2, x3, x4, x5, x6⟩, y0, y1, y2, y3, y4, y5, y6⟩ := X7
  generalize (w4.alloc (.cells #[.string s1, .int .i64 5, .int .i64 ad, .int .u8 0, .slice none 0 0, .slice none 0 0, .slice none 0 0] 37)).heap.size = bs at *
  have hbs : w.heap.size ≤ bs := by omega
  clear D4
  cases b1
  · go_wp2_with fail
    exact bodyPost_ret (v := .tuple #[dvA ⟨#[]⟩ 0 0 0 (.slice none 0 0), .bool false]) (by simp [results, Tryz.results64, go_sem, dvA, r0, r1, r2, r3, r4, r5, r6]) rfl ⟨below_set7 D8 hsz _ _ _ _ _ _ _, rfl⟩
  · cases b2
    · go_wp2_with fail
      exact bodyPost_ret (v := .tuple #[dvA ⟨#[]⟩ 0 0 0 (.slice none 0 0), .bool false]) (by simp [results, Tryz.results64, go_sem, dvA, r0, r1, r2, r3, r4, r5, r6]) rfl ⟨below_set7 D8 hsz _ _ _ _ _ _ _, rfl⟩
    · go_wp2_with fail
      exact bodyPost_ret (v := .tuple #[dvA s1 5 ad 0 (.slice A l.length cap), .bool true]) (by simp [results, Tryz.results64, go_sem, dvA, r0, r1, r2, r3, r4, r5, r6]) rfl ⟨below_set7 D8 hsz _ _ _ _ _ _ _, rfl, rfl, hll, _, rfl, own_mono (own_set7 O8 hbase _ _ _ _ _ _ _) hbs⟩
end Go.Proofs.YthofdiacncgbkaaGreatDoor
