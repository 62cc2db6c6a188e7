/-
  Texts of nets: a device's line.
-/
import Derived.Test.YthofdiacncgbkaaGreatDoorPA
import Derived.Test.YthofdiacncgbkaaGreatDoorNM
import Derived.Test.YthofdiacncgbkaaGreatDoorShelfC
namespace Go.Proofs.YthofdiacncgbkaaGreatDoor
open Go.RowKit

set_option maxHeartbeats 1000000 in
theorem clone_any (s : ByteArray) (w : World) (h : s.size ≤ 4096) : Calls Tryz.prog 99 #[.string s] w fun e w' => e = .returned (.string s) ∧ Below w.heap.size w w' := by
  have K : Hid (∀ w, Calls Tryz.prog 122 #[.string s] w fun e w' => e = .returned (.string s) ∧ Below w.heap.size w w') := fun w => Tryz.stringslite_Clone s w (by omega)
  go_enter Tryz.func99, Tryz.ntmps99
  go_wp2_with fail
  refine (K.out _).mono ?_
  rintro e w1 ⟨rfl, hb⟩
  go_wp2_with fail
  go_ret
  exact ⟨rfl, hb⟩
def SevenU (w : World) (n : Nat) (a b c d e f g : Value) : Prop :=
  n < w.heap.size ∧ (w.cell? ⟨n, 0, none⟩ = some a ∧ w.cell? ⟨n, 1, none⟩ = some b ∧ w.cell? ⟨n, 2, none⟩ = some c ∧ w.cell? ⟨n, 3, none⟩ = some d ∧ w.cell? ⟨n, 4, none⟩ = some e ∧ w.cell? ⟨n, 5, none⟩ = some f ∧ w.cell? ⟨n, 6, none⟩ = some g) ∧ w.frozen? ⟨n, 0, none⟩ = false ∧ w.frozen? ⟨n, 1, none⟩ = false ∧ w.frozen? ⟨n, 2, none⟩ = false ∧ w.frozen? ⟨n, 3, none⟩ = false ∧ w.frozen? ⟨n, 4, none⟩ = false ∧ w.frozen? ⟨n, 5, none⟩ = false ∧ w.frozen? ⟨n, 6, none⟩ = false
theorem keepSevenU {W w' : World} {n : Nat} {a b c d e f g : Value} (hb : Below W.heap.size W w') (h : SevenU W n a b c d e f g) : SevenU w' n a b c d e f g := by
  obtain ⟨h0, ⟨h1, h2, h3, h4, h5, h6, h7⟩, k1, k2, k3, k4, k5, k6, k7⟩ := h
  exact ⟨Nat.lt_of_lt_of_le h0 hb.size, ⟨(hb.cell (p := ⟨n, 0, none⟩) h0).trans h1, (hb.cell (p := ⟨n, 1, none⟩) h0).trans h2, (hb.cell (p := ⟨n, 2, none⟩) h0).trans h3, (hb.cell (p := ⟨n, 3, none⟩) h0).trans h4, (hb.cell (p := ⟨n, 4, none⟩) h0).trans h5, (hb.cell (p := ⟨n, 5, none⟩) h0).trans h6, (hb.cell (p := ⟨n, 6, none⟩) h0).trans h7⟩, (hb.frozen (p := ⟨n, 0, none⟩) h0).trans k1, (hb.frozen (p := ⟨n, 1, none⟩) h0).trans k2, (hb.frozen (p := ⟨n, 2, none⟩) h0).trans k3, (hb.frozen (p := ⟨n, 3, none⟩) h0).trans k4, (hb.frozen (p := ⟨n, 4, none⟩) h0).trans k5, (hb.frozen (p := ⟨n, 5, none⟩) h0).trans k6, (hb.frozen (p := ⟨n, 6, none⟩) h0).trans k7⟩
theorem sevenU_new (w : World) (a b c d e f g : Value) (t : TypeId) : SevenU (w.alloc (.cells #[a, b, c, d, e, f, g] t)) w.heap.size a b c d e f g :=
  ⟨by simp, ⟨by simp [go_sem], by simp [go_sem], by simp [go_sem], by simp [go_sem], by simp [go_sem], by simp [go_sem], by simp [go_sem]⟩, by simp [go_sem], by simp [go_sem], by simp [go_sem], by simp [go_sem], by simp [go_sem], by simp [go_sem], by simp [go_sem]⟩
theorem below_set7 {B b : Nat} {a w : World} (h : Below B a w) (hb : B ≤ b) (v0 v1 v2 v3 v4 v5 v6 : Value) : Below B a (((((((w.setCell ⟨b, 0, none⟩ v0).setCell ⟨b, 1, none⟩ v1).setCell ⟨b, 2, none⟩ v2).setCell ⟨b, 3, none⟩ v3).setCell ⟨b, 4, none⟩ v4).setCell ⟨b, 5, none⟩ v5).setCell ⟨b, 6, none⟩ v6) := (((((((h.setCell (p := ⟨b, 0, none⟩) hb v0).setCell (p := ⟨b, 1, none⟩) hb v1).setCell (p := ⟨b, 2, none⟩) hb v2).setCell (p := ⟨b, 3, none⟩) hb v3).setCell (p := ⟨b, 4, none⟩) hb v4).setCell (p := ⟨b, 5, none⟩) hb v5).setCell (p := ⟨b, 6, none⟩) hb v6)
def dvA (nm : ByteArray) (k ad : Int) (pl : Nat) (vb : Value) : Value := .agg #[.string nm, .int .i64 k, .int .i64 ad, .int .u8 (pl : Int), vb, .slice none 0 0, .slice none 0 0]
/-- What a device's line is told as. -/
def DevOut (w : World) (o : Option Dv) (e : Ending) (w' : World) : Prop :=
  Below w.heap.size w w' ∧ match o with
    | none => e = .returned (.tuple #[dvA ⟨#[]⟩ 0 0 0 (.slice none 0 0), .bool false])
    | some d => d.rules = [] ∧ d.routes = [] ∧ d.backs.length ≤ 4097 ∧ ∃ vb, e = .returned (.tuple #[dvA d.name d.kind d.addr d.pool vb, .bool true]) ∧ w'.ownsRow w.heap.size 3 1 vb d.backs.length (intsC d.backs)
set_option maxHeartbeats 4000000 in
set_option maxRecDepth 100000 in
theorem pd_0 (g n : Nat) (xs : List ByteArray) (w : World) (T : Texts w g xs) (KO : Hid (∀ W, Below w.heap.size w W → Calls Tryz.prog 98 #[.slice (some ⟨g, 0, none⟩) n n] W fun e w' => e = .returned (.tuple #[.int .i64 0, .bool false]) ∧ Below W.heap.size W w')) :
    Calls Tryz.prog 64 #[.slice (some ⟨g, 0, none⟩) n n] w fun e w' => DevOut w none e w' := by
  have R0 := sevenU_new w (.string ⟨#[]⟩) (.int .i64 0) (.int .i64 0) (.int .u8 0) (.slice none 0 0) (.slice none 0 0) (.slice none 0 0) 37
  have D0 := Below.alloc' (Below.refl w.heap.size w) (.cells #[.string ⟨#[]⟩, .int .i64 0, .int .i64 0, .int .u8 0, .slice none 0 0, .slice none 0 0, .slice none 0 0] 37)
  have hsz : w.heap.size ≤ w.heap.size := Nat.le_refl _
  have T0 := keepTexts D0 T
  go_enter Tryz.func64, Tryz.ntmps64
  generalize hW : w.alloc (.cells #[.string ⟨#[]⟩, .int .i64 0, .int .i64 0, .int .u8 0, .slice none 0 0, .slice none 0 0, .slice none 0 0] 37) = w1 at *
  go_wp2_with fail
  refine (KO.out _ D0).mono ?_
  rintro e w2 ⟨rfl, hb2⟩
  have R2 := keepSevenU hb2 R0
  have T2 := keepTexts hb2 T0
  have D2 := chain hb2 D0
  clear R0 D0 T0 hW hb2 KO T
  obtain ⟨l0, ⟨r0, r1, r2, r3, r4, r5, r6⟩, f0, f1, f2, f3, f4, f5, f6⟩ := R2
  clear T2
  go_wp2_with fail
  exact bodyPost_ret (v := .tuple #[dvA ⟨#[]⟩ 0 0 0 (.slice none 0 0), .bool false]) (by simp [results, Tryz.results64, go_sem, dvA, r0, r1, r2, r3, r4, r5, r6]) rfl ⟨below_set7 D2 hsz _ _ _ _ _ _ _, rfl⟩
set_option maxHeartbeats 4000000 in
set_option maxRecDepth 100000 in
theorem pd_bad (g n : Nat) (k : Int) (s0 s1 : ByteArray) (xs : List ByteArray) (w : World) (hn : 1 < n) (hs : nameOk s1 = false) (T : Texts w g (s0 :: s1 :: xs)) (KO : Hid (∀ W, Below w.heap.size w W → Calls Tryz.prog 98 #[.slice (some ⟨g, 0, none⟩) n n] W fun e w' => e = .returned (.tuple #[.int .i64 k, .bool true]) ∧ Below W.heap.size W w')) :
    Calls Tryz.prog 64 #[.slice (some ⟨g, 0, none⟩) n n] w fun e w' => DevOut w none e w' := by
  have IN : Hid (∀ w, Calls Tryz.prog 65 #[.string s1] w fun e w' => e = .returned (.bool false) ∧ w' = w) := fun w => by
    have := isName_any s1 w
    rw [hs] at this
    exact this
  clear hs
  have R0 := sevenU_new w (.string ⟨#[]⟩) (.int .i64 0) (.int .i64 0) (.int .u8 0) (.slice none 0 0) (.slice none 0 0) (.slice none 0 0) 37
  have D0 := Below.alloc' (Below.refl w.heap.size w) (.cells #[.string ⟨#[]⟩, .int .i64 0, .int .i64 0, .int .u8 0, .slice none 0 0, .slice none 0 0, .slice none 0 0] 37)
  have hsz : w.heap.size ≤ w.heap.size := Nat.le_refl _
  have T0 := keepTexts D0 T
  go_enter Tryz.func64, Tryz.ntmps64
  generalize hW : w.alloc (.cells #[.string ⟨#[]⟩, .int .i64 0, .int .i64 0, .int .u8 0, .slice none 0 0, .slice none 0 0, .slice none 0 0] 37) = w1 at *
  go_wp2_with fail
  refine (KO.out _ D0).mono ?_
  rintro e w2 ⟨rfl, hb2⟩
  have R2 := keepSevenU hb2 R0
  have T2 := keepTexts hb2 T0
  have D2 := chain hb2 D0
  clear R0 D0 T0 hW hb2 KO T
  obtain ⟨l0, ⟨r0, r1, r2, r3, r4, r5, r6⟩, f0, f1, f2, f3, f4, f5, f6⟩ := R2
  have c1 := T2.2 1 s1 rfl
  clear T2
  go_wp2_with fail
  refine (IN.out _).mono ?_
  rintro e w3 ⟨rfl, rfl⟩
  go_wp2_with fail
  exact bodyPost_ret (v := .tuple #[dvA ⟨#[]⟩ 0 0 0 (.slice none 0 0), .bool false]) (by simp [results, Tryz.results64, go_sem, dvA, r0, r1, r2, r3, r4, r5, r6]) rfl ⟨below_set7 D2 hsz _ _ _ _ _ _ _, rfl⟩
set_option maxHeartbeats 4000000 in
set_option maxRecDepth 100000 in
theorem pd_2 (g : Nat) (s0 s1 : ByteArray) (w : World) (hs : nameOk s1 = true) (h1 : s1.size ≤ 4096) (T : Texts w g [s0, s1]) (KO : Hid (∀ W, Below w.heap.size w W → Calls Tryz.prog 98 #[.slice (some ⟨g, 0, none⟩) 2 2] W fun e w' => e = .returned (.tuple #[.int .i64 2, .bool true]) ∧ Below W.heap.size W w')) (hl : s1.size ≤ maxLen) :
    Calls Tryz.prog 64 #[.slice (some ⟨g, 0, none⟩) 2 2] w fun e w' => DevOut w (some ⟨s1, 2, 0, 0, [], [], [], by omega, hl⟩) e w' := by
  have IN : Hid (∀ w, Calls Tryz.prog 65 #[.string s1] w fun e w' => e = .returned (.bool true) ∧ w' = w) := fun w => by
    have := isName_any s1 w
    rw [hs] at this
    exact this
  have CL : Hid (∀ w, Calls Tryz.prog 99 #[.string s1] w fun e w' => e = .returned (.string s1) ∧ Below w.heap.size w w') := fun w => clone_any s1 w h1
  have HA : Hid (∀ w, Calls Tryz.prog 50 #[.int .i64 2] w fun e w' => e = .returned (.bool false) ∧ w' = w) := fun w => hasAddr_any 2 w
  clear hs h1
  have R0 := sevenU_new w (.string ⟨#[]⟩) (.int .i64 0) (.int .i64 0) (.int .u8 0) (.slice none 0 0) (.slice none 0 0) (.slice none 0 0) 37
  have D0 := Below.alloc' (Below.refl w.heap.size w) (.cells #[.string ⟨#[]⟩, .int .i64 0, .int .i64 0, .int .u8 0, .slice none 0 0, .slice none 0 0, .slice none 0 0] 37)
  have hsz : w.heap.size ≤ w.heap.size := Nat.le_refl _
  have T0 := keepTexts D0 T
  go_enter Tryz.func64, Tryz.ntmps64
  generalize hW : w.alloc (.cells #[.string ⟨#[]⟩, .int .i64 0, .int .i64 0, .int .u8 0, .slice none 0 0, .slice none 0 0, .slice none 0 0] 37) = w1 at *
  go_wp2_with fail
  refine (KO.out _ D0).mono ?_
  rintro e w2 ⟨rfl, hb2⟩
  have R2 := keepSevenU hb2 R0
  have T2 := keepTexts hb2 T0
  have D2 := chain hb2 D0
  clear R0 D0 T0 hW hb2 KO T
  have c1 := T2.2 1 s1 rfl
  go_wp2_with fail
  refine (IN.out _).mono ?_
  rintro e w3 ⟨rfl, rfl⟩
  go_wp2_with fail
  refine (CL.out _).mono ?_
  rintro e w4 ⟨rfl, hb4⟩
  have R4 := keepSevenU hb4 R2
  have T4 := keepTexts hb4 T2
  have D4 := chain hb4 D2
  have D5 := Below.alloc' D4 (.cells #[.string s1, .int .i64 2, .int .i64 0, .int .u8 0, .slice none 0 0, .slice none 0 0, .slice none 0 0] 37)
  have R5 := keepSevenU ((Below.refl _ _).alloc (Nat.le_refl _) (.cells #[.string s1, .int .i64 2, .int .i64 0, .int .u8 0, .slice none 0 0, .slice none 0 0, .slice none 0 0] 37)) R4
  have T5 := keepTexts ((Below.refl _ _).alloc (Nat.le_refl _) (.cells #[.string s1, .int .i64 2, .int .i64 0, .int .u8 0, .slice none 0 0, .slice none 0 0, .slice none 0 0] 37)) T4
  have X5 := sevenU_new w4 (.string s1) (.int .i64 2) (.int .i64 0) (.int .u8 0) (.slice none 0 0) (.slice none 0 0) (.slice none 0 0) 37
  have hne : w.heap.size ≠ w4.heap.size := by have := R4.1; omega
  clear R2 T2 D2 hb4 c1 R4 T4
  obtain ⟨l0, ⟨r0, r1, r2, r3, r4, r5, r6⟩, f0, f1, f2, f3, f4, f5, f6⟩ := R5
  go_wp2_with fail
  refine (HA.out _).mono ?_
  rintro e w6 ⟨rfl, rfl⟩
  go_wp2_with fail
  exact bodyPost_ret (v := .tuple #[dvA s1 2 0 0 (.slice none 0 0), .bool true]) (by simp [results, Tryz.results64, go_sem, dvA, r0, r1, r2, r3, r4, r5, r6]) rfl ⟨below_set7 D5 hsz _ _ _ _ _ _ _, rfl, rfl, by simp, _, rfl, ⟨rfl, .inl ⟨rfl, rfl⟩⟩⟩
set_option maxHeartbeats 4000000 in
set_option maxRecDepth 100000 in
theorem pd_3 (g : Nat) (s0 s1 : ByteArray) (w : World) (hs : nameOk s1 = true) (h1 : s1.size ≤ 4096) (T : Texts w g [s0, s1]) (KO : Hid (∀ W, Below w.heap.size w W → Calls Tryz.prog 98 #[.slice (some ⟨g, 0, none⟩) 2 2] W fun e w' => e = .returned (.tuple #[.int .i64 3, .bool true]) ∧ Below W.heap.size W w')) (hl : s1.size ≤ maxLen) :
    Calls Tryz.prog 64 #[.slice (some ⟨g, 0, none⟩) 2 2] w fun e w' => DevOut w (some ⟨s1, 3, 0, 0, [], [], [], by omega, hl⟩) e w' := by
  have IN : Hid (∀ w, Calls Tryz.prog 65 #[.string s1] w fun e w' => e = .returned (.bool true) ∧ w' = w) := fun w => by
    have := isName_any s1 w
    rw [hs] at this
    exact this
  have CL : Hid (∀ w, Calls Tryz.prog 99 #[.string s1] w fun e w' => e = .returned (.string s1) ∧ Below w.heap.size w w') := fun w => clone_any s1 w h1
  have HA : Hid (∀ w, Calls Tryz.prog 50 #[.int .i64 3] w fun e w' => e = .returned (.bool false) ∧ w' = w) := fun w => hasAddr_any 3 w
  clear hs h1
  have R0 := sevenU_new w (.string ⟨#[]⟩) (.int .i64 0) (.int .i64 0) (.int .u8 0) (.slice none 0 0) (.slice none 0 0) (.slice none 0 0) 37
  have D0 := Below.alloc' (Below.refl w.heap.size w) (.cells #[.string ⟨#[]⟩, .int .i64 0, .int .i64 0, .int .u8 0, .slice none 0 0, .slice none 0 0, .slice none 0 0] 37)
  have hsz : w.heap.size ≤ w.heap.size := Nat.le_refl _
  have T0 := keepTexts D0 T
  go_enter Tryz.func64, Tryz.ntmps64
  generalize hW : w.alloc (.cells #[.string ⟨#[]⟩, .int .i64 0, .int .i64 0, .int .u8 0, .slice none 0 0, .slice none 0 0, .slice none 0 0] 37) = w1 at *
  go_wp2_with fail
  refine (KO.out _ D0).mono ?_
  rintro e w2 ⟨rfl, hb2⟩
  have R2 := keepSevenU hb2 R0
  have T2 := keepTexts hb2 T0
  have D2 := chain hb2 D0
  clear R0 D0 T0 hW hb2 KO T
  have c1 := T2.2 1 s1 rfl
  go_wp2_with fail
  refine (IN.out _).mono ?_
  rintro e w3 ⟨rfl, rfl⟩
  go_wp2_with fail
  refine (CL.out _).mono ?_
  rintro e w4 ⟨rfl, hb4⟩
  have R4 := keepSevenU hb4 R2
  have T4 := keepTexts hb4 T2
  have D4 := chain hb4 D2
  have D5 := Below.alloc' D4 (.cells #[.string s1, .int .i64 3, .int .i64 0, .int .u8 0, .slice none 0 0, .slice none 0 0, .slice none 0 0] 37)
  have R5 := keepSevenU ((Below.refl _ _).alloc (Nat.le_refl _) (.cells #[.string s1, .int .i64 3, .int .i64 0, .int .u8 0, .slice none 0 0, .slice none 0 0, .slice none 0 0] 37)) R4
  have T5 := keepTexts ((Below.refl _ _).alloc (Nat.le_refl _) (.cells #[.string s1, .int .i64 3, .int .i64 0, .int .u8 0, .slice none 0 0, .slice none 0 0, .slice none 0 0] 37)) T4
  have X5 := sevenU_new w4 (.string s1) (.int .i64 3) (.int .i64 0) (.int .u8 0) (.slice none 0 0) (.slice none 0 0) (.slice none 0 0) 37
  have hne : w.heap.size ≠ w4.heap.size := by have := R4.1; omega
  clear R2 T2 D2 hb4 c1 R4 T4
  obtain ⟨l0, ⟨r0, r1, r2, r3, r4, r5, r6⟩, f0, f1, f2, f3, f4, f5, f6⟩ := R5
  go_wp2_with fail
  refine (HA.out _).mono ?_
  rintro e w6 ⟨rfl, rfl⟩
  go_wp2_with fail
  exact bodyPost_ret (v := .tuple #[dvA s1 3 0 0 (.slice none 0 0), .bool true]) (by simp [results, Tryz.results64, go_sem, dvA, r0, r1, r2, r3, r4, r5, r6]) rfl ⟨below_set7 D5 hsz _ _ _ _ _ _ _, rfl, rfl, by simp, _, rfl, ⟨rfl, .inl ⟨rfl, rfl⟩⟩⟩
end Go.Proofs.YthofdiacncgbkaaGreatDoor
