/-
  Print and Parse of a match: what they return; no memory that was there turns.
-/
import Derived.Test.YthofdiacncgbkaaGreatDoorM5
namespace Go.Proofs.YthofdiacncgbkaaGreatDoor
open Go.RowKit

theorem Four.cells {w : World} {n : Nat} {a b c d : Value} (h : Four w n a b c d) : w.cell? ⟨n, 0, none⟩ = some a ∧ w.cell? ⟨n, 1, none⟩ = some b ∧ w.cell? ⟨n, 2, none⟩ = some c ∧ w.cell? ⟨n, 3, none⟩ = some d := h.2

set_option maxHeartbeats 4000000 in
set_option maxRecDepth 100000 in
theorem print_match (a b c d : Nat) (w : World) (ha : a < 2 ^ 16) (hb : b < 2 ^ 16) (hc : c < 2 ^ 8) (hd : d < 2 ^ 8) :
    Calls Tryz.prog 25 #[mt a b c d] w fun e w' => e = .returned (.string ⟨(Mt.matT a b c d).toArray⟩) ∧ Below w.heap.size w w' := by
  have hA : Hid (∀ w, Calls Tryz.prog 53 #[.int .u16 (a : Int)] w fun e w' => e = .returned (st a 16) ∧ Below w.heap.size w w') := fun w => addrs_any a w ha
  have hB : Hid (∀ w, Calls Tryz.prog 53 #[.int .u16 (b : Int)] w fun e w' => e = .returned (st b 16) ∧ Below w.heap.size w w') := fun w => addrs_any b w hb
  have hC : Hid (∀ w, Calls Tryz.prog 55 #[.int .u8 (c : Int)] w fun e w' => e = .returned (st c 8) ∧ Below w.heap.size w w') := fun w => ports_any c w hc
  have hD : Hid (∀ w, Calls Tryz.prog 55 #[.int .u8 (d : Int)] w fun e w' => e = .returned (st d 8) ∧ Below w.heap.size w w') := fun w => ports_any d w hd
  have pA : Hid (∀ w, Calls Tryz.prog 54 #[st a 16] w fun e w' => e = .returned (.string ⟨(Mt.setT 16 a).toArray⟩) ∧ Below w.heap.size w w') := fun w => print_any a 16 w (Or.inl rfl) ha
  have pB : Hid (∀ w, Calls Tryz.prog 54 #[st b 16] w fun e w' => e = .returned (.string ⟨(Mt.setT 16 b).toArray⟩) ∧ Below w.heap.size w w') := fun w => print_any b 16 w (Or.inl rfl) hb
  have pC : Hid (∀ w, Calls Tryz.prog 54 #[st c 8] w fun e w' => e = .returned (.string ⟨(Mt.setT 8 c).toArray⟩) ∧ Below w.heap.size w w') := fun w => print_any c 8 w (Or.inr rfl) hc
  have pD : Hid (∀ w, Calls Tryz.prog 54 #[st d 8] w fun e w' => e = .returned (.string ⟨(Mt.setT 8 d).toArray⟩) ∧ Below w.heap.size w w') := fun w => print_any d 8 w (Or.inr rfl) hd
  have lenM := Mt.matT_len a b c d
  have JJ : Hid (∀ (w : World) (g : Nat), Texts w g [⟨(Mt.setT 16 a).toArray⟩, ⟨(Mt.setT 8 c).toArray⟩, ⟨(Mt.setT 16 b).toArray⟩, ⟨(Mt.setT 8 d).toArray⟩] → Calls Tryz.prog 47 #[.slice (some ⟨g, 0, none⟩) 4 4, .string ⟨#[32]⟩] w fun e w' => e = .returned (.string ⟨(Mt.matT a b c d).toArray⟩) ∧ Below w.heap.size w w') := fun w g h => by
    have := Tryz.strings_Join g 0 4 [⟨(Mt.setT 16 a).toArray⟩, ⟨(Mt.setT 8 c).toArray⟩, ⟨(Mt.setT 16 b).toArray⟩, ⟨(Mt.setT 8 d).toArray⟩] ⟨#[32]⟩ w (fun j x hx => by rw [Nat.zero_add]; exact h.2 j x hx) h.1 (by simp) (by simp) (Nat.le_trans lenM (by omega))
    exact this
  have F1 := (four_new w (.int .u16 (a : Int)) (.int .u16 (b : Int)) (.int .u8 (c : Int)) (.int .u8 (d : Int)) 58).drew
  have D1 := (Below.alloc' (Below.refl w.heap.size w) (.cells #[.int .u16 (a : Int), .int .u16 (b : Int), .int .u8 (c : Int), .int .u8 (d : Int)] 58)).drew
  clear ha hb hc hd lenM
  go_enter Tryz.func25, Tryz.ntmps25
  go_wp2_with fail
  go_region_held3 (fun w' => w'.cell? ⟨w.heap.size, 0, none⟩ = some (.int .u16 (a : Int)) ∧ w'.cell? ⟨w.heap.size, 1, none⟩ = some (.int .u16 (b : Int)) ∧ w'.cell? ⟨w.heap.size, 2, none⟩ = some (.int .u8 (c : Int)) ∧ w'.cell? ⟨w.heap.size, 3, none⟩ = some (.int .u8 (d : Int)))
    (first | exact Four.cells (by assumption) | exact Four.cells (allocFour (by assumption) _))
    (first
      | (go_at_call_of 53 (Value.int .u16 (a : Int)); refine (hA.out _).mono ?_; rintro e wz ⟨rfl, hbz⟩; have Dz := chain hbz (by assumption); have Pz := keepFour (n := w.heap.size) hbz (by assumption); clear hbz)
      | (go_at_call_of 53 (Value.int .u16 (b : Int)); refine (hB.out _).mono ?_; rintro e wz ⟨rfl, hbz⟩; have Dz := chain hbz (by assumption); have Pz := keepFour (n := w.heap.size) hbz (by assumption); clear hbz)
      | (go_at_call_of 55 (Value.int .u8 (c : Int)); refine (hC.out _).mono ?_; rintro e wz ⟨rfl, hbz⟩; have Dz := chain hbz (by assumption); have Pz := keepFour (n := w.heap.size) hbz (by assumption); clear hbz)
      | (go_at_call_of 55 (Value.int .u8 (d : Int)); refine (hD.out _).mono ?_; rintro e wz ⟨rfl, hbz⟩; have Dz := chain hbz (by assumption); have Pz := keepFour (n := w.heap.size) hbz (by assumption); clear hbz)
      | (go_at_call_of 54 (st (a : Int) 16); refine (pA.out _).mono ?_; rintro e wz ⟨rfl, hbz⟩; have Dz := chain hbz (by assumption); have Pz := keepFour (n := w.heap.size) hbz (by assumption); clear hbz)
      | (go_at_call_of 54 (st (b : Int) 16); refine (pB.out _).mono ?_; rintro e wz ⟨rfl, hbz⟩; have Dz := chain hbz (by assumption); have Pz := keepFour (n := w.heap.size) hbz (by assumption); clear hbz)
      | (go_at_call_of 54 (st (c : Int) 8); refine (pC.out _).mono ?_; rintro e wz ⟨rfl, hbz⟩; have Dz := chain hbz (by assumption); have Pz := keepFour (n := w.heap.size) hbz (by assumption); clear hbz)
      | (go_at_call_of 54 (st (d : Int) 8); refine (pD.out _).mono ?_; rintro e wz ⟨rfl, hbz⟩; have Dz := chain hbz (by assumption); have Pz := keepFour (n := w.heap.size) hbz (by assumption); clear hbz))
  go_wp2_with fail
  have TT : Texts (wz.alloc (.cells #[.string ⟨(Mt.setT 16 a).toArray⟩, .string ⟨(Mt.setT 8 c).toArray⟩, .string ⟨(Mt.setT 16 b).toArray⟩, .string ⟨(Mt.setT 8 d).toArray⟩] 9)) wz.heap.size [⟨(Mt.setT 16 a).toArray⟩, ⟨(Mt.setT 8 c).toArray⟩, ⟨(Mt.setT 16 b).toArray⟩, ⟨(Mt.setT 8 d).toArray⟩] := texts_new wz [⟨(Mt.setT 16 a).toArray⟩, ⟨(Mt.setT 8 c).toArray⟩, ⟨(Mt.setT 16 b).toArray⟩, ⟨(Mt.setT 8 d).toArray⟩] 9
  have D3 := Below.alloc' Dz (.cells #[.string ⟨(Mt.setT 16 a).toArray⟩, .string ⟨(Mt.setT 8 c).toArray⟩, .string ⟨(Mt.setT 16 b).toArray⟩, .string ⟨(Mt.setT 8 d).toArray⟩] 9)
  refine (JJ.out _ _ TT).mono ?_
  rintro e w4 ⟨rfl, hb4⟩
  have D4 := chain hb4 D3
  clear TT D3 hb4
  go_wp2_with fail
  go_ret
  exact ⟨rfl, D4⟩

/-- Four cells that may be written. -/
def FourU (w : World) (n : Nat) (a b c d : Value) : Prop :=
  Four w n a b c d ∧ w.frozen? ⟨n, 0, none⟩ = false ∧ w.frozen? ⟨n, 1, none⟩ = false ∧ w.frozen? ⟨n, 2, none⟩ = false ∧ w.frozen? ⟨n, 3, none⟩ = false
theorem keepFourU {W w' : World} {n : Nat} {a b c d : Value} (hb : Below W.heap.size W w') (h : FourU W n a b c d) : FourU w' n a b c d :=
  ⟨keepFour hb h.1, (hb.frozen (p := ⟨n, 0, none⟩) h.1.1).trans h.2.1, (hb.frozen (p := ⟨n, 1, none⟩) h.1.1).trans h.2.2.1, (hb.frozen (p := ⟨n, 2, none⟩) h.1.1).trans h.2.2.2.1, (hb.frozen (p := ⟨n, 3, none⟩) h.1.1).trans h.2.2.2.2⟩
theorem fourU_new (w : World) (a b c d : Value) (t : TypeId) : FourU (w.alloc (.cells #[a, b, c, d] t)) w.heap.size a b c d :=
  ⟨four_new w a b c d t, by simp [go_sem], by simp [go_sem], by simp [go_sem], by simp [go_sem]⟩
theorem below_set4 {B b : Nat} {a w : World} (h : Below B a w) (hb : B ≤ b) (v0 v1 v2 v3 : Value) :
    Below B a ((((w.setCell ⟨b, 0, none⟩ v0).setCell ⟨b, 1, none⟩ v1).setCell ⟨b, 2, none⟩ v2).setCell ⟨b, 3, none⟩ v3) :=
  (((h.setCell (p := ⟨b, 0, none⟩) hb v0).setCell (p := ⟨b, 1, none⟩) hb v1).setCell (p := ⟨b, 2, none⟩) hb v2).setCell (p := ⟨b, 3, none⟩) hb v3
theorem allocPair {w : World} {n : Nat} {a b : Value} (h : Pair w n a b) (o : Obj) : Pair (w.alloc o) n a b := keepPair ((Below.refl _ _).alloc (Nat.le_refl _) o) h
theorem allocTexts {w : World} {n : Nat} {xs : List ByteArray} (h : Texts w n xs) (o : Obj) : Texts (w.alloc o) n xs := keepTexts ((Below.refl _ _).alloc (Nat.le_refl _) o) h
theorem allocFourU {w : World} {n : Nat} {a b c d : Value} (h : FourU w n a b c d) (o : Obj) : FourU (w.alloc o) n a b c d := keepFourU ((Below.refl _ _).alloc (Nat.le_refl _) o) h

/-- What Parse tells. -/
def matV (m : (Nat × Nat × Nat × Nat) × Nat) : Value := .tuple #[mt m.1.1 m.1.2.1 m.1.2.2.1 m.1.2.2.2, .int .i64 (m.2 : Int)]

set_option maxHeartbeats 1000000 in
theorem parse_large (s : ByteArray) (w : World) (h : 300 < s.size) (hm : s.size ≤ maxLen) :
    Calls Tryz.prog 60 #[.string s] w fun e w' => e = .returned (matV ((0, 0, 0, 0), 2)) ∧ Below w.heap.size w w' := by
  unfold maxLen at hm
  have D0 := Below.alloc' (Below.refl w.heap.size w) (.cells #[.int .u16 0, .int .u16 0, .int .u8 0, .int .u8 0] 58)
  go_enter Tryz.func60, Tryz.ntmps60
  go_wp2_with fail
  exact bodyPost_ret (v := .tuple #[mt 0 0 0 0, .int .i64 2]) (by simp [results, Tryz.results60, go_sem]) rfl ⟨rfl, D0⟩

set_option maxHeartbeats 1000000 in
theorem parse_few (s : ByteArray) (w : World) (hs : s.size ≤ 300) (xs : List ByteArray) (hx : xs.length ≠ 4)
    (SP : Hid (∀ w, Calls Tryz.prog 29 #[.string s, .string ⟨#[32]⟩] w fun e w' => e = .returned (.slice (some ⟨w.heap.size, 0, none⟩) xs.length xs.length) ∧ w' = w.alloc (.cells (xs.map Value.string).toArray 9))) :
    Calls Tryz.prog 60 #[.string s] w fun e w' => e = .returned (matV ((0, 0, 0, 0), 3)) ∧ Below w.heap.size w w' := by
  have t : ((xs.length : Int) != 4) = true := by simp; omega
  have B0 := fourU_new w (.int .u16 0) (.int .u16 0) (.int .u8 0) (.int .u8 0) 58
  have D0 := Below.alloc' (Below.refl w.heap.size w) (.cells #[.int .u16 0, .int .u16 0, .int .u8 0, .int .u8 0] 58)
  go_enter Tryz.func60, Tryz.ntmps60
  go_wp2_with fail
  refine (SP.out _).mono ?_
  rintro e w1 ⟨rfl, rfl⟩
  have B1 := allocFourU B0 (.cells (xs.map Value.string).toArray 9)
  have D1 := Below.alloc' D0 (.cells (xs.map Value.string).toArray 9)
  clear B0 D0
  generalize (w.alloc (.cells #[.int .u16 0, .int .u16 0, .int .u8 0, .int .u8 0] 58)).alloc (.cells (xs.map Value.string).toArray 9) = w1 at *
  obtain ⟨⟨l0, c0, c1, c2, c3⟩, f0, f1, f2, f3⟩ := B1
  go_wp2_with fail
  exact bodyPost_ret (v := .tuple #[mt 0 0 0 0, .int .i64 3]) (by simp [results, Tryz.results60, go_sem, c0, c1, c2, c3]) rfl ⟨rfl, below_set4 D1 (Nat.le_refl _) _ _ _ _⟩

/-- The four options, together. -/
def four4 (o1 o2 o3 o4 : Option Nat) : (Nat × Nat × Nat × Nat) × Nat :=
  match o1, o2, o3, o4 with
  | some a, some c, some b, some d => ((a, b, c, d), 0)
  | _, _, _, _ => ((0, 0, 0, 0), 3)
def bitsOf (o : Option Nat) : Int := (o.getD 0 : Nat)
def sizeOf' (size : Nat) (o : Option Nat) : Int := if o.isSome then (size : Int) else 0
theorem setV_eq (size : Nat) (o : Option Nat) : setV size o = .tuple #[st (bitsOf o) (sizeOf' size o), .bool o.isSome] := by
  cases o <;> rfl

set_option maxHeartbeats 4000000 in
set_option maxRecDepth 100000 in
theorem parse_four (s : ByteArray) (w : World) (hs : s.size ≤ 300) (p q r t : ByteArray) (o1 o2 o3 o4 : Option Nat)
    (b1 : ∀ z, o1 = some z → z < 65536) (b2 : ∀ z, o2 = some z → z < 256) (b3 : ∀ z, o3 = some z → z < 65536) (b4 : ∀ z, o4 = some z → z < 256)
    (SP : Hid (∀ w, Calls Tryz.prog 29 #[.string s, .string ⟨#[32]⟩] w fun e w' => e = .returned (.slice (some ⟨w.heap.size, 0, none⟩) 4 4) ∧ w' = w.alloc (.cells #[.string p, .string q, .string r, .string t] 9)))
    (h1 : Hid (∀ w, Calls Tryz.prog 94 #[.string p, .int .i64 16] w fun e w' => e = .returned (.tuple #[st (bitsOf o1) (sizeOf' 16 o1), .bool o1.isSome]) ∧ Below w.heap.size w w'))
    (h2 : Hid (∀ w, Calls Tryz.prog 94 #[.string q, .int .i64 8] w fun e w' => e = .returned (.tuple #[st (bitsOf o2) (sizeOf' 8 o2), .bool o2.isSome]) ∧ Below w.heap.size w w'))
    (h3 : Hid (∀ w, Calls Tryz.prog 94 #[.string r, .int .i64 16] w fun e w' => e = .returned (.tuple #[st (bitsOf o3) (sizeOf' 16 o3), .bool o3.isSome]) ∧ Below w.heap.size w w'))
    (h4 : Hid (∀ w, Calls Tryz.prog 94 #[.string t, .int .i64 8] w fun e w' => e = .returned (.tuple #[st (bitsOf o4) (sizeOf' 8 o4), .bool o4.isSome]) ∧ Below w.heap.size w w')) :
    Calls Tryz.prog 60 #[.string s] w fun e w' => e = .returned (matV (four4 o1 o2 o3 o4)) ∧ Below w.heap.size w w' := by
  have B0 := fourU_new w (.int .u16 0) (.int .u16 0) (.int .u8 0) (.int .u8 0) 58
  have D0 := Below.alloc' (Below.refl w.heap.size w) (.cells #[.int .u16 0, .int .u16 0, .int .u8 0, .int .u8 0] 58)
  go_enter Tryz.func60, Tryz.ntmps60
  go_wp2_with fail
  refine (SP.out _).mono ?_
  rintro e w1 ⟨rfl, rfl⟩
  have B1 := allocFourU B0 (.cells #[.string p, .string q, .string r, .string t] 9)
  have D1 := Below.alloc' D0 (.cells #[.string p, .string q, .string r, .string t] 9)
  have T1 : Texts ((w.alloc (.cells #[.int .u16 0, .int .u16 0, .int .u8 0, .int .u8 0] 58)).alloc (.cells #[.string p, .string q, .string r, .string t] 9)) (w.heap.size + 1) [p, q, r, t] := by
    have := texts_new (w.alloc (.cells #[.int .u16 0, .int .u16 0, .int .u8 0, .int .u8 0] 58)) [p, q, r, t] 9
    rw [show (w.alloc (.cells #[.int .u16 0, .int .u16 0, .int .u8 0, .int .u8 0] 58)).heap.size = w.heap.size + 1 by simp] at this
    exact this
  clear B0 D0
  generalize (w.alloc (.cells #[.int .u16 0, .int .u16 0, .int .u8 0, .int .u8 0] 58)).alloc (.cells #[.string p, .string q, .string r, .string t] 9) = w1 at *
  have c0 := T1.2 0 p rfl
  go_wp2_with fail
  refine (h1.out _).mono ?_
  rintro e w2 ⟨rfl, hb2⟩
  have P2 := pair_new w2 (.int .i64 (bitsOf o1)) (.int .i64 (sizeOf' 16 o1)) 103
  have T2 := allocTexts (keepTexts hb2 T1) (.cells #[.int .i64 (bitsOf o1), .int .i64 (sizeOf' 16 o1)] 103)
  have B2 := allocFourU (keepFourU hb2 B1) (.cells #[.int .i64 (bitsOf o1), .int .i64 (sizeOf' 16 o1)] 103)
  have D2 := Below.alloc' (chain hb2 D1) (.cells #[.int .i64 (bitsOf o1), .int .i64 (sizeOf' 16 o1)] 103)
  clear T1 B1 D1 hb2 c0 h1
  have c1 := T2.2 1 q rfl
  go_wp2_with fail
  refine (h2.out _).mono ?_
  rintro e w3 ⟨rfl, hb3⟩
  have P3 := pair_new w3 (.int .i64 (bitsOf o2)) (.int .i64 (sizeOf' 8 o2)) 103
  have Q3 := allocPair (keepPair hb3 P2) (.cells #[.int .i64 (bitsOf o2), .int .i64 (sizeOf' 8 o2)] 103)
  have T3 := allocTexts (keepTexts hb3 T2) (.cells #[.int .i64 (bitsOf o2), .int .i64 (sizeOf' 8 o2)] 103)
  have B3 := allocFourU (keepFourU hb3 B2) (.cells #[.int .i64 (bitsOf o2), .int .i64 (sizeOf' 8 o2)] 103)
  have D3 := Below.alloc' (chain hb3 D2) (.cells #[.int .i64 (bitsOf o2), .int .i64 (sizeOf' 8 o2)] 103)
  clear P2 T2 B2 D2 hb3 c1 h2
  have c2 := T3.2 2 r rfl
  go_wp2_with fail
  refine (h3.out _).mono ?_
  rintro e w4 ⟨rfl, hb4⟩
  have P4 := pair_new w4 (.int .i64 (bitsOf o3)) (.int .i64 (sizeOf' 16 o3)) 103
  have Q4 := allocPair (keepPair hb4 P3) (.cells #[.int .i64 (bitsOf o3), .int .i64 (sizeOf' 16 o3)] 103)
  have R4 := allocPair (keepPair hb4 Q3) (.cells #[.int .i64 (bitsOf o3), .int .i64 (sizeOf' 16 o3)] 103)
  have T4 := allocTexts (keepTexts hb4 T3) (.cells #[.int .i64 (bitsOf o3), .int .i64 (sizeOf' 16 o3)] 103)
  have B4 := allocFourU (keepFourU hb4 B3) (.cells #[.int .i64 (bitsOf o3), .int .i64 (sizeOf' 16 o3)] 103)
  have D4 := Below.alloc' (chain hb4 D3) (.cells #[.int .i64 (bitsOf o3), .int .i64 (sizeOf' 16 o3)] 103)
  clear P3 Q3 T3 B3 D3 hb4 c2 h3
  have c3 := T4.2 3 t rfl
  go_wp2_with fail
  refine (h4.out _).mono ?_
  rintro e w5 ⟨rfl, hb5⟩
  have P5 := pair_new w5 (.int .i64 (bitsOf o4)) (.int .i64 (sizeOf' 8 o4)) 103
  have Q5 := allocPair (keepPair hb5 P4) (.cells #[.int .i64 (bitsOf o4), .int .i64 (sizeOf' 8 o4)] 103)
  have R5 := allocPair (keepPair hb5 Q4) (.cells #[.int .i64 (bitsOf o4), .int .i64 (sizeOf' 8 o4)] 103)
  have S5 := allocPair (keepPair hb5 R4) (.cells #[.int .i64 (bitsOf o4), .int .i64 (sizeOf' 8 o4)] 103)
  have B5 := allocFourU (keepFourU hb5 B4) (.cells #[.int .i64 (bitsOf o4), .int .i64 (sizeOf' 8 o4)] 103)
  have D5 := Below.alloc' (chain hb5 D4) (.cells #[.int .i64 (bitsOf o4), .int .i64 (sizeOf' 8 o4)] 103)
  clear P4 Q4 R4 T4 B4 D4 hb5 c3 h4 SP
  obtain ⟨⟨l0, c0, c1, c2, c3⟩, f0, f1, f2, f3⟩ := B5
  rcases o1 with _ | z1
  · go_wp2_with fail
    exact bodyPost_ret (v := .tuple #[mt 0 0 0 0, .int .i64 3]) (by simp [results, Tryz.results60, go_sem, c0, c1, c2, c3]) rfl ⟨rfl, below_set4 D5 (Nat.le_refl _) _ _ _ _⟩
  rcases o2 with _ | z2
  · go_wp2_with fail
    exact bodyPost_ret (v := .tuple #[mt 0 0 0 0, .int .i64 3]) (by simp [results, Tryz.results60, go_sem, c0, c1, c2, c3]) rfl ⟨rfl, below_set4 D5 (Nat.le_refl _) _ _ _ _⟩
  rcases o3 with _ | z3
  · go_wp2_with fail
    exact bodyPost_ret (v := .tuple #[mt 0 0 0 0, .int .i64 3]) (by simp [results, Tryz.results60, go_sem, c0, c1, c2, c3]) rfl ⟨rfl, below_set4 D5 (Nat.le_refl _) _ _ _ _⟩
  rcases o4 with _ | z4
  · go_wp2_with fail
    exact bodyPost_ret (v := .tuple #[mt 0 0 0 0, .int .i64 3]) (by simp [results, Tryz.results60, go_sem, c0, c1, c2, c3]) rfl ⟨rfl, below_set4 D5 (Nat.le_refl _) _ _ _ _⟩
  have g1 : bitsOf (some z1) < 65536 := by have := b1 z1 rfl; simp only [bitsOf, Option.getD_some]; omega
  have k1 : 0 ≤ bitsOf (some z1) := by simp only [bitsOf]; omega
  have g2 : bitsOf (some z2) < 256 := by have := b2 z2 rfl; simp only [bitsOf, Option.getD_some]; omega
  have k2 : 0 ≤ bitsOf (some z2) := by simp only [bitsOf]; omega
  have g3 : bitsOf (some z3) < 65536 := by have := b3 z3 rfl; simp only [bitsOf, Option.getD_some]; omega
  have k3 : 0 ≤ bitsOf (some z3) := by simp only [bitsOf]; omega
  have g4 : bitsOf (some z4) < 256 := by have := b4 z4 rfl; simp only [bitsOf, Option.getD_some]; omega
  have k4 : 0 ≤ bitsOf (some z4) := by simp only [bitsOf]; omega
  have q1 := P5.2.1.1
  have q2 := Q5.2.1.1
  have q3 := R5.2.1.1
  have q4 := S5.2.1.1
  clear b1 b2 b3 b4
  go_wp2_with fail
  exact bodyPost_ret (v := .tuple #[mt z1 z3 z2 z4, .int .i64 0]) (by simp [results, Tryz.results60, go_sem, c0, c1, c2, c3]; exact ⟨rfl, rfl, rfl, rfl⟩) rfl ⟨rfl, below_set4 D5 (Nat.le_refl _) _ _ _ _⟩
end Go.Proofs.YthofdiacncgbkaaGreatDoor


