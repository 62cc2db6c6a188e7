/-
  printRow and print: what they return; no memory that was there turns.
-/
import Derived.Test.YtnkgjkoncglfjaaGreatDoorZB
import Derived.OwnWalk
namespace Go.Proofs.YtnkgjkoncglfjaaGreatDoor
open Go.RowKit

theorem row_one (a : Nat) (h : a < 16) : (⟨(Lib.decDigits a).toArray⟩ : ByteArray) = ⟨(Mt.rowT (a, a)).toArray⟩ := by
  rw [Pk.decDigits_dec a (by omega), Mt.rowT, if_pos rfl]
theorem row_two (a b : Nat) (h1 : a < 16) (h2 : b < 16) (hne : a ≠ b) : (⟨(Lib.decDigits a).toArray⟩ : ByteArray) ++ ⟨#[45]⟩ ++ ⟨(Lib.decDigits b).toArray⟩ = ⟨(Mt.rowT (a, b)).toArray⟩ := by
  rw [Pk.decDigits_dec a (by omega), Pk.decDigits_dec b (by omega), Mt.rowT, if_neg hne]
  apply ByteArray.ext
  rw [ByteArray.data_append, ByteArray.data_append]
  simp

/-- Texts, as the cells of a slice. -/
def strs (l : List (List UInt8)) : List Value := l.map fun p => .string ⟨p.toArray⟩
theorem own_eq {w : World} {B n : Nat} {v : Value} {xs : List Value} {ps : List (List UInt8)} (h : w.ownsRow B 9 1 v n xs) (hn : n = ps.length) (hx : xs = strs ps) : w.ownsRow B 9 1 v ps.length (strs ps) := by
  subst hn hx
  exact h
theorem Tryz.info9 : (Tryz.prog.info? 9).map (fun i => (i.zero, i.size, i.bytes)) = some (some (.string ⟨#[]⟩), 1, 16) := by kernel_rfl
theorem own_below {W W' : World} {B e size n : Nat} {v : Value} {xs : List Value} (h : W.ownsRow B e size v n xs) (hb : Below W.heap.size W W') : W'.ownsRow B e size v n xs := by
  refine ⟨h.1, ?_⟩
  rcases h.2 with k | ⟨g, cap, cur, h1, h2, h3, h4⟩
  · exact Or.inl k
  · exact Or.inr ⟨g, cap, cur, h1, h2, by rw [hb.block g (Array.getElem?_eq_some_iff.1 h3).1]; exact h3, h4⟩

theorem hasB_nat (b k : Nat) : hasB b (k : Int) = b.testBit k := by simp [hasB]

theorem e_of (b size : Nat) (hsz : size = 16 ∨ size = 8) (h : b ≠ 2 ^ size - 1) : ((b : Int) == wrap64 (wrap64 (2 ^ size) - 1)) = false := by
  rw [beq_eq_false_iff_ne]
  rcases hsz with rfl | rfl
  · have : wrap64 (wrap64 (2 ^ 16) - 1) = 65535 := by first | kernel_rfl | (unfold wrap64; omega)
    rw [this]; omega
  · have : wrap64 (wrap64 (2 ^ 8) - 1) = 255 := by first | kernel_rfl | (unfold wrap64; omega)
    rw [this]; omega

end Go.Proofs.YtnkgjkoncglfjaaGreatDoor



namespace Go.Proofs.YtnkgjkoncglfjaaGreatDoor
open Go.RowKit

theorem Four.cells {w : World} {n : Nat} {a b c d : Value} (h : Four w n a b c d) : w.cell? ⟨n, 0, none⟩ = some a ∧ w.cell? ⟨n, 1, none⟩ = some b ∧ w.cell? ⟨n, 2, none⟩ = some c ∧ w.cell? ⟨n, 3, none⟩ = some d := h.2

/-- Four cells that may be written. -/
def FourU (w : World) (n : Nat) (a b c d : Value) : Prop :=
  Four w n a b c d ∧ w.frozen? ⟨n, 0, none⟩ = false ∧ w.frozen? ⟨n, 1, none⟩ = false ∧ w.frozen? ⟨n, 2, none⟩ = false ∧ w.frozen? ⟨n, 3, none⟩ = false
theorem keepFourU {W w' : World} {n : Nat} {a b c d : Value} (hb : Below W.heap.size W w') (h : FourU W n a b c d) : FourU w' n a b c d :=
  ⟨keepFour hb h.1, (hb.frozen (p := ⟨n, 0, none⟩) h.1.1).trans h.2.1, (hb.frozen (p := ⟨n, 1, none⟩) h.1.1).trans h.2.2.1, (hb.frozen (p := ⟨n, 2, none⟩) h.1.1).trans h.2.2.2.1, (hb.frozen (p := ⟨n, 3, none⟩) h.1.1).trans h.2.2.2.2⟩
theorem fourU_new (w : World) (a b c d : Value) (t : TypeId) : FourU (w.alloc (.cells #[a, b, c, d] t)) w.heap.size a b c d :=
  ⟨four_new w a b c d t, by simp [go_sem], by simp [go_sem], by simp [go_sem], by simp [go_sem]⟩
theorem below_set4 {B b : Nat} {a w : World} (h : Below B a w) (hb : B ≤ b) (v0 v1 v2 v3 : Value) :
    Below B a ((((w.setCell ⟨b, 0, none⟩ v0).setCell ⟨b, 1, none⟩ v1).setCell ⟨b, 2, none⟩ v2).setCell ⟨b, 3, none⟩ v3) :=
  (((h.setCell (p := ⟨b, 0, none⟩) hb v0).setCell (p := ⟨b, 1, none⟩) hb v1).setCell (p := ⟨b, 2, none⟩) hb v2).setCell (p := ⟨b, 3, none⟩) hb v3
theorem allocPair {w : World} {n : Nat} {a b : Value} (h : Pair w n a b) (o : Obj) : Pair (w.alloc o) n a b := keepPair ((Below.refl _ _).alloc (Nat.le_refl _) o) h
theorem allocTexts {w : World} {n : Nat} {xs : List ByteArray} (h : Texts w n xs) (o : Obj) : Texts (w.alloc o) n xs := keepTexts ((Below.refl _ _).alloc (Nat.le_refl _) o) h
theorem allocFourU {w : World} {n : Nat} {a b c d : Value} (h : FourU w n a b c d) (o : Obj) : FourU (w.alloc o) n a b c d := keepFourU ((Below.refl _ _).alloc (Nat.le_refl _) o) h

/-- What Parse tells. -/
def matV (m : (Nat × Nat × Nat × Nat) × Nat) : Value := .tuple #[mt m.1.1 m.1.2.1 m.1.2.2.1 m.1.2.2.2, .int .i64 (m.2 : Int)]

set_option maxHeartbeats 1000000 in
theorem parse_large (s : ByteArray) (w : World) (h : 300 < s.size) (hm : s.size ≤ maxLen) :
    Calls Tryz.prog 41 #[.string s] w fun e w' => e = .returned (matV ((0, 0, 0, 0), 2)) ∧ Below w.heap.size w w' := by
  unfold maxLen at hm
  have D0 := Below.alloc' (Below.refl w.heap.size w) (.cells #[.int .u16 0, .int .u16 0, .int .u8 0, .int .u8 0] 55)
  go_enter Tryz.func41, Tryz.ntmps41
  go_wp2_with fail
  exact bodyPost_ret (v := .tuple #[mt 0 0 0 0, .int .i64 2]) (by simp [results, Tryz.results41, go_sem]) rfl ⟨rfl, D0⟩

set_option maxHeartbeats 1000000 in
theorem parse_few (s : ByteArray) (w : World) (hs : s.size ≤ 300) (xs : List ByteArray) (hx : xs.length ≠ 4)
    (SP : Hid (∀ w, Calls Tryz.prog 21 #[.string s, .string ⟨#[32]⟩] w fun e w' => e = .returned (.slice (some ⟨w.heap.size, 0, none⟩) xs.length xs.length) ∧ w' = w.alloc (.cells (xs.map Value.string).toArray 9))) :
    Calls Tryz.prog 41 #[.string s] w fun e w' => e = .returned (matV ((0, 0, 0, 0), 3)) ∧ Below w.heap.size w w' := by
  have t : ((xs.length : Int) != 4) = true := by simp; omega
  have B0 := fourU_new w (.int .u16 0) (.int .u16 0) (.int .u8 0) (.int .u8 0) 55
  have D0 := Below.alloc' (Below.refl w.heap.size w) (.cells #[.int .u16 0, .int .u16 0, .int .u8 0, .int .u8 0] 55)
  go_enter Tryz.func41, Tryz.ntmps41
  go_wp2_with fail
  refine (SP.out _).mono ?_
  rintro e w1 ⟨rfl, rfl⟩
  have B1 := allocFourU B0 (.cells (xs.map Value.string).toArray 9)
  have D1 := Below.alloc' D0 (.cells (xs.map Value.string).toArray 9)
  clear B0 D0
  generalize (w.alloc (.cells #[.int .u16 0, .int .u16 0, .int .u8 0, .int .u8 0] 55)).alloc (.cells (xs.map Value.string).toArray 9) = w1 at *
  obtain ⟨⟨l0, c0, c1, c2, c3⟩, f0, f1, f2, f3⟩ := B1
  go_wp2_with fail
  exact bodyPost_ret (v := .tuple #[mt 0 0 0 0, .int .i64 3]) (by simp [results, Tryz.results41, go_sem, c0, c1, c2, c3]) rfl ⟨rfl, below_set4 D1 (Nat.le_refl _) _ _ _ _⟩

/-- The four options, together. -/
def four4 (o1 o2 o3 o4 : Option Nat) : (Nat × Nat × Nat × Nat) × Nat :=
  match o1, o2, o3, o4 with
  | some a, some c, some b, some d => ((a, b, c, d), 0)
  | _, _, _, _ => ((0, 0, 0, 0), 3)
def bitsOf (o : Option Nat) : Int := (o.getD 0 : Nat)
def sizeOf' (size : Nat) (o : Option Nat) : Int := if o.isSome then (size : Int) else 0
theorem setV_eq (size : Nat) (o : Option Nat) : setV size o = .tuple #[st (bitsOf o) (sizeOf' size o), .bool o.isSome] := by
  cases o <;> rfl

set_option maxHeartbeats 4000000 in
set_option maxRecDepth 100000 in
theorem parse_four (s : ByteArray) (w : World) (hs : s.size ≤ 300) (p q r t : ByteArray) (o1 o2 o3 o4 : Option Nat)
    (b1 : ∀ z, o1 = some z → z < 65536) (b2 : ∀ z, o2 = some z → z < 256) (b3 : ∀ z, o3 = some z → z < 65536) (b4 : ∀ z, o4 = some z → z < 256)
    (SP : Hid (∀ w, Calls Tryz.prog 21 #[.string s, .string ⟨#[32]⟩] w fun e w' => e = .returned (.slice (some ⟨w.heap.size, 0, none⟩) 4 4) ∧ w' = w.alloc (.cells #[.string p, .string q, .string r, .string t] 9)))
    (h1 : Hid (∀ w, Calls Tryz.prog 71 #[.string p, .int .i64 16] w fun e w' => e = .returned (.tuple #[st (bitsOf o1) (sizeOf' 16 o1), .bool o1.isSome]) ∧ Below w.heap.size w w'))
    (h2 : Hid (∀ w, Calls Tryz.prog 71 #[.string q, .int .i64 8] w fun e w' => e = .returned (.tuple #[st (bitsOf o2) (sizeOf' 8 o2), .bool o2.isSome]) ∧ Below w.heap.size w w'))
    (h3 : Hid (∀ w, Calls Tryz.prog 71 #[.string r, .int .i64 16] w fun e w' => e = .returned (.tuple #[st (bitsOf o3) (sizeOf' 16 o3), .bool o3.isSome]) ∧ Below w.heap.size w w'))
    (h4 : Hid (∀ w, Calls Tryz.prog 71 #[.string t, .int .i64 8] w fun e w' => e = .returned (.tuple #[st (bitsOf o4) (sizeOf' 8 o4), .bool o4.isSome]) ∧ Below w.heap.size w w')) :
    Calls Tryz.prog 41 #[.string s] w fun e w' => e = .returned (matV (four4 o1 o2 o3 o4)) ∧ Below w.heap.size w w' := by
  have B0 := fourU_new w (.int .u16 0) (.int .u16 0) (.int .u8 0) (.int .u8 0) 55
  have D0 := Below.alloc' (Below.refl w.heap.size w) (.cells #[.int .u16 0, .int .u16 0, .int .u8 0, .int .u8 0] 55)
  go_enter Tryz.func41, Tryz.ntmps41
  go_wp2_with fail
  refine (SP.out _).mono ?_
  rintro e w1 ⟨rfl, rfl⟩
  have B1 := allocFourU B0 (.cells #[.string p, .string q, .string r, .string t] 9)
  have D1 := Below.alloc' D0 (.cells #[.string p, .string q, .string r, .string t] 9)
  have T1 : Texts ((w.alloc (.cells #[.int .u16 0, .int .u16 0, .int .u8 0, .int .u8 0] 55)).alloc (.cells #[.string p, .string q, .string r, .string t] 9)) (w.heap.size + 1) [p, q, r, t] := by
    have := texts_new (w.alloc (.cells #[.int .u16 0, .int .u16 0, .int .u8 0, .int .u8 0] 55)) [p, q, r, t] 9
    rw [show (w.alloc (.cells #[.int .u16 0, .int .u16 0, .int .u8 0, .int .u8 0] 55)).heap.size = w.heap.size + 1 by simp] at this
    exact this
  clear B0 D0
  generalize (w.alloc (.cells #[.int .u16 0, .int .u16 0, .int .u8 0, .int .u8 0] 55)).alloc (.cells #[.string p, .string q, .string r, .string t] 9) = w1 at *
  have c0 := T1.2 0 p rfl
  go_wp2_with fail
  refine (h1.out _).mono ?_
  rintro e w2 ⟨rfl, hb2⟩
  have P2 := pair_new w2 (.int .i64 (bitsOf o1)) (.int .i64 (sizeOf' 16 o1)) 106
  have T2 := allocTexts (keepTexts hb2 T1) (.cells #[.int .i64 (bitsOf o1), .int .i64 (sizeOf' 16 o1)] 106)
  have B2 := allocFourU (keepFourU hb2 B1) (.cells #[.int .i64 (bitsOf o1), .int .i64 (sizeOf' 16 o1)] 106)
  have D2 := Below.alloc' (chain hb2 D1) (.cells #[.int .i64 (bitsOf o1), .int .i64 (sizeOf' 16 o1)] 106)
  clear T1 B1 D1 hb2 c0 h1
  have c1 := T2.2 1 q rfl
  go_wp2_with fail
  refine (h2.out _).mono ?_
  rintro e w3 ⟨rfl, hb3⟩
  have P3 := pair_new w3 (.int .i64 (bitsOf o2)) (.int .i64 (sizeOf' 8 o2)) 106
  have Q3 := allocPair (keepPair hb3 P2) (.cells #[.int .i64 (bitsOf o2), .int .i64 (sizeOf' 8 o2)] 106)
  have T3 := allocTexts (keepTexts hb3 T2) (.cells #[.int .i64 (bitsOf o2), .int .i64 (sizeOf' 8 o2)] 106)
  have B3 := allocFourU (keepFourU hb3 B2) (.cells #[.int .i64 (bitsOf o2), .int .i64 (sizeOf' 8 o2)] 106)
  have D3 := Below.alloc' (chain hb3 D2) (.cells #[.int .i64 (bitsOf o2), .int .i64 (sizeOf' 8 o2)] 106)
  clear P2 T2 B2 D2 hb3 c1 h2
  have c2 := T3.2 2 r rfl
  go_wp2_with fail
  refine (h3.out _).mono ?_
  rintro e w4 ⟨rfl, hb4⟩
  have P4 := pair_new w4 (.int .i64 (bitsOf o3)) (.int .i64 (sizeOf' 16 o3)) 106
  have Q4 := allocPair (keepPair hb4 P3) (.cells #[.int .i64 (bitsOf o3), .int .i64 (sizeOf' 16 o3)] 106)
  have R4 := allocPair (keepPair hb4 Q3) (.cells #[.int .i64 (bitsOf o3), .int .i64 (sizeOf' 16 o3)] 106)
  have T4 := allocTexts (keepTexts hb4 T3) (.cells #[.int .i64 (bitsOf o3), .int .i64 (sizeOf' 16 o3)] 106)
  have B4 := allocFourU (keepFourU hb4 B3) (.cells #[.int .i64 (bitsOf o3), .int .i64 (sizeOf' 16 o3)] 106)
  have D4 := Below.alloc' (chain hb4 D3) (.cells #[.int .i64 (bitsOf o3), .int .i64 (sizeOf' 16 o3)] 106)
  clear P3 Q3 T3 B3 D3 hb4 c2 h3
  have c3 := T4.2 3 t rfl
  go_wp2_with fail
  refine (h4.out _).mono ?_
  rintro e w5 ⟨rfl, hb5⟩
  have P5 := pair_new w5 (.int .i64 (bitsOf o4)) (.int .i64 (sizeOf' 8 o4)) 106
  have Q5 := allocPair (keepPair hb5 P4) (.cells #[.int .i64 (bitsOf o4), .int .i64 (sizeOf' 8 o4)] 106)
  have R5 := allocPair (keepPair hb5 Q4) (.cells #[.int .i64 (bitsOf o4), .int .i64 (sizeOf' 8 o4)] 106)
  have S5 := allocPair (keepPair hb5 R4) (.cells #[.int .i64 (bitsOf o4), .int .i64 (sizeOf' 8 o4)] 106)
  have B5 := allocFourU (keepFourU hb5 B4) (.cells #[.int .i64 (bitsOf o4), .int .i64 (sizeOf' 8 o4)] 106)
  have D5 := Below.alloc' (chain hb5 D4) (.cells #[.int .i64 (bitsOf o4), .int .i64 (sizeOf' 8 o4)] 106)
  clear P4 Q4 R4 T4 B4 D4 hb5 c3 h4 SP
  obtain ⟨⟨l0, c0, c1, c2, c3⟩, f0, f1, f2, f3⟩ := B5
  rcases o1 with _ | z1
  · go_wp2_with fail
    exact bodyPost_ret (v := .tuple #[mt 0 0 0 0, .int .i64 3]) (by simp [results, Tryz.results41, go_sem, c0, c1, c2, c3]) rfl ⟨rfl, below_set4 D5 (Nat.le_refl _) _ _ _ _⟩
  rcases o2 with _ | z2
  · go_wp2_with fail
    exact bodyPost_ret (v := .tuple #[mt 0 0 0 0, .int .i64 3]) (by simp [results, Tryz.results41, go_sem, c0, c1, c2, c3]) rfl ⟨rfl, below_set4 D5 (Nat.le_refl _) _ _ _ _⟩
  rcases o3 with _ | z3
  · go_wp2_with fail
    exact bodyPost_ret (v := .tuple #[mt 0 0 0 0, .int .i64 3]) (by simp [results, Tryz.results41, go_sem, c0, c1, c2, c3]) rfl ⟨rfl, below_set4 D5 (Nat.le_refl _) _ _ _ _⟩
  rcases o4 with _ | z4
  · go_wp2_with fail
    exact bodyPost_ret (v := .tuple #[mt 0 0 0 0, .int .i64 3]) (by simp [results, Tryz.results41, go_sem, c0, c1, c2, c3]) rfl ⟨rfl, below_set4 D5 (Nat.le_refl _) _ _ _ _⟩
  have g1 : bitsOf (some z1) < 65536 := by have := b1 z1 rfl; simp only [bitsOf, Option.getD_some]; omega
  have k1 : 0 ≤ bitsOf (some z1) := by simp only [bitsOf]; omega
  have g2 : bitsOf (some z2) < 256 := by have := b2 z2 rfl; simp only [bitsOf, Option.getD_some]; omega
  have k2 : 0 ≤ bitsOf (some z2) := by simp only [bitsOf]; omega
  have g3 : bitsOf (some z3) < 65536 := by have := b3 z3 rfl; simp only [bitsOf, Option.getD_some]; omega
  have k3 : 0 ≤ bitsOf (some z3) := by simp only [bitsOf]; omega
  have g4 : bitsOf (some z4) < 256 := by have := b4 z4 rfl; simp only [bitsOf, Option.getD_some]; omega
  have k4 : 0 ≤ bitsOf (some z4) := by simp only [bitsOf]; omega
  have q1 := P5.2.1.1
  have q2 := Q5.2.1.1
  have q3 := R5.2.1.1
  have q4 := S5.2.1.1
  clear b1 b2 b3 b4
  go_wp2_with fail
  exact bodyPost_ret (v := .tuple #[mt z1 z3 z2 z4, .int .i64 0]) (by simp [results, Tryz.results41, go_sem, c0, c1, c2, c3]; exact ⟨rfl, rfl, rfl, rfl⟩) rfl ⟨rfl, below_set4 D5 (Nat.le_refl _) _ _ _ _⟩
end Go.Proofs.YtnkgjkoncglfjaaGreatDoor



namespace Go.Proofs.YtnkgjkoncglfjaaGreatDoor
open Go.RowKit

/-- The pieces, as texts. -/
def txts (l : List (List UInt8)) : List ByteArray := l.map fun p => ⟨p.toArray⟩
theorem txts_of (xs : List ByteArray) (l : List (List UInt8)) (h : xs.map (·.data.toList) = l) : xs = txts l := by
  subst h
  unfold txts
  rw [List.map_map]
  have : ((fun p : List UInt8 => (⟨p.toArray⟩ : ByteArray)) ∘ fun x : ByteArray => x.data.toList) = id := by
    funext x; cases x; simp
  rw [this, List.map_id]
theorem split_fix (s : ByteArray) (c : UInt8) (w : World) (hs : s.size ≤ 300) :
    Calls Tryz.prog 21 #[.string s, .string ⟨#[c]⟩] w fun e w' => e = .returned (.slice (some ⟨w.heap.size, 0, none⟩) (txts (Mt.spl c s.data.toList)).length (txts (Mt.spl c s.data.toList)).length) ∧ w' = w.alloc (.cells ((txts (Mt.spl c s.data.toList)).map Value.string).toArray 9) := by
  refine (split_one s c w hs).mono fun e w' ⟨xs, hx, _, he, hw⟩ => ?_
  rw [← txts_of xs _ hx.out]
  exact ⟨he, hw⟩

theorem parse_any (s : ByteArray) (w : World) (hm : s.size ≤ maxLen) :
    Calls Tryz.prog 41 #[.string s] w fun e w' => e = .returned (matV (Mt.matP s.data.toList)) ∧ Below w.heap.size w w' := by
  have hl : s.data.toList.length = s.size := (Lib.size_eq s).symm
  unfold Mt.matP
  by_cases h : 300 < s.size
  · rw [if_pos (by omega)]
    exact parse_large s w h hm
  · rw [if_neg (by omega)]
    have SF := fun w => split_fix s 32 w (by omega)
    have hsl := spl_len 32 s.data.toList
    generalize Mt.spl 32 s.data.toList = L at *
    match L, SF, hsl with
    | [p, q, r, t], SF, hsl =>
      have hp := hsl p (by simp)
      have hq := hsl q (by simp)
      have hr := hsl r (by simp)
      have ht := hsl t (by simp)
      have sz : ∀ x : List UInt8, x.length ≤ s.data.toList.length → (⟨x.toArray⟩ : ByteArray).size ≤ 300 := fun x hx => by
        rw [Lib.size_eq]; simp; omega
      have H := parse_four s w (by omega) ⟨p.toArray⟩ ⟨q.toArray⟩ ⟨r.toArray⟩ ⟨t.toArray⟩ (Mt.setP 16 p) (Mt.setP 8 q) (Mt.setP 16 r) (Mt.setP 8 t) (fun z hz => Mt.setP_lt 16 _ z hz) (fun z hz => Mt.setP_lt 8 _ z hz) (fun z hz => Mt.setP_lt 16 _ z hz) (fun z hz => Mt.setP_lt 8 _ z hz) (fun w => SF w)
        (fun w => by rw [← setV_eq]; exact parseSet_any ⟨p.toArray⟩ 16 w (Or.inl rfl) (sz p hp)) (fun w => by rw [← setV_eq]; exact parseSet_any ⟨q.toArray⟩ 8 w (Or.inr rfl) (sz q hq))
        (fun w => by rw [← setV_eq]; exact parseSet_any ⟨r.toArray⟩ 16 w (Or.inl rfl) (sz r hr)) (fun w => by rw [← setV_eq]; exact parseSet_any ⟨t.toArray⟩ 8 w (Or.inr rfl) (sz t ht))
      simp only []
      generalize Mt.setP 16 p = o1 at H ⊢
      generalize Mt.setP 8 q = o2 at H ⊢
      generalize Mt.setP 16 r = o3 at H ⊢
      generalize Mt.setP 8 t = o4 at H ⊢
      cases o1 <;> cases o2 <;> cases o3 <;> cases o4 <;> exact H
    | [], SF, _ => exact parse_few s w (by omega) (txts []) (by simp [txts]) (fun w => SF w)
    | [_], SF, _ => exact parse_few s w (by omega) (txts [_]) (by simp [txts]) (fun w => SF w)
    | [_, _], SF, _ => exact parse_few s w (by omega) (txts [_, _]) (by simp [txts]) (fun w => SF w)
    | [_, _, _], SF, _ => exact parse_few s w (by omega) (txts [_, _, _]) (by simp [txts]) (fun w => SF w)
    | _ :: _ :: _ :: _ :: _ :: _, SF, _ => exact parse_few s w (by omega) (txts (_ :: _ :: _ :: _ :: _ :: _)) (by simp [txts]) (fun w => SF w)

end Go.Proofs.YtnkgjkoncglfjaaGreatDoor


