/-
  Print and Parse of a match: what they return; no memory that was there turns.
-/
import Derived.Test.YtkckgoeemfjkkaaDoorM5
namespace Go.Proofs.YtkckgoeemfjkkaaDoor
open Go.RowKit

theorem Four.cells {w : World} {n : Nat} {a b c d : Value} (h : Four w n a b c d) : w.cell? ⟨n, 0, none⟩ = some a ∧ w.cell? ⟨n, 1, none⟩ = some b ∧ w.cell? ⟨n, 2, none⟩ = some c ∧ w.cell? ⟨n, 3, none⟩ = some d := h.2

set_option maxHeartbeats 4000000 in
set_option maxRecDepth 100000 in
theorem print_match (a b c d : Nat) (w : World) (ha : a < 2 ^ 16) (hb : b < 2 ^ 16) (hc : c < 2 ^ 8) (hd : d < 2 ^ 8) :
    Calls Tryd.prog 22 #[mt a b c d] w fun e w' => e = .returned (.string ⟨(Mt.matT a b c d).toArray⟩) ∧ Below w.heap.size w w' := by
  have hA : Hid (∀ w, Calls Tryd.prog 39 #[.int .u16 (a : Int)] w fun e w' => e = .returned (st a 16) ∧ Below w.heap.size w w') := fun w => addrs_any a w ha
  have hB : Hid (∀ w, Calls Tryd.prog 39 #[.int .u16 (b : Int)] w fun e w' => e = .returned (st b 16) ∧ Below w.heap.size w w') := fun w => addrs_any b w hb
  have hC : Hid (∀ w, Calls Tryd.prog 41 #[.int .u8 (c : Int)] w fun e w' => e = .returned (st c 8) ∧ Below w.heap.size w w') := fun w => ports_any c w hc
  have hD : Hid (∀ w, Calls Tryd.prog 41 #[.int .u8 (d : Int)] w fun e w' => e = .returned (st d 8) ∧ Below w.heap.size w w') := fun w => ports_any d w hd
  have pA : Hid (∀ w, Calls Tryd.prog 40 #[st a 16] w fun e w' => e = .returned (.string ⟨(Mt.setT 16 a).toArray⟩) ∧ Below w.heap.size w w') := fun w => print_any a 16 w (Or.inl rfl) ha
  have pB : Hid (∀ w, Calls Tryd.prog 40 #[st b 16] w fun e w' => e = .returned (.string ⟨(Mt.setT 16 b).toArray⟩) ∧ Below w.heap.size w w') := fun w => print_any b 16 w (Or.inl rfl) hb
  have pC : Hid (∀ w, Calls Tryd.prog 40 #[st c 8] w fun e w' => e = .returned (.string ⟨(Mt.setT 8 c).toArray⟩) ∧ Below w.heap.size w w') := fun w => print_any c 8 w (Or.inr rfl) hc
  have pD : Hid (∀ w, Calls Tryd.prog 40 #[st d 8] w fun e w' => e = .returned (.string ⟨(Mt.setT 8 d).toArray⟩) ∧ Below w.heap.size w w') := fun w => print_any d 8 w (Or.inr rfl) hd
  have lenM := Mt.matT_len a b c d
  have JJ : Hid (∀ (w : World) (g : Nat), Texts w g [⟨(Mt.setT 16 a).toArray⟩, ⟨(Mt.setT 8 c).toArray⟩, ⟨(Mt.setT 16 b).toArray⟩, ⟨(Mt.setT 8 d).toArray⟩] → Calls Tryd.prog 33 #[.slice (some ⟨g, 0, none⟩) 4 4, .string ⟨#[32]⟩] w fun e w' => e = .returned (.string ⟨(Mt.matT a b c d).toArray⟩) ∧ Below w.heap.size w w') := fun w g h => by
    have := Tryd.strings_Join g 0 4 [⟨(Mt.setT 16 a).toArray⟩, ⟨(Mt.setT 8 c).toArray⟩, ⟨(Mt.setT 16 b).toArray⟩, ⟨(Mt.setT 8 d).toArray⟩] ⟨#[32]⟩ w (fun j x hx => by rw [Nat.zero_add]; exact h.2 j x hx) h.1 (by simp) (by simp) (Nat.le_trans lenM (by omega))
    exact this
  have F1 := (four_new w (.int .u16 (a : Int)) (.int .u16 (b : Int)) (.int .u8 (c : Int)) (.int .u8 (d : Int)) 55).drew
  have D1 := (Below.alloc' (Below.refl w.heap.size w) (.cells #[.int .u16 (a : Int), .int .u16 (b : Int), .int .u8 (c : Int), .int .u8 (d : Int)] 55)).drew
  clear ha hb hc hd lenM
  go_enter Tryd.func22, Tryd.ntmps22
  go_wp2_with fail
  go_region_held3 (fun w' => w'.cell? ⟨w.heap.size, 0, none⟩ = some (.int .u16 (a : Int)) ∧ w'.cell? ⟨w.heap.size, 1, none⟩ = some (.int .u16 (b : Int)) ∧ w'.cell? ⟨w.heap.size, 2, none⟩ = some (.int .u8 (c : Int)) ∧ w'.cell? ⟨w.heap.size, 3, none⟩ = some (.int .u8 (d : Int)))
    (first | exact Four.cells (by assumption) | exact Four.cells (allocFour (by assumption) _))
    (first
      | (go_at_call_of 39 (Value.int .u16 (a : Int)); refine (hA.out _).mono ?_; rintro e wz ⟨rfl, hbz⟩; have Dz := chain hbz (by assumption); have Pz := keepFour (n := w.heap.size) hbz (by assumption); clear hbz)
      | (go_at_call_of 39 (Value.int .u16 (b : Int)); refine (hB.out _).mono ?_; rintro e wz ⟨rfl, hbz⟩; have Dz := chain hbz (by assumption); have Pz := keepFour (n := w.heap.size) hbz (by assumption); clear hbz)
      | (go_at_call_of 41 (Value.int .u8 (c : Int)); refine (hC.out _).mono ?_; rintro e wz ⟨rfl, hbz⟩; have Dz := chain hbz (by assumption); have Pz := keepFour (n := w.heap.size) hbz (by assumption); clear hbz)
      | (go_at_call_of 41 (Value.int .u8 (d : Int)); refine (hD.out _).mono ?_; rintro e wz ⟨rfl, hbz⟩; have Dz := chain hbz (by assumption); have Pz := keepFour (n := w.heap.size) hbz (by assumption); clear hbz)
      | (go_at_call_of 40 (st (a : Int) 16); refine (pA.out _).mono ?_; rintro e wz ⟨rfl, hbz⟩; have Dz := chain hbz (by assumption); have Pz := keepFour (n := w.heap.size) hbz (by assumption); clear hbz)
      | (go_at_call_of 40 (st (b : Int) 16); refine (pB.out _).mono ?_; rintro e wz ⟨rfl, hbz⟩; have Dz := chain hbz (by assumption); have Pz := keepFour (n := w.heap.size) hbz (by assumption); clear hbz)
      | (go_at_call_of 40 (st (c : Int) 8); refine (pC.out _).mono ?_; rintro e wz ⟨rfl, hbz⟩; have Dz := chain hbz (by assumption); have Pz := keepFour (n := w.heap.size) hbz (by assumption); clear hbz)
      | (go_at_call_of 40 (st (d : Int) 8); refine (pD.out _).mono ?_; rintro e wz ⟨rfl, hbz⟩; have Dz := chain hbz (by assumption); have Pz := keepFour (n := w.heap.size) hbz (by assumption); clear hbz))
  go_wp2_with fail
  have TT : Texts (wz.alloc (.cells #[.string ⟨(Mt.setT 16 a).toArray⟩, .string ⟨(Mt.setT 8 c).toArray⟩, .string ⟨(Mt.setT 16 b).toArray⟩, .string ⟨(Mt.setT 8 d).toArray⟩] 9)) wz.heap.size [⟨(Mt.setT 16 a).toArray⟩, ⟨(Mt.setT 8 c).toArray⟩, ⟨(Mt.setT 16 b).toArray⟩, ⟨(Mt.setT 8 d).toArray⟩] := texts_new wz [⟨(Mt.setT 16 a).toArray⟩, ⟨(Mt.setT 8 c).toArray⟩, ⟨(Mt.setT 16 b).toArray⟩, ⟨(Mt.setT 8 d).toArray⟩] 9
  have D3 := Below.alloc' Dz (.cells #[.string ⟨(Mt.setT 16 a).toArray⟩, .string ⟨(Mt.setT 8 c).toArray⟩, .string ⟨(Mt.setT 16 b).toArray⟩, .string ⟨(Mt.setT 8 d).toArray⟩] 9)
  refine (JJ.out _ _ TT).mono ?_
  rintro e w4 ⟨rfl, hb4⟩
  have D4 := chain hb4 D3
  clear TT D3 hb4
  go_wp2_with fail
  go_ret
  exact ⟨rfl, D4⟩

/-- Four cells that may be written. -/
def FourU (w : World) (n : Nat) (a b c d : Value) : Prop :=
  Four w n a b c d ∧ w.frozen? ⟨n, 0, none⟩ = false ∧ w.frozen? ⟨n, 1, none⟩ = false ∧ w.frozen? ⟨n, 2, none⟩ = false ∧ w.frozen? ⟨n, 3, none⟩ = false
theorem keepFourU {W w' : World} {n : Nat} {a b c d : Value} (hb : Below W.heap.size W w') (h : FourU W n a b c d) : FourU w' n a b c d :=
  ⟨keepFour hb h.1, (hb.frozen (p := ⟨n, 0, none⟩) h.1.1).trans h.2.1, (hb.frozen (p := ⟨n, 1, none⟩) h.1.1).trans h.2.2.1, (hb.frozen (p := ⟨n, 2, none⟩) h.1.1).trans h.2.2.2.1, (hb.frozen (p := ⟨n, 3, none⟩) h.1.1).trans h.2.2.2.2⟩
theorem fourU_new (w : World) (a b c d : Value) (t : TypeId) : FourU (w.alloc (.cells #[a, b, c, d] t)) w.heap.size a b c d :=
  ⟨four_new w a b c d t, by simp [go_sem], by simp [go_sem], by simp [go_sem], by simp [go_sem]⟩
theorem below_set4 {B b : Nat} {a w : World} (h : Below B a w) (hb : B ≤ b) (v0 v1 v2 v3 : Value) :
    Below B a ((((w.setCell ⟨b, 0, none⟩ v0).setCell ⟨b, 1, none⟩ v1).setCell ⟨b, 2, none⟩ v2).setCell ⟨b, 3, none⟩ v3) :=
  (((h.setCell (p := ⟨b, 0, none⟩) hb v0).setCell (p := ⟨b, 1, none⟩) hb v1).setCell (p := ⟨b, 2, none⟩) hb v2).setCell (p := ⟨b, 3, none⟩) hb v3
theorem allocPair {w : World} {n : Nat} {a b : Value} (h : Pair w n a b) (o : Obj) : Pair (w.alloc o) n a b := keepPair ((Below.refl _ _).alloc (Nat.le_refl _) o) h
theorem allocTexts {w : World} {n : Nat} {xs : List ByteArray} (h : Texts w n xs) (o : Obj) : Texts (w.alloc o) n xs := keepTexts ((Below.refl _ _).alloc (Nat.le_refl _) o) h
theorem allocFourU {w : World} {n : Nat} {a b c d : Value} (h : FourU w n a b c d) (o : Obj) : FourU (w.alloc o) n a b c d := keepFourU ((Below.refl _ _).alloc (Nat.le_refl _) o) h

/-- What Parse tells. -/
def matV (m : (Nat × Nat × Nat × Nat) × Nat) : Value := .tuple #[mt m.1.1 m.1.2.1 m.1.2.2.1 m.1.2.2.2, .int .i64 (m.2 : Int)]

/-- The four options, together. -/
def four4 (o1 o2 o3 o4 : Option Nat) : (Nat × Nat × Nat × Nat) × Nat :=
  match o1, o2, o3, o4 with
  | some a, some c, some b, some d => ((a, b, c, d), 0)
  | _, _, _, _ => ((0, 0, 0, 0), 3)
def bitsOf (o : Option Nat) : Int := (o.getD 0 : Nat)
def sizeOf' (size : Nat) (o : Option Nat) : Int := if o.isSome then (size : Int) else 0
theorem setV_eq (size : Nat) (o : Option Nat) : setV size o = .tuple #[st (bitsOf o) (sizeOf' size o), .bool o.isSome] := by
  cases o <;> rfl

end Go.Proofs.YtkckgoeemfjkkaaDoor


