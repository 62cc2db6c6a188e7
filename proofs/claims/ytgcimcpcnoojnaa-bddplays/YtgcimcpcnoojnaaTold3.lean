/-
  told, its region of three calls and three new variables: whatever order is picked.
-/
import Derived.Test.YtgcimcpcnoojnaaProg
import Derived.WalkKit
import Derived.WalkSpells
import Derived.WalkLawsBesides
import Derived.Handy
import Derived.Deep.RegionHeld3
import Derived.Deep.DeepCutAuto
namespace Go.Proofs.Ytgcimcpcnoojnaa
open Go.RowKit

abbrev told3 : Array Oper := #[{ dst := some 16, op := Op.move (Operand.tmp 9), type := 92, pos := "law.go:80", after := #[], guard := none }, { dst := some 17, op := Op.fieldAddr 36 (Operand.tmp 5) 1, type := 0, pos := "law.go:80", after := #[], guard := none }, { dst := some 18, op := Op.load 3 (Operand.tmp 17), type := 3, pos := "law.go:80", after := #[{ on := 1, ground := Ground.data }], guard := none }, { dst := some 19, op := Op.call { callee := Callee.value (Operand.tmp 16), args := #[Operand.tmp 18], argTypes := #[3] }, type := 33, pos := "law.go:80", after := #[{ on := 0, ground := Ground.data }, { on := 2, ground := Ground.data }], guard := none }, { dst := some 20, op := Op.move (Operand.tmp 9), type := 92, pos := "law.go:80", after := #[], guard := none }, { dst := some 21, op := Op.fieldAddr 36 (Operand.tmp 5) 2, type := 0, pos := "law.go:80", after := #[], guard := none }, { dst := some 22, op := Op.load 3 (Operand.tmp 21), type := 3, pos := "law.go:80", after := #[{ on := 5, ground := Ground.data }], guard := none }, { dst := some 23, op := Op.call { callee := Callee.value (Operand.tmp 20), args := #[Operand.tmp 22], argTypes := #[3] }, type := 33, pos := "law.go:80", after := #[{ on := 4, ground := Ground.data }, { on := 6, ground := Ground.data }, { on := 3, ground := Ground.chain }], guard := none }, { dst := some 24, op := Op.move (Operand.tmp 9), type := 92, pos := "law.go:80", after := #[], guard := none }, { dst := some 25, op := Op.fieldAddr 36 (Operand.tmp 5) 3, type := 0, pos := "law.go:80", after := #[], guard := none }, { dst := some 26, op := Op.load 3 (Operand.tmp 25), type := 3, pos := "law.go:80", after := #[{ on := 9, ground := Ground.data }], guard := none }, { dst := some 27, op := Op.call { callee := Callee.value (Operand.tmp 24), args := #[Operand.tmp 26], argTypes := #[3] }, type := 33, pos := "law.go:80", after := #[{ on := 8, ground := Ground.data }, { on := 10, ground := Ground.data }, { on := 7, ground := Ground.chain }], guard := none }, { dst := some 11, op := Op.alloc 33, type := 0, pos := "law.go:80", after := #[], guard := none }, { dst := some 12, op := Op.alloc 33, type := 0, pos := "law.go:80", after := #[], guard := none }, { dst := some 13, op := Op.alloc 33, type := 0, pos := "law.go:80", after := #[], guard := none }, { dst := none, op := Op.store 33 (Operand.tmp 11) (Operand.tmp 19), type := 0, pos := "law.go:80", after := #[{ on := 12, ground := Ground.data }, { on := 3, ground := Ground.data }, { on := 11, ground := Ground.chain }, { on := 0, ground := Ground.phase }, { on := 1, ground := Ground.phase }, { on := 2, ground := Ground.phase }, { on := 3, ground := Ground.phase }, { on := 4, ground := Ground.textOnly Go.Departure.lateStores }, { on := 5, ground := Ground.textOnly Go.Departure.lateStores }, { on := 6, ground := Ground.textOnly Go.Departure.lateStores }, { on := 7, ground := Ground.textOnly Go.Departure.lateStoresUnsure }, { on := 8, ground := Ground.textOnly Go.Departure.lateStores }, { on := 9, ground := Ground.textOnly Go.Departure.lateStores }, { on := 10, ground := Ground.textOnly Go.Departure.lateStores }, { on := 11, ground := Ground.textOnly Go.Departure.lateStoresUnsure }, { on := 12, ground := Ground.phase }, { on := 13, ground := Ground.phase }, { on := 14, ground := Ground.phase }], guard := none }, { dst := none, op := Op.store 33 (Operand.tmp 12) (Operand.tmp 23), type := 0, pos := "law.go:80", after := #[{ on := 13, ground := Ground.data }, { on := 7, ground := Ground.data }, { on := 15, ground := Ground.chain }, { on := 0, ground := Ground.phase }, { on := 1, ground := Ground.phase }, { on := 2, ground := Ground.phase }, { on := 3, ground := Ground.phase }, { on := 4, ground := Ground.phase }, { on := 5, ground := Ground.phase }, { on := 6, ground := Ground.phase }, { on := 7, ground := Ground.phase }, { on := 8, ground := Ground.textOnly Go.Departure.lateStores }, { on := 9, ground := Ground.textOnly Go.Departure.lateStores }, { on := 10, ground := Ground.textOnly Go.Departure.lateStores }, { on := 11, ground := Ground.textOnly Go.Departure.lateStoresUnsure }, { on := 12, ground := Ground.phase }, { on := 13, ground := Ground.phase }, { on := 14, ground := Ground.phase }, { on := 15, ground := Ground.phase }], guard := none }, { dst := none, op := Op.store 33 (Operand.tmp 13) (Operand.tmp 27), type := 0, pos := "law.go:80", after := #[{ on := 14, ground := Ground.data }, { on := 11, ground := Ground.data }, { on := 16, ground := Ground.chain }, { on := 0, ground := Ground.phase }, { on := 1, ground := Ground.phase }, { on := 2, ground := Ground.phase }, { on := 3, ground := Ground.phase }, { on := 4, ground := Ground.phase }, { on := 5, ground := Ground.phase }, { on := 6, ground := Ground.phase }, { on := 7, ground := Ground.phase }, { on := 8, ground := Ground.phase }, { on := 9, ground := Ground.phase }, { on := 10, ground := Ground.phase }, { on := 11, ground := Ground.phase }, { on := 12, ground := Ground.phase }, { on := 13, ground := Ground.phase }, { on := 14, ground := Ground.phase }, { on := 15, ground := Ground.phase }, { on := 16, ground := Ground.phase }], guard := none }]
/-- The frame at that region: the three new variables, the three answers. -/
abbrev tmT (s0 s1 s2 s3 s4 : Value) (X : Nat) (s9 s10 s14 s15 : Value) (A B C : Int) (x11 x12 x13 x19 x23 x27 : Value) : Array Value :=
  #[s0, s1, s2, s3, s4, .pointer (some ⟨X, 0, none⟩), .slice none 0 0, .slice none 0 0, .bool false, s9, s10, x11, x12, x13, s14, s15, s9, .pointer (some ⟨X, 1, none⟩), .int .i64 A, x19, s9, .pointer (some ⟨X, 2, none⟩), .int .i64 B, x23, s9, .pointer (some ⟨X, 3, none⟩), .int .i64 C, x27, undef, undef, undef, undef, undef, undef, undef, undef, undef, undef, undef, undef, undef, undef, undef, undef, undef, undef, undef, undef, undef, undef, undef, undef, undef, undef, undef, undef, undef, undef, undef, undef, undef, undef, undef, undef, undef, undef, undef, undef, undef, undef, undef, undef, undef, undef, undef, undef, undef, undef, undef, undef, undef, undef, undef, undef, undef, undef, undef, undef, undef, undef, undef, undef, undef, undef, undef, undef, undef, undef, undef, undef, undef, undef, undef, undef, undef, undef, undef, undef, undef, undef, undef, undef, undef, undef, undef, undef, undef, undef, undef, undef, undef, undef, undef, undef, undef, undef, undef, undef, undef, undef, undef, undef, undef]
/-- A new variable that holds nothing yet. -/
def ZB (W0 W : World) (p : Nat) : Prop := W0.heap.size ≤ p ∧ W.heap[p]? = some (.cells #[.int .i64 0, .slice none 0 0] 33 (0, 0))
/-- A variable that holds what is known. -/
def SB (W0 W : World) (p : Nat) (x y : Value) : Prop := W0.heap.size ≤ p ∧ W.heap[p]? = some (.cells #[x, y] 33 (0, 0))
section
variable {W0 W W' : World} {p q : Nat}
theorem ZB.lt (h : ZB W0 W p) : p < W.heap.size := (Array.getElem?_eq_some_iff.1 h.2).1
theorem ZB.below (h : ZB W0 W p) (hb : Below W.heap.size W W') : ZB W0 W' p := ⟨h.1, (hb.block p h.lt).trans h.2⟩
theorem ZB.alloc (h : ZB W0 W p) (o : Obj) : ZB W0 (W.alloc o) p := h.below ((Below.refl _ _).alloc (Nat.le_refl _) o)
theorem ZB.ne (h : ZB W0 W p) : p ≠ W.heap.size := Nat.ne_of_lt h.lt
theorem ZB.new (hb : Below W0.heap.size W0 W) : ZB W0 (W.alloc (.cells #[.int .i64 0, .slice none 0 0] 33)) W.heap.size := ⟨hb.size, Go.heap_alloc_new W _⟩
theorem set_two (W : World) (p : Nat) (u v x y : Value) (h : W.heap[p]? = some (.cells #[u, v] 33 (0, 0))) : ((W.setCell ⟨p, 0, none⟩ x).setCell ⟨p, 1, none⟩ y).heap[p]? = some (.cells #[x, y] 33 (0, 0)) := by
  rw [heap_setCell_same _ p 1 _ _ y (heap_setCell_same W p 0 _ _ x h)]
  rfl
theorem cells_two {u v : Value} (h : W.heap[p]? = some (.cells #[u, v] 33 (0, 0))) : W.cell? ⟨p, 0, none⟩ = some u ∧ W.cell? ⟨p, 1, none⟩ = some v ∧ W.frozen? ⟨p, 0, none⟩ = false ∧ W.frozen? ⟨p, 1, none⟩ = false := by
  refine ⟨?_, ?_, ?_, ?_⟩ <;> simp [World.cell?, World.frozen?, h]
theorem set_far (W : World) (p q : Nat) (x y : Value) (hn : p ≠ q) : ((W.setCell ⟨p, 0, none⟩ x).setCell ⟨p, 1, none⟩ y).heap[q]? = W.heap[q]? := by
  rw [Below.heap_setCell _ _ _ _ (by simpa using hn.symm), Below.heap_setCell _ _ _ _ (by simpa using hn.symm)]
end
section
variable {Q : Exit → Act → World → Prop} {S : World → Prop} {W0 W : World} {s0 s1 s2 s3 s4 : Value} {X : Nat} {s10 s14 s15 : Value} {A B C : Int} {L : Nat} {ia ib ic : Int} {ta tb tc : Option Addr} {N : Nat}
set_option maxHeartbeats 1000000 in
set_option maxRecDepth 100000 in
theorem t3_3_7 (_AT1 : Hid (∀ W, Below W0.heap.size W0 W → Calls Try.prog 56 #[.int .i64 A, .pointer (some ⟨L, 0, none⟩)] W fun e W' => e = .returned (.agg #[.int .i64 ia, .slice ta N N]) ∧ Below W.heap.size W W')) (_AT2 : Hid (∀ W, Below W0.heap.size W0 W → Calls Try.prog 56 #[.int .i64 B, .pointer (some ⟨L, 0, none⟩)] W fun e W' => e = .returned (.agg #[.int .i64 ib, .slice tb N N]) ∧ Below W.heap.size W W')) (_AT3 : Hid (∀ W, Below W0.heap.size W0 W → Calls Try.prog 56 #[.int .i64 C, .pointer (some ⟨L, 0, none⟩)] W fun e W' => e = .returned (.agg #[.int .i64 ic, .slice tc N N]) ∧ Below W.heap.size W W')) (hS : Hid (∀ W, Below W0.heap.size W0 W → S W)) (FIN : Hid (∀ (W : World) (p11 p12 p13 : Nat), Below W0.heap.size W0 W → SB W0 W p11 (.int .i64 ia) (.slice ta N N) → SB W0 W p12 (.int .i64 ib) (.slice tb N N) → SB W0 W p13 (.int .i64 ic) (.slice tc N N) → p11 ≠ p12 → p11 ≠ p13 → p12 ≠ p13 → Q .normal ⟨tmT s0 s1 s2 s3 s4 X (.func (.func 56) #[] #[.pointer (some ⟨L, 0, none⟩)]) s10 s14 s15 A B C (.pointer (some ⟨p11, 0, none⟩)) (.pointer (some ⟨p12, 0, none⟩)) (.pointer (some ⟨p13, 0, none⟩)) (.agg #[.int .i64 ia, .slice ta N N]) (.agg #[.int .i64 ib, .slice tb N N]) (.agg #[.int .i64 ic, .slice tc N N]), []⟩ W)) {p11 p12 p13 : Nat} (hB : Below W0.heap.size W0 W) (z11 : ZB W0 W p11) (z12 : ZB W0 W p12) (z13 : ZB W0 W p13) (n1112 : p11 ≠ p12) (n1113 : p11 ≠ p13) (n1213 : p12 ≠ p13) {lst : Array Bool} (hl : lst = #[true, true, true, true, true, true, true, true, true, true, true, true, true, true, true, false, false, false]) {a : Act} (ha : a = ⟨tmT s0 s1 s2 s3 s4 X (.func (.func 56) #[] #[.pointer (some ⟨L, 0, none⟩)]) s10 s14 s15 A B C (.pointer (some ⟨p11, 0, none⟩)) (.pointer (some ⟨p12, 0, none⟩)) (.pointer (some ⟨p13, 0, none⟩)) (.agg #[.int .i64 ia, .slice ta N N]) (.agg #[.int .i64 ib, .slice tb N N]) (.agg #[.int .i64 ic, .slice tc N N]), []⟩) : wpAnyH Try.prog .any told3 Q S 3 lst a W := by
  subst hl
  subst ha
  obtain ⟨a0, a1, a2, a3⟩ := cells_two z11.2
  have hB1 := (hB.setCell (p := ⟨p11, 0, none⟩) z11.1 (.int .i64 ia)).setCell (p := ⟨p11, 1, none⟩) z11.1 (.slice ta N N)
  have e12 := (set_far W p11 p12 (.int .i64 ia) (.slice ta N N) n1112).trans z12.2
  have e13 := (set_far W p11 p13 (.int .i64 ia) (.slice ta N N) n1113).trans z13.2
  have e11 := set_two W p11 _ _ (.int .i64 ia) (.slice ta N N) z11.2
  have k1 := hS.out _ hB1
  refine wpAnyH_ready (rs := [15]) (by kernel_rfl) (by simp) (AllReadyH.cons rfl (fun K hK => ?_) AllReadyH.nil)
  go_simp
  refine hK.out _ _ k1 (fun _ => ?_)
  clear hK K k1 a0 a1 a2 a3
  generalize (W.setCell ⟨p11, 0, none⟩ (.int .i64 ia)).setCell ⟨p11, 1, none⟩ (.slice ta N N) = W1 at *
  obtain ⟨a0, a1, a2, a3⟩ := cells_two e12
  have hB2 := (hB1.setCell (p := ⟨p12, 0, none⟩) z12.1 (.int .i64 ib)).setCell (p := ⟨p12, 1, none⟩) z12.1 (.slice tb N N)
  have f13 := (set_far W1 p12 p13 (.int .i64 ib) (.slice tb N N) n1213).trans e13
  have f11 := (set_far W1 p12 p11 (.int .i64 ib) (.slice tb N N) n1112.symm).trans e11
  have f12 := set_two W1 p12 _ _ (.int .i64 ib) (.slice tb N N) e12
  have k1 := hS.out _ hB2
  refine wpAnyH_ready (rs := [16]) (by kernel_rfl) (by simp) (AllReadyH.cons rfl (fun K hK => ?_) AllReadyH.nil)
  go_simp
  refine hK.out _ _ k1 (fun _ => ?_)
  clear hK K k1 a0 a1 a2 a3
  generalize (W1.setCell ⟨p12, 0, none⟩ (.int .i64 ib)).setCell ⟨p12, 1, none⟩ (.slice tb N N) = W2 at *
  obtain ⟨a0, a1, a2, a3⟩ := cells_two f13
  have hB3 := (hB2.setCell (p := ⟨p13, 0, none⟩) z13.1 (.int .i64 ic)).setCell (p := ⟨p13, 1, none⟩) z13.1 (.slice tc N N)
  have g11 := (set_far W2 p13 p11 (.int .i64 ic) (.slice tc N N) n1113.symm).trans f11
  have g12 := (set_far W2 p13 p12 (.int .i64 ic) (.slice tc N N) n1213.symm).trans f12
  have g13 := set_two W2 p13 _ _ (.int .i64 ic) (.slice tc N N) f13
  have k1 := hS.out _ hB3
  refine wpAnyH_ready (rs := [17]) (by kernel_rfl) (by simp) (AllReadyH.cons rfl (fun K hK => ?_) AllReadyH.nil)
  go_simp
  refine hK.out _ _ k1 (fun _ => ?_)
  clear hK K k1 a0 a1 a2 a3
  refine wpAnyH_done (by kernel_rfl) ?_ _
  exact FIN.out _ p11 p12 p13 hB3 ⟨z11.1, g11⟩ ⟨z12.1, g12⟩ ⟨z13.1, g13⟩ n1112 n1113 n1213
set_option maxHeartbeats 1000000 in
set_option maxRecDepth 100000 in
theorem t3_2_7 (AT1 : Hid (∀ W, Below W0.heap.size W0 W → Calls Try.prog 56 #[.int .i64 A, .pointer (some ⟨L, 0, none⟩)] W fun e W' => e = .returned (.agg #[.int .i64 ia, .slice ta N N]) ∧ Below W.heap.size W W')) (AT2 : Hid (∀ W, Below W0.heap.size W0 W → Calls Try.prog 56 #[.int .i64 B, .pointer (some ⟨L, 0, none⟩)] W fun e W' => e = .returned (.agg #[.int .i64 ib, .slice tb N N]) ∧ Below W.heap.size W W')) (AT3 : Hid (∀ W, Below W0.heap.size W0 W → Calls Try.prog 56 #[.int .i64 C, .pointer (some ⟨L, 0, none⟩)] W fun e W' => e = .returned (.agg #[.int .i64 ic, .slice tc N N]) ∧ Below W.heap.size W W')) (hS : Hid (∀ W, Below W0.heap.size W0 W → S W)) (FIN : Hid (∀ (W : World) (p11 p12 p13 : Nat), Below W0.heap.size W0 W → SB W0 W p11 (.int .i64 ia) (.slice ta N N) → SB W0 W p12 (.int .i64 ib) (.slice tb N N) → SB W0 W p13 (.int .i64 ic) (.slice tc N N) → p11 ≠ p12 → p11 ≠ p13 → p12 ≠ p13 → Q .normal ⟨tmT s0 s1 s2 s3 s4 X (.func (.func 56) #[] #[.pointer (some ⟨L, 0, none⟩)]) s10 s14 s15 A B C (.pointer (some ⟨p11, 0, none⟩)) (.pointer (some ⟨p12, 0, none⟩)) (.pointer (some ⟨p13, 0, none⟩)) (.agg #[.int .i64 ia, .slice ta N N]) (.agg #[.int .i64 ib, .slice tb N N]) (.agg #[.int .i64 ic, .slice tc N N]), []⟩ W)) {p11 p12 p13 : Nat} (hB : Below W0.heap.size W0 W) (z11 : ZB W0 W p11) (z12 : ZB W0 W p12) (z13 : ZB W0 W p13) (n1112 : p11 ≠ p12) (n1113 : p11 ≠ p13) (n1213 : p12 ≠ p13) {lst : Array Bool} (hl : lst = #[true, true, true, true, true, true, true, true, true, true, true, false, true, true, true, false, false, false]) {a : Act} (ha : a = ⟨tmT s0 s1 s2 s3 s4 X (.func (.func 56) #[] #[.pointer (some ⟨L, 0, none⟩)]) s10 s14 s15 A B C (.pointer (some ⟨p11, 0, none⟩)) (.pointer (some ⟨p12, 0, none⟩)) (.pointer (some ⟨p13, 0, none⟩)) (.agg #[.int .i64 ia, .slice ta N N]) (.agg #[.int .i64 ib, .slice tb N N]) (undef), []⟩) : wpAnyH Try.prog .any told3 Q S 4 lst a W := by
  subst hl
  subst ha
  refine wpAnyH_ready (rs := [11]) (by kernel_rfl) (by simp) ?_
  refine AllReadyH.cons rfl (fun K hK => ?_) ?_
  · go_simp
    refine (AT3.out _ hB).mono ?_
    rintro e wz ⟨rfl, hbz⟩
    try go_wp2_with fail
    have hB' := hB.trans (hbz.mono hB.size)
    refine hK.out _ _ (hS.out _ hB') (fun _ => ?_)
    exact t3_3_7 AT1 AT2 AT3 hS FIN hB' (z11.below hbz) (z12.below hbz) (z13.below hbz) n1112 n1113 n1213 (by kernel_rfl) (by rfl)
  exact AllReadyH.nil
set_option maxHeartbeats 1000000 in
set_option maxRecDepth 100000 in
theorem t3_3_3 (AT1 : Hid (∀ W, Below W0.heap.size W0 W → Calls Try.prog 56 #[.int .i64 A, .pointer (some ⟨L, 0, none⟩)] W fun e W' => e = .returned (.agg #[.int .i64 ia, .slice ta N N]) ∧ Below W.heap.size W W')) (AT2 : Hid (∀ W, Below W0.heap.size W0 W → Calls Try.prog 56 #[.int .i64 B, .pointer (some ⟨L, 0, none⟩)] W fun e W' => e = .returned (.agg #[.int .i64 ib, .slice tb N N]) ∧ Below W.heap.size W W')) (AT3 : Hid (∀ W, Below W0.heap.size W0 W → Calls Try.prog 56 #[.int .i64 C, .pointer (some ⟨L, 0, none⟩)] W fun e W' => e = .returned (.agg #[.int .i64 ic, .slice tc N N]) ∧ Below W.heap.size W W')) (hS : Hid (∀ W, Below W0.heap.size W0 W → S W)) (FIN : Hid (∀ (W : World) (p11 p12 p13 : Nat), Below W0.heap.size W0 W → SB W0 W p11 (.int .i64 ia) (.slice ta N N) → SB W0 W p12 (.int .i64 ib) (.slice tb N N) → SB W0 W p13 (.int .i64 ic) (.slice tc N N) → p11 ≠ p12 → p11 ≠ p13 → p12 ≠ p13 → Q .normal ⟨tmT s0 s1 s2 s3 s4 X (.func (.func 56) #[] #[.pointer (some ⟨L, 0, none⟩)]) s10 s14 s15 A B C (.pointer (some ⟨p11, 0, none⟩)) (.pointer (some ⟨p12, 0, none⟩)) (.pointer (some ⟨p13, 0, none⟩)) (.agg #[.int .i64 ia, .slice ta N N]) (.agg #[.int .i64 ib, .slice tb N N]) (.agg #[.int .i64 ic, .slice tc N N]), []⟩ W)) {p11 p12 : Nat} (hB : Below W0.heap.size W0 W) (z11 : ZB W0 W p11) (z12 : ZB W0 W p12) (n1112 : p11 ≠ p12) {lst : Array Bool} (hl : lst = #[true, true, true, true, true, true, true, true, true, true, true, true, true, true, false, false, false, false]) {a : Act} (ha : a = ⟨tmT s0 s1 s2 s3 s4 X (.func (.func 56) #[] #[.pointer (some ⟨L, 0, none⟩)]) s10 s14 s15 A B C (.pointer (some ⟨p11, 0, none⟩)) (.pointer (some ⟨p12, 0, none⟩)) (undef) (.agg #[.int .i64 ia, .slice ta N N]) (.agg #[.int .i64 ib, .slice tb N N]) (.agg #[.int .i64 ic, .slice tc N N]), []⟩) : wpAnyH Try.prog .any told3 Q S 4 lst a W := by
  subst hl
  subst ha
  refine wpAnyH_ready (rs := [14]) (by kernel_rfl) (by simp) ?_
  refine AllReadyH.cons rfl (fun K hK => ?_) ?_
  · go_simp
    have hB' := hB.alloc hB.size (.cells #[.int .i64 0, .slice none 0 0] 33)
    refine hK.out _ _ (hS.out _ hB') (fun _ => ?_)
    exact t3_3_7 AT1 AT2 AT3 hS FIN hB' (z11.alloc _) (z12.alloc _) (ZB.new hB) n1112 z11.ne z12.ne (by kernel_rfl) (by rfl)
  exact AllReadyH.nil
set_option maxHeartbeats 1000000 in
set_option maxRecDepth 100000 in
theorem t3_3_5 (AT1 : Hid (∀ W, Below W0.heap.size W0 W → Calls Try.prog 56 #[.int .i64 A, .pointer (some ⟨L, 0, none⟩)] W fun e W' => e = .returned (.agg #[.int .i64 ia, .slice ta N N]) ∧ Below W.heap.size W W')) (AT2 : Hid (∀ W, Below W0.heap.size W0 W → Calls Try.prog 56 #[.int .i64 B, .pointer (some ⟨L, 0, none⟩)] W fun e W' => e = .returned (.agg #[.int .i64 ib, .slice tb N N]) ∧ Below W.heap.size W W')) (AT3 : Hid (∀ W, Below W0.heap.size W0 W → Calls Try.prog 56 #[.int .i64 C, .pointer (some ⟨L, 0, none⟩)] W fun e W' => e = .returned (.agg #[.int .i64 ic, .slice tc N N]) ∧ Below W.heap.size W W')) (hS : Hid (∀ W, Below W0.heap.size W0 W → S W)) (FIN : Hid (∀ (W : World) (p11 p12 p13 : Nat), Below W0.heap.size W0 W → SB W0 W p11 (.int .i64 ia) (.slice ta N N) → SB W0 W p12 (.int .i64 ib) (.slice tb N N) → SB W0 W p13 (.int .i64 ic) (.slice tc N N) → p11 ≠ p12 → p11 ≠ p13 → p12 ≠ p13 → Q .normal ⟨tmT s0 s1 s2 s3 s4 X (.func (.func 56) #[] #[.pointer (some ⟨L, 0, none⟩)]) s10 s14 s15 A B C (.pointer (some ⟨p11, 0, none⟩)) (.pointer (some ⟨p12, 0, none⟩)) (.pointer (some ⟨p13, 0, none⟩)) (.agg #[.int .i64 ia, .slice ta N N]) (.agg #[.int .i64 ib, .slice tb N N]) (.agg #[.int .i64 ic, .slice tc N N]), []⟩ W)) {p11 p13 : Nat} (hB : Below W0.heap.size W0 W) (z11 : ZB W0 W p11) (z13 : ZB W0 W p13) (n1113 : p11 ≠ p13) {lst : Array Bool} (hl : lst = #[true, true, true, true, true, true, true, true, true, true, true, true, true, false, true, false, false, false]) {a : Act} (ha : a = ⟨tmT s0 s1 s2 s3 s4 X (.func (.func 56) #[] #[.pointer (some ⟨L, 0, none⟩)]) s10 s14 s15 A B C (.pointer (some ⟨p11, 0, none⟩)) (undef) (.pointer (some ⟨p13, 0, none⟩)) (.agg #[.int .i64 ia, .slice ta N N]) (.agg #[.int .i64 ib, .slice tb N N]) (.agg #[.int .i64 ic, .slice tc N N]), []⟩) : wpAnyH Try.prog .any told3 Q S 4 lst a W := by
  subst hl
  subst ha
  refine wpAnyH_ready (rs := [13]) (by kernel_rfl) (by simp) ?_
  refine AllReadyH.cons rfl (fun K hK => ?_) ?_
  · go_simp
    have hB' := hB.alloc hB.size (.cells #[.int .i64 0, .slice none 0 0] 33)
    refine hK.out _ _ (hS.out _ hB') (fun _ => ?_)
    exact t3_3_7 AT1 AT2 AT3 hS FIN hB' (z11.alloc _) (ZB.new hB) (z13.alloc _) z11.ne n1113 z13.ne.symm (by kernel_rfl) (by rfl)
  exact AllReadyH.nil
set_option maxHeartbeats 1000000 in
set_option maxRecDepth 100000 in
theorem t3_3_6 (AT1 : Hid (∀ W, Below W0.heap.size W0 W → Calls Try.prog 56 #[.int .i64 A, .pointer (some ⟨L, 0, none⟩)] W fun e W' => e = .returned (.agg #[.int .i64 ia, .slice ta N N]) ∧ Below W.heap.size W W')) (AT2 : Hid (∀ W, Below W0.heap.size W0 W → Calls Try.prog 56 #[.int .i64 B, .pointer (some ⟨L, 0, none⟩)] W fun e W' => e = .returned (.agg #[.int .i64 ib, .slice tb N N]) ∧ Below W.heap.size W W')) (AT3 : Hid (∀ W, Below W0.heap.size W0 W → Calls Try.prog 56 #[.int .i64 C, .pointer (some ⟨L, 0, none⟩)] W fun e W' => e = .returned (.agg #[.int .i64 ic, .slice tc N N]) ∧ Below W.heap.size W W')) (hS : Hid (∀ W, Below W0.heap.size W0 W → S W)) (FIN : Hid (∀ (W : World) (p11 p12 p13 : Nat), Below W0.heap.size W0 W → SB W0 W p11 (.int .i64 ia) (.slice ta N N) → SB W0 W p12 (.int .i64 ib) (.slice tb N N) → SB W0 W p13 (.int .i64 ic) (.slice tc N N) → p11 ≠ p12 → p11 ≠ p13 → p12 ≠ p13 → Q .normal ⟨tmT s0 s1 s2 s3 s4 X (.func (.func 56) #[] #[.pointer (some ⟨L, 0, none⟩)]) s10 s14 s15 A B C (.pointer (some ⟨p11, 0, none⟩)) (.pointer (some ⟨p12, 0, none⟩)) (.pointer (some ⟨p13, 0, none⟩)) (.agg #[.int .i64 ia, .slice ta N N]) (.agg #[.int .i64 ib, .slice tb N N]) (.agg #[.int .i64 ic, .slice tc N N]), []⟩ W)) {p12 p13 : Nat} (hB : Below W0.heap.size W0 W) (z12 : ZB W0 W p12) (z13 : ZB W0 W p13) (n1213 : p12 ≠ p13) {lst : Array Bool} (hl : lst = #[true, true, true, true, true, true, true, true, true, true, true, true, false, true, true, false, false, false]) {a : Act} (ha : a = ⟨tmT s0 s1 s2 s3 s4 X (.func (.func 56) #[] #[.pointer (some ⟨L, 0, none⟩)]) s10 s14 s15 A B C (undef) (.pointer (some ⟨p12, 0, none⟩)) (.pointer (some ⟨p13, 0, none⟩)) (.agg #[.int .i64 ia, .slice ta N N]) (.agg #[.int .i64 ib, .slice tb N N]) (.agg #[.int .i64 ic, .slice tc N N]), []⟩) : wpAnyH Try.prog .any told3 Q S 4 lst a W := by
  subst hl
  subst ha
  refine wpAnyH_ready (rs := [12]) (by kernel_rfl) (by simp) ?_
  refine AllReadyH.cons rfl (fun K hK => ?_) ?_
  · go_simp
    have hB' := hB.alloc hB.size (.cells #[.int .i64 0, .slice none 0 0] 33)
    refine hK.out _ _ (hS.out _ hB') (fun _ => ?_)
    exact t3_3_7 AT1 AT2 AT3 hS FIN hB' (ZB.new hB) (z12.alloc _) (z13.alloc _) z12.ne.symm z13.ne.symm n1213 (by kernel_rfl) (by rfl)
  exact AllReadyH.nil
set_option maxHeartbeats 1000000 in
set_option maxRecDepth 100000 in
theorem t3_1_7 (AT1 : Hid (∀ W, Below W0.heap.size W0 W → Calls Try.prog 56 #[.int .i64 A, .pointer (some ⟨L, 0, none⟩)] W fun e W' => e = .returned (.agg #[.int .i64 ia, .slice ta N N]) ∧ Below W.heap.size W W')) (AT2 : Hid (∀ W, Below W0.heap.size W0 W → Calls Try.prog 56 #[.int .i64 B, .pointer (some ⟨L, 0, none⟩)] W fun e W' => e = .returned (.agg #[.int .i64 ib, .slice tb N N]) ∧ Below W.heap.size W W')) (AT3 : Hid (∀ W, Below W0.heap.size W0 W → Calls Try.prog 56 #[.int .i64 C, .pointer (some ⟨L, 0, none⟩)] W fun e W' => e = .returned (.agg #[.int .i64 ic, .slice tc N N]) ∧ Below W.heap.size W W')) (hS : Hid (∀ W, Below W0.heap.size W0 W → S W)) (FIN : Hid (∀ (W : World) (p11 p12 p13 : Nat), Below W0.heap.size W0 W → SB W0 W p11 (.int .i64 ia) (.slice ta N N) → SB W0 W p12 (.int .i64 ib) (.slice tb N N) → SB W0 W p13 (.int .i64 ic) (.slice tc N N) → p11 ≠ p12 → p11 ≠ p13 → p12 ≠ p13 → Q .normal ⟨tmT s0 s1 s2 s3 s4 X (.func (.func 56) #[] #[.pointer (some ⟨L, 0, none⟩)]) s10 s14 s15 A B C (.pointer (some ⟨p11, 0, none⟩)) (.pointer (some ⟨p12, 0, none⟩)) (.pointer (some ⟨p13, 0, none⟩)) (.agg #[.int .i64 ia, .slice ta N N]) (.agg #[.int .i64 ib, .slice tb N N]) (.agg #[.int .i64 ic, .slice tc N N]), []⟩ W)) {p11 p12 p13 : Nat} (hB : Below W0.heap.size W0 W) (z11 : ZB W0 W p11) (z12 : ZB W0 W p12) (z13 : ZB W0 W p13) (n1112 : p11 ≠ p12) (n1113 : p11 ≠ p13) (n1213 : p12 ≠ p13) {lst : Array Bool} (hl : lst = #[true, true, true, true, true, true, true, false, true, true, true, false, true, true, true, false, false, false]) {a : Act} (ha : a = ⟨tmT s0 s1 s2 s3 s4 X (.func (.func 56) #[] #[.pointer (some ⟨L, 0, none⟩)]) s10 s14 s15 A B C (.pointer (some ⟨p11, 0, none⟩)) (.pointer (some ⟨p12, 0, none⟩)) (.pointer (some ⟨p13, 0, none⟩)) (.agg #[.int .i64 ia, .slice ta N N]) (undef) (undef), []⟩) : wpAnyH Try.prog .any told3 Q S 5 lst a W := by
  subst hl
  subst ha
  refine wpAnyH_ready (rs := [7]) (by kernel_rfl) (by simp) ?_
  refine AllReadyH.cons rfl (fun K hK => ?_) ?_
  · go_simp
    refine (AT2.out _ hB).mono ?_
    rintro e wz ⟨rfl, hbz⟩
    try go_wp2_with fail
    have hB' := hB.trans (hbz.mono hB.size)
    refine hK.out _ _ (hS.out _ hB') (fun _ => ?_)
    exact t3_2_7 AT1 AT2 AT3 hS FIN hB' (z11.below hbz) (z12.below hbz) (z13.below hbz) n1112 n1113 n1213 (by kernel_rfl) (by rfl)
  exact AllReadyH.nil
set_option maxHeartbeats 1000000 in
set_option maxRecDepth 100000 in
theorem t3_2_3 (AT1 : Hid (∀ W, Below W0.heap.size W0 W → Calls Try.prog 56 #[.int .i64 A, .pointer (some ⟨L, 0, none⟩)] W fun e W' => e = .returned (.agg #[.int .i64 ia, .slice ta N N]) ∧ Below W.heap.size W W')) (AT2 : Hid (∀ W, Below W0.heap.size W0 W → Calls Try.prog 56 #[.int .i64 B, .pointer (some ⟨L, 0, none⟩)] W fun e W' => e = .returned (.agg #[.int .i64 ib, .slice tb N N]) ∧ Below W.heap.size W W')) (AT3 : Hid (∀ W, Below W0.heap.size W0 W → Calls Try.prog 56 #[.int .i64 C, .pointer (some ⟨L, 0, none⟩)] W fun e W' => e = .returned (.agg #[.int .i64 ic, .slice tc N N]) ∧ Below W.heap.size W W')) (hS : Hid (∀ W, Below W0.heap.size W0 W → S W)) (FIN : Hid (∀ (W : World) (p11 p12 p13 : Nat), Below W0.heap.size W0 W → SB W0 W p11 (.int .i64 ia) (.slice ta N N) → SB W0 W p12 (.int .i64 ib) (.slice tb N N) → SB W0 W p13 (.int .i64 ic) (.slice tc N N) → p11 ≠ p12 → p11 ≠ p13 → p12 ≠ p13 → Q .normal ⟨tmT s0 s1 s2 s3 s4 X (.func (.func 56) #[] #[.pointer (some ⟨L, 0, none⟩)]) s10 s14 s15 A B C (.pointer (some ⟨p11, 0, none⟩)) (.pointer (some ⟨p12, 0, none⟩)) (.pointer (some ⟨p13, 0, none⟩)) (.agg #[.int .i64 ia, .slice ta N N]) (.agg #[.int .i64 ib, .slice tb N N]) (.agg #[.int .i64 ic, .slice tc N N]), []⟩ W)) {p11 p12 : Nat} (hB : Below W0.heap.size W0 W) (z11 : ZB W0 W p11) (z12 : ZB W0 W p12) (n1112 : p11 ≠ p12) {lst : Array Bool} (hl : lst = #[true, true, true, true, true, true, true, true, true, true, true, false, true, true, false, false, false, false]) {a : Act} (ha : a = ⟨tmT s0 s1 s2 s3 s4 X (.func (.func 56) #[] #[.pointer (some ⟨L, 0, none⟩)]) s10 s14 s15 A B C (.pointer (some ⟨p11, 0, none⟩)) (.pointer (some ⟨p12, 0, none⟩)) (undef) (.agg #[.int .i64 ia, .slice ta N N]) (.agg #[.int .i64 ib, .slice tb N N]) (undef), []⟩) : wpAnyH Try.prog .any told3 Q S 5 lst a W := by
  subst hl
  subst ha
  refine wpAnyH_ready (rs := [11, 14]) (by kernel_rfl) (by simp) ?_
  refine AllReadyH.cons rfl (fun K hK => ?_) ?_
  · go_simp
    refine (AT3.out _ hB).mono ?_
    rintro e wz ⟨rfl, hbz⟩
    try go_wp2_with fail
    have hB' := hB.trans (hbz.mono hB.size)
    refine hK.out _ _ (hS.out _ hB') (fun _ => ?_)
    exact t3_3_3 AT1 AT2 AT3 hS FIN hB' (z11.below hbz) (z12.below hbz) n1112 (by kernel_rfl) (by rfl)
  refine AllReadyH.cons rfl (fun K hK => ?_) ?_
  · go_simp
    have hB' := hB.alloc hB.size (.cells #[.int .i64 0, .slice none 0 0] 33)
    refine hK.out _ _ (hS.out _ hB') (fun _ => ?_)
    exact t3_2_7 AT1 AT2 AT3 hS FIN hB' (z11.alloc _) (z12.alloc _) (ZB.new hB) n1112 z11.ne z12.ne (by kernel_rfl) (by rfl)
  exact AllReadyH.nil
set_option maxHeartbeats 1000000 in
set_option maxRecDepth 100000 in
theorem t3_2_5 (AT1 : Hid (∀ W, Below W0.heap.size W0 W → Calls Try.prog 56 #[.int .i64 A, .pointer (some ⟨L, 0, none⟩)] W fun e W' => e = .returned (.agg #[.int .i64 ia, .slice ta N N]) ∧ Below W.heap.size W W')) (AT2 : Hid (∀ W, Below W0.heap.size W0 W → Calls Try.prog 56 #[.int .i64 B, .pointer (some ⟨L, 0, none⟩)] W fun e W' => e = .returned (.agg #[.int .i64 ib, .slice tb N N]) ∧ Below W.heap.size W W')) (AT3 : Hid (∀ W, Below W0.heap.size W0 W → Calls Try.prog 56 #[.int .i64 C, .pointer (some ⟨L, 0, none⟩)] W fun e W' => e = .returned (.agg #[.int .i64 ic, .slice tc N N]) ∧ Below W.heap.size W W')) (hS : Hid (∀ W, Below W0.heap.size W0 W → S W)) (FIN : Hid (∀ (W : World) (p11 p12 p13 : Nat), Below W0.heap.size W0 W → SB W0 W p11 (.int .i64 ia) (.slice ta N N) → SB W0 W p12 (.int .i64 ib) (.slice tb N N) → SB W0 W p13 (.int .i64 ic) (.slice tc N N) → p11 ≠ p12 → p11 ≠ p13 → p12 ≠ p13 → Q .normal ⟨tmT s0 s1 s2 s3 s4 X (.func (.func 56) #[] #[.pointer (some ⟨L, 0, none⟩)]) s10 s14 s15 A B C (.pointer (some ⟨p11, 0, none⟩)) (.pointer (some ⟨p12, 0, none⟩)) (.pointer (some ⟨p13, 0, none⟩)) (.agg #[.int .i64 ia, .slice ta N N]) (.agg #[.int .i64 ib, .slice tb N N]) (.agg #[.int .i64 ic, .slice tc N N]), []⟩ W)) {p11 p13 : Nat} (hB : Below W0.heap.size W0 W) (z11 : ZB W0 W p11) (z13 : ZB W0 W p13) (n1113 : p11 ≠ p13) {lst : Array Bool} (hl : lst = #[true, true, true, true, true, true, true, true, true, true, true, false, true, false, true, false, false, false]) {a : Act} (ha : a = ⟨tmT s0 s1 s2 s3 s4 X (.func (.func 56) #[] #[.pointer (some ⟨L, 0, none⟩)]) s10 s14 s15 A B C (.pointer (some ⟨p11, 0, none⟩)) (undef) (.pointer (some ⟨p13, 0, none⟩)) (.agg #[.int .i64 ia, .slice ta N N]) (.agg #[.int .i64 ib, .slice tb N N]) (undef), []⟩) : wpAnyH Try.prog .any told3 Q S 5 lst a W := by
  subst hl
  subst ha
  refine wpAnyH_ready (rs := [11, 13]) (by kernel_rfl) (by simp) ?_
  refine AllReadyH.cons rfl (fun K hK => ?_) ?_
  · go_simp
    refine (AT3.out _ hB).mono ?_
    rintro e wz ⟨rfl, hbz⟩
    try go_wp2_with fail
    have hB' := hB.trans (hbz.mono hB.size)
    refine hK.out _ _ (hS.out _ hB') (fun _ => ?_)
    exact t3_3_5 AT1 AT2 AT3 hS FIN hB' (z11.below hbz) (z13.below hbz) n1113 (by kernel_rfl) (by rfl)
  refine AllReadyH.cons rfl (fun K hK => ?_) ?_
  · go_simp
    have hB' := hB.alloc hB.size (.cells #[.int .i64 0, .slice none 0 0] 33)
    refine hK.out _ _ (hS.out _ hB') (fun _ => ?_)
    exact t3_2_7 AT1 AT2 AT3 hS FIN hB' (z11.alloc _) (ZB.new hB) (z13.alloc _) z11.ne n1113 z13.ne.symm (by kernel_rfl) (by rfl)
  exact AllReadyH.nil
set_option maxHeartbeats 1000000 in
set_option maxRecDepth 100000 in
theorem t3_2_6 (AT1 : Hid (∀ W, Below W0.heap.size W0 W → Calls Try.prog 56 #[.int .i64 A, .pointer (some ⟨L, 0, none⟩)] W fun e W' => e = .returned (.agg #[.int .i64 ia, .slice ta N N]) ∧ Below W.heap.size W W')) (AT2 : Hid (∀ W, Below W0.heap.size W0 W → Calls Try.prog 56 #[.int .i64 B, .pointer (some ⟨L, 0, none⟩)] W fun e W' => e = .returned (.agg #[.int .i64 ib, .slice tb N N]) ∧ Below W.heap.size W W')) (AT3 : Hid (∀ W, Below W0.heap.size W0 W → Calls Try.prog 56 #[.int .i64 C, .pointer (some ⟨L, 0, none⟩)] W fun e W' => e = .returned (.agg #[.int .i64 ic, .slice tc N N]) ∧ Below W.heap.size W W')) (hS : Hid (∀ W, Below W0.heap.size W0 W → S W)) (FIN : Hid (∀ (W : World) (p11 p12 p13 : Nat), Below W0.heap.size W0 W → SB W0 W p11 (.int .i64 ia) (.slice ta N N) → SB W0 W p12 (.int .i64 ib) (.slice tb N N) → SB W0 W p13 (.int .i64 ic) (.slice tc N N) → p11 ≠ p12 → p11 ≠ p13 → p12 ≠ p13 → Q .normal ⟨tmT s0 s1 s2 s3 s4 X (.func (.func 56) #[] #[.pointer (some ⟨L, 0, none⟩)]) s10 s14 s15 A B C (.pointer (some ⟨p11, 0, none⟩)) (.pointer (some ⟨p12, 0, none⟩)) (.pointer (some ⟨p13, 0, none⟩)) (.agg #[.int .i64 ia, .slice ta N N]) (.agg #[.int .i64 ib, .slice tb N N]) (.agg #[.int .i64 ic, .slice tc N N]), []⟩ W)) {p12 p13 : Nat} (hB : Below W0.heap.size W0 W) (z12 : ZB W0 W p12) (z13 : ZB W0 W p13) (n1213 : p12 ≠ p13) {lst : Array Bool} (hl : lst = #[true, true, true, true, true, true, true, true, true, true, true, false, false, true, true, false, false, false]) {a : Act} (ha : a = ⟨tmT s0 s1 s2 s3 s4 X (.func (.func 56) #[] #[.pointer (some ⟨L, 0, none⟩)]) s10 s14 s15 A B C (undef) (.pointer (some ⟨p12, 0, none⟩)) (.pointer (some ⟨p13, 0, none⟩)) (.agg #[.int .i64 ia, .slice ta N N]) (.agg #[.int .i64 ib, .slice tb N N]) (undef), []⟩) : wpAnyH Try.prog .any told3 Q S 5 lst a W := by
  subst hl
  subst ha
  refine wpAnyH_ready (rs := [11, 12]) (by kernel_rfl) (by simp) ?_
  refine AllReadyH.cons rfl (fun K hK => ?_) ?_
  · go_simp
    refine (AT3.out _ hB).mono ?_
    rintro e wz ⟨rfl, hbz⟩
    try go_wp2_with fail
    have hB' := hB.trans (hbz.mono hB.size)
    refine hK.out _ _ (hS.out _ hB') (fun _ => ?_)
    exact t3_3_6 AT1 AT2 AT3 hS FIN hB' (z12.below hbz) (z13.below hbz) n1213 (by kernel_rfl) (by rfl)
  refine AllReadyH.cons rfl (fun K hK => ?_) ?_
  · go_simp
    have hB' := hB.alloc hB.size (.cells #[.int .i64 0, .slice none 0 0] 33)
    refine hK.out _ _ (hS.out _ hB') (fun _ => ?_)
    exact t3_2_7 AT1 AT2 AT3 hS FIN hB' (ZB.new hB) (z12.alloc _) (z13.alloc _) z12.ne.symm z13.ne.symm n1213 (by kernel_rfl) (by rfl)
  exact AllReadyH.nil
set_option maxHeartbeats 1000000 in
set_option maxRecDepth 100000 in
theorem t3_3_1 (AT1 : Hid (∀ W, Below W0.heap.size W0 W → Calls Try.prog 56 #[.int .i64 A, .pointer (some ⟨L, 0, none⟩)] W fun e W' => e = .returned (.agg #[.int .i64 ia, .slice ta N N]) ∧ Below W.heap.size W W')) (AT2 : Hid (∀ W, Below W0.heap.size W0 W → Calls Try.prog 56 #[.int .i64 B, .pointer (some ⟨L, 0, none⟩)] W fun e W' => e = .returned (.agg #[.int .i64 ib, .slice tb N N]) ∧ Below W.heap.size W W')) (AT3 : Hid (∀ W, Below W0.heap.size W0 W → Calls Try.prog 56 #[.int .i64 C, .pointer (some ⟨L, 0, none⟩)] W fun e W' => e = .returned (.agg #[.int .i64 ic, .slice tc N N]) ∧ Below W.heap.size W W')) (hS : Hid (∀ W, Below W0.heap.size W0 W → S W)) (FIN : Hid (∀ (W : World) (p11 p12 p13 : Nat), Below W0.heap.size W0 W → SB W0 W p11 (.int .i64 ia) (.slice ta N N) → SB W0 W p12 (.int .i64 ib) (.slice tb N N) → SB W0 W p13 (.int .i64 ic) (.slice tc N N) → p11 ≠ p12 → p11 ≠ p13 → p12 ≠ p13 → Q .normal ⟨tmT s0 s1 s2 s3 s4 X (.func (.func 56) #[] #[.pointer (some ⟨L, 0, none⟩)]) s10 s14 s15 A B C (.pointer (some ⟨p11, 0, none⟩)) (.pointer (some ⟨p12, 0, none⟩)) (.pointer (some ⟨p13, 0, none⟩)) (.agg #[.int .i64 ia, .slice ta N N]) (.agg #[.int .i64 ib, .slice tb N N]) (.agg #[.int .i64 ic, .slice tc N N]), []⟩ W)) {p11 : Nat} (hB : Below W0.heap.size W0 W) (z11 : ZB W0 W p11) {lst : Array Bool} (hl : lst = #[true, true, true, true, true, true, true, true, true, true, true, true, true, false, false, false, false, false]) {a : Act} (ha : a = ⟨tmT s0 s1 s2 s3 s4 X (.func (.func 56) #[] #[.pointer (some ⟨L, 0, none⟩)]) s10 s14 s15 A B C (.pointer (some ⟨p11, 0, none⟩)) (undef) (undef) (.agg #[.int .i64 ia, .slice ta N N]) (.agg #[.int .i64 ib, .slice tb N N]) (.agg #[.int .i64 ic, .slice tc N N]), []⟩) : wpAnyH Try.prog .any told3 Q S 5 lst a W := by
  subst hl
  subst ha
  refine wpAnyH_ready (rs := [13, 14]) (by kernel_rfl) (by simp) ?_
  refine AllReadyH.cons rfl (fun K hK => ?_) ?_
  · go_simp
    have hB' := hB.alloc hB.size (.cells #[.int .i64 0, .slice none 0 0] 33)
    refine hK.out _ _ (hS.out _ hB') (fun _ => ?_)
    exact t3_3_3 AT1 AT2 AT3 hS FIN hB' (z11.alloc _) (ZB.new hB) z11.ne (by kernel_rfl) (by rfl)
  refine AllReadyH.cons rfl (fun K hK => ?_) ?_
  · go_simp
    have hB' := hB.alloc hB.size (.cells #[.int .i64 0, .slice none 0 0] 33)
    refine hK.out _ _ (hS.out _ hB') (fun _ => ?_)
    exact t3_3_5 AT1 AT2 AT3 hS FIN hB' (z11.alloc _) (ZB.new hB) z11.ne (by kernel_rfl) (by rfl)
  exact AllReadyH.nil
set_option maxHeartbeats 1000000 in
set_option maxRecDepth 100000 in
theorem t3_3_2 (AT1 : Hid (∀ W, Below W0.heap.size W0 W → Calls Try.prog 56 #[.int .i64 A, .pointer (some ⟨L, 0, none⟩)] W fun e W' => e = .returned (.agg #[.int .i64 ia, .slice ta N N]) ∧ Below W.heap.size W W')) (AT2 : Hid (∀ W, Below W0.heap.size W0 W → Calls Try.prog 56 #[.int .i64 B, .pointer (some ⟨L, 0, none⟩)] W fun e W' => e = .returned (.agg #[.int .i64 ib, .slice tb N N]) ∧ Below W.heap.size W W')) (AT3 : Hid (∀ W, Below W0.heap.size W0 W → Calls Try.prog 56 #[.int .i64 C, .pointer (some ⟨L, 0, none⟩)] W fun e W' => e = .returned (.agg #[.int .i64 ic, .slice tc N N]) ∧ Below W.heap.size W W')) (hS : Hid (∀ W, Below W0.heap.size W0 W → S W)) (FIN : Hid (∀ (W : World) (p11 p12 p13 : Nat), Below W0.heap.size W0 W → SB W0 W p11 (.int .i64 ia) (.slice ta N N) → SB W0 W p12 (.int .i64 ib) (.slice tb N N) → SB W0 W p13 (.int .i64 ic) (.slice tc N N) → p11 ≠ p12 → p11 ≠ p13 → p12 ≠ p13 → Q .normal ⟨tmT s0 s1 s2 s3 s4 X (.func (.func 56) #[] #[.pointer (some ⟨L, 0, none⟩)]) s10 s14 s15 A B C (.pointer (some ⟨p11, 0, none⟩)) (.pointer (some ⟨p12, 0, none⟩)) (.pointer (some ⟨p13, 0, none⟩)) (.agg #[.int .i64 ia, .slice ta N N]) (.agg #[.int .i64 ib, .slice tb N N]) (.agg #[.int .i64 ic, .slice tc N N]), []⟩ W)) {p12 : Nat} (hB : Below W0.heap.size W0 W) (z12 : ZB W0 W p12) {lst : Array Bool} (hl : lst = #[true, true, true, true, true, true, true, true, true, true, true, true, false, true, false, false, false, false]) {a : Act} (ha : a = ⟨tmT s0 s1 s2 s3 s4 X (.func (.func 56) #[] #[.pointer (some ⟨L, 0, none⟩)]) s10 s14 s15 A B C (undef) (.pointer (some ⟨p12, 0, none⟩)) (undef) (.agg #[.int .i64 ia, .slice ta N N]) (.agg #[.int .i64 ib, .slice tb N N]) (.agg #[.int .i64 ic, .slice tc N N]), []⟩) : wpAnyH Try.prog .any told3 Q S 5 lst a W := by
  subst hl
  subst ha
  refine wpAnyH_ready (rs := [12, 14]) (by kernel_rfl) (by simp) ?_
  refine AllReadyH.cons rfl (fun K hK => ?_) ?_
  · go_simp
    have hB' := hB.alloc hB.size (.cells #[.int .i64 0, .slice none 0 0] 33)
    refine hK.out _ _ (hS.out _ hB') (fun _ => ?_)
    exact t3_3_3 AT1 AT2 AT3 hS FIN hB' (ZB.new hB) (z12.alloc _) z12.ne.symm (by kernel_rfl) (by rfl)
  refine AllReadyH.cons rfl (fun K hK => ?_) ?_
  · go_simp
    have hB' := hB.alloc hB.size (.cells #[.int .i64 0, .slice none 0 0] 33)
    refine hK.out _ _ (hS.out _ hB') (fun _ => ?_)
    exact t3_3_6 AT1 AT2 AT3 hS FIN hB' (z12.alloc _) (ZB.new hB) z12.ne (by kernel_rfl) (by rfl)
  exact AllReadyH.nil
set_option maxHeartbeats 1000000 in
set_option maxRecDepth 100000 in
theorem t3_3_4 (AT1 : Hid (∀ W, Below W0.heap.size W0 W → Calls Try.prog 56 #[.int .i64 A, .pointer (some ⟨L, 0, none⟩)] W fun e W' => e = .returned (.agg #[.int .i64 ia, .slice ta N N]) ∧ Below W.heap.size W W')) (AT2 : Hid (∀ W, Below W0.heap.size W0 W → Calls Try.prog 56 #[.int .i64 B, .pointer (some ⟨L, 0, none⟩)] W fun e W' => e = .returned (.agg #[.int .i64 ib, .slice tb N N]) ∧ Below W.heap.size W W')) (AT3 : Hid (∀ W, Below W0.heap.size W0 W → Calls Try.prog 56 #[.int .i64 C, .pointer (some ⟨L, 0, none⟩)] W fun e W' => e = .returned (.agg #[.int .i64 ic, .slice tc N N]) ∧ Below W.heap.size W W')) (hS : Hid (∀ W, Below W0.heap.size W0 W → S W)) (FIN : Hid (∀ (W : World) (p11 p12 p13 : Nat), Below W0.heap.size W0 W → SB W0 W p11 (.int .i64 ia) (.slice ta N N) → SB W0 W p12 (.int .i64 ib) (.slice tb N N) → SB W0 W p13 (.int .i64 ic) (.slice tc N N) → p11 ≠ p12 → p11 ≠ p13 → p12 ≠ p13 → Q .normal ⟨tmT s0 s1 s2 s3 s4 X (.func (.func 56) #[] #[.pointer (some ⟨L, 0, none⟩)]) s10 s14 s15 A B C (.pointer (some ⟨p11, 0, none⟩)) (.pointer (some ⟨p12, 0, none⟩)) (.pointer (some ⟨p13, 0, none⟩)) (.agg #[.int .i64 ia, .slice ta N N]) (.agg #[.int .i64 ib, .slice tb N N]) (.agg #[.int .i64 ic, .slice tc N N]), []⟩ W)) {p13 : Nat} (hB : Below W0.heap.size W0 W) (z13 : ZB W0 W p13) {lst : Array Bool} (hl : lst = #[true, true, true, true, true, true, true, true, true, true, true, true, false, false, true, false, false, false]) {a : Act} (ha : a = ⟨tmT s0 s1 s2 s3 s4 X (.func (.func 56) #[] #[.pointer (some ⟨L, 0, none⟩)]) s10 s14 s15 A B C (undef) (undef) (.pointer (some ⟨p13, 0, none⟩)) (.agg #[.int .i64 ia, .slice ta N N]) (.agg #[.int .i64 ib, .slice tb N N]) (.agg #[.int .i64 ic, .slice tc N N]), []⟩) : wpAnyH Try.prog .any told3 Q S 5 lst a W := by
  subst hl
  subst ha
  refine wpAnyH_ready (rs := [12, 13]) (by kernel_rfl) (by simp) ?_
  refine AllReadyH.cons rfl (fun K hK => ?_) ?_
  · go_simp
    have hB' := hB.alloc hB.size (.cells #[.int .i64 0, .slice none 0 0] 33)
    refine hK.out _ _ (hS.out _ hB') (fun _ => ?_)
    exact t3_3_5 AT1 AT2 AT3 hS FIN hB' (ZB.new hB) (z13.alloc _) z13.ne.symm (by kernel_rfl) (by rfl)
  refine AllReadyH.cons rfl (fun K hK => ?_) ?_
  · go_simp
    have hB' := hB.alloc hB.size (.cells #[.int .i64 0, .slice none 0 0] 33)
    refine hK.out _ _ (hS.out _ hB') (fun _ => ?_)
    exact t3_3_6 AT1 AT2 AT3 hS FIN hB' (ZB.new hB) (z13.alloc _) z13.ne.symm (by kernel_rfl) (by rfl)
  exact AllReadyH.nil
set_option maxHeartbeats 1000000 in
set_option maxRecDepth 100000 in
theorem t3_0_7 (AT1 : Hid (∀ W, Below W0.heap.size W0 W → Calls Try.prog 56 #[.int .i64 A, .pointer (some ⟨L, 0, none⟩)] W fun e W' => e = .returned (.agg #[.int .i64 ia, .slice ta N N]) ∧ Below W.heap.size W W')) (AT2 : Hid (∀ W, Below W0.heap.size W0 W → Calls Try.prog 56 #[.int .i64 B, .pointer (some ⟨L, 0, none⟩)] W fun e W' => e = .returned (.agg #[.int .i64 ib, .slice tb N N]) ∧ Below W.heap.size W W')) (AT3 : Hid (∀ W, Below W0.heap.size W0 W → Calls Try.prog 56 #[.int .i64 C, .pointer (some ⟨L, 0, none⟩)] W fun e W' => e = .returned (.agg #[.int .i64 ic, .slice tc N N]) ∧ Below W.heap.size W W')) (hS : Hid (∀ W, Below W0.heap.size W0 W → S W)) (FIN : Hid (∀ (W : World) (p11 p12 p13 : Nat), Below W0.heap.size W0 W → SB W0 W p11 (.int .i64 ia) (.slice ta N N) → SB W0 W p12 (.int .i64 ib) (.slice tb N N) → SB W0 W p13 (.int .i64 ic) (.slice tc N N) → p11 ≠ p12 → p11 ≠ p13 → p12 ≠ p13 → Q .normal ⟨tmT s0 s1 s2 s3 s4 X (.func (.func 56) #[] #[.pointer (some ⟨L, 0, none⟩)]) s10 s14 s15 A B C (.pointer (some ⟨p11, 0, none⟩)) (.pointer (some ⟨p12, 0, none⟩)) (.pointer (some ⟨p13, 0, none⟩)) (.agg #[.int .i64 ia, .slice ta N N]) (.agg #[.int .i64 ib, .slice tb N N]) (.agg #[.int .i64 ic, .slice tc N N]), []⟩ W)) {p11 p12 p13 : Nat} (hB : Below W0.heap.size W0 W) (z11 : ZB W0 W p11) (z12 : ZB W0 W p12) (z13 : ZB W0 W p13) (n1112 : p11 ≠ p12) (n1113 : p11 ≠ p13) (n1213 : p12 ≠ p13) {lst : Array Bool} (hl : lst = #[true, true, true, false, true, true, true, false, true, true, true, false, true, true, true, false, false, false]) {a : Act} (ha : a = ⟨tmT s0 s1 s2 s3 s4 X (.func (.func 56) #[] #[.pointer (some ⟨L, 0, none⟩)]) s10 s14 s15 A B C (.pointer (some ⟨p11, 0, none⟩)) (.pointer (some ⟨p12, 0, none⟩)) (.pointer (some ⟨p13, 0, none⟩)) (undef) (undef) (undef), []⟩) : wpAnyH Try.prog .any told3 Q S 6 lst a W := by
  subst hl
  subst ha
  refine wpAnyH_ready (rs := [3]) (by kernel_rfl) (by simp) ?_
  refine AllReadyH.cons rfl (fun K hK => ?_) ?_
  · go_simp
    refine (AT1.out _ hB).mono ?_
    rintro e wz ⟨rfl, hbz⟩
    try go_wp2_with fail
    have hB' := hB.trans (hbz.mono hB.size)
    refine hK.out _ _ (hS.out _ hB') (fun _ => ?_)
    exact t3_1_7 AT1 AT2 AT3 hS FIN hB' (z11.below hbz) (z12.below hbz) (z13.below hbz) n1112 n1113 n1213 (by kernel_rfl) (by rfl)
  exact AllReadyH.nil
set_option maxHeartbeats 1000000 in
set_option maxRecDepth 100000 in
theorem t3_1_3 (AT1 : Hid (∀ W, Below W0.heap.size W0 W → Calls Try.prog 56 #[.int .i64 A, .pointer (some ⟨L, 0, none⟩)] W fun e W' => e = .returned (.agg #[.int .i64 ia, .slice ta N N]) ∧ Below W.heap.size W W')) (AT2 : Hid (∀ W, Below W0.heap.size W0 W → Calls Try.prog 56 #[.int .i64 B, .pointer (some ⟨L, 0, none⟩)] W fun e W' => e = .returned (.agg #[.int .i64 ib, .slice tb N N]) ∧ Below W.heap.size W W')) (AT3 : Hid (∀ W, Below W0.heap.size W0 W → Calls Try.prog 56 #[.int .i64 C, .pointer (some ⟨L, 0, none⟩)] W fun e W' => e = .returned (.agg #[.int .i64 ic, .slice tc N N]) ∧ Below W.heap.size W W')) (hS : Hid (∀ W, Below W0.heap.size W0 W → S W)) (FIN : Hid (∀ (W : World) (p11 p12 p13 : Nat), Below W0.heap.size W0 W → SB W0 W p11 (.int .i64 ia) (.slice ta N N) → SB W0 W p12 (.int .i64 ib) (.slice tb N N) → SB W0 W p13 (.int .i64 ic) (.slice tc N N) → p11 ≠ p12 → p11 ≠ p13 → p12 ≠ p13 → Q .normal ⟨tmT s0 s1 s2 s3 s4 X (.func (.func 56) #[] #[.pointer (some ⟨L, 0, none⟩)]) s10 s14 s15 A B C (.pointer (some ⟨p11, 0, none⟩)) (.pointer (some ⟨p12, 0, none⟩)) (.pointer (some ⟨p13, 0, none⟩)) (.agg #[.int .i64 ia, .slice ta N N]) (.agg #[.int .i64 ib, .slice tb N N]) (.agg #[.int .i64 ic, .slice tc N N]), []⟩ W)) {p11 p12 : Nat} (hB : Below W0.heap.size W0 W) (z11 : ZB W0 W p11) (z12 : ZB W0 W p12) (n1112 : p11 ≠ p12) {lst : Array Bool} (hl : lst = #[true, true, true, true, true, true, true, false, true, true, true, false, true, true, false, false, false, false]) {a : Act} (ha : a = ⟨tmT s0 s1 s2 s3 s4 X (.func (.func 56) #[] #[.pointer (some ⟨L, 0, none⟩)]) s10 s14 s15 A B C (.pointer (some ⟨p11, 0, none⟩)) (.pointer (some ⟨p12, 0, none⟩)) (undef) (.agg #[.int .i64 ia, .slice ta N N]) (undef) (undef), []⟩) : wpAnyH Try.prog .any told3 Q S 6 lst a W := by
  subst hl
  subst ha
  refine wpAnyH_ready (rs := [7, 14]) (by kernel_rfl) (by simp) ?_
  refine AllReadyH.cons rfl (fun K hK => ?_) ?_
  · go_simp
    refine (AT2.out _ hB).mono ?_
    rintro e wz ⟨rfl, hbz⟩
    try go_wp2_with fail
    have hB' := hB.trans (hbz.mono hB.size)
    refine hK.out _ _ (hS.out _ hB') (fun _ => ?_)
    exact t3_2_3 AT1 AT2 AT3 hS FIN hB' (z11.below hbz) (z12.below hbz) n1112 (by kernel_rfl) (by rfl)
  refine AllReadyH.cons rfl (fun K hK => ?_) ?_
  · go_simp
    have hB' := hB.alloc hB.size (.cells #[.int .i64 0, .slice none 0 0] 33)
    refine hK.out _ _ (hS.out _ hB') (fun _ => ?_)
    exact t3_1_7 AT1 AT2 AT3 hS FIN hB' (z11.alloc _) (z12.alloc _) (ZB.new hB) n1112 z11.ne z12.ne (by kernel_rfl) (by rfl)
  exact AllReadyH.nil
set_option maxHeartbeats 1000000 in
set_option maxRecDepth 100000 in
theorem t3_1_5 (AT1 : Hid (∀ W, Below W0.heap.size W0 W → Calls Try.prog 56 #[.int .i64 A, .pointer (some ⟨L, 0, none⟩)] W fun e W' => e = .returned (.agg #[.int .i64 ia, .slice ta N N]) ∧ Below W.heap.size W W')) (AT2 : Hid (∀ W, Below W0.heap.size W0 W → Calls Try.prog 56 #[.int .i64 B, .pointer (some ⟨L, 0, none⟩)] W fun e W' => e = .returned (.agg #[.int .i64 ib, .slice tb N N]) ∧ Below W.heap.size W W')) (AT3 : Hid (∀ W, Below W0.heap.size W0 W → Calls Try.prog 56 #[.int .i64 C, .pointer (some ⟨L, 0, none⟩)] W fun e W' => e = .returned (.agg #[.int .i64 ic, .slice tc N N]) ∧ Below W.heap.size W W')) (hS : Hid (∀ W, Below W0.heap.size W0 W → S W)) (FIN : Hid (∀ (W : World) (p11 p12 p13 : Nat), Below W0.heap.size W0 W → SB W0 W p11 (.int .i64 ia) (.slice ta N N) → SB W0 W p12 (.int .i64 ib) (.slice tb N N) → SB W0 W p13 (.int .i64 ic) (.slice tc N N) → p11 ≠ p12 → p11 ≠ p13 → p12 ≠ p13 → Q .normal ⟨tmT s0 s1 s2 s3 s4 X (.func (.func 56) #[] #[.pointer (some ⟨L, 0, none⟩)]) s10 s14 s15 A B C (.pointer (some ⟨p11, 0, none⟩)) (.pointer (some ⟨p12, 0, none⟩)) (.pointer (some ⟨p13, 0, none⟩)) (.agg #[.int .i64 ia, .slice ta N N]) (.agg #[.int .i64 ib, .slice tb N N]) (.agg #[.int .i64 ic, .slice tc N N]), []⟩ W)) {p11 p13 : Nat} (hB : Below W0.heap.size W0 W) (z11 : ZB W0 W p11) (z13 : ZB W0 W p13) (n1113 : p11 ≠ p13) {lst : Array Bool} (hl : lst = #[true, true, true, true, true, true, true, false, true, true, true, false, true, false, true, false, false, false]) {a : Act} (ha : a = ⟨tmT s0 s1 s2 s3 s4 X (.func (.func 56) #[] #[.pointer (some ⟨L, 0, none⟩)]) s10 s14 s15 A B C (.pointer (some ⟨p11, 0, none⟩)) (undef) (.pointer (some ⟨p13, 0, none⟩)) (.agg #[.int .i64 ia, .slice ta N N]) (undef) (undef), []⟩) : wpAnyH Try.prog .any told3 Q S 6 lst a W := by
  subst hl
  subst ha
  refine wpAnyH_ready (rs := [7, 13]) (by kernel_rfl) (by simp) ?_
  refine AllReadyH.cons rfl (fun K hK => ?_) ?_
  · go_simp
    refine (AT2.out _ hB).mono ?_
    rintro e wz ⟨rfl, hbz⟩
    try go_wp2_with fail
    have hB' := hB.trans (hbz.mono hB.size)
    refine hK.out _ _ (hS.out _ hB') (fun _ => ?_)
    exact t3_2_5 AT1 AT2 AT3 hS FIN hB' (z11.below hbz) (z13.below hbz) n1113 (by kernel_rfl) (by rfl)
  refine AllReadyH.cons rfl (fun K hK => ?_) ?_
  · go_simp
    have hB' := hB.alloc hB.size (.cells #[.int .i64 0, .slice none 0 0] 33)
    refine hK.out _ _ (hS.out _ hB') (fun _ => ?_)
    exact t3_1_7 AT1 AT2 AT3 hS FIN hB' (z11.alloc _) (ZB.new hB) (z13.alloc _) z11.ne n1113 z13.ne.symm (by kernel_rfl) (by rfl)
  exact AllReadyH.nil
set_option maxHeartbeats 1000000 in
set_option maxRecDepth 100000 in
theorem t3_1_6 (AT1 : Hid (∀ W, Below W0.heap.size W0 W → Calls Try.prog 56 #[.int .i64 A, .pointer (some ⟨L, 0, none⟩)] W fun e W' => e = .returned (.agg #[.int .i64 ia, .slice ta N N]) ∧ Below W.heap.size W W')) (AT2 : Hid (∀ W, Below W0.heap.size W0 W → Calls Try.prog 56 #[.int .i64 B, .pointer (some ⟨L, 0, none⟩)] W fun e W' => e = .returned (.agg #[.int .i64 ib, .slice tb N N]) ∧ Below W.heap.size W W')) (AT3 : Hid (∀ W, Below W0.heap.size W0 W → Calls Try.prog 56 #[.int .i64 C, .pointer (some ⟨L, 0, none⟩)] W fun e W' => e = .returned (.agg #[.int .i64 ic, .slice tc N N]) ∧ Below W.heap.size W W')) (hS : Hid (∀ W, Below W0.heap.size W0 W → S W)) (FIN : Hid (∀ (W : World) (p11 p12 p13 : Nat), Below W0.heap.size W0 W → SB W0 W p11 (.int .i64 ia) (.slice ta N N) → SB W0 W p12 (.int .i64 ib) (.slice tb N N) → SB W0 W p13 (.int .i64 ic) (.slice tc N N) → p11 ≠ p12 → p11 ≠ p13 → p12 ≠ p13 → Q .normal ⟨tmT s0 s1 s2 s3 s4 X (.func (.func 56) #[] #[.pointer (some ⟨L, 0, none⟩)]) s10 s14 s15 A B C (.pointer (some ⟨p11, 0, none⟩)) (.pointer (some ⟨p12, 0, none⟩)) (.pointer (some ⟨p13, 0, none⟩)) (.agg #[.int .i64 ia, .slice ta N N]) (.agg #[.int .i64 ib, .slice tb N N]) (.agg #[.int .i64 ic, .slice tc N N]), []⟩ W)) {p12 p13 : Nat} (hB : Below W0.heap.size W0 W) (z12 : ZB W0 W p12) (z13 : ZB W0 W p13) (n1213 : p12 ≠ p13) {lst : Array Bool} (hl : lst = #[true, true, true, true, true, true, true, false, true, true, true, false, false, true, true, false, false, false]) {a : Act} (ha : a = ⟨tmT s0 s1 s2 s3 s4 X (.func (.func 56) #[] #[.pointer (some ⟨L, 0, none⟩)]) s10 s14 s15 A B C (undef) (.pointer (some ⟨p12, 0, none⟩)) (.pointer (some ⟨p13, 0, none⟩)) (.agg #[.int .i64 ia, .slice ta N N]) (undef) (undef), []⟩) : wpAnyH Try.prog .any told3 Q S 6 lst a W := by
  subst hl
  subst ha
  refine wpAnyH_ready (rs := [7, 12]) (by kernel_rfl) (by simp) ?_
  refine AllReadyH.cons rfl (fun K hK => ?_) ?_
  · go_simp
    refine (AT2.out _ hB).mono ?_
    rintro e wz ⟨rfl, hbz⟩
    try go_wp2_with fail
    have hB' := hB.trans (hbz.mono hB.size)
    refine hK.out _ _ (hS.out _ hB') (fun _ => ?_)
    exact t3_2_6 AT1 AT2 AT3 hS FIN hB' (z12.below hbz) (z13.below hbz) n1213 (by kernel_rfl) (by rfl)
  refine AllReadyH.cons rfl (fun K hK => ?_) ?_
  · go_simp
    have hB' := hB.alloc hB.size (.cells #[.int .i64 0, .slice none 0 0] 33)
    refine hK.out _ _ (hS.out _ hB') (fun _ => ?_)
    exact t3_1_7 AT1 AT2 AT3 hS FIN hB' (ZB.new hB) (z12.alloc _) (z13.alloc _) z12.ne.symm z13.ne.symm n1213 (by kernel_rfl) (by rfl)
  exact AllReadyH.nil
set_option maxHeartbeats 1000000 in
set_option maxRecDepth 100000 in
theorem t3_2_1 (AT1 : Hid (∀ W, Below W0.heap.size W0 W → Calls Try.prog 56 #[.int .i64 A, .pointer (some ⟨L, 0, none⟩)] W fun e W' => e = .returned (.agg #[.int .i64 ia, .slice ta N N]) ∧ Below W.heap.size W W')) (AT2 : Hid (∀ W, Below W0.heap.size W0 W → Calls Try.prog 56 #[.int .i64 B, .pointer (some ⟨L, 0, none⟩)] W fun e W' => e = .returned (.agg #[.int .i64 ib, .slice tb N N]) ∧ Below W.heap.size W W')) (AT3 : Hid (∀ W, Below W0.heap.size W0 W → Calls Try.prog 56 #[.int .i64 C, .pointer (some ⟨L, 0, none⟩)] W fun e W' => e = .returned (.agg #[.int .i64 ic, .slice tc N N]) ∧ Below W.heap.size W W')) (hS : Hid (∀ W, Below W0.heap.size W0 W → S W)) (FIN : Hid (∀ (W : World) (p11 p12 p13 : Nat), Below W0.heap.size W0 W → SB W0 W p11 (.int .i64 ia) (.slice ta N N) → SB W0 W p12 (.int .i64 ib) (.slice tb N N) → SB W0 W p13 (.int .i64 ic) (.slice tc N N) → p11 ≠ p12 → p11 ≠ p13 → p12 ≠ p13 → Q .normal ⟨tmT s0 s1 s2 s3 s4 X (.func (.func 56) #[] #[.pointer (some ⟨L, 0, none⟩)]) s10 s14 s15 A B C (.pointer (some ⟨p11, 0, none⟩)) (.pointer (some ⟨p12, 0, none⟩)) (.pointer (some ⟨p13, 0, none⟩)) (.agg #[.int .i64 ia, .slice ta N N]) (.agg #[.int .i64 ib, .slice tb N N]) (.agg #[.int .i64 ic, .slice tc N N]), []⟩ W)) {p11 : Nat} (hB : Below W0.heap.size W0 W) (z11 : ZB W0 W p11) {lst : Array Bool} (hl : lst = #[true, true, true, true, true, true, true, true, true, true, true, false, true, false, false, false, false, false]) {a : Act} (ha : a = ⟨tmT s0 s1 s2 s3 s4 X (.func (.func 56) #[] #[.pointer (some ⟨L, 0, none⟩)]) s10 s14 s15 A B C (.pointer (some ⟨p11, 0, none⟩)) (undef) (undef) (.agg #[.int .i64 ia, .slice ta N N]) (.agg #[.int .i64 ib, .slice tb N N]) (undef), []⟩) : wpAnyH Try.prog .any told3 Q S 6 lst a W := by
  subst hl
  subst ha
  refine wpAnyH_ready (rs := [11, 13, 14]) (by kernel_rfl) (by simp) ?_
  refine AllReadyH.cons rfl (fun K hK => ?_) ?_
  · go_simp
    refine (AT3.out _ hB).mono ?_
    rintro e wz ⟨rfl, hbz⟩
    try go_wp2_with fail
    have hB' := hB.trans (hbz.mono hB.size)
    refine hK.out _ _ (hS.out _ hB') (fun _ => ?_)
    exact t3_3_1 AT1 AT2 AT3 hS FIN hB' (z11.below hbz)  (by kernel_rfl) (by rfl)
  refine AllReadyH.cons rfl (fun K hK => ?_) ?_
  · go_simp
    have hB' := hB.alloc hB.size (.cells #[.int .i64 0, .slice none 0 0] 33)
    refine hK.out _ _ (hS.out _ hB') (fun _ => ?_)
    exact t3_2_3 AT1 AT2 AT3 hS FIN hB' (z11.alloc _) (ZB.new hB) z11.ne (by kernel_rfl) (by rfl)
  refine AllReadyH.cons rfl (fun K hK => ?_) ?_
  · go_simp
    have hB' := hB.alloc hB.size (.cells #[.int .i64 0, .slice none 0 0] 33)
    refine hK.out _ _ (hS.out _ hB') (fun _ => ?_)
    exact t3_2_5 AT1 AT2 AT3 hS FIN hB' (z11.alloc _) (ZB.new hB) z11.ne (by kernel_rfl) (by rfl)
  exact AllReadyH.nil
set_option maxHeartbeats 1000000 in
set_option maxRecDepth 100000 in
theorem t3_2_2 (AT1 : Hid (∀ W, Below W0.heap.size W0 W → Calls Try.prog 56 #[.int .i64 A, .pointer (some ⟨L, 0, none⟩)] W fun e W' => e = .returned (.agg #[.int .i64 ia, .slice ta N N]) ∧ Below W.heap.size W W')) (AT2 : Hid (∀ W, Below W0.heap.size W0 W → Calls Try.prog 56 #[.int .i64 B, .pointer (some ⟨L, 0, none⟩)] W fun e W' => e = .returned (.agg #[.int .i64 ib, .slice tb N N]) ∧ Below W.heap.size W W')) (AT3 : Hid (∀ W, Below W0.heap.size W0 W → Calls Try.prog 56 #[.int .i64 C, .pointer (some ⟨L, 0, none⟩)] W fun e W' => e = .returned (.agg #[.int .i64 ic, .slice tc N N]) ∧ Below W.heap.size W W')) (hS : Hid (∀ W, Below W0.heap.size W0 W → S W)) (FIN : Hid (∀ (W : World) (p11 p12 p13 : Nat), Below W0.heap.size W0 W → SB W0 W p11 (.int .i64 ia) (.slice ta N N) → SB W0 W p12 (.int .i64 ib) (.slice tb N N) → SB W0 W p13 (.int .i64 ic) (.slice tc N N) → p11 ≠ p12 → p11 ≠ p13 → p12 ≠ p13 → Q .normal ⟨tmT s0 s1 s2 s3 s4 X (.func (.func 56) #[] #[.pointer (some ⟨L, 0, none⟩)]) s10 s14 s15 A B C (.pointer (some ⟨p11, 0, none⟩)) (.pointer (some ⟨p12, 0, none⟩)) (.pointer (some ⟨p13, 0, none⟩)) (.agg #[.int .i64 ia, .slice ta N N]) (.agg #[.int .i64 ib, .slice tb N N]) (.agg #[.int .i64 ic, .slice tc N N]), []⟩ W)) {p12 : Nat} (hB : Below W0.heap.size W0 W) (z12 : ZB W0 W p12) {lst : Array Bool} (hl : lst = #[true, true, true, true, true, true, true, true, true, true, true, false, false, true, false, false, false, false]) {a : Act} (ha : a = ⟨tmT s0 s1 s2 s3 s4 X (.func (.func 56) #[] #[.pointer (some ⟨L, 0, none⟩)]) s10 s14 s15 A B C (undef) (.pointer (some ⟨p12, 0, none⟩)) (undef) (.agg #[.int .i64 ia, .slice ta N N]) (.agg #[.int .i64 ib, .slice tb N N]) (undef), []⟩) : wpAnyH Try.prog .any told3 Q S 6 lst a W := by
  subst hl
  subst ha
  refine wpAnyH_ready (rs := [11, 12, 14]) (by kernel_rfl) (by simp) ?_
  refine AllReadyH.cons rfl (fun K hK => ?_) ?_
  · go_simp
    refine (AT3.out _ hB).mono ?_
    rintro e wz ⟨rfl, hbz⟩
    try go_wp2_with fail
    have hB' := hB.trans (hbz.mono hB.size)
    refine hK.out _ _ (hS.out _ hB') (fun _ => ?_)
    exact t3_3_2 AT1 AT2 AT3 hS FIN hB' (z12.below hbz)  (by kernel_rfl) (by rfl)
  refine AllReadyH.cons rfl (fun K hK => ?_) ?_
  · go_simp
    have hB' := hB.alloc hB.size (.cells #[.int .i64 0, .slice none 0 0] 33)
    refine hK.out _ _ (hS.out _ hB') (fun _ => ?_)
    exact t3_2_3 AT1 AT2 AT3 hS FIN hB' (ZB.new hB) (z12.alloc _) z12.ne.symm (by kernel_rfl) (by rfl)
  refine AllReadyH.cons rfl (fun K hK => ?_) ?_
  · go_simp
    have hB' := hB.alloc hB.size (.cells #[.int .i64 0, .slice none 0 0] 33)
    refine hK.out _ _ (hS.out _ hB') (fun _ => ?_)
    exact t3_2_6 AT1 AT2 AT3 hS FIN hB' (z12.alloc _) (ZB.new hB) z12.ne (by kernel_rfl) (by rfl)
  exact AllReadyH.nil
set_option maxHeartbeats 1000000 in
set_option maxRecDepth 100000 in
theorem t3_2_4 (AT1 : Hid (∀ W, Below W0.heap.size W0 W → Calls Try.prog 56 #[.int .i64 A, .pointer (some ⟨L, 0, none⟩)] W fun e W' => e = .returned (.agg #[.int .i64 ia, .slice ta N N]) ∧ Below W.heap.size W W')) (AT2 : Hid (∀ W, Below W0.heap.size W0 W → Calls Try.prog 56 #[.int .i64 B, .pointer (some ⟨L, 0, none⟩)] W fun e W' => e = .returned (.agg #[.int .i64 ib, .slice tb N N]) ∧ Below W.heap.size W W')) (AT3 : Hid (∀ W, Below W0.heap.size W0 W → Calls Try.prog 56 #[.int .i64 C, .pointer (some ⟨L, 0, none⟩)] W fun e W' => e = .returned (.agg #[.int .i64 ic, .slice tc N N]) ∧ Below W.heap.size W W')) (hS : Hid (∀ W, Below W0.heap.size W0 W → S W)) (FIN : Hid (∀ (W : World) (p11 p12 p13 : Nat), Below W0.heap.size W0 W → SB W0 W p11 (.int .i64 ia) (.slice ta N N) → SB W0 W p12 (.int .i64 ib) (.slice tb N N) → SB W0 W p13 (.int .i64 ic) (.slice tc N N) → p11 ≠ p12 → p11 ≠ p13 → p12 ≠ p13 → Q .normal ⟨tmT s0 s1 s2 s3 s4 X (.func (.func 56) #[] #[.pointer (some ⟨L, 0, none⟩)]) s10 s14 s15 A B C (.pointer (some ⟨p11, 0, none⟩)) (.pointer (some ⟨p12, 0, none⟩)) (.pointer (some ⟨p13, 0, none⟩)) (.agg #[.int .i64 ia, .slice ta N N]) (.agg #[.int .i64 ib, .slice tb N N]) (.agg #[.int .i64 ic, .slice tc N N]), []⟩ W)) {p13 : Nat} (hB : Below W0.heap.size W0 W) (z13 : ZB W0 W p13) {lst : Array Bool} (hl : lst = #[true, true, true, true, true, true, true, true, true, true, true, false, false, false, true, false, false, false]) {a : Act} (ha : a = ⟨tmT s0 s1 s2 s3 s4 X (.func (.func 56) #[] #[.pointer (some ⟨L, 0, none⟩)]) s10 s14 s15 A B C (undef) (undef) (.pointer (some ⟨p13, 0, none⟩)) (.agg #[.int .i64 ia, .slice ta N N]) (.agg #[.int .i64 ib, .slice tb N N]) (undef), []⟩) : wpAnyH Try.prog .any told3 Q S 6 lst a W := by
  subst hl
  subst ha
  refine wpAnyH_ready (rs := [11, 12, 13]) (by kernel_rfl) (by simp) ?_
  refine AllReadyH.cons rfl (fun K hK => ?_) ?_
  · go_simp
    refine (AT3.out _ hB).mono ?_
    rintro e wz ⟨rfl, hbz⟩
    try go_wp2_with fail
    have hB' := hB.trans (hbz.mono hB.size)
    refine hK.out _ _ (hS.out _ hB') (fun _ => ?_)
    exact t3_3_4 AT1 AT2 AT3 hS FIN hB' (z13.below hbz)  (by kernel_rfl) (by rfl)
  refine AllReadyH.cons rfl (fun K hK => ?_) ?_
  · go_simp
    have hB' := hB.alloc hB.size (.cells #[.int .i64 0, .slice none 0 0] 33)
    refine hK.out _ _ (hS.out _ hB') (fun _ => ?_)
    exact t3_2_5 AT1 AT2 AT3 hS FIN hB' (ZB.new hB) (z13.alloc _) z13.ne.symm (by kernel_rfl) (by rfl)
  refine AllReadyH.cons rfl (fun K hK => ?_) ?_
  · go_simp
    have hB' := hB.alloc hB.size (.cells #[.int .i64 0, .slice none 0 0] 33)
    refine hK.out _ _ (hS.out _ hB') (fun _ => ?_)
    exact t3_2_6 AT1 AT2 AT3 hS FIN hB' (ZB.new hB) (z13.alloc _) z13.ne.symm (by kernel_rfl) (by rfl)
  exact AllReadyH.nil
set_option maxHeartbeats 1000000 in
set_option maxRecDepth 100000 in
theorem t3_3_0 (AT1 : Hid (∀ W, Below W0.heap.size W0 W → Calls Try.prog 56 #[.int .i64 A, .pointer (some ⟨L, 0, none⟩)] W fun e W' => e = .returned (.agg #[.int .i64 ia, .slice ta N N]) ∧ Below W.heap.size W W')) (AT2 : Hid (∀ W, Below W0.heap.size W0 W → Calls Try.prog 56 #[.int .i64 B, .pointer (some ⟨L, 0, none⟩)] W fun e W' => e = .returned (.agg #[.int .i64 ib, .slice tb N N]) ∧ Below W.heap.size W W')) (AT3 : Hid (∀ W, Below W0.heap.size W0 W → Calls Try.prog 56 #[.int .i64 C, .pointer (some ⟨L, 0, none⟩)] W fun e W' => e = .returned (.agg #[.int .i64 ic, .slice tc N N]) ∧ Below W.heap.size W W')) (hS : Hid (∀ W, Below W0.heap.size W0 W → S W)) (FIN : Hid (∀ (W : World) (p11 p12 p13 : Nat), Below W0.heap.size W0 W → SB W0 W p11 (.int .i64 ia) (.slice ta N N) → SB W0 W p12 (.int .i64 ib) (.slice tb N N) → SB W0 W p13 (.int .i64 ic) (.slice tc N N) → p11 ≠ p12 → p11 ≠ p13 → p12 ≠ p13 → Q .normal ⟨tmT s0 s1 s2 s3 s4 X (.func (.func 56) #[] #[.pointer (some ⟨L, 0, none⟩)]) s10 s14 s15 A B C (.pointer (some ⟨p11, 0, none⟩)) (.pointer (some ⟨p12, 0, none⟩)) (.pointer (some ⟨p13, 0, none⟩)) (.agg #[.int .i64 ia, .slice ta N N]) (.agg #[.int .i64 ib, .slice tb N N]) (.agg #[.int .i64 ic, .slice tc N N]), []⟩ W)) (hB : Below W0.heap.size W0 W)  {lst : Array Bool} (hl : lst = #[true, true, true, true, true, true, true, true, true, true, true, true, false, false, false, false, false, false]) {a : Act} (ha : a = ⟨tmT s0 s1 s2 s3 s4 X (.func (.func 56) #[] #[.pointer (some ⟨L, 0, none⟩)]) s10 s14 s15 A B C (undef) (undef) (undef) (.agg #[.int .i64 ia, .slice ta N N]) (.agg #[.int .i64 ib, .slice tb N N]) (.agg #[.int .i64 ic, .slice tc N N]), []⟩) : wpAnyH Try.prog .any told3 Q S 6 lst a W := by
  subst hl
  subst ha
  refine wpAnyH_ready (rs := [12, 13, 14]) (by kernel_rfl) (by simp) ?_
  refine AllReadyH.cons rfl (fun K hK => ?_) ?_
  · go_simp
    have hB' := hB.alloc hB.size (.cells #[.int .i64 0, .slice none 0 0] 33)
    refine hK.out _ _ (hS.out _ hB') (fun _ => ?_)
    exact t3_3_1 AT1 AT2 AT3 hS FIN hB' (ZB.new hB) (by kernel_rfl) (by rfl)
  refine AllReadyH.cons rfl (fun K hK => ?_) ?_
  · go_simp
    have hB' := hB.alloc hB.size (.cells #[.int .i64 0, .slice none 0 0] 33)
    refine hK.out _ _ (hS.out _ hB') (fun _ => ?_)
    exact t3_3_2 AT1 AT2 AT3 hS FIN hB' (ZB.new hB) (by kernel_rfl) (by rfl)
  refine AllReadyH.cons rfl (fun K hK => ?_) ?_
  · go_simp
    have hB' := hB.alloc hB.size (.cells #[.int .i64 0, .slice none 0 0] 33)
    refine hK.out _ _ (hS.out _ hB') (fun _ => ?_)
    exact t3_3_4 AT1 AT2 AT3 hS FIN hB' (ZB.new hB) (by kernel_rfl) (by rfl)
  exact AllReadyH.nil
set_option maxHeartbeats 1000000 in
set_option maxRecDepth 100000 in
theorem t3_0_3 (AT1 : Hid (∀ W, Below W0.heap.size W0 W → Calls Try.prog 56 #[.int .i64 A, .pointer (some ⟨L, 0, none⟩)] W fun e W' => e = .returned (.agg #[.int .i64 ia, .slice ta N N]) ∧ Below W.heap.size W W')) (AT2 : Hid (∀ W, Below W0.heap.size W0 W → Calls Try.prog 56 #[.int .i64 B, .pointer (some ⟨L, 0, none⟩)] W fun e W' => e = .returned (.agg #[.int .i64 ib, .slice tb N N]) ∧ Below W.heap.size W W')) (AT3 : Hid (∀ W, Below W0.heap.size W0 W → Calls Try.prog 56 #[.int .i64 C, .pointer (some ⟨L, 0, none⟩)] W fun e W' => e = .returned (.agg #[.int .i64 ic, .slice tc N N]) ∧ Below W.heap.size W W')) (hS : Hid (∀ W, Below W0.heap.size W0 W → S W)) (FIN : Hid (∀ (W : World) (p11 p12 p13 : Nat), Below W0.heap.size W0 W → SB W0 W p11 (.int .i64 ia) (.slice ta N N) → SB W0 W p12 (.int .i64 ib) (.slice tb N N) → SB W0 W p13 (.int .i64 ic) (.slice tc N N) → p11 ≠ p12 → p11 ≠ p13 → p12 ≠ p13 → Q .normal ⟨tmT s0 s1 s2 s3 s4 X (.func (.func 56) #[] #[.pointer (some ⟨L, 0, none⟩)]) s10 s14 s15 A B C (.pointer (some ⟨p11, 0, none⟩)) (.pointer (some ⟨p12, 0, none⟩)) (.pointer (some ⟨p13, 0, none⟩)) (.agg #[.int .i64 ia, .slice ta N N]) (.agg #[.int .i64 ib, .slice tb N N]) (.agg #[.int .i64 ic, .slice tc N N]), []⟩ W)) {p11 p12 : Nat} (hB : Below W0.heap.size W0 W) (z11 : ZB W0 W p11) (z12 : ZB W0 W p12) (n1112 : p11 ≠ p12) {lst : Array Bool} (hl : lst = #[true, true, true, false, true, true, true, false, true, true, true, false, true, true, false, false, false, false]) {a : Act} (ha : a = ⟨tmT s0 s1 s2 s3 s4 X (.func (.func 56) #[] #[.pointer (some ⟨L, 0, none⟩)]) s10 s14 s15 A B C (.pointer (some ⟨p11, 0, none⟩)) (.pointer (some ⟨p12, 0, none⟩)) (undef) (undef) (undef) (undef), []⟩) : wpAnyH Try.prog .any told3 Q S 7 lst a W := by
  subst hl
  subst ha
  refine wpAnyH_ready (rs := [3, 14]) (by kernel_rfl) (by simp) ?_
  refine AllReadyH.cons rfl (fun K hK => ?_) ?_
  · go_simp
    refine (AT1.out _ hB).mono ?_
    rintro e wz ⟨rfl, hbz⟩
    try go_wp2_with fail
    have hB' := hB.trans (hbz.mono hB.size)
    refine hK.out _ _ (hS.out _ hB') (fun _ => ?_)
    exact t3_1_3 AT1 AT2 AT3 hS FIN hB' (z11.below hbz) (z12.below hbz) n1112 (by kernel_rfl) (by rfl)
  refine AllReadyH.cons rfl (fun K hK => ?_) ?_
  · go_simp
    have hB' := hB.alloc hB.size (.cells #[.int .i64 0, .slice none 0 0] 33)
    refine hK.out _ _ (hS.out _ hB') (fun _ => ?_)
    exact t3_0_7 AT1 AT2 AT3 hS FIN hB' (z11.alloc _) (z12.alloc _) (ZB.new hB) n1112 z11.ne z12.ne (by kernel_rfl) (by rfl)
  exact AllReadyH.nil
set_option maxHeartbeats 1000000 in
set_option maxRecDepth 100000 in
theorem t3_0_5 (AT1 : Hid (∀ W, Below W0.heap.size W0 W → Calls Try.prog 56 #[.int .i64 A, .pointer (some ⟨L, 0, none⟩)] W fun e W' => e = .returned (.agg #[.int .i64 ia, .slice ta N N]) ∧ Below W.heap.size W W')) (AT2 : Hid (∀ W, Below W0.heap.size W0 W → Calls Try.prog 56 #[.int .i64 B, .pointer (some ⟨L, 0, none⟩)] W fun e W' => e = .returned (.agg #[.int .i64 ib, .slice tb N N]) ∧ Below W.heap.size W W')) (AT3 : Hid (∀ W, Below W0.heap.size W0 W → Calls Try.prog 56 #[.int .i64 C, .pointer (some ⟨L, 0, none⟩)] W fun e W' => e = .returned (.agg #[.int .i64 ic, .slice tc N N]) ∧ Below W.heap.size W W')) (hS : Hid (∀ W, Below W0.heap.size W0 W → S W)) (FIN : Hid (∀ (W : World) (p11 p12 p13 : Nat), Below W0.heap.size W0 W → SB W0 W p11 (.int .i64 ia) (.slice ta N N) → SB W0 W p12 (.int .i64 ib) (.slice tb N N) → SB W0 W p13 (.int .i64 ic) (.slice tc N N) → p11 ≠ p12 → p11 ≠ p13 → p12 ≠ p13 → Q .normal ⟨tmT s0 s1 s2 s3 s4 X (.func (.func 56) #[] #[.pointer (some ⟨L, 0, none⟩)]) s10 s14 s15 A B C (.pointer (some ⟨p11, 0, none⟩)) (.pointer (some ⟨p12, 0, none⟩)) (.pointer (some ⟨p13, 0, none⟩)) (.agg #[.int .i64 ia, .slice ta N N]) (.agg #[.int .i64 ib, .slice tb N N]) (.agg #[.int .i64 ic, .slice tc N N]), []⟩ W)) {p11 p13 : Nat} (hB : Below W0.heap.size W0 W) (z11 : ZB W0 W p11) (z13 : ZB W0 W p13) (n1113 : p11 ≠ p13) {lst : Array Bool} (hl : lst = #[true, true, true, false, true, true, true, false, true, true, true, false, true, false, true, false, false, false]) {a : Act} (ha : a = ⟨tmT s0 s1 s2 s3 s4 X (.func (.func 56) #[] #[.pointer (some ⟨L, 0, none⟩)]) s10 s14 s15 A B C (.pointer (some ⟨p11, 0, none⟩)) (undef) (.pointer (some ⟨p13, 0, none⟩)) (undef) (undef) (undef), []⟩) : wpAnyH Try.prog .any told3 Q S 7 lst a W := by
  subst hl
  subst ha
  refine wpAnyH_ready (rs := [3, 13]) (by kernel_rfl) (by simp) ?_
  refine AllReadyH.cons rfl (fun K hK => ?_) ?_
  · go_simp
    refine (AT1.out _ hB).mono ?_
    rintro e wz ⟨rfl, hbz⟩
    try go_wp2_with fail
    have hB' := hB.trans (hbz.mono hB.size)
    refine hK.out _ _ (hS.out _ hB') (fun _ => ?_)
    exact t3_1_5 AT1 AT2 AT3 hS FIN hB' (z11.below hbz) (z13.below hbz) n1113 (by kernel_rfl) (by rfl)
  refine AllReadyH.cons rfl (fun K hK => ?_) ?_
  · go_simp
    have hB' := hB.alloc hB.size (.cells #[.int .i64 0, .slice none 0 0] 33)
    refine hK.out _ _ (hS.out _ hB') (fun _ => ?_)
    exact t3_0_7 AT1 AT2 AT3 hS FIN hB' (z11.alloc _) (ZB.new hB) (z13.alloc _) z11.ne n1113 z13.ne.symm (by kernel_rfl) (by rfl)
  exact AllReadyH.nil
set_option maxHeartbeats 1000000 in
set_option maxRecDepth 100000 in
theorem t3_0_6 (AT1 : Hid (∀ W, Below W0.heap.size W0 W → Calls Try.prog 56 #[.int .i64 A, .pointer (some ⟨L, 0, none⟩)] W fun e W' => e = .returned (.agg #[.int .i64 ia, .slice ta N N]) ∧ Below W.heap.size W W')) (AT2 : Hid (∀ W, Below W0.heap.size W0 W → Calls Try.prog 56 #[.int .i64 B, .pointer (some ⟨L, 0, none⟩)] W fun e W' => e = .returned (.agg #[.int .i64 ib, .slice tb N N]) ∧ Below W.heap.size W W')) (AT3 : Hid (∀ W, Below W0.heap.size W0 W → Calls Try.prog 56 #[.int .i64 C, .pointer (some ⟨L, 0, none⟩)] W fun e W' => e = .returned (.agg #[.int .i64 ic, .slice tc N N]) ∧ Below W.heap.size W W')) (hS : Hid (∀ W, Below W0.heap.size W0 W → S W)) (FIN : Hid (∀ (W : World) (p11 p12 p13 : Nat), Below W0.heap.size W0 W → SB W0 W p11 (.int .i64 ia) (.slice ta N N) → SB W0 W p12 (.int .i64 ib) (.slice tb N N) → SB W0 W p13 (.int .i64 ic) (.slice tc N N) → p11 ≠ p12 → p11 ≠ p13 → p12 ≠ p13 → Q .normal ⟨tmT s0 s1 s2 s3 s4 X (.func (.func 56) #[] #[.pointer (some ⟨L, 0, none⟩)]) s10 s14 s15 A B C (.pointer (some ⟨p11, 0, none⟩)) (.pointer (some ⟨p12, 0, none⟩)) (.pointer (some ⟨p13, 0, none⟩)) (.agg #[.int .i64 ia, .slice ta N N]) (.agg #[.int .i64 ib, .slice tb N N]) (.agg #[.int .i64 ic, .slice tc N N]), []⟩ W)) {p12 p13 : Nat} (hB : Below W0.heap.size W0 W) (z12 : ZB W0 W p12) (z13 : ZB W0 W p13) (n1213 : p12 ≠ p13) {lst : Array Bool} (hl : lst = #[true, true, true, false, true, true, true, false, true, true, true, false, false, true, true, false, false, false]) {a : Act} (ha : a = ⟨tmT s0 s1 s2 s3 s4 X (.func (.func 56) #[] #[.pointer (some ⟨L, 0, none⟩)]) s10 s14 s15 A B C (undef) (.pointer (some ⟨p12, 0, none⟩)) (.pointer (some ⟨p13, 0, none⟩)) (undef) (undef) (undef), []⟩) : wpAnyH Try.prog .any told3 Q S 7 lst a W := by
  subst hl
  subst ha
  refine wpAnyH_ready (rs := [3, 12]) (by kernel_rfl) (by simp) ?_
  refine AllReadyH.cons rfl (fun K hK => ?_) ?_
  · go_simp
    refine (AT1.out _ hB).mono ?_
    rintro e wz ⟨rfl, hbz⟩
    try go_wp2_with fail
    have hB' := hB.trans (hbz.mono hB.size)
    refine hK.out _ _ (hS.out _ hB') (fun _ => ?_)
    exact t3_1_6 AT1 AT2 AT3 hS FIN hB' (z12.below hbz) (z13.below hbz) n1213 (by kernel_rfl) (by rfl)
  refine AllReadyH.cons rfl (fun K hK => ?_) ?_
  · go_simp
    have hB' := hB.alloc hB.size (.cells #[.int .i64 0, .slice none 0 0] 33)
    refine hK.out _ _ (hS.out _ hB') (fun _ => ?_)
    exact t3_0_7 AT1 AT2 AT3 hS FIN hB' (ZB.new hB) (z12.alloc _) (z13.alloc _) z12.ne.symm z13.ne.symm n1213 (by kernel_rfl) (by rfl)
  exact AllReadyH.nil
set_option maxHeartbeats 1000000 in
set_option maxRecDepth 100000 in
theorem t3_1_1 (AT1 : Hid (∀ W, Below W0.heap.size W0 W → Calls Try.prog 56 #[.int .i64 A, .pointer (some ⟨L, 0, none⟩)] W fun e W' => e = .returned (.agg #[.int .i64 ia, .slice ta N N]) ∧ Below W.heap.size W W')) (AT2 : Hid (∀ W, Below W0.heap.size W0 W → Calls Try.prog 56 #[.int .i64 B, .pointer (some ⟨L, 0, none⟩)] W fun e W' => e = .returned (.agg #[.int .i64 ib, .slice tb N N]) ∧ Below W.heap.size W W')) (AT3 : Hid (∀ W, Below W0.heap.size W0 W → Calls Try.prog 56 #[.int .i64 C, .pointer (some ⟨L, 0, none⟩)] W fun e W' => e = .returned (.agg #[.int .i64 ic, .slice tc N N]) ∧ Below W.heap.size W W')) (hS : Hid (∀ W, Below W0.heap.size W0 W → S W)) (FIN : Hid (∀ (W : World) (p11 p12 p13 : Nat), Below W0.heap.size W0 W → SB W0 W p11 (.int .i64 ia) (.slice ta N N) → SB W0 W p12 (.int .i64 ib) (.slice tb N N) → SB W0 W p13 (.int .i64 ic) (.slice tc N N) → p11 ≠ p12 → p11 ≠ p13 → p12 ≠ p13 → Q .normal ⟨tmT s0 s1 s2 s3 s4 X (.func (.func 56) #[] #[.pointer (some ⟨L, 0, none⟩)]) s10 s14 s15 A B C (.pointer (some ⟨p11, 0, none⟩)) (.pointer (some ⟨p12, 0, none⟩)) (.pointer (some ⟨p13, 0, none⟩)) (.agg #[.int .i64 ia, .slice ta N N]) (.agg #[.int .i64 ib, .slice tb N N]) (.agg #[.int .i64 ic, .slice tc N N]), []⟩ W)) {p11 : Nat} (hB : Below W0.heap.size W0 W) (z11 : ZB W0 W p11) {lst : Array Bool} (hl : lst = #[true, true, true, true, true, true, true, false, true, true, true, false, true, false, false, false, false, false]) {a : Act} (ha : a = ⟨tmT s0 s1 s2 s3 s4 X (.func (.func 56) #[] #[.pointer (some ⟨L, 0, none⟩)]) s10 s14 s15 A B C (.pointer (some ⟨p11, 0, none⟩)) (undef) (undef) (.agg #[.int .i64 ia, .slice ta N N]) (undef) (undef), []⟩) : wpAnyH Try.prog .any told3 Q S 7 lst a W := by
  subst hl
  subst ha
  refine wpAnyH_ready (rs := [7, 13, 14]) (by kernel_rfl) (by simp) ?_
  refine AllReadyH.cons rfl (fun K hK => ?_) ?_
  · go_simp
    refine (AT2.out _ hB).mono ?_
    rintro e wz ⟨rfl, hbz⟩
    try go_wp2_with fail
    have hB' := hB.trans (hbz.mono hB.size)
    refine hK.out _ _ (hS.out _ hB') (fun _ => ?_)
    exact t3_2_1 AT1 AT2 AT3 hS FIN hB' (z11.below hbz)  (by kernel_rfl) (by rfl)
  refine AllReadyH.cons rfl (fun K hK => ?_) ?_
  · go_simp
    have hB' := hB.alloc hB.size (.cells #[.int .i64 0, .slice none 0 0] 33)
    refine hK.out _ _ (hS.out _ hB') (fun _ => ?_)
    exact t3_1_3 AT1 AT2 AT3 hS FIN hB' (z11.alloc _) (ZB.new hB) z11.ne (by kernel_rfl) (by rfl)
  refine AllReadyH.cons rfl (fun K hK => ?_) ?_
  · go_simp
    have hB' := hB.alloc hB.size (.cells #[.int .i64 0, .slice none 0 0] 33)
    refine hK.out _ _ (hS.out _ hB') (fun _ => ?_)
    exact t3_1_5 AT1 AT2 AT3 hS FIN hB' (z11.alloc _) (ZB.new hB) z11.ne (by kernel_rfl) (by rfl)
  exact AllReadyH.nil
set_option maxHeartbeats 1000000 in
set_option maxRecDepth 100000 in
theorem t3_1_2 (AT1 : Hid (∀ W, Below W0.heap.size W0 W → Calls Try.prog 56 #[.int .i64 A, .pointer (some ⟨L, 0, none⟩)] W fun e W' => e = .returned (.agg #[.int .i64 ia, .slice ta N N]) ∧ Below W.heap.size W W')) (AT2 : Hid (∀ W, Below W0.heap.size W0 W → Calls Try.prog 56 #[.int .i64 B, .pointer (some ⟨L, 0, none⟩)] W fun e W' => e = .returned (.agg #[.int .i64 ib, .slice tb N N]) ∧ Below W.heap.size W W')) (AT3 : Hid (∀ W, Below W0.heap.size W0 W → Calls Try.prog 56 #[.int .i64 C, .pointer (some ⟨L, 0, none⟩)] W fun e W' => e = .returned (.agg #[.int .i64 ic, .slice tc N N]) ∧ Below W.heap.size W W')) (hS : Hid (∀ W, Below W0.heap.size W0 W → S W)) (FIN : Hid (∀ (W : World) (p11 p12 p13 : Nat), Below W0.heap.size W0 W → SB W0 W p11 (.int .i64 ia) (.slice ta N N) → SB W0 W p12 (.int .i64 ib) (.slice tb N N) → SB W0 W p13 (.int .i64 ic) (.slice tc N N) → p11 ≠ p12 → p11 ≠ p13 → p12 ≠ p13 → Q .normal ⟨tmT s0 s1 s2 s3 s4 X (.func (.func 56) #[] #[.pointer (some ⟨L, 0, none⟩)]) s10 s14 s15 A B C (.pointer (some ⟨p11, 0, none⟩)) (.pointer (some ⟨p12, 0, none⟩)) (.pointer (some ⟨p13, 0, none⟩)) (.agg #[.int .i64 ia, .slice ta N N]) (.agg #[.int .i64 ib, .slice tb N N]) (.agg #[.int .i64 ic, .slice tc N N]), []⟩ W)) {p12 : Nat} (hB : Below W0.heap.size W0 W) (z12 : ZB W0 W p12) {lst : Array Bool} (hl : lst = #[true, true, true, true, true, true, true, false, true, true, true, false, false, true, false, false, false, false]) {a : Act} (ha : a = ⟨tmT s0 s1 s2 s3 s4 X (.func (.func 56) #[] #[.pointer (some ⟨L, 0, none⟩)]) s10 s14 s15 A B C (undef) (.pointer (some ⟨p12, 0, none⟩)) (undef) (.agg #[.int .i64 ia, .slice ta N N]) (undef) (undef), []⟩) : wpAnyH Try.prog .any told3 Q S 7 lst a W := by
  subst hl
  subst ha
  refine wpAnyH_ready (rs := [7, 12, 14]) (by kernel_rfl) (by simp) ?_
  refine AllReadyH.cons rfl (fun K hK => ?_) ?_
  · go_simp
    refine (AT2.out _ hB).mono ?_
    rintro e wz ⟨rfl, hbz⟩
    try go_wp2_with fail
    have hB' := hB.trans (hbz.mono hB.size)
    refine hK.out _ _ (hS.out _ hB') (fun _ => ?_)
    exact t3_2_2 AT1 AT2 AT3 hS FIN hB' (z12.below hbz)  (by kernel_rfl) (by rfl)
  refine AllReadyH.cons rfl (fun K hK => ?_) ?_
  · go_simp
    have hB' := hB.alloc hB.size (.cells #[.int .i64 0, .slice none 0 0] 33)
    refine hK.out _ _ (hS.out _ hB') (fun _ => ?_)
    exact t3_1_3 AT1 AT2 AT3 hS FIN hB' (ZB.new hB) (z12.alloc _) z12.ne.symm (by kernel_rfl) (by rfl)
  refine AllReadyH.cons rfl (fun K hK => ?_) ?_
  · go_simp
    have hB' := hB.alloc hB.size (.cells #[.int .i64 0, .slice none 0 0] 33)
    refine hK.out _ _ (hS.out _ hB') (fun _ => ?_)
    exact t3_1_6 AT1 AT2 AT3 hS FIN hB' (z12.alloc _) (ZB.new hB) z12.ne (by kernel_rfl) (by rfl)
  exact AllReadyH.nil
set_option maxHeartbeats 1000000 in
set_option maxRecDepth 100000 in
theorem t3_1_4 (AT1 : Hid (∀ W, Below W0.heap.size W0 W → Calls Try.prog 56 #[.int .i64 A, .pointer (some ⟨L, 0, none⟩)] W fun e W' => e = .returned (.agg #[.int .i64 ia, .slice ta N N]) ∧ Below W.heap.size W W')) (AT2 : Hid (∀ W, Below W0.heap.size W0 W → Calls Try.prog 56 #[.int .i64 B, .pointer (some ⟨L, 0, none⟩)] W fun e W' => e = .returned (.agg #[.int .i64 ib, .slice tb N N]) ∧ Below W.heap.size W W')) (AT3 : Hid (∀ W, Below W0.heap.size W0 W → Calls Try.prog 56 #[.int .i64 C, .pointer (some ⟨L, 0, none⟩)] W fun e W' => e = .returned (.agg #[.int .i64 ic, .slice tc N N]) ∧ Below W.heap.size W W')) (hS : Hid (∀ W, Below W0.heap.size W0 W → S W)) (FIN : Hid (∀ (W : World) (p11 p12 p13 : Nat), Below W0.heap.size W0 W → SB W0 W p11 (.int .i64 ia) (.slice ta N N) → SB W0 W p12 (.int .i64 ib) (.slice tb N N) → SB W0 W p13 (.int .i64 ic) (.slice tc N N) → p11 ≠ p12 → p11 ≠ p13 → p12 ≠ p13 → Q .normal ⟨tmT s0 s1 s2 s3 s4 X (.func (.func 56) #[] #[.pointer (some ⟨L, 0, none⟩)]) s10 s14 s15 A B C (.pointer (some ⟨p11, 0, none⟩)) (.pointer (some ⟨p12, 0, none⟩)) (.pointer (some ⟨p13, 0, none⟩)) (.agg #[.int .i64 ia, .slice ta N N]) (.agg #[.int .i64 ib, .slice tb N N]) (.agg #[.int .i64 ic, .slice tc N N]), []⟩ W)) {p13 : Nat} (hB : Below W0.heap.size W0 W) (z13 : ZB W0 W p13) {lst : Array Bool} (hl : lst = #[true, true, true, true, true, true, true, false, true, true, true, false, false, false, true, false, false, false]) {a : Act} (ha : a = ⟨tmT s0 s1 s2 s3 s4 X (.func (.func 56) #[] #[.pointer (some ⟨L, 0, none⟩)]) s10 s14 s15 A B C (undef) (undef) (.pointer (some ⟨p13, 0, none⟩)) (.agg #[.int .i64 ia, .slice ta N N]) (undef) (undef), []⟩) : wpAnyH Try.prog .any told3 Q S 7 lst a W := by
  subst hl
  subst ha
  refine wpAnyH_ready (rs := [7, 12, 13]) (by kernel_rfl) (by simp) ?_
  refine AllReadyH.cons rfl (fun K hK => ?_) ?_
  · go_simp
    refine (AT2.out _ hB).mono ?_
    rintro e wz ⟨rfl, hbz⟩
    try go_wp2_with fail
    have hB' := hB.trans (hbz.mono hB.size)
    refine hK.out _ _ (hS.out _ hB') (fun _ => ?_)
    exact t3_2_4 AT1 AT2 AT3 hS FIN hB' (z13.below hbz)  (by kernel_rfl) (by rfl)
  refine AllReadyH.cons rfl (fun K hK => ?_) ?_
  · go_simp
    have hB' := hB.alloc hB.size (.cells #[.int .i64 0, .slice none 0 0] 33)
    refine hK.out _ _ (hS.out _ hB') (fun _ => ?_)
    exact t3_1_5 AT1 AT2 AT3 hS FIN hB' (ZB.new hB) (z13.alloc _) z13.ne.symm (by kernel_rfl) (by rfl)
  refine AllReadyH.cons rfl (fun K hK => ?_) ?_
  · go_simp
    have hB' := hB.alloc hB.size (.cells #[.int .i64 0, .slice none 0 0] 33)
    refine hK.out _ _ (hS.out _ hB') (fun _ => ?_)
    exact t3_1_6 AT1 AT2 AT3 hS FIN hB' (ZB.new hB) (z13.alloc _) z13.ne.symm (by kernel_rfl) (by rfl)
  exact AllReadyH.nil
set_option maxHeartbeats 1000000 in
set_option maxRecDepth 100000 in
theorem t3_2_0 (AT1 : Hid (∀ W, Below W0.heap.size W0 W → Calls Try.prog 56 #[.int .i64 A, .pointer (some ⟨L, 0, none⟩)] W fun e W' => e = .returned (.agg #[.int .i64 ia, .slice ta N N]) ∧ Below W.heap.size W W')) (AT2 : Hid (∀ W, Below W0.heap.size W0 W → Calls Try.prog 56 #[.int .i64 B, .pointer (some ⟨L, 0, none⟩)] W fun e W' => e = .returned (.agg #[.int .i64 ib, .slice tb N N]) ∧ Below W.heap.size W W')) (AT3 : Hid (∀ W, Below W0.heap.size W0 W → Calls Try.prog 56 #[.int .i64 C, .pointer (some ⟨L, 0, none⟩)] W fun e W' => e = .returned (.agg #[.int .i64 ic, .slice tc N N]) ∧ Below W.heap.size W W')) (hS : Hid (∀ W, Below W0.heap.size W0 W → S W)) (FIN : Hid (∀ (W : World) (p11 p12 p13 : Nat), Below W0.heap.size W0 W → SB W0 W p11 (.int .i64 ia) (.slice ta N N) → SB W0 W p12 (.int .i64 ib) (.slice tb N N) → SB W0 W p13 (.int .i64 ic) (.slice tc N N) → p11 ≠ p12 → p11 ≠ p13 → p12 ≠ p13 → Q .normal ⟨tmT s0 s1 s2 s3 s4 X (.func (.func 56) #[] #[.pointer (some ⟨L, 0, none⟩)]) s10 s14 s15 A B C (.pointer (some ⟨p11, 0, none⟩)) (.pointer (some ⟨p12, 0, none⟩)) (.pointer (some ⟨p13, 0, none⟩)) (.agg #[.int .i64 ia, .slice ta N N]) (.agg #[.int .i64 ib, .slice tb N N]) (.agg #[.int .i64 ic, .slice tc N N]), []⟩ W)) (hB : Below W0.heap.size W0 W)  {lst : Array Bool} (hl : lst = #[true, true, true, true, true, true, true, true, true, true, true, false, false, false, false, false, false, false]) {a : Act} (ha : a = ⟨tmT s0 s1 s2 s3 s4 X (.func (.func 56) #[] #[.pointer (some ⟨L, 0, none⟩)]) s10 s14 s15 A B C (undef) (undef) (undef) (.agg #[.int .i64 ia, .slice ta N N]) (.agg #[.int .i64 ib, .slice tb N N]) (undef), []⟩) : wpAnyH Try.prog .any told3 Q S 7 lst a W := by
  subst hl
  subst ha
  refine wpAnyH_ready (rs := [11, 12, 13, 14]) (by kernel_rfl) (by simp) ?_
  refine AllReadyH.cons rfl (fun K hK => ?_) ?_
  · go_simp
    refine (AT3.out _ hB).mono ?_
    rintro e wz ⟨rfl, hbz⟩
    try go_wp2_with fail
    have hB' := hB.trans (hbz.mono hB.size)
    refine hK.out _ _ (hS.out _ hB') (fun _ => ?_)
    exact t3_3_0 AT1 AT2 AT3 hS FIN hB'   (by kernel_rfl) (by rfl)
  refine AllReadyH.cons rfl (fun K hK => ?_) ?_
  · go_simp
    have hB' := hB.alloc hB.size (.cells #[.int .i64 0, .slice none 0 0] 33)
    refine hK.out _ _ (hS.out _ hB') (fun _ => ?_)
    exact t3_2_1 AT1 AT2 AT3 hS FIN hB' (ZB.new hB) (by kernel_rfl) (by rfl)
  refine AllReadyH.cons rfl (fun K hK => ?_) ?_
  · go_simp
    have hB' := hB.alloc hB.size (.cells #[.int .i64 0, .slice none 0 0] 33)
    refine hK.out _ _ (hS.out _ hB') (fun _ => ?_)
    exact t3_2_2 AT1 AT2 AT3 hS FIN hB' (ZB.new hB) (by kernel_rfl) (by rfl)
  refine AllReadyH.cons rfl (fun K hK => ?_) ?_
  · go_simp
    have hB' := hB.alloc hB.size (.cells #[.int .i64 0, .slice none 0 0] 33)
    refine hK.out _ _ (hS.out _ hB') (fun _ => ?_)
    exact t3_2_4 AT1 AT2 AT3 hS FIN hB' (ZB.new hB) (by kernel_rfl) (by rfl)
  exact AllReadyH.nil
set_option maxHeartbeats 1000000 in
set_option maxRecDepth 100000 in
theorem t3_0_1 (AT1 : Hid (∀ W, Below W0.heap.size W0 W → Calls Try.prog 56 #[.int .i64 A, .pointer (some ⟨L, 0, none⟩)] W fun e W' => e = .returned (.agg #[.int .i64 ia, .slice ta N N]) ∧ Below W.heap.size W W')) (AT2 : Hid (∀ W, Below W0.heap.size W0 W → Calls Try.prog 56 #[.int .i64 B, .pointer (some ⟨L, 0, none⟩)] W fun e W' => e = .returned (.agg #[.int .i64 ib, .slice tb N N]) ∧ Below W.heap.size W W')) (AT3 : Hid (∀ W, Below W0.heap.size W0 W → Calls Try.prog 56 #[.int .i64 C, .pointer (some ⟨L, 0, none⟩)] W fun e W' => e = .returned (.agg #[.int .i64 ic, .slice tc N N]) ∧ Below W.heap.size W W')) (hS : Hid (∀ W, Below W0.heap.size W0 W → S W)) (FIN : Hid (∀ (W : World) (p11 p12 p13 : Nat), Below W0.heap.size W0 W → SB W0 W p11 (.int .i64 ia) (.slice ta N N) → SB W0 W p12 (.int .i64 ib) (.slice tb N N) → SB W0 W p13 (.int .i64 ic) (.slice tc N N) → p11 ≠ p12 → p11 ≠ p13 → p12 ≠ p13 → Q .normal ⟨tmT s0 s1 s2 s3 s4 X (.func (.func 56) #[] #[.pointer (some ⟨L, 0, none⟩)]) s10 s14 s15 A B C (.pointer (some ⟨p11, 0, none⟩)) (.pointer (some ⟨p12, 0, none⟩)) (.pointer (some ⟨p13, 0, none⟩)) (.agg #[.int .i64 ia, .slice ta N N]) (.agg #[.int .i64 ib, .slice tb N N]) (.agg #[.int .i64 ic, .slice tc N N]), []⟩ W)) {p11 : Nat} (hB : Below W0.heap.size W0 W) (z11 : ZB W0 W p11) {lst : Array Bool} (hl : lst = #[true, true, true, false, true, true, true, false, true, true, true, false, true, false, false, false, false, false]) {a : Act} (ha : a = ⟨tmT s0 s1 s2 s3 s4 X (.func (.func 56) #[] #[.pointer (some ⟨L, 0, none⟩)]) s10 s14 s15 A B C (.pointer (some ⟨p11, 0, none⟩)) (undef) (undef) (undef) (undef) (undef), []⟩) : wpAnyH Try.prog .any told3 Q S 8 lst a W := by
  subst hl
  subst ha
  refine wpAnyH_ready (rs := [3, 13, 14]) (by kernel_rfl) (by simp) ?_
  refine AllReadyH.cons rfl (fun K hK => ?_) ?_
  · go_simp
    refine (AT1.out _ hB).mono ?_
    rintro e wz ⟨rfl, hbz⟩
    try go_wp2_with fail
    have hB' := hB.trans (hbz.mono hB.size)
    refine hK.out _ _ (hS.out _ hB') (fun _ => ?_)
    exact t3_1_1 AT1 AT2 AT3 hS FIN hB' (z11.below hbz)  (by kernel_rfl) (by rfl)
  refine AllReadyH.cons rfl (fun K hK => ?_) ?_
  · go_simp
    have hB' := hB.alloc hB.size (.cells #[.int .i64 0, .slice none 0 0] 33)
    refine hK.out _ _ (hS.out _ hB') (fun _ => ?_)
    exact t3_0_3 AT1 AT2 AT3 hS FIN hB' (z11.alloc _) (ZB.new hB) z11.ne (by kernel_rfl) (by rfl)
  refine AllReadyH.cons rfl (fun K hK => ?_) ?_
  · go_simp
    have hB' := hB.alloc hB.size (.cells #[.int .i64 0, .slice none 0 0] 33)
    refine hK.out _ _ (hS.out _ hB') (fun _ => ?_)
    exact t3_0_5 AT1 AT2 AT3 hS FIN hB' (z11.alloc _) (ZB.new hB) z11.ne (by kernel_rfl) (by rfl)
  exact AllReadyH.nil
set_option maxHeartbeats 1000000 in
set_option maxRecDepth 100000 in
theorem t3_0_2 (AT1 : Hid (∀ W, Below W0.heap.size W0 W → Calls Try.prog 56 #[.int .i64 A, .pointer (some ⟨L, 0, none⟩)] W fun e W' => e = .returned (.agg #[.int .i64 ia, .slice ta N N]) ∧ Below W.heap.size W W')) (AT2 : Hid (∀ W, Below W0.heap.size W0 W → Calls Try.prog 56 #[.int .i64 B, .pointer (some ⟨L, 0, none⟩)] W fun e W' => e = .returned (.agg #[.int .i64 ib, .slice tb N N]) ∧ Below W.heap.size W W')) (AT3 : Hid (∀ W, Below W0.heap.size W0 W → Calls Try.prog 56 #[.int .i64 C, .pointer (some ⟨L, 0, none⟩)] W fun e W' => e = .returned (.agg #[.int .i64 ic, .slice tc N N]) ∧ Below W.heap.size W W')) (hS : Hid (∀ W, Below W0.heap.size W0 W → S W)) (FIN : Hid (∀ (W : World) (p11 p12 p13 : Nat), Below W0.heap.size W0 W → SB W0 W p11 (.int .i64 ia) (.slice ta N N) → SB W0 W p12 (.int .i64 ib) (.slice tb N N) → SB W0 W p13 (.int .i64 ic) (.slice tc N N) → p11 ≠ p12 → p11 ≠ p13 → p12 ≠ p13 → Q .normal ⟨tmT s0 s1 s2 s3 s4 X (.func (.func 56) #[] #[.pointer (some ⟨L, 0, none⟩)]) s10 s14 s15 A B C (.pointer (some ⟨p11, 0, none⟩)) (.pointer (some ⟨p12, 0, none⟩)) (.pointer (some ⟨p13, 0, none⟩)) (.agg #[.int .i64 ia, .slice ta N N]) (.agg #[.int .i64 ib, .slice tb N N]) (.agg #[.int .i64 ic, .slice tc N N]), []⟩ W)) {p12 : Nat} (hB : Below W0.heap.size W0 W) (z12 : ZB W0 W p12) {lst : Array Bool} (hl : lst = #[true, true, true, false, true, true, true, false, true, true, true, false, false, true, false, false, false, false]) {a : Act} (ha : a = ⟨tmT s0 s1 s2 s3 s4 X (.func (.func 56) #[] #[.pointer (some ⟨L, 0, none⟩)]) s10 s14 s15 A B C (undef) (.pointer (some ⟨p12, 0, none⟩)) (undef) (undef) (undef) (undef), []⟩) : wpAnyH Try.prog .any told3 Q S 8 lst a W := by
  subst hl
  subst ha
  refine wpAnyH_ready (rs := [3, 12, 14]) (by kernel_rfl) (by simp) ?_
  refine AllReadyH.cons rfl (fun K hK => ?_) ?_
  · go_simp
    refine (AT1.out _ hB).mono ?_
    rintro e wz ⟨rfl, hbz⟩
    try go_wp2_with fail
    have hB' := hB.trans (hbz.mono hB.size)
    refine hK.out _ _ (hS.out _ hB') (fun _ => ?_)
    exact t3_1_2 AT1 AT2 AT3 hS FIN hB' (z12.below hbz)  (by kernel_rfl) (by rfl)
  refine AllReadyH.cons rfl (fun K hK => ?_) ?_
  · go_simp
    have hB' := hB.alloc hB.size (.cells #[.int .i64 0, .slice none 0 0] 33)
    refine hK.out _ _ (hS.out _ hB') (fun _ => ?_)
    exact t3_0_3 AT1 AT2 AT3 hS FIN hB' (ZB.new hB) (z12.alloc _) z12.ne.symm (by kernel_rfl) (by rfl)
  refine AllReadyH.cons rfl (fun K hK => ?_) ?_
  · go_simp
    have hB' := hB.alloc hB.size (.cells #[.int .i64 0, .slice none 0 0] 33)
    refine hK.out _ _ (hS.out _ hB') (fun _ => ?_)
    exact t3_0_6 AT1 AT2 AT3 hS FIN hB' (z12.alloc _) (ZB.new hB) z12.ne (by kernel_rfl) (by rfl)
  exact AllReadyH.nil
set_option maxHeartbeats 1000000 in
set_option maxRecDepth 100000 in
theorem t3_0_4 (AT1 : Hid (∀ W, Below W0.heap.size W0 W → Calls Try.prog 56 #[.int .i64 A, .pointer (some ⟨L, 0, none⟩)] W fun e W' => e = .returned (.agg #[.int .i64 ia, .slice ta N N]) ∧ Below W.heap.size W W')) (AT2 : Hid (∀ W, Below W0.heap.size W0 W → Calls Try.prog 56 #[.int .i64 B, .pointer (some ⟨L, 0, none⟩)] W fun e W' => e = .returned (.agg #[.int .i64 ib, .slice tb N N]) ∧ Below W.heap.size W W')) (AT3 : Hid (∀ W, Below W0.heap.size W0 W → Calls Try.prog 56 #[.int .i64 C, .pointer (some ⟨L, 0, none⟩)] W fun e W' => e = .returned (.agg #[.int .i64 ic, .slice tc N N]) ∧ Below W.heap.size W W')) (hS : Hid (∀ W, Below W0.heap.size W0 W → S W)) (FIN : Hid (∀ (W : World) (p11 p12 p13 : Nat), Below W0.heap.size W0 W → SB W0 W p11 (.int .i64 ia) (.slice ta N N) → SB W0 W p12 (.int .i64 ib) (.slice tb N N) → SB W0 W p13 (.int .i64 ic) (.slice tc N N) → p11 ≠ p12 → p11 ≠ p13 → p12 ≠ p13 → Q .normal ⟨tmT s0 s1 s2 s3 s4 X (.func (.func 56) #[] #[.pointer (some ⟨L, 0, none⟩)]) s10 s14 s15 A B C (.pointer (some ⟨p11, 0, none⟩)) (.pointer (some ⟨p12, 0, none⟩)) (.pointer (some ⟨p13, 0, none⟩)) (.agg #[.int .i64 ia, .slice ta N N]) (.agg #[.int .i64 ib, .slice tb N N]) (.agg #[.int .i64 ic, .slice tc N N]), []⟩ W)) {p13 : Nat} (hB : Below W0.heap.size W0 W) (z13 : ZB W0 W p13) {lst : Array Bool} (hl : lst = #[true, true, true, false, true, true, true, false, true, true, true, false, false, false, true, false, false, false]) {a : Act} (ha : a = ⟨tmT s0 s1 s2 s3 s4 X (.func (.func 56) #[] #[.pointer (some ⟨L, 0, none⟩)]) s10 s14 s15 A B C (undef) (undef) (.pointer (some ⟨p13, 0, none⟩)) (undef) (undef) (undef), []⟩) : wpAnyH Try.prog .any told3 Q S 8 lst a W := by
  subst hl
  subst ha
  refine wpAnyH_ready (rs := [3, 12, 13]) (by kernel_rfl) (by simp) ?_
  refine AllReadyH.cons rfl (fun K hK => ?_) ?_
  · go_simp
    refine (AT1.out _ hB).mono ?_
    rintro e wz ⟨rfl, hbz⟩
    try go_wp2_with fail
    have hB' := hB.trans (hbz.mono hB.size)
    refine hK.out _ _ (hS.out _ hB') (fun _ => ?_)
    exact t3_1_4 AT1 AT2 AT3 hS FIN hB' (z13.below hbz)  (by kernel_rfl) (by rfl)
  refine AllReadyH.cons rfl (fun K hK => ?_) ?_
  · go_simp
    have hB' := hB.alloc hB.size (.cells #[.int .i64 0, .slice none 0 0] 33)
    refine hK.out _ _ (hS.out _ hB') (fun _ => ?_)
    exact t3_0_5 AT1 AT2 AT3 hS FIN hB' (ZB.new hB) (z13.alloc _) z13.ne.symm (by kernel_rfl) (by rfl)
  refine AllReadyH.cons rfl (fun K hK => ?_) ?_
  · go_simp
    have hB' := hB.alloc hB.size (.cells #[.int .i64 0, .slice none 0 0] 33)
    refine hK.out _ _ (hS.out _ hB') (fun _ => ?_)
    exact t3_0_6 AT1 AT2 AT3 hS FIN hB' (ZB.new hB) (z13.alloc _) z13.ne.symm (by kernel_rfl) (by rfl)
  exact AllReadyH.nil
set_option maxHeartbeats 1000000 in
set_option maxRecDepth 100000 in
theorem t3_1_0 (AT1 : Hid (∀ W, Below W0.heap.size W0 W → Calls Try.prog 56 #[.int .i64 A, .pointer (some ⟨L, 0, none⟩)] W fun e W' => e = .returned (.agg #[.int .i64 ia, .slice ta N N]) ∧ Below W.heap.size W W')) (AT2 : Hid (∀ W, Below W0.heap.size W0 W → Calls Try.prog 56 #[.int .i64 B, .pointer (some ⟨L, 0, none⟩)] W fun e W' => e = .returned (.agg #[.int .i64 ib, .slice tb N N]) ∧ Below W.heap.size W W')) (AT3 : Hid (∀ W, Below W0.heap.size W0 W → Calls Try.prog 56 #[.int .i64 C, .pointer (some ⟨L, 0, none⟩)] W fun e W' => e = .returned (.agg #[.int .i64 ic, .slice tc N N]) ∧ Below W.heap.size W W')) (hS : Hid (∀ W, Below W0.heap.size W0 W → S W)) (FIN : Hid (∀ (W : World) (p11 p12 p13 : Nat), Below W0.heap.size W0 W → SB W0 W p11 (.int .i64 ia) (.slice ta N N) → SB W0 W p12 (.int .i64 ib) (.slice tb N N) → SB W0 W p13 (.int .i64 ic) (.slice tc N N) → p11 ≠ p12 → p11 ≠ p13 → p12 ≠ p13 → Q .normal ⟨tmT s0 s1 s2 s3 s4 X (.func (.func 56) #[] #[.pointer (some ⟨L, 0, none⟩)]) s10 s14 s15 A B C (.pointer (some ⟨p11, 0, none⟩)) (.pointer (some ⟨p12, 0, none⟩)) (.pointer (some ⟨p13, 0, none⟩)) (.agg #[.int .i64 ia, .slice ta N N]) (.agg #[.int .i64 ib, .slice tb N N]) (.agg #[.int .i64 ic, .slice tc N N]), []⟩ W)) (hB : Below W0.heap.size W0 W)  {lst : Array Bool} (hl : lst = #[true, true, true, true, true, true, true, false, true, true, true, false, false, false, false, false, false, false]) {a : Act} (ha : a = ⟨tmT s0 s1 s2 s3 s4 X (.func (.func 56) #[] #[.pointer (some ⟨L, 0, none⟩)]) s10 s14 s15 A B C (undef) (undef) (undef) (.agg #[.int .i64 ia, .slice ta N N]) (undef) (undef), []⟩) : wpAnyH Try.prog .any told3 Q S 8 lst a W := by
  subst hl
  subst ha
  refine wpAnyH_ready (rs := [7, 12, 13, 14]) (by kernel_rfl) (by simp) ?_
  refine AllReadyH.cons rfl (fun K hK => ?_) ?_
  · go_simp
    refine (AT2.out _ hB).mono ?_
    rintro e wz ⟨rfl, hbz⟩
    try go_wp2_with fail
    have hB' := hB.trans (hbz.mono hB.size)
    refine hK.out _ _ (hS.out _ hB') (fun _ => ?_)
    exact t3_2_0 AT1 AT2 AT3 hS FIN hB'   (by kernel_rfl) (by rfl)
  refine AllReadyH.cons rfl (fun K hK => ?_) ?_
  · go_simp
    have hB' := hB.alloc hB.size (.cells #[.int .i64 0, .slice none 0 0] 33)
    refine hK.out _ _ (hS.out _ hB') (fun _ => ?_)
    exact t3_1_1 AT1 AT2 AT3 hS FIN hB' (ZB.new hB) (by kernel_rfl) (by rfl)
  refine AllReadyH.cons rfl (fun K hK => ?_) ?_
  · go_simp
    have hB' := hB.alloc hB.size (.cells #[.int .i64 0, .slice none 0 0] 33)
    refine hK.out _ _ (hS.out _ hB') (fun _ => ?_)
    exact t3_1_2 AT1 AT2 AT3 hS FIN hB' (ZB.new hB) (by kernel_rfl) (by rfl)
  refine AllReadyH.cons rfl (fun K hK => ?_) ?_
  · go_simp
    have hB' := hB.alloc hB.size (.cells #[.int .i64 0, .slice none 0 0] 33)
    refine hK.out _ _ (hS.out _ hB') (fun _ => ?_)
    exact t3_1_4 AT1 AT2 AT3 hS FIN hB' (ZB.new hB) (by kernel_rfl) (by rfl)
  exact AllReadyH.nil
set_option maxHeartbeats 1000000 in
set_option maxRecDepth 100000 in
theorem t3_0_0 (AT1 : Hid (∀ W, Below W0.heap.size W0 W → Calls Try.prog 56 #[.int .i64 A, .pointer (some ⟨L, 0, none⟩)] W fun e W' => e = .returned (.agg #[.int .i64 ia, .slice ta N N]) ∧ Below W.heap.size W W')) (AT2 : Hid (∀ W, Below W0.heap.size W0 W → Calls Try.prog 56 #[.int .i64 B, .pointer (some ⟨L, 0, none⟩)] W fun e W' => e = .returned (.agg #[.int .i64 ib, .slice tb N N]) ∧ Below W.heap.size W W')) (AT3 : Hid (∀ W, Below W0.heap.size W0 W → Calls Try.prog 56 #[.int .i64 C, .pointer (some ⟨L, 0, none⟩)] W fun e W' => e = .returned (.agg #[.int .i64 ic, .slice tc N N]) ∧ Below W.heap.size W W')) (hS : Hid (∀ W, Below W0.heap.size W0 W → S W)) (FIN : Hid (∀ (W : World) (p11 p12 p13 : Nat), Below W0.heap.size W0 W → SB W0 W p11 (.int .i64 ia) (.slice ta N N) → SB W0 W p12 (.int .i64 ib) (.slice tb N N) → SB W0 W p13 (.int .i64 ic) (.slice tc N N) → p11 ≠ p12 → p11 ≠ p13 → p12 ≠ p13 → Q .normal ⟨tmT s0 s1 s2 s3 s4 X (.func (.func 56) #[] #[.pointer (some ⟨L, 0, none⟩)]) s10 s14 s15 A B C (.pointer (some ⟨p11, 0, none⟩)) (.pointer (some ⟨p12, 0, none⟩)) (.pointer (some ⟨p13, 0, none⟩)) (.agg #[.int .i64 ia, .slice ta N N]) (.agg #[.int .i64 ib, .slice tb N N]) (.agg #[.int .i64 ic, .slice tc N N]), []⟩ W)) (hB : Below W0.heap.size W0 W)  {lst : Array Bool} (hl : lst = #[true, true, true, false, true, true, true, false, true, true, true, false, false, false, false, false, false, false]) {a : Act} (ha : a = ⟨tmT s0 s1 s2 s3 s4 X (.func (.func 56) #[] #[.pointer (some ⟨L, 0, none⟩)]) s10 s14 s15 A B C (undef) (undef) (undef) (undef) (undef) (undef), []⟩) : wpAnyH Try.prog .any told3 Q S 9 lst a W := by
  subst hl
  subst ha
  refine wpAnyH_ready (rs := [3, 12, 13, 14]) (by kernel_rfl) (by simp) ?_
  refine AllReadyH.cons rfl (fun K hK => ?_) ?_
  · go_simp
    refine (AT1.out _ hB).mono ?_
    rintro e wz ⟨rfl, hbz⟩
    try go_wp2_with fail
    have hB' := hB.trans (hbz.mono hB.size)
    refine hK.out _ _ (hS.out _ hB') (fun _ => ?_)
    exact t3_1_0 AT1 AT2 AT3 hS FIN hB'   (by kernel_rfl) (by rfl)
  refine AllReadyH.cons rfl (fun K hK => ?_) ?_
  · go_simp
    have hB' := hB.alloc hB.size (.cells #[.int .i64 0, .slice none 0 0] 33)
    refine hK.out _ _ (hS.out _ hB') (fun _ => ?_)
    exact t3_0_1 AT1 AT2 AT3 hS FIN hB' (ZB.new hB) (by kernel_rfl) (by rfl)
  refine AllReadyH.cons rfl (fun K hK => ?_) ?_
  · go_simp
    have hB' := hB.alloc hB.size (.cells #[.int .i64 0, .slice none 0 0] 33)
    refine hK.out _ _ (hS.out _ hB') (fun _ => ?_)
    exact t3_0_2 AT1 AT2 AT3 hS FIN hB' (ZB.new hB) (by kernel_rfl) (by rfl)
  refine AllReadyH.cons rfl (fun K hK => ?_) ?_
  · go_simp
    have hB' := hB.alloc hB.size (.cells #[.int .i64 0, .slice none 0 0] 33)
    refine hK.out _ _ (hS.out _ hB') (fun _ => ?_)
    exact t3_0_4 AT1 AT2 AT3 hS FIN hB' (ZB.new hB) (by kernel_rfl) (by rfl)
  exact AllReadyH.nil
end
end Go.Proofs.Ytgcimcpcnoojnaa
