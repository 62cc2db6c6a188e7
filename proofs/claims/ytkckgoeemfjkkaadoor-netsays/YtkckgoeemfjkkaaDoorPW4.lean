/-
  Package net: a line into the builder.
-/
import Derived.Test.YtkckgoeemfjkkaaDoorPW3
namespace Go.Proofs.YtkckgoeemfjkkaaDoor
open Go.RowKit

/-- The builder in block b holds the text acc; what was there ahead of it lies below B. -/
def Bld (B b : Nat) (acc : List UInt8) (w : World) : Prop := Lib.IsBuilderF 64 5 B b (Lib.byteCells acc) w
theorem Bld.keep {B b : Nat} {acc : List UInt8} {w w' : World} (h : Bld B b acc w) (hb : Below w.heap.size w w') : Bld B b acc w' := by
  have go : ∀ p, Lib.BuilderAtF 64 5 B b p (Lib.byteCells acc) w → Lib.BuilderAtF 64 5 B b p (Lib.byteCells acc) w' := by
    rintro p ⟨hB, v, hv, hown, hne⟩
    refine ⟨hB, v, (hb.block b (Array.getElem?_eq_some_iff.1 hv).1).trans hv, ⟨hown.1, ?_⟩, hne⟩
    rcases hown.2 with hn | ⟨g, cap, cur, fz, hv, hbg, hg, rest⟩
    · exact .inl hn
    · exact .inr ⟨g, cap, cur, fz, hv, hbg, (hb.block g (Array.getElem?_eq_some_iff.1 hg).1).trans hg, rest⟩
  exact h.elim (fun x => .inl (go _ x)) (fun x => .inr (go _ x))
theorem kept_of_below {e : TypeId} {b : Option Nat} {w w' : World} (hb : Below w.heap.size w w') : Lib.OthersKept e b w w' := fun k _ h _ _ => (hb.block k (Array.getElem?_eq_some_iff.1 h).1).trans h
theorem byteCells_len (l : List UInt8) : (Lib.byteCells l).length = l.length := by simp [Lib.byteCells]
theorem byteCells_app (a b : List UInt8) : Lib.byteCells (a ++ b) = Lib.byteCells a ++ Lib.byteCells b := by simp [Lib.byteCells]
theorem strCells_eq (l : List UInt8) : Lib.strCells ⟨l.toArray⟩ = Lib.byteCells l := by simp [Lib.strCells, Lib.byteCells]
set_option maxHeartbeats 2000000 in
set_option maxRecDepth 100000 in
/-- printLine. -/
theorem printLine_any (B b : Nat) (acc : List UInt8) (v : Value) (ws : List (List UInt8)) (w : World) (hT : Hid (Bld B b acc w)) (hW : WordsAt w v ws) (hBw : B ≤ w.heap.size) (hlen : acc.length + (lineT ws).length ≤ 1000000) (hws : ws.length ≤ 10) :
    Calls Tryd.prog 19 #[.pointer (some ⟨b, 0, none⟩), v] w fun e w' => ∃ x, e = .returned x ∧ Bld B b (acc ++ lineT ws) w' ∧ Below B w w' ∧ Lib.OthersKept 5 (some b) w w' := by
  obtain ⟨bk, o, c, rfl, hc, hbk, hcell⟩ := hW
  have JO : Hid (Calls Tryd.prog 33 #[.slice (some ⟨bk, o, none⟩) ws.length c, .string ⟨#[32]⟩] w fun e w' => e = .returned (.string ⟨(Lib.join ws [32]).toArray⟩) ∧ Below w.heap.size w w') := by
    have hl : (txtB ws).length = ws.length := by simp [txtB]
    have := Tryd.strings_Join bk o c (txtB ws) ⟨#[32]⟩ w (fun j x hj => by
      unfold txtB at hj
      rw [List.getElem?_map] at hj
      cases hx : ws[j]? with
      | none => rw [hx] at hj; cases hj
      | some y =>
        rw [hx] at hj
        obtain rfl := Option.some.inj hj
        exact hcell j y hx) hbk (by omega) (by omega) (by
        rw [txtB_back]
        unfold lineT at hlen
        rw [List.length_append] at hlen
        show (Lib.join ws [32]).length ≤ _
        omega)
    rw [hl, txtB_back] at this
    exact this
  have WS : Hid (∀ W, Bld B b acc W → B ≤ W.heap.size → Calls Tryd.prog 32 #[.pointer (some ⟨b, 0, none⟩), .string ⟨(Lib.join ws [32]).toArray⟩] W fun e w' => ∃ x, e = .returned x ∧ (Bld B b (acc ++ Lib.join ws [32]) w' ∧ Below B W w' ∧ Lib.OthersKept 5 (some b) W w')) := fun W h hb => by
    have := Tryd.Builder_WriteString_k B b (Lib.byteCells acc) ⟨(Lib.join ws [32]).toArray⟩ W h (by
      rw [byteCells_len]
      unfold lineT at hlen
      rw [List.length_append] at hlen
      show acc.length + (Lib.join ws [32]).toArray.size ≤ _
      simp
      omega) hb
    refine this.mono fun e w' ⟨h1, h2, h3, h4⟩ => ⟨_, h1, Or.inr ?_, h3, h4⟩
    rw [strCells_eq, ← byteCells_app] at h2
    exact h2
  have WB : Hid (∀ W, Bld B b (acc ++ Lib.join ws [32]) W → B ≤ W.heap.size → Calls Tryd.prog 34 #[.pointer (some ⟨b, 0, none⟩), .int .u8 10] W fun e w' => ∃ x, e = .returned x ∧ (Bld B b (acc ++ lineT ws) w' ∧ Below B W w' ∧ Lib.OthersKept 5 (some b) W w')) := fun W h hb => by
    have := Tryd.Builder_WriteByte_k B b (Lib.byteCells (acc ++ Lib.join ws [32])) 10 W h (by
      rw [byteCells_len]
      unfold lineT at hlen
      rw [List.length_append] at hlen ⊢
      omega) hb
    refine this.mono fun e w' ⟨h1, h2, h3, h4⟩ => ⟨_, h1, Or.inr ?_, h3, h4⟩
    have e : Lib.byteCells (acc ++ Lib.join ws [32]) ++ [.int .u8 10] = Lib.byteCells (acc ++ lineT ws) := by
      unfold lineT
      rw [← List.append_assoc, byteCells_app (acc ++ Lib.join ws [32])]
      rfl
    rw [e] at h2
    exact h2
  clear hcell hlen hws
  generalize Lib.join ws [32] = jn at *
  generalize acc ++ lineT ws = fin at *
  go_enter Tryd.func19, Tryd.ntmps19
  go_wp2_with fail
  refine JO.out.mono ?_
  rintro e w1 ⟨rfl, hb1⟩
  have T1 := hT.out.keep hb1
  have K1 : Lib.OthersKept 5 (some b) w w1 := kept_of_below hb1
  have D1 : Below B w w1 := hb1.mono hBw
  have s1 := Nat.le_trans hBw hb1.size
  clear hb1
  go_wp2_with fail
  refine (WS.out _ T1 s1).mono ?_
  rintro e w2 ⟨x, rfl, T2, D2, K2⟩
  have s2 := Nat.le_trans s1 D2.size
  go_wp2_with fail
  refine (WB.out _ T2 s2).mono ?_
  rintro e w3 ⟨y, rfl, T3, D3, K3⟩
  go_wp2_with fail
  go_end0
  exact ⟨_, rfl, T3, (D1.trans D2).trans D3, (K1.trans K2).trans K3⟩
/-- A block of cells that is no row of bytes stays. -/
theorem kept_block {b k : Nat} {w w' : World} {c : Array Value} {t : TypeId} {fz : Nat × Nat} (h : Lib.OthersKept 5 (some b) w w') (hk : w.heap[k]? = some (.cells c t fz)) (hkb : k ≠ b) (ht : t ≠ 5) : w'.heap[k]? = some (.cells c t fz) :=
  h k _ hk (fun e => hkb (Option.some.inj e)) (fun c' fz' e => by cases e; exact ht rfl)
/-- What the rounds of Print keep. -/
def PS (w W : World) (b : Nat) (v1 v2 : Value) (acc : List UInt8) : Prop := Below w.heap.size w W ∧ Box2 W w.heap.size v1 v2 ∧ w.heap.size < b ∧ b < W.heap.size ∧ Bld b b acc W
theorem PS.keep {w W W' : World} {b : Nat} {v1 v2 : Value} {acc : List UInt8} (h : PS w W b v1 v2 acc) (hb : Below W.heap.size W W') : PS w W' b v1 v2 acc :=
  ⟨chnN hb h.1, h.2.1.below hb h.2.1.1, h.2.2.1, Nat.lt_of_lt_of_le h.2.2.2.1 hb.size, h.2.2.2.2.keep hb⟩
theorem PS.alloc {w W : World} {b : Nat} {v1 v2 : Value} {acc : List UInt8} (h : PS w W b v1 v2 acc) (o : Obj) : PS w (W.alloc o) b v1 v2 acc := h.keep ((Below.refl _ _).alloc (Nat.le_refl _) o)
theorem PS.drew {w W : World} {b : Nat} {v1 v2 : Value} {acc : List UInt8} (h : PS w W b v1 v2 acc) : PS w W.drew b v1 v2 acc := h.keep (Below.refl _ _).drew
theorem PS.line {w W W' : World} {b : Nat} {v1 v2 : Value} {acc acc' : List UInt8} (h : PS w W b v1 v2 acc) (hB : Bld b b acc' W') (hb : Below b W W') : PS w W' b v1 v2 acc' :=
  ⟨h.1.trans (hb.mono (Nat.le_of_lt h.2.2.1)), h.2.1.below hb h.2.2.1, h.2.2.1, Nat.lt_of_lt_of_le h.2.2.2.1 hb.size, hB⟩
/-- A block of a call's own, whole. -/
def Blk (W : World) (k : Nat) (c : Array Value) (t : TypeId) : Prop := W.heap[k]? = some (.cells c t (0, 0))
theorem blk_new (w : World) (c : Array Value) (t : TypeId) : Blk (w.alloc (.cells c t)) w.heap.size c t := Go.heap_alloc_new w _
theorem Blk.lt {W : World} {k : Nat} {c : Array Value} {t : TypeId} (h : Blk W k c t) : k < W.heap.size := (Array.getElem?_eq_some_iff.1 h).1
theorem Blk.keep {W W' : World} {k : Nat} {c : Array Value} {t : TypeId} (h : Blk W k c t) (hb : Below W.heap.size W W') : Blk W' k c t := (hb.block k h.lt).trans h
theorem Blk.alloc {W : World} {k : Nat} {c : Array Value} {t : TypeId} (h : Blk W k c t) (o : Obj) : Blk (W.alloc o) k c t := h.keep ((Below.refl _ _).alloc (Nat.le_refl _) o)
theorem Blk.drew {W : World} {k : Nat} {c : Array Value} {t : TypeId} (h : Blk W k c t) : Blk W.drew k c t := h
theorem Blk.line {W W' : World} {k b : Nat} {c : Array Value} {t : TypeId} (h : Blk W k c t) (hk : Lib.OthersKept 5 (some b) W W') (hkb : k ≠ b) (ht : t ≠ 5) : Blk W' k c t := kept_block hk h hkb ht
theorem Blk.cell {W : World} {k : Nat} {c : Array Value} {t : TypeId} (h : Blk W k c t) (j : Nat) (v : Value) (hj : c[j]? = some v) : W.cell? ⟨k, j, none⟩ = some v := by
  unfold Blk at h
  simp [World.cell?, h, hj]
theorem words_new (w : World) (xs : List ByteArray) : WordsAt (w.alloc (.cells (xs.map Value.string).toArray 9)) (.slice (some ⟨w.heap.size, 0, none⟩) xs.length xs.length) (xs.map (·.data.toList)) := by
  refine ⟨w.heap.size, 0, xs.length, by rw [List.length_map], by simp, by simp, fun j x hj => ?_⟩
  rw [List.getElem?_map] at hj
  cases hx : xs[j]? with
  | none => rw [hx] at hj; cases hj
  | some y =>
    rw [hx] at hj
    obtain rfl := Option.some.inj hj
    rw [nm_eta]
    have hb := blk_new w (xs.map Value.string).toArray 9
    rw [Nat.zero_add]
    exact hb.cell j _ (by simp [hx])
/-- A sum of two texts, under a name. -/
theorem sum_ex (a b : ByteArray) (h : a.size + b.size ≤ 1000000) : ∃ s : ByteArray, (∀ w : World, (Op.stringOp .add a b).run Tryd.prog w = .ok (.string s) w) ∧ Hid (s = a ++ b) :=
  ⟨a ++ b, fun w => run_string_add_sum w _ _ (by omega), rfl⟩
theorem itoa_ex (x : Int) (h0 : 0 ≤ x) (h1 : x < 100) : ∃ s : ByteArray, Hid (s.data.toList = dcB x) ∧ s.size ≤ 2 ∧ Hid (∀ w, Calls Tryd.prog 15 #[.int .i64 x] w fun e w' => e = .returned (.string s) ∧ w' = w) := by
  refine ⟨⟨(dcB x).toArray⟩, by show _ = _; simp, ?_, fun w => itoaB x h0 h1 w⟩
  have := dcB_len h1
  show (dcB x).toArray.size ≤ 2
  simpa using this
theorem app_toList (a b : ByteArray) : (a ++ b).data.toList = a.data.toList ++ b.data.toList := by simp [ByteArray.data_append]
end Go.Proofs.YtkckgoeemfjkkaaDoor
