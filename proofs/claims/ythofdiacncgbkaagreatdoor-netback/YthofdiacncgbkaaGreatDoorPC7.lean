/-
  Texts of nets: Parse.
-/
import Derived.Test.YthofdiacncgbkaaGreatDoorPC
import Derived.Test.YthofdiacncgbkaaGreatDoorNK
namespace Go.Proofs.YthofdiacncgbkaaGreatDoor
open Go.RowKit

def ParseOut (w : World) (o : (List Dv × List Lk) × Nat × Int) (e : Ending) (w' : World) : Prop :=
  Below w.heap.size w w' ∧ ∃ vd vl, e = .returned (.tuple #[.agg #[vd, vl], .int .i64 (o.2.1 : Int), .int .i64 o.2.2]) ∧ Devs w'.heap.size w' vd o.1.1 ∧ Links w'.heap.size w' vl o.1.2
theorem nil_slAt {α : Type} (base : Nat) (w : World) (n : Nat) (R : List Value → α → Prop) : SlAt base w n R (.slice none 0 0) [] := ⟨none, 0, rfl, fun _ => rfl, Nat.le_refl _, Nat.zero_le _, fun h => absurd rfl h⟩
theorem pairB {B : Nat} {W w' : World} {n : Nat} {a b : Value} (hb : Below B W w') (hn : n < B) (h : Pair W n a b) : Pair w' n a b := by
  obtain ⟨h0, ⟨h1, h2⟩, k1, k2⟩ := h
  exact ⟨Nat.lt_of_lt_of_le h0 hb.size, ⟨(hb.cell (p := ⟨n, 0, none⟩) hn).trans h1, (hb.cell (p := ⟨n, 1, none⟩) hn).trans h2⟩, (hb.frozen (p := ⟨n, 0, none⟩) hn).trans k1, (hb.frozen (p := ⟨n, 1, none⟩) hn).trans k2⟩
theorem textP_stop {f k : Nat} {ds : List Dv} {ls : List Lk} {l : List UInt8} (h0 : l ≠ []) (h : Pk.brk 10 l = none) : textP (f + 1) k ds ls l = .inl k := by
  rw [textP, if_neg h0, h]
theorem textP_bad {f k : Nat} {ds : List Dv} {ls : List Lk} {l a b : List UInt8} (h0 : l ≠ []) (h : Pk.brk 10 l = some (a, b)) (h2 : lineP ds ls (Mt.spl 32 a) = none) : textP (f + 1) k ds ls l = .inl k := by
  rw [textP, if_neg h0, h]
  simp only [h2]
theorem textP_next {f k : Nat} {ds ds' : List Dv} {ls ls' : List Lk} {l a b : List UInt8} (h0 : l ≠ []) (h : Pk.brk 10 l = some (a, b)) (h2 : lineP ds ls (Mt.spl 32 a) = some (ds', ls')) : textP (f + 1) k ds ls l = textP f (k + 1) ds' ls' b := by
  rw [textP, if_neg h0, h]
  simp only [h2]
set_option maxHeartbeats 1000000 in
theorem parse_big (s : ByteArray) (w : World) (h : 4096 < s.size) : Calls Tryz.prog 5 #[.string s] w fun e w' => ParseOut w (([], []), 0, 2) e w' := by
  have hb1 : (4096 : Int) < (s.size : Int) := by omega

  have P0 := pair_new w (.slice none 0 0) (.slice none 0 0) 25
  have D0 := Below.alloc' (Below.refl w.heap.size w) (.cells #[.slice none 0 0, .slice none 0 0] 25)
  go_enter Tryz.func5, Tryz.ntmps5
  generalize hW : w.alloc (.cells #[.slice none 0 0, .slice none 0 0] 25) = w1 at *
  obtain ⟨l0, ⟨k0, k1⟩, f0, f1⟩ := P0
  go_wp2_with fail
  exact bodyPost_ret (v := .tuple #[.agg #[.slice none 0 0, .slice none 0 0], .int .i64 0, .int .i64 2]) (by simp [results, Tryz.results5, go_sem, k0, k1]) rfl ⟨below_set2 D0 (Nat.le_refl _) _ _, _, _, rfl, nil_slAt _ _ _ _, nil_slAt _ _ _ _⟩
end Go.Proofs.YthofdiacncgbkaaGreatDoor
