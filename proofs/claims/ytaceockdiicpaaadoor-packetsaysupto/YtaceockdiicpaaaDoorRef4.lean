/-
  ReadPacket of the document's answer: what it tells is what the plain function 'pkt' tells, for every text of at most 2097152 bytes.
-/
import Derived.Test.YtaceockdiicpaaaDoorRef3
import Derived.Deep.RegionHeld3
import Derived.Deep.DeepCutAuto
namespace Go.Proofs.YtaceockdiicpaaaDoor
open Go.RowKit

theorem chain {W0 W w' : World} (hb : Below W.heap.size W w') (h : Below W0.heap.size W0 W) : Below W0.heap.size W0 w' := h.trans (hb.mono h.size)

/-- A slice of two texts lies there. -/
def Two (w : World) (g : Nat) (a b : List UInt8) : Prop := g < w.heap.size ∧ w.cell? ⟨g, 0, none⟩ = some (.string ⟨a.toArray⟩) ∧ w.cell? ⟨g, 1, none⟩ = some (.string ⟨b.toArray⟩)
theorem keepTwo {W w' : World} {g : Nat} {a b : List UInt8} (hb : Below W.heap.size W w') (h : Two W g a b) : Two w' g a b := by
  obtain ⟨h0, h1, h2⟩ := h
  exact ⟨Nat.lt_of_lt_of_le h0 hb.size, (hb.cell (p := ⟨g, 0, none⟩) h0).trans h1, (hb.cell (p := ⟨g, 1, none⟩) h0).trans h2⟩
theorem Two.drew {w : World} {g : Nat} {a b : List UInt8} (h : Two w g a b) : Two w.drew g a b := h

theorem two_any (s : ByteArray) (c : UInt8) (a b : List UInt8) (hp : Pk.pieces c s.data.toList = [a, b]) (hm : s.size ≤ 2097152) (w : World) :
    Calls Tryd.prog 29 #[.string s, .int .u8 (c.toNat : Int)] w fun e w' => ∃ g cap, e = .returned (.slice (some ⟨g, 0, none⟩) 2 cap) ∧ 2 ≤ cap ∧ Two w' g a b ∧ Below w.heap.size w w' := by
  refine (pieces_any s c w hm).mono ?_
  rintro e w' ⟨v, rfl, hown, hb⟩
  rw [hp] at hown
  obtain ⟨g, cap, rfl, hg, hcap⟩ := own_shape (m := 1) hown
  refine ⟨g, cap, rfl, hcap, ⟨(hown.lt g rfl).2, ?_, ?_⟩, hb⟩
  · rw [hown.cellAt 0 (by simp)]; rfl
  · rw [hown.cellAt 1 (by simp)]; rfl

theorem not_two (s : ByteArray) (c : UInt8) (hp : (Pk.pieces c s.data.toList).length ≠ 2) (hm : s.size ≤ 2097152) (w : World) :
    Calls Tryd.prog 29 #[.string s, .int .u8 (c.toNat : Int)] w fun e w' => ∃ g cap, ∃ n : Nat, e = .returned (.slice (some ⟨g, 0, none⟩) n cap) ∧ ((n : Int) != 2) = true ∧ n ≤ 2097153 ∧ Below w.heap.size w w' := by
  refine (pieces_any s c w hm).mono ?_
  rintro e w' ⟨v, rfl, hown, hb⟩
  have hl := Pk.pieces_len c s.data.toList
  have hc := List.count_le_length (a := c) (l := s.data.toList)
  rw [← Lib.size_eq] at hc
  generalize hq : (Pk.pieces c s.data.toList).length = n at *
  obtain ⟨m, rfl⟩ : ∃ m, n = m + 1 := ⟨n - 1, by omega⟩
  obtain ⟨g, cap, rfl, hg, hcap⟩ := own_shape (m := m) hown
  exact ⟨g, cap, m + 1, rfl, by rw [bne_iff_ne]; omega, by omega, hb⟩

set_option maxHeartbeats 1000000 in
theorem read_bad1 (s : ByteArray) (w : World)
    (h1 : Hid (∀ w, Calls Tryd.prog 29 #[.string s, .int .u8 62] w fun e w' => ∃ g cap, ∃ n : Nat, e = .returned (.slice (some ⟨g, 0, none⟩) n cap) ∧ ((n : Int) != 2) = true ∧ n ≤ 2097153 ∧ Below w.heap.size w w')) :
    Calls Tryd.prog 13 #[.string s] w fun e w' => e = .returned (.tuple #[pk 0 0 0 0, .int .i64 3]) ∧ Below w.heap.size w w' := by
  go_enter Tryd.func13, Tryd.ntmps13
  go_wp2_with fail
  refine (h1.out _).mono ?_
  rintro e w1 ⟨g, cap, n, rfl, hn, hn2, hb⟩
  obtain ⟨hce, hf⟩ := bcell hb
  have k0 : w1.cell? ⟨w.heap.size, 0, none⟩ = some (.int .i64 0) := by rw [hce _ _ (by simp)]; simp [go_sem]
  have k1 : w1.cell? ⟨w.heap.size, 1, none⟩ = some (.int .i64 0) := by rw [hce _ _ (by simp)]; simp [go_sem]
  have k2 : w1.cell? ⟨w.heap.size, 2, none⟩ = some (.int .i64 0) := by rw [hce _ _ (by simp)]; simp [go_sem]
  have k3 : w1.cell? ⟨w.heap.size, 3, none⟩ = some (.int .i64 0) := by rw [hce _ _ (by simp)]; simp [go_sem]
  have f0 : w1.frozen? ⟨w.heap.size, 0, none⟩ = false := by rw [hf _ _ (by simp)]; simp [go_sem]
  have f1 : w1.frozen? ⟨w.heap.size, 1, none⟩ = false := by rw [hf _ _ (by simp)]; simp [go_sem]
  have f2 : w1.frozen? ⟨w.heap.size, 2, none⟩ = false := by rw [hf _ _ (by simp)]; simp [go_sem]
  have f3 : w1.frozen? ⟨w.heap.size, 3, none⟩ = false := by rw [hf _ _ (by simp)]; simp [go_sem]
  have D := chain hb ((Below.refl w.heap.size w).alloc (Nat.le_refl _) _)
  clear hce hf hb
  go_wp2
  refine bodyPost_ret (v := .tuple #[pk 0 0 0 0, .int .i64 3]) (by simp [results, Tryd.results13, go_sem, k0, k1, k2, k3]) rfl ⟨rfl, ?_⟩
  exact below_set4 D (Nat.le_refl _) _ _ _ _
end Go.Proofs.YtaceockdiicpaaaDoor
