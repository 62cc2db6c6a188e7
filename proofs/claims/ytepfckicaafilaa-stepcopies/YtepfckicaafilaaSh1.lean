/-
  Package step: a memory's copy.
-/
import Derived.Test.YtepfckicaafilaaSe0
import Derived.Deep.RegionHeld3
import Derived.Shelf.SlMaps.Clone
namespace Go.Proofs.Ytepfckicaafilaa
open Go.RowKit Go.Maps

set_option maxHeartbeats 2000000 in
set_option maxRecDepth 100000 in
theorem cloneF (w : World) (b n : Nat) (f : Int × Pk → Option Unit) (h : MapAt pofE unitV w b n f) : Calls Try.prog 33 #[.map (some b)] w fun e w' => e = .returned (.map (some w.heap.size)) ∧ MapAt pofE unitV w' w.heap.size n f ∧ Below w.heap.size w w' ∧ w.heap.size < w'.heap.size := by
  obtain ⟨es, clock, hb⟩ := h.isMap
  have hC := h.cloned hb
  have HC : Hid (MapAt pofE unitV (w.alloc (.map es clock)) w.heap.size n f) := hC
  have hB : Below w.heap.size w (w.alloc (.map es clock)) := (Below.refl _ w).alloc (Nat.le_refl _) _
  clear h hC
  have hq := fun w => run_eql_map_nil_sl (P := Try.prog) w 71 _ _ (some b) uMf
  go_enter Try.func33, Try.ntmps33
  go_wp2
  rw [run_callFunc_extern Try.func57 (by kernel_rfl) (by kernel_rfl) (by kernel_rfl) (e := Extern.MapsClone.clone) (by kernel_rfl), run_maps_clone_sl w 71 hb]
  simp only [Result.andThen]
  rw [Oper.upon_value]
  go_wp2
  rw [run_typeAssert_map_sl _ 71 20 _ _ _ uMf]
  simp only [Result.andThen]
  rw [Oper.upon_value]
  go_wp2
  go_ret
  exact ⟨rfl, HC.out, hB, by simp⟩
set_option maxHeartbeats 2000000 in
set_option maxRecDepth 100000 in
theorem cloneO (w : World) (b n : Nat) (f : Int × Int → Option (Int × Int)) (h : MapAt prtE endV w b n f) : Calls Try.prog 34 #[.map (some b)] w fun e w' => e = .returned (.map (some w.heap.size)) ∧ MapAt prtE endV w' w.heap.size n f ∧ Below w.heap.size w w' ∧ w.heap.size < w'.heap.size := by
  obtain ⟨es, clock, hb⟩ := h.isMap
  have hC := h.cloned hb
  have HC : Hid (MapAt prtE endV (w.alloc (.map es clock)) w.heap.size n f) := hC
  have hB : Below w.heap.size w (w.alloc (.map es clock)) := (Below.refl _ w).alloc (Nat.le_refl _) _
  clear h hC
  have hq := fun w => run_eql_map_nil_sl (P := Try.prog) w 72 _ _ (some b) uMo
  go_enter Try.func34, Try.ntmps34
  go_wp2
  rw [run_callFunc_extern Try.func57 (by kernel_rfl) (by kernel_rfl) (by kernel_rfl) (e := Extern.MapsClone.clone) (by kernel_rfl), run_maps_clone_sl w 72 hb]
  simp only [Result.andThen]
  rw [Oper.upon_value]
  go_wp2
  rw [run_typeAssert_map_sl _ 72 20 _ _ _ uMo]
  simp only [Result.andThen]
  rw [Oper.upon_value]
  go_wp2
  go_ret
  exact ⟨rfl, HC.out, hB, by simp⟩
set_option maxHeartbeats 2000000 in
set_option maxRecDepth 100000 in
theorem cloneK (w : World) (b n : Nat) (f : Int × Pk → Option Int) (h : MapAt pofE intV w b n f) : Calls Try.prog 35 #[.map (some b)] w fun e w' => e = .returned (.map (some w.heap.size)) ∧ MapAt pofE intV w' w.heap.size n f ∧ Below w.heap.size w w' ∧ w.heap.size < w'.heap.size := by
  obtain ⟨es, clock, hb⟩ := h.isMap
  have hC := h.cloned hb
  have HC : Hid (MapAt pofE intV (w.alloc (.map es clock)) w.heap.size n f) := hC
  have hB : Below w.heap.size w (w.alloc (.map es clock)) := (Below.refl _ w).alloc (Nat.le_refl _) _
  clear h hC
  have hq := fun w => run_eql_map_nil_sl (P := Try.prog) w 73 _ _ (some b) uMk
  go_enter Try.func35, Try.ntmps35
  go_wp2
  rw [run_callFunc_extern Try.func57 (by kernel_rfl) (by kernel_rfl) (by kernel_rfl) (e := Extern.MapsClone.clone) (by kernel_rfl), run_maps_clone_sl w 73 hb]
  simp only [Result.andThen]
  rw [Oper.upon_value]
  go_wp2
  rw [run_typeAssert_map_sl _ 73 20 _ _ _ uMk]
  simp only [Result.andThen]
  rw [Oper.upon_value]
  go_wp2
  go_ret
  exact ⟨rfl, HC.out, hB, by simp⟩
/-- A copy of a memory: a new one, which knows the same. -/
def MCopy (w : World) (ds : List Dv) (ls : List Lk) (n : Nat) (M : Mnd) (e : Ending) (w' : World) : Prop :=
  ∃ m' : Mp, e = .returned (.pointer (some ⟨m'.B, 0, none⟩)) ∧ MemAt w' m' ds ls n M ∧ Below w.heap.size w w' ∧ w.heap.size ≤ m'.f ∧ w.heap.size ≤ m'.o ∧ w.heap.size ≤ m'.k
set_option maxHeartbeats 8000000 in
set_option maxRecDepth 100000 in
theorem mcopy_any (m : Mp) (ds : List Dv) (ls : List Lk) (n : Nat) (M : Mnd) (w : World) (hM : MemAt w m ds ls n M) (hS : Hid (Small ds ls)) :
    Calls Try.prog 18 #[.pointer (some ⟨m.B, 0, none⟩)] w (MCopy w ds ls n M) := by
  obtain ⟨B, f, oo, k, A, cap, L, cap'⟩ := m
  have CF : Hid (∀ W, MemAt W ⟨B, f, oo, k, A, cap, L, cap'⟩ ds ls n M → Calls Try.prog 33 #[.map (some f)] W fun e w' => e = .returned (.map (some W.heap.size)) ∧ MapAt pofE unitV w' W.heap.size n M.fl ∧ Below W.heap.size W w' ∧ W.heap.size < w'.heap.size) := fun W h => cloneF W f n M.fl h.fl
  have CO : Hid (∀ W, MemAt W ⟨B, f, oo, k, A, cap, L, cap'⟩ ds ls n M → Calls Try.prog 34 #[.map (some oo)] W fun e w' => e = .returned (.map (some W.heap.size)) ∧ MapAt prtE endV w' W.heap.size n M.ow ∧ Below W.heap.size W w' ∧ W.heap.size < w'.heap.size) := fun W h => cloneO W oo n M.ow h.ow
  have CQ : Hid (∀ W, MemAt W ⟨B, f, oo, k, A, cap, L, cap'⟩ ds ls n M → Calls Try.prog 35 #[.map (some k)] W fun e w' => e = .returned (.map (some W.heap.size)) ∧ MapAt pofE intV w' W.heap.size n M.bk ∧ Below W.heap.size W w' ∧ W.heap.size < w'.heap.size) := fun W h => cloneK W k n M.bk h.bk
  have CN : Hid (∀ W, MemAt W ⟨B, f, oo, k, A, cap, L, cap'⟩ ds ls n M → Calls Try.prog 21 #[.agg #[.slice A ds.length cap, .slice L ls.length cap']] W fun e w' => ∃ A2 q2 B2 q3, e = .returned (.agg #[.slice A2 ds.length q2, .slice B2 ls.length q3]) ∧ (Devs w'.heap.size w' (.slice A2 ds.length q2) ds ∧ Links w'.heap.size w' (.slice B2 ls.length q3) ls) ∧ Below W.heap.size W w') := fun W h => (copy_any A L cap cap' ds ls W h.devs h.links hS).mono fun e w' ⟨A2, q2, B2, q3, h1, h2, h3, h4⟩ => ⟨A2, q2, B2, q3, h1, ⟨h2, h3⟩, h4⟩
  have KP : ∀ {W W' : World}, MemAt W ⟨B, f, oo, k, A, cap, L, cap'⟩ ds ls n M → Below W.heap.size W W' → MemAt W' ⟨B, f, oo, k, A, cap, L, cap'⟩ ds ls n M := fun h hb => h.below hb
  have FS : ∀ {w' : World}, MemAt w' ⟨B, f, oo, k, A, cap, L, cap'⟩ ds ls n M → (w'.cell? ⟨B, 0, none⟩ = some (.slice A ds.length cap) ∧ w'.cell? ⟨B, 1, none⟩ = some (.slice L ls.length cap') ∧ w'.cell? ⟨B, 2, none⟩ = some (.map (some f)) ∧ w'.cell? ⟨B, 3, none⟩ = some (.map (some oo)) ∧ w'.cell? ⟨B, 4, none⟩ = some (.map (some k))) := fun h => h.cells
  have M0 := hM.drew
  have D0 : Below w.heap.size w w.drew := (Below.refl _ _).drew
  have fin : Hid (∀ (w1 w2 w3 w4 : World) A2 q2 B2 q3, (Devs w1.heap.size w1 (.slice A2 ds.length q2) ds ∧ Links w1.heap.size w1 (.slice B2 ls.length q3) ls) → MapAt pofE unitV w2 w1.heap.size n M.fl → Below w1.heap.size w1 w2 → w1.heap.size < w2.heap.size → MapAt prtE endV w3 w2.heap.size n M.ow → Below w2.heap.size w2 w3 → w2.heap.size < w3.heap.size → MapAt pofE intV w4 w3.heap.size n M.bk → Below w3.heap.size w3 w4 → w3.heap.size < w4.heap.size → Below w.heap.size w w1 → MCopy w ds ls n M (.returned (.pointer (some ⟨w4.heap.size, 0, none⟩))) (w4.alloc (.cells #[.slice A2 ds.length q2, .slice B2 ls.length q3, .map (some w1.heap.size), .map (some w2.heap.size), .map (some w3.heap.size)] 75))) := by
    intro w1 w2 w3 w4 A2 q2 B2 q3 ⟨hD, hL⟩ hf b2 z2 ho b3 z3 hk b4 z4 b1
    have c3 := chnN b3 b2
    have c4 := chnN b4 c3
    have b5 : Below w4.heap.size w4 (w4.alloc (.cells #[.slice A2 ds.length q2, .slice B2 ls.length q3, .map (some w1.heap.size), .map (some w2.heap.size), .map (some w3.heap.size)] 75)) := (Below.refl _ _).alloc (Nat.le_refl _) _
    have c5 := chnN b5 c4
    have y1 := b1.size
    refine ⟨⟨w4.heap.size, w1.heap.size, w2.heap.size, w3.heap.size, A2, q2, B2, q3⟩, rfl, ⟨bk_new w4 _ _, (hD.below c5).mono c5.size, (hL.below c5).mono c5.size, ?_, ?_, ?_, by show w1.heap.size ≠ w2.heap.size; omega, by show w1.heap.size ≠ w3.heap.size; omega, by show w2.heap.size ≠ w3.heap.size; omega⟩, chnN c5 b1, by show w.heap.size ≤ w1.heap.size; omega, by show w.heap.size ≤ w2.heap.size; omega, by show w.heap.size ≤ w3.heap.size; omega⟩
    · exact hf.same ((b5.block _ (by omega)).trans ((b4.block _ (by omega)).trans (b3.block _ (by omega))))
    · exact ho.same ((b5.block _ (by omega)).trans (b4.block _ (by omega)))
    · exact hk.same (b5.block _ (by omega))
  generalize MCopy w ds ls n M = MC at *
  obtain ⟨c0, c1, c2, c3, c4⟩ := FS hM
  go_enter Try.func18, Try.ntmps18
  go_upto_region 1 with fail
  go_region_held3 (fun w' => w'.cell? ⟨B, 0, none⟩ = some (.slice A ds.length cap) ∧ w'.cell? ⟨B, 1, none⟩ = some (.slice L ls.length cap') ∧ w'.cell? ⟨B, 2, none⟩ = some (.map (some f)) ∧ w'.cell? ⟨B, 3, none⟩ = some (.map (some oo)) ∧ w'.cell? ⟨B, 4, none⟩ = some (.map (some k))) (exact FS (by first | exact M4 | exact M4.alloc _ | exact M3 | exact M2 | exact M1 | exact M0)) (first | (go_at_call 21; (with_reducible refine (CN.out _ M0).mono ?_); rintro e w1 ⟨A2, q2, B2, q3, rfl, hNO, hb1⟩; have M1 := KP M0 hb1; have D1 := chnN hb1 D0) | (go_at_call 33; (with_reducible refine (CF.out _ M1).mono ?_); rintro e w2 ⟨rfl, hf2, hb2, hz2⟩; have M2 := KP M1 hb2) | (go_at_call 34; (with_reducible refine (CO.out _ M2).mono ?_); rintro e w3 ⟨rfl, ho3, hb3, hz3⟩; have M3 := KP M2 hb3) | (go_at_call 35; (with_reducible refine (CQ.out _ M3).mono ?_); rintro e w4 ⟨rfl, hk4, hb4, hz4⟩; have M4 := KP M3 hb4))
  all_goals
    go_wp2_with fail
    exact fin.out _ _ _ _ _ _ _ _ hNO hf2 hb2 hz2 ho3 hb3 hz3 hk4 hb4 hz4 D1
end Go.Proofs.Ytepfckicaafilaa
