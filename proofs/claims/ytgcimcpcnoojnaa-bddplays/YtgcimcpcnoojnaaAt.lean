/-
  told's first closure: the function that is known at a number, by its rest.
-/
import Derived.Test.YtgcimcpcnoojnaaRef3
import Derived.Deep.RegionHeld3
import Derived.WalkSpells
import Derived.Deep.DeepCutAuto
namespace Go.Proofs.Ytgcimcpcnoojnaa
open Go.RowKit Go.Maps

set_option maxHeartbeats 2000000 in
set_option maxRecDepth 100000 in
theorem at_ok (L K n cap : Nat) (i : Int) (j id tb N : Nat) (w : World) (hn : 0 < n) (hn2 : n < 1000) (hj : i % (n : Int) = (j : Int)) (lL : L < w.heap.size) (lK : K < w.heap.size)
    (hL : w.cell? ⟨L, 0, none⟩ = some (.slice (some ⟨K, 0, none⟩) n cap)) (c0 : w.cell? ⟨K, j * 2, none⟩ = some (.int .i64 (id : Int))) (c1 : w.cell? ⟨K, j * 2 + 1, none⟩ = some (.slice (some ⟨tb, 0, none⟩) N N)) :
    Calls Try.prog 56 #[.int .i64 i, .pointer (some ⟨L, 0, none⟩)] w fun e w' => e = .returned (.agg #[.int .i64 (id : Int), .slice (some ⟨tb, 0, none⟩) N N]) ∧ Below w.heap.size w w' := by
  have RS : Go.RowKit.Hid (∀ w', Calls Try.prog 39 #[.int .i64 i, .int .i64 (n : Int)] w' fun e w'' => e = .returned (.int .i64 (j : Int)) ∧ w'' = w') := fun w' => by
    have := rest_any w' i n hn hn2
    rw [hj] at this
    exact this
  have b2 := Int.emod_lt_of_pos i (b := (n : Int)) (by omega)
  rw [hj] at b2
  have b1 : (0 : Int) ≤ (j : Int) := by omega
  have D1 := (Below.refl w.heap.size w).alloc (Nat.le_refl _) (.cells #[.int .i64 0, .slice none 0 0] 33)
  have D2 := D1.drew
  have k0 : (w.alloc (.cells #[.int .i64 0, .slice none 0 0] 33)).drew.cell? ⟨L, 0, none⟩ = some (.slice (some ⟨K, 0, none⟩) n cap) := (D1.cell (p := ⟨L, 0, none⟩) lL).trans hL
  have k1 : (w.alloc (.cells #[.int .i64 0, .slice none 0 0] 33)).drew.cell? ⟨K, j * 2, none⟩ = some (.int .i64 (id : Int)) := (D1.cell (p := ⟨K, j * 2, none⟩) lK).trans c0
  have k2 : (w.alloc (.cells #[.int .i64 0, .slice none 0 0] 33)).drew.cell? ⟨K, j * 2 + 1, none⟩ = some (.slice (some ⟨tb, 0, none⟩) N N) := (D1.cell (p := ⟨K, j * 2 + 1, none⟩) lK).trans c1
  have E1 := (Below.refl w.heap.size w).alloc (Nat.le_refl _) (.cells #[.int .i64 (id : Int), .slice (some ⟨tb, 0, none⟩) N N] 33)
  have e0 : (w.alloc (.cells #[.int .i64 (id : Int), .slice (some ⟨tb, 0, none⟩) N N] 33)).drew.cell? ⟨L, 0, none⟩ = some (.slice (some ⟨K, 0, none⟩) n cap) := (E1.cell (p := ⟨L, 0, none⟩) lL).trans hL
  have e1 : (w.alloc (.cells #[.int .i64 (id : Int), .slice (some ⟨tb, 0, none⟩) N N] 33)).drew.cell? ⟨K, j * 2, none⟩ = some (.int .i64 (id : Int)) := (E1.cell (p := ⟨K, j * 2, none⟩) lK).trans c0
  have e2 : (w.alloc (.cells #[.int .i64 (id : Int), .slice (some ⟨tb, 0, none⟩) N N] 33)).drew.cell? ⟨K, j * 2 + 1, none⟩ = some (.slice (some ⟨tb, 0, none⟩) N N) := (E1.cell (p := ⟨K, j * 2 + 1, none⟩) lK).trans c1
  have E2 := E1.drew
  clear hj hL c0 c1
  go_enter Try.func56, Try.ntmps56
  go_wp2_with fail
  go_region_held3 (fun w' => w'.cell? ⟨L, 0, none⟩ = some (.slice (some ⟨K, 0, none⟩) n cap) ∧ w'.cell? ⟨K, j * 2, none⟩ = some (.int .i64 (id : Int)) ∧ w'.cell? ⟨K, j * 2 + 1, none⟩ = some (.slice (some ⟨tb, 0, none⟩) N N)) (exact ⟨by assumption, by assumption, by assumption⟩)
    (first
      | (go_at_call 39; refine (RS.out _).mono ?_; rintro e wn ⟨rfl, rfl⟩))
  go_wp2_with fail
  refine bodyPost_ret (v := .agg #[.int .i64 (id : Int), .slice (some ⟨tb, 0, none⟩) N N]) (by simp [results, Try.results56, go_sem]) rfl ⟨rfl, E2⟩
end Go.Proofs.Ytgcimcpcnoojnaa


