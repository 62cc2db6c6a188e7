/-
  asked: it tells what the arena's call tells.
-/
import Derived.Test.YtgcimcpcnoojnaaBad
import Derived.Deep.RegionHeld3
import Derived.WalkSpells
import Derived.Deep.DeepCutAuto
namespace Go.Proofs.Ytgcimcpcnoojnaa
open Go.RowKit Go.Maps

set_option maxHeartbeats 2000000 in
set_option maxRecDepth 100000 in
theorem asked_0 {Q : Int → Int → World → Prop} (a : Nat) (A B C : Int) (vI : Value) (w : World)
    (HC : Go.RowKit.Hid (∀ w', Below w.heap.size w w' → (fun w' : World => w'.cell? ⟨w.heap.size, 1, none⟩ = some (.int .i64 A)) w' → Calls Try.prog 41 #[.pointer (some ⟨a, 0, none⟩), .int .i64 A] w' fun e w'' => ∃ r er : Int, e = .returned (.tuple #[.int .i64 r, .int .i64 er]) ∧ Go.RowKit.Hid (Q r er w'') ∧ (fun w' : World => w'.cell? ⟨w.heap.size, 1, none⟩ = some (.int .i64 A)) w'')) :
    Calls Try.prog 17 #[.pointer (some ⟨a, 0, none⟩), vI, .agg #[.int .i64 0, .int .i64 A, .int .i64 B, .int .i64 C]] w fun e w'' => ∃ r er : Int, e = .returned (.tuple #[.int .i64 r, .int .i64 er]) ∧ Go.RowKit.Hid (Q r er w'') := by
  have D1 := (Below.refl w.heap.size w).alloc (Nat.le_refl _) (.cells #[.int .i64 0, .int .i64 A, .int .i64 B, .int .i64 C] 36)
  have S1 : (fun w' : World => w'.cell? ⟨w.heap.size, 1, none⟩ = some (.int .i64 A)) (w.alloc (.cells #[.int .i64 0, .int .i64 A, .int .i64 B, .int .i64 C] 36)) := by
    simp [go_sem]
  have c0 := S1
  try simp only at c0
  go_enter Try.func17, Try.ntmps17
  go_wp2_with fail
  refine (HC.out _ D1 S1).mono ?_
  rintro e wn ⟨r, er, rfl, hq, sn⟩
  go_wp2_with fail
  go_ret2
  exact ⟨r, er, rfl, hq⟩

set_option maxHeartbeats 2000000 in
set_option maxRecDepth 100000 in
theorem asked_1 {Q : Int → Int → World → Prop} (a : Nat) (A B C f : Int) (I : Nat) (w : World) (lI : I < w.heap.size) (hI0 : w.cell? ⟨I, 0, none⟩ = some (.int .i64 f))
    (HC : Go.RowKit.Hid (∀ w', Below w.heap.size w w' → (fun w' : World => w'.cell? ⟨I, 0, none⟩ = some (.int .i64 f)) w' → Calls Try.prog 42 #[.pointer (some ⟨a, 0, none⟩), .int .i64 f] w' fun e w'' => ∃ r er : Int, e = .returned (.tuple #[.int .i64 r, .int .i64 er]) ∧ Go.RowKit.Hid (Q r er w'') ∧ (fun w' : World => w'.cell? ⟨I, 0, none⟩ = some (.int .i64 f)) w'')) :
    Calls Try.prog 17 #[.pointer (some ⟨a, 0, none⟩), .slice (some ⟨I, 0, none⟩) 1 1, .agg #[.int .i64 1, .int .i64 A, .int .i64 B, .int .i64 C]] w fun e w'' => ∃ r er : Int, e = .returned (.tuple #[.int .i64 r, .int .i64 er]) ∧ Go.RowKit.Hid (Q r er w'') := by
  have D1 := (Below.refl w.heap.size w).alloc (Nat.le_refl _) (.cells #[.int .i64 1, .int .i64 A, .int .i64 B, .int .i64 C] 36)
  have S1 : (fun w' : World => w'.cell? ⟨I, 0, none⟩ = some (.int .i64 f)) (w.alloc (.cells #[.int .i64 1, .int .i64 A, .int .i64 B, .int .i64 C] 36)) := by
    exact (D1.cell (p := ⟨I, 0, none⟩) lI).trans hI0
  have c0 := S1
  try simp only at c0
  go_enter Try.func17, Try.ntmps17
  go_wp2_with fail
  refine (HC.out _ D1 S1).mono ?_
  rintro e wn ⟨r, er, rfl, hq, sn⟩
  go_wp2_with fail
  go_ret2
  exact ⟨r, er, rfl, hq⟩

set_option maxHeartbeats 2000000 in
set_option maxRecDepth 100000 in
theorem asked_2 {Q : Int → Int → World → Prop} (a : Nat) (A B C f g : Int) (I : Nat) (w : World) (lI : I < w.heap.size) (hI0 : w.cell? ⟨I, 0, none⟩ = some (.int .i64 f)) (hI1 : w.cell? ⟨I, 1, none⟩ = some (.int .i64 g))
    (HC : Go.RowKit.Hid (∀ w', Below w.heap.size w w' → (fun w' : World => w'.cell? ⟨I, 0, none⟩ = some (.int .i64 f) ∧ w'.cell? ⟨I, 1, none⟩ = some (.int .i64 g)) w' → Calls Try.prog 15 #[.pointer (some ⟨a, 0, none⟩), .int .i64 f, .int .i64 g] w' fun e w'' => ∃ r er : Int, e = .returned (.tuple #[.int .i64 r, .int .i64 er]) ∧ Go.RowKit.Hid (Q r er w'') ∧ (fun w' : World => w'.cell? ⟨I, 0, none⟩ = some (.int .i64 f) ∧ w'.cell? ⟨I, 1, none⟩ = some (.int .i64 g)) w'')) :
    Calls Try.prog 17 #[.pointer (some ⟨a, 0, none⟩), .slice (some ⟨I, 0, none⟩) 2 2, .agg #[.int .i64 2, .int .i64 A, .int .i64 B, .int .i64 C]] w fun e w'' => ∃ r er : Int, e = .returned (.tuple #[.int .i64 r, .int .i64 er]) ∧ Go.RowKit.Hid (Q r er w'') := by
  have D1 := (Below.refl w.heap.size w).alloc (Nat.le_refl _) (.cells #[.int .i64 2, .int .i64 A, .int .i64 B, .int .i64 C] 36)
  have S1 : (fun w' : World => w'.cell? ⟨I, 0, none⟩ = some (.int .i64 f) ∧ w'.cell? ⟨I, 1, none⟩ = some (.int .i64 g)) (w.alloc (.cells #[.int .i64 2, .int .i64 A, .int .i64 B, .int .i64 C] 36)) := by
    refine ⟨?_, ?_⟩
    · exact (D1.cell (p := ⟨I, 0, none⟩) lI).trans hI0
    · exact (D1.cell (p := ⟨I, 1, none⟩) lI).trans hI1

  have D2 := D1.drew
  have S2 : (fun w' : World => w'.cell? ⟨I, 0, none⟩ = some (.int .i64 f) ∧ w'.cell? ⟨I, 1, none⟩ = some (.int .i64 g)) (w.alloc (.cells #[.int .i64 2, .int .i64 A, .int .i64 B, .int .i64 C] 36)).drew := S1
  clear S1 D1
  go_enter Try.func17, Try.ntmps17
  go_wp2_with fail
  go_region_held3 (fun w' : World => w'.cell? ⟨I, 0, none⟩ = some (.int .i64 f) ∧ w'.cell? ⟨I, 1, none⟩ = some (.int .i64 g)) (assumption)
    (first
      | (go_at_call 15; refine (HC.out _ (by assumption) (by assumption)).mono ?_; rintro e wn ⟨r, er, rfl, hq, sn⟩))
  go_wp2_with fail
  go_ret2
  exact ⟨r, er, rfl, hq⟩

set_option maxHeartbeats 2000000 in
set_option maxRecDepth 100000 in
theorem asked_3 {Q : Int → Int → World → Prop} (a : Nat) (A B C f g : Int) (I : Nat) (w : World) (lI : I < w.heap.size) (hI0 : w.cell? ⟨I, 0, none⟩ = some (.int .i64 f)) (hI1 : w.cell? ⟨I, 1, none⟩ = some (.int .i64 g))
    (HC : Go.RowKit.Hid (∀ w', Below w.heap.size w w' → (fun w' : World => w'.cell? ⟨I, 0, none⟩ = some (.int .i64 f) ∧ w'.cell? ⟨I, 1, none⟩ = some (.int .i64 g)) w' → Calls Try.prog 43 #[.pointer (some ⟨a, 0, none⟩), .int .i64 f, .int .i64 g] w' fun e w'' => ∃ r er : Int, e = .returned (.tuple #[.int .i64 r, .int .i64 er]) ∧ Go.RowKit.Hid (Q r er w'') ∧ (fun w' : World => w'.cell? ⟨I, 0, none⟩ = some (.int .i64 f) ∧ w'.cell? ⟨I, 1, none⟩ = some (.int .i64 g)) w'')) :
    Calls Try.prog 17 #[.pointer (some ⟨a, 0, none⟩), .slice (some ⟨I, 0, none⟩) 2 2, .agg #[.int .i64 3, .int .i64 A, .int .i64 B, .int .i64 C]] w fun e w'' => ∃ r er : Int, e = .returned (.tuple #[.int .i64 r, .int .i64 er]) ∧ Go.RowKit.Hid (Q r er w'') := by
  have D1 := (Below.refl w.heap.size w).alloc (Nat.le_refl _) (.cells #[.int .i64 3, .int .i64 A, .int .i64 B, .int .i64 C] 36)
  have S1 : (fun w' : World => w'.cell? ⟨I, 0, none⟩ = some (.int .i64 f) ∧ w'.cell? ⟨I, 1, none⟩ = some (.int .i64 g)) (w.alloc (.cells #[.int .i64 3, .int .i64 A, .int .i64 B, .int .i64 C] 36)) := by
    refine ⟨?_, ?_⟩
    · exact (D1.cell (p := ⟨I, 0, none⟩) lI).trans hI0
    · exact (D1.cell (p := ⟨I, 1, none⟩) lI).trans hI1

  have D2 := D1.drew
  have S2 : (fun w' : World => w'.cell? ⟨I, 0, none⟩ = some (.int .i64 f) ∧ w'.cell? ⟨I, 1, none⟩ = some (.int .i64 g)) (w.alloc (.cells #[.int .i64 3, .int .i64 A, .int .i64 B, .int .i64 C] 36)).drew := S1
  clear S1 D1
  go_enter Try.func17, Try.ntmps17
  go_wp2_with fail
  go_region_held3 (fun w' : World => w'.cell? ⟨I, 0, none⟩ = some (.int .i64 f) ∧ w'.cell? ⟨I, 1, none⟩ = some (.int .i64 g)) (assumption)
    (first
      | (go_at_call 43; refine (HC.out _ (by assumption) (by assumption)).mono ?_; rintro e wn ⟨r, er, rfl, hq, sn⟩))
  go_wp2_with fail
  go_ret2
  exact ⟨r, er, rfl, hq⟩

set_option maxHeartbeats 2000000 in
set_option maxRecDepth 100000 in
theorem asked_4 {Q : Int → Int → World → Prop} (a : Nat) (A B C f g k : Int) (I : Nat) (w : World) (lI : I < w.heap.size) (hI0 : w.cell? ⟨I, 0, none⟩ = some (.int .i64 f)) (hI1 : w.cell? ⟨I, 1, none⟩ = some (.int .i64 g)) (hI2 : w.cell? ⟨I, 2, none⟩ = some (.int .i64 k))
    (HC : Go.RowKit.Hid (∀ w', Below w.heap.size w w' → (fun w' : World => w'.cell? ⟨I, 0, none⟩ = some (.int .i64 f) ∧ w'.cell? ⟨I, 1, none⟩ = some (.int .i64 g) ∧ w'.cell? ⟨I, 2, none⟩ = some (.int .i64 k)) w' → Calls Try.prog 47 #[.pointer (some ⟨a, 0, none⟩), .int .i64 f, .int .i64 g, .int .i64 k] w' fun e w'' => ∃ r er : Int, e = .returned (.tuple #[.int .i64 r, .int .i64 er]) ∧ Go.RowKit.Hid (Q r er w'') ∧ (fun w' : World => w'.cell? ⟨I, 0, none⟩ = some (.int .i64 f) ∧ w'.cell? ⟨I, 1, none⟩ = some (.int .i64 g) ∧ w'.cell? ⟨I, 2, none⟩ = some (.int .i64 k)) w'')) :
    Calls Try.prog 17 #[.pointer (some ⟨a, 0, none⟩), .slice (some ⟨I, 0, none⟩) 3 3, .agg #[.int .i64 4, .int .i64 A, .int .i64 B, .int .i64 C]] w fun e w'' => ∃ r er : Int, e = .returned (.tuple #[.int .i64 r, .int .i64 er]) ∧ Go.RowKit.Hid (Q r er w'') := by
  have D1 := (Below.refl w.heap.size w).alloc (Nat.le_refl _) (.cells #[.int .i64 4, .int .i64 A, .int .i64 B, .int .i64 C] 36)
  have S1 : (fun w' : World => w'.cell? ⟨I, 0, none⟩ = some (.int .i64 f) ∧ w'.cell? ⟨I, 1, none⟩ = some (.int .i64 g) ∧ w'.cell? ⟨I, 2, none⟩ = some (.int .i64 k)) (w.alloc (.cells #[.int .i64 4, .int .i64 A, .int .i64 B, .int .i64 C] 36)) := by
    refine ⟨?_, ?_, ?_⟩
    · exact (D1.cell (p := ⟨I, 0, none⟩) lI).trans hI0
    · exact (D1.cell (p := ⟨I, 1, none⟩) lI).trans hI1
    · exact (D1.cell (p := ⟨I, 2, none⟩) lI).trans hI2

  have D2 := D1.drew
  have S2 : (fun w' : World => w'.cell? ⟨I, 0, none⟩ = some (.int .i64 f) ∧ w'.cell? ⟨I, 1, none⟩ = some (.int .i64 g) ∧ w'.cell? ⟨I, 2, none⟩ = some (.int .i64 k)) (w.alloc (.cells #[.int .i64 4, .int .i64 A, .int .i64 B, .int .i64 C] 36)).drew := S1
  clear S1 D1
  go_enter Try.func17, Try.ntmps17
  go_wp2_with fail
  go_region_held3 (fun w' : World => w'.cell? ⟨I, 0, none⟩ = some (.int .i64 f) ∧ w'.cell? ⟨I, 1, none⟩ = some (.int .i64 g) ∧ w'.cell? ⟨I, 2, none⟩ = some (.int .i64 k)) (assumption)
    (first
      | (go_at_call 47; refine (HC.out _ (by assumption) (by assumption)).mono ?_; rintro e wn ⟨r, er, rfl, hq, sn⟩))
  go_wp2_with fail
  go_ret2
  exact ⟨r, er, rfl, hq⟩

set_option maxHeartbeats 2000000 in
set_option maxRecDepth 100000 in
theorem asked_5 {Q : Int → Int → World → Prop} (a : Nat) (A B C f : Int) (I : Nat) (w : World) (lI : I < w.heap.size) (hI0 : w.cell? ⟨I, 0, none⟩ = some (.int .i64 f))
    (HC : Go.RowKit.Hid (∀ w', Below w.heap.size w w' → (fun w' : World => w'.cell? ⟨I, 0, none⟩ = some (.int .i64 f) ∧ w'.cell? ⟨w.heap.size, 2, none⟩ = some (.int .i64 B)) w' → Calls Try.prog 44 #[.pointer (some ⟨a, 0, none⟩), .int .i64 f, .int .i64 B] w' fun e w'' => ∃ r er : Int, e = .returned (.tuple #[.int .i64 r, .int .i64 er]) ∧ Go.RowKit.Hid (Q r er w'') ∧ (fun w' : World => w'.cell? ⟨I, 0, none⟩ = some (.int .i64 f) ∧ w'.cell? ⟨w.heap.size, 2, none⟩ = some (.int .i64 B)) w'')) :
    Calls Try.prog 17 #[.pointer (some ⟨a, 0, none⟩), .slice (some ⟨I, 0, none⟩) 1 1, .agg #[.int .i64 5, .int .i64 A, .int .i64 B, .int .i64 C]] w fun e w'' => ∃ r er : Int, e = .returned (.tuple #[.int .i64 r, .int .i64 er]) ∧ Go.RowKit.Hid (Q r er w'') := by
  have D1 := (Below.refl w.heap.size w).alloc (Nat.le_refl _) (.cells #[.int .i64 5, .int .i64 A, .int .i64 B, .int .i64 C] 36)
  have S1 : (fun w' : World => w'.cell? ⟨I, 0, none⟩ = some (.int .i64 f) ∧ w'.cell? ⟨w.heap.size, 2, none⟩ = some (.int .i64 B)) (w.alloc (.cells #[.int .i64 5, .int .i64 A, .int .i64 B, .int .i64 C] 36)) := by
    refine ⟨?_, ?_⟩
    · exact (D1.cell (p := ⟨I, 0, none⟩) lI).trans hI0
    · simp [go_sem]
  have D2 := D1.drew
  have S2 : (fun w' : World => w'.cell? ⟨I, 0, none⟩ = some (.int .i64 f) ∧ w'.cell? ⟨w.heap.size, 2, none⟩ = some (.int .i64 B)) (w.alloc (.cells #[.int .i64 5, .int .i64 A, .int .i64 B, .int .i64 C] 36)).drew := S1
  clear S1 D1
  go_enter Try.func17, Try.ntmps17
  go_wp2_with fail
  go_region_held3 (fun w' : World => w'.cell? ⟨I, 0, none⟩ = some (.int .i64 f) ∧ w'.cell? ⟨w.heap.size, 2, none⟩ = some (.int .i64 B)) (assumption)
    (first
      | (go_at_call 44; refine (HC.out _ (by assumption) (by assumption)).mono ?_; rintro e wn ⟨r, er, rfl, hq, sn⟩))
  go_wp2_with fail
  go_ret2
  exact ⟨r, er, rfl, hq⟩

set_option maxHeartbeats 2000000 in
set_option maxRecDepth 100000 in
theorem asked_6 {Q : Int → Int → World → Prop} (a : Nat) (A B C f : Int) (I : Nat) (w : World) (lI : I < w.heap.size) (hI0 : w.cell? ⟨I, 0, none⟩ = some (.int .i64 f))
    (HC : Go.RowKit.Hid (∀ w', Below w.heap.size w w' → (fun w' : World => w'.cell? ⟨I, 0, none⟩ = some (.int .i64 f) ∧ w'.cell? ⟨w.heap.size, 2, none⟩ = some (.int .i64 B) ∧ w'.cell? ⟨w.heap.size, 3, none⟩ = some (.int .i64 C)) w' → Calls Try.prog 45 #[.pointer (some ⟨a, 0, none⟩), .int .i64 f, .int .i64 B, .int .i64 C] w' fun e w'' => ∃ r er : Int, e = .returned (.tuple #[.int .i64 r, .int .i64 er]) ∧ Go.RowKit.Hid (Q r er w'') ∧ (fun w' : World => w'.cell? ⟨I, 0, none⟩ = some (.int .i64 f) ∧ w'.cell? ⟨w.heap.size, 2, none⟩ = some (.int .i64 B) ∧ w'.cell? ⟨w.heap.size, 3, none⟩ = some (.int .i64 C)) w'')) :
    Calls Try.prog 17 #[.pointer (some ⟨a, 0, none⟩), .slice (some ⟨I, 0, none⟩) 1 1, .agg #[.int .i64 6, .int .i64 A, .int .i64 B, .int .i64 C]] w fun e w'' => ∃ r er : Int, e = .returned (.tuple #[.int .i64 r, .int .i64 er]) ∧ Go.RowKit.Hid (Q r er w'') := by
  have D1 := (Below.refl w.heap.size w).alloc (Nat.le_refl _) (.cells #[.int .i64 6, .int .i64 A, .int .i64 B, .int .i64 C] 36)
  have S1 : (fun w' : World => w'.cell? ⟨I, 0, none⟩ = some (.int .i64 f) ∧ w'.cell? ⟨w.heap.size, 2, none⟩ = some (.int .i64 B) ∧ w'.cell? ⟨w.heap.size, 3, none⟩ = some (.int .i64 C)) (w.alloc (.cells #[.int .i64 6, .int .i64 A, .int .i64 B, .int .i64 C] 36)) := by
    refine ⟨?_, ?_, ?_⟩
    · exact (D1.cell (p := ⟨I, 0, none⟩) lI).trans hI0
    · simp [go_sem]
    · simp [go_sem]
  have D2 := D1.drew
  have S2 : (fun w' : World => w'.cell? ⟨I, 0, none⟩ = some (.int .i64 f) ∧ w'.cell? ⟨w.heap.size, 2, none⟩ = some (.int .i64 B) ∧ w'.cell? ⟨w.heap.size, 3, none⟩ = some (.int .i64 C)) (w.alloc (.cells #[.int .i64 6, .int .i64 A, .int .i64 B, .int .i64 C] 36)).drew := S1
  clear S1 D1
  go_enter Try.func17, Try.ntmps17
  go_wp2_with fail
  go_region_held3 (fun w' : World => w'.cell? ⟨I, 0, none⟩ = some (.int .i64 f) ∧ w'.cell? ⟨w.heap.size, 2, none⟩ = some (.int .i64 B) ∧ w'.cell? ⟨w.heap.size, 3, none⟩ = some (.int .i64 C)) (assumption)
    (first
      | (go_at_call 45; refine (HC.out _ (by assumption) (by assumption)).mono ?_; rintro e wn ⟨r, er, rfl, hq, sn⟩))
  go_wp2_with fail
  go_ret2
  exact ⟨r, er, rfl, hq⟩

end Go.Proofs.Ytgcimcpcnoojnaa


