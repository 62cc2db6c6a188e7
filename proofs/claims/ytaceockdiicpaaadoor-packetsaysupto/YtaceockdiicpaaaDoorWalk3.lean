/-
  parseEnd and Parse: what they tell is what the plain functions 'pend' and 'pkt' of the text Plain tell, for every text; no memory that was there is turned.
-/
import Derived.Test.YtaceockdiicpaaaDoorWalk2
namespace Go.Proofs.YtaceockdiicpaaaDoor
open Go.RowKit

/-- What parseEnd tells. -/
def endV (t : Nat × Nat × Bool) : Value := .tuple #[.int .i64 (t.1 : Nat), .int .i64 (t.2.1 : Nat), .bool t.2.2]

set_option maxHeartbeats 1000000 in
theorem end_core (s : ByteArray) (a b : List UInt8) (oa ob : Option Nat) (w : World)
    (hc : Hid (∀ w, Calls Tryd.prog 27 #[.string s, .string ⟨#[58]⟩] w fun e w' => e = .returned (.tuple #[.string ⟨a.toArray⟩, .string ⟨b.toArray⟩, .bool true]) ∧ ∃ n, w' = w.drewN n))
    (ha : Hid (∀ w, Calls Tryd.prog 45 #[.string ⟨a.toArray⟩] w fun e w' => e = .returned (numV oa) ∧ w' = w))
    (hb : Hid (∀ w, Calls Tryd.prog 45 #[.string ⟨b.toArray⟩] w fun e w' => e = .returned (numV ob) ∧ w' = w)) :
    Calls Tryd.prog 28 #[.string s] w fun e w' => e = .returned (.tuple #[.int .i64 (oa.getD 0 : Nat), .int .i64 (ob.getD 0 : Nat), .bool (oa.isSome && ob.isSome)]) ∧ ∃ n, w' = w.drewN n := by
  rcases oa with _ | x <;> rcases ob with _ | y
  all_goals
    go_enter Tryd.func28, Tryd.ntmps28
    go_wp2_with fail
    refine (hc.out _).mono ?_
    rintro e w1 ⟨rfl, n, rfl⟩
    go_wp2_with fail
    refine (ha.out _).mono ?_
    rintro e w1 ⟨rfl, rfl⟩
    simp only [numV, Option.getD_none, Option.getD_some, Option.isSome_none, Option.isSome_some]
    go_wp2_with fail
    refine (hb.out _).mono ?_
    rintro e w1 ⟨rfl, rfl⟩
    simp only [numV, Option.getD_none, Option.getD_some, Option.isSome_none, Option.isSome_some]
    go_wp2
    go_ret3
    exact ⟨rfl, n, rfl⟩

set_option maxHeartbeats 1000000 in
theorem end_none (s : ByteArray) (w : World)
    (hc : Hid (∀ w, Calls Tryd.prog 27 #[.string s, .string ⟨#[58]⟩] w fun e w' => e = .returned (.tuple #[.string s, .string ⟨#[]⟩, .bool false]) ∧ ∃ n, w' = w.drewN n)) :
    Calls Tryd.prog 28 #[.string s] w fun e w' => e = .returned (.tuple #[.int .i64 0, .int .i64 0, .bool false]) ∧ ∃ n, w' = w.drewN n := by
  go_enter Tryd.func28, Tryd.ntmps28
  go_wp2_with fail
  refine (hc.out _).mono ?_
  rintro e w1 ⟨rfl, n, rfl⟩
  go_wp2
  go_ret3
  exact ⟨rfl, n, rfl⟩

theorem mk_size (l : List UInt8) : (⟨l.toArray⟩ : ByteArray).size = l.length := by
  rw [Lib.size_eq]
theorem mk_list (l : List UInt8) : (⟨l.toArray⟩ : ByteArray).data.toList = l := rfl

theorem end_any (s : ByteArray) (w : World) (hm : s.size ≤ maxLen) :
    Calls Tryd.prog 28 #[.string s] w fun e w' => e = .returned (endV (Pk.pend s.data.toList)) ∧ ∃ n, w' = w.drewN n := by
  unfold Pk.pend
  cases h : Pk.brk 58 s.data.toList with
  | none => exact end_none s w (fun w => cut_none s 58 w h)
  | some q =>
    obtain ⟨a, b⟩ := q
    have hl := (Pk.brk_some 58 _ a b h).1
    have hs : s.size = a.length + (b.length + 1) := by rw [Lib.size_eq, hl]; simp
    have ka : Hid (∀ w, Calls Tryd.prog 45 #[.string ⟨a.toArray⟩] w fun e w' => e = .returned (numV (Pk.num a)) ∧ w' = w) := fun w => number_any ⟨a.toArray⟩ w (by rw [mk_size]; omega)
    have kb : Hid (∀ w, Calls Tryd.prog 45 #[.string ⟨b.toArray⟩] w fun e w' => e = .returned (numV (Pk.num b)) ∧ w' = w) := fun w => number_any ⟨b.toArray⟩ w (by rw [mk_size]; omega)
    exact end_core s a b _ _ w (fun w => cut_some s 58 a b w hm h) ka kb

/-- What Parse tells. -/
def pktV : Option (Nat × Nat × Nat × Nat) → Value
  | none => .tuple #[pk 0 0 0 0, .int .i64 3]
  | some (a, b, c, d) => .tuple #[pk a b c d, .int .i64 0]

theorem below_set4 {B b : Nat} {a w : World} (h : Below B a w) (hb : B ≤ b) (v0 v1 v2 v3 : Value) :
    Below B a ((((w.setCell ⟨b, 0, none⟩ v0).setCell ⟨b, 1, none⟩ v1).setCell ⟨b, 2, none⟩ v2).setCell ⟨b, 3, none⟩ v3) :=
  (((h.setCell (p := ⟨b, 0, none⟩) hb v0).setCell (p := ⟨b, 1, none⟩) hb v1).setCell (p := ⟨b, 2, none⟩) hb v2).setCell (p := ⟨b, 3, none⟩) hb v3

set_option maxHeartbeats 1000000 in
theorem parse_none (s : ByteArray) (w : World)
    (hc : Hid (∀ w, Calls Tryd.prog 27 #[.string s, .string ⟨#[62]⟩] w fun e w' => e = .returned (.tuple #[.string s, .string ⟨#[]⟩, .bool false]) ∧ ∃ n, w' = w.drewN n)) :
    Calls Tryd.prog 12 #[.string s] w fun e w' => e = .returned (.tuple #[pk 0 0 0 0, .int .i64 3]) ∧ Below w.heap.size w w' := by
  go_enter Tryd.func12, Tryd.ntmps12
  go_wp2_with fail
  refine (hc.out _).mono ?_
  rintro e w1 ⟨rfl, n, rfl⟩
  go_wp2
  exact bodyPost_ret (v := .tuple #[pk 0 0 0 0, .int .i64 3]) (by simp [results, Tryd.results12, go_sem]) rfl ⟨rfl, below_set4 (below_drewN ((Below.refl _ _).alloc (Nat.le_refl _) _) _) (Nat.le_refl _) _ _ _ _⟩

set_option maxHeartbeats 1000000 in
theorem parse_bad (s : ByteArray) (f t : List UInt8) (x1 p1 x2 p2 : Nat) (b1 b2 : Bool) (hb : (b1 && b2) = false) (w : World)
    (hc : Hid (∀ w, Calls Tryd.prog 27 #[.string s, .string ⟨#[62]⟩] w fun e w' => e = .returned (.tuple #[.string ⟨f.toArray⟩, .string ⟨t.toArray⟩, .bool true]) ∧ ∃ n, w' = w.drewN n))
    (h1 : Hid (∀ w, Calls Tryd.prog 28 #[.string ⟨f.toArray⟩] w fun e w' => e = .returned (.tuple #[.int .i64 (x1 : Nat), .int .i64 (p1 : Nat), .bool b1]) ∧ ∃ n, w' = w.drewN n))
    (h2 : Hid (∀ w, Calls Tryd.prog 28 #[.string ⟨t.toArray⟩] w fun e w' => e = .returned (.tuple #[.int .i64 (x2 : Nat), .int .i64 (p2 : Nat), .bool b2]) ∧ ∃ n, w' = w.drewN n)) :
    Calls Tryd.prog 12 #[.string s] w fun e w' => e = .returned (.tuple #[pk 0 0 0 0, .int .i64 3]) ∧ Below w.heap.size w w' := by
  cases b1 <;> cases b2 <;> first | (exact absurd hb (by decide)) | clear hb
  all_goals
    go_enter Tryd.func12, Tryd.ntmps12
    go_wp2_with fail
    refine (hc.out _).mono ?_
    rintro e w1 ⟨rfl, n, rfl⟩
    go_wp2_with fail
    refine (h1.out _).mono ?_
    rintro e w1 ⟨rfl, n1, rfl⟩
    go_wp2_with fail
    refine (h2.out _).mono ?_
    rintro e w1 ⟨rfl, n2, rfl⟩
    go_wp2
    refine bodyPost_ret (v := .tuple #[pk 0 0 0 0, .int .i64 3]) (by simp [results, Tryd.results12, go_sem]) rfl ⟨rfl, ?_⟩
    exact (below_set4 (below_drewN ((Below.refl _ _).alloc (Nat.le_refl _) _) _) (Nat.le_refl _) _ _ _ _).alloc (by simp) _

set_option maxHeartbeats 1000000 in
theorem parse_range (s : ByteArray) (f t : List UInt8) (x1 p1 x2 p2 : Nat) (w : World)
    (hr : Hid (¬ (((0 : Int) ≤ x1 ∧ (x1 : Int) < 16) ∧ ((0 : Int) ≤ x2 ∧ (x2 : Int) < 16) ∧ ((0 : Int) ≤ p1 ∧ (p1 : Int) < 8) ∧ ((0 : Int) ≤ p2 ∧ (p2 : Int) < 8))))
    (hc : Hid (∀ w, Calls Tryd.prog 27 #[.string s, .string ⟨#[62]⟩] w fun e w' => e = .returned (.tuple #[.string ⟨f.toArray⟩, .string ⟨t.toArray⟩, .bool true]) ∧ ∃ n, w' = w.drewN n))
    (h1 : Hid (∀ w, Calls Tryd.prog 28 #[.string ⟨f.toArray⟩] w fun e w' => e = .returned (.tuple #[.int .i64 (x1 : Nat), .int .i64 (p1 : Nat), .bool true]) ∧ ∃ n, w' = w.drewN n))
    (h2 : Hid (∀ w, Calls Tryd.prog 28 #[.string ⟨t.toArray⟩] w fun e w' => e = .returned (.tuple #[.int .i64 (x2 : Nat), .int .i64 (p2 : Nat), .bool true]) ∧ ∃ n, w' = w.drewN n)) :
    Calls Tryd.prog 12 #[.string s] w fun e w' => e = .returned (.tuple #[pk 0 0 0 0, .int .i64 3]) ∧ Below w.heap.size w w' := by
  go_enter Tryd.func12, Tryd.ntmps12
  go_wp2_with fail
  refine (hc.out _).mono ?_
  rintro e w1 ⟨rfl, n, rfl⟩
  go_wp2_with fail
  refine (h1.out _).mono ?_
  rintro e w1 ⟨rfl, n1, rfl⟩
  go_wp2_with fail
  refine (h2.out _).mono ?_
  rintro e w1 ⟨rfl, n2, rfl⟩
  go_wp2_with fail
  refine (check_no _ _ _ _ _ hr.out).mono ?_
  rintro e w1 ⟨rfl, hb⟩
  obtain ⟨hce, hf⟩ := bcell hb
  have hz := hb.size
  have k0 : w1.cell? ⟨w.heap.size, 0, none⟩ = some (.int .i64 0) := by rw [hce _ _ (by simp; omega)]; simp [go_sem]
  have k1 : w1.cell? ⟨w.heap.size, 1, none⟩ = some (.int .i64 0) := by rw [hce _ _ (by simp; omega)]; simp [go_sem]
  have k2 : w1.cell? ⟨w.heap.size, 2, none⟩ = some (.int .i64 0) := by rw [hce _ _ (by simp; omega)]; simp [go_sem]
  have k3 : w1.cell? ⟨w.heap.size, 3, none⟩ = some (.int .i64 0) := by rw [hce _ _ (by simp; omega)]; simp [go_sem]
  go_wp2
  refine bodyPost_ret (v := .tuple #[pk 0 0 0 0, .int .i64 3]) (by simp [results, Tryd.results12, go_sem, k0, k1, k2, k3]) rfl ⟨rfl, ?_⟩
  exact below_set4 (((below_drewN ((Below.refl w.heap.size w).alloc (Nat.le_refl _) _) _).alloc (by simp) _).trans (hb.mono (B' := w.heap.size) (by simp; omega))) (Nat.le_refl _) _ _ _ _
set_option maxHeartbeats 1000000 in
theorem parse_good (s : ByteArray) (f t : List UInt8) (x1 p1 x2 p2 : Nat) (w : World)
    (hr : Hid ((((0 : Int) ≤ x1 ∧ (x1 : Int) < 16) ∧ ((0 : Int) ≤ x2 ∧ (x2 : Int) < 16) ∧ ((0 : Int) ≤ p1 ∧ (p1 : Int) < 8) ∧ ((0 : Int) ≤ p2 ∧ (p2 : Int) < 8))))
    (hc : Hid (∀ w, Calls Tryd.prog 27 #[.string s, .string ⟨#[62]⟩] w fun e w' => e = .returned (.tuple #[.string ⟨f.toArray⟩, .string ⟨t.toArray⟩, .bool true]) ∧ ∃ n, w' = w.drewN n))
    (h1 : Hid (∀ w, Calls Tryd.prog 28 #[.string ⟨f.toArray⟩] w fun e w' => e = .returned (.tuple #[.int .i64 (x1 : Nat), .int .i64 (p1 : Nat), .bool true]) ∧ ∃ n, w' = w.drewN n))
    (h2 : Hid (∀ w, Calls Tryd.prog 28 #[.string ⟨t.toArray⟩] w fun e w' => e = .returned (.tuple #[.int .i64 (x2 : Nat), .int .i64 (p2 : Nat), .bool true]) ∧ ∃ n, w' = w.drewN n)) :
    Calls Tryd.prog 12 #[.string s] w fun e w' => e = .returned (.tuple #[pk x1 x2 p1 p2, .int .i64 0]) ∧ Below w.heap.size w w' := by
  go_enter Tryd.func12, Tryd.ntmps12
  go_wp2_with fail
  refine (hc.out _).mono ?_
  rintro e w1 ⟨rfl, n, rfl⟩
  go_wp2_with fail
  refine (h1.out _).mono ?_
  rintro e w1 ⟨rfl, n1, rfl⟩
  go_wp2_with fail
  refine (h2.out _).mono ?_
  rintro e w1 ⟨rfl, n2, rfl⟩
  go_wp2_with fail
  refine (check_yes _ _ _ _ _ hr.out).mono ?_
  rintro e w1 ⟨rfl, hb⟩
  obtain ⟨hce, hf⟩ := bcell hb
  have hz := hb.size
  have k0 : w1.cell? ⟨w.heap.size, 0, none⟩ = some (.int .i64 0) := by rw [hce _ _ (by simp; omega)]; simp [go_sem]
  have k1 : w1.cell? ⟨w.heap.size, 1, none⟩ = some (.int .i64 0) := by rw [hce _ _ (by simp; omega)]; simp [go_sem]
  have k2 : w1.cell? ⟨w.heap.size, 2, none⟩ = some (.int .i64 0) := by rw [hce _ _ (by simp; omega)]; simp [go_sem]
  have k3 : w1.cell? ⟨w.heap.size, 3, none⟩ = some (.int .i64 0) := by rw [hce _ _ (by simp; omega)]; simp [go_sem]
  have m0 : w1.cell? ⟨w.heap.size + 1, 0, none⟩ = some (.int .i64 x1) := by rw [hce _ _ (by simp)]; simp [go_sem]
  have m1 : w1.cell? ⟨w.heap.size + 1, 1, none⟩ = some (.int .i64 x2) := by rw [hce _ _ (by simp)]; simp [go_sem]
  have m2 : w1.cell? ⟨w.heap.size + 1, 2, none⟩ = some (.int .i64 p1) := by rw [hce _ _ (by simp)]; simp [go_sem]
  have m3 : w1.cell? ⟨w.heap.size + 1, 3, none⟩ = some (.int .i64 p2) := by rw [hce _ _ (by simp)]; simp [go_sem]
  go_wp2
  refine bodyPost_ret (v := .tuple #[pk x1 x2 p1 p2, .int .i64 0]) (by simp [results, Tryd.results12, go_sem, k0, k1, k2, k3]) rfl ⟨rfl, ?_⟩
  exact below_set4 (((below_drewN ((Below.refl w.heap.size w).alloc (Nat.le_refl _) _) _).alloc (by simp) _).trans (hb.mono (B' := w.heap.size) (by simp; omega))) (Nat.le_refl _) _ _ _ _

theorem parse_any (s : ByteArray) (w : World) (hm : s.size ≤ maxLen) :
    Calls Tryd.prog 12 #[.string s] w fun e w' => e = .returned (pktV (Pk.pkt s.data.toList)) ∧ Below w.heap.size w w' := by
  unfold Pk.pkt
  cases h : Pk.brk 62 s.data.toList with
  | none => exact parse_none s w (fun w => cut_none s 62 w h)
  | some q =>
    obtain ⟨f, t⟩ := q
    have hl := (Pk.brk_some 62 _ f t h).1
    have hs : s.size = f.length + (t.length + 1) := by rw [Lib.size_eq, hl]; simp
    have kc : Hid (∀ w, Calls Tryd.prog 27 #[.string s, .string ⟨#[62]⟩] w fun e w' => e = .returned (.tuple #[.string ⟨f.toArray⟩, .string ⟨t.toArray⟩, .bool true]) ∧ ∃ n, w' = w.drewN n) := fun w => cut_some s 62 f t w hm h
    have k1 : Hid (∀ w, Calls Tryd.prog 28 #[.string ⟨f.toArray⟩] w fun e w' => e = .returned (endV (Pk.pend f)) ∧ ∃ n, w' = w.drewN n) := fun w => end_any ⟨f.toArray⟩ w (by rw [mk_size]; omega)
    have k2 : Hid (∀ w, Calls Tryd.prog 28 #[.string ⟨t.toArray⟩] w fun e w' => e = .returned (endV (Pk.pend t)) ∧ ∃ n, w' = w.drewN n) := fun w => end_any ⟨t.toArray⟩ w (by rw [mk_size]; omega)
    simp only
    generalize Pk.pend f = pf at *
    generalize Pk.pend t = pt at *
    obtain ⟨x1, p1, b1⟩ := pf
    obtain ⟨x2, p2, b2⟩ := pt
    simp only
    by_cases hb : (b1 && b2) = true
    · obtain ⟨rfl, rfl⟩ : b1 = true ∧ b2 = true := by simpa using hb
      by_cases hr : ((0 : Int) ≤ x1 ∧ (x1 : Int) < 16) ∧ ((0 : Int) ≤ x2 ∧ (x2 : Int) < 16) ∧ ((0 : Int) ≤ p1 ∧ (p1 : Int) < 8) ∧ ((0 : Int) ≤ p2 ∧ (p2 : Int) < 8)
      · rw [if_pos ⟨rfl, rfl, by omega, by omega, by omega, by omega⟩]
        exact parse_good s f t x1 p1 x2 p2 w hr kc k1 k2
      · rw [if_neg (fun ⟨_, _, r1, r2, r3, r4⟩ => hr ⟨⟨by omega, by omega⟩, ⟨by omega, by omega⟩, ⟨by omega, by omega⟩, ⟨by omega, by omega⟩⟩)]
        exact parse_range s f t x1 p1 x2 p2 w hr kc k1 k2
    · rw [if_neg (fun ⟨r1, r2, _⟩ => hb (by rw [r1, r2]; rfl))]
      exact parse_bad s f t x1 p1 x2 p2 b1 b2 (by simpa using hb) w kc k1 k2
end Go.Proofs.YtaceockdiicpaaaDoor
