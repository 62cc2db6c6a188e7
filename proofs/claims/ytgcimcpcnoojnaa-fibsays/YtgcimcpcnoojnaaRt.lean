/-
  Lists of routes: as lists, and in memory; what a list sends where.
-/
import Derived.Test.YtgcimcpcnoojnaaProg
import Derived.WalkKit
import Derived.WalkSpells
import Derived.WalkLawsBesides
import Derived.Handy
import Derived.BigQuiet
import Derived.Deep.QuietTactic
import Derived.Deep.RegionHeld3
import Derived.Deep.DeepCutAuto
import Derived.Laws.AppendOwn
namespace Go.Proofs.Ytgcimcpcnoojnaa
open Go.RowKit

/-- A route. -/
structure Rt where
  v : Int
  b : Int
  p : Int
abbrev rtv (r : Rt) : Value := .agg #[.int .i64 r.v, .int .i64 r.b, .int .i64 r.p]
abbrev rtcells (r : Rt) : List Value := [.int .i64 r.v, .int .i64 r.b, .int .i64 r.p]
def cellsT (xs : List Rt) : List Value := xs.flatMap fun r => rtcells r

/-! ### what a list says -/
/-- Bits of an address that a route doesn't look at. -/
def bh (b : Int) : Nat := (4 - b).toNat
def isR (r : Rt) : Bool := decide (0 ≤ r.b) && decide (r.b ≤ 4) && decide (0 ≤ r.v) && decide (r.v < 16) && decide (r.v % 2 ^ bh r.b = 0) && decide (0 ≤ r.p) && decide (r.p < 4)
def takesB (r : Rt) (d : Int) : Bool := decide (d / 2 ^ bh r.b = r.v / 2 ^ bh r.b)
/-- The best route up to here: its bits and port; -1 and 0, if there is none. -/
def better (d : Int) (m : Int × Int) (r : Rt) : Int × Int := if isR r && takesB r d && decide (m.1 < r.b) then (r.b, r.p) else m
def bestOf (l : List Rt) (d : Int) : Int × Int := l.foldl (better d) (-1, 0)
/-- What Out tells. -/
def outN (l : List Rt) (d : Int) : Int := if 0 ≤ d ∧ d < 16 then (bestOf l d).2 else 0
def outB (l : List Rt) (d : Int) : Bool := decide (0 ≤ d) && decide (d < 16) && !((bestOf l d).1 == -1)

theorem isR_bits {r : Rt} (h : isR r = true) : 0 ≤ r.b ∧ r.b ≤ 4 := by
  simp only [isR, Bool.and_eq_true, decide_eq_true_eq] at h
  exact ⟨h.1.1.1.1.1.1, h.1.1.1.1.1.2⟩
theorem isR_val {r : Rt} (h : isR r = true) : 0 ≤ r.v ∧ r.v < 16 ∧ r.v % 2 ^ bh r.b = 0 := by
  simp only [isR, Bool.and_eq_true, decide_eq_true_eq] at h
  exact ⟨h.1.1.1.1.2, h.1.1.1.2, h.1.1.2⟩
theorem bestOf_append (l m : List Rt) (d : Int) : bestOf (l ++ m) d = m.foldl (better d) (bestOf l d) := List.foldl_append ..
theorem bestOf_snoc (l : List Rt) (r : Rt) (d : Int) : bestOf (l ++ [r]) d = better d (bestOf l d) r := by rw [bestOf_append]; rfl
theorem bestOf_take {xs : List Rt} {k : Nat} {r : Rt} (h : xs[k]? = some r) (d : Int) : bestOf (xs.take (k + 1)) d = better d (bestOf (xs.take k) d) r := by
  obtain ⟨hk, e⟩ := List.getElem?_eq_some_iff.1 h
  rw [List.take_succ_eq_append_getElem hk, e, bestOf_snoc]
theorem better_top {m : Int × Int} {d : Int} (h : 4 ≤ m.1) (r : Rt) : better d m r = m := by
  unfold better
  split
  · rename_i hc
    simp only [Bool.and_eq_true, decide_eq_true_eq] at hc
    have := (isR_bits hc.1.1).2
    omega
  · rfl
theorem fold_top {d : Int} : ∀ (l : List Rt) (m : Int × Int), 4 ≤ m.1 → l.foldl (better d) m = m
  | [], _, _ => rfl
  | r :: l, m, h => by rw [List.foldl_cons, better_top h]; exact fold_top l m h
theorem fold_low {d : Int} : ∀ (l : List Rt) (m : Int × Int), (-1 ≤ m.1 ∧ (m.1 = -1 → m.2 = 0)) → (-1 ≤ (l.foldl (better d) m).1 ∧ ((l.foldl (better d) m).1 = -1 → (l.foldl (better d) m).2 = 0))
  | [], _, h => h
  | r :: l, m, h => by
    rw [List.foldl_cons]
    refine fold_low l _ ?_
    unfold better
    split
    · rename_i hc
      simp only [Bool.and_eq_true, decide_eq_true_eq] at hc
      have := (isR_bits hc.1.1).1
      exact ⟨by simp only; omega, fun e => by simp only at e; omega⟩
    · exact h
theorem bestOf_low (l : List Rt) (d : Int) : -1 ≤ (bestOf l d).1 ∧ ((bestOf l d).1 = -1 → (bestOf l d).2 = 0) := fold_low l (-1, 0) ⟨by simp, fun _ => rfl⟩
/-- A route of all four bits wins. -/
theorem out_ahead (l : List Rt) {d k : Int} (hd : 0 ≤ d ∧ d < 16) (hk : 0 ≤ k ∧ k < 4) : outN (⟨d, 4, k⟩ :: l) d = k ∧ outB (⟨d, 4, k⟩ :: l) d = true := by
  have h0 : better d (-1, 0) ⟨d, 4, k⟩ = (4, k) := by
    unfold better
    rw [if_pos]
    simp [isR, takesB, bh]
    omega
  have h1 : bestOf (⟨d, 4, k⟩ :: l) d = (4, k) := by
    unfold bestOf
    rw [List.foldl_cons, h0]
    exact fold_top l _ (by simp)
  unfold outN outB
  rw [h1, if_pos hd]
  simp [hd]
/-- A route for all is asked last. -/
theorem out_last (l : List Rt) {d k : Int} (hd : 0 ≤ d ∧ d < 16) (hk : 0 ≤ k ∧ k < 4) : outB (l ++ [⟨0, 0, k⟩]) d = true ∧ (outB l d = true → outN (l ++ [⟨0, 0, k⟩]) d = outN l d) ∧ (outB l d = false → outN (l ++ [⟨0, 0, k⟩]) d = k) := by
  have hl := (bestOf_low l d).1
  have ht : takesB ⟨0, 0, k⟩ d = true := by
    refine decide_eq_true ?_
    show d / 16 = 0 / 16
    omega
  have hr : isR ⟨0, 0, k⟩ = true := by
    simp [isR, bh]
    omega
  have h1 : bestOf (l ++ [⟨0, 0, k⟩]) d = if (bestOf l d).1 < 0 then (0, k) else bestOf l d := by
    rw [bestOf_snoc]
    unfold better
    rw [hr, ht]
    simp only [Bool.true_and, decide_eq_true_eq]
  unfold outN outB
  rw [h1, if_pos hd, if_pos hd]
  by_cases hb : (bestOf l d).1 < 0
  · have : (bestOf l d).1 = -1 := by omega
    rw [if_pos hb, this]
    simp [hd]
  · rw [if_neg hb]
    have : ¬ (bestOf l d).1 = -1 := by omega
    simp [hd, this]

/-! ### Check -/
def sameA (r s : Rt) : Bool := (r.v == s.v) && (r.b == s.b)
/-- What Check tells of the k-th, if none ahead of it is wrong. -/
def wrongAt (xs : List Rt) (k : Nat) (r : Rt) : Int := if isR r then (if (xs.take k).any (fun a => sameA a r) then 5 else 0) else 1
def checkFrom (xs : List Rt) (k : Nat) : Int :=
  if h : k < xs.length then (if wrongAt xs k xs[k] = 0 then checkFrom xs (k + 1) else wrongAt xs k xs[k]) else 0
termination_by xs.length - k
def checkV (xs : List Rt) : Int := if 8 < xs.length then 2 else checkFrom xs 0
theorem checkFrom_at {xs : List Rt} {k : Nat} {r : Rt} (h : xs[k]? = some r) : checkFrom xs k = if wrongAt xs k r = 0 then checkFrom xs (k + 1) else wrongAt xs k r := by
  obtain ⟨hk, e⟩ := List.getElem?_eq_some_iff.1 h
  rw [checkFrom, dif_pos hk, e]
theorem checkFrom_end {xs : List Rt} {k : Nat} (h : xs.length ≤ k) : checkFrom xs k = 0 := by rw [checkFrom, dif_neg (by omega)]

/-! ### in memory -/
theorem cellsT_cons (r : Rt) (l : List Rt) : cellsT (r :: l) = rtcells r ++ cellsT l := rfl
theorem cellsT_append (a b : List Rt) : cellsT (a ++ b) = cellsT a ++ cellsT b := by simp [cellsT]
theorem cellsT_length : ∀ xs : List Rt, (cellsT xs).length = xs.length * 3
  | [] => rfl
  | r :: l => by
    have := cellsT_length l
    rw [cellsT_cons, List.length_append, this]
    simp
    omega
theorem cellsT_one : ∀ xs : List Rt, ∀ u ∈ cellsT xs, u.oneCell' = true
  | [], u, h => by simp [cellsT] at h
  | r :: l, u, h => by
    rw [cellsT_cons, List.mem_append] at h
    rcases h with h | h
    · simp only [rtcells, List.mem_cons, List.not_mem_nil, or_false] at h
      rcases h with rfl | rfl | rfl <;> rfl
    · exact cellsT_one l u h
theorem cellsT_at : ∀ (xs : List Rt) (k : Nat) (r : Rt), xs[k]? = some r →
    (cellsT xs)[k * 3]? = some (.int .i64 r.v) ∧ (cellsT xs)[k * 3 + 1]? = some (.int .i64 r.b) ∧ (cellsT xs)[k * 3 + 2]? = some (.int .i64 r.p)
  | [], k, r, h => by simp at h
  | x :: l, 0, r, h => by
    obtain rfl : x = r := by simpa using h
    exact ⟨rfl, rfl, rfl⟩
  | x :: l, k + 1, r, h => by
    have ih := cellsT_at l k r (by simpa using h)
    have sh : ∀ j, (cellsT (x :: l))[(k + 1) * 3 + j]? = (cellsT l)[k * 3 + j]? := fun j => by
      rw [cellsT_cons, List.getElem?_append_right (by simp; omega)]
      congr 1
      simp
      omega
    have s0 := sh 0
    simp only [Nat.add_zero] at s0
    rw [s0, sh 1, sh 2]
    exact ih

/-- So the routes lie in block b, from cell o on. -/
def TAt (w : World) (b o : Nat) (xs : List Rt) : Prop := ∀ j u, (cellsT xs)[j]? = some u → w.cell? ⟨b, o + j, none⟩ = some u
/-- A slice that holds the routes, below block number base. -/
def Routes (base : Nat) (w : World) (v : Value) (xs : List Rt) : Prop :=
  ∃ A cap, v = .slice A xs.length cap ∧ (A = none → cap = 0) ∧ xs.length ≤ cap ∧ cap ≤ maxLen ∧ (xs ≠ [] → ∃ b o, A = some ⟨b, o, none⟩ ∧ b < base ∧ TAt w b o xs)

theorem TAt.at {w : World} {b o : Nat} {xs : List Rt} (h : TAt w b o xs) {k : Nat} {r : Rt} (hk : xs[k]? = some r) :
    w.cell? ⟨b, o + k * 3, none⟩ = some (.int .i64 r.v) ∧ w.cell? ⟨b, o + k * 3 + 1, none⟩ = some (.int .i64 r.b) ∧ w.cell? ⟨b, o + k * 3 + 2, none⟩ = some (.int .i64 r.p) := by
  obtain ⟨h0, h1, h2⟩ := cellsT_at xs k r hk
  exact ⟨h _ _ h0, h _ _ h1, h _ _ h2⟩
theorem TAt.below {base : Nat} {w w' : World} {b o : Nat} {xs : List Rt} (h : TAt w b o xs) (hb : Below base w w') (hl : b < base) : TAt w' b o xs :=
  fun j u hj => (hb.cell (p := ⟨b, _, none⟩) hl).trans (h j u hj)
theorem TAt.take {w : World} {b o : Nat} {xs : List Rt} (h : TAt w b o xs) (k : Nat) : TAt w b o (xs.take k) := fun j u hj => by
  refine h j u ?_
  have e : cellsT xs = cellsT (xs.take k) ++ cellsT (xs.drop k) := by rw [← cellsT_append, List.take_append_drop]
  rw [e, List.getElem?_append_left (List.getElem?_eq_some_iff.1 hj).1]
  exact hj
theorem Routes.below {base : Nat} {w w' : World} {v : Value} {xs : List Rt} (h : Routes base w v xs) (hb : Below base w w') : Routes base w' v xs := by
  obtain ⟨A, cap, e, h0, h1, h2, h3⟩ := h
  refine ⟨A, cap, e, h0, h1, h2, fun hn => ?_⟩
  obtain ⟨b, o, ea, hl, hr⟩ := h3 hn
  exact ⟨b, o, ea, hl, hr.below hb hl⟩
theorem Routes.mono {base base' : Nat} {w : World} {v : Value} {xs : List Rt} (h : Routes base w v xs) (hb : base ≤ base') : Routes base' w v xs := by
  obtain ⟨A, cap, e, h0, h1, h2, h3⟩ := h
  refine ⟨A, cap, e, h0, h1, h2, fun hn => ?_⟩
  obtain ⟨b, o, ea, hl, hr⟩ := h3 hn
  exact ⟨b, o, ea, by omega, hr⟩
/-- A row of a call's own, read as routes. -/
theorem Routes.own {base : Nat} {w : World} {t : TypeId} {v : Value} {xs : List Rt} (h : w.ownsRow base t 3 v xs.length (cellsT xs)) : Routes w.heap.size w v xs := by
  obtain ⟨hl, hc⟩ := h
  rcases hc with ⟨rfl, h0⟩ | ⟨g, cap, cur, rfl, hb, hg, hn, hcap, hs, ht⟩
  · exact ⟨none, 0, by rw [h0], fun _ => rfl, by omega, by unfold maxLen; omega, fun hn => absurd (List.length_eq_zero_iff.1 h0) hn⟩
  · refine ⟨_, cap, rfl, (fun e => by cases e), hn, hcap, fun _ => ⟨g, 0, rfl, (Array.getElem?_eq_some_iff.1 hg).1, fun j u hj => ?_⟩⟩
    have hown : w.ownsRow base t 3 (.slice (some ⟨g, 0, none⟩) xs.length cap) xs.length (cellsT xs) := ⟨hl, .inr ⟨g, cap, cur, rfl, hb, hg, hn, hcap, hs, ht⟩⟩
    have := hown.cells (g := g) rfl j u hj
    rw [Addr.add_lit] at this
    exact this

theorem chn {W0 W w' : World} (hb : Below W.heap.size W w') (h : Below W0.heap.size W0 W) : Below W0.heap.size W0 w' := h.trans (hb.mono h.size)
theorem Below.al {W0 w : World} (h : Below W0.heap.size W0 w) (o : Obj) : Below W0.heap.size W0 (w.alloc o) := h.alloc h.size o
/-- Three cells lie in a block of their own. -/
def Three (w : World) (n : Nat) (a b c : Value) : Prop :=
  n < w.heap.size ∧ w.cell? ⟨n, 0, none⟩ = some a ∧ w.cell? ⟨n, 1, none⟩ = some b ∧ w.cell? ⟨n, 2, none⟩ = some c
theorem keepThree {B : Nat} {W w' : World} {n : Nat} {a b c : Value} (hb : Below B W w') (hB : n < B) (h : Three W n a b c) : Three w' n a b c := by
  obtain ⟨h0, h1, h2, h3⟩ := h
  exact ⟨Nat.lt_of_lt_of_le h0 hb.size, (hb.cell (p := ⟨n, 0, none⟩) hB).trans h1, (hb.cell (p := ⟨n, 1, none⟩) hB).trans h2, (hb.cell (p := ⟨n, 2, none⟩) hB).trans h3⟩
theorem Three.drew {w : World} {n : Nat} {a b c : Value} (h : Three w n a b c) : Three w.drew n a b c := h
theorem three_new (w : World) (a b c : Value) (t : TypeId) : Three (w.alloc (.cells #[a, b, c] t)) w.heap.size a b c :=
  ⟨by simp, by simp [go_sem], by simp [go_sem], by simp [go_sem]⟩
theorem allocThree {w : World} {n : Nat} {a b c : Value} (h : Three w n a b c) (o : Obj) : Three (w.alloc o) n a b c := keepThree ((Below.refl _ _).alloc (Nat.le_refl _) o) h.1 h
end Go.Proofs.Ytgcimcpcnoojnaa


