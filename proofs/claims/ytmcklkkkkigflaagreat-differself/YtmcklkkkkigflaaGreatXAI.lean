/-
  XAI.
-/
import Derived.Test.YtmcklkkkkigflaaGreatProg
import Derived.WalkKit
import Derived.WalkSpells
import Derived.WalkLawsBesides
import Derived.Handy
import Derived.BigQuiet
import Derived.Deep.QuietTactic
import Derived.Deep.RegionHeld3
import Derived.Deep.DeepCutAuto
import Derived.Laws.AppendOwn
import Derived.Test.YtmcklkkkkigflaaGreatLy
import Derived.Test.YtmcklkkkkigflaaGreatXAF
import Derived.Test.YtmcklkkkkigflaaGreatXAG
set_option maxHeartbeats 8000000
set_option maxRecDepth 100000
namespace Go.Proofs.YtmcklkkkkigflaaGreat
open Go.RowKit
structure Rt where
 v : Int
 b : Int
 p : Int
abbrev rtv (r : Rt) : Value := .agg #[.int .i64 r.v, .int .i64 r.b, .int .i64 r.p]
abbrev rtcells (r : Rt) : List Value := [.int .i64 r.v, .int .i64 r.b, .int .i64 r.p]
def cellsT (xs : List Rt) : List Value := xs.flatMap fun r => rtcells r
def bh (b : Int) : Nat := (4 - b).toNat
def isR (r : Rt) : Bool := decide (0 <= r.b) && decide (r.b <= 4) && decide (0 <= r.v) && decide (r.v < 16) && decide (r.v % 2 ^ bh r.b = 0) && decide (0 <= r.p) && decide (r.p < 4)
def takesB (r : Rt) (d : Int) : Bool := decide (d / 2 ^ bh r.b = r.v / 2 ^ bh r.b)
def better (d : Int) (m : Int × Int) (r : Rt) : Int × Int := if isR r && takesB r d && decide (m.1 < r.b) then (r.b, r.p) else m
def bestOf (l : List Rt) (d : Int) : Int × Int := l.foldl (better d) (-1, 0)
def outN (l : List Rt) (d : Int) : Int := if 0 <= d ∧ d < 16 then (bestOf l d).2 else 0
def outB (l : List Rt) (d : Int) : Bool := decide (0 <= d) && decide (d < 16) && !((bestOf l d).1 == -1)
theorem isR_bits {r : Rt} (h : isR r = true) : 0 <= r.b ∧ r.b <= 4 := by
 simp only [isR, Bool.and_eq_true, decide_eq_true_eq] at h
 exact ⟨h.1.1.1.1.1.1, h.1.1.1.1.1.2⟩
theorem bestOf_append (l m : List Rt) (d : Int) : bestOf (l ++ m) d = m.foldl (better d) (bestOf l d) := List.foldl_append ..
theorem bestOf_snoc (l : List Rt) (r : Rt) (d : Int) : bestOf (l ++ [r]) d = better d (bestOf l d) r := by rw [bestOf_append]; rfl
theorem bestOf_take {xs : List Rt} {k : Nat} {r : Rt} (h : xs[k]? = some r) (d : Int) : bestOf (xs.take (k + 1)) d = better d (bestOf (xs.take k) d) r := by
 obtain ⟨hk, e⟩ := List.getElem?_eq_some_iff.1 h
 rw [List.take_succ_eq_append_getElem hk, e, bestOf_snoc]
def sameA (r s : Rt) : Bool := (r.v == s.v) && (r.b == s.b)
def wrongAt (xs : List Rt) (k : Nat) (r : Rt) : Int := if isR r then (if (xs.take k).any (fun a => sameA a r) then 5 else 0) else 1
def checkFrom (xs : List Rt) (k : Nat) : Int :=
 if h : k < xs.length then (if wrongAt xs k xs[k] = 0 then checkFrom xs (k + 1) else wrongAt xs k xs[k]) else 0
termination_by xs.length - k
def checkV (xs : List Rt) : Int := if 8 < xs.length then 2 else checkFrom xs 0
theorem checkFrom_at {xs : List Rt} {k : Nat} {r : Rt} (h : xs[k]? = some r) : checkFrom xs k = if wrongAt xs k r = 0 then checkFrom xs (k + 1) else wrongAt xs k r := by
 obtain ⟨hk, e⟩ := List.getElem?_eq_some_iff.1 h
 rw [checkFrom, dif_pos hk, e]
theorem checkFrom_end {xs : List Rt} {k : Nat} (h : xs.length <= k) : checkFrom xs k = 0 := by rw [checkFrom, dif_neg (by omega)]
theorem cellsT_cons (r : Rt) (l : List Rt) : cellsT (r :: l) = rtcells r ++ cellsT l := rfl
theorem cellsT_append (a b : List Rt) : cellsT (a ++ b) = cellsT a ++ cellsT b := by simp [cellsT]
theorem cellsT_length : ∀ xs : List Rt, (cellsT xs).length = xs.length * 3
 | [] => rfl
 | r :: l => by
   have := cellsT_length l
   rw [cellsT_cons, List.length_append, this]
   simp
   omega
theorem cellsT_at : ∀ (xs : List Rt) (k : Nat) (r : Rt), xs[k]? = some r ->
  (cellsT xs)[k * 3]? = some (.int .i64 r.v) ∧ (cellsT xs)[k * 3 + 1]? = some (.int .i64 r.b) ∧ (cellsT xs)[k * 3 + 2]? = some (.int .i64 r.p)
 | [], k, r, h => by simp at h
 | x :: l, 0, r, h => by
   obtain rfl : x = r := by simpa using h
   exact ⟨rfl, rfl, rfl⟩
 | x :: l, k + 1, r, h => by
   have ih := cellsT_at l k r (by simpa using h)
   have sh : ∀ j, (cellsT (x :: l))[(k + 1) * 3 + j]? = (cellsT l)[k * 3 + j]? := fun j => by
    rw [cellsT_cons, List.getElem?_append_right (by simp; omega)]
    congr 1
    simp
    omega
   have s0 := sh 0
   simp only [Nat.add_zero] at s0
   rw [s0, sh 1, sh 2]
   exact ih
def TAt (w : World) (b o : Nat) (xs : List Rt) : Prop := ∀ j u, (cellsT xs)[j]? = some u -> w.cell? ⟨b, o + j, none⟩ = some u
def Routes (base : Nat) (w : World) (v : Value) (xs : List Rt) : Prop :=
 ∃ A cap, v = .slice A xs.length cap ∧ (A = none -> cap = 0) ∧ xs.length <= cap ∧ cap <= maxLen ∧ (xs ≠ [] -> ∃ b o, A = some ⟨b, o, none⟩ ∧ b < base ∧ TAt w b o xs)
theorem TAt.at {w : World} {b o : Nat} {xs : List Rt} (h : TAt w b o xs) {k : Nat} {r : Rt} (hk : xs[k]? = some r) :
  w.cell? ⟨b, o + k * 3, none⟩ = some (.int .i64 r.v) ∧ w.cell? ⟨b, o + k * 3 + 1, none⟩ = some (.int .i64 r.b) ∧ w.cell? ⟨b, o + k * 3 + 2, none⟩ = some (.int .i64 r.p) := by
 obtain ⟨h0, h1, h2⟩ := cellsT_at xs k r hk
 exact ⟨h _ _ h0, h _ _ h1, h _ _ h2⟩
theorem TAt.below {base : Nat} {w w' : World} {b o : Nat} {xs : List Rt} (h : TAt w b o xs) (hb : Below base w w') (hl : b < base) : TAt w' b o xs :=
 fun j u hj => (hb.cell (p := ⟨b, _, none⟩) hl).trans (h j u hj)
theorem TAt.take {w : World} {b o : Nat} {xs : List Rt} (h : TAt w b o xs) (k : Nat) : TAt w b o (xs.take k) := fun j u hj => by
 refine h j u ?_
 have e : cellsT xs = cellsT (xs.take k) ++ cellsT (xs.drop k) := by rw [<- cellsT_append, List.take_append_drop]
 rw [e, List.getElem?_append_left (List.getElem?_eq_some_iff.1 hj).1]
 exact hj
theorem Routes.below {base : Nat} {w w' : World} {v : Value} {xs : List Rt} (h : Routes base w v xs) (hb : Below base w w') : Routes base w' v xs := by
 obtain ⟨A, cap, e, h0, h1, h2, h3⟩ := h
 refine ⟨A, cap, e, h0, h1, h2, fun hn => ?_⟩
 obtain ⟨b, o, ea, hl, hr⟩ := h3 hn
 exact ⟨b, o, ea, hl, hr.below hb hl⟩
theorem Routes.mono {base base' : Nat} {w : World} {v : Value} {xs : List Rt} (h : Routes base w v xs) (hb : base <= base') : Routes base' w v xs := by
 obtain ⟨A, cap, e, h0, h1, h2, h3⟩ := h
 refine ⟨A, cap, e, h0, h1, h2, fun hn => ?_⟩
 obtain ⟨b, o, ea, hl, hr⟩ := h3 hn
 exact ⟨b, o, ea, by omega, hr⟩
theorem chn {W0 W w' : World} (hb : Below W.heap.size W w') (h : Below W0.heap.size W0 W) : Below W0.heap.size W0 w' := h.trans (hb.mono h.size)
theorem Below.al {W0 w : World} (h : Below W0.heap.size W0 w) (o : Obj) : Below W0.heap.size W0 (w.alloc o) := h.alloc h.size o
def Three (w : World) (n : Nat) (a b c : Value) : Prop :=
 n < w.heap.size ∧ w.cell? ⟨n, 0, none⟩ = some a ∧ w.cell? ⟨n, 1, none⟩ = some b ∧ w.cell? ⟨n, 2, none⟩ = some c
theorem keepThree {B : Nat} {W w' : World} {n : Nat} {a b c : Value} (hb : Below B W w') (hB : n < B) (h : Three W n a b c) : Three w' n a b c := by
 obtain ⟨h0, h1, h2, h3⟩ := h
 exact ⟨Nat.lt_of_lt_of_le h0 hb.size, (hb.cell (p := ⟨n, 0, none⟩) hB).trans h1, (hb.cell (p := ⟨n, 1, none⟩) hB).trans h2, (hb.cell (p := ⟨n, 2, none⟩) hB).trans h3⟩
theorem Three.drew {w : World} {n : Nat} {a b c : Value} (h : Three w n a b c) : Three w.drew n a b c := h
theorem three_new (w : World) (a b c : Value) (t : TypeId) : Three (w.alloc (.cells #[a, b, c] t)) w.heap.size a b c :=
 ⟨by simp, by simp [go_sem], by simp [go_sem], by simp [go_sem]⟩
theorem allocThree {w : World} {n : Nat} {a b c : Value} (h : Three w n a b c) (o : Obj) : Three (w.alloc o) n a b c := keepThree ((Below.refl _ _).alloc (Nat.le_refl _) o) h.1 h
theorem Three.cells {w : World} {n : Nat} {a b c : Value} (h : Three w n a b c) : w.cell? ⟨n, 0, none⟩ = some a ∧ w.cell? ⟨n, 1, none⟩ = some b ∧ w.cell? ⟨n, 2, none⟩ = some c := h.2
theorem Three.lt {w : World} {n : Nat} {a b c : Value} (h : Three w n a b c) : n < w.heap.size := h.1
abbrev rtw (v b p : Int) : Value := .agg #[.int .i64 v, .int .i64 b, .int .i64 p]
theorem intBits_andR (a b : Nat) (ha : a < 9223372036854775808) (hb : b < 9223372036854775808) : Go.bits .and .i64 (a : Int) (b : Int) = ((a &&& b : Nat) : Int) := by
 have e1 : BitVec.ofInt 64 (a : Int) = BitVec.ofNat 64 a := by simp
 have e2 : BitVec.ofInt 64 (b : Int) = BitVec.ofNat 64 b := by simp
 have hle : a &&& b <= a := Nat.and_le_left
 have hm : (BitVec.ofNat 64 a &&& BitVec.ofNat 64 b).toNat = a &&& b := by
  simp [BitVec.toNat_and, Nat.mod_eq_of_lt (show a < 18446744073709551616 by omega), Nat.mod_eq_of_lt (show b < 18446744073709551616 by omega)]
 show IntKind.i64.wrap ((BitVec.ofInt 64 (a : Int) &&& BitVec.ofInt 64 (b : Int)).toNat : Int) = _
 rw [e1, e2, hm, IntWalk.i64_in _ (by omega)]
theorem and_mask (v : Int) (k m : Nat) (h0 : 0 <= v) (h1 : v < 16) (hm : m + 1 = 2 ^ k) (hk : m < 16) : (Go.bits .and .i64 v (m : Int) == 0) = decide (v % ((m + 1 : Nat) : Int) = 0) := by
 obtain ⟨n, rfl⟩ : ∃ n : Nat, v = n := ⟨v.toNat, by omega⟩
 rw [intBits_andR n m (by omega) (by omega)]
 have e : m = 2 ^ k - 1 := by omega
 have e2 : n &&& m = n % (m + 1) := by rw [hm, e, Nat.and_two_pow_sub_one_eq_mod]
 rw [e2, Bool.eq_iff_iff]
 simp
theorem behind_0 (v p : Int) (w : World) : Calls Tryz.prog 125 #[rtw v 4 p] w fun e w' => e = .returned (.int .i64 0) ∧ Below w.heap.size w w' := by
 go_enter Tryz.func125, Tryz.ntmps125
 go_wp2_with fail
 go_ret
 exact ⟨rfl, by go_grown⟩
theorem takes_x (v b p d m n : Int) (w : World) (hm : (m = 0 ∧ n = 1) ∨ (m = 1 ∧ n = 2) ∨ (m = 2 ∧ n = 4) ∨ (m = 3 ∧ n = 8) ∨ (m = 4 ∧ n = 16)) (BE : Hid (∀ w, Calls Tryz.prog 125 #[rtw v b p] w fun e w' => e = .returned (.int .i64 m) ∧ Below w.heap.size w w')) (E : Hid (takesB ⟨v, b, p⟩ d = (d / n == v / n))) : Calls Tryz.prog 154 #[rtw v b p, .int .i64 d] w fun e w' => e = .returned (.bool (takesB ⟨v, b, p⟩ d)) ∧ Below w.heap.size w w' := by
 have D0 := (Below.al (Below.refl w.heap.size w) (.cells #[.int .i64 v, .int .i64 b, .int .i64 p] 166)).drew
 have T0 := (three_new w (.int .i64 v) (.int .i64 b) (.int .i64 p) 166).drew
 rcases hm with ⟨rfl, rfl⟩ | ⟨rfl, rfl⟩ | ⟨rfl, rfl⟩ | ⟨rfl, rfl⟩ | ⟨rfl, rfl⟩
 all_goals
  go_enter Tryz.func154, Tryz.ntmps154
  go_wp2_with fail
  go_region_held3 (fun w' => w'.cell? ⟨w.heap.size, 0, none⟩ = some (.int .i64 v) ∧ w'.cell? ⟨w.heap.size, 1, none⟩ = some (.int .i64 b) ∧ w'.cell? ⟨w.heap.size, 2, none⟩ = some (.int .i64 p)) (exact Three.cells (n := w.heap.size) (by assumption))
   (first | (go_at_call 125; refine (BE.out _).mono ?_; rintro e wz ⟨rfl, hbz⟩; have Dz := chn hbz (by assumption); have Pz := keepThree (n := w.heap.size) hbz (Three.lt (by assumption)) (by assumption); clear hbz))
  go_wp2_with fail
  go_ret
  exact ⟨by rw [E.out]; simp, by assumption⟩
theorem behind_1 (v p : Int) (w : World) : Calls Tryz.prog 125 #[rtw v 3 p] w fun e w' => e = .returned (.int .i64 1) ∧ Below w.heap.size w w' := by
 go_enter Tryz.func125, Tryz.ntmps125
 go_wp2_with fail
 go_ret
 exact ⟨rfl, by go_grown⟩
theorem behind_2 (v p : Int) (w : World) : Calls Tryz.prog 125 #[rtw v 2 p] w fun e w' => e = .returned (.int .i64 2) ∧ Below w.heap.size w w' := by
 go_enter Tryz.func125, Tryz.ntmps125
 go_wp2_with fail
 go_ret
 exact ⟨rfl, by go_grown⟩
theorem behind_3 (v p : Int) (w : World) : Calls Tryz.prog 125 #[rtw v 1 p] w fun e w' => e = .returned (.int .i64 3) ∧ Below w.heap.size w w' := by
 go_enter Tryz.func125, Tryz.ntmps125
 go_wp2_with fail
 go_ret
 exact ⟨rfl, by go_grown⟩
theorem behind_4 (v p : Int) (w : World) : Calls Tryz.prog 125 #[rtw v 0 p] w fun e w' => e = .returned (.int .i64 4) ∧ Below w.heap.size w w' := by
 go_enter Tryz.func125, Tryz.ntmps125
 go_wp2_with fail
 go_ret
 exact ⟨rfl, by go_grown⟩
theorem isr_a (v b p : Int) (w : World) (h : decide (0 <= b) = false) : Calls Tryz.prog 97 #[rtw v b p] w fun e w' => e = .returned (.bool false) ∧ Below w.heap.size w w' := by
 have D0 := (Below.al (Below.refl w.heap.size w) (.cells #[.int .i64 v, .int .i64 b, .int .i64 p] 166)).drew
 have T0 := (three_new w (.int .i64 v) (.int .i64 b) (.int .i64 p) 166).drew
 go_enter Tryz.func97, Tryz.ntmps97
 go_wp2_with fail
 refine wp_region_held_drew (S := (fun w' => w'.cell? ⟨w.heap.size, 0, none⟩ = some (.int .i64 v) ∧ w'.cell? ⟨w.heap.size, 1, none⟩ = some (.int .i64 b) ∧ w'.cell? ⟨w.heap.size, 2, none⟩ = some (.int .i64 p))) (by kernel_rfl) (Three.cells (n := w.heap.size) (by assumption)) (fun hHeld => ?_)
 refine tk 0 ?_; try simp only [ly]
 refine tk 1 ?_; try simp only [ly]
 refine tk 2 ?_; try simp only [ly]
 refine tk 3 ?_; try simp only [ly]
 refine tk0 4 ?_; try simp only [ly]
 refine tk0 5 ?_; try simp only [ly]
 refine tk0 6 ?_; try simp only [ly]
 refine tk 7 ?_; try simp only [ly]
 refine tk 8 ?_; try simp only [ly]
 refine tk0 9 ?_; try simp only [ly]
 refine tk0 10 ?_; try simp only [ly]
 refine tk0 11 ?_; try simp only [ly]
 refine tk 12 ?_; try simp only [ly]
 refine tk 13 ?_; try simp only [ly]
 refine tk0 14 ?_; try simp only [ly]
 refine tk0 15 ?_; try simp only [ly]
 refine tk0 16 ?_; try simp only [ly]
 refine tk 17 ?_; try simp only [ly]
 refine tk 18 ?_; try simp only [ly]
 refine tk0 19 ?_; try simp only [ly]
 refine tk0 20 ?_; try simp only [ly]
 refine tk0 21 ?_; try simp only [ly]
 refine tk0 22 ?_; try simp only [ly]
 refine tk0 23 ?_; try simp only [ly]
 refine tk0 24 ?_; try simp only [ly]
 refine tk0 25 ?_; try simp only [ly]
 refine tk0 26 ?_; try simp only [ly]
 refine tk 27 ?_; try simp only [ly]
 refine tk 28 ?_; try simp only [ly]
 refine tk0 29 ?_; try simp only [ly]
 refine tk0 30 ?_; try simp only [ly]
 refine tk0 31 ?_; try simp only [ly]
 refine tk 32 ?_; try simp only [ly]
 refine tk 33 ?_; try simp only [ly]
 refine tk0 34 ?_; try simp only [ly]
 refine tk0 35 ?_; try simp only [ly]
 refine tk0 36 ?_; try simp only [ly]
 refine tk 37 ?_; try simp only [ly]
 refine tk 38 ?_; try simp only [ly]
 refine wpAnyH_done (by kernel_rfl) ?_ _
 go_wp2
 go_ret
 exact ⟨by simp, by assumption⟩
theorem isr_b (v b p : Int) (w : World) (h : decide (0 <= b) = true) (h1 : decide (b <= 4) = false) : Calls Tryz.prog 97 #[rtw v b p] w fun e w' => e = .returned (.bool false) ∧ Below w.heap.size w w' := by
 have D0 := (Below.al (Below.refl w.heap.size w) (.cells #[.int .i64 v, .int .i64 b, .int .i64 p] 166)).drew
 have T0 := (three_new w (.int .i64 v) (.int .i64 b) (.int .i64 p) 166).drew
 go_enter Tryz.func97, Tryz.ntmps97
 go_wp2_with fail
 refine wp_region_held_drew (S := (fun w' => w'.cell? ⟨w.heap.size, 0, none⟩ = some (.int .i64 v) ∧ w'.cell? ⟨w.heap.size, 1, none⟩ = some (.int .i64 b) ∧ w'.cell? ⟨w.heap.size, 2, none⟩ = some (.int .i64 p))) (by kernel_rfl) (Three.cells (n := w.heap.size) (by assumption)) (fun hHeld => ?_)
 refine tk 0 ?_; try simp only [ly]
 refine tk 1 ?_; try simp only [ly]
 refine tk 2 ?_; try simp only [ly]
 refine tk 3 ?_; try simp only [ly]
 refine tk 4 ?_; try simp only [ly]
 refine tk 5 ?_; try simp only [ly]
 refine tk 6 ?_; try simp only [ly]
 refine tk 7 ?_; try simp only [ly]
 refine tk 8 ?_; try simp only [ly]
 refine tk0 9 ?_; try simp only [ly]
 refine tk0 10 ?_; try simp only [ly]
 refine tk0 11 ?_; try simp only [ly]
 refine tk 12 ?_; try simp only [ly]
 refine tk 13 ?_; try simp only [ly]
 refine tk0 14 ?_; try simp only [ly]
 refine tk0 15 ?_; try simp only [ly]
 refine tk0 16 ?_; try simp only [ly]
 refine tk 17 ?_; try simp only [ly]
 refine tk 18 ?_; try simp only [ly]
 refine tk0 19 ?_; try simp only [ly]
 refine tk0 20 ?_; try simp only [ly]
 refine tk0 21 ?_; try simp only [ly]
 refine tk0 22 ?_; try simp only [ly]
 refine tk0 23 ?_; try simp only [ly]
 refine tk0 24 ?_; try simp only [ly]
 refine tk0 25 ?_; try simp only [ly]
 refine tk0 26 ?_; try simp only [ly]
 refine tk 27 ?_; try simp only [ly]
 refine tk 28 ?_; try simp only [ly]
 refine tk0 29 ?_; try simp only [ly]
 refine tk0 30 ?_; try simp only [ly]
 refine tk0 31 ?_; try simp only [ly]
 refine tk 32 ?_; try simp only [ly]
 refine tk 33 ?_; try simp only [ly]
 refine tk0 34 ?_; try simp only [ly]
 refine tk0 35 ?_; try simp only [ly]
 refine tk0 36 ?_; try simp only [ly]
 refine tk 37 ?_; try simp only [ly]
 refine tk 38 ?_; try simp only [ly]
 refine wpAnyH_done (by kernel_rfl) ?_ _
 go_wp2
 go_ret
 exact ⟨by simp, by assumption⟩
theorem isr_c (v b p : Int) (w : World) (h : decide (0 <= b) = true) (h1 : decide (b <= 4) = true) (h2 : decide (0 <= v) = false) : Calls Tryz.prog 97 #[rtw v b p] w fun e w' => e = .returned (.bool false) ∧ Below w.heap.size w w' := by
 have D0 := (Below.al (Below.refl w.heap.size w) (.cells #[.int .i64 v, .int .i64 b, .int .i64 p] 166)).drew
 have T0 := (three_new w (.int .i64 v) (.int .i64 b) (.int .i64 p) 166).drew
 go_enter Tryz.func97, Tryz.ntmps97
 go_wp2_with fail
 refine wp_region_held_drew (S := (fun w' => w'.cell? ⟨w.heap.size, 0, none⟩ = some (.int .i64 v) ∧ w'.cell? ⟨w.heap.size, 1, none⟩ = some (.int .i64 b) ∧ w'.cell? ⟨w.heap.size, 2, none⟩ = some (.int .i64 p))) (by kernel_rfl) (Three.cells (n := w.heap.size) (by assumption)) (fun hHeld => ?_)
 refine tk 0 ?_; try simp only [ly]
 refine tk 1 ?_; try simp only [ly]
 refine tk 2 ?_; try simp only [ly]
 refine tk 3 ?_; try simp only [ly]
 refine tk 4 ?_; try simp only [ly]
 refine tk 5 ?_; try simp only [ly]
 refine tk 6 ?_; try simp only [ly]
 refine tk 7 ?_; try simp only [ly]
 refine tk 8 ?_; try simp only [ly]
 refine tk 9 ?_; try simp only [ly]
 refine tk 10 ?_; try simp only [ly]
 refine tk 11 ?_; try simp only [ly]
 refine tk 12 ?_; try simp only [ly]
 refine tk 13 ?_; try simp only [ly]
 refine tk0 14 ?_; try simp only [ly]
 refine tk0 15 ?_; try simp only [ly]
 refine tk0 16 ?_; try simp only [ly]
 refine tk 17 ?_; try simp only [ly]
 refine tk 18 ?_; try simp only [ly]
 refine tk0 19 ?_; try simp only [ly]
 refine tk0 20 ?_; try simp only [ly]
 refine tk0 21 ?_; try simp only [ly]
 refine tk0 22 ?_; try simp only [ly]
 refine tk0 23 ?_; try simp only [ly]
 refine tk0 24 ?_; try simp only [ly]
 refine tk0 25 ?_; try simp only [ly]
 refine tk0 26 ?_; try simp only [ly]
 refine tk 27 ?_; try simp only [ly]
 refine tk 28 ?_; try simp only [ly]
 refine tk0 29 ?_; try simp only [ly]
 refine tk0 30 ?_; try simp only [ly]
 refine tk0 31 ?_; try simp only [ly]
 refine tk 32 ?_; try simp only [ly]
 refine tk 33 ?_; try simp only [ly]
 refine tk0 34 ?_; try simp only [ly]
 refine tk0 35 ?_; try simp only [ly]
 refine tk0 36 ?_; try simp only [ly]
 refine tk 37 ?_; try simp only [ly]
 refine tk 38 ?_; try simp only [ly]
 refine wpAnyH_done (by kernel_rfl) ?_ _
 go_wp2
 go_ret
 exact ⟨by simp, by assumption⟩
theorem isr_d (v b p : Int) (w : World) (h : decide (0 <= b) = true) (h1 : decide (b <= 4) = true) (h2 : decide (0 <= v) = true) (h3 : decide (v < 16) = false) : Calls Tryz.prog 97 #[rtw v b p] w fun e w' => e = .returned (.bool false) ∧ Below w.heap.size w w' := by
 have D0 := (Below.al (Below.refl w.heap.size w) (.cells #[.int .i64 v, .int .i64 b, .int .i64 p] 166)).drew
 have T0 := (three_new w (.int .i64 v) (.int .i64 b) (.int .i64 p) 166).drew
 go_enter Tryz.func97, Tryz.ntmps97
 go_wp2_with fail
 refine wp_region_held_drew (S := (fun w' => w'.cell? ⟨w.heap.size, 0, none⟩ = some (.int .i64 v) ∧ w'.cell? ⟨w.heap.size, 1, none⟩ = some (.int .i64 b) ∧ w'.cell? ⟨w.heap.size, 2, none⟩ = some (.int .i64 p))) (by kernel_rfl) (Three.cells (n := w.heap.size) (by assumption)) (fun hHeld => ?_)
 refine tk 0 ?_; try simp only [ly]
 refine tk 1 ?_; try simp only [ly]
 refine tk 2 ?_; try simp only [ly]
 refine tk 3 ?_; try simp only [ly]
 refine tk 4 ?_; try simp only [ly]
 refine tk 5 ?_; try simp only [ly]
 refine tk 6 ?_; try simp only [ly]
 refine tk 7 ?_; try simp only [ly]
 refine tk 8 ?_; try simp only [ly]
 refine tk 9 ?_; try simp only [ly]
 refine tk 10 ?_; try simp only [ly]
 refine tk 11 ?_; try simp only [ly]
 refine tk 12 ?_; try simp only [ly]
 refine tk 13 ?_; try simp only [ly]
 refine tk 14 ?_; try simp only [ly]
 refine tk 15 ?_; try simp only [ly]
 refine tk 16 ?_; try simp only [ly]
 refine tk 17 ?_; try simp only [ly]
 refine tk 18 ?_; try simp only [ly]
 refine tk0 19 ?_; try simp only [ly]
 refine tk0 20 ?_; try simp only [ly]
 refine tk0 21 ?_; try simp only [ly]
 refine tk0 22 ?_; try simp only [ly]
 refine tk0 23 ?_; try simp only [ly]
 refine tk0 24 ?_; try simp only [ly]
 refine tk0 25 ?_; try simp only [ly]
 refine tk0 26 ?_; try simp only [ly]
 refine tk 27 ?_; try simp only [ly]
 refine tk 28 ?_; try simp only [ly]
 refine tk0 29 ?_; try simp only [ly]
 refine tk0 30 ?_; try simp only [ly]
 refine tk0 31 ?_; try simp only [ly]
 refine tk 32 ?_; try simp only [ly]
 refine tk 33 ?_; try simp only [ly]
 refine tk0 34 ?_; try simp only [ly]
 refine tk0 35 ?_; try simp only [ly]
 refine tk0 36 ?_; try simp only [ly]
 refine tk 37 ?_; try simp only [ly]
 refine tk 38 ?_; try simp only [ly]
 refine wpAnyH_done (by kernel_rfl) ?_ _
 go_wp2
 go_ret
 exact ⟨by simp, by assumption⟩
theorem isr_e (v b p m n : Int) (w : World) (h0 : decide (0 ≤ b) = true) (h1 : decide (b ≤ 4) = true) (h2 : decide (0 <= v) = true) (h3 : decide (v < 16) = true) (hm : (m = 0 ∧ n = 1) ∨ (m = 1 ∧ n = 2) ∨ (m = 2 ∧ n = 4) ∨ (m = 3 ∧ n = 8) ∨ (m = 4 ∧ n = 16)) (BE : Hid (∀ w, Calls Tryz.prog 125 #[rtw v b p] w fun e w' => e = .returned (.int .i64 m) ∧ Below w.heap.size w w')) (h4 : (Go.bits .and .i64 v (IntKind.i64.wrap (IntKind.i64.wrap n - 1)) == 0) = false) : Calls Tryz.prog 97 #[rtw v b p] w fun e w' => e = .returned (.bool false) ∧ Below w.heap.size w w' := by
 have D0 := (Below.al (Below.refl w.heap.size w) (.cells #[.int .i64 v, .int .i64 b, .int .i64 p] 166)).drew
 have T0 := (three_new w (.int .i64 v) (.int .i64 b) (.int .i64 p) 166).drew
 rcases hm with ⟨rfl, rfl⟩ | ⟨rfl, rfl⟩ | ⟨rfl, rfl⟩ | ⟨rfl, rfl⟩ | ⟨rfl, rfl⟩
 all_goals
  go_enter Tryz.func97, Tryz.ntmps97
  go_wp2_with fail
  refine wp_region_held_drew (S := (fun w' => w'.cell? ⟨w.heap.size, 0, none⟩ = some (.int .i64 v) ∧ w'.cell? ⟨w.heap.size, 1, none⟩ = some (.int .i64 b) ∧ w'.cell? ⟨w.heap.size, 2, none⟩ = some (.int .i64 p))) (by kernel_rfl) (Three.cells (n := w.heap.size) (by assumption)) (fun hHeld => ?_)
  refine tk 0 ?_; try simp only [ly]
  refine tk 1 ?_; try simp only [ly]
  refine tk 2 ?_; try simp only [ly]
  refine tk 3 ?_; try simp only [ly]
  refine tk 4 ?_; try simp only [ly]
  refine tk 5 ?_; try simp only [ly]
  refine tk 6 ?_; try simp only [ly]
  refine tk 7 ?_; try simp only [ly]
  refine tk 8 ?_; try simp only [ly]
  refine tk 9 ?_; try simp only [ly]
  refine tk 10 ?_; try simp only [ly]
  refine tk 11 ?_; try simp only [ly]
  refine tk 12 ?_; try simp only [ly]
  refine tk 13 ?_; try simp only [ly]
  refine tk 14 ?_; try simp only [ly]
  refine tk 15 ?_; try simp only [ly]
  refine tk 16 ?_; try simp only [ly]
  refine tk 17 ?_; try simp only [ly]
  refine tk 18 ?_; try simp only [ly]
  refine tk 19 ?_; try simp only [ly]
  refine tk 20 ?_; try simp only [ly]
  refine tk 21 ?_; try simp only [ly]
  refine rd 22 (fun K hK => ?_)
  go_simp
  refine (BE.out _).mono ?_; rintro e wz ⟨rfl, hbz⟩; have Dz := chn hbz (by assumption); have Pz := keepThree (n := w.heap.size) hbz (Three.lt (by assumption)) (by assumption); clear hbz
  try go_wp2_with fail
  clear hHeld
  refine hK.out _ _ (Three.cells (n := w.heap.size) (by assumption)) (fun hHeld => ?_)
  clear hK K
  try simp only [ly]
  refine tk 23 ?_; try simp only [ly]
  refine tk 24 ?_; try simp only [ly]
  refine tk 25 ?_; try simp only [ly]
  refine tk 26 ?_; try simp only [ly]
  refine tk 27 ?_; try simp only [ly]
  refine tk 28 ?_; try simp only [ly]
  refine tk0 29 ?_; try simp only [ly]
  refine tk0 30 ?_; try simp only [ly]
  refine tk0 31 ?_; try simp only [ly]
  refine tk 32 ?_; try simp only [ly]
  refine tk 33 ?_; try simp only [ly]
  refine tk0 34 ?_; try simp only [ly]
  refine tk0 35 ?_; try simp only [ly]
  refine tk0 36 ?_; try simp only [ly]
  refine tk 37 ?_; try simp only [ly]
  refine tk 38 ?_; try simp only [ly]
  refine wpAnyH_done (by kernel_rfl) ?_ _
  go_wp2
  go_ret
  exact ⟨by simp, by assumption⟩
theorem isr_f (v b p m n : Int) (w : World) (h0 : decide (0 ≤ b) = true) (h1 : decide (b ≤ 4) = true) (h2 : decide (0 <= v) = true) (h3 : decide (v < 16) = true) (hm : (m = 0 ∧ n = 1) ∨ (m = 1 ∧ n = 2) ∨ (m = 2 ∧ n = 4) ∨ (m = 3 ∧ n = 8) ∨ (m = 4 ∧ n = 16)) (BE : Hid (∀ w, Calls Tryz.prog 125 #[rtw v b p] w fun e w' => e = .returned (.int .i64 m) ∧ Below w.heap.size w w')) (h4 : (Go.bits .and .i64 v (IntKind.i64.wrap (IntKind.i64.wrap n - 1)) == 0) = true) (h5 : decide (0 <= p) = false) : Calls Tryz.prog 97 #[rtw v b p] w fun e w' => e = .returned (.bool false) ∧ Below w.heap.size w w' := by
 have D0 := (Below.al (Below.refl w.heap.size w) (.cells #[.int .i64 v, .int .i64 b, .int .i64 p] 166)).drew
 have T0 := (three_new w (.int .i64 v) (.int .i64 b) (.int .i64 p) 166).drew
 rcases hm with ⟨rfl, rfl⟩ | ⟨rfl, rfl⟩ | ⟨rfl, rfl⟩ | ⟨rfl, rfl⟩ | ⟨rfl, rfl⟩
 all_goals
  go_enter Tryz.func97, Tryz.ntmps97
  go_wp2_with fail
  refine wp_region_held_drew (S := (fun w' => w'.cell? ⟨w.heap.size, 0, none⟩ = some (.int .i64 v) ∧ w'.cell? ⟨w.heap.size, 1, none⟩ = some (.int .i64 b) ∧ w'.cell? ⟨w.heap.size, 2, none⟩ = some (.int .i64 p))) (by kernel_rfl) (Three.cells (n := w.heap.size) (by assumption)) (fun hHeld => ?_)
  refine tk 0 ?_; try simp only [ly]
  refine tk 1 ?_; try simp only [ly]
  refine tk 2 ?_; try simp only [ly]
  refine tk 3 ?_; try simp only [ly]
  refine tk 4 ?_; try simp only [ly]
  refine tk 5 ?_; try simp only [ly]
  refine tk 6 ?_; try simp only [ly]
  refine tk 7 ?_; try simp only [ly]
  refine tk 8 ?_; try simp only [ly]
  refine tk 9 ?_; try simp only [ly]
  refine tk 10 ?_; try simp only [ly]
  refine tk 11 ?_; try simp only [ly]
  refine tk 12 ?_; try simp only [ly]
  refine tk 13 ?_; try simp only [ly]
  refine tk 14 ?_; try simp only [ly]
  refine tk 15 ?_; try simp only [ly]
  refine tk 16 ?_; try simp only [ly]
  refine tk 17 ?_; try simp only [ly]
  refine tk 18 ?_; try simp only [ly]
  refine tk 19 ?_; try simp only [ly]
  refine tk 20 ?_; try simp only [ly]
  refine tk 21 ?_; try simp only [ly]
  refine rd 22 (fun K hK => ?_)
  go_simp
  refine (BE.out _).mono ?_; rintro e wz ⟨rfl, hbz⟩; have Dz := chn hbz (by assumption); have Pz := keepThree (n := w.heap.size) hbz (Three.lt (by assumption)) (by assumption); clear hbz
  try go_wp2_with fail
  clear hHeld
  refine hK.out _ _ (Three.cells (n := w.heap.size) (by assumption)) (fun hHeld => ?_)
  clear hK K
  try simp only [ly]
  refine tk 23 ?_; try simp only [ly]
  refine tk 24 ?_; try simp only [ly]
  refine tk 25 ?_; try simp only [ly]
  refine tk 26 ?_; try simp only [ly]
  refine tk 27 ?_; try simp only [ly]
  refine tk 28 ?_; try simp only [ly]
  refine tk 29 ?_; try simp only [ly]
  refine tk 30 ?_; try simp only [ly]
  refine tk 31 ?_; try simp only [ly]
  refine tk 32 ?_; try simp only [ly]
  refine tk 33 ?_; try simp only [ly]
  refine tk0 34 ?_; try simp only [ly]
  refine tk0 35 ?_; try simp only [ly]
  refine tk0 36 ?_; try simp only [ly]
  refine tk 37 ?_; try simp only [ly]
  refine tk 38 ?_; try simp only [ly]
  refine wpAnyH_done (by kernel_rfl) ?_ _
  go_wp2
  go_ret
  exact ⟨by simp, by assumption⟩
theorem isr_g (v b p m n : Int) (w : World) (h0 : decide (0 ≤ b) = true) (h1 : decide (b ≤ 4) = true) (h2 : decide (0 <= v) = true) (h3 : decide (v < 16) = true) (hm : (m = 0 ∧ n = 1) ∨ (m = 1 ∧ n = 2) ∨ (m = 2 ∧ n = 4) ∨ (m = 3 ∧ n = 8) ∨ (m = 4 ∧ n = 16)) (BE : Hid (∀ w, Calls Tryz.prog 125 #[rtw v b p] w fun e w' => e = .returned (.int .i64 m) ∧ Below w.heap.size w w')) (h4 : (Go.bits .and .i64 v (IntKind.i64.wrap (IntKind.i64.wrap n - 1)) == 0) = true) (h5 : decide (0 <= p) = true) : Calls Tryz.prog 97 #[rtw v b p] w fun e w' => e = .returned (.bool (decide (p < 4))) ∧ Below w.heap.size w w' := by
 have D0 := (Below.al (Below.refl w.heap.size w) (.cells #[.int .i64 v, .int .i64 b, .int .i64 p] 166)).drew
 have T0 := (three_new w (.int .i64 v) (.int .i64 b) (.int .i64 p) 166).drew
 rcases hm with ⟨rfl, rfl⟩ | ⟨rfl, rfl⟩ | ⟨rfl, rfl⟩ | ⟨rfl, rfl⟩ | ⟨rfl, rfl⟩
 all_goals
  go_enter Tryz.func97, Tryz.ntmps97
  go_wp2_with fail
  refine wp_region_held_drew (S := (fun w' => w'.cell? ⟨w.heap.size, 0, none⟩ = some (.int .i64 v) ∧ w'.cell? ⟨w.heap.size, 1, none⟩ = some (.int .i64 b) ∧ w'.cell? ⟨w.heap.size, 2, none⟩ = some (.int .i64 p))) (by kernel_rfl) (Three.cells (n := w.heap.size) (by assumption)) (fun hHeld => ?_)
  refine tk 0 ?_; try simp only [ly]
  refine tk 1 ?_; try simp only [ly]
  refine tk 2 ?_; try simp only [ly]
  refine tk 3 ?_; try simp only [ly]
  refine tk 4 ?_; try simp only [ly]
  refine tk 5 ?_; try simp only [ly]
  refine tk 6 ?_; try simp only [ly]
  refine tk 7 ?_; try simp only [ly]
  refine tk 8 ?_; try simp only [ly]
  refine tk 9 ?_; try simp only [ly]
  refine tk 10 ?_; try simp only [ly]
  refine tk 11 ?_; try simp only [ly]
  refine tk 12 ?_; try simp only [ly]
  refine tk 13 ?_; try simp only [ly]
  refine tk 14 ?_; try simp only [ly]
  refine tk 15 ?_; try simp only [ly]
  refine tk 16 ?_; try simp only [ly]
  refine tk 17 ?_; try simp only [ly]
  refine tk 18 ?_; try simp only [ly]
  refine tk 19 ?_; try simp only [ly]
  refine tk 20 ?_; try simp only [ly]
  refine tk 21 ?_; try simp only [ly]
  refine rd 22 (fun K hK => ?_)
  go_simp
  refine (BE.out _).mono ?_; rintro e wz ⟨rfl, hbz⟩; have Dz := chn hbz (by assumption); have Pz := keepThree (n := w.heap.size) hbz (Three.lt (by assumption)) (by assumption); clear hbz
  try go_wp2_with fail
  clear hHeld
  refine hK.out _ _ (Three.cells (n := w.heap.size) (by assumption)) (fun hHeld => ?_)
  clear hK K
  try simp only [ly]
  refine tk 23 ?_; try simp only [ly]
  refine tk 24 ?_; try simp only [ly]
  refine tk 25 ?_; try simp only [ly]
  refine tk 26 ?_; try simp only [ly]
  refine tk 27 ?_; try simp only [ly]
  refine tk 28 ?_; try simp only [ly]
  refine tk 29 ?_; try simp only [ly]
  refine tk 30 ?_; try simp only [ly]
  refine tk 31 ?_; try simp only [ly]
  refine tk 32 ?_; try simp only [ly]
  refine tk 33 ?_; try simp only [ly]
  refine tk 34 ?_; try simp only [ly]
  refine tk 35 ?_; try simp only [ly]
  refine tk 36 ?_; try simp only [ly]
  refine tk 37 ?_; try simp only [ly]
  refine tk 38 ?_; try simp only [ly]
  refine wpAnyH_done (by kernel_rfl) ?_ _
  go_wp2
  go_ret
  exact ⟨by simp, by assumption⟩
theorem isr_0 (v p : Int) (w : World) (h2 : decide (0 <= v) = true) (h3 : decide (v < 16) = true) : Calls Tryz.prog 97 #[rtw v 4 p] w fun e w' => e = .returned (.bool (isR ⟨v, 4, p⟩)) ∧ Below w.heap.size w w' := by
 have hm := and_mask v 0 0 (of_decide_eq_true h2) (of_decide_eq_true h3) (by decide) (by decide)
 have e : isR ⟨v, 4, p⟩ = ((Go.bits .and .i64 v (IntKind.i64.wrap (IntKind.i64.wrap 1 - 1)) == 0) && decide (0 <= p) && decide (p < 4)) := by
  rw [show IntKind.i64.wrap (IntKind.i64.wrap 1 - 1) = ((0 : Nat) : Int) from rfl, hm]
  show (decide ((0 : Int) <= 4) && decide ((4 : Int) <= 4) && decide (0 <= v) && decide (v < 16) && decide (v % 1 = 0) && decide (0 <= p) && decide (p < 4)) = (decide (v % 1 = 0) && decide (0 <= p) && decide (p < 4))
  rw [h2, h3]
  simp
 rw [e]
 cases h4 : (Go.bits .and .i64 v (IntKind.i64.wrap (IntKind.i64.wrap 1 - 1)) == 0)
 ·exact isr_e v 4 p 0 1 w rfl rfl h2 h3 (by simp) (fun w => behind_0 v p w) h4
 cases h5 : decide (0 <= p)
 ·exact isr_f v 4 p 0 1 w rfl rfl h2 h3 (by simp) (fun w => behind_0 v p w) h4 h5
 ·exact isr_g v 4 p 0 1 w rfl rfl h2 h3 (by simp) (fun w => behind_0 v p w) h4 h5
theorem isr_1 (v p : Int) (w : World) (h2 : decide (0 <= v) = true) (h3 : decide (v < 16) = true) : Calls Tryz.prog 97 #[rtw v 3 p] w fun e w' => e = .returned (.bool (isR ⟨v, 3, p⟩)) ∧ Below w.heap.size w w' := by
 have hm := and_mask v 1 1 (of_decide_eq_true h2) (of_decide_eq_true h3) (by decide) (by decide)
 have e : isR ⟨v, 3, p⟩ = ((Go.bits .and .i64 v (IntKind.i64.wrap (IntKind.i64.wrap 2 - 1)) == 0) && decide (0 <= p) && decide (p < 4)) := by
  rw [show IntKind.i64.wrap (IntKind.i64.wrap 2 - 1) = ((1 : Nat) : Int) from rfl, hm]
  show (decide ((0 : Int) <= 3) && decide ((3 : Int) <= 4) && decide (0 <= v) && decide (v < 16) && decide (v % 2 = 0) && decide (0 <= p) && decide (p < 4)) = (decide (v % 2 = 0) && decide (0 <= p) && decide (p < 4))
  rw [h2, h3]
  simp
 rw [e]
 cases h4 : (Go.bits .and .i64 v (IntKind.i64.wrap (IntKind.i64.wrap 2 - 1)) == 0)
 ·exact isr_e v 3 p 1 2 w rfl rfl h2 h3 (by simp) (fun w => behind_1 v p w) h4
 cases h5 : decide (0 <= p)
 ·exact isr_f v 3 p 1 2 w rfl rfl h2 h3 (by simp) (fun w => behind_1 v p w) h4 h5
 ·exact isr_g v 3 p 1 2 w rfl rfl h2 h3 (by simp) (fun w => behind_1 v p w) h4 h5
theorem isr_2 (v p : Int) (w : World) (h2 : decide (0 <= v) = true) (h3 : decide (v < 16) = true) : Calls Tryz.prog 97 #[rtw v 2 p] w fun e w' => e = .returned (.bool (isR ⟨v, 2, p⟩)) ∧ Below w.heap.size w w' := by
 have hm := and_mask v 2 3 (of_decide_eq_true h2) (of_decide_eq_true h3) (by decide) (by decide)
 have e : isR ⟨v, 2, p⟩ = ((Go.bits .and .i64 v (IntKind.i64.wrap (IntKind.i64.wrap 4 - 1)) == 0) && decide (0 <= p) && decide (p < 4)) := by
  rw [show IntKind.i64.wrap (IntKind.i64.wrap 4 - 1) = ((3 : Nat) : Int) from rfl, hm]
  show (decide ((0 : Int) <= 2) && decide ((2 : Int) <= 4) && decide (0 <= v) && decide (v < 16) && decide (v % 4 = 0) && decide (0 <= p) && decide (p < 4)) = (decide (v % 4 = 0) && decide (0 <= p) && decide (p < 4))
  rw [h2, h3]
  simp
 rw [e]
 cases h4 : (Go.bits .and .i64 v (IntKind.i64.wrap (IntKind.i64.wrap 4 - 1)) == 0)
 ·exact isr_e v 2 p 2 4 w rfl rfl h2 h3 (by simp) (fun w => behind_2 v p w) h4
 cases h5 : decide (0 <= p)
 ·exact isr_f v 2 p 2 4 w rfl rfl h2 h3 (by simp) (fun w => behind_2 v p w) h4 h5
 ·exact isr_g v 2 p 2 4 w rfl rfl h2 h3 (by simp) (fun w => behind_2 v p w) h4 h5
theorem isr_3 (v p : Int) (w : World) (h2 : decide (0 <= v) = true) (h3 : decide (v < 16) = true) : Calls Tryz.prog 97 #[rtw v 1 p] w fun e w' => e = .returned (.bool (isR ⟨v, 1, p⟩)) ∧ Below w.heap.size w w' := by
 have hm := and_mask v 3 7 (of_decide_eq_true h2) (of_decide_eq_true h3) (by decide) (by decide)
 have e : isR ⟨v, 1, p⟩ = ((Go.bits .and .i64 v (IntKind.i64.wrap (IntKind.i64.wrap 8 - 1)) == 0) && decide (0 <= p) && decide (p < 4)) := by
  rw [show IntKind.i64.wrap (IntKind.i64.wrap 8 - 1) = ((7 : Nat) : Int) from rfl, hm]
  show (decide ((0 : Int) <= 1) && decide ((1 : Int) <= 4) && decide (0 <= v) && decide (v < 16) && decide (v % 8 = 0) && decide (0 <= p) && decide (p < 4)) = (decide (v % 8 = 0) && decide (0 <= p) && decide (p < 4))
  rw [h2, h3]
  simp
 rw [e]
 cases h4 : (Go.bits .and .i64 v (IntKind.i64.wrap (IntKind.i64.wrap 8 - 1)) == 0)
 ·exact isr_e v 1 p 3 8 w rfl rfl h2 h3 (by simp) (fun w => behind_3 v p w) h4
 cases h5 : decide (0 <= p)
 ·exact isr_f v 1 p 3 8 w rfl rfl h2 h3 (by simp) (fun w => behind_3 v p w) h4 h5
 ·exact isr_g v 1 p 3 8 w rfl rfl h2 h3 (by simp) (fun w => behind_3 v p w) h4 h5
theorem isr_4 (v p : Int) (w : World) (h2 : decide (0 <= v) = true) (h3 : decide (v < 16) = true) : Calls Tryz.prog 97 #[rtw v 0 p] w fun e w' => e = .returned (.bool (isR ⟨v, 0, p⟩)) ∧ Below w.heap.size w w' := by
 have hm := and_mask v 4 15 (of_decide_eq_true h2) (of_decide_eq_true h3) (by decide) (by decide)
 have e : isR ⟨v, 0, p⟩ = ((Go.bits .and .i64 v (IntKind.i64.wrap (IntKind.i64.wrap 16 - 1)) == 0) && decide (0 <= p) && decide (p < 4)) := by
  rw [show IntKind.i64.wrap (IntKind.i64.wrap 16 - 1) = ((15 : Nat) : Int) from rfl, hm]
  show (decide ((0 : Int) <= 0) && decide ((0 : Int) <= 4) && decide (0 <= v) && decide (v < 16) && decide (v % 16 = 0) && decide (0 <= p) && decide (p < 4)) = (decide (v % 16 = 0) && decide (0 <= p) && decide (p < 4))
  rw [h2, h3]
  simp
 rw [e]
 cases h4 : (Go.bits .and .i64 v (IntKind.i64.wrap (IntKind.i64.wrap 16 - 1)) == 0)
 ·exact isr_e v 0 p 4 16 w rfl rfl h2 h3 (by simp) (fun w => behind_4 v p w) h4
 cases h5 : decide (0 <= p)
 ·exact isr_f v 0 p 4 16 w rfl rfl h2 h3 (by simp) (fun w => behind_4 v p w) h4 h5
 ·exact isr_g v 0 p 4 16 w rfl rfl h2 h3 (by simp) (fun w => behind_4 v p w) h4 h5
theorem isRoute_any (r : Rt) (w : World) : Calls Tryz.prog 97 #[rtv r] w fun e w' => e = .returned (.bool (isR r)) ∧ Below w.heap.size w w' := by
 obtain ⟨v, b, p⟩ := r
 cases h : decide (0 <= b)
 ·rw [show isR ⟨v, b, p⟩ = false by simp [isR, h]]
  exact isr_a v b p w h
 cases h1 : decide (b <= 4)
 ·rw [show isR ⟨v, b, p⟩ = false by simp [isR, h1]]
  exact isr_b v b p w h h1
 cases h2 : decide (0 <= v)
 ·rw [show isR ⟨v, b, p⟩ = false by simp [isR, h2]]
  exact isr_c v b p w h h1 h2
 cases h3 : decide (v < 16)
 ·rw [show isR ⟨v, b, p⟩ = false by simp [isR, h3]]
  exact isr_d v b p w h h1 h2 h3
 have hb : b = 0 ∨ b = 1 ∨ b = 2 ∨ b = 3 ∨ b = 4 := by
  have := of_decide_eq_true h
  have := of_decide_eq_true h1
  omega
 rcases hb with rfl | rfl | rfl | rfl | rfl
 ·exact isr_4 v p w h2 h3
 ·exact isr_3 v p w h2 h3
 ·exact isr_2 v p w h2 h3
 ·exact isr_1 v p w h2 h3
 ·exact isr_0 v p w h2 h3
theorem takes_any (r : Rt) (d : Int) (w : World) (hr : isR r = true) : Calls Tryz.prog 154 #[rtv r, .int .i64 d] w fun e w' => e = .returned (.bool (takesB r d)) ∧ Below w.heap.size w w' := by
 have h1 := isR_bits hr
 obtain ⟨v, b, p⟩ := r
 simp only at h1
 have hb : b = 0 ∨ b = 1 ∨ b = 2 ∨ b = 3 ∨ b = 4 := by omega
 rcases hb with rfl | rfl | rfl | rfl | rfl
 ·exact takes_x v 0 p d 4 16 w (by simp) (fun w => behind_4 v p w) (by show decide (d / 16 = v / 16) = _; rw [Bool.eq_iff_iff]; simp)
 ·exact takes_x v 1 p d 3 8 w (by simp) (fun w => behind_3 v p w) (by show decide (d / 8 = v / 8) = _; rw [Bool.eq_iff_iff]; simp)
 ·exact takes_x v 2 p d 2 4 w (by simp) (fun w => behind_2 v p w) (by show decide (d / 4 = v / 4) = _; rw [Bool.eq_iff_iff]; simp)
 ·exact takes_x v 3 p d 1 2 w (by simp) (fun w => behind_1 v p w) (by show decide (d / 2 = v / 2) = _; rw [Bool.eq_iff_iff]; simp)
 ·exact takes_x v 4 p d 0 1 w (by simp) (fun w => behind_0 v p w) (by show decide (d / 1 = v / 1) = _; rw [Bool.eq_iff_iff]; simp)
theorem belowN {B : Nat} {a w : World} (h : Below B a w) (n : Nat) : Below B a (w.drewN n) := h.trans ⟨rfl, rfl, rfl, Nat.le_refl _, fun _ _ => rfl⟩
def BoxR (w : World) (n : Nat) (v m p : Int) : Prop := Three w n (.int .i64 v) (.int .i64 m) (.int .i64 p) ∧ w.frozen? ⟨n, 0, none⟩ = false ∧ w.frozen? ⟨n, 1, none⟩ = false ∧ w.frozen? ⟨n, 2, none⟩ = false
theorem BoxR.below {B : Nat} {W w' : World} {n : Nat} {v m p : Int} (h : BoxR W n v m p) (hb : Below B W w') (hB : n < B) : BoxR w' n v m p :=
 ⟨keepThree hb hB h.1, (hb.frozen (p := ⟨n, 0, none⟩) hB).trans h.2.1, (hb.frozen (p := ⟨n, 1, none⟩) hB).trans h.2.2.1, (hb.frozen (p := ⟨n, 2, none⟩) hB).trans h.2.2.2⟩
theorem BoxR.alloc {w : World} {n : Nat} {v m p : Int} (h : BoxR w n v m p) (o : Obj) : BoxR (w.alloc o) n v m p := h.below ((Below.refl _ _).alloc (Nat.le_refl _) o) h.1.1
theorem box_new (w : World) (v m p : Int) (t : TypeId) : BoxR (w.alloc (.cells #[.int .i64 v, .int .i64 m, .int .i64 p] t)) w.heap.size v m p :=
 ⟨three_new w _ _ _ t, by simp [go_sem], by simp [go_sem], by simp [go_sem]⟩
theorem setBoxR {w : World} {n : Nat} {v m p : Int} (h : BoxR w n v m p) (x y z : Int) :
  BoxR (((w.setCell ⟨n, 0, none⟩ (.int .i64 x)).setCell ⟨n, 1, none⟩ (.int .i64 y)).setCell ⟨n, 2, none⟩ (.int .i64 z)) n x y z := by
 obtain ⟨⟨h0, h1, h2, h3⟩, k1, k2, k3⟩ := h
 refine ⟨⟨by simpa using h0, ?_, ?_, ?_⟩, ?_, ?_, ?_⟩ <;> simp [go_sem, h1, h2, h3, k1, k2, k3]
theorem out_row (b o cap : Nat) (xs : List Rt) (d : Int) (w : World) (hb : b < w.heap.size) (hn : xs.length <= cap) (hcap : cap <= maxLen) (hr : Hid (TAt w b o xs)) (h0 : 0 <= d) (h1 : d < 16) :
  Calls Tryz.prog 151 #[.slice (some ⟨b, o, none⟩) xs.length cap, .int .i64 d] w fun e w' => e = .returned (.tuple #[.int .i64 (bestOf xs d).2, .bool (!((bestOf xs d).1 == -1))]) ∧ Below w.heap.size w w' := by
 unfold maxLen at hcap
 have t1 : decide (d < 0) = false := by simp; omega
 have t2 : decide (16 <= d) = false := by simp; omega
 have D0 := Below.al (Below.refl w.heap.size w) (.cells #[.int .i64 0, .int .i64 (-1), .int .i64 0] 166)
 have B0 := box_new w 0 (-1) 0 166
 clear h0 h1
 go_enter Tryz.func151, Tryz.ntmps151
 go_wp2_with fail
 go_loopw [18] (fun i wr => ∃ k : Nat, ∃ v m p : Int, i = .int .i64 (k : Int) ∧ k <= xs.length ∧ Below w.heap.size w wr ∧ BoxR wr w.heap.size v m p ∧ Hid (bestOf (xs.take k) d = (m, p))) (fun i _ => xs.length - (intOf i).toNat)
 case atStart => exact ⟨0, 0, -1, 0, rfl, by omega, D0, B0, rfl⟩
 case round =>
  obtain ⟨k, v, m, p, rfl, hk, D1, B1, hl⟩ := hrel
  by_cases hlt : k < xs.length
  ·obtain ⟨r, hxk⟩ : ∃ r, xs[k]? = some r := ⟨_, List.getElem?_eq_getElem hlt⟩
   obtain ⟨c0, c1, c2⟩ := (hr.out.below D1 hb).at hxk
   have Hd : Hid (bestOf (xs.take (k + 1)) d = if isR r && takesB r d && decide (m < r.b) then (r.b, r.p) else (m, p)) := by
    show _ = _
    rw [bestOf_take hxk, hl.out]
    rfl
   have IS : Hid (∀ w, Calls Tryz.prog 97 #[rtw r.v r.b r.p] w fun e w' => e = .returned (.bool (isR r)) ∧ Below w.heap.size w w') := fun w => isRoute_any r w
   have TK : Hid (isR r = true -> ∀ w, Calls Tryz.prog 154 #[rtw r.v r.b r.p, .int .i64 d] w fun e w' => e = .returned (.bool (takesB r d)) ∧ Below w.heap.size w w') := fun h w => takes_any r d w h
   have D2 := Below.al D1 (.cells #[.int .i64 r.v, .int .i64 r.b, .int .i64 r.p] 166)
   have B2 := B1.alloc (.cells #[.int .i64 r.v, .int .i64 r.b, .int .i64 r.p] 166)
   have T2 := three_new wr (.int .i64 r.v) (.int .i64 r.b) (.int .i64 r.p) 166
   have lw := D1.size
   have lb := B1.1.1
   obtain ⟨⟨_, g0, g1, g2⟩, _⟩ := id B2
   clear hxk hl B1 D1 hr D0 B0
   generalize isR r = x at *
   generalize takesB r d = y at *
   generalize r.v = rv0 at *
   generalize r.b = rb0 at *
   generalize r.p = rp0 at *
   go_wp2_with fail
   refine (IS.out _).mono ?_
   rintro e w3 ⟨rfl, hb3⟩
   have D3 := chn hb3 D2
   have B3 := B2.below hb3 (by simp; omega)
   have T3 := keepThree hb3 (by simp) T2
   clear hb3 D2 B2 T2 g0 g1 g2 c0 c1 c2 IS
   cases x
   ·go_wp2_with fail
    go_roundw
    case rel => exact ⟨k + 1, v, m, p, by go_num, by omega, D3, B3, by show _ = _; rw [Hd.out]; simp⟩
    case measure => simp [intOf]; omega
   ·obtain ⟨_, z0, z1, z2⟩ := id T3
    go_wp2_with fail
    refine (TK.out (by trivial) _).mono ?_
    rintro e w4 ⟨rfl, hb4⟩
    have D4 := chn hb4 D3
    have B4 := B3.below hb4 B3.1.1
    have T4 := keepThree hb4 T3.1 T3
    clear hb4 D3 B3 T3 z0 z1 z2 TK
    cases y
    ·go_wp2_with fail
     go_roundw
     case rel => exact ⟨k + 1, v, m, p, by go_num, by omega, D4, B4, by show _ = _; rw [Hd.out]; simp⟩
     case measure => simp [intOf]; omega
    ·obtain ⟨_, z0, z1, z2⟩ := id T4
     obtain ⟨⟨_, q0, q1, q2⟩, f0, f1, f2⟩ := id B4
     cases hm : decide (m < rb0)
     ·have Hn : Hid (bestOf (xs.take (k + 1)) d = (m, p)) := by show _ = _; rw [Hd.out, hm]; simp
      clear Hd
      go_wp2_with fail
      go_roundw
      case rel => exact ⟨k + 1, v, m, p, by go_num, by omega, D4, B4, Hn⟩
      case measure => simp [intOf]; omega
     ·have Hn : Hid (bestOf (xs.take (k + 1)) d = (rb0, rp0)) := by show _ = _; rw [Hd.out, hm]; simp
      clear Hd
      have B5 := setBoxR B4 rv0 rb0 rp0
      have D5 := ((D4.setCell (p := ⟨w.heap.size, 0, none⟩) (Nat.le_refl _) (.int .i64 rv0)).setCell (p := ⟨w.heap.size, 1, none⟩) (Nat.le_refl _) (.int .i64 rb0)).setCell (p := ⟨w.heap.size, 2, none⟩) (Nat.le_refl _) (.int .i64 rp0)
      go_wp2_with fail
      go_roundw
      case rel => exact ⟨k + 1, rv0, rb0, rp0, by go_num, by omega, D5, B5, Hn⟩
      case measure => simp [intOf]; omega
  ·obtain rfl : k = xs.length := by omega
   have Hn : Hid (bestOf xs d = (m, p)) := by
    have := hl.out
    rw [List.take_length] at this
    exact this
   obtain ⟨⟨_, q0, q1, q2⟩, f0, f1, f2⟩ := id B1
   go_wp2_with fail
   go_quiet (fail)
   go_wp2_with fail
   go_ret2
   exact ⟨by rw [Hn.out]; rfl, belowN D1 _⟩
theorem out_none (A : Option Addr) (cap : Nat) (d : Int) (w : World) (h0 : 0 <= d) (h1 : d < 16) :
  Calls Tryz.prog 151 #[.slice A 0 cap, .int .i64 d] w fun e w' => e = .returned (.tuple #[.int .i64 0, .bool false]) ∧ Below w.heap.size w w' := by
 have t1 : decide (d < 0) = false := by simp; omega
 have t2 : decide (16 <= d) = false := by simp; omega
 have D0 := Below.al (Below.refl w.heap.size w) (.cells #[.int .i64 0, .int .i64 (-1), .int .i64 0] 166)
 have B0 := box_new w 0 (-1) 0 166
 clear h0 h1
 go_enter Tryz.func151, Tryz.ntmps151
 go_wp2_with fail
 go_loopw [18] (fun i wr => i = .int .i64 0 ∧ Below w.heap.size w wr ∧ BoxR wr w.heap.size 0 (-1) 0) (fun i _ => 0)
 case atStart => exact ⟨rfl, D0, B0⟩
 case round =>
  obtain ⟨rfl, D1, B1⟩ := hrel
  obtain ⟨⟨_, q0, q1, q2⟩, f0, f1, f2⟩ := id B1
  go_wp2_with fail
  go_quiet (fail)
  go_wp2_with fail
  go_ret2
  exact ⟨rfl, belowN D1 _⟩
theorem out_wide (v : Value) (d : Int) (w : World) (h : d < 0 ∨ 16 <= d) :
  Calls Tryz.prog 151 #[v, .int .i64 d] w fun e w' => e = .returned (.tuple #[.int .i64 0, .bool false]) ∧ Below w.heap.size w w' := by
 by_cases h0 : d < 0
 ·have t1 : decide (d < 0) = true := by simp; omega
  go_enter Tryz.func151, Tryz.ntmps151
  go_wp2_with fail
  go_ret2
  exact ⟨rfl, Below.refl _ _⟩
 ·have t1 : decide (d < 0) = false := by simp; omega
  have t2 : decide (16 <= d) = true := by simp; omega
  go_enter Tryz.func151, Tryz.ntmps151
  go_wp2_with fail
  go_ret2
  exact ⟨rfl, Below.refl _ _⟩
theorem out_any {v : Value} {xs : List Rt} (d : Int) (w : World) (h : Routes w.heap.size w v xs) :
  Calls Tryz.prog 151 #[v, .int .i64 d] w fun e w' => e = .returned (.tuple #[.int .i64 (outN xs d), .bool (outB xs d)]) ∧ Below w.heap.size w w' := by
 by_cases hd : 0 <= d ∧ d < 16
 ·have e1 : outN xs d = (bestOf xs d).2 := by unfold outN; rw [if_pos hd]
  have e2 : outB xs d = !((bestOf xs d).1 == -1) := by unfold outB; simp [hd]
  rw [e1, e2]
  obtain ⟨A, cap, rfl, _, h1, h2, h3⟩ := h
  by_cases hx : xs = []
  ·subst hx
   exact out_none A cap d w hd.1 hd.2
  ·obtain ⟨b, o, rfl, hb, hr⟩ := h3 hx
   exact out_row b o cap xs d w hb h1 h2 hr hd.1 hd.2
 ·have e1 : outN xs d = 0 := by unfold outN; rw [if_neg hd]
  have e2 : outB xs d = false := by
   unfold outB
   by_cases h0 : 0 <= d
   ·have : ¬ d < 16 := fun h1 => hd ⟨h0, h1⟩
    simp [this]
   ·simp [h0]
  rw [e1, e2]
  exact out_wide v d w (by omega)
theorem same_any (r s : Rt) (w : World) : Calls Tryz.prog 100 #[rtw r.v r.b r.p, rtw s.v s.b s.p] w fun e w' => e = .returned (.bool (sameA r s)) ∧ Below w.heap.size w w' := by
 obtain ⟨v, b, p⟩ := r
 obtain ⟨v', b', p'⟩ := s
 unfold sameA
 simp only
 cases h : (v == v')
 ·go_enter Tryz.func100, Tryz.ntmps100
  go_wp2_with fail
  go_ret
  exact ⟨by simp, by go_grown⟩
 ·go_enter Tryz.func100, Tryz.ntmps100
  go_wp2_with fail
  go_ret
  exact ⟨by simp, by go_grown⟩
theorem pred_any (a r : Rt) (n0 : Nat) (w : World) (hT : Three w n0 (.int .i64 r.v) (.int .i64 r.b) (.int .i64 r.p)) :
  Calls Tryz.prog 99 #[rtw a.v a.b a.p, .pointer (some ⟨n0, 0, none⟩)] w fun e w' => e = .returned (.bool (sameA a r)) ∧ Below w.heap.size w w' := by
 have D0 := Below.al (Below.refl w.heap.size w) (.cells #[.int .i64 a.v, .int .i64 a.b, .int .i64 a.p] 166)
 have T1 := allocThree hT (.cells #[.int .i64 a.v, .int .i64 a.b, .int .i64 a.p] 166)
 obtain ⟨l0, g0, g1, g2⟩ := T1
 obtain ⟨_, q0, q1, q2⟩ := id hT
 have SM : Hid (∀ w, Calls Tryz.prog 100 #[rtw a.v a.b a.p, rtw r.v r.b r.p] w fun e w' => e = .returned (.bool (sameA a r)) ∧ Below w.heap.size w w') := fun w => same_any a r w
 have hn := hT.1
 clear hT
 generalize sameA a r = x at *
 generalize a.v = av at *
 generalize a.b = ab at *
 generalize a.p = ap at *
 generalize r.v = rv at *
 generalize r.b = rb at *
 generalize r.p = rp at *
 go_enter Tryz.func99, Tryz.ntmps99
 go_wp2_with fail
 refine (SM.out _).mono ?_
 rintro e w1 ⟨rfl, hb1⟩
 have D1 := chn hb1 D0
 clear D0 hb1 g0 g1 g2 q0 q1 q2 SM
 go_wp2_with fail
 go_ret
 exact ⟨rfl, D1⟩
theorem any_take {xs : List Rt} {k : Nat} {a r : Rt} (h : xs[k]? = some a) : (xs.take (k + 1)).any (fun a => sameA a r) = ((xs.take k).any (fun a => sameA a r) || sameA a r) := by
 obtain ⟨hk, e⟩ := List.getElem?_eq_some_iff.1 h
 rw [List.take_succ_eq_append_getElem hk, e]
 simp
theorem any_here {xs : List Rt} {k : Nat} {a r : Rt} (h : xs[k]? = some a) (hs : sameA a r = true) : xs.any (fun a => sameA a r) = true :=
 List.any_eq_true.2 ⟨a, List.mem_of_getElem? h, hs⟩
theorem indexFunc_row (b o cap n0 : Nat) (xs : List Rt) (r : Rt) (w : World) (hb : b < w.heap.size) (hn : xs.length <= cap) (hcap : cap <= maxLen) (hr : Hid (TAt w b o xs)) (hT : Hid (Three w n0 (.int .i64 r.v) (.int .i64 r.b) (.int .i64 r.p))) :
  Calls Tryz.prog 126 #[.slice (some ⟨b, o, none⟩) xs.length cap, .func (.func 99) #[] #[.pointer (some ⟨n0, 0, none⟩)]] w fun e w' => ∃ j : Int, e = .returned (.int .i64 j) ∧ Hid (decide (0 <= j) = xs.any (fun a => sameA a r)) ∧ Below w.heap.size w w' := by
 unfold maxLen at hcap
 go_enter Tryz.func126, Tryz.ntmps126
 go_wp2_with fail
 go_loopw [8] (fun i wr => ∃ k : Nat, i = .int .i64 (k : Int) ∧ k <= xs.length ∧ Below w.heap.size w wr ∧ Hid ((xs.take k).any (fun a => sameA a r) = false)) (fun i _ => xs.length - (intOf i).toNat)
 case atStart => exact ⟨0, rfl, by omega, Below.refl _ _, rfl⟩
 case round =>
  obtain ⟨k, rfl, hk, D1, hno⟩ := hrel
  by_cases hlt : k < xs.length
  ·obtain ⟨a, hxk⟩ : ∃ a, xs[k]? = some a := ⟨_, List.getElem?_eq_getElem hlt⟩
   obtain ⟨c0, c1, c2⟩ := (hr.out.below D1 hb).at hxk
   have PR : Hid (Calls Tryz.prog 99 #[rtw a.v a.b a.p, .pointer (some ⟨n0, 0, none⟩)] wr fun e w' => e = .returned (.bool (sameA a r)) ∧ Below wr.heap.size wr w') := pred_any a r n0 wr (keepThree D1 hT.out.1 hT.out)
   have HX : Hid (xs[k]? = some a) := hxk
   clear hr hxk
   cases hv : sameA a r
   ·rw [hv] at PR
    have HV : Hid ((xs.take (k + 1)).any (fun a => sameA a r) = false) := by show _ = _; rw [any_take HX.out, hno.out, hv]; rfl
    clear hv hno HX hT
    generalize a.v = av at *
    generalize a.b = ab at *
    generalize a.p = ap at *
    go_wp2_with fail
    refine PR.out.mono ?_
    rintro e w2 ⟨rfl, hb2⟩
    have D2 := chn hb2 D1
    clear hb2 D1 c0 c1 c2 PR
    go_wp2_with fail
    go_roundw
    case rel => exact ⟨k + 1, by go_num, by omega, D2, HV⟩
    case measure => simp [intOf]; omega
   ·rw [hv] at PR
    have fin : Hid (xs.any (fun a => sameA a r) = true) := any_here HX.out hv
    clear hv hno HX hT
    generalize a.v = av at *
    generalize a.b = ab at *
    generalize a.p = ap at *
    go_wp2_with fail
    refine PR.out.mono ?_
    rintro e w2 ⟨rfl, hb2⟩
    have D2 := chn hb2 D1
    clear hb2 D1 c0 c1 c2 PR
    go_wp2_with fail
    go_ret
    exact ⟨_, rfl, (by show _ = _; rw [fin.out]; simp), D2⟩
  ·obtain rfl : k = xs.length := by omega
   have fin : Hid (xs.any (fun a => sameA a r) = false) := by
    have := hno.out
    rw [List.take_length] at this
    exact this
   go_wp2_with fail
   go_ret
   exact ⟨_, rfl, (by show _ = _; rw [fin.out]; simp), D1⟩
theorem contains_any (b o cap n0 : Nat) (xs : List Rt) (r : Rt) (w : World) (hb : b < w.heap.size) (hn : xs.length <= cap) (hcap : cap <= maxLen) (hr : Hid (TAt w b o xs)) (hT : Hid (Three w n0 (.int .i64 r.v) (.int .i64 r.b) (.int .i64 r.p))) :
  Calls Tryz.prog 98 #[.slice (some ⟨b, o, none⟩) xs.length cap, .func (.func 99) #[] #[.pointer (some ⟨n0, 0, none⟩)]] w fun e w' => e = .returned (.bool (xs.any (fun a => sameA a r))) ∧ Below w.heap.size w w' := by
 have IX : Hid (Calls Tryz.prog 126 #[.slice (some ⟨b, o, none⟩) xs.length cap, .func (.func 99) #[] #[.pointer (some ⟨n0, 0, none⟩)]] w fun e w' => ∃ j : Int, e = .returned (.int .i64 j) ∧ Hid (decide (0 <= j) = xs.any (fun a => sameA a r)) ∧ Below w.heap.size w w') := indexFunc_row b o cap n0 xs r w hb hn hcap hr hT
 clear hr hT hn hcap hb
 generalize xs.any (fun a => sameA a r) = x at *
 generalize xs.length = n at *
 go_enter Tryz.func98, Tryz.ntmps98
 go_wp2_with fail
 refine IX.out.mono ?_
 rintro e w2 ⟨j, rfl, hj, hb2⟩
 clear IX
 go_wp2_with fail
 go_ret
 exact ⟨by rw [hj.out]; rfl, hb2⟩
theorem check_row (b o cap : Nat) (xs : List Rt) (w : World) (hb : b < w.heap.size) (hn : xs.length <= cap) (hcap : cap <= maxLen) (hr : Hid (TAt w b o xs)) (h8 : xs.length <= 8) :
  Calls Tryz.prog 69 #[.slice (some ⟨b, o, none⟩) xs.length cap] w fun e w' => e = .returned (.int .i64 (checkFrom xs 0)) ∧ Below w.heap.size w w' := by
 have hcap' := hcap
 unfold maxLen at hcap
 have t8 : decide ((8 : Int) < (xs.length : Int)) = false := by simp; omega
 go_enter Tryz.func69, Tryz.ntmps69
 go_wp2_with fail
 go_loopw [10] (fun i wr => ∃ k : Nat, i = .int .i64 (k : Int) ∧ k <= xs.length ∧ Below w.heap.size w wr ∧ Hid (checkFrom xs 0 = checkFrom xs k)) (fun i _ => xs.length - (intOf i).toNat)
 case atStart => exact ⟨0, rfl, by omega, Below.refl _ _, rfl⟩
 case round =>
  obtain ⟨k, rfl, hk, D1, hl⟩ := hrel
  by_cases hlt : k < xs.length
  ·obtain ⟨r, hxk⟩ : ∃ r, xs[k]? = some r := ⟨_, List.getElem?_eq_getElem hlt⟩
   obtain ⟨c0, c1, c2⟩ := (hr.out.below D1 hb).at hxk
   have hlen : (xs.take k).length = k := by rw [List.length_take]; omega
   have Hd : Hid (checkFrom xs k = if (if isR r then (if (xs.take k).any (fun a => sameA a r) then 5 else 0) else 1 : Int) = 0 then checkFrom xs (k + 1) else (if isR r then (if (xs.take k).any (fun a => sameA a r) then 5 else 0) else 1 : Int)) := checkFrom_at hxk
   have IS : Hid (∀ w, Calls Tryz.prog 97 #[rtw r.v r.b r.p] w fun e w' => e = .returned (.bool (isR r)) ∧ Below w.heap.size w w') := fun w => isRoute_any r w
   have CO : Hid (∀ w', Below w.heap.size w w' -> Three w' wr.heap.size (.int .i64 r.v) (.int .i64 r.b) (.int .i64 r.p) -> Calls Tryz.prog 98 #[.slice (some ⟨b, o, none⟩) k cap, .func (.func 99) #[] #[.pointer (some ⟨wr.heap.size, 0, none⟩)]] w' fun e w'' => e = .returned (.bool ((xs.take k).any (fun a => sameA a r))) ∧ Below w'.heap.size w' w'') := fun w' hw hT => by
    have := contains_any b o cap wr.heap.size (xs.take k) r w' (Nat.lt_of_lt_of_le hb hw.size) (by omega) hcap' ((hr.out.below hw hb).take k) hT
    rw [hlen] at this
    exact this
   have D2 := Below.al D1 (.cells #[.int .i64 r.v, .int .i64 r.b, .int .i64 r.p] 166)
   have T2 := three_new wr (.int .i64 r.v) (.int .i64 r.b) (.int .i64 r.p) 166
   have lw := D1.size
   clear hxk D1 hr hlen hcap'
   generalize isR r = x at *
   generalize (xs.take k).any (fun a => sameA a r) = y at *
   generalize r.v = rv0 at *
   generalize r.b = rb0 at *
   generalize r.p = rp0 at *
   go_wp2_with fail
   refine (IS.out _).mono ?_
   rintro e w3 ⟨rfl, hb3⟩
   have D3 := chn hb3 D2
   have T3 := keepThree hb3 (by simp) T2
   clear hb3 D2 T2 c0 c1 c2 IS
   cases x
   ·go_wp2_with fail
    go_ret
    exact ⟨by rw [hl.out, Hd.out]; simp, D3⟩
   ·go_wp2_with fail
    refine (CO.out _ D3 T3).mono ?_
    rintro e w4 ⟨rfl, hb4⟩
    have D4 := chn hb4 D3
    clear hb4 D3 T3 CO
    cases y
    ·go_wp2_with fail
     go_roundw
     case rel => exact ⟨k + 1, by go_num, by omega, D4, by show _ = _; rw [hl.out, Hd.out]; simp⟩
     case measure => simp [intOf]; omega
    ·go_wp2_with fail
     go_ret
     exact ⟨by rw [hl.out, Hd.out]; simp, D4⟩
  ·have fin : Hid (checkFrom xs 0 = 0) := by show _ = _; rw [hl.out, checkFrom_end (by omega)]
   go_wp2_with fail
   go_ret
   exact ⟨by rw [fin.out]; rfl, D1⟩
theorem check_none (A : Option Addr) (cap : Nat) (w : World) :
  Calls Tryz.prog 69 #[.slice A 0 cap] w fun e w' => e = .returned (.int .i64 0) ∧ Below w.heap.size w w' := by
 go_enter Tryz.func69, Tryz.ntmps69
 go_wp2_with fail
 go_loopw [10] (fun i wr => i = .int .i64 0 ∧ Below w.heap.size w wr) (fun i _ => 0)
 case atStart => exact ⟨rfl, Below.refl _ _⟩
 case round =>
  obtain ⟨rfl, D1⟩ := hrel
  go_wp2_with fail
  go_ret
  exact ⟨rfl, D1⟩
theorem check_large (A : Option Addr) (n cap : Nat) (w : World) (h : 8 < n) :
  Calls Tryz.prog 69 #[.slice A n cap] w fun e w' => e = .returned (.int .i64 2) ∧ Below w.heap.size w w' := by
 have t8 : decide ((8 : Int) < (n : Int)) = true := by simp; omega
 go_enter Tryz.func69, Tryz.ntmps69
 go_wp2_with fail
 go_ret
 exact ⟨rfl, Below.refl _ _⟩
theorem check_any {v : Value} {xs : List Rt} (w : World) (h : Routes w.heap.size w v xs) :
  Calls Tryz.prog 69 #[v] w fun e w' => e = .returned (.int .i64 (checkV xs)) ∧ Below w.heap.size w w' := by
 obtain ⟨A, cap, rfl, _, h1, h2, h3⟩ := h
 unfold checkV
 by_cases h8 : 8 < xs.length
 ·rw [if_pos h8]
  exact check_large A xs.length cap w h8
 ·rw [if_neg h8]
  by_cases hx : xs = []
  ·subst hx
   rw [checkFrom_end (by simp)]
   exact check_none A cap w
  ·obtain ⟨b, o, rfl, hb, hr⟩ := h3 hx
   exact check_row b o cap xs w hb h1 h2 hr (by omega)
end Go.Proofs.YtmcklkkkkigflaaGreat
namespace Go.Proofs.YtmcklkkkkigflaaGreat
open Go.RowKit Go.Maps
def sentB (xs : List Rt) (q : Int) (i : Nat) : Bool := outB xs (i : Int) && (outN xs (i : Int) == q)
theorem or_u16 (z c : Nat) (hz : z < 65536) (hc : c < 16) : Go.bits .or .u16 (z : Int) (IntKind.u16.wrap (2 ^ c)) = ((z ||| 2 ^ c : Nat) : Int) ∧ z ||| 2 ^ c < 65536 := by
 have hp : 2 ^ c < 65536 := Nat.pow_lt_pow_right (a := 2) (by omega) (show c < 16 by omega)
 have hlt : z ||| 2 ^ c < 65536 := Nat.or_lt_two_pow (n := 16) hz hp
 have e0 : IntKind.u16.wrap (2 ^ c) = ((2 ^ c : Nat) : Int) := by
  have e : (2 : Int) ^ c = ((2 ^ c : Nat) : Int) := by simp
  rw [e]
  exact IntWalk.u16_in _ ⟨Int.natCast_nonneg _, by have := Int.ofNat_lt.2 hp; omega⟩
 refine ⟨?_, hlt⟩
 rw [e0]
 generalize 2 ^ c = p at *
 have e1 : BitVec.ofInt 16 (z : Int) = BitVec.ofNat 16 z := by simp
 have e2 : BitVec.ofInt 16 (p : Int) = BitVec.ofNat 16 p := by simp
 have hm : (BitVec.ofNat 16 z ||| BitVec.ofNat 16 p).toNat = z ||| p := by
  simp [BitVec.toNat_or, Nat.mod_eq_of_lt hz, Nat.mod_eq_of_lt hp]
 show IntKind.u16.wrap ((BitVec.ofInt 16 (z : Int) ||| BitVec.ofInt 16 (p : Int)).toNat : Int) = _
 rw [e1, e2, hm]
 exact IntWalk.u16_in _ (by omega)
theorem sent_any {v : Value} {xs : List Rt} (q : Int) (w : World) (h : Hid (Routes w.heap.size w v xs)) :
  Calls Tryz.prog 148 #[v, .int .i64 q] w fun e w' => ∃ s : Nat, e = .returned (.int .u16 (s : Int)) ∧ s < 65536 ∧ Hid (∀ i, i < 16 -> s.testBit i = sentB xs q i) ∧ Below w.heap.size w w' := by
 go_enter Tryz.func148, Tryz.ntmps148
 go_wp2_with fail
 go_loopw [5, 9] (fun s i wr => ∃ c z : Nat, i = .int .i64 (c : Int) ∧ s = .int .u16 (z : Int) ∧ c <= 16 ∧ z < 65536 ∧ Below w.heap.size w wr ∧ Hid (∀ i, z.testBit i = (decide (i < c) && sentB xs q i))) (fun _ i _ => 16 - (intOf i).toNat)
 case atStart => exact ⟨0, 0, rfl, rfl, by omega, by omega, Below.refl _ _, fun i => by simp⟩
 case round =>
  obtain ⟨c, z, rfl, rfl, hc, hz, D1, hb⟩ := hrel
  by_cases hlt : c < 16
  ·have OU : Hid (Calls Tryz.prog 151 #[v, .int .i64 (c : Int)] wr fun e w'' => e = .returned (.tuple #[.int .i64 (outN xs (c : Int)), .bool (outB xs (c : Int))]) ∧ Below wr.heap.size wr w'') := out_any (c : Int) wr ((h.out.below D1).mono D1.size)
   have HS : Hid (sentB xs q c = (outB xs (c : Int) && (outN xs (c : Int) == q))) := rfl
   obtain ⟨o1, o2⟩ := or_u16 z c hz hlt
   have NO : Hid (sentB xs q c = false -> ∀ i, z.testBit i = (decide (i < c + 1) && sentB xs q i)) := fun hn i => by
    rw [hb.out i]
    by_cases hi : i = c
    ·subst hi
     rw [hn]
     simp
    ·congr 1
     rw [decide_eq_decide]
     omega
   have YES : Hid (sentB xs q c = true -> ∀ i, (z ||| 2 ^ c).testBit i = (decide (i < c + 1) && sentB xs q i)) := fun hy i => by
    rw [Nat.testBit_or, hb.out i, Nat.testBit_two_pow]
    by_cases hi : i = c
    ·subst hi
     rw [hy]
     simp
    ·have e1 : decide (i < c + 1) = decide (i < c) := by rw [decide_eq_decide]; omega
     have e2 : decide (c = i) = false := by simp; omega
     rw [e1, e2, Bool.or_false]
   clear hb
   generalize outN xs (c : Int) = n0 at *
   generalize outB xs (c : Int) = k0 at *
   go_wp2_with fail
   refine OU.out.mono ?_
   rintro e w2 ⟨rfl, hb2⟩
   have D2 := chn hb2 D1
   clear OU hb2 D1
   cases k0
   ·have NO' : Hid (∀ i, z.testBit i = (decide (i < c + 1) && sentB xs q i)) := NO.out (by rw [HS.out]; rfl)
    clear NO YES HS o1 o2
    go_wp2_with fail
    go_roundw
    case rel => exact ⟨c + 1, z, by go_num, rfl, by omega, hz, D2, NO'⟩
    case measure => simp [intOf]; omega
   ·cases hq : (n0 == q)
    ·have NO' : Hid (∀ i, z.testBit i = (decide (i < c + 1) && sentB xs q i)) := NO.out (by rw [HS.out, hq]; rfl)
     clear NO YES HS o1 o2
     go_wp2_with fail
     go_roundw
     case rel => exact ⟨c + 1, z, by go_num, rfl, by omega, hz, D2, NO'⟩
     case measure => simp [intOf]; omega
    ·have YES' : Hid (∀ i, (z ||| 2 ^ c).testBit i = (decide (i < c + 1) && sentB xs q i)) := YES.out (by rw [HS.out, hq]; rfl)
     have O1 : Hid (Go.bits .or .u16 (z : Int) (IntKind.u16.wrap (2 ^ c)) = ((z ||| 2 ^ c : Nat) : Int)) := o1
     clear NO YES HS o1
     go_wp2_with fail
     go_roundw
     case rel => exact ⟨c + 1, z ||| 2 ^ c, by go_num, congrArg (Value.int .u16) O1.out, by omega, o2, D2, YES'⟩
     case measure => simp [intOf]; omega
  ·obtain rfl : c = 16 := by omega
   have fin : Hid (∀ i, i < 16 -> z.testBit i = sentB xs q i) := fun i hi => by
    rw [hb.out i, decide_eq_true hi]
    rfl
   clear hb
   go_wp2_with fail
   go_ret
   exact ⟨z, rfl, hz, fin, D1⟩
theorem four_set (w : World) (n : Nat) (x : Value) (a b c d : Value) (h : Four w n a b c d) : (w.setCell ⟨n, 1, none⟩ x).cell? ⟨n, 0, none⟩ = some a ∧ (w.setCell ⟨n, 1, none⟩ x).cell? ⟨n, 1, none⟩ = some x ∧ (w.setCell ⟨n, 1, none⟩ x).cell? ⟨n, 2, none⟩ = some c ∧ (w.setCell ⟨n, 1, none⟩ x).cell? ⟨n, 3, none⟩ = some d := by
 obtain ⟨h0, h1, h2, h3, h4⟩ := h
 refine ⟨?_, ?_, ?_, ?_⟩ <;> simp [go_sem, h1, h2, h3, h4]
section
variable {base a M : Nat} {w : World} {ns : List Nd}
theorem fbuild_ok (h : Ar base a M 14 40000 w ns) {v : Value} {xs : List Rt} (q : Int) (hR : Hid (Routes w.heap.size w v xs)) (hc : checkV xs = 0) :
  Calls Tryz.prog 144 #[.pointer (some ⟨a, 0, none⟩), v, .int .i64 q] w fun e w' => ∃ s : Nat, (s < 65536 ∧ Hid (∀ i, i < 16 -> s.testBit i = sentB xs q i)) ∧ MkPost base a M 14 40000 w ns 44 0 (phi 65535 s 255 255) e w' := by
 have CK : Hid (Calls Tryz.prog 69 #[v] w fun e w'' => e = .returned (.int .i64 0) ∧ Below w.heap.size w w'') := by
  have := check_any w hR.out
  rw [hc] at this
  exact this
 clear hc
 go_enter Tryz.func144, Tryz.ntmps144
 go_wp2_with fail
 refine CK.out.mono ?_
 rintro e w1 ⟨rfl, D1⟩
 clear CK
 go_wp2_with fail
 refine (all_any _).mono ?_
 rintro e w2 ⟨rfl, hb2⟩
 have D2 := chn hb2 D1
 have D3 := Below.al D2 (.cells #[.int .u16 65535, .int .u16 65535, .int .u8 255, .int .u8 255] 34)
 have F3 := four_new w2 (.int .u16 65535) (.int .u16 65535) (.int .u8 255) (.int .u8 255) 34
 have fz3 : (w2.alloc (.cells #[.int .u16 65535, .int .u16 65535, .int .u8 255, .int .u8 255] 34)).frozen? ⟨w2.heap.size, 1, none⟩ = false := by simp [go_sem]
 have z2 := D2.size
 have SE : Hid (Calls Tryz.prog 148 #[v, .int .i64 q] (w2.alloc (.cells #[.int .u16 65535, .int .u16 65535, .int .u8 255, .int .u8 255] 34)) fun e w' => ∃ s : Nat, e = .returned (.int .u16 (s : Int)) ∧ s < 65536 ∧ Hid (∀ i, i < 16 -> s.testBit i = sentB xs q i) ∧ Below (w2.alloc (.cells #[.int .u16 65535, .int .u16 65535, .int .u8 255, .int .u8 255] 34)).heap.size (w2.alloc (.cells #[.int .u16 65535, .int .u16 65535, .int .u8 255, .int .u8 255] 34)) w') := sent_any q _ ((hR.out.below D3).mono D3.size)
 clear hb2 D1 D2 hR
 go_wp2_with fail
 refine SE.out.mono ?_
 rintro e w4 ⟨s, rfl, hs, hbits, hb4⟩
 have D4 := chn hb4 D3
 have F4 := keepFour hb4 F3
 have fz4 : w4.frozen? ⟨w2.heap.size, 1, none⟩ = false := (hb4.frozen (p := ⟨w2.heap.size, 1, none⟩) (by simp)).trans fz3
 have F5 := four_set w4 w2.heap.size (.int .u16 (s : Int)) _ _ _ _ F4
 have D5 := D4.setCell (p := ⟨w2.heap.size, 1, none⟩) z2 (.int .u16 (s : Int))
 have A5 := h.below D5
 have K5 := h.kbelow D5
 obtain ⟨_, x0, x1, x2, x3⟩ := id F4
 obtain ⟨y0, y1, y2, y3⟩ := F5
 have BM : Hid (Calls Tryz.prog 37 #[.pointer (some ⟨a, 0, none⟩), mt 65535 s 255 255] (w4.setCell ⟨w2.heap.size, 1, none⟩ (.int .u16 (s : Int))) (MkPost base a M 14 40000 (w4.setCell ⟨w2.heap.size, 1, none⟩ (.int .u16 (s : Int))) ns 44 0 (phi 65535 s 255 255))) := build_match A5 (Nat.le_refl _) 65535 s 255 255 (by omega) hs (by omega) (by omega)
 clear SE F3 fz3 D3 hb4 D4 A5 D5
 go_wp2_with fail
 refine BM.out.mono ?_
 rintro e w6 hp
 obtain ⟨ns6, v6, er6, rfl, A6, K6, X6, l6, d6⟩ := hp.pair
 have fin : Hid (MkPost base a M 14 40000 w ns 44 0 (phi 65535 s 255 255) (.returned (.tuple #[.int .i64 v6, .int .i64 er6])) w6) := by
  refine ⟨ns6, A6, K5.trans K6, X6, l6, ?_⟩
  rcases d6.out with ⟨rfl, f, rfl, r⟩ | ⟨rfl, rfl, r⟩
  ·exact Or.inl ⟨f, rfl, r⟩
  ·exact Or.inr ⟨rfl, r⟩
 clear BM hp d6 A6 K6 K5 X6 y0 y1 y2 y3 x0 x1 x2 x3 F4 h
 go_wp2_with fail
 go_ret2
 exact ⟨s, ⟨hs, hbits⟩, fin.out⟩
end
def sentN (xs : List Rt) (q : Int) : Nat -> Nat
 | 0 => 0
 | c + 1 => if sentB xs q c then sentN xs q c ||| 2 ^ c else sentN xs q c
theorem sentN_bit (xs : List Rt) (q : Int) : ∀ (c i : Nat), (sentN xs q c).testBit i = (decide (i < c) && sentB xs q i)
 | 0, i => by simp [sentN]
 | c + 1, i => by
   unfold sentN
   cases hs : sentB xs q c
   ·rw [if_neg (by simp), sentN_bit xs q c i]
    by_cases hi : i = c
    ·subst hi
     rw [hs]
     simp
    ·congr 1
     rw [decide_eq_decide]
     omega
   ·rw [if_pos rfl, Nat.testBit_or, sentN_bit xs q c i, Nat.testBit_two_pow]
    by_cases hi : i = c
    ·subst hi
     rw [hs]
     simp
    ·have e1 : decide (i < c + 1) = decide (i < c) := by rw [decide_eq_decide]; omega
     have e2 : decide (c = i) = false := by simp; omega
     rw [e1, e2, Bool.or_false]
theorem sent_eq {xs : List Rt} {q : Int} {s : Nat} (hs : s < 65536) (hb : ∀ i, i < 16 -> s.testBit i = sentB xs q i) : s = sentN xs q 16 := Nat.eq_of_testBit_eq fun i => by
 rw [sentN_bit]
 by_cases hi : i < 16
 ·rw [hb i hi, decide_eq_true hi]
  rfl
 ·rw [decide_eq_false hi, Nat.testBit_lt_two_pow (Nat.lt_of_lt_of_le hs (Nat.pow_le_pow_right (n := 2) (by omega) (show 16 <= i by omega)))]
  rfl
section
variable {base q a M : Nat} {w0 w : World} {ns : List Nd} {er : Int}
theorem routes_w (h : Bn base q a M w0 w ns er) {A : Option Addr} {n cap : Nat} {pt : Int} {g0 : Nat} {χ : Env -> Bool} (OP : Hid (Calls Tryz.prog 144 #[.pointer (some ⟨a, 0, none⟩), .slice A n cap, .int .i64 pt] w (OPost base a M w ns g0 χ))) :
  Calls Tryz.prog 128 #[.pointer (some ⟨q, 0, none⟩), .slice A n cap, .int .i64 pt] w (BOut base q a M w0 w ns er g0 χ) := by
 have c0 := h.blk.cell 0 _ rfl
 go_enter Tryz.func128, Tryz.ntmps128
 go_wp2_with fail
 refine OP.out.mono ?_
 rintro e w1 ⟨ns1, v, e2, rfl, A1, k1, X1, l1, hv⟩
 have KP := Hq.mk (keep_b (h.keep k1) v e2)
 have FN : Hq (∀ w2, w2 = (if er = 0 then w1.setCell ⟨q, 1, none⟩ (.int .i64 e2) else w1) -> BOut base q a M w0 w ns er g0 χ (.returned (.int .i64 v)) w2) := ⟨fun w2 hw => h.fin A1 k1 X1 l1 hv hw⟩
 clear c0 OP A1 k1 X1 l1 hv h
 go_wp2_with fail
 refine KP.out.mono ?_
 rintro e w2 ⟨rfl, hw⟩
 have F2 := FN.out w2 hw
 clear hw FN KP
 go_wp2_with fail
 go_ret
 exact F2
theorem routes_b (h : Bn base q a M w0 w ns er) (A : Option Addr) (n cap : Nat) (xs : List Rt) (pt : Int) (hR : Routes w.heap.size w (.slice A n cap) xs) (hc : checkV xs = 0) :
  Calls Tryz.prog 128 #[.pointer (some ⟨q, 0, none⟩), .slice A n cap, .int .i64 pt] w (BOut base q a M w0 w ns er 44 (phi 65535 (sentN xs pt 16) 255 255)) :=
 routes_w h (OP := (fbuild_ok h.ar pt hR hc).mono fun _ _ ⟨s, ⟨h1, h2⟩, hp⟩ => by
  rw [sent_eq h1 h2.out] at hp
  exact hp.o)
end
end Go.Proofs.YtmcklkkkkigflaaGreat
namespace Go.Proofs.YtmcklkkkkigflaaGreat
open Go.RowKit
theorem chnN {W0 W w' : World} (hb : Below W.heap.size W w') (h : Below W0.heap.size W0 W) : Below W0.heap.size W0 w' := h.trans (hb.mono h.size)
theorem Below.alN {W0 w : World} (h : Below W0.heap.size W0 w) (o : Obj) : Below W0.heap.size W0 (w.alloc o) := h.alloc h.size o
def portsV (k : Int) : Int := if k = 1 then 1 else if k = 2 then 4 else if k = 3 ∨ k = 4 ∨ k = 5 then 2 else 0
def endOf (l : Lk) (d p : Int) : Option (Int × Int) := if (l.a == d) && (l.p == p) then some (l.b, l.q) else if (l.b == d) && (l.q == p) then some (l.a, l.p) else none
def peerF : List Lk -> Int -> Int -> Option (Int × Int)
 | [], _, _ => none
 | l :: ls, d, p => (endOf l d p).or (peerF ls d p)
theorem peerF_drop {ls : List Lk} {k : Nat} {l : Lk} (h : ls[k]? = some l) (d p : Int) : peerF (ls.drop k) d p = (endOf l d p).or (peerF (ls.drop (k + 1)) d p) := by
 obtain ⟨hk, e⟩ := List.getElem?_eq_some_iff.1 h
 rw [List.drop_eq_getElem_cons hk, e]
 rfl
abbrev placeV : Option (Int × Int) -> Value
 | some x => .agg #[.int .i64 x.1, .int .i64 x.2]
 | none => .agg #[.int .i64 0, .int .i64 0]
theorem Links.at {base : Nat} {w : World} {A : Option Addr} {n cap : Nat} {ls : List Lk} (h : Links base w (.slice A n cap) ls) {k : Nat} {l : Lk} (hk : ls[k]? = some l) :
  ∃ b o, A = some ⟨b, o, none⟩ ∧ b < base ∧ w.cell? ⟨b, o + k * 4, none⟩ = some (.int .i64 l.a) ∧ w.cell? ⟨b, o + k * 4 + 1, none⟩ = some (.int .i64 l.p) ∧ w.cell? ⟨b, o + k * 4 + 2, none⟩ = some (.int .i64 l.b) ∧ w.cell? ⟨b, o + k * 4 + 3, none⟩ = some (.int .i64 l.q) := by
 obtain ⟨A', cap', e, _, _, _, h3⟩ := h
 cases e
 obtain ⟨b, o, ea, hl, hr⟩ := h3 (fun e => by subst e; simp at hk)
 obtain ⟨cs, _, rfl, hc⟩ := hr k l hk
 exact ⟨b, o, ea, hl, hc 0 _ rfl, hc 1 _ rfl, hc 2 _ rfl, hc 3 _ rfl⟩
theorem Links.len {base : Nat} {w : World} {A : Option Addr} {n cap : Nat} {ls : List Lk} (h : Links base w (.slice A n cap) ls) : n = ls.length ∧ n <= cap ∧ cap <= maxLen := by
 obtain ⟨A', cap', e, _, h1, h2, _⟩ := h
 cases e
 exact ⟨rfl, h1, h2⟩
def Box2 (w : World) (n : Nat) (x y : Value) : Prop := n < w.heap.size ∧ w.cell? ⟨n, 0, none⟩ = some x ∧ w.cell? ⟨n, 1, none⟩ = some y ∧ w.frozen? ⟨n, 0, none⟩ = false ∧ w.frozen? ⟨n, 1, none⟩ = false
theorem Box2.below {B : Nat} {W w' : World} {n : Nat} {x y : Value} (h : Box2 W n x y) (hb : Below B W w') (hB : n < B) : Box2 w' n x y :=
 ⟨Nat.lt_of_lt_of_le h.1 hb.size, (hb.cell (p := ⟨n, 0, none⟩) hB).trans h.2.1, (hb.cell (p := ⟨n, 1, none⟩) hB).trans h.2.2.1, (hb.frozen (p := ⟨n, 0, none⟩) hB).trans h.2.2.2.1, (hb.frozen (p := ⟨n, 1, none⟩) hB).trans h.2.2.2.2⟩
theorem Box2.alloc {w : World} {n : Nat} {x y : Value} (h : Box2 w n x y) (o : Obj) : Box2 (w.alloc o) n x y := h.below ((Below.refl _ _).alloc (Nat.le_refl _) o) h.1
theorem box2_new (w : World) (x y : Value) (t : TypeId) : Box2 (w.alloc (.cells #[x, y] t)) w.heap.size x y := ⟨by simp, by simp [go_sem], by simp [go_sem], by simp [go_sem], by simp [go_sem]⟩
def backsFrom (bs : List Int) (ad : Int) (k : Nat) : Int :=
 if h : k < bs.length then (if (decide (0 <= bs[k]) && decide (bs[k] <= 15)) && !(bs[k] == ad) && !((bs.take k).any (fun y => y == bs[k])) then backsFrom bs ad (k + 1) else 1) else 0
termination_by bs.length - k
theorem backsFrom_at {bs : List Int} {ad : Int} {k : Nat} {x : Int} (h : bs[k]? = some x) : backsFrom bs ad k = if (decide (0 <= x) && decide (x <= 15)) && !(x == ad) && !((bs.take k).any (fun y => y == x)) then backsFrom bs ad (k + 1) else 1 := by
 obtain ⟨hk, e⟩ := List.getElem?_eq_some_iff.1 h
 rw [backsFrom, dif_pos hk, e]
theorem backsFrom_end {bs : List Int} {ad : Int} {k : Nat} (h : bs.length <= k) : backsFrom bs ad k = 0 := by rw [backsFrom, dif_neg (by omega)]
def hasAddr (k : Int) : Bool := (k == 1) || (k == 4) || (k == 5)
def devV (k ad : Int) (pl : Nat) (bs : List Int) (nr nt : Nat) (c : Int) : Int :=
 if !(decide (1 <= k) && decide (k <= 5)) then 1
 else if (hasAddr k && !(decide (0 <= ad) && decide (ad <= 15))) || (!hasAddr k && !(ad == 0)) || (decide (0 < pl) != (k == 4)) then 1
 else if 3 < bs.length then 2
 else if (decide (bs.length = 0) == (k == 5)) then 1
 else if backsFrom bs ad 0 = 1 then 1
 else if (decide (0 < nr) && !(k == 2) && !(k == 3)) || (decide (0 < nt) && !(k == 2)) then 1
 else if 8 < nr then 2
 else c
def Seven (w : World) (n : Nat) (a b c d e f g : Value) : Prop :=
 n < w.heap.size ∧ w.cell? ⟨n, 0, none⟩ = some a ∧ w.cell? ⟨n, 1, none⟩ = some b ∧ w.cell? ⟨n, 2, none⟩ = some c ∧ w.cell? ⟨n, 3, none⟩ = some d ∧ w.cell? ⟨n, 4, none⟩ = some e ∧ w.cell? ⟨n, 5, none⟩ = some f ∧ w.cell? ⟨n, 6, none⟩ = some g
theorem seven_new (w : World) (a b c d e f g : Value) (t : TypeId) : Seven (w.alloc (.cells #[a, b, c, d, e, f, g] t)) w.heap.size a b c d e f g :=
 ⟨by simp, by simp [go_sem], by simp [go_sem], by simp [go_sem], by simp [go_sem], by simp [go_sem], by simp [go_sem], by simp [go_sem]⟩
theorem Seven.below {B : Nat} {W w' : World} {n : Nat} {a b c d e f g : Value} (h : Seven W n a b c d e f g) (hb : Below B W w') (hB : n < B) : Seven w' n a b c d e f g := by
 obtain ⟨h0, h1, h2, h3, h4, h5, h6, h7⟩ := h
 exact ⟨Nat.lt_of_lt_of_le h0 hb.size, (hb.cell (p := ⟨n, 0, none⟩) hB).trans h1, (hb.cell (p := ⟨n, 1, none⟩) hB).trans h2, (hb.cell (p := ⟨n, 2, none⟩) hB).trans h3, (hb.cell (p := ⟨n, 3, none⟩) hB).trans h4, (hb.cell (p := ⟨n, 4, none⟩) hB).trans h5, (hb.cell (p := ⟨n, 5, none⟩) hB).trans h6, (hb.cell (p := ⟨n, 6, none⟩) hB).trans h7⟩
theorem belowNN {B : Nat} {a w : World} (h : Below B a w) (n : Nat) : Below B a (w.drewN n) := h.trans ⟨rfl, rfl, rfl, Nat.le_refl _, fun _ _ => rfl⟩
theorem Ints.at {base : Nat} {w : World} {A : Option Addr} {n cap : Nat} {bs : List Int} (h : SlAt base w 1 IsI (.slice A n cap) bs) {k : Nat} {x : Int} (hk : bs[k]? = some x) :
  ∃ b o, A = some ⟨b, o, none⟩ ∧ b < base ∧ ∀ j y, bs[j]? = some y -> w.cell? ⟨b, o + j, none⟩ = some (.int .i64 y) := by
 obtain ⟨A', cap', e, _, _, _, h3⟩ := h
 cases e
 obtain ⟨b, o, ea, hl, hr⟩ := h3 (fun e => by subst e; simp at hk)
 refine ⟨b, o, ea, hl, fun j y hy => ?_⟩
 obtain ⟨cs, _, rfl, hc⟩ := hr j y hy
 have := hc 0 _ rfl
 rw [Nat.mul_one, Nat.add_zero] at this
 exact this
theorem any_takeI {bs : List Int} {j : Nat} {y x : Int} (h : bs[j]? = some y) : (bs.take (j + 1)).any (fun z => z == x) = ((bs.take j).any (fun z => z == x) || (y == x)) := by
 obtain ⟨hk, e⟩ := List.getElem?_eq_some_iff.1 h
 rw [List.take_succ_eq_append_getElem hk, e]
 simp
def meetB (m l : Lk) : Bool := ((m.a == l.a) && (m.p == l.p)) || ((m.a == l.b) && (m.p == l.q)) || ((m.b == l.a) && (m.q == l.p)) || ((m.b == l.b) && (m.q == l.q))
def selfB (l : Lk) : Bool := (l.a == l.b) && (l.p == l.q)
theorem endOf_ends {l : Lk} {d p : Int} {x : Int × Int} (h : endOf l d p = some x) : ((l.a = d ∧ l.p = p) ∧ x = (l.b, l.q)) ∨ ((l.b = d ∧ l.q = p) ∧ x = (l.a, l.p)) := by
 unfold endOf at h
 split at h
 ·rename_i hc
  simp only [Bool.and_eq_true, beq_iff_eq] at hc
  exact .inl ⟨hc, (Option.some.inj h).symm⟩
 ·split at h
  ·rename_i hc
   simp only [Bool.and_eq_true, beq_iff_eq] at hc
   exact .inr ⟨hc, (Option.some.inj h).symm⟩
  ·cases h
theorem endOf_from (l : Lk) : endOf l l.a l.p = some (l.b, l.q) := by unfold endOf; simp
theorem endOf_to {l : Lk} (hs : selfB l = false) : endOf l l.b l.q = some (l.a, l.p) := by
 unfold endOf
 unfold selfB at hs
 rw [hs]
 simp
theorem endOf_back {l : Lk} {d p : Int} {x : Int × Int} (hs : selfB l = false) (h : endOf l d p = some x) : endOf l x.1 x.2 = some (d, p) := by
 rcases endOf_ends h with ⟨⟨rfl, rfl⟩, rfl⟩ | ⟨⟨rfl, rfl⟩, rfl⟩
 ·exact endOf_to hs
 ·exact endOf_from l
theorem endOf_meet {m l : Lk} {d p : Int} (h1 : (endOf m d p).isSome) (h2 : (endOf l d p).isSome) : meetB m l = true := by
 obtain ⟨x, hx⟩ := Option.isSome_iff_exists.1 h1
 obtain ⟨y, hy⟩ := Option.isSome_iff_exists.1 h2
 unfold meetB
 rcases endOf_ends hx with ⟨⟨h1, h2⟩, _⟩ | ⟨⟨h1, h2⟩, _⟩ <;> rcases endOf_ends hy with ⟨⟨h3, h4⟩, _⟩ | ⟨⟨h3, h4⟩, _⟩ <;> simp [h1, h2, h3, h4]
theorem peerF_of {ls : List Lk} {d p : Int} {x : Int × Int} (h : peerF ls d p = some x) : ∃ l ∈ ls, endOf l d p = some x := by
 induction ls with
 | nil => simp [peerF] at h
 | cons l ls ih =>
   rw [peerF] at h
   cases he : endOf l d p with
   | some y =>
     rw [he] at h
     exact ⟨l, by simp, by rw [he]; simpa using h⟩
   | none =>
     rw [he] at h
     obtain ⟨m, hm, e⟩ := ih (by simpa using h)
     exact ⟨m, by simp [hm], e⟩
def Apart (ls : List Lk) : Prop := ls.Pairwise (fun m l => meetB m l = false) ∧ ∀ l ∈ ls, selfB l = false
theorem Apart.tail {l : Lk} {ls : List Lk} (h : Apart (l :: ls)) : Apart ls := ⟨(List.pairwise_cons.1 h.1).2, fun m hm => h.2 m (by simp [hm])⟩
theorem peerF_back {ls : List Lk} (hA : Apart ls) {d p : Int} {x : Int × Int} (h : peerF ls d p = some x) : peerF ls x.1 x.2 = some (d, p) := by
 induction ls with
 | nil => simp [peerF] at h
 | cons l ls ih =>
   rw [peerF] at h
   cases he : endOf l d p with
   | some y =>
     rw [he] at h
     obtain rfl : y = x := by simpa using h
     rw [peerF, endOf_back (hA.2 l (by simp)) he]
     rfl
   | none =>
     rw [he] at h
     have h' : peerF ls d p = some x := by simpa using h
     obtain ⟨m, hm, e⟩ := peerF_of h'
     have hb := endOf_back (hA.2 m (by simp [hm])) e
     have hn : endOf l x.1 x.2 = none := by
      cases hq : endOf l x.1 x.2 with
      | none => rfl
      | some z =>
        have := endOf_meet (m := l) (l := m) (by rw [hq]; rfl) (by rw [hb]; rfl)
        rw [(List.pairwise_cons.1 hA.1).1 m hm] at this
        cases this
     rw [peerF, hn, ih hA.tail h']
     rfl
def nameB (c : UInt8) : Bool := (decide (97 <= (c.toNat : Int)) && decide ((c.toNat : Int) <= 122)) || (decide (48 <= (c.toNat : Int)) && decide ((c.toNat : Int) <= 57))
def nameOk (s : ByteArray) : Bool := decide (1 <= s.size) && decide (s.size <= 8) && s.data.toList.all nameB
def rtOf (r : NRoute) : Rt := ⟨r.v, r.b, r.p⟩
def devC (d : Dv) : Int := devV d.kind d.addr d.pool d.backs d.rules.length d.routes.length (checkV (d.routes.map rtOf))
def devWrong (ds : List Dv) (k : Nat) (d : Dv) : Int := if nameOk d.name then (if (ds.take k).any (fun x => x.name.toList == d.name.toList) then 5 else devC d) else 3
def devsFrom (ds : List Dv) (k : Nat) : Int :=
 if h : k < ds.length then (if devWrong ds k ds[k] = 0 then devsFrom ds (k + 1) else devWrong ds k ds[k]) else 0
termination_by ds.length - k
theorem devsFrom_at {ds : List Dv} {k : Nat} {d : Dv} (h : ds[k]? = some d) : devsFrom ds k = if devWrong ds k d = 0 then devsFrom ds (k + 1) else devWrong ds k d := by
 obtain ⟨hk, e⟩ := List.getElem?_eq_some_iff.1 h
 rw [devsFrom, dif_pos hk, e]
theorem devsFrom_end {ds : List Dv} {k : Nat} (h : ds.length <= k) : devsFrom ds k = 0 := by rw [devsFrom, dif_neg (by omega)]
def kindAt (ds : List Dv) (d : Int) : Int := ((ds[d.toNat]?).map (·.kind)).getD 0
def isPl (ds : List Dv) (d p : Int) : Bool := decide (0 <= d) && decide (d < (ds.length : Int)) && decide (0 <= p) && decide (p < portsV (kindAt ds d))
def linkWrong (ds : List Dv) (ls : List Lk) (k : Nat) (l : Lk) : Int := if isPl ds l.a l.p && isPl ds l.b l.q then (if selfB l || (ls.take k).any (fun m => meetB m l) then 5 else 0) else 1
def linksFrom (ds : List Dv) (ls : List Lk) (k : Nat) : Int :=
 if h : k < ls.length then (if linkWrong ds ls k ls[k] = 0 then linksFrom ds ls (k + 1) else linkWrong ds ls k ls[k]) else 0
termination_by ls.length - k
theorem linksFrom_at {ds : List Dv} {ls : List Lk} {k : Nat} {l : Lk} (h : ls[k]? = some l) : linksFrom ds ls k = if linkWrong ds ls k l = 0 then linksFrom ds ls (k + 1) else linkWrong ds ls k l := by
 obtain ⟨hk, e⟩ := List.getElem?_eq_some_iff.1 h
 rw [linksFrom, dif_pos hk, e]
theorem linksFrom_end {ds : List Dv} {ls : List Lk} {k : Nat} (h : ls.length <= k) : linksFrom ds ls k = 0 := by rw [linksFrom, dif_neg (by omega)]
def netV (ds : List Dv) (ls : List Lk) : Int := if 10 < ds.length ∨ 15 < ls.length then 2 else if devsFrom ds 0 = 0 then linksFrom ds ls 0 else devsFrom ds 0
theorem linksFrom_all {ds : List Dv} {ls : List Lk} : ∀ (m k : Nat), ls.length - k <= m -> linksFrom ds ls k = 0 -> ∀ j l, k <= j -> ls[j]? = some l -> linkWrong ds ls j l = 0
 | 0, k, h, _, j, l, hj, hl => by
   have := (List.getElem?_eq_some_iff.1 hl).1
   omega
 | m + 1, k, h, h0, j, l, hj, hl => by
   have hjl := (List.getElem?_eq_some_iff.1 hl).1
   have hk : k < ls.length := by omega
   rw [linksFrom_at (List.getElem?_eq_getElem hk)] at h0
   split at h0
   ·rename_i hw
    by_cases e : j = k
    ·subst e
     rw [List.getElem?_eq_getElem hk, Option.some.injEq] at hl
     rw [<- hl]
     exact hw
    ·exact linksFrom_all m (k + 1) (by omega) h0 j l (by omega) hl
   ·rename_i hw
    exact absurd h0 hw
theorem linkWrong_zero {ds : List Dv} {ls : List Lk} {k : Nat} {l : Lk} (h : linkWrong ds ls k l = 0) : isPl ds l.a l.p = true ∧ isPl ds l.b l.q = true ∧ selfB l = false ∧ (ls.take k).any (fun m => meetB m l) = false := by
 unfold linkWrong at h
 split at h
 ·rename_i h1
  simp only [Bool.and_eq_true] at h1
  split at h
  ·simp at h
  ·rename_i h2
   rw [Bool.not_eq_true, Bool.or_eq_false_iff] at h2
   exact ⟨h1.1, h1.2, h2.1, h2.2⟩
 ·simp at h
theorem netV_links {ds : List Dv} {ls : List Lk} (h : netV ds ls = 0) : ds.length <= 10 ∧ ls.length <= 15 ∧ Apart ls ∧ ∀ l ∈ ls, isPl ds l.a l.p = true ∧ isPl ds l.b l.q = true := by
 unfold netV at h
 split at h
 ·simp at h
 ·rename_i hn
  split at h
  ·have all := linksFrom_all ls.length 0 (by omega) h
   have each : ∀ l ∈ ls, ∃ k, ls[k]? = some l := fun l hl => by
    obtain ⟨k, hk, e⟩ := List.mem_iff_getElem.1 hl
    exact ⟨k, by rw [List.getElem?_eq_getElem hk, e]⟩
   refine ⟨by omega, by omega, ⟨?_, fun l hl => ?_⟩, fun l hl => ?_⟩
   ·rw [List.pairwise_iff_getElem]
    intro i j hi hj hij
    have := (linkWrong_zero (all j _ (Nat.zero_le _) (List.getElem?_eq_getElem hj))).2.2.2
    rw [List.any_eq_false] at this
    have hm := this ls[i] (by
     rw [List.mem_take_iff_getElem]
     exact ⟨i, by omega, rfl⟩)
    simpa using hm
   ·obtain ⟨k, hk⟩ := each l hl
    exact (linkWrong_zero (all k _ (Nat.zero_le _) hk)).2.2.1
   ·obtain ⟨k, hk⟩ := each l hl
    have := linkWrong_zero (all k _ (Nat.zero_le _) hk)
    exact ⟨this.1, this.2.1⟩
  ·rename_i h0
   exact absurd h h0
theorem portsV_nat (k : Int) : ∃ n : Nat, portsV k = (n : Int) ∧ n <= 4 := by
 unfold portsV
 split
 ·exact ⟨1, rfl, by omega⟩
 ·split
  ·exact ⟨4, rfl, by omega⟩
  ·split
   ·exact ⟨2, rfl, by omega⟩
   ·exact ⟨0, rfl, by omega⟩
theorem routes_of {base : Nat} {w : World} {v : Value} {xs : List NRoute} (h : SlAt base w 3 IsRoute v xs) : Routes base w v (xs.map rtOf) := by
 obtain ⟨A, cap, rfl, h0, h1, h2, h3⟩ := h
 refine ⟨A, cap, by rw [List.length_map], h0, by rw [List.length_map]; exact h1, h2, fun hn => ?_⟩
 obtain ⟨b, o, ea, hl, hr⟩ := h3 (fun e => hn (by rw [e]; rfl))
 refine ⟨b, o, ea, hl, fun j u hj => ?_⟩
 have hjl := (List.getElem?_eq_some_iff.1 hj).1
 rw [cellsT_length, List.length_map] at hjl
 have hk : j / 3 < xs.length := by omega
 have hx : xs[j / 3]? = some xs[j / 3] := List.getElem?_eq_getElem hk
 obtain ⟨cs, _, rfl, hc⟩ := hr _ _ hx
 obtain ⟨c0, c1, c2⟩ := cellsT_at (xs.map rtOf) (j / 3) (rtOf xs[j / 3]) (by rw [List.getElem?_map, hx]; rfl)
 have hm : j % 3 = 0 ∨ j % 3 = 1 ∨ j % 3 = 2 := by omega
 have ej : j = j / 3 * 3 + j % 3 := by omega
 have eo : o + j = o + j / 3 * 3 + j % 3 := by omega
 rw [eo]
 rcases hm with hm | hm | hm
 ·have : u = .int .i64 xs[j / 3].v := by
   rw [show j = j / 3 * 3 by omega, c0] at hj
   exact (Option.some.inj hj).symm
  rw [hm, this]
  exact hc 0 _ rfl
 ·have : u = .int .i64 xs[j / 3].b := by
   rw [show j = j / 3 * 3 + 1 by omega, c1] at hj
   exact (Option.some.inj hj).symm
  rw [hm, this]
  exact hc 1 _ rfl
 ·have : u = .int .i64 xs[j / 3].p := by
   rw [show j = j / 3 * 3 + 2 by omega, c2] at hj
   exact (Option.some.inj hj).symm
  rw [hm, this]
  exact hc 2 _ rfl
end Go.Proofs.YtmcklkkkkigflaaGreat
