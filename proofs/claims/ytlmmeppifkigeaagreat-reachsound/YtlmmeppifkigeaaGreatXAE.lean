/-
  XAE.
-/
import Derived.Test.YtlmmeppifkigeaaGreatLy
import Derived.Test.YtlmmeppifkigeaaGreatXAD
import Derived.Test.YtlmmeppifkigeaaGreatXAA
import Derived.Test.YtlmmeppifkigeaaGreatXAB
import Derived.Laws.AppendOwnNone
import Derived.Lib.SliceRun
import Derived.Laws.EntriesVeiled
set_option maxHeartbeats 8000000
set_option maxRecDepth 100000
namespace Go.Proofs.YtlmmeppifkigeaaGreat
open Go.RowKit
theorem isr_2 (v p : Int) (w : World) (h2 : decide (0 <= v) = true) (h3 : decide (v < 16) = true) : Calls Tryz.prog 108 #[rtw v 2 p] w fun e w' => e = .returned (.bool (isR ⟨v, 2, p⟩)) ∧ Below w.heap.size w w' := by
 have hm := and_mask v 2 3 (of_decide_eq_true h2) (of_decide_eq_true h3) (by decide) (by decide)
 have e : isR ⟨v, 2, p⟩ = ((Go.bits .and .i64 v (IntKind.i64.wrap (IntKind.i64.wrap 4 - 1)) == 0) && decide (0 <= p) && decide (p < 4)) := by
  rw [show IntKind.i64.wrap (IntKind.i64.wrap 4 - 1) = ((3 : Nat) : Int) from rfl, hm]
  show (decide ((0 : Int) <= 2) && decide ((2 : Int) <= 4) && decide (0 <= v) && decide (v < 16) && decide (v % 4 = 0) && decide (0 <= p) && decide (p < 4)) = (decide (v % 4 = 0) && decide (0 <= p) && decide (p < 4))
  rw [h2, h3]
  simp
 rw [e]
 cases h4 : (Go.bits .and .i64 v (IntKind.i64.wrap (IntKind.i64.wrap 4 - 1)) == 0)
 ·exact isr_e v 2 p 2 4 w rfl rfl h2 h3 (by simp) (fun w => behind_2 v p w) h4
 cases h5 : decide (0 <= p)
 ·exact isr_f v 2 p 2 4 w rfl rfl h2 h3 (by simp) (fun w => behind_2 v p w) h4 h5
 ·exact isr_g v 2 p 2 4 w rfl rfl h2 h3 (by simp) (fun w => behind_2 v p w) h4 h5
theorem isr_3 (v p : Int) (w : World) (h2 : decide (0 <= v) = true) (h3 : decide (v < 16) = true) : Calls Tryz.prog 108 #[rtw v 1 p] w fun e w' => e = .returned (.bool (isR ⟨v, 1, p⟩)) ∧ Below w.heap.size w w' := by
 have hm := and_mask v 3 7 (of_decide_eq_true h2) (of_decide_eq_true h3) (by decide) (by decide)
 have e : isR ⟨v, 1, p⟩ = ((Go.bits .and .i64 v (IntKind.i64.wrap (IntKind.i64.wrap 8 - 1)) == 0) && decide (0 <= p) && decide (p < 4)) := by
  rw [show IntKind.i64.wrap (IntKind.i64.wrap 8 - 1) = ((7 : Nat) : Int) from rfl, hm]
  show (decide ((0 : Int) <= 1) && decide ((1 : Int) <= 4) && decide (0 <= v) && decide (v < 16) && decide (v % 8 = 0) && decide (0 <= p) && decide (p < 4)) = (decide (v % 8 = 0) && decide (0 <= p) && decide (p < 4))
  rw [h2, h3]
  simp
 rw [e]
 cases h4 : (Go.bits .and .i64 v (IntKind.i64.wrap (IntKind.i64.wrap 8 - 1)) == 0)
 ·exact isr_e v 1 p 3 8 w rfl rfl h2 h3 (by simp) (fun w => behind_3 v p w) h4
 cases h5 : decide (0 <= p)
 ·exact isr_f v 1 p 3 8 w rfl rfl h2 h3 (by simp) (fun w => behind_3 v p w) h4 h5
 ·exact isr_g v 1 p 3 8 w rfl rfl h2 h3 (by simp) (fun w => behind_3 v p w) h4 h5
theorem isr_4 (v p : Int) (w : World) (h2 : decide (0 <= v) = true) (h3 : decide (v < 16) = true) : Calls Tryz.prog 108 #[rtw v 0 p] w fun e w' => e = .returned (.bool (isR ⟨v, 0, p⟩)) ∧ Below w.heap.size w w' := by
 have hm := and_mask v 4 15 (of_decide_eq_true h2) (of_decide_eq_true h3) (by decide) (by decide)
 have e : isR ⟨v, 0, p⟩ = ((Go.bits .and .i64 v (IntKind.i64.wrap (IntKind.i64.wrap 16 - 1)) == 0) && decide (0 <= p) && decide (p < 4)) := by
  rw [show IntKind.i64.wrap (IntKind.i64.wrap 16 - 1) = ((15 : Nat) : Int) from rfl, hm]
  show (decide ((0 : Int) <= 0) && decide ((0 : Int) <= 4) && decide (0 <= v) && decide (v < 16) && decide (v % 16 = 0) && decide (0 <= p) && decide (p < 4)) = (decide (v % 16 = 0) && decide (0 <= p) && decide (p < 4))
  rw [h2, h3]
  simp
 rw [e]
 cases h4 : (Go.bits .and .i64 v (IntKind.i64.wrap (IntKind.i64.wrap 16 - 1)) == 0)
 ·exact isr_e v 0 p 4 16 w rfl rfl h2 h3 (by simp) (fun w => behind_4 v p w) h4
 cases h5 : decide (0 <= p)
 ·exact isr_f v 0 p 4 16 w rfl rfl h2 h3 (by simp) (fun w => behind_4 v p w) h4 h5
 ·exact isr_g v 0 p 4 16 w rfl rfl h2 h3 (by simp) (fun w => behind_4 v p w) h4 h5
theorem isRoute_any (r : Rt) (w : World) : Calls Tryz.prog 108 #[rtv r] w fun e w' => e = .returned (.bool (isR r)) ∧ Below w.heap.size w w' := by
 obtain ⟨v, b, p⟩ := r
 cases h : decide (0 <= b)
 ·rw [show isR ⟨v, b, p⟩ = false by simp [isR, h]]
  exact isr_a v b p w h
 cases h1 : decide (b <= 4)
 ·rw [show isR ⟨v, b, p⟩ = false by simp [isR, h1]]
  exact isr_b v b p w h h1
 cases h2 : decide (0 <= v)
 ·rw [show isR ⟨v, b, p⟩ = false by simp [isR, h2]]
  exact isr_c v b p w h h1 h2
 cases h3 : decide (v < 16)
 ·rw [show isR ⟨v, b, p⟩ = false by simp [isR, h3]]
  exact isr_d v b p w h h1 h2 h3
 have hb : b = 0 ∨ b = 1 ∨ b = 2 ∨ b = 3 ∨ b = 4 := by
  have := of_decide_eq_true h
  have := of_decide_eq_true h1
  omega
 rcases hb with rfl | rfl | rfl | rfl | rfl
 ·exact isr_4 v p w h2 h3
 ·exact isr_3 v p w h2 h3
 ·exact isr_2 v p w h2 h3
 ·exact isr_1 v p w h2 h3
 ·exact isr_0 v p w h2 h3
theorem takes_any (r : Rt) (d : Int) (w : World) (hr : isR r = true) : Calls Tryz.prog 171 #[rtv r, .int .i64 d] w fun e w' => e = .returned (.bool (takesB r d)) ∧ Below w.heap.size w w' := by
 have h1 := isR_bits hr
 obtain ⟨v, b, p⟩ := r
 simp only at h1
 have hb : b = 0 ∨ b = 1 ∨ b = 2 ∨ b = 3 ∨ b = 4 := by omega
 rcases hb with rfl | rfl | rfl | rfl | rfl
 ·exact takes_x v 0 p d 4 16 w (by simp) (fun w => behind_4 v p w) (by show decide (d / 16 = v / 16) = _; rw [Bool.eq_iff_iff]; simp)
 ·exact takes_x v 1 p d 3 8 w (by simp) (fun w => behind_3 v p w) (by show decide (d / 8 = v / 8) = _; rw [Bool.eq_iff_iff]; simp)
 ·exact takes_x v 2 p d 2 4 w (by simp) (fun w => behind_2 v p w) (by show decide (d / 4 = v / 4) = _; rw [Bool.eq_iff_iff]; simp)
 ·exact takes_x v 3 p d 1 2 w (by simp) (fun w => behind_1 v p w) (by show decide (d / 2 = v / 2) = _; rw [Bool.eq_iff_iff]; simp)
 ·exact takes_x v 4 p d 0 1 w (by simp) (fun w => behind_0 v p w) (by show decide (d / 1 = v / 1) = _; rw [Bool.eq_iff_iff]; simp)
theorem belowN {B : Nat} {a w : World} (h : Below B a w) (n : Nat) : Below B a (w.drewN n) := h.trans ⟨rfl, rfl, rfl, Nat.le_refl _, fun _ _ => rfl⟩
def BoxR (w : World) (n : Nat) (v m p : Int) : Prop := Three w n (.int .i64 v) (.int .i64 m) (.int .i64 p) ∧ w.frozen? ⟨n, 0, none⟩ = false ∧ w.frozen? ⟨n, 1, none⟩ = false ∧ w.frozen? ⟨n, 2, none⟩ = false
theorem BoxR.below {B : Nat} {W w' : World} {n : Nat} {v m p : Int} (h : BoxR W n v m p) (hb : Below B W w') (hB : n < B) : BoxR w' n v m p :=
 ⟨keepThree hb hB h.1, (hb.frozen (p := ⟨n, 0, none⟩) hB).trans h.2.1, (hb.frozen (p := ⟨n, 1, none⟩) hB).trans h.2.2.1, (hb.frozen (p := ⟨n, 2, none⟩) hB).trans h.2.2.2⟩
theorem BoxR.alloc {w : World} {n : Nat} {v m p : Int} (h : BoxR w n v m p) (o : Obj) : BoxR (w.alloc o) n v m p := h.below ((Below.refl _ _).alloc (Nat.le_refl _) o) h.1.1
theorem box_new (w : World) (v m p : Int) (t : TypeId) : BoxR (w.alloc (.cells #[.int .i64 v, .int .i64 m, .int .i64 p] t)) w.heap.size v m p :=
 ⟨three_new w _ _ _ t, by simp [go_sem], by simp [go_sem], by simp [go_sem]⟩
theorem setBoxR {w : World} {n : Nat} {v m p : Int} (h : BoxR w n v m p) (x y z : Int) :
  BoxR (((w.setCell ⟨n, 0, none⟩ (.int .i64 x)).setCell ⟨n, 1, none⟩ (.int .i64 y)).setCell ⟨n, 2, none⟩ (.int .i64 z)) n x y z := by
 obtain ⟨⟨h0, h1, h2, h3⟩, k1, k2, k3⟩ := h
 refine ⟨⟨by simpa using h0, ?_, ?_, ?_⟩, ?_, ?_, ?_⟩ <;> simp [go_sem, h1, h2, h3, k1, k2, k3]
theorem out_row (b o cap : Nat) (xs : List Rt) (d : Int) (w : World) (hb : b < w.heap.size) (hn : xs.length <= cap) (hcap : cap <= maxLen) (hr : Hid (TAt w b o xs)) (h0 : 0 <= d) (h1 : d < 16) :
  Calls Tryz.prog 151 #[.slice (some ⟨b, o, none⟩) xs.length cap, .int .i64 d] w fun e w' => e = .returned (.tuple #[.int .i64 (bestOf xs d).2, .bool (!((bestOf xs d).1 == -1))]) ∧ Below w.heap.size w w' := by
 unfold maxLen at hcap
 have t1 : decide (d < 0) = false := by simp; omega
 have t2 : decide (16 <= d) = false := by simp; omega
 have D0 := Below.al (Below.refl w.heap.size w) (.cells #[.int .i64 0, .int .i64 (-1), .int .i64 0] 130)
 have B0 := box_new w 0 (-1) 0 130
 clear h0 h1
 go_enter Tryz.func151, Tryz.ntmps151
 go_wp2_with fail
 go_loopw [18] (fun i wr => ∃ k : Nat, ∃ v m p : Int, i = .int .i64 (k : Int) ∧ k <= xs.length ∧ Below w.heap.size w wr ∧ BoxR wr w.heap.size v m p ∧ Hid (bestOf (xs.take k) d = (m, p))) (fun i _ => xs.length - (intOf i).toNat)
 case atStart => exact ⟨0, 0, -1, 0, rfl, by omega, D0, B0, rfl⟩
 case round =>
  obtain ⟨k, v, m, p, rfl, hk, D1, B1, hl⟩ := hrel
  by_cases hlt : k < xs.length
  ·obtain ⟨r, hxk⟩ : ∃ r, xs[k]? = some r := ⟨_, List.getElem?_eq_getElem hlt⟩
   obtain ⟨c0, c1, c2⟩ := (hr.out.below D1 hb).at hxk
   have Hd : Hid (bestOf (xs.take (k + 1)) d = if isR r && takesB r d && decide (m < r.b) then (r.b, r.p) else (m, p)) := by
    show _ = _
    rw [bestOf_take hxk, hl.out]
    rfl
   have IS : Hid (∀ w, Calls Tryz.prog 108 #[rtw r.v r.b r.p] w fun e w' => e = .returned (.bool (isR r)) ∧ Below w.heap.size w w') := fun w => isRoute_any r w
   have TK : Hid (isR r = true -> ∀ w, Calls Tryz.prog 171 #[rtw r.v r.b r.p, .int .i64 d] w fun e w' => e = .returned (.bool (takesB r d)) ∧ Below w.heap.size w w') := fun h w => takes_any r d w h
   have D2 := Below.al D1 (.cells #[.int .i64 r.v, .int .i64 r.b, .int .i64 r.p] 130)
   have B2 := B1.alloc (.cells #[.int .i64 r.v, .int .i64 r.b, .int .i64 r.p] 130)
   have T2 := three_new wr (.int .i64 r.v) (.int .i64 r.b) (.int .i64 r.p) 130
   have lw := D1.size
   have lb := B1.1.1
   obtain ⟨⟨_, g0, g1, g2⟩, _⟩ := id B2
   clear hxk hl B1 D1 hr D0 B0
   generalize isR r = x at *
   generalize takesB r d = y at *
   generalize r.v = rv0 at *
   generalize r.b = rb0 at *
   generalize r.p = rp0 at *
   go_wp2_with fail
   refine (IS.out _).mono ?_
   rintro e w3 ⟨rfl, hb3⟩
   have D3 := chn hb3 D2
   have B3 := B2.below hb3 (by simp; omega)
   have T3 := keepThree hb3 (by simp) T2
   clear hb3 D2 B2 T2 g0 g1 g2 c0 c1 c2 IS
   cases x
   ·go_wp2_with fail
    go_roundw
    case rel => exact ⟨k + 1, v, m, p, by go_num, by omega, D3, B3, by show _ = _; rw [Hd.out]; simp⟩
    case measure => simp [intOf]; omega
   ·obtain ⟨_, z0, z1, z2⟩ := id T3
    go_wp2_with fail
    refine (TK.out (by trivial) _).mono ?_
    rintro e w4 ⟨rfl, hb4⟩
    have D4 := chn hb4 D3
    have B4 := B3.below hb4 B3.1.1
    have T4 := keepThree hb4 T3.1 T3
    clear hb4 D3 B3 T3 z0 z1 z2 TK
    cases y
    ·go_wp2_with fail
     go_roundw
     case rel => exact ⟨k + 1, v, m, p, by go_num, by omega, D4, B4, by show _ = _; rw [Hd.out]; simp⟩
     case measure => simp [intOf]; omega
    ·obtain ⟨_, z0, z1, z2⟩ := id T4
     obtain ⟨⟨_, q0, q1, q2⟩, f0, f1, f2⟩ := id B4
     cases hm : decide (m < rb0)
     ·have Hn : Hid (bestOf (xs.take (k + 1)) d = (m, p)) := by show _ = _; rw [Hd.out, hm]; simp
      clear Hd
      go_wp2_with fail
      go_roundw
      case rel => exact ⟨k + 1, v, m, p, by go_num, by omega, D4, B4, Hn⟩
      case measure => simp [intOf]; omega
     ·have Hn : Hid (bestOf (xs.take (k + 1)) d = (rb0, rp0)) := by show _ = _; rw [Hd.out, hm]; simp
      clear Hd
      have B5 := setBoxR B4 rv0 rb0 rp0
      have D5 := ((D4.setCell (p := ⟨w.heap.size, 0, none⟩) (Nat.le_refl _) (.int .i64 rv0)).setCell (p := ⟨w.heap.size, 1, none⟩) (Nat.le_refl _) (.int .i64 rb0)).setCell (p := ⟨w.heap.size, 2, none⟩) (Nat.le_refl _) (.int .i64 rp0)
      go_wp2_with fail
      go_roundw
      case rel => exact ⟨k + 1, rv0, rb0, rp0, by go_num, by omega, D5, B5, Hn⟩
      case measure => simp [intOf]; omega
  ·obtain rfl : k = xs.length := by omega
   have Hn : Hid (bestOf xs d = (m, p)) := by
    have := hl.out
    rw [List.take_length] at this
    exact this
   obtain ⟨⟨_, q0, q1, q2⟩, f0, f1, f2⟩ := id B1
   go_wp2_with fail
   go_quiet (fail)
   go_wp2_with fail
   go_ret2
   exact ⟨by rw [Hn.out]; rfl, belowN D1 _⟩
theorem out_none (A : Option Addr) (cap : Nat) (d : Int) (w : World) (h0 : 0 <= d) (h1 : d < 16) :
  Calls Tryz.prog 151 #[.slice A 0 cap, .int .i64 d] w fun e w' => e = .returned (.tuple #[.int .i64 0, .bool false]) ∧ Below w.heap.size w w' := by
 have t1 : decide (d < 0) = false := by simp; omega
 have t2 : decide (16 <= d) = false := by simp; omega
 have D0 := Below.al (Below.refl w.heap.size w) (.cells #[.int .i64 0, .int .i64 (-1), .int .i64 0] 130)
 have B0 := box_new w 0 (-1) 0 130
 clear h0 h1
 go_enter Tryz.func151, Tryz.ntmps151
 go_wp2_with fail
 go_loopw [18] (fun i wr => i = .int .i64 0 ∧ Below w.heap.size w wr ∧ BoxR wr w.heap.size 0 (-1) 0) (fun i _ => 0)
 case atStart => exact ⟨rfl, D0, B0⟩
 case round =>
  obtain ⟨rfl, D1, B1⟩ := hrel
  obtain ⟨⟨_, q0, q1, q2⟩, f0, f1, f2⟩ := id B1
  go_wp2_with fail
  go_quiet (fail)
  go_wp2_with fail
  go_ret2
  exact ⟨rfl, belowN D1 _⟩
theorem out_wide (v : Value) (d : Int) (w : World) (h : d < 0 ∨ 16 <= d) :
  Calls Tryz.prog 151 #[v, .int .i64 d] w fun e w' => e = .returned (.tuple #[.int .i64 0, .bool false]) ∧ Below w.heap.size w w' := by
 by_cases h0 : d < 0
 ·have t1 : decide (d < 0) = true := by simp; omega
  go_enter Tryz.func151, Tryz.ntmps151
  go_wp2_with fail
  go_ret2
  exact ⟨rfl, Below.refl _ _⟩
 ·have t1 : decide (d < 0) = false := by simp; omega
  have t2 : decide (16 <= d) = true := by simp; omega
  go_enter Tryz.func151, Tryz.ntmps151
  go_wp2_with fail
  go_ret2
  exact ⟨rfl, Below.refl _ _⟩
theorem out_any {v : Value} {xs : List Rt} (d : Int) (w : World) (h : Routes w.heap.size w v xs) :
  Calls Tryz.prog 151 #[v, .int .i64 d] w fun e w' => e = .returned (.tuple #[.int .i64 (outN xs d), .bool (outB xs d)]) ∧ Below w.heap.size w w' := by
 by_cases hd : 0 <= d ∧ d < 16
 ·have e1 : outN xs d = (bestOf xs d).2 := by unfold outN; rw [if_pos hd]
  have e2 : outB xs d = !((bestOf xs d).1 == -1) := by unfold outB; simp [hd]
  rw [e1, e2]
  obtain ⟨A, cap, rfl, _, h1, h2, h3⟩ := h
  by_cases hx : xs = []
  ·subst hx
   exact out_none A cap d w hd.1 hd.2
  ·obtain ⟨b, o, rfl, hb, hr⟩ := h3 hx
   exact out_row b o cap xs d w hb h1 h2 hr hd.1 hd.2
 ·have e1 : outN xs d = 0 := by unfold outN; rw [if_neg hd]
  have e2 : outB xs d = false := by
   unfold outB
   by_cases h0 : 0 <= d
   ·have : ¬ d < 16 := fun h1 => hd ⟨h0, h1⟩
    simp [this]
   ·simp [h0]
  rw [e1, e2]
  exact out_wide v d w (by omega)
end Go.Proofs.YtlmmeppifkigeaaGreat
namespace Go.Proofs.YtlmmeppifkigeaaGreat
open Go.RowKit Go.Maps
def zeroP : Pk := ⟨0, 0, 0, 0⟩
def flipP (p : Pk) : Pk := ⟨p.d, p.s, p.dp, p.sp⟩
def adB (n : Int) : Bool := decide (0 <= n) && decide (n < 16)
def poB (n : Int) : Bool := decide (0 <= n) && decide (n < 8)
def pkOk (p : Pk) : Bool := adB p.s && adB p.d && poB p.sp && poB p.dp
inductive Lrn where
 | no
 | flow (i : Int) (p : Pk)
 | own (i port : Int) (s : Int × Int)
 | back (i : Int) (p : Pk) (b : Int)
structure Mnd where
 fl : Int × Pk -> Option Unit
 ow : Int × Int -> Option (Int × Int)
 bk : Int × Pk -> Option Int
noncomputable def learnP (M : Mnd) : Lrn -> Mnd
 | .no => M
 | .flow i p => { M with fl := putF M.fl (i, p) () }
 | .own i k s => { M with ow := putF M.ow (i, k) s }
 | .back i p b => { M with bk := putF M.bk (i, p) b }
structure SR where
 err : Int
 port : Int
 p : Pk
 l : Lrn
def stayR (e : Int) : SR := ⟨e, 0, zeroP, .no⟩
def passR (port : Int) (p : Pk) : SR := ⟨0, port, p, .no⟩
def rulesOf (d : Dv) : List Rl := d.rules.map fun r => ⟨r.ok, r.a, r.b, r.c, r.d, r.ha, r.hb, r.hc, r.hd⟩
def routesOf (d : Dv) : List Rt := d.routes.map rtOf
def routeP (d : Dv) (p : Pk) : SR := if outB (routesOf d) p.d && letsB (rulesOf d) p.s p.d p.sp p.dp then passR (outN (routesOf d) p.d) p else stayR 7
def askP (d : Dv) (i : Int) (p : Pk) : SR := if letsB (rulesOf d) p.s p.d p.sp p.dp then ⟨0, 1, p, .flow i p⟩ else stayR 7
def answerP (M : Mnd) (i : Int) (p : Pk) : SR := if (M.fl (i, flipP p)).isSome then passR 0 p else stayR 7
def ownFrom (M : Mnd) (i : Int) (s : Int × Int) (k : Nat) : Option Nat := if h : k < 8 then (if M.ow (i, (k : Int)) = some s then some k else ownFrom M i s (k + 1)) else none
termination_by 8 - k
def poolB (d : Dv) (c : Int) : Bool := poB c && d.pool.testBit c.toNat
def hideP (d : Dv) (M : Mnd) (i : Int) (p : Pk) (c : Int) : SR :=
 match ownFrom M i (p.s, p.sp) 0 with
 | some k => ⟨0, 1, ⟨d.addr, p.d, (k : Int), p.dp⟩, .own i (k : Int) (p.s, p.sp)⟩
 | none => if poolB d c then (if (M.ow (i, c)).isSome then stayR 6 else ⟨0, 1, ⟨d.addr, p.d, c, p.dp⟩, .own i c (p.s, p.sp)⟩) else stayR 1
def unhideP (d : Dv) (M : Mnd) (i : Int) (p : Pk) : SR :=
 match M.ow (i, p.dp) with
 | some s => if p.d == d.addr then passR 0 ⟨p.s, s.1, p.sp, s.2⟩ else stayR 7
 | none => stayR 7
def spreadP (d : Dv) (M : Mnd) (i : Int) (p : Pk) (c : Int) : SR :=
 if p.d == d.addr then
  match M.bk (i, p) with
  | some b => ⟨0, 1, ⟨p.s, b, p.sp, p.dp⟩, .back i p b⟩
  | none => if decide (0 <= c) && decide (c < (d.backs.length : Int)) then ⟨0, 1, ⟨p.s, d.backs.getD c.toNat 0, p.sp, p.dp⟩, .back i p (d.backs.getD c.toNat 0)⟩ else stayR 1
 else passR 1 p
def gatherP (d : Dv) (M : Mnd) (i : Int) (p : Pk) : SR :=
 passR 0 (if M.bk (i, ⟨p.d, d.addr, p.dp, p.sp⟩) = some p.s then ⟨d.addr, p.d, p.sp, p.dp⟩ else p)
def sendP (d : Dv) (M : Mnd) (i q : Int) (p : Pk) (c : Int) : SR :=
 if d.kind = 2 then routeP d p
 else if d.kind = 3 then (if q = 0 then askP d i p else answerP M i p)
 else if d.kind = 4 then (if q = 0 then hideP d M i p c else unhideP d M i p)
 else if d.kind = 5 then (if q = 0 then spreadP d M i p c else gatherP d M i p)
 else stayR 7
structure HR where
 err : Int
 tp : Int × Int
 p : Pk
 M : Mnd
def badH (e : Int) (M : Mnd) : HR := ⟨e, (0, 0), zeroP, M⟩
noncomputable def handleP (ds : List Dv) (ls : List Lk) (M : Mnd) (i q : Int) (p : Pk) (c : Int) : HR :=
 if isPl ds i q then
  (if pkOk p then
    (if (sendP (ds.getD i.toNat default) M i q p c).err = 0 then
      match peerF ls i (sendP (ds.getD i.toNat default) M i q p c).port with
      | some t => ⟨0, t, (sendP (ds.getD i.toNat default) M i q p c).p, learnP M (sendP (ds.getD i.toNat default) M i q p c).l⟩
      | none => badH 7 M
    else badH (sendP (ds.getD i.toNat default) M i q p c).err M)
  else badH 1 M)
 else badH 4 M
structure Mp where
 z : Nat
 pre : List Value
 post : List Value
 ty : TypeId
 B : Nat
 f : Nat
 o : Nat
 k : Nat
 A : Option Addr
 cap : Nat
 L : Option Addr
 cap' : Nat
structure MemAt (w : World) (m : Mp) (ds : List Dv) (ls : List Lk) (n : Nat) (M : Mnd) : Prop where
 blk : w.heap[m.B]? = some (.cells (m.pre ++ ([Value.slice m.A ds.length m.cap, Value.slice m.L ls.length m.cap', Value.map (some m.f), Value.map (some m.o), Value.map (some m.k)] ++ m.post)).toArray m.ty (0, 0)) ∧ m.pre.length = m.z
 devs : Devs w.heap.size w (.slice m.A ds.length m.cap) ds
 links : Links w.heap.size w (.slice m.L ls.length m.cap') ls
 fl : MapAt pofE unitV w m.f n M.fl
 ow : MapAt prtE endV w m.o n M.ow
 bk : MapAt pofE intV w m.k n M.bk
 fo : m.f ≠ m.o
 fk : m.f ≠ m.k
 ok : m.o ≠ m.k
structure HK (m : Mp) (w w' : World) : Prop where
 os : w'.os = w.os
 tape : w'.tape = w.tape
 output : w'.output = w.output
 size : w.heap.size <= w'.heap.size
 block : ∀ b, b < w.heap.size -> b ≠ m.f -> b ≠ m.o -> b ≠ m.k -> w'.heap[b]? = w.heap[b]?
structure CK (w w' : World) : Prop where
 size : w.heap.size <= w'.heap.size
 block : ∀ b, (∀ es c, w.heap[b]? ≠ some (.map es c)) -> b < w.heap.size -> w'.heap[b]? = w.heap[b]?
section
variable {w w' w'' : World} {m : Mp} {ds : List Dv} {ls : List Lk} {n : Nat} {M : Mnd}
theorem CK.of_below (h : Below w.heap.size w w') : CK w w' := ⟨h.size, fun b _ hb => h.block b hb⟩
theorem CK.cell (h : CK w w') {a : Addr} {v : Value} (hc : w.cell? a = some v) : w'.cell? a = some v := by
 have hl := World.block_lt_of_cell? w _ hc
 have hb := h.block a.block (fun es c e => by
  unfold World.cell? at hc
  rw [e] at hc
  cases hc) hl
 unfold World.cell? at hc ⊢
 rw [hb]
 exact hc
theorem SlAt.ck {α : Type} {base k : Nat} {R R' : List Value -> α -> Prop} {v : Value} {xs : List α} (h : SlAt base w k R v xs) (hb : CK w w') (hR : ∀ cs x, x ∈ xs -> R cs x -> R' cs x) : SlAt base w' k R' v xs := by
 obtain ⟨A, cap, e, h0, h1, h2, h3⟩ := h
 refine ⟨A, cap, e, h0, h1, h2, fun hn => ?_⟩
 obtain ⟨b, o, ea, hl, hr⟩ := h3 hn
 refine ⟨b, o, ea, hl, fun k x hx => ?_⟩
 obtain ⟨cs, c1, c2, c3⟩ := hr k x hx
 exact ⟨cs, c1, hR cs x (List.mem_of_getElem? hx) c2, fun j u hj => hb.cell (c3 j u hj)⟩
theorem IsDv.ck {base : Nat} {cs : List Value} {d : Dv} (h : IsDv base w cs d) (hb : CK w w') : IsDv base w' cs d := by
 obtain ⟨vb, vr, vt, e, h1, h2, h3⟩ := h
 exact ⟨vb, vr, vt, e, h1.ck hb (fun _ _ _ h => h), h2.ck hb (fun _ _ _ h => h), h3.ck hb (fun _ _ _ h => h)⟩
theorem Devs.ck {base : Nat} {v : Value} (h : Devs base w v ds) (hb : CK w w') : Devs base w' v ds := SlAt.ck h hb (fun _ _ _ h => h.ck hb)
theorem Links.ck {base : Nat} {v : Value} (h : Links base w v ls) (hb : CK w w') : Links base w' v ls := SlAt.ck h hb (fun _ _ _ h => h)
theorem HK.refl (m : Mp) (w : World) : HK m w w := ⟨rfl, rfl, rfl, Nat.le_refl _, fun _ _ _ _ _ => rfl⟩
theorem HK.trans (h : HK m w w') (g : HK m w' w'') : HK m w w'' :=
 ⟨g.os.trans h.os, g.tape.trans h.tape, g.output.trans h.output, Nat.le_trans h.size g.size, fun b hb h1 h2 h3 => (g.block b (Nat.lt_of_lt_of_le hb h.size) h1 h2 h3).trans (h.block b hb h1 h2 h3)⟩
theorem HK.of_below (h : Below w.heap.size w w') : HK m w w' := ⟨h.os, h.tape, h.output, h.size, fun b hb _ _ _ => h.block b hb⟩
theorem mapTurned_size {b : Nat} (h : w.mapTurned w' b) : w'.heap.size = w.heap.size := by
 obtain ⟨es, c, es', c', hb, rfl⟩ := h
 simp [ChangeMaps.setBlock]
theorem mapTurned_block {b x : Nat} (h : w.mapTurned w' b) (hx : x ≠ b) : w'.heap[x]? = w.heap[x]? := by
 have g := h.grown
 by_cases hl : x < w.heap.size
 ·exact g.block x hl (by simpa using hx)
 ·rw [Array.getElem?_eq_none (xs := w'.heap) (by rw [mapTurned_size h]; omega), Array.getElem?_eq_none (xs := w.heap) (by omega)]
theorem HK.of_turned {b : Nat} (h : w.mapTurned w' b) (hb : b = m.f ∨ b = m.o ∨ b = m.k) : HK m w w' := by
 have g := h.grown
 exact ⟨g.os, g.tape, g.output, g.size, fun x hx h1 h2 h3 => mapTurned_block h (by omega)⟩
theorem CK.of_turned {b : Nat} (h : w.mapTurned w' b) : CK w w' := by
 refine ⟨by rw [mapTurned_size h]; omega, fun x hx hl => mapTurned_block h (fun e => ?_)⟩
 obtain ⟨es, c, _, _, hb, _⟩ := h
 exact hx es c (by rw [e]; exact hb)
theorem MemAt.ck (h : MemAt w m ds ls n M) (hk : HK m w w') : CK w w' := by
 refine ⟨hk.size, fun b hb hl => hk.block b hl ?_ ?_ ?_⟩
 ·rintro rfl
  obtain ⟨es, c, e⟩ := h.fl.isMap
  exact hb es c e
 ·rintro rfl
  obtain ⟨es, c, e⟩ := h.ow.isMap
  exact hb es c e
 ·rintro rfl
  obtain ⟨es, c, e⟩ := h.bk.isMap
  exact hb es c e
theorem MemAt.notMap (h : MemAt w m ds ls n M) : ∀ es c, w.heap[m.B]? ≠ some (.map es c) := fun es c e => by
 rw [h.blk.1] at e
 cases e
theorem MemAt.lt (h : MemAt w m ds ls n M) : m.B < w.heap.size := (Array.getElem?_eq_some_iff.1 h.blk.1).1
theorem MemAt.below (h : MemAt w m ds ls n M) (hb : Below w.heap.size w w') : MemAt w' m ds ls n M :=
 ⟨⟨(hb.block _ h.lt).trans h.blk.1, h.blk.2⟩, (h.devs.below hb).mono hb.size, (h.links.below hb).mono hb.size, h.fl.same (hb.block _ h.fl.lt), h.ow.same (hb.block _ h.ow.lt), h.bk.same (hb.block _ h.bk.lt), h.fo, h.fk, h.ok⟩
theorem MemAt.drew (h : MemAt w m ds ls n M) : MemAt w.drew m ds ls n M := ⟨h.blk, h.devs, h.links, h.fl, h.ow, h.bk, h.fo, h.fk, h.ok⟩
theorem MemAt.alloc (h : MemAt w m ds ls n M) (o : Obj) : MemAt (w.alloc o) m ds ls n M := h.below ((Below.refl _ _).alloc (Nat.le_refl _) o)
theorem MemAt.mono (h : MemAt w m ds ls n M) {n' : Nat} (hn : n <= n') : MemAt w m ds ls n' M := ⟨h.blk, h.devs, h.links, h.fl.mono hn, h.ow.mono hn, h.bk.mono hn, h.fo, h.fk, h.ok⟩
theorem MemAt.cells (h : MemAt w m ds ls n M) : w.cell? ⟨m.B, m.z, none⟩ = some (.slice m.A ds.length m.cap) ∧ w.cell? ⟨m.B, m.z + 1, none⟩ = some (.slice m.L ls.length m.cap') ∧ w.cell? ⟨m.B, m.z + 2, none⟩ = some (.map (some m.f)) ∧ w.cell? ⟨m.B, m.z + 3, none⟩ = some (.map (some m.o)) ∧ w.cell? ⟨m.B, m.z + 4, none⟩ = some (.map (some m.k)) := by
 have hz := h.blk.2
 refine ⟨?_, ?_, ?_, ?_, ?_⟩ <;> (rw [cell_of_row w m.B _ _ _ _ h.blk.1, List.getElem?_toArray, <- hz, List.getElem?_append_right (by omega)]; simp)
end
theorem uMf : Tryz.prog.underlying 78 = some (.map 146 119) := by kernel_rfl
theorem uMo : Tryz.prog.underlying 79 = some (.map 149 151) := by kernel_rfl
theorem uMk : Tryz.prog.underlying 80 = some (.map 146 3) := by kernel_rfl
section
variable {w : World} {m : Mp} {ds : List Dv} {ls : List Lk} {n : Nat} {M : Mnd}
theorem MemAt.lookF (h : MemAt w m ds ls n M) {i : Int} {p : Pk} (hi : i64ok i) (hp : p.ok) : (Instr.lookup 78 (.map (some m.f)) (.agg #[.int .i64 i, .int .i64 p.s, .int .i64 p.d, .int .i64 p.sp, .int .i64 p.dp]) true).run Tryz.prog w = .ok (.tuple #[.agg #[], .bool (M.fl (i, p)).isSome]) w := h.fl.look uMf (x := (i, p)) ⟨hi, hp⟩
theorem MemAt.lookO (h : MemAt w m ds ls n M) {i k : Int} (hi : i64ok i) (hk : i64ok k) : (Instr.lookup 79 (.map (some m.o)) (.agg #[.int .i64 i, .int .i64 k]) true).run Tryz.prog w = .ok (.tuple #[.agg #[.int .i64 ((M.ow (i, k)).getD (0, 0)).1, .int .i64 ((M.ow (i, k)).getD (0, 0)).2], .bool (M.ow (i, k)).isSome]) w := h.ow.look uMo (x := (i, k)) ⟨hi, hk⟩
theorem MemAt.lookB (h : MemAt w m ds ls n M) {i : Int} {p : Pk} (hi : i64ok i) (hp : p.ok) : (Instr.lookup 80 (.map (some m.k)) (.agg #[.int .i64 i, .int .i64 p.s, .int .i64 p.d, .int .i64 p.sp, .int .i64 p.dp]) true).run Tryz.prog w = .ok (.tuple #[.int .i64 ((M.bk (i, p)).getD 0), .bool (M.bk (i, p)).isSome]) w := h.bk.look uMk (x := (i, p)) ⟨hi, hp⟩
end
def RowAt (base : Nat) (w : World) (v : Value) (N n : Nat) (cs : List Value) : Prop :=
 ∃ A cap, v = .slice A N cap ∧ (A = none -> cap = 0) ∧ N <= cap ∧ cap <= maxLen ∧ cs.length = N * n ∧ (∀ u ∈ cs, u.oneCell' = true) ∧
   (N ≠ 0 -> ∃ b o, A = some ⟨b, o, none⟩ ∧ b < base ∧ ∀ j u, cs[j]? = some u -> w.cell? ⟨b, o + j, none⟩ = some u)
theorem flat_cells {α : Type} {w : World} {n : Nat} {R : List Value -> α -> Prop} (h1 : ∀ cs x, R cs x -> ∀ u ∈ cs, u.oneCell' = true) {b : Nat} : ∀ (xs : List α) (o : Nat), (∀ k x, xs[k]? = some x -> ∃ c : List Value, c.length = n ∧ R c x ∧ ∀ j u, c[j]? = some u -> w.cell? ⟨b, o + k * n + j, none⟩ = some u) ->
  ∃ cs : List Value, cs.length = xs.length * n ∧ (∀ j u, cs[j]? = some u -> w.cell? ⟨b, o + j, none⟩ = some u) ∧ (∀ u ∈ cs, u.oneCell' = true) ∧ ∀ k x, xs[k]? = some x -> R ((cs.drop (k * n)).take n) x
 | [], _, _ => ⟨[], by simp, (fun j u hj => by simp at hj), (fun u hu => by cases hu), (fun k x hx => by simp at hx)⟩
 | x :: xs, o, h => by
   obtain ⟨c0, l0, r0, e0⟩ := h 0 x rfl
   obtain ⟨cs, l1, e1, o1, r1⟩ := flat_cells h1 xs (o + n) (fun k y hy => by
    obtain ⟨c, l, r, e⟩ := h (k + 1) y (by simpa using hy)
    exact ⟨c, l, r, fun j u hj => by
     have := e j u hj
     rwa [show o + (k + 1) * n + j = o + n + k * n + j by rw [Nat.add_mul, Nat.one_mul]; omega] at this⟩)
   refine ⟨c0 ++ cs, ?_, fun j u hj => ?_, fun u hu => ?_, fun k y hy => ?_⟩
   ·rw [List.length_append, l0, l1, List.length_cons, Nat.add_mul]
    omega
   ·by_cases hl : j < n
    ·rw [List.getElem?_append_left (by omega)] at hj
     have := e0 j u hj
     simpa using this
    ·rw [List.getElem?_append_right (by omega), l0] at hj
     have := e1 (j - n) u hj
     rwa [show o + n + (j - n) = o + j by omega] at this
   ·rcases List.mem_append.1 hu with hu | hu
    ·exact h1 _ _ r0 u hu
    ·exact o1 u hu
   ·cases k with
    | zero =>
      obtain rfl : x = y := by simpa using hy
      rw [Nat.zero_mul, List.drop_zero, <- l0, List.take_left']
      ·exact r0
      ·rfl
    | succ k =>
      have e : (c0 ++ cs).drop ((k + 1) * n) = cs.drop (k * n) := by
       rw [List.drop_append, List.drop_eq_nil_of_le (by rw [Nat.add_mul, l0]; omega), List.nil_append, l0]
       congr 1
       rw [Nat.add_mul]
       omega
      rw [e]
      exact r1 k y (by simpa using hy)
theorem SlAt.row {α : Type} {base n : Nat} {w : World} {R : List Value -> α -> Prop} {v : Value} {xs : List α} (h : SlAt base w n R v xs) (h1 : ∀ cs x, R cs x -> ∀ u ∈ cs, u.oneCell' = true) :
  ∃ cs, RowAt base w v xs.length n cs ∧ ∀ k x, xs[k]? = some x -> R ((cs.drop (k * n)).take n) x := by
 obtain ⟨A, cap, e, h0, hl, hm, h3⟩ := h
 by_cases hx : xs = []
 ·subst hx
  exact ⟨[], ⟨A, cap, e, h0, hl, hm, by simp, (fun u hu => by cases hu), fun hn => absurd rfl hn⟩, fun k x hx => by simp at hx⟩
 ·obtain ⟨b, o, ea, hb, hr⟩ := h3 hx
  obtain ⟨cs, l1, e1, o1, r1⟩ := flat_cells h1 xs o hr
  exact ⟨cs, ⟨A, cap, e, h0, hl, hm, l1, o1, fun _ => ⟨b, o, ea, hb, e1⟩⟩, r1⟩
theorem SlAt.own {α : Type} {base n : Nat} {w : World} {t : TypeId} {R : List Value -> α -> Prop} {v : Value} {xs : List α} {cs : List Value} (h : w.ownsRow base t n v xs.length cs) (hr : ∀ k x, xs[k]? = some x -> R ((cs.drop (k * n)).take n) x) : SlAt w.heap.size w n R v xs := by
 have h' := h
 obtain ⟨hl, hc⟩ := h
 rcases hc with ⟨rfl, h0⟩ | ⟨g, cap, cur, rfl, hb, hg, hn, hcap, hs, ht⟩
 ·exact ⟨none, 0, by rw [h0], fun _ => rfl, by omega, by unfold maxLen; omega, fun hn => absurd (List.length_eq_zero_iff.1 h0) hn⟩
 ·refine ⟨_, cap, rfl, (fun e => by cases e), hn, hcap, fun _ => ⟨g, 0, rfl, (Array.getElem?_eq_some_iff.1 hg).1, fun k x hx => ?_⟩⟩
  have hk := (List.getElem?_eq_some_iff.1 hx).1
  have hle : k * n + n <= cs.length := by
   have hm := Nat.mul_le_mul_right n (show k + 1 <= xs.length from hk)
   rw [Nat.add_mul, Nat.one_mul] at hm
   omega
  refine ⟨(cs.drop (k * n)).take n, ?_, hr k x hx, fun j u hj => ?_⟩
  ·rw [List.length_take, List.length_drop]
   omega
  ·have hjn : j < n := by
    have := (List.getElem?_eq_some_iff.1 hj).1
    rw [List.length_take] at this
    omega
   rw [List.getElem?_take_of_lt hjn, List.getElem?_drop] at hj
   have := h'.cells (g := g) rfl (k * n + j) u hj
   rw [Addr.add_lit] at this
   rwa [show 0 + k * n + j = 0 + (k * n + j) by omega]
theorem append_runC {P : Program} {w w' : World} {ops : Array Oper} {rest : List Oper} {o : Oper} {a : Act} {Q : Exit -> Act -> World -> Prop} (hgd : o.guard = none) (s x : Operand) (t : TypeId)
  (ho : o.op = .call { callee := .builtin .append, args := #[s, x], argTypes := #[t, t] }) {v x' v' : Value} (hs : a.eval s = v) (hx : a.eval x = x') (hr : (Builtin.append_ #[t, t] o.type #[v, x']).run P w = .ok v' w')
  (h : wpList P ops Q rest (a.put o.dst v') w') : wpList P ops Q (o :: rest) a w := by
 refine wpList_plain hgd fun K hK => ?_
 unfold Oper.wp execOp
 simp only [ho, resolve, invoke, builtin, Sem.run_bind, Sem.run_pure, Result.andThen_ok, List.map_toArray, List.map_cons, List.map_nil, hs, hx, hr]
 exact hK _ _ h
theorem Below.appC {B base : Nat} {w0 w w' : World} {t : TypeId} {s n : Nat} {v : Value} {cs : List Value} (h : Below B w0 w) (ho : w.ownsRow base t s v n cs) (hg : w.grownBy w' v.ownBlock) (hB : B <= base) (hb : base <= w.heap.size) : Below B w0 w' :=
 h.grown hg (by omega) (fun k e => by have := (ho.lt k e).1; omega)
theorem oneI (cs : List Value) (x : Int) (h : IsI cs x) : ∀ u ∈ cs, u.oneCell' = true := by
 unfold IsI at h
 subst h
 intro u hu
 simp only [List.mem_cons, List.not_mem_nil, or_false] at hu
 subst hu
 rfl
theorem oneLk (cs : List Value) (x : Lk) (h : IsLk cs x) : ∀ u ∈ cs, u.oneCell' = true := by
 unfold IsLk at h
 subst h
 intro u hu
 simp only [List.mem_cons, List.not_mem_nil, or_false] at hu
 rcases hu with rfl | rfl | rfl | rfl <;> rfl
theorem oneRule (cs : List Value) (x : NRule) (h : IsRule cs x) : ∀ u ∈ cs, u.oneCell' = true := by
 unfold IsRule at h
 subst h
 intro u hu
 simp only [List.mem_cons, List.not_mem_nil, or_false] at hu
 rcases hu with rfl | rfl | rfl | rfl | rfl <;> rfl
theorem oneRoute (cs : List Value) (x : NRoute) (h : IsRoute cs x) : ∀ u ∈ cs, u.oneCell' = true := by
 unfold IsRoute at h
 subst h
 intro u hu
 simp only [List.mem_cons, List.not_mem_nil, or_false] at hu
 rcases hu with rfl | rfl | rfl <;> rfl
theorem oneDv {base : Nat} {w : World} (cs : List Value) (x : Dv) (h : IsDv base w cs x) : ∀ u ∈ cs, u.oneCell' = true := by
 obtain ⟨vb, vr, vt, rfl, h1, h2, h3⟩ := h
 obtain ⟨_, _, rfl, _⟩ := h1
 obtain ⟨_, _, rfl, _⟩ := h2
 obtain ⟨_, _, rfl, _⟩ := h3
 intro u hu
 simp only [List.mem_cons, List.not_mem_nil, or_false] at hu
 rcases hu with rfl | rfl | rfl | rfl | rfl | rfl | rfl <;> rfl
theorem u_ints : Tryz.prog.underlying 58 = some (.slice 3) := by kernel_rfl
theorem info_ints : (Tryz.prog.info? 3).map (fun i => (i.zero, i.size, i.bytes)) = some (some (.int .i64 0), 1, 8) := by kernel_rfl
theorem clone_ints {v : Value} {N : Nat} {cs : List Value} (w : World) (h : RowAt w.heap.size w v N 1 cs) (hs : N <= 1048576) :
  Calls Tryz.prog 46 #[v] w fun e w' => ∃ v', e = .returned v' ∧ w'.ownsRow w.heap.size 3 1 v' N cs ∧ Below w.heap.size w w' := by
 have q : ∀ (w : World) (a : Option Addr) (n c n' c' : Nat), (binOp .eql 58 (.slice a n c) (.slice none n' c')).run Tryz.prog w = .ok (.bool a.isNone) w := fun w a n c n' c' => Lib.run_eql_slice_nil w _ _ a n c n' c' u_ints
 obtain ⟨i0, hi, hz0, hz1, hz2⟩ := info_parts info_ints
 have D0 := Below.alN (Below.refl w.heap.size w) (.cells #[] 3)
 have o0 : (w.alloc (.cells #[] 3)).ownsRow w.heap.size 3 1 (.slice (some ⟨w.heap.size, 0, none⟩) 0 0) 0 [] := World.ownsRow_made w #[] 0 (Nat.le_refl _) (Nat.zero_le _) (by simp)
 obtain ⟨A, cap, rfl, h0, h1, h2, hl, ho, h3⟩ := h
 cases A with
 | none =>
   have hN : N = 0 := by
    by_cases hn : N = 0
    ·exact hn
    ·obtain ⟨_, _, e, _⟩ := h3 hn
     cases e
   subst hN
   have hcs : cs = [] := List.length_eq_zero_iff.1 (by simpa using hl)
   subst hcs
   clear h3 ho hl hs o0
   go_enter Tryz.func46, Tryz.ntmps46
   go_wp2_with fail
   go_ret
   exact ⟨_, rfl, World.ownsRow_nil _ _ _ _, Below.refl _ _⟩
 | some ad =>
   obtain ⟨v', w', hr, h4, h5, _⟩ := run_append_own (P := Tryz.prog) (w.alloc (.cells #[] 3)) w.heap.size 58 58 3 i0 _ 1 8 u_ints hi hz0 hz1 hz2 rfl (by decide) _ 0 [] o0 ad N cap cs hl (fun j u hj => by
    have hn : N ≠ 0 := fun e => by
     subst e
     have : cs = [] := List.length_eq_zero_iff.1 (by simpa using hl)
     subst this
     simp at hj
    obtain ⟨b, o, e, hb, hr⟩ := h3 hn
    cases e
    rw [Addr.add_lit]
    exact (D0.cell (p := ⟨b, o + j, none⟩) hb).trans (hr j u hj)) ho (by unfold maxLen; omega) (by omega) (by simp)
   have D1 := Below.appC D0 o0 h5 (Nat.le_refl _) (by simp)
   simp only [List.nil_append, Nat.zero_add] at h4
   have fin : Hid (w'.ownsRow w.heap.size 3 1 v' N cs ∧ Below w.heap.size w w') := ⟨h4, D1⟩
   clear h0 h1 h2 h3 h5 hs o0 D0 h4 D1 hl ho
   go_enter Tryz.func46, Tryz.ntmps46
   go_wp2_with (at_builtin; refine append_runC rfl _ _ 58 rfl rfl rfl hr ?_)
   go_ret
   exact ⟨_, rfl, fin.out⟩
theorem u_links : Tryz.prog.underlying 23 = some (.slice 64) := by kernel_rfl
theorem info_links : (Tryz.prog.info? 64).map (fun i => (i.zero, i.size, i.bytes)) = some (some (.agg #[.int .i64 0, .int .i64 0, .int .i64 0, .int .i64 0]), 4, 32) := by kernel_rfl
theorem clone_links {v : Value} {N : Nat} {cs : List Value} (w : World) (h : RowAt w.heap.size w v N 4 cs) (hs : N <= 1048576) :
  Calls Tryz.prog 45 #[v] w fun e w' => ∃ v', e = .returned v' ∧ w'.ownsRow w.heap.size 64 4 v' N cs ∧ Below w.heap.size w w' := by
 have q : ∀ (w : World) (a : Option Addr) (n c n' c' : Nat), (binOp .eql 23 (.slice a n c) (.slice none n' c')).run Tryz.prog w = .ok (.bool a.isNone) w := fun w a n c n' c' => Lib.run_eql_slice_nil w _ _ a n c n' c' u_links
 obtain ⟨i0, hi, hz0, hz1, hz2⟩ := info_parts info_links
 have D0 := Below.alN (Below.refl w.heap.size w) (.cells #[] 64)
 have o0 : (w.alloc (.cells #[] 64)).ownsRow w.heap.size 64 4 (.slice (some ⟨w.heap.size, 0, none⟩) 0 0) 0 [] := World.ownsRow_made w #[] 0 (Nat.le_refl _) (Nat.zero_le _) (by simp)
 obtain ⟨A, cap, rfl, h0, h1, h2, hl, ho, h3⟩ := h
 cases A with
 | none =>
   have hN : N = 0 := by
    by_cases hn : N = 0
    ·exact hn
    ·obtain ⟨_, _, e, _⟩ := h3 hn
     cases e
   subst hN
   have hcs : cs = [] := List.length_eq_zero_iff.1 (by simpa using hl)
   subst hcs
   clear h3 ho hl hs o0
   go_enter Tryz.func45, Tryz.ntmps45
   go_wp2_with fail
   go_ret
   exact ⟨_, rfl, World.ownsRow_nil _ _ _ _, Below.refl _ _⟩
 | some ad =>
   obtain ⟨v', w', hr, h4, h5, _⟩ := run_append_own (P := Tryz.prog) (w.alloc (.cells #[] 64)) w.heap.size 23 23 64 i0 _ 4 32 u_links hi hz0 hz1 hz2 rfl (by decide) _ 0 [] o0 ad N cap cs hl (fun j u hj => by
    have hn : N ≠ 0 := fun e => by
     subst e
     have : cs = [] := List.length_eq_zero_iff.1 (by simpa using hl)
     subst this
     simp at hj
    obtain ⟨b, o, e, hb, hr⟩ := h3 hn
    cases e
    rw [Addr.add_lit]
    exact (D0.cell (p := ⟨b, o + j, none⟩) hb).trans (hr j u hj)) ho (by unfold maxLen; omega) (by omega) (by simp)
   have D1 := Below.appC D0 o0 h5 (Nat.le_refl _) (by simp)
   simp only [List.nil_append, Nat.zero_add] at h4
   have fin : Hid (w'.ownsRow w.heap.size 64 4 v' N cs ∧ Below w.heap.size w w') := ⟨h4, D1⟩
   clear h0 h1 h2 h3 h5 hs o0 D0 h4 D1 hl ho
   go_enter Tryz.func45, Tryz.ntmps45
   go_wp2_with (at_builtin; refine append_runC rfl _ _ 23 rfl rfl rfl hr ?_)
   go_ret
   exact ⟨_, rfl, fin.out⟩
theorem u_rules : Tryz.prog.underlying 59 = some (.slice 71) := by kernel_rfl
theorem info_rules : (Tryz.prog.info? 71).map (fun i => (i.zero, i.size, i.bytes)) = some (some (.agg #[.bool false, .int .u16 0, .int .u16 0, .int .u8 0, .int .u8 0]), 5, 8) := by kernel_rfl
theorem clone_rules {v : Value} {N : Nat} {cs : List Value} (w : World) (h : RowAt w.heap.size w v N 5 cs) (hs : N <= 1048576) :
  Calls Tryz.prog 47 #[v] w fun e w' => ∃ v', e = .returned v' ∧ w'.ownsRow w.heap.size 71 5 v' N cs ∧ Below w.heap.size w w' := by
 have q : ∀ (w : World) (a : Option Addr) (n c n' c' : Nat), (binOp .eql 59 (.slice a n c) (.slice none n' c')).run Tryz.prog w = .ok (.bool a.isNone) w := fun w a n c n' c' => Lib.run_eql_slice_nil w _ _ a n c n' c' u_rules
 obtain ⟨i0, hi, hz0, hz1, hz2⟩ := info_parts info_rules
 have D0 := Below.alN (Below.refl w.heap.size w) (.cells #[] 71)
 have o0 : (w.alloc (.cells #[] 71)).ownsRow w.heap.size 71 5 (.slice (some ⟨w.heap.size, 0, none⟩) 0 0) 0 [] := World.ownsRow_made w #[] 0 (Nat.le_refl _) (Nat.zero_le _) (by simp)
 obtain ⟨A, cap, rfl, h0, h1, h2, hl, ho, h3⟩ := h
 cases A with
 | none =>
   have hN : N = 0 := by
    by_cases hn : N = 0
    ·exact hn
    ·obtain ⟨_, _, e, _⟩ := h3 hn
     cases e
   subst hN
   have hcs : cs = [] := List.length_eq_zero_iff.1 (by simpa using hl)
   subst hcs
   clear h3 ho hl hs o0
   go_enter Tryz.func47, Tryz.ntmps47
   go_wp2_with fail
   go_ret
   exact ⟨_, rfl, World.ownsRow_nil _ _ _ _, Below.refl _ _⟩
 | some ad =>
   obtain ⟨v', w', hr, h4, h5, _⟩ := run_append_own (P := Tryz.prog) (w.alloc (.cells #[] 71)) w.heap.size 59 59 71 i0 _ 5 8 u_rules hi hz0 hz1 hz2 rfl (by decide) _ 0 [] o0 ad N cap cs hl (fun j u hj => by
    have hn : N ≠ 0 := fun e => by
     subst e
     have : cs = [] := List.length_eq_zero_iff.1 (by simpa using hl)
     subst this
     simp at hj
    obtain ⟨b, o, e, hb, hr⟩ := h3 hn
    cases e
    rw [Addr.add_lit]
    exact (D0.cell (p := ⟨b, o + j, none⟩) hb).trans (hr j u hj)) ho (by unfold maxLen; omega) (by omega) (by simp)
   have D1 := Below.appC D0 o0 h5 (Nat.le_refl _) (by simp)
   simp only [List.nil_append, Nat.zero_add] at h4
   have fin : Hid (w'.ownsRow w.heap.size 71 5 v' N cs ∧ Below w.heap.size w w') := ⟨h4, D1⟩
   clear h0 h1 h2 h3 h5 hs o0 D0 h4 D1 hl ho
   go_enter Tryz.func47, Tryz.ntmps47
   go_wp2_with (at_builtin; refine append_runC rfl _ _ 59 rfl rfl rfl hr ?_)
   go_ret
   exact ⟨_, rfl, fin.out⟩
theorem u_routes : Tryz.prog.underlying 60 = some (.slice 130) := by kernel_rfl
theorem info_routes : (Tryz.prog.info? 130).map (fun i => (i.zero, i.size, i.bytes)) = some (some (.agg #[.int .i64 0, .int .i64 0, .int .i64 0]), 3, 24) := by kernel_rfl
theorem clone_routes {v : Value} {N : Nat} {cs : List Value} (w : World) (h : RowAt w.heap.size w v N 3 cs) (hs : N <= 1048576) :
  Calls Tryz.prog 48 #[v] w fun e w' => ∃ v', e = .returned v' ∧ w'.ownsRow w.heap.size 130 3 v' N cs ∧ Below w.heap.size w w' := by
 have q : ∀ (w : World) (a : Option Addr) (n c n' c' : Nat), (binOp .eql 60 (.slice a n c) (.slice none n' c')).run Tryz.prog w = .ok (.bool a.isNone) w := fun w a n c n' c' => Lib.run_eql_slice_nil w _ _ a n c n' c' u_routes
 obtain ⟨i0, hi, hz0, hz1, hz2⟩ := info_parts info_routes
 have D0 := Below.alN (Below.refl w.heap.size w) (.cells #[] 130)
 have o0 : (w.alloc (.cells #[] 130)).ownsRow w.heap.size 130 3 (.slice (some ⟨w.heap.size, 0, none⟩) 0 0) 0 [] := World.ownsRow_made w #[] 0 (Nat.le_refl _) (Nat.zero_le _) (by simp)
 obtain ⟨A, cap, rfl, h0, h1, h2, hl, ho, h3⟩ := h
 cases A with
 | none =>
   have hN : N = 0 := by
    by_cases hn : N = 0
    ·exact hn
    ·obtain ⟨_, _, e, _⟩ := h3 hn
     cases e
   subst hN
   have hcs : cs = [] := List.length_eq_zero_iff.1 (by simpa using hl)
   subst hcs
   clear h3 ho hl hs o0
   go_enter Tryz.func48, Tryz.ntmps48
   go_wp2_with fail
   go_ret
   exact ⟨_, rfl, World.ownsRow_nil _ _ _ _, Below.refl _ _⟩
 | some ad =>
   obtain ⟨v', w', hr, h4, h5, _⟩ := run_append_own (P := Tryz.prog) (w.alloc (.cells #[] 130)) w.heap.size 60 60 130 i0 _ 3 24 u_routes hi hz0 hz1 hz2 rfl (by decide) _ 0 [] o0 ad N cap cs hl (fun j u hj => by
    have hn : N ≠ 0 := fun e => by
     subst e
     have : cs = [] := List.length_eq_zero_iff.1 (by simpa using hl)
     subst this
     simp at hj
    obtain ⟨b, o, e, hb, hr⟩ := h3 hn
    cases e
    rw [Addr.add_lit]
    exact (D0.cell (p := ⟨b, o + j, none⟩) hb).trans (hr j u hj)) ho (by unfold maxLen; omega) (by omega) (by simp)
   have D1 := Below.appC D0 o0 h5 (Nat.le_refl _) (by simp)
   simp only [List.nil_append, Nat.zero_add] at h4
   have fin : Hid (w'.ownsRow w.heap.size 130 3 v' N cs ∧ Below w.heap.size w w') := ⟨h4, D1⟩
   clear h0 h1 h2 h3 h5 hs o0 D0 h4 D1 hl ho
   go_enter Tryz.func48, Tryz.ntmps48
   go_wp2_with (at_builtin; refine append_runC rfl _ _ 60 rfl rfl rfl hr ?_)
   go_ret
   exact ⟨_, rfl, fin.out⟩
theorem u_devs : Tryz.prog.underlying 22 = some (.slice 62) := by kernel_rfl
theorem info_devs : (Tryz.prog.info? 62).map (fun i => (i.zero, i.size, i.bytes)) = some (some (.agg #[.string ⟨#[]⟩, .int .i64 0, .int .i64 0, .int .u8 0, .slice none 0 0, .slice none 0 0, .slice none 0 0]), 7, 112) := by kernel_rfl
theorem clone_devs {v : Value} {N : Nat} {cs : List Value} (w : World) (h : RowAt w.heap.size w v N 7 cs) (hs : N <= 1048576) :
  Calls Tryz.prog 44 #[v] w fun e w' => ∃ v', e = .returned v' ∧ w'.ownsRow w.heap.size 62 7 v' N cs ∧ Below w.heap.size w w' := by
 have q : ∀ (w : World) (a : Option Addr) (n c n' c' : Nat), (binOp .eql 22 (.slice a n c) (.slice none n' c')).run Tryz.prog w = .ok (.bool a.isNone) w := fun w a n c n' c' => Lib.run_eql_slice_nil w _ _ a n c n' c' u_devs
 obtain ⟨i0, hi, hz0, hz1, hz2⟩ := info_parts info_devs
 have D0 := Below.alN (Below.refl w.heap.size w) (.cells #[] 62)
 have o0 : (w.alloc (.cells #[] 62)).ownsRow w.heap.size 62 7 (.slice (some ⟨w.heap.size, 0, none⟩) 0 0) 0 [] := World.ownsRow_made w #[] 0 (Nat.le_refl _) (Nat.zero_le _) (by simp)
 obtain ⟨A, cap, rfl, h0, h1, h2, hl, ho, h3⟩ := h
 cases A with
 | none =>
   have hN : N = 0 := by
    by_cases hn : N = 0
    ·exact hn
    ·obtain ⟨_, _, e, _⟩ := h3 hn
     cases e
   subst hN
   have hcs : cs = [] := List.length_eq_zero_iff.1 (by simpa using hl)
   subst hcs
   clear h3 ho hl hs o0
   go_enter Tryz.func44, Tryz.ntmps44
   go_wp2_with fail
   go_ret
   exact ⟨_, rfl, World.ownsRow_nil _ _ _ _, Below.refl _ _⟩
 | some ad =>
   obtain ⟨v', w', hr, h4, h5, _⟩ := run_append_own (P := Tryz.prog) (w.alloc (.cells #[] 62)) w.heap.size 22 22 62 i0 _ 7 112 u_devs hi hz0 hz1 hz2 rfl (by decide) _ 0 [] o0 ad N cap cs hl (fun j u hj => by
    have hn : N ≠ 0 := fun e => by
     subst e
     have : cs = [] := List.length_eq_zero_iff.1 (by simpa using hl)
     subst this
     simp at hj
    obtain ⟨b, o, e, hb, hr⟩ := h3 hn
    cases e
    rw [Addr.add_lit]
    exact (D0.cell (p := ⟨b, o + j, none⟩) hb).trans (hr j u hj)) ho (by unfold maxLen; omega) (by omega) (by simp)
   have D1 := Below.appC D0 o0 h5 (Nat.le_refl _) (by simp)
   simp only [List.nil_append, Nat.zero_add] at h4
   have fin : Hid (w'.ownsRow w.heap.size 62 7 v' N cs ∧ Below w.heap.size w w') := ⟨h4, D1⟩
   clear h0 h1 h2 h3 h5 hs o0 D0 h4 D1 hl ho
   go_enter Tryz.func44, Tryz.ntmps44
   go_wp2_with (at_builtin; refine append_runC rfl _ _ 22 rfl rfl rfl hr ?_)
   go_ret
   exact ⟨_, rfl, fin.out⟩
abbrev pkC (p : Pk) : Obj := .cells #[.int .i64 p.s, .int .i64 p.d, .int .i64 p.sp, .int .i64 p.dp] 36
abbrev lvA (q : Int) (p : Pk) (fv : Value) : Value := .agg #[.int .i64 q, .int .i64 p.s, .int .i64 p.d, .int .i64 p.sp, .int .i64 p.dp, fv]
theorem pisAddr_any (n : Int) (w : World) : Calls Tryz.prog 94 #[.int .i64 n] w fun e w' => e = .returned (.bool (adB n)) ∧ w' = w := by
 unfold adB
 cases h1 : decide (0 <= n)
 ·go_enter Tryz.func94, Tryz.ntmps94
  go_wp2_with fail
  go_ret
  exact ⟨by simp, rfl⟩
 ·go_enter Tryz.func94, Tryz.ntmps94
  go_wp2_with fail
  go_ret
  exact ⟨by simp, rfl⟩
theorem pisPort_any (n : Int) (w : World) : Calls Tryz.prog 95 #[.int .i64 n] w fun e w' => e = .returned (.bool (poB n)) ∧ w' = w := by
 unfold poB
 cases h1 : decide (0 <= n)
 ·go_enter Tryz.func95, Tryz.ntmps95
  go_wp2_with fail
  go_ret
  exact ⟨by simp, rfl⟩
 ·go_enter Tryz.func95, Tryz.ntmps95
  go_wp2_with fail
  go_ret
  exact ⟨by simp, rfl⟩
theorem pcheck_any (p : Pk) (w : World) : Calls Tryz.prog 55 #[pkV p] w fun e w' => e = .returned (.int .i64 (if pkOk p then 0 else 1)) ∧ Below w.heap.size w w' := by
 obtain ⟨s, d, sp, dp⟩ := p
 have D0 := Below.alN (Below.refl w.heap.size w) (pkC ⟨s, d, sp, dp⟩)
 have A1 : Hid (∀ w, Calls Tryz.prog 94 #[.int .i64 s] w fun e w' => e = .returned (.bool (adB s)) ∧ w' = w) := fun w => pisAddr_any s w
 have A2 : Hid (∀ w, Calls Tryz.prog 94 #[.int .i64 d] w fun e w' => e = .returned (.bool (adB d)) ∧ w' = w) := fun w => pisAddr_any d w
 have A3 : Hid (∀ w, Calls Tryz.prog 95 #[.int .i64 sp] w fun e w' => e = .returned (.bool (poB sp)) ∧ w' = w) := fun w => pisPort_any sp w
 have A4 : Hid (∀ w, Calls Tryz.prog 95 #[.int .i64 dp] w fun e w' => e = .returned (.bool (poB dp)) ∧ w' = w) := fun w => pisPort_any dp w
 unfold pkOk
 simp only
 generalize adB s = x1 at *
 generalize adB d = x2 at *
 generalize poB sp = x3 at *
 generalize poB dp = x4 at *
 cases x1
 ·go_enter Tryz.func55, Tryz.ntmps55
  go_wp2_with fail
  refine (A1.out _).mono ?_
  rintro e w' ⟨rfl, rfl⟩
  go_wp2_with fail
  go_ret
  exact ⟨by simp, D0⟩
 cases x2
 ·go_enter Tryz.func55, Tryz.ntmps55
  go_wp2_with fail
  refine (A1.out _).mono ?_
  rintro e w' ⟨rfl, rfl⟩
  go_wp2_with fail
  refine (A2.out _).mono ?_
  rintro e w' ⟨rfl, rfl⟩
  go_wp2_with fail
  go_ret
  exact ⟨by simp, D0⟩
 cases x3
 ·go_enter Tryz.func55, Tryz.ntmps55
  go_wp2_with fail
  refine (A1.out _).mono ?_
  rintro e w' ⟨rfl, rfl⟩
  go_wp2_with fail
  refine (A2.out _).mono ?_
  rintro e w' ⟨rfl, rfl⟩
  go_wp2_with fail
  refine (A3.out _).mono ?_
  rintro e w' ⟨rfl, rfl⟩
  go_wp2_with fail
  go_ret
  exact ⟨by simp, D0⟩
 cases x4
 all_goals
  go_enter Tryz.func55, Tryz.ntmps55
  go_wp2_with fail
  refine (A1.out _).mono ?_
  rintro e w' ⟨rfl, rfl⟩
  go_wp2_with fail
  refine (A2.out _).mono ?_
  rintro e w' ⟨rfl, rfl⟩
  go_wp2_with fail
  refine (A3.out _).mono ?_
  rintro e w' ⟨rfl, rfl⟩
  go_wp2_with fail
  refine (A4.out _).mono ?_
  rintro e w' ⟨rfl, rfl⟩
  go_wp2_with fail
  go_ret
  exact ⟨by simp, D0⟩
theorem pflip_any (p : Pk) (w : World) : Calls Tryz.prog 155 #[pkV p] w fun e w' => e = .returned (pkV (flipP p)) ∧ Below w.heap.size w w' := by
 obtain ⟨s, d, sp, dp⟩ := p
 go_enter Tryz.func155, Tryz.ntmps155
 go_wp2_with fail
 refine bodyPost_ret (v := pkV ⟨d, s, dp, sp⟩) (by simp [results, Tryz.results155, go_sem]) rfl ⟨rfl, ?_⟩
 exact Below.alN (Below.alN (Below.refl _ _) _) _
theorem stay_any (w : World) : Calls Tryz.prog 132 #[] w fun e w' => e = .returned (.tuple #[lvA 0 zeroP .nilFunc, .int .i64 7]) ∧ Below w.heap.size w w' := by
 go_enter Tryz.func132, Tryz.ntmps132
 go_wp2_with fail
 refine bodyPost_ret (v := .tuple #[lvA 0 zeroP .nilFunc, .int .i64 7]) (by simp [results, Tryz.results132, go_sem, zeroP]) rfl ⟨rfl, ?_⟩
 exact Below.alN (Below.refl _ _) _
theorem pass_any (q : Int) (p : Pk) (w : World) : Calls Tryz.prog 153 #[.int .i64 q, pkV p] w fun e w' => e = .returned (.tuple #[lvA q p (.func (.func 173) #[] #[]), .int .i64 0]) ∧ Below w.heap.size w w' := by
 obtain ⟨s, d, sp, dp⟩ := p
 go_enter Tryz.func153, Tryz.ntmps153
 go_wp2_with fail
 refine bodyPost_ret (v := .tuple #[lvA q ⟨s, d, sp, dp⟩ (.func (.func 173) #[] #[]), .int .i64 0]) (by simp [results, Tryz.results153, go_sem]) rfl ⟨rfl, ?_⟩
 exact Below.alN (Below.alN (Below.refl _ _) _) _
theorem pass1_any (w : World) : Calls Tryz.prog 173 #[] w fun e w' => e = .returned (.tuple #[]) ∧ w' = w := by
 go_enter Tryz.func173, Tryz.ntmps173
 go_wp2_with fail
 go_returns
 exact ⟨rfl, rfl⟩
section
variable {w : World} {m : Mp} {ds : List Dv} {ls : List Lk} {n : Nat} {M : Mnd}
theorem MemAt.ne_f (h : MemAt w m ds ls n M) : m.B ≠ m.f := fun e => by
 obtain ⟨es, c, hb⟩ := h.fl.isMap
 exact h.notMap es c (by rw [e]; exact hb)
theorem MemAt.ne_o (h : MemAt w m ds ls n M) : m.B ≠ m.o := fun e => by
 obtain ⟨es, c, hb⟩ := h.ow.isMap
 exact h.notMap es c (by rw [e]; exact hb)
theorem MemAt.ne_k (h : MemAt w m ds ls n M) : m.B ≠ m.k := fun e => by
 obtain ⟨es, c, hb⟩ := h.bk.isMap
 exact h.notMap es c (by rw [e]; exact hb)
theorem MemAt.turnF {w' : World} {n' : Nat} {g : Int × Pk -> Option Unit} (h : MemAt w m ds ls n M) (hn : n <= n') (hf : MapAt pofE unitV w' m.f n' g) (ht : w.mapTurned w' m.f) : MemAt w' m ds ls n' { M with fl := g } ∧ HK m w w' := by
 have hc := CK.of_turned ht
 exact ⟨⟨⟨(mapTurned_block ht h.ne_f).trans h.blk.1, h.blk.2⟩, (h.devs.ck hc).mono hc.size, (h.links.ck hc).mono hc.size, hf, (h.ow.same (mapTurned_block ht h.fo.symm)).mono hn, (h.bk.same (mapTurned_block ht h.fk.symm)).mono hn, h.fo, h.fk, h.ok⟩, HK.of_turned ht (by simp)⟩
theorem MemAt.turnO {w' : World} {n' : Nat} {g : Int × Int -> Option (Int × Int)} (h : MemAt w m ds ls n M) (hn : n <= n') (hf : MapAt prtE endV w' m.o n' g) (ht : w.mapTurned w' m.o) : MemAt w' m ds ls n' { M with ow := g } ∧ HK m w w' := by
 have hc := CK.of_turned ht
 exact ⟨⟨⟨(mapTurned_block ht h.ne_o).trans h.blk.1, h.blk.2⟩, (h.devs.ck hc).mono hc.size, (h.links.ck hc).mono hc.size, (h.fl.same (mapTurned_block ht h.fo)).mono hn, hf, (h.bk.same (mapTurned_block ht h.ok.symm)).mono hn, h.fo, h.fk, h.ok⟩, HK.of_turned ht (by simp)⟩
theorem MemAt.turnK {w' : World} {n' : Nat} {g : Int × Pk -> Option Int} (h : MemAt w m ds ls n M) (hn : n <= n') (hf : MapAt pofE intV w' m.k n' g) (ht : w.mapTurned w' m.k) : MemAt w' m ds ls n' { M with bk := g } ∧ HK m w w' := by
 have hc := CK.of_turned ht
 exact ⟨⟨⟨(mapTurned_block ht h.ne_k).trans h.blk.1, h.blk.2⟩, (h.devs.ck hc).mono hc.size, (h.links.ck hc).mono hc.size, (h.fl.same (mapTurned_block ht h.fk)).mono hn, (h.ow.same (mapTurned_block ht h.ok)).mono hn, hf, h.fo, h.fk, h.ok⟩, HK.of_turned ht (by simp)⟩
theorem MemAt.learnF (h : MemAt w m ds ls n M) (hn : n < maxLen) {i : Int} {p : Pk} (hi : i64ok i) (hp : p.ok) : ∃ w', (Instr.mapUpdate 78 (.map (some m.f)) (.agg #[.int .i64 i, .int .i64 p.s, .int .i64 p.d, .int .i64 p.sp, .int .i64 p.dp]) (.agg #[])).run Tryz.prog w = .ok () w' ∧ MemAt w' m ds ls (n + 1) (learnP M (.flow i p)) ∧ HK m w w' := by
 obtain ⟨w', hr, hm, ht⟩ := h.fl.store uMf hn (x := (i, p)) ⟨hi, hp⟩ ()
 exact ⟨w', hr, h.turnF (by omega) hm ht⟩
theorem MemAt.learnO (h : MemAt w m ds ls n M) (hn : n < maxLen) {i k : Int} {s : Int × Int} (hi : i64ok i) (hk : i64ok k) : ∃ w', (Instr.mapUpdate 79 (.map (some m.o)) (.agg #[.int .i64 i, .int .i64 k]) (.agg #[.int .i64 s.1, .int .i64 s.2])).run Tryz.prog w = .ok () w' ∧ MemAt w' m ds ls (n + 1) (learnP M (.own i k s)) ∧ HK m w w' := by
 obtain ⟨w', hr, hm, ht⟩ := h.ow.store uMo hn (x := (i, k)) ⟨hi, hk⟩ s
 exact ⟨w', hr, h.turnO (by omega) hm ht⟩
theorem MemAt.learnB (h : MemAt w m ds ls n M) (hn : n < maxLen) {i : Int} {p : Pk} {b : Int} (hi : i64ok i) (hp : p.ok) : ∃ w', (Instr.mapUpdate 80 (.map (some m.k)) (.agg #[.int .i64 i, .int .i64 p.s, .int .i64 p.d, .int .i64 p.sp, .int .i64 p.dp]) (.int .i64 b)).run Tryz.prog w = .ok () w' ∧ MemAt w' m ds ls (n + 1) (learnP M (.back i p b)) ∧ HK m w w' := by
 obtain ⟨w', hr, hm, ht⟩ := h.bk.store uMk hn (x := (i, p)) ⟨hi, hp⟩ b
 exact ⟨w', hr, h.turnK (by omega) hm ht⟩
end
def LrnAt (N : Nat) (w : World) (m : Mp) (fv : Value) : Lrn -> Prop
 | .no => fv = .func (.func 173) #[] #[]
 | .flow i p => i64ok i ∧ p.ok ∧ ∃ a b, fv = .func (.func 154) #[] #[.pointer (some ⟨a, 0, none⟩), .pointer (some ⟨b, 0, none⟩)] ∧ N <= a ∧ N <= b ∧ w.cell? ⟨a, 0, none⟩ = some (.pointer (some ⟨m.B, m.z, none⟩)) ∧ w.cell? ⟨b, 0, none⟩ = some (.int .i64 i) ∧ w.cell? ⟨b, 1, none⟩ = some (.int .i64 p.s) ∧ w.cell? ⟨b, 2, none⟩ = some (.int .i64 p.d) ∧ w.cell? ⟨b, 3, none⟩ = some (.int .i64 p.sp) ∧ w.cell? ⟨b, 4, none⟩ = some (.int .i64 p.dp)
 | .own i k s => i64ok i ∧ i64ok k ∧ ∃ a b c d, fv = .func (.func 158) #[] #[.pointer (some ⟨a, 0, none⟩), .pointer (some ⟨b, 0, none⟩), .pointer (some ⟨c, 0, none⟩), .pointer (some ⟨d, 0, none⟩)] ∧ N <= a ∧ N <= b ∧ N <= c ∧ N <= d ∧ w.cell? ⟨a, 0, none⟩ = some (.int .i64 s.1) ∧ w.cell? ⟨a, 1, none⟩ = some (.int .i64 s.2) ∧ w.cell? ⟨b, 0, none⟩ = some (.pointer (some ⟨m.B, m.z, none⟩)) ∧ w.cell? ⟨c, 0, none⟩ = some (.int .i64 i) ∧ w.cell? ⟨d, 0, none⟩ = some (.int .i64 k)
 | .back i p x => i64ok i ∧ p.ok ∧ ∃ a b c, fv = .func (.func 159) #[] #[.pointer (some ⟨a, 0, none⟩), .pointer (some ⟨b, 0, none⟩), .pointer (some ⟨c, 0, none⟩)] ∧ N <= a ∧ N <= b ∧ N <= c ∧ w.cell? ⟨a, 0, none⟩ = some (.int .i64 x) ∧ w.cell? ⟨b, 0, none⟩ = some (.pointer (some ⟨m.B, m.z, none⟩)) ∧ w.cell? ⟨c, 0, none⟩ = some (.int .i64 i) ∧ w.cell? ⟨c, 1, none⟩ = some (.int .i64 p.s) ∧ w.cell? ⟨c, 2, none⟩ = some (.int .i64 p.d) ∧ w.cell? ⟨c, 3, none⟩ = some (.int .i64 p.sp) ∧ w.cell? ⟨c, 4, none⟩ = some (.int .i64 p.dp)
theorem LrnAt.keep {N N' : Nat} {w w' : World} {m : Mp} {fv : Value} {l : Lrn} (h : LrnAt N w m fv l) (hN : N' <= N) (C : ∀ {b o : Nat} {v : Value}, N <= b -> w.cell? ⟨b, o, none⟩ = some v -> w'.cell? ⟨b, o, none⟩ = some v) : LrnAt N' w' m fv l := by
 cases l with
 | no => exact h
 | flow i p =>
   obtain ⟨hi, hp, a, b, e, n1, n2, h0, h1, h2, h3, h4, h5⟩ := h
   exact ⟨hi, hp, a, b, e, by omega, by omega, C n1 h0, C n2 h1, C n2 h2, C n2 h3, C n2 h4, C n2 h5⟩
 | own i k s =>
   obtain ⟨hi, hp, a, b, c, d, e, n1, n2, n3, n4, h0, h1, h2, h3, h4⟩ := h
   exact ⟨hi, hp, a, b, c, d, e, by omega, by omega, by omega, by omega, C n1 h0, C n1 h1, C n2 h2, C n3 h3, C n4 h4⟩
 | back i p x =>
   obtain ⟨hi, hp, a, b, c, e, n1, n2, n3, h0, h1, h2, h3, h4, h5, h6⟩ := h
   exact ⟨hi, hp, a, b, c, e, by omega, by omega, by omega, C n1 h0, C n2 h1, C n3 h2, C n3 h3, C n3 h4, C n3 h5, C n3 h6⟩
theorem LrnAt.below {N : Nat} {w w' : World} {m : Mp} {fv : Value} {l : Lrn} (h : LrnAt N w m fv l) (hb : Below w.heap.size w w') : LrnAt N w' m fv l :=
 h.keep (Nat.le_refl _) (fun _ hc => (CK.of_below hb).cell hc)
theorem ask1_any (a b : Nat) (m : Mp) (ds : List Dv) (ls : List Lk) (n : Nat) (M : Mnd) (i : Int) (p : Pk) (w : World) (hM : Hid (MemAt w m ds ls n M)) (hn : n < maxLen) (hi : i64ok i) (hp : p.ok) (h0 : w.cell? ⟨a, 0, none⟩ = some (.pointer (some ⟨m.B, m.z, none⟩))) (h1 : w.cell? ⟨b, 0, none⟩ = some (.int .i64 i)) (h2 : w.cell? ⟨b, 1, none⟩ = some (.int .i64 p.s)) (h3 : w.cell? ⟨b, 2, none⟩ = some (.int .i64 p.d)) (h4 : w.cell? ⟨b, 3, none⟩ = some (.int .i64 p.sp)) (h5 : w.cell? ⟨b, 4, none⟩ = some (.int .i64 p.dp)) :
  Calls Tryz.prog 154 #[.pointer (some ⟨a, 0, none⟩), .pointer (some ⟨b, 0, none⟩)] w fun e w' => e = .returned (.tuple #[]) ∧ MemAt w' m ds ls (n + 1) (learnP M (.flow i p)) ∧ HK m w w' := by
 obtain ⟨w1, hrun, hm, hk⟩ := hM.out.drew.learnF hn hi hp
 have hk' : HK m w w1 := (HK.of_below (Below.drew (Below.refl _ _))).trans hk
 obtain ⟨_, _, q0, _, _⟩ := hM.out.cells
 clear hM hi hp hn hk
 go_enter Tryz.func154, Tryz.ntmps154
 go_region
 go_returns
 exact ⟨rfl, hm, hk'⟩
theorem hide1_any (a b c d : Nat) (m : Mp) (ds : List Dv) (ls : List Lk) (n : Nat) (M : Mnd) (i k : Int) (s : Int × Int) (w : World) (hM : Hid (MemAt w m ds ls n M)) (hn : n < maxLen) (hi : i64ok i) (hk : i64ok k) (h0 : w.cell? ⟨a, 0, none⟩ = some (.int .i64 s.1)) (h1 : w.cell? ⟨a, 1, none⟩ = some (.int .i64 s.2)) (h2 : w.cell? ⟨b, 0, none⟩ = some (.pointer (some ⟨m.B, m.z, none⟩))) (h3 : w.cell? ⟨c, 0, none⟩ = some (.int .i64 i)) (h4 : w.cell? ⟨d, 0, none⟩ = some (.int .i64 k)) :
  Calls Tryz.prog 158 #[.pointer (some ⟨a, 0, none⟩), .pointer (some ⟨b, 0, none⟩), .pointer (some ⟨c, 0, none⟩), .pointer (some ⟨d, 0, none⟩)] w fun e w' => e = .returned (.tuple #[]) ∧ MemAt w' m ds ls (n + 1) (learnP M (.own i k s)) ∧ HK m w w' := by
 obtain ⟨w1, hrun, hm, hk1⟩ := hM.out.drew.learnO hn (s := s) hi hk
 have hk' : HK m w w1 := (HK.of_below (Below.drew (Below.refl _ _))).trans hk1
 obtain ⟨_, _, _, q0, _⟩ := hM.out.cells
 clear hM hi hk hn hk1
 go_enter Tryz.func158, Tryz.ntmps158
 go_region
 go_returns
 exact ⟨rfl, hm, hk'⟩
theorem spread1_any (a b c : Nat) (m : Mp) (ds : List Dv) (ls : List Lk) (n : Nat) (M : Mnd) (i : Int) (p : Pk) (x : Int) (w : World) (hM : Hid (MemAt w m ds ls n M)) (hn : n < maxLen) (hi : i64ok i) (hp : p.ok) (h6 : w.cell? ⟨a, 0, none⟩ = some (.int .i64 x)) (h0 : w.cell? ⟨b, 0, none⟩ = some (.pointer (some ⟨m.B, m.z, none⟩))) (h1 : w.cell? ⟨c, 0, none⟩ = some (.int .i64 i)) (h2 : w.cell? ⟨c, 1, none⟩ = some (.int .i64 p.s)) (h3 : w.cell? ⟨c, 2, none⟩ = some (.int .i64 p.d)) (h4 : w.cell? ⟨c, 3, none⟩ = some (.int .i64 p.sp)) (h5 : w.cell? ⟨c, 4, none⟩ = some (.int .i64 p.dp)) :
  Calls Tryz.prog 159 #[.pointer (some ⟨a, 0, none⟩), .pointer (some ⟨b, 0, none⟩), .pointer (some ⟨c, 0, none⟩)] w fun e w' => e = .returned (.tuple #[]) ∧ MemAt w' m ds ls (n + 1) (learnP M (.back i p x)) ∧ HK m w w' := by
 obtain ⟨w1, hrun, hm, hk⟩ := hM.out.drew.learnB hn (b := x) hi hp
 have hk' : HK m w w1 := (HK.of_below (Below.drew (Below.refl _ _))).trans hk
 obtain ⟨_, _, _, _, q0⟩ := hM.out.cells
 clear hM hi hp hn hk
 go_enter Tryz.func159, Tryz.ntmps159
 go_region
 go_returns
 exact ⟨rfl, hm, hk'⟩
end Go.Proofs.YtlmmeppifkigeaaGreat
