/-
  fib.Out.
-/
import Derived.Test.YtlmmeppifkigeaaGreatIsR
import Derived.Test.YtlmmeppifkigeaaGreatXAF
import Derived.Test.YtlmmeppifkigeaaGreatXAG
import Derived.Test.YtlmmeppifkigeaaGreatXAI
import Derived.Test.YtlmmeppifkigeaaGreatXAH
import Derived.Deep.WholeRow
namespace Go.Proofs.YtlmmeppifkigeaaGreat
open Go.RowKit

theorem belowN {B : Nat} {a w : World} (h : Below B a w) (n : Nat) : Below B a (w.drewN n) := h.trans ⟨rfl, rfl, rfl, Nat.le_refl _, fun _ _ => rfl⟩
/-- A route in a block of a call's own. -/
def BoxR (w : World) (n : Nat) (v m p : Int) : Prop := Three w n (.int .i64 v) (.int .i64 m) (.int .i64 p) ∧ w.frozen? ⟨n, 0, none⟩ = false ∧ w.frozen? ⟨n, 1, none⟩ = false ∧ w.frozen? ⟨n, 2, none⟩ = false
theorem BoxR.below {B : Nat} {W w' : World} {n : Nat} {v m p : Int} (h : BoxR W n v m p) (hb : Below B W w') (hB : n < B) : BoxR w' n v m p :=
  ⟨keepThree hb hB h.1, (hb.frozen (p := ⟨n, 0, none⟩) hB).trans h.2.1, (hb.frozen (p := ⟨n, 1, none⟩) hB).trans h.2.2.1, (hb.frozen (p := ⟨n, 2, none⟩) hB).trans h.2.2.2⟩
theorem BoxR.alloc {w : World} {n : Nat} {v m p : Int} (h : BoxR w n v m p) (o : Obj) : BoxR (w.alloc o) n v m p := h.below ((Below.refl _ _).alloc (Nat.le_refl _) o) h.1.1
theorem box_new (w : World) (v m p : Int) (t : TypeId) : BoxR (w.alloc (.cells #[.int .i64 v, .int .i64 m, .int .i64 p] t)) w.heap.size v m p :=
  ⟨three_new w _ _ _ t, by simp [go_sem], by simp [go_sem], by simp [go_sem]⟩
theorem setBoxR {w : World} {n : Nat} {v m p : Int} (h : BoxR w n v m p) (x y z : Int) :
    BoxR (((w.setCell ⟨n, 0, none⟩ (.int .i64 x)).setCell ⟨n, 1, none⟩ (.int .i64 y)).setCell ⟨n, 2, none⟩ (.int .i64 z)) n x y z := by
  obtain ⟨⟨h0, h1, h2, h3⟩, k1, k2, k3⟩ := h
  refine ⟨⟨by simpa using h0, ?_, ?_, ?_⟩, ?_, ?_, ?_⟩ <;> simp [go_sem, h1, h2, h3, k1, k2, k3]

set_option maxHeartbeats 4000000 in
set_option maxRecDepth 100000 in
theorem out_row (b o cap : Nat) (xs : List Rt) (d : Int) (w : World) (hb : b < w.heap.size) (hn : xs.length ≤ cap) (hcap : cap ≤ maxLen) (hr : Hid (TAt w b o xs)) (h0 : 0 ≤ d) (h1 : d < 16) :
    Calls Tryz.prog 151 #[.slice (some ⟨b, o, none⟩) xs.length cap, .int .i64 d] w fun e w' => e = .returned (.tuple #[.int .i64 (bestOf xs d).2, .bool (!((bestOf xs d).1 == -1))]) ∧ Below w.heap.size w w' := by
  unfold maxLen at hcap
  have t1 : decide (d < 0) = false := by simp; omega
  have t2 : decide (16 ≤ d) = false := by simp; omega
  have D0 := Below.al (Below.refl w.heap.size w) (.cells #[.int .i64 0, .int .i64 (-1), .int .i64 0] 130)
  have B0 := box_new w 0 (-1) 0 130
  clear h0 h1
  go_enter Tryz.func151, Tryz.ntmps151
  go_wp2_with fail
  go_loopw [18] (fun i wr => ∃ k : Nat, ∃ v m p : Int, i = .int .i64 (k : Int) ∧ k ≤ xs.length ∧ Below w.heap.size w wr ∧ BoxR wr w.heap.size v m p ∧ Hid (bestOf (xs.take k) d = (m, p))) (fun i _ => xs.length - (intOf i).toNat)
  case atStart => exact ⟨0, 0, -1, 0, rfl, by omega, D0, B0, rfl⟩
  case round =>
    obtain ⟨k, v, m, p, rfl, hk, D1, B1, hl⟩ := hrel
    by_cases hlt : k < xs.length
    · obtain ⟨r, hxk⟩ : ∃ r, xs[k]? = some r := ⟨_, List.getElem?_eq_getElem hlt⟩
      obtain ⟨c0, c1, c2⟩ := (hr.out.below D1 hb).at hxk
      have Hd : Hid (bestOf (xs.take (k + 1)) d = if isR r && takesB r d && decide (m < r.b) then (r.b, r.p) else (m, p)) := by
        show _ = _
        rw [bestOf_take hxk, hl.out]
        rfl
      have IS : Hid (∀ w, Calls Tryz.prog 108 #[rtw r.v r.b r.p] w fun e w' => e = .returned (.bool (isR r)) ∧ Below w.heap.size w w') := fun w => isRoute_any r w
      have TK : Hid (isR r = true → ∀ w, Calls Tryz.prog 171 #[rtw r.v r.b r.p, .int .i64 d] w fun e w' => e = .returned (.bool (takesB r d)) ∧ Below w.heap.size w w') := fun h w => takes_any r d w h
      have D2 := Below.al D1 (.cells #[.int .i64 r.v, .int .i64 r.b, .int .i64 r.p] 130)
      have B2 := B1.alloc (.cells #[.int .i64 r.v, .int .i64 r.b, .int .i64 r.p] 130)
      have T2 := three_new wr (.int .i64 r.v) (.int .i64 r.b) (.int .i64 r.p) 130
      have lw := D1.size
      have lb := B1.1.1
      obtain ⟨⟨_, g0, g1, g2⟩, _⟩ := id B2
      clear hxk hl B1 D1 hr D0 B0
      generalize isR r = x at *
      generalize takesB r d = y at *
      generalize r.v = rv0 at *
      generalize r.b = rb0 at *
      generalize r.p = rp0 at *
      go_wp2_with fail
      refine (IS.out _).mono ?_
      rintro e w3 ⟨rfl, hb3⟩
      have D3 := chn hb3 D2
      have B3 := B2.below hb3 (by simp; omega)
      have T3 := keepThree hb3 (by simp) T2
      clear hb3 D2 B2 T2 g0 g1 g2 c0 c1 c2 IS
      cases x
      · go_wp2_with fail
        go_roundw
        case rel => exact ⟨k + 1, v, m, p, by go_num, by omega, D3, B3, by show _ = _; rw [Hd.out]; simp⟩
        case measure => simp [intOf]; omega
      · obtain ⟨_, z0, z1, z2⟩ := id T3
        go_wp2_with fail
        refine (TK.out (by trivial) _).mono ?_
        rintro e w4 ⟨rfl, hb4⟩
        have D4 := chn hb4 D3
        have B4 := B3.below hb4 B3.1.1
        have T4 := keepThree hb4 T3.1 T3
        clear hb4 D3 B3 T3 z0 z1 z2 TK
        cases y
        · go_wp2_with fail
          go_roundw
          case rel => exact ⟨k + 1, v, m, p, by go_num, by omega, D4, B4, by show _ = _; rw [Hd.out]; simp⟩
          case measure => simp [intOf]; omega
        · obtain ⟨_, z0, z1, z2⟩ := id T4
          obtain ⟨⟨_, q0, q1, q2⟩, f0, f1, f2⟩ := id B4
          cases hm : decide (m < rb0)
          · have Hn : Hid (bestOf (xs.take (k + 1)) d = (m, p)) := by show _ = _; rw [Hd.out, hm]; simp
            clear Hd
            go_wp2_with fail
            go_roundw
            case rel => exact ⟨k + 1, v, m, p, by go_num, by omega, D4, B4, Hn⟩
            case measure => simp [intOf]; omega
          · have Hn : Hid (bestOf (xs.take (k + 1)) d = (rb0, rp0)) := by show _ = _; rw [Hd.out, hm]; simp
            clear Hd
            have B5 := setBoxR B4 rv0 rb0 rp0
            have D5 := ((D4.setCell (p := ⟨w.heap.size, 0, none⟩) (Nat.le_refl _) (.int .i64 rv0)).setCell (p := ⟨w.heap.size, 1, none⟩) (Nat.le_refl _) (.int .i64 rb0)).setCell (p := ⟨w.heap.size, 2, none⟩) (Nat.le_refl _) (.int .i64 rp0)
            go_wp2_with fail
            go_roundw
            case rel => exact ⟨k + 1, rv0, rb0, rp0, by go_num, by omega, D5, B5, Hn⟩
            case measure => simp [intOf]; omega
    · obtain rfl : k = xs.length := by omega
      have Hn : Hid (bestOf xs d = (m, p)) := by
        have := hl.out
        rw [List.take_length] at this
        exact this
      obtain ⟨⟨_, q0, q1, q2⟩, f0, f1, f2⟩ := id B1
      go_wp2_with fail
      go_quiet (fail)
      go_wp2_with fail
      go_ret2
      exact ⟨by rw [Hn.out]; rfl, belowN D1 _⟩

set_option maxHeartbeats 1000000 in
theorem out_none (A : Option Addr) (cap : Nat) (d : Int) (w : World) (h0 : 0 ≤ d) (h1 : d < 16) :
    Calls Tryz.prog 151 #[.slice A 0 cap, .int .i64 d] w fun e w' => e = .returned (.tuple #[.int .i64 0, .bool false]) ∧ Below w.heap.size w w' := by
  have t1 : decide (d < 0) = false := by simp; omega
  have t2 : decide (16 ≤ d) = false := by simp; omega
  have D0 := Below.al (Below.refl w.heap.size w) (.cells #[.int .i64 0, .int .i64 (-1), .int .i64 0] 130)
  have B0 := box_new w 0 (-1) 0 130
  clear h0 h1
  go_enter Tryz.func151, Tryz.ntmps151
  go_wp2_with fail
  go_loopw [18] (fun i wr => i = .int .i64 0 ∧ Below w.heap.size w wr ∧ BoxR wr w.heap.size 0 (-1) 0) (fun i _ => 0)
  case atStart => exact ⟨rfl, D0, B0⟩
  case round =>
    obtain ⟨rfl, D1, B1⟩ := hrel
    obtain ⟨⟨_, q0, q1, q2⟩, f0, f1, f2⟩ := id B1
    go_wp2_with fail
    go_quiet (fail)
    go_wp2_with fail
    go_ret2
    exact ⟨rfl, belowN D1 _⟩

set_option maxHeartbeats 400000 in
theorem out_wide (v : Value) (d : Int) (w : World) (h : d < 0 ∨ 16 ≤ d) :
    Calls Tryz.prog 151 #[v, .int .i64 d] w fun e w' => e = .returned (.tuple #[.int .i64 0, .bool false]) ∧ Below w.heap.size w w' := by
  by_cases h0 : d < 0
  · have t1 : decide (d < 0) = true := by simp; omega
    go_enter Tryz.func151, Tryz.ntmps151
    go_wp2_with fail
    go_ret2
    exact ⟨rfl, Below.refl _ _⟩
  · have t1 : decide (d < 0) = false := by simp; omega
    have t2 : decide (16 ≤ d) = true := by simp; omega
    go_enter Tryz.func151, Tryz.ntmps151
    go_wp2_with fail
    go_ret2
    exact ⟨rfl, Below.refl _ _⟩

/-- Out. -/
theorem out_any {v : Value} {xs : List Rt} (d : Int) (w : World) (h : Routes w.heap.size w v xs) :
    Calls Tryz.prog 151 #[v, .int .i64 d] w fun e w' => e = .returned (.tuple #[.int .i64 (outN xs d), .bool (outB xs d)]) ∧ Below w.heap.size w w' := by
  by_cases hd : 0 ≤ d ∧ d < 16
  · have e1 : outN xs d = (bestOf xs d).2 := by unfold outN; rw [if_pos hd]
    have e2 : outB xs d = !((bestOf xs d).1 == -1) := by unfold outB; simp [hd]
    rw [e1, e2]
    obtain ⟨A, cap, rfl, _, h1, h2, h3⟩ := h
    by_cases hx : xs = []
    · subst hx
      exact out_none A cap d w hd.1 hd.2
    · obtain ⟨b, o, rfl, hb, hr⟩ := h3 hx
      exact out_row b o cap xs d w hb h1 h2 hr hd.1 hd.2
  · have e1 : outN xs d = 0 := by unfold outN; rw [if_neg hd]
    have e2 : outB xs d = false := by
      unfold outB
      by_cases h0 : 0 ≤ d
      · have : ¬ d < 16 := fun h1 => hd ⟨h0, h1⟩
        simp [this]
      · simp [h0]
    rw [e1, e2]
    exact out_wide v d w (by omega)
end Go.Proofs.YtlmmeppifkigeaaGreat

namespace Go.Proofs.YtlmmeppifkigeaaGreat
open Go.RowKit

set_option maxHeartbeats 1000000 in
theorem same_any (r s : Rt) (w : World) : Calls Tryz.prog 111 #[rtw r.v r.b r.p, rtw s.v s.b s.p] w fun e w' => e = .returned (.bool (sameA r s)) ∧ Below w.heap.size w w' := by
  obtain ⟨v, b, p⟩ := r
  obtain ⟨v', b', p'⟩ := s
  unfold sameA
  simp only
  cases h : (v == v')
  · go_enter Tryz.func111, Tryz.ntmps111
    go_wp2_with fail
    go_ret
    exact ⟨by simp, by go_grown⟩
  · go_enter Tryz.func111, Tryz.ntmps111
    go_wp2_with fail
    go_ret
    exact ⟨by simp, by go_grown⟩

set_option maxHeartbeats 1000000 in
theorem pred_any (a r : Rt) (n0 : Nat) (w : World) (hT : Three w n0 (.int .i64 r.v) (.int .i64 r.b) (.int .i64 r.p)) :
    Calls Tryz.prog 110 #[rtw a.v a.b a.p, .pointer (some ⟨n0, 0, none⟩)] w fun e w' => e = .returned (.bool (sameA a r)) ∧ Below w.heap.size w w' := by
  have D0 := Below.al (Below.refl w.heap.size w) (.cells #[.int .i64 a.v, .int .i64 a.b, .int .i64 a.p] 130)
  have T1 := allocThree hT (.cells #[.int .i64 a.v, .int .i64 a.b, .int .i64 a.p] 130)
  obtain ⟨l0, g0, g1, g2⟩ := T1
  obtain ⟨_, q0, q1, q2⟩ := id hT
  have SM : Hid (∀ w, Calls Tryz.prog 111 #[rtw a.v a.b a.p, rtw r.v r.b r.p] w fun e w' => e = .returned (.bool (sameA a r)) ∧ Below w.heap.size w w') := fun w => same_any a r w
  have hn := hT.1
  clear hT
  generalize sameA a r = x at *
  generalize a.v = av at *
  generalize a.b = ab at *
  generalize a.p = ap at *
  generalize r.v = rv at *
  generalize r.b = rb at *
  generalize r.p = rp at *
  go_enter Tryz.func110, Tryz.ntmps110
  go_wp2_with fail
  refine (SM.out _).mono ?_
  rintro e w1 ⟨rfl, hb1⟩
  have D1 := chn hb1 D0
  clear D0 hb1 g0 g1 g2 q0 q1 q2 SM
  go_wp2_with fail
  go_ret
  exact ⟨rfl, D1⟩

theorem any_take {xs : List Rt} {k : Nat} {a r : Rt} (h : xs[k]? = some a) : (xs.take (k + 1)).any (fun a => sameA a r) = ((xs.take k).any (fun a => sameA a r) || sameA a r) := by
  obtain ⟨hk, e⟩ := List.getElem?_eq_some_iff.1 h
  rw [List.take_succ_eq_append_getElem hk, e]
  simp
theorem any_here {xs : List Rt} {k : Nat} {a r : Rt} (h : xs[k]? = some a) (hs : sameA a r = true) : xs.any (fun a => sameA a r) = true :=
  List.any_eq_true.2 ⟨a, List.mem_of_getElem? h, hs⟩

set_option maxHeartbeats 4000000 in
set_option maxRecDepth 100000 in
theorem indexFunc_row (b o cap n0 : Nat) (xs : List Rt) (r : Rt) (w : World) (hb : b < w.heap.size) (hn : xs.length ≤ cap) (hcap : cap ≤ maxLen) (hr : Hid (TAt w b o xs)) (hT : Hid (Three w n0 (.int .i64 r.v) (.int .i64 r.b) (.int .i64 r.p))) :
    Calls Tryz.prog 138 #[.slice (some ⟨b, o, none⟩) xs.length cap, .func (.func 110) #[] #[.pointer (some ⟨n0, 0, none⟩)]] w fun e w' => ∃ j : Int, e = .returned (.int .i64 j) ∧ Hid (decide (0 ≤ j) = xs.any (fun a => sameA a r)) ∧ Below w.heap.size w w' := by
  unfold maxLen at hcap
  go_enter Tryz.func138, Tryz.ntmps138
  go_wp2_with fail
  go_loopw [8] (fun i wr => ∃ k : Nat, i = .int .i64 (k : Int) ∧ k ≤ xs.length ∧ Below w.heap.size w wr ∧ Hid ((xs.take k).any (fun a => sameA a r) = false)) (fun i _ => xs.length - (intOf i).toNat)
  case atStart => exact ⟨0, rfl, by omega, Below.refl _ _, rfl⟩
  case round =>
    obtain ⟨k, rfl, hk, D1, hno⟩ := hrel
    by_cases hlt : k < xs.length
    · obtain ⟨a, hxk⟩ : ∃ a, xs[k]? = some a := ⟨_, List.getElem?_eq_getElem hlt⟩
      obtain ⟨c0, c1, c2⟩ := (hr.out.below D1 hb).at hxk
      have PR : Hid (Calls Tryz.prog 110 #[rtw a.v a.b a.p, .pointer (some ⟨n0, 0, none⟩)] wr fun e w' => e = .returned (.bool (sameA a r)) ∧ Below wr.heap.size wr w') := pred_any a r n0 wr (keepThree D1 hT.out.1 hT.out)
      have HX : Hid (xs[k]? = some a) := hxk
      clear hr hxk
      cases hv : sameA a r
      · rw [hv] at PR
        have HV : Hid ((xs.take (k + 1)).any (fun a => sameA a r) = false) := by show _ = _; rw [any_take HX.out, hno.out, hv]; rfl
        clear hv hno HX hT
        generalize a.v = av at *
        generalize a.b = ab at *
        generalize a.p = ap at *
        go_wp2_with fail
        refine PR.out.mono ?_
        rintro e w2 ⟨rfl, hb2⟩
        have D2 := chn hb2 D1
        clear hb2 D1 c0 c1 c2 PR
        go_wp2_with fail
        go_roundw
        case rel => exact ⟨k + 1, by go_num, by omega, D2, HV⟩
        case measure => simp [intOf]; omega
      · rw [hv] at PR
        have fin : Hid (xs.any (fun a => sameA a r) = true) := any_here HX.out hv
        clear hv hno HX hT
        generalize a.v = av at *
        generalize a.b = ab at *
        generalize a.p = ap at *
        go_wp2_with fail
        refine PR.out.mono ?_
        rintro e w2 ⟨rfl, hb2⟩
        have D2 := chn hb2 D1
        clear hb2 D1 c0 c1 c2 PR
        go_wp2_with fail
        go_ret
        exact ⟨_, rfl, (by show _ = _; rw [fin.out]; simp), D2⟩
    · obtain rfl : k = xs.length := by omega
      have fin : Hid (xs.any (fun a => sameA a r) = false) := by
        have := hno.out
        rw [List.take_length] at this
        exact this
      go_wp2_with fail
      go_ret
      exact ⟨_, rfl, (by show _ = _; rw [fin.out]; simp), D1⟩
set_option maxHeartbeats 1000000 in
theorem indexFunc_none (A : Option Addr) (cap : Nat) (f : Value) (w : World) :
    Calls Tryz.prog 138 #[.slice A 0 cap, f] w fun e w' => ∃ j : Int, e = .returned (.int .i64 j) ∧ Hid (decide (0 ≤ j) = false) ∧ Below w.heap.size w w' := by
  go_enter Tryz.func138, Tryz.ntmps138
  go_wp2_with fail
  go_loopw [8] (fun i wr => i = .int .i64 0 ∧ Below w.heap.size w wr) (fun i _ => 0)
  case atStart => exact ⟨rfl, Below.refl _ _⟩
  case round =>
    obtain ⟨rfl, D1⟩ := hrel
    go_wp2_with fail
    go_ret
    exact ⟨_, rfl, (by show _ = _; decide), D1⟩
set_option maxHeartbeats 1000000 in
/-- Is there one alike? -/
theorem contains_any (b o cap n0 : Nat) (xs : List Rt) (r : Rt) (w : World) (hb : b < w.heap.size) (hn : xs.length ≤ cap) (hcap : cap ≤ maxLen) (hr : Hid (TAt w b o xs)) (hT : Hid (Three w n0 (.int .i64 r.v) (.int .i64 r.b) (.int .i64 r.p))) :
    Calls Tryz.prog 109 #[.slice (some ⟨b, o, none⟩) xs.length cap, .func (.func 110) #[] #[.pointer (some ⟨n0, 0, none⟩)]] w fun e w' => e = .returned (.bool (xs.any (fun a => sameA a r))) ∧ Below w.heap.size w w' := by
  have IX : Hid (Calls Tryz.prog 138 #[.slice (some ⟨b, o, none⟩) xs.length cap, .func (.func 110) #[] #[.pointer (some ⟨n0, 0, none⟩)]] w fun e w' => ∃ j : Int, e = .returned (.int .i64 j) ∧ Hid (decide (0 ≤ j) = xs.any (fun a => sameA a r)) ∧ Below w.heap.size w w') := indexFunc_row b o cap n0 xs r w hb hn hcap hr hT
  clear hr hT hn hcap hb
  generalize xs.any (fun a => sameA a r) = x at *
  generalize xs.length = n at *
  go_enter Tryz.func109, Tryz.ntmps109
  go_wp2_with fail
  refine IX.out.mono ?_
  rintro e w2 ⟨j, rfl, hj, hb2⟩
  clear IX
  go_wp2_with fail
  go_ret
  exact ⟨by rw [hj.out]; rfl, hb2⟩

set_option maxHeartbeats 4000000 in
set_option maxRecDepth 100000 in
theorem check_row (b o cap : Nat) (xs : List Rt) (w : World) (hb : b < w.heap.size) (hn : xs.length ≤ cap) (hcap : cap ≤ maxLen) (hr : Hid (TAt w b o xs)) (h8 : xs.length ≤ 8) :
    Calls Tryz.prog 79 #[.slice (some ⟨b, o, none⟩) xs.length cap] w fun e w' => e = .returned (.int .i64 (checkFrom xs 0)) ∧ Below w.heap.size w w' := by
  have hcap' := hcap
  unfold maxLen at hcap
  have t8 : decide ((8 : Int) < (xs.length : Int)) = false := by simp; omega
  go_enter Tryz.func79, Tryz.ntmps79
  go_wp2_with fail
  go_loopw [10] (fun i wr => ∃ k : Nat, i = .int .i64 (k : Int) ∧ k ≤ xs.length ∧ Below w.heap.size w wr ∧ Hid (checkFrom xs 0 = checkFrom xs k)) (fun i _ => xs.length - (intOf i).toNat)
  case atStart => exact ⟨0, rfl, by omega, Below.refl _ _, rfl⟩
  case round =>
    obtain ⟨k, rfl, hk, D1, hl⟩ := hrel
    by_cases hlt : k < xs.length
    · obtain ⟨r, hxk⟩ : ∃ r, xs[k]? = some r := ⟨_, List.getElem?_eq_getElem hlt⟩
      obtain ⟨c0, c1, c2⟩ := (hr.out.below D1 hb).at hxk
      have hlen : (xs.take k).length = k := by rw [List.length_take]; omega
      have Hd : Hid (checkFrom xs k = if (if isR r then (if (xs.take k).any (fun a => sameA a r) then 5 else 0) else 1 : Int) = 0 then checkFrom xs (k + 1) else (if isR r then (if (xs.take k).any (fun a => sameA a r) then 5 else 0) else 1 : Int)) := checkFrom_at hxk
      have IS : Hid (∀ w, Calls Tryz.prog 108 #[rtw r.v r.b r.p] w fun e w' => e = .returned (.bool (isR r)) ∧ Below w.heap.size w w') := fun w => isRoute_any r w
      have CO : Hid (∀ w', Below w.heap.size w w' → Three w' wr.heap.size (.int .i64 r.v) (.int .i64 r.b) (.int .i64 r.p) → Calls Tryz.prog 109 #[.slice (some ⟨b, o, none⟩) k cap, .func (.func 110) #[] #[.pointer (some ⟨wr.heap.size, 0, none⟩)]] w' fun e w'' => e = .returned (.bool ((xs.take k).any (fun a => sameA a r))) ∧ Below w'.heap.size w' w'') := fun w' hw hT => by
        have := contains_any b o cap wr.heap.size (xs.take k) r w' (Nat.lt_of_lt_of_le hb hw.size) (by omega) hcap' ((hr.out.below hw hb).take k) hT
        rw [hlen] at this
        exact this
      have D2 := Below.al D1 (.cells #[.int .i64 r.v, .int .i64 r.b, .int .i64 r.p] 130)
      have T2 := three_new wr (.int .i64 r.v) (.int .i64 r.b) (.int .i64 r.p) 130
      have lw := D1.size
      clear hxk D1 hr hlen hcap'
      generalize isR r = x at *
      generalize (xs.take k).any (fun a => sameA a r) = y at *
      generalize r.v = rv0 at *
      generalize r.b = rb0 at *
      generalize r.p = rp0 at *
      go_wp2_with fail
      refine (IS.out _).mono ?_
      rintro e w3 ⟨rfl, hb3⟩
      have D3 := chn hb3 D2
      have T3 := keepThree hb3 (by simp) T2
      clear hb3 D2 T2 c0 c1 c2 IS
      cases x
      · go_wp2_with fail
        go_ret
        exact ⟨by rw [hl.out, Hd.out]; simp, D3⟩
      · go_wp2_with fail
        refine (CO.out _ D3 T3).mono ?_
        rintro e w4 ⟨rfl, hb4⟩
        have D4 := chn hb4 D3
        clear hb4 D3 T3 CO
        cases y
        · go_wp2_with fail
          go_roundw
          case rel => exact ⟨k + 1, by go_num, by omega, D4, by show _ = _; rw [hl.out, Hd.out]; simp⟩
          case measure => simp [intOf]; omega
        · go_wp2_with fail
          go_ret
          exact ⟨by rw [hl.out, Hd.out]; simp, D4⟩
    · have fin : Hid (checkFrom xs 0 = 0) := by show _ = _; rw [hl.out, checkFrom_end (by omega)]
      go_wp2_with fail
      go_ret
      exact ⟨by rw [fin.out]; rfl, D1⟩
set_option maxHeartbeats 1000000 in
theorem check_none (A : Option Addr) (cap : Nat) (w : World) :
    Calls Tryz.prog 79 #[.slice A 0 cap] w fun e w' => e = .returned (.int .i64 0) ∧ Below w.heap.size w w' := by
  go_enter Tryz.func79, Tryz.ntmps79
  go_wp2_with fail
  go_loopw [10] (fun i wr => i = .int .i64 0 ∧ Below w.heap.size w wr) (fun i _ => 0)
  case atStart => exact ⟨rfl, Below.refl _ _⟩
  case round =>
    obtain ⟨rfl, D1⟩ := hrel
    go_wp2_with fail
    go_ret
    exact ⟨rfl, D1⟩
theorem check_large (A : Option Addr) (n cap : Nat) (w : World) (h : 8 < n) :
    Calls Tryz.prog 79 #[.slice A n cap] w fun e w' => e = .returned (.int .i64 2) ∧ Below w.heap.size w w' := by
  have t8 : decide ((8 : Int) < (n : Int)) = true := by simp; omega
  go_enter Tryz.func79, Tryz.ntmps79
  go_wp2_with fail
  go_ret
  exact ⟨rfl, Below.refl _ _⟩

/-- Check. -/
theorem check_any {v : Value} {xs : List Rt} (w : World) (h : Routes w.heap.size w v xs) :
    Calls Tryz.prog 79 #[v] w fun e w' => e = .returned (.int .i64 (checkV xs)) ∧ Below w.heap.size w w' := by
  obtain ⟨A, cap, rfl, _, h1, h2, h3⟩ := h
  unfold checkV
  by_cases h8 : 8 < xs.length
  · rw [if_pos h8]
    exact check_large A xs.length cap w h8
  · rw [if_neg h8]
    by_cases hx : xs = []
    · subst hx
      rw [checkFrom_end (by simp)]
      exact check_none A cap w
    · obtain ⟨b, o, rfl, hb, hr⟩ := h3 hx
      exact check_row b o cap xs w hb h1 h2 hr (by omega)
theorem checkV_len {xs : List Rt} (h : checkV xs = 0) : xs.length ≤ 8 := by
  unfold checkV at h
  split at h
  · simp at h
  · omega
end Go.Proofs.YtlmmeppifkigeaaGreat

namespace Go.Proofs.YtlmmeppifkigeaaGreat
open Go.RowKit Go.Maps

/-- Does what is for address i go out at port q? -/
def sentB (xs : List Rt) (q : Int) (i : Nat) : Bool := outB xs (i : Int) && (outN xs (i : Int) == q)
theorem or_u16 (z c : Nat) (hz : z < 65536) (hc : c < 16) : Go.bits .or .u16 (z : Int) (IntKind.u16.wrap (2 ^ c)) = ((z ||| 2 ^ c : Nat) : Int) ∧ z ||| 2 ^ c < 65536 := by
  have hp : 2 ^ c < 65536 := Nat.pow_lt_pow_right (a := 2) (by omega) (show c < 16 by omega)
  have hlt : z ||| 2 ^ c < 65536 := Nat.or_lt_two_pow (n := 16) hz hp
  have e0 : IntKind.u16.wrap (2 ^ c) = ((2 ^ c : Nat) : Int) := by
    have e : (2 : Int) ^ c = ((2 ^ c : Nat) : Int) := by simp
    rw [e]
    exact IntWalk.u16_in _ ⟨Int.natCast_nonneg _, by have := Int.ofNat_lt.2 hp; omega⟩
  refine ⟨?_, hlt⟩
  rw [e0]
  generalize 2 ^ c = p at *
  have e1 : BitVec.ofInt 16 (z : Int) = BitVec.ofNat 16 z := by simp
  have e2 : BitVec.ofInt 16 (p : Int) = BitVec.ofNat 16 p := by simp
  have hm : (BitVec.ofNat 16 z ||| BitVec.ofNat 16 p).toNat = z ||| p := by
    simp [BitVec.toNat_or, Nat.mod_eq_of_lt hz, Nat.mod_eq_of_lt hp]
  show IntKind.u16.wrap ((BitVec.ofInt 16 (z : Int) ||| BitVec.ofInt 16 (p : Int)).toNat : Int) = _
  rw [e1, e2, hm]
  exact IntWalk.u16_in _ (by omega)

set_option maxHeartbeats 2000000 in
set_option maxRecDepth 100000 in
theorem sent_any {v : Value} {xs : List Rt} (q : Int) (w : World) (h : Hid (Routes w.heap.size w v xs)) :
    Calls Tryz.prog 179 #[v, .int .i64 q] w fun e w' => ∃ s : Nat, e = .returned (.int .u16 (s : Int)) ∧ s < 65536 ∧ Hid (∀ i, i < 16 → s.testBit i = sentB xs q i) ∧ Below w.heap.size w w' := by
  go_enter Tryz.func179, Tryz.ntmps179
  go_wp2_with fail
  go_loopw [5, 9] (fun s i wr => ∃ c z : Nat, i = .int .i64 (c : Int) ∧ s = .int .u16 (z : Int) ∧ c ≤ 16 ∧ z < 65536 ∧ Below w.heap.size w wr ∧ Hid (∀ i, z.testBit i = (decide (i < c) && sentB xs q i))) (fun _ i _ => 16 - (intOf i).toNat)
  case atStart => exact ⟨0, 0, rfl, rfl, by omega, by omega, Below.refl _ _, fun i => by simp⟩
  case round =>
    obtain ⟨c, z, rfl, rfl, hc, hz, D1, hb⟩ := hrel
    by_cases hlt : c < 16
    · have OU : Hid (Calls Tryz.prog 151 #[v, .int .i64 (c : Int)] wr fun e w'' => e = .returned (.tuple #[.int .i64 (outN xs (c : Int)), .bool (outB xs (c : Int))]) ∧ Below wr.heap.size wr w'') := out_any (c : Int) wr ((h.out.below D1).mono D1.size)
      have HS : Hid (sentB xs q c = (outB xs (c : Int) && (outN xs (c : Int) == q))) := rfl
      obtain ⟨o1, o2⟩ := or_u16 z c hz hlt
      have NO : Hid (sentB xs q c = false → ∀ i, z.testBit i = (decide (i < c + 1) && sentB xs q i)) := fun hn i => by
        rw [hb.out i]
        by_cases hi : i = c
        · subst hi
          rw [hn]
          simp
        · congr 1
          rw [decide_eq_decide]
          omega
      have YES : Hid (sentB xs q c = true → ∀ i, (z ||| 2 ^ c).testBit i = (decide (i < c + 1) && sentB xs q i)) := fun hy i => by
        rw [Nat.testBit_or, hb.out i, Nat.testBit_two_pow]
        by_cases hi : i = c
        · subst hi
          rw [hy]
          simp
        · have e1 : decide (i < c + 1) = decide (i < c) := by rw [decide_eq_decide]; omega
          have e2 : decide (c = i) = false := by simp; omega
          rw [e1, e2, Bool.or_false]
      clear hb
      generalize outN xs (c : Int) = n0 at *
      generalize outB xs (c : Int) = k0 at *
      go_wp2_with fail
      refine OU.out.mono ?_
      rintro e w2 ⟨rfl, hb2⟩
      have D2 := chn hb2 D1
      clear OU hb2 D1
      cases k0
      · have NO' : Hid (∀ i, z.testBit i = (decide (i < c + 1) && sentB xs q i)) := NO.out (by rw [HS.out]; rfl)
        clear NO YES HS o1 o2
        go_wp2_with fail
        go_roundw
        case rel => exact ⟨c + 1, z, by go_num, rfl, by omega, hz, D2, NO'⟩
        case measure => simp [intOf]; omega
      · cases hq : (n0 == q)
        · have NO' : Hid (∀ i, z.testBit i = (decide (i < c + 1) && sentB xs q i)) := NO.out (by rw [HS.out, hq]; rfl)
          clear NO YES HS o1 o2
          go_wp2_with fail
          go_roundw
          case rel => exact ⟨c + 1, z, by go_num, rfl, by omega, hz, D2, NO'⟩
          case measure => simp [intOf]; omega
        · have YES' : Hid (∀ i, (z ||| 2 ^ c).testBit i = (decide (i < c + 1) && sentB xs q i)) := YES.out (by rw [HS.out, hq]; rfl)
          have O1 : Hid (Go.bits .or .u16 (z : Int) (IntKind.u16.wrap (2 ^ c)) = ((z ||| 2 ^ c : Nat) : Int)) := o1
          clear NO YES HS o1
          go_wp2_with fail
          go_roundw
          case rel => exact ⟨c + 1, z ||| 2 ^ c, by go_num, congrArg (Value.int .u16) O1.out, by omega, o2, D2, YES'⟩
          case measure => simp [intOf]; omega
    · obtain rfl : c = 16 := by omega
      have fin : Hid (∀ i, i < 16 → z.testBit i = sentB xs q i) := fun i hi => by
        rw [hb.out i, decide_eq_true hi]
        rfl
      clear hb
      go_wp2_with fail
      go_ret
      exact ⟨z, rfl, hz, fin, D1⟩

theorem four_set (w : World) (n : Nat) (x : Value) (a b c d : Value) (h : Four w n a b c d) : (w.setCell ⟨n, 1, none⟩ x).cell? ⟨n, 0, none⟩ = some a ∧ (w.setCell ⟨n, 1, none⟩ x).cell? ⟨n, 1, none⟩ = some x ∧ (w.setCell ⟨n, 1, none⟩ x).cell? ⟨n, 2, none⟩ = some c ∧ (w.setCell ⟨n, 1, none⟩ x).cell? ⟨n, 3, none⟩ = some d := by
  obtain ⟨h0, h1, h2, h3, h4⟩ := h
  refine ⟨?_, ?_, ?_, ?_⟩ <;> simp [go_sem, h1, h2, h3, h4]

section
variable {base a M : Nat} {w : World} {ns : List Nd}
set_option maxHeartbeats 2000000 in
set_option maxRecDepth 100000 in
/-- Build of right routes. -/
theorem fbuild_ok (h : Ar base a M 14 40000 w ns) {v : Value} {xs : List Rt} (q : Int) (hR : Hid (Routes w.heap.size w v xs)) (hc : checkV xs = 0) :
    Calls Tryz.prog 167 #[.pointer (some ⟨a, 0, none⟩), v, .int .i64 q] w fun e w' => ∃ s : Nat, (s < 65536 ∧ Hid (∀ i, i < 16 → s.testBit i = sentB xs q i)) ∧ MkPost base a M 14 40000 w ns 44 0 (phi 65535 s 255 255) e w' := by
  have CK : Hid (Calls Tryz.prog 79 #[v] w fun e w'' => e = .returned (.int .i64 0) ∧ Below w.heap.size w w'') := by
    have := check_any w hR.out
    rw [hc] at this
    exact this
  clear hc
  go_enter Tryz.func167, Tryz.ntmps167
  go_wp2_with fail
  refine CK.out.mono ?_
  rintro e w1 ⟨rfl, D1⟩
  clear CK
  go_wp2_with fail
  refine (all_any _).mono ?_
  rintro e w2 ⟨rfl, hb2⟩
  have D2 := chn hb2 D1
  have D3 := Below.al D2 (.cells #[.int .u16 65535, .int .u16 65535, .int .u8 255, .int .u8 255] 50)
  have F3 := four_new w2 (.int .u16 65535) (.int .u16 65535) (.int .u8 255) (.int .u8 255) 50
  have fz3 : (w2.alloc (.cells #[.int .u16 65535, .int .u16 65535, .int .u8 255, .int .u8 255] 50)).frozen? ⟨w2.heap.size, 1, none⟩ = false := by simp [go_sem]
  have z2 := D2.size
  have SE : Hid (Calls Tryz.prog 179 #[v, .int .i64 q] (w2.alloc (.cells #[.int .u16 65535, .int .u16 65535, .int .u8 255, .int .u8 255] 50)) fun e w' => ∃ s : Nat, e = .returned (.int .u16 (s : Int)) ∧ s < 65536 ∧ Hid (∀ i, i < 16 → s.testBit i = sentB xs q i) ∧ Below (w2.alloc (.cells #[.int .u16 65535, .int .u16 65535, .int .u8 255, .int .u8 255] 50)).heap.size (w2.alloc (.cells #[.int .u16 65535, .int .u16 65535, .int .u8 255, .int .u8 255] 50)) w') := sent_any q _ ((hR.out.below D3).mono D3.size)
  clear hb2 D1 D2 hR
  go_wp2_with fail
  refine SE.out.mono ?_
  rintro e w4 ⟨s, rfl, hs, hbits, hb4⟩
  have D4 := chn hb4 D3
  have F4 := keepFour hb4 F3
  have fz4 : w4.frozen? ⟨w2.heap.size, 1, none⟩ = false := (hb4.frozen (p := ⟨w2.heap.size, 1, none⟩) (by simp)).trans fz3
  have F5 := four_set w4 w2.heap.size (.int .u16 (s : Int)) _ _ _ _ F4
  have D5 := D4.setCell (p := ⟨w2.heap.size, 1, none⟩) z2 (.int .u16 (s : Int))
  have A5 := h.below D5
  have K5 := h.kbelow D5
  obtain ⟨_, x0, x1, x2, x3⟩ := id F4
  obtain ⟨y0, y1, y2, y3⟩ := F5
  have BM : Hid (Calls Tryz.prog 52 #[.pointer (some ⟨a, 0, none⟩), mt 65535 s 255 255] (w4.setCell ⟨w2.heap.size, 1, none⟩ (.int .u16 (s : Int))) (MkPost base a M 14 40000 (w4.setCell ⟨w2.heap.size, 1, none⟩ (.int .u16 (s : Int))) ns 44 0 (phi 65535 s 255 255))) := build_match A5 (Nat.le_refl _) 65535 s 255 255 (by omega) hs (by omega) (by omega)
  clear SE F3 fz3 D3 hb4 D4 A5 D5
  go_wp2_with fail
  refine BM.out.mono ?_
  rintro e w6 hp
  obtain ⟨ns6, v6, er6, rfl, A6, K6, X6, l6, d6⟩ := hp.pair
  have fin : Hid (MkPost base a M 14 40000 w ns 44 0 (phi 65535 s 255 255) (.returned (.tuple #[.int .i64 v6, .int .i64 er6])) w6) := by
    refine ⟨ns6, A6, K5.trans K6, X6, l6, ?_⟩
    rcases d6.out with ⟨rfl, f, rfl, r⟩ | ⟨rfl, rfl, r⟩
    · exact Or.inl ⟨f, rfl, r⟩
    · exact Or.inr ⟨rfl, r⟩
  clear BM hp d6 A6 K6 K5 X6 y0 y1 y2 y3 x0 x1 x2 x3 F4 h
  go_wp2_with fail
  go_ret2
  exact ⟨s, ⟨hs, hbits⟩, fin.out⟩
end


/-- The addresses that go out at a port, as a set. -/
def sentN (xs : List Rt) (q : Int) : Nat → Nat
  | 0 => 0
  | c + 1 => if sentB xs q c then sentN xs q c ||| 2 ^ c else sentN xs q c
theorem sentN_bit (xs : List Rt) (q : Int) : ∀ (c i : Nat), (sentN xs q c).testBit i = (decide (i < c) && sentB xs q i)
  | 0, i => by simp [sentN]
  | c + 1, i => by
    unfold sentN
    cases hs : sentB xs q c
    · rw [if_neg (by simp), sentN_bit xs q c i]
      by_cases hi : i = c
      · subst hi
        rw [hs]
        simp
      · congr 1
        rw [decide_eq_decide]
        omega
    · rw [if_pos rfl, Nat.testBit_or, sentN_bit xs q c i, Nat.testBit_two_pow]
      by_cases hi : i = c
      · subst hi
        rw [hs]
        simp
      · have e1 : decide (i < c + 1) = decide (i < c) := by rw [decide_eq_decide]; omega
        have e2 : decide (c = i) = false := by simp; omega
        rw [e1, e2, Bool.or_false]
theorem sentN_lt (xs : List Rt) (q : Int) : sentN xs q 16 < 65536 := Nat.lt_pow_two_of_testBit (n := 16) _ fun i hi => by
  rw [sentN_bit, decide_eq_false (by omega)]
  rfl
theorem sent_eq {xs : List Rt} {q : Int} {s : Nat} (hs : s < 65536) (hb : ∀ i, i < 16 → s.testBit i = sentB xs q i) : s = sentN xs q 16 := Nat.eq_of_testBit_eq fun i => by
  rw [sentN_bit]
  by_cases hi : i < 16
  · rw [hb i hi, decide_eq_true hi]
    rfl
  · rw [decide_eq_false hi, Nat.testBit_lt_two_pow (Nat.lt_of_lt_of_le hs (Nat.pow_le_pow_right (n := 2) (by omega) (show 16 ≤ i by omega)))]
    rfl
section
variable {base q a M : Nat} {w0 w : World} {ns : List Nd} {er : Int}
set_option maxHeartbeats 1000000 in
theorem routes_w (h : Bn base q a M w0 w ns er) {A : Option Addr} {n cap : Nat} {pt : Int} {g0 : Nat} {χ : Env → Bool} (OP : Hid (Calls Tryz.prog 167 #[.pointer (some ⟨a, 0, none⟩), .slice A n cap, .int .i64 pt] w (OPost base a M w ns g0 χ))) :
    Calls Tryz.prog 142 #[.pointer (some ⟨q, 0, none⟩), .slice A n cap, .int .i64 pt] w (BOut base q a M w0 w ns er g0 χ) := by
  have c0 := h.blk.cell 0 _ rfl
  go_enter Tryz.func142, Tryz.ntmps142
  go_wp2_with fail
  refine OP.out.mono ?_
  rintro e w1 ⟨ns1, v, e2, rfl, A1, k1, X1, l1, hv⟩
  have KP := Hq.mk (keep_b (h.keep k1) v e2)
  have FN : Hq (∀ w2, w2 = (if er = 0 then w1.setCell ⟨q, 1, none⟩ (.int .i64 e2) else w1) → BOut base q a M w0 w ns er g0 χ (.returned (.int .i64 v)) w2) := ⟨fun w2 hw => h.fin A1 k1 X1 l1 hv hw⟩
  clear c0 OP A1 k1 X1 l1 hv h
  go_wp2_with fail
  refine KP.out.mono ?_
  rintro e w2 ⟨rfl, hw⟩
  have F2 := FN.out w2 hw
  clear hw FN KP
  go_wp2_with fail
  go_ret
  exact F2
theorem routes_b (h : Bn base q a M w0 w ns er) (A : Option Addr) (n cap : Nat) (xs : List Rt) (pt : Int) (hR : Routes w.heap.size w (.slice A n cap) xs) (hc : checkV xs = 0) :
    Calls Tryz.prog 142 #[.pointer (some ⟨q, 0, none⟩), .slice A n cap, .int .i64 pt] w (BOut base q a M w0 w ns er 44 (phi 65535 (sentN xs pt 16) 255 255)) :=
  routes_w h (OP := (fbuild_ok h.ar pt hR hc).mono fun _ _ ⟨s, ⟨h1, h2⟩, hp⟩ => by
    rw [sent_eq h1 h2.out] at hp
    exact hp.o)
end
end Go.Proofs.YtlmmeppifkigeaaGreat

namespace Go.Proofs.YtlmmeppifkigeaaGreat
open Go.RowKit

theorem chnN {W0 W w' : World} (hb : Below W.heap.size W w') (h : Below W0.heap.size W0 W) : Below W0.heap.size W0 w' := h.trans (hb.mono h.size)
theorem Below.alN {W0 w : World} (h : Below W0.heap.size W0 w) (o : Obj) : Below W0.heap.size W0 (w.alloc o) := h.alloc h.size o
/-- How many ports a device of a kind has. -/
def portsV (k : Int) : Int := if k = 1 then 1 else if k = 2 then 4 else if k = 3 ∨ k = 4 ∨ k = 5 then 2 else 0

/-- The other end of a link, if it ends at a place. -/
def endOf (l : Lk) (d p : Int) : Option (Int × Int) := if (l.a == d) && (l.p == p) then some (l.b, l.q) else if (l.b == d) && (l.q == p) then some (l.a, l.p) else none
def peerF : List Lk → Int → Int → Option (Int × Int)
  | [], _, _ => none
  | l :: ls, d, p => (endOf l d p).or (peerF ls d p)
theorem peerF_drop {ls : List Lk} {k : Nat} {l : Lk} (h : ls[k]? = some l) (d p : Int) : peerF (ls.drop k) d p = (endOf l d p).or (peerF (ls.drop (k + 1)) d p) := by
  obtain ⟨hk, e⟩ := List.getElem?_eq_some_iff.1 h
  rw [List.drop_eq_getElem_cons hk, e]
  rfl
abbrev placeV : Option (Int × Int) → Value
  | some x => .agg #[.int .i64 x.1, .int .i64 x.2]
  | none => .agg #[.int .i64 0, .int .i64 0]
theorem Links.at {base : Nat} {w : World} {A : Option Addr} {n cap : Nat} {ls : List Lk} (h : Links base w (.slice A n cap) ls) {k : Nat} {l : Lk} (hk : ls[k]? = some l) :
    ∃ b o, A = some ⟨b, o, none⟩ ∧ b < base ∧ w.cell? ⟨b, o + k * 4, none⟩ = some (.int .i64 l.a) ∧ w.cell? ⟨b, o + k * 4 + 1, none⟩ = some (.int .i64 l.p) ∧ w.cell? ⟨b, o + k * 4 + 2, none⟩ = some (.int .i64 l.b) ∧ w.cell? ⟨b, o + k * 4 + 3, none⟩ = some (.int .i64 l.q) := by
  obtain ⟨A', cap', e, _, _, _, h3⟩ := h
  cases e
  obtain ⟨b, o, ea, hl, hr⟩ := h3 (fun e => by subst e; simp at hk)
  obtain ⟨cs, _, rfl, hc⟩ := hr k l hk
  exact ⟨b, o, ea, hl, hc 0 _ rfl, hc 1 _ rfl, hc 2 _ rfl, hc 3 _ rfl⟩
theorem Links.len {base : Nat} {w : World} {A : Option Addr} {n cap : Nat} {ls : List Lk} (h : Links base w (.slice A n cap) ls) : n = ls.length ∧ n ≤ cap ∧ cap ≤ maxLen := by
  obtain ⟨A', cap', e, _, h1, h2, _⟩ := h
  cases e
  exact ⟨rfl, h1, h2⟩
/-- Two cells in a block of a call's own. -/
def Box2 (w : World) (n : Nat) (x y : Value) : Prop := n < w.heap.size ∧ w.cell? ⟨n, 0, none⟩ = some x ∧ w.cell? ⟨n, 1, none⟩ = some y ∧ w.frozen? ⟨n, 0, none⟩ = false ∧ w.frozen? ⟨n, 1, none⟩ = false
theorem Box2.below {B : Nat} {W w' : World} {n : Nat} {x y : Value} (h : Box2 W n x y) (hb : Below B W w') (hB : n < B) : Box2 w' n x y :=
  ⟨Nat.lt_of_lt_of_le h.1 hb.size, (hb.cell (p := ⟨n, 0, none⟩) hB).trans h.2.1, (hb.cell (p := ⟨n, 1, none⟩) hB).trans h.2.2.1, (hb.frozen (p := ⟨n, 0, none⟩) hB).trans h.2.2.2.1, (hb.frozen (p := ⟨n, 1, none⟩) hB).trans h.2.2.2.2⟩
theorem Box2.alloc {w : World} {n : Nat} {x y : Value} (h : Box2 w n x y) (o : Obj) : Box2 (w.alloc o) n x y := h.below ((Below.refl _ _).alloc (Nat.le_refl _) o) h.1
theorem box2_new (w : World) (x y : Value) (t : TypeId) : Box2 (w.alloc (.cells #[x, y] t)) w.heap.size x y := ⟨by simp, by simp [go_sem], by simp [go_sem], by simp [go_sem], by simp [go_sem]⟩


/-- Is a back wrong, from number k on? -/
def backsFrom (bs : List Int) (ad : Int) (k : Nat) : Int :=
  if h : k < bs.length then (if (decide (0 ≤ bs[k]) && decide (bs[k] ≤ 15)) && !(bs[k] == ad) && !((bs.take k).any (fun y => y == bs[k])) then backsFrom bs ad (k + 1) else 1) else 0
termination_by bs.length - k
theorem backsFrom_at {bs : List Int} {ad : Int} {k : Nat} {x : Int} (h : bs[k]? = some x) : backsFrom bs ad k = if (decide (0 ≤ x) && decide (x ≤ 15)) && !(x == ad) && !((bs.take k).any (fun y => y == x)) then backsFrom bs ad (k + 1) else 1 := by
  obtain ⟨hk, e⟩ := List.getElem?_eq_some_iff.1 h
  rw [backsFrom, dif_pos hk, e]
theorem backsFrom_end {bs : List Int} {ad : Int} {k : Nat} (h : bs.length ≤ k) : backsFrom bs ad k = 0 := by rw [backsFrom, dif_neg (by omega)]
def hasAddr (k : Int) : Bool := (k == 1) || (k == 4) || (k == 5)
/-- What the document's check tells of a device whose routes' check tells c. -/
def devV (k ad : Int) (pl : Nat) (bs : List Int) (nr nt : Nat) (c : Int) : Int :=
  if !(decide (1 ≤ k) && decide (k ≤ 5)) then 1
  else if (hasAddr k && !(decide (0 ≤ ad) && decide (ad ≤ 15))) || (!hasAddr k && !(ad == 0)) || (decide (0 < pl) != (k == 4)) then 1
  else if 3 < bs.length then 2
  else if (decide (bs.length = 0) == (k == 5)) then 1
  else if backsFrom bs ad 0 = 1 then 1
  else if (decide (0 < nr) && !(k == 2) && !(k == 3)) || (decide (0 < nt) && !(k == 2)) then 1
  else if 8 < nr then 2
  else c
/-- A device's cells in a block of a call's own. -/
def Seven (w : World) (n : Nat) (a b c d e f g : Value) : Prop :=
  n < w.heap.size ∧ w.cell? ⟨n, 0, none⟩ = some a ∧ w.cell? ⟨n, 1, none⟩ = some b ∧ w.cell? ⟨n, 2, none⟩ = some c ∧ w.cell? ⟨n, 3, none⟩ = some d ∧ w.cell? ⟨n, 4, none⟩ = some e ∧ w.cell? ⟨n, 5, none⟩ = some f ∧ w.cell? ⟨n, 6, none⟩ = some g
theorem seven_new (w : World) (a b c d e f g : Value) (t : TypeId) : Seven (w.alloc (.cells #[a, b, c, d, e, f, g] t)) w.heap.size a b c d e f g :=
  ⟨by simp, by simp [go_sem], by simp [go_sem], by simp [go_sem], by simp [go_sem], by simp [go_sem], by simp [go_sem], by simp [go_sem]⟩
theorem Seven.below {B : Nat} {W w' : World} {n : Nat} {a b c d e f g : Value} (h : Seven W n a b c d e f g) (hb : Below B W w') (hB : n < B) : Seven w' n a b c d e f g := by
  obtain ⟨h0, h1, h2, h3, h4, h5, h6, h7⟩ := h
  exact ⟨Nat.lt_of_lt_of_le h0 hb.size, (hb.cell (p := ⟨n, 0, none⟩) hB).trans h1, (hb.cell (p := ⟨n, 1, none⟩) hB).trans h2, (hb.cell (p := ⟨n, 2, none⟩) hB).trans h3, (hb.cell (p := ⟨n, 3, none⟩) hB).trans h4, (hb.cell (p := ⟨n, 4, none⟩) hB).trans h5, (hb.cell (p := ⟨n, 5, none⟩) hB).trans h6, (hb.cell (p := ⟨n, 6, none⟩) hB).trans h7⟩
theorem belowNN {B : Nat} {a w : World} (h : Below B a w) (n : Nat) : Below B a (w.drewN n) := h.trans ⟨rfl, rfl, rfl, Nat.le_refl _, fun _ _ => rfl⟩

theorem Ints.at {base : Nat} {w : World} {A : Option Addr} {n cap : Nat} {bs : List Int} (h : SlAt base w 1 IsI (.slice A n cap) bs) {k : Nat} {x : Int} (hk : bs[k]? = some x) :
    ∃ b o, A = some ⟨b, o, none⟩ ∧ b < base ∧ ∀ j y, bs[j]? = some y → w.cell? ⟨b, o + j, none⟩ = some (.int .i64 y) := by
  obtain ⟨A', cap', e, _, _, _, h3⟩ := h
  cases e
  obtain ⟨b, o, ea, hl, hr⟩ := h3 (fun e => by subst e; simp at hk)
  refine ⟨b, o, ea, hl, fun j y hy => ?_⟩
  obtain ⟨cs, _, rfl, hc⟩ := hr j y hy
  have := hc 0 _ rfl
  rw [Nat.mul_one, Nat.add_zero] at this
  exact this
theorem any_takeI {bs : List Int} {j : Nat} {y x : Int} (h : bs[j]? = some y) : (bs.take (j + 1)).any (fun z => z == x) = ((bs.take j).any (fun z => z == x) || (y == x)) := by
  obtain ⟨hk, e⟩ := List.getElem?_eq_some_iff.1 h
  rw [List.take_succ_eq_append_getElem hk, e]
  simp


/-- Do two links share an end? -/
def meetB (m l : Lk) : Bool := ((m.a == l.a) && (m.p == l.p)) || ((m.a == l.b) && (m.p == l.q)) || ((m.b == l.a) && (m.q == l.p)) || ((m.b == l.b) && (m.q == l.q))
def selfB (l : Lk) : Bool := (l.a == l.b) && (l.p == l.q)
theorem endOf_ends {l : Lk} {d p : Int} {x : Int × Int} (h : endOf l d p = some x) : ((l.a = d ∧ l.p = p) ∧ x = (l.b, l.q)) ∨ ((l.b = d ∧ l.q = p) ∧ x = (l.a, l.p)) := by
  unfold endOf at h
  split at h
  · rename_i hc
    simp only [Bool.and_eq_true, beq_iff_eq] at hc
    exact .inl ⟨hc, (Option.some.inj h).symm⟩
  · split at h
    · rename_i hc
      simp only [Bool.and_eq_true, beq_iff_eq] at hc
      exact .inr ⟨hc, (Option.some.inj h).symm⟩
    · cases h
theorem endOf_from (l : Lk) : endOf l l.a l.p = some (l.b, l.q) := by unfold endOf; simp
theorem endOf_to {l : Lk} (hs : selfB l = false) : endOf l l.b l.q = some (l.a, l.p) := by
  unfold endOf
  unfold selfB at hs
  rw [hs]
  simp
theorem endOf_back {l : Lk} {d p : Int} {x : Int × Int} (hs : selfB l = false) (h : endOf l d p = some x) : endOf l x.1 x.2 = some (d, p) := by
  rcases endOf_ends h with ⟨⟨rfl, rfl⟩, rfl⟩ | ⟨⟨rfl, rfl⟩, rfl⟩
  · exact endOf_to hs
  · exact endOf_from l
/-- A place that is an end of two links: they meet. -/
theorem endOf_meet {m l : Lk} {d p : Int} (h1 : (endOf m d p).isSome) (h2 : (endOf l d p).isSome) : meetB m l = true := by
  obtain ⟨x, hx⟩ := Option.isSome_iff_exists.1 h1
  obtain ⟨y, hy⟩ := Option.isSome_iff_exists.1 h2
  unfold meetB
  rcases endOf_ends hx with ⟨⟨h1, h2⟩, _⟩ | ⟨⟨h1, h2⟩, _⟩ <;> rcases endOf_ends hy with ⟨⟨h3, h4⟩, _⟩ | ⟨⟨h3, h4⟩, _⟩ <;> simp [h1, h2, h3, h4]
theorem peerF_of {ls : List Lk} {d p : Int} {x : Int × Int} (h : peerF ls d p = some x) : ∃ l ∈ ls, endOf l d p = some x := by
  induction ls with
  | nil => simp [peerF] at h
  | cons l ls ih =>
    rw [peerF] at h
    cases he : endOf l d p with
    | some y =>
      rw [he] at h
      exact ⟨l, by simp, by rw [he]; simpa using h⟩
    | none =>
      rw [he] at h
      obtain ⟨m, hm, e⟩ := ih (by simpa using h)
      exact ⟨m, by simp [hm], e⟩
/-- Links none of which has an end of another one, or the same one twice. -/
def Apart (ls : List Lk) : Prop := ls.Pairwise (fun m l => meetB m l = false) ∧ ∀ l ∈ ls, selfB l = false
theorem Apart.tail {l : Lk} {ls : List Lk} (h : Apart (l :: ls)) : Apart ls := ⟨(List.pairwise_cons.1 h.1).2, fun m hm => h.2 m (by simp [hm])⟩
theorem peerF_back {ls : List Lk} (hA : Apart ls) {d p : Int} {x : Int × Int} (h : peerF ls d p = some x) : peerF ls x.1 x.2 = some (d, p) := by
  induction ls with
  | nil => simp [peerF] at h
  | cons l ls ih =>
    rw [peerF] at h
    cases he : endOf l d p with
    | some y =>
      rw [he] at h
      obtain rfl : y = x := by simpa using h
      rw [peerF, endOf_back (hA.2 l (by simp)) he]
      rfl
    | none =>
      rw [he] at h
      have h' : peerF ls d p = some x := by simpa using h
      obtain ⟨m, hm, e⟩ := peerF_of h'
      have hb := endOf_back (hA.2 m (by simp [hm])) e
      have hn : endOf l x.1 x.2 = none := by
        cases hq : endOf l x.1 x.2 with
        | none => rfl
        | some z =>
          have := endOf_meet (m := l) (l := m) (by rw [hq]; rfl) (by rw [hb]; rfl)
          rw [(List.pairwise_cons.1 hA.1).1 m hm] at this
          cases this
      rw [peerF, hn, ih hA.tail h']
      rfl
theorem countP_or {α : Type} (P : List α) (p q : α → Bool) (h : ∀ x ∈ P, ¬ (p x = true ∧ q x = true)) : P.countP (fun x => p x || q x) = P.countP p + P.countP q := by
  induction P with
  | nil => rfl
  | cons x P ih =>
    have := ih (fun y hy => h y (by simp [hy]))
    have hx := h x (by simp)
    rw [List.countP_cons, List.countP_cons, List.countP_cons, this]
    cases hp : p x <;> cases hq : q x <;> simp_all <;> omega
theorem countP_one {P : List (Int × Int)} (hn : P.Nodup) {e : Int × Int} (he : e ∈ P) : P.countP (fun x => x == e) = 1 := by
  have := List.Nodup.count hn (a := e)
  rw [if_pos he] at this
  exact this
theorem countP_ends {P : List (Int × Int)} (hn : P.Nodup) {ls : List Lk} (hA : Apart ls) (hin : ∀ l ∈ ls, (l.a, l.p) ∈ P ∧ (l.b, l.q) ∈ P) : P.countP (fun x => (peerF ls x.1 x.2).isSome) = 2 * ls.length := by
  induction ls with
  | nil => simp [peerF]
  | cons l ls ih =>
    have e1 : (fun x : Int × Int => (peerF (l :: ls) x.1 x.2).isSome) = fun x => (endOf l x.1 x.2).isSome || (peerF ls x.1 x.2).isSome := by
      funext x
      rw [peerF]
      cases endOf l x.1 x.2 <;> simp
    rw [e1, countP_or]
    · rw [ih hA.tail (fun m hm => hin m (by simp [hm]))]
      have e2 : (fun x : Int × Int => (endOf l x.1 x.2).isSome) = fun x => (x == (l.a, l.p)) || (x == (l.b, l.q)) := by
        funext x
        obtain ⟨d, p⟩ := x
        unfold endOf
        have q1 : (((d, p) : Int × Int) == (l.a, l.p)) = ((l.a == d) && (l.p == p)) := by
          rw [Bool.eq_iff_iff]; simp [Prod.ext_iff]; constructor <;> rintro ⟨h1, h2⟩ <;> exact ⟨h1.symm, h2.symm⟩
        have q2 : (((d, p) : Int × Int) == (l.b, l.q)) = ((l.b == d) && (l.q == p)) := by
          rw [Bool.eq_iff_iff]; simp [Prod.ext_iff]; constructor <;> rintro ⟨h1, h2⟩ <;> exact ⟨h1.symm, h2.symm⟩
        rw [q1, q2]
        simp only
        split
        · rename_i h; rw [h]; rfl
        · rename_i h
          split
          · rename_i h2; rw [h2]; simp
          · rename_i h2
            simp [Bool.eq_false_iff.2 h, Bool.eq_false_iff.2 h2]
      rw [e2, countP_or]
      · obtain ⟨h1, h2⟩ := hin l (by simp)
        rw [countP_one hn h1, countP_one hn h2, List.length_cons]
        omega
      · rintro x _ ⟨h1, h2⟩
        have h1 := eq_of_beq h1
        have h2 := eq_of_beq h2
        have hs := hA.2 l (by simp)
        rw [h1] at h2
        simp only [Prod.mk.injEq] at h2
        unfold selfB at hs
        simp [h2.1, h2.2] at hs
    · rintro x _ ⟨h1, h2⟩
      obtain ⟨y, hy⟩ := Option.isSome_iff_exists.1 h2
      obtain ⟨m, hm, e⟩ := peerF_of hy
      have := endOf_meet h1 (l := m) (by rw [e]; rfl)
      rw [(List.pairwise_cons.1 hA.1).1 m hm] at this
      cases this
/-- The places of devices of so many ports. -/
def placesOf (ps : List Nat) (n : Nat) : List (Int × Int) := (List.range n).flatMap fun i => (List.range (ps.getD i 0)).map fun k : Nat => ((i : Int), (k : Int))
theorem placesOf_succ (ps : List Nat) (n : Nat) : placesOf ps (n + 1) = placesOf ps n ++ (List.range (ps.getD n 0)).map fun k : Nat => ((n : Int), (k : Int)) := by
  unfold placesOf
  rw [List.range_succ, List.flatMap_append]
  simp
theorem placesOf_nodup (ps : List Nat) (n : Nat) : (placesOf ps n).Nodup := by
  unfold placesOf List.Nodup
  rw [List.pairwise_flatMap]
  constructor
  · intro i _
    rw [List.pairwise_map]
    refine List.Pairwise.imp ?_ List.pairwise_lt_range
    intro a b h e
    simp only [Prod.mk.injEq] at e
    omega
  · refine List.Pairwise.imp ?_ List.pairwise_lt_range
    intro a b h x hx y hy e
    rw [List.mem_map] at hx hy
    obtain ⟨_, _, rfl⟩ := hx
    obtain ⟨_, _, rfl⟩ := hy
    simp only [Prod.mk.injEq] at e
    omega
theorem placesOf_mem {ps : List Nat} {n i k : Nat} (hi : i < n) (hk : k < ps.getD i 0) : ((i : Int), (k : Int)) ∈ placesOf ps n := by
  unfold placesOf
  rw [List.mem_flatMap]
  exact ⟨i, by simpa using hi, List.mem_map.2 ⟨k, by simpa using hk, rfl⟩⟩
/-- How many of the first k ports of device i are linked. -/
def linked (ls : List Lk) (i k : Nat) : Nat := ((List.range k).map fun k : Nat => ((i : Int), (k : Int))).countP (fun x => (peerF ls x.1 x.2).isSome)
theorem linked_succ (ls : List Lk) (i k : Nat) : linked ls i (k + 1) = linked ls i k + if (peerF ls i k).isSome then 1 else 0 := by
  unfold linked
  rw [List.range_succ, List.map_append, List.countP_append]
  simp [List.countP_cons]
theorem linked_zero (ls : List Lk) (i : Nat) : linked ls i 0 = 0 := rfl
def linkedAll (ps : List Nat) (ls : List Lk) (n : Nat) : Nat := (placesOf ps n).countP (fun x => (peerF ls x.1 x.2).isSome)
theorem linkedAll_succ (ps : List Nat) (ls : List Lk) (n : Nat) : linkedAll ps ls (n + 1) = linkedAll ps ls n + linked ls n (ps.getD n 0) := by
  unfold linkedAll linked
  rw [placesOf_succ, List.countP_append]

/-! ### what a check tells -/
def nameB (c : UInt8) : Bool := (decide (97 ≤ (c.toNat : Int)) && decide ((c.toNat : Int) ≤ 122)) || (decide (48 ≤ (c.toNat : Int)) && decide ((c.toNat : Int) ≤ 57))
def nameOk (s : ByteArray) : Bool := decide (1 ≤ s.size) && decide (s.size ≤ 8) && s.data.toList.all nameB
def rtOf (r : NRoute) : Rt := ⟨r.v, r.b, r.p⟩
/-- What a device's own check tells, its name apart. -/
def devC (d : Dv) : Int := devV d.kind d.addr d.pool d.backs d.rules.length d.routes.length (checkV (d.routes.map rtOf))
def devWrong (ds : List Dv) (k : Nat) (d : Dv) : Int := if nameOk d.name then (if (ds.take k).any (fun x => x.name.toList == d.name.toList) then 5 else devC d) else 3
def devsFrom (ds : List Dv) (k : Nat) : Int :=
  if h : k < ds.length then (if devWrong ds k ds[k] = 0 then devsFrom ds (k + 1) else devWrong ds k ds[k]) else 0
termination_by ds.length - k
theorem devsFrom_at {ds : List Dv} {k : Nat} {d : Dv} (h : ds[k]? = some d) : devsFrom ds k = if devWrong ds k d = 0 then devsFrom ds (k + 1) else devWrong ds k d := by
  obtain ⟨hk, e⟩ := List.getElem?_eq_some_iff.1 h
  rw [devsFrom, dif_pos hk, e]
theorem devsFrom_end {ds : List Dv} {k : Nat} (h : ds.length ≤ k) : devsFrom ds k = 0 := by rw [devsFrom, dif_neg (by omega)]
def kindAt (ds : List Dv) (d : Int) : Int := ((ds[d.toNat]?).map (·.kind)).getD 0
def isPl (ds : List Dv) (d p : Int) : Bool := decide (0 ≤ d) && decide (d < (ds.length : Int)) && decide (0 ≤ p) && decide (p < portsV (kindAt ds d))
def linkWrong (ds : List Dv) (ls : List Lk) (k : Nat) (l : Lk) : Int := if isPl ds l.a l.p && isPl ds l.b l.q then (if selfB l || (ls.take k).any (fun m => meetB m l) then 5 else 0) else 1
def linksFrom (ds : List Dv) (ls : List Lk) (k : Nat) : Int :=
  if h : k < ls.length then (if linkWrong ds ls k ls[k] = 0 then linksFrom ds ls (k + 1) else linkWrong ds ls k ls[k]) else 0
termination_by ls.length - k
theorem linksFrom_at {ds : List Dv} {ls : List Lk} {k : Nat} {l : Lk} (h : ls[k]? = some l) : linksFrom ds ls k = if linkWrong ds ls k l = 0 then linksFrom ds ls (k + 1) else linkWrong ds ls k l := by
  obtain ⟨hk, e⟩ := List.getElem?_eq_some_iff.1 h
  rw [linksFrom, dif_pos hk, e]
theorem linksFrom_end {ds : List Dv} {ls : List Lk} {k : Nat} (h : ls.length ≤ k) : linksFrom ds ls k = 0 := by rw [linksFrom, dif_neg (by omega)]
def netV (ds : List Dv) (ls : List Lk) : Int := if 10 < ds.length ∨ 15 < ls.length then 2 else if devsFrom ds 0 = 0 then linksFrom ds ls 0 else devsFrom ds 0
theorem linksFrom_all {ds : List Dv} {ls : List Lk} : ∀ (m k : Nat), ls.length - k ≤ m → linksFrom ds ls k = 0 → ∀ j l, k ≤ j → ls[j]? = some l → linkWrong ds ls j l = 0
  | 0, k, h, _, j, l, hj, hl => by
    have := (List.getElem?_eq_some_iff.1 hl).1
    omega
  | m + 1, k, h, h0, j, l, hj, hl => by
    have hjl := (List.getElem?_eq_some_iff.1 hl).1
    have hk : k < ls.length := by omega
    rw [linksFrom_at (List.getElem?_eq_getElem hk)] at h0
    split at h0
    · rename_i hw
      by_cases e : j = k
      · subst e
        rw [List.getElem?_eq_getElem hk, Option.some.injEq] at hl
        rw [← hl]
        exact hw
      · exact linksFrom_all m (k + 1) (by omega) h0 j l (by omega) hl
    · rename_i hw
      exact absurd h0 hw
theorem linkWrong_zero {ds : List Dv} {ls : List Lk} {k : Nat} {l : Lk} (h : linkWrong ds ls k l = 0) : isPl ds l.a l.p = true ∧ isPl ds l.b l.q = true ∧ selfB l = false ∧ (ls.take k).any (fun m => meetB m l) = false := by
  unfold linkWrong at h
  split at h
  · rename_i h1
    simp only [Bool.and_eq_true] at h1
    split at h
    · simp at h
    · rename_i h2
      rw [Bool.not_eq_true, Bool.or_eq_false_iff] at h2
      exact ⟨h1.1, h1.2, h2.1, h2.2⟩
  · simp at h
/-- Of a net that the check takes: its links are apart, and their ends are places. -/
theorem netV_links {ds : List Dv} {ls : List Lk} (h : netV ds ls = 0) : ds.length ≤ 10 ∧ ls.length ≤ 15 ∧ Apart ls ∧ ∀ l ∈ ls, isPl ds l.a l.p = true ∧ isPl ds l.b l.q = true := by
  unfold netV at h
  split at h
  · simp at h
  · rename_i hn
    split at h
    · have all := linksFrom_all ls.length 0 (by omega) h
      have each : ∀ l ∈ ls, ∃ k, ls[k]? = some l := fun l hl => by
        obtain ⟨k, hk, e⟩ := List.mem_iff_getElem.1 hl
        exact ⟨k, by rw [List.getElem?_eq_getElem hk, e]⟩
      refine ⟨by omega, by omega, ⟨?_, fun l hl => ?_⟩, fun l hl => ?_⟩
      · rw [List.pairwise_iff_getElem]
        intro i j hi hj hij
        have := (linkWrong_zero (all j _ (Nat.zero_le _) (List.getElem?_eq_getElem hj))).2.2.2
        rw [List.any_eq_false] at this
        have hm := this ls[i] (by
          rw [List.mem_take_iff_getElem]
          exact ⟨i, by omega, rfl⟩)
        simpa using hm
      · obtain ⟨k, hk⟩ := each l hl
        exact (linkWrong_zero (all k _ (Nat.zero_le _) hk)).2.2.1
      · obtain ⟨k, hk⟩ := each l hl
        have := linkWrong_zero (all k _ (Nat.zero_le _) hk)
        exact ⟨this.1, this.2.1⟩
    · rename_i h0
      exact absurd h h0
theorem portsV_nat (k : Int) : ∃ n : Nat, portsV k = (n : Int) ∧ n ≤ 4 := by
  unfold portsV
  split
  · exact ⟨1, rfl, by omega⟩
  · split
    · exact ⟨4, rfl, by omega⟩
    · split
      · exact ⟨2, rfl, by omega⟩
      · exact ⟨0, rfl, by omega⟩
def portsL (ds : List Dv) : List Nat := ds.map fun d => (portsV d.kind).toNat
theorem portsL_at {ds : List Dv} {k : Nat} {d : Dv} (h : ds[k]? = some d) : (portsL ds).getD k 0 = (portsV d.kind).toNat := by
  unfold portsL
  rw [List.getD_eq_getElem?_getD, List.getElem?_map, h]
  rfl
theorem isPl_mem {ds : List Dv} {d p : Int} (h : isPl ds d p = true) : (d, p) ∈ placesOf (portsL ds) ds.length := by
  unfold isPl at h
  simp only [Bool.and_eq_true, decide_eq_true_eq] at h
  obtain ⟨⟨⟨h0, h1⟩, h2⟩, h3⟩ := h
  obtain ⟨i, rfl⟩ : ∃ i : Nat, d = (i : Int) := ⟨d.toNat, by omega⟩
  obtain ⟨k, rfl⟩ : ∃ k : Nat, p = (k : Int) := ⟨p.toNat, by omega⟩
  have hi : i < ds.length := by omega
  have hx : ds[i]? = some ds[i] := List.getElem?_eq_getElem hi
  refine placesOf_mem hi ?_
  rw [portsL_at hx]
  unfold kindAt at h3
  rw [Int.toNat_natCast, hx] at h3
  simp only [Option.map_some, Option.getD_some] at h3
  omega
/-- All ends are met, each once. -/
theorem linkedAll_net {ds : List Dv} {ls : List Lk} (h : netV ds ls = 0) : linkedAll (portsL ds) ls ds.length = 2 * ls.length := by
  obtain ⟨_, _, hA, hp⟩ := netV_links h
  exact countP_ends (placesOf_nodup _ _) hA (fun l hl => ⟨isPl_mem (hp l hl).1, isPl_mem (hp l hl).2⟩)

/-! ### routes of a device -/
theorem routes_of {base : Nat} {w : World} {v : Value} {xs : List NRoute} (h : SlAt base w 3 IsRoute v xs) : Routes base w v (xs.map rtOf) := by
  obtain ⟨A, cap, rfl, h0, h1, h2, h3⟩ := h
  refine ⟨A, cap, by rw [List.length_map], h0, by rw [List.length_map]; exact h1, h2, fun hn => ?_⟩
  obtain ⟨b, o, ea, hl, hr⟩ := h3 (fun e => hn (by rw [e]; rfl))
  refine ⟨b, o, ea, hl, fun j u hj => ?_⟩
  have hjl := (List.getElem?_eq_some_iff.1 hj).1
  rw [cellsT_length, List.length_map] at hjl
  have hk : j / 3 < xs.length := by omega
  have hx : xs[j / 3]? = some xs[j / 3] := List.getElem?_eq_getElem hk
  obtain ⟨cs, _, rfl, hc⟩ := hr _ _ hx
  obtain ⟨c0, c1, c2⟩ := cellsT_at (xs.map rtOf) (j / 3) (rtOf xs[j / 3]) (by rw [List.getElem?_map, hx]; rfl)
  have hm : j % 3 = 0 ∨ j % 3 = 1 ∨ j % 3 = 2 := by omega
  have ej : j = j / 3 * 3 + j % 3 := by omega
  have eo : o + j = o + j / 3 * 3 + j % 3 := by omega
  rw [eo]
  rcases hm with hm | hm | hm
  · have : u = .int .i64 xs[j / 3].v := by
      rw [show j = j / 3 * 3 by omega, c0] at hj
      exact (Option.some.inj hj).symm
    rw [hm, this]
    exact hc 0 _ rfl
  · have : u = .int .i64 xs[j / 3].b := by
      rw [show j = j / 3 * 3 + 1 by omega, c1] at hj
      exact (Option.some.inj hj).symm
    rw [hm, this]
    exact hc 1 _ rfl
  · have : u = .int .i64 xs[j / 3].p := by
      rw [show j = j / 3 * 3 + 2 by omega, c2] at hj
      exact (Option.some.inj hj).symm
    rw [hm, this]
    exact hc 2 _ rfl
end Go.Proofs.YtlmmeppifkigeaaGreat

namespace Go.Proofs.YtlmmeppifkigeaaGreat
open Go.RowKit Go.Maps

theorem rules_ofD {base : Nat} {w : World} {v : Value} {xs : List NRule} (h : SlAt base w 5 IsRule v xs) : Rules base w v (xs.map fun r => ⟨r.ok, r.a, r.b, r.c, r.d, r.ha, r.hb, r.hc, r.hd⟩) := by
  obtain ⟨A, cap, rfl, h0, h1, h2, h3⟩ := h
  refine ⟨A, cap, by rw [List.length_map], h0, by rw [List.length_map]; exact h1, h2, fun hn => ?_⟩
  obtain ⟨b, o, ea, hl, hr⟩ := h3 (fun e => hn (by rw [e]; rfl))
  refine ⟨b, o, ea, hl, fun j u hj => ?_⟩
  have hjl := (List.getElem?_eq_some_iff.1 hj).1
  rw [cellsR_length, List.length_map] at hjl
  have hk : j / 5 < xs.length := by omega
  have hx : xs[j / 5]? = some xs[j / 5] := List.getElem?_eq_getElem hk
  obtain ⟨cs, _, rfl, hc⟩ := hr _ _ hx
  obtain ⟨c0, c1, c2, c3, c4⟩ := cellsR_at (xs.map fun r : NRule => (⟨r.ok, r.a, r.b, r.c, r.d, r.ha, r.hb, r.hc, r.hd⟩ : Rl)) (j / 5) _ (by rw [List.getElem?_map, hx]; rfl)
  have hm : j % 5 = 0 ∨ j % 5 = 1 ∨ j % 5 = 2 ∨ j % 5 = 3 ∨ j % 5 = 4 := by omega
  have eo : o + j = o + j / 5 * 5 + j % 5 := by omega
  rw [eo]
  rcases hm with hm | hm | hm | hm | hm
  · rw [show j = j / 5 * 5 by omega, c0] at hj
    rw [hm, ← Option.some.inj hj]
    exact hc 0 _ rfl
  · rw [show j = j / 5 * 5 + 1 by omega, c1] at hj
    rw [hm, ← Option.some.inj hj]
    exact hc 1 _ rfl
  · rw [show j = j / 5 * 5 + 2 by omega, c2] at hj
    rw [hm, ← Option.some.inj hj]
    exact hc 2 _ rfl
  · rw [show j = j / 5 * 5 + 3 by omega, c3] at hj
    rw [hm, ← Option.some.inj hj]
    exact hc 3 _ rfl
  · rw [show j = j / 5 * 5 + 4 by omega, c4] at hj
    rw [hm, ← Option.some.inj hj]
    exact hc 4 _ rfl
def rulesD (d : Dv) : List Rl := d.rules.map fun r => ⟨r.ok, r.a, r.b, r.c, r.d, r.ha, r.hb, r.hc, r.hd⟩
def routesD (d : Dv) : List Rt := d.routes.map rtOf
theorem backs_in {bs : List Int} {ad : Int} : ∀ (m k : Nat), bs.length - k ≤ m → backsFrom bs ad k ≠ 1 → ∀ j x, k ≤ j → bs[j]? = some x → 0 ≤ x ∧ x < 16
  | 0, k, h, _, j, x, hj, hx => by
    have := (List.getElem?_eq_some_iff.1 hx).1
    omega
  | m + 1, k, h, h0, j, x, hj, hx => by
    have hjl := (List.getElem?_eq_some_iff.1 hx).1
    have hk : k < bs.length := by omega
    rw [backsFrom_at (List.getElem?_eq_getElem hk)] at h0
    split at h0
    · rename_i hc
      by_cases e : j = k
      · subst e
        rw [List.getElem?_eq_getElem hk] at hx
        obtain rfl := Option.some.inj hx
        simp only [Bool.and_eq_true, decide_eq_true_eq] at hc
        omega
      · exact backs_in m (k + 1) (by omega) h0 j x (by omega) hx
    · exact absurd rfl h0
/-- What a right device has. -/
theorem dev_right {d : Dv} (h : devC d = 0) : (1 ≤ d.kind ∧ d.kind ≤ 5) ∧ (0 ≤ d.addr ∧ d.addr < 16) ∧ (∀ x ∈ d.backs, 0 ≤ x ∧ x < 16) ∧ d.rules.length ≤ 8 ∧ checkV (routesD d) = 0 := by
  unfold devC devV at h
  split at h
  · simp at h
  rename_i h1
  split at h
  · simp at h
  rename_i h2
  split at h
  · simp at h
  split at h
  · simp at h
  split at h
  · simp at h
  rename_i h5
  split at h
  · simp at h
  split at h
  · simp at h
  rename_i h8
  refine ⟨?_, ?_, fun x hx => ?_, by omega, h⟩
  · simp at h1
    omega
  · cases hk : hasAddr d.kind
    · rw [hk] at h2
      simp at h2
      omega
    · rw [hk] at h2
      simp at h2
      omega
  · obtain ⟨j, hj, e⟩ := List.mem_iff_getElem.1 hx
    exact backs_in d.backs.length 0 (by omega) h5 j x (Nat.zero_le _) (by rw [List.getElem?_eq_getElem hj, e])
theorem andNot_u16 (z : Nat) : ∃ zc : Nat, zc < 65536 ∧ Go.bits .andNot .u16 65535 (z : Int) = (zc : Int) ∧ ∀ i, i < 16 → zc.testBit i = !z.testBit i := by
  have e1 : BitVec.ofInt 16 (z : Int) = BitVec.ofNat 16 z := by simp
  refine ⟨(BitVec.ofNat 16 65535 &&& ~~~ BitVec.ofNat 16 z).toNat, BitVec.isLt _, ?_, fun i hi => ?_⟩
  · show IntKind.u16.wrap (((BitVec.ofInt 16 65535 &&& ~~~ BitVec.ofInt 16 (z : Int)).toNat : Nat) : Int) = _
    have hlt := (BitVec.ofInt 16 65535 &&& ~~~ BitVec.ofInt 16 (z : Int)).isLt
    rw [IntWalk.u16_in _ ⟨by omega, by omega⟩, e1]
    rfl
  · rw [BitVec.testBit_toNat, BitVec.getLsbD_and, BitVec.getLsbD_not, show BitVec.ofNat 16 65535 = BitVec.allOnes 16 by decide, BitVec.getLsbD_allOnes, BitVec.getLsbD_ofNat]
    simp [hi]
noncomputable def notN (z : Nat) : Nat := (andNot_u16 z).choose
theorem notN_spec (z : Nat) : notN z < 65536 ∧ Go.bits .andNot .u16 65535 (z : Int) = (notN z : Int) ∧ ∀ i, i < 16 → (notN z).testBit i = !z.testBit i := (andNot_u16 z).choose_spec
/-- What a device may send at a port, of what came in. -/
noncomputable def sendF (d : Dv) (pt : Int) (φ0 φ1 φ2 φ3 : Env → Bool) : Env → Bool :=
  if d.kind = 2 then (fun x => (fun x => orP φ0 φ1 φ2 φ3 4 x && phi 65535 (sentN (routesD d) pt 16) 255 255 x) x && letsF (rulesD d) x)
  else if d.kind = 3 then (if pt = 1 then (fun x => φ0 x && letsF (rulesD d) x) else (fun x => φ1 x && flF (fun x => φ0 x && letsF (rulesD d) x) x))
  else if d.kind = 4 then (if pt = 1 then (fun x => anF (anF φ0 8 3) 0 4 x && (phi (setL [d.addr] 0) 65535 d.pool 255) x) else (fun x => anF (anF (fun x => φ1 x && (phi 65535 (setL [d.addr] 0) 255 d.pool) x) 11 3) 4 4 x && flF (anF (anF φ0 11 3) 4 4) x))
  else if d.kind = 5 then (if pt = 1 then (fun x => (fun x => φ0 x && phi 65535 (notN (setL [d.addr] 0)) 255 255 x) x || (fun x => anF (fun x => φ0 x && (phi 65535 (setL [d.addr] 0) 255 255) x) 4 4 x && (phi 65535 (setL d.backs 0) 255 255) x) x)
    else (fun x => φ1 x || (fun x => anF (fun x => φ1 x && (fun x => (phi (setL d.backs 0) 65535 255 255) x && flF (anF (fun x => φ0 x && (phi 65535 (setL [d.addr] 0) 255 255) x) 4 4) x) x) 0 4 x && (phi (setL [d.addr] 0) 65535 255 255) x) x))
  else (fun _ => false)
section
variable {base q a M : Nat} {w0 w : World} {ns : List Nd} {er : Int}
theorem all_le : 2 ^ cnS (fun _ => true) 14 0 - 1 ≤ 16383 := by
  have := cnS_le (S := fun _ => true) (vars := 14) 0
  have := Nat.pow_le_pow_right (n := 2) (by omega) this
  omega
theorem andB_all {φ ψ : Env → Bool} : AndB base q a M w0 φ ψ 16383 := fun _ _ _ _ _ h hf hg => (and_b (fun _ => true) h hf hg (fun _ => ⟨DepS.all _, DepS.all _⟩)).mono fun _ _ B => B.more all_le
theorem orB_all {φ ψ : Env → Bool} : OrB base q a M w0 φ ψ 16383 := fun _ _ _ _ _ h hf hg => (or_b (fun _ => true) h hf hg (fun _ => ⟨DepS.all _, DepS.all _⟩)).mono fun _ _ B => B.more all_le
theorem anSrc_all {φ : Env → Bool} : AnB 145 base q a M w0 φ (anF φ 0 4) (4 * 16383) := fun _ _ _ _ h hf => anySrc_b h hf
theorem anDst_all {φ : Env → Bool} : AnB 148 base q a M w0 φ (anF φ 4 4) (4 * 16383) := fun _ _ _ _ h hf => anyDst_b h hf
theorem anSport_all {φ : Env → Bool} : AnB 146 base q a M w0 φ (anF φ 8 3) (3 * 16383) := fun _ _ _ _ h hf => anySport_b h hf
theorem anDport_all {φ : Env → Bool} : AnB 149 base q a M w0 φ (anF φ 11 3) (3 * 16383) := fun _ _ _ _ h hf => anyDport_b h hf
/-- What a device sends, whatever it is; of room nothing is said. -/
theorem send_any (h : Bn base q a M w0 w ns er) (d : Dv) (hd : devC d = 0) {Ab A At : Option Addr} {nb cb n cap nt ct : Nat} (hb : SlAt base w0 1 IsI (.slice Ab nb cb) d.backs) (hr : SlAt base w0 5 IsRule (.slice A n cap) d.rules) (ht : SlAt base w0 3 IsRoute (.slice At nt ct) d.routes) (pt : Int) {f0 f1 f2 f3 : Nat} {φ0 φ1 φ2 φ3 : Env → Bool} (hf0 : Fn ns er f0 φ0) (hf1 : Fn ns er f1 φ1) (hf2 : Fn ns er f2 φ2) (hf3 : Fn ns er f3 φ3) :
    Calls Tryz.prog 92 #[.pointer (some ⟨q, 0, none⟩), .agg #[.string d.name, .int .i64 d.kind, .int .i64 d.addr, .int .u8 (d.pool : Int), .slice Ab nb cb, .slice A n cap, .slice At nt ct], .int .i64 pt, .agg #[.int .i64 (f0 : Int), .int .i64 (f1 : Int), .int .i64 (f2 : Int), .int .i64 (f3 : Int)]] w (BOut base q a M w0 w ns er 1000000 (sendF d pt φ0 φ1 φ2 φ3)) := by
  obtain ⟨⟨k1, k5⟩, ⟨a0, a16⟩, hbs, r8, hck⟩ := dev_right hd
  have RB : RulB base q a M w0 (.slice A n cap) 40000 (letsF (rulesD d)) := rulB_any (rules_ofD hr) (by unfold rulesD; rw [List.length_map]; exact r8)
  have TB : RtB base q a M w0 (.slice At nt ct) pt 44 (phi 65535 (sentN (routesD d) pt 16) 255 255) := fun w ns er b => routes_b b At nt ct (routesD d) pt (((routes_of ht).below b.bel).mono b.size) hck
  have hkd : d.kind = 1 ∨ d.kind = 2 ∨ d.kind = 3 ∨ d.kind = 4 ∨ d.kind = 5 := by omega
  unfold sendF
  rcases hkd with hk | hk | hk | hk | hk
  · rw [hk, if_neg (by omega), if_neg (by omega), if_neg (by omega), if_neg (by omega)]
    exact (send_host h).mono fun _ _ B => B.more (by omega)
  · rw [hk, if_pos rfl]
    refine (send_route h (g := 4 * 16383 + 44 + 16383 + 40000 + 16383) fun W b => ?_).mono fun _ _ B => B.more (by omega)
    exact route_b b (fun k φ _ => orB_all) TB andB_all RB andB_all hf0 hf1 hf2 hf3
  · rw [hk, if_neg (by omega), if_pos rfl]
    by_cases hp : pt = 1
    · rw [if_pos hp]
      exact (send_ask h hp fun W b => ask_b b RB andB_all hf0).mono fun _ _ B => B.more (by omega)
    · rw [if_neg hp]
      exact (send_answer h hp fun W b => answer_b b RB andB_all flB_any andB_all hf0 hf1).mono fun _ _ B => B.more (by omega)
  · rw [hk, if_neg (by omega), if_neg (by omega), if_pos rfl]
    by_cases hp : pt = 1
    · rw [if_pos hp]
      exact (send_hide h hp fun W b => hide_b b a0 a16 rfl d.hp anSport_all anSrc_all andB_all hf0).mono fun _ _ B => B.more (by omega)
    · rw [if_neg hp]
      exact (send_unhide h hp fun W b => unhide_b b a0 a16 rfl d.hp andB_all anDport_all anDst_all flB_any anDport_all anDst_all andB_all hf0 hf1).mono fun _ _ B => B.more (by omega)
  · rw [hk, if_neg (by omega), if_neg (by omega), if_neg (by omega), if_pos rfl]
    by_cases hp : pt = 1
    · rw [if_pos hp]
      exact (send_spread h hp fun W b => spread_b b a0 a16 ⟨(notN_spec _).1, (notN_spec _).2.1⟩ hb hbs andB_all anDst_all andB_all andB_all orB_all hf0).mono fun _ _ B => B.more (by omega)
    · rw [if_neg hp]
      exact (send_gather h hp fun W b => gather_b b a0 a16 hb hbs andB_all anDst_all flB_any andB_all andB_all anSrc_all andB_all orB_all hf0 hf1).mono fun _ _ B => B.more (by omega)
end
end Go.Proofs.YtlmmeppifkigeaaGreat

namespace Go.Proofs.YtlmmeppifkigeaaGreat
open Go.RowKit Go.Maps

theorem uSets : Tryz.prog.underlying 100 = some (.array 10 98) := by kernel_rfl
theorem iSets : (Tryz.prog.info? 100).map (·.size) = some 40 := by kernel_rfl
theorem iSets' {c : Array Value} (h : c.size = 40) : (Tryz.prog.info? 100).map (·.size) = some c.size := by rw [h]; exact iSets
abbrev zeros40 : Array Value := #[.int .i64 0, .int .i64 0, .int .i64 0, .int .i64 0, .int .i64 0, .int .i64 0, .int .i64 0, .int .i64 0, .int .i64 0, .int .i64 0, .int .i64 0, .int .i64 0, .int .i64 0, .int .i64 0, .int .i64 0, .int .i64 0, .int .i64 0, .int .i64 0, .int .i64 0, .int .i64 0, .int .i64 0, .int .i64 0, .int .i64 0, .int .i64 0, .int .i64 0, .int .i64 0, .int .i64 0, .int .i64 0, .int .i64 0, .int .i64 0, .int .i64 0, .int .i64 0, .int .i64 0, .int .i64 0, .int .i64 0, .int .i64 0, .int .i64 0, .int .i64 0, .int .i64 0, .int .i64 0]
section
variable {bR R MR most : Nat} {nsR : List Nd} {w : World}
/-- Widen, of a device of a right net; of room nothing is said. -/
theorem widen_any (hR : Ar bR R MR 14 most w nsR) (d : Dv) (hd : devC d = 0) {Ab A At : Option Addr} {nb cb n cap nt ct : Nat} (hb : SlAt w.heap.size w 1 IsI (.slice Ab nb cb) d.backs) (hr : SlAt w.heap.size w 5 IsRule (.slice A n cap) d.rules) (ht : SlAt w.heap.size w 3 IsRoute (.slice At nt ct) d.routes) (pt : Int) {set f0 f1 f2 f3 : Nat} (hs : set < nsR.length) (l0 : f0 < nsR.length) (l1 : f1 < nsR.length) (l2 : f2 < nsR.length) (l3 : f3 < nsR.length) :
    Calls Tryz.prog 54 #[.pointer (some ⟨R, 0, none⟩), .int .i64 (set : Int), .agg #[.string d.name, .int .i64 d.kind, .int .i64 d.addr, .int .u8 (d.pool : Int), .slice Ab nb cb, .slice A n cap, .slice At nt ct], .int .i64 pt, .agg #[.int .i64 (f0 : Int), .int .i64 (f1 : Int), .int .i64 (f2 : Int), .int .i64 (f3 : Int)]] w fun e w' => ∃ (ns' : List Nd) (v er : Int), e = .returned (.tuple #[.int .i64 v, .int .i64 er]) ∧ Ar bR R MR 14 most w' ns' ∧ Kp (ca bR R MR 14 most) w w' ∧ Ext nsR ns' ∧ Hid ((er = 0 ∧ ∃ f : Nat, v = (f : Int) ∧ f < ns'.length ∧ ∀ x, ev ns' f x = (ev nsR set x || sendF d pt (ev nsR f0) (ev nsR f1) (ev nsR f2) (ev nsR f3) x)) ∨ (er = 6 ∧ v = 0)) := by
  refine (widen_w hR (fun _ => true) (fun _ => true) hs l0 l1 l2 l3 (DepS.all _) (DepS.all _) (DepS.all _) (DepS.all _) (DepS.all _) (DepS.all _) (gS := 1000000) (gO := 16383) (ψ := sendF d pt (ev nsR f0) (ev nsR f1) (ev nsR f2) (ev nsR f3)) (fun base q a M w0 W ns er i0 i1 i2 i3 hbl hle b m0 m1 m2 m3 => ?_) (fun _ _ _ _ _ => orB_all)).mono fun e w' ⟨ns', v, er, h1, h2, h3, h4, _, h6⟩ => ⟨ns', v, er, h1, h2, h3, h4, ?_⟩
  · exact send_any b d hd (SlAt.mono (SlAt.below hb hbl (fun _ _ _ h => h)) hle (fun _ _ _ h => h)) (SlAt.mono (SlAt.below hr hbl (fun _ _ _ h => h)) hle (fun _ _ _ h => h)) (SlAt.mono (SlAt.below ht hbl (fun _ _ _ h => h)) hle (fun _ _ _ h => h)) pt m0 m1 m2 m3
  · rcases h6.out with h | ⟨a, b, _⟩
    · exact Or.inl h
    · exact Or.inr ⟨a, b⟩
end
/-- A bound on what widen makes, of a device, a port, the functions that are handed in. -/
def WidB (gW : Nat) (E : Prop) (d : Dv) (pt : Int) (χ φ0 φ1 φ2 φ3 : Env → Bool) : Prop :=
  ∀ (bR R MR most : Nat) (nsR : List Nd) (w : World), Ar bR R MR 14 most w nsR → ∀ (Ab A At : Option Addr) (nb cb n cap nt ct : Nat), SlAt w.heap.size w 1 IsI (.slice Ab nb cb) d.backs → SlAt w.heap.size w 5 IsRule (.slice A n cap) d.rules → SlAt w.heap.size w 3 IsRoute (.slice At nt ct) d.routes → ∀ (set f0 f1 f2 f3 : Nat), set < nsR.length → f0 < nsR.length → f1 < nsR.length → f2 < nsR.length → f3 < nsR.length →
    ev nsR set = χ → ev nsR f0 = φ0 → ev nsR f1 = φ1 → ev nsR f2 = φ2 → ev nsR f3 = φ3 →
    Calls Tryz.prog 54 #[.pointer (some ⟨R, 0, none⟩), .int .i64 (set : Int), .agg #[.string d.name, .int .i64 d.kind, .int .i64 d.addr, .int .u8 (d.pool : Int), .slice Ab nb cb, .slice A n cap, .slice At nt ct], .int .i64 pt, .agg #[.int .i64 (f0 : Int), .int .i64 (f1 : Int), .int .i64 (f2 : Int), .int .i64 (f3 : Int)]] w fun e w' => ∃ (ns' : List Nd) (v er : Int), e = .returned (.tuple #[.int .i64 v, .int .i64 er]) ∧ Ar bR R MR 14 most w' ns' ∧ Kp (ca bR R MR 14 most) w w' ∧ Ext nsR ns' ∧ ns'.length ≤ nsR.length + gW ∧ Hid ((er = 0 ∧ ∃ f : Nat, v = (f : Int) ∧ f < ns'.length ∧ ∀ x, ev ns' f x = (χ x || sendF d pt φ0 φ1 φ2 φ3 x)) ∨ (er = 6 ∧ v = 0 ∧ (E ∨ most ≤ nsR.length + gW)))
theorem widB_any {d : Dv} (hd : devC d = 0) (pt : Int) (χ φ0 φ1 φ2 φ3 : Env → Bool) : WidB 40000 True d pt χ φ0 φ1 φ2 φ3 := by
  intro bR R MR most nsR w hR Ab A At nb cb n cap nt ct hb hr ht set f0 f1 f2 f3 hs l0 l1 l2 l3 e0 e1 e2 e3 e4
  subst e0 e1 e2 e3 e4
  refine (widen_any hR d hd hb hr ht pt hs l0 l1 l2 l3).mono fun e w' ⟨ns', v, er, h1, h2, h3, h4, h5⟩ => ⟨ns', v, er, h1, h2, h3, h4, ?_, ?_⟩
  · have := h2.le
    have := h2.most4
    omega
  · rcases h5.out with h | ⟨h, h'⟩
    · exact Or.inl h
    · exact Or.inr ⟨h, h', Or.inl trivial⟩
theorem mul_step {a a' b g n : Nat} (h : a ≤ b + g * n) (h' : a' ≤ a + g) : a' ≤ b + g * (n + 1) := by rw [Nat.mul_succ]; omega
theorem mul_mono {a b g n m : Nat} (h : a ≤ b + g * n) (hn : n ≤ m) : a ≤ b + g * m := by
  have := Nat.mul_le_mul_left g hn
  omega
/-- Grow at work: the arena, the call's own variables: the net, two sets of sets, the answer, the next ones. -/
structure Gs (bR R MR most : Nat) (nsR : List Nd) (w : World) (u0 u1 : Value) (cw cn nx : Array Value) (ns : List Nd) (W : World) : Prop where
  ar : Ar bR R MR 14 most W ns
  ext : Ext nsR ns
  kp : Kp (ca bR R MR 14 most) w W
  bN : Bz W w.heap.size #[u0, u1] 25
  bw : Bz W (w.heap.size + 1) cw 100
  bo : Bz W (w.heap.size + 1 + 1) cn 100
  bz : Bz W (w.heap.size + 1 + 1 + 1) zeros40 100
  bx : Bz W (w.heap.size + 1 + 1 + 1 + 1) nx 100
section
variable {bR R MR most : Nat} {nsR ns ns' : List Nd} {w W W' : World} {u0 u1 : Value} {cw cn nx : Array Value}
theorem Gs.below (h : Gs bR R MR most nsR w u0 u1 cw cn nx ns W) (hb : Below W.heap.size W W') : Gs bR R MR most nsR w u0 u1 cw cn nx ns W' :=
  ⟨h.ar.below hb, h.ext, h.kp.trans (h.ar.kbelow hb), (hb.block _ h.bN.lt).trans h.bN, (hb.block _ h.bw.lt).trans h.bw, (hb.block _ h.bo.lt).trans h.bo, (hb.block _ h.bz.lt).trans h.bz, (hb.block _ h.bx.lt).trans h.bx⟩
theorem Gs.tf (h : Gs bR R MR most nsR w u0 u1 cw cn nx ns W) (k : Kp (ca bR R MR 14 most) W W') {i : Nat} {c : Array Value} {t : TypeId} (hb : Bz W i c t) (ht : okT t) : Bz W' i c t := ((h.ar.outBox hb ht.1 ht.2.1).kp k).blk
theorem Gs.step (h : Gs bR R MR most nsR w u0 u1 cw cn nx ns W) (A' : Ar bR R MR 14 most W' ns') (k : Kp (ca bR R MR 14 most) W W') (X : Ext ns ns') : Gs bR R MR most nsR w u0 u1 cw cn nx ns' W' :=
  ⟨A', h.ext.trans X, h.kp.trans k, h.tf k h.bN (by decide), h.tf k h.bw (by decide), h.tf k h.bo (by decide), h.tf k h.bz (by decide), h.tf k h.bx (by decide)⟩
theorem Gs.setx (h : Gs bR R MR most nsR w u0 u1 cw cn nx ns W) (j : Nat) (u : Value) : Gs bR R MR most nsR w u0 u1 cw cn (nx.setIfInBounds j u) ns (W.setCell ⟨w.heap.size + 1 + 1 + 1 + 1, j, none⟩ u) := by
  have hF : ∀ i, i ≠ w.heap.size + 1 + 1 + 1 + 1 → (W.setCell ⟨w.heap.size + 1 + 1 + 1 + 1, j, none⟩ u).heap[i]? = W.heap[i]? := fun i hi => Below.heap_setCell W ⟨w.heap.size + 1 + 1 + 1 + 1, j, none⟩ u i hi
  have L := (h.ar.outBox h.bx (by decide) (by decide)).out
  have n1 : R ≠ w.heap.size + 1 + 1 + 1 + 1 := fun e => L.not (Or.inl e.symm)
  have n2 : MR ≠ w.heap.size + 1 + 1 + 1 + 1 := fun e => L.not (Or.inr (Or.inr (Or.inl e.symm)))
  have n3 : rowOf W R ≠ w.heap.size + 1 + 1 + 1 + 1 := fun e => L.ne e.symm
  have er : rowOf (W.setCell ⟨w.heap.size + 1 + 1 + 1 + 1, j, none⟩ u) R = rowOf W R := rowOf_same (hF R n1)
  refine ⟨h.ar.same (hF _ n1) (hF _ n2) (hF _ n3), h.ext, ⟨h.kp.os, h.kp.tape, h.kp.output, by simp [World.setCell]; exact h.kp.size, fun i hi hm hr => (hF i (by omega)).trans (h.kp.blk i hi hm hr), ?_, fun k hk => ?_⟩, (hF _ (by omega)).trans h.bN, (hF _ (by omega)).trans h.bw, (hF _ (by omega)).trans h.bo, (hF _ (by omega)).trans h.bz, h.bx.set (j := j) u⟩
  · rw [show rowOf (W.setCell ⟨w.heap.size + 1 + 1 + 1 + 1, j, none⟩ u) (ca bR R MR 14 most).a = rowOf W (ca bR R MR 14 most).a from er]
    exact h.kp.row
  · rw [← h.kp.post k hk]
    exact cellB (hF R n1)
end

/-! ### the next sets, plain -/
/-- What was sent to a place, by those that were asked so far. -/
def SentBy (ds : List Dv) (ls : List Lk) (skip : Nat → Prop) (F : Nat → Nat → Env → Bool) (i q : Nat) (t : Int × Int) (x : Env) : Prop :=
  ∃ (i' q' : Nat) (d : Dv), (i' < i ∨ (i' = i ∧ q' < q)) ∧ ¬ skip i' ∧ ds[i']? = some d ∧ (q' : Int) < portsV d.kind ∧ peerF ls i' q' = some t ∧ sendF d q' (F i' 0) (F i' 1) (F i' 2) (F i' 3) x = true
structure GInv (ds : List Dv) (ls : List Lk) (skip : Nat → Prop) (F : Nat → Nat → Env → Bool) (i q : Nat) (ns : List Nd) (sx : Nat → Nat → Nat) : Prop where
  lt : ∀ a b, a < 10 → b < 4 → sx a b < ns.length
  fn : ∀ a b, a < 10 → b < 4 → ∀ x, (ev ns (sx a b) x = true ↔ F a b x = true ∨ SentBy ds ls skip F i q ((a : Int), (b : Int)) x)
section
variable {ds : List Dv} {ls : List Lk} {skip : Nat → Prop} {F : Nat → Nat → Env → Bool} {i q : Nat} {ns ns' : List Nd} {sx : Nat → Nat → Nat}
theorem ginv_same {i' q' : Nat} (h : GInv ds ls skip F i q ns sx) (hs : ∀ t x, SentBy ds ls skip F i q t x ↔ SentBy ds ls skip F i' q' t x) : GInv ds ls skip F i' q' ns sx := ⟨h.lt, fun a b ha hb x => (h.fn a b ha hb x).trans (or_congr Iff.rfl (hs _ x))⟩
theorem ginv_start (hl : ∀ a b, a < 10 → b < 4 → sx a b < ns.length) (hF : ∀ a b, a < 10 → b < 4 → ev ns (sx a b) = F a b) : GInv ds ls skip F 0 0 ns sx := ⟨hl, fun a b ha hb x => by
  rw [hF a b ha hb]
  refine ⟨Or.inl, fun h => h.resolve_right fun ⟨i', q', d, h1, _⟩ => by omega⟩⟩
theorem ginv_skip (h : GInv ds ls skip F i 0 ns sx) (hs : skip i) : GInv ds ls skip F (i + 1) 0 ns sx := ginv_same h fun t x => by
  constructor
  · rintro ⟨i', q', d, h1, h2⟩
    exact ⟨i', q', d, by omega, h2⟩
  · rintro ⟨i', q', d, h1, h2, h3⟩
    have hne : i' ≠ i := fun e => h2 (e ▸ hs)
    exact ⟨i', q', d, by omega, h2, h3⟩
theorem ginv_done (h : GInv ds ls skip F i q ns sx) {d : Dv} (hd : ds[i]? = some d) (hq : portsV d.kind ≤ (q : Int)) : GInv ds ls skip F (i + 1) 0 ns sx := ginv_same h fun t x => by
  constructor
  · rintro ⟨i', q', d, h1, h2⟩
    exact ⟨i', q', d, by omega, h2⟩
  · rintro ⟨i', q', d', h1, h2, h3, h4, h5⟩
    refine ⟨i', q', d', ?_, h2, h3, h4, h5⟩
    by_cases e : i' = i
    · subst e
      rw [hd] at h3
      obtain rfl := Option.some.inj h3
      omega
    · omega
theorem ginv_none (h : GInv ds ls skip F i q ns sx) (hp : peerF ls i q = none) : GInv ds ls skip F i (q + 1) ns sx := ginv_same h fun t x => by
  constructor
  · rintro ⟨i', q', d, h1, h2⟩
    exact ⟨i', q', d, by omega, h2⟩
  · rintro ⟨i', q', d', h1, h2, h3, h4, h5, h6⟩
    refine ⟨i', q', d', ?_, h2, h3, h4, h5, h6⟩
    by_cases e : i' = i ∧ q' = q
    · obtain ⟨rfl, rfl⟩ := e
      rw [hp] at h5
      cases h5
    · omega
def updS (sx : Nat → Nat → Nat) (a b f : Nat) : Nat → Nat → Nat := fun x y => if x = a ∧ y = b then f else sx x y
theorem ginv_put (h : GInv ds ls skip F i q ns sx) (hA : Apart ls) (hW : Wf 14 ns) (hW' : Wf 14 ns') (X : Ext ns ns') {d : Dv} (hd : ds[i]? = some d) (hq : (q : Int) < portsV d.kind) (hs : ¬ skip i) {a b f : Nat} (hp : peerF ls i q = some ((a : Int), (b : Int))) (hf : f < ns'.length) (hv : ∀ x, ev ns' f x = (F a b x || sendF d q (F i 0) (F i 1) (F i 2) (F i 3) x)) : GInv ds ls skip F i (q + 1) ns' (updS sx a b f) := by
  have hlen := X.len
  refine ⟨fun x y hx hy => ?_, fun x y hx hy e => ?_⟩
  · unfold updS
    split
    · exact hf
    · have := h.lt x y hx hy
      omega
  · unfold updS
    split
    · rename_i hxy
      obtain ⟨rfl, rfl⟩ := hxy
      rw [hv e, Bool.or_eq_true]
      refine or_congr Iff.rfl ⟨fun hse => ⟨i, q, d, by omega, hs, hd, hq, hp, hse⟩, ?_⟩
      rintro ⟨i', q', d', _, _, h3, _, h5, h6⟩
      have e1 := peerF_back hA hp
      have e2 := peerF_back hA h5
      rw [e1] at e2
      simp only [Option.some.injEq, Prod.mk.injEq] at e2
      obtain ⟨e3, e4⟩ := e2
      obtain rfl : i = i' := by omega
      obtain rfl : q = q' := by omega
      rw [hd] at h3
      obtain rfl := Option.some.inj h3
      exact h6
    · rename_i hxy
      rw [X.ev hW hW' _ (h.lt x y hx hy), h.fn x y hx hy e]
      refine or_congr Iff.rfl ⟨?_, ?_⟩
      · rintro ⟨i', q', d, h1, h2⟩
        exact ⟨i', q', d, by omega, h2⟩
      · rintro ⟨i', q', d', h1, h2, h3, h4, h5, h6⟩
        refine ⟨i', q', d', ?_, h2, h3, h4, h5, h6⟩
        by_cases e : i' = i ∧ q' = q
        · obtain ⟨rfl, rfl⟩ := e
          rw [hp] at h5
          simp only [Option.some.injEq, Prod.mk.injEq] at h5
          exact absurd ⟨by omega, by omega⟩ hxy
        · omega
theorem SetsV.upd {c : Array Value} (h : SetsV c sx) {a b f : Nat} (ha : a < 10) (hb : b < 4) : SetsV (c.setIfInBounds (a * 4 + b) (.int .i64 (f : Int))) (updS sx a b f) := by
  refine ⟨by rw [Array.size_setIfInBounds]; exact h.1, fun x y hx hy => ?_⟩
  rw [Array.getElem?_setIfInBounds]
  unfold updS
  by_cases e : x = a ∧ y = b
  · obtain ⟨rfl, rfl⟩ := e
    rw [if_pos rfl, if_pos (by have := h.1; omega), if_pos ⟨rfl, rfl⟩]
  · rw [if_neg (by omega), if_neg e]
    exact h.2 x y hx hy
end
end Go.Proofs.YtlmmeppifkigeaaGreat

namespace Go.Proofs.YtlmmeppifkigeaaGreat
open Go.RowKit

abbrev devA (nm : ByteArray) (k ad : Int) (pl : Nat) (vb vr vt : Value) : Value := .agg #[.string nm, .int .i64 k, .int .i64 ad, .int .u8 (pl : Int), vb, vr, vt]
abbrev lkA (a p b q : Int) : Value := .agg #[.int .i64 a, .int .i64 p, .int .i64 b, .int .i64 q]
abbrev plA (d p : Int) : Value := .agg #[.int .i64 d, .int .i64 p]

set_option maxHeartbeats 1000000 in
theorem nports_any (k : Int) (w : World) : Calls Tryz.prog 17 #[.int .i64 k] w fun e w' => e = .returned (.int .i64 (portsV k)) ∧ w' = w := by
  by_cases h1 : k = 1
  · subst h1
    go_enter Tryz.func17, Tryz.ntmps17
    go_wp2_with fail
    go_ret
    exact ⟨rfl, rfl⟩
  by_cases h2 : k = 2
  · subst h2
    go_enter Tryz.func17, Tryz.ntmps17
    go_wp2_with fail
    go_ret
    exact ⟨rfl, rfl⟩
  by_cases h3 : k = 3
  · subst h3
    go_enter Tryz.func17, Tryz.ntmps17
    go_wp2_with fail
    go_ret
    exact ⟨rfl, rfl⟩
  by_cases h4 : k = 4
  · subst h4
    go_enter Tryz.func17, Tryz.ntmps17
    go_wp2_with fail
    go_ret
    exact ⟨rfl, rfl⟩
  by_cases h5 : k = 5
  · subst h5
    go_enter Tryz.func17, Tryz.ntmps17
    go_wp2_with fail
    go_ret
    exact ⟨rfl, rfl⟩
  have e : portsV k = 0 := by
    unfold portsV
    rw [if_neg h1, if_neg h2, if_neg (by omega)]
  rw [e]
  have g1 : (k == 1) = false := beq_eq_false_iff_ne.2 h1
  have g2 : (k == 2) = false := beq_eq_false_iff_ne.2 h2
  have g3 : (k == 3) = false := beq_eq_false_iff_ne.2 h3
  have g4 : (k == 4) = false := beq_eq_false_iff_ne.2 h4
  have g5 : (k == 5) = false := beq_eq_false_iff_ne.2 h5
  clear h1 h2 h3 h4 h5 e
  go_enter Tryz.func17, Tryz.ntmps17
  go_wp2_with fail
  go_ret
  exact ⟨rfl, rfl⟩

set_option maxHeartbeats 1000000 in
theorem from_any (a p b q : Int) (w : World) : Calls Tryz.prog 81 #[lkA a p b q] w fun e w' => e = .returned (plA a p) ∧ Below w.heap.size w w' := by
  go_enter Tryz.func81, Tryz.ntmps81
  go_wp2_with fail
  refine bodyPost_ret (v := plA a p) (by simp [results, Tryz.results81, go_sem]) rfl ⟨rfl, ?_⟩
  exact Below.alN (Below.alN (Below.refl _ _) _) _
set_option maxHeartbeats 1000000 in
theorem to_any (a p b q : Int) (w : World) : Calls Tryz.prog 82 #[lkA a p b q] w fun e w' => e = .returned (plA b q) ∧ Below w.heap.size w w' := by
  go_enter Tryz.func82, Tryz.ntmps82
  go_wp2_with fail
  refine bodyPost_ret (v := plA b q) (by simp [results, Tryz.results82, go_sem]) rfl ⟨rfl, ?_⟩
  exact Below.alN (Below.alN (Below.refl _ _) _) _

set_option maxHeartbeats 1000000 in
theorem hasAddr_any (k : Int) (w : World) : Calls Tryz.prog 105 #[.int .i64 k] w fun e w' => e = .returned (.bool (hasAddr k)) ∧ w' = w := by
  unfold hasAddr
  cases h1 : (k == 1)
  · cases h4 : (k == 4)
    · go_enter Tryz.func105, Tryz.ntmps105
      go_wp2_with fail
      go_ret
      exact ⟨by simp, rfl⟩
    · go_enter Tryz.func105, Tryz.ntmps105
      go_wp2_with fail
      go_ret
      exact ⟨by simp, rfl⟩
  · go_enter Tryz.func105, Tryz.ntmps105
    go_wp2_with fail
    go_ret
    exact ⟨by simp, rfl⟩
def addrB (n : Int) : Bool := decide (0 ≤ n) && decide (n < 16)
set_option maxHeartbeats 1000000 in
theorem isAddr_any (n : Int) (w : World) : Calls Tryz.prog 106 #[.int .i64 n] w fun e w' => e = .returned (.bool (addrB n)) ∧ w' = w := by
  unfold addrB
  cases h1 : decide (0 ≤ n)
  · go_enter Tryz.func106, Tryz.ntmps106
    go_wp2_with fail
    go_ret
    exact ⟨by simp, rfl⟩
  · go_enter Tryz.func106, Tryz.ntmps106
    go_wp2_with fail
    go_ret
    exact ⟨by simp, rfl⟩
def addrF (k ad : Int) : Bool := if hasAddr k then addrB ad else ad == 0
set_option maxHeartbeats 1000000 in
theorem addrFits_any (nm : ByteArray) (k ad : Int) (pl : Nat) (vb vr vt : Value) (w : World) : Calls Tryz.prog 74 #[devA nm k ad pl vb vr vt] w fun e w' => e = .returned (.bool (addrF k ad)) ∧ Below w.heap.size w w' := by
  have D0 := Below.alN (Below.refl w.heap.size w) (.cells #[.string nm, .int .i64 k, .int .i64 ad, .int .u8 (pl : Int), vb, vr, vt] 62)
  have HA : Hid (∀ w, Calls Tryz.prog 105 #[.int .i64 k] w fun e w' => e = .returned (.bool (hasAddr k)) ∧ w' = w) := fun w => hasAddr_any k w
  have IA : Hid (∀ w, Calls Tryz.prog 106 #[.int .i64 ad] w fun e w' => e = .returned (.bool (addrB ad)) ∧ w' = w) := fun w => isAddr_any ad w
  unfold addrF
  generalize hasAddr k = x at *
  generalize addrB ad = y at *
  cases x
  · go_enter Tryz.func74, Tryz.ntmps74
    go_wp2_with fail
    refine (HA.out _).mono ?_
    rintro e w1 ⟨rfl, rfl⟩
    go_wp2_with fail
    go_ret
    exact ⟨rfl, D0⟩
  · go_enter Tryz.func74, Tryz.ntmps74
    go_wp2_with fail
    refine (HA.out _).mono ?_
    rintro e w1 ⟨rfl, rfl⟩
    go_wp2_with fail
    refine (IA.out _).mono ?_
    rintro e w1 ⟨rfl, rfl⟩
    go_wp2_with fail
    go_ret
    exact ⟨rfl, D0⟩
def poolF (k : Int) (pl : Nat) : Bool := (!((pl : Int) == 0)) == (k == 4)
set_option maxHeartbeats 1000000 in
theorem poolFits_any (nm : ByteArray) (k ad : Int) (pl : Nat) (vb vr vt : Value) (w : World) : Calls Tryz.prog 75 #[devA nm k ad pl vb vr vt] w fun e w' => e = .returned (.bool (poolF k pl)) ∧ Below w.heap.size w w' := by
  have D0 := Below.alN (Below.refl w.heap.size w) (.cells #[.string nm, .int .i64 k, .int .i64 ad, .int .u8 (pl : Int), vb, vr, vt] 62)
  unfold poolF
  cases h1 : ((pl : Int) == 0) <;> cases h2 : (k == 4)
  all_goals
    go_enter Tryz.func75, Tryz.ntmps75
    go_wp2_with fail
    go_ret
    exact ⟨by first | rfl | (simp; simpa using h1) | simp, D0⟩
def listsF (k : Int) (nr nt : Nat) : Bool := ((k == 2) || (k == 3) || decide (nr = 0)) && ((k == 2) || decide (nt = 0))
set_option maxHeartbeats 2000000 in
theorem listsFit_any (nm : ByteArray) (k ad : Int) (pl : Nat) (vb : Value) (Ar At : Option Addr) (nr cr nt ct : Nat) (w : World) : Calls Tryz.prog 77 #[devA nm k ad pl vb (.slice Ar nr cr) (.slice At nt ct)] w fun e w' => e = .returned (.bool (listsF k nr nt)) ∧ Below w.heap.size w w' := by
  have D0 := Below.alN (Below.refl w.heap.size w) (.cells #[.string nm, .int .i64 k, .int .i64 ad, .int .u8 (pl : Int), vb, .slice Ar nr cr, .slice At nt ct] 62)
  unfold listsF
  have er : decide (nr = 0) = ((nr : Int) == 0) := by rw [Bool.eq_iff_iff]; simp
  have et : decide (nt = 0) = ((nt : Int) == 0) := by rw [Bool.eq_iff_iff]; simp
  rw [er, et]
  clear er et
  cases h2 : (k == 2) <;> cases h3 : (k == 3) <;> cases hr : ((nr : Int) == 0) <;> cases ht : ((nt : Int) == 0)
  all_goals
    go_enter Tryz.func77, Tryz.ntmps77
    go_wp2_with fail
    go_ret
    exact ⟨by first | rfl | simp, D0⟩
set_option maxHeartbeats 1000000 in
theorem aclCheck_any (A : Option Addr) (n cap : Nat) (w : World) : Calls Tryz.prog 78 #[.slice A n cap] w fun e w' => e = .returned (.int .i64 (if 8 < n then 2 else 0)) ∧ w' = w := by
  by_cases h : 8 < n
  · have t : decide ((8 : Int) < (n : Int)) = true := by simp; omega
    rw [if_pos h]
    go_enter Tryz.func78, Tryz.ntmps78
    go_wp2_with fail
    go_ret
    exact ⟨rfl, rfl⟩
  · have t : decide ((8 : Int) < (n : Int)) = false := by simp; omega
    rw [if_neg h]
    go_enter Tryz.func78, Tryz.ntmps78
    go_wp2_with fail
    go_ret
    exact ⟨rfl, rfl⟩
end Go.Proofs.YtlmmeppifkigeaaGreat
