/-
  fib.Out.
-/
import Derived.Test.YthioedgnambomaaGreatIsR
import Derived.Test.YthioedgnambomaaGreatXAB
import Derived.Test.YthioedgnambomaaGreatXAA
import Derived.Laws.AppendOwnNone
import Derived.Lib.SliceRun
import Derived.ChangeKeysEq
namespace Go.Proofs.YthioedgnambomaaGreat
open Go.RowKit

theorem belowN {B : Nat} {a w : World} (h : Below B a w) (n : Nat) : Below B a (w.drewN n) := h.trans ⟨rfl, rfl, rfl, Nat.le_refl _, fun _ _ => rfl⟩
/-- A route in a block of a call's own. -/
def BoxR (w : World) (n : Nat) (v m p : Int) : Prop := Three w n (.int .i64 v) (.int .i64 m) (.int .i64 p) ∧ w.frozen? ⟨n, 0, none⟩ = false ∧ w.frozen? ⟨n, 1, none⟩ = false ∧ w.frozen? ⟨n, 2, none⟩ = false
theorem BoxR.below {B : Nat} {W w' : World} {n : Nat} {v m p : Int} (h : BoxR W n v m p) (hb : Below B W w') (hB : n < B) : BoxR w' n v m p :=
  ⟨keepThree hb hB h.1, (hb.frozen (p := ⟨n, 0, none⟩) hB).trans h.2.1, (hb.frozen (p := ⟨n, 1, none⟩) hB).trans h.2.2.1, (hb.frozen (p := ⟨n, 2, none⟩) hB).trans h.2.2.2⟩
theorem BoxR.alloc {w : World} {n : Nat} {v m p : Int} (h : BoxR w n v m p) (o : Obj) : BoxR (w.alloc o) n v m p := h.below ((Below.refl _ _).alloc (Nat.le_refl _) o) h.1.1
theorem box_new (w : World) (v m p : Int) (t : TypeId) : BoxR (w.alloc (.cells #[.int .i64 v, .int .i64 m, .int .i64 p] t)) w.heap.size v m p :=
  ⟨three_new w _ _ _ t, by simp [go_sem], by simp [go_sem], by simp [go_sem]⟩
theorem setBoxR {w : World} {n : Nat} {v m p : Int} (h : BoxR w n v m p) (x y z : Int) :
    BoxR (((w.setCell ⟨n, 0, none⟩ (.int .i64 x)).setCell ⟨n, 1, none⟩ (.int .i64 y)).setCell ⟨n, 2, none⟩ (.int .i64 z)) n x y z := by
  obtain ⟨⟨h0, h1, h2, h3⟩, k1, k2, k3⟩ := h
  refine ⟨⟨by simpa using h0, ?_, ?_, ?_⟩, ?_, ?_, ?_⟩ <;> simp [go_sem, h1, h2, h3, k1, k2, k3]

set_option maxHeartbeats 4000000 in
set_option maxRecDepth 100000 in
theorem out_row (b o cap : Nat) (xs : List Rt) (d : Int) (w : World) (hb : b < w.heap.size) (hn : xs.length ≤ cap) (hcap : cap ≤ maxLen) (hr : Hid (TAt w b o xs)) (h0 : 0 ≤ d) (h1 : d < 16) :
    Calls Tryz.prog 93 #[.slice (some ⟨b, o, none⟩) xs.length cap, .int .i64 d] w fun e w' => e = .returned (.tuple #[.int .i64 (bestOf xs d).2, .bool (!((bestOf xs d).1 == -1))]) ∧ Below w.heap.size w w' := by
  unfold maxLen at hcap
  have t1 : decide (d < 0) = false := by simp; omega
  have t2 : decide (16 ≤ d) = false := by simp; omega
  have D0 := Below.al (Below.refl w.heap.size w) (.cells #[.int .i64 0, .int .i64 (-1), .int .i64 0] 115)
  have B0 := box_new w 0 (-1) 0 115
  clear h0 h1
  go_enter Tryz.func93, Tryz.ntmps93
  go_wp2_with fail
  go_loopw [18] (fun i wr => ∃ k : Nat, ∃ v m p : Int, i = .int .i64 (k : Int) ∧ k ≤ xs.length ∧ Below w.heap.size w wr ∧ BoxR wr w.heap.size v m p ∧ Hid (bestOf (xs.take k) d = (m, p))) (fun i _ => xs.length - (intOf i).toNat)
  case atStart => exact ⟨0, 0, -1, 0, rfl, by omega, D0, B0, rfl⟩
  case round =>
    obtain ⟨k, v, m, p, rfl, hk, D1, B1, hl⟩ := hrel
    by_cases hlt : k < xs.length
    · obtain ⟨r, hxk⟩ : ∃ r, xs[k]? = some r := ⟨_, List.getElem?_eq_getElem hlt⟩
      obtain ⟨c0, c1, c2⟩ := (hr.out.below D1 hb).at hxk
      have Hd : Hid (bestOf (xs.take (k + 1)) d = if isR r && takesB r d && decide (m < r.b) then (r.b, r.p) else (m, p)) := by
        show _ = _
        rw [bestOf_take hxk, hl.out]
        rfl
      have IS : Hid (∀ w, Calls Tryz.prog 77 #[rtw r.v r.b r.p] w fun e w' => e = .returned (.bool (isR r)) ∧ Below w.heap.size w w') := fun w => isRoute_any r w
      have TK : Hid (isR r = true → ∀ w, Calls Tryz.prog 102 #[rtw r.v r.b r.p, .int .i64 d] w fun e w' => e = .returned (.bool (takesB r d)) ∧ Below w.heap.size w w') := fun h w => takes_any r d w h
      have D2 := Below.al D1 (.cells #[.int .i64 r.v, .int .i64 r.b, .int .i64 r.p] 115)
      have B2 := B1.alloc (.cells #[.int .i64 r.v, .int .i64 r.b, .int .i64 r.p] 115)
      have T2 := three_new wr (.int .i64 r.v) (.int .i64 r.b) (.int .i64 r.p) 115
      have lw := D1.size
      have lb := B1.1.1
      obtain ⟨⟨_, g0, g1, g2⟩, _⟩ := id B2
      clear hxk hl B1 D1 hr D0 B0
      generalize isR r = x at *
      generalize takesB r d = y at *
      generalize r.v = rv0 at *
      generalize r.b = rb0 at *
      generalize r.p = rp0 at *
      go_wp2_with fail
      refine (IS.out _).mono ?_
      rintro e w3 ⟨rfl, hb3⟩
      have D3 := chn hb3 D2
      have B3 := B2.below hb3 (by simp; omega)
      have T3 := keepThree hb3 (by simp) T2
      clear hb3 D2 B2 T2 g0 g1 g2 c0 c1 c2 IS
      cases x
      · go_wp2_with fail
        go_roundw
        case rel => exact ⟨k + 1, v, m, p, by go_num, by omega, D3, B3, by show _ = _; rw [Hd.out]; simp⟩
        case measure => simp [intOf]; omega
      · obtain ⟨_, z0, z1, z2⟩ := id T3
        go_wp2_with fail
        refine (TK.out (by trivial) _).mono ?_
        rintro e w4 ⟨rfl, hb4⟩
        have D4 := chn hb4 D3
        have B4 := B3.below hb4 B3.1.1
        have T4 := keepThree hb4 T3.1 T3
        clear hb4 D3 B3 T3 z0 z1 z2 TK
        cases y
        · go_wp2_with fail
          go_roundw
          case rel => exact ⟨k + 1, v, m, p, by go_num, by omega, D4, B4, by show _ = _; rw [Hd.out]; simp⟩
          case measure => simp [intOf]; omega
        · obtain ⟨_, z0, z1, z2⟩ := id T4
          obtain ⟨⟨_, q0, q1, q2⟩, f0, f1, f2⟩ := id B4
          cases hm : decide (m < rb0)
          · have Hn : Hid (bestOf (xs.take (k + 1)) d = (m, p)) := by show _ = _; rw [Hd.out, hm]; simp
            clear Hd
            go_wp2_with fail
            go_roundw
            case rel => exact ⟨k + 1, v, m, p, by go_num, by omega, D4, B4, Hn⟩
            case measure => simp [intOf]; omega
          · have Hn : Hid (bestOf (xs.take (k + 1)) d = (rb0, rp0)) := by show _ = _; rw [Hd.out, hm]; simp
            clear Hd
            have B5 := setBoxR B4 rv0 rb0 rp0
            have D5 := ((D4.setCell (p := ⟨w.heap.size, 0, none⟩) (Nat.le_refl _) (.int .i64 rv0)).setCell (p := ⟨w.heap.size, 1, none⟩) (Nat.le_refl _) (.int .i64 rb0)).setCell (p := ⟨w.heap.size, 2, none⟩) (Nat.le_refl _) (.int .i64 rp0)
            go_wp2_with fail
            go_roundw
            case rel => exact ⟨k + 1, rv0, rb0, rp0, by go_num, by omega, D5, B5, Hn⟩
            case measure => simp [intOf]; omega
    · obtain rfl : k = xs.length := by omega
      have Hn : Hid (bestOf xs d = (m, p)) := by
        have := hl.out
        rw [List.take_length] at this
        exact this
      obtain ⟨⟨_, q0, q1, q2⟩, f0, f1, f2⟩ := id B1
      go_wp2_with fail
      go_quiet (fail)
      go_wp2_with fail
      go_ret2
      exact ⟨by rw [Hn.out]; rfl, belowN D1 _⟩

set_option maxHeartbeats 1000000 in
theorem out_none (A : Option Addr) (cap : Nat) (d : Int) (w : World) (h0 : 0 ≤ d) (h1 : d < 16) :
    Calls Tryz.prog 93 #[.slice A 0 cap, .int .i64 d] w fun e w' => e = .returned (.tuple #[.int .i64 0, .bool false]) ∧ Below w.heap.size w w' := by
  have t1 : decide (d < 0) = false := by simp; omega
  have t2 : decide (16 ≤ d) = false := by simp; omega
  have D0 := Below.al (Below.refl w.heap.size w) (.cells #[.int .i64 0, .int .i64 (-1), .int .i64 0] 115)
  have B0 := box_new w 0 (-1) 0 115
  clear h0 h1
  go_enter Tryz.func93, Tryz.ntmps93
  go_wp2_with fail
  go_loopw [18] (fun i wr => i = .int .i64 0 ∧ Below w.heap.size w wr ∧ BoxR wr w.heap.size 0 (-1) 0) (fun i _ => 0)
  case atStart => exact ⟨rfl, D0, B0⟩
  case round =>
    obtain ⟨rfl, D1, B1⟩ := hrel
    obtain ⟨⟨_, q0, q1, q2⟩, f0, f1, f2⟩ := id B1
    go_wp2_with fail
    go_quiet (fail)
    go_wp2_with fail
    go_ret2
    exact ⟨rfl, belowN D1 _⟩

set_option maxHeartbeats 400000 in
theorem out_wide (v : Value) (d : Int) (w : World) (h : d < 0 ∨ 16 ≤ d) :
    Calls Tryz.prog 93 #[v, .int .i64 d] w fun e w' => e = .returned (.tuple #[.int .i64 0, .bool false]) ∧ Below w.heap.size w w' := by
  by_cases h0 : d < 0
  · have t1 : decide (d < 0) = true := by simp; omega
    go_enter Tryz.func93, Tryz.ntmps93
    go_wp2_with fail
    go_ret2
    exact ⟨rfl, Below.refl _ _⟩
  · have t1 : decide (d < 0) = false := by simp; omega
    have t2 : decide (16 ≤ d) = true := by simp; omega
    go_enter Tryz.func93, Tryz.ntmps93
    go_wp2_with fail
    go_ret2
    exact ⟨rfl, Below.refl _ _⟩

/-- Out. -/
theorem out_any {v : Value} {xs : List Rt} (d : Int) (w : World) (h : Routes w.heap.size w v xs) :
    Calls Tryz.prog 93 #[v, .int .i64 d] w fun e w' => e = .returned (.tuple #[.int .i64 (outN xs d), .bool (outB xs d)]) ∧ Below w.heap.size w w' := by
  by_cases hd : 0 ≤ d ∧ d < 16
  · have e1 : outN xs d = (bestOf xs d).2 := by unfold outN; rw [if_pos hd]
    have e2 : outB xs d = !((bestOf xs d).1 == -1) := by unfold outB; simp [hd]
    rw [e1, e2]
    obtain ⟨A, cap, rfl, _, h1, h2, h3⟩ := h
    by_cases hx : xs = []
    · subst hx
      exact out_none A cap d w hd.1 hd.2
    · obtain ⟨b, o, rfl, hb, hr⟩ := h3 hx
      exact out_row b o cap xs d w hb h1 h2 hr hd.1 hd.2
  · have e1 : outN xs d = 0 := by unfold outN; rw [if_neg hd]
    have e2 : outB xs d = false := by
      unfold outB
      by_cases h0 : 0 ≤ d
      · have : ¬ d < 16 := fun h1 => hd ⟨h0, h1⟩
        simp [this]
      · simp [h0]
    rw [e1, e2]
    exact out_wide v d w (by omega)
end Go.Proofs.YthioedgnambomaaGreat



namespace Go.Proofs.YthioedgnambomaaGreat
open Go.RowKit

set_option maxHeartbeats 1000000 in
theorem same_any (r s : Rt) (w : World) : Calls Tryz.prog 80 #[rtw r.v r.b r.p, rtw s.v s.b s.p] w fun e w' => e = .returned (.bool (sameA r s)) ∧ Below w.heap.size w w' := by
  obtain ⟨v, b, p⟩ := r
  obtain ⟨v', b', p'⟩ := s
  unfold sameA
  simp only
  cases h : (v == v')
  · go_enter Tryz.func80, Tryz.ntmps80
    go_wp2_with fail
    go_ret
    exact ⟨by simp, by go_grown⟩
  · go_enter Tryz.func80, Tryz.ntmps80
    go_wp2_with fail
    go_ret
    exact ⟨by simp, by go_grown⟩

set_option maxHeartbeats 1000000 in
theorem pred_any (a r : Rt) (n0 : Nat) (w : World) (hT : Three w n0 (.int .i64 r.v) (.int .i64 r.b) (.int .i64 r.p)) :
    Calls Tryz.prog 79 #[rtw a.v a.b a.p, .pointer (some ⟨n0, 0, none⟩)] w fun e w' => e = .returned (.bool (sameA a r)) ∧ Below w.heap.size w w' := by
  have D0 := Below.al (Below.refl w.heap.size w) (.cells #[.int .i64 a.v, .int .i64 a.b, .int .i64 a.p] 115)
  have T1 := allocThree hT (.cells #[.int .i64 a.v, .int .i64 a.b, .int .i64 a.p] 115)
  obtain ⟨l0, g0, g1, g2⟩ := T1
  obtain ⟨_, q0, q1, q2⟩ := id hT
  have SM : Hid (∀ w, Calls Tryz.prog 80 #[rtw a.v a.b a.p, rtw r.v r.b r.p] w fun e w' => e = .returned (.bool (sameA a r)) ∧ Below w.heap.size w w') := fun w => same_any a r w
  have hn := hT.1
  clear hT
  generalize sameA a r = x at *
  generalize a.v = av at *
  generalize a.b = ab at *
  generalize a.p = ap at *
  generalize r.v = rv at *
  generalize r.b = rb at *
  generalize r.p = rp at *
  go_enter Tryz.func79, Tryz.ntmps79
  go_wp2_with fail
  refine (SM.out _).mono ?_
  rintro e w1 ⟨rfl, hb1⟩
  have D1 := chn hb1 D0
  clear D0 hb1 g0 g1 g2 q0 q1 q2 SM
  go_wp2_with fail
  go_ret
  exact ⟨rfl, D1⟩

theorem any_take {xs : List Rt} {k : Nat} {a r : Rt} (h : xs[k]? = some a) : (xs.take (k + 1)).any (fun a => sameA a r) = ((xs.take k).any (fun a => sameA a r) || sameA a r) := by
  obtain ⟨hk, e⟩ := List.getElem?_eq_some_iff.1 h
  rw [List.take_succ_eq_append_getElem hk, e]
  simp
theorem any_here {xs : List Rt} {k : Nat} {a r : Rt} (h : xs[k]? = some a) (hs : sameA a r = true) : xs.any (fun a => sameA a r) = true :=
  List.any_eq_true.2 ⟨a, List.mem_of_getElem? h, hs⟩

set_option maxHeartbeats 4000000 in
set_option maxRecDepth 100000 in
theorem indexFunc_row (b o cap n0 : Nat) (xs : List Rt) (r : Rt) (w : World) (hb : b < w.heap.size) (hn : xs.length ≤ cap) (hcap : cap ≤ maxLen) (hr : Hid (TAt w b o xs)) (hT : Hid (Three w n0 (.int .i64 r.v) (.int .i64 r.b) (.int .i64 r.p))) :
    Calls Tryz.prog 92 #[.slice (some ⟨b, o, none⟩) xs.length cap, .func (.func 79) #[] #[.pointer (some ⟨n0, 0, none⟩)]] w fun e w' => ∃ j : Int, e = .returned (.int .i64 j) ∧ Hid (decide (0 ≤ j) = xs.any (fun a => sameA a r)) ∧ Below w.heap.size w w' := by
  unfold maxLen at hcap
  go_enter Tryz.func92, Tryz.ntmps92
  go_wp2_with fail
  go_loopw [8] (fun i wr => ∃ k : Nat, i = .int .i64 (k : Int) ∧ k ≤ xs.length ∧ Below w.heap.size w wr ∧ Hid ((xs.take k).any (fun a => sameA a r) = false)) (fun i _ => xs.length - (intOf i).toNat)
  case atStart => exact ⟨0, rfl, by omega, Below.refl _ _, rfl⟩
  case round =>
    obtain ⟨k, rfl, hk, D1, hno⟩ := hrel
    by_cases hlt : k < xs.length
    · obtain ⟨a, hxk⟩ : ∃ a, xs[k]? = some a := ⟨_, List.getElem?_eq_getElem hlt⟩
      obtain ⟨c0, c1, c2⟩ := (hr.out.below D1 hb).at hxk
      have PR : Hid (Calls Tryz.prog 79 #[rtw a.v a.b a.p, .pointer (some ⟨n0, 0, none⟩)] wr fun e w' => e = .returned (.bool (sameA a r)) ∧ Below wr.heap.size wr w') := pred_any a r n0 wr (keepThree D1 hT.out.1 hT.out)
      have HX : Hid (xs[k]? = some a) := hxk
      clear hr hxk
      cases hv : sameA a r
      · rw [hv] at PR
        have HV : Hid ((xs.take (k + 1)).any (fun a => sameA a r) = false) := by show _ = _; rw [any_take HX.out, hno.out, hv]; rfl
        clear hv hno HX hT
        generalize a.v = av at *
        generalize a.b = ab at *
        generalize a.p = ap at *
        go_wp2_with fail
        refine PR.out.mono ?_
        rintro e w2 ⟨rfl, hb2⟩
        have D2 := chn hb2 D1
        clear hb2 D1 c0 c1 c2 PR
        go_wp2_with fail
        go_roundw
        case rel => exact ⟨k + 1, by go_num, by omega, D2, HV⟩
        case measure => simp [intOf]; omega
      · rw [hv] at PR
        have fin : Hid (xs.any (fun a => sameA a r) = true) := any_here HX.out hv
        clear hv hno HX hT
        generalize a.v = av at *
        generalize a.b = ab at *
        generalize a.p = ap at *
        go_wp2_with fail
        refine PR.out.mono ?_
        rintro e w2 ⟨rfl, hb2⟩
        have D2 := chn hb2 D1
        clear hb2 D1 c0 c1 c2 PR
        go_wp2_with fail
        go_ret
        exact ⟨_, rfl, (by show _ = _; rw [fin.out]; simp), D2⟩
    · obtain rfl : k = xs.length := by omega
      have fin : Hid (xs.any (fun a => sameA a r) = false) := by
        have := hno.out
        rw [List.take_length] at this
        exact this
      go_wp2_with fail
      go_ret
      exact ⟨_, rfl, (by show _ = _; rw [fin.out]; simp), D1⟩
set_option maxHeartbeats 1000000 in
theorem indexFunc_none (A : Option Addr) (cap : Nat) (f : Value) (w : World) :
    Calls Tryz.prog 92 #[.slice A 0 cap, f] w fun e w' => ∃ j : Int, e = .returned (.int .i64 j) ∧ Hid (decide (0 ≤ j) = false) ∧ Below w.heap.size w w' := by
  go_enter Tryz.func92, Tryz.ntmps92
  go_wp2_with fail
  go_loopw [8] (fun i wr => i = .int .i64 0 ∧ Below w.heap.size w wr) (fun i _ => 0)
  case atStart => exact ⟨rfl, Below.refl _ _⟩
  case round =>
    obtain ⟨rfl, D1⟩ := hrel
    go_wp2_with fail
    go_ret
    exact ⟨_, rfl, (by show _ = _; decide), D1⟩
set_option maxHeartbeats 1000000 in
/-- Is there one alike? -/
theorem contains_any (b o cap n0 : Nat) (xs : List Rt) (r : Rt) (w : World) (hb : b < w.heap.size) (hn : xs.length ≤ cap) (hcap : cap ≤ maxLen) (hr : Hid (TAt w b o xs)) (hT : Hid (Three w n0 (.int .i64 r.v) (.int .i64 r.b) (.int .i64 r.p))) :
    Calls Tryz.prog 78 #[.slice (some ⟨b, o, none⟩) xs.length cap, .func (.func 79) #[] #[.pointer (some ⟨n0, 0, none⟩)]] w fun e w' => e = .returned (.bool (xs.any (fun a => sameA a r))) ∧ Below w.heap.size w w' := by
  have IX : Hid (Calls Tryz.prog 92 #[.slice (some ⟨b, o, none⟩) xs.length cap, .func (.func 79) #[] #[.pointer (some ⟨n0, 0, none⟩)]] w fun e w' => ∃ j : Int, e = .returned (.int .i64 j) ∧ Hid (decide (0 ≤ j) = xs.any (fun a => sameA a r)) ∧ Below w.heap.size w w') := indexFunc_row b o cap n0 xs r w hb hn hcap hr hT
  clear hr hT hn hcap hb
  generalize xs.any (fun a => sameA a r) = x at *
  generalize xs.length = n at *
  go_enter Tryz.func78, Tryz.ntmps78
  go_wp2_with fail
  refine IX.out.mono ?_
  rintro e w2 ⟨j, rfl, hj, hb2⟩
  clear IX
  go_wp2_with fail
  go_ret
  exact ⟨by rw [hj.out]; rfl, hb2⟩

set_option maxHeartbeats 4000000 in
set_option maxRecDepth 100000 in
theorem check_row (b o cap : Nat) (xs : List Rt) (w : World) (hb : b < w.heap.size) (hn : xs.length ≤ cap) (hcap : cap ≤ maxLen) (hr : Hid (TAt w b o xs)) (h8 : xs.length ≤ 8) :
    Calls Tryz.prog 55 #[.slice (some ⟨b, o, none⟩) xs.length cap] w fun e w' => e = .returned (.int .i64 (checkFrom xs 0)) ∧ Below w.heap.size w w' := by
  have hcap' := hcap
  unfold maxLen at hcap
  have t8 : decide ((8 : Int) < (xs.length : Int)) = false := by simp; omega
  go_enter Tryz.func55, Tryz.ntmps55
  go_wp2_with fail
  go_loopw [10] (fun i wr => ∃ k : Nat, i = .int .i64 (k : Int) ∧ k ≤ xs.length ∧ Below w.heap.size w wr ∧ Hid (checkFrom xs 0 = checkFrom xs k)) (fun i _ => xs.length - (intOf i).toNat)
  case atStart => exact ⟨0, rfl, by omega, Below.refl _ _, rfl⟩
  case round =>
    obtain ⟨k, rfl, hk, D1, hl⟩ := hrel
    by_cases hlt : k < xs.length
    · obtain ⟨r, hxk⟩ : ∃ r, xs[k]? = some r := ⟨_, List.getElem?_eq_getElem hlt⟩
      obtain ⟨c0, c1, c2⟩ := (hr.out.below D1 hb).at hxk
      have hlen : (xs.take k).length = k := by rw [List.length_take]; omega
      have Hd : Hid (checkFrom xs k = if (if isR r then (if (xs.take k).any (fun a => sameA a r) then 5 else 0) else 1 : Int) = 0 then checkFrom xs (k + 1) else (if isR r then (if (xs.take k).any (fun a => sameA a r) then 5 else 0) else 1 : Int)) := checkFrom_at hxk
      have IS : Hid (∀ w, Calls Tryz.prog 77 #[rtw r.v r.b r.p] w fun e w' => e = .returned (.bool (isR r)) ∧ Below w.heap.size w w') := fun w => isRoute_any r w
      have CO : Hid (∀ w', Below w.heap.size w w' → Three w' wr.heap.size (.int .i64 r.v) (.int .i64 r.b) (.int .i64 r.p) → Calls Tryz.prog 78 #[.slice (some ⟨b, o, none⟩) k cap, .func (.func 79) #[] #[.pointer (some ⟨wr.heap.size, 0, none⟩)]] w' fun e w'' => e = .returned (.bool ((xs.take k).any (fun a => sameA a r))) ∧ Below w'.heap.size w' w'') := fun w' hw hT => by
        have := contains_any b o cap wr.heap.size (xs.take k) r w' (Nat.lt_of_lt_of_le hb hw.size) (by omega) hcap' ((hr.out.below hw hb).take k) hT
        rw [hlen] at this
        exact this
      have D2 := Below.al D1 (.cells #[.int .i64 r.v, .int .i64 r.b, .int .i64 r.p] 115)
      have T2 := three_new wr (.int .i64 r.v) (.int .i64 r.b) (.int .i64 r.p) 115
      have lw := D1.size
      clear hxk D1 hr hlen hcap'
      generalize isR r = x at *
      generalize (xs.take k).any (fun a => sameA a r) = y at *
      generalize r.v = rv0 at *
      generalize r.b = rb0 at *
      generalize r.p = rp0 at *
      go_wp2_with fail
      refine (IS.out _).mono ?_
      rintro e w3 ⟨rfl, hb3⟩
      have D3 := chn hb3 D2
      have T3 := keepThree hb3 (by simp) T2
      clear hb3 D2 T2 c0 c1 c2 IS
      cases x
      · go_wp2_with fail
        go_ret
        exact ⟨by rw [hl.out, Hd.out]; simp, D3⟩
      · go_wp2_with fail
        refine (CO.out _ D3 T3).mono ?_
        rintro e w4 ⟨rfl, hb4⟩
        have D4 := chn hb4 D3
        clear hb4 D3 T3 CO
        cases y
        · go_wp2_with fail
          go_roundw
          case rel => exact ⟨k + 1, by go_num, by omega, D4, by show _ = _; rw [hl.out, Hd.out]; simp⟩
          case measure => simp [intOf]; omega
        · go_wp2_with fail
          go_ret
          exact ⟨by rw [hl.out, Hd.out]; simp, D4⟩
    · have fin : Hid (checkFrom xs 0 = 0) := by show _ = _; rw [hl.out, checkFrom_end (by omega)]
      go_wp2_with fail
      go_ret
      exact ⟨by rw [fin.out]; rfl, D1⟩
set_option maxHeartbeats 1000000 in
theorem check_none (A : Option Addr) (cap : Nat) (w : World) :
    Calls Tryz.prog 55 #[.slice A 0 cap] w fun e w' => e = .returned (.int .i64 0) ∧ Below w.heap.size w w' := by
  go_enter Tryz.func55, Tryz.ntmps55
  go_wp2_with fail
  go_loopw [10] (fun i wr => i = .int .i64 0 ∧ Below w.heap.size w wr) (fun i _ => 0)
  case atStart => exact ⟨rfl, Below.refl _ _⟩
  case round =>
    obtain ⟨rfl, D1⟩ := hrel
    go_wp2_with fail
    go_ret
    exact ⟨rfl, D1⟩
theorem check_large (A : Option Addr) (n cap : Nat) (w : World) (h : 8 < n) :
    Calls Tryz.prog 55 #[.slice A n cap] w fun e w' => e = .returned (.int .i64 2) ∧ Below w.heap.size w w' := by
  have t8 : decide ((8 : Int) < (n : Int)) = true := by simp; omega
  go_enter Tryz.func55, Tryz.ntmps55
  go_wp2_with fail
  go_ret
  exact ⟨rfl, Below.refl _ _⟩

/-- Check. -/
theorem check_any {v : Value} {xs : List Rt} (w : World) (h : Routes w.heap.size w v xs) :
    Calls Tryz.prog 55 #[v] w fun e w' => e = .returned (.int .i64 (checkV xs)) ∧ Below w.heap.size w w' := by
  obtain ⟨A, cap, rfl, _, h1, h2, h3⟩ := h
  unfold checkV
  by_cases h8 : 8 < xs.length
  · rw [if_pos h8]
    exact check_large A xs.length cap w h8
  · rw [if_neg h8]
    by_cases hx : xs = []
    · subst hx
      rw [checkFrom_end (by simp)]
      exact check_none A cap w
    · obtain ⟨b, o, rfl, hb, hr⟩ := h3 hx
      exact check_row b o cap xs w hb h1 h2 hr (by omega)
theorem checkV_len {xs : List Rt} (h : checkV xs = 0) : xs.length ≤ 8 := by
  unfold checkV at h
  split at h
  · simp at h
  · omega
end Go.Proofs.YthioedgnambomaaGreat



namespace Go.Proofs.YthioedgnambomaaGreat
open Go.RowKit

/-- What checkDevice tells, by its own tests. -/
def progDev (k ad : Int) (pl : Nat) (bs : List Int) (nr nt : Nat) (c : Int) : Int :=
  if (portsV k == 0) || !addrF k ad || !poolF k pl then 1 else if 3 < bs.length then 2 else if !backsF k ad bs || !listsF k nr nt then 1 else if 8 < nr then 2 else c
theorem progDev_eq (k ad : Int) (pl : Nat) (bs : List Int) (nr nt : Nat) (c : Int) : progDev k ad pl bs nr nt c = devV k ad pl bs nr nt c := by
  have ea : addrB ad = (decide (0 ≤ ad) && decide (ad ≤ 15)) := by
    unfold addrB
    congr 1
    rw [decide_eq_decide]
    omega
  have eb : decide (backsFrom bs ad 0 = 0) = !decide (backsFrom bs ad 0 = 1) := by
    rcases backsFrom_vals bs ad bs.length 0 (by omega) with h | h <;> rw [h] <;> rfl
  have ep : (!((pl : Int) == 0)) = decide (0 < pl) := by
    rw [Bool.eq_iff_iff]
    simp
    omega
  have el : decide (0 < bs.length) = !decide (bs.length = 0) := by
    rw [Bool.eq_iff_iff]
    simp only [decide_eq_true_eq, Bool.not_eq_true', decide_eq_false_iff_not]
    omega
  have er : decide (nr = 0) = !decide (0 < nr) := by
    rw [Bool.eq_iff_iff]
    simp
  have et : decide (nt = 0) = !decide (0 < nt) := by
    rw [Bool.eq_iff_iff]
    simp
  unfold progDev devV addrF poolF backsF listsF
  rw [ea, eb, ep, el, er, et]
  have ek : (portsV k == 0) = !(decide (1 ≤ k) && decide (k ≤ 5)) := by
    unfold portsV
    rw [Bool.eq_iff_iff]
    simp only [beq_iff_eq, Bool.not_eq_true', Bool.and_eq_false_iff, decide_eq_false_iff_not]
    split
    · omega
    · split
      · omega
      · split <;> omega
  rw [ek]
  cases hk : (decide (1 ≤ k) && decide (k ≤ 5))
  · simp
  · have hk' : 1 ≤ k ∧ k ≤ 5 := by simpa using hk
    generalize (decide (0 ≤ ad) && decide (ad ≤ 15)) = x1
    generalize decide (0 < pl) = x2
    generalize decide (bs.length = 0) = x3
    generalize decide (0 < nr) = x5
    generalize decide (0 < nt) = x6
    generalize (ad == 0) = x7
    by_cases h4 : backsFrom bs ad 0 = 1
    all_goals
      simp only [h4, decide_true, decide_false, if_true, if_false]
      have hkk : k = 1 ∨ k = 2 ∨ k = 3 ∨ k = 4 ∨ k = 5 := by omega
      rcases hkk with rfl | rfl | rfl | rfl | rfl <;> simp only [hasAddr] <;> cases x1 <;> cases x2 <;> cases x3 <;> cases x5 <;> cases x6 <;> cases x7 <;> simp
/-- What checkDevice tells. -/
def devTold (ahead : List Dv) (d : Dv) : Int := if nameOk d.name then (if ahead.any (fun x => x.name.toList == d.name.toList) then 5 else devC d) else 3
set_option maxHeartbeats 8000000 in
set_option maxRecDepth 100000 in
theorem checkDevice_any (d : Dv) (vb vr vt : Value) (A : Option Addr) (n cap : Nat) (ahead : List Dv) (w : World) (hA : Devs w.heap.size w (.slice A n cap) ahead) (hb : SlAt w.heap.size w 1 IsI vb d.backs) (hr : SlAt w.heap.size w 5 IsRule vr d.rules) (ht : SlAt w.heap.size w 3 IsRoute vt d.routes) :
    Calls Tryz.prog 24 #[devA d.name d.kind d.addr d.pool vb vr vt, .slice A n cap] w fun e w' => e = .returned (.int .i64 (devTold ahead d)) ∧ Below w.heap.size w w' := by
  have FC : Hid (∀ W, Below w.heap.size w W → Calls Tryz.prog 55 #[vt] W fun e w' => e = .returned (.int .i64 (checkV (d.routes.map rtOf))) ∧ Below W.heap.size W w') := fun W h => check_any W (routes_of (SlAt.mono (SlAt.below ht h (fun _ _ _ h => h)) h.size (fun _ _ _ h => h)))
  have FI : Hid (∀ W, Below w.heap.size w W → Calls Tryz.prog 49 #[.slice A n cap, .string d.name] W fun e w' => e = .returned (.tuple #[.int .i64 (if 0 ≤ findFrom ahead d.name.toList 0 then findFrom ahead d.name.toList 0 else 0), .bool (ahead.any (fun x => x.name.toList == d.name.toList))]) ∧ Below W.heap.size W w') := fun W h => by
    have := find_any A n cap ahead d.name W ((hA.below h).mono h.size)
    rw [findFrom_some] at this
    exact this
  have hb0 := hb
  obtain ⟨Ab, cb, rfl, _, b1, b2, _⟩ := hb
  obtain ⟨Ar, cr, rfl, _, r1, r2, _⟩ := hr
  obtain ⟨At, ct, rfl, _, t1, t2, _⟩ := ht
  have BF : Hid (∀ W, Below w.heap.size w W → Calls Tryz.prog 52 #[devA d.name d.kind d.addr d.pool (.slice Ab d.backs.length cb) (.slice Ar d.rules.length cr) (.slice At d.routes.length ct)] W fun e w' => e = .returned (.bool (backsF d.kind d.addr d.backs)) ∧ Below W.heap.size W w') := fun W h => backsFit_any _ _ _ _ _ _ _ _ _ W (SlAt.mono (SlAt.below hb0 h (fun _ _ _ h => h)) h.size (fun _ _ _ h => h)) b1 b2
  have NM : Hid (∀ w, Calls Tryz.prog 48 #[.string d.name] w fun e w' => e = .returned (.bool (nameOk d.name)) ∧ w' = w) := fun w => isName_any d.name w
  have PO : Hid (∀ w, Calls Tryz.prog 27 #[.int .i64 d.kind] w fun e w' => e = .returned (.int .i64 (portsV d.kind)) ∧ w' = w) := fun w => nports_any d.kind w
  have AF : Hid (∀ W, Calls Tryz.prog 50 #[devA d.name d.kind d.addr d.pool (.slice Ab d.backs.length cb) (.slice Ar d.rules.length cr) (.slice At d.routes.length ct)] W fun e w' => e = .returned (.bool (addrF d.kind d.addr)) ∧ Below W.heap.size W w') := fun W => addrFits_any _ _ _ _ _ _ _ W
  have PF : Hid (∀ W, Calls Tryz.prog 51 #[devA d.name d.kind d.addr d.pool (.slice Ab d.backs.length cb) (.slice Ar d.rules.length cr) (.slice At d.routes.length ct)] W fun e w' => e = .returned (.bool (poolF d.kind d.pool)) ∧ Below W.heap.size W w') := fun W => poolFits_any _ _ _ _ _ _ _ W
  have LF : Hid (∀ W, Calls Tryz.prog 53 #[devA d.name d.kind d.addr d.pool (.slice Ab d.backs.length cb) (.slice Ar d.rules.length cr) (.slice At d.routes.length ct)] W fun e w' => e = .returned (.bool (listsF d.kind d.rules.length d.routes.length)) ∧ Below W.heap.size W w') := fun W => listsFit_any _ _ _ _ _ _ _ _ _ _ _ W
  have AC : Hid (∀ w, Calls Tryz.prog 54 #[.slice Ar d.rules.length cr] w fun e w' => e = .returned (.int .i64 (if 8 < d.rules.length then 2 else 0)) ∧ w' = w) := fun w => aclCheck_any _ _ _ w
  generalize hres : devTold ahead d = res
  have HR : Hid (res = if nameOk d.name then (if ahead.any (fun x => x.name.toList == d.name.toList) then 5 else if (portsV d.kind == 0) || !addrF d.kind d.addr || !poolF d.kind d.pool then 1 else if 3 < d.backs.length then 2 else if !backsF d.kind d.addr d.backs || !listsF d.kind d.rules.length d.routes.length then 1 else if 8 < d.rules.length then 2 else checkV (d.routes.map rtOf)) else 3) := by
    show _ = _
    rw [← hres]
    unfold devTold devC
    rw [← progDev_eq]
    rfl
  clear hres hA hb0
  have D0 := Below.alN (Below.refl w.heap.size w) (.cells #[.string d.name, .int .i64 d.kind, .int .i64 d.addr, .int .u8 (d.pool : Int), .slice Ab d.backs.length cb, .slice Ar d.rules.length cr, .slice At d.routes.length ct] 41)
  have V0 := seven_new w (.string d.name) (.int .i64 d.kind) (.int .i64 d.addr) (.int .u8 (d.pool : Int)) (.slice Ab d.backs.length cb) (.slice Ar d.rules.length cr) (.slice At d.routes.length ct) 41
  generalize nameOk d.name = x0 at *
  generalize ahead.any (fun x => x.name.toList == d.name.toList) = x1 at *
  generalize (if 0 ≤ findFrom ahead d.name.toList 0 then findFrom ahead d.name.toList 0 else 0) = fi at *
  generalize portsV d.kind = pk at *
  generalize addrF d.kind d.addr = x3 at *
  generalize poolF d.kind d.pool = x4 at *
  generalize backsF d.kind d.addr d.backs = x5 at *
  generalize listsF d.kind d.rules.length d.routes.length = x6 at *
  generalize checkV (d.routes.map rtOf) = cv at *
  generalize d.backs.length = nb at *
  generalize d.rules.length = nr at *
  generalize d.routes.length = nt at *
  generalize d.name = nm at *
  generalize d.kind = kd at *
  generalize d.addr = ad at *
  generalize d.pool = pl at *
  go_enter Tryz.func24, Tryz.ntmps24
  go_wp2_with fail
  refine (NM.out _).mono ?_
  rintro e w' ⟨rfl, rfl⟩
  cases x0
  · go_wp2_with fail
    go_ret
    exact ⟨by rw [HR.out]; rfl, D0⟩
  go_wp2_with fail
  refine (FI.out _ D0).mono ?_
  rintro e w1 ⟨rfl, hb1⟩
  have D1 := chnN hb1 D0
  have V1 := V0.below hb1 V0.1
  clear hb1 D0 V0 FI NM
  obtain ⟨l1, q0, q1, q2, q3, q4, q5, q6⟩ := id V1
  cases x1
  · go_wp2_with fail
    refine (PO.out _).mono ?_
    rintro e w2 ⟨rfl, rfl⟩
    cases hpk : (pk == 0)
    · go_wp2_with fail
      refine (AF.out _).mono ?_
      rintro e w3 ⟨rfl, hb3⟩
      have D3 := chnN hb3 D1
      have V3 := V1.below hb3 V1.1
      clear hb3 D1 V1 AF PO q0 q1 q2 q3 q4 q5 q6
      obtain ⟨l3, q0, q1, q2, q3, q4, q5, q6⟩ := id V3
      cases x3
      · go_wp2_with fail
        go_ret
        exact ⟨by rw [HR.out, hpk]; rfl, D3⟩
      go_wp2_with fail
      refine (PF.out _).mono ?_
      rintro e w4 ⟨rfl, hb4⟩
      have D4 := chnN hb4 D3
      have V4 := V3.below hb4 V3.1
      clear hb4 D3 V3 PF q0 q1 q2 q3 q4 q5 q6
      obtain ⟨l4, q0, q1, q2, q3, q4, q5, q6⟩ := id V4
      cases x4
      · go_wp2_with fail
        go_ret
        exact ⟨by rw [HR.out, hpk]; rfl, D4⟩
      by_cases n3 : 3 < nb
      · have u3 : decide ((3 : Int) < (nb : Int)) = true := by simp; omega
        have HV : Hid (res = 2) := by show _ = _; rw [HR.out, hpk]; simp [n3]
        go_wp2_with fail
        go_ret
        exact ⟨by rw [HV.out]; rfl, D4⟩
      have u3 : decide ((3 : Int) < (nb : Int)) = false := by simp; omega
      have HR2 : Hid (res = if !x5 || !x6 then 1 else if 8 < nr then 2 else cv) := by show _ = _; rw [HR.out, hpk]; simp [n3]
      clear HR hpk
      go_wp2_with fail
      refine (BF.out _ D4).mono ?_
      rintro e w5 ⟨rfl, hb5⟩
      have D5 := chnN hb5 D4
      have V5 := V4.below hb5 V4.1
      clear hb5 D4 V4 BF q0 q1 q2 q3 q4 q5 q6
      obtain ⟨l5, q0, q1, q2, q3, q4, q5, q6⟩ := id V5
      cases x5
      · go_wp2_with fail
        go_ret
        exact ⟨by rw [HR2.out]; rfl, D5⟩
      go_wp2_with fail
      refine (LF.out _).mono ?_
      rintro e w6 ⟨rfl, hb6⟩
      have D6 := chnN hb6 D5
      have V6 := V5.below hb6 V5.1
      clear hb6 D5 V5 LF q0 q1 q2 q3 q4 q5 q6
      obtain ⟨l6, q0, q1, q2, q3, q4, q5, q6⟩ := id V6
      cases x6
      · go_wp2_with fail
        go_ret
        exact ⟨by rw [HR2.out]; rfl, D6⟩
      by_cases h8 : 8 < nr
      · have HV : Hid (res = 2) := by show _ = _; rw [HR2.out]; simp [h8]
        rw [if_pos h8] at AC
        go_wp2_with fail
        refine (AC.out _).mono ?_
        rintro e w7 ⟨rfl, rfl⟩
        go_wp2_with fail
        go_ret
        exact ⟨by rw [HV.out]; rfl, D6⟩
      · have HV : Hid (res = cv) := by show _ = _; rw [HR2.out]; simp [h8]
        rw [if_neg h8] at AC
        go_wp2_with fail
        refine (AC.out _).mono ?_
        rintro e w7 ⟨rfl, rfl⟩
        go_wp2_with fail
        refine (FC.out _ D6).mono ?_
        rintro e w8 ⟨rfl, hb8⟩
        have D8 := chnN hb8 D6
        go_wp2_with fail
        go_ret
        exact ⟨by rw [HV.out]; rfl, D8⟩
    · go_wp2_with fail
      go_ret
      exact ⟨by rw [HR.out, hpk]; rfl, D1⟩
  · go_wp2_with fail
    go_ret
    exact ⟨by rw [HR.out]; rfl, D1⟩
end Go.Proofs.YthioedgnambomaaGreat



namespace Go.Proofs.YthioedgnambomaaGreat
open Go.RowKit

theorem Seven.drew {w : World} {n : Nat} {a b c d e f g : Value} (h : Seven w n a b c d e f g) : Seven w.drew n a b c d e f g := h
set_option maxHeartbeats 8000000 in
set_option maxRecDepth 100000 in
theorem net_row (A B : Option Addr) (cap cap' : Nat) (ds : List Dv) (ls : List Lk) (res : Int) (w : World) (hD : Hid (Devs w.heap.size w (.slice A ds.length cap) ds)) (hL : Hid (Links w.heap.size w (.slice B ls.length cap') ls)) (h10 : ds.length ≤ 10) (h15 : ls.length ≤ 15) (HR : Hid (res = if devsFrom ds 0 = 0 then linksFrom ds ls 0 else devsFrom ds 0)) :
    Calls Tryz.prog 13 #[.agg #[.slice A ds.length cap, .slice B ls.length cap']] w fun e w' => e = .returned (.int .i64 res) ∧ Below w.heap.size w w' := by
  obtain ⟨_, hc, hm⟩ := hD.out.len
  obtain ⟨_, hc', hm'⟩ := hL.out.len
  unfold maxLen at hm hm'
  have t10 : decide ((10 : Int) < (ds.length : Int)) = false := by simp; omega
  have t15 : decide ((15 : Int) < (ls.length : Int)) = false := by simp; omega
  have D0 := Below.alN (Below.refl w.heap.size w) (.cells #[.slice A ds.length cap, .slice B ls.length cap'] 25)
  have B0 := box2_new w (.slice A ds.length cap) (.slice B ls.length cap') 25
  go_enter Tryz.func13, Tryz.ntmps13
  go_wp2_with fail
  go_loopw [21] (fun i wr => ∃ k : Nat, i = .int .i64 (k : Int) ∧ k ≤ ds.length ∧ Below w.heap.size w wr ∧ Box2 wr w.heap.size (.slice A ds.length cap) (.slice B ls.length cap') ∧ Hid (devsFrom ds 0 = devsFrom ds k)) (fun i _ => ds.length - (intOf i).toNat)
  case atStart => exact ⟨0, rfl, by omega, D0, B0, rfl⟩
  case round =>
    clear D0 B0
    obtain ⟨k, rfl, hk, D1, B1, hl⟩ := hrel
    by_cases hlt : k < ds.length
    · obtain ⟨d, hxk⟩ : ∃ d, ds[k]? = some d := ⟨_, List.getElem?_eq_getElem hlt⟩
      obtain ⟨b, o, vb, vr, vt, rfl, hb, z1, z2, z3, c0, c1, c2, c3, c4, c5, c6⟩ := (hD.out.below D1).at hxk
      obtain ⟨Ab, cb, rfl, _, _, _, _⟩ := z1
      obtain ⟨Ar, cr, rfl, _, _, _, _⟩ := z2
      obtain ⟨At, ct, rfl, _, _, _, _⟩ := z3
      have HF : Hid (devsFrom ds k = if devTold (ds.take k) d = 0 then devsFrom ds (k + 1) else devTold (ds.take k) d) := devsFrom_at hxk
      have CD : Hid (∀ W, Below w.heap.size w W → Calls Tryz.prog 24 #[devA d.name d.kind d.addr d.pool (.slice Ab d.backs.length cb) (.slice Ar d.rules.length cr) (.slice At d.routes.length ct), .slice (some ⟨b, o, none⟩) k cap] W fun e w' => e = .returned (.int .i64 (devTold (ds.take k) d)) ∧ Below W.heap.size W w') := fun W h => by
        have hd := hD.out.below h
        obtain ⟨b', o', vb', vr', vt', e1, _, s1, s2, s3, q0, q1, q2, q3, q4, q5, q6⟩ := hd.at hxk
        cases e1
        have g4 := (D1.cell (p := ⟨b, o + k * 7 + 4, none⟩) hb).symm.trans c4
        have g5 := (D1.cell (p := ⟨b, o + k * 7 + 5, none⟩) hb).symm.trans c5
        have g6 := (D1.cell (p := ⟨b, o + k * 7 + 6, none⟩) hb).symm.trans c6
        have f4 := (h.cell (p := ⟨b, o + k * 7 + 4, none⟩) hb).symm.trans q4
        have f5 := (h.cell (p := ⟨b, o + k * 7 + 5, none⟩) hb).symm.trans q5
        have f6 := (h.cell (p := ⟨b, o + k * 7 + 6, none⟩) hb).symm.trans q6
        obtain rfl := Option.some.inj (g4.symm.trans f4)
        obtain rfl := Option.some.inj (g5.symm.trans f5)
        obtain rfl := Option.some.inj (g6.symm.trans f6)
        exact checkDevice_any d _ _ _ _ k cap (ds.take k) W (Devs.mono (SlAt.take hd k (by omega)) h.size) (SlAt.mono s1 h.size (fun _ _ _ h => h)) (SlAt.mono s2 h.size (fun _ _ _ h => h)) (SlAt.mono s3 h.size (fun _ _ _ h => h))
      have k1 : (0 : Int) ≤ (k : Int) := by omega
      have k2 : (k : Int) < (ds.length : Int) := by omega
      have k3 : (k : Int) ≤ (cap : Int) := by omega
      have lw := D1.size
      clear hxk
      generalize devTold (ds.take k) d = dv at *
      generalize d.backs.length = nb at *
      generalize d.rules.length = nr at *
      generalize d.routes.length = nt at *
      generalize d.name = nm at *
      generalize d.kind = kd at *
      generalize d.addr = ad at *
      generalize d.pool = pl at *
      have D2 := Below.alN D1 (.cells #[.string nm, .int .i64 kd, .int .i64 ad, .int .u8 (pl : Int), .slice Ab nb cb, .slice Ar nr cr, .slice At nt ct] 41)
      have B2 := B1.alloc (.cells #[.string nm, .int .i64 kd, .int .i64 ad, .int .u8 (pl : Int), .slice Ab nb cb, .slice Ar nr cr, .slice At nt ct] 41)
      have V2 := seven_new wr (.string nm) (.int .i64 kd) (.int .i64 ad) (.int .u8 (pl : Int)) (.slice Ab nb cb) (.slice Ar nr cr) (.slice At nt ct) 41
      have D3 := D2.drew
      obtain ⟨_, f0, f1, _⟩ := id B2
      obtain ⟨_, v0, v1, v2, v3, v4, v5, v6⟩ := id V2
      clear hD hL
      go_wp2_with fail
      go_region_held3 (fun w' => w'.cell? ⟨w.heap.size, 0, none⟩ = some (.slice (some ⟨b, o, none⟩) ds.length cap) ∧ w'.cell? ⟨wr.heap.size, 0, none⟩ = some (.string nm) ∧ w'.cell? ⟨wr.heap.size, 1, none⟩ = some (.int .i64 kd) ∧ w'.cell? ⟨wr.heap.size, 2, none⟩ = some (.int .i64 ad) ∧ w'.cell? ⟨wr.heap.size, 3, none⟩ = some (.int .u8 (pl : Int)) ∧ w'.cell? ⟨wr.heap.size, 4, none⟩ = some (.slice Ab nb cb) ∧ w'.cell? ⟨wr.heap.size, 5, none⟩ = some (.slice Ar nr cr) ∧ w'.cell? ⟨wr.heap.size, 6, none⟩ = some (.slice At nt ct)) (go_keep) ((go_at_call 24; refine (CD.out _ D3).mono ?_; rintro e w2 ⟨rfl, hb2⟩; have D4 := chnN hb2 D3; have B4 := B2.drew.below hb2 B2.1; have V4 := V2.drew.below hb2 V2.1; obtain ⟨_, p0, p1, _⟩ := id B4; obtain ⟨_, r0, r1, r2, r3, r4, r5, r6⟩ := id V4))
      clear c0 c1 c2 c3 c4 c5 c6 f0 f1 v0 v1 v2 v3 v4 v5 v6 D1 D2 D3 B1 B2 V2 hb2 CD
      cases h0 : (dv == 0)
      · have HV : Hid (res = dv) := by
          have hne : ¬ dv = 0 := by simpa using h0
          show _ = _
          rw [HR.out, hl.out, HF.out, if_neg hne, if_neg hne]
        go_wp2_with fail
        go_ret
        exact ⟨by rw [HV.out]; rfl, D4⟩
      · have HV : Hid (devsFrom ds 0 = devsFrom ds (k + 1)) := by
          have he : dv = 0 := by simpa using h0
          show _ = _
          rw [hl.out, HF.out, if_pos he]
        go_wp2_with fail
        go_roundw
        case rel => exact ⟨k + 1, by go_num, by omega, D4, B4, HV⟩
        case measure => simp [intOf]; omega
    · have HZ : Hid (res = linksFrom ds ls 0) := by
        show _ = _
        rw [HR.out, hl.out, devsFrom_end (by omega), if_pos rfl]
      clear hl HR
      obtain ⟨_, g0, g1, _⟩ := id B1
      go_wp2_with fail
      go_loopw [39] (fun i wr => ∃ k : Nat, i = .int .i64 (k : Int) ∧ k ≤ ls.length ∧ Below w.heap.size w wr ∧ Box2 wr w.heap.size (.slice A ds.length cap) (.slice B ls.length cap') ∧ Hid (res = linksFrom ds ls k)) (fun i _ => ls.length - (intOf i).toNat)
      case atStart => exact ⟨0, rfl, by omega, D1, B1, HZ⟩
      case round =>
        clear D1 B1 HZ g0 g1
        obtain ⟨j, rfl, hj, D1, B1, hl⟩ := hrel
        by_cases hjl : j < ls.length
        · obtain ⟨l, hxk⟩ : ∃ l, ls[j]? = some l := ⟨_, List.getElem?_eq_getElem hjl⟩
          have HF : Hid (linksFrom ds ls j = if linkTold ds (ls.take j) l = 0 then linksFrom ds ls (j + 1) else linkTold ds (ls.take j) l) := linksFrom_at hxk
          have HX : Hid (ls[j]? = some l) := hxk
          have CD : Hid (∀ W, Below w.heap.size w W → Calls Tryz.prog 25 #[.agg #[.slice A ds.length cap, .slice B ls.length cap'], .int .i64 (j : Int)] W fun e w' => e = .returned (.int .i64 (linkTold ds (ls.take j) l)) ∧ Below W.heap.size W w') := fun W h => checkLink_any A B cap cap' ds ls j l W HX ((hD.out.below h).mono h.size) ((hL.out.below h).mono h.size)
          have lw := D1.size
          obtain ⟨_, g0, g1, _⟩ := id B1
          clear hxk HX hD hL
          generalize linkTold ds (ls.take j) l = dv at *
          go_wp2_with fail
          refine (CD.out _ D1).mono ?_
          rintro e w2 ⟨rfl, hb2⟩
          have D4 := chnN hb2 D1
          have B4 := B1.below hb2 B1.1
          clear D1 B1 hb2 CD g0 g1
          cases h0 : (dv == 0)
          · have HV : Hid (res = dv) := by
              have hne : ¬ dv = 0 := by simpa using h0
              show _ = _
              rw [hl.out, HF.out, if_neg hne]
            go_wp2_with fail
            go_ret
            exact ⟨by rw [HV.out]; rfl, D4⟩
          · have HV : Hid (res = linksFrom ds ls (j + 1)) := by
              have he : dv = 0 := by simpa using h0
              show _ = _
              rw [hl.out, HF.out, if_pos he]
            go_wp2_with fail
            go_roundw
            case rel => exact ⟨j + 1, by go_num, by omega, D4, B4, HV⟩
            case measure => simp [intOf]; omega
        · have HV : Hid (res = 0) := by
            show _ = _
            rw [hl.out, linksFrom_end (by omega)]
          go_wp2_with fail
          go_ret
          exact ⟨by rw [HV.out]; rfl, D1⟩
set_option maxHeartbeats 1000000 in
/-- Check. -/
theorem net_any (vd vl : Value) (ds : List Dv) (ls : List Lk) (w : World) (hD : Devs w.heap.size w vd ds) (hL : Links w.heap.size w vl ls) :
    Calls Tryz.prog 13 #[.agg #[vd, vl]] w fun e w' => e = .returned (.int .i64 (netV ds ls)) ∧ Below w.heap.size w w' := by
  have hD0 := hD
  have hL0 := hL
  obtain ⟨A, cap, rfl, _, _, _, _⟩ := hD
  obtain ⟨B, cap', rfl, _, _, _, _⟩ := hL
  unfold netV
  by_cases h : 10 < ds.length ∨ 15 < ls.length
  · rw [if_pos h]
    have D0 := Below.alN (Below.refl w.heap.size w) (.cells #[.slice A ds.length cap, .slice B ls.length cap'] 25)
    clear hD0 hL0
    by_cases h10 : 10 < ds.length
    · have t10 : decide ((10 : Int) < (ds.length : Int)) = true := by simp; omega
      clear h
      go_enter Tryz.func13, Tryz.ntmps13
      go_wp2_with fail
      go_ret
      exact ⟨rfl, D0⟩
    · have t10 : decide ((10 : Int) < (ds.length : Int)) = false := by simp; omega
      have t15 : decide ((15 : Int) < (ls.length : Int)) = true := by simp; omega
      clear h
      go_enter Tryz.func13, Tryz.ntmps13
      go_wp2_with fail
      go_ret
      exact ⟨rfl, D0⟩
  · rw [if_neg h]
    exact net_row A B cap cap' ds ls _ w hD0 hL0 (by omega) (by omega) rfl
end Go.Proofs.YthioedgnambomaaGreat



namespace Go.Proofs.YthioedgnambomaaGreat
open Go.RowKit

/-- What a device does hangs on what it did. -/
def remB (k : Int) : Bool := !(k == 1) && !(k == 2)
set_option maxHeartbeats 1000000 in
theorem rem_any (nm : ByteArray) (k ad : Int) (pl : Nat) (vb vr vt : Value) (w : World) :
    Calls Tryz.prog 15 #[devA nm k ad pl vb vr vt] w fun e w' => e = .returned (.bool (remB k)) ∧ Below w.heap.size w w' := by
  have D0 := Below.alN (Below.refl w.heap.size w) (.cells #[.string nm, .int .i64 k, .int .i64 ad, .int .u8 (pl : Int), vb, vr, vt] 41)
  by_cases h1 : k = 1
  · subst h1
    go_enter Tryz.func15, Tryz.ntmps15
    go_wp2_with fail
    go_ret
    exact ⟨rfl, D0⟩
  by_cases h2 : k = 2
  · subst h2
    go_enter Tryz.func15, Tryz.ntmps15
    go_wp2_with fail
    go_ret
    exact ⟨rfl, D0⟩
  have e1 : (k == 1) = false := by simpa using h1
  have e2 : (k == 2) = false := by simpa using h2
  have fin : Hid (remB k = true) := by show _ = _; unfold remB; rw [e1, e2]; rfl
  go_enter Tryz.func15, Tryz.ntmps15
  go_wp2_with fail
  go_ret
  exact ⟨by rw [fin.out]; simp [h1, h2], D0⟩
theorem any_takeD {ds : List Dv} {k : Nat} {x : Dv} {p : Dv → Bool} (h : ds[k]? = some x) : (ds.take (k + 1)).any p = ((ds.take k).any p || p x) := by
  rw [List.take_add_one, h]
  simp
set_option maxHeartbeats 4000000 in
set_option maxRecDepth 100000 in
theorem remIdx_any (A : Option Addr) (n cap : Nat) (ds : List Dv) (w : World) (hD : Hid (Devs w.heap.size w (.slice A n cap) ds)) :
    Calls Tryz.prog 26 #[.slice A n cap, .func (.func 15) #[] #[]] w fun e w' => ∃ j : Int, e = .returned (.int .i64 j) ∧ Hid (decide (0 ≤ j) = ds.any (fun d => remB d.kind)) ∧ Below w.heap.size w w' := by
  obtain ⟨rfl, hc, hm⟩ := hD.out.len
  unfold maxLen at hm
  go_enter Tryz.func26, Tryz.ntmps26
  go_wp2_with fail
  go_loopw [8] (fun i wr => ∃ k : Nat, i = .int .i64 (k : Int) ∧ k ≤ ds.length ∧ Below w.heap.size w wr ∧ Hid ((ds.take k).any (fun d => remB d.kind) = false)) (fun i _ => ds.length - (intOf i).toNat)
  case atStart => exact ⟨0, rfl, by omega, Below.refl _ _, rfl⟩
  case round =>
    obtain ⟨k, rfl, hk, D1, hno⟩ := hrel
    by_cases hlt : k < ds.length
    · obtain ⟨d, hxk⟩ : ∃ d, ds[k]? = some d := ⟨_, List.getElem?_eq_getElem hlt⟩
      obtain ⟨b, o, vb, vr, vt, rfl, hb, _, _, _, c0, c1, c2, c3, c4, c5, c6⟩ := (hD.out.below D1).at hxk
      have PR : Hid (Calls Tryz.prog 15 #[devA d.name d.kind d.addr d.pool vb vr vt] wr fun e w' => e = .returned (.bool (remB d.kind)) ∧ Below wr.heap.size wr w') := rem_any d.name d.kind d.addr d.pool vb vr vt wr
      have HX : Hid (ds[k]? = some d) := hxk
      have k1 : (0 : Int) ≤ (k : Int) := by omega
      have k2 : (k : Int) < (ds.length : Int) := by omega
      clear hxk hD
      cases hv : remB d.kind
      · rw [hv] at PR
        have HV : Hid ((ds.take (k + 1)).any (fun d => remB d.kind) = false) := by show _ = _; rw [any_takeD HX.out, hno.out, hv]; rfl
        clear hv hno HX
        generalize d.name = nm at *
        generalize d.kind = kd at *
        generalize d.addr = ad at *
        generalize d.pool = pl at *
        go_wp2_with fail
        refine PR.out.mono ?_
        rintro e w2 ⟨rfl, hb2⟩
        have D2 := chnN hb2 D1
        clear hb2 D1 c0 c1 c2 c3 c4 c5 c6 PR
        go_wp2_with fail
        go_roundw
        case rel => exact ⟨k + 1, by go_num, by omega, D2, HV⟩
        case measure => simp [intOf]; omega
      · rw [hv] at PR
        have fin : Hid (ds.any (fun d => remB d.kind) = true) := List.any_eq_true.2 ⟨d, List.mem_of_getElem? HX.out, hv⟩
        clear hv hno HX
        generalize d.name = nm at *
        generalize d.kind = kd at *
        generalize d.addr = ad at *
        generalize d.pool = pl at *
        go_wp2_with fail
        refine PR.out.mono ?_
        rintro e w2 ⟨rfl, hb2⟩
        have D2 := chnN hb2 D1
        clear hb2 D1 c0 c1 c2 c3 c4 c5 c6 PR
        go_wp2_with fail
        go_ret
        exact ⟨_, rfl, (by show _ = _; rw [fin.out]; simp), D2⟩
    · have fin : Hid (ds.any (fun d => remB d.kind) = false) := by
        have := hno.out
        rw [show k = ds.length by omega, List.take_length] at this
        exact this
      go_wp2_with fail
      go_ret
      exact ⟨_, rfl, (by show _ = _; rw [fin.out]; simp), D1⟩
set_option maxHeartbeats 1000000 in
theorem remHas_any (A : Option Addr) (n cap : Nat) (ds : List Dv) (w : World) (hD : Hid (Devs w.heap.size w (.slice A n cap) ds)) :
    Calls Tryz.prog 14 #[.slice A n cap, .func (.func 15) #[] #[]] w fun e w' => e = .returned (.bool (ds.any (fun d => remB d.kind))) ∧ Below w.heap.size w w' := by
  have IX : Hid (Calls Tryz.prog 26 #[.slice A n cap, .func (.func 15) #[] #[]] w fun e w' => ∃ j : Int, e = .returned (.int .i64 j) ∧ Hid (decide (0 ≤ j) = ds.any (fun d => remB d.kind)) ∧ Below w.heap.size w w') := remIdx_any A n cap ds w hD
  clear hD
  generalize ds.any (fun d => remB d.kind) = x at *
  go_enter Tryz.func14, Tryz.ntmps14
  go_wp2_with fail
  refine IX.out.mono ?_
  rintro e w2 ⟨j, rfl, hj, hb2⟩
  clear IX
  go_wp2_with fail
  go_ret
  exact ⟨by rw [hj.out]; rfl, hb2⟩
/-- What ring.Check tells. -/
def ringV (ds : List Dv) (ls : List Lk) : Int := if netV ds ls = 0 then (if ds.any (fun d => remB d.kind) then 1 else 0) else netV ds ls
theorem ringV_zero {ds : List Dv} {ls : List Lk} (h : ringV ds ls = 0) : netV ds ls = 0 ∧ ∀ d ∈ ds, d.kind = 1 ∨ d.kind = 2 := by
  unfold ringV at h
  split at h
  · rename_i hz
    refine ⟨hz, fun d hd => ?_⟩
    split at h
    · cases h
    · rename_i hn
      by_cases h1 : d.kind = 1
      · exact Or.inl h1
      by_cases h2 : d.kind = 2
      · exact Or.inr h2
      refine absurd (List.any_eq_true.2 ⟨d, hd, ?_⟩) hn
      unfold remB
      simp [h1, h2]
  · rename_i hz
    exact absurd h hz
set_option maxHeartbeats 2000000 in
theorem ringCheck_any (A B : Option Addr) (cap cap' : Nat) (ds : List Dv) (ls : List Lk) (w : World) (hD : Hid (Devs w.heap.size w (.slice A ds.length cap) ds)) (hL : Hid (Links w.heap.size w (.slice B ls.length cap') ls)) :
    Calls Tryz.prog 5 #[.agg #[.slice A ds.length cap, .slice B ls.length cap']] w fun e w' => e = .returned (.int .i64 (ringV ds ls)) ∧ Below w.heap.size w w' := by
  have D0 := Below.alN (Below.refl w.heap.size w) (.cells #[.slice A ds.length cap, .slice B ls.length cap'] 25)
  have B0 := box2_new w (.slice A ds.length cap) (.slice B ls.length cap') 25
  have CK : Hid (∀ W, Below w.heap.size w W → Calls Tryz.prog 13 #[.agg #[.slice A ds.length cap, .slice B ls.length cap']] W fun e w' => e = .returned (.int .i64 (netV ds ls)) ∧ Below W.heap.size W w') := fun W h => net_any _ _ ds ls W ((hD.out.below h).mono h.size) ((hL.out.below h).mono h.size)
  have RH : Hid (∀ W, Below w.heap.size w W → Calls Tryz.prog 14 #[.slice A ds.length cap, .func (.func 15) #[] #[]] W fun e w' => e = .returned (.bool (ds.any (fun d => remB d.kind))) ∧ Below W.heap.size W w') := fun W h => remHas_any A _ cap ds W ((hD.out.below h).mono h.size)
  have HV : Hid (ringV ds ls = if netV ds ls = 0 then (if ds.any (fun d => remB d.kind) then 1 else 0) else netV ds ls) := rfl
  generalize ringV ds ls = rv at *
  generalize netV ds ls = nv at *
  generalize ds.any (fun d => remB d.kind) = x at *
  clear hD hL
  obtain ⟨_, q0, q1, _⟩ := id B0
  go_enter Tryz.func5, Tryz.ntmps5
  go_wp2_with fail
  refine (CK.out _ D0).mono ?_
  rintro e w1 ⟨rfl, hb1⟩
  have D1 := chnN hb1 D0
  have B1 : Box2 w1 w.heap.size (.slice A ds.length cap) (.slice B ls.length cap') := B0.below hb1 B0.1
  clear hb1 B0 D0 q0 q1 CK
  obtain ⟨_, q0, q1, _⟩ := id B1
  by_cases hn : nv = 0
  · have hv := HV.out
    rw [if_pos hn] at hv
    have HV2 : Hid (rv = if x = true then 1 else 0) := hv
    clear HV hv
    subst hn
    go_wp2_with fail
    refine (RH.out _ D1).mono ?_
    rintro e w2 ⟨rfl, hb2⟩
    have D2 := chnN hb2 D1
    clear hb2 B1 D1 q0 q1 RH
    cases x
    · go_wp2_with fail
      go_ret
      exact ⟨by rw [HV2.out]; rfl, D2⟩
    · go_wp2_with fail
      go_ret
      exact ⟨by rw [HV2.out]; rfl, D2⟩
  · have hz1 : (nv == 0) = false := by simpa using hn
    have hv := HV.out
    rw [if_neg hn] at hv
    have HV2 : Hid (rv = nv) := hv
    clear HV hv
    have HNZ : Hid (¬ nv = 0) := hn
    clear hn
    go_wp2_with fail
    all_goals first | exact absurd (by assumption) HNZ.out | skip
    all_goals
      go_ret
      exact ⟨by rw [HV2.out]; first | rfl | simp, D1⟩
end Go.Proofs.YthioedgnambomaaGreat



namespace Go.Proofs.YthioedgnambomaaGreat
open Go.RowKit

abbrev prV (a b : Int) : Value := .agg #[.int .i64 a, .int .i64 b]
def cellsP (xs : List (Int × Int)) : List Value := xs.flatMap fun p => [.int .i64 p.1, .int .i64 p.2]
theorem cellsP_cons (p : Int × Int) (l : List (Int × Int)) : cellsP (p :: l) = .int .i64 p.1 :: .int .i64 p.2 :: cellsP l := rfl
theorem cellsP_append (a b : List (Int × Int)) : cellsP (a ++ b) = cellsP a ++ cellsP b := by simp [cellsP]
theorem cellsP_length : ∀ xs : List (Int × Int), (cellsP xs).length = xs.length * 2
  | [] => rfl
  | p :: l => by
    have := cellsP_length l
    rw [cellsP_cons, List.length_cons, List.length_cons, this, List.length_cons]
    omega
theorem cellsP_at : ∀ (xs : List (Int × Int)) (k : Nat) (p : Int × Int), xs[k]? = some p → (cellsP xs)[k * 2]? = some (.int .i64 p.1) ∧ (cellsP xs)[k * 2 + 1]? = some (.int .i64 p.2)
  | [], k, p, h => by simp at h
  | x :: l, 0, p, h => by
    obtain rfl : x = p := by simpa using h
    exact ⟨rfl, rfl⟩
  | x :: l, k + 1, p, h => by
    have ih := cellsP_at l k p (by simpa using h)
    rw [cellsP_cons, show (k + 1) * 2 = k * 2 + 1 + 1 by omega, show k * 2 + 1 + 1 + 1 = (k * 2 + 1) + 1 + 1 by omega]
    exact ih
/-- A slice of pairs, read. -/
def Prs (base : Nat) (w : World) (v : Value) (xs : List (Int × Int)) : Prop :=
  ∃ A cap, v = .slice A xs.length cap ∧ xs.length ≤ cap ∧ cap ≤ maxLen ∧ (xs ≠ [] → ∃ b o, A = some ⟨b, o, none⟩ ∧ b < base ∧ ∀ k p, xs[k]? = some p → w.cell? ⟨b, o + k * 2, none⟩ = some (.int .i64 p.1) ∧ w.cell? ⟨b, o + k * 2 + 1, none⟩ = some (.int .i64 p.2))
theorem Prs.below {base : Nat} {w w' : World} {v : Value} {xs : List (Int × Int)} (h : Prs base w v xs) (hb : Below base w w') : Prs base w' v xs := by
  obtain ⟨A, cap, e, h1, h2, h3⟩ := h
  refine ⟨A, cap, e, h1, h2, fun hn => ?_⟩
  obtain ⟨b, o, ea, hl, hr⟩ := h3 hn
  refine ⟨b, o, ea, hl, fun k p hk => ?_⟩
  obtain ⟨c0, c1⟩ := hr k p hk
  exact ⟨(hb.cell (p := ⟨b, _, none⟩) hl).trans c0, (hb.cell (p := ⟨b, _, none⟩) hl).trans c1⟩
theorem Prs.mono {base base' : Nat} {w : World} {v : Value} {xs : List (Int × Int)} (h : Prs base w v xs) (hb : base ≤ base') : Prs base' w v xs := by
  obtain ⟨A, cap, e, h1, h2, h3⟩ := h
  refine ⟨A, cap, e, h1, h2, fun hn => ?_⟩
  obtain ⟨b, o, ea, hl, hr⟩ := h3 hn
  exact ⟨b, o, ea, by omega, hr⟩
theorem Prs.own {base : Nat} {w : World} {t : TypeId} {v : Value} {xs : List (Int × Int)} (h : w.ownsRow base t 2 v xs.length (cellsP xs)) : Prs w.heap.size w v xs := by
  have hh := h
  obtain ⟨hl, hc⟩ := h
  rcases hc with ⟨rfl, h0⟩ | ⟨g, cap, cur, rfl, hb, hg, hn, hcap, hs, ht⟩
  · exact ⟨none, 0, by rw [h0], by omega, by unfold maxLen; omega, fun hn => absurd (List.length_eq_zero_iff.1 h0) hn⟩
  · refine ⟨_, cap, rfl, hn, hcap, fun _ => ⟨g, 0, rfl, (Array.getElem?_eq_some_iff.1 hg).1, fun k p hk => ?_⟩⟩
    obtain ⟨c0, c1⟩ := cellsP_at xs k p hk
    have e0 := hh.cells (g := g) rfl _ _ c0
    have e1 := hh.cells (g := g) rfl _ _ c1
    rw [Addr.add_lit] at e0 e1
    exact ⟨e0, e1⟩
theorem Tryz.uPairs : Tryz.prog.underlying 65 = some (.slice 68) := by kernel_rfl
theorem Tryz.infoPair : (Tryz.prog.info? 68).map (fun i => (i.zero, i.size, i.bytes)) = some (some (.agg #[.int .i64 0, .int .i64 0]), 2, 16) := by kernel_rfl
theorem pair_eq (a b c d : Int) (w : World) : (binOp .eql 68 (prV a b) (prV c d)).run Tryz.prog w = .ok (.bool ((a == c) && (b == d))) w := by
  obtain ⟨i, hi⟩ : ∃ i, Tryz.prog.info? 3 = some i := by
    have h : (Tryz.prog.info? 3).isSome = true := by kernel_rfl
    exact Option.isSome_iff_exists.1 h
  rw [run_eql_struct, show (10000 : Nat) = 9998 + 1 + 1 from rfl, run_equalIn_array w (9998 + 1) _ _ Tryz.underlying68 hi, nInt, show List.range 2 = [0, 1] from rfl]
  have p0 : ∀ (x y : Int) (w : World), (part 3 #[.int .i64 x, .int .i64 y] (0 * 1)).run Tryz.prog w = .ok (.int .i64 x) w := fun _ _ _ => by kernel_rfl
  have p1 : ∀ (x y : Int) (w : World), (part 3 #[.int .i64 x, .int .i64 y] 1).run Tryz.prog w = .ok (.int .i64 y) w := fun _ _ _ => by kernel_rfl
  have q : ∀ (x y : Int) (w : World), (Op.equalIn 9999 3 (.int .i64 x) (.int .i64 y)).run Tryz.prog w = .ok (x == y) w := fun x y w => run_equalIn_int w 9998 3 .i64 .i64 x y Tryz.underlying3
  simp only [Op.eqItems, Sem.run_bind, p0, Result.andThen_ok, q]
  cases h1 : (a == c) <;> cases h2 : (b == d) <;> simp [p1, q, h2]
end Go.Proofs.YthioedgnambomaaGreat



namespace Go.Proofs.YthioedgnambomaaGreat
open Go.RowKit

theorem any_takeP {xs : List (Int × Int)} {k : Nat} {p q : Int × Int} (h : xs[k]? = some p) : (xs.take (k + 1)).any (fun x => (q.1 == x.1) && (q.2 == x.2)) = ((xs.take k).any (fun x => (q.1 == x.1) && (q.2 == x.2)) || ((q.1 == p.1) && (q.2 == p.2))) := by
  obtain ⟨hk, e⟩ := List.getElem?_eq_some_iff.1 h
  rw [List.take_succ_eq_append_getElem hk, e]
  simp
def hasP (xs : List (Int × Int)) (q : Int × Int) : Bool := xs.any (fun x => (q.1 == x.1) && (q.2 == x.2))
set_option maxHeartbeats 4000000 in
set_option maxRecDepth 100000 in
theorem pairIdx_any (v : Value) (xs : List (Int × Int)) (a b : Int) (w : World) (hP : Hid (Prs w.heap.size w v xs)) :
    Calls Tryz.prog 47 #[v, prV a b] w fun e w' => ∃ j : Int, e = .returned (.int .i64 j) ∧ Hid (decide (0 ≤ j) = hasP xs (a, b)) ∧ Below w.heap.size w w' := by
  obtain ⟨A, cap, rfl, h1, h2, _⟩ := id hP.out
  unfold maxLen at h2
  generalize hres : hasP xs (a, b) = res
  have HR : Hid (hasP xs (a, b) = res) := hres
  clear hres
  have D0 := Below.alN (Below.refl w.heap.size w) (.cells #[.int .i64 a, .int .i64 b] 68)
  have B0 := box2_new w (.int .i64 a) (.int .i64 b) 68
  go_enter Tryz.func47, Tryz.ntmps47
  go_wp2_with fail
  go_loopw [8] (fun i wr => ∃ k : Nat, i = .int .i64 (k : Int) ∧ k ≤ xs.length ∧ Below w.heap.size w wr ∧ Box2 wr w.heap.size (.int .i64 a) (.int .i64 b) ∧ Hid ((xs.take k).any (fun x => (a == x.1) && (b == x.2)) = false)) (fun i _ => xs.length - (intOf i).toNat)
  case atStart => exact ⟨0, rfl, by omega, D0, B0, rfl⟩
  case round =>
    clear D0 B0
    obtain ⟨k, rfl, hk, D1, B1, hno⟩ := hrel
    by_cases hlt : k < xs.length
    · obtain ⟨p, hxk⟩ : ∃ p, xs[k]? = some p := ⟨_, List.getElem?_eq_getElem hlt⟩
      obtain ⟨A', cap', e, _, _, h3⟩ := hP.out.below D1
      cases e
      obtain ⟨g, o, rfl, hg, hc⟩ := h3 (fun e => by subst e; simp at hxk)
      obtain ⟨c0, c1⟩ := hc k p hxk
      have PE := fun w => pair_eq a b p.1 p.2 w
      have HT : Hid ((xs.take (k + 1)).any (fun x => (a == x.1) && (b == x.2)) = ((xs.take k).any (fun x => (a == x.1) && (b == x.2)) || ((a == p.1) && (b == p.2)))) := any_takeP (q := (a, b)) hxk
      have HM : Hid (((a == p.1) && (b == p.2)) = true → hasP xs (a, b) = true) := fun h => List.any_eq_true.2 ⟨p, List.mem_of_getElem? hxk, h⟩
      have k1 : (0 : Int) ≤ (k : Int) := by omega
      have k2 : (k : Int) < (xs.length : Int) := by omega
      obtain ⟨_, q0, q1, _⟩ := id B1
      clear hxk hc h3 hP
      generalize ((a == p.1) && (b == p.2)) = y at *
      generalize p.1 = px at *
      generalize p.2 = py at *
      cases y
      · have HV : Hid ((xs.take (k + 1)).any (fun x => (a == x.1) && (b == x.2)) = false) := by
          show _ = _
          rw [HT.out, hno.out]
          rfl
        clear HT HM hno
        go_wp2_with fail
        go_quiet (fail)
        go_wp2_with fail
        go_roundw
        case rel => exact ⟨k + 1, by go_num, by omega, belowNN D1 _, B1, HV⟩
        case measure => simp [intOf]; omega
      · have HV : Hid (res = true) := by
          show _ = _
          rw [← HR.out, HM.out rfl]
        clear HT HM hno
        go_wp2_with fail
        go_quiet (fail)
        go_wp2_with fail
        go_ret
        exact ⟨_, rfl, (by show _ = _; rw [HV.out]; simp), belowNN D1 _⟩
    · have HV : Hid (res = false) := by
        show _ = _
        rw [← HR.out]
        have := hno.out
        rw [show k = xs.length by omega, List.take_length] at this
        exact this
      go_wp2_with fail
      go_ret
      exact ⟨_, rfl, (by show _ = _; rw [HV.out]; simp), D1⟩
set_option maxHeartbeats 1000000 in
theorem pairHas_any (v : Value) (xs : List (Int × Int)) (a b : Int) (w : World) (hP : Prs w.heap.size w v xs) :
    Calls Tryz.prog 23 #[v, prV a b] w fun e w' => e = .returned (.bool (hasP xs (a, b))) ∧ Below w.heap.size w w' := by
  have D0 := Below.alN (Below.refl w.heap.size w) (.cells #[.int .i64 a, .int .i64 b] 68)
  have IX : Hid (∀ W, Below w.heap.size w W → Calls Tryz.prog 47 #[v, prV a b] W fun e w' => ∃ j : Int, e = .returned (.int .i64 j) ∧ Hid (decide (0 ≤ j) = hasP xs (a, b)) ∧ Below W.heap.size W w') := fun W h => pairIdx_any v xs a b W ((hP.below h).mono h.size)
  obtain ⟨A, cap, rfl, _, _, _⟩ := hP
  generalize hasP xs (a, b) = x at *
  go_enter Tryz.func23, Tryz.ntmps23
  go_wp2_with fail
  refine (IX.out _ D0).mono ?_
  rintro e w2 ⟨j, rfl, hj, hb2⟩
  have D2 := chnN hb2 D0
  clear IX
  go_wp2_with fail
  go_ret
  exact ⟨by rw [hj.out]; rfl, D2⟩
/-- append, of a row of the call's own and two pairs that lie somewhere. -/
theorem app_pairs {base : Nat} {w : World} {v : Value} {xs : List (Int × Int)} {tb : Nat} {a b c d : Int} (ty : TypeId) (h : w.ownsRow base 68 2 v xs.length (cellsP xs)) (c0 : w.cell? ⟨tb, 0, none⟩ = some (.int .i64 a)) (c1 : w.cell? ⟨tb, 1, none⟩ = some (.int .i64 b)) (c2 : w.cell? ⟨tb, 2, none⟩ = some (.int .i64 c)) (c3 : w.cell? ⟨tb, 3, none⟩ = some (.int .i64 d)) (hs : xs.length ≤ 1099511627776) (hb : base ≤ w.heap.size) :
    ∃ v' w', (Builtin.append_ #[65, 65] ty #[v, .slice (some ⟨tb, 0, none⟩) 2 2]).run Tryz.prog w = .ok v' w' ∧ w'.ownsRow base 68 2 v' (xs ++ [(a, b), (c, d)]).length (cellsP (xs ++ [(a, b), (c, d)])) ∧ w.grownBy w' v.ownBlock := by
  obtain ⟨i0, hi, hz0, hz1, hz2⟩ := info_parts Tryz.infoPair
  obtain ⟨v', w', hr, h4, h5, _⟩ := run_append_own (P := Tryz.prog) w base 65 ty 68 i0 _ 2 16 Tryz.uPairs hi hz0 hz1 hz2 rfl (by decide) v xs.length (cellsP xs) h ⟨tb, 0, none⟩ 2 2 (cellsP [(a, b), (c, d)]) rfl (fun j u hj => by
      rw [Addr.add_lit, Nat.zero_add]
      match j, hj with
      | 0, hj => obtain rfl := Option.some.inj hj; exact c0
      | 1, hj => obtain rfl := Option.some.inj hj; exact c1
      | 2, hj => obtain rfl := Option.some.inj hj; exact c2
      | 3, hj => obtain rfl := Option.some.inj hj; exact c3) (fun u hu => by
        simp only [cellsP, List.flatMap_cons, List.flatMap_nil, List.append_nil, List.cons_append, List.nil_append, List.mem_cons, List.not_mem_nil, or_false] at hu
        rcases hu with rfl | rfl | rfl | rfl <;> rfl) (by unfold maxLen; omega) (by omega) hb
  rw [List.length_append, cellsP_append]
  exact ⟨v', w', hr, h4, h5⟩
theorem Below.app2 {B base : Nat} {w0 w w' : World} {t : TypeId} {s n : Nat} {v : Value} {cs : List Value} (h : Below B w0 w) (ho : w.ownsRow base t s v n cs) (hg : w.grownBy w' v.ownBlock) (hB : B ≤ base) (hb : base ≤ w.heap.size) : Below B w0 w' :=
  h.grown hg (by omega) (fun k e => by have := (ho.lt k e).1; omega)
/-- append, by its run equation. -/
theorem append_run2 {P : Program} {w w' : World} {ops : Array Oper} {rest : List Oper} {o : Oper} {a : Act} {Q : Exit → Act → World → Prop} (hgd : o.guard = none) (s x : Operand) (t : TypeId)
    (ho : o.op = .call { callee := .builtin .append, args := #[s, x], argTypes := #[t, t] }) {v x' v' : Value} (hs : a.eval s = v) (hx : a.eval x = x') (hr : (Builtin.append_ #[t, t] o.type #[v, x']).run P w = .ok v' w')
    (h : wpList P ops Q rest (a.put o.dst v') w') : wpList P ops Q (o :: rest) a w := by
  refine wpList_plain hgd fun K hK => ?_
  unfold Oper.wp execOp
  simp only [ho, resolve, invoke, builtin, Sem.run_bind, Sem.run_pure, Result.andThen_ok, List.map_toArray, List.map_cons, List.map_nil, hs, hx, hr]
  exact hK _ _ h
end Go.Proofs.YthioedgnambomaaGreat



namespace Go.Proofs.YthioedgnambomaaGreat
open Go.RowKit

theorem inN (n lo hi : Int) (w : World) : Calls Tryz.prog 7 #[.int .i64 n, .int .i64 lo, .int .i64 hi] w fun e w' => e = .returned (.bool (decide (lo ≤ n) && decide (n ≤ hi))) ∧ w' = w := by
  by_cases h : lo ≤ n
  · go_enter Tryz.func7, Tryz.ntmps7
    go_wp2_with fail
    go_ret
    exact ⟨by simp [h], rfl⟩
  · have h' : decide (lo ≤ n) = false := by simp; omega
    go_enter Tryz.func7, Tryz.ntmps7
    go_wp2_with fail
    go_ret
    exact ⟨by simp, rfl⟩
set_option maxHeartbeats 1000000 in
theorem rports_any (k : Int) (w : World) : Calls Tryz.prog 8 #[.int .i64 k] w fun e w' => e = .returned (.int .i64 (portsV k)) ∧ Below w.heap.size w w' := by
  have IN : Hid (∀ w, Calls Tryz.prog 7 #[.int .i64 k, .int .i64 1, .int .i64 5] w fun e w' => e = .returned (.bool (decide (1 ≤ k) && decide (k ≤ 5))) ∧ w' = w) := fun w => inN k 1 5 w
  by_cases h : 1 ≤ k ∧ k ≤ 5
  · rw [show (decide (1 ≤ k) && decide (k ≤ 5)) = true by simp [h]] at IN
    have hk : k = 1 ∨ k = 2 ∨ k = 3 ∨ k = 4 ∨ k = 5 := by omega
    clear h
    rcases hk with rfl | rfl | rfl | rfl | rfl
    all_goals
      go_enter Tryz.func8, Tryz.ntmps8
      go_wp2_with fail
      refine (IN.out _).mono ?_
      rintro e w1 ⟨rfl, rfl⟩
      go_wp2_with fail
      go_ret
      exact ⟨rfl, Below.alN (Below.refl _ _) _⟩
  · rw [show (decide (1 ≤ k) && decide (k ≤ 5)) = false by
      rw [Bool.eq_false_iff]
      simp only [ne_eq, Bool.and_eq_true, decide_eq_true_eq]
      exact h] at IN
    have e : portsV k = 0 := by
      unfold portsV
      rw [if_neg (by omega), if_neg (by omega), if_neg (by omega)]
    rw [e]
    clear h e
    go_enter Tryz.func8, Tryz.ntmps8
    go_wp2_with fail
    refine (IN.out _).mono ?_
    rintro e w1 ⟨rfl, rfl⟩
    go_wp2_with fail
    go_ret
    exact ⟨rfl, Below.refl _ _⟩

set_option maxHeartbeats 4000000 in
set_option maxRecDepth 100000 in
theorem rpeer_any (vd : Value) (A : Option Addr) (n cap : Nat) (ls : List Lk) (d p : Int) (w : World) (hL : Hid (Links w.heap.size w (.slice A n cap) ls)) :
    Calls Tryz.prog 43 #[.agg #[vd, .slice A n cap], .agg #[.int .i64 d, .int .i64 p]] w fun e w' => e = .returned (.tuple #[placeV (peerF ls d p), .bool (peerF ls d p).isSome]) ∧ Below w.heap.size w w' := by
  obtain ⟨rfl, hc, hm⟩ := hL.out.len
  unfold maxLen at hm
  have D1 := Below.alN (Below.refl w.heap.size w) (.cells #[vd, .slice A ls.length cap] 25)
  have D2 := Below.alN D1 (.cells #[.int .i64 d, .int .i64 p] 27)
  have D3 := Below.alN D2 (.cells #[.int .i64 0, .int .i64 0] 27)
  have B1 := ((box2_new w vd (.slice A ls.length cap) 25).alloc (.cells #[.int .i64 d, .int .i64 p] 27)).alloc (.cells #[.int .i64 0, .int .i64 0] 27)
  have B2 := (box2_new (w.alloc (.cells #[vd, .slice A ls.length cap] 25)) (.int .i64 d) (.int .i64 p) 27).alloc (.cells #[.int .i64 0, .int .i64 0] 27)
  have B3 := box2_new ((w.alloc (.cells #[vd, .slice A ls.length cap] 25)).alloc (.cells #[.int .i64 d, .int .i64 p] 27)) (.int .i64 0) (.int .i64 0) 27
  simp only [World.size_alloc] at B2 B3
  go_enter Tryz.func43, Tryz.ntmps43
  go_wp2_with fail
  go_loopw [6] (fun i wr => ∃ k : Nat, i = .int .i64 (k : Int) ∧ k ≤ ls.length ∧ Below w.heap.size w wr ∧ Box2 wr w.heap.size vd (.slice A ls.length cap) ∧ Box2 wr (w.heap.size + 1) (.int .i64 d) (.int .i64 p) ∧ Box2 wr (w.heap.size + 1 + 1) (.int .i64 0) (.int .i64 0) ∧ Hid (peerF ls d p = peerF (ls.drop k) d p)) (fun i _ => ls.length - (intOf i).toNat)
  case atStart => exact ⟨0, rfl, by omega, D3, B1, B2, B3, rfl⟩
  case round =>
    clear B1 B2 B3 D1 D2 D3
    obtain ⟨k, rfl, hk, D1, B1, B2, B3, hl⟩ := hrel
    obtain ⟨n1, e0, e1, _⟩ := id B1
    by_cases hlt : k < ls.length
    · obtain ⟨l, hlk⟩ : ∃ l, ls[k]? = some l := ⟨_, List.getElem?_eq_getElem hlt⟩
      obtain ⟨b, o, rfl, hb, c0, c1, c2, c3⟩ := (hL.out.below D1).at hlk
      have Hd : Hid (peerF (ls.drop k) d p = (endOf l d p).or (peerF (ls.drop (k + 1)) d p)) := peerF_drop hlk d p
      have D2 := Below.alN D1 (.cells #[.int .i64 l.a, .int .i64 l.p, .int .i64 l.b, .int .i64 l.q] 67)
      have E1 := B1.alloc (.cells #[.int .i64 l.a, .int .i64 l.p, .int .i64 l.b, .int .i64 l.q] 67)
      have E2 := B2.alloc (.cells #[.int .i64 l.a, .int .i64 l.p, .int .i64 l.b, .int .i64 l.q] 67)
      have E3 := B3.alloc (.cells #[.int .i64 l.a, .int .i64 l.p, .int .i64 l.b, .int .i64 l.q] 67)
      have k1 : (0 : Int) ≤ (k : Int) := by omega
      have k2 : (k : Int) < (ls.length : Int) := by omega
      have lw := D1.size
      unfold endOf at Hd
      clear hlk hL
      generalize l.a = la at *
      generalize l.p = lp at *
      generalize l.b = lb at *
      generalize l.q = lq at *
      obtain ⟨n2, f0, f1, f2, f3⟩ := id E2
      obtain ⟨n3, g0, g1, g2, g3⟩ := id E3
      obtain ⟨m2, h0, h1, _⟩ := id B2
      cases x0 : ((la == d) && (lp == p))
      · cases x1 : ((lb == d) && (lq == p))
        · have Hn : Hid (peerF ls d p = peerF (ls.drop (k + 1)) d p) := by show _ = _; rw [hl.out, Hd.out, x0, x1]; rfl
          clear hl Hd
          cases y0 : (la == d)
          · cases y1 : (lb == d)
            · clear x0 x1
              go_wp2_with fail
              go_roundw
              case rel => exact ⟨k + 1, by go_num, by omega, D2, E1, E2, E3, Hn⟩
              case measure => simp [intOf]; omega
            · have y2 : (lq == p) = false := by rw [y1] at x1; simpa using x1
              clear x0 x1
              go_wp2_with fail
              go_roundw
              case rel => exact ⟨k + 1, by go_num, by omega, D2, E1, E2, E3, Hn⟩
              case measure => simp [intOf]; omega
          · have y3 : (lp == p) = false := by rw [y0] at x0; simpa using x0
            cases y1 : (lb == d)
            · clear x0 x1
              go_wp2_with fail
              go_roundw
              case rel => exact ⟨k + 1, by go_num, by omega, D2, E1, E2, E3, Hn⟩
              case measure => simp [intOf]; omega
            · have y2 : (lq == p) = false := by rw [y1] at x1; simpa using x1
              clear x0 x1
              go_wp2_with fail
              go_roundw
              case rel => exact ⟨k + 1, by go_num, by omega, D2, E1, E2, E3, Hn⟩
              case measure => simp [intOf]; omega
        · have Hn : Hid (peerF ls d p = some (la, lp)) := by show _ = _; rw [hl.out, Hd.out, x0, x1]; rfl
          clear hl Hd
          obtain ⟨y1, y2⟩ : (lb == d) = true ∧ (lq == p) = true := by simpa using x1
          cases y0 : (la == d)
          · clear x0 x1
            go_wp2_with fail
            refine bodyPost_ret (v := .tuple #[.agg #[.int .i64 la, .int .i64 lp], .bool true]) (by simp [results, Tryz.results43, go_sem, g0, g1]) rfl ⟨by rw [Hn.out]; rfl, ?_⟩
            exact (D2.setCell (by simp; omega) _).setCell (by simp; omega) _
          · have y3 : (lp == p) = false := by rw [y0] at x0; simpa using x0
            clear x0 x1
            go_wp2_with fail
            refine bodyPost_ret (v := .tuple #[.agg #[.int .i64 la, .int .i64 lp], .bool true]) (by simp [results, Tryz.results43, go_sem, g0, g1]) rfl ⟨by rw [Hn.out]; rfl, ?_⟩
            exact (D2.setCell (by simp; omega) _).setCell (by simp; omega) _
      · have Hn : Hid (peerF ls d p = some (lb, lq)) := by show _ = _; rw [hl.out, Hd.out, x0]; rfl
        clear hl Hd
        obtain ⟨y1, y2⟩ : (la == d) = true ∧ (lp == p) = true := by simpa using x0
        clear x0
        go_wp2_with fail
        refine bodyPost_ret (v := .tuple #[.agg #[.int .i64 lb, .int .i64 lq], .bool true]) (by simp [results, Tryz.results43, go_sem, g0, g1]) rfl ⟨by rw [Hn.out]; rfl, ?_⟩
        exact (D2.setCell (by simp; omega) _).setCell (by simp; omega) _
    · have Hn : Hid (peerF ls d p = none) := by show _ = _; rw [hl.out, List.drop_eq_nil_of_le (by omega)]; rfl
      obtain ⟨n3, g0, g1, g2, g3⟩ := id B3
      go_wp2_with fail
      refine bodyPost_ret (v := .tuple #[.agg #[.int .i64 0, .int .i64 0], .bool false]) (by simp [results, Tryz.results43, go_sem, g0, g1]) rfl ⟨by rw [Hn.out]; rfl, ?_⟩
      exact (D1.setCell (by simp; omega) _).setCell (by simp; omega) _
end Go.Proofs.YthioedgnambomaaGreat


