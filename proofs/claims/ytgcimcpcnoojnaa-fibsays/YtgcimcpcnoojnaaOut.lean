/-
  fib.Out.
-/
import Derived.Test.YtgcimcpcnoojnaaIsR
namespace Go.Proofs.Ytgcimcpcnoojnaa
open Go.RowKit

theorem belowN {B : Nat} {a w : World} (h : Below B a w) (n : Nat) : Below B a (w.drewN n) := h.trans ⟨rfl, rfl, rfl, Nat.le_refl _, fun _ _ => rfl⟩
/-- A route in a block of a call's own. -/
def BoxR (w : World) (n : Nat) (v m p : Int) : Prop := Three w n (.int .i64 v) (.int .i64 m) (.int .i64 p) ∧ w.frozen? ⟨n, 0, none⟩ = false ∧ w.frozen? ⟨n, 1, none⟩ = false ∧ w.frozen? ⟨n, 2, none⟩ = false
theorem BoxR.below {B : Nat} {W w' : World} {n : Nat} {v m p : Int} (h : BoxR W n v m p) (hb : Below B W w') (hB : n < B) : BoxR w' n v m p :=
  ⟨keepThree hb hB h.1, (hb.frozen (p := ⟨n, 0, none⟩) hB).trans h.2.1, (hb.frozen (p := ⟨n, 1, none⟩) hB).trans h.2.2.1, (hb.frozen (p := ⟨n, 2, none⟩) hB).trans h.2.2.2⟩
theorem BoxR.alloc {w : World} {n : Nat} {v m p : Int} (h : BoxR w n v m p) (o : Obj) : BoxR (w.alloc o) n v m p := h.below ((Below.refl _ _).alloc (Nat.le_refl _) o) h.1.1
theorem box_new (w : World) (v m p : Int) (t : TypeId) : BoxR (w.alloc (.cells #[.int .i64 v, .int .i64 m, .int .i64 p] t)) w.heap.size v m p :=
  ⟨three_new w _ _ _ t, by simp [go_sem], by simp [go_sem], by simp [go_sem]⟩
theorem setBoxR {w : World} {n : Nat} {v m p : Int} (h : BoxR w n v m p) (x y z : Int) :
    BoxR (((w.setCell ⟨n, 0, none⟩ (.int .i64 x)).setCell ⟨n, 1, none⟩ (.int .i64 y)).setCell ⟨n, 2, none⟩ (.int .i64 z)) n x y z := by
  obtain ⟨⟨h0, h1, h2, h3⟩, k1, k2, k3⟩ := h
  refine ⟨⟨by simpa using h0, ?_, ?_, ?_⟩, ?_, ?_, ?_⟩ <;> simp [go_sem, h1, h2, h3, k1, k2, k3]

set_option maxHeartbeats 4000000 in
set_option maxRecDepth 100000 in
theorem out_row (b o cap : Nat) (xs : List Rt) (d : Int) (w : World) (hb : b < w.heap.size) (hn : xs.length ≤ cap) (hcap : cap ≤ maxLen) (hr : Hid (TAt w b o xs)) (h0 : 0 ≤ d) (h1 : d < 16) :
    Calls Try.prog 33 #[.slice (some ⟨b, o, none⟩) xs.length cap, .int .i64 d] w fun e w' => e = .returned (.tuple #[.int .i64 (bestOf xs d).2, .bool (!((bestOf xs d).1 == -1))]) ∧ Below w.heap.size w w' := by
  unfold maxLen at hcap
  have t1 : decide (d < 0) = false := by simp; omega
  have t2 : decide (16 ≤ d) = false := by simp; omega
  have D0 := Below.al (Below.refl w.heap.size w) (.cells #[.int .i64 0, .int .i64 (-1), .int .i64 0] 109)
  have B0 := box_new w 0 (-1) 0 109
  clear h0 h1
  go_enter Try.func33, Try.ntmps33
  go_wp2_with fail
  go_loopw [18] (fun i wr => ∃ k : Nat, ∃ v m p : Int, i = .int .i64 (k : Int) ∧ k ≤ xs.length ∧ Below w.heap.size w wr ∧ BoxR wr w.heap.size v m p ∧ Hid (bestOf (xs.take k) d = (m, p))) (fun i _ => xs.length - (intOf i).toNat)
  case atStart => exact ⟨0, 0, -1, 0, rfl, by omega, D0, B0, rfl⟩
  case round =>
    obtain ⟨k, v, m, p, rfl, hk, D1, B1, hl⟩ := hrel
    by_cases hlt : k < xs.length
    · obtain ⟨r, hxk⟩ : ∃ r, xs[k]? = some r := ⟨_, List.getElem?_eq_getElem hlt⟩
      obtain ⟨c0, c1, c2⟩ := (hr.out.below D1 hb).at hxk
      have Hd : Hid (bestOf (xs.take (k + 1)) d = if isR r && takesB r d && decide (m < r.b) then (r.b, r.p) else (m, p)) := by
        show _ = _
        rw [bestOf_take hxk, hl.out]
        rfl
      have IS : Hid (∀ w, Calls Try.prog 78 #[rtw r.v r.b r.p] w fun e w' => e = .returned (.bool (isR r)) ∧ Below w.heap.size w w') := fun w => isRoute_any r w
      have TK : Hid (isR r = true → ∀ w, Calls Try.prog 79 #[rtw r.v r.b r.p, .int .i64 d] w fun e w' => e = .returned (.bool (takesB r d)) ∧ Below w.heap.size w w') := fun h w => takes_any r d w h
      have D2 := Below.al D1 (.cells #[.int .i64 r.v, .int .i64 r.b, .int .i64 r.p] 109)
      have B2 := B1.alloc (.cells #[.int .i64 r.v, .int .i64 r.b, .int .i64 r.p] 109)
      have T2 := three_new wr (.int .i64 r.v) (.int .i64 r.b) (.int .i64 r.p) 109
      have lw := D1.size
      have lb := B1.1.1
      obtain ⟨⟨_, g0, g1, g2⟩, _⟩ := id B2
      clear hxk hl B1 D1 hr D0 B0
      generalize isR r = x at *
      generalize takesB r d = y at *
      generalize r.v = rv0 at *
      generalize r.b = rb0 at *
      generalize r.p = rp0 at *
      go_wp2_with fail
      refine (IS.out _).mono ?_
      rintro e w3 ⟨rfl, hb3⟩
      have D3 := chn hb3 D2
      have B3 := B2.below hb3 (by simp; omega)
      have T3 := keepThree hb3 (by simp) T2
      clear hb3 D2 B2 T2 g0 g1 g2 c0 c1 c2 IS
      cases x
      · go_wp2_with fail
        go_roundw
        case rel => exact ⟨k + 1, v, m, p, by go_num, by omega, D3, B3, by show _ = _; rw [Hd.out]; simp⟩
        case measure => simp [intOf]; omega
      · obtain ⟨_, z0, z1, z2⟩ := id T3
        go_wp2_with fail
        refine (TK.out (by trivial) _).mono ?_
        rintro e w4 ⟨rfl, hb4⟩
        have D4 := chn hb4 D3
        have B4 := B3.below hb4 B3.1.1
        have T4 := keepThree hb4 T3.1 T3
        clear hb4 D3 B3 T3 z0 z1 z2 TK
        cases y
        · go_wp2_with fail
          go_roundw
          case rel => exact ⟨k + 1, v, m, p, by go_num, by omega, D4, B4, by show _ = _; rw [Hd.out]; simp⟩
          case measure => simp [intOf]; omega
        · obtain ⟨_, z0, z1, z2⟩ := id T4
          obtain ⟨⟨_, q0, q1, q2⟩, f0, f1, f2⟩ := id B4
          cases hm : decide (m < rb0)
          · have Hn : Hid (bestOf (xs.take (k + 1)) d = (m, p)) := by show _ = _; rw [Hd.out, hm]; simp
            clear Hd
            go_wp2_with fail
            go_roundw
            case rel => exact ⟨k + 1, v, m, p, by go_num, by omega, D4, B4, Hn⟩
            case measure => simp [intOf]; omega
          · have Hn : Hid (bestOf (xs.take (k + 1)) d = (rb0, rp0)) := by show _ = _; rw [Hd.out, hm]; simp
            clear Hd
            have B5 := setBoxR B4 rv0 rb0 rp0
            have D5 := ((D4.setCell (p := ⟨w.heap.size, 0, none⟩) (Nat.le_refl _) (.int .i64 rv0)).setCell (p := ⟨w.heap.size, 1, none⟩) (Nat.le_refl _) (.int .i64 rb0)).setCell (p := ⟨w.heap.size, 2, none⟩) (Nat.le_refl _) (.int .i64 rp0)
            go_wp2_with fail
            go_roundw
            case rel => exact ⟨k + 1, rv0, rb0, rp0, by go_num, by omega, D5, B5, Hn⟩
            case measure => simp [intOf]; omega
    · obtain rfl : k = xs.length := by omega
      have Hn : Hid (bestOf xs d = (m, p)) := by
        have := hl.out
        rw [List.take_length] at this
        exact this
      obtain ⟨⟨_, q0, q1, q2⟩, f0, f1, f2⟩ := id B1
      go_wp2_with fail
      go_quiet (fail)
      go_wp2_with fail
      go_ret2
      exact ⟨by rw [Hn.out]; rfl, belowN D1 _⟩

set_option maxHeartbeats 1000000 in
theorem out_none (A : Option Addr) (cap : Nat) (d : Int) (w : World) (h0 : 0 ≤ d) (h1 : d < 16) :
    Calls Try.prog 33 #[.slice A 0 cap, .int .i64 d] w fun e w' => e = .returned (.tuple #[.int .i64 0, .bool false]) ∧ Below w.heap.size w w' := by
  have t1 : decide (d < 0) = false := by simp; omega
  have t2 : decide (16 ≤ d) = false := by simp; omega
  have D0 := Below.al (Below.refl w.heap.size w) (.cells #[.int .i64 0, .int .i64 (-1), .int .i64 0] 109)
  have B0 := box_new w 0 (-1) 0 109
  clear h0 h1
  go_enter Try.func33, Try.ntmps33
  go_wp2_with fail
  go_loopw [18] (fun i wr => i = .int .i64 0 ∧ Below w.heap.size w wr ∧ BoxR wr w.heap.size 0 (-1) 0) (fun i _ => 0)
  case atStart => exact ⟨rfl, D0, B0⟩
  case round =>
    obtain ⟨rfl, D1, B1⟩ := hrel
    obtain ⟨⟨_, q0, q1, q2⟩, f0, f1, f2⟩ := id B1
    go_wp2_with fail
    go_quiet (fail)
    go_wp2_with fail
    go_ret2
    exact ⟨rfl, belowN D1 _⟩

set_option maxHeartbeats 400000 in
theorem out_wide (v : Value) (d : Int) (w : World) (h : d < 0 ∨ 16 ≤ d) :
    Calls Try.prog 33 #[v, .int .i64 d] w fun e w' => e = .returned (.tuple #[.int .i64 0, .bool false]) ∧ Below w.heap.size w w' := by
  by_cases h0 : d < 0
  · have t1 : decide (d < 0) = true := by simp; omega
    go_enter Try.func33, Try.ntmps33
    go_wp2_with fail
    go_ret2
    exact ⟨rfl, Below.refl _ _⟩
  · have t1 : decide (d < 0) = false := by simp; omega
    have t2 : decide (16 ≤ d) = true := by simp; omega
    go_enter Try.func33, Try.ntmps33
    go_wp2_with fail
    go_ret2
    exact ⟨rfl, Below.refl _ _⟩

/-- Out. -/
theorem out_any {v : Value} {xs : List Rt} (d : Int) (w : World) (h : Routes w.heap.size w v xs) :
    Calls Try.prog 33 #[v, .int .i64 d] w fun e w' => e = .returned (.tuple #[.int .i64 (outN xs d), .bool (outB xs d)]) ∧ Below w.heap.size w w' := by
  by_cases hd : 0 ≤ d ∧ d < 16
  · have e1 : outN xs d = (bestOf xs d).2 := by unfold outN; rw [if_pos hd]
    have e2 : outB xs d = !((bestOf xs d).1 == -1) := by unfold outB; simp [hd]
    rw [e1, e2]
    obtain ⟨A, cap, rfl, _, h1, h2, h3⟩ := h
    by_cases hx : xs = []
    · subst hx
      exact out_none A cap d w hd.1 hd.2
    · obtain ⟨b, o, rfl, hb, hr⟩ := h3 hx
      exact out_row b o cap xs d w hb h1 h2 hr hd.1 hd.2
  · have e1 : outN xs d = 0 := by unfold outN; rw [if_neg hd]
    have e2 : outB xs d = false := by
      unfold outB
      by_cases h0 : 0 ≤ d
      · have : ¬ d < 16 := fun h1 => hd ⟨h0, h1⟩
        simp [this]
      · simp [h0]
    rw [e1, e2]
    exact out_wide v d w (by omega)
end Go.Proofs.Ytgcimcpcnoojnaa


