/-
  WorldPlays: slices.Contains of arrivals.
-/
import Derived.Test.YtgmjlkllghlmmaaGreatGW
import Derived.Test.YtgmjlkllghlmmaaGreatGD
namespace Go.Proofs.YtgmjlkllghlmmaaGreat
open Go.RowKit Go.Maps

def arB (a b : Arv) : Bool := (a.1.1 == b.1.1) && ((a.1.2 == b.1.2) && ((a.2.s == b.2.s) && ((a.2.d == b.2.d) && ((a.2.sp == b.2.sp) && (a.2.dp == b.2.dp)))))
theorem arB_iff {a b : Arv} : arB a b = true ↔ a = b := by
  obtain ⟨⟨i, q⟩, s, d, sp, dp⟩ := a
  obtain ⟨⟨i', q'⟩, s', d', sp', dp'⟩ := b
  unfold arB
  simp [and_assoc]
theorem arB_comm (a b : Arv) : arB a b = arB b a := by
  rw [Bool.eq_iff_iff, arB_iff, arB_iff]
  exact eq_comm
theorem any_takeA {ar : List Arv} {k : Nat} {x : Arv} {p : Arv → Bool} (h : ar[k]? = some x) : (ar.take (k + 1)).any p = ((ar.take k).any p || p x) := by
  rw [List.take_add_one, h]
  simp
set_option maxHeartbeats 8000000 in
set_option maxRecDepth 100000 in
theorem arv_eq (a b : Arv) (w : World) : (binOp .eql 43 (.agg #[.int .i64 a.1.1, .int .i64 a.1.2, .int .i64 a.2.s, .int .i64 a.2.d, .int .i64 a.2.sp, .int .i64 a.2.dp]) (.agg #[.int .i64 b.1.1, .int .i64 b.1.2, .int .i64 b.2.s, .int .i64 b.2.d, .int .i64 b.2.sp, .int .i64 b.2.dp])).run Tryz.prog w = .ok (.bool (arB a b)) w := by
  obtain ⟨⟨i, s⟩, ⟨d, sp, dp, n⟩⟩ := a
  obtain ⟨⟨i', s'⟩, ⟨d', sp', dp', n'⟩⟩ := b
  unfold arB
  cases h0 : (i == i') <;> cases h1 : (s == s') <;> cases h2 : (d == d') <;> cases h3 : (sp == sp') <;> cases h4 : (dp == dp') <;> cases h5 : (n == n')
  all_goals simp [go_sem, Tryz.underlying43, Tryz.underlying37, Tryz.underlying39, Tryz.underlying3, h0, h1, h2, h3, h4, h5]
set_option maxHeartbeats 4000000 in
set_option maxRecDepth 100000 in
theorem index_ar (A : Option Addr) (cap : Nat) (FL : List Arv) (f : Arv) (base : Nat) (w : World) (hb0 : base ≤ w.heap.size) (hL : Hid (SlAt base w 6 IsArv (.slice A FL.length cap) FL)) :
    Calls Tryz.prog 56 #[.slice A FL.length cap, .agg #[.int .i64 f.1.1, .int .i64 f.1.2, .int .i64 f.2.s, .int .i64 f.2.d, .int .i64 f.2.sp, .int .i64 f.2.dp]] w fun e w' => ∃ j : Int, e = .returned (.int .i64 j) ∧ Hid (decide (0 ≤ j) = FL.any (fun x => arB f x)) ∧ Below w.heap.size w w' := by
  have hm : FL.length ≤ maxLen := by obtain ⟨_, _, e, _, a, b, _⟩ := hL.out; cases e; omega
  unfold maxLen at hm
  have X1 := bk_new w #[.int .i64 f.1.1, .int .i64 f.1.2, .int .i64 f.2.s, .int .i64 f.2.d, .int .i64 f.2.sp, .int .i64 f.2.dp] 43
  have D0 := Below.alN (Below.refl w.heap.size w) (.cells #[.int .i64 f.1.1, .int .i64 f.1.2, .int .i64 f.2.s, .int .i64 f.2.d, .int .i64 f.2.sp, .int .i64 f.2.dp] 43)
  go_enter Tryz.func56, Tryz.ntmps56
  go_wp2_with fail
  have X1' : Hid (Bk (w.alloc (.cells #[.int .i64 f.1.1, .int .i64 f.1.2, .int .i64 f.2.s, .int .i64 f.2.d, .int .i64 f.2.sp, .int .i64 f.2.dp] 43)) w.heap.size #[.int .i64 f.1.1, .int .i64 f.1.2, .int .i64 f.2.s, .int .i64 f.2.d, .int .i64 f.2.sp, .int .i64 f.2.dp] 43) := X1
  clear X1
  go_loopw [8] (fun i wr => ∃ k : Nat, i = .int .i64 (k : Int) ∧ k ≤ FL.length ∧ Below w.heap.size w wr ∧ Bk wr w.heap.size #[.int .i64 f.1.1, .int .i64 f.1.2, .int .i64 f.2.s, .int .i64 f.2.d, .int .i64 f.2.sp, .int .i64 f.2.dp] 43 ∧ Hid ((FL.take k).any (fun x => arB f x) = false)) (fun i _ => FL.length - (intOf i).toNat)
  case atStart => exact ⟨0, rfl, by omega, D0, X1'.out, rfl⟩
  case round =>
    clear D0 X1'
    obtain ⟨k, rfl, hk, D1, Y1, hno⟩ := hrel
    by_cases hlt : k < FL.length
    · obtain ⟨x, hxk⟩ : ∃ x, FL[k]? = some x := ⟨_, List.getElem?_eq_getElem hlt⟩
      obtain ⟨b, o, rfl, c0, d1, d2, d3, d4, d5⟩ := (SlAt.below hL.out (D1.mono hb0) (fun _ _ _ h => h)).arv hxk
      obtain ⟨⟨y0, y1, y2, y3, y4, y5⟩, _⟩ := Y1.six
      have FE := fun w => arv_eq f x w
      have HX : Hid (FL[k]? = some x) := hxk
      have k1 : (0 : Int) ≤ (k : Int) := by omega
      have k2 : (k : Int) < (FL.length : Int) := by omega
      have D2 := D1.drew
      have Y2 := Y1.drew
      clear hL hxk
      cases hv : arB f x
      · rw [hv] at FE
        have HV : Hid ((FL.take (k + 1)).any (fun x => arB f x) = false) := by show _ = _; rw [any_takeA HX.out, hno.out, hv]; rfl
        clear hv hno HX
        obtain ⟨⟨fi, fs⟩, ⟨fd, fsp, fdp, fn⟩⟩ := f
        obtain ⟨⟨xi, xs⟩, ⟨xd, xsp, xdp, xn⟩⟩ := x
        dsimp only at *
        go_wp2_with fail
        go_region
        all_goals
          go_wp2_with fail
          go_roundw
          case rel => exact ⟨k + 1, by go_num, by omega, by first | exact D2 | exact D1, by first | exact Y2 | exact Y1, HV⟩
          case measure => simp [intOf]; omega
      · rw [hv] at FE
        have fin : Hid (FL.any (fun x => arB f x) = true) := List.any_eq_true.2 ⟨x, List.mem_of_getElem? HX.out, hv⟩
        clear hv hno HX
        obtain ⟨⟨fi, fs⟩, ⟨fd, fsp, fdp, fn⟩⟩ := f
        obtain ⟨⟨xi, xs⟩, ⟨xd, xsp, xdp, xn⟩⟩ := x
        dsimp only at *
        go_wp2_with fail
        go_region
        all_goals
          go_wp2_with fail
          go_ret
          exact ⟨_, rfl, (by show _ = _; rw [fin.out]; simp), by first | exact D2 | exact D1⟩
    · have fin : Hid (FL.any (fun x => arB f x) = false) := by
        have := hno.out
        rw [show k = FL.length by omega, List.take_length] at this
        exact this
      go_wp2_with fail
      go_ret
      exact ⟨_, rfl, (by show _ = _; rw [fin.out]; simp), D1⟩
set_option maxHeartbeats 2000000 in
set_option maxRecDepth 100000 in
theorem contains_ar (A : Option Addr) (cap : Nat) (FL : List Arv) (f : Arv) (base : Nat) (w : World) (hb0 : base ≤ w.heap.size) (hL : Hid (SlAt base w 6 IsArv (.slice A FL.length cap) FL)) :
    Calls Tryz.prog 19 #[.slice A FL.length cap, .agg #[.int .i64 f.1.1, .int .i64 f.1.2, .int .i64 f.2.s, .int .i64 f.2.d, .int .i64 f.2.sp, .int .i64 f.2.dp]] w fun e w' => e = .returned (.bool (FL.any (fun x => arB x f))) ∧ Below w.heap.size w w' := by
  have X1 := bk_new w #[.int .i64 f.1.1, .int .i64 f.1.2, .int .i64 f.2.s, .int .i64 f.2.d, .int .i64 f.2.sp, .int .i64 f.2.dp] 43
  have D1 := Below.alN (Below.refl w.heap.size w) (.cells #[.int .i64 f.1.1, .int .i64 f.1.2, .int .i64 f.2.s, .int .i64 f.2.d, .int .i64 f.2.sp, .int .i64 f.2.dp] 43)
  have IX : Hid (∀ W, Below w.heap.size w W → Calls Tryz.prog 56 #[.slice A FL.length cap, .agg #[.int .i64 f.1.1, .int .i64 f.1.2, .int .i64 f.2.s, .int .i64 f.2.d, .int .i64 f.2.sp, .int .i64 f.2.dp]] W fun e w' => ∃ j : Int, e = .returned (.int .i64 j) ∧ Hid (decide (0 ≤ j) = FL.any (fun x => arB x f)) ∧ Below W.heap.size W w') := fun W h => (index_ar A cap FL f base W (Nat.le_trans hb0 h.size) (SlAt.below hL.out (h.mono hb0) (fun _ _ _ h => h))).mono fun e w' ⟨j, h1, h2, h3⟩ => ⟨j, h1, by
    show _ = _
    rw [h2.out]
    congr 1
    funext x
    exact arB_comm f x, h3⟩
  obtain ⟨⟨x0, x1, x2, x3, x4, x5⟩, _⟩ := X1.six
  obtain ⟨⟨fi, fs⟩, ⟨fd, fsp, fdp, fn⟩⟩ := f
  dsimp only at *
  clear hL X1
  go_enter Tryz.func19, Tryz.ntmps19
  go_wp2_with fail
  with_reducible refine (IX.out _ D1).mono ?_
  rintro e w2 ⟨j, rfl, hj, hb2⟩
  have D2 := chnN hb2 D1
  go_wp2_with fail
  go_ret
  exact ⟨by rw [← hj.out]; first | rfl | simp, D2⟩
theorem any_inF (ar : List Arv) (f : Arv) : ar.any (fun x => arB x f) = (inF ar f).isSome := by
  rw [Bool.eq_iff_iff, inF_in, List.any_eq_true]
  constructor
  · rintro ⟨x, hx, h⟩
    rw [← arB_iff.1 h]
    exact hx
  · intro h
    exact ⟨f, h, arB_iff.2 rfl⟩
end Go.Proofs.YtgmjlkllghlmmaaGreat
