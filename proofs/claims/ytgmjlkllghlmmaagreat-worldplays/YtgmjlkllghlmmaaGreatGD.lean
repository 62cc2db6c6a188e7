/-
  StepPlays: which packets are right; how many ports there are.
-/
import Derived.Test.YtgmjlkllghlmmaaGreatGP
import Derived.Test.YtgmjlkllghlmmaaGreatFRef
namespace Go.Proofs.YtgmjlkllghlmmaaGreat
open Go.RowKit Go.Maps

theorem adB_in (n : Int) : (decide ((0 : Int) ≤ n) && decide (n ≤ 15)) = adB n := by
  unfold adB
  rw [show decide (n ≤ 15) = decide (n < 16) by rw [decide_eq_decide]; omega]
theorem poB_in (n : Int) : (decide ((0 : Int) ≤ n) && decide (n ≤ 7)) = poB n := by
  unfold poB
  rw [show decide (n ≤ 7) = decide (n < 8) by rw [decide_eq_decide]; omega]
set_option maxHeartbeats 2000000 in
theorem right_M (p : Pk) (w : World) : Calls Tryz.prog 31 #[pkV p] w fun e w' => e = .returned (.bool (pkOk p)) ∧ Below w.heap.size w w' := by
  have D1 := Below.alN (Below.refl w.heap.size w) (pkC p)
  have X1 := bk_new w #[.int .i64 p.s, .int .i64 p.d, .int .i64 p.sp, .int .i64 p.dp] 39
  have IA : Hid (∀ (n : Int) W, Calls Tryz.prog 23 #[.int .i64 n, .int .i64 0, .int .i64 15] W fun e w' => e = .returned (.bool (adB n)) ∧ w' = W) := fun n W => by
    have := finR n 0 15 W
    rw [adB_in] at this
    exact this
  have IP : Hid (∀ (n : Int) W, Calls Tryz.prog 23 #[.int .i64 n, .int .i64 0, .int .i64 7] W fun e w' => e = .returned (.bool (poB n)) ∧ w' = W) := fun n W => by
    have := finR n 0 7 W
    rw [poB_in] at this
    exact this
  obtain ⟨x0, x1, x2, x3, _⟩ := X1.four
  obtain ⟨s, d, sp, dp⟩ := p
  unfold pkOk
  dsimp only at *
  have I0 : Hid (∀ W, Calls Tryz.prog 23 #[.int .i64 s, .int .i64 0, .int .i64 15] W fun e w' => e = .returned (.bool (adB s)) ∧ w' = W) := IA.out s
  have I1 : Hid (∀ W, Calls Tryz.prog 23 #[.int .i64 d, .int .i64 0, .int .i64 15] W fun e w' => e = .returned (.bool (adB d)) ∧ w' = W) := IA.out d
  have I2 : Hid (∀ W, Calls Tryz.prog 23 #[.int .i64 sp, .int .i64 0, .int .i64 7] W fun e w' => e = .returned (.bool (poB sp)) ∧ w' = W) := IP.out sp
  have I3 : Hid (∀ W, Calls Tryz.prog 23 #[.int .i64 dp, .int .i64 0, .int .i64 7] W fun e w' => e = .returned (.bool (poB dp)) ∧ w' = W) := IP.out dp
  clear IA IP X1
  generalize adB s = y0 at *
  generalize adB d = y1 at *
  generalize poB sp = y2 at *
  generalize poB dp = y3 at *
  cases y0 <;> cases y1 <;> cases y2
  all_goals
    go_enter Tryz.func31, Tryz.ntmps31
    go_wp2_with (first | (go_at_call_of 23 (Value.int .i64 s); refine (I0.out _).mono ?_; rintro e w' ⟨rfl, rfl⟩) | (go_at_call_of 23 (Value.int .i64 d); refine (I1.out _).mono ?_; rintro e w' ⟨rfl, rfl⟩) | (go_at_call_of 23 (Value.int .i64 sp); refine (I2.out _).mono ?_; rintro e w' ⟨rfl, rfl⟩) | (go_at_call_of 23 (Value.int .i64 dp); refine (I3.out _).mono ?_; rintro e w' ⟨rfl, rfl⟩))
    go_ret
    exact ⟨by simp, D1⟩
end Go.Proofs.YtgmjlkllghlmmaaGreat

namespace Go.Proofs.YtgmjlkllghlmmaaGreat
open Go.RowKit Go.Maps

/-- The document's mind of a net, in memory. -/
structure MnAt (W : World) (g : Nat) (A L : Option Addr) (c d : Nat) (F : Option Addr) (cF : Nat) (ds : List Dv) (ls : List Lk) (FL : List Ft) : Prop where
  blk : Bk W g #[.slice A ds.length c, .slice L ls.length d, .slice F FL.length cF] 35
  devs : Devs g W (.slice A ds.length c) ds
  links : Links g W (.slice L ls.length d) ls
  facts : W.ownsRow (g + 1) 101 6 (.slice F FL.length cF) FL.length (FL.flatMap ftC)
section
variable {W W' : World} {g : Nat} {A L : Option Addr} {c d : Nat} {F : Option Addr} {cF : Nat} {ds : List Dv} {ls : List Lk} {FL : List Ft}
theorem MnAt.below (h : MnAt W g A L c d F cF ds ls FL) (hb : Below W.heap.size W W') : MnAt W' g A L c d F cF ds ls FL :=
  have kt := KT.of_below hb (Nat.le_of_lt h.blk.lt)
  ⟨h.blk.keep hb, h.devs.kt kt, h.links.kt kt, own_below h.facts hb⟩
theorem MnAt.ck (h : MnAt W g A L c d F cF ds ls FL) (hc : CK W W') : MnAt W' g A L c d F cF ds ls FL :=
  have kt : KT g W W' := fun b hb hn => hc.block b hn (Nat.lt_trans hb h.blk.lt)
  ⟨h.blk.ck hc, h.devs.kt kt, h.links.kt kt, own_ck h.facts hc⟩
theorem flat_ft : ∀ (FL : List Ft) (k : Nat) (f : Ft), FL[k]? = some f → (((FL.flatMap ftC).drop (k * 6)).take 6) = ftC f
  | [], k, f, h => by simp at h
  | y :: ys, 0, f, h => by
    obtain rfl := Option.some.inj h
    rfl
  | y :: ys, k + 1, f, h => by
    have e : ((y :: ys).flatMap ftC).drop ((k + 1) * 6) = (ys.flatMap ftC).drop (k * 6) := by
      rw [List.flatMap_cons, show (k + 1) * 6 = (ftC y).length + k * 6 by show (k + 1) * 6 = 6 + k * 6; omega, List.drop_append]
      simp
    rw [e]
    exact flat_ft ys k f (by simpa using h)
theorem MnAt.row (h : MnAt W g A L c d F cF ds ls FL) : SlAt W.heap.size W 6 IsFt (.slice F FL.length cF) FL := SlAt.own h.facts (fun k f hf => flat_ft FL k f hf)
theorem uFts : Tryz.prog.underlying 33 = some (.slice 101) := by kernel_rfl
theorem infoFt : (Tryz.prog.info? 101).map (fun i => (i.zero, i.size, i.bytes)) = some (some (.agg #[.int .i64 0, .int .i64 0, .int .i64 0, .int .i64 0, .int .i64 0, .int .i64 0]), 6, 48) := by kernel_rfl
theorem ftC_one (f : Ft) : ∀ u ∈ ftC f, u.oneCell' = true := by
  intro u hu
  simp only [ftC, List.mem_cons, List.not_mem_nil, or_false] at hu
  rcases hu with rfl | rfl | rfl | rfl | rfl | rfl <;> rfl
theorem own_slM {w : World} {B e size n : Nat} {v : Value} {xs : List Value} (h : w.ownsRow B e size v n xs) : ∃ A cap, v = .slice A n cap ∧ ∀ a, A = some a → v.ownBlock = some a.block := by
  rcases h.2 with ⟨rfl, h0⟩ | ⟨g, cap, cur, rfl, _⟩
  · refine ⟨none, 0, ?_, fun a e => by cases e⟩
    first
      | rfl
      | (rw [h0])
      | simp_all
  · exact ⟨some ⟨g, 0, none⟩, cap, rfl, fun a e => by cases e; rfl⟩
/-- A row of facts is put in the mind's place for it. -/
theorem MnAt.put {w7 : World} {FL' : List Ft} {F' : Option Addr} {c' : Nat} (h : MnAt W g A L c d F cF ds ls FL) (O7 : w7.ownsRow (g + 1) 101 6 (.slice F' FL'.length c') FL'.length (FL'.flatMap ftC)) (D7 : Below (g + 1) W w7) : MnAt (w7.setCell ⟨g, 2, none⟩ (.slice F' FL'.length c')) g A L c d F' c' ds ls FL' := by
  have B7 : Bk w7 g _ _ := (D7.block g (by omega)).trans h.blk
  have hF : ∀ b, b ≠ g → (w7.setCell ⟨g, 2, none⟩ (.slice F' FL'.length c')).heap[b]? = w7.heap[b]? := fun b hb => Below.heap_setCell w7 ⟨g, 2, none⟩ _ b hb
  have kt : KT g W (w7.setCell ⟨g, 2, none⟩ (.slice F' FL'.length c')) := fun b hb _ => (hF b (by omega)).trans (D7.block b (by omega))
  refine ⟨?_, h.devs.kt kt, h.links.kt kt, own_keptBut O7 (fun g' hg => hF g' (by have := (own_block O7 hg).2.1; omega))⟩
  have := B7.setS (j := 2) (.slice F' FL'.length c')
  simpa using this
end
end Go.Proofs.YtgmjlkllghlmmaaGreat

namespace Go.Proofs.YtgmjlkllghlmmaaGreat
open Go.RowKit Go.Maps

set_option maxHeartbeats 8000000 in
set_option maxRecDepth 100000 in
theorem fact_eq (a b : Ft) (w : World) : (binOp .eql 101 (.agg #[.int .i64 a.i, .int .i64 a.p.s, .int .i64 a.p.d, .int .i64 a.p.sp, .int .i64 a.p.dp, .int .i64 a.n]) (.agg #[.int .i64 b.i, .int .i64 b.p.s, .int .i64 b.p.d, .int .i64 b.p.sp, .int .i64 b.p.dp, .int .i64 b.n])).run Tryz.prog w = .ok (.bool (ftB a b)) w := by
  obtain ⟨i, ⟨s, d, sp, dp⟩, n⟩ := a
  obtain ⟨i', ⟨s', d', sp', dp'⟩, n'⟩ := b
  unfold ftB pkB
  cases h0 : (i == i') <;> cases h1 : (s == s') <;> cases h2 : (d == d') <;> cases h3 : (sp == sp') <;> cases h4 : (dp == dp') <;> cases h5 : (n == n')
  all_goals simp [go_sem, Tryz.underlying101, Tryz.underlying39, Tryz.underlying3, h0, h1, h2, h3, h4, h5]
set_option maxHeartbeats 4000000 in
set_option maxRecDepth 100000 in
theorem index_ft (A : Option Addr) (cap : Nat) (FL : List Ft) (f : Ft) (base : Nat) (w : World) (hb0 : base ≤ w.heap.size) (hL : Hid (SlAt base w 6 IsFt (.slice A FL.length cap) FL)) :
    Calls Tryz.prog 83 #[.slice A FL.length cap, .agg #[.int .i64 f.i, .int .i64 f.p.s, .int .i64 f.p.d, .int .i64 f.p.sp, .int .i64 f.p.dp, .int .i64 f.n]] w fun e w' => ∃ j : Int, e = .returned (.int .i64 j) ∧ Hid (decide (0 ≤ j) = FL.any (fun x => ftB f x)) ∧ Below w.heap.size w w' := by
  have hm : FL.length ≤ maxLen := by obtain ⟨_, _, e, _, a, b, _⟩ := hL.out; cases e; omega
  unfold maxLen at hm
  have X1 := bk_new w #[.int .i64 f.i, .int .i64 f.p.s, .int .i64 f.p.d, .int .i64 f.p.sp, .int .i64 f.p.dp, .int .i64 f.n] 101
  have D0 := Below.alN (Below.refl w.heap.size w) (.cells #[.int .i64 f.i, .int .i64 f.p.s, .int .i64 f.p.d, .int .i64 f.p.sp, .int .i64 f.p.dp, .int .i64 f.n] 101)
  go_enter Tryz.func83, Tryz.ntmps83
  go_wp2_with fail
  have X1' : Hid (Bk (w.alloc (.cells #[.int .i64 f.i, .int .i64 f.p.s, .int .i64 f.p.d, .int .i64 f.p.sp, .int .i64 f.p.dp, .int .i64 f.n] 101)) w.heap.size #[.int .i64 f.i, .int .i64 f.p.s, .int .i64 f.p.d, .int .i64 f.p.sp, .int .i64 f.p.dp, .int .i64 f.n] 101) := X1
  clear X1
  go_loopw [8] (fun i wr => ∃ k : Nat, i = .int .i64 (k : Int) ∧ k ≤ FL.length ∧ Below w.heap.size w wr ∧ Bk wr w.heap.size #[.int .i64 f.i, .int .i64 f.p.s, .int .i64 f.p.d, .int .i64 f.p.sp, .int .i64 f.p.dp, .int .i64 f.n] 101 ∧ Hid ((FL.take k).any (fun x => ftB f x) = false)) (fun i _ => FL.length - (intOf i).toNat)
  case atStart => exact ⟨0, rfl, by omega, D0, X1'.out, rfl⟩
  case round =>
    clear D0 X1'
    obtain ⟨k, rfl, hk, D1, Y1, hno⟩ := hrel
    by_cases hlt : k < FL.length
    · obtain ⟨x, hxk⟩ : ∃ x, FL[k]? = some x := ⟨_, List.getElem?_eq_getElem hlt⟩
      obtain ⟨b, o, rfl, hb, c0, d1, d2, d3, d4, d5⟩ := (SlAt.below hL.out (D1.mono hb0) (fun _ _ _ h => h)).ft hxk
      obtain ⟨⟨y0, y1, y2, y3, y4, y5⟩, _⟩ := Y1.six
      have FE := fun w => fact_eq f x w
      have HX : Hid (FL[k]? = some x) := hxk
      have k1 : (0 : Int) ≤ (k : Int) := by omega
      have k2 : (k : Int) < (FL.length : Int) := by omega
      have D2 := D1.drew
      have Y2 := Y1.drew
      clear hL hxk hb
      cases hv : ftB f x
      · rw [hv] at FE
        have HV : Hid ((FL.take (k + 1)).any (fun x => ftB f x) = false) := by show _ = _; rw [any_takeF HX.out, hno.out, hv]; rfl
        clear hv hno HX
        obtain ⟨fi, ⟨fs, fd, fsp, fdp⟩, fn⟩ := f
        obtain ⟨xi, ⟨xs, xd, xsp, xdp⟩, xn⟩ := x
        dsimp only at *
        go_wp2_with fail
        go_region
        all_goals
          go_wp2_with fail
          go_roundw
          case rel => exact ⟨k + 1, by go_num, by omega, by first | exact D2 | exact D1, by first | exact Y2 | exact Y1, HV⟩
          case measure => simp [intOf]; omega
      · rw [hv] at FE
        have fin : Hid (FL.any (fun x => ftB f x) = true) := List.any_eq_true.2 ⟨x, List.mem_of_getElem? HX.out, hv⟩
        clear hv hno HX
        obtain ⟨fi, ⟨fs, fd, fsp, fdp⟩, fn⟩ := f
        obtain ⟨xi, ⟨xs, xd, xsp, xdp⟩, xn⟩ := x
        dsimp only at *
        go_wp2_with fail
        go_region
        all_goals
          go_wp2_with fail
          go_ret
          exact ⟨_, rfl, (by show _ = _; rw [fin.out]; simp), by first | exact D2 | exact D1⟩
    · have fin : Hid (FL.any (fun x => ftB f x) = false) := by
        have := hno.out
        rw [show k = FL.length by omega, List.take_length] at this
        exact this
      go_wp2_with fail
      go_ret
      exact ⟨_, rfl, (by show _ = _; rw [fin.out]; simp), D1⟩
end Go.Proofs.YtgmjlkllghlmmaaGreat

namespace Go.Proofs.YtgmjlkllghlmmaaGreat
open Go.RowKit Go.Maps

theorem ftB_comm (a b : Ft) : ftB a b = ftB b a := by
  rw [Bool.eq_iff_iff, ftB_iff, ftB_iff]
  exact eq_comm
set_option maxHeartbeats 2000000 in
set_option maxRecDepth 100000 in
theorem contains_ft (A : Option Addr) (cap : Nat) (FL : List Ft) (f : Ft) (base : Nat) (w : World) (hb0 : base ≤ w.heap.size) (hL : Hid (SlAt base w 6 IsFt (.slice A FL.length cap) FL)) :
    Calls Tryz.prog 44 #[.slice A FL.length cap, .agg #[.int .i64 f.i, .int .i64 f.p.s, .int .i64 f.p.d, .int .i64 f.p.sp, .int .i64 f.p.dp, .int .i64 f.n]] w fun e w' => e = .returned (.bool (FL.any (fun x => ftB x f))) ∧ Below w.heap.size w w' := by
  have X1 := bk_new w #[.int .i64 f.i, .int .i64 f.p.s, .int .i64 f.p.d, .int .i64 f.p.sp, .int .i64 f.p.dp, .int .i64 f.n] 101
  have D1 := Below.alN (Below.refl w.heap.size w) (.cells #[.int .i64 f.i, .int .i64 f.p.s, .int .i64 f.p.d, .int .i64 f.p.sp, .int .i64 f.p.dp, .int .i64 f.n] 101)
  have IX : Hid (∀ W, Below w.heap.size w W → Calls Tryz.prog 83 #[.slice A FL.length cap, .agg #[.int .i64 f.i, .int .i64 f.p.s, .int .i64 f.p.d, .int .i64 f.p.sp, .int .i64 f.p.dp, .int .i64 f.n]] W fun e w' => ∃ j : Int, e = .returned (.int .i64 j) ∧ Hid (decide (0 ≤ j) = FL.any (fun x => ftB x f)) ∧ Below W.heap.size W w') := fun W h => (index_ft A cap FL f base W (Nat.le_trans hb0 h.size) (SlAt.below hL.out (h.mono hb0) (fun _ _ _ h => h))).mono fun e w' ⟨j, h1, h2, h3⟩ => ⟨j, h1, by
    show _ = _
    rw [h2.out]
    congr 1
    funext x
    exact ftB_comm f x, h3⟩
  obtain ⟨⟨x0, x1, x2, x3, x4, x5⟩, _⟩ := X1.six
  obtain ⟨fi, ⟨fs, fd, fsp, fdp⟩, fn⟩ := f
  dsimp only at *
  clear hL X1
  go_enter Tryz.func44, Tryz.ntmps44
  go_wp2_with fail
  with_reducible refine (IX.out _ D1).mono ?_
  rintro e w2 ⟨j, rfl, hj, hb2⟩
  have D2 := chnN hb2 D1
  go_wp2_with fail
  go_ret
  exact ⟨by rw [← hj.out]; first | rfl | simp, D2⟩
end Go.Proofs.YtgmjlkllghlmmaaGreat
