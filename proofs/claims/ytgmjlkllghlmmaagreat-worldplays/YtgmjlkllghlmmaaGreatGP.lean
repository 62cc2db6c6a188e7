/-
  StepPlays: facts in memory; the first fact of a sort.
-/
import Derived.Test.YtgmjlkllghlmmaaGreatGA
import Derived.Test.YtgmjlkllghlmmaaGreatWa1
import Derived.Deep.RegionHeld3
namespace Go.Proofs.YtgmjlkllghlmmaaGreat
open Go.RowKit Go.Maps

abbrev ftC (f : Ft) : List Value := [.int .i64 f.i, .int .i64 f.p.s, .int .i64 f.p.d, .int .i64 f.p.sp, .int .i64 f.p.dp, .int .i64 f.n]
def IsFt (cs : List Value) (f : Ft) : Prop := cs = ftC f
theorem SlAt.ft {base : Nat} {w : World} {A : Option Addr} {c : Nat} {FL : List Ft} (h : SlAt base w 6 IsFt (.slice A FL.length c) FL) {k : Nat} {f : Ft} (hf : FL[k]? = some f) : ∃ b o, A = some ⟨b, o, none⟩ ∧ b < base ∧ w.cell? ⟨b, o + k * 6, none⟩ = some (.int .i64 f.i) ∧ w.cell? ⟨b, o + k * 6 + 1, none⟩ = some (.int .i64 f.p.s) ∧ w.cell? ⟨b, o + k * 6 + 2, none⟩ = some (.int .i64 f.p.d) ∧ w.cell? ⟨b, o + k * 6 + 3, none⟩ = some (.int .i64 f.p.sp) ∧ w.cell? ⟨b, o + k * 6 + 4, none⟩ = some (.int .i64 f.p.dp) ∧ w.cell? ⟨b, o + k * 6 + 5, none⟩ = some (.int .i64 f.n) := by
  obtain ⟨A', c', e, h0, h1, h2, h3⟩ := h
  cases e
  obtain ⟨b, o, ea, hl, hr⟩ := h3 (fun e => by rw [e] at hf; cases hf)
  obtain ⟨cs, _, hc, c3⟩ := hr k f hf
  unfold IsFt at hc
  subst hc
  exact ⟨b, o, ea, hl, c3 0 _ rfl, c3 1 _ rfl, c3 2 _ rfl, c3 3 _ rfl, c3 4 _ rfl, c3 5 _ rfl⟩
/-- Where the first fact of a sort is, or -1. -/
def Idx (is : Ft → Bool) (FL : List Ft) (j : Int) : Prop := (j = -1 ∧ FL.find? is = none) ∨ ∃ (k : Nat) (f : Ft), j = (k : Int) ∧ FL[k]? = some f ∧ FL.find? is = some f ∧ FL.eraseP is = FL.take k ++ FL.drop (k + 1)
theorem idx_end {is : Ft → Bool} {FL : List Ft} (h : (FL.take FL.length).any is = false) : Idx is FL (-1) := by
  rw [List.take_length] at h
  refine Or.inl ⟨rfl, List.find?_eq_none.2 (fun f hf e => ?_)⟩
  rw [Bool.eq_false_iff] at h
  exact h (List.any_eq_true.2 ⟨f, hf, e⟩)
theorem idx_at {is : Ft → Bool} : ∀ {FL : List Ft} {k : Nat} {f : Ft}, (FL.take k).any is = false → FL[k]? = some f → is f = true → Idx is FL (k : Int)
  | [], k, f, _, hf, _ => by simp at hf
  | x :: xs, 0, f, _, hf, hi => by
    obtain rfl := Option.some.inj hf
    exact Or.inr ⟨0, x, rfl, rfl, by simp [hi], by simp [hi]⟩
  | x :: xs, k + 1, f, hn, hf, hi => by
    have hx : is x = false := by
      rw [List.take_succ_cons, List.any_cons] at hn
      simp at hn
      exact Bool.eq_false_iff.2 (by simp [hn.1])
    have hn' : (xs.take k).any is = false := by
      rw [List.take_succ_cons, List.any_cons, hx, Bool.false_or] at hn
      exact hn
    rcases idx_at (k := k) hn' (by simpa using hf) hi with ⟨h, _⟩ | ⟨k', g, h1, h2, h3, h4⟩
    · omega
    · obtain rfl : k = k' := by omega
      refine Or.inr ⟨k + 1, g, by omega, by simpa using h2, by simp [hx, h3], ?_⟩
      rw [List.eraseP_cons_of_neg (by simp [hx]), h4]
      simp
theorem any_takeF {is : Ft → Bool} {FL : List Ft} {k : Nat} {f : Ft} (h : FL[k]? = some f) : (FL.take (k + 1)).any is = ((FL.take k).any is || is f) := by
  obtain ⟨hk, e⟩ := List.getElem?_eq_some_iff.1 h
  rw [List.take_succ_eq_append_getElem hk, e]
  simp
set_option maxHeartbeats 4000000 in
set_option maxRecDepth 100000 in
theorem index_c1 (c1 c2 : Value) (A : Option Addr) (cap : Nat) (FL : List Ft) (is : Ft → Bool) (base : Nat) (w : World) (hb0 : base ≤ w.heap.size) (hL : Hid (SlAt base w 6 IsFt (.slice A FL.length cap) FL)) (hF : Hid (∀ f W, Below w.heap.size w W → Calls Tryz.prog 35 #[.agg #[.int .i64 f.i, .int .i64 f.p.s, .int .i64 f.p.d, .int .i64 f.p.sp, .int .i64 f.p.dp, .int .i64 f.n], c1, c2] W fun e w' => e = .returned (.bool (is f)) ∧ Below W.heap.size W w')) :
    Calls Tryz.prog 82 #[.slice A FL.length cap, .func (.func 35) #[] #[c1, c2]] w fun e w' => ∃ j : Int, e = .returned (.int .i64 j) ∧ Hid (Idx is FL j) ∧ Below w.heap.size w w' := by
  have hm : FL.length ≤ maxLen := by obtain ⟨_, _, e, _, a, b, _⟩ := hL.out; cases e; omega
  unfold maxLen at hm
  go_enter Tryz.func82, Tryz.ntmps82
  go_wp2_with fail
  go_loopw [8] (fun i wr => ∃ k : Nat, i = .int .i64 (k : Int) ∧ k ≤ FL.length ∧ Below w.heap.size w wr ∧ Hid ((FL.take k).any is = false)) (fun i _ => FL.length - (intOf i).toNat)
  case atStart => exact ⟨0, rfl, by omega, Below.refl _ _, rfl⟩
  case round =>
    obtain ⟨k, rfl, hk, D1, hno⟩ := hrel
    by_cases hlt : k < FL.length
    · obtain ⟨f, hxk⟩ : ∃ f, FL[k]? = some f := ⟨_, List.getElem?_eq_getElem hlt⟩
      obtain ⟨b, o, rfl, hb, c0, d1, d2, d3, d4, d5⟩ := (SlAt.below hL.out (D1.mono hb0) (fun _ _ _ h => h)).ft hxk
      have PR : Hid (Calls Tryz.prog 35 #[.agg #[.int .i64 f.i, .int .i64 f.p.s, .int .i64 f.p.d, .int .i64 f.p.sp, .int .i64 f.p.dp, .int .i64 f.n], c1, c2] wr fun e w' => e = .returned (.bool (is f)) ∧ Below wr.heap.size wr w') := hF.out f wr D1
      have HX : Hid (FL[k]? = some f) := hxk
      have k1 : (0 : Int) ≤ (k : Int) := by omega
      have k2 : (k : Int) < (FL.length : Int) := by omega
      clear hL hxk hF hb
      cases hv : is f
      · rw [hv] at PR
        have HV : Hid ((FL.take (k + 1)).any is = false) := by show _ = _; rw [any_takeF HX.out, hno.out, hv]; rfl
        clear hv hno HX
        obtain ⟨fi, ⟨fs, fd, fsp, fdp⟩, fn⟩ := f
        dsimp only at *
        go_wp2_with fail
        refine PR.out.mono ?_
        rintro e w2 ⟨rfl, hb2⟩
        have D2 := chnN hb2 D1
        clear hb2 D1 c0 d1 d2 d3 d4 d5 PR
        go_wp2_with fail
        go_roundw
        case rel => exact ⟨k + 1, by go_num, by omega, D2, HV⟩
        case measure => simp [intOf]; omega
      · rw [hv] at PR
        have fin : Hid (Idx is FL (k : Int)) := idx_at hno.out HX.out hv
        clear hv hno HX
        obtain ⟨fi, ⟨fs, fd, fsp, fdp⟩, fn⟩ := f
        dsimp only at *
        go_wp2_with fail
        refine PR.out.mono ?_
        rintro e w2 ⟨rfl, hb2⟩
        have D2 := chnN hb2 D1
        clear hb2 D1 c0 d1 d2 d3 d4 d5 PR
        go_wp2_with fail
        go_ret
        exact ⟨_, rfl, fin, D2⟩
    · have fin : Hid (Idx is FL (-1)) := idx_end (by rw [← show k = FL.length by omega]; exact hno.out)
      go_wp2_with fail
      go_ret
      exact ⟨_, rfl, fin, D1⟩
set_option maxHeartbeats 2000000 in
theorem find_c1 (c1 c2 : Value) (g : Nat) (vA vL : Value) (A : Option Addr) (cap : Nat) (FL : List Ft) (is : Ft → Bool) (base : Nat) (w : World) (hb0 : base ≤ w.heap.size) (hG : Hid (Bk w g #[vA, vL, .slice A FL.length cap] 35)) (hL : Hid (SlAt base w 6 IsFt (.slice A FL.length cap) FL)) (hF : Hid (∀ f W, Below w.heap.size w W → Calls Tryz.prog 35 #[.agg #[.int .i64 f.i, .int .i64 f.p.s, .int .i64 f.p.d, .int .i64 f.p.sp, .int .i64 f.p.dp, .int .i64 f.n], c1, c2] W fun e w' => e = .returned (.bool (is f)) ∧ Below W.heap.size W w')) :
    Calls Tryz.prog 34 #[.pointer (some ⟨g, 0, none⟩), .func (.func 35) #[] #[c1, c2]] w fun e w' => ∃ j : Int, e = .returned (.int .i64 j) ∧ Hid (Idx is FL j) ∧ Below w.heap.size w w' := by
  have IX : Hid (Calls Tryz.prog 82 #[.slice A FL.length cap, .func (.func 35) #[] #[c1, c2]] w fun e w' => ∃ j : Int, e = .returned (.int .i64 j) ∧ Hid (Idx is FL j) ∧ Below w.heap.size w w') := index_c1 c1 c2 A cap FL is base w hb0 hL hF
  have g2 := hG.out.at 2
  clear hG hL hF
  go_enter Tryz.func34, Tryz.ntmps34
  go_wp2_with fail
  with_reducible refine IX.out.mono ?_
  rintro e w2 ⟨j, rfl, h2⟩
  go_wp2_with fail
  go_ret
  exact ⟨j, rfl, h2⟩
set_option maxHeartbeats 4000000 in
set_option maxRecDepth 100000 in
theorem index_c2 (c1 c2 : Value) (A : Option Addr) (cap : Nat) (FL : List Ft) (is : Ft → Bool) (base : Nat) (w : World) (hb0 : base ≤ w.heap.size) (hL : Hid (SlAt base w 6 IsFt (.slice A FL.length cap) FL)) (hF : Hid (∀ f W, Below w.heap.size w W → Calls Tryz.prog 37 #[.agg #[.int .i64 f.i, .int .i64 f.p.s, .int .i64 f.p.d, .int .i64 f.p.sp, .int .i64 f.p.dp, .int .i64 f.n], c1, c2] W fun e w' => e = .returned (.bool (is f)) ∧ Below W.heap.size W w')) :
    Calls Tryz.prog 82 #[.slice A FL.length cap, .func (.func 37) #[] #[c1, c2]] w fun e w' => ∃ j : Int, e = .returned (.int .i64 j) ∧ Hid (Idx is FL j) ∧ Below w.heap.size w w' := by
  have hm : FL.length ≤ maxLen := by obtain ⟨_, _, e, _, a, b, _⟩ := hL.out; cases e; omega
  unfold maxLen at hm
  go_enter Tryz.func82, Tryz.ntmps82
  go_wp2_with fail
  go_loopw [8] (fun i wr => ∃ k : Nat, i = .int .i64 (k : Int) ∧ k ≤ FL.length ∧ Below w.heap.size w wr ∧ Hid ((FL.take k).any is = false)) (fun i _ => FL.length - (intOf i).toNat)
  case atStart => exact ⟨0, rfl, by omega, Below.refl _ _, rfl⟩
  case round =>
    obtain ⟨k, rfl, hk, D1, hno⟩ := hrel
    by_cases hlt : k < FL.length
    · obtain ⟨f, hxk⟩ : ∃ f, FL[k]? = some f := ⟨_, List.getElem?_eq_getElem hlt⟩
      obtain ⟨b, o, rfl, hb, c0, d1, d2, d3, d4, d5⟩ := (SlAt.below hL.out (D1.mono hb0) (fun _ _ _ h => h)).ft hxk
      have PR : Hid (Calls Tryz.prog 37 #[.agg #[.int .i64 f.i, .int .i64 f.p.s, .int .i64 f.p.d, .int .i64 f.p.sp, .int .i64 f.p.dp, .int .i64 f.n], c1, c2] wr fun e w' => e = .returned (.bool (is f)) ∧ Below wr.heap.size wr w') := hF.out f wr D1
      have HX : Hid (FL[k]? = some f) := hxk
      have k1 : (0 : Int) ≤ (k : Int) := by omega
      have k2 : (k : Int) < (FL.length : Int) := by omega
      clear hL hxk hF hb
      cases hv : is f
      · rw [hv] at PR
        have HV : Hid ((FL.take (k + 1)).any is = false) := by show _ = _; rw [any_takeF HX.out, hno.out, hv]; rfl
        clear hv hno HX
        obtain ⟨fi, ⟨fs, fd, fsp, fdp⟩, fn⟩ := f
        dsimp only at *
        go_wp2_with fail
        refine PR.out.mono ?_
        rintro e w2 ⟨rfl, hb2⟩
        have D2 := chnN hb2 D1
        clear hb2 D1 c0 d1 d2 d3 d4 d5 PR
        go_wp2_with fail
        go_roundw
        case rel => exact ⟨k + 1, by go_num, by omega, D2, HV⟩
        case measure => simp [intOf]; omega
      · rw [hv] at PR
        have fin : Hid (Idx is FL (k : Int)) := idx_at hno.out HX.out hv
        clear hv hno HX
        obtain ⟨fi, ⟨fs, fd, fsp, fdp⟩, fn⟩ := f
        dsimp only at *
        go_wp2_with fail
        refine PR.out.mono ?_
        rintro e w2 ⟨rfl, hb2⟩
        have D2 := chnN hb2 D1
        clear hb2 D1 c0 d1 d2 d3 d4 d5 PR
        go_wp2_with fail
        go_ret
        exact ⟨_, rfl, fin, D2⟩
    · have fin : Hid (Idx is FL (-1)) := idx_end (by rw [← show k = FL.length by omega]; exact hno.out)
      go_wp2_with fail
      go_ret
      exact ⟨_, rfl, fin, D1⟩
set_option maxHeartbeats 2000000 in
theorem find_c2 (c1 c2 : Value) (g : Nat) (vA vL : Value) (A : Option Addr) (cap : Nat) (FL : List Ft) (is : Ft → Bool) (base : Nat) (w : World) (hb0 : base ≤ w.heap.size) (hG : Hid (Bk w g #[vA, vL, .slice A FL.length cap] 35)) (hL : Hid (SlAt base w 6 IsFt (.slice A FL.length cap) FL)) (hF : Hid (∀ f W, Below w.heap.size w W → Calls Tryz.prog 37 #[.agg #[.int .i64 f.i, .int .i64 f.p.s, .int .i64 f.p.d, .int .i64 f.p.sp, .int .i64 f.p.dp, .int .i64 f.n], c1, c2] W fun e w' => e = .returned (.bool (is f)) ∧ Below W.heap.size W w')) :
    Calls Tryz.prog 34 #[.pointer (some ⟨g, 0, none⟩), .func (.func 37) #[] #[c1, c2]] w fun e w' => ∃ j : Int, e = .returned (.int .i64 j) ∧ Hid (Idx is FL j) ∧ Below w.heap.size w w' := by
  have IX : Hid (Calls Tryz.prog 82 #[.slice A FL.length cap, .func (.func 37) #[] #[c1, c2]] w fun e w' => ∃ j : Int, e = .returned (.int .i64 j) ∧ Hid (Idx is FL j) ∧ Below w.heap.size w w') := index_c2 c1 c2 A cap FL is base w hb0 hL hF
  have g2 := hG.out.at 2
  clear hG hL hF
  go_enter Tryz.func34, Tryz.ntmps34
  go_wp2_with fail
  with_reducible refine IX.out.mono ?_
  rintro e w2 ⟨j, rfl, h2⟩
  go_wp2_with fail
  go_ret
  exact ⟨j, rfl, h2⟩
set_option maxHeartbeats 4000000 in
set_option maxRecDepth 100000 in
theorem index_c3 (c1 c2 : Value) (A : Option Addr) (cap : Nat) (FL : List Ft) (is : Ft → Bool) (base : Nat) (w : World) (hb0 : base ≤ w.heap.size) (hL : Hid (SlAt base w 6 IsFt (.slice A FL.length cap) FL)) (hF : Hid (∀ f W, Below w.heap.size w W → Calls Tryz.prog 38 #[.agg #[.int .i64 f.i, .int .i64 f.p.s, .int .i64 f.p.d, .int .i64 f.p.sp, .int .i64 f.p.dp, .int .i64 f.n], c1, c2] W fun e w' => e = .returned (.bool (is f)) ∧ Below W.heap.size W w')) :
    Calls Tryz.prog 82 #[.slice A FL.length cap, .func (.func 38) #[] #[c1, c2]] w fun e w' => ∃ j : Int, e = .returned (.int .i64 j) ∧ Hid (Idx is FL j) ∧ Below w.heap.size w w' := by
  have hm : FL.length ≤ maxLen := by obtain ⟨_, _, e, _, a, b, _⟩ := hL.out; cases e; omega
  unfold maxLen at hm
  go_enter Tryz.func82, Tryz.ntmps82
  go_wp2_with fail
  go_loopw [8] (fun i wr => ∃ k : Nat, i = .int .i64 (k : Int) ∧ k ≤ FL.length ∧ Below w.heap.size w wr ∧ Hid ((FL.take k).any is = false)) (fun i _ => FL.length - (intOf i).toNat)
  case atStart => exact ⟨0, rfl, by omega, Below.refl _ _, rfl⟩
  case round =>
    obtain ⟨k, rfl, hk, D1, hno⟩ := hrel
    by_cases hlt : k < FL.length
    · obtain ⟨f, hxk⟩ : ∃ f, FL[k]? = some f := ⟨_, List.getElem?_eq_getElem hlt⟩
      obtain ⟨b, o, rfl, hb, c0, d1, d2, d3, d4, d5⟩ := (SlAt.below hL.out (D1.mono hb0) (fun _ _ _ h => h)).ft hxk
      have PR : Hid (Calls Tryz.prog 38 #[.agg #[.int .i64 f.i, .int .i64 f.p.s, .int .i64 f.p.d, .int .i64 f.p.sp, .int .i64 f.p.dp, .int .i64 f.n], c1, c2] wr fun e w' => e = .returned (.bool (is f)) ∧ Below wr.heap.size wr w') := hF.out f wr D1
      have HX : Hid (FL[k]? = some f) := hxk
      have k1 : (0 : Int) ≤ (k : Int) := by omega
      have k2 : (k : Int) < (FL.length : Int) := by omega
      clear hL hxk hF hb
      cases hv : is f
      · rw [hv] at PR
        have HV : Hid ((FL.take (k + 1)).any is = false) := by show _ = _; rw [any_takeF HX.out, hno.out, hv]; rfl
        clear hv hno HX
        obtain ⟨fi, ⟨fs, fd, fsp, fdp⟩, fn⟩ := f
        dsimp only at *
        go_wp2_with fail
        refine PR.out.mono ?_
        rintro e w2 ⟨rfl, hb2⟩
        have D2 := chnN hb2 D1
        clear hb2 D1 c0 d1 d2 d3 d4 d5 PR
        go_wp2_with fail
        go_roundw
        case rel => exact ⟨k + 1, by go_num, by omega, D2, HV⟩
        case measure => simp [intOf]; omega
      · rw [hv] at PR
        have fin : Hid (Idx is FL (k : Int)) := idx_at hno.out HX.out hv
        clear hv hno HX
        obtain ⟨fi, ⟨fs, fd, fsp, fdp⟩, fn⟩ := f
        dsimp only at *
        go_wp2_with fail
        refine PR.out.mono ?_
        rintro e w2 ⟨rfl, hb2⟩
        have D2 := chnN hb2 D1
        clear hb2 D1 c0 d1 d2 d3 d4 d5 PR
        go_wp2_with fail
        go_ret
        exact ⟨_, rfl, fin, D2⟩
    · have fin : Hid (Idx is FL (-1)) := idx_end (by rw [← show k = FL.length by omega]; exact hno.out)
      go_wp2_with fail
      go_ret
      exact ⟨_, rfl, fin, D1⟩
set_option maxHeartbeats 2000000 in
theorem find_c3 (c1 c2 : Value) (g : Nat) (vA vL : Value) (A : Option Addr) (cap : Nat) (FL : List Ft) (is : Ft → Bool) (base : Nat) (w : World) (hb0 : base ≤ w.heap.size) (hG : Hid (Bk w g #[vA, vL, .slice A FL.length cap] 35)) (hL : Hid (SlAt base w 6 IsFt (.slice A FL.length cap) FL)) (hF : Hid (∀ f W, Below w.heap.size w W → Calls Tryz.prog 38 #[.agg #[.int .i64 f.i, .int .i64 f.p.s, .int .i64 f.p.d, .int .i64 f.p.sp, .int .i64 f.p.dp, .int .i64 f.n], c1, c2] W fun e w' => e = .returned (.bool (is f)) ∧ Below W.heap.size W w')) :
    Calls Tryz.prog 34 #[.pointer (some ⟨g, 0, none⟩), .func (.func 38) #[] #[c1, c2]] w fun e w' => ∃ j : Int, e = .returned (.int .i64 j) ∧ Hid (Idx is FL j) ∧ Below w.heap.size w w' := by
  have IX : Hid (Calls Tryz.prog 82 #[.slice A FL.length cap, .func (.func 38) #[] #[c1, c2]] w fun e w' => ∃ j : Int, e = .returned (.int .i64 j) ∧ Hid (Idx is FL j) ∧ Below w.heap.size w w') := index_c3 c1 c2 A cap FL is base w hb0 hL hF
  have g2 := hG.out.at 2
  clear hG hL hF
  go_enter Tryz.func34, Tryz.ntmps34
  go_wp2_with fail
  with_reducible refine IX.out.mono ?_
  rintro e w2 ⟨j, rfl, h2⟩
  go_wp2_with fail
  go_ret
  exact ⟨j, rfl, h2⟩
set_option maxHeartbeats 4000000 in
set_option maxRecDepth 100000 in
theorem index_c4 (c1 c2 : Value) (A : Option Addr) (cap : Nat) (FL : List Ft) (is : Ft → Bool) (base : Nat) (w : World) (hb0 : base ≤ w.heap.size) (hL : Hid (SlAt base w 6 IsFt (.slice A FL.length cap) FL)) (hF : Hid (∀ f W, Below w.heap.size w W → Calls Tryz.prog 40 #[.agg #[.int .i64 f.i, .int .i64 f.p.s, .int .i64 f.p.d, .int .i64 f.p.sp, .int .i64 f.p.dp, .int .i64 f.n], c1, c2] W fun e w' => e = .returned (.bool (is f)) ∧ Below W.heap.size W w')) :
    Calls Tryz.prog 82 #[.slice A FL.length cap, .func (.func 40) #[] #[c1, c2]] w fun e w' => ∃ j : Int, e = .returned (.int .i64 j) ∧ Hid (Idx is FL j) ∧ Below w.heap.size w w' := by
  have hm : FL.length ≤ maxLen := by obtain ⟨_, _, e, _, a, b, _⟩ := hL.out; cases e; omega
  unfold maxLen at hm
  go_enter Tryz.func82, Tryz.ntmps82
  go_wp2_with fail
  go_loopw [8] (fun i wr => ∃ k : Nat, i = .int .i64 (k : Int) ∧ k ≤ FL.length ∧ Below w.heap.size w wr ∧ Hid ((FL.take k).any is = false)) (fun i _ => FL.length - (intOf i).toNat)
  case atStart => exact ⟨0, rfl, by omega, Below.refl _ _, rfl⟩
  case round =>
    obtain ⟨k, rfl, hk, D1, hno⟩ := hrel
    by_cases hlt : k < FL.length
    · obtain ⟨f, hxk⟩ : ∃ f, FL[k]? = some f := ⟨_, List.getElem?_eq_getElem hlt⟩
      obtain ⟨b, o, rfl, hb, c0, d1, d2, d3, d4, d5⟩ := (SlAt.below hL.out (D1.mono hb0) (fun _ _ _ h => h)).ft hxk
      have PR : Hid (Calls Tryz.prog 40 #[.agg #[.int .i64 f.i, .int .i64 f.p.s, .int .i64 f.p.d, .int .i64 f.p.sp, .int .i64 f.p.dp, .int .i64 f.n], c1, c2] wr fun e w' => e = .returned (.bool (is f)) ∧ Below wr.heap.size wr w') := hF.out f wr D1
      have HX : Hid (FL[k]? = some f) := hxk
      have k1 : (0 : Int) ≤ (k : Int) := by omega
      have k2 : (k : Int) < (FL.length : Int) := by omega
      clear hL hxk hF hb
      cases hv : is f
      · rw [hv] at PR
        have HV : Hid ((FL.take (k + 1)).any is = false) := by show _ = _; rw [any_takeF HX.out, hno.out, hv]; rfl
        clear hv hno HX
        obtain ⟨fi, ⟨fs, fd, fsp, fdp⟩, fn⟩ := f
        dsimp only at *
        go_wp2_with fail
        refine PR.out.mono ?_
        rintro e w2 ⟨rfl, hb2⟩
        have D2 := chnN hb2 D1
        clear hb2 D1 c0 d1 d2 d3 d4 d5 PR
        go_wp2_with fail
        go_roundw
        case rel => exact ⟨k + 1, by go_num, by omega, D2, HV⟩
        case measure => simp [intOf]; omega
      · rw [hv] at PR
        have fin : Hid (Idx is FL (k : Int)) := idx_at hno.out HX.out hv
        clear hv hno HX
        obtain ⟨fi, ⟨fs, fd, fsp, fdp⟩, fn⟩ := f
        dsimp only at *
        go_wp2_with fail
        refine PR.out.mono ?_
        rintro e w2 ⟨rfl, hb2⟩
        have D2 := chnN hb2 D1
        clear hb2 D1 c0 d1 d2 d3 d4 d5 PR
        go_wp2_with fail
        go_ret
        exact ⟨_, rfl, fin, D2⟩
    · have fin : Hid (Idx is FL (-1)) := idx_end (by rw [← show k = FL.length by omega]; exact hno.out)
      go_wp2_with fail
      go_ret
      exact ⟨_, rfl, fin, D1⟩
set_option maxHeartbeats 2000000 in
theorem find_c4 (c1 c2 : Value) (g : Nat) (vA vL : Value) (A : Option Addr) (cap : Nat) (FL : List Ft) (is : Ft → Bool) (base : Nat) (w : World) (hb0 : base ≤ w.heap.size) (hG : Hid (Bk w g #[vA, vL, .slice A FL.length cap] 35)) (hL : Hid (SlAt base w 6 IsFt (.slice A FL.length cap) FL)) (hF : Hid (∀ f W, Below w.heap.size w W → Calls Tryz.prog 40 #[.agg #[.int .i64 f.i, .int .i64 f.p.s, .int .i64 f.p.d, .int .i64 f.p.sp, .int .i64 f.p.dp, .int .i64 f.n], c1, c2] W fun e w' => e = .returned (.bool (is f)) ∧ Below W.heap.size W w')) :
    Calls Tryz.prog 34 #[.pointer (some ⟨g, 0, none⟩), .func (.func 40) #[] #[c1, c2]] w fun e w' => ∃ j : Int, e = .returned (.int .i64 j) ∧ Hid (Idx is FL j) ∧ Below w.heap.size w w' := by
  have IX : Hid (Calls Tryz.prog 82 #[.slice A FL.length cap, .func (.func 40) #[] #[c1, c2]] w fun e w' => ∃ j : Int, e = .returned (.int .i64 j) ∧ Hid (Idx is FL j) ∧ Below w.heap.size w w') := index_c4 c1 c2 A cap FL is base w hb0 hL hF
  have g2 := hG.out.at 2
  clear hG hL hF
  go_enter Tryz.func34, Tryz.ntmps34
  go_wp2_with fail
  with_reducible refine IX.out.mono ?_
  rintro e w2 ⟨j, rfl, h2⟩
  go_wp2_with fail
  go_ret
  exact ⟨j, rfl, h2⟩
set_option maxHeartbeats 4000000 in
set_option maxRecDepth 100000 in
theorem index_c5 (c1 c2 c3 : Value) (A : Option Addr) (cap : Nat) (FL : List Ft) (is : Ft → Bool) (base : Nat) (w : World) (hb0 : base ≤ w.heap.size) (hL : Hid (SlAt base w 6 IsFt (.slice A FL.length cap) FL)) (hF : Hid (∀ f W, Below w.heap.size w W → Calls Tryz.prog 41 #[.agg #[.int .i64 f.i, .int .i64 f.p.s, .int .i64 f.p.d, .int .i64 f.p.sp, .int .i64 f.p.dp, .int .i64 f.n], c1, c2, c3] W fun e w' => e = .returned (.bool (is f)) ∧ Below W.heap.size W w')) :
    Calls Tryz.prog 82 #[.slice A FL.length cap, .func (.func 41) #[] #[c1, c2, c3]] w fun e w' => ∃ j : Int, e = .returned (.int .i64 j) ∧ Hid (Idx is FL j) ∧ Below w.heap.size w w' := by
  have hm : FL.length ≤ maxLen := by obtain ⟨_, _, e, _, a, b, _⟩ := hL.out; cases e; omega
  unfold maxLen at hm
  go_enter Tryz.func82, Tryz.ntmps82
  go_wp2_with fail
  go_loopw [8] (fun i wr => ∃ k : Nat, i = .int .i64 (k : Int) ∧ k ≤ FL.length ∧ Below w.heap.size w wr ∧ Hid ((FL.take k).any is = false)) (fun i _ => FL.length - (intOf i).toNat)
  case atStart => exact ⟨0, rfl, by omega, Below.refl _ _, rfl⟩
  case round =>
    obtain ⟨k, rfl, hk, D1, hno⟩ := hrel
    by_cases hlt : k < FL.length
    · obtain ⟨f, hxk⟩ : ∃ f, FL[k]? = some f := ⟨_, List.getElem?_eq_getElem hlt⟩
      obtain ⟨b, o, rfl, hb, c0, d1, d2, d3, d4, d5⟩ := (SlAt.below hL.out (D1.mono hb0) (fun _ _ _ h => h)).ft hxk
      have PR : Hid (Calls Tryz.prog 41 #[.agg #[.int .i64 f.i, .int .i64 f.p.s, .int .i64 f.p.d, .int .i64 f.p.sp, .int .i64 f.p.dp, .int .i64 f.n], c1, c2, c3] wr fun e w' => e = .returned (.bool (is f)) ∧ Below wr.heap.size wr w') := hF.out f wr D1
      have HX : Hid (FL[k]? = some f) := hxk
      have k1 : (0 : Int) ≤ (k : Int) := by omega
      have k2 : (k : Int) < (FL.length : Int) := by omega
      clear hL hxk hF hb
      cases hv : is f
      · rw [hv] at PR
        have HV : Hid ((FL.take (k + 1)).any is = false) := by show _ = _; rw [any_takeF HX.out, hno.out, hv]; rfl
        clear hv hno HX
        obtain ⟨fi, ⟨fs, fd, fsp, fdp⟩, fn⟩ := f
        dsimp only at *
        go_wp2_with fail
        refine PR.out.mono ?_
        rintro e w2 ⟨rfl, hb2⟩
        have D2 := chnN hb2 D1
        clear hb2 D1 c0 d1 d2 d3 d4 d5 PR
        go_wp2_with fail
        go_roundw
        case rel => exact ⟨k + 1, by go_num, by omega, D2, HV⟩
        case measure => simp [intOf]; omega
      · rw [hv] at PR
        have fin : Hid (Idx is FL (k : Int)) := idx_at hno.out HX.out hv
        clear hv hno HX
        obtain ⟨fi, ⟨fs, fd, fsp, fdp⟩, fn⟩ := f
        dsimp only at *
        go_wp2_with fail
        refine PR.out.mono ?_
        rintro e w2 ⟨rfl, hb2⟩
        have D2 := chnN hb2 D1
        clear hb2 D1 c0 d1 d2 d3 d4 d5 PR
        go_wp2_with fail
        go_ret
        exact ⟨_, rfl, fin, D2⟩
    · have fin : Hid (Idx is FL (-1)) := idx_end (by rw [← show k = FL.length by omega]; exact hno.out)
      go_wp2_with fail
      go_ret
      exact ⟨_, rfl, fin, D1⟩
set_option maxHeartbeats 2000000 in
theorem find_c5 (c1 c2 c3 : Value) (g : Nat) (vA vL : Value) (A : Option Addr) (cap : Nat) (FL : List Ft) (is : Ft → Bool) (base : Nat) (w : World) (hb0 : base ≤ w.heap.size) (hG : Hid (Bk w g #[vA, vL, .slice A FL.length cap] 35)) (hL : Hid (SlAt base w 6 IsFt (.slice A FL.length cap) FL)) (hF : Hid (∀ f W, Below w.heap.size w W → Calls Tryz.prog 41 #[.agg #[.int .i64 f.i, .int .i64 f.p.s, .int .i64 f.p.d, .int .i64 f.p.sp, .int .i64 f.p.dp, .int .i64 f.n], c1, c2, c3] W fun e w' => e = .returned (.bool (is f)) ∧ Below W.heap.size W w')) :
    Calls Tryz.prog 34 #[.pointer (some ⟨g, 0, none⟩), .func (.func 41) #[] #[c1, c2, c3]] w fun e w' => ∃ j : Int, e = .returned (.int .i64 j) ∧ Hid (Idx is FL j) ∧ Below w.heap.size w w' := by
  have IX : Hid (Calls Tryz.prog 82 #[.slice A FL.length cap, .func (.func 41) #[] #[c1, c2, c3]] w fun e w' => ∃ j : Int, e = .returned (.int .i64 j) ∧ Hid (Idx is FL j) ∧ Below w.heap.size w w') := index_c5 c1 c2 c3 A cap FL is base w hb0 hL hF
  have g2 := hG.out.at 2
  clear hG hL hF
  go_enter Tryz.func34, Tryz.ntmps34
  go_wp2_with fail
  with_reducible refine IX.out.mono ?_
  rintro e w2 ⟨j, rfl, h2⟩
  go_wp2_with fail
  go_ret
  exact ⟨j, rfl, h2⟩
set_option maxHeartbeats 4000000 in
set_option maxRecDepth 100000 in
theorem index_c6 (c1 c2 : Value) (A : Option Addr) (cap : Nat) (FL : List Ft) (is : Ft → Bool) (base : Nat) (w : World) (hb0 : base ≤ w.heap.size) (hL : Hid (SlAt base w 6 IsFt (.slice A FL.length cap) FL)) (hF : Hid (∀ f W, Below w.heap.size w W → Calls Tryz.prog 42 #[.agg #[.int .i64 f.i, .int .i64 f.p.s, .int .i64 f.p.d, .int .i64 f.p.sp, .int .i64 f.p.dp, .int .i64 f.n], c1, c2] W fun e w' => e = .returned (.bool (is f)) ∧ Below W.heap.size W w')) :
    Calls Tryz.prog 82 #[.slice A FL.length cap, .func (.func 42) #[] #[c1, c2]] w fun e w' => ∃ j : Int, e = .returned (.int .i64 j) ∧ Hid (Idx is FL j) ∧ Below w.heap.size w w' := by
  have hm : FL.length ≤ maxLen := by obtain ⟨_, _, e, _, a, b, _⟩ := hL.out; cases e; omega
  unfold maxLen at hm
  go_enter Tryz.func82, Tryz.ntmps82
  go_wp2_with fail
  go_loopw [8] (fun i wr => ∃ k : Nat, i = .int .i64 (k : Int) ∧ k ≤ FL.length ∧ Below w.heap.size w wr ∧ Hid ((FL.take k).any is = false)) (fun i _ => FL.length - (intOf i).toNat)
  case atStart => exact ⟨0, rfl, by omega, Below.refl _ _, rfl⟩
  case round =>
    obtain ⟨k, rfl, hk, D1, hno⟩ := hrel
    by_cases hlt : k < FL.length
    · obtain ⟨f, hxk⟩ : ∃ f, FL[k]? = some f := ⟨_, List.getElem?_eq_getElem hlt⟩
      obtain ⟨b, o, rfl, hb, c0, d1, d2, d3, d4, d5⟩ := (SlAt.below hL.out (D1.mono hb0) (fun _ _ _ h => h)).ft hxk
      have PR : Hid (Calls Tryz.prog 42 #[.agg #[.int .i64 f.i, .int .i64 f.p.s, .int .i64 f.p.d, .int .i64 f.p.sp, .int .i64 f.p.dp, .int .i64 f.n], c1, c2] wr fun e w' => e = .returned (.bool (is f)) ∧ Below wr.heap.size wr w') := hF.out f wr D1
      have HX : Hid (FL[k]? = some f) := hxk
      have k1 : (0 : Int) ≤ (k : Int) := by omega
      have k2 : (k : Int) < (FL.length : Int) := by omega
      clear hL hxk hF hb
      cases hv : is f
      · rw [hv] at PR
        have HV : Hid ((FL.take (k + 1)).any is = false) := by show _ = _; rw [any_takeF HX.out, hno.out, hv]; rfl
        clear hv hno HX
        obtain ⟨fi, ⟨fs, fd, fsp, fdp⟩, fn⟩ := f
        dsimp only at *
        go_wp2_with fail
        refine PR.out.mono ?_
        rintro e w2 ⟨rfl, hb2⟩
        have D2 := chnN hb2 D1
        clear hb2 D1 c0 d1 d2 d3 d4 d5 PR
        go_wp2_with fail
        go_roundw
        case rel => exact ⟨k + 1, by go_num, by omega, D2, HV⟩
        case measure => simp [intOf]; omega
      · rw [hv] at PR
        have fin : Hid (Idx is FL (k : Int)) := idx_at hno.out HX.out hv
        clear hv hno HX
        obtain ⟨fi, ⟨fs, fd, fsp, fdp⟩, fn⟩ := f
        dsimp only at *
        go_wp2_with fail
        refine PR.out.mono ?_
        rintro e w2 ⟨rfl, hb2⟩
        have D2 := chnN hb2 D1
        clear hb2 D1 c0 d1 d2 d3 d4 d5 PR
        go_wp2_with fail
        go_ret
        exact ⟨_, rfl, fin, D2⟩
    · have fin : Hid (Idx is FL (-1)) := idx_end (by rw [← show k = FL.length by omega]; exact hno.out)
      go_wp2_with fail
      go_ret
      exact ⟨_, rfl, fin, D1⟩
set_option maxHeartbeats 2000000 in
theorem find_c6 (c1 c2 : Value) (g : Nat) (vA vL : Value) (A : Option Addr) (cap : Nat) (FL : List Ft) (is : Ft → Bool) (base : Nat) (w : World) (hb0 : base ≤ w.heap.size) (hG : Hid (Bk w g #[vA, vL, .slice A FL.length cap] 35)) (hL : Hid (SlAt base w 6 IsFt (.slice A FL.length cap) FL)) (hF : Hid (∀ f W, Below w.heap.size w W → Calls Tryz.prog 42 #[.agg #[.int .i64 f.i, .int .i64 f.p.s, .int .i64 f.p.d, .int .i64 f.p.sp, .int .i64 f.p.dp, .int .i64 f.n], c1, c2] W fun e w' => e = .returned (.bool (is f)) ∧ Below W.heap.size W w')) :
    Calls Tryz.prog 34 #[.pointer (some ⟨g, 0, none⟩), .func (.func 42) #[] #[c1, c2]] w fun e w' => ∃ j : Int, e = .returned (.int .i64 j) ∧ Hid (Idx is FL j) ∧ Below w.heap.size w w' := by
  have IX : Hid (Calls Tryz.prog 82 #[.slice A FL.length cap, .func (.func 42) #[] #[c1, c2]] w fun e w' => ∃ j : Int, e = .returned (.int .i64 j) ∧ Hid (Idx is FL j) ∧ Below w.heap.size w w') := index_c6 c1 c2 A cap FL is base w hb0 hL hF
  have g2 := hG.out.at 2
  clear hG hL hF
  go_enter Tryz.func34, Tryz.ntmps34
  go_wp2_with fail
  with_reducible refine IX.out.mono ?_
  rintro e w2 ⟨j, rfl, h2⟩
  go_wp2_with fail
  go_ret
  exact ⟨j, rfl, h2⟩
set_option maxHeartbeats 4000000 in
set_option maxRecDepth 100000 in
theorem index_c7 (c1 c2 c3 c4 : Value) (A : Option Addr) (cap : Nat) (FL : List Ft) (is : Ft → Bool) (base : Nat) (w : World) (hb0 : base ≤ w.heap.size) (hL : Hid (SlAt base w 6 IsFt (.slice A FL.length cap) FL)) (hF : Hid (∀ f W, Below w.heap.size w W → Calls Tryz.prog 48 #[.agg #[.int .i64 f.i, .int .i64 f.p.s, .int .i64 f.p.d, .int .i64 f.p.sp, .int .i64 f.p.dp, .int .i64 f.n], c1, c2, c3, c4] W fun e w' => e = .returned (.bool (is f)) ∧ Below W.heap.size W w')) :
    Calls Tryz.prog 82 #[.slice A FL.length cap, .func (.func 48) #[] #[c1, c2, c3, c4]] w fun e w' => ∃ j : Int, e = .returned (.int .i64 j) ∧ Hid (Idx is FL j) ∧ Below w.heap.size w w' := by
  have hm : FL.length ≤ maxLen := by obtain ⟨_, _, e, _, a, b, _⟩ := hL.out; cases e; omega
  unfold maxLen at hm
  go_enter Tryz.func82, Tryz.ntmps82
  go_wp2_with fail
  go_loopw [8] (fun i wr => ∃ k : Nat, i = .int .i64 (k : Int) ∧ k ≤ FL.length ∧ Below w.heap.size w wr ∧ Hid ((FL.take k).any is = false)) (fun i _ => FL.length - (intOf i).toNat)
  case atStart => exact ⟨0, rfl, by omega, Below.refl _ _, rfl⟩
  case round =>
    obtain ⟨k, rfl, hk, D1, hno⟩ := hrel
    by_cases hlt : k < FL.length
    · obtain ⟨f, hxk⟩ : ∃ f, FL[k]? = some f := ⟨_, List.getElem?_eq_getElem hlt⟩
      obtain ⟨b, o, rfl, hb, c0, d1, d2, d3, d4, d5⟩ := (SlAt.below hL.out (D1.mono hb0) (fun _ _ _ h => h)).ft hxk
      have PR : Hid (Calls Tryz.prog 48 #[.agg #[.int .i64 f.i, .int .i64 f.p.s, .int .i64 f.p.d, .int .i64 f.p.sp, .int .i64 f.p.dp, .int .i64 f.n], c1, c2, c3, c4] wr fun e w' => e = .returned (.bool (is f)) ∧ Below wr.heap.size wr w') := hF.out f wr D1
      have HX : Hid (FL[k]? = some f) := hxk
      have k1 : (0 : Int) ≤ (k : Int) := by omega
      have k2 : (k : Int) < (FL.length : Int) := by omega
      clear hL hxk hF hb
      cases hv : is f
      · rw [hv] at PR
        have HV : Hid ((FL.take (k + 1)).any is = false) := by show _ = _; rw [any_takeF HX.out, hno.out, hv]; rfl
        clear hv hno HX
        obtain ⟨fi, ⟨fs, fd, fsp, fdp⟩, fn⟩ := f
        dsimp only at *
        go_wp2_with fail
        refine PR.out.mono ?_
        rintro e w2 ⟨rfl, hb2⟩
        have D2 := chnN hb2 D1
        clear hb2 D1 c0 d1 d2 d3 d4 d5 PR
        go_wp2_with fail
        go_roundw
        case rel => exact ⟨k + 1, by go_num, by omega, D2, HV⟩
        case measure => simp [intOf]; omega
      · rw [hv] at PR
        have fin : Hid (Idx is FL (k : Int)) := idx_at hno.out HX.out hv
        clear hv hno HX
        obtain ⟨fi, ⟨fs, fd, fsp, fdp⟩, fn⟩ := f
        dsimp only at *
        go_wp2_with fail
        refine PR.out.mono ?_
        rintro e w2 ⟨rfl, hb2⟩
        have D2 := chnN hb2 D1
        clear hb2 D1 c0 d1 d2 d3 d4 d5 PR
        go_wp2_with fail
        go_ret
        exact ⟨_, rfl, fin, D2⟩
    · have fin : Hid (Idx is FL (-1)) := idx_end (by rw [← show k = FL.length by omega]; exact hno.out)
      go_wp2_with fail
      go_ret
      exact ⟨_, rfl, fin, D1⟩
set_option maxHeartbeats 2000000 in
theorem find_c7 (c1 c2 c3 c4 : Value) (g : Nat) (vA vL : Value) (A : Option Addr) (cap : Nat) (FL : List Ft) (is : Ft → Bool) (base : Nat) (w : World) (hb0 : base ≤ w.heap.size) (hG : Hid (Bk w g #[vA, vL, .slice A FL.length cap] 35)) (hL : Hid (SlAt base w 6 IsFt (.slice A FL.length cap) FL)) (hF : Hid (∀ f W, Below w.heap.size w W → Calls Tryz.prog 48 #[.agg #[.int .i64 f.i, .int .i64 f.p.s, .int .i64 f.p.d, .int .i64 f.p.sp, .int .i64 f.p.dp, .int .i64 f.n], c1, c2, c3, c4] W fun e w' => e = .returned (.bool (is f)) ∧ Below W.heap.size W w')) :
    Calls Tryz.prog 34 #[.pointer (some ⟨g, 0, none⟩), .func (.func 48) #[] #[c1, c2, c3, c4]] w fun e w' => ∃ j : Int, e = .returned (.int .i64 j) ∧ Hid (Idx is FL j) ∧ Below w.heap.size w w' := by
  have IX : Hid (Calls Tryz.prog 82 #[.slice A FL.length cap, .func (.func 48) #[] #[c1, c2, c3, c4]] w fun e w' => ∃ j : Int, e = .returned (.int .i64 j) ∧ Hid (Idx is FL j) ∧ Below w.heap.size w w') := index_c7 c1 c2 c3 c4 A cap FL is base w hb0 hL hF
  have g2 := hG.out.at 2
  clear hG hL hF
  go_enter Tryz.func34, Tryz.ntmps34
  go_wp2_with fail
  with_reducible refine IX.out.mono ?_
  rintro e w2 ⟨j, rfl, h2⟩
  go_wp2_with fail
  go_ret
  exact ⟨j, rfl, h2⟩
end Go.Proofs.YtgmjlkllghlmmaaGreat

namespace Go.Proofs.YtgmjlkllghlmmaaGreat
open Go.RowKit Go.Maps

theorem packet_eqM (a b : Pk) (w : World) : (binOp .eql 39 (.agg #[.int .i64 a.s, .int .i64 a.d, .int .i64 a.sp, .int .i64 a.dp]) (.agg #[.int .i64 b.s, .int .i64 b.d, .int .i64 b.sp, .int .i64 b.dp])).run Tryz.prog w = .ok (.bool (pkB a b)) w := by
  obtain ⟨s, d, sp, dp⟩ := a
  obtain ⟨s', d', sp', dp'⟩ := b
  unfold pkB
  cases h1 : (s == s') <;> cases h2 : (d == d') <;> cases h3 : (sp == sp') <;> cases h4 : (dp == dp')
  all_goals simp [go_sem, Tryz.underlying39, Tryz.underlying3, h1, h2, h3, h4]
set_option maxHeartbeats 1000000 in
theorem back_any (p : Pk) (w : World) : Calls Tryz.prog 36 #[pkV p] w fun e w' => e = .returned (pkV (flipP p)) ∧ Below w.heap.size w w' := by
  have D2 := Below.alN (Below.alN (Below.refl w.heap.size w) (pkC p)) (.cells #[.int .i64 0, .int .i64 0, .int .i64 0, .int .i64 0] 39)
  have P2 := (bk_new w #[.int .i64 p.s, .int .i64 p.d, .int .i64 p.sp, .int .i64 p.dp] 39).alloc (.cells #[.int .i64 0, .int .i64 0, .int .i64 0, .int .i64 0] 39)
  have R2 := bk_new' (w.alloc (pkC p)) #[.int .i64 0, .int .i64 0, .int .i64 0, .int .i64 0] 39 (w.heap.size + 1) (by simp)
  obtain ⟨p0, p1, p2, p3, _⟩ := P2.four
  obtain ⟨r0, r1, r2, r3, f0, f1, f2, f3⟩ := R2.four
  obtain ⟨s, d, sp, dp⟩ := p
  dsimp only at *
  go_enter Tryz.func36, Tryz.ntmps36
  go_wp2_with fail
  refine bodyPost_ret (v := .agg #[.int .i64 d, .int .i64 s, .int .i64 dp, .int .i64 sp]) (by simp [results, Tryz.results36, go_sem]) rfl ⟨rfl, ?_⟩
  go_grown
set_option maxHeartbeats 2000000 in
set_option maxRecDepth 100000 in
theorem clo2 (f : Ft) (i q : Int) (p : Pk) (b1 b2 : Nat) (w : World) (hA : Hid (Bk w b1 #[.int .i64 i, .int .i64 q] 37)) (hP : Hid (Bk w b2 #[.int .i64 p.s, .int .i64 p.d, .int .i64 p.sp, .int .i64 p.dp] 39)) :
    Calls Tryz.prog 37 #[.agg #[.int .i64 f.i, .int .i64 f.p.s, .int .i64 f.p.d, .int .i64 f.p.sp, .int .i64 f.p.dp, .int .i64 f.n], .pointer (some ⟨b1, 0, none⟩), .pointer (some ⟨b2, 0, none⟩)] w fun e w' => e = .returned (.bool (ofPort i p.dp f)) ∧ Below w.heap.size w w' := by
  obtain ⟨fi, ⟨fs, fd, fsp, fdp⟩, fn⟩ := f
  dsimp only
  have X1 := bk_new w #[.int .i64 fi, .int .i64 fs, .int .i64 fd, .int .i64 fsp, .int .i64 fdp, .int .i64 fn] 101
  have D1 := Below.alN (Below.refl w.heap.size w) (.cells #[.int .i64 fi, .int .i64 fs, .int .i64 fd, .int .i64 fsp, .int .i64 fdp, .int .i64 fn] 101)
  obtain ⟨⟨x0, x1, x2, x3, x4, x5⟩, _⟩ := X1.six
  have Yb1 := hA.out.alloc (.cells #[.int .i64 fi, .int .i64 fs, .int .i64 fd, .int .i64 fsp, .int .i64 fdp, .int .i64 fn] 101)
  have Yb2 := hP.out.alloc (.cells #[.int .i64 fi, .int .i64 fs, .int .i64 fd, .int .i64 fsp, .int .i64 fdp, .int .i64 fn] 101)
  obtain ⟨a0, a1⟩ := Yb1.two
  obtain ⟨p0, p1, p2, p3, _⟩ := Yb2.four
  unfold ofPort
  dsimp only
  clear X1 hA hP
  cases h1 : (fi == i)
  · have h1p : ¬ fi = i := by simpa using h1
    go_enter Tryz.func37, Tryz.ntmps37
    go_wp2_with fail
    all_goals first | exact absurd (by assumption) h1p | skip
    go_ret
    exact ⟨by simp, D1⟩
  · obtain rfl : fi = i := by simpa using h1
    skip
    go_enter Tryz.func37, Tryz.ntmps37
    go_wp2_with fail
    go_ret
    exact ⟨by simp, D1⟩
set_option maxHeartbeats 2000000 in
set_option maxRecDepth 100000 in
theorem clo4 (f : Ft) (i q c : Int) (b1 b2 : Nat) (w : World) (hA : Hid (Bk w b1 #[.int .i64 i, .int .i64 q] 37)) (hC : Hid (Bk w b2 #[.int .i64 c] 3)) :
    Calls Tryz.prog 40 #[.agg #[.int .i64 f.i, .int .i64 f.p.s, .int .i64 f.p.d, .int .i64 f.p.sp, .int .i64 f.p.dp, .int .i64 f.n], .pointer (some ⟨b1, 0, none⟩), .pointer (some ⟨b2, 0, none⟩)] w fun e w' => e = .returned (.bool (ofPort i c f)) ∧ Below w.heap.size w w' := by
  obtain ⟨fi, ⟨fs, fd, fsp, fdp⟩, fn⟩ := f
  dsimp only
  have X1 := bk_new w #[.int .i64 fi, .int .i64 fs, .int .i64 fd, .int .i64 fsp, .int .i64 fdp, .int .i64 fn] 101
  have D1 := Below.alN (Below.refl w.heap.size w) (.cells #[.int .i64 fi, .int .i64 fs, .int .i64 fd, .int .i64 fsp, .int .i64 fdp, .int .i64 fn] 101)
  obtain ⟨⟨x0, x1, x2, x3, x4, x5⟩, _⟩ := X1.six
  have Yb1 := hA.out.alloc (.cells #[.int .i64 fi, .int .i64 fs, .int .i64 fd, .int .i64 fsp, .int .i64 fdp, .int .i64 fn] 101)
  have Yb2 := hC.out.alloc (.cells #[.int .i64 fi, .int .i64 fs, .int .i64 fd, .int .i64 fsp, .int .i64 fdp, .int .i64 fn] 101)
  obtain ⟨a0, a1⟩ := Yb1.two
  have y0 := Yb2.at 0
  unfold ofPort
  dsimp only
  clear X1 hA hC
  cases h1 : (fi == i)
  · have h1p : ¬ fi = i := by simpa using h1
    go_enter Tryz.func40, Tryz.ntmps40
    go_wp2_with fail
    all_goals first | exact absurd (by assumption) h1p | skip
    go_ret
    exact ⟨by simp, D1⟩
  · obtain rfl : fi = i := by simpa using h1
    skip
    go_enter Tryz.func40, Tryz.ntmps40
    go_wp2_with fail
    go_ret
    exact ⟨by simp, D1⟩
set_option maxHeartbeats 2000000 in
set_option maxRecDepth 100000 in
theorem clo3 (f : Ft) (i q : Int) (p : Pk) (b1 b2 : Nat) (w : World) (hA : Hid (Bk w b1 #[.int .i64 i, .int .i64 q] 37)) (hP : Hid (Bk w b2 #[.int .i64 p.s, .int .i64 p.d, .int .i64 p.sp, .int .i64 p.dp] 39)) :
    Calls Tryz.prog 38 #[.agg #[.int .i64 f.i, .int .i64 f.p.s, .int .i64 f.p.d, .int .i64 f.p.sp, .int .i64 f.p.dp, .int .i64 f.n], .pointer (some ⟨b1, 0, none⟩), .pointer (some ⟨b2, 0, none⟩)] w fun e w' => e = .returned (.bool (ofFlow i p f)) ∧ Below w.heap.size w w' := by
  obtain ⟨fi, ⟨fs, fd, fsp, fdp⟩, fn⟩ := f
  dsimp only
  have X1 := bk_new w #[.int .i64 fi, .int .i64 fs, .int .i64 fd, .int .i64 fsp, .int .i64 fdp, .int .i64 fn] 101
  have D1 := Below.alN (Below.refl w.heap.size w) (.cells #[.int .i64 fi, .int .i64 fs, .int .i64 fd, .int .i64 fsp, .int .i64 fdp, .int .i64 fn] 101)
  obtain ⟨⟨x0, x1, x2, x3, x4, x5⟩, _⟩ := X1.six
  have Yb1 := hA.out.alloc (.cells #[.int .i64 fi, .int .i64 fs, .int .i64 fd, .int .i64 fsp, .int .i64 fdp, .int .i64 fn] 101)
  have Yb2 := hP.out.alloc (.cells #[.int .i64 fi, .int .i64 fs, .int .i64 fd, .int .i64 fsp, .int .i64 fdp, .int .i64 fn] 101)
  obtain ⟨a0, a1⟩ := Yb1.two
  obtain ⟨p0, p1, p2, p3, _⟩ := Yb2.four
  have PE := fun w => packet_eqM ⟨fs, fd, fsp, fdp⟩ p w
  unfold ofFlow
  dsimp only at *
  generalize pkB ⟨fs, fd, fsp, fdp⟩ p = pb at *
  clear X1 hA hP
  cases h1 : (fi == i)
  · have h1p : ¬ fi = i := by simpa using h1
    go_enter Tryz.func38, Tryz.ntmps38
    go_wp2_with fail
    all_goals first | exact absurd (by assumption) h1p | skip
    go_ret
    exact ⟨by simp, D1⟩
  · obtain rfl : fi = i := by simpa using h1
    skip
    go_enter Tryz.func38, Tryz.ntmps38
    go_wp2_with fail
    go_ret
    exact ⟨by simp, D1⟩
set_option maxHeartbeats 2000000 in
set_option maxRecDepth 100000 in
theorem clo6 (f : Ft) (i q : Int) (p : Pk) (b1 b2 : Nat) (w : World) (hA : Hid (Bk w b1 #[.int .i64 i, .int .i64 q] 37)) (hP : Hid (Bk w b2 #[.int .i64 p.s, .int .i64 p.d, .int .i64 p.sp, .int .i64 p.dp] 39)) :
    Calls Tryz.prog 42 #[.agg #[.int .i64 f.i, .int .i64 f.p.s, .int .i64 f.p.d, .int .i64 f.p.sp, .int .i64 f.p.dp, .int .i64 f.n], .pointer (some ⟨b1, 0, none⟩), .pointer (some ⟨b2, 0, none⟩)] w fun e w' => e = .returned (.bool (ofFlow i p f)) ∧ Below w.heap.size w w' := by
  obtain ⟨fi, ⟨fs, fd, fsp, fdp⟩, fn⟩ := f
  dsimp only
  have X1 := bk_new w #[.int .i64 fi, .int .i64 fs, .int .i64 fd, .int .i64 fsp, .int .i64 fdp, .int .i64 fn] 101
  have D1 := Below.alN (Below.refl w.heap.size w) (.cells #[.int .i64 fi, .int .i64 fs, .int .i64 fd, .int .i64 fsp, .int .i64 fdp, .int .i64 fn] 101)
  obtain ⟨⟨x0, x1, x2, x3, x4, x5⟩, _⟩ := X1.six
  have Yb1 := hA.out.alloc (.cells #[.int .i64 fi, .int .i64 fs, .int .i64 fd, .int .i64 fsp, .int .i64 fdp, .int .i64 fn] 101)
  have Yb2 := hP.out.alloc (.cells #[.int .i64 fi, .int .i64 fs, .int .i64 fd, .int .i64 fsp, .int .i64 fdp, .int .i64 fn] 101)
  obtain ⟨a0, a1⟩ := Yb1.two
  obtain ⟨p0, p1, p2, p3, _⟩ := Yb2.four
  have PE := fun w => packet_eqM ⟨fs, fd, fsp, fdp⟩ p w
  unfold ofFlow
  dsimp only at *
  generalize pkB ⟨fs, fd, fsp, fdp⟩ p = pb at *
  clear X1 hA hP
  cases h1 : (fi == i)
  · have h1p : ¬ fi = i := by simpa using h1
    go_enter Tryz.func42, Tryz.ntmps42
    go_wp2_with fail
    all_goals first | exact absurd (by assumption) h1p | skip
    go_ret
    exact ⟨by simp, D1⟩
  · obtain rfl : fi = i := by simpa using h1
    skip
    go_enter Tryz.func42, Tryz.ntmps42
    go_wp2_with fail
    go_ret
    exact ⟨by simp, D1⟩
set_option maxHeartbeats 2000000 in
set_option maxRecDepth 100000 in
theorem clo5 (f : Ft) (i q : Int) (p o : Pk) (b1 b2 b3 : Nat) (w : World) (hA : Hid (Bk w b1 #[.int .i64 i, .int .i64 q] 37)) (hO : Hid (Bk w b3 #[.int .i64 o.s, .int .i64 o.d, .int .i64 o.sp, .int .i64 o.dp] 39)) (hP : Hid (Bk w b2 #[.int .i64 p.s, .int .i64 p.d, .int .i64 p.sp, .int .i64 p.dp] 39)) :
    Calls Tryz.prog 41 #[.agg #[.int .i64 f.i, .int .i64 f.p.s, .int .i64 f.p.d, .int .i64 f.p.sp, .int .i64 f.p.dp, .int .i64 f.n], .pointer (some ⟨b1, 0, none⟩), .pointer (some ⟨b3, 0, none⟩), .pointer (some ⟨b2, 0, none⟩)] w fun e w' => e = .returned (.bool (ftB f ⟨i, o, p.s⟩)) ∧ Below w.heap.size w w' := by
  obtain ⟨fi, ⟨fs, fd, fsp, fdp⟩, fn⟩ := f
  dsimp only
  have X1 := bk_new w #[.int .i64 fi, .int .i64 fs, .int .i64 fd, .int .i64 fsp, .int .i64 fdp, .int .i64 fn] 101
  have D1 := Below.alN (Below.refl w.heap.size w) (.cells #[.int .i64 fi, .int .i64 fs, .int .i64 fd, .int .i64 fsp, .int .i64 fdp, .int .i64 fn] 101)
  obtain ⟨⟨x0, x1, x2, x3, x4, x5⟩, _⟩ := X1.six
  have Yb1 := hA.out.alloc (.cells #[.int .i64 fi, .int .i64 fs, .int .i64 fd, .int .i64 fsp, .int .i64 fdp, .int .i64 fn] 101)
  have Yb3 := hO.out.alloc (.cells #[.int .i64 fi, .int .i64 fs, .int .i64 fd, .int .i64 fsp, .int .i64 fdp, .int .i64 fn] 101)
  have Yb2 := hP.out.alloc (.cells #[.int .i64 fi, .int .i64 fs, .int .i64 fd, .int .i64 fsp, .int .i64 fdp, .int .i64 fn] 101)
  obtain ⟨a0, a1⟩ := Yb1.two
  obtain ⟨o0, o1, o2, o3, _⟩ := Yb3.four
  obtain ⟨p0, p1, p2, p3, _⟩ := Yb2.four
  have PE := fun w => packet_eqM ⟨fs, fd, fsp, fdp⟩ o w
  unfold ftB
  dsimp only at *
  generalize pkB ⟨fs, fd, fsp, fdp⟩ o = pb at *
  clear X1 hA hO hP
  cases h1 : (fi == i)
  · have h1p : ¬ fi = i := by simpa using h1
    go_enter Tryz.func41, Tryz.ntmps41
    go_wp2_with fail
    all_goals first | exact absurd (by assumption) h1p | skip
    go_ret
    exact ⟨by simp, D1⟩
  · obtain rfl : fi = i := by simpa using h1
    cases pb
    · go_enter Tryz.func41, Tryz.ntmps41
      go_wp2_with fail
      go_ret
      exact ⟨by simp, D1⟩
    · go_enter Tryz.func41, Tryz.ntmps41
      go_wp2_with fail
      go_ret
      exact ⟨by simp, D1⟩
set_option maxHeartbeats 2000000 in
set_option maxRecDepth 100000 in
theorem clo7 (f : Ft) (i kd port : Int) (p : Pk) (b1 b2 b3 b4 : Nat) (w : World) (hI : Hid (Bk w b1 #[.int .i64 i] 3)) (hK : Hid (Bk w b3 #[.int .i64 kd] 3)) (hQ : Hid (Bk w b4 #[.int .i64 port] 3)) (hP : Hid (Bk w b2 #[.int .i64 p.s, .int .i64 p.d, .int .i64 p.sp, .int .i64 p.dp] 39)) :
    Calls Tryz.prog 48 #[.agg #[.int .i64 f.i, .int .i64 f.p.s, .int .i64 f.p.d, .int .i64 f.p.sp, .int .i64 f.p.dp, .int .i64 f.n], .pointer (some ⟨b1, 0, none⟩), .pointer (some ⟨b3, 0, none⟩), .pointer (some ⟨b4, 0, none⟩), .pointer (some ⟨b2, 0, none⟩)] w fun e w' => e = .returned (.bool (ofGone kd i p port f)) ∧ Below w.heap.size w w' := by
  obtain ⟨fi, ⟨fs, fd, fsp, fdp⟩, fn⟩ := f
  dsimp only
  have X1 := bk_new w #[.int .i64 fi, .int .i64 fs, .int .i64 fd, .int .i64 fsp, .int .i64 fdp, .int .i64 fn] 101
  have D1 := Below.alN (Below.refl w.heap.size w) (.cells #[.int .i64 fi, .int .i64 fs, .int .i64 fd, .int .i64 fsp, .int .i64 fdp, .int .i64 fn] 101)
  obtain ⟨⟨x0, x1, x2, x3, x4, x5⟩, _⟩ := X1.six
  have Yb1 := hI.out.alloc (.cells #[.int .i64 fi, .int .i64 fs, .int .i64 fd, .int .i64 fsp, .int .i64 fdp, .int .i64 fn] 101)
  have Yb3 := hK.out.alloc (.cells #[.int .i64 fi, .int .i64 fs, .int .i64 fd, .int .i64 fsp, .int .i64 fdp, .int .i64 fn] 101)
  have Yb4 := hQ.out.alloc (.cells #[.int .i64 fi, .int .i64 fs, .int .i64 fd, .int .i64 fsp, .int .i64 fdp, .int .i64 fn] 101)
  have Yb2 := hP.out.alloc (.cells #[.int .i64 fi, .int .i64 fs, .int .i64 fd, .int .i64 fsp, .int .i64 fdp, .int .i64 fn] 101)
  have a0 := Yb1.at 0
  have a1 := Yb3.at 0
  have a2 := Yb4.at 0
  obtain ⟨p0, p1, p2, p3, _⟩ := Yb2.four
  have PE := fun w => packet_eqM ⟨fs, fd, fsp, fdp⟩ p w
  unfold ofGone
  dsimp only at *
  generalize pkB ⟨fs, fd, fsp, fdp⟩ p = pb at *
  clear X1 hI hK hQ hP
  cases h1 : (fi == i)
  · have h1p : ¬ fi = i := by simpa using h1
    go_enter Tryz.func48, Tryz.ntmps48
    go_wp2_with fail
    all_goals first | exact absurd (by assumption) h1p | skip
    go_ret
    exact ⟨by simp, D1⟩
  · obtain rfl : fi = i := by simpa using h1
    cases h4 : (kd == 4)
    · have h4p : ¬ kd = 4 := by simpa using h4
      go_enter Tryz.func48, Tryz.ntmps48
      go_wp2_with fail
      all_goals first | exact absurd (by assumption) h4p | skip
      go_ret
      exact ⟨by first | (simp; done) | (simp [h4p]; done) | (simp_all; done), D1⟩
    · obtain rfl : kd = 4 := by simpa using h4
      cases h5 : (fn == port)
      · have h5p : ¬ fn = port := by simpa using h5
        go_enter Tryz.func48, Tryz.ntmps48
        go_wp2_with fail
        all_goals first | exact absurd (by assumption) h5p | skip
        go_ret
        exact ⟨by simp, D1⟩
      · obtain rfl : fn = port := by simpa using h5
        go_enter Tryz.func48, Tryz.ntmps48
        go_wp2_with fail
        go_ret
        exact ⟨by simp, D1⟩
set_option maxHeartbeats 2000000 in
set_option maxRecDepth 100000 in
theorem clo1 (f : Ft) (i q : Int) (p : Pk) (b1 b2 : Nat) (w : World) (hA : Hid (Bk w b1 #[.int .i64 i, .int .i64 q] 37)) (hP : Hid (Bk w b2 #[.int .i64 p.s, .int .i64 p.d, .int .i64 p.sp, .int .i64 p.dp] 39)) :
    Calls Tryz.prog 35 #[.agg #[.int .i64 f.i, .int .i64 f.p.s, .int .i64 f.p.d, .int .i64 f.p.sp, .int .i64 f.p.dp, .int .i64 f.n], .pointer (some ⟨b1, 0, none⟩), .pointer (some ⟨b2, 0, none⟩)] w fun e w' => e = .returned (.bool (ofFlow i (flipP p) f)) ∧ Below w.heap.size w w' := by
  obtain ⟨fi, ⟨fs, fd, fsp, fdp⟩, fn⟩ := f
  dsimp only
  have X1 := bk_new w #[.int .i64 fi, .int .i64 fs, .int .i64 fd, .int .i64 fsp, .int .i64 fdp, .int .i64 fn] 101
  have D1 := Below.alN (Below.refl w.heap.size w) (.cells #[.int .i64 fi, .int .i64 fs, .int .i64 fd, .int .i64 fsp, .int .i64 fdp, .int .i64 fn] 101)
  obtain ⟨⟨x0, x1, x2, x3, x4, x5⟩, _⟩ := X1.six
  have Yb1 := hA.out.alloc (.cells #[.int .i64 fi, .int .i64 fs, .int .i64 fd, .int .i64 fsp, .int .i64 fdp, .int .i64 fn] 101)
  have Yb2 := hP.out.alloc (.cells #[.int .i64 fi, .int .i64 fs, .int .i64 fd, .int .i64 fsp, .int .i64 fdp, .int .i64 fn] 101)
  obtain ⟨a0, a1⟩ := Yb1.two
  obtain ⟨p0, p1, p2, p3, _⟩ := Yb2.four
  have PE := fun w => packet_eqM ⟨fs, fd, fsp, fdp⟩ (flipP p) w
  have BK1 : Hid (∀ W, Calls Tryz.prog 36 #[.agg #[.int .i64 p.s, .int .i64 p.d, .int .i64 p.sp, .int .i64 p.dp]] W fun e w' => e = .returned (.agg #[.int .i64 p.d, .int .i64 p.s, .int .i64 p.dp, .int .i64 p.sp]) ∧ Below W.heap.size W w') := fun W => back_any p W
  have B0 : Below (w.alloc (.cells #[.int .i64 fi, .int .i64 fs, .int .i64 fd, .int .i64 fsp, .int .i64 fdp, .int .i64 fn] 101)).heap.size (w.alloc (.cells #[.int .i64 fi, .int .i64 fs, .int .i64 fd, .int .i64 fsp, .int .i64 fdp, .int .i64 fn] 101)) (w.alloc (.cells #[.int .i64 fi, .int .i64 fs, .int .i64 fd, .int .i64 fsp, .int .i64 fdp, .int .i64 fn] 101)).drew := (Below.refl _ _).drew
  have KE : ∀ {w' : World}, Below (w.alloc (.cells #[.int .i64 fi, .int .i64 fs, .int .i64 fd, .int .i64 fsp, .int .i64 fdp, .int .i64 fn] 101)).heap.size (w.alloc (.cells #[.int .i64 fi, .int .i64 fs, .int .i64 fd, .int .i64 fsp, .int .i64 fdp, .int .i64 fn] 101)) w' → w'.cell? ⟨w.heap.size, 0, none⟩ = some (.int .i64 fi) ∧ w'.cell? ⟨w.heap.size, 1, none⟩ = some (.int .i64 fs) ∧ w'.cell? ⟨w.heap.size, 2, none⟩ = some (.int .i64 fd) ∧ w'.cell? ⟨w.heap.size, 3, none⟩ = some (.int .i64 fsp) ∧ w'.cell? ⟨w.heap.size, 4, none⟩ = some (.int .i64 fdp) ∧ w'.cell? ⟨b1, 0, none⟩ = some (.int .i64 i) ∧ w'.cell? ⟨b2, 0, none⟩ = some (.int .i64 p.s) ∧ w'.cell? ⟨b2, 1, none⟩ = some (.int .i64 p.d) ∧ w'.cell? ⟨b2, 2, none⟩ = some (.int .i64 p.sp) ∧ w'.cell? ⟨b2, 3, none⟩ = some (.int .i64 p.dp) := fun hb => by
    have X := X1.keep hb
    have Y := Yb1.keep hb
    have Z := Yb2.keep hb
    exact ⟨X.at 0, X.at 1, X.at 2, X.at 3, X.at 4, Y.at 0, Z.at 0, Z.at 1, Z.at 2, Z.at 3⟩
  unfold ofFlow flipP at *
  dsimp only at *
  generalize pkB ⟨fs, fd, fsp, fdp⟩ ⟨p.d, p.s, p.dp, p.sp⟩ = pb at *
  clear X1 hA hP
  cases h1 : (fi == i)
  · have h1p : ¬ fi = i := by simpa using h1
    go_enter Tryz.func35, Tryz.ntmps35
    go_upto_region 1 with fail
    go_region
    all_goals
      go_wp2_with fail
      all_goals first | exact absurd (by assumption) h1p | skip
      go_ret
      exact ⟨by simp, D1.drew⟩
  · have h1p : fi = i := by simpa using h1
    subst h1p
    go_enter Tryz.func35, Tryz.ntmps35
    go_upto_region 1 with fail
    go_region_held3 (fun w' => w'.cell? ⟨w.heap.size, 0, none⟩ = some (.int .i64 fi) ∧ w'.cell? ⟨w.heap.size, 1, none⟩ = some (.int .i64 fs) ∧ w'.cell? ⟨w.heap.size, 2, none⟩ = some (.int .i64 fd) ∧ w'.cell? ⟨w.heap.size, 3, none⟩ = some (.int .i64 fsp) ∧ w'.cell? ⟨w.heap.size, 4, none⟩ = some (.int .i64 fdp) ∧ w'.cell? ⟨b1, 0, none⟩ = some (.int .i64 fi) ∧ w'.cell? ⟨b2, 0, none⟩ = some (.int .i64 p.s) ∧ w'.cell? ⟨b2, 1, none⟩ = some (.int .i64 p.d) ∧ w'.cell? ⟨b2, 2, none⟩ = some (.int .i64 p.sp) ∧ w'.cell? ⟨b2, 3, none⟩ = some (.int .i64 p.dp)) (exact KE (by first | exact Bf | exact B0)) (first | (go_at_call 36; (with_reducible refine (BK1.out _).mono ?_); rintro e wf ⟨rfl, hbf⟩; have Bf := chnN hbf B0))
    all_goals
      go_wp2_with fail
      first
        | (go_ret; exact ⟨by simp, chnN Bf D1⟩)
        | exact ⟨by simp, chnN Bf D1⟩
end Go.Proofs.YtgmjlkllghlmmaaGreat
