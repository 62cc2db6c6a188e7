/-
  StepPlays: facts in memory; the first fact of a sort.
-/
import Derived.Test.YtgmjlkllghlmmaaGreatGA
import Derived.Test.YtgmjlkllghlmmaaGreatWa1
namespace Go.Proofs.YtgmjlkllghlmmaaGreat
open Go.RowKit Go.Maps

abbrev ftC (f : Ft) : List Value := [.int .i64 f.i, .int .i64 f.p.s, .int .i64 f.p.d, .int .i64 f.p.sp, .int .i64 f.p.dp, .int .i64 f.n]
def IsFt (cs : List Value) (f : Ft) : Prop := cs = ftC f
theorem SlAt.ft {base : Nat} {w : World} {A : Option Addr} {c : Nat} {FL : List Ft} (h : SlAt base w 6 IsFt (.slice A FL.length c) FL) {k : Nat} {f : Ft} (hf : FL[k]? = some f) : ∃ b o, A = some ⟨b, o, none⟩ ∧ b < base ∧ w.cell? ⟨b, o + k * 6, none⟩ = some (.int .i64 f.i) ∧ w.cell? ⟨b, o + k * 6 + 1, none⟩ = some (.int .i64 f.p.s) ∧ w.cell? ⟨b, o + k * 6 + 2, none⟩ = some (.int .i64 f.p.d) ∧ w.cell? ⟨b, o + k * 6 + 3, none⟩ = some (.int .i64 f.p.sp) ∧ w.cell? ⟨b, o + k * 6 + 4, none⟩ = some (.int .i64 f.p.dp) ∧ w.cell? ⟨b, o + k * 6 + 5, none⟩ = some (.int .i64 f.n) := by
  obtain ⟨A', c', e, h0, h1, h2, h3⟩ := h
  cases e
  obtain ⟨b, o, ea, hl, hr⟩ := h3 (fun e => by rw [e] at hf; cases hf)
  obtain ⟨cs, _, hc, c3⟩ := hr k f hf
  unfold IsFt at hc
  subst hc
  exact ⟨b, o, ea, hl, c3 0 _ rfl, c3 1 _ rfl, c3 2 _ rfl, c3 3 _ rfl, c3 4 _ rfl, c3 5 _ rfl⟩
/-- Where the first fact of a sort is, or -1. -/
def Idx (is : Ft → Bool) (FL : List Ft) (j : Int) : Prop := (j = -1 ∧ FL.find? is = none) ∨ ∃ (k : Nat) (f : Ft), j = (k : Int) ∧ FL[k]? = some f ∧ FL.find? is = some f ∧ FL.eraseP is = FL.take k ++ FL.drop (k + 1)
theorem idx_end {is : Ft → Bool} {FL : List Ft} (h : (FL.take FL.length).any is = false) : Idx is FL (-1) := by
  rw [List.take_length] at h
  refine Or.inl ⟨rfl, List.find?_eq_none.2 (fun f hf e => ?_)⟩
  rw [Bool.eq_false_iff] at h
  exact h (List.any_eq_true.2 ⟨f, hf, e⟩)
theorem idx_at {is : Ft → Bool} : ∀ {FL : List Ft} {k : Nat} {f : Ft}, (FL.take k).any is = false → FL[k]? = some f → is f = true → Idx is FL (k : Int)
  | [], k, f, _, hf, _ => by simp at hf
  | x :: xs, 0, f, _, hf, hi => by
    obtain rfl := Option.some.inj hf
    exact Or.inr ⟨0, x, rfl, rfl, by simp [hi], by simp [hi]⟩
  | x :: xs, k + 1, f, hn, hf, hi => by
    have hx : is x = false := by
      rw [List.take_succ_cons, List.any_cons] at hn
      simp at hn
      exact Bool.eq_false_iff.2 (by simp [hn.1])
    have hn' : (xs.take k).any is = false := by
      rw [List.take_succ_cons, List.any_cons, hx, Bool.false_or] at hn
      exact hn
    rcases idx_at (k := k) hn' (by simpa using hf) hi with ⟨h, _⟩ | ⟨k', g, h1, h2, h3, h4⟩
    · omega
    · obtain rfl : k = k' := by omega
      refine Or.inr ⟨k + 1, g, by omega, by simpa using h2, by simp [hx, h3], ?_⟩
      rw [List.eraseP_cons_of_neg (by simp [hx]), h4]
      simp
theorem any_takeF {is : Ft → Bool} {FL : List Ft} {k : Nat} {f : Ft} (h : FL[k]? = some f) : (FL.take (k + 1)).any is = ((FL.take k).any is || is f) := by
  obtain ⟨hk, e⟩ := List.getElem?_eq_some_iff.1 h
  rw [List.take_succ_eq_append_getElem hk, e]
  simp
set_option maxHeartbeats 4000000 in
set_option maxRecDepth 100000 in
theorem index_c1 (c1 c2 : Value) (A : Option Addr) (cap : Nat) (FL : List Ft) (is : Ft → Bool) (base : Nat) (w : World) (hb0 : base ≤ w.heap.size) (hL : Hid (SlAt base w 6 IsFt (.slice A FL.length cap) FL)) (hF : Hid (∀ f W, Below w.heap.size w W → Calls Tryz.prog 35 #[.agg #[.int .i64 f.i, .int .i64 f.p.s, .int .i64 f.p.d, .int .i64 f.p.sp, .int .i64 f.p.dp, .int .i64 f.n], c1, c2] W fun e w' => e = .returned (.bool (is f)) ∧ Below W.heap.size W w')) :
    Calls Tryz.prog 82 #[.slice A FL.length cap, .func (.func 35) #[] #[c1, c2]] w fun e w' => ∃ j : Int, e = .returned (.int .i64 j) ∧ Hid (Idx is FL j) ∧ Below w.heap.size w w' := by
  have hm : FL.length ≤ maxLen := by obtain ⟨_, _, e, _, a, b, _⟩ := hL.out; cases e; omega
  unfold maxLen at hm
  go_enter Tryz.func82, Tryz.ntmps82
  go_wp2_with fail
  go_loopw [8] (fun i wr => ∃ k : Nat, i = .int .i64 (k : Int) ∧ k ≤ FL.length ∧ Below w.heap.size w wr ∧ Hid ((FL.take k).any is = false)) (fun i _ => FL.length - (intOf i).toNat)
  case atStart => exact ⟨0, rfl, by omega, Below.refl _ _, rfl⟩
  case round =>
    obtain ⟨k, rfl, hk, D1, hno⟩ := hrel
    by_cases hlt : k < FL.length
    · obtain ⟨f, hxk⟩ : ∃ f, FL[k]? = some f := ⟨_, List.getElem?_eq_getElem hlt⟩
      obtain ⟨b, o, rfl, hb, c0, d1, d2, d3, d4, d5⟩ := (SlAt.below hL.out (D1.mono hb0) (fun _ _ _ h => h)).ft hxk
      have PR : Hid (Calls Tryz.prog 35 #[.agg #[.int .i64 f.i, .int .i64 f.p.s, .int .i64 f.p.d, .int .i64 f.p.sp, .int .i64 f.p.dp, .int .i64 f.n], c1, c2] wr fun e w' => e = .returned (.bool (is f)) ∧ Below wr.heap.size wr w') := hF.out f wr D1
      have HX : Hid (FL[k]? = some f) := hxk
      have k1 : (0 : Int) ≤ (k : Int) := by omega
      have k2 : (k : Int) < (FL.length : Int) := by omega
      clear hL hxk hF hb
      cases hv : is f
      · rw [hv] at PR
        have HV : Hid ((FL.take (k + 1)).any is = false) := by show _ = _; rw [any_takeF HX.out, hno.out, hv]; rfl
        clear hv hno HX
        obtain ⟨fi, ⟨fs, fd, fsp, fdp⟩, fn⟩ := f
        dsimp only at *
        go_wp2_with fail
        refine PR.out.mono ?_
        rintro e w2 ⟨rfl, hb2⟩
        have D2 := chnN hb2 D1
        clear hb2 D1 c0 d1 d2 d3 d4 d5 PR
        go_wp2_with fail
        go_roundw
        case rel => exact ⟨k + 1, by go_num, by omega, D2, HV⟩
        case measure => simp [intOf]; omega
      · rw [hv] at PR
        have fin : Hid (Idx is FL (k : Int)) := idx_at hno.out HX.out hv
        clear hv hno HX
        obtain ⟨fi, ⟨fs, fd, fsp, fdp⟩, fn⟩ := f
        dsimp only at *
        go_wp2_with fail
        refine PR.out.mono ?_
        rintro e w2 ⟨rfl, hb2⟩
        have D2 := chnN hb2 D1
        clear hb2 D1 c0 d1 d2 d3 d4 d5 PR
        go_wp2_with fail
        go_ret
        exact ⟨_, rfl, fin, D2⟩
    · have fin : Hid (Idx is FL (-1)) := idx_end (by rw [← show k = FL.length by omega]; exact hno.out)
      go_wp2_with fail
      go_ret
      exact ⟨_, rfl, fin, D1⟩
set_option maxHeartbeats 2000000 in
theorem find_c1 (c1 c2 : Value) (g : Nat) (vA vL : Value) (A : Option Addr) (cap : Nat) (FL : List Ft) (is : Ft → Bool) (base : Nat) (w : World) (hb0 : base ≤ w.heap.size) (hG : Hid (Bk w g #[vA, vL, .slice A FL.length cap] 35)) (hL : Hid (SlAt base w 6 IsFt (.slice A FL.length cap) FL)) (hF : Hid (∀ f W, Below w.heap.size w W → Calls Tryz.prog 35 #[.agg #[.int .i64 f.i, .int .i64 f.p.s, .int .i64 f.p.d, .int .i64 f.p.sp, .int .i64 f.p.dp, .int .i64 f.n], c1, c2] W fun e w' => e = .returned (.bool (is f)) ∧ Below W.heap.size W w')) :
    Calls Tryz.prog 34 #[.pointer (some ⟨g, 0, none⟩), .func (.func 35) #[] #[c1, c2]] w fun e w' => ∃ j : Int, e = .returned (.int .i64 j) ∧ Hid (Idx is FL j) ∧ Below w.heap.size w w' := by
  have IX : Hid (Calls Tryz.prog 82 #[.slice A FL.length cap, .func (.func 35) #[] #[c1, c2]] w fun e w' => ∃ j : Int, e = .returned (.int .i64 j) ∧ Hid (Idx is FL j) ∧ Below w.heap.size w w') := index_c1 c1 c2 A cap FL is base w hb0 hL hF
  have g2 := hG.out.at 2
  clear hG hL hF
  go_enter Tryz.func34, Tryz.ntmps34
  go_wp2_with fail
  with_reducible refine IX.out.mono ?_
  rintro e w2 ⟨j, rfl, h2⟩
  go_wp2_with fail
  go_ret
  exact ⟨j, rfl, h2⟩
set_option maxHeartbeats 4000000 in
set_option maxRecDepth 100000 in
theorem index_c2 (c1 c2 : Value) (A : Option Addr) (cap : Nat) (FL : List Ft) (is : Ft → Bool) (base : Nat) (w : World) (hb0 : base ≤ w.heap.size) (hL : Hid (SlAt base w 6 IsFt (.slice A FL.length cap) FL)) (hF : Hid (∀ f W, Below w.heap.size w W → Calls Tryz.prog 37 #[.agg #[.int .i64 f.i, .int .i64 f.p.s, .int .i64 f.p.d, .int .i64 f.p.sp, .int .i64 f.p.dp, .int .i64 f.n], c1, c2] W fun e w' => e = .returned (.bool (is f)) ∧ Below W.heap.size W w')) :
    Calls Tryz.prog 82 #[.slice A FL.length cap, .func (.func 37) #[] #[c1, c2]] w fun e w' => ∃ j : Int, e = .returned (.int .i64 j) ∧ Hid (Idx is FL j) ∧ Below w.heap.size w w' := by
  have hm : FL.length ≤ maxLen := by obtain ⟨_, _, e, _, a, b, _⟩ := hL.out; cases e; omega
  unfold maxLen at hm
  go_enter Tryz.func82, Tryz.ntmps82
  go_wp2_with fail
  go_loopw [8] (fun i wr => ∃ k : Nat, i = .int .i64 (k : Int) ∧ k ≤ FL.length ∧ Below w.heap.size w wr ∧ Hid ((FL.take k).any is = false)) (fun i _ => FL.length - (intOf i).toNat)
  case atStart => exact ⟨0, rfl, by omega, Below.refl _ _, rfl⟩
  case round =>
    obtain ⟨k, rfl, hk, D1, hno⟩ := hrel
    by_cases hlt : k < FL.length
    · obtain ⟨f, hxk⟩ : ∃ f, FL[k]? = some f := ⟨_, List.getElem?_eq_getElem hlt⟩
      obtain ⟨b, o, rfl, hb, c0, d1, d2, d3, d4, d5⟩ := (SlAt.below hL.out (D1.mono hb0) (fun _ _ _ h => h)).ft hxk
      have PR : Hid (Calls Tryz.prog 37 #[.agg #[.int .i64 f.i, .int .i64 f.p.s, .int .i64 f.p.d, .int .i64 f.p.sp, .int .i64 f.p.dp, .int .i64 f.n], c1, c2] wr fun e w' => e = .returned (.bool (is f)) ∧ Below wr.heap.size wr w') := hF.out f wr D1
      have HX : Hid (FL[k]? = some f) := hxk
      have k1 : (0 : Int) ≤ (k : Int) := by omega
      have k2 : (k : Int) < (FL.length : Int) := by omega
      clear hL hxk hF hb
      cases hv : is f
      · rw [hv] at PR
        have HV : Hid ((FL.take (k + 1)).any is = false) := by show _ = _; rw [any_takeF HX.out, hno.out, hv]; rfl
        clear hv hno HX
        obtain ⟨fi, ⟨fs, fd, fsp, fdp⟩, fn⟩ := f
        dsimp only at *
        go_wp2_with fail
        refine PR.out.mono ?_
        rintro e w2 ⟨rfl, hb2⟩
        have D2 := chnN hb2 D1
        clear hb2 D1 c0 d1 d2 d3 d4 d5 PR
        go_wp2_with fail
        go_roundw
        case rel => exact ⟨k + 1, by go_num, by omega, D2, HV⟩
        case measure => simp [intOf]; omega
      · rw [hv] at PR
        have fin : Hid (Idx is FL (k : Int)) := idx_at hno.out HX.out hv
        clear hv hno HX
        obtain ⟨fi, ⟨fs, fd, fsp, fdp⟩, fn⟩ := f
        dsimp only at *
        go_wp2_with fail
        refine PR.out.mono ?_
        rintro e w2 ⟨rfl, hb2⟩
        have D2 := chnN hb2 D1
        clear hb2 D1 c0 d1 d2 d3 d4 d5 PR
        go_wp2_with fail
        go_ret
        exact ⟨_, rfl, fin, D2⟩
    · have fin : Hid (Idx is FL (-1)) := idx_end (by rw [← show k = FL.length by omega]; exact hno.out)
      go_wp2_with fail
      go_ret
      exact ⟨_, rfl, fin, D1⟩
set_option maxHeartbeats 2000000 in
theorem find_c2 (c1 c2 : Value) (g : Nat) (vA vL : Value) (A : Option Addr) (cap : Nat) (FL : List Ft) (is : Ft → Bool) (base : Nat) (w : World) (hb0 : base ≤ w.heap.size) (hG : Hid (Bk w g #[vA, vL, .slice A FL.length cap] 35)) (hL : Hid (SlAt base w 6 IsFt (.slice A FL.length cap) FL)) (hF : Hid (∀ f W, Below w.heap.size w W → Calls Tryz.prog 37 #[.agg #[.int .i64 f.i, .int .i64 f.p.s, .int .i64 f.p.d, .int .i64 f.p.sp, .int .i64 f.p.dp, .int .i64 f.n], c1, c2] W fun e w' => e = .returned (.bool (is f)) ∧ Below W.heap.size W w')) :
    Calls Tryz.prog 34 #[.pointer (some ⟨g, 0, none⟩), .func (.func 37) #[] #[c1, c2]] w fun e w' => ∃ j : Int, e = .returned (.int .i64 j) ∧ Hid (Idx is FL j) ∧ Below w.heap.size w w' := by
  have IX : Hid (Calls Tryz.prog 82 #[.slice A FL.length cap, .func (.func 37) #[] #[c1, c2]] w fun e w' => ∃ j : Int, e = .returned (.int .i64 j) ∧ Hid (Idx is FL j) ∧ Below w.heap.size w w') := index_c2 c1 c2 A cap FL is base w hb0 hL hF
  have g2 := hG.out.at 2
  clear hG hL hF
  go_enter Tryz.func34, Tryz.ntmps34
  go_wp2_with fail
  with_reducible refine IX.out.mono ?_
  rintro e w2 ⟨j, rfl, h2⟩
  go_wp2_with fail
  go_ret
  exact ⟨j, rfl, h2⟩
set_option maxHeartbeats 4000000 in
set_option maxRecDepth 100000 in
theorem index_c3 (c1 c2 : Value) (A : Option Addr) (cap : Nat) (FL : List Ft) (is : Ft → Bool) (base : Nat) (w : World) (hb0 : base ≤ w.heap.size) (hL : Hid (SlAt base w 6 IsFt (.slice A FL.length cap) FL)) (hF : Hid (∀ f W, Below w.heap.size w W → Calls Tryz.prog 38 #[.agg #[.int .i64 f.i, .int .i64 f.p.s, .int .i64 f.p.d, .int .i64 f.p.sp, .int .i64 f.p.dp, .int .i64 f.n], c1, c2] W fun e w' => e = .returned (.bool (is f)) ∧ Below W.heap.size W w')) :
    Calls Tryz.prog 82 #[.slice A FL.length cap, .func (.func 38) #[] #[c1, c2]] w fun e w' => ∃ j : Int, e = .returned (.int .i64 j) ∧ Hid (Idx is FL j) ∧ Below w.heap.size w w' := by
  have hm : FL.length ≤ maxLen := by obtain ⟨_, _, e, _, a, b, _⟩ := hL.out; cases e; omega
  unfold maxLen at hm
  go_enter Tryz.func82, Tryz.ntmps82
  go_wp2_with fail
  go_loopw [8] (fun i wr => ∃ k : Nat, i = .int .i64 (k : Int) ∧ k ≤ FL.length ∧ Below w.heap.size w wr ∧ Hid ((FL.take k).any is = false)) (fun i _ => FL.length - (intOf i).toNat)
  case atStart => exact ⟨0, rfl, by omega, Below.refl _ _, rfl⟩
  case round =>
    obtain ⟨k, rfl, hk, D1, hno⟩ := hrel
    by_cases hlt : k < FL.length
    · obtain ⟨f, hxk⟩ : ∃ f, FL[k]? = some f := ⟨_, List.getElem?_eq_getElem hlt⟩
      obtain ⟨b, o, rfl, hb, c0, d1, d2, d3, d4, d5⟩ := (SlAt.below hL.out (D1.mono hb0) (fun _ _ _ h => h)).ft hxk
      have PR : Hid (Calls Tryz.prog 38 #[.agg #[.int .i64 f.i, .int .i64 f.p.s, .int .i64 f.p.d, .int .i64 f.p.sp, .int .i64 f.p.dp, .int .i64 f.n], c1, c2] wr fun e w' => e = .returned (.bool (is f)) ∧ Below wr.heap.size wr w') := hF.out f wr D1
      have HX : Hid (FL[k]? = some f) := hxk
      have k1 : (0 : Int) ≤ (k : Int) := by omega
      have k2 : (k : Int) < (FL.length : Int) := by omega
      clear hL hxk hF hb
      cases hv : is f
      · rw [hv] at PR
        have HV : Hid ((FL.take (k + 1)).any is = false) := by show _ = _; rw [any_takeF HX.out, hno.out, hv]; rfl
        clear hv hno HX
        obtain ⟨fi, ⟨fs, fd, fsp, fdp⟩, fn⟩ := f
        dsimp only at *
        go_wp2_with fail
        refine PR.out.mono ?_
        rintro e w2 ⟨rfl, hb2⟩
        have D2 := chnN hb2 D1
        clear hb2 D1 c0 d1 d2 d3 d4 d5 PR
        go_wp2_with fail
        go_roundw
        case rel => exact ⟨k + 1, by go_num, by omega, D2, HV⟩
        case measure => simp [intOf]; omega
      · rw [hv] at PR
        have fin : Hid (Idx is FL (k : Int)) := idx_at hno.out HX.out hv
        clear hv hno HX
        obtain ⟨fi, ⟨fs, fd, fsp, fdp⟩, fn⟩ := f
        dsimp only at *
        go_wp2_with fail
        refine PR.out.mono ?_
        rintro e w2 ⟨rfl, hb2⟩
        have D2 := chnN hb2 D1
        clear hb2 D1 c0 d1 d2 d3 d4 d5 PR
        go_wp2_with fail
        go_ret
        exact ⟨_, rfl, fin, D2⟩
    · have fin : Hid (Idx is FL (-1)) := idx_end (by rw [← show k = FL.length by omega]; exact hno.out)
      go_wp2_with fail
      go_ret
      exact ⟨_, rfl, fin, D1⟩
set_option maxHeartbeats 2000000 in
theorem find_c3 (c1 c2 : Value) (g : Nat) (vA vL : Value) (A : Option Addr) (cap : Nat) (FL : List Ft) (is : Ft → Bool) (base : Nat) (w : World) (hb0 : base ≤ w.heap.size) (hG : Hid (Bk w g #[vA, vL, .slice A FL.length cap] 35)) (hL : Hid (SlAt base w 6 IsFt (.slice A FL.length cap) FL)) (hF : Hid (∀ f W, Below w.heap.size w W → Calls Tryz.prog 38 #[.agg #[.int .i64 f.i, .int .i64 f.p.s, .int .i64 f.p.d, .int .i64 f.p.sp, .int .i64 f.p.dp, .int .i64 f.n], c1, c2] W fun e w' => e = .returned (.bool (is f)) ∧ Below W.heap.size W w')) :
    Calls Tryz.prog 34 #[.pointer (some ⟨g, 0, none⟩), .func (.func 38) #[] #[c1, c2]] w fun e w' => ∃ j : Int, e = .returned (.int .i64 j) ∧ Hid (Idx is FL j) ∧ Below w.heap.size w w' := by
  have IX : Hid (Calls Tryz.prog 82 #[.slice A FL.length cap, .func (.func 38) #[] #[c1, c2]] w fun e w' => ∃ j : Int, e = .returned (.int .i64 j) ∧ Hid (Idx is FL j) ∧ Below w.heap.size w w') := index_c3 c1 c2 A cap FL is base w hb0 hL hF
  have g2 := hG.out.at 2
  clear hG hL hF
  go_enter Tryz.func34, Tryz.ntmps34
  go_wp2_with fail
  with_reducible refine IX.out.mono ?_
  rintro e w2 ⟨j, rfl, h2⟩
  go_wp2_with fail
  go_ret
  exact ⟨j, rfl, h2⟩
set_option maxHeartbeats 4000000 in
set_option maxRecDepth 100000 in
theorem index_c4 (c1 c2 : Value) (A : Option Addr) (cap : Nat) (FL : List Ft) (is : Ft → Bool) (base : Nat) (w : World) (hb0 : base ≤ w.heap.size) (hL : Hid (SlAt base w 6 IsFt (.slice A FL.length cap) FL)) (hF : Hid (∀ f W, Below w.heap.size w W → Calls Tryz.prog 40 #[.agg #[.int .i64 f.i, .int .i64 f.p.s, .int .i64 f.p.d, .int .i64 f.p.sp, .int .i64 f.p.dp, .int .i64 f.n], c1, c2] W fun e w' => e = .returned (.bool (is f)) ∧ Below W.heap.size W w')) :
    Calls Tryz.prog 82 #[.slice A FL.length cap, .func (.func 40) #[] #[c1, c2]] w fun e w' => ∃ j : Int, e = .returned (.int .i64 j) ∧ Hid (Idx is FL j) ∧ Below w.heap.size w w' := by
  have hm : FL.length ≤ maxLen := by obtain ⟨_, _, e, _, a, b, _⟩ := hL.out; cases e; omega
  unfold maxLen at hm
  go_enter Tryz.func82, Tryz.ntmps82
  go_wp2_with fail
  go_loopw [8] (fun i wr => ∃ k : Nat, i = .int .i64 (k : Int) ∧ k ≤ FL.length ∧ Below w.heap.size w wr ∧ Hid ((FL.take k).any is = false)) (fun i _ => FL.length - (intOf i).toNat)
  case atStart => exact ⟨0, rfl, by omega, Below.refl _ _, rfl⟩
  case round =>
    obtain ⟨k, rfl, hk, D1, hno⟩ := hrel
    by_cases hlt : k < FL.length
    · obtain ⟨f, hxk⟩ : ∃ f, FL[k]? = some f := ⟨_, List.getElem?_eq_getElem hlt⟩
      obtain ⟨b, o, rfl, hb, c0, d1, d2, d3, d4, d5⟩ := (SlAt.below hL.out (D1.mono hb0) (fun _ _ _ h => h)).ft hxk
      have PR : Hid (Calls Tryz.prog 40 #[.agg #[.int .i64 f.i, .int .i64 f.p.s, .int .i64 f.p.d, .int .i64 f.p.sp, .int .i64 f.p.dp, .int .i64 f.n], c1, c2] wr fun e w' => e = .returned (.bool (is f)) ∧ Below wr.heap.size wr w') := hF.out f wr D1
      have HX : Hid (FL[k]? = some f) := hxk
      have k1 : (0 : Int) ≤ (k : Int) := by omega
      have k2 : (k : Int) < (FL.length : Int) := by omega
      clear hL hxk hF hb
      cases hv : is f
      · rw [hv] at PR
        have HV : Hid ((FL.take (k + 1)).any is = false) := by show _ = _; rw [any_takeF HX.out, hno.out, hv]; rfl
        clear hv hno HX
        obtain ⟨fi, ⟨fs, fd, fsp, fdp⟩, fn⟩ := f
        dsimp only at *
        go_wp2_with fail
        refine PR.out.mono ?_
        rintro e w2 ⟨rfl, hb2⟩
        have D2 := chnN hb2 D1
        clear hb2 D1 c0 d1 d2 d3 d4 d5 PR
        go_wp2_with fail
        go_roundw
        case rel => exact ⟨k + 1, by go_num, by omega, D2, HV⟩
        case measure => simp [intOf]; omega
      · rw [hv] at PR
        have fin : Hid (Idx is FL (k : Int)) := idx_at hno.out HX.out hv
        clear hv hno HX
        obtain ⟨fi, ⟨fs, fd, fsp, fdp⟩, fn⟩ := f
        dsimp only at *
        go_wp2_with fail
        refine PR.out.mono ?_
        rintro e w2 ⟨rfl, hb2⟩
        have D2 := chnN hb2 D1
        clear hb2 D1 c0 d1 d2 d3 d4 d5 PR
        go_wp2_with fail
        go_ret
        exact ⟨_, rfl, fin, D2⟩
    · have fin : Hid (Idx is FL (-1)) := idx_end (by rw [← show k = FL.length by omega]; exact hno.out)
      go_wp2_with fail
      go_ret
      exact ⟨_, rfl, fin, D1⟩
set_option maxHeartbeats 2000000 in
theorem find_c4 (c1 c2 : Value) (g : Nat) (vA vL : Value) (A : Option Addr) (cap : Nat) (FL : List Ft) (is : Ft → Bool) (base : Nat) (w : World) (hb0 : base ≤ w.heap.size) (hG : Hid (Bk w g #[vA, vL, .slice A FL.length cap] 35)) (hL : Hid (SlAt base w 6 IsFt (.slice A FL.length cap) FL)) (hF : Hid (∀ f W, Below w.heap.size w W → Calls Tryz.prog 40 #[.agg #[.int .i64 f.i, .int .i64 f.p.s, .int .i64 f.p.d, .int .i64 f.p.sp, .int .i64 f.p.dp, .int .i64 f.n], c1, c2] W fun e w' => e = .returned (.bool (is f)) ∧ Below W.heap.size W w')) :
    Calls Tryz.prog 34 #[.pointer (some ⟨g, 0, none⟩), .func (.func 40) #[] #[c1, c2]] w fun e w' => ∃ j : Int, e = .returned (.int .i64 j) ∧ Hid (Idx is FL j) ∧ Below w.heap.size w w' := by
  have IX : Hid (Calls Tryz.prog 82 #[.slice A FL.length cap, .func (.func 40) #[] #[c1, c2]] w fun e w' => ∃ j : Int, e = .returned (.int .i64 j) ∧ Hid (Idx is FL j) ∧ Below w.heap.size w w') := index_c4 c1 c2 A cap FL is base w hb0 hL hF
  have g2 := hG.out.at 2
  clear hG hL hF
  go_enter Tryz.func34, Tryz.ntmps34
  go_wp2_with fail
  with_reducible refine IX.out.mono ?_
  rintro e w2 ⟨j, rfl, h2⟩
  go_wp2_with fail
  go_ret
  exact ⟨j, rfl, h2⟩
set_option maxHeartbeats 4000000 in
set_option maxRecDepth 100000 in
theorem index_c5 (c1 c2 c3 : Value) (A : Option Addr) (cap : Nat) (FL : List Ft) (is : Ft → Bool) (base : Nat) (w : World) (hb0 : base ≤ w.heap.size) (hL : Hid (SlAt base w 6 IsFt (.slice A FL.length cap) FL)) (hF : Hid (∀ f W, Below w.heap.size w W → Calls Tryz.prog 41 #[.agg #[.int .i64 f.i, .int .i64 f.p.s, .int .i64 f.p.d, .int .i64 f.p.sp, .int .i64 f.p.dp, .int .i64 f.n], c1, c2, c3] W fun e w' => e = .returned (.bool (is f)) ∧ Below W.heap.size W w')) :
    Calls Tryz.prog 82 #[.slice A FL.length cap, .func (.func 41) #[] #[c1, c2, c3]] w fun e w' => ∃ j : Int, e = .returned (.int .i64 j) ∧ Hid (Idx is FL j) ∧ Below w.heap.size w w' := by
  have hm : FL.length ≤ maxLen := by obtain ⟨_, _, e, _, a, b, _⟩ := hL.out; cases e; omega
  unfold maxLen at hm
  go_enter Tryz.func82, Tryz.ntmps82
  go_wp2_with fail
  go_loopw [8] (fun i wr => ∃ k : Nat, i = .int .i64 (k : Int) ∧ k ≤ FL.length ∧ Below w.heap.size w wr ∧ Hid ((FL.take k).any is = false)) (fun i _ => FL.length - (intOf i).toNat)
  case atStart => exact ⟨0, rfl, by omega, Below.refl _ _, rfl⟩
  case round =>
    obtain ⟨k, rfl, hk, D1, hno⟩ := hrel
    by_cases hlt : k < FL.length
    · obtain ⟨f, hxk⟩ : ∃ f, FL[k]? = some f := ⟨_, List.getElem?_eq_getElem hlt⟩
      obtain ⟨b, o, rfl, hb, c0, d1, d2, d3, d4, d5⟩ := (SlAt.below hL.out (D1.mono hb0) (fun _ _ _ h => h)).ft hxk
      have PR : Hid (Calls Tryz.prog 41 #[.agg #[.int .i64 f.i, .int .i64 f.p.s, .int .i64 f.p.d, .int .i64 f.p.sp, .int .i64 f.p.dp, .int .i64 f.n], c1, c2, c3] wr fun e w' => e = .returned (.bool (is f)) ∧ Below wr.heap.size wr w') := hF.out f wr D1
      have HX : Hid (FL[k]? = some f) := hxk
      have k1 : (0 : Int) ≤ (k : Int) := by omega
      have k2 : (k : Int) < (FL.length : Int) := by omega
      clear hL hxk hF hb
      cases hv : is f
      · rw [hv] at PR
        have HV : Hid ((FL.take (k + 1)).any is = false) := by show _ = _; rw [any_takeF HX.out, hno.out, hv]; rfl
        clear hv hno HX
        obtain ⟨fi, ⟨fs, fd, fsp, fdp⟩, fn⟩ := f
        dsimp only at *
        go_wp2_with fail
        refine PR.out.mono ?_
        rintro e w2 ⟨rfl, hb2⟩
        have D2 := chnN hb2 D1
        clear hb2 D1 c0 d1 d2 d3 d4 d5 PR
        go_wp2_with fail
        go_roundw
        case rel => exact ⟨k + 1, by go_num, by omega, D2, HV⟩
        case measure => simp [intOf]; omega
      · rw [hv] at PR
        have fin : Hid (Idx is FL (k : Int)) := idx_at hno.out HX.out hv
        clear hv hno HX
        obtain ⟨fi, ⟨fs, fd, fsp, fdp⟩, fn⟩ := f
        dsimp only at *
        go_wp2_with fail
        refine PR.out.mono ?_
        rintro e w2 ⟨rfl, hb2⟩
        have D2 := chnN hb2 D1
        clear hb2 D1 c0 d1 d2 d3 d4 d5 PR
        go_wp2_with fail
        go_ret
        exact ⟨_, rfl, fin, D2⟩
    · have fin : Hid (Idx is FL (-1)) := idx_end (by rw [← show k = FL.length by omega]; exact hno.out)
      go_wp2_with fail
      go_ret
      exact ⟨_, rfl, fin, D1⟩
set_option maxHeartbeats 2000000 in
theorem find_c5 (c1 c2 c3 : Value) (g : Nat) (vA vL : Value) (A : Option Addr) (cap : Nat) (FL : List Ft) (is : Ft → Bool) (base : Nat) (w : World) (hb0 : base ≤ w.heap.size) (hG : Hid (Bk w g #[vA, vL, .slice A FL.length cap] 35)) (hL : Hid (SlAt base w 6 IsFt (.slice A FL.length cap) FL)) (hF : Hid (∀ f W, Below w.heap.size w W → Calls Tryz.prog 41 #[.agg #[.int .i64 f.i, .int .i64 f.p.s, .int .i64 f.p.d, .int .i64 f.p.sp, .int .i64 f.p.dp, .int .i64 f.n], c1, c2, c3] W fun e w' => e = .returned (.bool (is f)) ∧ Below W.heap.size W w')) :
    Calls Tryz.prog 34 #[.pointer (some ⟨g, 0, none⟩), .func (.func 41) #[] #[c1, c2, c3]] w fun e w' => ∃ j : Int, e = .returned (.int .i64 j) ∧ Hid (Idx is FL j) ∧ Below w.heap.size w w' := by
  have IX : Hid (Calls Tryz.prog 82 #[.slice A FL.length cap, .func (.func 41) #[] #[c1, c2, c3]] w fun e w' => ∃ j : Int, e = .returned (.int .i64 j) ∧ Hid (Idx is FL j) ∧ Below w.heap.size w w') := index_c5 c1 c2 c3 A cap FL is base w hb0 hL hF
  have g2 := hG.out.at 2
  clear hG hL hF
  go_enter Tryz.func34, Tryz.ntmps34
  go_wp2_with fail
  with_reducible refine IX.out.mono ?_
  rintro e w2 ⟨j, rfl, h2⟩
  go_wp2_with fail
  go_ret
  exact ⟨j, rfl, h2⟩
set_option maxHeartbeats 4000000 in
set_option maxRecDepth 100000 in
theorem index_c6 (c1 c2 : Value) (A : Option Addr) (cap : Nat) (FL : List Ft) (is : Ft → Bool) (base : Nat) (w : World) (hb0 : base ≤ w.heap.size) (hL : Hid (SlAt base w 6 IsFt (.slice A FL.length cap) FL)) (hF : Hid (∀ f W, Below w.heap.size w W → Calls Tryz.prog 42 #[.agg #[.int .i64 f.i, .int .i64 f.p.s, .int .i64 f.p.d, .int .i64 f.p.sp, .int .i64 f.p.dp, .int .i64 f.n], c1, c2] W fun e w' => e = .returned (.bool (is f)) ∧ Below W.heap.size W w')) :
    Calls Tryz.prog 82 #[.slice A FL.length cap, .func (.func 42) #[] #[c1, c2]] w fun e w' => ∃ j : Int, e = .returned (.int .i64 j) ∧ Hid (Idx is FL j) ∧ Below w.heap.size w w' := by
  have hm : FL.length ≤ maxLen := by obtain ⟨_, _, e, _, a, b, _⟩ := hL.out; cases e; omega
  unfold maxLen at hm
  go_enter Tryz.func82, Tryz.ntmps82
  go_wp2_with fail
  go_loopw [8] (fun i wr => ∃ k : Nat, i = .int .i64 (k : Int) ∧ k ≤ FL.length ∧ Below w.heap.size w wr ∧ Hid ((FL.take k).any is = false)) (fun i _ => FL.length - (intOf i).toNat)
  case atStart => exact ⟨0, rfl, by omega, Below.refl _ _, rfl⟩
  case round =>
    obtain ⟨k, rfl, hk, D1, hno⟩ := hrel
    by_cases hlt : k < FL.length
    · obtain ⟨f, hxk⟩ : ∃ f, FL[k]? = some f := ⟨_, List.getElem?_eq_getElem hlt⟩
      obtain ⟨b, o, rfl, hb, c0, d1, d2, d3, d4, d5⟩ := (SlAt.below hL.out (D1.mono hb0) (fun _ _ _ h => h)).ft hxk
      have PR : Hid (Calls Tryz.prog 42 #[.agg #[.int .i64 f.i, .int .i64 f.p.s, .int .i64 f.p.d, .int .i64 f.p.sp, .int .i64 f.p.dp, .int .i64 f.n], c1, c2] wr fun e w' => e = .returned (.bool (is f)) ∧ Below wr.heap.size wr w') := hF.out f wr D1
      have HX : Hid (FL[k]? = some f) := hxk
      have k1 : (0 : Int) ≤ (k : Int) := by omega
      have k2 : (k : Int) < (FL.length : Int) := by omega
      clear hL hxk hF hb
      cases hv : is f
      · rw [hv] at PR
        have HV : Hid ((FL.take (k + 1)).any is = false) := by show _ = _; rw [any_takeF HX.out, hno.out, hv]; rfl
        clear hv hno HX
        obtain ⟨fi, ⟨fs, fd, fsp, fdp⟩, fn⟩ := f
        dsimp only at *
        go_wp2_with fail
        refine PR.out.mono ?_
        rintro e w2 ⟨rfl, hb2⟩
        have D2 := chnN hb2 D1
        clear hb2 D1 c0 d1 d2 d3 d4 d5 PR
        go_wp2_with fail
        go_roundw
        case rel => exact ⟨k + 1, by go_num, by omega, D2, HV⟩
        case measure => simp [intOf]; omega
      · rw [hv] at PR
        have fin : Hid (Idx is FL (k : Int)) := idx_at hno.out HX.out hv
        clear hv hno HX
        obtain ⟨fi, ⟨fs, fd, fsp, fdp⟩, fn⟩ := f
        dsimp only at *
        go_wp2_with fail
        refine PR.out.mono ?_
        rintro e w2 ⟨rfl, hb2⟩
        have D2 := chnN hb2 D1
        clear hb2 D1 c0 d1 d2 d3 d4 d5 PR
        go_wp2_with fail
        go_ret
        exact ⟨_, rfl, fin, D2⟩
    · have fin : Hid (Idx is FL (-1)) := idx_end (by rw [← show k = FL.length by omega]; exact hno.out)
      go_wp2_with fail
      go_ret
      exact ⟨_, rfl, fin, D1⟩
set_option maxHeartbeats 2000000 in
theorem find_c6 (c1 c2 : Value) (g : Nat) (vA vL : Value) (A : Option Addr) (cap : Nat) (FL : List Ft) (is : Ft → Bool) (base : Nat) (w : World) (hb0 : base ≤ w.heap.size) (hG : Hid (Bk w g #[vA, vL, .slice A FL.length cap] 35)) (hL : Hid (SlAt base w 6 IsFt (.slice A FL.length cap) FL)) (hF : Hid (∀ f W, Below w.heap.size w W → Calls Tryz.prog 42 #[.agg #[.int .i64 f.i, .int .i64 f.p.s, .int .i64 f.p.d, .int .i64 f.p.sp, .int .i64 f.p.dp, .int .i64 f.n], c1, c2] W fun e w' => e = .returned (.bool (is f)) ∧ Below W.heap.size W w')) :
    Calls Tryz.prog 34 #[.pointer (some ⟨g, 0, none⟩), .func (.func 42) #[] #[c1, c2]] w fun e w' => ∃ j : Int, e = .returned (.int .i64 j) ∧ Hid (Idx is FL j) ∧ Below w.heap.size w w' := by
  have IX : Hid (Calls Tryz.prog 82 #[.slice A FL.length cap, .func (.func 42) #[] #[c1, c2]] w fun e w' => ∃ j : Int, e = .returned (.int .i64 j) ∧ Hid (Idx is FL j) ∧ Below w.heap.size w w') := index_c6 c1 c2 A cap FL is base w hb0 hL hF
  have g2 := hG.out.at 2
  clear hG hL hF
  go_enter Tryz.func34, Tryz.ntmps34
  go_wp2_with fail
  with_reducible refine IX.out.mono ?_
  rintro e w2 ⟨j, rfl, h2⟩
  go_wp2_with fail
  go_ret
  exact ⟨j, rfl, h2⟩
set_option maxHeartbeats 4000000 in
set_option maxRecDepth 100000 in
theorem index_c7 (c1 c2 c3 c4 : Value) (A : Option Addr) (cap : Nat) (FL : List Ft) (is : Ft → Bool) (base : Nat) (w : World) (hb0 : base ≤ w.heap.size) (hL : Hid (SlAt base w 6 IsFt (.slice A FL.length cap) FL)) (hF : Hid (∀ f W, Below w.heap.size w W → Calls Tryz.prog 48 #[.agg #[.int .i64 f.i, .int .i64 f.p.s, .int .i64 f.p.d, .int .i64 f.p.sp, .int .i64 f.p.dp, .int .i64 f.n], c1, c2, c3, c4] W fun e w' => e = .returned (.bool (is f)) ∧ Below W.heap.size W w')) :
    Calls Tryz.prog 82 #[.slice A FL.length cap, .func (.func 48) #[] #[c1, c2, c3, c4]] w fun e w' => ∃ j : Int, e = .returned (.int .i64 j) ∧ Hid (Idx is FL j) ∧ Below w.heap.size w w' := by
  have hm : FL.length ≤ maxLen := by obtain ⟨_, _, e, _, a, b, _⟩ := hL.out; cases e; omega
  unfold maxLen at hm
  go_enter Tryz.func82, Tryz.ntmps82
  go_wp2_with fail
  go_loopw [8] (fun i wr => ∃ k : Nat, i = .int .i64 (k : Int) ∧ k ≤ FL.length ∧ Below w.heap.size w wr ∧ Hid ((FL.take k).any is = false)) (fun i _ => FL.length - (intOf i).toNat)
  case atStart => exact ⟨0, rfl, by omega, Below.refl _ _, rfl⟩
  case round =>
    obtain ⟨k, rfl, hk, D1, hno⟩ := hrel
    by_cases hlt : k < FL.length
    · obtain ⟨f, hxk⟩ : ∃ f, FL[k]? = some f := ⟨_, List.getElem?_eq_getElem hlt⟩
      obtain ⟨b, o, rfl, hb, c0, d1, d2, d3, d4, d5⟩ := (SlAt.below hL.out (D1.mono hb0) (fun _ _ _ h => h)).ft hxk
      have PR : Hid (Calls Tryz.prog 48 #[.agg #[.int .i64 f.i, .int .i64 f.p.s, .int .i64 f.p.d, .int .i64 f.p.sp, .int .i64 f.p.dp, .int .i64 f.n], c1, c2, c3, c4] wr fun e w' => e = .returned (.bool (is f)) ∧ Below wr.heap.size wr w') := hF.out f wr D1
      have HX : Hid (FL[k]? = some f) := hxk
      have k1 : (0 : Int) ≤ (k : Int) := by omega
      have k2 : (k : Int) < (FL.length : Int) := by omega
      clear hL hxk hF hb
      cases hv : is f
      · rw [hv] at PR
        have HV : Hid ((FL.take (k + 1)).any is = false) := by show _ = _; rw [any_takeF HX.out, hno.out, hv]; rfl
        clear hv hno HX
        obtain ⟨fi, ⟨fs, fd, fsp, fdp⟩, fn⟩ := f
        dsimp only at *
        go_wp2_with fail
        refine PR.out.mono ?_
        rintro e w2 ⟨rfl, hb2⟩
        have D2 := chnN hb2 D1
        clear hb2 D1 c0 d1 d2 d3 d4 d5 PR
        go_wp2_with fail
        go_roundw
        case rel => exact ⟨k + 1, by go_num, by omega, D2, HV⟩
        case measure => simp [intOf]; omega
      · rw [hv] at PR
        have fin : Hid (Idx is FL (k : Int)) := idx_at hno.out HX.out hv
        clear hv hno HX
        obtain ⟨fi, ⟨fs, fd, fsp, fdp⟩, fn⟩ := f
        dsimp only at *
        go_wp2_with fail
        refine PR.out.mono ?_
        rintro e w2 ⟨rfl, hb2⟩
        have D2 := chnN hb2 D1
        clear hb2 D1 c0 d1 d2 d3 d4 d5 PR
        go_wp2_with fail
        go_ret
        exact ⟨_, rfl, fin, D2⟩
    · have fin : Hid (Idx is FL (-1)) := idx_end (by rw [← show k = FL.length by omega]; exact hno.out)
      go_wp2_with fail
      go_ret
      exact ⟨_, rfl, fin, D1⟩
set_option maxHeartbeats 2000000 in
theorem find_c7 (c1 c2 c3 c4 : Value) (g : Nat) (vA vL : Value) (A : Option Addr) (cap : Nat) (FL : List Ft) (is : Ft → Bool) (base : Nat) (w : World) (hb0 : base ≤ w.heap.size) (hG : Hid (Bk w g #[vA, vL, .slice A FL.length cap] 35)) (hL : Hid (SlAt base w 6 IsFt (.slice A FL.length cap) FL)) (hF : Hid (∀ f W, Below w.heap.size w W → Calls Tryz.prog 48 #[.agg #[.int .i64 f.i, .int .i64 f.p.s, .int .i64 f.p.d, .int .i64 f.p.sp, .int .i64 f.p.dp, .int .i64 f.n], c1, c2, c3, c4] W fun e w' => e = .returned (.bool (is f)) ∧ Below W.heap.size W w')) :
    Calls Tryz.prog 34 #[.pointer (some ⟨g, 0, none⟩), .func (.func 48) #[] #[c1, c2, c3, c4]] w fun e w' => ∃ j : Int, e = .returned (.int .i64 j) ∧ Hid (Idx is FL j) ∧ Below w.heap.size w w' := by
  have IX : Hid (Calls Tryz.prog 82 #[.slice A FL.length cap, .func (.func 48) #[] #[c1, c2, c3, c4]] w fun e w' => ∃ j : Int, e = .returned (.int .i64 j) ∧ Hid (Idx is FL j) ∧ Below w.heap.size w w') := index_c7 c1 c2 c3 c4 A cap FL is base w hb0 hL hF
  have g2 := hG.out.at 2
  clear hG hL hF
  go_enter Tryz.func34, Tryz.ntmps34
  go_wp2_with fail
  with_reducible refine IX.out.mono ?_
  rintro e w2 ⟨j, rfl, h2⟩
  go_wp2_with fail
  go_ret
  exact ⟨j, rfl, h2⟩
end Go.Proofs.YtgmjlkllghlmmaaGreat
