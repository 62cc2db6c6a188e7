/-
  StepPlays: facts in memory; the first fact of a sort.
-/
import Derived.Test.YthioedgnambomaaGreatXAJ
import Derived.Deep.RegionHeld3
import Derived.Test.YthioedgnambomaaGreatXAD
import Derived.Deep.RegionLaw
import Derived.Test.YthioedgnambomaaGreatXAF
namespace Go.Proofs.YthioedgnambomaaGreat
open Go.RowKit Go.Maps

abbrev ftC (f : Ft) : List Value := [.int .i64 f.i, .int .i64 f.p.s, .int .i64 f.p.d, .int .i64 f.p.sp, .int .i64 f.p.dp, .int .i64 f.n]
def IsFt (cs : List Value) (f : Ft) : Prop := cs = ftC f
theorem SlAt.ft {base : Nat} {w : World} {A : Option Addr} {c : Nat} {FL : List Ft} (h : SlAt base w 6 IsFt (.slice A FL.length c) FL) {k : Nat} {f : Ft} (hf : FL[k]? = some f) : ∃ b o, A = some ⟨b, o, none⟩ ∧ b < base ∧ w.cell? ⟨b, o + k * 6, none⟩ = some (.int .i64 f.i) ∧ w.cell? ⟨b, o + k * 6 + 1, none⟩ = some (.int .i64 f.p.s) ∧ w.cell? ⟨b, o + k * 6 + 2, none⟩ = some (.int .i64 f.p.d) ∧ w.cell? ⟨b, o + k * 6 + 3, none⟩ = some (.int .i64 f.p.sp) ∧ w.cell? ⟨b, o + k * 6 + 4, none⟩ = some (.int .i64 f.p.dp) ∧ w.cell? ⟨b, o + k * 6 + 5, none⟩ = some (.int .i64 f.n) := by
  obtain ⟨A', c', e, h0, h1, h2, h3⟩ := h
  cases e
  obtain ⟨b, o, ea, hl, hr⟩ := h3 (fun e => by rw [e] at hf; cases hf)
  obtain ⟨cs, _, hc, c3⟩ := hr k f hf
  unfold IsFt at hc
  subst hc
  exact ⟨b, o, ea, hl, c3 0 _ rfl, c3 1 _ rfl, c3 2 _ rfl, c3 3 _ rfl, c3 4 _ rfl, c3 5 _ rfl⟩
/-- Where the first fact of a sort is, or -1. -/
def Idx (is : Ft → Bool) (FL : List Ft) (j : Int) : Prop := (j = -1 ∧ FL.find? is = none) ∨ ∃ (k : Nat) (f : Ft), j = (k : Int) ∧ FL[k]? = some f ∧ FL.find? is = some f ∧ FL.eraseP is = FL.take k ++ FL.drop (k + 1)
theorem idx_end {is : Ft → Bool} {FL : List Ft} (h : (FL.take FL.length).any is = false) : Idx is FL (-1) := by
  rw [List.take_length] at h
  refine Or.inl ⟨rfl, List.find?_eq_none.2 (fun f hf e => ?_)⟩
  rw [Bool.eq_false_iff] at h
  exact h (List.any_eq_true.2 ⟨f, hf, e⟩)
theorem idx_at {is : Ft → Bool} : ∀ {FL : List Ft} {k : Nat} {f : Ft}, (FL.take k).any is = false → FL[k]? = some f → is f = true → Idx is FL (k : Int)
  | [], k, f, _, hf, _ => by simp at hf
  | x :: xs, 0, f, _, hf, hi => by
    obtain rfl := Option.some.inj hf
    exact Or.inr ⟨0, x, rfl, rfl, by simp [hi], by simp [hi]⟩
  | x :: xs, k + 1, f, hn, hf, hi => by
    have hx : is x = false := by
      rw [List.take_succ_cons, List.any_cons] at hn
      simp at hn
      exact Bool.eq_false_iff.2 (by simp [hn.1])
    have hn' : (xs.take k).any is = false := by
      rw [List.take_succ_cons, List.any_cons, hx, Bool.false_or] at hn
      exact hn
    rcases idx_at (k := k) hn' (by simpa using hf) hi with ⟨h, _⟩ | ⟨k', g, h1, h2, h3, h4⟩
    · omega
    · obtain rfl : k = k' := by omega
      refine Or.inr ⟨k + 1, g, by omega, by simpa using h2, by simp [hx, h3], ?_⟩
      rw [List.eraseP_cons_of_neg (by simp [hx]), h4]
      simp
theorem any_takeF {is : Ft → Bool} {FL : List Ft} {k : Nat} {f : Ft} (h : FL[k]? = some f) : (FL.take (k + 1)).any is = ((FL.take k).any is || is f) := by
  obtain ⟨hk, e⟩ := List.getElem?_eq_some_iff.1 h
  rw [List.take_succ_eq_append_getElem hk, e]
  simp
set_option maxHeartbeats 4000000 in
set_option maxRecDepth 100000 in
theorem index_c1 (c1 c2 : Value) (A : Option Addr) (cap : Nat) (FL : List Ft) (is : Ft → Bool) (base : Nat) (w : World) (hb0 : base ≤ w.heap.size) (hL : Hid (SlAt base w 6 IsFt (.slice A FL.length cap) FL)) (hF : Hid (∀ f W, Below w.heap.size w W → Calls Tryz.prog 35 #[.agg #[.int .i64 f.i, .int .i64 f.p.s, .int .i64 f.p.d, .int .i64 f.p.sp, .int .i64 f.p.dp, .int .i64 f.n], c1, c2] W fun e w' => e = .returned (.bool (is f)) ∧ Below W.heap.size W w')) :
    Calls Tryz.prog 71 #[.slice A FL.length cap, .func (.func 35) #[] #[c1, c2]] w fun e w' => ∃ j : Int, e = .returned (.int .i64 j) ∧ Hid (Idx is FL j) ∧ Below w.heap.size w w' := by
  have hm : FL.length ≤ maxLen := by obtain ⟨_, _, e, _, a, b, _⟩ := hL.out; cases e; omega
  unfold maxLen at hm
  go_enter Tryz.func71, Tryz.ntmps71
  go_wp2_with fail
  go_loopw [8] (fun i wr => ∃ k : Nat, i = .int .i64 (k : Int) ∧ k ≤ FL.length ∧ Below w.heap.size w wr ∧ Hid ((FL.take k).any is = false)) (fun i _ => FL.length - (intOf i).toNat)
  case atStart => exact ⟨0, rfl, by omega, Below.refl _ _, rfl⟩
  case round =>
    obtain ⟨k, rfl, hk, D1, hno⟩ := hrel
    by_cases hlt : k < FL.length
    · obtain ⟨f, hxk⟩ : ∃ f, FL[k]? = some f := ⟨_, List.getElem?_eq_getElem hlt⟩
      obtain ⟨b, o, rfl, hb, c0, d1, d2, d3, d4, d5⟩ := (SlAt.below hL.out (D1.mono hb0) (fun _ _ _ h => h)).ft hxk
      have PR : Hid (Calls Tryz.prog 35 #[.agg #[.int .i64 f.i, .int .i64 f.p.s, .int .i64 f.p.d, .int .i64 f.p.sp, .int .i64 f.p.dp, .int .i64 f.n], c1, c2] wr fun e w' => e = .returned (.bool (is f)) ∧ Below wr.heap.size wr w') := hF.out f wr D1
      have HX : Hid (FL[k]? = some f) := hxk
      have k1 : (0 : Int) ≤ (k : Int) := by omega
      have k2 : (k : Int) < (FL.length : Int) := by omega
      clear hL hxk hF hb
      cases hv : is f
      · rw [hv] at PR
        have HV : Hid ((FL.take (k + 1)).any is = false) := by show _ = _; rw [any_takeF HX.out, hno.out, hv]; rfl
        clear hv hno HX
        obtain ⟨fi, ⟨fs, fd, fsp, fdp⟩, fn⟩ := f
        dsimp only at *
        go_wp2_with fail
        refine PR.out.mono ?_
        rintro e w2 ⟨rfl, hb2⟩
        have D2 := chnN hb2 D1
        clear hb2 D1 c0 d1 d2 d3 d4 d5 PR
        go_wp2_with fail
        go_roundw
        case rel => exact ⟨k + 1, by go_num, by omega, D2, HV⟩
        case measure => simp [intOf]; omega
      · rw [hv] at PR
        have fin : Hid (Idx is FL (k : Int)) := idx_at hno.out HX.out hv
        clear hv hno HX
        obtain ⟨fi, ⟨fs, fd, fsp, fdp⟩, fn⟩ := f
        dsimp only at *
        go_wp2_with fail
        refine PR.out.mono ?_
        rintro e w2 ⟨rfl, hb2⟩
        have D2 := chnN hb2 D1
        clear hb2 D1 c0 d1 d2 d3 d4 d5 PR
        go_wp2_with fail
        go_ret
        exact ⟨_, rfl, fin, D2⟩
    · have fin : Hid (Idx is FL (-1)) := idx_end (by rw [← show k = FL.length by omega]; exact hno.out)
      go_wp2_with fail
      go_ret
      exact ⟨_, rfl, fin, D1⟩
set_option maxHeartbeats 2000000 in
theorem find_c1 (c1 c2 : Value) (g : Nat) (vA vL : Value) (A : Option Addr) (cap : Nat) (FL : List Ft) (is : Ft → Bool) (base : Nat) (w : World) (hb0 : base ≤ w.heap.size) (hG : Hid (Bk w g #[vA, vL, .slice A FL.length cap] 58)) (hL : Hid (SlAt base w 6 IsFt (.slice A FL.length cap) FL)) (hF : Hid (∀ f W, Below w.heap.size w W → Calls Tryz.prog 35 #[.agg #[.int .i64 f.i, .int .i64 f.p.s, .int .i64 f.p.d, .int .i64 f.p.sp, .int .i64 f.p.dp, .int .i64 f.n], c1, c2] W fun e w' => e = .returned (.bool (is f)) ∧ Below W.heap.size W w')) :
    Calls Tryz.prog 34 #[.pointer (some ⟨g, 0, none⟩), .func (.func 35) #[] #[c1, c2]] w fun e w' => ∃ j : Int, e = .returned (.int .i64 j) ∧ Hid (Idx is FL j) ∧ Below w.heap.size w w' := by
  have IX : Hid (Calls Tryz.prog 71 #[.slice A FL.length cap, .func (.func 35) #[] #[c1, c2]] w fun e w' => ∃ j : Int, e = .returned (.int .i64 j) ∧ Hid (Idx is FL j) ∧ Below w.heap.size w w') := index_c1 c1 c2 A cap FL is base w hb0 hL hF
  have g2 := hG.out.at 2
  clear hG hL hF
  go_enter Tryz.func34, Tryz.ntmps34
  go_wp2_with fail
  with_reducible refine IX.out.mono ?_
  rintro e w2 ⟨j, rfl, h2⟩
  go_wp2_with fail
  go_ret
  exact ⟨j, rfl, h2⟩
set_option maxHeartbeats 4000000 in
set_option maxRecDepth 100000 in
theorem index_c2 (c1 c2 : Value) (A : Option Addr) (cap : Nat) (FL : List Ft) (is : Ft → Bool) (base : Nat) (w : World) (hb0 : base ≤ w.heap.size) (hL : Hid (SlAt base w 6 IsFt (.slice A FL.length cap) FL)) (hF : Hid (∀ f W, Below w.heap.size w W → Calls Tryz.prog 37 #[.agg #[.int .i64 f.i, .int .i64 f.p.s, .int .i64 f.p.d, .int .i64 f.p.sp, .int .i64 f.p.dp, .int .i64 f.n], c1, c2] W fun e w' => e = .returned (.bool (is f)) ∧ Below W.heap.size W w')) :
    Calls Tryz.prog 71 #[.slice A FL.length cap, .func (.func 37) #[] #[c1, c2]] w fun e w' => ∃ j : Int, e = .returned (.int .i64 j) ∧ Hid (Idx is FL j) ∧ Below w.heap.size w w' := by
  have hm : FL.length ≤ maxLen := by obtain ⟨_, _, e, _, a, b, _⟩ := hL.out; cases e; omega
  unfold maxLen at hm
  go_enter Tryz.func71, Tryz.ntmps71
  go_wp2_with fail
  go_loopw [8] (fun i wr => ∃ k : Nat, i = .int .i64 (k : Int) ∧ k ≤ FL.length ∧ Below w.heap.size w wr ∧ Hid ((FL.take k).any is = false)) (fun i _ => FL.length - (intOf i).toNat)
  case atStart => exact ⟨0, rfl, by omega, Below.refl _ _, rfl⟩
  case round =>
    obtain ⟨k, rfl, hk, D1, hno⟩ := hrel
    by_cases hlt : k < FL.length
    · obtain ⟨f, hxk⟩ : ∃ f, FL[k]? = some f := ⟨_, List.getElem?_eq_getElem hlt⟩
      obtain ⟨b, o, rfl, hb, c0, d1, d2, d3, d4, d5⟩ := (SlAt.below hL.out (D1.mono hb0) (fun _ _ _ h => h)).ft hxk
      have PR : Hid (Calls Tryz.prog 37 #[.agg #[.int .i64 f.i, .int .i64 f.p.s, .int .i64 f.p.d, .int .i64 f.p.sp, .int .i64 f.p.dp, .int .i64 f.n], c1, c2] wr fun e w' => e = .returned (.bool (is f)) ∧ Below wr.heap.size wr w') := hF.out f wr D1
      have HX : Hid (FL[k]? = some f) := hxk
      have k1 : (0 : Int) ≤ (k : Int) := by omega
      have k2 : (k : Int) < (FL.length : Int) := by omega
      clear hL hxk hF hb
      cases hv : is f
      · rw [hv] at PR
        have HV : Hid ((FL.take (k + 1)).any is = false) := by show _ = _; rw [any_takeF HX.out, hno.out, hv]; rfl
        clear hv hno HX
        obtain ⟨fi, ⟨fs, fd, fsp, fdp⟩, fn⟩ := f
        dsimp only at *
        go_wp2_with fail
        refine PR.out.mono ?_
        rintro e w2 ⟨rfl, hb2⟩
        have D2 := chnN hb2 D1
        clear hb2 D1 c0 d1 d2 d3 d4 d5 PR
        go_wp2_with fail
        go_roundw
        case rel => exact ⟨k + 1, by go_num, by omega, D2, HV⟩
        case measure => simp [intOf]; omega
      · rw [hv] at PR
        have fin : Hid (Idx is FL (k : Int)) := idx_at hno.out HX.out hv
        clear hv hno HX
        obtain ⟨fi, ⟨fs, fd, fsp, fdp⟩, fn⟩ := f
        dsimp only at *
        go_wp2_with fail
        refine PR.out.mono ?_
        rintro e w2 ⟨rfl, hb2⟩
        have D2 := chnN hb2 D1
        clear hb2 D1 c0 d1 d2 d3 d4 d5 PR
        go_wp2_with fail
        go_ret
        exact ⟨_, rfl, fin, D2⟩
    · have fin : Hid (Idx is FL (-1)) := idx_end (by rw [← show k = FL.length by omega]; exact hno.out)
      go_wp2_with fail
      go_ret
      exact ⟨_, rfl, fin, D1⟩
set_option maxHeartbeats 2000000 in
theorem find_c2 (c1 c2 : Value) (g : Nat) (vA vL : Value) (A : Option Addr) (cap : Nat) (FL : List Ft) (is : Ft → Bool) (base : Nat) (w : World) (hb0 : base ≤ w.heap.size) (hG : Hid (Bk w g #[vA, vL, .slice A FL.length cap] 58)) (hL : Hid (SlAt base w 6 IsFt (.slice A FL.length cap) FL)) (hF : Hid (∀ f W, Below w.heap.size w W → Calls Tryz.prog 37 #[.agg #[.int .i64 f.i, .int .i64 f.p.s, .int .i64 f.p.d, .int .i64 f.p.sp, .int .i64 f.p.dp, .int .i64 f.n], c1, c2] W fun e w' => e = .returned (.bool (is f)) ∧ Below W.heap.size W w')) :
    Calls Tryz.prog 34 #[.pointer (some ⟨g, 0, none⟩), .func (.func 37) #[] #[c1, c2]] w fun e w' => ∃ j : Int, e = .returned (.int .i64 j) ∧ Hid (Idx is FL j) ∧ Below w.heap.size w w' := by
  have IX : Hid (Calls Tryz.prog 71 #[.slice A FL.length cap, .func (.func 37) #[] #[c1, c2]] w fun e w' => ∃ j : Int, e = .returned (.int .i64 j) ∧ Hid (Idx is FL j) ∧ Below w.heap.size w w') := index_c2 c1 c2 A cap FL is base w hb0 hL hF
  have g2 := hG.out.at 2
  clear hG hL hF
  go_enter Tryz.func34, Tryz.ntmps34
  go_wp2_with fail
  with_reducible refine IX.out.mono ?_
  rintro e w2 ⟨j, rfl, h2⟩
  go_wp2_with fail
  go_ret
  exact ⟨j, rfl, h2⟩
set_option maxHeartbeats 4000000 in
set_option maxRecDepth 100000 in
theorem index_c3 (c1 c2 : Value) (A : Option Addr) (cap : Nat) (FL : List Ft) (is : Ft → Bool) (base : Nat) (w : World) (hb0 : base ≤ w.heap.size) (hL : Hid (SlAt base w 6 IsFt (.slice A FL.length cap) FL)) (hF : Hid (∀ f W, Below w.heap.size w W → Calls Tryz.prog 38 #[.agg #[.int .i64 f.i, .int .i64 f.p.s, .int .i64 f.p.d, .int .i64 f.p.sp, .int .i64 f.p.dp, .int .i64 f.n], c1, c2] W fun e w' => e = .returned (.bool (is f)) ∧ Below W.heap.size W w')) :
    Calls Tryz.prog 71 #[.slice A FL.length cap, .func (.func 38) #[] #[c1, c2]] w fun e w' => ∃ j : Int, e = .returned (.int .i64 j) ∧ Hid (Idx is FL j) ∧ Below w.heap.size w w' := by
  have hm : FL.length ≤ maxLen := by obtain ⟨_, _, e, _, a, b, _⟩ := hL.out; cases e; omega
  unfold maxLen at hm
  go_enter Tryz.func71, Tryz.ntmps71
  go_wp2_with fail
  go_loopw [8] (fun i wr => ∃ k : Nat, i = .int .i64 (k : Int) ∧ k ≤ FL.length ∧ Below w.heap.size w wr ∧ Hid ((FL.take k).any is = false)) (fun i _ => FL.length - (intOf i).toNat)
  case atStart => exact ⟨0, rfl, by omega, Below.refl _ _, rfl⟩
  case round =>
    obtain ⟨k, rfl, hk, D1, hno⟩ := hrel
    by_cases hlt : k < FL.length
    · obtain ⟨f, hxk⟩ : ∃ f, FL[k]? = some f := ⟨_, List.getElem?_eq_getElem hlt⟩
      obtain ⟨b, o, rfl, hb, c0, d1, d2, d3, d4, d5⟩ := (SlAt.below hL.out (D1.mono hb0) (fun _ _ _ h => h)).ft hxk
      have PR : Hid (Calls Tryz.prog 38 #[.agg #[.int .i64 f.i, .int .i64 f.p.s, .int .i64 f.p.d, .int .i64 f.p.sp, .int .i64 f.p.dp, .int .i64 f.n], c1, c2] wr fun e w' => e = .returned (.bool (is f)) ∧ Below wr.heap.size wr w') := hF.out f wr D1
      have HX : Hid (FL[k]? = some f) := hxk
      have k1 : (0 : Int) ≤ (k : Int) := by omega
      have k2 : (k : Int) < (FL.length : Int) := by omega
      clear hL hxk hF hb
      cases hv : is f
      · rw [hv] at PR
        have HV : Hid ((FL.take (k + 1)).any is = false) := by show _ = _; rw [any_takeF HX.out, hno.out, hv]; rfl
        clear hv hno HX
        obtain ⟨fi, ⟨fs, fd, fsp, fdp⟩, fn⟩ := f
        dsimp only at *
        go_wp2_with fail
        refine PR.out.mono ?_
        rintro e w2 ⟨rfl, hb2⟩
        have D2 := chnN hb2 D1
        clear hb2 D1 c0 d1 d2 d3 d4 d5 PR
        go_wp2_with fail
        go_roundw
        case rel => exact ⟨k + 1, by go_num, by omega, D2, HV⟩
        case measure => simp [intOf]; omega
      · rw [hv] at PR
        have fin : Hid (Idx is FL (k : Int)) := idx_at hno.out HX.out hv
        clear hv hno HX
        obtain ⟨fi, ⟨fs, fd, fsp, fdp⟩, fn⟩ := f
        dsimp only at *
        go_wp2_with fail
        refine PR.out.mono ?_
        rintro e w2 ⟨rfl, hb2⟩
        have D2 := chnN hb2 D1
        clear hb2 D1 c0 d1 d2 d3 d4 d5 PR
        go_wp2_with fail
        go_ret
        exact ⟨_, rfl, fin, D2⟩
    · have fin : Hid (Idx is FL (-1)) := idx_end (by rw [← show k = FL.length by omega]; exact hno.out)
      go_wp2_with fail
      go_ret
      exact ⟨_, rfl, fin, D1⟩
set_option maxHeartbeats 2000000 in
theorem find_c3 (c1 c2 : Value) (g : Nat) (vA vL : Value) (A : Option Addr) (cap : Nat) (FL : List Ft) (is : Ft → Bool) (base : Nat) (w : World) (hb0 : base ≤ w.heap.size) (hG : Hid (Bk w g #[vA, vL, .slice A FL.length cap] 58)) (hL : Hid (SlAt base w 6 IsFt (.slice A FL.length cap) FL)) (hF : Hid (∀ f W, Below w.heap.size w W → Calls Tryz.prog 38 #[.agg #[.int .i64 f.i, .int .i64 f.p.s, .int .i64 f.p.d, .int .i64 f.p.sp, .int .i64 f.p.dp, .int .i64 f.n], c1, c2] W fun e w' => e = .returned (.bool (is f)) ∧ Below W.heap.size W w')) :
    Calls Tryz.prog 34 #[.pointer (some ⟨g, 0, none⟩), .func (.func 38) #[] #[c1, c2]] w fun e w' => ∃ j : Int, e = .returned (.int .i64 j) ∧ Hid (Idx is FL j) ∧ Below w.heap.size w w' := by
  have IX : Hid (Calls Tryz.prog 71 #[.slice A FL.length cap, .func (.func 38) #[] #[c1, c2]] w fun e w' => ∃ j : Int, e = .returned (.int .i64 j) ∧ Hid (Idx is FL j) ∧ Below w.heap.size w w') := index_c3 c1 c2 A cap FL is base w hb0 hL hF
  have g2 := hG.out.at 2
  clear hG hL hF
  go_enter Tryz.func34, Tryz.ntmps34
  go_wp2_with fail
  with_reducible refine IX.out.mono ?_
  rintro e w2 ⟨j, rfl, h2⟩
  go_wp2_with fail
  go_ret
  exact ⟨j, rfl, h2⟩
set_option maxHeartbeats 4000000 in
set_option maxRecDepth 100000 in
theorem index_c4 (c1 c2 : Value) (A : Option Addr) (cap : Nat) (FL : List Ft) (is : Ft → Bool) (base : Nat) (w : World) (hb0 : base ≤ w.heap.size) (hL : Hid (SlAt base w 6 IsFt (.slice A FL.length cap) FL)) (hF : Hid (∀ f W, Below w.heap.size w W → Calls Tryz.prog 40 #[.agg #[.int .i64 f.i, .int .i64 f.p.s, .int .i64 f.p.d, .int .i64 f.p.sp, .int .i64 f.p.dp, .int .i64 f.n], c1, c2] W fun e w' => e = .returned (.bool (is f)) ∧ Below W.heap.size W w')) :
    Calls Tryz.prog 71 #[.slice A FL.length cap, .func (.func 40) #[] #[c1, c2]] w fun e w' => ∃ j : Int, e = .returned (.int .i64 j) ∧ Hid (Idx is FL j) ∧ Below w.heap.size w w' := by
  have hm : FL.length ≤ maxLen := by obtain ⟨_, _, e, _, a, b, _⟩ := hL.out; cases e; omega
  unfold maxLen at hm
  go_enter Tryz.func71, Tryz.ntmps71
  go_wp2_with fail
  go_loopw [8] (fun i wr => ∃ k : Nat, i = .int .i64 (k : Int) ∧ k ≤ FL.length ∧ Below w.heap.size w wr ∧ Hid ((FL.take k).any is = false)) (fun i _ => FL.length - (intOf i).toNat)
  case atStart => exact ⟨0, rfl, by omega, Below.refl _ _, rfl⟩
  case round =>
    obtain ⟨k, rfl, hk, D1, hno⟩ := hrel
    by_cases hlt : k < FL.length
    · obtain ⟨f, hxk⟩ : ∃ f, FL[k]? = some f := ⟨_, List.getElem?_eq_getElem hlt⟩
      obtain ⟨b, o, rfl, hb, c0, d1, d2, d3, d4, d5⟩ := (SlAt.below hL.out (D1.mono hb0) (fun _ _ _ h => h)).ft hxk
      have PR : Hid (Calls Tryz.prog 40 #[.agg #[.int .i64 f.i, .int .i64 f.p.s, .int .i64 f.p.d, .int .i64 f.p.sp, .int .i64 f.p.dp, .int .i64 f.n], c1, c2] wr fun e w' => e = .returned (.bool (is f)) ∧ Below wr.heap.size wr w') := hF.out f wr D1
      have HX : Hid (FL[k]? = some f) := hxk
      have k1 : (0 : Int) ≤ (k : Int) := by omega
      have k2 : (k : Int) < (FL.length : Int) := by omega
      clear hL hxk hF hb
      cases hv : is f
      · rw [hv] at PR
        have HV : Hid ((FL.take (k + 1)).any is = false) := by show _ = _; rw [any_takeF HX.out, hno.out, hv]; rfl
        clear hv hno HX
        obtain ⟨fi, ⟨fs, fd, fsp, fdp⟩, fn⟩ := f
        dsimp only at *
        go_wp2_with fail
        refine PR.out.mono ?_
        rintro e w2 ⟨rfl, hb2⟩
        have D2 := chnN hb2 D1
        clear hb2 D1 c0 d1 d2 d3 d4 d5 PR
        go_wp2_with fail
        go_roundw
        case rel => exact ⟨k + 1, by go_num, by omega, D2, HV⟩
        case measure => simp [intOf]; omega
      · rw [hv] at PR
        have fin : Hid (Idx is FL (k : Int)) := idx_at hno.out HX.out hv
        clear hv hno HX
        obtain ⟨fi, ⟨fs, fd, fsp, fdp⟩, fn⟩ := f
        dsimp only at *
        go_wp2_with fail
        refine PR.out.mono ?_
        rintro e w2 ⟨rfl, hb2⟩
        have D2 := chnN hb2 D1
        clear hb2 D1 c0 d1 d2 d3 d4 d5 PR
        go_wp2_with fail
        go_ret
        exact ⟨_, rfl, fin, D2⟩
    · have fin : Hid (Idx is FL (-1)) := idx_end (by rw [← show k = FL.length by omega]; exact hno.out)
      go_wp2_with fail
      go_ret
      exact ⟨_, rfl, fin, D1⟩
set_option maxHeartbeats 2000000 in
theorem find_c4 (c1 c2 : Value) (g : Nat) (vA vL : Value) (A : Option Addr) (cap : Nat) (FL : List Ft) (is : Ft → Bool) (base : Nat) (w : World) (hb0 : base ≤ w.heap.size) (hG : Hid (Bk w g #[vA, vL, .slice A FL.length cap] 58)) (hL : Hid (SlAt base w 6 IsFt (.slice A FL.length cap) FL)) (hF : Hid (∀ f W, Below w.heap.size w W → Calls Tryz.prog 40 #[.agg #[.int .i64 f.i, .int .i64 f.p.s, .int .i64 f.p.d, .int .i64 f.p.sp, .int .i64 f.p.dp, .int .i64 f.n], c1, c2] W fun e w' => e = .returned (.bool (is f)) ∧ Below W.heap.size W w')) :
    Calls Tryz.prog 34 #[.pointer (some ⟨g, 0, none⟩), .func (.func 40) #[] #[c1, c2]] w fun e w' => ∃ j : Int, e = .returned (.int .i64 j) ∧ Hid (Idx is FL j) ∧ Below w.heap.size w w' := by
  have IX : Hid (Calls Tryz.prog 71 #[.slice A FL.length cap, .func (.func 40) #[] #[c1, c2]] w fun e w' => ∃ j : Int, e = .returned (.int .i64 j) ∧ Hid (Idx is FL j) ∧ Below w.heap.size w w') := index_c4 c1 c2 A cap FL is base w hb0 hL hF
  have g2 := hG.out.at 2
  clear hG hL hF
  go_enter Tryz.func34, Tryz.ntmps34
  go_wp2_with fail
  with_reducible refine IX.out.mono ?_
  rintro e w2 ⟨j, rfl, h2⟩
  go_wp2_with fail
  go_ret
  exact ⟨j, rfl, h2⟩
set_option maxHeartbeats 4000000 in
set_option maxRecDepth 100000 in
theorem index_c5 (c1 c2 c3 : Value) (A : Option Addr) (cap : Nat) (FL : List Ft) (is : Ft → Bool) (base : Nat) (w : World) (hb0 : base ≤ w.heap.size) (hL : Hid (SlAt base w 6 IsFt (.slice A FL.length cap) FL)) (hF : Hid (∀ f W, Below w.heap.size w W → Calls Tryz.prog 41 #[.agg #[.int .i64 f.i, .int .i64 f.p.s, .int .i64 f.p.d, .int .i64 f.p.sp, .int .i64 f.p.dp, .int .i64 f.n], c1, c2, c3] W fun e w' => e = .returned (.bool (is f)) ∧ Below W.heap.size W w')) :
    Calls Tryz.prog 71 #[.slice A FL.length cap, .func (.func 41) #[] #[c1, c2, c3]] w fun e w' => ∃ j : Int, e = .returned (.int .i64 j) ∧ Hid (Idx is FL j) ∧ Below w.heap.size w w' := by
  have hm : FL.length ≤ maxLen := by obtain ⟨_, _, e, _, a, b, _⟩ := hL.out; cases e; omega
  unfold maxLen at hm
  go_enter Tryz.func71, Tryz.ntmps71
  go_wp2_with fail
  go_loopw [8] (fun i wr => ∃ k : Nat, i = .int .i64 (k : Int) ∧ k ≤ FL.length ∧ Below w.heap.size w wr ∧ Hid ((FL.take k).any is = false)) (fun i _ => FL.length - (intOf i).toNat)
  case atStart => exact ⟨0, rfl, by omega, Below.refl _ _, rfl⟩
  case round =>
    obtain ⟨k, rfl, hk, D1, hno⟩ := hrel
    by_cases hlt : k < FL.length
    · obtain ⟨f, hxk⟩ : ∃ f, FL[k]? = some f := ⟨_, List.getElem?_eq_getElem hlt⟩
      obtain ⟨b, o, rfl, hb, c0, d1, d2, d3, d4, d5⟩ := (SlAt.below hL.out (D1.mono hb0) (fun _ _ _ h => h)).ft hxk
      have PR : Hid (Calls Tryz.prog 41 #[.agg #[.int .i64 f.i, .int .i64 f.p.s, .int .i64 f.p.d, .int .i64 f.p.sp, .int .i64 f.p.dp, .int .i64 f.n], c1, c2, c3] wr fun e w' => e = .returned (.bool (is f)) ∧ Below wr.heap.size wr w') := hF.out f wr D1
      have HX : Hid (FL[k]? = some f) := hxk
      have k1 : (0 : Int) ≤ (k : Int) := by omega
      have k2 : (k : Int) < (FL.length : Int) := by omega
      clear hL hxk hF hb
      cases hv : is f
      · rw [hv] at PR
        have HV : Hid ((FL.take (k + 1)).any is = false) := by show _ = _; rw [any_takeF HX.out, hno.out, hv]; rfl
        clear hv hno HX
        obtain ⟨fi, ⟨fs, fd, fsp, fdp⟩, fn⟩ := f
        dsimp only at *
        go_wp2_with fail
        refine PR.out.mono ?_
        rintro e w2 ⟨rfl, hb2⟩
        have D2 := chnN hb2 D1
        clear hb2 D1 c0 d1 d2 d3 d4 d5 PR
        go_wp2_with fail
        go_roundw
        case rel => exact ⟨k + 1, by go_num, by omega, D2, HV⟩
        case measure => simp [intOf]; omega
      · rw [hv] at PR
        have fin : Hid (Idx is FL (k : Int)) := idx_at hno.out HX.out hv
        clear hv hno HX
        obtain ⟨fi, ⟨fs, fd, fsp, fdp⟩, fn⟩ := f
        dsimp only at *
        go_wp2_with fail
        refine PR.out.mono ?_
        rintro e w2 ⟨rfl, hb2⟩
        have D2 := chnN hb2 D1
        clear hb2 D1 c0 d1 d2 d3 d4 d5 PR
        go_wp2_with fail
        go_ret
        exact ⟨_, rfl, fin, D2⟩
    · have fin : Hid (Idx is FL (-1)) := idx_end (by rw [← show k = FL.length by omega]; exact hno.out)
      go_wp2_with fail
      go_ret
      exact ⟨_, rfl, fin, D1⟩
set_option maxHeartbeats 2000000 in
theorem find_c5 (c1 c2 c3 : Value) (g : Nat) (vA vL : Value) (A : Option Addr) (cap : Nat) (FL : List Ft) (is : Ft → Bool) (base : Nat) (w : World) (hb0 : base ≤ w.heap.size) (hG : Hid (Bk w g #[vA, vL, .slice A FL.length cap] 58)) (hL : Hid (SlAt base w 6 IsFt (.slice A FL.length cap) FL)) (hF : Hid (∀ f W, Below w.heap.size w W → Calls Tryz.prog 41 #[.agg #[.int .i64 f.i, .int .i64 f.p.s, .int .i64 f.p.d, .int .i64 f.p.sp, .int .i64 f.p.dp, .int .i64 f.n], c1, c2, c3] W fun e w' => e = .returned (.bool (is f)) ∧ Below W.heap.size W w')) :
    Calls Tryz.prog 34 #[.pointer (some ⟨g, 0, none⟩), .func (.func 41) #[] #[c1, c2, c3]] w fun e w' => ∃ j : Int, e = .returned (.int .i64 j) ∧ Hid (Idx is FL j) ∧ Below w.heap.size w w' := by
  have IX : Hid (Calls Tryz.prog 71 #[.slice A FL.length cap, .func (.func 41) #[] #[c1, c2, c3]] w fun e w' => ∃ j : Int, e = .returned (.int .i64 j) ∧ Hid (Idx is FL j) ∧ Below w.heap.size w w') := index_c5 c1 c2 c3 A cap FL is base w hb0 hL hF
  have g2 := hG.out.at 2
  clear hG hL hF
  go_enter Tryz.func34, Tryz.ntmps34
  go_wp2_with fail
  with_reducible refine IX.out.mono ?_
  rintro e w2 ⟨j, rfl, h2⟩
  go_wp2_with fail
  go_ret
  exact ⟨j, rfl, h2⟩
set_option maxHeartbeats 4000000 in
set_option maxRecDepth 100000 in
theorem index_c6 (c1 c2 : Value) (A : Option Addr) (cap : Nat) (FL : List Ft) (is : Ft → Bool) (base : Nat) (w : World) (hb0 : base ≤ w.heap.size) (hL : Hid (SlAt base w 6 IsFt (.slice A FL.length cap) FL)) (hF : Hid (∀ f W, Below w.heap.size w W → Calls Tryz.prog 42 #[.agg #[.int .i64 f.i, .int .i64 f.p.s, .int .i64 f.p.d, .int .i64 f.p.sp, .int .i64 f.p.dp, .int .i64 f.n], c1, c2] W fun e w' => e = .returned (.bool (is f)) ∧ Below W.heap.size W w')) :
    Calls Tryz.prog 71 #[.slice A FL.length cap, .func (.func 42) #[] #[c1, c2]] w fun e w' => ∃ j : Int, e = .returned (.int .i64 j) ∧ Hid (Idx is FL j) ∧ Below w.heap.size w w' := by
  have hm : FL.length ≤ maxLen := by obtain ⟨_, _, e, _, a, b, _⟩ := hL.out; cases e; omega
  unfold maxLen at hm
  go_enter Tryz.func71, Tryz.ntmps71
  go_wp2_with fail
  go_loopw [8] (fun i wr => ∃ k : Nat, i = .int .i64 (k : Int) ∧ k ≤ FL.length ∧ Below w.heap.size w wr ∧ Hid ((FL.take k).any is = false)) (fun i _ => FL.length - (intOf i).toNat)
  case atStart => exact ⟨0, rfl, by omega, Below.refl _ _, rfl⟩
  case round =>
    obtain ⟨k, rfl, hk, D1, hno⟩ := hrel
    by_cases hlt : k < FL.length
    · obtain ⟨f, hxk⟩ : ∃ f, FL[k]? = some f := ⟨_, List.getElem?_eq_getElem hlt⟩
      obtain ⟨b, o, rfl, hb, c0, d1, d2, d3, d4, d5⟩ := (SlAt.below hL.out (D1.mono hb0) (fun _ _ _ h => h)).ft hxk
      have PR : Hid (Calls Tryz.prog 42 #[.agg #[.int .i64 f.i, .int .i64 f.p.s, .int .i64 f.p.d, .int .i64 f.p.sp, .int .i64 f.p.dp, .int .i64 f.n], c1, c2] wr fun e w' => e = .returned (.bool (is f)) ∧ Below wr.heap.size wr w') := hF.out f wr D1
      have HX : Hid (FL[k]? = some f) := hxk
      have k1 : (0 : Int) ≤ (k : Int) := by omega
      have k2 : (k : Int) < (FL.length : Int) := by omega
      clear hL hxk hF hb
      cases hv : is f
      · rw [hv] at PR
        have HV : Hid ((FL.take (k + 1)).any is = false) := by show _ = _; rw [any_takeF HX.out, hno.out, hv]; rfl
        clear hv hno HX
        obtain ⟨fi, ⟨fs, fd, fsp, fdp⟩, fn⟩ := f
        dsimp only at *
        go_wp2_with fail
        refine PR.out.mono ?_
        rintro e w2 ⟨rfl, hb2⟩
        have D2 := chnN hb2 D1
        clear hb2 D1 c0 d1 d2 d3 d4 d5 PR
        go_wp2_with fail
        go_roundw
        case rel => exact ⟨k + 1, by go_num, by omega, D2, HV⟩
        case measure => simp [intOf]; omega
      · rw [hv] at PR
        have fin : Hid (Idx is FL (k : Int)) := idx_at hno.out HX.out hv
        clear hv hno HX
        obtain ⟨fi, ⟨fs, fd, fsp, fdp⟩, fn⟩ := f
        dsimp only at *
        go_wp2_with fail
        refine PR.out.mono ?_
        rintro e w2 ⟨rfl, hb2⟩
        have D2 := chnN hb2 D1
        clear hb2 D1 c0 d1 d2 d3 d4 d5 PR
        go_wp2_with fail
        go_ret
        exact ⟨_, rfl, fin, D2⟩
    · have fin : Hid (Idx is FL (-1)) := idx_end (by rw [← show k = FL.length by omega]; exact hno.out)
      go_wp2_with fail
      go_ret
      exact ⟨_, rfl, fin, D1⟩
set_option maxHeartbeats 2000000 in
theorem find_c6 (c1 c2 : Value) (g : Nat) (vA vL : Value) (A : Option Addr) (cap : Nat) (FL : List Ft) (is : Ft → Bool) (base : Nat) (w : World) (hb0 : base ≤ w.heap.size) (hG : Hid (Bk w g #[vA, vL, .slice A FL.length cap] 58)) (hL : Hid (SlAt base w 6 IsFt (.slice A FL.length cap) FL)) (hF : Hid (∀ f W, Below w.heap.size w W → Calls Tryz.prog 42 #[.agg #[.int .i64 f.i, .int .i64 f.p.s, .int .i64 f.p.d, .int .i64 f.p.sp, .int .i64 f.p.dp, .int .i64 f.n], c1, c2] W fun e w' => e = .returned (.bool (is f)) ∧ Below W.heap.size W w')) :
    Calls Tryz.prog 34 #[.pointer (some ⟨g, 0, none⟩), .func (.func 42) #[] #[c1, c2]] w fun e w' => ∃ j : Int, e = .returned (.int .i64 j) ∧ Hid (Idx is FL j) ∧ Below w.heap.size w w' := by
  have IX : Hid (Calls Tryz.prog 71 #[.slice A FL.length cap, .func (.func 42) #[] #[c1, c2]] w fun e w' => ∃ j : Int, e = .returned (.int .i64 j) ∧ Hid (Idx is FL j) ∧ Below w.heap.size w w') := index_c6 c1 c2 A cap FL is base w hb0 hL hF
  have g2 := hG.out.at 2
  clear hG hL hF
  go_enter Tryz.func34, Tryz.ntmps34
  go_wp2_with fail
  with_reducible refine IX.out.mono ?_
  rintro e w2 ⟨j, rfl, h2⟩
  go_wp2_with fail
  go_ret
  exact ⟨j, rfl, h2⟩
end Go.Proofs.YthioedgnambomaaGreat



namespace Go.Proofs.YthioedgnambomaaGreat
open Go.RowKit Go.Maps

theorem packet_eqM (a b : Pk) (w : World) : (binOp .eql 29 (.agg #[.int .i64 a.s, .int .i64 a.d, .int .i64 a.sp, .int .i64 a.dp]) (.agg #[.int .i64 b.s, .int .i64 b.d, .int .i64 b.sp, .int .i64 b.dp])).run Tryz.prog w = .ok (.bool (pkB a b)) w := by
  obtain ⟨s, d, sp, dp⟩ := a
  obtain ⟨s', d', sp', dp'⟩ := b
  unfold pkB
  cases h1 : (s == s') <;> cases h2 : (d == d') <;> cases h3 : (sp == sp') <;> cases h4 : (dp == dp')
  all_goals simp [go_sem, Tryz.underlying29, Tryz.underlying3, h1, h2, h3, h4]
set_option maxHeartbeats 1000000 in
theorem back_any (p : Pk) (w : World) : Calls Tryz.prog 36 #[pkV p] w fun e w' => e = .returned (pkV (flipP p)) ∧ Below w.heap.size w w' := by
  have D2 := Below.alN (Below.alN (Below.refl w.heap.size w) (pkC p)) (.cells #[.int .i64 0, .int .i64 0, .int .i64 0, .int .i64 0] 29)
  have P2 := (bk_new w #[.int .i64 p.s, .int .i64 p.d, .int .i64 p.sp, .int .i64 p.dp] 29).alloc (.cells #[.int .i64 0, .int .i64 0, .int .i64 0, .int .i64 0] 29)
  have R2 := bk_new' (w.alloc (pkC p)) #[.int .i64 0, .int .i64 0, .int .i64 0, .int .i64 0] 29 (w.heap.size + 1) (by simp)
  obtain ⟨p0, p1, p2, p3, _⟩ := P2.four
  obtain ⟨r0, r1, r2, r3, f0, f1, f2, f3⟩ := R2.four
  obtain ⟨s, d, sp, dp⟩ := p
  dsimp only at *
  go_enter Tryz.func36, Tryz.ntmps36
  go_wp2_with fail
  refine bodyPost_ret (v := .agg #[.int .i64 d, .int .i64 s, .int .i64 dp, .int .i64 sp]) (by simp [results, Tryz.results36, go_sem]) rfl ⟨rfl, ?_⟩
  go_grown
set_option maxHeartbeats 2000000 in
set_option maxRecDepth 100000 in
theorem clo2 (f : Ft) (i q : Int) (p : Pk) (b1 b2 : Nat) (w : World) (hA : Hid (Bk w b1 #[.int .i64 i, .int .i64 q] 27)) (hP : Hid (Bk w b2 #[.int .i64 p.s, .int .i64 p.d, .int .i64 p.sp, .int .i64 p.dp] 29)) :
    Calls Tryz.prog 37 #[.agg #[.int .i64 f.i, .int .i64 f.p.s, .int .i64 f.p.d, .int .i64 f.p.sp, .int .i64 f.p.dp, .int .i64 f.n], .pointer (some ⟨b1, 0, none⟩), .pointer (some ⟨b2, 0, none⟩)] w fun e w' => e = .returned (.bool (ofPort i p.dp f)) ∧ Below w.heap.size w w' := by
  obtain ⟨fi, ⟨fs, fd, fsp, fdp⟩, fn⟩ := f
  dsimp only
  have X1 := bk_new w #[.int .i64 fi, .int .i64 fs, .int .i64 fd, .int .i64 fsp, .int .i64 fdp, .int .i64 fn] 85
  have D1 := Below.alN (Below.refl w.heap.size w) (.cells #[.int .i64 fi, .int .i64 fs, .int .i64 fd, .int .i64 fsp, .int .i64 fdp, .int .i64 fn] 85)
  obtain ⟨⟨x0, x1, x2, x3, x4, x5⟩, _⟩ := X1.six
  have Yb1 := hA.out.alloc (.cells #[.int .i64 fi, .int .i64 fs, .int .i64 fd, .int .i64 fsp, .int .i64 fdp, .int .i64 fn] 85)
  have Yb2 := hP.out.alloc (.cells #[.int .i64 fi, .int .i64 fs, .int .i64 fd, .int .i64 fsp, .int .i64 fdp, .int .i64 fn] 85)
  obtain ⟨a0, a1⟩ := Yb1.two
  obtain ⟨p0, p1, p2, p3, _⟩ := Yb2.four
  unfold ofPort
  dsimp only
  clear X1 hA hP
  cases h1 : (fi == i)
  · have h1p : ¬ fi = i := by simpa using h1
    go_enter Tryz.func37, Tryz.ntmps37
    go_wp2_with fail
    all_goals first | exact absurd (by assumption) h1p | skip
    go_ret
    exact ⟨by simp, D1⟩
  · obtain rfl : fi = i := by simpa using h1
    skip
    go_enter Tryz.func37, Tryz.ntmps37
    go_wp2_with fail
    go_ret
    exact ⟨by simp, D1⟩
set_option maxHeartbeats 2000000 in
set_option maxRecDepth 100000 in
theorem clo4 (f : Ft) (i q c : Int) (b1 b2 : Nat) (w : World) (hA : Hid (Bk w b1 #[.int .i64 i, .int .i64 q] 27)) (hC : Hid (Bk w b2 #[.int .i64 c] 3)) :
    Calls Tryz.prog 40 #[.agg #[.int .i64 f.i, .int .i64 f.p.s, .int .i64 f.p.d, .int .i64 f.p.sp, .int .i64 f.p.dp, .int .i64 f.n], .pointer (some ⟨b1, 0, none⟩), .pointer (some ⟨b2, 0, none⟩)] w fun e w' => e = .returned (.bool (ofPort i c f)) ∧ Below w.heap.size w w' := by
  obtain ⟨fi, ⟨fs, fd, fsp, fdp⟩, fn⟩ := f
  dsimp only
  have X1 := bk_new w #[.int .i64 fi, .int .i64 fs, .int .i64 fd, .int .i64 fsp, .int .i64 fdp, .int .i64 fn] 85
  have D1 := Below.alN (Below.refl w.heap.size w) (.cells #[.int .i64 fi, .int .i64 fs, .int .i64 fd, .int .i64 fsp, .int .i64 fdp, .int .i64 fn] 85)
  obtain ⟨⟨x0, x1, x2, x3, x4, x5⟩, _⟩ := X1.six
  have Yb1 := hA.out.alloc (.cells #[.int .i64 fi, .int .i64 fs, .int .i64 fd, .int .i64 fsp, .int .i64 fdp, .int .i64 fn] 85)
  have Yb2 := hC.out.alloc (.cells #[.int .i64 fi, .int .i64 fs, .int .i64 fd, .int .i64 fsp, .int .i64 fdp, .int .i64 fn] 85)
  obtain ⟨a0, a1⟩ := Yb1.two
  have y0 := Yb2.at 0
  unfold ofPort
  dsimp only
  clear X1 hA hC
  cases h1 : (fi == i)
  · have h1p : ¬ fi = i := by simpa using h1
    go_enter Tryz.func40, Tryz.ntmps40
    go_wp2_with fail
    all_goals first | exact absurd (by assumption) h1p | skip
    go_ret
    exact ⟨by simp, D1⟩
  · obtain rfl : fi = i := by simpa using h1
    skip
    go_enter Tryz.func40, Tryz.ntmps40
    go_wp2_with fail
    go_ret
    exact ⟨by simp, D1⟩
set_option maxHeartbeats 2000000 in
set_option maxRecDepth 100000 in
theorem clo3 (f : Ft) (i q : Int) (p : Pk) (b1 b2 : Nat) (w : World) (hA : Hid (Bk w b1 #[.int .i64 i, .int .i64 q] 27)) (hP : Hid (Bk w b2 #[.int .i64 p.s, .int .i64 p.d, .int .i64 p.sp, .int .i64 p.dp] 29)) :
    Calls Tryz.prog 38 #[.agg #[.int .i64 f.i, .int .i64 f.p.s, .int .i64 f.p.d, .int .i64 f.p.sp, .int .i64 f.p.dp, .int .i64 f.n], .pointer (some ⟨b1, 0, none⟩), .pointer (some ⟨b2, 0, none⟩)] w fun e w' => e = .returned (.bool (ofFlow i p f)) ∧ Below w.heap.size w w' := by
  obtain ⟨fi, ⟨fs, fd, fsp, fdp⟩, fn⟩ := f
  dsimp only
  have X1 := bk_new w #[.int .i64 fi, .int .i64 fs, .int .i64 fd, .int .i64 fsp, .int .i64 fdp, .int .i64 fn] 85
  have D1 := Below.alN (Below.refl w.heap.size w) (.cells #[.int .i64 fi, .int .i64 fs, .int .i64 fd, .int .i64 fsp, .int .i64 fdp, .int .i64 fn] 85)
  obtain ⟨⟨x0, x1, x2, x3, x4, x5⟩, _⟩ := X1.six
  have Yb1 := hA.out.alloc (.cells #[.int .i64 fi, .int .i64 fs, .int .i64 fd, .int .i64 fsp, .int .i64 fdp, .int .i64 fn] 85)
  have Yb2 := hP.out.alloc (.cells #[.int .i64 fi, .int .i64 fs, .int .i64 fd, .int .i64 fsp, .int .i64 fdp, .int .i64 fn] 85)
  obtain ⟨a0, a1⟩ := Yb1.two
  obtain ⟨p0, p1, p2, p3, _⟩ := Yb2.four
  have PE := fun w => packet_eqM ⟨fs, fd, fsp, fdp⟩ p w
  unfold ofFlow
  dsimp only at *
  generalize pkB ⟨fs, fd, fsp, fdp⟩ p = pb at *
  clear X1 hA hP
  cases h1 : (fi == i)
  · have h1p : ¬ fi = i := by simpa using h1
    go_enter Tryz.func38, Tryz.ntmps38
    go_wp2_with fail
    all_goals first | exact absurd (by assumption) h1p | skip
    go_ret
    exact ⟨by simp, D1⟩
  · obtain rfl : fi = i := by simpa using h1
    skip
    go_enter Tryz.func38, Tryz.ntmps38
    go_wp2_with fail
    go_ret
    exact ⟨by simp, D1⟩
set_option maxHeartbeats 2000000 in
set_option maxRecDepth 100000 in
theorem clo6 (f : Ft) (i q : Int) (p : Pk) (b1 b2 : Nat) (w : World) (hA : Hid (Bk w b1 #[.int .i64 i, .int .i64 q] 27)) (hP : Hid (Bk w b2 #[.int .i64 p.s, .int .i64 p.d, .int .i64 p.sp, .int .i64 p.dp] 29)) :
    Calls Tryz.prog 42 #[.agg #[.int .i64 f.i, .int .i64 f.p.s, .int .i64 f.p.d, .int .i64 f.p.sp, .int .i64 f.p.dp, .int .i64 f.n], .pointer (some ⟨b1, 0, none⟩), .pointer (some ⟨b2, 0, none⟩)] w fun e w' => e = .returned (.bool (ofFlow i p f)) ∧ Below w.heap.size w w' := by
  obtain ⟨fi, ⟨fs, fd, fsp, fdp⟩, fn⟩ := f
  dsimp only
  have X1 := bk_new w #[.int .i64 fi, .int .i64 fs, .int .i64 fd, .int .i64 fsp, .int .i64 fdp, .int .i64 fn] 85
  have D1 := Below.alN (Below.refl w.heap.size w) (.cells #[.int .i64 fi, .int .i64 fs, .int .i64 fd, .int .i64 fsp, .int .i64 fdp, .int .i64 fn] 85)
  obtain ⟨⟨x0, x1, x2, x3, x4, x5⟩, _⟩ := X1.six
  have Yb1 := hA.out.alloc (.cells #[.int .i64 fi, .int .i64 fs, .int .i64 fd, .int .i64 fsp, .int .i64 fdp, .int .i64 fn] 85)
  have Yb2 := hP.out.alloc (.cells #[.int .i64 fi, .int .i64 fs, .int .i64 fd, .int .i64 fsp, .int .i64 fdp, .int .i64 fn] 85)
  obtain ⟨a0, a1⟩ := Yb1.two
  obtain ⟨p0, p1, p2, p3, _⟩ := Yb2.four
  have PE := fun w => packet_eqM ⟨fs, fd, fsp, fdp⟩ p w
  unfold ofFlow
  dsimp only at *
  generalize pkB ⟨fs, fd, fsp, fdp⟩ p = pb at *
  clear X1 hA hP
  cases h1 : (fi == i)
  · have h1p : ¬ fi = i := by simpa using h1
    go_enter Tryz.func42, Tryz.ntmps42
    go_wp2_with fail
    all_goals first | exact absurd (by assumption) h1p | skip
    go_ret
    exact ⟨by simp, D1⟩
  · obtain rfl : fi = i := by simpa using h1
    skip
    go_enter Tryz.func42, Tryz.ntmps42
    go_wp2_with fail
    go_ret
    exact ⟨by simp, D1⟩
set_option maxHeartbeats 2000000 in
set_option maxRecDepth 100000 in
theorem clo5 (f : Ft) (i q : Int) (p o : Pk) (b1 b2 b3 : Nat) (w : World) (hA : Hid (Bk w b1 #[.int .i64 i, .int .i64 q] 27)) (hO : Hid (Bk w b3 #[.int .i64 o.s, .int .i64 o.d, .int .i64 o.sp, .int .i64 o.dp] 29)) (hP : Hid (Bk w b2 #[.int .i64 p.s, .int .i64 p.d, .int .i64 p.sp, .int .i64 p.dp] 29)) :
    Calls Tryz.prog 41 #[.agg #[.int .i64 f.i, .int .i64 f.p.s, .int .i64 f.p.d, .int .i64 f.p.sp, .int .i64 f.p.dp, .int .i64 f.n], .pointer (some ⟨b1, 0, none⟩), .pointer (some ⟨b3, 0, none⟩), .pointer (some ⟨b2, 0, none⟩)] w fun e w' => e = .returned (.bool (ftB f ⟨i, o, p.s⟩)) ∧ Below w.heap.size w w' := by
  obtain ⟨fi, ⟨fs, fd, fsp, fdp⟩, fn⟩ := f
  dsimp only
  have X1 := bk_new w #[.int .i64 fi, .int .i64 fs, .int .i64 fd, .int .i64 fsp, .int .i64 fdp, .int .i64 fn] 85
  have D1 := Below.alN (Below.refl w.heap.size w) (.cells #[.int .i64 fi, .int .i64 fs, .int .i64 fd, .int .i64 fsp, .int .i64 fdp, .int .i64 fn] 85)
  obtain ⟨⟨x0, x1, x2, x3, x4, x5⟩, _⟩ := X1.six
  have Yb1 := hA.out.alloc (.cells #[.int .i64 fi, .int .i64 fs, .int .i64 fd, .int .i64 fsp, .int .i64 fdp, .int .i64 fn] 85)
  have Yb3 := hO.out.alloc (.cells #[.int .i64 fi, .int .i64 fs, .int .i64 fd, .int .i64 fsp, .int .i64 fdp, .int .i64 fn] 85)
  have Yb2 := hP.out.alloc (.cells #[.int .i64 fi, .int .i64 fs, .int .i64 fd, .int .i64 fsp, .int .i64 fdp, .int .i64 fn] 85)
  obtain ⟨a0, a1⟩ := Yb1.two
  obtain ⟨o0, o1, o2, o3, _⟩ := Yb3.four
  obtain ⟨p0, p1, p2, p3, _⟩ := Yb2.four
  have PE := fun w => packet_eqM ⟨fs, fd, fsp, fdp⟩ o w
  unfold ftB
  dsimp only at *
  generalize pkB ⟨fs, fd, fsp, fdp⟩ o = pb at *
  clear X1 hA hO hP
  cases h1 : (fi == i)
  · have h1p : ¬ fi = i := by simpa using h1
    go_enter Tryz.func41, Tryz.ntmps41
    go_wp2_with fail
    all_goals first | exact absurd (by assumption) h1p | skip
    go_ret
    exact ⟨by simp, D1⟩
  · obtain rfl : fi = i := by simpa using h1
    cases pb
    · go_enter Tryz.func41, Tryz.ntmps41
      go_wp2_with fail
      go_ret
      exact ⟨by simp, D1⟩
    · go_enter Tryz.func41, Tryz.ntmps41
      go_wp2_with fail
      go_ret
      exact ⟨by simp, D1⟩
set_option maxHeartbeats 2000000 in
set_option maxRecDepth 100000 in
theorem clo1 (f : Ft) (i q : Int) (p : Pk) (b1 b2 : Nat) (w : World) (hA : Hid (Bk w b1 #[.int .i64 i, .int .i64 q] 27)) (hP : Hid (Bk w b2 #[.int .i64 p.s, .int .i64 p.d, .int .i64 p.sp, .int .i64 p.dp] 29)) :
    Calls Tryz.prog 35 #[.agg #[.int .i64 f.i, .int .i64 f.p.s, .int .i64 f.p.d, .int .i64 f.p.sp, .int .i64 f.p.dp, .int .i64 f.n], .pointer (some ⟨b1, 0, none⟩), .pointer (some ⟨b2, 0, none⟩)] w fun e w' => e = .returned (.bool (ofFlow i (flipP p) f)) ∧ Below w.heap.size w w' := by
  obtain ⟨fi, ⟨fs, fd, fsp, fdp⟩, fn⟩ := f
  dsimp only
  have X1 := bk_new w #[.int .i64 fi, .int .i64 fs, .int .i64 fd, .int .i64 fsp, .int .i64 fdp, .int .i64 fn] 85
  have D1 := Below.alN (Below.refl w.heap.size w) (.cells #[.int .i64 fi, .int .i64 fs, .int .i64 fd, .int .i64 fsp, .int .i64 fdp, .int .i64 fn] 85)
  obtain ⟨⟨x0, x1, x2, x3, x4, x5⟩, _⟩ := X1.six
  have Yb1 := hA.out.alloc (.cells #[.int .i64 fi, .int .i64 fs, .int .i64 fd, .int .i64 fsp, .int .i64 fdp, .int .i64 fn] 85)
  have Yb2 := hP.out.alloc (.cells #[.int .i64 fi, .int .i64 fs, .int .i64 fd, .int .i64 fsp, .int .i64 fdp, .int .i64 fn] 85)
  obtain ⟨a0, a1⟩ := Yb1.two
  obtain ⟨p0, p1, p2, p3, _⟩ := Yb2.four
  have PE := fun w => packet_eqM ⟨fs, fd, fsp, fdp⟩ (flipP p) w
  have BK1 : Hid (∀ W, Calls Tryz.prog 36 #[.agg #[.int .i64 p.s, .int .i64 p.d, .int .i64 p.sp, .int .i64 p.dp]] W fun e w' => e = .returned (.agg #[.int .i64 p.d, .int .i64 p.s, .int .i64 p.dp, .int .i64 p.sp]) ∧ Below W.heap.size W w') := fun W => back_any p W
  have B0 : Below (w.alloc (.cells #[.int .i64 fi, .int .i64 fs, .int .i64 fd, .int .i64 fsp, .int .i64 fdp, .int .i64 fn] 85)).heap.size (w.alloc (.cells #[.int .i64 fi, .int .i64 fs, .int .i64 fd, .int .i64 fsp, .int .i64 fdp, .int .i64 fn] 85)) (w.alloc (.cells #[.int .i64 fi, .int .i64 fs, .int .i64 fd, .int .i64 fsp, .int .i64 fdp, .int .i64 fn] 85)).drew := (Below.refl _ _).drew
  have KE : ∀ {w' : World}, Below (w.alloc (.cells #[.int .i64 fi, .int .i64 fs, .int .i64 fd, .int .i64 fsp, .int .i64 fdp, .int .i64 fn] 85)).heap.size (w.alloc (.cells #[.int .i64 fi, .int .i64 fs, .int .i64 fd, .int .i64 fsp, .int .i64 fdp, .int .i64 fn] 85)) w' → w'.cell? ⟨w.heap.size, 0, none⟩ = some (.int .i64 fi) ∧ w'.cell? ⟨w.heap.size, 1, none⟩ = some (.int .i64 fs) ∧ w'.cell? ⟨w.heap.size, 2, none⟩ = some (.int .i64 fd) ∧ w'.cell? ⟨w.heap.size, 3, none⟩ = some (.int .i64 fsp) ∧ w'.cell? ⟨w.heap.size, 4, none⟩ = some (.int .i64 fdp) ∧ w'.cell? ⟨b1, 0, none⟩ = some (.int .i64 i) ∧ w'.cell? ⟨b2, 0, none⟩ = some (.int .i64 p.s) ∧ w'.cell? ⟨b2, 1, none⟩ = some (.int .i64 p.d) ∧ w'.cell? ⟨b2, 2, none⟩ = some (.int .i64 p.sp) ∧ w'.cell? ⟨b2, 3, none⟩ = some (.int .i64 p.dp) := fun hb => by
    have X := X1.keep hb
    have Y := Yb1.keep hb
    have Z := Yb2.keep hb
    exact ⟨X.at 0, X.at 1, X.at 2, X.at 3, X.at 4, Y.at 0, Z.at 0, Z.at 1, Z.at 2, Z.at 3⟩
  unfold ofFlow flipP at *
  dsimp only at *
  generalize pkB ⟨fs, fd, fsp, fdp⟩ ⟨p.d, p.s, p.dp, p.sp⟩ = pb at *
  clear X1 hA hP
  cases h1 : (fi == i)
  · have h1p : ¬ fi = i := by simpa using h1
    go_enter Tryz.func35, Tryz.ntmps35
    go_upto_region 1 with fail
    go_region
    all_goals
      go_wp2_with fail
      all_goals first | exact absurd (by assumption) h1p | skip
      go_ret
      exact ⟨by simp, D1.drew⟩
  · have h1p : fi = i := by simpa using h1
    subst h1p
    go_enter Tryz.func35, Tryz.ntmps35
    go_upto_region 1 with fail
    go_region_held3 (fun w' => w'.cell? ⟨w.heap.size, 0, none⟩ = some (.int .i64 fi) ∧ w'.cell? ⟨w.heap.size, 1, none⟩ = some (.int .i64 fs) ∧ w'.cell? ⟨w.heap.size, 2, none⟩ = some (.int .i64 fd) ∧ w'.cell? ⟨w.heap.size, 3, none⟩ = some (.int .i64 fsp) ∧ w'.cell? ⟨w.heap.size, 4, none⟩ = some (.int .i64 fdp) ∧ w'.cell? ⟨b1, 0, none⟩ = some (.int .i64 fi) ∧ w'.cell? ⟨b2, 0, none⟩ = some (.int .i64 p.s) ∧ w'.cell? ⟨b2, 1, none⟩ = some (.int .i64 p.d) ∧ w'.cell? ⟨b2, 2, none⟩ = some (.int .i64 p.sp) ∧ w'.cell? ⟨b2, 3, none⟩ = some (.int .i64 p.dp)) (exact KE (by first | exact Bf | exact B0)) (first | (go_at_call 36; (with_reducible refine (BK1.out _).mono ?_); rintro e wf ⟨rfl, hbf⟩; have Bf := chnN hbf B0))
    all_goals
      go_wp2_with fail
      first
        | (go_ret; exact ⟨by simp, chnN Bf D1⟩)
        | exact ⟨by simp, chnN Bf D1⟩
end Go.Proofs.YthioedgnambomaaGreat



namespace Go.Proofs.YthioedgnambomaaGreat
open Go.RowKit Go.Maps

theorem adB_in (n : Int) : (decide ((0 : Int) ≤ n) && decide (n ≤ 15)) = adB n := by
  unfold adB
  rw [show decide (n ≤ 15) = decide (n < 16) by rw [decide_eq_decide]; omega]
theorem poB_in (n : Int) : (decide ((0 : Int) ≤ n) && decide (n ≤ 7)) = poB n := by
  unfold poB
  rw [show decide (n ≤ 7) = decide (n < 8) by rw [decide_eq_decide]; omega]
set_option maxHeartbeats 2000000 in
theorem right_M (p : Pk) (w : World) : Calls Tryz.prog 9 #[pkV p] w fun e w' => e = .returned (.bool (pkOk p)) ∧ Below w.heap.size w w' := by
  have D1 := Below.alN (Below.refl w.heap.size w) (pkC p)
  have X1 := bk_new w #[.int .i64 p.s, .int .i64 p.d, .int .i64 p.sp, .int .i64 p.dp] 29
  have IA : Hid (∀ (n : Int) W, Calls Tryz.prog 7 #[.int .i64 n, .int .i64 0, .int .i64 15] W fun e w' => e = .returned (.bool (adB n)) ∧ w' = W) := fun n W => by
    have := finR n 0 15 W
    rw [adB_in] at this
    exact this
  have IP : Hid (∀ (n : Int) W, Calls Tryz.prog 7 #[.int .i64 n, .int .i64 0, .int .i64 7] W fun e w' => e = .returned (.bool (poB n)) ∧ w' = W) := fun n W => by
    have := finR n 0 7 W
    rw [poB_in] at this
    exact this
  obtain ⟨x0, x1, x2, x3, _⟩ := X1.four
  obtain ⟨s, d, sp, dp⟩ := p
  unfold pkOk
  dsimp only at *
  have I0 : Hid (∀ W, Calls Tryz.prog 7 #[.int .i64 s, .int .i64 0, .int .i64 15] W fun e w' => e = .returned (.bool (adB s)) ∧ w' = W) := IA.out s
  have I1 : Hid (∀ W, Calls Tryz.prog 7 #[.int .i64 d, .int .i64 0, .int .i64 15] W fun e w' => e = .returned (.bool (adB d)) ∧ w' = W) := IA.out d
  have I2 : Hid (∀ W, Calls Tryz.prog 7 #[.int .i64 sp, .int .i64 0, .int .i64 7] W fun e w' => e = .returned (.bool (poB sp)) ∧ w' = W) := IP.out sp
  have I3 : Hid (∀ W, Calls Tryz.prog 7 #[.int .i64 dp, .int .i64 0, .int .i64 7] W fun e w' => e = .returned (.bool (poB dp)) ∧ w' = W) := IP.out dp
  clear IA IP X1
  generalize adB s = y0 at *
  generalize adB d = y1 at *
  generalize poB sp = y2 at *
  generalize poB dp = y3 at *
  cases y0 <;> cases y1 <;> cases y2
  all_goals
    go_enter Tryz.func9, Tryz.ntmps9
    go_wp2_with (first | (go_at_call_of 7 (Value.int .i64 s); refine (I0.out _).mono ?_; rintro e w' ⟨rfl, rfl⟩) | (go_at_call_of 7 (Value.int .i64 d); refine (I1.out _).mono ?_; rintro e w' ⟨rfl, rfl⟩) | (go_at_call_of 7 (Value.int .i64 sp); refine (I2.out _).mono ?_; rintro e w' ⟨rfl, rfl⟩) | (go_at_call_of 7 (Value.int .i64 dp); refine (I3.out _).mono ?_; rintro e w' ⟨rfl, rfl⟩))
    go_ret
    exact ⟨by simp, D1⟩
end Go.Proofs.YthioedgnambomaaGreat



namespace Go.Proofs.YthioedgnambomaaGreat
open Go.RowKit Go.Maps

/-- The document's mind of a net, in memory. -/
structure MnAt (W : World) (g : Nat) (A L : Option Addr) (c d : Nat) (F : Option Addr) (cF : Nat) (ds : List Dv) (ls : List Lk) (FL : List Ft) : Prop where
  blk : Bk W g #[.slice A ds.length c, .slice L ls.length d, .slice F FL.length cF] 58
  devs : Devs g W (.slice A ds.length c) ds
  links : Links g W (.slice L ls.length d) ls
  facts : W.ownsRow (g + 1) 85 6 (.slice F FL.length cF) FL.length (FL.flatMap ftC)
section
variable {W W' : World} {g : Nat} {A L : Option Addr} {c d : Nat} {F : Option Addr} {cF : Nat} {ds : List Dv} {ls : List Lk} {FL : List Ft}
theorem MnAt.below (h : MnAt W g A L c d F cF ds ls FL) (hb : Below W.heap.size W W') : MnAt W' g A L c d F cF ds ls FL :=
  have kt := KT.of_below hb (Nat.le_of_lt h.blk.lt)
  ⟨h.blk.keep hb, h.devs.kt kt, h.links.kt kt, own_below h.facts hb⟩
theorem MnAt.ck (h : MnAt W g A L c d F cF ds ls FL) (hc : CK W W') : MnAt W' g A L c d F cF ds ls FL :=
  have kt : KT g W W' := fun b hb hn => hc.block b hn (Nat.lt_trans hb h.blk.lt)
  ⟨h.blk.ck hc, h.devs.kt kt, h.links.kt kt, own_ck h.facts hc⟩
theorem flat_ft : ∀ (FL : List Ft) (k : Nat) (f : Ft), FL[k]? = some f → (((FL.flatMap ftC).drop (k * 6)).take 6) = ftC f
  | [], k, f, h => by simp at h
  | y :: ys, 0, f, h => by
    obtain rfl := Option.some.inj h
    rfl
  | y :: ys, k + 1, f, h => by
    have e : ((y :: ys).flatMap ftC).drop ((k + 1) * 6) = (ys.flatMap ftC).drop (k * 6) := by
      rw [List.flatMap_cons, show (k + 1) * 6 = (ftC y).length + k * 6 by show (k + 1) * 6 = 6 + k * 6; omega, List.drop_append]
      simp
    rw [e]
    exact flat_ft ys k f (by simpa using h)
theorem MnAt.row (h : MnAt W g A L c d F cF ds ls FL) : SlAt W.heap.size W 6 IsFt (.slice F FL.length cF) FL := SlAt.own h.facts (fun k f hf => flat_ft FL k f hf)
theorem uFts : Tryz.prog.underlying 56 = some (.slice 85) := by kernel_rfl
theorem infoFt : (Tryz.prog.info? 85).map (fun i => (i.zero, i.size, i.bytes)) = some (some (.agg #[.int .i64 0, .int .i64 0, .int .i64 0, .int .i64 0, .int .i64 0, .int .i64 0]), 6, 48) := by kernel_rfl
theorem ftC_one (f : Ft) : ∀ u ∈ ftC f, u.oneCell' = true := by
  intro u hu
  simp only [ftC, List.mem_cons, List.not_mem_nil, or_false] at hu
  rcases hu with rfl | rfl | rfl | rfl | rfl | rfl <;> rfl
theorem own_slM {w : World} {B e size n : Nat} {v : Value} {xs : List Value} (h : w.ownsRow B e size v n xs) : ∃ A cap, v = .slice A n cap ∧ ∀ a, A = some a → v.ownBlock = some a.block := by
  rcases h.2 with ⟨rfl, h0⟩ | ⟨g, cap, cur, rfl, _⟩
  · refine ⟨none, 0, ?_, fun a e => by cases e⟩
    first
      | rfl
      | (rw [h0])
      | simp_all
  · exact ⟨some ⟨g, 0, none⟩, cap, rfl, fun a e => by cases e; rfl⟩
/-- A row of facts is put in the mind's place for it. -/
theorem MnAt.put {w7 : World} {FL' : List Ft} {F' : Option Addr} {c' : Nat} (h : MnAt W g A L c d F cF ds ls FL) (O7 : w7.ownsRow (g + 1) 85 6 (.slice F' FL'.length c') FL'.length (FL'.flatMap ftC)) (D7 : Below (g + 1) W w7) : MnAt (w7.setCell ⟨g, 2, none⟩ (.slice F' FL'.length c')) g A L c d F' c' ds ls FL' := by
  have B7 : Bk w7 g _ _ := (D7.block g (by omega)).trans h.blk
  have hF : ∀ b, b ≠ g → (w7.setCell ⟨g, 2, none⟩ (.slice F' FL'.length c')).heap[b]? = w7.heap[b]? := fun b hb => Below.heap_setCell w7 ⟨g, 2, none⟩ _ b hb
  have kt : KT g W (w7.setCell ⟨g, 2, none⟩ (.slice F' FL'.length c')) := fun b hb _ => (hF b (by omega)).trans (D7.block b (by omega))
  refine ⟨?_, h.devs.kt kt, h.links.kt kt, own_keptBut O7 (fun g' hg => hF g' (by have := (own_block O7 hg).2.1; omega))⟩
  have := B7.setS (j := 2) (.slice F' FL'.length c')
  simpa using this
end
end Go.Proofs.YthioedgnambomaaGreat



namespace Go.Proofs.YthioedgnambomaaGreat
open Go.RowKit Go.Maps

set_option maxHeartbeats 8000000 in
set_option maxRecDepth 100000 in
theorem fact_eq (a b : Ft) (w : World) : (binOp .eql 85 (.agg #[.int .i64 a.i, .int .i64 a.p.s, .int .i64 a.p.d, .int .i64 a.p.sp, .int .i64 a.p.dp, .int .i64 a.n]) (.agg #[.int .i64 b.i, .int .i64 b.p.s, .int .i64 b.p.d, .int .i64 b.p.sp, .int .i64 b.p.dp, .int .i64 b.n])).run Tryz.prog w = .ok (.bool (ftB a b)) w := by
  obtain ⟨i, ⟨s, d, sp, dp⟩, n⟩ := a
  obtain ⟨i', ⟨s', d', sp', dp'⟩, n'⟩ := b
  unfold ftB pkB
  cases h0 : (i == i') <;> cases h1 : (s == s') <;> cases h2 : (d == d') <;> cases h3 : (sp == sp') <;> cases h4 : (dp == dp') <;> cases h5 : (n == n')
  all_goals simp [go_sem, Tryz.underlying85, Tryz.underlying29, Tryz.underlying3, h0, h1, h2, h3, h4, h5]
set_option maxHeartbeats 4000000 in
set_option maxRecDepth 100000 in
theorem index_ft (A : Option Addr) (cap : Nat) (FL : List Ft) (f : Ft) (base : Nat) (w : World) (hb0 : base ≤ w.heap.size) (hL : Hid (SlAt base w 6 IsFt (.slice A FL.length cap) FL)) :
    Calls Tryz.prog 72 #[.slice A FL.length cap, .agg #[.int .i64 f.i, .int .i64 f.p.s, .int .i64 f.p.d, .int .i64 f.p.sp, .int .i64 f.p.dp, .int .i64 f.n]] w fun e w' => ∃ j : Int, e = .returned (.int .i64 j) ∧ Hid (decide (0 ≤ j) = FL.any (fun x => ftB f x)) ∧ Below w.heap.size w w' := by
  have hm : FL.length ≤ maxLen := by obtain ⟨_, _, e, _, a, b, _⟩ := hL.out; cases e; omega
  unfold maxLen at hm
  have X1 := bk_new w #[.int .i64 f.i, .int .i64 f.p.s, .int .i64 f.p.d, .int .i64 f.p.sp, .int .i64 f.p.dp, .int .i64 f.n] 85
  have D0 := Below.alN (Below.refl w.heap.size w) (.cells #[.int .i64 f.i, .int .i64 f.p.s, .int .i64 f.p.d, .int .i64 f.p.sp, .int .i64 f.p.dp, .int .i64 f.n] 85)
  go_enter Tryz.func72, Tryz.ntmps72
  go_wp2_with fail
  have X1' : Hid (Bk (w.alloc (.cells #[.int .i64 f.i, .int .i64 f.p.s, .int .i64 f.p.d, .int .i64 f.p.sp, .int .i64 f.p.dp, .int .i64 f.n] 85)) w.heap.size #[.int .i64 f.i, .int .i64 f.p.s, .int .i64 f.p.d, .int .i64 f.p.sp, .int .i64 f.p.dp, .int .i64 f.n] 85) := X1
  clear X1
  go_loopw [8] (fun i wr => ∃ k : Nat, i = .int .i64 (k : Int) ∧ k ≤ FL.length ∧ Below w.heap.size w wr ∧ Bk wr w.heap.size #[.int .i64 f.i, .int .i64 f.p.s, .int .i64 f.p.d, .int .i64 f.p.sp, .int .i64 f.p.dp, .int .i64 f.n] 85 ∧ Hid ((FL.take k).any (fun x => ftB f x) = false)) (fun i _ => FL.length - (intOf i).toNat)
  case atStart => exact ⟨0, rfl, by omega, D0, X1'.out, rfl⟩
  case round =>
    clear D0 X1'
    obtain ⟨k, rfl, hk, D1, Y1, hno⟩ := hrel
    by_cases hlt : k < FL.length
    · obtain ⟨x, hxk⟩ : ∃ x, FL[k]? = some x := ⟨_, List.getElem?_eq_getElem hlt⟩
      obtain ⟨b, o, rfl, hb, c0, d1, d2, d3, d4, d5⟩ := (SlAt.below hL.out (D1.mono hb0) (fun _ _ _ h => h)).ft hxk
      obtain ⟨⟨y0, y1, y2, y3, y4, y5⟩, _⟩ := Y1.six
      have FE := fun w => fact_eq f x w
      have HX : Hid (FL[k]? = some x) := hxk
      have k1 : (0 : Int) ≤ (k : Int) := by omega
      have k2 : (k : Int) < (FL.length : Int) := by omega
      have D2 := D1.drew
      have Y2 := Y1.drew
      clear hL hxk hb
      cases hv : ftB f x
      · rw [hv] at FE
        have HV : Hid ((FL.take (k + 1)).any (fun x => ftB f x) = false) := by show _ = _; rw [any_takeF HX.out, hno.out, hv]; rfl
        clear hv hno HX
        obtain ⟨fi, ⟨fs, fd, fsp, fdp⟩, fn⟩ := f
        obtain ⟨xi, ⟨xs, xd, xsp, xdp⟩, xn⟩ := x
        dsimp only at *
        go_wp2_with fail
        go_region
        all_goals
          go_wp2_with fail
          go_roundw
          case rel => exact ⟨k + 1, by go_num, by omega, by first | exact D2 | exact D1, by first | exact Y2 | exact Y1, HV⟩
          case measure => simp [intOf]; omega
      · rw [hv] at FE
        have fin : Hid (FL.any (fun x => ftB f x) = true) := List.any_eq_true.2 ⟨x, List.mem_of_getElem? HX.out, hv⟩
        clear hv hno HX
        obtain ⟨fi, ⟨fs, fd, fsp, fdp⟩, fn⟩ := f
        obtain ⟨xi, ⟨xs, xd, xsp, xdp⟩, xn⟩ := x
        dsimp only at *
        go_wp2_with fail
        go_region
        all_goals
          go_wp2_with fail
          go_ret
          exact ⟨_, rfl, (by show _ = _; rw [fin.out]; simp), by first | exact D2 | exact D1⟩
    · have fin : Hid (FL.any (fun x => ftB f x) = false) := by
        have := hno.out
        rw [show k = FL.length by omega, List.take_length] at this
        exact this
      go_wp2_with fail
      go_ret
      exact ⟨_, rfl, (by show _ = _; rw [fin.out]; simp), D1⟩
end Go.Proofs.YthioedgnambomaaGreat



namespace Go.Proofs.YthioedgnambomaaGreat
open Go.RowKit Go.Maps

theorem ftB_comm (a b : Ft) : ftB a b = ftB b a := by
  rw [Bool.eq_iff_iff, ftB_iff, ftB_iff]
  exact eq_comm
set_option maxHeartbeats 2000000 in
set_option maxRecDepth 100000 in
theorem contains_ft (A : Option Addr) (cap : Nat) (FL : List Ft) (f : Ft) (base : Nat) (w : World) (hb0 : base ≤ w.heap.size) (hL : Hid (SlAt base w 6 IsFt (.slice A FL.length cap) FL)) :
    Calls Tryz.prog 44 #[.slice A FL.length cap, .agg #[.int .i64 f.i, .int .i64 f.p.s, .int .i64 f.p.d, .int .i64 f.p.sp, .int .i64 f.p.dp, .int .i64 f.n]] w fun e w' => e = .returned (.bool (FL.any (fun x => ftB x f))) ∧ Below w.heap.size w w' := by
  have X1 := bk_new w #[.int .i64 f.i, .int .i64 f.p.s, .int .i64 f.p.d, .int .i64 f.p.sp, .int .i64 f.p.dp, .int .i64 f.n] 85
  have D1 := Below.alN (Below.refl w.heap.size w) (.cells #[.int .i64 f.i, .int .i64 f.p.s, .int .i64 f.p.d, .int .i64 f.p.sp, .int .i64 f.p.dp, .int .i64 f.n] 85)
  have IX : Hid (∀ W, Below w.heap.size w W → Calls Tryz.prog 72 #[.slice A FL.length cap, .agg #[.int .i64 f.i, .int .i64 f.p.s, .int .i64 f.p.d, .int .i64 f.p.sp, .int .i64 f.p.dp, .int .i64 f.n]] W fun e w' => ∃ j : Int, e = .returned (.int .i64 j) ∧ Hid (decide (0 ≤ j) = FL.any (fun x => ftB x f)) ∧ Below W.heap.size W w') := fun W h => (index_ft A cap FL f base W (Nat.le_trans hb0 h.size) (SlAt.below hL.out (h.mono hb0) (fun _ _ _ h => h))).mono fun e w' ⟨j, h1, h2, h3⟩ => ⟨j, h1, by
    show _ = _
    rw [h2.out]
    congr 1
    funext x
    exact ftB_comm f x, h3⟩
  obtain ⟨⟨x0, x1, x2, x3, x4, x5⟩, _⟩ := X1.six
  obtain ⟨fi, ⟨fs, fd, fsp, fdp⟩, fn⟩ := f
  dsimp only at *
  clear hL X1
  go_enter Tryz.func44, Tryz.ntmps44
  go_wp2_with fail
  with_reducible refine (IX.out _ D1).mono ?_
  rintro e w2 ⟨j, rfl, hj, hb2⟩
  have D2 := chnN hb2 D1
  go_wp2_with fail
  go_ret
  exact ⟨by rw [← hj.out]; first | rfl | simp, D2⟩
end Go.Proofs.YthioedgnambomaaGreat



namespace Go.Proofs.YthioedgnambomaaGreat
open Go.RowKit Go.Maps

/-- What a call of the mind leaves alone. -/
structure MKp (g : Nat) (F : Option Addr) (W W' : World) : Prop where
  os : W'.os = W.os
  tape : W'.tape = W.tape
  output : W'.output = W.output
  size : W.heap.size ≤ W'.heap.size
  block : ∀ b, b < W.heap.size → b ≠ g → (∀ a, F = some a → b ≠ a.block) → W'.heap[b]? = W.heap[b]?
theorem MKp.of_below {g : Nat} {F : Option Addr} {W W' : World} (hb : Below W.heap.size W W') : MKp g F W W' := ⟨hb.os, hb.tape, hb.output, hb.size, fun b h _ _ => hb.block b h⟩
theorem MKp.from {g : Nat} {F : Option Addr} {w W W' : World} (hb : Below w.heap.size w W) (h : MKp g F W W') : MKp g F w W' :=
  ⟨h.os.trans hb.os, h.tape.trans hb.tape, h.output.trans hb.output, Nat.le_trans hb.size h.size, fun b h1 h2 h3 => (h.block b (Nat.lt_of_lt_of_le h1 hb.size) h2 h3).trans (hb.block b h1)⟩
/-- What a call of the mind leaves. -/
def MOut (w : World) (g : Nat) (A L : Option Addr) (c d : Nat) (F : Option Addr) (ds : List Dv) (ls : List Lk) (FL : List Ft) (w' : World) : Prop :=
  ∃ F' cF', MnAt w' g A L c d F' cF' ds ls FL ∧ MKp g F w w' ∧ SG F F' w.heap.size
section
variable {w W W' : World} {g : Nat} {A L : Option Addr} {c d : Nat} {F : Option Addr} {cF : Nat} {ds : List Dv} {ls : List Lk} {FL FL' : List Ft}
theorem MOut.same (h : MnAt W g A L c d F cF ds ls FL) (hb : Below w.heap.size w W) : MOut w g A L c d F ds ls FL W := ⟨F, cF, h, MKp.of_below hb, SG.refl _ _⟩
theorem MOut.from (hb : Below w.heap.size w W) (h : MOut W g A L c d F ds ls FL W') : MOut w g A L c d F ds ls FL W' := by
  obtain ⟨F', cF', h1, h2, h3⟩ := h
  refine ⟨F', cF', h1, h2.from hb, fun a ha => ?_⟩
  rcases h3 a ha with h | h
  · exact Or.inl h
  · exact Or.inr (Nat.le_trans hb.size h)
theorem own_cell {B e size n : Nat} {v : Value} {xs : List Value} (h : W.ownsRow B e size v n xs) {k : Nat} (hg : v.ownBlock = some k) {j : Nat} {u : Value} (hj : xs[j]? = some u) : W.cell? ⟨k, j, none⟩ = some u := by
  rcases h.2 with ⟨rfl, _⟩ | ⟨g', cap, cur, rfl, hb, hh, _, _, _, ht⟩
  · cases hg
  · obtain rfl : g' = k := by simpa [Value.ownBlock] using hg
    rw [cell_of_row W g' j _ _ _ hh]
    have : (cur.toList.take (n * size))[j]? = some u := by rw [ht]; exact hj
    rw [List.getElem?_take] at this
    split at this
    · simpa using this
    · cases this
theorem own_nil (w : World) (B e size : Nat) : w.ownsRow B e size (.slice none 0 0) 0 [] := ⟨by simp, Or.inl ⟨rfl, rfl⟩⟩
theorem own_monoM {base base' : Nat} {t : TypeId} {s n : Nat} {v : Value} {cs : List Value} (h : W.ownsRow base' t s v n cs) (hb : base ≤ base') : W.ownsRow base t s v n cs := by
  refine ⟨h.1, ?_⟩
  rcases h.2 with h0 | ⟨g, cap, cur, hv, h1, h2⟩
  · exact .inl h0
  · exact .inr ⟨g, cap, cur, hv, by omega, h2⟩
theorem flat_len (FL : List Ft) : (FL.flatMap ftC).length = FL.length * 6 := by
  induction FL with
  | nil => rfl
  | cons x xs ih =>
    rw [List.flatMap_cons, List.length_append, ih, List.length_cons]
    show 6 + xs.length * 6 = (xs.length + 1) * 6
    omega
theorem flat_one (FL : List Ft) : ∀ u ∈ FL.flatMap ftC, u.oneCell' = true := fun u hu => by
  obtain ⟨f, _, hf⟩ := List.mem_flatMap.1 hu
  exact ftC_one f u hf
/-- Facts without one of them: two appends. -/
theorem without_ft (h : MnAt W g A L c d F cF ds ls FL) {k : Nat} (hk : k < FL.length) (hn : FL.length ≤ 5000) :
    ∃ b, F = some ⟨b, 0, none⟩ ∧ FL.length ≤ cF ∧ cF ≤ maxLen ∧ ∀ a2 : Addr, (FL.length ≠ k + 1 → a2 = ⟨b, (k + 1) * 6, none⟩) → ∃ v1 w1 v2 w2, (∃ A1 q1, v1 = .slice A1 k q1) ∧ (Builtin.append_ #[56, 56] 56 #[.slice none 0 0, .slice (some ⟨b, 0, none⟩) k cF]).run Tryz.prog W = .ok v1 w1 ∧ (Builtin.append_ #[56, 56] 56 #[v1, .slice (some a2) (FL.length - (k + 1)) (cF - (k + 1))]).run Tryz.prog w1 = .ok v2 w2 ∧ Below W.heap.size W w1 ∧ w2.ownsRow W.heap.size 85 6 v2 (FL.take k ++ FL.drop (k + 1)).length ((FL.take k ++ FL.drop (k + 1)).flatMap ftC) ∧ Below W.heap.size W w2 := by
  obtain ⟨i0, hi, hz0, hz1, hz2⟩ := info_parts infoFt
  rcases h.facts.2 with ⟨_, h0⟩ | ⟨b, cap, cur, hv, hb, hh, hnc, hcm, hcs, ht⟩
  · omega
  obtain ⟨rfl, _, rfl⟩ := Value.slice.inj hv
  have hob : (Value.slice (some ⟨b, 0, none⟩) FL.length cF).ownBlock = some b := rfl
  have hlt : b < W.heap.size := (Array.getElem?_eq_some_iff.1 hh).1
  have hsp : FL.flatMap ftC = (FL.take (k + 1)).flatMap ftC ++ (FL.drop (k + 1)).flatMap ftC := by rw [← List.flatMap_append, List.take_append_drop]
  have hsp0 : FL.flatMap ftC = (FL.take k).flatMap ftC ++ (FL.drop k).flatMap ftC := by rw [← List.flatMap_append, List.take_append_drop]
  have hl0 : ((FL.take k).flatMap ftC).length = k * 6 := by rw [flat_len, List.length_take, Nat.min_eq_left (by omega)]
  have hl1 : ((FL.take (k + 1)).flatMap ftC).length = (k + 1) * 6 := by rw [flat_len, List.length_take, Nat.min_eq_left (by omega)]
  refine ⟨b, rfl, hnc, hcm, fun a2 ha2 => ?_⟩
  obtain ⟨v1, w1, r1, o1, g1, _, p1⟩ := run_append_own_at (P := Tryz.prog) W W.heap.size 56 56 85 i0 _ 6 48 uFts hi hz0 hz1 hz2 rfl (by decide) (.slice none 0 0) 0 [] (own_nil W _ _ _) ⟨b, 0, none⟩ k cF ((FL.take k).flatMap ftC) hl0 (fun j u hj => by
    rw [Addr.add_lit, Nat.zero_add]
    refine own_cell h.facts hob ?_
    rw [hsp0, List.getElem?_append_left (List.getElem?_eq_some_iff.1 hj).1]
    exact hj) (flat_one _) (by unfold maxLen; omega) (by omega) (Nat.le_refl _)
  have b1 : Below W.heap.size W w1 := (Below.refl _ _).grown g1 (Nat.le_refl _) (fun k e => by cases e)
  obtain ⟨v2, w2, r2, o2, g2, _, p2⟩ := run_append_own_at (P := Tryz.prog) w1 W.heap.size 56 56 85 i0 _ 6 48 uFts hi hz0 hz1 hz2 rfl (by decide) v1 (0 + k) _ o1 a2 (FL.length - (k + 1)) (cF - (k + 1)) ((FL.drop (k + 1)).flatMap ftC) (by rw [flat_len, List.length_drop]) (fun j u hj => by
    have hne : FL.length ≠ k + 1 := fun e => by
      rw [List.drop_eq_nil_of_le (by omega)] at hj
      cases hj
    rw [ha2 hne, Addr.add_lit]
    refine (b1.cell (p := ⟨b, _, none⟩) hlt).trans (own_cell h.facts hob ?_)
    rw [hsp, List.getElem?_append_right (by rw [hl1]; omega), hl1, Nat.add_sub_cancel_left]
    exact hj) (flat_one _) (by unfold maxLen; omega) (by omega) b1.size
  refine ⟨v1, w1, v2, w2, (by obtain ⟨A1, q1, e, _⟩ := own_slM o1; exact ⟨A1, q1, by rw [e, Nat.zero_add]⟩), r1, r2, b1, ?_, b1.grown g2 b1.size (fun k e => (o1.lt k e).1)⟩
  have e1 : (FL.take k ++ FL.drop (k + 1)).length = 0 + k + (FL.length - (k + 1)) := by
    rw [List.length_append, List.length_take, List.length_drop, Nat.min_eq_left (by omega)]
    omega
  rw [e1, List.flatMap_append]
  simpa using o2
theorem mout_less {w7 : World} {v7 : Value} (h : MnAt W g A L c d F cF ds ls FL) (hb : Below w.heap.size w W) (O7 : w7.ownsRow W.heap.size 85 6 v7 FL'.length (FL'.flatMap ftC)) (D7 : Below W.heap.size W w7) : MOut w g A L c d F ds ls FL' (w7.setCell ⟨g, 2, none⟩ v7) := by
  have hg := h.blk.lt
  obtain ⟨A7, c7, rfl, hA7⟩ := own_slM O7
  have hF : ∀ b, b ≠ g → (w7.setCell ⟨g, 2, none⟩ (.slice A7 FL'.length c7)).heap[b]? = w7.heap[b]? := fun b h => Below.heap_setCell w7 ⟨g, 2, none⟩ _ b h
  have hsz : (w7.setCell ⟨g, 2, none⟩ (.slice A7 FL'.length c7)).heap.size = w7.heap.size := by simp [World.setCell]
  refine ⟨A7, c7, h.put (own_monoM O7 (by omega)) (D7.mono (by omega)), ⟨D7.os.trans hb.os, D7.tape.trans hb.tape, D7.output.trans hb.output, ?_, fun b h1 h2 _ => ?_⟩, fun a ha => ?_⟩
  · rw [hsz]
    exact Nat.le_trans hb.size D7.size
  · exact (hF b h2).trans ((D7.block b (Nat.lt_of_lt_of_le h1 hb.size)).trans (hb.block b h1))
  · exact Or.inr (Nat.le_trans hb.size (own_block O7 (hA7 a ha)).2.1)
theorem mout_more {w7 : World} {v7 : Value} {f : Ft} (h : MnAt W g A L c d F cF ds ls FL) (hb : Below w.heap.size w W) (O7 : w7.ownsRow (g + 1) 85 6 v7 (FL.length + 1) (FL.flatMap ftC ++ ftC f)) (D7 : Below (g + 1) W w7) (K7 : KeptB W w7 (Value.slice F FL.length cF).ownBlock) (g7 : v7.ownBlock = (Value.slice F FL.length cF).ownBlock ∨ ∃ k, v7.ownBlock = some k ∧ W.heap.size ≤ k) : MOut w g A L c d F ds ls (FL ++ [f]) (w7.setCell ⟨g, 2, none⟩ v7) := by
  have hg := h.blk.lt
  have e1 : (FL ++ [f]).length = FL.length + 1 := by simp
  have e2 : (FL ++ [f]).flatMap ftC = FL.flatMap ftC ++ ftC f := by simp
  rw [← e1, ← e2] at O7
  obtain ⟨A7, c7, rfl, hA7⟩ := own_slM O7
  have hF : ∀ b, b ≠ g → (w7.setCell ⟨g, 2, none⟩ (.slice A7 (FL ++ [f]).length c7)).heap[b]? = w7.heap[b]? := fun b h => Below.heap_setCell w7 ⟨g, 2, none⟩ _ b h
  have hsz : (w7.setCell ⟨g, 2, none⟩ (.slice A7 (FL ++ [f]).length c7)).heap.size = w7.heap.size := by simp [World.setCell]
  have hFb : ∀ b, some b = (Value.slice F FL.length cF).ownBlock → ∃ a, F = some a ∧ a.block = b := fun b e => by
    cases F with
    | none => cases e
    | some a =>
      refine ⟨a, rfl, ?_⟩
      simp only [Value.ownBlock] at e
      first
        | exact (Option.some.inj e).symm
        | (split at e <;> simp_all)
  refine ⟨A7, c7, h.put O7 D7, ⟨D7.os.trans hb.os, D7.tape.trans hb.tape, D7.output.trans hb.output, ?_, fun b h1 h2 h3 => ?_⟩, fun a ha => ?_⟩
  · rw [hsz]
    exact Nat.le_trans hb.size K7.size
  · exact (hF b h2).trans ((K7.block b (Nat.lt_of_lt_of_le h1 hb.size) (fun e => by
      obtain ⟨a, ha, hab⟩ := hFb b e
      exact h3 a ha hab.symm)).trans (hb.block b h1))
  · have hb7 := hA7 a ha
    rcases g7 with g7 | ⟨k, g7, hk⟩
    · rw [hb7] at g7
      exact Or.inl (hFb _ g7)
    · rw [hb7] at g7
      have := Option.some.inj g7
      exact Or.inr (by have := hb.size; omega)
/-- A store into a block of the call's own. -/
theorem MnAt.set {k j : Nat} {cs : Array Value} {t : TypeId} {u : Value} (h : MnAt W g A L c d F cF ds ls FL) (hB : Bk W k cs t) (hk : g < k) (ht : t ≠ 85) : MnAt (W.setCell ⟨k, j, none⟩ u) g A L c d F cF ds ls FL := by
  have hF : ∀ b, b ≠ k → (W.setCell ⟨k, j, none⟩ u).heap[b]? = W.heap[b]? := fun b h => Below.heap_setCell W ⟨k, j, none⟩ _ b h
  have kt : KT g W (W.setCell ⟨k, j, none⟩ u) := fun b hb _ => hF b (by omega)
  refine ⟨(hF g (by omega)).trans h.blk, h.devs.kt kt, h.links.kt kt, own_keptBut h.facts (fun b hb => hF b (fun e => ?_))⟩
  obtain ⟨_, _, cur, h2⟩ := own_block h.facts hb
  rw [e] at h2
  unfold Bk at hB
  rw [hB] at h2
  simp only [Option.some.injEq, Obj.cells.injEq] at h2
  exact ht h2.2.1
theorem MOut.set {k j : Nat} {cs : Array Value} {t : TypeId} {u : Value} (h : MOut w g A L c d F ds ls FL W) (hB : Bk W k cs t) (hg : g < w.heap.size) (hk : w.heap.size ≤ k) (ht : t ≠ 85) : MOut w g A L c d F ds ls FL (W.setCell ⟨k, j, none⟩ u) := by
  obtain ⟨F', cF', h1, h2, h3⟩ := h
  have hF : ∀ b, b ≠ k → (W.setCell ⟨k, j, none⟩ u).heap[b]? = W.heap[b]? := fun b h => Below.heap_setCell W ⟨k, j, none⟩ _ b h
  have hsz : (W.setCell ⟨k, j, none⟩ u).heap.size = W.heap.size := by simp [World.setCell]
  refine ⟨F', cF', h1.set hB (by omega) ht, ⟨h2.os, h2.tape, h2.output, by rw [hsz]; exact h2.size, fun b q1 q2 q3 => (hF b (by omega)).trans (h2.block b q1 q2 q3)⟩, h3⟩
theorem MOut.set6 {k : Nat} {c0 c1 c2 c3 c4 c5 u0 u1 u2 u3 u4 u5 : Value} {t : TypeId} (h : MOut w g A L c d F ds ls FL W) (hB : Bk W k #[c0, c1, c2, c3, c4, c5] t) (hg : g < w.heap.size) (hk : w.heap.size ≤ k) (ht : t ≠ 85) : MOut w g A L c d F ds ls FL ((((((W.setCell ⟨k, 0, none⟩ u0).setCell ⟨k, 1, none⟩ u1).setCell ⟨k, 2, none⟩ u2).setCell ⟨k, 3, none⟩ u3).setCell ⟨k, 4, none⟩ u4).setCell ⟨k, 5, none⟩ u5) :=
  (((((h.set hB hg hk ht).set (hB.setS u0) hg hk ht).set ((hB.setS u0).setS u1) hg hk ht).set (((hB.setS u0).setS u1).setS u2) hg hk ht).set ((((hB.setS u0).setS u1).setS u2).setS u3) hg hk ht).set (((((hB.setS u0).setS u1).setS u2).setS u3).setS u4) hg hk ht
end
end Go.Proofs.YthioedgnambomaaGreat



namespace Go.Proofs.YthioedgnambomaaGreat
open Go.RowKit Go.Maps

section
variable {w W W' : World} {g : Nat} {A L : Option Addr} {c d : Nat} {F : Option Addr} {cF : Nat} {ds : List Dv} {ls : List Lk} {FL FL' : List Ft}
theorem MnAt.alloc (h : MnAt W g A L c d F cF ds ls FL) (o : Obj) : MnAt (W.alloc o) g A L c d F cF ds ls FL := h.below ((Below.refl _ _).alloc (Nat.le_refl _) o)
theorem MnAt.drew (h : MnAt W g A L c d F cF ds ls FL) : MnAt W.drew g A L c d F cF ds ls FL := h.below (Below.refl _ _).drew
theorem MnAt.drewN (h : MnAt W g A L c d F cF ds ls FL) (n : Nat) : MnAt (W.drewN n) g A L c d F cF ds ls FL := h.below (belowNN (Below.refl _ _) n)
/-- Forget, under way. -/
structure FG (w : World) (g : Nat) (A L : Option Addr) (c d : Nat) (F : Option Addr) (cF : Nat) (ds : List Dv) (ls : List Lk) (FL : List Ft) (i : Int) (p : Pk) (port kd : Int) (K : Nat) (W : World) : Prop where
  mn : MnAt W g A L c d F cF ds ls FL
  bi : Bk W w.heap.size #[.int .i64 i] 3
  bp : Bk W (w.heap.size + 1) #[.int .i64 p.s, .int .i64 p.d, .int .i64 p.sp, .int .i64 p.dp] 29
  bo : Bk W (w.heap.size + 1 + 1) #[.int .i64 port] 3
  bk : Bk W K #[.int .i64 kd] 3
  bl : Below w.heap.size w W
theorem FG.keep {i port kd : Int} {p : Pk} {K : Nat} (h : FG w g A L c d F cF ds ls FL i p port kd K W) (hb : Below W.heap.size W W') : FG w g A L c d F cF ds ls FL i p port kd K W' := ⟨h.mn.below hb, h.bi.keep hb, h.bp.keep hb, h.bo.keep hb, h.bk.keep hb, chnN hb h.bl⟩
theorem gone_found {i port : Int} {p : Pk} {kd : Int} (hi : 0 ≤ i ∧ i < (ds.length : Int)) (hk : kindAt ds i = kd) (h35 : 3 ≤ kd ∧ kd ≤ 5) {k : Nat} {f : Ft} (h1 : FL[k]? = some f) (h2 : FL.find? (ofGone kd i p port) = some f) (h3 : FL.eraseP (ofGone kd i p port) = FL.take k ++ FL.drop (k + 1)) : mgoneP ds FL i p port = ⟨0, FL.take k ++ FL.drop (k + 1)⟩ := by
  unfold mgoneP
  rw [if_pos hi, hk, if_pos h35, if_pos (List.any_eq_true.2 ⟨f, List.mem_of_getElem? h1, List.find?_some h2⟩), h3]
theorem gone_none {i port : Int} {p : Pk} {kd : Int} (hi : 0 ≤ i ∧ i < (ds.length : Int)) (hk : kindAt ds i = kd) (h35 : 3 ≤ kd ∧ kd ≤ 5) (h2 : FL.find? (ofGone kd i p port) = none) : mgoneP ds FL i p port = ⟨7, FL⟩ := by
  unfold mgoneP
  rw [if_pos hi, hk, if_pos h35, if_neg (by rw [find_no h2]; simp)]
theorem gone_kind {i port : Int} {p : Pk} {kd : Int} (hi : 0 ≤ i ∧ i < (ds.length : Int)) (hk : kindAt ds i = kd) (h35 : ¬ (3 ≤ kd ∧ kd ≤ 5)) : mgoneP ds FL i p port = ⟨4, FL⟩ := by
  unfold mgoneP
  rw [if_pos hi, hk, if_neg h35]
end
end Go.Proofs.YthioedgnambomaaGreat



namespace Go.Proofs.YthioedgnambomaaGreat
open Go.RowKit

theorem rin_any (n : Int) (w : World) : Calls Tryz.prog 7 #[.int .i64 n, .int .i64 0, .int .i64 15] w fun e w' => e = .returned (.bool (decide (0 ≤ n) && decide (n ≤ 15))) ∧ w' = w := by
  by_cases h0 : 0 ≤ n
  · have t : decide (0 ≤ n) = true := by simp [h0]
    go_enter Tryz.func7, Tryz.ntmps7
    go_wp2_with fail
    go_ret
    exact ⟨by simp [h0], rfl⟩
  · have t : decide (0 ≤ n) = false := by simp; omega
    go_enter Tryz.func7, Tryz.ntmps7
    go_wp2_with fail
    go_ret
    exact ⟨by simp, rfl⟩

set_option maxHeartbeats 400000 in
theorem rhas_nat (b : Nat) (n : Nat) (w : World) (hn : n < 16) :
    Calls Tryz.prog 39 #[.int .i64 (b : Int), .int .i64 (n : Int)] w fun e w' => e = .returned (.bool (b.testBit n)) ∧ w' = w := by
  have t : (decide ((0 : Int) ≤ (n : Int)) && decide ((n : Int) ≤ 15)) = true := by simp; omega
  have he : Hid ((((b : Int) / 2 ^ n).tmod 2 == 1) = b.testBit n) := by
    show _ = _
    rw [Nat.testBit, Nat.one_and_eq_mod_two, show ((b : Int) / 2 ^ n) = ((b >>> n : Nat) : Int) by rw [Nat.shiftRight_eq_div_pow]; simp]
    have e : (((b >>> n : Nat) : Int).tmod 2) = (((b >>> n) % 2 : Nat) : Int) := rfl
    rw [e]
    have : (b >>> n) % 2 = 0 ∨ (b >>> n) % 2 = 1 := by omega
    rcases this with h | h <;> rw [h] <;> rfl
  go_enter Tryz.func39, Tryz.ntmps39
  go_wp2_with (go_at_call 7; refine (rin_any _ _).mono ?_; rintro e w' ⟨rfl, rfl⟩; rw [t])
  go_ret
  refine ⟨?_, rfl⟩
  rw [← he.out]
  simp
set_option maxHeartbeats 400000 in
theorem rhas_int (b : Nat) (n : Int) (w : World) (h1 : b < 65536) :
    Calls Tryz.prog 39 #[.int .i64 (b : Int), .int .i64 n] w fun e w' => e = .returned (.bool (hasB b n)) ∧ w' = w := by
  by_cases hn : 0 ≤ n ∧ n ≤ 15
  · obtain ⟨k, rfl⟩ : ∃ k : Nat, n = k := ⟨n.toNat, by omega⟩
    have e : hasB b (k : Int) = b.testBit k := by simp [hasB]
    rw [e]
    exact rhas_nat b k w (by omega)
  · have t : (decide ((0 : Int) ≤ n) && decide (n ≤ 15)) = false := by
      by_cases h : 0 ≤ n
      · simp; omega
      · simp; omega
    have e : hasB b n = false := by
      unfold hasB
      by_cases h : 0 ≤ n
      · rw [Nat.testBit_lt_two_pow (Nat.lt_of_lt_of_le h1 (Nat.pow_le_pow_right (n := 2) (by omega) (show 16 ≤ n.toNat by omega)))]
        simp
      · simp; omega
    rw [e]
    clear hn e
    go_enter Tryz.func39, Tryz.ntmps39
    go_wp2_with (go_at_call 7; refine (rin_any _ _).mono ?_; rintro e w' ⟨rfl, rfl⟩; rw [t])
    go_ret
    exact ⟨rfl, rfl⟩

set_option maxHeartbeats 1000000 in
theorem rHas_case (a b c d : Nat) (p q r s : Int) (w : World) (x0 x1 x2 x3 : Bool) (ha : a < 65536) (hb : b < 65536) (hc : c < 256) (hd : d < 256)
    (k0 : Hid (∀ w, Calls Tryz.prog 39 #[.int .i64 (a : Int), .int .i64 p] w fun e w' => e = .returned (.bool x0) ∧ w' = w))
    (k1 : Hid (∀ w, Calls Tryz.prog 39 #[.int .i64 (b : Int), .int .i64 q] w fun e w' => e = .returned (.bool x1) ∧ w' = w))
    (k2 : Hid (∀ w, Calls Tryz.prog 39 #[.int .i64 (c : Int), .int .i64 r] w fun e w' => e = .returned (.bool x2) ∧ w' = w))
    (k3 : Hid (∀ w, Calls Tryz.prog 39 #[.int .i64 (d : Int), .int .i64 s] w fun e w' => e = .returned (.bool x3) ∧ w' = w)) :
    Calls Tryz.prog 70 #[mt a b c d, pk p q r s] w fun e w' => e = .returned (.bool (x0 && x1 && x2 && x3)) ∧ Below w.heap.size w w' := by
  cases x0
  · go_enter Tryz.func70, Tryz.ntmps70
    go_wp2_with fail
    refine (k0.out _).mono ?_
    rintro e w1 ⟨rfl, rfl⟩
    go_wp2_with fail
    go_ret
    exact ⟨by simp, by go_grown⟩
  cases x1
  · go_enter Tryz.func70, Tryz.ntmps70
    go_wp2_with fail
    refine (k0.out _).mono ?_
    rintro e w1 ⟨rfl, rfl⟩
    go_wp2_with fail
    refine (k1.out _).mono ?_
    rintro e w1 ⟨rfl, rfl⟩
    go_wp2_with fail
    go_ret
    exact ⟨by simp, by go_grown⟩
  cases x2
  · go_enter Tryz.func70, Tryz.ntmps70
    go_wp2_with fail
    refine (k0.out _).mono ?_
    rintro e w1 ⟨rfl, rfl⟩
    go_wp2_with fail
    refine (k1.out _).mono ?_
    rintro e w1 ⟨rfl, rfl⟩
    go_wp2_with fail
    refine (k2.out _).mono ?_
    rintro e w1 ⟨rfl, rfl⟩
    go_wp2_with fail
    go_ret
    exact ⟨by simp, by go_grown⟩
  · go_enter Tryz.func70, Tryz.ntmps70
    go_wp2_with fail
    refine (k0.out _).mono ?_
    rintro e w1 ⟨rfl, rfl⟩
    go_wp2_with fail
    refine (k1.out _).mono ?_
    rintro e w1 ⟨rfl, rfl⟩
    go_wp2_with fail
    refine (k2.out _).mono ?_
    rintro e w1 ⟨rfl, rfl⟩
    go_wp2_with fail
    refine (k3.out _).mono ?_
    rintro e w1 ⟨rfl, rfl⟩
    go_wp2_with fail
    go_ret
    exact ⟨by simp, by go_grown⟩
theorem rHas_in (a b c d : Nat) (p q r s : Int) (w : World) (ha : a < 65536) (hb : b < 65536) (hc : c < 256) (hd : d < 256) :
    Calls Tryz.prog 70 #[mt a b c d, pk p q r s] w fun e w' => e = .returned (.bool (inB a b c d p q r s)) ∧ Below w.heap.size w w' :=
  rHas_case a b c d p q r s w _ _ _ _ ha hb hc hd (fun w => rhas_int a p w ha) (fun w => rhas_int b q w hb) (fun w => rhas_int c r w (by omega)) (fun w => rhas_int d s w (by omega))


set_option maxHeartbeats 4000000 in
set_option maxRecDepth 100000 in
theorem rlets_row (b o cap : Nat) (xs : List Rl) (p q s t : Int) (w : World) (hb : b < w.heap.size) (hn : xs.length ≤ cap) (hcap : cap ≤ maxLen) (hr : RAt w b o xs) :
    Calls Tryz.prog 33 #[.slice (some ⟨b, o, none⟩) xs.length cap, pk p q s t] w fun e w' => e = .returned (.bool (letsB xs p q s t)) ∧ Below w.heap.size w w' := by
  unfold maxLen at hcap
  have D0 := Below.alloc' (Below.refl w.heap.size w) (.cells #[.int .i64 p, .int .i64 q, .int .i64 s, .int .i64 t] 29)
  have F0 := four_new w (.int .i64 p) (.int .i64 q) (.int .i64 s) (.int .i64 t) 29
  go_enter Tryz.func33, Tryz.ntmps33
  go_wp2_with fail
  go_loopw [5] (fun i wr => ∃ k : Nat, i = .int .i64 (k : Int) ∧ k ≤ xs.length ∧ Below w.heap.size w wr ∧ Four wr w.heap.size (.int .i64 p) (.int .i64 q) (.int .i64 s) (.int .i64 t) ∧ letsB xs p q s t = letsB (xs.drop k) p q s t) (fun i _ => xs.length - (intOf i).toNat)
  case atStart => exact ⟨0, rfl, by omega, D0, F0, rfl⟩
  case round =>
    obtain ⟨k, rfl, hk, D1, F1, hl⟩ := hrel
    have Hl : Hid (letsB xs p q s t = letsB (xs.drop k) p q s t) := hl
    clear hl
    by_cases hlt : k < xs.length
    · obtain ⟨r, hxk⟩ : ∃ r, xs[k]? = some r := ⟨_, List.getElem?_eq_getElem hlt⟩
      have RA := hr.below D1 hb
      obtain ⟨c0, c1, c2, c3, c4⟩ := RA.at hxk
      have Hd : Hid (letsB (xs.drop k) p q s t = if inR r p q s t then r.ok else letsB (xs.drop (k + 1)) p q s t) := letsB_drop hxk p q s t
      have IN : Hid (∀ w', Below wr.heap.size wr w' → Calls Tryz.prog 70 #[mt r.a r.b r.c r.d, pk p q s t] w' fun e w'' => e = .returned (.bool (inR r p q s t)) ∧ Hid (Below w.heap.size w w'') ∧ Hid (Four w'' w.heap.size (.int .i64 p) (.int .i64 q) (.int .i64 s) (.int .i64 t)) ∧ w''.cell? ⟨b, o + k * 5, none⟩ = some (.bool r.ok) ∧ w''.cell? ⟨b, o + k * 5 + 1, none⟩ = some (.int .u16 (r.a : Int)) ∧ w''.cell? ⟨b, o + k * 5 + 2, none⟩ = some (.int .u16 (r.b : Int)) ∧ w''.cell? ⟨b, o + k * 5 + 3, none⟩ = some (.int .u8 (r.c : Int)) ∧ w''.cell? ⟨b, o + k * 5 + 4, none⟩ = some (.int .u8 (r.d : Int)) ∧ w''.cell? ⟨w.heap.size, 0, none⟩ = some (.int .i64 p) ∧ w''.cell? ⟨w.heap.size, 1, none⟩ = some (.int .i64 q) ∧ w''.cell? ⟨w.heap.size, 2, none⟩ = some (.int .i64 s) ∧ w''.cell? ⟨w.heap.size, 3, none⟩ = some (.int .i64 t)) := fun w' hw' =>
        (rHas_in r.a r.b r.c r.d p q s t w' r.ha r.hb r.hc r.hd).mono fun e w'' ⟨h1, h2⟩ => by
          have hB := hw'.trans (h2.mono hw'.size)
          have F2 := keepFour hB F1
          have hb' : b < wr.heap.size := Nat.lt_of_lt_of_le hb D1.size
          obtain ⟨y0, y1, y2, y3, y4⟩ := (RA.below hB hb').at hxk
          exact ⟨h1, chain hB D1, F2, y0, y1, y2, y3, y4, F2.2.1, F2.2.2.1, F2.2.2.2.1, F2.2.2.2.2⟩
      obtain ⟨l0, g0, g1, g2, g3⟩ := id F1
      have lw := D1.size
      have R0 : Below wr.heap.size wr wr.drew := (Below.refl _ _).drew
      have k1 : (0 : Int) ≤ (k : Int) := by omega
      have k2 : (k : Int) < (xs.length : Int) := by omega
      clear hr hxk RA
      generalize inR r p q s t = v at *
      generalize r.ok = ok at *
      generalize r.a = ra at *
      generalize r.b = rb at *
      generalize r.c = rc at *
      generalize r.d = rd at *
      go_wp2_with fail
      go_region_held3 (fun w' => w'.cell? ⟨b, o + k * 5, none⟩ = some (.bool ok) ∧ w'.cell? ⟨b, o + k * 5 + 1, none⟩ = some (.int .u16 (ra : Int)) ∧ w'.cell? ⟨b, o + k * 5 + 2, none⟩ = some (.int .u16 (rb : Int)) ∧ w'.cell? ⟨b, o + k * 5 + 3, none⟩ = some (.int .u8 (rc : Int)) ∧ w'.cell? ⟨b, o + k * 5 + 4, none⟩ = some (.int .u8 (rd : Int)) ∧ w'.cell? ⟨w.heap.size, 0, none⟩ = some (.int .i64 p) ∧ w'.cell? ⟨w.heap.size, 1, none⟩ = some (.int .i64 q) ∧ w'.cell? ⟨w.heap.size, 2, none⟩ = some (.int .i64 s) ∧ w'.cell? ⟨w.heap.size, 3, none⟩ = some (.int .i64 t)) (exact ⟨by assumption, by assumption, by assumption, by assumption, by assumption, by assumption, by assumption, by assumption, by assumption⟩)
        (first | (go_at_call 70; refine (IN.out _ (by assumption)).mono ?_; rintro e wn ⟨rfl, D3, F3, z0, z1, z2, z3, z4, z5, z6, z7, z8⟩))
      cases v
      · go_wp2_with fail
        go_roundw
        case rel => exact ⟨k + 1, by go_num, by omega, D3.out, F3.out, by rw [Hl.out, Hd.out]; simp⟩
        case measure => simp [intOf]; omega
      · go_wp2_with fail
        go_ret
        exact ⟨by rw [Hl.out, Hd.out]; simp, D3.out⟩
    · go_wp2_with fail
      go_ret
      exact ⟨by rw [Hl.out, List.drop_eq_nil_of_le (by omega)]; rfl, D1⟩

set_option maxHeartbeats 1000000 in
theorem rlets_none (A : Option Addr) (cap : Nat) (p q s t : Int) (w : World) :
    Calls Tryz.prog 33 #[.slice A 0 cap, pk p q s t] w fun e w' => e = .returned (.bool false) ∧ Below w.heap.size w w' := by
  have D0 := Below.alloc' (Below.refl w.heap.size w) (.cells #[.int .i64 p, .int .i64 q, .int .i64 s, .int .i64 t] 29)
  go_enter Tryz.func33, Tryz.ntmps33
  go_wp2_with fail
  go_loopw [5] (fun i wr => i = .int .i64 0 ∧ Below w.heap.size w wr) (fun i _ => 0)
  case atStart => exact ⟨rfl, D0⟩
  case round =>
    obtain ⟨rfl, D1⟩ := hrel
    go_wp2_with fail
    go_ret
    exact ⟨rfl, D1⟩
theorem rlets_any {v : Value} {xs : List Rl} (p q s t : Int) (w : World) (h : Rules w.heap.size w v xs) :
    Calls Tryz.prog 33 #[v, pk p q s t] w fun e w' => e = .returned (.bool (letsB xs p q s t)) ∧ Below w.heap.size w w' := by
  obtain ⟨A, cap, rfl, _, h1, h2, h3⟩ := h
  by_cases hx : xs = []
  · subst hx
    exact rlets_none A cap p q s t w
  · obtain ⟨b, o, rfl, hb, hr⟩ := h3 hx
    exact rlets_row b o cap xs p q s t w hb h1 h2 hr
end Go.Proofs.YthioedgnambomaaGreat



