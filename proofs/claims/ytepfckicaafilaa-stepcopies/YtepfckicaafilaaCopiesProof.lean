/-
  PROVED: wirekeep.StepCopies returns true for every net and every two lists of acts (each part of them any int). Conditions: none (the first form).
-/
import Derived.Test.YtepfckicaafilaaRows
import Derived.Test.YtepfckicaafilaaSh3
import Derived.ProofKit
import Derived.Carry
import Derived.OpenShut
namespace Go.Proofs.Ytepfckicaafilaa
open Go.ChangeShapes Go.WideShapes Go.ChangeAt Go.RowKit

theorem own : ownKnob Try.prog.godebug = none := by kernel_rfl
theorem Try.laidOut : laidOutB Try.prog = true := by kernel_rfl
theorem cellsActF : Try.prog.cellsOf 66 = 8 := by kernel_rfl
theorem cellsPacketF : Try.prog.cellsOf 24 = 4 := by kernel_rfl
theorem cellsPlaceF : Try.prog.cellsOf 45 = 2 := by kernel_rfl

instance : Inhabited Ac := ⟨⟨0, 0, 0, zeroP, 0⟩⟩
section
variable {H : Type} {enc : TypeId × Value → H} {W : World} {sp : Nat → Bool} {held : Bool}
set_option maxRecDepth 100000 in
theorem ac_openN {fuel : Nat} {cs : List Value} {x : DataW H × List MemPlace} (hl : cs.length = 8) (h : DataW.trod enc Try.prog W 0 sp held fuel 66 cs = some x) : ∃ l : Ac, IsAc cs l := by
  obtain ⟨xs, k, hk, hxy, _, hxl, hf⟩ := DataW.trod_struct Try.underlying66 h
  match xs, hxl, cs, hl with
  | [y0, y1, y2, y3], _, [v0, v1, v2, v3, v4, v5, v6, v7], _ =>
    have g0 := hf 0 _ rfl
    have g1 := hf 1 _ rfl
    have g2 := hf 2 _ rfl
    have g3 := hf 3 _ rfl
    simp [nInt, cellsPacketF, cellsPlaceF] at g0 g1 g2 g3
    obtain ⟨x0, e0, _, w0⟩ := DataW.trod_int Try.underlying3 g0
    obtain ⟨x7, e7, _, w7⟩ := DataW.trod_int Try.underlying3 g3
    obtain ⟨xs, k, hk, hxy, _, hxl, hf⟩ := DataW.trod_struct Try.underlying45 g1
    match xs, hxl with
    | [z0, z1], _ =>
      have g0 := hf 0 _ rfl
      have g1 := hf 1 _ rfl
      simp [nInt] at g0 g1
      obtain ⟨x1, e1, _, w1⟩ := DataW.trod_int Try.underlying3 g0
      obtain ⟨x2, e2, _, w2⟩ := DataW.trod_int Try.underlying3 g1
      obtain ⟨xs, k, hk, hxy, _, hxl, hf⟩ := DataW.trod_struct Try.underlying24 g2
      match xs, hxl with
      | [z0, z1, z2, z3], _ =>
        have g0 := hf 0 _ rfl
        have g1 := hf 1 _ rfl
        have g2 := hf 2 _ rfl
        have g3 := hf 3 _ rfl
        simp [nInt] at g0 g1 g2 g3
        obtain ⟨x3, e3, _, w3⟩ := DataW.trod_int Try.underlying3 g0
        obtain ⟨x4, e4, _, w4⟩ := DataW.trod_int Try.underlying3 g1
        obtain ⟨x5, e5, _, w5⟩ := DataW.trod_int Try.underlying3 g2
        obtain ⟨x6, e6, _, w6⟩ := DataW.trod_int Try.underlying3 g3
        simp only [List.cons.injEq, and_true] at e0 e1 e2 e3 e4 e5 e6 e7
        subst e0 e1 e2 e3 e4 e5 e6 e7
        exact ⟨⟨x0, x1, x2, ⟨x3, x4, x5, x6⟩, x7⟩, rfl, ⟨w1, ⟨w3, w4, w5, w6⟩, w7⟩⟩
end

set_option maxRecDepth 100000 in
theorem lifted (os : Os) (started : os.Started) (H : Type) (enc : TypeId × Value → H) :
    ReturnsInHanded {} Try.checked os 6 .any (Rows.stepCopiesSpec.pre6 enc Try.prog Try.f6 Rows.stepCopiesRow.domain false) (Rows.stepCopiesSpec.post enc Try.prog Try.f6 false true false false) := by
  refine returnsInHanded_of_change (C := Try.checked) own started (by kernel_rfl) Try.func6
    (ChangeSpec.witness6 (enc := enc) (C := Try.checked) false ⟨#[], #[.agg #[.slice none 0 0, .slice none 0 0], .slice none 0 0, .slice none 0 0], []⟩ 8 (by kernel_rfl) (by kernel_rfl) (by kernel_rfl) (by kernel_rfl)) ?_
  intro W base args ds gs before hval0 hW _ _
  have hval : ∀ (j : Nat) t v, Try.f6.params[j]? = some t → args[j]? = some v → Value.okWide Try.prog W .any base t v := hval0
  have hW' := hW
  obtain ⟨p, q, hA0, hV, rfl, hfz, hnd⟩ := hW
  have hA : DataW.TrodAll enc Try.prog W 0 (fun _ => true) true Try.f6.params.toList args.toList ds p := hA0
  rw [Try.params6] at hA hval
  obtain ⟨v0, v1, v2, d0, d1, d2, p0, p1, p2, rfl, rfl, rfl, h0, h1, h2⟩ := trodAll_three hA
  obtain ⟨rfl, rfl⟩ := trodVars_none hV
  obtain ⟨vd, vl, dv, lk, rfl, hD, hL⟩ := net_open (hval 0 32 v0 rfl rfl) h0
  obtain ⟨a0, len0, cap0, rfl⟩ := okWide_slice Try.underlying63 (hval 1 63 v1 rfl rfl)
  obtain ⟨a1, len1, cap1, rfl⟩ := okWide_slice Try.underlying63 (hval 2 63 v2 rfl rfl)
  have h1' := h1
  obtain ⟨fuel, h1'⟩ := h1'
  obtain ⟨vr, l, evr, hl⟩ := slice_open (n := 8) (R := IsAc) Try.underlying63 cellsActF (by omega) (fun _ _ _ hl h => ac_openN hl h) h1'
  obtain rfl : Value.slice a0 len0 cap0 = vr := by simpa [Value.cells] using evr
  have h2' := h2
  obtain ⟨fuel, h2'⟩ := h2'
  obtain ⟨vs, l', evs, hl'⟩ := slice_open (n := 8) (R := IsAc) Try.underlying63 cellsActF (by omega) (fun _ _ _ hl h => ac_openN hl h) h2'
  obtain rfl : Value.slice a1 len1 cap1 = vs := by simpa [Value.cells] using evs
  clear hA0 hval0 h1' evr h2' evs
  simp only [List.append_nil] at hW'
  have hlt : ∀ x ∈ p0 ++ p1 ++ p2, x.block < W.heap.size := fun x hx => by simpa using hW'.lt x (by simpa using hx)
  obtain rfl : len0 = l.length := by
    obtain ⟨_, _, e, _⟩ := hl
    cases e
    rfl
  obtain rfl : len1 = l'.length := by
    obtain ⟨_, _, e, _⟩ := hl'
    cases e
    rfl
  have hD0 := hD
  have hL0 := hL
  obtain ⟨A, cap, rfl, _, _, _, _⟩ := hD
  obtain ⟨B, cap', rfl, _, _, _, _⟩ := hL
  refine (copies_try A B a0 a1 cap cap' cap0 cap1 dv lk l l' W hD0 hL0 hl hl').mono fun e W' ⟨he, hbw⟩ => ?_
  subst he
  have k0 := Below.trod Try.laidOut (by kernel_rfl) (of_decide_eq_true (by kernel_rfl)) h0 hbw (fun x hx => hlt x (by simp [hx]))
  have k1 := Below.trod Try.laidOut (by kernel_rfl) (of_decide_eq_true (by kernel_rfl)) h1 hbw (fun x hx => hlt x (by simp [hx]))
  have k2 := Below.trod Try.laidOut (by kernel_rfl) (of_decide_eq_true (by kernel_rfl)) h2 hbw (fun x hx => hlt x (by simp [hx]))
  exact ⟨_, rfl, _, _, _, [], _, [], hW', trodAll_mk1 (shut_bool Try.underlying4 _), trodAll_mk3 k0 k1 k2, rfl, hbw.frame _, fun h => by cases h⟩

theorem stepCopies_holds : Rows.StepCopiesSaid :=
  OpenClaim.holds_of_wide 6 Try.f6 rfl rfl rfl rfl rfl rfl rfl ⟨rfl, rfl, rfl, rfl, rfl⟩ rfl rfl rfl rfl rfl (by kernel_rfl) Try.func6 (by kernel_rfl)
    (of_decide_eq_true (by kernel_rfl)) (by unfold Func.isWrapper; rw [if_neg (of_decide_eq_false (by kernel_rfl))]; exact ⟨rfl, rfl⟩)
    (fun os started H enc _ => lifted os started H enc)
#print axioms stepCopies_holds
end Go.Proofs.Ytepfckicaafilaa
