/-
  PROVED: wirekeep.StepNat returns true for every address, every pool, every list of packets (each part of them any int) and every list of choices. Conditions: none (the first form).
-/
import Derived.Test.YtepfckicaafilaaRows
import Derived.Test.YtepfckicaafilaaSg7
import Derived.ProofKit
import Derived.Carry
import Derived.OpenShut
namespace Go.Proofs.Ytepfckicaafilaa
open Go.ChangeShapes Go.WideShapes Go.ChangeAt Go.RowKit

theorem own : ownKnob Try.prog.godebug = none := by kernel_rfl
theorem Try.laidOut : laidOutB Try.prog = true := by kernel_rfl
theorem cellsPacketF : Try.prog.cellsOf 24 = 4 := by kernel_rfl

instance : Inhabited Pk := ⟨zeroP⟩
section
variable {H : Type} {enc : TypeId × Value → H} {W : World} {sp : Nat → Bool} {held : Bool}
theorem intk_open {fuel : Nat} {cs : List Value} {x : DataW H × List MemPlace} (h : DataW.trod enc Try.prog W 0 sp held fuel 3 cs = some x) : ∃ y : Int, IsIk cs y := by
  obtain ⟨y, e, _, wf⟩ := DataW.trod_int Try.underlying3 h
  exact ⟨y, e, wf⟩
set_option maxRecDepth 100000 in
theorem pk_openN {fuel : Nat} {cs : List Value} {x : DataW H × List MemPlace} (hl : cs.length = 4) (h : DataW.trod enc Try.prog W 0 sp held fuel 24 cs = some x) : ∃ l : Pk, IsPk cs l := by
  obtain ⟨xs, k, hk, hxy, _, hxl, hf⟩ := DataW.trod_struct Try.underlying24 h
  match xs, hxl, cs, hl with
  | [y0, y1, y2, y3], _, [v0, v1, v2, v3], _ =>
    have g0 := hf 0 _ rfl
    have g1 := hf 1 _ rfl
    have g2 := hf 2 _ rfl
    have g3 := hf 3 _ rfl
    simp [nInt] at g0 g1 g2 g3
    obtain ⟨x0, e0, _⟩ := DataW.trod_int Try.underlying3 g0
    obtain ⟨x1, e1, _⟩ := DataW.trod_int Try.underlying3 g1
    obtain ⟨x2, e2, _⟩ := DataW.trod_int Try.underlying3 g2
    obtain ⟨x3, e3, _⟩ := DataW.trod_int Try.underlying3 g3
    simp only [List.cons.injEq, and_true] at e0 e1 e2 e3
    subst e0 e1 e2 e3
    exact ⟨⟨x0, x1, x2, x3⟩, rfl⟩
theorem u8_open {n : Int} {d : DataW H} {p : List MemPlace} (h : DataW.Trod enc Try.prog W 0 sp held 5 (.int .u8 n) d p) : ∃ k : Nat, n = (k : Int) ∧ k < 256 := by
  obtain ⟨fuel, h⟩ := h
  obtain ⟨x, e, _, wf⟩ := DataW.trod_int Try.underlying5 h
  simp only [Value.cells, List.cons.injEq, and_true, Value.int.injEq, true_and] at e
  subst e
  exact nat_ofN (n := 255) (bounds_u8 wf).1 (bounds_u8 wf).2
end
theorem nat_try (A B : Option Addr) (cap cap' : Nat) (ps : List Pk) (cs : List Int) (ad : Int) (pl : Nat) (hl : pl < 256) (w : World) (hP : SlAt w.heap.size w 4 IsPk (.slice A ps.length cap) ps) (hC : SlAt w.heap.size w 1 IsIk (.slice B cs.length cap') cs) :
    Calls Try.prog 4 #[.int .i64 ad, .int .u8 (pl : Int), .slice A ps.length cap, .slice B cs.length cap'] w fun e w' => e = .returned (.bool true) ∧ Below w.heap.size w w' := by
  cases A with
  | some a => exact nat_some a B cap cap' ps cs ad pl hl w hP hC
  | none =>
    obtain ⟨A, c, e, h0, h1, _⟩ := hP
    cases e
    obtain rfl := h0 rfl
    have : ps.length = 0 := by omega
    rw [this]
    exact nat_none B cap' cs ad pl hl w hC

set_option maxRecDepth 100000 in
theorem lifted (os : Os) (started : os.Started) (H : Type) (enc : TypeId × Value → H) :
    ReturnsInHanded {} Try.checked os 4 .any (Rows.stepNatSpec.pre6 enc Try.prog Try.f4 Rows.stepNatRow.domain false) (Rows.stepNatSpec.post enc Try.prog Try.f4 false true false false) := by
  refine returnsInHanded_of_change (C := Try.checked) own started (by kernel_rfl) Try.func4
    (ChangeSpec.witness6 (enc := enc) (C := Try.checked) false ⟨#[], #[.int .i64 0, .int .u8 0, .slice none 0 0, .slice none 0 0], []⟩ 8 (by kernel_rfl) (by kernel_rfl) (by kernel_rfl) (by kernel_rfl)) ?_
  intro W base args ds gs before hval0 hW _ _
  have hval : ∀ (j : Nat) t v, Try.f4.params[j]? = some t → args[j]? = some v → Value.okWide Try.prog W .any base t v := hval0
  have hW' := hW
  obtain ⟨p, q, hA0, hV, rfl, hfz, hnd⟩ := hW
  have hA : DataW.TrodAll enc Try.prog W 0 (fun _ => true) true Try.f4.params.toList args.toList ds p := hA0
  rw [Try.params4] at hA hval
  obtain ⟨v1, v2, v3, v4, d1, d2, d3, d4, p1, p2, p3, p4, rfl, rfl, rfl, h1, h2, h3, h4⟩ := trodAll_four hA
  obtain ⟨rfl, rfl⟩ := trodVars_none hV
  obtain ⟨ad, rfl⟩ := okWide_int Try.underlying3 (hval 0 3 v1 rfl rfl)
  obtain ⟨pl, rfl⟩ := okWide_int Try.underlying5 (hval 1 5 v2 rfl rfl)
  obtain ⟨a0, len0, cap0, rfl⟩ := okWide_slice Try.underlying56 (hval 2 56 v3 rfl rfl)
  obtain ⟨a1, len1, cap1, rfl⟩ := okWide_slice Try.underlying40 (hval 3 40 v4 rfl rfl)
  obtain ⟨pl, rfl, hpl⟩ := u8_open h2
  have h3' := h3
  obtain ⟨fuel, h3'⟩ := h3'
  obtain ⟨vr, l, evr, hl⟩ := slice_open (n := 4) (R := IsPk) Try.underlying56 cellsPacketF (by omega) (fun _ _ _ hl h => pk_openN hl h) h3'
  obtain rfl : Value.slice a0 len0 cap0 = vr := by simpa [Value.cells] using evr
  have h4' := h4
  obtain ⟨fuel, h4'⟩ := h4'
  obtain ⟨vs, l', evs, hl'⟩ := slice_open (n := 1) (R := IsIk) Try.underlying40 nInt (by omega) (fun _ _ _ _ h => intk_open h) h4'
  obtain rfl : Value.slice a1 len1 cap1 = vs := by simpa [Value.cells] using evs
  clear hA0 hval0 h3' evr h4' evs
  simp only [List.append_nil] at hW'
  have hlt : ∀ x ∈ p1 ++ p2 ++ p3 ++ p4, x.block < W.heap.size := fun x hx => by simpa using hW'.lt x (by simpa using hx)
  obtain rfl : len0 = l.length := by
    obtain ⟨_, _, e, _⟩ := hl
    cases e
    rfl
  obtain rfl : len1 = l'.length := by
    obtain ⟨_, _, e, _⟩ := hl'
    cases e
    rfl
  refine (nat_try a0 a1 cap0 cap1 l l' ad pl hpl W hl hl').mono fun e W' ⟨he, hbw⟩ => ?_
  subst he
  have k1 := Below.trod Try.laidOut (by kernel_rfl) (of_decide_eq_true (by kernel_rfl)) h1 hbw (fun x hx => hlt x (by simp [hx]))
  have k2 := Below.trod Try.laidOut (by kernel_rfl) (of_decide_eq_true (by kernel_rfl)) h2 hbw (fun x hx => hlt x (by simp [hx]))
  have k3 := Below.trod Try.laidOut (by kernel_rfl) (of_decide_eq_true (by kernel_rfl)) h3 hbw (fun x hx => hlt x (by simp [hx]))
  have k4 := Below.trod Try.laidOut (by kernel_rfl) (of_decide_eq_true (by kernel_rfl)) h4 hbw (fun x hx => hlt x (by simp [hx]))
  exact ⟨_, rfl, _, _, _, [], _, [], hW', trodAll_mk1 (shut_bool Try.underlying4 _), trodAll_mk4 k1 k2 k3 k4, rfl, hbw.frame _, fun h => by cases h⟩

theorem stepNat_holds : Rows.StepNatSaid :=
  OpenClaim.holds_of_wide 4 Try.f4 rfl rfl rfl rfl rfl rfl rfl ⟨rfl, rfl, rfl, rfl, rfl⟩ rfl rfl rfl rfl rfl (by kernel_rfl) Try.func4 (by kernel_rfl)
    (of_decide_eq_true (by kernel_rfl)) (by unfold Func.isWrapper; rw [if_neg (of_decide_eq_false (by kernel_rfl))]; exact ⟨rfl, rfl⟩)
    (fun os started H enc _ => lifted os started H enc)
#print axioms stepNat_holds
end Go.Proofs.Ytepfckicaafilaa
