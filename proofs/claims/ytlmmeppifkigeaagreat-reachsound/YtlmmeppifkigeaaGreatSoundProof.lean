/-
  PROVED: wirekeep.ReachSound returns true for every net and every list of events (each part of them any int): whatever happens, nothing comes anywhere that isn't in a set. Conditions: none (the first form).
-/
import Derived.Test.YtlmmeppifkigeaaGreatRows
import Derived.Test.YtlmmeppifkigeaaGreatXBF
import Derived.ProofKit
import Derived.Carry
import Derived.OpenShut
set_option maxHeartbeats 8000000
set_option maxRecDepth 100000
namespace Go.Proofs.YtlmmeppifkigeaaGreat
open Go.ChangeShapes Go.WideShapes Go.ChangeAt Go.RowKit
theorem own : ownKnob Tryz.prog.godebug = none := by kernel_rfl
theorem cellsEvF : Tryz.prog.cellsOf 38 = 8 := by kernel_rfl
theorem cellsPacketF : Tryz.prog.cellsOf 36 = 4 := by kernel_rfl
instance : Inhabited Ev := ⟨⟨0, 0, 0, zeroP, 0⟩⟩
section
variable {H : Type} {enc : TypeId × Value -> H} {W : World} {sp : Nat -> Bool} {held : Bool}
theorem ev_openN {fuel : Nat} {cs : List Value} {x : DataW H × List MemPlace} (hl : cs.length = 8) (h : DataW.trod enc Tryz.prog W 0 sp held fuel 38 cs = some x) : ∃ l : Ev, IsEv cs l := by
 obtain ⟨xs, k, hk, hxy, _, hxl, hf⟩ := DataW.trod_struct Tryz.underlying38 h
 match xs, hxl, cs, hl with
 | [y0, y1, y2, y3, y4], _, [v0, v1, v2, v3, v4, v5, v6, v7], _ =>
   have g0 := hf 0 _ rfl
   have g1 := hf 1 _ rfl
   have g2 := hf 2 _ rfl
   have g3 := hf 3 _ rfl
   have g4 := hf 4 _ rfl
   simp [nInt, cellsPacketF] at g0 g1 g2 g3 g4
   obtain ⟨x0, e0, _, w0⟩ := DataW.trod_int Tryz.underlying3 g0
   obtain ⟨x1, e1, _, w1⟩ := DataW.trod_int Tryz.underlying3 g1
   obtain ⟨x2, e2, _, w2⟩ := DataW.trod_int Tryz.underlying3 g2
   obtain ⟨x7, e7, _, w7⟩ := DataW.trod_int Tryz.underlying3 g4
   obtain ⟨xs, k, hk, hxy, _, hxl, hf⟩ := DataW.trod_struct Tryz.underlying36 g3
   match xs, hxl with
   | [z0, z1, z2, z3], _ =>
     have g0 := hf 0 _ rfl
     have g1 := hf 1 _ rfl
     have g2 := hf 2 _ rfl
     have g3 := hf 3 _ rfl
     simp [nInt] at g0 g1 g2 g3
     obtain ⟨x3, e3, _, w3⟩ := DataW.trod_int Tryz.underlying3 g0
     obtain ⟨x4, e4, _, w4⟩ := DataW.trod_int Tryz.underlying3 g1
     obtain ⟨x5, e5, _, w5⟩ := DataW.trod_int Tryz.underlying3 g2
     obtain ⟨x6, e6, _, w6⟩ := DataW.trod_int Tryz.underlying3 g3
     simp only [List.cons.injEq, and_true] at e0 e1 e2 e3 e4 e5 e6 e7
     subst e0 e1 e2 e3 e4 e5 e6 e7
     exact ⟨⟨x0, x1, x2, ⟨x3, x4, x5, x6⟩, x7⟩, rfl, ⟨w1, w2, ⟨w3, w4, w5, w6⟩, w7⟩⟩
end
theorem lifted (os : Os) (started : os.Started) (H : Type) (enc : TypeId × Value -> H) :
  ReturnsInHanded {} Tryz.checked os 3 .any (Rows.reachSoundSpec.pre6 enc Tryz.prog Tryz.f3 Rows.reachSoundRow.domain false) (Rows.reachSoundSpec.post enc Tryz.prog Tryz.f3 false true false false) := by
 refine returnsInHanded_of_change (C := Tryz.checked) own started (by kernel_rfl) Tryz.func3
  (ChangeSpec.witness6 (enc := enc) (C := Tryz.checked) false ⟨#[], #[.agg #[.slice none 0 0, .slice none 0 0], .slice none 0 0], []⟩ 8 (by kernel_rfl) (by kernel_rfl) (by kernel_rfl) (by kernel_rfl)) ?_
 intro W base args ds gs before hval0 hW _ _
 have hval : ∀ (j : Nat) t v, Tryz.f3.params[j]? = some t -> args[j]? = some v -> Value.okWide Tryz.prog W .any base t v := hval0
 have hW' := hW
 obtain ⟨p, q, hA0, hV, rfl, hfz, hnd⟩ := hW
 have hA : DataW.TrodAll enc Tryz.prog W 0 (fun _ => true) true Tryz.f3.params.toList args.toList ds p := hA0
 rw [Tryz.params3] at hA hval
 obtain ⟨v0, v1, d0, d1, p0, p1, rfl, rfl, rfl, h0, h1⟩ := trodAll_two hA
 obtain ⟨rfl, rfl⟩ := trodVars_none hV
 obtain ⟨vd, vl, dv, lk, rfl, hD, hL⟩ := net_open (hval 0 25 v0 rfl rfl) h0
 obtain ⟨a0, len0, cap0, rfl⟩ := okWide_slice Tryz.underlying26 (hval 1 26 v1 rfl rfl)
 have h1' := h1
 obtain ⟨fuel, h1'⟩ := h1'
 obtain ⟨vr, l, evr, hl⟩ := slice_open (n := 8) (R := IsEv) Tryz.underlying26 cellsEvF (by omega) (fun _ _ _ hl h => ev_openN hl h) h1'
 obtain rfl : Value.slice a0 len0 cap0 = vr := by simpa [Value.cells] using evr
 clear hA0 hval0 h1' evr
 simp only [List.append_nil] at hW'
 have hlt : ∀ x ∈ p0 ++ p1, x.block < W.heap.size := fun x hx => by simpa using hW'.lt x (by simpa using hx)
 obtain rfl : len0 = l.length := by
  obtain ⟨_, _, e, _⟩ := hl
  cases e
  rfl
 have hD0 := hD
 have hL0 := hL
 obtain ⟨A, cap, rfl, _, _, _, _⟩ := hD
 obtain ⟨B, cap', rfl, _, _, _, _⟩ := hL
 refine (sound_any A B a0 cap cap' cap0 dv lk l W hD0 hL0 hl).mono fun e W' ⟨he, hbw⟩ => ?_
 subst he
 have k0 := Below.trod Tryz.laidOut (by kernel_rfl) (of_decide_eq_true (by kernel_rfl)) h0 hbw (fun x hx => hlt x (by simp [hx]))
 have k1 := Below.trod Tryz.laidOut (by kernel_rfl) (of_decide_eq_true (by kernel_rfl)) h1 hbw (fun x hx => hlt x (by simp [hx]))
 exact ⟨_, rfl, _, _, _, [], _, [], hW', trodAll_mk1 (shut_bool Tryz.underlying4 _), trodAll_mk2 k0 k1, rfl, hbw.frame _, fun h => by cases h⟩
theorem reachSound_holds : Rows.ReachSoundSaid :=
 OpenClaim.holds_of_wide 3 Tryz.f3 rfl rfl rfl rfl rfl rfl rfl ⟨rfl, rfl, rfl, rfl, rfl⟩ rfl rfl rfl rfl rfl (by kernel_rfl) Tryz.func3 (by kernel_rfl)
  (of_decide_eq_true (by kernel_rfl)) (by unfold Func.isWrapper; rw [if_neg (of_decide_eq_false (by kernel_rfl))]; exact ⟨rfl, rfl⟩)
  (fun os started H enc _ => lifted os started H enc)
#print axioms reachSound_holds
end Go.Proofs.YtlmmeppifkigeaaGreat
