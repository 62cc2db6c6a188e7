/-
  PROVED: wirekeep.DifferSelf returns true for every two nets, every text and every two lists of rules: what is held against itself doesn't differ; the other way round the other one is told. Conditions: none (the first form).
-/
import Derived.Test.YtmcklkkkkigflaaGreatRows
import Derived.Test.YtmcklkkkkigflaaGreatXAQ
import Derived.ProofKit
import Derived.Carry
import Derived.OpenShut
import Derived.ChangeMaps
set_option maxHeartbeats 8000000
set_option maxRecDepth 100000
namespace Go.Proofs.YtmcklkkkkigflaaGreat
open Go.ChangeShapes Go.WideShapes Go.ChangeAt Go.RowKit Go.Deep
open Go.ChangeMaps (open_string shut_string)
theorem own : ownKnob Tryz.prog.godebug = none := by kernel_rfl
theorem lifted (os : Os) (started : os.Started) (H : Type) (enc : TypeId × Value -> H) :
  ReturnsInHanded {} Tryz.checked os 3 .any (Rows.differSelfSpec.pre6 enc Tryz.prog Tryz.f3 Rows.differSelfRow.domain false) (Rows.differSelfSpec.post enc Tryz.prog Tryz.f3 false true false false) := by
 refine returnsInHanded_of_change (C := Tryz.checked) own started (by kernel_rfl) Tryz.func3
  (ChangeSpec.witness6 (enc := enc) (C := Tryz.checked) false ⟨#[], #[.agg #[.slice none 0 0, .slice none 0 0], .agg #[.slice none 0 0, .slice none 0 0], .string ⟨#[]⟩, .slice none 0 0, .slice none 0 0], []⟩ 8 (by kernel_rfl) (by kernel_rfl) (by kernel_rfl) (by kernel_rfl)) ?_
 intro W base args ds gs before hval0 hW _ _
 have hval : ∀ (j : Nat) t v, Tryz.f3.params[j]? = some t -> args[j]? = some v -> Value.okWide Tryz.prog W .any base t v := hval0
 have hW' := hW
 obtain ⟨p, q, hA0, hV, rfl, hfz, hnd⟩ := hW
 have hA : DataW.TrodAll enc Tryz.prog W 0 (fun _ => true) true Tryz.f3.params.toList args.toList ds p := hA0
 rw [Tryz.params3] at hA hval
 obtain ⟨v0, vs0, d0, ds0, p0, q0, hargs, rfl, rfl, h0, hr0⟩ := trodAll_cons hA
 obtain ⟨v1, v2, v3, v4, d1, d2, d3, d4, p1, p2, p3, p4, hv4, rfl, rfl, h1, h2, h3, h4⟩ := trodAll_four (args := vs0.toArray) (by simpa using hr0)
 obtain ⟨rfl, rfl⟩ := trodVars_none hV
 obtain rfl : vs0 = [v1, v2, v3, v4] := by simpa using congrArg Array.toList hv4
 obtain rfl : args = #[v0, v1, v2, v3, v4] := by cases args; simp_all
 obtain ⟨vd, vl, da, la, rfl, hD, hL⟩ := net_open (hval 0 25 v0 rfl rfl) h0
 obtain ⟨ve, vm, db, lb, rfl, hE, hM⟩ := net_open (hval 1 25 v1 rfl rfl) h1
 obtain ⟨s, rfl, rfl, rfl, hs⟩ := open_string Tryz.underlying9 (hval 2 9 v2 rfl rfl) h2
 obtain ⟨a0, len0, cap0, rfl⟩ := okWide_slice Tryz.underlying26 (hval 3 26 v3 rfl rfl)
 obtain ⟨a1, len1, cap1, rfl⟩ := okWide_slice Tryz.underlying26 (hval 4 26 v4 rfl rfl)
 obtain ⟨xs, hX, _⟩ := rules_open h3 rfl
 obtain ⟨ys, hY, _⟩ := rules_open h4 rfl
 clear hA0 hval0
 simp only [List.append_nil] at hW'
 have hlt : ∀ x ∈ p0 ++ (p1 ++ ([] ++ (p3 ++ p4))), x.block < W.heap.size := fun x hx => by simpa using hW'.lt x (by simpa using hx)
 obtain rfl : len0 = xs.length := by
  obtain ⟨_, _, e, _⟩ := hX
  cases e
  rfl
 obtain rfl : len1 = ys.length := by
  obtain ⟨_, _, e, _⟩ := hY
  cases e
  rfl
 have hD0 := hD
 have hL0 := hL
 have hE0 := hE
 have hM0 := hM
 obtain ⟨A, cap, rfl, _, _, _, _⟩ := hD
 obtain ⟨B, cap', rfl, _, _, _, _⟩ := hL
 obtain ⟨C, cq, rfl, _, _, _, _⟩ := hE
 obtain ⟨D, cq', rfl, _, _, _, _⟩ := hM
 refine (self_any A B C D a0 a1 cap cap' cq cq' cap0 cap1 da la db lb s xs ys W hD0 hL0 hE0 hM0 hX hY).mono fun e W' ⟨he, hb⟩ => ?_
 subst he
 have k0 := Below.trod Tryz.laidOut (by kernel_rfl) (of_decide_eq_true (by kernel_rfl)) h0 hb (fun x hx => hlt x (by simp [hx]))
 have k1 := Below.trod Tryz.laidOut (by kernel_rfl) (of_decide_eq_true (by kernel_rfl)) h1 hb (fun x hx => hlt x (by simp [hx]))
 have k3 := Below.trod Tryz.laidOut (by kernel_rfl) (of_decide_eq_true (by kernel_rfl)) h3 hb (fun x hx => hlt x (by simp [hx]))
 have k4 := Below.trod Tryz.laidOut (by kernel_rfl) (of_decide_eq_true (by kernel_rfl)) h4 hb (fun x hx => hlt x (by simp [hx]))
 exact ⟨_, rfl, _, _, _, [], _, [], hW', trodAll_mk1 (shut_bool Tryz.underlying4 _), trodAll_cons_mk k0 (trodAll_mk4 k1 (shut_string Tryz.underlying9 hs) k3 k4), rfl, hb.frame _, fun h => by cases h⟩
theorem differSelf_holds : Rows.DifferSelfSaid :=
 OpenClaim.holds_of_wide 3 Tryz.f3 rfl rfl rfl rfl rfl rfl rfl ⟨rfl, rfl, rfl, rfl, rfl⟩ rfl rfl rfl rfl rfl (by kernel_rfl) Tryz.func3 (by kernel_rfl)
  (of_decide_eq_true (by kernel_rfl)) (by unfold Func.isWrapper; rw [if_neg (of_decide_eq_false (by kernel_rfl))]; exact ⟨rfl, rfl⟩)
  (fun os started H enc _ => lifted os started H enc)
#print axioms differSelf_holds
end Go.Proofs.YtmcklkkkkigflaaGreat
