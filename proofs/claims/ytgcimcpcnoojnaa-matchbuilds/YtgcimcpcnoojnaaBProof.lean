/-
  PROVED: wirelaw.MatchBuilds returns true for every match and every number of variables: in a new arena of 14 variables Build tells the function of just the packets that the match has; in one of fewer ErrArg, in one with too little room ErrFull. No condition.
-/
import Derived.Test.YtgcimcpcnoojnaaRows
import Derived.Test.YtgcimcpcnoojnaaBLaw2
import Derived.ProofKit
import Derived.OpenShut
import Derived.Lib.SmallJoins
namespace Go.Proofs.Ytgcimcpcnoojnaa
open Go.ChangeShapes Go.WideShapes Go.ChangeAt Go.RowKit Go.Joins

theorem own : ownKnob Try.prog.godebug = none := by kernel_rfl
theorem cells49 : Try.prog.cellsOf 49 = 4 := by kernel_rfl
theorem nat_of {x : Int} {n : Nat} (h0 : 0 ≤ x) (h1 : x ≤ (n : Int)) : ∃ k : Nat, x = (k : Int) ∧ k < n + 1 := ⟨x.toNat, by omega, by omega⟩

set_option maxRecDepth 100000 in
theorem lifted (os : Os) (started : os.Started) (H : Type) (enc : TypeId × Value → H) :
    ReturnsInHanded {} Try.checked os 4 .any (Rows.matchBuildsSpec.pre6 enc Try.prog Try.f4 Rows.matchBuildsRow.domain false) (Rows.matchBuildsSpec.post enc Try.prog Try.f4 false true false false) := by
  refine returnsInHanded_of_change (C := Try.checked) own started (by kernel_rfl) Try.func4
    (ChangeSpec.witness6 (enc := enc) (C := Try.checked) false ⟨#[], #[.agg #[.int .u16 0, .int .u16 0, .int .u8 0, .int .u8 0], .int .i64 0], []⟩ 8 (by kernel_rfl) (by kernel_rfl) (by kernel_rfl) (by kernel_rfl)) ?_
  intro W base args ds gs before hval0 hW _ _
  have hval : ∀ (j : Nat) t v, Try.f4.params[j]? = some t → args[j]? = some v → Value.okWide Try.prog W .any base t v := hval0
  have hW' := hW
  obtain ⟨p, q, hA0, hV, rfl, hfz, hnd⟩ := hW
  have hA : DataW.TrodAll enc Try.prog W 0 (fun _ => true) true Try.f4.params.toList args.toList ds p := hA0
  rw [Try.params4] at hA hval
  obtain ⟨v0, v1, d0, d1, p0, p1, rfl, rfl, rfl, h0, h1⟩ := trodAll_two hA
  obtain ⟨rfl, rfl⟩ := trodVars_none hV
  obtain ⟨c0, c1, c2, c3, y0, y1, y2, y3, m, rfl, rfl, rfl, hy0, hy1, hy2, hy3⟩ := open_agg4 Try.underlying49 (by kernel_rfl) cells49 (hval 0 49 v0 rfl rfl) h0
  obtain ⟨a, e0, rfl, wa⟩ := DataW.trod_int Try.underlying47 hy0
  obtain ⟨b, e1, rfl, wb⟩ := DataW.trod_int Try.underlying47 hy1
  obtain ⟨c, e2, rfl, wc⟩ := DataW.trod_int Try.underlying5 hy2
  obtain ⟨d, e3, rfl, wd⟩ := DataW.trod_int Try.underlying5 hy3
  simp at e0 e1 e2 e3
  subst e0 e1 e2 e3
  obtain ⟨i, rfl, rfl, rfl, wi⟩ := open_int Try.underlying3 (hval 1 3 v1 rfl rfl) h1
  clear hA0 hval0
  simp only [List.append_nil] at hW'
  have readM : ∀ (W' : World) (sp : Nat → Bool), DataW.Trod enc Try.prog W' 0 sp true 49 (.agg #[.int .u16 a, .int .u16 b, .int .u8 c, .int .u8 d]) (.agg [.lit (.int .u16 a), .lit (.int .u16 b), .lit (.int .u8 c), .lit (.int .u8 d)]) [] := fun W' sp =>
    shut_agg4 (y0 := (.lit (.int .u16 a), [])) (y1 := (.lit (.int .u16 b), [])) (y2 := (.lit (.int .u8 c), [])) (y3 := (.lit (.int .u8 d), [])) Try.underlying49 (by kernel_rfl) cells49 ⟨1, by simp [DataW.trod, Try.underlying47, wa]⟩ ⟨1, by simp [DataW.trod, Try.underlying47, wb]⟩ ⟨1, by simp [DataW.trod, Try.underlying5, wc]⟩ ⟨1, by simp [DataW.trod, Try.underlying5, wd]⟩
  obtain ⟨na, rfl, la⟩ := nat_of (n := 65535) (bounds_u16 wa).1 (bounds_u16 wa).2
  obtain ⟨nb, rfl, lb⟩ := nat_of (n := 65535) (bounds_u16 wb).1 (bounds_u16 wb).2
  obtain ⟨nc, rfl, lc⟩ := nat_of (n := 255) (bounds_u8 wc).1 (bounds_u8 wc).2
  obtain ⟨nd', rfl, ld⟩ := nat_of (n := 255) (bounds_u8 wd).1 (bounds_u8 wd).2
  refine (builds_any na nb nc nd' i W la lb lc ld).mono fun e W' ⟨he, hb⟩ => ?_
  subst he
  exact ⟨_, rfl, _, _, _, [], [], [], hW', trodAll_mk1 (shut_bool Try.underlying4 _), trodAll_mk2 (readM _ _) (shut_int Try.underlying3 wi), rfl, hb.frame _, fun h => by cases h⟩

theorem matchBuilds_holds : Rows.MatchBuildsSaid :=
  OpenClaim.holds_of_wide 4 Try.f4 rfl rfl rfl rfl rfl rfl rfl ⟨rfl, rfl, rfl, rfl, rfl⟩ rfl rfl rfl rfl rfl (by kernel_rfl) Try.func4 (by kernel_rfl)
    (of_decide_eq_true (by kernel_rfl)) (by unfold Func.isWrapper; rw [if_neg (of_decide_eq_false (by kernel_rfl))]; exact ⟨rfl, rfl⟩)
    (fun os started H enc _ => lifted os started H enc)
#print axioms matchBuilds_holds
end Go.Proofs.Ytgcimcpcnoojnaa


