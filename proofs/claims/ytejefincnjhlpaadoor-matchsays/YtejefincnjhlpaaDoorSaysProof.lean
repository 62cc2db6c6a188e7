/-
  PROVED: wirelaw.MatchSays returns true for every match, every packet (each part any int) and every text: In, Print, Parse and All answer what the document says. Conditions: the listed tables of Go's library hold what their text lays (tied to the program's text by the given tie; this proof reads none of them); each text is no longer than the model's own bound.
-/
import Derived.Test.YtejefincnjhlpaaDoorCards
import Derived.Test.YtejefincnjhlpaaDoorTie
import Derived.Test.YtejefincnjhlpaaDoorR7
import Derived.ProofKit
import Derived.LaidMore
import Derived.Lay
import Derived.MakeChecks
import Derived.OpenShut
import Derived.Stop.Joined
import Derived.SevenTiedAt
import Derived.Lib.SmallJoins
namespace Go.Proofs.YtejefincnjhlpaaDoor
open Go.ChangeShapes Go.WideShapes Go.ChangeAt Go.WideMaps Go.WideElems Go.RowKit Go.Joins
open Go.ChangeMaps (open_string shut_string)

theorem own : ownKnob Tryd.prog.godebug = none := by kernel_rfl
theorem cells41 : Tryd.prog.cellsOf 41 = 4 := by kernel_rfl
theorem cells23 : Tryd.prog.cellsOf 23 = 4 := by kernel_rfl
theorem nat_of {x : Int} {n : Nat} (h0 : 0 ≤ x) (h1 : x ≤ (n : Int)) : ∃ k : Nat, x = (k : Int) ∧ k < n + 1 := ⟨x.toNat, by omega, by omega⟩

set_option maxRecDepth 100000 in
theorem lifted (os : Os) (started : os.Started) (H : Type) (enc : TypeId × Value → H) :
    ReturnsInHanded {} Tryd.checked os 4 .any (fun w args => (Rows.matchSaysSpec.pre enc Tryd.prog Tryd.f4 [] false w args ∧ laidMetH Tryd.prog Rows.matchSaysRow.laid w) ∧ sizedMet enc Tryd.prog Tryd.f4 (OpenSpec.ofChange Rows.matchSaysSpec) false w args)
      (Rows.matchSaysSpec.post enc Tryd.prog Tryd.f4 false true false false) := by
  refine returnsInHanded_of_change_and (C := Tryd.checked) (X := fun w _ => laidMetH Tryd.prog Rows.matchSaysRow.laid w) (fun _ _ _ hh h => h.of_heap hh) own started (by kernel_rfl) Tryd.func4
    (ChangeSpec.witness_shaped (enc := enc) (C := Tryd.checked) (os := os) (X := fun w _ => laidMetH Tryd.prog Rows.matchSaysRow.laid w) false (World.laidAll Tryd.prog os Rows.matchSaysRow.laid) #[.agg #[.int .u16 0, .int .u16 0, .int .u8 0, .int .u8 0], .agg #[.int .i64 0, .int .i64 0, .int .i64 0, .int .i64 0], .string ⟨#[]⟩] 8 (World.laidAll_os _ _ _) (World.shaped_of_ZipB (by kernel_rfl) (by kernel_rfl)) (by kernel_rfl) (by kernel_rfl) (by kernel_rfl)
      (by rw [MakeChecks.laidMetH_plain _ _ _ (by kernel_rfl)]; exact laidMet_laidAll _ (by kernel_rfl) (by kernel_rfl))) ?_
  intro W base args ds gs before hval0 hW _ _ _ _
  have hval : ∀ (j : Nat) t v, Tryd.f4.params[j]? = some t → args[j]? = some v → Value.okWide Tryd.prog W .any base t v := hval0
  have hW' := hW
  obtain ⟨p, q, hA0, hV, rfl, hfz, hnd⟩ := hW
  have hA : DataW.TrodAll enc Tryd.prog W 0 (fun _ => true) true Tryd.f4.params.toList args.toList ds p := hA0
  rw [Tryd.params4] at hA hval
  obtain ⟨v0, v1, v2, d0, d1, d2, p0, p1, p2, rfl, rfl, rfl, h0, h1, h2⟩ := trodAll_three hA
  obtain ⟨rfl, rfl⟩ := trodVars_none hV
  obtain ⟨c0, c1, c2, c3, y0, y1, y2, y3, m, rfl, rfl, rfl, hy0, hy1, hy2, hy3⟩ := open_agg4 Tryd.underlying41 (by kernel_rfl) cells41 (hval 0 41 v0 rfl rfl) h0
  obtain ⟨a, e0, rfl, wa⟩ := DataW.trod_int Tryd.underlying39 hy0
  obtain ⟨b, e1, rfl, wb⟩ := DataW.trod_int Tryd.underlying39 hy1
  obtain ⟨c, e2, rfl, wc⟩ := DataW.trod_int Tryd.underlying5 hy2
  obtain ⟨d, e3, rfl, wd⟩ := DataW.trod_int Tryd.underlying5 hy3
  simp at e0 e1 e2 e3
  subst e0 e1 e2 e3
  obtain ⟨c0, c1, c2, c3, y0, y1, y2, y3, m3, rfl, rfl, rfl, hx0, hx1, hx2, hx3⟩ := open_agg4 Tryd.underlying23 (by kernel_rfl) cells23 (hval 1 23 v1 rfl rfl) h1
  obtain ⟨x, e0, rfl, wx⟩ := DataW.trod_int Tryd.underlying3 hx0
  obtain ⟨y, e1, rfl, wy⟩ := DataW.trod_int Tryd.underlying3 hx1
  obtain ⟨z, e2, rfl, wz⟩ := DataW.trod_int Tryd.underlying3 hx2
  obtain ⟨u, e3, rfl, wu⟩ := DataW.trod_int Tryd.underlying3 hx3
  simp at e0 e1 e2 e3
  subst e0 e1 e2 e3
  obtain ⟨s, rfl, rfl, rfl, hs⟩ := open_string Tryd.underlying9 (hval 2 9 v2 rfl rfl) h2
  clear hA0 hval0
  simp only [List.append_nil] at hW'
  have readM : ∀ (W' : World) (sp : Nat → Bool), DataW.Trod enc Tryd.prog W' 0 sp true 41 (.agg #[.int .u16 a, .int .u16 b, .int .u8 c, .int .u8 d]) (.agg [.lit (.int .u16 a), .lit (.int .u16 b), .lit (.int .u8 c), .lit (.int .u8 d)]) [] := fun W' sp =>
    shut_agg4 (y0 := (.lit (.int .u16 a), [])) (y1 := (.lit (.int .u16 b), [])) (y2 := (.lit (.int .u8 c), [])) (y3 := (.lit (.int .u8 d), [])) Tryd.underlying41 (by kernel_rfl) cells41 ⟨1, by simp [DataW.trod, Tryd.underlying39, wa]⟩ ⟨1, by simp [DataW.trod, Tryd.underlying39, wb]⟩ ⟨1, by simp [DataW.trod, Tryd.underlying5, wc]⟩ ⟨1, by simp [DataW.trod, Tryd.underlying5, wd]⟩
  have readP : ∀ (W' : World) (sp : Nat → Bool), DataW.Trod enc Tryd.prog W' 0 sp true 23 (pk x y z u) (.agg [.lit (.int .i64 x), .lit (.int .i64 y), .lit (.int .i64 z), .lit (.int .i64 u)]) [] := fun W' sp =>
    shut_agg4 (y0 := (.lit (.int .i64 x), [])) (y1 := (.lit (.int .i64 y), [])) (y2 := (.lit (.int .i64 z), [])) (y3 := (.lit (.int .i64 u), [])) Tryd.underlying23 (by kernel_rfl) cells23 ⟨1, by simp [DataW.trod, Tryd.underlying3, wx]⟩ ⟨1, by simp [DataW.trod, Tryd.underlying3, wy]⟩ ⟨1, by simp [DataW.trod, Tryd.underlying3, wz]⟩ ⟨1, by simp [DataW.trod, Tryd.underlying3, wu]⟩
  obtain ⟨na, rfl, la⟩ := nat_of (n := 65535) (bounds_u16 wa).1 (bounds_u16 wa).2
  obtain ⟨nb, rfl, lb⟩ := nat_of (n := 65535) (bounds_u16 wb).1 (bounds_u16 wb).2
  obtain ⟨nc, rfl, lc⟩ := nat_of (n := 255) (bounds_u8 wc).1 (bounds_u8 wc).2
  obtain ⟨nd, rfl, ld⟩ := nat_of (n := 255) (bounds_u8 wd).1 (bounds_u8 wd).2
  refine (says_any na nb nc nd x y z u s W la lb lc ld hs).mono fun e W' ⟨he, hb⟩ => ?_
  subst he
  exact ⟨_, rfl, _, _, _, [], [], [], hW', trodAll_mk1 (shut_bool Tryd.underlying4 _), trodAll_mk3 (readM _ _) (readP _ _) (shut_string Tryd.underlying9 hs), rfl, hb.frame _, fun h => by cases h⟩

theorem matchSays_row : Rows.MatchSaysSaid :=
  OpenClaim.holds_of_wide 4 Tryd.f4 rfl rfl rfl rfl rfl rfl rfl ⟨rfl, rfl, rfl, rfl, rfl⟩ rfl rfl rfl rfl rfl (by kernel_rfl) Tryd.func4 (by kernel_rfl)
    (of_decide_eq_true (by kernel_rfl)) (by unfold Func.isWrapper; rw [if_neg (of_decide_eq_false (by kernel_rfl))]; exact ⟨rfl, rfl⟩)
    (fun os started H enc _ => lifted os started H enc)

theorem matchSays_holds : Rows.MatchSaysCardSaid :=
  Claim7.holds_tied_plain_at .later [] [.data, .data, .data, .data, .pinned] true Rows.matchSaysCard.stood.harness false
    matchSays_row (fun _ h => by cases h) (by kernel_rfl) (fun _ h => by cases h) matchSays_row_tie rfl ⟨rfl, rfl⟩ (by kernel_rfl) rfl
    (fun f fn hf hfn => by
      obtain rfl : f = 4 := Option.some.inj ((show Tryd.prog.funcNamed Rows.matchSaysRow.func = some 4 by kernel_rfl).symm.trans hf) |>.symm
      obtain rfl : fn = Tryd.f4 := (Option.some.inj (Tryd.func4.symm.trans hfn)).symm
      exact ⟨by kernel_rfl, fun j t ht => by
        rw [Tryd.params4] at ht
        have hm : t ∈ [41, 23, 9] := by simpa using Array.mem_of_getElem? ht
        have hall : ([41, 23, 9].all fun u => !Tryd.prog.wantsStandIn u) = true := by kernel_rfl
        exact (show Tryd.prog.wantsStandIn t = false by simpa using List.all_eq_true.1 hall t hm)⟩)
    (by kernel_rfl)
#print axioms matchSays_holds
end Go.Proofs.YtejefincnjhlpaaDoor
