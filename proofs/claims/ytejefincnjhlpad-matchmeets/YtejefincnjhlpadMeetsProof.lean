/-
  PROVED: wirekeep.MatchMeets returns true for every two matches and every packet (each part of it any int): a packet is in what two matches have in common just if it is in both. No condition.
-/
import Derived.Test.YtejefincnjhlpadRows
import Derived.Test.YtejefincnjhlpadMeets
import Derived.ProofKit
import Derived.OpenShut
import Derived.Lib.SmallJoins
namespace Go.Proofs.Ytejefincnjhlpad
open Go.ChangeShapes Go.WideShapes Go.ChangeAt Go.RowKit Go.Joins

theorem meets_any (a b c d a2 b2 c2 d2 : Nat) (p q r s : Int) (w : World) (ha : a < 65536) (hb : b < 65536) (hc : c < 256) (hd : d < 256) (ha2 : a2 < 65536) (hb2 : b2 < 65536) (hc2 : c2 < 256) (hd2 : d2 < 256) :
    Calls Try.prog 4 #[mt a b c d, mt a2 b2 c2 d2, pk p q r s] w fun e w' => e = .returned (.bool true) ∧ Below w.heap.size w w' := by
  have l1 : a &&& a2 ≤ a := Nat.and_le_left
  have l2 : b &&& b2 ≤ b := Nat.and_le_left
  have l3 : c &&& c2 ≤ c := Nat.and_le_left
  have l4 : d &&& d2 ≤ d := Nat.and_le_left
  refine meets_case a b c d a2 b2 c2 d2 (a &&& a2) (b &&& b2) (c &&& c2) (d &&& d2) p q r s w (inB a b c d p q r s) (inB a2 b2 c2 d2 p q r s) (bits16 a a2 ha ha2) (bits16 b b2 hb hb2) (bits8 c c2 hc hc2) (bits8 d d2 hd hd2)
    (fun w => ?_) (fun w => in_any a b c d p q r s w ha hb hc hd) (fun w => in_any a2 b2 c2 d2 p q r s w ha2 hb2 hc2 hd2) (fun w => ?_) (fun w => ?_)
  · have := in_any 65535 65535 255 255 15 0 0 7 w (by decide) (by decide) (by decide) (by decide)
    rw [show inB 65535 65535 255 255 15 0 0 7 = true by decide] at this
    exact this
  · have := in_any (a &&& a2) (b &&& b2) (c &&& c2) (d &&& d2) p q r s w (by omega) (by omega) (by omega) (by omega)
    rw [inB_and] at this
    exact this
  · have := in_any 65535 65535 255 255 p q r s w (by decide) (by decide) (by decide) (by decide)
    have e : (inB a b c d p q r s || inB 65535 65535 255 255 p q r s) = inB 65535 65535 255 255 p q r s := by
      cases h : inB a b c d p q r s
      · simp
      · rw [inB_all a b c d p q r s ha hb hc hd h]; rfl
    rw [e]
    exact this

theorem own : ownKnob Try.prog.godebug = none := by kernel_rfl
theorem cells38 : Try.prog.cellsOf 38 = 4 := by kernel_rfl
theorem cells40 : Try.prog.cellsOf 40 = 4 := by kernel_rfl
theorem nat_of {x : Int} {n : Nat} (h0 : 0 ≤ x) (h1 : x ≤ (n : Int)) : ∃ k : Nat, x = (k : Int) ∧ k < n + 1 := ⟨x.toNat, by omega, by omega⟩

set_option maxRecDepth 100000 in
theorem lifted (os : Os) (started : os.Started) (H : Type) (enc : TypeId × Value → H) :
    ReturnsInHanded {} Try.checked os 4 .any (Rows.matchMeetsSpec.pre6 enc Try.prog Try.f4 Rows.matchMeetsRow.domain false) (Rows.matchMeetsSpec.post enc Try.prog Try.f4 false true false false) := by
  refine returnsInHanded_of_change (C := Try.checked) own started (by kernel_rfl) Try.func4
    (ChangeSpec.witness6 (enc := enc) (C := Try.checked) false ⟨#[], #[.agg #[.int .u16 0, .int .u16 0, .int .u8 0, .int .u8 0], .agg #[.int .u16 0, .int .u16 0, .int .u8 0, .int .u8 0], .agg #[.int .i64 0, .int .i64 0, .int .i64 0, .int .i64 0]], []⟩ 8 (by kernel_rfl) (by kernel_rfl) (by kernel_rfl) (by kernel_rfl)) ?_
  intro W base args ds gs before hval0 hW _ _
  have hval : ∀ (j : Nat) t v, Try.f4.params[j]? = some t → args[j]? = some v → Value.okWide Try.prog W .any base t v := hval0
  have hW' := hW
  obtain ⟨p, q, hA0, hV, rfl, hfz, hnd⟩ := hW
  have hA : DataW.TrodAll enc Try.prog W 0 (fun _ => true) true Try.f4.params.toList args.toList ds p := hA0
  rw [Try.params4] at hA hval
  obtain ⟨v0, v1, v2, d0, d1, d2, p0, p1, p2, rfl, rfl, rfl, h0, h1, h2⟩ := trodAll_three hA
  obtain ⟨rfl, rfl⟩ := trodVars_none hV
  obtain ⟨c0, c1, c2, c3, y0, y1, y2, y3, m, rfl, rfl, rfl, hy0, hy1, hy2, hy3⟩ := open_agg4 Try.underlying38 (by kernel_rfl) cells38 (hval 0 38 v0 rfl rfl) h0
  obtain ⟨a, e0, rfl, wa⟩ := DataW.trod_int Try.underlying36 hy0
  obtain ⟨b, e1, rfl, wb⟩ := DataW.trod_int Try.underlying36 hy1
  obtain ⟨c, e2, rfl, wc⟩ := DataW.trod_int Try.underlying5 hy2
  obtain ⟨d, e3, rfl, wd⟩ := DataW.trod_int Try.underlying5 hy3
  simp at e0 e1 e2 e3
  subst e0 e1 e2 e3
  obtain ⟨c0, c1, c2, c3, y0, y1, y2, y3, m2, rfl, rfl, rfl, hz0, hz1, hz2, hz3⟩ := open_agg4 Try.underlying38 (by kernel_rfl) cells38 (hval 1 38 v1 rfl rfl) h1
  obtain ⟨a2, e0, rfl, wa2⟩ := DataW.trod_int Try.underlying36 hz0
  obtain ⟨b2, e1, rfl, wb2⟩ := DataW.trod_int Try.underlying36 hz1
  obtain ⟨c2', e2, rfl, wc2⟩ := DataW.trod_int Try.underlying5 hz2
  obtain ⟨d2, e3, rfl, wd2⟩ := DataW.trod_int Try.underlying5 hz3
  simp at e0 e1 e2 e3
  subst e0 e1 e2 e3
  obtain ⟨c0, c1, c2, c3, y0, y1, y2, y3, m3, rfl, rfl, rfl, hx0, hx1, hx2, hx3⟩ := open_agg4 Try.underlying40 (by kernel_rfl) cells40 (hval 2 40 v2 rfl rfl) h2
  obtain ⟨x, e0, rfl, wx⟩ := DataW.trod_int Try.underlying3 hx0
  obtain ⟨y, e1, rfl, wy⟩ := DataW.trod_int Try.underlying3 hx1
  obtain ⟨z, e2, rfl, wz⟩ := DataW.trod_int Try.underlying3 hx2
  obtain ⟨u, e3, rfl, wu⟩ := DataW.trod_int Try.underlying3 hx3
  simp at e0 e1 e2 e3
  subst e0 e1 e2 e3
  clear hA0 hval0
  simp only [List.append_nil] at hW'
  have readM : ∀ (W' : World) (sp : Nat → Bool) (a b c d : Int), (Lit.int .u16 a).wf = true → (Lit.int .u16 b).wf = true → (Lit.int .u8 c).wf = true → (Lit.int .u8 d).wf = true → DataW.Trod enc Try.prog W' 0 sp true 38 (.agg #[.int .u16 a, .int .u16 b, .int .u8 c, .int .u8 d]) (.agg [.lit (.int .u16 a), .lit (.int .u16 b), .lit (.int .u8 c), .lit (.int .u8 d)]) [] := fun W' sp a b c d wa wb wc wd =>
    shut_agg4 (y0 := (.lit (.int .u16 a), [])) (y1 := (.lit (.int .u16 b), [])) (y2 := (.lit (.int .u8 c), [])) (y3 := (.lit (.int .u8 d), [])) Try.underlying38 (by kernel_rfl) cells38 ⟨1, by simp [DataW.trod, Try.underlying36, wa]⟩ ⟨1, by simp [DataW.trod, Try.underlying36, wb]⟩ ⟨1, by simp [DataW.trod, Try.underlying5, wc]⟩ ⟨1, by simp [DataW.trod, Try.underlying5, wd]⟩
  have readP : ∀ (W' : World) (sp : Nat → Bool), DataW.Trod enc Try.prog W' 0 sp true 40 (pk x y z u) (.agg [.lit (.int .i64 x), .lit (.int .i64 y), .lit (.int .i64 z), .lit (.int .i64 u)]) [] := fun W' sp =>
    shut_agg4 (y0 := (.lit (.int .i64 x), [])) (y1 := (.lit (.int .i64 y), [])) (y2 := (.lit (.int .i64 z), [])) (y3 := (.lit (.int .i64 u), [])) Try.underlying40 (by kernel_rfl) cells40 ⟨1, by simp [DataW.trod, Try.underlying3, wx]⟩ ⟨1, by simp [DataW.trod, Try.underlying3, wy]⟩ ⟨1, by simp [DataW.trod, Try.underlying3, wz]⟩ ⟨1, by simp [DataW.trod, Try.underlying3, wu]⟩
  obtain ⟨na, rfl, la⟩ := nat_of (n := 65535) (bounds_u16 wa).1 (bounds_u16 wa).2
  obtain ⟨nb, rfl, lb⟩ := nat_of (n := 65535) (bounds_u16 wb).1 (bounds_u16 wb).2
  obtain ⟨nc, rfl, lc⟩ := nat_of (n := 255) (bounds_u8 wc).1 (bounds_u8 wc).2
  obtain ⟨nd, rfl, ld⟩ := nat_of (n := 255) (bounds_u8 wd).1 (bounds_u8 wd).2
  obtain ⟨na2, rfl, la2⟩ := nat_of (n := 65535) (bounds_u16 wa2).1 (bounds_u16 wa2).2
  obtain ⟨nb2, rfl, lb2⟩ := nat_of (n := 65535) (bounds_u16 wb2).1 (bounds_u16 wb2).2
  obtain ⟨nc2, rfl, lc2⟩ := nat_of (n := 255) (bounds_u8 wc2).1 (bounds_u8 wc2).2
  obtain ⟨nd2, rfl, ld2⟩ := nat_of (n := 255) (bounds_u8 wd2).1 (bounds_u8 wd2).2
  refine (meets_any na nb nc nd na2 nb2 nc2 nd2 x y z u W la lb lc ld la2 lb2 lc2 ld2).mono fun e W' ⟨he, hb⟩ => ?_
  subst he
  exact ⟨_, rfl, _, _, _, [], [], [], hW', trodAll_mk1 (shut_bool Try.underlying4 _), trodAll_mk3 (readM _ _ _ _ _ _ wa wb wc wd) (readM _ _ _ _ _ _ wa2 wb2 wc2 wd2) (readP _ _), rfl, hb.frame _, fun h => by cases h⟩

theorem matchMeets_holds : Rows.MatchMeetsSaid :=
  OpenClaim.holds_of_wide 4 Try.f4 rfl rfl rfl rfl rfl rfl rfl ⟨rfl, rfl, rfl, rfl, rfl⟩ rfl rfl rfl rfl rfl (by kernel_rfl) Try.func4 (by kernel_rfl)
    (of_decide_eq_true (by kernel_rfl)) (by unfold Func.isWrapper; rw [if_neg (of_decide_eq_false (by kernel_rfl))]; exact ⟨rfl, rfl⟩)
    (fun os started H enc _ => lifted os started H enc)
#print axioms matchMeets_holds
end Go.Proofs.Ytejefincnjhlpad
