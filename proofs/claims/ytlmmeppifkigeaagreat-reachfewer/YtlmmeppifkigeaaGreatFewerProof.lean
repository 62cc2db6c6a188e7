/-
  PROVED: wirekeep.ReachFewer returns true for every net, every int and every packet (each part of it any int): with a host less nothing comes anywhere that didn't. Conditions: none (the first form).
-/
import Derived.Test.YtlmmeppifkigeaaGreatRows
import Derived.Test.YtlmmeppifkigeaaGreatXAP
import Derived.ProofKit
import Derived.Carry
import Derived.OpenShut
import Derived.SizedLaws
namespace Go.Proofs.YtlmmeppifkigeaaGreat
open Go.ChangeShapes Go.WideShapes Go.ChangeAt Go.RowKit Go.Deep

theorem own : ownKnob Tryz.prog.godebug = none := by kernel_rfl
theorem cellsPacketR : Tryz.prog.cellsOf 36 = 4 := by kernel_rfl
theorem bytesLinkR : Tryz.prog.bytesOf 64 = 32 := by kernel_rfl
theorem bytesDevR : 1 ≤ Tryz.prog.bytesOf 62 := of_decide_eq_true (by kernel_rfl)
section
variable {H : Type} {enc : TypeId × Value → H} {W : World} {sp : Nat → Bool} {held : Bool}
set_option maxRecDepth 100000 in
theorem packet_openR {r : Reach} {b0 : Nat} {v : Value} {d : DataW H} {p : List MemPlace} (hv : Value.okWide Tryz.prog W r b0 36 v) (h : DataW.Trod enc Tryz.prog W 0 sp held 36 v d p) :
    ∃ x y z u : Int, v = .agg #[.int .i64 x, .int .i64 y, .int .i64 z, .int .i64 u] := by
  obtain ⟨cs, rfl, hsz⟩ := okWide_struct Tryz.underlying36 hv
  obtain ⟨fuel, h⟩ := h
  rw [cellsPacketR] at hsz
  obtain ⟨l⟩ := cs
  simp only [Value.cells] at h
  obtain ⟨xs, k, hk, hxy, _, hxl, hf⟩ := DataW.trod_struct Tryz.underlying36 h
  match xs, hxl, l, hsz with
  | [y0, y1, y2, y3], _, [v0, v1, v2, v3], _ =>
    have g0 := hf 0 _ rfl
    have g1 := hf 1 _ rfl
    have g2 := hf 2 _ rfl
    have g3 := hf 3 _ rfl
    simp [nInt] at g0 g1 g2 g3
    obtain ⟨x0, e0, _, _⟩ := DataW.trod_int Tryz.underlying3 g0
    obtain ⟨x1, e1, _, _⟩ := DataW.trod_int Tryz.underlying3 g1
    obtain ⟨x2, e2, _, _⟩ := DataW.trod_int Tryz.underlying3 g2
    obtain ⟨x3, e3, _, _⟩ := DataW.trod_int Tryz.underlying3 g3
    simp only [List.cons.injEq, and_true] at e0 e1 e2 e3
    subst e0 e1 e2 e3
    exact ⟨_, _, _, _, rfl⟩
set_option maxRecDepth 100000 in
/-- A net that is read is no longer than the form's reach. -/
theorem net_reach {A B : Option Addr} {n cap m cap' : Nat} {d : DataW H} {p : List MemPlace} (h : DataW.Trod enc Tryz.prog W 0 sp held 25 (.agg #[.slice A n cap, .slice B m cap']) d p) (hr : ∀ x ∈ d.weights Tryz.prog 25, x ≤ reachBytes) : n ≤ reachBytes ∧ m * 32 ≤ reachBytes := by
  obtain ⟨fuel, h⟩ := h
  simp only [Value.cells] at h
  obtain ⟨xs, k, hk, hxy, _, hxl, hf⟩ := DataW.trod_struct Tryz.underlying25 h
  match xs, hxl with
  | [y0, y1], _ =>
    have g0 := hf 0 _ rfl
    have g1 := hf 1 _ rfl
    simp [nDevices, nLinks] at g0 g1
    obtain ⟨rfl, _⟩ := Prod.mk.inj hxy
    have w0 : ∀ x ∈ y0.1.weights Tryz.prog 22, x ≤ reachBytes := fun x hx => hr x (by
      simp only [DataW.weights, Tryz.underlying25]
      exact DataW.weights_mem_each (j := 0) (t := 22) (d := y0.1) rfl rfl x hx)
    have w1 : ∀ x ∈ y1.1.weights Tryz.prog 23, x ≤ reachBytes := fun x hx => hr x (by
      simp only [DataW.weights, Tryz.underlying25]
      exact DataW.weights_mem_each (j := 1) (t := 23) (d := y1.1) rfl rfl x hx)
    refine ⟨?_, ?_⟩
    · rcases open_slice Tryz.underlying22 g0 with ⟨e, _⟩ | ⟨a, len, cap, m, n, D, Pl, e, _, _, _, _, hd, _⟩
      · simp only [List.cons.injEq, and_true, Value.slice.injEq] at e
        omega
      · simp only [List.cons.injEq, and_true, Value.slice.injEq] at e
        have := w0 _ (by rw [hd]; simp only [DataW.weights, Tryz.underlying22]; exact List.mem_cons_self)
        simp only [List.length_map, List.length_range] at this
        have h1 := bytesDevR
        have h2 : (len + (m - len)) * 1 ≤ (len + (m - len)) * Tryz.prog.bytesOf 62 := Nat.mul_le_mul_left _ h1
        omega
    · rcases open_slice Tryz.underlying23 g1 with ⟨e, _⟩ | ⟨a, len, cap, m, n, D, Pl, e, _, _, _, _, hd, _⟩
      · simp only [List.cons.injEq, and_true, Value.slice.injEq] at e
        omega
      · simp only [List.cons.injEq, and_true, Value.slice.injEq] at e
        have := w1 _ (by rw [hd]; simp only [DataW.weights, Tryz.underlying23]; exact List.mem_cons_self)
        simp only [List.length_map, List.length_range, bytesLinkR] at this
        omega
end

set_option maxRecDepth 100000 in
theorem lifted (os : Os) (started : os.Started) (H : Type) (enc : TypeId × Value → H) :
    ReturnsInHanded {} Tryz.checked os 5 .any (Rows.reachFewerSpec.pre6 enc Tryz.prog Tryz.f5 Rows.reachFewerRow.domain false) (Rows.reachFewerSpec.post enc Tryz.prog Tryz.f5 false true false false) := by
  refine returnsInHanded_of_change_sized (C := Tryz.checked) own started (by kernel_rfl) Tryz.func5
    (ChangeSpec.witness6 (enc := enc) (C := Tryz.checked) false ⟨#[], #[.agg #[.slice none 0 0, .slice none 0 0], .int .i64 0, .agg #[.int .i64 0, .int .i64 0, .int .i64 0, .int .i64 0]], []⟩ 8 (by kernel_rfl) (by kernel_rfl) (by kernel_rfl) (by kernel_rfl)) ?_
  intro W base args ds gs before hval0 hW _ hsz0 _
  have hval : ∀ (j : Nat) t v, Tryz.f5.params[j]? = some t → args[j]? = some v → Value.okWide Tryz.prog W .any base t v := hval0
  have hsz : (DataW.weightsEach Tryz.prog (Tryz.f5.params.toList ++ Rows.reachFewerSpec.plain.varTypes Tryz.prog) (ds ++ gs)).all (· ≤ reachBytes) = true := hsz0
  have hW' := hW
  obtain ⟨p, q, hA0, hV, rfl, hfz, hnd⟩ := hW
  have hA : DataW.TrodAll enc Tryz.prog W 0 (fun _ => true) true Tryz.f5.params.toList args.toList ds p := hA0
  rw [Tryz.params5] at hA hval hsz
  obtain ⟨v0, v1, v2, d0, d1, d2, p0, p1, p2, rfl, rfl, rfl, h0, h1, h2⟩ := trodAll_three hA
  obtain ⟨rfl, rfl⟩ := trodVars_none hV
  obtain ⟨vd, vl, dv, lk, rfl, hD, hL⟩ := net_open (hval 0 25 v0 rfl rfl) h0
  obtain ⟨x, rfl⟩ := okWide_int Tryz.underlying3 (hval 1 3 v1 rfl rfl)
  obtain ⟨a, b, c, d, rfl⟩ := packet_openR (hval 2 36 v2 rfl rfl) h2
  clear hA0 hval0
  simp only [List.append_nil] at hW'
  have hlt : ∀ x ∈ p0 ++ (p1 ++ p2), x.block < W.heap.size := fun x hx => by simpa using hW'.lt x (by simpa using hx)
  have hD0 := hD
  have hL0 := hL
  obtain ⟨A, cap, rfl, _, _, _, _⟩ := hD
  obtain ⟨B, cap', rfl, _, _, _, _⟩ := hL
  obtain ⟨r1, r2⟩ := net_reach h0 (fun x hx => by
    have := List.all_eq_true.1 hsz x (DataW.weights_mem_each (j := 0) (t := 25) (d := d0) rfl rfl x hx)
    simpa using this)
  simp only [reachBytes] at r1 r2
  refine (fewer_any A B cap cap' dv lk x a b c d W ⟨hD0⟩ ⟨hL0⟩ (by omega) (by omega)).mono fun e W' ⟨he, hbw⟩ => ?_
  subst he
  have k0 := Below.trod Tryz.laidOut (by kernel_rfl) (of_decide_eq_true (by kernel_rfl)) h0 hbw (fun x hx => hlt x (by simp [hx]))
  have k1 := Below.trod Tryz.laidOut (by kernel_rfl) (of_decide_eq_true (by kernel_rfl)) h1 hbw (fun x hx => hlt x (by simp [hx]))
  have k2 := Below.trod Tryz.laidOut (by kernel_rfl) (of_decide_eq_true (by kernel_rfl)) h2 hbw (fun x hx => hlt x (by simp [hx]))
  exact ⟨_, rfl, _, _, _, [], _, [], hW', trodAll_mk1 (shut_bool Tryz.underlying4 _), trodAll_mk3 k0 k1 k2, rfl, hbw.frame _, fun h => by cases h⟩

theorem reachFewer_holds : Rows.ReachFewerSaid :=
  OpenClaim.holds_of_wide 5 Tryz.f5 rfl rfl rfl rfl rfl rfl rfl ⟨rfl, rfl, rfl, rfl, rfl⟩ rfl rfl rfl rfl rfl (by kernel_rfl) Tryz.func5 (by kernel_rfl)
    (of_decide_eq_true (by kernel_rfl)) (by unfold Func.isWrapper; rw [if_neg (of_decide_eq_false (by kernel_rfl))]; exact ⟨rfl, rfl⟩)
    (fun os started H enc _ => lifted os started H enc)
#print axioms reachFewer_holds
end Go.Proofs.YtlmmeppifkigeaaGreat


