/-
  Routes laid behind routes: append, slices.Clone; Rest.
-/
import Derived.Test.YtkdbdahhalpmmadChk
import Derived.Laws.AppendOwnNone
import Derived.Lib.SliceRun
namespace Go.Proofs.Ytkdbdahhalpmmad
open Go.RowKit

theorem Try.uRoutes : Try.prog.underlying 60 = some (.slice 64) := by kernel_rfl
theorem Try.infoRoute : (Try.prog.info? 64).map (fun i => (i.zero, i.size, i.bytes)) = some (some (.agg #[.int .i64 0, .int .i64 0, .int .i64 0]), 3, 24) := by kernel_rfl

/-- append, by its run equation. -/
theorem append_run {P : Program} {w w' : World} {ops : Array Oper} {rest : List Oper} {o : Oper} {a : Act} {Q : Exit → Act → World → Prop} (hgd : o.guard = none) (s x : Operand) (t : TypeId)
    (ho : o.op = .call { callee := .builtin .append, args := #[s, x], argTypes := #[t, t] }) {v x' v' : Value} (hs : a.eval s = v) (hx : a.eval x = x') (hr : (Builtin.append_ #[t, t] o.type #[v, x']).run P w = .ok v' w')
    (h : wpList P ops Q rest (a.put o.dst v') w') : wpList P ops Q (o :: rest) a w := by
  refine wpList_plain hgd fun K hK => ?_
  unfold Oper.wp execOp
  simp only [ho, resolve, invoke, builtin, Sem.run_bind, Sem.run_pure, Result.andThen_ok, List.map_toArray, List.map_cons, List.map_nil, hs, hx, hr]
  exact hK _ _ h

/-- append, of a row of the call's own and routes. -/
theorem app_routes {base : Nat} {w : World} {v x : Value} {xs ys : List Rt} (ty : TypeId) (h : w.ownsRow base 64 3 v xs.length (cellsT xs)) (hy : Routes w.heap.size w x ys) (hs : xs.length + ys.length ≤ 1099511627776) (hb : base ≤ w.heap.size) :
    ∃ v' w', (Builtin.append_ #[60, 60] ty #[v, x]).run Try.prog w = .ok v' w' ∧ w'.ownsRow base 64 3 v' (xs ++ ys).length (cellsT (xs ++ ys)) ∧ w.grownBy w' v.ownBlock := by
  obtain ⟨i0, hi, hz0, hz1, hz2⟩ := info_parts Try.infoRoute
  obtain ⟨A, cap, rfl, h0, h1, h2, h3⟩ := hy
  rw [List.length_append, cellsT_append]
  cases A with
  | none =>
    have hc := h0 rfl
    have hy0 : ys = [] := by
      by_cases hn : ys = []
      · exact hn
      · obtain ⟨_, _, e, _⟩ := h3 hn
        cases e
    subst hy0
    subst hc
    have hr := run_append_owned_none (P := Try.prog) (w := w) base 60 ty 64 i0 3 Try.uRoutes hi v xs.length (cellsT xs) h
    refine ⟨v, w, hr, by simpa [cellsT] using h, ⟨rfl, rfl, rfl, Nat.le_refl _, fun _ _ _ => rfl⟩⟩
  | some ad =>
    obtain ⟨v', w', hr, h4, h5, _⟩ := run_append_own (P := Try.prog) w base 60 ty 64 i0 _ 3 24 Try.uRoutes hi hz0 hz1 hz2 rfl (by decide) v xs.length (cellsT xs) h ad ys.length cap (cellsT ys) (cellsT_length ys) (fun j u hj => by
      have hn : ys ≠ [] := fun e => by subst e; simp [cellsT] at hj
      obtain ⟨b, o, e, _, hr⟩ := h3 hn
      cases e
      rw [Addr.add_lit]
      exact hr j u hj) (cellsT_one ys) (by unfold maxLen; omega) (by omega) hb
    exact ⟨v', w', hr, h4, h5⟩

/-- What a row of the call's own keeps. -/
theorem Below.app {B base : Nat} {w0 w w' : World} {t : TypeId} {s n : Nat} {v : Value} {cs : List Value} (h : Below B w0 w) (ho : w.ownsRow base t s v n cs) (hg : w.grownBy w' v.ownBlock) (hB : B ≤ base) (hb : base ≤ w.heap.size) : Below B w0 w' :=
  h.grown hg (by omega) (fun k e => by have := (ho.lt k e).1; omega)

set_option maxHeartbeats 1000000 in
set_option maxRecDepth 100000 in
theorem clone_any {v : Value} {xs : List Rt} (w : World) (h : Routes w.heap.size w v xs) (hs : xs.length ≤ 1099511627776) :
    Calls Try.prog 35 #[v] w fun e w' => ∃ v', e = .returned v' ∧ w'.ownsRow w.heap.size 64 3 v' xs.length (cellsT xs) ∧ Below w.heap.size w w' := by
  have q : ∀ (w : World) (a : Option Addr) (n c n' c' : Nat), (binOp .eql 60 (.slice a n c) (.slice none n' c')).run Try.prog w = .ok (.bool a.isNone) w := fun w a n c n' c' => Lib.run_eql_slice_nil w _ _ a n c n' c' Try.uRoutes
  have D0 := Below.al (Below.refl w.heap.size w) (.cells #[] 64)
  have o0 : (w.alloc (.cells #[] 64)).ownsRow w.heap.size 64 3 (.slice (some ⟨w.heap.size, 0, none⟩) 0 0) ([] : List Rt).length (cellsT []) := World.ownsRow_made w #[] 0 (Nat.le_refl _) (Nat.zero_le _) (by simp)
  have hR := (h.below D0).mono (base' := (w.alloc (.cells #[] 64)).heap.size) (by simp)
  obtain ⟨v', w', hr, h4, h5⟩ := app_routes 60 o0 hR (by simpa using hs) (by simp)
  have D1 := Below.app D0 o0 h5 (Nat.le_refl _) (by simp)
  simp only [List.nil_append] at h4
  obtain ⟨A, cap, rfl, g0, g1, g2, g3⟩ := h
  cases A with
  | none =>
    have hx : xs = [] := by
      by_cases hn : xs = []
      · exact hn
      · obtain ⟨_, _, e, _⟩ := g3 hn
        cases e
    subst hx
    clear hr h4 h5 D1 hR hs
    go_enter Try.func35, Try.ntmps35
    go_wp2_with fail
    go_ret
    exact ⟨_, rfl, World.ownsRow_nil _ _ _ _, Below.refl _ _⟩
  | some ad =>
    have fin : Hid (w'.ownsRow w.heap.size 64 3 v' xs.length (cellsT xs) ∧ Below w.heap.size w w') := ⟨h4, D1⟩
    clear g0 g1 g2 g3 hR h5 hs o0 D0 h4 D1
    generalize xs.length = n at *
    go_enter Try.func35, Try.ntmps35
    go_wp2_with (at_builtin; refine append_run rfl _ _ 60 rfl rfl rfl hr ?_)
    go_ret
    exact ⟨_, rfl, fin.out⟩

/-- A new array of one route. -/
theorem one_route (w : World) (r : Rt) (t : TypeId) : TAt (w.alloc (.cells #[.int .i64 r.v, .int .i64 r.b, .int .i64 r.p] t)) w.heap.size 0 [r] := by
  intro j u hj
  obtain ⟨_, h0, h1, h2⟩ := three_new w (.int .i64 r.v) (.int .i64 r.b) (.int .i64 r.p) t
  simp only [cellsT, List.flatMap_cons, List.flatMap_nil, List.append_nil] at hj
  rw [Nat.zero_add]
  match j, hj with
  | 0, hj => cases hj; exact h0
  | 1, hj => cases hj; exact h1
  | 2, hj => cases hj; exact h2
  | j + 3, hj => simp at hj
theorem one_routes (w : World) (r : Rt) (t : TypeId) : Routes (w.alloc (.cells #[.int .i64 r.v, .int .i64 r.b, .int .i64 r.p] t)).heap.size (w.alloc (.cells #[.int .i64 r.v, .int .i64 r.b, .int .i64 r.p] t)) (.slice (some ⟨w.heap.size, 0, none⟩) 1 1) [r] :=
  ⟨_, 1, rfl, (fun e => by cases e), Nat.le_refl _, by unfold maxLen; omega, fun _ => ⟨_, _, rfl, by simp, one_route w r t⟩⟩
theorem one_own (w : World) (r : Rt) : (w.alloc (.cells #[.int .i64 r.v, .int .i64 r.b, .int .i64 r.p] 64)).ownsRow w.heap.size 64 3 (.slice (some ⟨w.heap.size, 0, none⟩) 1 1) ([r] : List Rt).length (cellsT [r]) :=
  ⟨rfl, .inr ⟨w.heap.size, 1, _, rfl, Nat.le_refl _, Go.heap_alloc_new w _, Nat.le_refl _, by unfold maxLen; omega, rfl, rfl⟩⟩
theorem two_routes (w : World) : Routes (w.alloc (.cells #[.int .i64 8, .int .i64 1, .int .i64 2, .int .i64 12, .int .i64 2, .int .i64 3] 64)).heap.size (w.alloc (.cells #[.int .i64 8, .int .i64 1, .int .i64 2, .int .i64 12, .int .i64 2, .int .i64 3] 64)) (.slice (some ⟨w.heap.size, 0, none⟩) 2 2) [⟨8, 1, 2⟩, ⟨12, 2, 3⟩] :=
  Routes.own (base := w.heap.size) ⟨rfl, .inr ⟨w.heap.size, 2, _, rfl, Nat.le_refl _, Go.heap_alloc_new w _, Nat.le_refl _, by unfold maxLen; omega, rfl, rfl⟩⟩
theorem ownsRow_below {base : Nat} {w w' : World} {t : TypeId} {s n : Nat} {v : Value} {cs : List Value} (h : w.ownsRow base t s v n cs) (hb : Below w.heap.size w w') : w'.ownsRow base t s v n cs := by
  refine ⟨h.1, ?_⟩
  rcases h.2 with h0 | ⟨g, cap, cur, hv, h1, hg, h2⟩
  · exact .inl h0
  · exact .inr ⟨g, cap, cur, hv, h1, (hb.block g (Array.getElem?_eq_some_iff.1 hg).1).trans hg, h2⟩

theorem rest_any (w : World) (n : Int) (m : Nat) (hm : 0 < m) (hm2 : m < 1000) :
    Calls Try.prog 10 #[.int .i64 n, .int .i64 (m : Int)] w fun e w' => e = .returned (.int .i64 (n % (m : Int))) ∧ w' = w := by
  have hm0 : ((m : Int) == 0) = false := by simp; omega
  have hmne : (m : Int) ≠ 0 := by omega
  have b1 := Int.emod_nonneg n hmne
  have b2 := Int.emod_lt_of_pos n (b := (m : Int)) (by omega)
  have key : n.tmod (m : Int) = n % (m : Int) ∨ n.tmod (m : Int) = n % (m : Int) - (m : Int) := by
    rw [Int.tmod_eq_emod]
    split
    · exact Or.inl (by omega)
    · exact Or.inr (by simp)
  have hw : IntKind.i64.wrap (n.tmod (m : Int)) = n.tmod (m : Int) := IntWalk.i64_in _ (by omega)
  have key' : Hid (n.tmod (m : Int) = n % (m : Int) ∨ n.tmod (m : Int) = n % (m : Int) - (m : Int)) := key
  clear key
  go_enter Try.func10, Try.ntmps10
  go_wp2_with fail
  · have hlt : n.tmod (m : Int) < 0 := by assumption
    have e : n.tmod (m : Int) + (m : Int) = n % (m : Int) := by rcases key'.out with k | k <;> omega
    have e2 : wrap64 (n.tmod (m : Int) + (m : Int)) = n % (m : Int) := by rw [e, ← IntWalk.i64_left]; exact IntWalk.i64_in _ (by omega)
    go_ret
    refine ⟨?_, rfl⟩
    show Ending.returned (Value.int .i64 (wrap64 (n.tmod (m : Int) + (m : Int)))) = _
    rw [e2]
  · have hge : 0 ≤ n.tmod (m : Int) := by assumption
    have e : n.tmod (m : Int) = n % (m : Int) := by rcases key'.out with k | k <;> omega
    go_ret
    refine ⟨?_, rfl⟩
    show Ending.returned (Value.int .i64 (n.tmod (m : Int))) = _
    rw [e]
end Go.Proofs.Ytkdbdahhalpmmad
