/-
  Rules laid behind rules: append, slices.Clone.
-/
import Derived.Test.YtaceockdiicpaadLets
import Derived.Laws.AppendOwnNone
import Derived.Lib.SliceRun
namespace Go.Proofs.Ytaceockdiicpaad
open Go.RowKit

theorem Try.uRules : Try.prog.underlying 44 = some (.slice 46) := by kernel_rfl
theorem Try.infoRule : (Try.prog.info? 46).map (fun i => (i.zero, i.size, i.bytes)) = some (some (.agg #[.bool false, .int .u16 0, .int .u16 0, .int .u8 0, .int .u8 0]), 5, 8) := by kernel_rfl

/-- append, by its run equation. -/
theorem append_run {P : Program} {w w' : World} {ops : Array Oper} {rest : List Oper} {o : Oper} {a : Act} {Q : Exit → Act → World → Prop} (hgd : o.guard = none) (s x : Operand) (t : TypeId)
    (ho : o.op = .call { callee := .builtin .append, args := #[s, x], argTypes := #[t, t] }) {v x' v' : Value} (hs : a.eval s = v) (hx : a.eval x = x') (hr : (Builtin.append_ #[t, t] o.type #[v, x']).run P w = .ok v' w')
    (h : wpList P ops Q rest (a.put o.dst v') w') : wpList P ops Q (o :: rest) a w := by
  refine wpList_plain hgd fun K hK => ?_
  unfold Oper.wp execOp
  simp only [ho, resolve, invoke, builtin, Sem.run_bind, Sem.run_pure, Result.andThen_ok, List.map_toArray, List.map_cons, List.map_nil, hs, hx, hr]
  exact hK _ _ h

/-- append, of a row of the call's own and rules. -/
theorem app_rules {base : Nat} {w : World} {v x : Value} {xs ys : List Rl} (ty : TypeId) (h : w.ownsRow base 46 5 v xs.length (cellsR xs)) (hy : Rules w.heap.size w x ys) (hs : xs.length + ys.length ≤ 1099511627776) (hb : base ≤ w.heap.size) :
    ∃ v' w', (Builtin.append_ #[44, 44] ty #[v, x]).run Try.prog w = .ok v' w' ∧ w'.ownsRow base 46 5 v' (xs ++ ys).length (cellsR (xs ++ ys)) ∧ w.grownBy w' v.ownBlock := by
  obtain ⟨i0, hi, hz0, hz1, hz2⟩ := info_parts Try.infoRule
  obtain ⟨A, cap, rfl, h0, h1, h2, h3⟩ := hy
  rw [List.length_append, cellsR_append]
  cases A with
  | none =>
    have hc := h0 rfl
    have hy0 : ys = [] := by
      by_cases hn : ys = []
      · exact hn
      · obtain ⟨_, _, e, _⟩ := h3 hn
        cases e
    subst hy0
    subst hc
    have hr := run_append_owned_none (P := Try.prog) (w := w) base 44 ty 46 i0 5 Try.uRules hi v xs.length (cellsR xs) h
    refine ⟨v, w, hr, by simpa [cellsR] using h, ⟨rfl, rfl, rfl, Nat.le_refl _, fun _ _ _ => rfl⟩⟩
  | some ad =>
    obtain ⟨v', w', hr, h4, h5, _⟩ := run_append_own (P := Try.prog) w base 44 ty 46 i0 _ 5 8 Try.uRules hi hz0 hz1 hz2 rfl (by decide) v xs.length (cellsR xs) h ad ys.length cap (cellsR ys) (cellsR_length ys) (fun j u hj => by
      have hn : ys ≠ [] := fun e => by subst e; simp [cellsR] at hj
      obtain ⟨b, o, e, _, hr⟩ := h3 hn
      cases e
      rw [Addr.add_lit]
      exact hr j u hj) (cellsR_one ys) (by unfold maxLen; omega) (by omega) hb
    exact ⟨v', w', hr, h4, h5⟩

/-- What a row of the call's own keeps. -/
theorem Below.app {B base : Nat} {w0 w w' : World} {t : TypeId} {s n : Nat} {v : Value} {cs : List Value} (h : Below B w0 w) (ho : w.ownsRow base t s v n cs) (hg : w.grownBy w' v.ownBlock) (hB : B ≤ base) (hb : base ≤ w.heap.size) : Below B w0 w' :=
  h.grown hg (by omega) (fun k e => by have := (ho.lt k e).1; omega)

set_option maxHeartbeats 1000000 in
set_option maxRecDepth 100000 in
theorem clone_any {v : Value} {xs : List Rl} (w : World) (h : Rules w.heap.size w v xs) (hs : xs.length ≤ 1099511627776) :
    Calls Try.prog 24 #[v] w fun e w' => ∃ v', e = .returned v' ∧ w'.ownsRow w.heap.size 46 5 v' xs.length (cellsR xs) ∧ Below w.heap.size w w' := by
  have q : ∀ (w : World) (a : Option Addr) (n c n' c' : Nat), (binOp .eql 44 (.slice a n c) (.slice none n' c')).run Try.prog w = .ok (.bool a.isNone) w := fun w a n c n' c' => Lib.run_eql_slice_nil w _ _ a n c n' c' Try.uRules
  have D0 := Below.alloc' (Below.refl w.heap.size w) (.cells #[] 46)
  have o0 : (w.alloc (.cells #[] 46)).ownsRow w.heap.size 46 5 (.slice (some ⟨w.heap.size, 0, none⟩) 0 0) ([] : List Rl).length (cellsR []) := World.ownsRow_made w #[] 0 (Nat.le_refl _) (Nat.zero_le _) (by simp)
  have hR := (h.below D0).mono (base' := (w.alloc (.cells #[] 46)).heap.size) (by simp)
  obtain ⟨v', w', hr, h4, h5⟩ := app_rules 44 o0 hR (by simpa using hs) (by simp)
  have D1 := Below.app D0 o0 h5 (Nat.le_refl _) (by simp)
  simp only [List.nil_append] at h4
  obtain ⟨A, cap, rfl, g0, g1, g2, g3⟩ := h
  cases A with
  | none =>
    have hx : xs = [] := by
      by_cases hn : xs = []
      · exact hn
      · obtain ⟨_, _, e, _⟩ := g3 hn
        cases e
    subst hx
    clear hr h4 h5 D1 hR hs
    go_enter Try.func24, Try.ntmps24
    go_wp2_with fail
    go_ret
    exact ⟨_, rfl, World.ownsRow_nil _ _ _ _, Below.refl _ _⟩
  | some ad =>
    have fin : Hid (w'.ownsRow w.heap.size 46 5 v' xs.length (cellsR xs) ∧ Below w.heap.size w w') := ⟨h4, D1⟩
    clear g0 g1 g2 g3 hR h5 hs o0 D0 h4 D1
    generalize xs.length = n at *
    go_enter Try.func24, Try.ntmps24
    go_wp2_with (at_builtin; refine append_run rfl _ _ 44 rfl rfl rfl hr ?_)
    go_ret
    exact ⟨_, rfl, fin.out⟩
end Go.Proofs.Ytaceockdiicpaad
