/-
  Rules laid behind rules: append, slices.Clone.
-/
import Derived.Test.YtgcimcpcnoojnaaLets
import Derived.Laws.AppendOwnNone
namespace Go.Proofs.Ytgcimcpcnoojnaa
open Go.RowKit

theorem Try.uRules : Try.prog.underlying 57 = some (.slice 78) := by kernel_rfl
theorem Try.infoRule : (Try.prog.info? 78).map (fun i => (i.zero, i.size, i.bytes)) = some (some (.agg #[.bool false, .int .u16 0, .int .u16 0, .int .u8 0, .int .u8 0]), 5, 8) := by kernel_rfl

/-- append, by its run equation. -/
theorem append_run {P : Program} {w w' : World} {ops : Array Oper} {rest : List Oper} {o : Oper} {a : Act} {Q : Exit → Act → World → Prop} (hgd : o.guard = none) (s x : Operand) (t : TypeId)
    (ho : o.op = .call { callee := .builtin .append, args := #[s, x], argTypes := #[t, t] }) {v x' v' : Value} (hs : a.eval s = v) (hx : a.eval x = x') (hr : (Builtin.append_ #[t, t] o.type #[v, x']).run P w = .ok v' w')
    (h : wpList P ops Q rest (a.put o.dst v') w') : wpList P ops Q (o :: rest) a w := by
  refine wpList_plain hgd fun K hK => ?_
  unfold Oper.wp execOp
  simp only [ho, resolve, invoke, builtin, Sem.run_bind, Sem.run_pure, Result.andThen_ok, List.map_toArray, List.map_cons, List.map_nil, hs, hx, hr]
  exact hK _ _ h

/-- append, of a row of the call's own and rules. -/
theorem app_rules {base : Nat} {w : World} {v x : Value} {xs ys : List Rl} (ty : TypeId) (h : w.ownsRow base 78 5 v xs.length (cellsR xs)) (hy : Rules w.heap.size w x ys) (hs : xs.length + ys.length ≤ 1099511627776) (hb : base ≤ w.heap.size) :
    ∃ v' w', (Builtin.append_ #[57, 57] ty #[v, x]).run Try.prog w = .ok v' w' ∧ w'.ownsRow base 78 5 v' (xs ++ ys).length (cellsR (xs ++ ys)) ∧ w.grownBy w' v.ownBlock := by
  obtain ⟨i0, hi, hz0, hz1, hz2⟩ := info_parts Try.infoRule
  obtain ⟨A, cap, rfl, h0, h1, h2, h3⟩ := hy
  rw [List.length_append, cellsR_append]
  cases A with
  | none =>
    have hc := h0 rfl
    have hy0 : ys = [] := by
      by_cases hn : ys = []
      · exact hn
      · obtain ⟨_, _, e, _⟩ := h3 hn
        cases e
    subst hy0
    subst hc
    have hr := run_append_owned_none (P := Try.prog) (w := w) base 57 ty 78 i0 5 Try.uRules hi v xs.length (cellsR xs) h
    refine ⟨v, w, hr, by simpa [cellsR] using h, ⟨rfl, rfl, rfl, Nat.le_refl _, fun _ _ _ => rfl⟩⟩
  | some ad =>
    obtain ⟨v', w', hr, h4, h5, _⟩ := run_append_own (P := Try.prog) w base 57 ty 78 i0 _ 5 8 Try.uRules hi hz0 hz1 hz2 rfl (by decide) v xs.length (cellsR xs) h ad ys.length cap (cellsR ys) (cellsR_length ys) (fun j u hj => by
      have hn : ys ≠ [] := fun e => by subst e; simp [cellsR] at hj
      obtain ⟨b, o, e, _, hr⟩ := h3 hn
      cases e
      rw [Addr.add_lit]
      exact hr j u hj) (cellsR_one ys) (by unfold maxLen; omega) (by omega) hb
    exact ⟨v', w', hr, h4, h5⟩

/-- What a row of the call's own keeps. -/
theorem Below.app {B base : Nat} {w0 w w' : World} {t : TypeId} {s n : Nat} {v : Value} {cs : List Value} (h : Below B w0 w) (ho : w.ownsRow base t s v n cs) (hg : w.grownBy w' v.ownBlock) (hB : B ≤ base) (hb : base ≤ w.heap.size) : Below B w0 w' :=
  h.grown hg (by omega) (fun k e => by have := (ho.lt k e).1; omega)

end Go.Proofs.Ytgcimcpcnoojnaa


