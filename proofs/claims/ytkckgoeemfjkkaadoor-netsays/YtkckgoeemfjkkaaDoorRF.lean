/-
  The document's answer on nets: is an end among those ahead?
-/
import Derived.Test.YtkckgoeemfjkkaaDoorRE
namespace Go.Proofs.YtkckgoeemfjkkaaDoor
open Go.RowKit

theorem any_takeP {xs : List (Int × Int)} {k : Nat} {p q : Int × Int} (h : xs[k]? = some p) : (xs.take (k + 1)).any (fun x => (q.1 == x.1) && (q.2 == x.2)) = ((xs.take k).any (fun x => (q.1 == x.1) && (q.2 == x.2)) || ((q.1 == p.1) && (q.2 == p.2))) := by
  obtain ⟨hk, e⟩ := List.getElem?_eq_some_iff.1 h
  rw [List.take_succ_eq_append_getElem hk, e]
  simp
def hasP (xs : List (Int × Int)) (q : Int × Int) : Bool := xs.any (fun x => (q.1 == x.1) && (q.2 == x.2))
set_option maxHeartbeats 4000000 in
set_option maxRecDepth 100000 in
theorem pairIdx_any (v : Value) (xs : List (Int × Int)) (a b : Int) (w : World) (hP : Hid (Prs w.heap.size w v xs)) :
    Calls Tryd.prog 29 #[v, prV a b] w fun e w' => ∃ j : Int, e = .returned (.int .i64 j) ∧ Hid (decide (0 ≤ j) = hasP xs (a, b)) ∧ Below w.heap.size w w' := by
  obtain ⟨A, cap, rfl, h1, h2, _⟩ := id hP.out
  unfold maxLen at h2
  generalize hres : hasP xs (a, b) = res
  have HR : Hid (hasP xs (a, b) = res) := hres
  clear hres
  have D0 := Below.alN (Below.refl w.heap.size w) (.cells #[.int .i64 a, .int .i64 b] 47)
  have B0 := box2_new w (.int .i64 a) (.int .i64 b) 47
  go_enter Tryd.func29, Tryd.ntmps29
  go_wp2_with fail
  go_loopw [8] (fun i wr => ∃ k : Nat, i = .int .i64 (k : Int) ∧ k ≤ xs.length ∧ Below w.heap.size w wr ∧ Box2 wr w.heap.size (.int .i64 a) (.int .i64 b) ∧ Hid ((xs.take k).any (fun x => (a == x.1) && (b == x.2)) = false)) (fun i _ => xs.length - (intOf i).toNat)
  case atStart => exact ⟨0, rfl, by omega, D0, B0, rfl⟩
  case round =>
    clear D0 B0
    obtain ⟨k, rfl, hk, D1, B1, hno⟩ := hrel
    by_cases hlt : k < xs.length
    · obtain ⟨p, hxk⟩ : ∃ p, xs[k]? = some p := ⟨_, List.getElem?_eq_getElem hlt⟩
      obtain ⟨A', cap', e, _, _, h3⟩ := hP.out.below D1
      cases e
      obtain ⟨g, o, rfl, hg, hc⟩ := h3 (fun e => by subst e; simp at hxk)
      obtain ⟨c0, c1⟩ := hc k p hxk
      have PE := fun w => pair_eq a b p.1 p.2 w
      have HT : Hid ((xs.take (k + 1)).any (fun x => (a == x.1) && (b == x.2)) = ((xs.take k).any (fun x => (a == x.1) && (b == x.2)) || ((a == p.1) && (b == p.2)))) := any_takeP (q := (a, b)) hxk
      have HM : Hid (((a == p.1) && (b == p.2)) = true → hasP xs (a, b) = true) := fun h => List.any_eq_true.2 ⟨p, List.mem_of_getElem? hxk, h⟩
      have k1 : (0 : Int) ≤ (k : Int) := by omega
      have k2 : (k : Int) < (xs.length : Int) := by omega
      obtain ⟨_, q0, q1, _⟩ := id B1
      clear hxk hc h3 hP
      generalize ((a == p.1) && (b == p.2)) = y at *
      generalize p.1 = px at *
      generalize p.2 = py at *
      cases y
      · have HV : Hid ((xs.take (k + 1)).any (fun x => (a == x.1) && (b == x.2)) = false) := by
          show _ = _
          rw [HT.out, hno.out]
          rfl
        clear HT HM hno
        go_wp2_with fail
        go_quiet (fail)
        go_wp2_with fail
        go_roundw
        case rel => exact ⟨k + 1, by go_num, by omega, belowNN D1 _, B1, HV⟩
        case measure => simp [intOf]; omega
      · have HV : Hid (res = true) := by
          show _ = _
          rw [← HR.out, HM.out rfl]
        clear HT HM hno
        go_wp2_with fail
        go_quiet (fail)
        go_wp2_with fail
        go_ret
        exact ⟨_, rfl, (by show _ = _; rw [HV.out]; simp), belowNN D1 _⟩
    · have HV : Hid (res = false) := by
        show _ = _
        rw [← HR.out]
        have := hno.out
        rw [show k = xs.length by omega, List.take_length] at this
        exact this
      go_wp2_with fail
      go_ret
      exact ⟨_, rfl, (by show _ = _; rw [HV.out]; simp), D1⟩
set_option maxHeartbeats 1000000 in
theorem pairHas_any (v : Value) (xs : List (Int × Int)) (a b : Int) (w : World) (hP : Prs w.heap.size w v xs) :
    Calls Tryd.prog 14 #[v, prV a b] w fun e w' => e = .returned (.bool (hasP xs (a, b))) ∧ Below w.heap.size w w' := by
  have D0 := Below.alN (Below.refl w.heap.size w) (.cells #[.int .i64 a, .int .i64 b] 47)
  have IX : Hid (∀ W, Below w.heap.size w W → Calls Tryd.prog 29 #[v, prV a b] W fun e w' => ∃ j : Int, e = .returned (.int .i64 j) ∧ Hid (decide (0 ≤ j) = hasP xs (a, b)) ∧ Below W.heap.size W w') := fun W h => pairIdx_any v xs a b W ((hP.below h).mono h.size)
  obtain ⟨A, cap, rfl, _, _, _⟩ := hP
  generalize hasP xs (a, b) = x at *
  go_enter Tryd.func14, Tryd.ntmps14
  go_wp2_with fail
  refine (IX.out _ D0).mono ?_
  rintro e w2 ⟨j, rfl, hj, hb2⟩
  have D2 := chnN hb2 D0
  clear IX
  go_wp2_with fail
  go_ret
  exact ⟨by rw [hj.out]; rfl, D2⟩
/-- append, of a row of the call's own and two pairs that lie somewhere. -/
theorem app_pairs {base : Nat} {w : World} {v : Value} {xs : List (Int × Int)} {tb : Nat} {a b c d : Int} (ty : TypeId) (h : w.ownsRow base 47 2 v xs.length (cellsP xs)) (c0 : w.cell? ⟨tb, 0, none⟩ = some (.int .i64 a)) (c1 : w.cell? ⟨tb, 1, none⟩ = some (.int .i64 b)) (c2 : w.cell? ⟨tb, 2, none⟩ = some (.int .i64 c)) (c3 : w.cell? ⟨tb, 3, none⟩ = some (.int .i64 d)) (hs : xs.length ≤ 1099511627776) (hb : base ≤ w.heap.size) :
    ∃ v' w', (Builtin.append_ #[44, 44] ty #[v, .slice (some ⟨tb, 0, none⟩) 2 2]).run Tryd.prog w = .ok v' w' ∧ w'.ownsRow base 47 2 v' (xs ++ [(a, b), (c, d)]).length (cellsP (xs ++ [(a, b), (c, d)])) ∧ w.grownBy w' v.ownBlock := by
  obtain ⟨i0, hi, hz0, hz1, hz2⟩ := info_parts Tryd.infoPair
  obtain ⟨v', w', hr, h4, h5, _⟩ := run_append_own (P := Tryd.prog) w base 44 ty 47 i0 _ 2 16 Tryd.uPairs hi hz0 hz1 hz2 rfl (by decide) v xs.length (cellsP xs) h ⟨tb, 0, none⟩ 2 2 (cellsP [(a, b), (c, d)]) rfl (fun j u hj => by
      rw [Addr.add_lit, Nat.zero_add]
      match j, hj with
      | 0, hj => obtain rfl := Option.some.inj hj; exact c0
      | 1, hj => obtain rfl := Option.some.inj hj; exact c1
      | 2, hj => obtain rfl := Option.some.inj hj; exact c2
      | 3, hj => obtain rfl := Option.some.inj hj; exact c3) (fun u hu => by
        simp only [cellsP, List.flatMap_cons, List.flatMap_nil, List.append_nil, List.cons_append, List.nil_append, List.mem_cons, List.not_mem_nil, or_false] at hu
        rcases hu with rfl | rfl | rfl | rfl <;> rfl) (by unfold maxLen; omega) (by omega) hb
  rw [List.length_append, cellsP_append]
  exact ⟨v', w', hr, h4, h5⟩
theorem Below.app2 {B base : Nat} {w0 w w' : World} {t : TypeId} {s n : Nat} {v : Value} {cs : List Value} (h : Below B w0 w) (ho : w.ownsRow base t s v n cs) (hg : w.grownBy w' v.ownBlock) (hB : B ≤ base) (hb : base ≤ w.heap.size) : Below B w0 w' :=
  h.grown hg (by omega) (fun k e => by have := (ho.lt k e).1; omega)
/-- append, by its run equation. -/
theorem append_run2 {P : Program} {w w' : World} {ops : Array Oper} {rest : List Oper} {o : Oper} {a : Act} {Q : Exit → Act → World → Prop} (hgd : o.guard = none) (s x : Operand) (t : TypeId)
    (ho : o.op = .call { callee := .builtin .append, args := #[s, x], argTypes := #[t, t] }) {v x' v' : Value} (hs : a.eval s = v) (hx : a.eval x = x') (hr : (Builtin.append_ #[t, t] o.type #[v, x']).run P w = .ok v' w')
    (h : wpList P ops Q rest (a.put o.dst v') w') : wpList P ops Q (o :: rest) a w := by
  refine wpList_plain hgd fun K hK => ?_
  unfold Oper.wp execOp
  simp only [ho, resolve, invoke, builtin, Sem.run_bind, Sem.run_pure, Result.andThen_ok, List.map_toArray, List.map_cons, List.map_nil, hs, hx, hr]
  exact hK _ _ h
end Go.Proofs.YtkckgoeemfjkkaaDoor
