/-
  slices.Delete of one rule, in a row of the caller's own.
-/
import Derived.Test.YtgcimcpcnoojnaaClone
import Derived.Test.YtgcimcpcnoojnaaWithout
import Derived.Laws.CopyOwn
namespace Go.Proofs.Ytgcimcpcnoojnaa
open Go.RowKit

/-- append, at a step of a region that draws its order, by its run equation. -/
theorem append_step {P : Program} {w w' : World} {ops : Array Oper} {o : Oper} {a : Act} {K : Act → World → Prop} {Q : Exit → Act → World → Prop} {E : Prop} (hgd : o.guard = none) (s x : Operand) (t : TypeId)
    (ho : o.op = .call { callee := .builtin .append, args := #[s, x], argTypes := #[t, t] }) {v x' v' : Value} (hs : a.eval s = v) (hx : a.eval x = x') (hr : (Builtin.append_ #[t, t] o.type #[v, x']).run P w = .ok v' w')
    (h : K (a.put o.dst v') w') : if Region.wanted o (yielded ops a.tmps) = true then Oper.wp P o a w K Q else E := by
  have hw : Region.wanted o (yielded ops a.tmps) = true := by simp [Region.wanted, hgd]
  rw [if_pos hw]
  unfold Oper.wp execOp
  simp only [ho, resolve, invoke, builtin, Sem.run_bind, Sem.run_pure, Result.andThen_ok, List.map_toArray, List.map_cons, List.map_nil, hs, hx, hr]
  exact h
theorem clear_run {P : Program} {w w' : World} {ops : Array Oper} {rest : List Oper} {o : Oper} {a : Act} {Q : Exit → Act → World → Prop} (hgd : o.guard = none) (s : Operand) (t : TypeId)
    (ho : o.op = .call { callee := .builtin .clear, args := #[s], argTypes := #[t] }) {v v' : Value} (hs : a.eval s = v) (hr : (Builtin.clear_ #[t] o.type #[v]).run P w = .ok v' w')
    (h : wpList P ops Q rest (a.put o.dst v') w') : wpList P ops Q (o :: rest) a w := by
  refine wpList_plain hgd fun K hK => ?_
  unfold Oper.wp execOp
  simp only [ho, resolve, invoke, builtin, Sem.run_bind, Sem.run_pure, Result.andThen_ok, List.map_toArray, List.map_cons, List.map_nil, hs, hr]
  exact hK _ _ h
/-- clear, of one rule. -/
theorem run_clear_rule (w : World) (g o c : Nat) (cur : Array Value) (ty : TypeId) (hg : w.heap[g]? = some (.cells cur 78 (0, 0))) (ho : o + 5 ≤ cur.size) :
    ∃ z : List Value, z.length = 5 ∧ (Builtin.clear_ #[57] ty #[.slice (some ⟨g, o, none⟩) 1 c]).run Try.prog w = .ok (.tuple #[]) (w.setRow g (cur.toList.take o ++ z ++ cur.toList.drop (o + 5)).toArray) := by
  refine ⟨[.bool false, .int .u16 0, .int .u16 0, .int .u8 0, .int .u8 0], rfl, ?_⟩
  have hst := run_storeCells_at Try.prog g o 78 [.bool false, .int .u16 0, .int .u16 0, .int .u8 0, .int .u8 0] 0 cur w hg (by simpa using ho) (by intro v hv; simp at hv; rcases hv with rfl | rfl | rfl | rfl <;> rfl)
  simp only [Nat.add_zero, List.length_cons, List.length_nil, Nat.zero_add, Nat.reduceAdd] at hst
  have hzc : (Builtin.zeroCells (Value.agg #[.bool false, .int .u16 0, .int .u16 0, .int .u8 0, .int .u8 0]).cells 1).toList = [.bool false, .int .u16 0, .int .u16 0, .int .u8 0, .int .u8 0] := by kernel_rfl
  simp [Builtin.clear_, run_underlying Try.uRules, hzc, hst]

set_option maxHeartbeats 4000000 in
set_option maxRecDepth 100000 in
theorem delete_row (B g cap i m : Nat) (xs : List Rl) (w : World) (hn : xs.length = i + 1 + m) (hs : xs.length ≤ 1000) (ho : w.ownsRow B 78 5 (.slice (some ⟨g, 0, none⟩) (i + 1 + m) cap) (i + 1 + m) (cellsR xs)) :
    Calls Try.prog 50 #[.slice (some ⟨g, 0, none⟩) (i + 1 + m) cap, .int .i64 (i : Int), .int .i64 ((i : Int) + 1)] w fun e w' => ∃ v, e = .returned v ∧ Hid (w'.ownsRow B 78 5 v (wo xs i).length (cellsR (wo xs i)) ∧ Below B w w') := by
  obtain ⟨i0, hi, hz0, hz1, hz2⟩ := info_parts Try.infoRule
  obtain ⟨hB, cur, hg, hnc, hcap, hsz, htake⟩ : B ≤ g ∧ ∃ cur, w.heap[g]? = some (.cells cur 78 (0, 0)) ∧ xs.length ≤ cap ∧ cap ≤ maxLen ∧ cur.size = cap * 5 ∧ cur.toList.take (xs.length * 5) = cellsR xs := by
    rw [hn]
    rcases ho.2 with ⟨e, _⟩ | ⟨g', cap', cur, e, h1, h2, h3, h4, h5, h6⟩
    · cases e
    · simp only [Value.slice.injEq, Option.some.injEq, Addr.mk.injEq, and_true, true_and] at e
      obtain ⟨rfl, rfl⟩ := e
      exact ⟨h1, cur, h2, h3, h4, h5, h6⟩
  have lt := (Array.getElem?_eq_some_iff.1 hg).1
  have cl : ∀ j u, (cellsR xs)[j]? = some u → w.cell? ⟨g, j, none⟩ = some u := fun j u hj => by
    rw [cell_of_row w g j _ _ _ hg, ← Array.getElem?_toList]
    rw [← htake, List.getElem?_take] at hj
    split at hj
    · exact hj
    · cases hj
  obtain ⟨A2, hsl⟩ : ∃ A2, (if cap = i + 1 then some (⟨g, 0, none⟩ : Addr) else some ⟨g, (i + 1) * 5, none⟩) = A2 := ⟨_, rfl⟩
  obtain ⟨ad, rfl, had⟩ : ∃ ad, A2 = some ad ∧ (m ≠ 0 → ad = ⟨g, (i + 1) * 5, none⟩) := by
    rw [← hsl]
    split
    · exact ⟨_, rfl, fun h => by omega⟩
    · exact ⟨_, rfl, fun _ => rfl⟩
  have hdl : (cellsR (xs.drop (i + 1))).length = m * 5 := by rw [cellsR_length, List.length_drop]; omega
  have htl : (cellsR (xs.take i)).length = i * 5 := by rw [cellsR_length, List.length_take]; omega
  have hnews : ∀ j u, (cellsR (xs.drop (i + 1)))[j]? = some u → w.drew.cell? (ad.add j) = some u := fun j u hj => by
    have hm : m ≠ 0 := fun e => by
      have := (List.getElem?_eq_some_iff.1 hj).1
      omega
    rw [had hm, Addr.add_lit]
    refine cl _ u ?_
    have e : cellsR xs = cellsR (xs.take (i + 1)) ++ cellsR (xs.drop (i + 1)) := by rw [← cellsR_append, List.take_append_drop]
    have tl : (cellsR (xs.take (i + 1))).length = (i + 1) * 5 := by rw [cellsR_length, List.length_take]; omega
    rw [e, List.getElem?_append_right (by omega), tl]
    simpa using hj
  have hr1 := run_append_room (P := Try.prog) w.drew 57 57 78 i0 Try.uRules hi g i cap cur hg ad m (cap - (i + 1)) (cellsR (xs.drop (i + 1))) (by rw [hz1]; exact hdl) hnews (cellsR_one _) (by omega) (by rw [hz1, hdl]; omega)
  rw [hz1] at hr1
  have hg1 := setRow_heap w.drew g cur (cur.toList.take (i * 5) ++ cellsR (xs.drop (i + 1)) ++ cur.toList.drop (i * 5 + (cellsR (xs.drop (i + 1))).length)).toArray 78 (0, 0) hg
  have hl1 : (cur.toList.take (i * 5) ++ cellsR (xs.drop (i + 1)) ++ cur.toList.drop (i * 5 + (cellsR (xs.drop (i + 1))).length)).length = cap * 5 := by
    simp only [List.length_append, List.length_take, List.length_drop, hdl, Array.length_toList, hsz]
    omega
  have ht1 : (cur.toList.take (i * 5) ++ cellsR (xs.drop (i + 1)) ++ cur.toList.drop (i * 5 + (cellsR (xs.drop (i + 1))).length)).take ((i + m) * 5) = cellsR (wo xs i) := by
    have e1 : cur.toList.take (i * 5) = cellsR (xs.take i) := by
      have e : cellsR xs = cellsR (xs.take i) ++ cellsR (xs.drop i) := by rw [← cellsR_append, List.take_append_drop]
      have : (cur.toList.take (xs.length * 5)).take (i * 5) = cellsR (xs.take i) := by rw [htake, e, ← htl, List.take_left']; rfl
      rwa [List.take_take, Nat.min_eq_left (by omega)] at this
    rw [e1, wo, cellsR_append, List.take_left']
    rw [List.length_append, htl, hdl]
    omega
  have D1 : Below B w (w.drew.setRow g (cur.toList.take (i * 5) ++ cellsR (xs.drop (i + 1)) ++ cur.toList.drop (i * 5 + (cellsR (xs.drop (i + 1))).length)).toArray) := below_setRow (Below.refl _ _).drew hB _
  generalize (cur.toList.take (i * 5) ++ cellsR (xs.drop (i + 1)) ++ cur.toList.drop (i * 5 + (cellsR (xs.drop (i + 1))).length)) = l1 at *
  obtain ⟨z, hz, hr2⟩ := run_clear_rule (w.drew.setRow g l1.toArray) g ((i + m) * 5) (cap - (i + m)) l1.toArray 0 hg1 (by simp; omega)
  have hg2 := setRow_heap (w.drew.setRow g l1.toArray) g l1.toArray (l1.toArray.toList.take ((i + m) * 5) ++ z ++ l1.toArray.toList.drop ((i + m) * 5 + 5)).toArray 78 (0, 0) hg1
  have D2 := below_setRow D1 hB (l1.toArray.toList.take ((i + m) * 5) ++ z ++ l1.toArray.toList.drop ((i + m) * 5 + 5)).toArray
  have hwl : (wo xs i).length = i + m := by
    unfold wo
    rw [List.length_append, List.length_take, List.length_drop]
    omega
  have fin : Hid (((w.drew.setRow g l1.toArray).setRow g (l1.toArray.toList.take ((i + m) * 5) ++ z ++ l1.toArray.toList.drop ((i + m) * 5 + 5)).toArray).ownsRow B 78 5 (.slice (some ⟨g, 0, none⟩) (i + m) cap) (wo xs i).length (cellsR (wo xs i)) ∧ Below B w ((w.drew.setRow g l1.toArray).setRow g (l1.toArray.toList.take ((i + m) * 5) ++ z ++ l1.toArray.toList.drop ((i + m) * 5 + 5)).toArray)) := by
    refine ⟨⟨by rw [cellsR_length], .inr ⟨g, cap, _, by rw [hwl], hB, hg2, by omega, hcap, ?_, ?_⟩⟩, D2⟩
    · simp only [List.size_toArray, List.length_append, List.length_take, List.length_drop, hz, hl1]
      omega
    · rw [hwl, ← ht1]
      simp only [List.append_assoc]
      rw [List.take_append_of_le_length (by simp [hl1]; omega), List.take_take, Nat.min_self]
  generalize (l1.toArray.toList.take ((i + m) * 5) ++ z ++ l1.toArray.toList.drop ((i + m) * 5 + 5)).toArray = c2 at *
  generalize l1.toArray = c1 at *
  have hr3 : (Builtin.clear_ #[57] 0 #[.slice (some ⟨g, (i + m) * 5, none⟩) (i + 1 + m - (i + m)) (cap - (i + m))]).run Try.prog (w.drew.setRow g c1) = .ok (.tuple #[]) ((w.drew.setRow g c1).setRow g c2) := by
    rw [show i + 1 + m - (i + m) = 1 by omega]
    exact hr2
  clear hr2
  unfold maxLen at hcap
  rw [hn] at hnc hs
  clear D1 D2 hg1 hg2 ht1 hl1 hnews hdl htl cl htake hg ho hi hz0 hz1 hz2 had hz
  generalize w.drew.setRow g c1 = w1 at *
  generalize w1.setRow g c2 = w2 at *
  have k1 : (0 : Int) ≤ (i : Int) := by omega
  have k2 : (i : Int) ≤ (cap : Int) := by omega
  have k4 : (0 : Int) ≤ (i : Int) + 1 := by omega
  have k5 : (i : Int) + 1 ≤ (i : Int) + 1 + (m : Int) := by omega
  have k6 : (i : Int) ≤ (i : Int) + 1 := by omega
  have k7 : (i : Int) + 1 + (m : Int) ≤ (cap : Int) := by omega
  have k8 : ((i : Int) == (i : Int) + 1) = false := by simp; omega
  have k9 : (0 : Int) ≤ (i : Int) + (m : Int) := by omega
  have k10 : (i : Int) + (m : Int) ≤ (i : Int) + 1 + (m : Int) := by omega
  go_enter Try.func50, Try.ntmps50
  go_wp2_with fail
  refine wp_region_held_drew (S := (fun _ => True)) (by kernel_rfl) trivial (fun hHeld => ?_)
  refine' wpAnyH_take (i := 0) (v := _) rfl (by kernel_rfl) (by kernel_rfl) (by kernel_rfl) (fun _ _ _ h => h) (Or.inl ⟨by rfl, ?gy1⟩) (by assumption) ?gr1
  case gy1 => (intro w hSw; (try dsimp only at hSw); go_simp; (try with_reducible rfl))
  try simp only [List.getElem_toArray, List.getElem_cons_zero, Act.put, List.setIfInBounds_toArray, List.set_cons_zero, List.set_cons_succ]
  refine' wpAnyH_take (i := 1) (v := _) rfl (by kernel_rfl) (by kernel_rfl) (by kernel_rfl) (fun _ _ _ h => h) (Or.inl ⟨by rfl, ?gy2⟩) (by assumption) ?gr2
  case gy2 => (intro w hSw; (try dsimp only at hSw); go_simp; (try with_reducible rfl))
  try simp only [List.getElem_toArray, List.getElem_cons_zero, List.getElem_cons_succ, Act.put, List.setIfInBounds_toArray, List.set_cons_zero, List.set_cons_succ]
  refine' wpAnyH_take (i := 2) (v := _) rfl (by kernel_rfl) (by kernel_rfl) (by kernel_rfl) (fun _ _ _ h => h) (Or.inl ⟨by rfl, ?gy3⟩) (by assumption) ?gr3
  case gy3 => (intro w hSw; (try dsimp only at hSw); go_simp; (try with_reducible rfl))
  try simp only [List.getElem_toArray, List.getElem_cons_zero, List.getElem_cons_succ, Act.put, List.setIfInBounds_toArray, List.set_cons_zero, List.set_cons_succ]
  refine' wpAnyH_take (i := 3) (v := _) rfl (by kernel_rfl) (by kernel_rfl) (by kernel_rfl) (fun _ _ _ h => h) (Or.inl ⟨by rfl, ?gy4⟩) (by assumption) ?gr4
  case gy4 => (intro w hSw; (try dsimp only at hSw); go_simp; (try with_reducible rfl))
  try simp only [List.getElem_toArray, List.getElem_cons_zero, List.getElem_cons_succ, Act.put, List.setIfInBounds_toArray, List.set_cons_zero, List.set_cons_succ]
  refine' wpAnyH_take (i := 4) (v := _) rfl (by kernel_rfl) (by kernel_rfl) (by kernel_rfl) (fun _ _ _ h => h) (Or.inl ⟨by rfl, ?gy5⟩) (by assumption) ?gr5
  case gy5 => (intro w hSw; (try dsimp only at hSw); go_simp; (try with_reducible rfl))
  try simp only [List.getElem_toArray, List.getElem_cons_zero, List.getElem_cons_succ, Act.put, List.setIfInBounds_toArray, List.set_cons_zero, List.set_cons_succ]
  refine' wpAnyH_take (i := 5) (v := _) rfl (by kernel_rfl) (by kernel_rfl) (by kernel_rfl) (fun _ _ _ h => h) (Or.inl ⟨by rfl, ?gy6⟩) (by assumption) ?gr6
  case gy6 => (intro w hSw; (try dsimp only at hSw); go_simp; (try with_reducible rfl))
  try simp only [List.getElem_toArray, List.getElem_cons_zero, List.getElem_cons_succ, Act.put, List.setIfInBounds_toArray, List.set_cons_zero, List.set_cons_succ]
  refine wpAnyH_ready (rs := [6]) (by kernel_rfl) (by simp) (AllReadyH.cons rfl (fun K hK => ?_) AllReadyH.nil)
  refine append_step rfl _ _ 57 rfl rfl rfl hr1 ?_
  clear hHeld
  refine hK.out _ _ trivial (fun hHeld => ?_)
  clear hK K
  try simp only [List.getElem_toArray, List.getElem_cons_zero, List.getElem_cons_succ, Act.put, List.setIfInBounds_toArray, List.set_cons_zero, List.set_cons_succ]
  refine' wpAnyH_take (i := 7) (v := _) rfl (by kernel_rfl) (by kernel_rfl) (by kernel_rfl) (fun _ _ _ h => h) (Or.inl ⟨by rfl, ?gy7⟩) (by assumption) ?gr7
  case gy7 => (intro w hSw; (try dsimp only at hSw); go_simp; (try with_reducible rfl))
  try simp only [List.getElem_toArray, List.getElem_cons_zero, List.getElem_cons_succ, Act.put, List.setIfInBounds_toArray, List.set_cons_zero]
  refine wpAnyH_done (by kernel_rfl) ?_ _
  go_wp2_with (at_builtin; refine clear_run rfl _ 57 rfl rfl hr3 ?_)
  go_ret
  exact ⟨_, rfl, fin.out⟩
end Go.Proofs.Ytgcimcpcnoojnaa


