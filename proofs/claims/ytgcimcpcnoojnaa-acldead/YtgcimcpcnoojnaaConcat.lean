/-
  slices.Grow, slices.Concat, acl.without.
-/
import Derived.Test.YtgcimcpcnoojnaaApp
import Derived.Lib.AppendZeros
namespace Go.Proofs.Ytgcimcpcnoojnaa
open Go.RowKit

theorem Try.uInt : Try.prog.underlying 3 = some (.int .i64) := by kernel_rfl

/-- append, by its run equation, whatever its second operand is. -/
theorem append_run2 {P : Program} {w w' : World} {ops : Array Oper} {rest : List Oper} {o : Oper} {a : Act} {Q : Exit → Act → World → Prop} (hgd : o.guard = none) (s x : Operand) (t tn : TypeId)
    (ho : o.op = .call { callee := .builtin .append, args := #[s, x], argTypes := #[t, tn] }) {v x' v' : Value} (hs : a.eval s = v) (hx : a.eval x = x') (hr : (Builtin.append_ #[t, tn] o.type #[v, x']).run P w = .ok v' w')
    (h : wpList P ops Q rest (a.put o.dst v') w') : wpList P ops Q (o :: rest) a w := by
  refine wpList_plain hgd fun K hK => ?_
  unfold Oper.wp execOp
  simp only [ho, resolve, invoke, builtin, Sem.run_bind, Sem.run_pure, Result.andThen_ok, List.map_toArray, List.map_cons, List.map_nil, hs, hx, hr]
  exact hK _ _ h

set_option maxHeartbeats 1000000 in
set_option maxRecDepth 100000 in
theorem grow_ok (n : Nat) (hn : n ≤ 1048576) (w : World) :
    Calls Try.prog 110 #[.slice none 0 0, .int .i64 (n : Int)] w fun e w' => ∃ v, e = .returned v ∧ w'.ownsRow w.heap.size 78 5 v 0 [] ∧ Below w.heap.size w w' := by
  by_cases h0 : n = 0
  · subst h0
    go_enter Try.func110, Try.ntmps110
    go_wp2_with fail
    go_ret
    exact ⟨_, rfl, World.ownsRow_nil _ _ _ _, Below.refl _ _⟩
  · obtain ⟨i0, hi, hz0, hz1, hz2⟩ := info_parts Try.infoRule
    have hr := Lib.run_append_nil_zeros (P := Try.prog) w 57 3 57 78 i0 _ .i64 .i64 Try.uRules Try.uInt hi hz0 n (by omega) (by omega) (by omega) (by rw [hz2]; omega)
    have hge := grownCap_ge w n 0 78
    have hle := grownCap_le_maxLen w n 0 78 (by unfold maxLen; omega)
    generalize grownCap w n 0 78 = cap at *
    have t1 : decide ((0 : Int) < (n : Int)) = true := by simp; omega
    have fin : Hid ((w.drew.alloc (.cells (Builtin.zeroCells (Value.agg #[.bool false, .int .u16 0, .int .u16 0, .int .u8 0, .int .u8 0]).cells n ++ Builtin.zeroCells (Value.agg #[.bool false, .int .u16 0, .int .u16 0, .int .u8 0, .int .u8 0]).cells (cap - n)) 78)).ownsRow w.heap.size 78 5 (.slice (some ⟨w.heap.size, 0, none⟩) 0 cap) 0 [] ∧ Below w.heap.size w (w.drew.alloc (.cells (Builtin.zeroCells (Value.agg #[.bool false, .int .u16 0, .int .u16 0, .int .u8 0, .int .u8 0]).cells n ++ Builtin.zeroCells (Value.agg #[.bool false, .int .u16 0, .int .u16 0, .int .u8 0, .int .u8 0]).cells (cap - n)) 78))) := by
      refine ⟨World.ownsRow_made w.drew _ cap (Nat.le_refl _) hle ?_, ((Below.refl _ w).drew).alloc (Nat.le_refl _) _⟩
      rw [Array.size_append, size_zeroCells, size_zeroCells]
      simp [Value.cells]
      omega
    clear hi hz0 hz1 hz2 hle
    generalize w.drew.alloc (.cells (Builtin.zeroCells (Value.agg #[.bool false, .int .u16 0, .int .u16 0, .int .u8 0, .int .u8 0]).cells n ++ Builtin.zeroCells (Value.agg #[.bool false, .int .u16 0, .int .u16 0, .int .u8 0, .int .u8 0]).cells (cap - n)) 78) = w2 at *
    go_enter Try.func110, Try.ntmps110
    go_wp2_with (at_builtin; refine append_run2 rfl _ _ 57 3 rfl rfl rfl hr ?_)
    go_ret
    exact ⟨_, rfl, fin.out⟩

set_option maxHeartbeats 4000000 in
set_option maxRecDepth 100000 in
/-- slices.Concat, of two lists of rules. -/
theorem concat_ok (B : Nat) (A1 A2 : Option Addr) (n1 n2 p1 p2 : Nat) (ys zs : List Rl) (w : World) (hB : B < w.heap.size) (c0 : w.cell? ⟨B, 0, none⟩ = some (.slice A1 n1 p1)) (c1 : w.cell? ⟨B, 1, none⟩ = some (.slice A2 n2 p2))
    (h1 : Hid (Rules w.heap.size w (.slice A1 n1 p1) ys)) (h2 : Hid (Rules w.heap.size w (.slice A2 n2 p2) zs)) (hn1 : n1 ≤ 1000) (hn2 : n2 ≤ 1000) (e1 : Hid (ys.length = n1)) (e2 : Hid (zs.length = n2)) :
    Calls Try.prog 99 #[.slice (some ⟨B, 0, none⟩) 2 2] w fun e w' => ∃ v, e = .returned v ∧ w'.ownsRow w.heap.size 78 5 v (ys ++ zs).length (cellsR (ys ++ zs)) ∧ Below w.heap.size w w' := by
  go_enter Try.func99, Try.ntmps99
  go_wp2_with fail
  go_loop [3, 11] (fun s i => (i = .int .i64 0 ∧ s = .int .i64 0) ∨ (i = .int .i64 1 ∧ s = .int .i64 (n1 : Int)) ∨ (i = .int .i64 2 ∧ s = .int .i64 ((n1 + n2 : Nat) : Int))) (fun _ i => 2 - (intOf i).toNat)
  case atStart => exact .inl ⟨rfl, rfl⟩
  case round =>
    rcases hrel with ⟨rfl, rfl⟩ | ⟨rfl, rfl⟩ | ⟨rfl, rfl⟩
    · go_wp2_with fail
      go_round
      case rel => exact .inr (.inl ⟨rfl, by simp⟩)
      case measure => simp [intOf]
    · go_wp2_with fail
      go_round
      case rel => exact .inr (.inr ⟨rfl, by simp⟩)
      case measure => simp [intOf]
    · go_wp2_with fail
      refine (grow_ok (n1 + n2) (by omega) w).mono ?_
      rintro e w2 ⟨v0, rfl, o0, D0⟩
      have d0 := (D0.cell (p := ⟨B, 0, none⟩) hB).trans c0
      have d1 := (D0.cell (p := ⟨B, 1, none⟩) hB).trans c1
      obtain ⟨v3, w3, hr3, o3, g3⟩ := app_rules (xs := []) 57 o0 ((h1.out.below D0).mono D0.size) (by have := e1.out; simp; omega) D0.size
      have D3 := Below.app D0 o0 g3 (Nat.le_refl _) D0.size
      have z3 := D3.size
      simp only [List.nil_append] at o3
      obtain ⟨v4, w4, hr4, o4, g4⟩ := app_rules 57 o3 ((h2.out.below D3).mono D3.size) (by have := e1.out; have := e2.out; omega) D3.size
      have D4 := Below.app D3 o3 g4 (Nat.le_refl _) D3.size
      have m0 := (D3.cell (p := ⟨B, 0, none⟩) hB).trans c0
      have m1 := (D3.cell (p := ⟨B, 1, none⟩) hB).trans c1
      have fin : Hid (w4.ownsRow w.heap.size 78 5 v4 (ys ++ zs).length (cellsR (ys ++ zs)) ∧ Below w.heap.size w w4) := ⟨o4, D4⟩
      clear o0 o3 o4 g3 g4 D0 D3 D4 h1 h2 e1 e2 c0 c1
      go_wp2_with fail
      go_loopw [6, 27] (fun s i wr => (i = .int .i64 0 ∧ s = v0 ∧ wr = w2) ∨ (i = .int .i64 1 ∧ s = v3 ∧ wr = w3) ∨ (i = .int .i64 2 ∧ s = v4 ∧ wr = w4)) (fun _ i _ => 2 - (intOf i).toNat)
      case atStart => exact .inl ⟨rfl, rfl, rfl⟩
      case round =>
        rcases hrel with ⟨rfl, hs, hw⟩ | ⟨rfl, hs, hw⟩ | ⟨rfl, hs, hw⟩ <;> subst hs <;> subst hw
        · go_wp2_with (at_builtin; refine append_run rfl _ _ 57 rfl rfl rfl hr3 ?_)
          go_roundw
          case rel => first | exact .inr (.inl ⟨rfl, rfl, rfl⟩) | exact .inr (.inl ⟨rfl, trivial⟩) | simp
          case measure => simp [intOf]
        · go_wp2_with (at_builtin; refine append_run rfl _ _ 57 rfl rfl rfl hr4 ?_)
          go_roundw
          case rel => first | exact .inr (.inr ⟨rfl, rfl, rfl⟩) | exact .inr (.inr ⟨rfl, trivial⟩) | simp
          case measure => simp [intOf]
        · go_wp2_with fail
          go_ret
          exact ⟨_, rfl, fin.out⟩
end Go.Proofs.Ytgcimcpcnoojnaa


