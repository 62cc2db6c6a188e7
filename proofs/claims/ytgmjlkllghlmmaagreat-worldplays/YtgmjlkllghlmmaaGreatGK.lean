/-
  The document's answer on nets: ends of links, as a row that grows.
-/
import Derived.Test.YtgmjlkllghlmmaaGreatNp
import Derived.Laws.AppendOwnNone
import Derived.Lib.SliceRun
import Derived.ChangeKeysEq
import Derived.Test.YtgmjlkllghlmmaaGreatGQ
namespace Go.Proofs.YtgmjlkllghlmmaaGreat
open Go.RowKit

abbrev prV (a b : Int) : Value := .agg #[.int .i64 a, .int .i64 b]
def cellsP (xs : List (Int × Int)) : List Value := xs.flatMap fun p => [.int .i64 p.1, .int .i64 p.2]
theorem cellsP_cons (p : Int × Int) (l : List (Int × Int)) : cellsP (p :: l) = .int .i64 p.1 :: .int .i64 p.2 :: cellsP l := rfl
theorem cellsP_append (a b : List (Int × Int)) : cellsP (a ++ b) = cellsP a ++ cellsP b := by simp [cellsP]
theorem cellsP_at : ∀ (xs : List (Int × Int)) (k : Nat) (p : Int × Int), xs[k]? = some p → (cellsP xs)[k * 2]? = some (.int .i64 p.1) ∧ (cellsP xs)[k * 2 + 1]? = some (.int .i64 p.2)
  | [], k, p, h => by simp at h
  | x :: l, 0, p, h => by
    obtain rfl : x = p := by simpa using h
    exact ⟨rfl, rfl⟩
  | x :: l, k + 1, p, h => by
    have ih := cellsP_at l k p (by simpa using h)
    rw [cellsP_cons, show (k + 1) * 2 = k * 2 + 1 + 1 by omega, show k * 2 + 1 + 1 + 1 = (k * 2 + 1) + 1 + 1 by omega]
    exact ih
/-- A slice of pairs, read. -/
def Prs (base : Nat) (w : World) (v : Value) (xs : List (Int × Int)) : Prop :=
  ∃ A cap, v = .slice A xs.length cap ∧ xs.length ≤ cap ∧ cap ≤ maxLen ∧ (xs ≠ [] → ∃ b o, A = some ⟨b, o, none⟩ ∧ b < base ∧ ∀ k p, xs[k]? = some p → w.cell? ⟨b, o + k * 2, none⟩ = some (.int .i64 p.1) ∧ w.cell? ⟨b, o + k * 2 + 1, none⟩ = some (.int .i64 p.2))
theorem Prs.below {base : Nat} {w w' : World} {v : Value} {xs : List (Int × Int)} (h : Prs base w v xs) (hb : Below base w w') : Prs base w' v xs := by
  obtain ⟨A, cap, e, h1, h2, h3⟩ := h
  refine ⟨A, cap, e, h1, h2, fun hn => ?_⟩
  obtain ⟨b, o, ea, hl, hr⟩ := h3 hn
  refine ⟨b, o, ea, hl, fun k p hk => ?_⟩
  obtain ⟨c0, c1⟩ := hr k p hk
  exact ⟨(hb.cell (p := ⟨b, _, none⟩) hl).trans c0, (hb.cell (p := ⟨b, _, none⟩) hl).trans c1⟩
theorem Prs.mono {base base' : Nat} {w : World} {v : Value} {xs : List (Int × Int)} (h : Prs base w v xs) (hb : base ≤ base') : Prs base' w v xs := by
  obtain ⟨A, cap, e, h1, h2, h3⟩ := h
  refine ⟨A, cap, e, h1, h2, fun hn => ?_⟩
  obtain ⟨b, o, ea, hl, hr⟩ := h3 hn
  exact ⟨b, o, ea, by omega, hr⟩
theorem Prs.own {base : Nat} {w : World} {t : TypeId} {v : Value} {xs : List (Int × Int)} (h : w.ownsRow base t 2 v xs.length (cellsP xs)) : Prs w.heap.size w v xs := by
  have hh := h
  obtain ⟨hl, hc⟩ := h
  rcases hc with ⟨rfl, h0⟩ | ⟨g, cap, cur, rfl, hb, hg, hn, hcap, hs, ht⟩
  · exact ⟨none, 0, by rw [h0], by omega, by unfold maxLen; omega, fun hn => absurd (List.length_eq_zero_iff.1 h0) hn⟩
  · refine ⟨_, cap, rfl, hn, hcap, fun _ => ⟨g, 0, rfl, (Array.getElem?_eq_some_iff.1 hg).1, fun k p hk => ?_⟩⟩
    obtain ⟨c0, c1⟩ := cellsP_at xs k p hk
    have e0 := hh.cells (g := g) rfl _ _ c0
    have e1 := hh.cells (g := g) rfl _ _ c1
    rw [Addr.add_lit] at e0 e1
    exact ⟨e0, e1⟩
theorem Tryz.uPairs : Tryz.prog.underlying 81 = some (.slice 84) := by kernel_rfl
theorem Tryz.infoPair : (Tryz.prog.info? 84).map (fun i => (i.zero, i.size, i.bytes)) = some (some (.agg #[.int .i64 0, .int .i64 0]), 2, 16) := by kernel_rfl
theorem pair_eq (a b c d : Int) (w : World) : (binOp .eql 84 (prV a b) (prV c d)).run Tryz.prog w = .ok (.bool ((a == c) && (b == d))) w := by
  obtain ⟨i, hi⟩ : ∃ i, Tryz.prog.info? 3 = some i := by
    have h : (Tryz.prog.info? 3).isSome = true := by kernel_rfl
    exact Option.isSome_iff_exists.1 h
  rw [run_eql_struct, show (10000 : Nat) = 9998 + 1 + 1 from rfl, run_equalIn_array w (9998 + 1) _ _ Tryz.underlying84 hi, nInt, show List.range 2 = [0, 1] from rfl]
  have p0 : ∀ (x y : Int) (w : World), (part 3 #[.int .i64 x, .int .i64 y] (0 * 1)).run Tryz.prog w = .ok (.int .i64 x) w := fun _ _ _ => by kernel_rfl
  have p1 : ∀ (x y : Int) (w : World), (part 3 #[.int .i64 x, .int .i64 y] 1).run Tryz.prog w = .ok (.int .i64 y) w := fun _ _ _ => by kernel_rfl
  have q : ∀ (x y : Int) (w : World), (Op.equalIn 9999 3 (.int .i64 x) (.int .i64 y)).run Tryz.prog w = .ok (x == y) w := fun x y w => run_equalIn_int w 9998 3 .i64 .i64 x y Tryz.underlying3
  simp only [Op.eqItems, Sem.run_bind, p0, Result.andThen_ok, q]
  cases h1 : (a == c) <;> cases h2 : (b == d) <;> simp [p1, q, h2]
end Go.Proofs.YtgmjlkllghlmmaaGreat

namespace Go.Proofs.YtgmjlkllghlmmaaGreat
open Go.RowKit

theorem any_takeP {xs : List (Int × Int)} {k : Nat} {p q : Int × Int} (h : xs[k]? = some p) : (xs.take (k + 1)).any (fun x => (q.1 == x.1) && (q.2 == x.2)) = ((xs.take k).any (fun x => (q.1 == x.1) && (q.2 == x.2)) || ((q.1 == p.1) && (q.2 == p.2))) := by
  obtain ⟨hk, e⟩ := List.getElem?_eq_some_iff.1 h
  rw [List.take_succ_eq_append_getElem hk, e]
  simp
def hasP (xs : List (Int × Int)) (q : Int × Int) : Bool := xs.any (fun x => (q.1 == x.1) && (q.2 == x.2))
set_option maxHeartbeats 4000000 in
set_option maxRecDepth 100000 in
theorem pairIdx_any (v : Value) (xs : List (Int × Int)) (a b : Int) (w : World) (hP : Hid (Prs w.heap.size w v xs)) :
    Calls Tryz.prog 65 #[v, prV a b] w fun e w' => ∃ j : Int, e = .returned (.int .i64 j) ∧ Hid (decide (0 ≤ j) = hasP xs (a, b)) ∧ Below w.heap.size w w' := by
  obtain ⟨A, cap, rfl, h1, h2, _⟩ := id hP.out
  unfold maxLen at h2
  generalize hres : hasP xs (a, b) = res
  have HR : Hid (hasP xs (a, b) = res) := hres
  clear hres
  have D0 := Below.alN (Below.refl w.heap.size w) (.cells #[.int .i64 a, .int .i64 b] 84)
  have B0 := box2_new w (.int .i64 a) (.int .i64 b) 84
  go_enter Tryz.func65, Tryz.ntmps65
  go_wp2_with fail
  go_loopw [8] (fun i wr => ∃ k : Nat, i = .int .i64 (k : Int) ∧ k ≤ xs.length ∧ Below w.heap.size w wr ∧ Box2 wr w.heap.size (.int .i64 a) (.int .i64 b) ∧ Hid ((xs.take k).any (fun x => (a == x.1) && (b == x.2)) = false)) (fun i _ => xs.length - (intOf i).toNat)
  case atStart => exact ⟨0, rfl, by omega, D0, B0, rfl⟩
  case round =>
    clear D0 B0
    obtain ⟨k, rfl, hk, D1, B1, hno⟩ := hrel
    by_cases hlt : k < xs.length
    · obtain ⟨p, hxk⟩ : ∃ p, xs[k]? = some p := ⟨_, List.getElem?_eq_getElem hlt⟩
      obtain ⟨A', cap', e, _, _, h3⟩ := hP.out.below D1
      cases e
      obtain ⟨g, o, rfl, hg, hc⟩ := h3 (fun e => by subst e; simp at hxk)
      obtain ⟨c0, c1⟩ := hc k p hxk
      have PE := fun w => pair_eq a b p.1 p.2 w
      have HT : Hid ((xs.take (k + 1)).any (fun x => (a == x.1) && (b == x.2)) = ((xs.take k).any (fun x => (a == x.1) && (b == x.2)) || ((a == p.1) && (b == p.2)))) := any_takeP (q := (a, b)) hxk
      have HM : Hid (((a == p.1) && (b == p.2)) = true → hasP xs (a, b) = true) := fun h => List.any_eq_true.2 ⟨p, List.mem_of_getElem? hxk, h⟩
      have k1 : (0 : Int) ≤ (k : Int) := by omega
      have k2 : (k : Int) < (xs.length : Int) := by omega
      obtain ⟨_, q0, q1, _⟩ := id B1
      clear hxk hc h3 hP
      generalize ((a == p.1) && (b == p.2)) = y at *
      generalize p.1 = px at *
      generalize p.2 = py at *
      cases y
      · have HV : Hid ((xs.take (k + 1)).any (fun x => (a == x.1) && (b == x.2)) = false) := by
          show _ = _
          rw [HT.out, hno.out]
          rfl
        clear HT HM hno
        go_wp2_with fail
        go_quiet (fail)
        go_wp2_with fail
        go_roundw
        case rel => exact ⟨k + 1, by go_num, by omega, belowNN D1 _, B1, HV⟩
        case measure => simp [intOf]; omega
      · have HV : Hid (res = true) := by
          show _ = _
          rw [← HR.out, HM.out rfl]
        clear HT HM hno
        go_wp2_with fail
        go_quiet (fail)
        go_wp2_with fail
        go_ret
        exact ⟨_, rfl, (by show _ = _; rw [HV.out]; simp), belowNN D1 _⟩
    · have HV : Hid (res = false) := by
        show _ = _
        rw [← HR.out]
        have := hno.out
        rw [show k = xs.length by omega, List.take_length] at this
        exact this
      go_wp2_with fail
      go_ret
      exact ⟨_, rfl, (by show _ = _; rw [HV.out]; simp), D1⟩
set_option maxHeartbeats 1000000 in
theorem pairHas_any (v : Value) (xs : List (Int × Int)) (a b : Int) (w : World) (hP : Prs w.heap.size w v xs) :
    Calls Tryz.prog 26 #[v, prV a b] w fun e w' => e = .returned (.bool (hasP xs (a, b))) ∧ Below w.heap.size w w' := by
  have D0 := Below.alN (Below.refl w.heap.size w) (.cells #[.int .i64 a, .int .i64 b] 84)
  have IX : Hid (∀ W, Below w.heap.size w W → Calls Tryz.prog 65 #[v, prV a b] W fun e w' => ∃ j : Int, e = .returned (.int .i64 j) ∧ Hid (decide (0 ≤ j) = hasP xs (a, b)) ∧ Below W.heap.size W w') := fun W h => pairIdx_any v xs a b W ((hP.below h).mono h.size)
  obtain ⟨A, cap, rfl, _, _, _⟩ := hP
  generalize hasP xs (a, b) = x at *
  go_enter Tryz.func26, Tryz.ntmps26
  go_wp2_with fail
  refine (IX.out _ D0).mono ?_
  rintro e w2 ⟨j, rfl, hj, hb2⟩
  have D2 := chnN hb2 D0
  clear IX
  go_wp2_with fail
  go_ret
  exact ⟨by rw [hj.out]; rfl, D2⟩
/-- append, of a row of the call's own and two pairs that lie somewhere. -/
theorem app_pairs {base : Nat} {w : World} {v : Value} {xs : List (Int × Int)} {tb : Nat} {a b c d : Int} (ty : TypeId) (h : w.ownsRow base 84 2 v xs.length (cellsP xs)) (c0 : w.cell? ⟨tb, 0, none⟩ = some (.int .i64 a)) (c1 : w.cell? ⟨tb, 1, none⟩ = some (.int .i64 b)) (c2 : w.cell? ⟨tb, 2, none⟩ = some (.int .i64 c)) (c3 : w.cell? ⟨tb, 3, none⟩ = some (.int .i64 d)) (hs : xs.length ≤ 1099511627776) (hb : base ≤ w.heap.size) :
    ∃ v' w', (Builtin.append_ #[81, 81] ty #[v, .slice (some ⟨tb, 0, none⟩) 2 2]).run Tryz.prog w = .ok v' w' ∧ w'.ownsRow base 84 2 v' (xs ++ [(a, b), (c, d)]).length (cellsP (xs ++ [(a, b), (c, d)])) ∧ w.grownBy w' v.ownBlock := by
  obtain ⟨i0, hi, hz0, hz1, hz2⟩ := info_parts Tryz.infoPair
  obtain ⟨v', w', hr, h4, h5, _⟩ := run_append_own (P := Tryz.prog) w base 81 ty 84 i0 _ 2 16 Tryz.uPairs hi hz0 hz1 hz2 rfl (by decide) v xs.length (cellsP xs) h ⟨tb, 0, none⟩ 2 2 (cellsP [(a, b), (c, d)]) rfl (fun j u hj => by
      rw [Addr.add_lit, Nat.zero_add]
      match j, hj with
      | 0, hj => obtain rfl := Option.some.inj hj; exact c0
      | 1, hj => obtain rfl := Option.some.inj hj; exact c1
      | 2, hj => obtain rfl := Option.some.inj hj; exact c2
      | 3, hj => obtain rfl := Option.some.inj hj; exact c3) (fun u hu => by
        simp only [cellsP, List.flatMap_cons, List.flatMap_nil, List.append_nil, List.cons_append, List.nil_append, List.mem_cons, List.not_mem_nil, or_false] at hu
        rcases hu with rfl | rfl | rfl | rfl <;> rfl) (by unfold maxLen; omega) (by omega) hb
  rw [List.length_append, cellsP_append]
  exact ⟨v', w', hr, h4, h5⟩
theorem Below.app2 {B base : Nat} {w0 w w' : World} {t : TypeId} {s n : Nat} {v : Value} {cs : List Value} (h : Below B w0 w) (ho : w.ownsRow base t s v n cs) (hg : w.grownBy w' v.ownBlock) (hB : B ≤ base) (hb : base ≤ w.heap.size) : Below B w0 w' :=
  h.grown hg (by omega) (fun k e => by have := (ho.lt k e).1; omega)
/-- append, by its run equation. -/
theorem append_run2 {P : Program} {w w' : World} {ops : Array Oper} {rest : List Oper} {o : Oper} {a : Act} {Q : Exit → Act → World → Prop} (hgd : o.guard = none) (s x : Operand) (t : TypeId)
    (ho : o.op = .call { callee := .builtin .append, args := #[s, x], argTypes := #[t, t] }) {v x' v' : Value} (hs : a.eval s = v) (hx : a.eval x = x') (hr : (Builtin.append_ #[t, t] o.type #[v, x']).run P w = .ok v' w')
    (h : wpList P ops Q rest (a.put o.dst v') w') : wpList P ops Q (o :: rest) a w := by
  refine wpList_plain hgd fun K hK => ?_
  unfold Oper.wp execOp
  simp only [ho, resolve, invoke, builtin, Sem.run_bind, Sem.run_pure, Result.andThen_ok, List.map_toArray, List.map_cons, List.map_nil, hs, hx, hr]
  exact hK _ _ h
end Go.Proofs.YtgmjlkllghlmmaaGreat

namespace Go.Proofs.YtgmjlkllghlmmaaGreat
open Go.RowKit

set_option maxHeartbeats 4000000 in
set_option maxRecDepth 100000 in
theorem rdev_1 (nm : ByteArray) (ad : Int) (pl : Nat) (Ab Ar At : Option Addr) (nb cb nr cr nt ct : Nat) (c : Int) (w : World) 
    (RT : Hid (∀ W, Below w.heap.size w W → Calls Tryz.prog 64 #[.slice At nt ct] W fun e w' => e = .returned (.int .i64 c) ∧ Below W.heap.size W w')) :
    Calls Tryz.prog 24 #[.agg #[.string nm, .int .i64 1, .int .i64 ad, .int .u8 (pl : Int), .slice Ab nb cb, .slice Ar nr cr, .slice At nt ct]] w fun e w' => e = .returned (.int .i64 (if (!(decide (0 ≤ ad) && decide (ad ≤ 15))) || (decide (0 < pl) != false) then 1 else if 3 < nb then 2 else if 0 < nb then 1 else if (decide (0 < nr)) || (decide (0 < nt)) then 1 else if 8 < nr then 2 else c)) ∧ Below w.heap.size w w' := by
  have D0 := Below.alN (Below.refl w.heap.size w) (.cells #[.string nm, .int .i64 1, .int .i64 ad, .int .u8 (pl : Int), .slice Ab nb cb, .slice Ar nr cr, .slice At nt ct] 78)
  have I0 : Hid (∀ w, Calls Tryz.prog 23 #[.int .i64 1, .int .i64 1, .int .i64 5] w fun e w' => e = .returned (.bool true) ∧ w' = w) := fun w => inN 1 1 5 w
  have V0 := seven_new w (.string nm) (.int .i64 1) (.int .i64 ad) (.int .u8 (pl : Int)) (.slice Ab nb cb) (.slice Ar nr cr) (.slice At nt ct) 78
  obtain ⟨_, q0, q1, q2, q3, q4, q5, q6⟩ := id V0
  have I1 : Hid (∀ w, Calls Tryz.prog 23 #[.int .i64 ad, .int .i64 0, .int .i64 15] w fun e w' => e = .returned (.bool (decide (0 ≤ ad) && decide (ad ≤ 15))) ∧ w' = w) := fun w => inN ad 0 15 w
  generalize (decide (0 ≤ ad) && decide (ad ≤ 15)) = x0 at *
  cases x0
  · go_enter Tryz.func24, Tryz.ntmps24
    go_wp2_with (first | (go_at_call_of 23 (Value.int .i64 1); refine (I0.out _).mono ?_; rintro e w' ⟨rfl, rfl⟩) | (go_at_call_of 23 (Value.int .i64 ad); refine (I1.out _).mono ?_; rintro e w' ⟨rfl, rfl⟩))
    go_ret
    first | exact ⟨rfl, D0⟩ | exact ⟨by simp, D0⟩
  cases p0 : decide (0 < pl)
  · have p1 : decide ((0 : Int) < (pl : Int)) = false := by rw [← p0]; simp
    by_cases n3 : 3 < nb
    · have u3 : decide ((3 : Int) < (nb : Int)) = true := by simp; omega
      go_enter Tryz.func24, Tryz.ntmps24
      go_wp2_with (first | (go_at_call_of 23 (Value.int .i64 1); refine (I0.out _).mono ?_; rintro e w' ⟨rfl, rfl⟩) | (go_at_call_of 23 (Value.int .i64 ad); refine (I1.out _).mono ?_; rintro e w' ⟨rfl, rfl⟩))
      go_ret
      first | exact ⟨rfl, D0⟩ | exact ⟨by simp, D0⟩
    have u3 : decide ((3 : Int) < (nb : Int)) = false := by simp; omega
    by_cases n0 : 0 < nb
    · have u0 : ((nb : Int) == 0) = false := by simp; omega
      go_enter Tryz.func24, Tryz.ntmps24
      go_wp2_with (first | (go_at_call_of 23 (Value.int .i64 1); refine (I0.out _).mono ?_; rintro e w' ⟨rfl, rfl⟩) | (go_at_call_of 23 (Value.int .i64 ad); refine (I1.out _).mono ?_; rintro e w' ⟨rfl, rfl⟩))
      go_ret
      first | exact ⟨rfl, D0⟩ | exact ⟨by simp, D0⟩
    obtain rfl : nb = 0 := by omega
    clear n3 u3 n0
    by_cases r0 : 0 < nr
    · have v0 : decide ((0 : Int) < (nr : Int)) = true := by simp; omega
      go_enter Tryz.func24, Tryz.ntmps24
      go_wp2_with (first | (go_at_call_of 23 (Value.int .i64 1); refine (I0.out _).mono ?_; rintro e w' ⟨rfl, rfl⟩) | (go_at_call_of 23 (Value.int .i64 ad); refine (I1.out _).mono ?_; rintro e w' ⟨rfl, rfl⟩))
      go_loopw [4] (fun i wr => i = .int .i64 0 ∧ wr = (w.alloc (.cells #[.string nm, .int .i64 1, .int .i64 ad, .int .u8 (pl : Int), .slice Ab 0 cb, .slice Ar nr cr, .slice At nt ct] 78))) (fun i _ => 0)
      case atStart => exact ⟨rfl, rfl⟩
      case round =>
        obtain ⟨rfl, rfl⟩ := hrel
        go_wp2_with fail
        go_ret
        first | exact ⟨rfl, D0⟩ | exact ⟨by simp, D0⟩
    have v0 : decide ((0 : Int) < (nr : Int)) = false := by simp; omega
    by_cases t0 : 0 < nt
    · have z0 : decide ((0 : Int) < (nt : Int)) = true := by simp; omega
      go_enter Tryz.func24, Tryz.ntmps24
      go_wp2_with (first | (go_at_call_of 23 (Value.int .i64 1); refine (I0.out _).mono ?_; rintro e w' ⟨rfl, rfl⟩) | (go_at_call_of 23 (Value.int .i64 ad); refine (I1.out _).mono ?_; rintro e w' ⟨rfl, rfl⟩))
      go_loopw [4] (fun i wr => i = .int .i64 0 ∧ wr = (w.alloc (.cells #[.string nm, .int .i64 1, .int .i64 ad, .int .u8 (pl : Int), .slice Ab 0 cb, .slice Ar nr cr, .slice At nt ct] 78))) (fun i _ => 0)
      case atStart => exact ⟨rfl, rfl⟩
      case round =>
        obtain ⟨rfl, rfl⟩ := hrel
        go_wp2_with fail
        go_ret
        first | exact ⟨rfl, D0⟩ | exact ⟨by simp, D0⟩
    have z0 : decide ((0 : Int) < (nt : Int)) = false := by simp; omega
    have r8 : ¬ 8 < nr := by omega
    have v8 : decide ((8 : Int) < (nr : Int)) = false := by simp; omega
    go_enter Tryz.func24, Tryz.ntmps24
    go_wp2_with (first | (go_at_call_of 23 (Value.int .i64 1); refine (I0.out _).mono ?_; rintro e w' ⟨rfl, rfl⟩) | (go_at_call_of 23 (Value.int .i64 ad); refine (I1.out _).mono ?_; rintro e w' ⟨rfl, rfl⟩))
    go_loopw [4] (fun i wr => i = .int .i64 0 ∧ wr = (w.alloc (.cells #[.string nm, .int .i64 1, .int .i64 ad, .int .u8 (pl : Int), .slice Ab 0 cb, .slice Ar nr cr, .slice At nt ct] 78))) (fun i _ => 0)
    case atStart => exact ⟨rfl, rfl⟩
    case round =>
      obtain ⟨rfl, rfl⟩ := hrel
      go_wp2_with fail
      refine (RT.out _ D0).mono ?_
      rintro e w2 ⟨rfl, hb2⟩
      have D2 := chnN hb2 D0
      go_wp2_with fail
      go_ret
      first | exact ⟨rfl, D2⟩ | exact ⟨by simp, D2⟩
  · have p1 : decide ((0 : Int) < (pl : Int)) = true := by rw [← p0]; simp
    go_enter Tryz.func24, Tryz.ntmps24
    go_wp2_with (first | (go_at_call_of 23 (Value.int .i64 1); refine (I0.out _).mono ?_; rintro e w' ⟨rfl, rfl⟩) | (go_at_call_of 23 (Value.int .i64 ad); refine (I1.out _).mono ?_; rintro e w' ⟨rfl, rfl⟩))
    go_ret
    first | exact ⟨rfl, D0⟩ | exact ⟨by simp, D0⟩
set_option maxHeartbeats 4000000 in
set_option maxRecDepth 100000 in
theorem rdev_2 (nm : ByteArray) (ad : Int) (pl : Nat) (Ab Ar At : Option Addr) (nb cb nr cr nt ct : Nat) (c : Int) (w : World) 
    (RT : Hid (∀ W, Below w.heap.size w W → Calls Tryz.prog 64 #[.slice At nt ct] W fun e w' => e = .returned (.int .i64 c) ∧ Below W.heap.size W w')) :
    Calls Tryz.prog 24 #[.agg #[.string nm, .int .i64 2, .int .i64 ad, .int .u8 (pl : Int), .slice Ab nb cb, .slice Ar nr cr, .slice At nt ct]] w fun e w' => e = .returned (.int .i64 (if (!(ad == 0)) || (decide (0 < pl) != false) then 1 else if 3 < nb then 2 else if 0 < nb then 1 else if false then 1 else if 8 < nr then 2 else c)) ∧ Below w.heap.size w w' := by
  have D0 := Below.alN (Below.refl w.heap.size w) (.cells #[.string nm, .int .i64 2, .int .i64 ad, .int .u8 (pl : Int), .slice Ab nb cb, .slice Ar nr cr, .slice At nt ct] 78)
  have I0 : Hid (∀ w, Calls Tryz.prog 23 #[.int .i64 2, .int .i64 1, .int .i64 5] w fun e w' => e = .returned (.bool true) ∧ w' = w) := fun w => inN 2 1 5 w
  have V0 := seven_new w (.string nm) (.int .i64 2) (.int .i64 ad) (.int .u8 (pl : Int)) (.slice Ab nb cb) (.slice Ar nr cr) (.slice At nt ct) 78
  obtain ⟨_, q0, q1, q2, q3, q4, q5, q6⟩ := id V0
  cases a0 : (ad == 0)
  · have a1 : (ad != 0) = true := by simp [bne, a0]
    go_enter Tryz.func24, Tryz.ntmps24
    go_wp2_with (go_at_call_of 23 (Value.int .i64 2); refine (I0.out _).mono ?_; rintro e w' ⟨rfl, rfl⟩)
    go_ret
    first | exact ⟨rfl, D0⟩ | exact ⟨by simp, D0⟩
  have a1 : (ad != 0) = false := by simp [bne, a0]
  cases p0 : decide (0 < pl)
  · have p1 : decide ((0 : Int) < (pl : Int)) = false := by rw [← p0]; simp
    by_cases n3 : 3 < nb
    · have u3 : decide ((3 : Int) < (nb : Int)) = true := by simp; omega
      go_enter Tryz.func24, Tryz.ntmps24
      go_wp2_with (go_at_call_of 23 (Value.int .i64 2); refine (I0.out _).mono ?_; rintro e w' ⟨rfl, rfl⟩)
      go_ret
      first | exact ⟨rfl, D0⟩ | exact ⟨by simp, D0⟩
    have u3 : decide ((3 : Int) < (nb : Int)) = false := by simp; omega
    by_cases n0 : 0 < nb
    · have u0 : ((nb : Int) == 0) = false := by simp; omega
      go_enter Tryz.func24, Tryz.ntmps24
      go_wp2_with (go_at_call_of 23 (Value.int .i64 2); refine (I0.out _).mono ?_; rintro e w' ⟨rfl, rfl⟩)
      go_ret
      first | exact ⟨rfl, D0⟩ | exact ⟨by simp, D0⟩
    obtain rfl : nb = 0 := by omega
    clear n3 u3 n0
    by_cases r0 : 0 < nr
    · have v0 : decide ((0 : Int) < (nr : Int)) = true := by simp; omega
      by_cases r8 : 8 < nr
      · have v8 : decide ((8 : Int) < (nr : Int)) = true := by simp; omega
        by_cases t0 : 0 < nt
        · have z0 : decide ((0 : Int) < (nt : Int)) = true := by simp; omega
          go_enter Tryz.func24, Tryz.ntmps24
          go_wp2_with (go_at_call_of 23 (Value.int .i64 2); refine (I0.out _).mono ?_; rintro e w' ⟨rfl, rfl⟩)
          go_loopw [4] (fun i wr => i = .int .i64 0 ∧ wr = (w.alloc (.cells #[.string nm, .int .i64 2, .int .i64 ad, .int .u8 (pl : Int), .slice Ab 0 cb, .slice Ar nr cr, .slice At nt ct] 78))) (fun i _ => 0)
          case atStart => exact ⟨rfl, rfl⟩
          case round =>
            obtain ⟨rfl, rfl⟩ := hrel
            go_wp2_with fail
            go_ret
            first | exact ⟨rfl, D0⟩ | exact ⟨by simp, D0⟩
        · have z0 : decide ((0 : Int) < (nt : Int)) = false := by simp; omega
          go_enter Tryz.func24, Tryz.ntmps24
          go_wp2_with (go_at_call_of 23 (Value.int .i64 2); refine (I0.out _).mono ?_; rintro e w' ⟨rfl, rfl⟩)
          go_loopw [4] (fun i wr => i = .int .i64 0 ∧ wr = (w.alloc (.cells #[.string nm, .int .i64 2, .int .i64 ad, .int .u8 (pl : Int), .slice Ab 0 cb, .slice Ar nr cr, .slice At nt ct] 78))) (fun i _ => 0)
          case atStart => exact ⟨rfl, rfl⟩
          case round =>
            obtain ⟨rfl, rfl⟩ := hrel
            go_wp2_with fail
            go_ret
            first | exact ⟨rfl, D0⟩ | exact ⟨by simp, D0⟩
      have v8 : decide ((8 : Int) < (nr : Int)) = false := by simp; omega
      by_cases t0 : 0 < nt
      · have z0 : decide ((0 : Int) < (nt : Int)) = true := by simp; omega
        go_enter Tryz.func24, Tryz.ntmps24
        go_wp2_with (go_at_call_of 23 (Value.int .i64 2); refine (I0.out _).mono ?_; rintro e w' ⟨rfl, rfl⟩)
        go_loopw [4] (fun i wr => i = .int .i64 0 ∧ wr = (w.alloc (.cells #[.string nm, .int .i64 2, .int .i64 ad, .int .u8 (pl : Int), .slice Ab 0 cb, .slice Ar nr cr, .slice At nt ct] 78))) (fun i _ => 0)
        case atStart => exact ⟨rfl, rfl⟩
        case round =>
          obtain ⟨rfl, rfl⟩ := hrel
          go_wp2_with fail
          refine (RT.out _ D0).mono ?_
          rintro e w2 ⟨rfl, hb2⟩
          have D2 := chnN hb2 D0
          go_wp2_with fail
          go_ret
          first | exact ⟨rfl, D2⟩ | exact ⟨by simp, D2⟩
      · have z0 : decide ((0 : Int) < (nt : Int)) = false := by simp; omega
        go_enter Tryz.func24, Tryz.ntmps24
        go_wp2_with (go_at_call_of 23 (Value.int .i64 2); refine (I0.out _).mono ?_; rintro e w' ⟨rfl, rfl⟩)
        go_loopw [4] (fun i wr => i = .int .i64 0 ∧ wr = (w.alloc (.cells #[.string nm, .int .i64 2, .int .i64 ad, .int .u8 (pl : Int), .slice Ab 0 cb, .slice Ar nr cr, .slice At nt ct] 78))) (fun i _ => 0)
        case atStart => exact ⟨rfl, rfl⟩
        case round =>
          obtain ⟨rfl, rfl⟩ := hrel
          go_wp2_with fail
          refine (RT.out _ D0).mono ?_
          rintro e w2 ⟨rfl, hb2⟩
          have D2 := chnN hb2 D0
          go_wp2_with fail
          go_ret
          first | exact ⟨rfl, D2⟩ | exact ⟨by simp, D2⟩
    · have v0 : decide ((0 : Int) < (nr : Int)) = false := by simp; omega
      have r8 : ¬ 8 < nr := by omega
      have v8 : decide ((8 : Int) < (nr : Int)) = false := by simp; omega
      by_cases t0 : 0 < nt
      · have z0 : decide ((0 : Int) < (nt : Int)) = true := by simp; omega
        go_enter Tryz.func24, Tryz.ntmps24
        go_wp2_with (go_at_call_of 23 (Value.int .i64 2); refine (I0.out _).mono ?_; rintro e w' ⟨rfl, rfl⟩)
        go_loopw [4] (fun i wr => i = .int .i64 0 ∧ wr = (w.alloc (.cells #[.string nm, .int .i64 2, .int .i64 ad, .int .u8 (pl : Int), .slice Ab 0 cb, .slice Ar nr cr, .slice At nt ct] 78))) (fun i _ => 0)
        case atStart => exact ⟨rfl, rfl⟩
        case round =>
          obtain ⟨rfl, rfl⟩ := hrel
          go_wp2_with fail
          refine (RT.out _ D0).mono ?_
          rintro e w2 ⟨rfl, hb2⟩
          have D2 := chnN hb2 D0
          go_wp2_with fail
          go_ret
          first | exact ⟨rfl, D2⟩ | exact ⟨by simp, D2⟩
      · have z0 : decide ((0 : Int) < (nt : Int)) = false := by simp; omega
        go_enter Tryz.func24, Tryz.ntmps24
        go_wp2_with (go_at_call_of 23 (Value.int .i64 2); refine (I0.out _).mono ?_; rintro e w' ⟨rfl, rfl⟩)
        go_loopw [4] (fun i wr => i = .int .i64 0 ∧ wr = (w.alloc (.cells #[.string nm, .int .i64 2, .int .i64 ad, .int .u8 (pl : Int), .slice Ab 0 cb, .slice Ar nr cr, .slice At nt ct] 78))) (fun i _ => 0)
        case atStart => exact ⟨rfl, rfl⟩
        case round =>
          obtain ⟨rfl, rfl⟩ := hrel
          go_wp2_with fail
          refine (RT.out _ D0).mono ?_
          rintro e w2 ⟨rfl, hb2⟩
          have D2 := chnN hb2 D0
          go_wp2_with fail
          go_ret
          first | exact ⟨rfl, D2⟩ | exact ⟨by simp, D2⟩
  · have p1 : decide ((0 : Int) < (pl : Int)) = true := by rw [← p0]; simp
    go_enter Tryz.func24, Tryz.ntmps24
    go_wp2_with (go_at_call_of 23 (Value.int .i64 2); refine (I0.out _).mono ?_; rintro e w' ⟨rfl, rfl⟩)
    go_ret
    first | exact ⟨rfl, D0⟩ | exact ⟨by simp, D0⟩
set_option maxHeartbeats 4000000 in
set_option maxRecDepth 100000 in
theorem rdev_3 (nm : ByteArray) (ad : Int) (pl : Nat) (Ab Ar At : Option Addr) (nb cb nr cr nt ct : Nat) (c : Int) (w : World) 
    (RT : Hid (∀ W, Below w.heap.size w W → Calls Tryz.prog 64 #[.slice At nt ct] W fun e w' => e = .returned (.int .i64 c) ∧ Below W.heap.size W w')) :
    Calls Tryz.prog 24 #[.agg #[.string nm, .int .i64 3, .int .i64 ad, .int .u8 (pl : Int), .slice Ab nb cb, .slice Ar nr cr, .slice At nt ct]] w fun e w' => e = .returned (.int .i64 (if (!(ad == 0)) || (decide (0 < pl) != false) then 1 else if 3 < nb then 2 else if 0 < nb then 1 else if decide (0 < nt) then 1 else if 8 < nr then 2 else c)) ∧ Below w.heap.size w w' := by
  have D0 := Below.alN (Below.refl w.heap.size w) (.cells #[.string nm, .int .i64 3, .int .i64 ad, .int .u8 (pl : Int), .slice Ab nb cb, .slice Ar nr cr, .slice At nt ct] 78)
  have I0 : Hid (∀ w, Calls Tryz.prog 23 #[.int .i64 3, .int .i64 1, .int .i64 5] w fun e w' => e = .returned (.bool true) ∧ w' = w) := fun w => inN 3 1 5 w
  have V0 := seven_new w (.string nm) (.int .i64 3) (.int .i64 ad) (.int .u8 (pl : Int)) (.slice Ab nb cb) (.slice Ar nr cr) (.slice At nt ct) 78
  obtain ⟨_, q0, q1, q2, q3, q4, q5, q6⟩ := id V0
  cases a0 : (ad == 0)
  · have a1 : (ad != 0) = true := by simp [bne, a0]
    go_enter Tryz.func24, Tryz.ntmps24
    go_wp2_with (go_at_call_of 23 (Value.int .i64 3); refine (I0.out _).mono ?_; rintro e w' ⟨rfl, rfl⟩)
    go_ret
    first | exact ⟨rfl, D0⟩ | exact ⟨by simp, D0⟩
  have a1 : (ad != 0) = false := by simp [bne, a0]
  cases p0 : decide (0 < pl)
  · have p1 : decide ((0 : Int) < (pl : Int)) = false := by rw [← p0]; simp
    by_cases n3 : 3 < nb
    · have u3 : decide ((3 : Int) < (nb : Int)) = true := by simp; omega
      go_enter Tryz.func24, Tryz.ntmps24
      go_wp2_with (go_at_call_of 23 (Value.int .i64 3); refine (I0.out _).mono ?_; rintro e w' ⟨rfl, rfl⟩)
      go_ret
      first | exact ⟨rfl, D0⟩ | exact ⟨by simp, D0⟩
    have u3 : decide ((3 : Int) < (nb : Int)) = false := by simp; omega
    by_cases n0 : 0 < nb
    · have u0 : ((nb : Int) == 0) = false := by simp; omega
      go_enter Tryz.func24, Tryz.ntmps24
      go_wp2_with (go_at_call_of 23 (Value.int .i64 3); refine (I0.out _).mono ?_; rintro e w' ⟨rfl, rfl⟩)
      go_ret
      first | exact ⟨rfl, D0⟩ | exact ⟨by simp, D0⟩
    obtain rfl : nb = 0 := by omega
    clear n3 u3 n0
    by_cases r0 : 0 < nr
    · have v0 : decide ((0 : Int) < (nr : Int)) = true := by simp; omega
      by_cases t0 : 0 < nt
      · have z0 : decide ((0 : Int) < (nt : Int)) = true := by simp; omega
        go_enter Tryz.func24, Tryz.ntmps24
        go_wp2_with (go_at_call_of 23 (Value.int .i64 3); refine (I0.out _).mono ?_; rintro e w' ⟨rfl, rfl⟩)
        go_loopw [4] (fun i wr => i = .int .i64 0 ∧ wr = (w.alloc (.cells #[.string nm, .int .i64 3, .int .i64 ad, .int .u8 (pl : Int), .slice Ab 0 cb, .slice Ar nr cr, .slice At nt ct] 78))) (fun i _ => 0)
        case atStart => exact ⟨rfl, rfl⟩
        case round =>
          obtain ⟨rfl, rfl⟩ := hrel
          go_wp2_with fail
          go_ret
          first | exact ⟨rfl, D0⟩ | exact ⟨by simp, D0⟩
      have z0 : decide ((0 : Int) < (nt : Int)) = false := by simp; omega
      by_cases r8 : 8 < nr
      · have v8 : decide ((8 : Int) < (nr : Int)) = true := by simp; omega
        go_enter Tryz.func24, Tryz.ntmps24
        go_wp2_with (go_at_call_of 23 (Value.int .i64 3); refine (I0.out _).mono ?_; rintro e w' ⟨rfl, rfl⟩)
        go_loopw [4] (fun i wr => i = .int .i64 0 ∧ wr = (w.alloc (.cells #[.string nm, .int .i64 3, .int .i64 ad, .int .u8 (pl : Int), .slice Ab 0 cb, .slice Ar nr cr, .slice At nt ct] 78))) (fun i _ => 0)
        case atStart => exact ⟨rfl, rfl⟩
        case round =>
          obtain ⟨rfl, rfl⟩ := hrel
          go_wp2_with fail
          go_ret
          first | exact ⟨rfl, D0⟩ | exact ⟨by simp, D0⟩
      have v8 : decide ((8 : Int) < (nr : Int)) = false := by simp; omega
      go_enter Tryz.func24, Tryz.ntmps24
      go_wp2_with (go_at_call_of 23 (Value.int .i64 3); refine (I0.out _).mono ?_; rintro e w' ⟨rfl, rfl⟩)
      go_loopw [4] (fun i wr => i = .int .i64 0 ∧ wr = (w.alloc (.cells #[.string nm, .int .i64 3, .int .i64 ad, .int .u8 (pl : Int), .slice Ab 0 cb, .slice Ar nr cr, .slice At nt ct] 78))) (fun i _ => 0)
      case atStart => exact ⟨rfl, rfl⟩
      case round =>
        obtain ⟨rfl, rfl⟩ := hrel
        go_wp2_with fail
        refine (RT.out _ D0).mono ?_
        rintro e w2 ⟨rfl, hb2⟩
        have D2 := chnN hb2 D0
        go_wp2_with fail
        go_ret
        first | exact ⟨rfl, D2⟩ | exact ⟨by simp, D2⟩
    · have v0 : decide ((0 : Int) < (nr : Int)) = false := by simp; omega
      by_cases t0 : 0 < nt
      · have z0 : decide ((0 : Int) < (nt : Int)) = true := by simp; omega
        go_enter Tryz.func24, Tryz.ntmps24
        go_wp2_with (go_at_call_of 23 (Value.int .i64 3); refine (I0.out _).mono ?_; rintro e w' ⟨rfl, rfl⟩)
        go_loopw [4] (fun i wr => i = .int .i64 0 ∧ wr = (w.alloc (.cells #[.string nm, .int .i64 3, .int .i64 ad, .int .u8 (pl : Int), .slice Ab 0 cb, .slice Ar nr cr, .slice At nt ct] 78))) (fun i _ => 0)
        case atStart => exact ⟨rfl, rfl⟩
        case round =>
          obtain ⟨rfl, rfl⟩ := hrel
          go_wp2_with fail
          go_ret
          first | exact ⟨rfl, D0⟩ | exact ⟨by simp, D0⟩
      have z0 : decide ((0 : Int) < (nt : Int)) = false := by simp; omega
      have r8 : ¬ 8 < nr := by omega
      have v8 : decide ((8 : Int) < (nr : Int)) = false := by simp; omega
      go_enter Tryz.func24, Tryz.ntmps24
      go_wp2_with (go_at_call_of 23 (Value.int .i64 3); refine (I0.out _).mono ?_; rintro e w' ⟨rfl, rfl⟩)
      go_loopw [4] (fun i wr => i = .int .i64 0 ∧ wr = (w.alloc (.cells #[.string nm, .int .i64 3, .int .i64 ad, .int .u8 (pl : Int), .slice Ab 0 cb, .slice Ar nr cr, .slice At nt ct] 78))) (fun i _ => 0)
      case atStart => exact ⟨rfl, rfl⟩
      case round =>
        obtain ⟨rfl, rfl⟩ := hrel
        go_wp2_with fail
        refine (RT.out _ D0).mono ?_
        rintro e w2 ⟨rfl, hb2⟩
        have D2 := chnN hb2 D0
        go_wp2_with fail
        go_ret
        first | exact ⟨rfl, D2⟩ | exact ⟨by simp, D2⟩
  · have p1 : decide ((0 : Int) < (pl : Int)) = true := by rw [← p0]; simp
    go_enter Tryz.func24, Tryz.ntmps24
    go_wp2_with (go_at_call_of 23 (Value.int .i64 3); refine (I0.out _).mono ?_; rintro e w' ⟨rfl, rfl⟩)
    go_ret
    first | exact ⟨rfl, D0⟩ | exact ⟨by simp, D0⟩
set_option maxHeartbeats 4000000 in
set_option maxRecDepth 100000 in
theorem rdev_4 (nm : ByteArray) (ad : Int) (pl : Nat) (Ab Ar At : Option Addr) (nb cb nr cr nt ct : Nat) (c : Int) (w : World) 
    (RT : Hid (∀ W, Below w.heap.size w W → Calls Tryz.prog 64 #[.slice At nt ct] W fun e w' => e = .returned (.int .i64 c) ∧ Below W.heap.size W w')) :
    Calls Tryz.prog 24 #[.agg #[.string nm, .int .i64 4, .int .i64 ad, .int .u8 (pl : Int), .slice Ab nb cb, .slice Ar nr cr, .slice At nt ct]] w fun e w' => e = .returned (.int .i64 (if (!(decide (0 ≤ ad) && decide (ad ≤ 15))) || (decide (0 < pl) != true) then 1 else if 3 < nb then 2 else if 0 < nb then 1 else if (decide (0 < nr)) || (decide (0 < nt)) then 1 else if 8 < nr then 2 else c)) ∧ Below w.heap.size w w' := by
  have D0 := Below.alN (Below.refl w.heap.size w) (.cells #[.string nm, .int .i64 4, .int .i64 ad, .int .u8 (pl : Int), .slice Ab nb cb, .slice Ar nr cr, .slice At nt ct] 78)
  have I0 : Hid (∀ w, Calls Tryz.prog 23 #[.int .i64 4, .int .i64 1, .int .i64 5] w fun e w' => e = .returned (.bool true) ∧ w' = w) := fun w => inN 4 1 5 w
  have V0 := seven_new w (.string nm) (.int .i64 4) (.int .i64 ad) (.int .u8 (pl : Int)) (.slice Ab nb cb) (.slice Ar nr cr) (.slice At nt ct) 78
  obtain ⟨_, q0, q1, q2, q3, q4, q5, q6⟩ := id V0
  have I1 : Hid (∀ w, Calls Tryz.prog 23 #[.int .i64 ad, .int .i64 0, .int .i64 15] w fun e w' => e = .returned (.bool (decide (0 ≤ ad) && decide (ad ≤ 15))) ∧ w' = w) := fun w => inN ad 0 15 w
  generalize (decide (0 ≤ ad) && decide (ad ≤ 15)) = x0 at *
  cases x0
  · go_enter Tryz.func24, Tryz.ntmps24
    go_wp2_with (first | (go_at_call_of 23 (Value.int .i64 4); refine (I0.out _).mono ?_; rintro e w' ⟨rfl, rfl⟩) | (go_at_call_of 23 (Value.int .i64 ad); refine (I1.out _).mono ?_; rintro e w' ⟨rfl, rfl⟩))
    go_ret
    first | exact ⟨rfl, D0⟩ | exact ⟨by simp, D0⟩
  cases p0 : decide (0 < pl)
  · have p1 : decide ((0 : Int) < (pl : Int)) = false := by rw [← p0]; simp
    go_enter Tryz.func24, Tryz.ntmps24
    go_wp2_with (first | (go_at_call_of 23 (Value.int .i64 4); refine (I0.out _).mono ?_; rintro e w' ⟨rfl, rfl⟩) | (go_at_call_of 23 (Value.int .i64 ad); refine (I1.out _).mono ?_; rintro e w' ⟨rfl, rfl⟩))
    go_ret
    first | exact ⟨rfl, D0⟩ | exact ⟨by simp, D0⟩
  · have p1 : decide ((0 : Int) < (pl : Int)) = true := by rw [← p0]; simp
    by_cases n3 : 3 < nb
    · have u3 : decide ((3 : Int) < (nb : Int)) = true := by simp; omega
      go_enter Tryz.func24, Tryz.ntmps24
      go_wp2_with (first | (go_at_call_of 23 (Value.int .i64 4); refine (I0.out _).mono ?_; rintro e w' ⟨rfl, rfl⟩) | (go_at_call_of 23 (Value.int .i64 ad); refine (I1.out _).mono ?_; rintro e w' ⟨rfl, rfl⟩))
      go_ret
      first | exact ⟨rfl, D0⟩ | exact ⟨by simp, D0⟩
    have u3 : decide ((3 : Int) < (nb : Int)) = false := by simp; omega
    by_cases n0 : 0 < nb
    · have u0 : ((nb : Int) == 0) = false := by simp; omega
      go_enter Tryz.func24, Tryz.ntmps24
      go_wp2_with (first | (go_at_call_of 23 (Value.int .i64 4); refine (I0.out _).mono ?_; rintro e w' ⟨rfl, rfl⟩) | (go_at_call_of 23 (Value.int .i64 ad); refine (I1.out _).mono ?_; rintro e w' ⟨rfl, rfl⟩))
      go_ret
      first | exact ⟨rfl, D0⟩ | exact ⟨by simp, D0⟩
    obtain rfl : nb = 0 := by omega
    clear n3 u3 n0
    by_cases r0 : 0 < nr
    · have v0 : decide ((0 : Int) < (nr : Int)) = true := by simp; omega
      go_enter Tryz.func24, Tryz.ntmps24
      go_wp2_with (first | (go_at_call_of 23 (Value.int .i64 4); refine (I0.out _).mono ?_; rintro e w' ⟨rfl, rfl⟩) | (go_at_call_of 23 (Value.int .i64 ad); refine (I1.out _).mono ?_; rintro e w' ⟨rfl, rfl⟩))
      go_loopw [4] (fun i wr => i = .int .i64 0 ∧ wr = (w.alloc (.cells #[.string nm, .int .i64 4, .int .i64 ad, .int .u8 (pl : Int), .slice Ab 0 cb, .slice Ar nr cr, .slice At nt ct] 78))) (fun i _ => 0)
      case atStart => exact ⟨rfl, rfl⟩
      case round =>
        obtain ⟨rfl, rfl⟩ := hrel
        go_wp2_with fail
        go_ret
        first | exact ⟨rfl, D0⟩ | exact ⟨by simp, D0⟩
    have v0 : decide ((0 : Int) < (nr : Int)) = false := by simp; omega
    by_cases t0 : 0 < nt
    · have z0 : decide ((0 : Int) < (nt : Int)) = true := by simp; omega
      go_enter Tryz.func24, Tryz.ntmps24
      go_wp2_with (first | (go_at_call_of 23 (Value.int .i64 4); refine (I0.out _).mono ?_; rintro e w' ⟨rfl, rfl⟩) | (go_at_call_of 23 (Value.int .i64 ad); refine (I1.out _).mono ?_; rintro e w' ⟨rfl, rfl⟩))
      go_loopw [4] (fun i wr => i = .int .i64 0 ∧ wr = (w.alloc (.cells #[.string nm, .int .i64 4, .int .i64 ad, .int .u8 (pl : Int), .slice Ab 0 cb, .slice Ar nr cr, .slice At nt ct] 78))) (fun i _ => 0)
      case atStart => exact ⟨rfl, rfl⟩
      case round =>
        obtain ⟨rfl, rfl⟩ := hrel
        go_wp2_with fail
        go_ret
        first | exact ⟨rfl, D0⟩ | exact ⟨by simp, D0⟩
    have z0 : decide ((0 : Int) < (nt : Int)) = false := by simp; omega
    have r8 : ¬ 8 < nr := by omega
    have v8 : decide ((8 : Int) < (nr : Int)) = false := by simp; omega
    go_enter Tryz.func24, Tryz.ntmps24
    go_wp2_with (first | (go_at_call_of 23 (Value.int .i64 4); refine (I0.out _).mono ?_; rintro e w' ⟨rfl, rfl⟩) | (go_at_call_of 23 (Value.int .i64 ad); refine (I1.out _).mono ?_; rintro e w' ⟨rfl, rfl⟩))
    go_loopw [4] (fun i wr => i = .int .i64 0 ∧ wr = (w.alloc (.cells #[.string nm, .int .i64 4, .int .i64 ad, .int .u8 (pl : Int), .slice Ab 0 cb, .slice Ar nr cr, .slice At nt ct] 78))) (fun i _ => 0)
    case atStart => exact ⟨rfl, rfl⟩
    case round =>
      obtain ⟨rfl, rfl⟩ := hrel
      go_wp2_with fail
      refine (RT.out _ D0).mono ?_
      rintro e w2 ⟨rfl, hb2⟩
      have D2 := chnN hb2 D0
      go_wp2_with fail
      go_ret
      first | exact ⟨rfl, D2⟩ | exact ⟨by simp, D2⟩
end Go.Proofs.YtgmjlkllghlmmaaGreat

namespace Go.Proofs.YtgmjlkllghlmmaaGreat
open Go.RowKit

set_option maxHeartbeats 8000000 in
set_option maxRecDepth 100000 in
theorem rdev_5 (nm : ByteArray) (ad : Int) (pl : Nat) (Ab Ar At : Option Addr) (bs : List Int) (cb nr cr nt ct : Nat) (c : Int) (w : World) (hcap : bs.length ≤ cb) (hmax : cb ≤ maxLen) (hB : Hid (SlAt w.heap.size w 1 IsI (.slice Ab bs.length cb) bs))
    (RT : Hid (∀ W, Below w.heap.size w W → Calls Tryz.prog 64 #[.slice At nt ct] W fun e w' => e = .returned (.int .i64 c) ∧ Below W.heap.size W w')) :
    Calls Tryz.prog 24 #[.agg #[.string nm, .int .i64 5, .int .i64 ad, .int .u8 (pl : Int), .slice Ab bs.length cb, .slice Ar nr cr, .slice At nt ct]] w fun e w' => e = .returned (.int .i64 (if (!(decide (0 ≤ ad) && decide (ad ≤ 15))) || (decide (0 < pl) != false) then 1 else if 3 < bs.length then 2 else if bs.length = 0 then 1 else if backsFrom bs ad 0 = 1 then 1 else if (decide (0 < nr)) || (decide (0 < nt)) then 1 else c)) ∧ Below w.heap.size w w' := by
  unfold maxLen at hmax
  have D0 := Below.alN (Below.refl w.heap.size w) (.cells #[.string nm, .int .i64 5, .int .i64 ad, .int .u8 (pl : Int), .slice Ab bs.length cb, .slice Ar nr cr, .slice At nt ct] 78)
  have I0 : Hid (∀ w, Calls Tryz.prog 23 #[.int .i64 5, .int .i64 1, .int .i64 5] w fun e w' => e = .returned (.bool true) ∧ w' = w) := fun w => inN 5 1 5 w
  have V0 := seven_new w (.string nm) (.int .i64 5) (.int .i64 ad) (.int .u8 (pl : Int)) (.slice Ab bs.length cb) (.slice Ar nr cr) (.slice At nt ct) 78
  have I1 : Hid (∀ w, Calls Tryz.prog 23 #[.int .i64 ad, .int .i64 0, .int .i64 15] w fun e w' => e = .returned (.bool (decide (0 ≤ ad) && decide (ad ≤ 15))) ∧ w' = w) := fun w => inN ad 0 15 w
  obtain ⟨_, q0, q1, q2, q3, q4, q5, q6⟩ := id V0
  generalize (decide (0 ≤ ad) && decide (ad ≤ 15)) = x0 at *
  cases x0
  · go_enter Tryz.func24, Tryz.ntmps24
    go_wp2_with (first | (go_at_call_of 23 (Value.int .i64 5); refine (I0.out _).mono ?_; rintro e w' ⟨rfl, rfl⟩) | (go_at_call_of 23 (Value.int .i64 ad); refine (I1.out _).mono ?_; rintro e w' ⟨rfl, rfl⟩))
    go_ret
    first | exact ⟨rfl, D0⟩ | exact ⟨by simp, D0⟩
  cases p0 : decide (0 < pl)
  · have p1 : decide ((0 : Int) < (pl : Int)) = false := by rw [← p0]; simp
    by_cases n3 : 3 < bs.length
    · have u3 : decide ((3 : Int) < (bs.length : Int)) = true := by simp; omega
      go_enter Tryz.func24, Tryz.ntmps24
      go_wp2_with (first | (go_at_call_of 23 (Value.int .i64 5); refine (I0.out _).mono ?_; rintro e w' ⟨rfl, rfl⟩) | (go_at_call_of 23 (Value.int .i64 ad); refine (I1.out _).mono ?_; rintro e w' ⟨rfl, rfl⟩))
      go_ret
      first | exact ⟨rfl, D0⟩ | exact ⟨by simp, D0⟩
    have u3 : decide ((3 : Int) < (bs.length : Int)) = false := by simp; omega
    by_cases n0 : bs.length = 0
    · have e := List.length_eq_zero_iff.1 n0
      subst e
      clear n0 n3 u3
      go_enter Tryz.func24, Tryz.ntmps24
      go_wp2_with (first | (go_at_call_of 23 (Value.int .i64 5); refine (I0.out _).mono ?_; rintro e w' ⟨rfl, rfl⟩) | (go_at_call_of 23 (Value.int .i64 ad); refine (I1.out _).mono ?_; rintro e w' ⟨rfl, rfl⟩))
      go_ret
      first | exact ⟨rfl, D0⟩ | exact ⟨by simp, D0⟩
    have u0 : ((bs.length : Int) == 0) = false := by simp; exact fun e => n0 (by rw [e]; rfl)
    have FIN : Hid ((if (!true) || (false != false) then (1 : Int) else if 3 < bs.length then 2 else if bs.length = 0 then 1 else if backsFrom bs ad 0 = 1 then 1 else if (decide (0 < nr)) || (decide (0 < nt)) then 1 else c) = if backsFrom bs ad 0 = 1 then 1 else if (decide (0 < nr)) || (decide (0 < nt)) then 1 else c) := by
      show _ = _
      rw [if_neg (by simp), if_neg n3, if_neg n0]
    rw [FIN.out]
    clear FIN n3 n0
    generalize hres : (if backsFrom bs ad 0 = 1 then (1 : Int) else if (decide (0 < nr)) || (decide (0 < nt)) then 1 else c) = res
    have HR : Hid (res = if backsFrom bs ad 0 = 1 then (1 : Int) else if (decide (0 < nr)) || (decide (0 < nt)) then 1 else c) := hres.symm
    clear hres
    go_enter Tryz.func24, Tryz.ntmps24
    go_wp2_with (first | (go_at_call_of 23 (Value.int .i64 5); refine (I0.out _).mono ?_; rintro e w' ⟨rfl, rfl⟩) | (go_at_call_of 23 (Value.int .i64 ad); refine (I1.out _).mono ?_; rintro e w' ⟨rfl, rfl⟩))
    clear I0 I1
    go_loopw [4] (fun i wr => ∃ k : Nat, i = .int .i64 (k : Int) ∧ k ≤ bs.length ∧ Below w.heap.size w wr ∧ Seven wr w.heap.size (.string nm) (.int .i64 5) (.int .i64 ad) (.int .u8 (pl : Int)) (.slice Ab bs.length cb) (.slice Ar nr cr) (.slice At nt ct) ∧ Hid (backsFrom bs ad 0 = backsFrom bs ad k)) (fun i _ => bs.length - (intOf i).toNat)
    case atStart => exact ⟨0, rfl, by omega, D0, V0, rfl⟩
    case round =>
      clear D0 V0 q0 q1 q2 q3 q4 q5 q6
      obtain ⟨k, rfl, hk, D1, V1, hl⟩ := hrel
      obtain ⟨lV, q0, q1, q2, q3, q4, q5, q6⟩ := id V1
      by_cases hlt : k < bs.length
      · obtain ⟨x, hxk⟩ : ∃ x, bs[k]? = some x := ⟨_, List.getElem?_eq_getElem hlt⟩
        obtain ⟨b, o, rfl, hb, hcell⟩ := Ints.at (SlAt.below hB.out D1 (fun _ _ _ h => h)) hxk
        have cx := hcell k x hxk
        have IX : Hid (∀ w, Calls Tryz.prog 23 #[.int .i64 x, .int .i64 0, .int .i64 15] w fun e w' => e = .returned (.bool (decide (0 ≤ x) && decide (x ≤ 15))) ∧ w' = w) := fun w => inN x 0 15 w
        have Hd : Hid (backsFrom bs ad k = if (decide (0 ≤ x) && decide (x ≤ 15)) && !(x == ad) && !((bs.take k).any (fun y => y == x)) then backsFrom bs ad (k + 1) else 1) := backsFrom_at hxk
        have k1 : (0 : Int) ≤ (k : Int) := by omega
        have k2 : (k : Int) < (bs.length : Int) := by omega
        have HC : Hid (∀ j y, bs[j]? = some y → wr.cell? ⟨b, o + j, none⟩ = some (.int .i64 y)) := hcell
        have HX : Hid (bs[k]? = some x) := hxk
        clear hcell hxk
        generalize (decide (0 ≤ x) && decide (x ≤ 15)) = y0 at *
        cases y0
        · have hb1 : Hid (res = 1) := by show _ = _; rw [HR.out, hl.out, Hd.out]; simp
          clear HR Hd hl
          go_wp2_with fail
          go_quiet ((go_at_call 23; exact Calls.quiet_of_same (IX.out _)))
          go_wp2_with fail
          go_ret
          exact ⟨by rw [hb1.out]; rfl, belowNN D1 _⟩
        cases y1 : (x == ad)
        · go_wp2_with fail
          go_quiet ((go_at_call 23; exact Calls.quiet_of_same (IX.out _)))
          go_wp2_with fail
          go_loopw [5] (fun i wr => ∃ j : Nat, i = .int .i64 (j : Int) ∧ j ≤ k ∧ Below w.heap.size w wr ∧ Seven wr w.heap.size (.string nm) (.int .i64 5) (.int .i64 ad) (.int .u8 (pl : Int)) (.slice (some ⟨b, o, none⟩) bs.length cb) (.slice Ar nr cr) (.slice At nt ct) ∧ Hid ((bs.take j).any (fun y => y == x) = false)) (fun i _ => k - (intOf i).toNat)
          case atStart => exact ⟨0, rfl, by omega, belowNN D1 _, V1.below (belowNN (Below.refl wr.heap.size wr) _) lV, rfl⟩
          case round =>
            clear D1 V1 q0 q1 q2 q3 q4 q5 q6 cx HC lV
            obtain ⟨j, rfl, hj, D1, V1, hno⟩ := hrel
            obtain ⟨lV, q0, q1, q2, q3, q4, q5, q6⟩ := id V1
            by_cases hjk : j < k
            · obtain ⟨y, hyj⟩ : ∃ y, bs[j]? = some y := ⟨_, List.getElem?_eq_getElem (by omega)⟩
              obtain ⟨b', o', e', _, hcell⟩ := Ints.at (SlAt.below hB.out D1 (fun _ _ _ h => h)) hyj
              cases e'
              have cx := hcell k x HX.out
              have cy := hcell j y hyj
              have j1 : (0 : Int) ≤ (j : Int) := by omega
              have j2 : (j : Int) < (bs.length : Int) := by omega
              cases z0 : (y == x)
              · have Hn : Hid ((bs.take (j + 1)).any (fun z => z == x) = false) := by show _ = _; rw [any_takeI hyj, hno.out, z0]; rfl
                clear hcell hyj hno
                go_wp2_with fail
                go_quiet (fail)
                go_wp2_with fail
                go_roundw
                case rel => exact ⟨j + 1, by go_num, by omega, belowNN D1 _, V1.below (belowNN (Below.refl wr.heap.size wr) _) lV, Hn⟩
                case measure => simp [intOf]; omega
              · have hany : (bs.take k).any (fun z => z == x) = true := List.any_eq_true.2 ⟨y, List.mem_of_getElem? (i := j) (by rw [List.getElem?_take, if_pos hjk]; exact hyj), z0⟩
                have hb1 : Hid (res = 1) := by show _ = _; rw [HR.out, hl.out, Hd.out, y1, hany]; simp
                clear HR Hd hl hcell hyj hno hany
                go_wp2_with fail
                go_quiet (fail)
                go_wp2_with fail
                go_ret
                exact ⟨by rw [hb1.out]; rfl, belowNN D1 _⟩
            · obtain rfl : j = k := by omega
              have Hn : Hid (backsFrom bs ad 0 = backsFrom bs ad (j + 1)) := by show _ = _; rw [hl.out, Hd.out, y1, hno.out]; simp
              clear hl Hd hno
              go_wp2_with fail
              go_roundw
              case rel => exact ⟨j + 1, by go_num, by omega, D1, V1, Hn⟩
              case measure => simp [intOf]; omega
        · have hb1 : Hid (res = 1) := by show _ = _; rw [HR.out, hl.out, Hd.out, y1]; simp
          clear HR Hd hl
          go_wp2_with fail
          go_quiet ((go_at_call 23; exact Calls.quiet_of_same (IX.out _)))
          go_wp2_with fail
          go_ret
          exact ⟨by rw [hb1.out]; rfl, belowNN D1 _⟩
      · have h0 : backsFrom bs ad 0 = 0 := by rw [hl.out, backsFrom_end (by omega)]
        clear hl
        by_cases r0 : 0 < nr
        · have v0 : decide ((0 : Int) < (nr : Int)) = true := by simp; omega
          have hb1 : Hid (res = 1) := by show _ = _; rw [HR.out, h0]; simp [r0]
          clear HR h0
          go_wp2_with fail
          go_ret
          exact ⟨by rw [hb1.out]; rfl, D1⟩
        have v0 : decide ((0 : Int) < (nr : Int)) = false := by simp; omega
        by_cases t0 : 0 < nt
        · have z0 : decide ((0 : Int) < (nt : Int)) = true := by simp; omega
          have hb1 : Hid (res = 1) := by show _ = _; rw [HR.out, h0]; simp [t0]
          clear HR h0
          go_wp2_with fail
          go_ret
          exact ⟨by rw [hb1.out]; rfl, D1⟩
        have z0 : decide ((0 : Int) < (nt : Int)) = false := by simp; omega
        have r8 : ¬ 8 < nr := by omega
        have v8 : decide ((8 : Int) < (nr : Int)) = false := by simp; omega
        have hb1 : Hid (res = c) := by show _ = _; rw [HR.out, h0]; simp [r0, t0]
        clear HR h0
        go_wp2_with fail
        refine (RT.out _ D1).mono ?_
        rintro e w2 ⟨rfl, hb2⟩
        have D2 := chnN hb2 D1
        go_wp2_with fail
        go_ret
        exact ⟨by rw [hb1.out]; rfl, D2⟩
  · have p1 : decide ((0 : Int) < (pl : Int)) = true := by rw [← p0]; simp
    go_enter Tryz.func24, Tryz.ntmps24
    go_wp2_with (first | (go_at_call_of 23 (Value.int .i64 5); refine (I0.out _).mono ?_; rintro e w' ⟨rfl, rfl⟩) | (go_at_call_of 23 (Value.int .i64 ad); refine (I1.out _).mono ?_; rintro e w' ⟨rfl, rfl⟩))
    go_ret
    first | exact ⟨rfl, D0⟩ | exact ⟨by simp, D0⟩
end Go.Proofs.YtgmjlkllghlmmaaGreat

namespace Go.Proofs.YtgmjlkllghlmmaaGreat
open Go.RowKit

set_option maxHeartbeats 1000000 in
set_option maxRecDepth 100000 in
theorem rdev_none (nm : ByteArray) (k ad : Int) (pl : Nat) (vb vr vt : Value) (w : World) (h : ¬ (1 ≤ k ∧ k ≤ 5)) :
    Calls Tryz.prog 24 #[.agg #[.string nm, .int .i64 k, .int .i64 ad, .int .u8 (pl : Int), vb, vr, vt]] w fun e w' => e = .returned (.int .i64 1) ∧ Below w.heap.size w w' := by
  have D0 := Below.alN (Below.refl w.heap.size w) (.cells #[.string nm, .int .i64 k, .int .i64 ad, .int .u8 (pl : Int), vb, vr, vt] 78)
  have I0 : Hid (∀ w, Calls Tryz.prog 23 #[.int .i64 k, .int .i64 1, .int .i64 5] w fun e w' => e = .returned (.bool false) ∧ w' = w) := fun w => by
    have := inN k 1 5 w
    rw [show (decide (1 ≤ k) && decide (k ≤ 5)) = false by
      rw [Bool.eq_false_iff]
      simp only [ne_eq, Bool.and_eq_true, decide_eq_true_eq]
      exact h] at this
    exact this
  clear h
  go_enter Tryz.func24, Tryz.ntmps24
  go_wp2_with (go_at_call 23; refine (I0.out _).mono ?_; rintro e w' ⟨rfl, rfl⟩)
  go_ret
  exact ⟨rfl, D0⟩
/-- The document's check of a device. -/
theorem rdevice_any (d : Dv) (vb vr vt : Value) (c : Int) (w : World) (hb : SlAt w.heap.size w 1 IsI vb d.backs) (hr : SlAt w.heap.size w 5 IsRule vr d.rules) (ht : SlAt w.heap.size w 3 IsRoute vt d.routes)
    (RT : Hid (∀ W, Below w.heap.size w W → Calls Tryz.prog 64 #[vt] W fun e w' => e = .returned (.int .i64 c) ∧ Below W.heap.size W w')) :
    Calls Tryz.prog 24 #[.agg #[.string d.name, .int .i64 d.kind, .int .i64 d.addr, .int .u8 (d.pool : Int), vb, vr, vt]] w fun e w' => e = .returned (.int .i64 (devV d.kind d.addr d.pool d.backs d.rules.length d.routes.length c)) ∧ Below w.heap.size w w' := by
  obtain ⟨nm, k, ad, pl, bs, rs, ts, _, _⟩ := d
  simp only at hb hr ht ⊢
  have hb0 := hb
  obtain ⟨Ab, cb, rfl, _, b1, b2, _⟩ := hb
  obtain ⟨Ar, cr, rfl, _, _, _, _⟩ := hr
  obtain ⟨At, ct, rfl, _, _, _, _⟩ := ht
  by_cases hk : 1 ≤ k ∧ k ≤ 5
  · have e0 : (decide (1 ≤ k) && decide (k ≤ 5)) = true := by simp [hk]
    have hkk : k = 1 ∨ k = 2 ∨ k = 3 ∨ k = 4 ∨ k = 5 := by omega
    have nil : bs.length = 0 → backsFrom bs ad 0 = 0 := fun h => backsFrom_end (by omega)
    rcases hkk with rfl | rfl | rfl | rfl | rfl
    · refine (rdev_1 nm ad pl Ab Ar At bs.length cb rs.length cr ts.length ct c w RT).mono fun e w' ⟨e1, e2⟩ => ⟨?_, e2⟩
      rw [e1]
      congr 2
      unfold devV hasAddr
      by_cases n0 : bs.length = 0
      · simp [n0, nil n0]
      · simp [n0, Nat.pos_of_ne_zero n0]
    · refine (rdev_2 nm ad pl Ab Ar At bs.length cb rs.length cr ts.length ct c w RT).mono fun e w' ⟨e1, e2⟩ => ⟨?_, e2⟩
      rw [e1]
      congr 2
      unfold devV hasAddr
      by_cases n0 : bs.length = 0
      · simp [n0, nil n0]
      · simp [n0, Nat.pos_of_ne_zero n0]
    · refine (rdev_3 nm ad pl Ab Ar At bs.length cb rs.length cr ts.length ct c w RT).mono fun e w' ⟨e1, e2⟩ => ⟨?_, e2⟩
      rw [e1]
      congr 2
      unfold devV hasAddr
      by_cases n0 : bs.length = 0
      · simp [n0, nil n0]
      · simp [n0, Nat.pos_of_ne_zero n0]
    · refine (rdev_4 nm ad pl Ab Ar At bs.length cb rs.length cr ts.length ct c w RT).mono fun e w' ⟨e1, e2⟩ => ⟨?_, e2⟩
      rw [e1]
      congr 2
      unfold devV hasAddr
      by_cases n0 : bs.length = 0
      · simp [n0, nil n0]
      · simp [n0, Nat.pos_of_ne_zero n0]
    · refine (rdev_5 nm ad pl Ab Ar At bs cb rs.length cr ts.length ct c w b1 b2 hb0 RT).mono fun e w' ⟨e1, e2⟩ => ⟨?_, e2⟩
      rw [e1]
      congr 2
      unfold devV hasAddr
      by_cases r8 : 8 < rs.length
      · simp [Nat.lt_trans (show 0 < 8 by omega) r8]
      · simp [r8]
  · refine (rdev_none nm k ad pl _ _ _ w hk).mono fun e w' ⟨e1, e2⟩ => ⟨?_, e2⟩
    rw [e1]
    unfold devV
    rw [if_pos]
    rw [Bool.not_eq_true', Bool.eq_false_iff]
    simp only [ne_eq, Bool.and_eq_true, decide_eq_true_eq]
    exact hk
end Go.Proofs.YtgmjlkllghlmmaaGreat
