/-
  Rest, and some.
-/
import Derived.Test.YtgcimcpcnoojnaaWalk14
namespace Go.Proofs.Ytgcimcpcnoojnaa
open Go.RowKit Go.Maps

theorem rest_any (w : World) (n : Int) (m : Nat) (hm : 0 < m) (hm2 : m < 1000) :
    Calls Try.prog 39 #[.int .i64 n, .int .i64 (m : Int)] w fun e w' => e = .returned (.int .i64 (n % (m : Int))) ∧ w' = w := by
  have hm0 : ((m : Int) == 0) = false := by simp; omega
  have hmne : (m : Int) ≠ 0 := by omega
  have b1 := Int.emod_nonneg n hmne
  have b2 := Int.emod_lt_of_pos n (b := (m : Int)) (by omega)
  have key : n.tmod (m : Int) = n % (m : Int) ∨ n.tmod (m : Int) = n % (m : Int) - (m : Int) := by
    rw [Int.tmod_eq_emod]
    split
    · exact Or.inl (by omega)
    · exact Or.inr (by simp)
  have hw : IntKind.i64.wrap (n.tmod (m : Int)) = n.tmod (m : Int) := IntWalk.i64_in _ (by omega)
  have key' := Hq.mk key
  clear key
  go_enter Try.func39, Try.ntmps39
  go_wp2_with fail
  · have hlt : n.tmod (m : Int) < 0 := by assumption
    have e : n.tmod (m : Int) + (m : Int) = n % (m : Int) := by rcases key'.out with k | k <;> omega
    have e2 : wrap64 (n.tmod (m : Int) + (m : Int)) = n % (m : Int) := by rw [e, ← IntWalk.i64_left]; exact IntWalk.i64_in _ (by omega)
    go_ret
    refine ⟨?_, rfl⟩
    show Ending.returned (Value.int .i64 (wrap64 (n.tmod (m : Int) + (m : Int)))) = _
    rw [e2]
  · have hge : 0 ≤ n.tmod (m : Int) := by assumption
    have e : n.tmod (m : Int) = n % (m : Int) := by rcases key'.out with k | k <;> omega
    go_ret
    refine ⟨?_, rfl⟩
    show Ending.returned (Value.int .i64 (n.tmod (m : Int))) = _
    rw [e]

/-- A slice of ops, of which n are looked at, below block number base. -/
def OpsAt (base : Nat) (w : World) (lb lo n : Nat) (xs : Nat → Int × Int) : Prop :=
  lb < base ∧ ∀ k, k < n → ∃ p q, w.cell? ⟨lb, lo + k * 4, none⟩ = some (.int .i64 (xs k).1) ∧ w.cell? ⟨lb, lo + k * 4 + 1, none⟩ = some (.int .i64 (xs k).2) ∧ w.cell? ⟨lb, lo + k * 4 + 2, none⟩ = some (.int .i64 p) ∧ w.cell? ⟨lb, lo + k * 4 + 3, none⟩ = some (.int .i64 q)

theorem OpsAt.below {base : Nat} {w w' : World} {lb lo n : Nat} {xs : Nat → Int × Int} (h : OpsAt base w lb lo n xs) (hb : Below base w w') : OpsAt base w' lb lo n xs := by
  obtain ⟨h0, h⟩ := h
  refine ⟨h0, fun k hk => ?_⟩
  obtain ⟨p, q, c0, c1, c2, c3⟩ := h k hk
  exact ⟨p, q, (hb.cell (p := ⟨lb, _, none⟩) h0).trans c0, (hb.cell (p := ⟨lb, _, none⟩) h0).trans c1, (hb.cell (p := ⟨lb, _, none⟩) h0).trans c2, (hb.cell (p := ⟨lb, _, none⟩) h0).trans c3⟩

/-- What an arena's call leaves of what lies below the arena. -/
theorem Kp.below {base a M vars most : Nat} {w w' : World} {ns : List Nd} (h : Kp (ca base a M vars most) w w') (ha : Ar base a M vars most w ns) : Below base w w' := by
  obtain ⟨_, _, rb, rl⟩ := ha.row
  have la := ha.lta
  have lM := ha.ltM
  have k1 := ha.lowA
  have k2 := ha.lowM
  refine ⟨h.os, h.tape, h.output, h.size, fun i hi => h.blk i (by omega) ?_ (by show i ≠ rowOf w a; omega)⟩
  rintro (e | e | e | e | e | e)
  · have e' : i = a := e; omega
  · have e' : i = a := e; omega
  · have e' : i = M := e; omega
  · cases e
  · cases e
  · cases e

/-- There is room: a call tells its function. -/
theorem OpPost.ok {base a M vars most : Nat} {w w' : World} {ns : List Nd} {g : Nat} {φ : Env → Bool} {e : Ending} (h : OpPost base a M vars most w ns g φ e w') (ha : Ar base a M vars most w ns) (hg : ns.length + g < most) :
    ∃ (f : Nat) (ns' : List Nd), e = .returned (.tuple #[.int .i64 (f : Int), .int .i64 0]) ∧ Ar base a M vars most w' ns' ∧ Kp (ca base a M vars most) w w' ∧ Below base w w' ∧ Ext ns ns' ∧ ns'.length ≤ ns.length + g ∧ f < ns'.length ∧ ∀ x, ev ns' f x = φ x := by
  obtain ⟨ns', r1, r2, r3, r4, ⟨f, e1, e2, e3⟩ | ⟨_, r5⟩⟩ := h
  · exact ⟨f, ns', e1, r1, r2, r2.below ha, r3, r4, e2, e3⟩
  · omega

set_option maxHeartbeats 1000000 in
set_option maxRecDepth 100000 in
/-- some, of no ops. -/
theorem some_none (w : World) (p : Value) (A : Option Addr) (cap : Nat) (vars : Nat) :
    Calls Try.prog 38 #[p, .slice A 0 cap, .int .i64 (vars : Int)] w fun e w' => e = .returned (.int .i64 0) ∧ w' = w := by
  go_enter Try.func38, Try.ntmps38
  go_wp2_with fail
  go_loop [7, 18] (fun f i => f = .int .i64 0 ∧ i = .int .i64 0) (fun _ _ => 0)
  case atStart => exact ⟨rfl, rfl⟩
  case round =>
    obtain ⟨rfl, rfl⟩ := hrel
    go_wp2_with fail
    go_ret
    exact ⟨rfl, rfl⟩

theorem rest_nat (w : World) (n : Int) (m : Nat) (hm : 0 < m) (hm2 : m < 1000) :
    Calls Try.prog 39 #[.int .i64 n, .int .i64 (m : Int)] w fun e w' => ∃ i : Nat, e = .returned (.int .i64 (i : Int)) ∧ i < m ∧ w' = w := by
  refine (rest_any w n m hm hm2).mono ?_
  rintro e w' ⟨rfl, rfl⟩
  have b1 := Int.emod_nonneg n (b := (m : Int)) (by omega)
  have b2 := Int.emod_lt_of_pos n (b := (m : Int)) (by omega)
  exact ⟨(n % (m : Int)).toNat, by rw [Int.toNat_of_nonneg b1], by omega, rfl⟩

theorem Ar.kalloc {base a M vars most : Nat} {w : World} {ns : List Nd} (h : Ar base a M vars most w ns) (o : Obj) : Kp (ca base a M vars most) w (w.alloc o) :=
  ⟨rfl, rfl, rfl, by simp, fun i hi _ _ => Below.heap_alloc w o i hi, Or.inl (rowOf_same (Below.heap_alloc w o _ h.lta))⟩
theorem Ar.loc {base a M vars most : Nat} {w : World} {ns : List Nd} (h : Ar base a M vars most w ns) (cs : Array Value) (t : TypeId) : Loc (ca base a M vars most) (w.alloc (.cells cs t)) w.heap.size cs t := by
  have la := h.lta
  have lM := h.ltM
  obtain ⟨_, _, _, rl⟩ := h.row
  refine ⟨⟨by simp, ?_, fun e => ?_⟩, Go.heap_alloc_new w _⟩
  · rintro (e | e | e | e | e | e)
    · have e' : w.heap.size = a := e; omega
    · have e' : w.heap.size = a := e; omega
    · have e' : w.heap.size = M := e; omega
    · cases e
    · cases e
    · cases e
  · have e' : w.heap.size = rowOf (w.alloc (.cells cs t)) a := e
    rw [rowOf_same (Below.heap_alloc w _ _ la)] at e'
    omega
theorem Loc.reads4 {C : Cfg} {w : World} {i : Nat} {x y z u : Value} {t : TypeId} (h : Loc C w i #[x, y, z, u] t) : w.cell? ⟨i, 0, none⟩ = some x ∧ w.cell? ⟨i, 1, none⟩ = some y := by
  have hb := h.blk
  refine ⟨?_, ?_⟩
  · rw [cell_of_row w i 0 _ _ _ hb]; rfl
  · rw [cell_of_row w i 1 _ _ _ hb]; rfl

set_option maxHeartbeats 4000000 in
set_option maxRecDepth 100000 in
/-- some. -/
theorem some_ok {base a M : Nat} {w : World} {ns : List Nd} (h : Ar base a M 6 40000 w ns) {lb lo n cap : Nat} {xs : Nat → Int × Int} (ho : OpsAt base w lb lo n xs) (hn : n ≤ cap) (hcap : cap ≤ maxLen) (hlen : ns.length ≤ 10000) :
    Calls Try.prog 38 #[.pointer (some ⟨a, 0, none⟩), .slice (some ⟨lb, lo, none⟩) n cap, .int .i64 6] w fun e w' => ∃ (f : Nat) (ns' : List Nd), e = .returned (.int .i64 (f : Int)) ∧ Ar base a M 6 40000 w' ns' ∧ Below base w w' ∧ Ext ns ns' ∧ ns'.length ≤ ns.length + 768 ∧ f < ns'.length := by
  have hl2 := h.wf.len
  unfold maxLen at hcap
  have hmn : ∀ (ts : Array TypeId) (t : TypeId) (W : World), (Builtin.min_ ts t #[.int .i64 12, .int .i64 (n : Int)]).run Try.prog W = .ok (.int .i64 ((min 12 n : Nat) : Int)) W := fun ts t W => run_min2 12 n ts t W
  have hm12 : min 12 n ≤ 12 := by omega
  have hmle : min 12 n ≤ n := by omega
  generalize min 12 n = m at *
  go_enter Try.func38, Try.ntmps38
  go_wp2_with fail
  go_loopw [7, 18] (fun f i wr => ∃ (k F : Nat) (ns1 : List Nd), k ≤ m ∧ i = .int .i64 (k : Int) ∧ f = .int .i64 (F : Int) ∧ F < ns1.length ∧ Ar base a M 6 40000 wr ns1 ∧ Below base w wr ∧ Ext ns ns1 ∧ ns1.length ≤ ns.length + 64 * k) (fun _ i _ => m - (intOf i).toNat)
  case atStart => exact ⟨0, 0, ns, by omega, rfl, rfl, by omega, h, Below.refl _ _, Ext.refl _, by omega⟩
  case round =>
    obtain ⟨k, F, ns1, hk, rfl, rfl, hF, hA, hB, hX, hL⟩ := hrel
    by_cases hlt : k < m
    · obtain ⟨hlb, hops⟩ := ho.below hB
      obtain ⟨p, q, c0, c1, c2, c3⟩ := hops k (by omega)
      clear hops
      generalize (xs k).1 = K1 at *
      generalize (xs k).2 = A1 at *
      have hA1 := hA.alloc (.cells #[.int .i64 K1, .int .i64 A1, .int .i64 p, .int .i64 q] 36)
      have hL1 := hA.loc #[.int .i64 K1, .int .i64 A1, .int .i64 p, .int .i64 q] 36
      have hB1 := hB.trans ((hA.kalloc (.cells #[.int .i64 K1, .int .i64 A1, .int .i64 p, .int .i64 q] 36)).below hA)
      go_wp2_with fail
      refine (rest_nat _ A1 6 (by omega) (by omega)).mono ?_
      rintro e w2 ⟨i, rfl, hi, rfl⟩
      go_wp2_with fail
      refine (var_ok hA1 hi).mono ?_
      rintro e w3 hp
      obtain ⟨v, ns2, rfl, hA2, hK2, hB2, hX2, hL2, hv, _⟩ := hp.ok hA1 (by omega)
      have hL3 := hL1.kp hK2
      have hB3 := hB1.trans hB2
      have hX3 := hX2.len
      have hl3 := hA2.wf.len
      clear hp hK2 hB2 hL1 hB1 hA1
      obtain ⟨d0, d1⟩ := hL3.reads4
      go_wp2_with fail
      refine (rest_nat _ K1 3 (by omega) (by omega)).mono ?_
      rintro e w4 ⟨r, rfl, hr, rfl⟩
      rcases (show r = 0 ∨ r = 1 ∨ r = 2 by omega) with rfl | rfl | rfl
      · go_wp2_with fail
        refine (or_ok hA2 (f := F) (g := v) (by omega) hv).mono ?_
        rintro e w5 hp
        obtain ⟨F', ns3, rfl, hA4, _, hB4, hX4, hL4, hF', _⟩ := hp.ok hA2 (by omega)
        have hB5 := hB3.trans hB4
        clear hp hB4
        go_wp2_with fail
        go_roundw
        case rel => exact ⟨k + 1, F', ns3, by omega, by go_num, rfl, hF', hA4, hB5, (hX.trans hX2).trans hX4, by omega⟩
        case measure => simp [intOf]; omega
      · go_wp2_with fail
        refine (ite_ok hA2 (c := (v, F, 1)) ⟨hv, by show F < _; omega, by show 1 < _; omega⟩).mono ?_
        rintro e w5 hp
        obtain ⟨F', ns3, rfl, hA4, _, hB4, hX4, hL4, hF', _⟩ := hp.ok hA2 (by omega)
        have hB5 := hB3.trans hB4
        clear hp hB4
        go_wp2_with fail
        go_roundw
        case rel => exact ⟨k + 1, F', ns3, by omega, by go_num, rfl, hF', hA4, hB5, (hX.trans hX2).trans hX4, by omega⟩
        case measure => simp [intOf]; omega
      · go_wp2_with fail
        refine (ite_ok hA2 (c := (F, v, 1)) ⟨by show F < _; omega, hv, by show 1 < _; omega⟩).mono ?_
        rintro e w5 hp
        obtain ⟨F', ns3, rfl, hA4, _, hB4, hX4, hL4, hF', _⟩ := hp.ok hA2 (by omega)
        have hB5 := hB3.trans hB4
        clear hp hB4
        go_wp2_with fail
        go_roundw
        case rel => exact ⟨k + 1, F', ns3, by omega, by go_num, rfl, hF', hA4, hB5, (hX.trans hX2).trans hX4, by omega⟩
        case measure => simp [intOf]; omega
    · go_wp2_with fail
      go_ret
      exact ⟨F, ns1, rfl, hA, hB, hX, by omega, hF⟩
end Go.Proofs.Ytgcimcpcnoojnaa


