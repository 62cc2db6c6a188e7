/-
  Package world: Seen; slices.Equal of arrivals.
-/
import Derived.Test.YtepfckicaafilabWa9
namespace Go.Proofs.Ytepfckicaafilab
open Go.RowKit Go.Maps

set_option maxHeartbeats 1000000 in
set_option maxRecDepth 100000 in
theorem clone_arrs {v : Value} {N : Nat} {cs : List Value} (w : World) (h : RowAt w.heap.size w v N 6 cs) (hs : N ≤ 1048576) :
    Calls Try.prog 16 #[v] w fun e w' => ∃ v', e = .returned v' ∧ w'.ownsRow w.heap.size 43 6 v' N cs ∧ Below w.heap.size w w' := by
  have q : ∀ (w : World) (a : Option Addr) (n c n' c' : Nat), (binOp .eql 36 (.slice a n c) (.slice none n' c')).run Try.prog w = .ok (.bool a.isNone) w := fun w a n c n' c' => Lib.run_eql_slice_nil w _ _ a n c n' c' uArs
  obtain ⟨i0, hi, hz0, hz1, hz2⟩ := info_parts infoAr
  have D0 := Below.alN (Below.refl w.heap.size w) (.cells #[] 43)
  have o0 : (w.alloc (.cells #[] 43)).ownsRow w.heap.size 43 6 (.slice (some ⟨w.heap.size, 0, none⟩) 0 0) 0 [] := World.ownsRow_made w #[] 0 (Nat.le_refl _) (Nat.zero_le _) (by simp)
  obtain ⟨A, cap, rfl, h0, h1, h2, hl, ho, h3⟩ := h
  cases A with
  | none =>
    have hN : N = 0 := by
      by_cases hn : N = 0
      · exact hn
      · obtain ⟨_, _, e, _⟩ := h3 hn
        cases e
    subst hN
    have hcs : cs = [] := List.length_eq_zero_iff.1 (by simpa using hl)
    subst hcs
    clear h3 ho hl hs o0
    go_enter Try.func16, Try.ntmps16
    go_wp2_with fail
    go_ret
    exact ⟨_, rfl, World.ownsRow_nil _ _ _ _, Below.refl _ _⟩
  | some ad =>
    obtain ⟨v', w', hr, h4, h5, _⟩ := run_append_own (P := Try.prog) (w.alloc (.cells #[] 43)) w.heap.size 36 36 43 i0 _ 6 48 uArs hi hz0 hz1 hz2 rfl (by decide) _ 0 [] o0 ad N cap cs hl (fun j u hj => by
      have hn : N ≠ 0 := fun e => by
        subst e
        have : cs = [] := List.length_eq_zero_iff.1 (by simpa using hl)
        subst this
        simp at hj
      obtain ⟨b, o, e, hb, hr⟩ := h3 hn
      cases e
      rw [Addr.add_lit]
      exact (D0.cell (p := ⟨b, o + j, none⟩) hb).trans (hr j u hj)) ho (by unfold maxLen; omega) (by omega) (by simp)
    have D1 := Below.appC D0 o0 h5 (Nat.le_refl _) (by simp)
    simp only [List.nil_append, Nat.zero_add] at h4
    have fin : Hid (w'.ownsRow w.heap.size 43 6 v' N cs ∧ Below w.heap.size w w') := ⟨h4, D1⟩
    clear h0 h1 h2 h3 h5 hs o0 D0 h4 D1 hl ho
    go_enter Try.func16, Try.ntmps16
    go_wp2_with (at_builtin; refine append_runC rfl _ _ 36 rfl rfl rfl hr ?_)
    go_ret
    exact ⟨_, rfl, fin.out⟩
def IsArv (cs : List Value) (x : Arv) : Prop := cs = arC x
theorem oneArv (cs : List Value) (x : Arv) (h : IsArv cs x) : ∀ u ∈ cs, u.oneCell' = true := by
  unfold IsArv at h
  subst h
  exact arC_one x
theorem flat_at : ∀ (ar : List Arv) (k : Nat) (x : Arv), ar[k]? = some x → (((ar.flatMap arC).drop (k * 6)).take 6) = arC x
  | [], k, x, h => by simp at h
  | y :: ys, 0, x, h => by
    obtain rfl := Option.some.inj h
    rfl
  | y :: ys, k + 1, x, h => by
    have e : ((y :: ys).flatMap arC).drop ((k + 1) * 6) = (ys.flatMap arC).drop (k * 6) := by
      rw [List.flatMap_cons, show (k + 1) * 6 = (arC y).length + k * 6 by show (k + 1) * 6 = 6 + k * 6; omega, List.drop_append]
      simp
    rw [e]
    exact flat_at ys k x (by simpa using h)
theorem WlAt.seenS {W : World} {p : Wp} {S : Option Addr} {cS : Nat} {ds : List Dv} {ls : List Lk} {n : Nat} {M : Mnd} {ar : List Arv} (h : WlAt W p S cS ds ls n M ar) : SlAt W.heap.size W 6 IsArv (.slice S ar.length cS) ar := SlAt.own h.seen (fun k x hx => flat_at ar k x hx)
/-- A slice stays where its block does. -/
theorem SlAt.blkS {α : Type} {base base' n : Nat} {w w' : World} {R : List Value → α → Prop} {A : Option Addr} {c : Nat} {xs : List α} (h : SlAt base w n R (.slice A xs.length c) xs) (hb : ∀ a, A = some a → w'.heap[a.block]? = w.heap[a.block]? ∧ a.block < base') : SlAt base' w' n R (.slice A xs.length c) xs := by
  obtain ⟨A', c', e, h0, h1, h2, h3⟩ := h
  cases e
  refine ⟨A, c, rfl, h0, h1, h2, fun hn => ?_⟩
  obtain ⟨b, o, ea, hl, hr⟩ := h3 hn
  obtain ⟨e1, e2⟩ := hb _ ea
  refine ⟨b, o, ea, e2, fun k x hx => ?_⟩
  obtain ⟨cs, c1, c2, c3⟩ := hr k x hx
  exact ⟨cs, c1, c2, fun j u hj => (cell_of_blockC e1).trans (c3 j u hj)⟩
theorem SlAt.takeS {α : Type} {base n : Nat} {w : World} {R : List Value → α → Prop} {A : Option Addr} {c : Nat} {xs ys : List α} (h : SlAt base w n R (.slice A (xs ++ ys).length c) (xs ++ ys)) : SlAt base w n R (.slice A xs.length c) xs := by
  obtain ⟨A', c', e, h0, h1, h2, h3⟩ := h
  cases e
  refine ⟨A, c, rfl, h0, ?_, h2, fun hn => ?_⟩
  · rw [List.length_append] at h1
    omega
  · obtain ⟨b, o, ea, hl, hr⟩ := h3 (by simp [hn])
    exact ⟨b, o, ea, hl, fun k x hx => hr k x (by rw [List.getElem?_append_left (List.getElem?_eq_some_iff.1 hx).1]; exact hx)⟩
set_option maxHeartbeats 4000000 in
set_option maxRecDepth 100000 in
theorem seen_any {p : Wp} {S : Option Addr} {cS : Nat} {ds : List Dv} {ls : List Lk} {n : Nat} {M : Mnd} {ar : List Arv} (w : World) (h : Hid (WlAt w p S cS ds ls n M ar)) (ha : ar.length ≤ 5000) :
    Calls Try.prog 6 #[.pointer (some ⟨p.B, 0, none⟩)] w fun e w' => ∃ A c, e = .returned (.slice A ar.length c) ∧ SlAt w'.heap.size w' 6 IsArv (.slice A ar.length c) ar ∧ (∀ a, A = some a → w.heap.size ≤ a.block ∧ a.block < w'.heap.size) ∧ Below w.heap.size w w' := by
  obtain ⟨cs, hR, hr⟩ := h.out.seenS.row oneArv
  have CL : Hid (Calls Try.prog 16 #[.slice S ar.length cS] w fun e w' => ∃ A c, e = .returned (.slice A ar.length c) ∧ SlAt w'.heap.size w' 6 IsArv (.slice A ar.length c) ar ∧ (∀ a, A = some a → w.heap.size ≤ a.block ∧ a.block < w'.heap.size) ∧ Below w.heap.size w w') := (clone_arrs w hR (by omega)).mono fun e w' ⟨v', h1, h2, h3⟩ => by
    obtain ⟨A, c, rfl, hA⟩ := own_sl h2
    exact ⟨A, c, h1, SlAt.own h2 hr, fun a ea => ⟨(own_block h2 (hA a ea)).2.1, (own_block h2 (hA a ea)).1⟩, h3⟩
  have b7 := h.out.blk.at 7
  clear h hR hr
  go_enter Try.func6, Try.ntmps6
  go_wp2_with fail
  with_reducible refine CL.out.mono ?_
  rintro e w2 ⟨A, c, rfl, h2⟩
  go_wp2_with fail
  go_ret
  exact ⟨A, c, rfl, h2⟩
theorem SlAt.arv {base : Nat} {w : World} {A : Option Addr} {c : Nat} {xs : List Arv} (h : SlAt base w 6 IsArv (.slice A xs.length c) xs) {k : Nat} {x : Arv} (hx : xs[k]? = some x) : ∃ b o, A = some ⟨b, o, none⟩ ∧ w.cell? ⟨b, o + k * 6, none⟩ = some (.int .i64 x.1.1) ∧ w.cell? ⟨b, o + k * 6 + 1, none⟩ = some (.int .i64 x.1.2) ∧ w.cell? ⟨b, o + k * 6 + 2, none⟩ = some (.int .i64 x.2.s) ∧ w.cell? ⟨b, o + k * 6 + 3, none⟩ = some (.int .i64 x.2.d) ∧ w.cell? ⟨b, o + k * 6 + 4, none⟩ = some (.int .i64 x.2.sp) ∧ w.cell? ⟨b, o + k * 6 + 5, none⟩ = some (.int .i64 x.2.dp) := by
  obtain ⟨A', c', e, h0, h1, h2, h3⟩ := h
  cases e
  obtain ⟨b, o, ea, hl, hr⟩ := h3 (fun e => by rw [e] at hx; cases hx)
  obtain ⟨cs, _, hc, c3⟩ := hr k x hx
  unfold IsArv at hc
  subst hc
  exact ⟨b, o, ea, c3 0 _ rfl, c3 1 _ rfl, c3 2 _ rfl, c3 3 _ rfl, c3 4 _ rfl, c3 5 _ rfl⟩
theorem arr_ne_sameW (x y : Int) (a : Pk) (w : World) : (binOp .neq 43 (.agg #[.int .i64 x, .int .i64 y, .int .i64 a.s, .int .i64 a.d, .int .i64 a.sp, .int .i64 a.dp]) (.agg #[.int .i64 x, .int .i64 y, .int .i64 a.s, .int .i64 a.d, .int .i64 a.sp, .int .i64 a.dp])).run Try.prog w = .ok (.bool false) w := by
  obtain ⟨s, d, sp, dp⟩ := a
  simp [go_sem, Try.underlying43, Try.underlying41, Try.underlying33, Try.underlying3]
set_option maxHeartbeats 4000000 in
set_option maxRecDepth 100000 in
theorem equal_arrs (A1 A2 : Option Addr) (c1 c2 : Nat) (xs : List Arv) (base : Nat) (w : World) (h1 : Hid (SlAt base w 6 IsArv (.slice A1 xs.length c1) xs)) (h2 : Hid (SlAt base w 6 IsArv (.slice A2 xs.length c2) xs)) :
    Calls Try.prog 8 #[.slice A1 xs.length c1, .slice A2 xs.length c2] w fun e w' => e = .returned (.bool true) ∧ Below w.heap.size w w' := by
  have l1 : xs.length ≤ maxLen := by obtain ⟨_, _, e, _, a, b, _⟩ := h1.out; cases e; omega
  unfold maxLen at l1
  have D0 := Below.refl w.heap.size w
  go_enter Try.func8, Try.ntmps8
  go_wp2_with fail
  go_loopw [13] (fun i wr => ∃ k : Nat, i = .int .i64 (k : Int) ∧ k ≤ xs.length ∧ wr.heap = w.heap ∧ Below w.heap.size w wr) (fun i _ => xs.length - (intOf i).toNat)
  case atStart => exact ⟨0, rfl, by omega, rfl, D0⟩
  case round =>
    obtain ⟨k, rfl, hk, hw, D1⟩ := hrel
    by_cases hlt : k < xs.length
    · obtain ⟨x, hx⟩ : ∃ x, xs[k]? = some x := ⟨_, List.getElem?_eq_getElem hlt⟩
      have hc : ∀ a, wr.cell? a = w.cell? a := fun a => by unfold World.cell?; rw [hw]
      obtain ⟨b, o, rfl, a0, a1, a2, a3, a4, a5⟩ := h1.out.arv hx
      obtain ⟨b', o', rfl, e0, e1, e2, e3, e4, e5⟩ := h2.out.arv hx
      rw [← hc] at a0 a1 a2 a3 a4 a5 e0 e1 e2 e3 e4 e5
      have ANE := fun w => arr_ne_sameW x.1.1 x.1.2 x.2 w
      have k1 : (0 : Int) ≤ (k : Int) := by omega
      have k2 : (k : Int) < (xs.length : Int) := by omega
      obtain ⟨⟨i, q⟩, s, d, sp, dp⟩ := x
      dsimp only at *
      clear hc hx
      have D2 := D1.drew
      have hw2 : wr.drew.heap = w.heap := hw
      go_wp2_with fail
      go_region
      all_goals
        go_wp2_with fail
        go_roundw
        case rel => exact ⟨k + 1, by go_num, by omega, by first | exact hw2 | exact hw, by first | exact D2 | exact D1⟩
        case measure => simp [intOf]; omega
    · go_wp2_with fail
      go_ret
      exact ⟨rfl, D1⟩
end Go.Proofs.Ytepfckicaafilab
