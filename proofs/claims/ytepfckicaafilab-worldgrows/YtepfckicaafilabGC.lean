/-
  Package world: Seen; slices.Equal of arrivals.
-/
import Derived.Test.YtepfckicaafilabGB
namespace Go.Proofs.Ytepfckicaafilab
open Go.RowKit Go.Maps

set_option maxHeartbeats 1000000 in
set_option maxRecDepth 100000 in
theorem clone_arrs {v : Value} {N : Nat} {cs : List Value} (w : World) (h : RowAt w.heap.size w v N 6 cs) (hs : N ≤ 1048576) :
    Calls Try.prog 16 #[v] w fun e w' => ∃ v', e = .returned v' ∧ w'.ownsRow w.heap.size 43 6 v' N cs ∧ Below w.heap.size w w' := by
  have q : ∀ (w : World) (a : Option Addr) (n c n' c' : Nat), (binOp .eql 36 (.slice a n c) (.slice none n' c')).run Try.prog w = .ok (.bool a.isNone) w := fun w a n c n' c' => Lib.run_eql_slice_nil w _ _ a n c n' c' uArs
  obtain ⟨i0, hi, hz0, hz1, hz2⟩ := info_parts infoAr
  have D0 := Below.alN (Below.refl w.heap.size w) (.cells #[] 43)
  have o0 : (w.alloc (.cells #[] 43)).ownsRow w.heap.size 43 6 (.slice (some ⟨w.heap.size, 0, none⟩) 0 0) 0 [] := World.ownsRow_made w #[] 0 (Nat.le_refl _) (Nat.zero_le _) (by simp)
  obtain ⟨A, cap, rfl, h0, h1, h2, hl, ho, h3⟩ := h
  cases A with
  | none =>
    have hN : N = 0 := by
      by_cases hn : N = 0
      · exact hn
      · obtain ⟨_, _, e, _⟩ := h3 hn
        cases e
    subst hN
    have hcs : cs = [] := List.length_eq_zero_iff.1 (by simpa using hl)
    subst hcs
    clear h3 ho hl hs o0
    go_enter Try.func16, Try.ntmps16
    go_wp2_with fail
    go_ret
    exact ⟨_, rfl, World.ownsRow_nil _ _ _ _, Below.refl _ _⟩
  | some ad =>
    obtain ⟨v', w', hr, h4, h5, _⟩ := run_append_own (P := Try.prog) (w.alloc (.cells #[] 43)) w.heap.size 36 36 43 i0 _ 6 48 uArs hi hz0 hz1 hz2 rfl (by decide) _ 0 [] o0 ad N cap cs hl (fun j u hj => by
      have hn : N ≠ 0 := fun e => by
        subst e
        have : cs = [] := List.length_eq_zero_iff.1 (by simpa using hl)
        subst this
        simp at hj
      obtain ⟨b, o, e, hb, hr⟩ := h3 hn
      cases e
      rw [Addr.add_lit]
      exact (D0.cell (p := ⟨b, o + j, none⟩) hb).trans (hr j u hj)) ho (by unfold maxLen; omega) (by omega) (by simp)
    have D1 := Below.appC D0 o0 h5 (Nat.le_refl _) (by simp)
    simp only [List.nil_append, Nat.zero_add] at h4
    have fin : Hid (w'.ownsRow w.heap.size 43 6 v' N cs ∧ Below w.heap.size w w') := ⟨h4, D1⟩
    clear h0 h1 h2 h3 h5 hs o0 D0 h4 D1 hl ho
    go_enter Try.func16, Try.ntmps16
    go_wp2_with (at_builtin; refine append_runC rfl _ _ 36 rfl rfl rfl hr ?_)
    go_ret
    exact ⟨_, rfl, fin.out⟩
def IsArv (cs : List Value) (x : Arv) : Prop := cs = arC x
theorem oneArv (cs : List Value) (x : Arv) (h : IsArv cs x) : ∀ u ∈ cs, u.oneCell' = true := by
  unfold IsArv at h
  subst h
  exact arC_one x
theorem flat_at : ∀ (ar : List Arv) (k : Nat) (x : Arv), ar[k]? = some x → (((ar.flatMap arC).drop (k * 6)).take 6) = arC x
  | [], k, x, h => by simp at h
  | y :: ys, 0, x, h => by
    obtain rfl := Option.some.inj h
    rfl
  | y :: ys, k + 1, x, h => by
    have e : ((y :: ys).flatMap arC).drop ((k + 1) * 6) = (ys.flatMap arC).drop (k * 6) := by
      rw [List.flatMap_cons, show (k + 1) * 6 = (arC y).length + k * 6 by show (k + 1) * 6 = 6 + k * 6; omega, List.drop_append]
      simp
    rw [e]
    exact flat_at ys k x (by simpa using h)
theorem WlAt.seenS {W : World} {p : Wp} {S : Option Addr} {cS : Nat} {ds : List Dv} {ls : List Lk} {n : Nat} {M : Mnd} {ar : List Arv} (h : WlAt W p S cS ds ls n M ar) : SlAt W.heap.size W 6 IsArv (.slice S ar.length cS) ar := SlAt.own h.seen (fun k x hx => flat_at ar k x hx)
/-- A slice stays where its block does. -/
theorem SlAt.blkS {α : Type} {base base' n : Nat} {w w' : World} {R : List Value → α → Prop} {A : Option Addr} {c : Nat} {xs : List α} (h : SlAt base w n R (.slice A xs.length c) xs) (hb : ∀ a, A = some a → w'.heap[a.block]? = w.heap[a.block]? ∧ a.block < base') : SlAt base' w' n R (.slice A xs.length c) xs := by
  obtain ⟨A', c', e, h0, h1, h2, h3⟩ := h
  cases e
  refine ⟨A, c, rfl, h0, h1, h2, fun hn => ?_⟩
  obtain ⟨b, o, ea, hl, hr⟩ := h3 hn
  obtain ⟨e1, e2⟩ := hb _ ea
  refine ⟨b, o, ea, e2, fun k x hx => ?_⟩
  obtain ⟨cs, c1, c2, c3⟩ := hr k x hx
  exact ⟨cs, c1, c2, fun j u hj => (cell_of_blockC e1).trans (c3 j u hj)⟩
theorem SlAt.takeS {α : Type} {base n : Nat} {w : World} {R : List Value → α → Prop} {A : Option Addr} {c : Nat} {xs ys : List α} (h : SlAt base w n R (.slice A (xs ++ ys).length c) (xs ++ ys)) : SlAt base w n R (.slice A xs.length c) xs := by
  obtain ⟨A', c', e, h0, h1, h2, h3⟩ := h
  cases e
  refine ⟨A, c, rfl, h0, ?_, h2, fun hn => ?_⟩
  · rw [List.length_append] at h1
    omega
  · obtain ⟨b, o, ea, hl, hr⟩ := h3 (by simp [hn])
    exact ⟨b, o, ea, hl, fun k x hx => hr k x (by rw [List.getElem?_append_left (List.getElem?_eq_some_iff.1 hx).1]; exact hx)⟩
set_option maxHeartbeats 4000000 in
set_option maxRecDepth 100000 in
theorem seen_any {p : Wp} {S : Option Addr} {cS : Nat} {ds : List Dv} {ls : List Lk} {n : Nat} {M : Mnd} {ar : List Arv} (w : World) (h : Hid (WlAt w p S cS ds ls n M ar)) (ha : ar.length ≤ 5000) :
    Calls Try.prog 6 #[.pointer (some ⟨p.B, 0, none⟩)] w fun e w' => ∃ A c, e = .returned (.slice A ar.length c) ∧ SlAt w'.heap.size w' 6 IsArv (.slice A ar.length c) ar ∧ (∀ a, A = some a → w.heap.size ≤ a.block ∧ a.block < w'.heap.size) ∧ Below w.heap.size w w' := by
  obtain ⟨cs, hR, hr⟩ := h.out.seenS.row oneArv
  have CL : Hid (Calls Try.prog 16 #[.slice S ar.length cS] w fun e w' => ∃ A c, e = .returned (.slice A ar.length c) ∧ SlAt w'.heap.size w' 6 IsArv (.slice A ar.length c) ar ∧ (∀ a, A = some a → w.heap.size ≤ a.block ∧ a.block < w'.heap.size) ∧ Below w.heap.size w w') := (clone_arrs w hR (by omega)).mono fun e w' ⟨v', h1, h2, h3⟩ => by
    obtain ⟨A, c, rfl, hA⟩ := own_sl h2
    exact ⟨A, c, h1, SlAt.own h2 hr, fun a ea => ⟨(own_block h2 (hA a ea)).2.1, (own_block h2 (hA a ea)).1⟩, h3⟩
  have b7 := h.out.blk.at 7
  clear h hR hr
  go_enter Try.func6, Try.ntmps6
  go_wp2_with fail
  with_reducible refine CL.out.mono ?_
  rintro e w2 ⟨A, c, rfl, h2⟩
  go_wp2_with fail
  go_ret
  exact ⟨A, c, rfl, h2⟩
theorem SlAt.arv {base : Nat} {w : World} {A : Option Addr} {c : Nat} {xs : List Arv} (h : SlAt base w 6 IsArv (.slice A xs.length c) xs) {k : Nat} {x : Arv} (hx : xs[k]? = some x) : ∃ b o, A = some ⟨b, o, none⟩ ∧ w.cell? ⟨b, o + k * 6, none⟩ = some (.int .i64 x.1.1) ∧ w.cell? ⟨b, o + k * 6 + 1, none⟩ = some (.int .i64 x.1.2) ∧ w.cell? ⟨b, o + k * 6 + 2, none⟩ = some (.int .i64 x.2.s) ∧ w.cell? ⟨b, o + k * 6 + 3, none⟩ = some (.int .i64 x.2.d) ∧ w.cell? ⟨b, o + k * 6 + 4, none⟩ = some (.int .i64 x.2.sp) ∧ w.cell? ⟨b, o + k * 6 + 5, none⟩ = some (.int .i64 x.2.dp) := by
  obtain ⟨A', c', e, h0, h1, h2, h3⟩ := h
  cases e
  obtain ⟨b, o, ea, hl, hr⟩ := h3 (fun e => by rw [e] at hx; cases hx)
  obtain ⟨cs, _, hc, c3⟩ := hr k x hx
  unfold IsArv at hc
  subst hc
  exact ⟨b, o, ea, c3 0 _ rfl, c3 1 _ rfl, c3 2 _ rfl, c3 3 _ rfl, c3 4 _ rfl, c3 5 _ rfl⟩
theorem arr_ne_sameW (x y : Int) (a : Pk) (w : World) : (binOp .neq 43 (.agg #[.int .i64 x, .int .i64 y, .int .i64 a.s, .int .i64 a.d, .int .i64 a.sp, .int .i64 a.dp]) (.agg #[.int .i64 x, .int .i64 y, .int .i64 a.s, .int .i64 a.d, .int .i64 a.sp, .int .i64 a.dp])).run Try.prog w = .ok (.bool false) w := by
  obtain ⟨s, d, sp, dp⟩ := a
  simp [go_sem, Try.underlying43, Try.underlying41, Try.underlying33, Try.underlying3]
set_option maxHeartbeats 4000000 in
set_option maxRecDepth 100000 in
theorem equal_arrs (A1 A2 : Option Addr) (c1 c2 : Nat) (xs : List Arv) (base : Nat) (w : World) (h1 : Hid (SlAt base w 6 IsArv (.slice A1 xs.length c1) xs)) (h2 : Hid (SlAt base w 6 IsArv (.slice A2 xs.length c2) xs)) :
    Calls Try.prog 8 #[.slice A1 xs.length c1, .slice A2 xs.length c2] w fun e w' => e = .returned (.bool true) ∧ Below w.heap.size w w' := by
  have l1 : xs.length ≤ maxLen := by obtain ⟨_, _, e, _, a, b, _⟩ := h1.out; cases e; omega
  unfold maxLen at l1
  have D0 := Below.refl w.heap.size w
  go_enter Try.func8, Try.ntmps8
  go_wp2_with fail
  go_loopw [13] (fun i wr => ∃ k : Nat, i = .int .i64 (k : Int) ∧ k ≤ xs.length ∧ wr.heap = w.heap ∧ Below w.heap.size w wr) (fun i _ => xs.length - (intOf i).toNat)
  case atStart => exact ⟨0, rfl, by omega, rfl, D0⟩
  case round =>
    obtain ⟨k, rfl, hk, hw, D1⟩ := hrel
    by_cases hlt : k < xs.length
    · obtain ⟨x, hx⟩ : ∃ x, xs[k]? = some x := ⟨_, List.getElem?_eq_getElem hlt⟩
      have hc : ∀ a, wr.cell? a = w.cell? a := fun a => by unfold World.cell?; rw [hw]
      obtain ⟨b, o, rfl, a0, a1, a2, a3, a4, a5⟩ := h1.out.arv hx
      obtain ⟨b', o', rfl, e0, e1, e2, e3, e4, e5⟩ := h2.out.arv hx
      rw [← hc] at a0 a1 a2 a3 a4 a5 e0 e1 e2 e3 e4 e5
      have ANE := fun w => arr_ne_sameW x.1.1 x.1.2 x.2 w
      have k1 : (0 : Int) ≤ (k : Int) := by omega
      have k2 : (k : Int) < (xs.length : Int) := by omega
      obtain ⟨⟨i, q⟩, s, d, sp, dp⟩ := x
      dsimp only at *
      clear hc hx
      have D2 := D1.drew
      have hw2 : wr.drew.heap = w.heap := hw
      go_wp2_with fail
      go_region
      all_goals
        go_wp2_with fail
        go_roundw
        case rel => exact ⟨k + 1, by go_num, by omega, by first | exact hw2 | exact hw, by first | exact D2 | exact D1⟩
        case measure => simp [intOf]; omega
    · go_wp2_with fail
      go_ret
      exact ⟨rfl, D1⟩
end Go.Proofs.Ytepfckicaafilab

namespace Go.Proofs.Ytepfckicaafilab
open Go.RowKit Go.Maps

theorem backs_all {bs : List Int} {ad : Int} : ∀ (m k : Nat), bs.length - k ≤ m → backsFrom bs ad k ≠ 1 → ∀ j x, k ≤ j → bs[j]? = some x → adB x = true
  | 0, k, h, _, j, x, hj, hx => by
    have := (List.getElem?_eq_some_iff.1 hx).1
    omega
  | m + 1, k, h, h0, j, x, hj, hx => by
    have hjl := (List.getElem?_eq_some_iff.1 hx).1
    have hk : k < bs.length := by omega
    rw [backsFrom_at (List.getElem?_eq_getElem hk)] at h0
    split at h0
    · rename_i hc
      by_cases e : j = k
      · subst e
        rw [List.getElem?_eq_getElem hk] at hx
        obtain rfl := Option.some.inj hx
        simp only [Bool.and_eq_true, decide_eq_true_eq] at hc
        unfold adB
        simp only [Bool.and_eq_true, decide_eq_true_eq]
        omega
      · exact backs_all m (k + 1) (by omega) h0 j x (by omega) hx
    · exact absurd rfl h0
theorem dev_ad {d : Dv} (h : devC d = 0) : adB d.addr = true ∧ ∀ (j : Nat) (x : Int), d.backs[j]? = some x → adB x = true := by
  unfold devC devV at h
  split at h
  · simp at h
  split at h
  · simp at h
  rename_i h1 h2
  split at h
  · simp at h
  split at h
  · simp at h
  split at h
  · simp at h
  rename_i h5
  refine ⟨?_, fun j x hx => backs_all d.backs.length 0 (by omega) h5 j x (Nat.zero_le _) hx⟩
  unfold adB
  simp only [Bool.and_eq_true, decide_eq_true_eq]
  cases hk : hasAddr d.kind
  · rw [hk] at h2
    simp at h2
    omega
  · rw [hk] at h2
    simp at h2
    omega
/-- What is known are addresses and ports. -/
structure MOk (M : Mnd) : Prop where
  ow : ∀ k s, M.ow k = some s → adB s.1 = true ∧ poB s.2 = true
  bk : ∀ k b, M.bk k = some b → adB b = true
theorem mok_no : MOk noM := ⟨(fun _ _ h => by cases h), (fun _ _ h => by cases h)⟩
theorem mok_own {M : Mnd} (h : MOk M) {i k : Int} {s : Int × Int} (hs : adB s.1 = true ∧ poB s.2 = true) : MOk (learnP M (.own i k s)) := ⟨fun k' s' e => by
  have e' : putF M.ow (i, k) s k' = some s' := e
  by_cases hk : k' = (i, k)
  · subst hk
    rw [putF_same] at e'
    cases e'
    exact hs
  · rw [putF_other _ _ hk] at e'
    exact h.ow _ _ e', h.bk⟩
theorem mok_back {M : Mnd} (h : MOk M) {i : Int} {p : Pk} {b : Int} (hs : adB b = true) : MOk (learnP M (.back i p b)) := ⟨h.ow, fun k' s' e => by
  have e' : putF M.bk (i, p) b k' = some s' := e
  by_cases hk : k' = (i, p)
  · subst hk
    rw [putF_same] at e'
    cases e'
    exact hs
  · rw [putF_other _ _ hk] at e'
    exact h.bk _ _ e'⟩
theorem mok_flow {M : Mnd} (h : MOk M) {i : Int} {p : Pk} : MOk (learnP M (.flow i p)) := ⟨h.ow, h.bk⟩
theorem pk_parts {p : Pk} (h : pkOk p = true) : adB p.s = true ∧ adB p.d = true ∧ poB p.sp = true ∧ poB p.dp = true := by
  unfold pkOk at h
  simp only [Bool.and_eq_true] at h
  exact ⟨h.1.1.1, h.1.1.2, h.1.2, h.2⟩
theorem pk_mk {a b c d : Int} (h1 : adB a = true) (h2 : adB b = true) (h3 : poB c = true) (h4 : poB d = true) : pkOk ⟨a, b, c, d⟩ = true := by
  unfold pkOk
  rw [h1, h2, h3, h4]
  rfl
theorem stay_err {e : Int} (he : e ≠ 0) {P : Prop} (h : (stayR e).err = 0) : P := absurd h he
theorem ownFrom_lt {M : Mnd} {i : Int} {s : Int × Int} {j : Nat} : ∀ (m k : Nat), 8 - k ≤ m → ownFrom M i s k = some j → j < 8
  | 0, k, h, e => by
    rw [ownFrom, dif_neg (by omega)] at e
    cases e
  | m + 1, k, h, e => by
    rw [ownFrom] at e
    by_cases hk : k < 8
    · rw [dif_pos hk] at e
      by_cases ho : M.ow (i, (k : Int)) = some s
      · rw [if_pos ho] at e
        obtain rfl := Option.some.inj e
        exact hk
      · rw [if_neg ho] at e
        exact ownFrom_lt m (k + 1) (by omega) e
    · rw [dif_neg hk] at e
      cases e
theorem send_ok {d : Dv} (hd : adB d.addr = true ∧ ∀ (j : Nat) (x : Int), d.backs[j]? = some x → adB x = true) {M : Mnd} (hM : MOk M) {i q : Int} {p : Pk} {c : Int} (hp : pkOk p = true) (he : (sendP d M i q p c).err = 0) : pkOk (sendP d M i q p c).p = true ∧ MOk (learnP M (sendP d M i q p c).l) := by
  obtain ⟨p1, p2, p3, p4⟩ := pk_parts hp
  unfold sendP at he ⊢
  split at he
  · rename_i hk
    rw [if_pos hk]
    unfold routeP at he ⊢
    split at he
    · rename_i h1
      rw [if_pos h1]
      exact ⟨hp, hM⟩
    · exact stay_err (by decide) he
  rename_i hk
  rw [if_neg hk]
  split at he
  · rename_i hk
    rw [if_pos hk]
    split at he
    · rename_i hq
      rw [if_pos hq]
      unfold askP at he ⊢
      split at he
      · rename_i h1
        rw [if_pos h1]
        exact ⟨hp, mok_flow hM⟩
      · exact stay_err (by decide) he
    · rename_i hq
      rw [if_neg hq]
      unfold answerP at he ⊢
      split at he
      · rename_i h1
        rw [if_pos h1]
        exact ⟨hp, hM⟩
      · exact stay_err (by decide) he
  rename_i hk
  rw [if_neg hk]
  split at he
  · rename_i hk
    rw [if_pos hk]
    split at he
    · rename_i hq
      rw [if_pos hq]
      unfold hideP at he ⊢
      cases ho : ownFrom M i (p.s, p.sp) 0 with
      | some k =>
        have hk8 := ownFrom_lt 8 0 (by omega) ho
        refine ⟨pk_mk hd.1 p2 ?_ p4, mok_own hM ⟨p1, p3⟩⟩
        unfold poB
        simp only [Bool.and_eq_true, decide_eq_true_eq]
        omega
      | none =>
        rw [ho] at he
        dsimp only at he ⊢
        split at he
        · rename_i h1
          rw [if_pos h1]
          split at he
          · exact stay_err (by decide) he
          · rename_i h2
            rw [if_neg h2]
            have hc : poB c = true := by
              unfold poolB at h1
              simp only [Bool.and_eq_true] at h1
              exact h1.1
            exact ⟨pk_mk hd.1 p2 hc p4, mok_own hM ⟨p1, p3⟩⟩
        · exact stay_err (by decide) he
    · rename_i hq
      rw [if_neg hq]
      unfold unhideP at he ⊢
      cases ho : M.ow (i, p.dp) with
      | some s =>
        rw [ho] at he
        dsimp only at he ⊢
        split at he
        · rename_i h1
          rw [if_pos h1]
          have := hM.ow _ _ ho
          exact ⟨pk_mk p1 this.1 p3 this.2, hM⟩
        · exact stay_err (by decide) he
      | none =>
        rw [ho] at he
        exact stay_err (by decide) he
  rename_i hk
  rw [if_neg hk]
  split at he
  · rename_i hk
    rw [if_pos hk]
    split at he
    · rename_i hq
      rw [if_pos hq]
      unfold spreadP at he ⊢
      split at he
      · rename_i h1
        rw [if_pos h1]
        cases ho : M.bk (i, p) with
        | some b =>
          have := hM.bk _ _ ho
          exact ⟨pk_mk p1 this p3 p4, mok_back hM this⟩
        | none =>
          rw [ho] at he
          dsimp only at he ⊢
          split at he
          · rename_i h2
            rw [if_pos h2]
            have hb : adB (d.backs.getD c.toNat 0) = true := by
              simp only [Bool.and_eq_true, decide_eq_true_eq] at h2
              have hl : c.toNat < d.backs.length := by omega
              rw [List.getD_eq_getElem?_getD, List.getElem?_eq_getElem hl]
              exact hd.2 c.toNat _ (List.getElem?_eq_getElem hl)
            exact ⟨pk_mk p1 hb p3 p4, mok_back hM hb⟩
          · exact stay_err (by decide) he
      · rename_i h1
        rw [if_neg h1]
        exact ⟨hp, hM⟩
    · rename_i hq
      rw [if_neg hq]
      unfold gatherP
      refine ⟨?_, hM⟩
      show pkOk (if _ then _ else _) = true
      split
      · exact pk_mk hd.1 p2 p3 p4
      · exact hp
  · exact stay_err (by decide) he
theorem handle_ok {ds : List Dv} {ls : List Lk} (hz : netV ds ls = 0) {M : Mnd} (hM : MOk M) (i q : Int) (p : Pk) (c : Int) : MOk (handleP ds ls M i q p c).M ∧ ((handleP ds ls M i q p c).err = 0 → pkOk (handleP ds ls M i q p c).p = true ∧ i64ok (handleP ds ls M i q p c).tp.1 ∧ i64ok (handleP ds ls M i q p c).tp.2) := by
  unfold handleP
  cases hpl : isPl ds i q
  · rw [if_neg (by simp)]
    exact ⟨hM, fun h => absurd (show (4 : Int) = 0 from h) (by decide)⟩
  rw [if_pos rfl]
  cases hp : pkOk p
  · rw [if_neg (by simp)]
    exact ⟨hM, fun h => absurd (show (1 : Int) = 0 from h) (by decide)⟩
  rw [if_pos rfl]
  have hi : i.toNat < ds.length := by
    unfold isPl at hpl
    simp only [Bool.and_eq_true, decide_eq_true_eq] at hpl
    omega
  have hd : adB (ds.getD i.toNat default).addr = true ∧ ∀ (j : Nat) (x : Int), (ds.getD i.toNat default).backs[j]? = some x → adB x = true := by
    rw [List.getD_eq_getElem?_getD, List.getElem?_eq_getElem hi]
    exact dev_ad (netV_devs hz _ (List.getElem_mem hi))
  by_cases he : (sendP (ds.getD i.toNat default) M i q p c).err = 0
  · rw [if_pos he]
    obtain ⟨h1, h2⟩ := send_ok hd hM hp he
    cases hpe : peerF ls i (sendP (ds.getD i.toNat default) M i q p c).port with
    | some t => exact ⟨h2, fun _ => ⟨h1, peer_ok hz hpe⟩⟩
    | none => exact ⟨hM, fun h => absurd (show (7 : Int) = 0 from h) (by decide)⟩
  · rw [if_neg he]
    exact ⟨hM, fun h => absurd h he⟩
theorem forget_ok {ds : List Dv} {M : Mnd} (hM : MOk M) (i : Int) (p : Pk) (c : Int) : MOk (forgetP ds M i p c).M := by
  unfold forgetP
  split
  · split
    · split
      · exact ⟨hM.ow, hM.bk⟩
      · exact hM
    · split
      · split
        · refine ⟨fun k s e => ?_, hM.bk⟩
          have e' : delF M.ow (i, c) k = some s := e
          by_cases hk : k = (i, c)
          · subst hk
            rw [delF_same] at e'
            cases e'
          · rw [delF_other _ hk] at e'
            exact hM.ow _ _ e'
        · exact hM
      · split
        · split
          · refine ⟨hM.ow, fun k s e => ?_⟩
            have e' : delF M.bk (i, p) k = some s := e
            by_cases hk : k = (i, p)
            · subst hk
              rw [delF_same] at e'
              cases e'
            · rw [delF_other _ hk] at e'
              exact hM.bk _ _ e'
          · exact hM
        · exact hM
  · exact hM
/-- Where all is right, an event leaves it so: at most one arrival more, none where there is an error. -/
theorem do_ok {ds : List Dv} {ls : List Lk} (hz : netV ds ls = 0) {M : Mnd} (hM : MOk M) {ar : List Arv} (ha : ∀ x ∈ ar, pkOk x.2 = true) (x : Ev) : MOk (doP ds ls M ar x).2.1 ∧ (∀ y ∈ (doP ds ls M ar x).2.2, pkOk y.2 = true) ∧ ((doP ds ls M ar x).2.2 = ar ∨ ((doP ds ls M ar x).1 = 0 ∧ ∃ y, (doP ds ls M ar x).2.2 = ar ++ [y])) := by
  have hadd : ∀ y : Arv, pkOk y.2 = true → (∀ z ∈ addA ar y, pkOk z.2 = true) ∧ (addA ar y = ar ∨ ∃ z, addA ar y = ar ++ [z]) := fun y hy => by
    unfold addA
    split
    · exact ⟨ha, Or.inl rfl⟩
    · refine ⟨fun z hz => ?_, Or.inr ⟨y, rfl⟩⟩
      rcases List.mem_append.1 hz with h | h
      · exact ha z h
      · rw [List.mem_singleton.1 h]
        exact hy
  unfold doP
  split
  · refine ⟨hM, ?_⟩
    unfold injP
    split
    · split
      · split
        · rename_i hp
          split
          · cases hpe : peerF ls x.i 0 with
            | some t =>
              obtain ⟨h1, h2⟩ := hadd (t, x.p) hp
              refine ⟨h1, ?_⟩
              rcases h2 with h | h
              · exact Or.inl h
              · exact Or.inr ⟨rfl, h⟩
            | none => exact ⟨ha, Or.inl rfl⟩
          · exact ⟨ha, Or.inl rfl⟩
        · exact ⟨ha, Or.inl rfl⟩
      · exact ⟨ha, Or.inl rfl⟩
    · exact ⟨ha, Or.inl rfl⟩
  · split
    · unfold hopP
      split
      · obtain ⟨h1, h2⟩ := handle_ok hz hM x.i x.q x.p x.c
        refine ⟨h1, ?_⟩
        by_cases he : (handleP ds ls M x.i x.q x.p x.c).err = 0
        · obtain ⟨g1, g2⟩ := hadd ((handleP ds ls M x.i x.q x.p x.c).tp, (handleP ds ls M x.i x.q x.p x.c).p) (h2 he).1
          dsimp only
          rw [if_pos he]
          refine ⟨g1, ?_⟩
          rcases g2 with h | h
          · exact Or.inl h
          · exact Or.inr ⟨he, h⟩
        · dsimp only
          rw [if_neg he]
          exact ⟨ha, Or.inl rfl⟩
      · exact ⟨hM, ha, Or.inl rfl⟩
    · split
      · exact ⟨forget_ok hM _ _ _, ha, Or.inl rfl⟩
      · exact ⟨hM, ha, Or.inl rfl⟩
end Go.Proofs.Ytepfckicaafilab
