/-
  Package world: what comes in is a packet, whatever happens.
-/
import Derived.Test.YtepfckicaafilabWa9
namespace Go.Proofs.Ytepfckicaafilab
open Go.RowKit Go.Maps

theorem backs_all {bs : List Int} {ad : Int} : ∀ (m k : Nat), bs.length - k ≤ m → backsFrom bs ad k ≠ 1 → ∀ j x, k ≤ j → bs[j]? = some x → adB x = true
  | 0, k, h, _, j, x, hj, hx => by
    have := (List.getElem?_eq_some_iff.1 hx).1
    omega
  | m + 1, k, h, h0, j, x, hj, hx => by
    have hjl := (List.getElem?_eq_some_iff.1 hx).1
    have hk : k < bs.length := by omega
    rw [backsFrom_at (List.getElem?_eq_getElem hk)] at h0
    split at h0
    · rename_i hc
      by_cases e : j = k
      · subst e
        rw [List.getElem?_eq_getElem hk] at hx
        obtain rfl := Option.some.inj hx
        simp only [Bool.and_eq_true, decide_eq_true_eq] at hc
        unfold adB
        simp only [Bool.and_eq_true, decide_eq_true_eq]
        omega
      · exact backs_all m (k + 1) (by omega) h0 j x (by omega) hx
    · exact absurd rfl h0
theorem dev_ad {d : Dv} (h : devC d = 0) : adB d.addr = true ∧ ∀ (j : Nat) (x : Int), d.backs[j]? = some x → adB x = true := by
  unfold devC devV at h
  split at h
  · simp at h
  split at h
  · simp at h
  rename_i h1 h2
  split at h
  · simp at h
  split at h
  · simp at h
  split at h
  · simp at h
  rename_i h5
  refine ⟨?_, fun j x hx => backs_all d.backs.length 0 (by omega) h5 j x (Nat.zero_le _) hx⟩
  unfold adB
  simp only [Bool.and_eq_true, decide_eq_true_eq]
  cases hk : hasAddr d.kind
  · rw [hk] at h2
    simp at h2
    omega
  · rw [hk] at h2
    simp at h2
    omega
/-- What is known are addresses and ports. -/
structure MOk (M : Mnd) : Prop where
  ow : ∀ k s, M.ow k = some s → adB s.1 = true ∧ poB s.2 = true
  bk : ∀ k b, M.bk k = some b → adB b = true
theorem mok_no : MOk noM := ⟨(fun _ _ h => by cases h), (fun _ _ h => by cases h)⟩
theorem mok_own {M : Mnd} (h : MOk M) {i k : Int} {s : Int × Int} (hs : adB s.1 = true ∧ poB s.2 = true) : MOk (learnP M (.own i k s)) := ⟨fun k' s' e => by
  have e' : putF M.ow (i, k) s k' = some s' := e
  by_cases hk : k' = (i, k)
  · subst hk
    rw [putF_same] at e'
    cases e'
    exact hs
  · rw [putF_other _ _ hk] at e'
    exact h.ow _ _ e', h.bk⟩
theorem mok_back {M : Mnd} (h : MOk M) {i : Int} {p : Pk} {b : Int} (hs : adB b = true) : MOk (learnP M (.back i p b)) := ⟨h.ow, fun k' s' e => by
  have e' : putF M.bk (i, p) b k' = some s' := e
  by_cases hk : k' = (i, p)
  · subst hk
    rw [putF_same] at e'
    cases e'
    exact hs
  · rw [putF_other _ _ hk] at e'
    exact h.bk _ _ e'⟩
theorem mok_flow {M : Mnd} (h : MOk M) {i : Int} {p : Pk} : MOk (learnP M (.flow i p)) := ⟨h.ow, h.bk⟩
theorem pk_parts {p : Pk} (h : pkOk p = true) : adB p.s = true ∧ adB p.d = true ∧ poB p.sp = true ∧ poB p.dp = true := by
  unfold pkOk at h
  simp only [Bool.and_eq_true] at h
  exact ⟨h.1.1.1, h.1.1.2, h.1.2, h.2⟩
theorem pk_mk {a b c d : Int} (h1 : adB a = true) (h2 : adB b = true) (h3 : poB c = true) (h4 : poB d = true) : pkOk ⟨a, b, c, d⟩ = true := by
  unfold pkOk
  rw [h1, h2, h3, h4]
  rfl
theorem stay_err {e : Int} (he : e ≠ 0) {P : Prop} (h : (stayR e).err = 0) : P := absurd h he
theorem ownFrom_lt {M : Mnd} {i : Int} {s : Int × Int} {j : Nat} : ∀ (m k : Nat), 8 - k ≤ m → ownFrom M i s k = some j → j < 8
  | 0, k, h, e => by
    rw [ownFrom, dif_neg (by omega)] at e
    cases e
  | m + 1, k, h, e => by
    rw [ownFrom] at e
    by_cases hk : k < 8
    · rw [dif_pos hk] at e
      by_cases ho : M.ow (i, (k : Int)) = some s
      · rw [if_pos ho] at e
        obtain rfl := Option.some.inj e
        exact hk
      · rw [if_neg ho] at e
        exact ownFrom_lt m (k + 1) (by omega) e
    · rw [dif_neg hk] at e
      cases e
theorem send_ok {d : Dv} (hd : adB d.addr = true ∧ ∀ (j : Nat) (x : Int), d.backs[j]? = some x → adB x = true) {M : Mnd} (hM : MOk M) {i q : Int} {p : Pk} {c : Int} (hp : pkOk p = true) (he : (sendP d M i q p c).err = 0) : pkOk (sendP d M i q p c).p = true ∧ MOk (learnP M (sendP d M i q p c).l) := by
  obtain ⟨p1, p2, p3, p4⟩ := pk_parts hp
  unfold sendP at he ⊢
  split at he
  · rename_i hk
    rw [if_pos hk]
    unfold routeP at he ⊢
    split at he
    · rename_i h1
      rw [if_pos h1]
      exact ⟨hp, hM⟩
    · exact stay_err (by decide) he
  rename_i hk
  rw [if_neg hk]
  split at he
  · rename_i hk
    rw [if_pos hk]
    split at he
    · rename_i hq
      rw [if_pos hq]
      unfold askP at he ⊢
      split at he
      · rename_i h1
        rw [if_pos h1]
        exact ⟨hp, mok_flow hM⟩
      · exact stay_err (by decide) he
    · rename_i hq
      rw [if_neg hq]
      unfold answerP at he ⊢
      split at he
      · rename_i h1
        rw [if_pos h1]
        exact ⟨hp, hM⟩
      · exact stay_err (by decide) he
  rename_i hk
  rw [if_neg hk]
  split at he
  · rename_i hk
    rw [if_pos hk]
    split at he
    · rename_i hq
      rw [if_pos hq]
      unfold hideP at he ⊢
      cases ho : ownFrom M i (p.s, p.sp) 0 with
      | some k =>
        have hk8 := ownFrom_lt 8 0 (by omega) ho
        refine ⟨pk_mk hd.1 p2 ?_ p4, mok_own hM ⟨p1, p3⟩⟩
        unfold poB
        simp only [Bool.and_eq_true, decide_eq_true_eq]
        omega
      | none =>
        rw [ho] at he
        dsimp only at he ⊢
        split at he
        · rename_i h1
          rw [if_pos h1]
          split at he
          · exact stay_err (by decide) he
          · rename_i h2
            rw [if_neg h2]
            have hc : poB c = true := by
              unfold poolB at h1
              simp only [Bool.and_eq_true] at h1
              exact h1.1
            exact ⟨pk_mk hd.1 p2 hc p4, mok_own hM ⟨p1, p3⟩⟩
        · exact stay_err (by decide) he
    · rename_i hq
      rw [if_neg hq]
      unfold unhideP at he ⊢
      cases ho : M.ow (i, p.dp) with
      | some s =>
        rw [ho] at he
        dsimp only at he ⊢
        split at he
        · rename_i h1
          rw [if_pos h1]
          have := hM.ow _ _ ho
          exact ⟨pk_mk p1 this.1 p3 this.2, hM⟩
        · exact stay_err (by decide) he
      | none =>
        rw [ho] at he
        exact stay_err (by decide) he
  rename_i hk
  rw [if_neg hk]
  split at he
  · rename_i hk
    rw [if_pos hk]
    split at he
    · rename_i hq
      rw [if_pos hq]
      unfold spreadP at he ⊢
      split at he
      · rename_i h1
        rw [if_pos h1]
        cases ho : M.bk (i, p) with
        | some b =>
          have := hM.bk _ _ ho
          exact ⟨pk_mk p1 this p3 p4, mok_back hM this⟩
        | none =>
          rw [ho] at he
          dsimp only at he ⊢
          split at he
          · rename_i h2
            rw [if_pos h2]
            have hb : adB (d.backs.getD c.toNat 0) = true := by
              simp only [Bool.and_eq_true, decide_eq_true_eq] at h2
              have hl : c.toNat < d.backs.length := by omega
              rw [List.getD_eq_getElem?_getD, List.getElem?_eq_getElem hl]
              exact hd.2 c.toNat _ (List.getElem?_eq_getElem hl)
            exact ⟨pk_mk p1 hb p3 p4, mok_back hM hb⟩
          · exact stay_err (by decide) he
      · rename_i h1
        rw [if_neg h1]
        exact ⟨hp, hM⟩
    · rename_i hq
      rw [if_neg hq]
      unfold gatherP
      refine ⟨?_, hM⟩
      show pkOk (if _ then _ else _) = true
      split
      · exact pk_mk hd.1 p2 p3 p4
      · exact hp
  · exact stay_err (by decide) he
theorem handle_ok {ds : List Dv} {ls : List Lk} (hz : netV ds ls = 0) {M : Mnd} (hM : MOk M) (i q : Int) (p : Pk) (c : Int) : MOk (handleP ds ls M i q p c).M ∧ ((handleP ds ls M i q p c).err = 0 → pkOk (handleP ds ls M i q p c).p = true ∧ i64ok (handleP ds ls M i q p c).tp.1 ∧ i64ok (handleP ds ls M i q p c).tp.2) := by
  unfold handleP
  cases hpl : isPl ds i q
  · rw [if_neg (by simp)]
    exact ⟨hM, fun h => absurd (show (4 : Int) = 0 from h) (by decide)⟩
  rw [if_pos rfl]
  cases hp : pkOk p
  · rw [if_neg (by simp)]
    exact ⟨hM, fun h => absurd (show (1 : Int) = 0 from h) (by decide)⟩
  rw [if_pos rfl]
  have hi : i.toNat < ds.length := by
    unfold isPl at hpl
    simp only [Bool.and_eq_true, decide_eq_true_eq] at hpl
    omega
  have hd : adB (ds.getD i.toNat default).addr = true ∧ ∀ (j : Nat) (x : Int), (ds.getD i.toNat default).backs[j]? = some x → adB x = true := by
    rw [List.getD_eq_getElem?_getD, List.getElem?_eq_getElem hi]
    exact dev_ad (netV_devs hz _ (List.getElem_mem hi))
  by_cases he : (sendP (ds.getD i.toNat default) M i q p c).err = 0
  · rw [if_pos he]
    obtain ⟨h1, h2⟩ := send_ok hd hM hp he
    cases hpe : peerF ls i (sendP (ds.getD i.toNat default) M i q p c).port with
    | some t => exact ⟨h2, fun _ => ⟨h1, peer_ok hz hpe⟩⟩
    | none => exact ⟨hM, fun h => absurd (show (7 : Int) = 0 from h) (by decide)⟩
  · rw [if_neg he]
    exact ⟨hM, fun h => absurd h he⟩
theorem forget_ok {ds : List Dv} {M : Mnd} (hM : MOk M) (i : Int) (p : Pk) (c : Int) : MOk (forgetP ds M i p c).M := by
  unfold forgetP
  split
  · split
    · split
      · exact ⟨hM.ow, hM.bk⟩
      · exact hM
    · split
      · split
        · refine ⟨fun k s e => ?_, hM.bk⟩
          have e' : delF M.ow (i, c) k = some s := e
          by_cases hk : k = (i, c)
          · subst hk
            rw [delF_same] at e'
            cases e'
          · rw [delF_other _ hk] at e'
            exact hM.ow _ _ e'
        · exact hM
      · split
        · split
          · refine ⟨hM.ow, fun k s e => ?_⟩
            have e' : delF M.bk (i, p) k = some s := e
            by_cases hk : k = (i, p)
            · subst hk
              rw [delF_same] at e'
              cases e'
            · rw [delF_other _ hk] at e'
              exact hM.bk _ _ e'
          · exact hM
        · exact hM
  · exact hM
/-- Where all is right, an event leaves it so: at most one arrival more, none where there is an error. -/
theorem do_ok {ds : List Dv} {ls : List Lk} (hz : netV ds ls = 0) {M : Mnd} (hM : MOk M) {ar : List Arv} (ha : ∀ x ∈ ar, pkOk x.2 = true) (x : Ev) : MOk (doP ds ls M ar x).2.1 ∧ (∀ y ∈ (doP ds ls M ar x).2.2, pkOk y.2 = true) ∧ ((doP ds ls M ar x).2.2 = ar ∨ ((doP ds ls M ar x).1 = 0 ∧ ∃ y, (doP ds ls M ar x).2.2 = ar ++ [y])) := by
  have hadd : ∀ y : Arv, pkOk y.2 = true → (∀ z ∈ addA ar y, pkOk z.2 = true) ∧ (addA ar y = ar ∨ ∃ z, addA ar y = ar ++ [z]) := fun y hy => by
    unfold addA
    split
    · exact ⟨ha, Or.inl rfl⟩
    · refine ⟨fun z hz => ?_, Or.inr ⟨y, rfl⟩⟩
      rcases List.mem_append.1 hz with h | h
      · exact ha z h
      · rw [List.mem_singleton.1 h]
        exact hy
  unfold doP
  split
  · refine ⟨hM, ?_⟩
    unfold injP
    split
    · split
      · split
        · rename_i hp
          split
          · cases hpe : peerF ls x.i 0 with
            | some t =>
              obtain ⟨h1, h2⟩ := hadd (t, x.p) hp
              refine ⟨h1, ?_⟩
              rcases h2 with h | h
              · exact Or.inl h
              · exact Or.inr ⟨rfl, h⟩
            | none => exact ⟨ha, Or.inl rfl⟩
          · exact ⟨ha, Or.inl rfl⟩
        · exact ⟨ha, Or.inl rfl⟩
      · exact ⟨ha, Or.inl rfl⟩
    · exact ⟨ha, Or.inl rfl⟩
  · split
    · unfold hopP
      split
      · obtain ⟨h1, h2⟩ := handle_ok hz hM x.i x.q x.p x.c
        refine ⟨h1, ?_⟩
        by_cases he : (handleP ds ls M x.i x.q x.p x.c).err = 0
        · obtain ⟨g1, g2⟩ := hadd ((handleP ds ls M x.i x.q x.p x.c).tp, (handleP ds ls M x.i x.q x.p x.c).p) (h2 he).1
          dsimp only
          rw [if_pos he]
          refine ⟨g1, ?_⟩
          rcases g2 with h | h
          · exact Or.inl h
          · exact Or.inr ⟨he, h⟩
        · dsimp only
          rw [if_neg he]
          exact ⟨ha, Or.inl rfl⟩
      · exact ⟨hM, ha, Or.inl rfl⟩
    · split
      · exact ⟨forget_ok hM _ _ _, ha, Or.inl rfl⟩
      · exact ⟨hM, ha, Or.inl rfl⟩
end Go.Proofs.Ytepfckicaafilab
