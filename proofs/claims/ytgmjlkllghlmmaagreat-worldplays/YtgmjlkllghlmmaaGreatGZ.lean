/-
  Package world: what comes in is a packet, whatever happens.
-/
import Derived.Test.YtgmjlkllghlmmaaGreatGW
import Derived.Test.YtgmjlkllghlmmaaGreatWa1
import Derived.Deep.RegionHeld3
namespace Go.Proofs.YtgmjlkllghlmmaaGreat
open Go.RowKit Go.Maps

theorem backs_all {bs : List Int} {ad : Int} : ∀ (m k : Nat), bs.length - k ≤ m → backsFrom bs ad k ≠ 1 → ∀ j x, k ≤ j → bs[j]? = some x → adB x = true
  | 0, k, h, _, j, x, hj, hx => by
    have := (List.getElem?_eq_some_iff.1 hx).1
    omega
  | m + 1, k, h, h0, j, x, hj, hx => by
    have hjl := (List.getElem?_eq_some_iff.1 hx).1
    have hk : k < bs.length := by omega
    rw [backsFrom_at (List.getElem?_eq_getElem hk)] at h0
    split at h0
    · rename_i hc
      by_cases e : j = k
      · subst e
        rw [List.getElem?_eq_getElem hk] at hx
        obtain rfl := Option.some.inj hx
        simp only [Bool.and_eq_true, decide_eq_true_eq] at hc
        unfold adB
        simp only [Bool.and_eq_true, decide_eq_true_eq]
        omega
      · exact backs_all m (k + 1) (by omega) h0 j x (by omega) hx
    · exact absurd rfl h0
theorem dev_ad {d : Dv} (h : devC d = 0) : adB d.addr = true ∧ ∀ (j : Nat) (x : Int), d.backs[j]? = some x → adB x = true := by
  unfold devC devV at h
  split at h
  · simp at h
  split at h
  · simp at h
  rename_i h1 h2
  split at h
  · simp at h
  split at h
  · simp at h
  split at h
  · simp at h
  rename_i h5
  refine ⟨?_, fun j x hx => backs_all d.backs.length 0 (by omega) h5 j x (Nat.zero_le _) hx⟩
  unfold adB
  simp only [Bool.and_eq_true, decide_eq_true_eq]
  cases hk : hasAddr d.kind
  · rw [hk] at h2
    simp at h2
    omega
  · rw [hk] at h2
    simp at h2
    omega
/-- What is known are addresses and ports. -/
structure MOk (M : Mnd) : Prop where
  ow : ∀ k s, M.ow k = some s → adB s.1 = true ∧ poB s.2 = true
  bk : ∀ k b, M.bk k = some b → adB b = true
theorem mok_no : MOk noM := ⟨(fun _ _ h => by cases h), (fun _ _ h => by cases h)⟩
theorem mok_own {M : Mnd} (h : MOk M) {i k : Int} {s : Int × Int} (hs : adB s.1 = true ∧ poB s.2 = true) : MOk (learnP M (.own i k s)) := ⟨fun k' s' e => by
  have e' : putF M.ow (i, k) s k' = some s' := e
  by_cases hk : k' = (i, k)
  · subst hk
    rw [putF_same] at e'
    cases e'
    exact hs
  · rw [putF_other _ _ hk] at e'
    exact h.ow _ _ e', h.bk⟩
theorem mok_back {M : Mnd} (h : MOk M) {i : Int} {p : Pk} {b : Int} (hs : adB b = true) : MOk (learnP M (.back i p b)) := ⟨h.ow, fun k' s' e => by
  have e' : putF M.bk (i, p) b k' = some s' := e
  by_cases hk : k' = (i, p)
  · subst hk
    rw [putF_same] at e'
    cases e'
    exact hs
  · rw [putF_other _ _ hk] at e'
    exact h.bk _ _ e'⟩
theorem mok_flow {M : Mnd} (h : MOk M) {i : Int} {p : Pk} : MOk (learnP M (.flow i p)) := ⟨h.ow, h.bk⟩
theorem pk_parts {p : Pk} (h : pkOk p = true) : adB p.s = true ∧ adB p.d = true ∧ poB p.sp = true ∧ poB p.dp = true := by
  unfold pkOk at h
  simp only [Bool.and_eq_true] at h
  exact ⟨h.1.1.1, h.1.1.2, h.1.2, h.2⟩
theorem pk_mk {a b c d : Int} (h1 : adB a = true) (h2 : adB b = true) (h3 : poB c = true) (h4 : poB d = true) : pkOk ⟨a, b, c, d⟩ = true := by
  unfold pkOk
  rw [h1, h2, h3, h4]
  rfl
theorem stay_err {e : Int} (he : e ≠ 0) {P : Prop} (h : (stayR e).err = 0) : P := absurd h he
theorem ownFrom_lt {M : Mnd} {i : Int} {s : Int × Int} {j : Nat} : ∀ (m k : Nat), 8 - k ≤ m → ownFrom M i s k = some j → j < 8
  | 0, k, h, e => by
    rw [ownFrom, dif_neg (by omega)] at e
    cases e
  | m + 1, k, h, e => by
    rw [ownFrom] at e
    by_cases hk : k < 8
    · rw [dif_pos hk] at e
      by_cases ho : M.ow (i, (k : Int)) = some s
      · rw [if_pos ho] at e
        obtain rfl := Option.some.inj e
        exact hk
      · rw [if_neg ho] at e
        exact ownFrom_lt m (k + 1) (by omega) e
    · rw [dif_neg hk] at e
      cases e
theorem send_ok {d : Dv} (hd : adB d.addr = true ∧ ∀ (j : Nat) (x : Int), d.backs[j]? = some x → adB x = true) {M : Mnd} (hM : MOk M) {i q : Int} {p : Pk} {c : Int} (hp : pkOk p = true) (he : (sendP d M i q p c).err = 0) : pkOk (sendP d M i q p c).p = true ∧ MOk (learnP M (sendP d M i q p c).l) := by
  obtain ⟨p1, p2, p3, p4⟩ := pk_parts hp
  unfold sendP at he ⊢
  split at he
  · rename_i hk
    rw [if_pos hk]
    unfold routeP at he ⊢
    split at he
    · rename_i h1
      rw [if_pos h1]
      exact ⟨hp, hM⟩
    · exact stay_err (by decide) he
  rename_i hk
  rw [if_neg hk]
  split at he
  · rename_i hk
    rw [if_pos hk]
    split at he
    · rename_i hq
      rw [if_pos hq]
      unfold askP at he ⊢
      split at he
      · rename_i h1
        rw [if_pos h1]
        exact ⟨hp, mok_flow hM⟩
      · exact stay_err (by decide) he
    · rename_i hq
      rw [if_neg hq]
      unfold answerP at he ⊢
      split at he
      · rename_i h1
        rw [if_pos h1]
        exact ⟨hp, hM⟩
      · exact stay_err (by decide) he
  rename_i hk
  rw [if_neg hk]
  split at he
  · rename_i hk
    rw [if_pos hk]
    split at he
    · rename_i hq
      rw [if_pos hq]
      unfold hideP at he ⊢
      cases ho : ownFrom M i (p.s, p.sp) 0 with
      | some k =>
        have hk8 := ownFrom_lt 8 0 (by omega) ho
        refine ⟨pk_mk hd.1 p2 ?_ p4, mok_own hM ⟨p1, p3⟩⟩
        unfold poB
        simp only [Bool.and_eq_true, decide_eq_true_eq]
        omega
      | none =>
        rw [ho] at he
        dsimp only at he ⊢
        split at he
        · rename_i h1
          rw [if_pos h1]
          split at he
          · exact stay_err (by decide) he
          · rename_i h2
            rw [if_neg h2]
            have hc : poB c = true := by
              unfold poolB at h1
              simp only [Bool.and_eq_true] at h1
              exact h1.1
            exact ⟨pk_mk hd.1 p2 hc p4, mok_own hM ⟨p1, p3⟩⟩
        · exact stay_err (by decide) he
    · rename_i hq
      rw [if_neg hq]
      unfold unhideP at he ⊢
      cases ho : M.ow (i, p.dp) with
      | some s =>
        rw [ho] at he
        dsimp only at he ⊢
        split at he
        · rename_i h1
          rw [if_pos h1]
          have := hM.ow _ _ ho
          exact ⟨pk_mk p1 this.1 p3 this.2, hM⟩
        · exact stay_err (by decide) he
      | none =>
        rw [ho] at he
        exact stay_err (by decide) he
  rename_i hk
  rw [if_neg hk]
  split at he
  · rename_i hk
    rw [if_pos hk]
    split at he
    · rename_i hq
      rw [if_pos hq]
      unfold spreadP at he ⊢
      split at he
      · rename_i h1
        rw [if_pos h1]
        cases ho : M.bk (i, p) with
        | some b =>
          have := hM.bk _ _ ho
          exact ⟨pk_mk p1 this p3 p4, mok_back hM this⟩
        | none =>
          rw [ho] at he
          dsimp only at he ⊢
          split at he
          · rename_i h2
            rw [if_pos h2]
            have hb : adB (d.backs.getD c.toNat 0) = true := by
              simp only [Bool.and_eq_true, decide_eq_true_eq] at h2
              have hl : c.toNat < d.backs.length := by omega
              rw [List.getD_eq_getElem?_getD, List.getElem?_eq_getElem hl]
              exact hd.2 c.toNat _ (List.getElem?_eq_getElem hl)
            exact ⟨pk_mk p1 hb p3 p4, mok_back hM hb⟩
          · exact stay_err (by decide) he
      · rename_i h1
        rw [if_neg h1]
        exact ⟨hp, hM⟩
    · rename_i hq
      rw [if_neg hq]
      unfold gatherP
      refine ⟨?_, hM⟩
      show pkOk (if _ then _ else _) = true
      split
      · exact pk_mk hd.1 p2 p3 p4
      · exact hp
  · exact stay_err (by decide) he
theorem handle_ok {ds : List Dv} {ls : List Lk} (hz : netV ds ls = 0) {M : Mnd} (hM : MOk M) (i q : Int) (p : Pk) (c : Int) : MOk (handleP ds ls M i q p c).M ∧ ((handleP ds ls M i q p c).err = 0 → pkOk (handleP ds ls M i q p c).p = true ∧ i64ok (handleP ds ls M i q p c).tp.1 ∧ i64ok (handleP ds ls M i q p c).tp.2) := by
  unfold handleP
  cases hpl : isPl ds i q
  · rw [if_neg (by simp)]
    exact ⟨hM, fun h => absurd (show (4 : Int) = 0 from h) (by decide)⟩
  rw [if_pos rfl]
  cases hp : pkOk p
  · rw [if_neg (by simp)]
    exact ⟨hM, fun h => absurd (show (1 : Int) = 0 from h) (by decide)⟩
  rw [if_pos rfl]
  have hi : i.toNat < ds.length := by
    unfold isPl at hpl
    simp only [Bool.and_eq_true, decide_eq_true_eq] at hpl
    omega
  have hd : adB (ds.getD i.toNat default).addr = true ∧ ∀ (j : Nat) (x : Int), (ds.getD i.toNat default).backs[j]? = some x → adB x = true := by
    rw [List.getD_eq_getElem?_getD, List.getElem?_eq_getElem hi]
    exact dev_ad (netV_devs hz _ (List.getElem_mem hi))
  by_cases he : (sendP (ds.getD i.toNat default) M i q p c).err = 0
  · rw [if_pos he]
    obtain ⟨h1, h2⟩ := send_ok hd hM hp he
    cases hpe : peerF ls i (sendP (ds.getD i.toNat default) M i q p c).port with
    | some t => exact ⟨h2, fun _ => ⟨h1, peer_ok hz hpe⟩⟩
    | none => exact ⟨hM, fun h => absurd (show (7 : Int) = 0 from h) (by decide)⟩
  · rw [if_neg he]
    exact ⟨hM, fun h => absurd h he⟩
theorem forget_ok {ds : List Dv} {M : Mnd} (hM : MOk M) (i : Int) (p : Pk) (c : Int) : MOk (forgetP ds M i p c).M := by
  unfold forgetP
  split
  · split
    · split
      · exact ⟨hM.ow, hM.bk⟩
      · exact hM
    · split
      · split
        · refine ⟨fun k s e => ?_, hM.bk⟩
          have e' : delF M.ow (i, c) k = some s := e
          by_cases hk : k = (i, c)
          · subst hk
            rw [delF_same] at e'
            cases e'
          · rw [delF_other _ hk] at e'
            exact hM.ow _ _ e'
        · exact hM
      · split
        · split
          · refine ⟨hM.ow, fun k s e => ?_⟩
            have e' : delF M.bk (i, p) k = some s := e
            by_cases hk : k = (i, p)
            · subst hk
              rw [delF_same] at e'
              cases e'
            · rw [delF_other _ hk] at e'
              exact hM.bk _ _ e'
          · exact hM
        · exact hM
  · exact hM
/-- Where all is right, an event leaves it so: at most one arrival more, none where there is an error. -/
theorem do_ok {ds : List Dv} {ls : List Lk} (hz : netV ds ls = 0) {M : Mnd} (hM : MOk M) {ar : List Arv} (ha : ∀ x ∈ ar, pkOk x.2 = true) (x : Ev) : MOk (doP ds ls M ar x).2.1 ∧ (∀ y ∈ (doP ds ls M ar x).2.2, pkOk y.2 = true) ∧ ((doP ds ls M ar x).2.2 = ar ∨ ((doP ds ls M ar x).1 = 0 ∧ ∃ y, (doP ds ls M ar x).2.2 = ar ++ [y])) := by
  have hadd : ∀ y : Arv, pkOk y.2 = true → (∀ z ∈ addA ar y, pkOk z.2 = true) ∧ (addA ar y = ar ∨ ∃ z, addA ar y = ar ++ [z]) := fun y hy => by
    unfold addA
    split
    · exact ⟨ha, Or.inl rfl⟩
    · refine ⟨fun z hz => ?_, Or.inr ⟨y, rfl⟩⟩
      rcases List.mem_append.1 hz with h | h
      · exact ha z h
      · rw [List.mem_singleton.1 h]
        exact hy
  unfold doP
  split
  · refine ⟨hM, ?_⟩
    unfold injP
    split
    · split
      · split
        · rename_i hp
          split
          · cases hpe : peerF ls x.i 0 with
            | some t =>
              obtain ⟨h1, h2⟩ := hadd (t, x.p) hp
              refine ⟨h1, ?_⟩
              rcases h2 with h | h
              · exact Or.inl h
              · exact Or.inr ⟨rfl, h⟩
            | none => exact ⟨ha, Or.inl rfl⟩
          · exact ⟨ha, Or.inl rfl⟩
        · exact ⟨ha, Or.inl rfl⟩
      · exact ⟨ha, Or.inl rfl⟩
    · exact ⟨ha, Or.inl rfl⟩
  · split
    · unfold hopP
      split
      · obtain ⟨h1, h2⟩ := handle_ok hz hM x.i x.q x.p x.c
        refine ⟨h1, ?_⟩
        by_cases he : (handleP ds ls M x.i x.q x.p x.c).err = 0
        · obtain ⟨g1, g2⟩ := hadd ((handleP ds ls M x.i x.q x.p x.c).tp, (handleP ds ls M x.i x.q x.p x.c).p) (h2 he).1
          dsimp only
          rw [if_pos he]
          refine ⟨g1, ?_⟩
          rcases g2 with h | h
          · exact Or.inl h
          · exact Or.inr ⟨he, h⟩
        · dsimp only
          rw [if_neg he]
          exact ⟨ha, Or.inl rfl⟩
      · exact ⟨hM, ha, Or.inl rfl⟩
    · split
      · exact ⟨forget_ok hM _ _ _, ha, Or.inl rfl⟩
      · exact ⟨hM, ha, Or.inl rfl⟩
end Go.Proofs.YtgmjlkllghlmmaaGreat

namespace Go.Proofs.YtgmjlkllghlmmaaGreat
open Go.RowKit Go.Maps

/-- A new world, out of its parts. -/
theorem wl_new {W : World} {m : Mp} {ds : List Dv} {ls : List Lk} {A L : Option Addr} {c d G : Nat} (hM : MemAt W m ds ls 0 noM) (hD : Devs W.heap.size W (.slice A ds.length c) ds) (hL : Links W.heap.size W (.slice L ls.length d) ls) (hG : MapAt arvE unitV W G 0 (fun _ => none)) (g1 : G ≠ m.f) (g2 : G ≠ m.o) (g3 : G ≠ m.k) :
    WlAt (W.alloc (.cells #[.slice A ds.length c, .slice L ls.length d, .slice m.A ds.length m.cap, .slice m.L ls.length m.cap', .map (some m.f), .map (some m.o), .map (some m.k), .slice none 0 0, .map (some G)] 122)) ⟨W.heap.size, m.f, m.o, m.k, m.A, m.cap, m.L, m.cap', A, c, L, d, G⟩ none 0 ds ls 0 noM [] := by
  have hb : Below W.heap.size W (W.alloc (.cells #[.slice A ds.length c, .slice L ls.length d, .slice m.A ds.length m.cap, .slice m.L ls.length m.cap', .map (some m.f), .map (some m.o), .map (some m.k), .slice none 0 0, .map (some G)] 122)) := (Below.refl _ _).alloc (Nat.le_refl _) _
  have hM' := hM.below hb
  refine ⟨bk_new W _ _, hD.below hb, hL.below hb, hM.devs.below hb, hM.links.below hb, hM'.fl, hM'.ow, hM'.bk, hM'.fo, hM'.fk, hM'.ok, ⟨rfl, Or.inl ⟨rfl, rfl⟩⟩, ?_, g1, g2, g3, ⟨hM.fl.lt, hM.ow.lt, hM.bk.lt, hG.lt⟩, fun x hx => by cases hx⟩
  rw [show inF ([] : List Arv) = fun _ => none from inF_no]
  exact hG.same (hb.block _ hG.lt)
/-- What New tells. -/
def WNew (w : World) (ds : List Dv) (ls : List Lk) (e : Ending) (w' : World) : Prop :=
  Below w.heap.size w w' ∧ ((netV ds ls ≠ 0 ∧ e = .returned (.tuple #[.pointer none, .int .i64 (netV ds ls)])) ∨
    (netV ds ls = 0 ∧ ∃ p : Wp, e = .returned (.tuple #[.pointer (some ⟨p.B, 0, none⟩), .int .i64 0]) ∧ WlAt w' p none 0 ds ls 0 noM [] ∧ w.heap.size ≤ p.f ∧ w.heap.size ≤ p.o ∧ w.heap.size ≤ p.k ∧ w.heap.size ≤ p.B ∧ w.heap.size ≤ p.G))
set_option maxHeartbeats 8000000 in
set_option maxRecDepth 100000 in
theorem wnew_any (A L : Option Addr) (cap cap' : Nat) (ds : List Dv) (ls : List Lk) (w : World) (hD : Hid (Devs w.heap.size w (.slice A ds.length cap) ds)) (hL : Hid (Links w.heap.size w (.slice L ls.length cap') ls)) :
    Calls Tryz.prog 12 #[.agg #[.slice A ds.length cap, .slice L ls.length cap']] w (WNew w ds ls) := by
  have N2 : Hid (∀ (W : World), Below w.heap.size w W → Calls Tryz.prog 5 #[.agg #[.slice A ds.length cap, .slice L ls.length cap']] W (NewOut W ds ls)) := fun W h => new_any A L cap cap' ds ls W ((hD.out.below h).mono h.size) ((hL.out.below h).mono h.size)
  have D0 := Below.alN (Below.refl w.heap.size w) (.cells #[.slice A ds.length cap, .slice L ls.length cap'] 25)
  have N0 := bk_new w #[.slice A ds.length cap, .slice L ls.length cap'] 25
  obtain ⟨n0, n1⟩ := N0.two
  go_enter Tryz.func12, Tryz.ntmps12
  go_wp2_with fail
  refine (N2.out _ D0).mono ?_
  rintro e w1 ⟨hb1, hN⟩
  have D1 := chnN hb1 D0
  have N1 := N0.keep hb1
  have z0 := D0.size
  clear hb1 D0 N0 n0 n1 N2
  rcases hN with ⟨hne, rfl⟩ | ⟨hz, m, rfl, hM, l1, l2, l3, l4, q1, q2, q3⟩
  · have hz1 : (netV ds ls == 0) = false := by simpa using hne
    generalize hnv : netV ds ls = nv at *
    have HNZ : Hid (¬ nv = 0) := hne
    clear hne
    go_wp2_with fail
    all_goals first | exact absurd (by assumption) HNZ.out | skip
    go_ret2
    exact ⟨D1, .inl ⟨by rw [hnv]; exact HNZ.out, by rw [hnv]; rfl⟩⟩
  have CP : Hid (∀ W, Below w.heap.size w W → Calls Tryz.prog 22 #[.agg #[.slice A ds.length cap, .slice L ls.length cap']] W (CopyOut W ds ls)) := fun W h => copy_any A L cap cap' ds ls W ((hD.out.below h).mono h.size) ((hL.out.below h).mono h.size) (small_of hz)
  obtain ⟨z, pre, post, ty, B, f, o, k, A2, c2, L2, d2⟩ := m
  dsimp only at q1 q2 q3 l1 l2 l3 l4
  subst q1 q2 q3
  have HZ : Hid (netV ds ls = 0) := hz
  have fin : Hid (∀ (W : World) (A' : Option Addr) (c' : Nat) (L' : Option Addr) (d' G : Nat), MemAt W ⟨0, [], [], ty, B, f, o, k, A2, c2, L2, d2⟩ ds ls 0 noM → Devs W.heap.size W (.slice A' ds.length c') ds → Links W.heap.size W (.slice L' ls.length d') ls → MapAt arvE unitV W G 0 (fun _ => none) → w1.heap.size ≤ G → Below w.heap.size w W → WNew w ds ls (.returned (.tuple #[.pointer (some ⟨W.heap.size, 0, none⟩), .int .i64 0])) (W.alloc (.cells #[.slice A' ds.length c', .slice L' ls.length d', .slice A2 ds.length c2, .slice L2 ls.length d2, .map (some f), .map (some o), .map (some k), .slice none 0 0, .map (some G)] 122))) := by
    intro W A' c' L' d' G h1 h2 h3 h4 h5 h6
    have f1 := hM.fl.lt
    have f2 := hM.ow.lt
    have f3 := hM.bk.lt
    dsimp only at f1 f2 f3
    have z6 := h6.size
    have z1 := D1.size
    exact ⟨Below.alN h6 _, .inr ⟨hz, _, rfl, wl_new h1 h2 h3 h4 (by show G ≠ f; omega) (by show G ≠ o; omega) (by show G ≠ k; omega), by show w.heap.size ≤ f; omega, by show w.heap.size ≤ o; omega, by show w.heap.size ≤ k; omega, by show w.heap.size ≤ W.heap.size; omega, by show w.heap.size ≤ G; omega⟩⟩
  obtain ⟨Q, hQ⟩ : ∃ Q : World → Prop, Q = fun W => MemAt W ⟨0, [], [], ty, B, f, o, k, A2, c2, L2, d2⟩ ds ls 0 noM ∧ Bk W w.heap.size #[.slice A ds.length cap, .slice L ls.length cap'] 25 ∧ Below w.heap.size w W := ⟨_, rfl⟩
  have Q1 : Q w1 := by rw [hQ]; exact ⟨hM, N1, D1⟩
  have FS : ∀ {w' : World}, Q w' → w'.cell? ⟨w.heap.size, 0, none⟩ = some (.slice A ds.length cap) ∧ w'.cell? ⟨w.heap.size, 1, none⟩ = some (.slice L ls.length cap') ∧ w'.cell? ⟨B, 0, none⟩ = some (.slice A2 ds.length c2) ∧ w'.cell? ⟨B, 1, none⟩ = some (.slice L2 ls.length d2) ∧ w'.cell? ⟨B, 2, none⟩ = some (.map (some f)) ∧ w'.cell? ⟨B, 3, none⟩ = some (.map (some o)) ∧ w'.cell? ⟨B, 4, none⟩ = some (.map (some k)) := fun {w'} h => by
    rw [hQ] at h
    have h1 := h.1.cells
    simp only [Nat.zero_add] at h1
    exact ⟨h.2.1.at 0, h.2.1.at 1, h1⟩
  have KP : ∀ {W W' : World}, Q W → Below W.heap.size W W' → Q W' := fun {W W'} h hb => by
    rw [hQ] at h ⊢
    exact ⟨h.1.below hb, h.2.1.keep hb, chnN hb h.2.2⟩
  have AL : ∀ {W : World} (o : Obj), Q W → Q (W.alloc o) := fun o h => KP h ((Below.refl _ _).alloc (Nat.le_refl _) o)
  have DR : ∀ {W : World}, Q W → Q W.drew := fun h => KP h (Below.refl _ _).drew
  have CQ : Hid (∀ W, Q W → Calls Tryz.prog 22 #[.agg #[.slice A ds.length cap, .slice L ls.length cap']] W fun e w' => ∃ A' c' L' d', e = .returned (.agg #[.slice A' ds.length c', .slice L' ls.length d']) ∧ Hid (Devs w'.heap.size w' (.slice A' ds.length c') ds ∧ Links w'.heap.size w' (.slice L' ls.length d') ls) ∧ Below W.heap.size W w') := fun W h => (CP.out W (by rw [hQ] at h; exact h.2.2)).mono fun e w' ⟨A', c', L', d', h1, h2, h3, h4⟩ => ⟨A', c', L', d', h1, ⟨h2, h3⟩, h4⟩
  have fin2 : Hid (∀ (W : World) (A' : Option Addr) (c' : Nat) (L' : Option Addr) (d' G : Nat), Q W → Devs W.heap.size W (.slice A' ds.length c') ds → Links W.heap.size W (.slice L' ls.length d') ls → MapAt arvE unitV W G 0 (fun _ => none) → w1.heap.size ≤ G → WNew w ds ls (.returned (.tuple #[.pointer (some ⟨W.heap.size, 0, none⟩), .int .i64 0])) (W.alloc (.cells #[.slice A' ds.length c', .slice L' ls.length d', .slice A2 ds.length c2, .slice L2 ls.length d2, .map (some f), .map (some o), .map (some k), .slice none 0 0, .map (some G)] 122))) := fun W A' c' L' d' G h h2 h3 h4 h5 => by
    rw [hQ] at h
    exact fin.out W A' c' L' d' G h.1 h2 h3 h4 h5 h.2.2
  generalize WNew w ds ls = WN at *
  have G1 : Hid (MapAt arvE unitV (w1.alloc (.map #[] 0)).drew w1.heap.size 0 (fun _ => none)) := mapAt_made arvE unitV w1
  have Q1d := DR Q1
  have Q1a := DR (AL (.map #[] 0) Q1)
  obtain ⟨a0, a1, a2, a3, a4, a5, a6⟩ := FS Q1
  clear fin CP HZ hz hM D1 N1 hQ hD hL l1 l2 l3 l4 z0
  have hmm := @run_makeMap Tryz.prog
  go_upto_region 4 with fail
  go_region_held3 (fun w' => w'.cell? ⟨w.heap.size, 0, none⟩ = some (.slice A ds.length cap) ∧ w'.cell? ⟨w.heap.size, 1, none⟩ = some (.slice L ls.length cap') ∧ w'.cell? ⟨B, 0, none⟩ = some (.slice A2 ds.length c2) ∧ w'.cell? ⟨B, 1, none⟩ = some (.slice L2 ls.length d2) ∧ w'.cell? ⟨B, 2, none⟩ = some (.map (some f)) ∧ w'.cell? ⟨B, 3, none⟩ = some (.map (some o)) ∧ w'.cell? ⟨B, 4, none⟩ = some (.map (some k))) (exact FS (by first | exact Q2 | exact AL _ Q2 | exact AL _ (AL _ Q2) | exact Q1a | exact Q1d)) (first | (go_at_call 22; (with_reducible refine (CQ.out _ Q1d).mono ?_); rintro e w2 ⟨A', c', L', d', rfl, hC, hb2⟩; have Q2 := KP Q1d hb2; have zz := hb2.size) | (go_at_call 22; (with_reducible refine (CQ.out _ Q1a).mono ?_); rintro e w2 ⟨A', c', L', d', rfl, hC, hb2⟩; have Q2 := KP Q1a hb2; have G2 := G1.out.same (hb2.block _ G1.out.lt)))
  all_goals
    go_wp2_with fail
    first
      | exact fin2.out _ _ _ _ _ _ Q2 hC.out.1 hC.out.2 G2 (Nat.le_refl _)
      | (have hf := fin2.out _ _ _ _ _ _ (AL _ Q2) ((hC.out.1.below ((Below.refl _ _).alloc (Nat.le_refl _) _)).mono (by simp)) ((hC.out.2.below ((Below.refl _ _).alloc (Nat.le_refl _) _)).mono (by simp)) (mapAt_made arvE unitV w2) zz; rw [World.size_alloc] at hf; exact hf)
end Go.Proofs.YtgmjlkllghlmmaaGreat
