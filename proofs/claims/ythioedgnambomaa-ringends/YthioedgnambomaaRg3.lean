/-
  The way of a packet, plain.
-/
import Derived.Test.YthioedgnambomaaRg2
namespace Go.Proofs.Ythioedgnambomaa
open Go.RowKit Go.Maps

/-- Where a packet that comes in at a place goes, where nothing is known. -/
noncomputable def nxF (ds : List Dv) (ls : List Lk) (p : Pk) (t : Plc) : Option Plc := if (handleP ds ls noM t.1 t.2 p 0).err = 0 then some (handleP ds ls noM t.1 t.2 p 0).tp else none
def PlainD (ds : List Dv) : Prop := ∀ d ∈ ds, d.kind = 1 ∨ d.kind = 2
theorem send_no {d : Dv} (hd : d.kind = 1 ∨ d.kind = 2) (M : Mnd) (i q : Int) (p : Pk) (c : Int) : learnP M (sendP d M i q p c).l = M := by
  unfold sendP
  rcases hd with h | h
  · rw [if_neg (by omega), if_neg (by omega), if_neg (by omega), if_neg (by omega)]
    rfl
  · rw [if_pos h]
    unfold routeP
    split <;> rfl
theorem handle_keeps {ds : List Dv} (hp : PlainD ds) (ls : List Lk) (M : Mnd) (i q : Int) (p : Pk) (c : Int) : (handleP ds ls M i q p c).M = M := by
  unfold handleP
  cases hpl : isPl ds i q
  · rfl
  rw [if_pos rfl]
  cases hpk : pkOk p
  · rfl
  rw [if_pos rfl]
  have hi : i.toNat < ds.length := by
    unfold isPl at hpl
    simp only [Bool.and_eq_true, decide_eq_true_eq] at hpl
    omega
  have hd : (ds.getD i.toNat default).kind = 1 ∨ (ds.getD i.toNat default).kind = 2 := by
    rw [List.getD_eq_getElem?_getD, List.getElem?_eq_getElem hi]
    exact hp _ (List.getElem_mem hi)
  split
  · cases peerF ls i (sendP (ds.getD i.toNat default) M i q p c).port with
    | some t => exact send_no hd M i q p c
    | none => rfl
  · rfl
theorem nx_place {ds : List Dv} {ls : List Lk} (hz : netV ds ls = 0) {p : Pk} {t t' : Plc} (h : nxF ds ls p t = some t') : isPl ds t'.1 t'.2 = true := by
  unfold nxF at h
  split at h
  · rename_i he
    cases h
    unfold handleP at he ⊢
    cases hpl : isPl ds t.1 t.2
    · rw [hpl] at he
      exact absurd (show (4 : Int) = 0 from he) (by decide)
    rw [hpl, if_pos rfl] at he
    rw [if_pos rfl]
    cases hpk : pkOk p
    · rw [hpk] at he
      exact absurd (show (1 : Int) = 0 from he) (by decide)
    rw [hpk, if_pos rfl] at he
    rw [if_pos rfl]
    split at he
    · rename_i h0
      rw [if_pos h0]
      cases hpe : peerF ls t.1 (sendP (ds.getD t.1.toNat default) noM t.1 t.2 p 0).port with
      | some u => exact peerF_place ls _ _ u (netV_links hz).2.2.2 hpe
      | none =>
        rw [hpe] at he
        exact absurd (show (7 : Int) = 0 from he) (by decide)
    · rename_i h0
      exact absurd he h0
  · cases h

/-! ### how many places there are -/
theorem nodup_lt : ∀ (n : Nat) (l : List Nat), l.Nodup → (∀ x ∈ l, x < n) → l.length ≤ n
  | 0, l, _, h => by
    cases l with
    | nil => simp
    | cons a l => exact absurd (h a (by simp)) (by omega)
  | n + 1, l, hn, h => by
    have h1 := nodup_lt n (l.erase n) (hn.erase n) (fun x hx => by
      have := (List.Nodup.mem_erase_iff hn).1 hx
      have := h x this.2
      omega)
    by_cases hm : n ∈ l
    · rw [List.length_erase_of_mem hm] at h1
      omega
    · rw [List.erase_of_not_mem hm] at h1
      omega
def plN (x : Plc) : Nat := 4 * x.1.toNat + x.2.toNat
theorem portsV_le (k : Int) : portsV k ≤ 4 := by
  unfold portsV
  split
  · omega
  split
  · omega
  split <;> omega
theorem isPl_b {ds : List Dv} {x y : Int} (h : isPl ds x y = true) : 0 ≤ x ∧ x < (ds.length : Int) ∧ 0 ≤ y ∧ y < 4 := by
  unfold isPl at h
  simp only [Bool.and_eq_true, decide_eq_true_eq] at h
  have := portsV_le (kindAt ds x)
  omega
theorem places_len {ds : List Dv} (hd : ds.length ≤ 10) {acc : List Plc} (hn : acc.Nodup) (hp : ∀ x ∈ acc, isPl ds x.1 x.2 = true) : acc.length ≤ 40 := by
  have h := nodup_lt 40 (acc.map plN) (by
    refine List.pairwise_map.2 (List.Pairwise.imp_of_mem ?_ hn)
    intro a b ha hb hab e
    have h1 := isPl_b (hp a ha)
    have h2 := isPl_b (hp b hb)
    unfold plN at e
    refine hab (Prod.ext ?_ ?_)
    · omega
    · omega) (fun x hx => by
    obtain ⟨y, hy, rfl⟩ := List.mem_map.1 hx
    have := isPl_b (hp y hy)
    unfold plN
    omega)
  simpa using h

/-! ### the way -/
def goW (nx : Plc → Option Plc) : Nat → List Plc → Plc → List Plc × Bool
  | 0, acc, _ => (acc, false)
  | F + 1, acc, t => if t ∈ acc then (acc, true) else (nx t).elim (acc ++ [t], false) (goW nx F (acc ++ [t]))
theorem goW_in {nx : Plc → Option Plc} {F : Nat} {acc : List Plc} {t : Plc} (h : t ∈ acc) : goW nx (F + 1) acc t = (acc, true) := by rw [goW, if_pos h]
theorem goW_no {nx : Plc → Option Plc} {F : Nat} {acc : List Plc} {t : Plc} (h : t ∉ acc) (hx : nx t = none) : goW nx (F + 1) acc t = (acc ++ [t], false) := by
  rw [goW, if_neg h, hx]
  rfl
theorem goW_on {nx : Plc → Option Plc} {F : Nat} {acc : List Plc} {t t' : Plc} (h : t ∉ acc) (hx : nx t = some t') : goW nx (F + 1) acc t = goW nx F (acc ++ [t]) t' := by
  rw [goW, if_neg h, hx]
  rfl
/-- On the way: what was, where it is. -/
structure WInv (ds : List Dv) (nx : Plc → Option Plc) (res : List Plc × Bool) (acc : List Plc) (t : Plc) : Prop where
  eq : goW nx (41 - acc.length) acc t = res
  nd : acc.Nodup
  pl : ∀ x ∈ acc, isPl ds x.1 x.2 = true
  tp : isPl ds t.1 t.2 = true
  d10 : ds.length ≤ 10
section
variable {ds : List Dv} {nx : Plc → Option Plc} {res : List Plc × Bool} {acc : List Plc} {t t' : Plc}
theorem WInv.len (h : WInv ds nx res acc t) : acc.length ≤ 40 := places_len h.d10 h.nd h.pl
theorem winv_start (hd : ds.length ≤ 10) (ht : isPl ds t.1 t.2 = true) : WInv ds nx (goW nx 41 [] t) [] t := ⟨rfl, List.nodup_nil, (fun x hx => by cases hx), ht, hd⟩
theorem WInv.fuel (h : WInv ds nx res acc t) : 41 - acc.length = (40 - acc.length) + 1 := by
  have := h.len
  omega
theorem WInv.round (h : WInv ds nx res acc t) (hm : t ∈ acc) : res = (acc, true) := by
  rw [← h.eq, h.fuel, goW_in hm]
theorem WInv.stop (h : WInv ds nx res acc t) (hm : t ∉ acc) (hx : nx t = none) : res = (acc ++ [t], false) := by
  rw [← h.eq, h.fuel, goW_no hm hx]
theorem WInv.next (h : WInv ds nx res acc t) (hm : t ∉ acc) (hx : nx t = some t') (hp : isPl ds t'.1 t'.2 = true) : WInv ds nx res (acc ++ [t]) t' := by
  refine ⟨?_, ?_, ?_, hp, h.d10⟩
  · rw [← h.eq, h.fuel, goW_on hm hx]
    congr 1
    simp <;> omega
  · rw [List.nodup_append]
    refine ⟨h.nd, by simp, ?_⟩
    intro a ha b hb e
    rw [List.mem_singleton.1 hb] at e
    exact hm (e ▸ ha)
  · intro x hx
    rcases List.mem_append.1 hx with hx | hx
    · exact h.pl x hx
    · rw [List.mem_singleton.1 hx]
      exact h.tp
end
/-- How a way ends. -/
structure Ended (ds : List Dv) (nx : Plc → Option Plc) (t0 : Plc) (l : List Plc) (r : Bool) : Prop where
  head : l[0]? = some t0
  nd : l.Nodup
  on : ∀ k x, l[k]? = some x → k + 1 < l.length → ∃ y, l[k + 1]? = some y ∧ nx x = some y
  rnd : r = true → ∀ x, l[l.length - 1]? = some x → ∃ y, nx x = some y ∧ y ∈ l
  rest : r = false → ∀ x, l[l.length - 1]? = some x → nx x = none
  pl : ∀ x ∈ l, isPl ds x.1 x.2 = true
theorem goW_ended {ds : List Dv} {nx : Plc → Option Plc} {t0 : Plc} (hpl : ∀ x y, nx x = some y → isPl ds y.1 y.2 = true) : ∀ (F : Nat) (acc : List Plc) (t : Plc) (res : List Plc × Bool), F = 41 - acc.length → WInv ds nx res acc t → (acc ++ [t])[0]? = some t0 → (∀ k x, acc[k]? = some x → ∃ y, (acc ++ [t])[k + 1]? = some y ∧ nx x = some y) → Ended ds nx t0 res.1 res.2
  | 0, acc, t, res, hF, h, _, _ => by
    have := h.len
    omega
  | F + 1, acc, t, res, hF, h, h0, hc => by
    by_cases hm : t ∈ acc
    · obtain rfl := h.round hm
      have hne : 0 < acc.length := List.length_pos_of_mem hm
      refine ⟨?_, h.nd, ?_, ?_, (fun e => by cases e), h.pl⟩
      · rw [List.getElem?_append_left hne] at h0
        exact h0
      · intro k x hk hl
        obtain ⟨y, h1, h2⟩ := hc k x hk
        have hl' : k + 1 < acc.length := hl
        rw [List.getElem?_append_left hl'] at h1
        exact ⟨y, h1, h2⟩
      · intro _ x hx
        obtain ⟨y, h1, h2⟩ := hc _ x hx
        have hl : acc.length - 1 + 1 = acc.length := by omega
        rw [hl, List.getElem?_append_right (Nat.le_refl _)] at h1
        simp at h1
        exact ⟨y, h2, h1 ▸ hm⟩
    · have hon : ∀ (k : Nat) (x : Plc), (acc ++ [t])[k]? = some x → k + 1 < (acc ++ [t]).length → ∃ y, (acc ++ [t])[k + 1]? = some y ∧ nx x = some y := by
        intro k x hk hl
        have hl' : k < acc.length := by simpa using hl
        rw [List.getElem?_append_left hl'] at hk
        exact hc k x hk
      have hnd : (acc ++ [t]).Nodup := by
        rw [List.nodup_append]
        refine ⟨h.nd, by simp, ?_⟩
        intro a ha b hb e
        rw [List.mem_singleton.1 hb] at e
        exact hm (e ▸ ha)
      cases hx : nx t with
      | none =>
        obtain rfl := h.stop hm hx
        refine ⟨h0, hnd, hon, (fun e => by cases e), ?_, ?_⟩
        rotate_left
        · intro x hx'
          rcases List.mem_append.1 hx' with h' | h'
          · exact h.pl x h'
          · rw [List.mem_singleton.1 h']
            exact h.tp
        intro _ x hk
        have e : (acc ++ [t]).length - 1 = acc.length := by simp
        have hk' : (acc ++ [t])[(acc ++ [t]).length - 1]? = some x := hk
        rw [e, List.getElem?_append_right (Nat.le_refl _)] at hk'
        simp at hk'
        rw [← hk']
        exact hx
      | some t' =>
        refine goW_ended hpl F (acc ++ [t]) t' res (by simp; omega) (h.next hm hx (hpl _ _ hx)) ?_ ?_
        · rw [List.getElem?_append_left (by simp)]
          exact h0
        · intro k x hk
          by_cases hl : k + 1 < (acc ++ [t]).length
          · obtain ⟨y, h1, h2⟩ := hon k x hk hl
            exact ⟨y, by rw [List.getElem?_append_left hl]; exact h1, h2⟩
          · have hk2 := (List.getElem?_eq_some_iff.1 hk).1
            have e : k = acc.length := by simp at hl hk2; omega
            subst e
            rw [List.getElem?_append_right (Nat.le_refl _)] at hk
            simp at hk
            subst hk
            refine ⟨t', ?_, hx⟩
            rw [List.getElem?_append_right (by simp)]
            simp
/-- What ring.walk tells of a place. -/
noncomputable def wayP (ds : List Dv) (ls : List Lk) (p : Pk) (t : Plc) : List Plc × Bool := goW (nxF ds ls p) 41 [] t
theorem way_ended {ds : List Dv} {ls : List Lk} (hz : netV ds ls = 0) {p : Pk} {t : Plc} (ht : isPl ds t.1 t.2 = true) : Ended ds (nxF ds ls p) t (wayP ds ls p t).1 (wayP ds ls p t).2 :=
  goW_ended (ds := ds) (fun _ _ h => nx_place hz h) 41 [] t _ rfl (winv_start (netV_links hz).1 ht) rfl (fun k x h => by simp at h)
end Go.Proofs.Ythioedgnambomaa
