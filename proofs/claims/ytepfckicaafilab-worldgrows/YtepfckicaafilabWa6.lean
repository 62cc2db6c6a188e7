/-
  Package world: inject.
-/
import Derived.Test.YtepfckicaafilabWa5
namespace Go.Proofs.Ytepfckicaafilab
open Go.RowKit Go.Maps

/-- The other end is a place of the net. -/
theorem endOf_place {l : Lk} {ds : List Dv} {d p : Int} {t : Int × Int} (h : endOf l d p = some t) (h1 : isPl ds l.a l.p = true) (h2 : isPl ds l.b l.q = true) : isPl ds t.1 t.2 = true := by
  unfold endOf at h
  split at h
  · cases h; exact h2
  · split at h
    · cases h; exact h1
    · cases h
theorem peerF_place {ds : List Dv} : ∀ (ls : List Lk) (d p : Int) (t : Int × Int), (∀ l ∈ ls, isPl ds l.a l.p = true ∧ isPl ds l.b l.q = true) → peerF ls d p = some t → isPl ds t.1 t.2 = true
  | [], d, p, t, _, h => by cases h
  | l :: ls, d, p, t, hl, h => by
    have h' : (endOf l d p).or (peerF ls d p) = some t := h
    cases he : endOf l d p with
    | some t' =>
      rw [he] at h'
      cases h'
      exact endOf_place he (hl l (by simp)).1 (hl l (by simp)).2
    | none =>
      rw [he] at h'
      exact peerF_place ls d p t (fun m hm => hl m (by simp [hm])) h'
theorem isPl_ok {ds : List Dv} (hd : ds.length ≤ 10) {x y : Int} (h : isPl ds x y = true) : i64ok x ∧ i64ok y := by
  unfold isPl at h
  simp only [Bool.and_eq_true, decide_eq_true_eq] at h
  have : portsV (kindAt ds x) ≤ 4 := by
    unfold portsV
    split
    all_goals first | omega | (split <;> omega) | skip
  exact ⟨i64ok_of (by omega) (by omega), i64ok_of (by omega) (by omega)⟩
theorem peer_ok {ds : List Dv} {ls : List Lk} (hz : netV ds ls = 0) {d p : Int} {t : Int × Int} (h : peerF ls d p = some t) : i64ok t.1 ∧ i64ok t.2 :=
  isPl_ok (netV_links hz).1 (peerF_place ls d p t (netV_links hz).2.2.2 h)
def inj2 (AD : Arv → List Arv) (ar : List Arv) (q : Pk) : Option (Int × Int) → Int × List Arv
  | some t => (0, AD (t, q))
  | none => (7, ar)
/-- What inject tells, and what came in then. -/
noncomputable def injP (ds : List Dv) (ls : List Lk) (ar : List Arv) (i : Int) (p : Pk) : Int × List Arv :=
  if 0 ≤ i ∧ i < (ds.length : Int) then
    (if (ds.getD i.toNat default).kind = 1 then
      (if pkOk p then
        (if p.s = (ds.getD i.toNat default).addr then
          inj2 (addA ar) ar p (peerF ls i 0)
        else (1, ar))
      else (1, ar))
    else (1, ar))
  else (4, ar)
end Go.Proofs.Ytepfckicaafilab
