/-
  Package step: send, whole; Handle.
-/
import Derived.Test.YthioedgnambomaaSu2
import Derived.Test.YthioedgnambomaaSt1
import Derived.Test.YthioedgnambomaaSt2
import Derived.Test.YthioedgnambomaaSt3
import Derived.Test.YthioedgnambomaaSt4
import Derived.Test.YthioedgnambomaaSt5
import Derived.Test.YthioedgnambomaaSt7
import Derived.Test.YthioedgnambomaaSt8
import Derived.Test.YthioedgnambomaaNCk
namespace Go.Proofs.Ythioedgnambomaa
open Go.RowKit Go.Maps

theorem stay_post (m : Mp) (W : World) : Calls Try.prog 40 #[] W (SPost m W (stayR 7)) :=
  (stay_any W).mono fun _ _ ⟨he, hb⟩ => ⟨0, zeroP, .nilFunc, 7, he, ⟨rfl, Or.inl rfl, fun h => by cases h⟩, hb⟩
/-- send. -/
theorem send_any (m : Mp) (ds : List Dv) (ls : List Lk) (n : Nat) (M : Mnd) (i : Nat) (d : Dv) (q : Int) (p : Pk) (c : Int) (w : World) (hM : Hid (MemAt w m ds ls n M)) (hx : Hid (ds[i]? = some d)) (hp : Hid p.ok) (hi : Hid (i64ok (i : Int))) (hc : Hid (i64ok c)) (ha : Hid (i64ok d.addr)) :
    Calls Try.prog 18 #[.pointer (some ⟨m.B, m.z, none⟩), plA (i : Int) q, pkV p, .int .i64 c] w (SPost m w (sendP d M i q p c)) := by
  unfold sendP
  by_cases k2 : d.kind = 2
  · rw [if_pos k2]
    exact send_route m ds ls n M i d q p c _ w hM hx k2 (fun W h => route_any m ds ls n M i d p W h hx)
  rw [if_neg k2]
  by_cases k3 : d.kind = 3
  · rw [if_pos k3]
    by_cases q0 : q = 0
    · rw [if_pos q0]
      exact send_ask m ds ls n M i d q p c _ w hM hx k3 (by simpa using q0) (fun W h => ask_any m ds ls n M i d p W h hx hp hi)
    · rw [if_neg q0]
      exact send_answer m ds ls n M i d q p c _ w hM hx k3 (by simpa using q0) (fun W h => answer_any m ds ls n M i p W h hp hi)
  rw [if_neg k3]
  by_cases k4 : d.kind = 4
  · rw [if_pos k4]
    by_cases q0 : q = 0
    · rw [if_pos q0]
      exact send_hide m ds ls n M i d q p c _ w hM hx k4 (by simpa using q0) (fun W h => hide_any m ds ls n M i d p c W h hx hi hc)
    · rw [if_neg q0]
      exact send_unhide m ds ls n M i d q p c _ w hM hx k4 (by simpa using q0) (fun W h => unhide_any m ds ls n M i d p W h hx hp hi)
  rw [if_neg k4]
  by_cases k5 : d.kind = 5
  · rw [if_pos k5]
    by_cases q0 : q = 0
    · rw [if_pos q0]
      exact send_spread m ds ls n M i d q p c _ w hM hx k5 (by simpa using q0) (fun W h => spread_any m ds ls n M i d p c W h hx hp hi)
    · rw [if_neg q0]
      exact send_gather m ds ls n M i d q p c _ w hM hx k5 (by simpa using q0) (fun W h => gather_any m ds ls n M i d p W h hx hp hi ha)
  rw [if_neg k5]
  exact send_stay m ds ls n M i d q p c _ w hM hx (by omega) (fun W _ => stay_post m W)
/-- An arrival. -/
abbrev arV (t : Int × Int) (p : Pk) : Value := .agg #[.int .i64 t.1, .int .i64 t.2, .int .i64 p.s, .int .i64 p.d, .int .i64 p.sp, .int .i64 p.dp]
/-- What Handle tells, and does. -/
def HPost (m : Mp) (ds : List Dv) (ls : List Lk) (n : Nat) (w : World) (h : HR) (e : Ending) (w' : World) : Prop :=
  e = .returned (.tuple #[arV h.tp h.p, .int .i64 h.err]) ∧ MemAt w' m ds ls (n + 1) h.M ∧ HK m w w'
theorem MemAt.setC {w : World} {m : Mp} {ds : List Dv} {ls : List Lk} {n : Nat} {M : Mnd} (h : MemAt w m ds ls n M) {k j : Nat} {u : Value} (hk : w.heap.size ≤ k) : MemAt (w.setCell ⟨k, j, none⟩ u) m ds ls n M :=
  h.below ((Below.refl _ _).setCell (p := ⟨k, j, none⟩) hk u)
theorem pkOk_ok {p : Pk} (h : pkOk p = true) : p.ok := by
  unfold pkOk adB poB at h
  simp only [Bool.and_eq_true, decide_eq_true_eq] at h
  exact ⟨i64ok_of (by omega) (by omega), i64ok_of (by omega) (by omega), i64ok_of (by omega) (by omega), i64ok_of (by omega) (by omega)⟩
theorem Bk.ck {w w' : World} {k : Nat} {c : Array Value} {t : TypeId} (h : Bk w k c t) (hc : CK w w') : Bk w' k c t :=
  (hc.block k (fun es x e => by unfold Bk at h; rw [h] at e; cases e) h.lt).trans h
theorem isPl_dev {ds : List Dv} {i q : Int} (h : isPl ds i q = true) : ∃ k : Nat, i = (k : Int) ∧ ∃ d, ds[k]? = some d ∧ ds.getD i.toNat default = d := by
  unfold isPl at h
  simp only [Bool.and_eq_true, decide_eq_true_eq] at h
  obtain ⟨⟨⟨h0, h1⟩, _⟩, _⟩ := h
  refine ⟨i.toNat, by omega, ds[i.toNat]'(by omega), List.getElem?_eq_getElem (by omega), ?_⟩
  rw [List.getD_eq_getElem?_getD, List.getElem?_eq_getElem (by omega)]
  rfl
end Go.Proofs.Ythioedgnambomaa
