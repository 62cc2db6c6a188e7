/-
  XAK.
-/
import Derived.Test.YtppbfikimalojaaGreatXAJ
import Derived.Test.YtppbfikimalojaaGreatXAD
import Derived.Deep.RegionHeld3
import Derived.Deep.RegionLaw
set_option maxHeartbeats 8000000
set_option maxRecDepth 100000
namespace Go.Proofs.YtppbfikimalojaaGreat
open Go.RowKit Go.Maps
structure Ft where
 i : Int
 p : Pk
 n : Int
def pkB (a b : Pk) : Bool := (a.s == b.s) && (a.d == b.d) && (a.sp == b.sp) && (a.dp == b.dp)
theorem pkB_iff (a b : Pk) : pkB a b = true ↔ a = b := by
 obtain ⟨s, d, sp, dp⟩ := a
 obtain ⟨s', d', sp', dp'⟩ := b
 simp [pkB, and_assoc]
def ftB (a b : Ft) : Bool := (a.i == b.i) && pkB a.p b.p && (a.n == b.n)
theorem ftB_iff (a b : Ft) : ftB a b = true ↔ a = b := by
 obtain ⟨i, p, n⟩ := a
 obtain ⟨i', p', n'⟩ := b
 simp only [ftB, Bool.and_eq_true, beq_iff_eq, pkB_iff, Ft.mk.injEq, and_assoc]
structure MR where
 err : Int
 out : Bool
 port : Int
 p : Pk
 k : Option Ft
def ofFlow (i : Int) (p : Pk) (f : Ft) : Bool := (f.i == i) && pkB f.p p
def ofPort (i k : Int) (f : Ft) : Bool := (f.i == i) && (f.n == k)
def mSend (d : Dv) (FL : List Ft) (i q : Int) (p : Pk) (c : Int) : MR :=
 if d.kind = 2 then ⟨0, outB (routesOf d) p.d && letsB (rulesOf d) p.s p.d p.sp p.dp, outN (routesOf d) p.d, p, none⟩
 else if d.kind = 3 then (if q = 0 then ⟨0, letsB (rulesOf d) p.s p.d p.sp p.dp, 1, p, some ⟨i, p, 0⟩⟩ else ⟨0, FL.any (ofFlow i (flipP p)), 0, p, none⟩)
 else if d.kind = 4 then
  (if q = 0 then
    (match FL.find? (ofFlow i ⟨p.s, 0, p.sp, 0⟩) with
    | some f => ⟨0, true, 1, ⟨d.addr, p.d, f.n, p.dp⟩, some ⟨i, ⟨p.s, 0, p.sp, 0⟩, f.n⟩⟩
    | none => if poolB d c then (if FL.any (ofPort i c) then ⟨6, false, 0, p, none⟩ else ⟨0, true, 1, ⟨d.addr, p.d, c, p.dp⟩, some ⟨i, ⟨p.s, 0, p.sp, 0⟩, c⟩⟩) else ⟨1, false, 0, p, none⟩)
  else
   (match FL.find? (ofPort i p.dp) with
   | some f => if p.d == d.addr then ⟨0, true, 0, ⟨p.s, f.p.s, p.sp, f.p.sp⟩, none⟩ else ⟨0, false, 0, p, none⟩
   | none => ⟨0, false, 0, p, none⟩))
 else if d.kind = 5 then
  (if q = 0 then
    (if p.d == d.addr then
      (match FL.find? (ofFlow i p) with
      | some f => ⟨0, true, 1, ⟨p.s, f.n, p.sp, p.dp⟩, some ⟨i, p, f.n⟩⟩
      | none => if decide (0 <= c) && decide (c < (d.backs.length : Int)) then ⟨0, true, 1, ⟨p.s, d.backs.getD c.toNat 0, p.sp, p.dp⟩, some ⟨i, p, d.backs.getD c.toNat 0⟩⟩ else ⟨1, false, 0, p, none⟩)
    else ⟨0, true, 1, p, none⟩)
  else ⟨0, true, 0, if FL.any (fun f => ftB f ⟨i, ⟨p.d, d.addr, p.dp, p.sp⟩, p.s⟩) then ⟨d.addr, p.d, p.sp, p.dp⟩ else p, none⟩)
 else ⟨0, false, 1 - q, p, none⟩
def addF (FL : List Ft) : Option Ft -> List Ft
 | none => FL
 | some f => if FL.any (fun g => ftB g f) then FL else FL ++ [f]
structure MH where
 err : Int
 tp : Int × Int
 p : Pk
 FL : List Ft
def badM (e : Int) (FL : List Ft) : MH := ⟨e, (0, 0), zeroP, FL⟩
def mindP (ds : List Dv) (ls : List Lk) (FL : List Ft) (i q : Int) (p : Pk) (c : Int) : MH :=
 if isPl ds i q then
  (if pkOk p then
    (if (mSend (ds.getD i.toNat default) FL i q p c).err = 0 then
      (if (mSend (ds.getD i.toNat default) FL i q p c).out then
        (match peerF ls i (mSend (ds.getD i.toNat default) FL i q p c).port with
        | some t => ⟨0, t, (mSend (ds.getD i.toNat default) FL i q p c).p, addF FL (mSend (ds.getD i.toNat default) FL i q p c).k⟩
        | none => badM 7 FL)
      else badM 7 FL)
    else badM (mSend (ds.getD i.toNat default) FL i q p c).err FL)
  else badM 1 FL)
 else badM 4 FL
structure RelM (ds : List Dv) (FL : List Ft) (M : Mnd) : Prop where
 fl : ∀ i p, kindAt ds i = 3 -> ((M.fl (i, p)).isSome = true ↔ ⟨i, p, 0⟩ ∈ FL)
 ow : ∀ i k s, kindAt ds i = 4 -> (M.ow (i, k) = some s ↔ ⟨i, ⟨s.1, 0, s.2, 0⟩, k⟩ ∈ FL)
 bk : ∀ i p b, kindAt ds i = 5 -> (M.bk (i, p) = some b ↔ ⟨i, p, b⟩ ∈ FL)
 k3 : ∀ f ∈ FL, kindAt ds f.i = 3 -> f.n = 0
 k4 : ∀ f ∈ FL, kindAt ds f.i = 4 -> f.p = ⟨f.p.s, 0, f.p.sp, 0⟩ ∧ poB f.n = true
 one : ∀ i k k' s, kindAt ds i = 4 -> M.ow (i, k) = some s -> M.ow (i, k') = some s -> k = k'
 nd : FL.Nodup
theorem rel_no (ds : List Dv) : RelM ds [] noM := ⟨(fun i p _ => by simp [noM]), (fun i k s _ => by simp [noM]), (fun i p b _ => by simp [noM]), (fun f hf => by simp at hf), (fun f hf => by simp at hf), (fun i k k' s _ h => by cases h), List.nodup_nil⟩
section
variable {ds : List Dv} {FL : List Ft} {M : Mnd}
theorem any_flow {i : Int} {p : Pk} : FL.any (ofFlow i p) = true ↔ ∃ n, (⟨i, p, n⟩ : Ft) ∈ FL := by
 rw [List.any_eq_true]
 constructor
 ·rintro ⟨⟨j, q, n⟩, hf, h⟩
  simp only [ofFlow, Bool.and_eq_true, beq_iff_eq, pkB_iff] at h
  obtain ⟨rfl, rfl⟩ := h
  exact ⟨n, hf⟩
 ·rintro ⟨n, hf⟩
  exact ⟨_, hf, by simp [ofFlow, pkB_iff]⟩
theorem any_port {i k : Int} : FL.any (ofPort i k) = true ↔ ∃ p, (⟨i, p, k⟩ : Ft) ∈ FL := by
 rw [List.any_eq_true]
 constructor
 ·rintro ⟨⟨j, q, n⟩, hf, h⟩
  simp only [ofPort, Bool.and_eq_true, beq_iff_eq] at h
  obtain ⟨rfl, rfl⟩ := h
  exact ⟨q, hf⟩
 ·rintro ⟨p, hf⟩
  exact ⟨_, hf, by simp [ofPort]⟩
theorem find_flow {i : Int} {p : Pk} {f : Ft} (h : FL.find? (ofFlow i p) = some f) : ∃ n, f = ⟨i, p, n⟩ ∧ (⟨i, p, n⟩ : Ft) ∈ FL := by
 have h1 := List.find?_some h
 have h2 := List.mem_of_find?_eq_some h
 obtain ⟨j, q, n⟩ := f
 simp only [ofFlow, Bool.and_eq_true, beq_iff_eq, pkB_iff] at h1
 obtain ⟨rfl, rfl⟩ := h1
 exact ⟨n, rfl, h2⟩
theorem find_port {i k : Int} {f : Ft} (h : FL.find? (ofPort i k) = some f) : ∃ p, f = ⟨i, p, k⟩ ∧ (⟨i, p, k⟩ : Ft) ∈ FL := by
 have h1 := List.find?_some h
 have h2 := List.mem_of_find?_eq_some h
 obtain ⟨j, q, n⟩ := f
 simp only [ofPort, Bool.and_eq_true, beq_iff_eq] at h1
 obtain ⟨rfl, rfl⟩ := h1
 exact ⟨q, rfl, h2⟩
theorem find_no {is : Ft -> Bool} (h : FL.find? is = none) : FL.any is = false := by
 rw [Bool.eq_false_iff]
 intro e
 rw [List.any_eq_true] at e
 obtain ⟨f, hf, e⟩ := e
 exact absurd e (by simpa using List.find?_eq_none.1 h f hf)
end
section
variable {ds : List Dv} {FL : List Ft} {M : Mnd}
theorem mem_addF {f g : Ft} : g ∈ addF FL (some f) ↔ g ∈ FL ∨ g = f := by
 show g ∈ (if FL.any (fun g => ftB g f) then FL else FL ++ [f]) ↔ _
 split
 ·rename_i h
  rw [List.any_eq_true] at h
  obtain ⟨x, hx, e⟩ := h
  rw [ftB_iff] at e
  subst e
  constructor
  ·exact Or.inl
  ·rintro (h | rfl)
   ·exact h
   ·exact hx
 ·simp
theorem nodup_addF {f : Ft} (h : FL.Nodup) : (addF FL (some f)).Nodup := by
 show (if FL.any (fun g => ftB g f) then FL else FL ++ [f]).Nodup
 split
 ·exact h
 ·rename_i hn
  rw [List.nodup_append]
  refine ⟨h, by simp, fun a ha b hb e => ?_⟩
  rw [List.mem_singleton] at hb
  subst hb
  subst e
  exact hn (List.any_eq_true.2 ⟨a, ha, (ftB_iff _ _).2 rfl⟩)
theorem rel_flow (h : RelM ds FL M) {i : Int} {p : Pk} (hk : kindAt ds i = 3) : RelM ds (addF FL (some ⟨i, p, 0⟩)) (learnP M (.flow i p)) := by
 refine ⟨fun i' p' hk' => ?_, fun i' k s hk' => ?_, fun i' q b hk' => ?_, fun f hf hk' => ?_, fun f hf hk' => ?_, h.one, nodup_addF h.nd⟩
 ·show (putF M.fl (i, p) () (i', p')).isSome = true ↔ _
  rw [mem_addF]
  by_cases e : (i', p') = (i, p)
  ·rw [e, putF_same]
   obtain ⟨rfl, rfl⟩ := Prod.mk.inj e
   simp
  ·rw [putF_other _ _ e, h.fl i' p' hk']
   constructor
   ·exact Or.inl
   ·rintro (h | h)
    ·exact h
    ·simp only [Ft.mk.injEq] at h
     exact absurd (by rw [h.1, h.2.1]) e
 ·show M.ow (i', k) = some s ↔ _
  rw [mem_addF, h.ow i' k s hk']
  constructor
  ·exact Or.inl
  ·rintro (h | h)
   ·exact h
   ·simp only [Ft.mk.injEq] at h
    rw [h.1, hk] at hk'
    exact absurd hk' (by decide)
 ·show M.bk (i', q) = some b ↔ _
  rw [mem_addF, h.bk i' q b hk']
  constructor
  ·exact Or.inl
  ·rintro (h | h)
   ·exact h
   ·simp only [Ft.mk.injEq] at h
    rw [h.1, hk] at hk'
    exact absurd hk' (by decide)
 ·rcases mem_addF.1 hf with hf | rfl
  ·exact h.k3 f hf hk'
  ·rfl
 ·rcases mem_addF.1 hf with hf | rfl
  ·exact h.k4 f hf hk'
  ·dsimp only at hk'
   rw [hk] at hk'
   exact absurd hk' (by decide)
theorem rel_own (h : RelM ds FL M) {i k : Int} {s : Int × Int} (hk : kindAt ds i = 4) (hp : poB k = true) (hf : M.ow (i, k) = none ∨ M.ow (i, k) = some s) (ho : ∀ k', M.ow (i, k') = some s -> k' = k) : RelM ds (addF FL (some ⟨i, ⟨s.1, 0, s.2, 0⟩, k⟩)) (learnP M (.own i k s)) := by
 refine ⟨fun i' p' hk' => ?_, fun i' k' s' hk' => ?_, fun i' q b hk' => ?_, fun f hf' hk' => ?_, fun f hf' hk' => ?_, fun i' k1 k2 s' hk' h1 h2 => ?_, nodup_addF h.nd⟩
 ·show (M.fl (i', p')).isSome = true ↔ _
  rw [mem_addF, h.fl i' p' hk']
  constructor
  ·exact Or.inl
  ·rintro (h | h)
   ·exact h
   ·simp only [Ft.mk.injEq] at h
    rw [h.1, hk] at hk'
    exact absurd hk' (by decide)
 ·show putF M.ow (i, k) s (i', k') = some s' ↔ _
  rw [mem_addF]
  by_cases e : (i', k') = (i, k)
  ·rw [e, putF_same]
   obtain ⟨rfl, rfl⟩ := Prod.mk.inj e
   constructor
   ·intro e
    cases e
    exact Or.inr rfl
   ·rintro (h' | h')
    ·have h2 := (h.ow i' k' s' hk').2 h'
     rcases hf with hf | hf
     ·rw [hf] at h2
      cases h2
     ·rw [hf] at h2
      exact h2
    ·simp only [Ft.mk.injEq, Pk.mk.injEq, true_and, and_true] at h'
     obtain ⟨a, b⟩ := s
     obtain ⟨a', b'⟩ := s'
     simp only at h'
     rw [h'.1, h'.2]
  ·rw [putF_other _ _ e, h.ow i' k' s' hk']
   constructor
   ·exact Or.inl
   ·rintro (h | h)
    ·exact h
    ·simp only [Ft.mk.injEq] at h
     exact absurd (by rw [h.1, h.2.2]) e
 ·show M.bk (i', q) = some b ↔ _
  rw [mem_addF, h.bk i' q b hk']
  constructor
  ·exact Or.inl
  ·rintro (h | h)
   ·exact h
   ·simp only [Ft.mk.injEq] at h
    rw [h.1, hk] at hk'
    exact absurd hk' (by decide)
 ·rcases mem_addF.1 hf' with hf' | rfl
  ·exact h.k3 f hf' hk'
  ·dsimp only at hk'
   rw [hk] at hk'
   exact absurd hk' (by decide)
 ·rcases mem_addF.1 hf' with hf' | rfl
  ·exact h.k4 f hf' hk'
  ·exact ⟨rfl, hp⟩
 ·have h1' : putF M.ow (i, k) s (i', k1) = some s' := h1
  have h2' : putF M.ow (i, k) s (i', k2) = some s' := h2
  by_cases e1 : (i', k1) = (i, k)
  ·by_cases e2 : (i', k2) = (i, k)
   ·rw [(Prod.mk.inj e1).2, (Prod.mk.inj e2).2]
   ·rw [e1, putF_same] at h1'
    cases h1'
    rw [putF_other _ _ e2, (Prod.mk.inj e1).1] at h2'
    rw [ho k2 h2', (Prod.mk.inj e1).2]
  ·by_cases e2 : (i', k2) = (i, k)
   ·rw [e2, putF_same] at h2'
    cases h2'
    rw [putF_other _ _ e1, (Prod.mk.inj e2).1] at h1'
    rw [ho k1 h1', (Prod.mk.inj e2).2]
   ·rw [putF_other _ _ e1] at h1'
    rw [putF_other _ _ e2] at h2'
    exact h.one i' k1 k2 s' hk' h1' h2'
theorem rel_back (h : RelM ds FL M) {i : Int} {p : Pk} {b : Int} (hk : kindAt ds i = 5) (hf : M.bk (i, p) = none ∨ M.bk (i, p) = some b) : RelM ds (addF FL (some ⟨i, p, b⟩)) (learnP M (.back i p b)) := by
 refine ⟨fun i' p' hk' => ?_, fun i' k' s' hk' => ?_, fun i' q b' hk' => ?_, fun f hf' hk' => ?_, fun f hf' hk' => ?_, h.one, nodup_addF h.nd⟩
 ·show (M.fl (i', p')).isSome = true ↔ _
  rw [mem_addF, h.fl i' p' hk']
  constructor
  ·exact Or.inl
  ·rintro (h | h)
   ·exact h
   ·simp only [Ft.mk.injEq] at h
    rw [h.1, hk] at hk'
    exact absurd hk' (by decide)
 ·show M.ow (i', k') = some s' ↔ _
  rw [mem_addF, h.ow i' k' s' hk']
  constructor
  ·exact Or.inl
  ·rintro (h | h)
   ·exact h
   ·simp only [Ft.mk.injEq] at h
    rw [h.1, hk] at hk'
    exact absurd hk' (by decide)
 ·show putF M.bk (i, p) b (i', q) = some b' ↔ _
  rw [mem_addF]
  by_cases e : (i', q) = (i, p)
  ·rw [e, putF_same]
   obtain ⟨rfl, rfl⟩ := Prod.mk.inj e
   constructor
   ·intro e
    cases e
    exact Or.inr rfl
   ·rintro (h' | h')
    ·have h2 := (h.bk i' q b' hk').2 h'
     rcases hf with hf | hf
     ·rw [hf] at h2
      cases h2
     ·rw [hf] at h2
      exact h2
    ·simp only [Ft.mk.injEq, true_and] at h'
     rw [h']
  ·rw [putF_other _ _ e, h.bk i' q b' hk']
   constructor
   ·exact Or.inl
   ·rintro (h | h)
    ·exact h
    ·simp only [Ft.mk.injEq] at h
     exact absurd (by rw [h.1, h.2.1]) e
 ·rcases mem_addF.1 hf' with hf' | rfl
  ·exact h.k3 f hf' hk'
  ·dsimp only at hk'
   rw [hk] at hk'
   exact absurd hk' (by decide)
 ·rcases mem_addF.1 hf' with hf' | rfl
  ·exact h.k4 f hf' hk'
  ·dsimp only at hk'
   rw [hk] at hk'
   exact absurd hk' (by decide)
theorem ownFrom_of (h : RelM ds FL M) {i : Int} {s : Int × Int} {k : Int} (hk : kindAt ds i = 4) (hs : M.ow (i, k) = some s) : ∃ j : Nat, ownFrom M i s 0 = some j ∧ (j : Int) = k := by
 have hf := (h.ow i k s hk).1 hs
 have hp := (h.k4 _ hf hk).2
 unfold poB at hp
 simp only [Bool.and_eq_true, decide_eq_true_eq] at hp
 obtain ⟨kk, rfl⟩ : ∃ kk : Nat, k = (kk : Int) := ⟨k.toNat, by omega⟩
 have key : ∀ m j : Nat, kk - j <= m -> j <= kk -> ∃ j' : Nat, ownFrom M i s j = some j' ∧ (j' : Int) = kk := by
  intro m
  induction m with
  | zero =>
    intro j h1 h2
    obtain rfl : j = kk := by omega
    rw [ownFrom, dif_pos (by omega), if_pos hs]
    exact ⟨_, rfl, rfl⟩
  | succ m ih =>
    intro j h1 h2
    rw [ownFrom, dif_pos (by omega)]
    by_cases hj : M.ow (i, (j : Int)) = some s
    ·rw [if_pos hj]
     exact ⟨j, rfl, h.one i _ _ s hk hj hs⟩
    ·rw [if_neg hj]
     by_cases e : j = kk
     ·subst e
      exact absurd hs hj
     ·exact ih (j + 1) (by omega) (by omega)
 exact key kk 0 (by omega) (by omega)
theorem ownFrom_has {i : Int} {s : Int × Int} {j : Nat} : ∀ (m k : Nat), 8 - k <= m -> ownFrom M i s k = some j -> M.ow (i, (j : Int)) = some s ∧ j < 8
 | 0, k, h, e => by
   rw [ownFrom, dif_neg (by omega)] at e
   cases e
 | m + 1, k, h, e => by
   rw [ownFrom] at e
   by_cases hk : k < 8
   ·rw [dif_pos hk] at e
    by_cases ho : M.ow (i, (k : Int)) = some s
    ·rw [if_pos ho] at e
     obtain rfl := Option.some.inj e
     exact ⟨ho, hk⟩
    ·rw [if_neg ho] at e
     exact ownFrom_has m (k + 1) (by omega) e
   ·rw [dif_neg hk] at e
    cases e
end
section
variable {ds : List Dv} {FL : List Ft} {M : Mnd}
def SRel (ds : List Dv) (FL : List Ft) (M : Mnd) (s : SR) (m : MR) : Prop :=
 (s.err = 0 ∧ m.err = 0 ∧ m.out = true ∧ m.port = s.port ∧ m.p = s.p ∧ RelM ds (addF FL m.k) (learnP M s.l)) ∨ (s.err ≠ 0 ∧ m.err = s.err) ∨ (s.err = 7 ∧ m.err = 0 ∧ m.out = false)
theorem stay_no {m : MR} (h1 : m.err = 0) (h2 : m.out = false) : SRel ds FL M (stayR 7) m := Or.inr (Or.inr ⟨rfl, h1, h2⟩)
theorem send_rel (h : RelM ds FL M) {d : Dv} {i q : Int} {p : Pk} {c : Int} (hd : kindAt ds i = d.kind) : SRel ds FL M (sendP d M i q p c) (mSend d FL i q p c) := by
 unfold sendP mSend
 by_cases k2 : d.kind = 2
 ·rw [if_pos k2, if_pos k2]
  unfold routeP
  cases ho : (outB (routesOf d) p.d && letsB (rulesOf d) p.s p.d p.sp p.dp)
  ·rw [if_neg (by simp)]
   exact stay_no rfl rfl
  ·rw [if_pos rfl]
   exact Or.inl ⟨rfl, rfl, rfl, rfl, rfl, h⟩
 rw [if_neg k2, if_neg k2]
 by_cases k3 : d.kind = 3
 ·rw [if_pos k3, if_pos k3]
  by_cases hq : q = 0
  ·rw [if_pos hq, if_pos hq]
   unfold askP
   cases ho : letsB (rulesOf d) p.s p.d p.sp p.dp
   ·rw [if_neg (by simp)]
    exact stay_no rfl rfl
   ·rw [if_pos rfl]
    exact Or.inl ⟨rfl, rfl, rfl, rfl, rfl, rel_flow h (by rw [hd, k3])⟩
  ·rw [if_neg hq, if_neg hq]
   unfold answerP
   have e : (M.fl (i, flipP p)).isSome = FL.any (ofFlow i (flipP p)) := by
    rw [Bool.eq_iff_iff, h.fl i (flipP p) (by rw [hd, k3]), any_flow]
    constructor
    ·exact fun hf => ⟨0, hf⟩
    ·rintro ⟨n, hf⟩
     have := h.k3 _ hf (by rw [hd, k3])
     dsimp only at this
     rw [this] at hf
     exact hf
   rw [e]
   cases ha : FL.any (ofFlow i (flipP p))
   ·rw [if_neg (by simp)]
    exact stay_no rfl rfl
   ·rw [if_pos rfl]
    exact Or.inl ⟨rfl, rfl, rfl, rfl, rfl, h⟩
 rw [if_neg k3, if_neg k3]
 by_cases k4 : d.kind = 4
 ·have hk : kindAt ds i = 4 := by rw [hd, k4]
  rw [if_pos k4, if_pos k4]
  by_cases hq : q = 0
  ·rw [if_pos hq, if_pos hq]
   unfold hideP
   cases hf : FL.find? (ofFlow i ⟨p.s, 0, p.sp, 0⟩) with
   | some f =>
     obtain ⟨n, rfl, hm⟩ := find_flow hf
     have hs := (h.ow i n (p.s, p.sp) hk).2 hm
     obtain ⟨j, hj, rfl⟩ := ownFrom_of h hk hs
     rw [hj]
     exact Or.inl ⟨rfl, rfl, rfl, rfl, rfl, rel_own h hk (h.k4 _ hm hk).2 (Or.inr hs) (fun k' hk' => h.one i _ _ _ hk hk' hs)⟩
   | none =>
     have hno : ∀ k', M.ow (i, k') ≠ some (p.s, p.sp) := fun k' e => by
      have hm := (h.ow i k' (p.s, p.sp) hk).1 e
      have := List.find?_eq_none.1 hf _ hm
      exact this (by simp [ofFlow, pkB_iff])
     cases ho : ownFrom M i (p.s, p.sp) 0 with
     | some j => exact absurd (ownFrom_has 8 0 (by omega) ho).1 (hno _)
     | none =>
       dsimp only
       cases hpo : poolB d c
       ·rw [if_neg (by simp), if_neg (by simp)]
        exact Or.inr (Or.inl ⟨(by decide : (1 : Int) ≠ 0), rfl⟩)
       ·rw [if_pos rfl, if_pos rfl]
        have hpc : poB c = true := by
         unfold poolB at hpo
         simp only [Bool.and_eq_true] at hpo
         exact hpo.1
        have e : (M.ow (i, c)).isSome = FL.any (ofPort i c) := by
         rw [Bool.eq_iff_iff, any_port]
         constructor
         ·intro hs
          obtain ⟨s, hs⟩ := Option.isSome_iff_exists.1 hs
          exact ⟨_, (h.ow i c s hk).1 hs⟩
         ·rintro ⟨p', hm⟩
          have h4 := (h.k4 _ hm hk).1
          dsimp only at h4
          rw [h4] at hm
          rw [(h.ow i c (p'.s, p'.sp) hk).2 hm]
          rfl
        rw [e]
        cases ha : FL.any (ofPort i c)
        ·rw [if_neg (by simp), if_neg (by simp)]
         rw [ha] at e
         refine Or.inl ⟨rfl, rfl, rfl, rfl, rfl, rel_own h hk hpc (Or.inl (Option.isNone_iff_eq_none.1 (by rw [<- Option.not_isSome, e]; rfl))) (fun k' hk' => absurd hk' (hno k'))⟩
        ·rw [if_pos rfl, if_pos rfl]
         exact Or.inr (Or.inl ⟨(by decide : (6 : Int) ≠ 0), rfl⟩)
  ·rw [if_neg hq, if_neg hq]
   unfold unhideP
   cases hf : FL.find? (ofPort i p.dp) with
   | some f =>
     obtain ⟨p', rfl, hm⟩ := find_port hf
     have h4 := (h.k4 _ hm hk).1
     dsimp only at h4
     have hm' := hm
     rw [h4] at hm'
     rw [(h.ow i p.dp (p'.s, p'.sp) hk).2 hm']
     dsimp only
     cases ha : (p.d == d.addr)
     ·rw [if_neg (by simp), if_neg (by simp)]
      exact stay_no rfl rfl
     ·rw [if_pos rfl, if_pos rfl]
      exact Or.inl ⟨rfl, rfl, rfl, rfl, rfl, h⟩
   | none =>
     cases ho : M.ow (i, p.dp) with
     | some s =>
       have hm := (h.ow i p.dp s hk).1 ho
       exact absurd (by simp [ofPort]) (List.find?_eq_none.1 hf _ hm)
     | none => exact stay_no rfl rfl
 rw [if_neg k4, if_neg k4]
 by_cases k5 : d.kind = 5
 ·have hk : kindAt ds i = 5 := by rw [hd, k5]
  rw [if_pos k5, if_pos k5]
  by_cases hq : q = 0
  ·rw [if_pos hq, if_pos hq]
   unfold spreadP
   cases ha : (p.d == d.addr)
   ·rw [if_neg (by simp), if_neg (by simp)]
    exact Or.inl ⟨rfl, rfl, rfl, rfl, rfl, h⟩
   ·rw [if_pos rfl, if_pos rfl]
    cases hf : FL.find? (ofFlow i p) with
    | some f =>
      obtain ⟨n, rfl, hm⟩ := find_flow hf
      have hs := (h.bk i p n hk).2 hm
      rw [hs]
      exact Or.inl ⟨rfl, rfl, rfl, rfl, rfl, rel_back h hk (Or.inr hs)⟩
    | none =>
      cases ho : M.bk (i, p) with
      | some b =>
        have hm := (h.bk i p b hk).1 ho
        exact absurd (by simp [ofFlow, pkB_iff]) (List.find?_eq_none.1 hf _ hm)
      | none =>
        dsimp only
        cases hc : (decide (0 <= c) && decide (c < (d.backs.length : Int)))
        ·rw [if_neg (by simp), if_neg (by simp)]
         exact Or.inr (Or.inl ⟨(by decide : (1 : Int) ≠ 0), rfl⟩)
        ·rw [if_pos rfl, if_pos rfl]
         exact Or.inl ⟨rfl, rfl, rfl, rfl, rfl, rel_back h hk (Or.inl ho)⟩
  ·rw [if_neg hq, if_neg hq]
   unfold gatherP
   refine Or.inl ⟨rfl, rfl, rfl, rfl, ?_, h⟩
   show (if _ then _ else _) = (if _ then _ else _)
   have e : (FL.any (fun f => ftB f ⟨i, ⟨p.d, d.addr, p.dp, p.sp⟩, p.s⟩) = true) ↔ M.bk (i, ⟨p.d, d.addr, p.dp, p.sp⟩) = some p.s := by
    rw [h.bk i _ _ hk, List.any_eq_true]
    constructor
    ·rintro ⟨f, hf, e⟩
     rw [ftB_iff] at e
     rw [<- e]
     exact hf
    ·exact fun hf => ⟨_, hf, (ftB_iff _ _).2 rfl⟩
   by_cases hb : M.bk (i, ⟨p.d, d.addr, p.dp, p.sp⟩) = some p.s
   ·rw [if_pos hb, if_pos (e.2 hb)]
   ·rw [if_neg hb, if_neg (fun x => hb (e.1 x))]
 rw [if_neg k5, if_neg k5]
 exact stay_no rfl rfl
theorem mind_rel (h : RelM ds FL M) {ls : List Lk} (i q : Int) (p : Pk) (c : Int) : (mindP ds ls FL i q p c).err = (handleP ds ls M i q p c).err ∧ (mindP ds ls FL i q p c).tp = (handleP ds ls M i q p c).tp ∧ (mindP ds ls FL i q p c).p = (handleP ds ls M i q p c).p ∧ RelM ds (mindP ds ls FL i q p c).FL (handleP ds ls M i q p c).M := by
 unfold mindP handleP
 cases hpl : isPl ds i q
 ·rw [if_neg (by simp), if_neg (by simp)]
  exact ⟨rfl, rfl, rfl, h⟩
 rw [if_pos rfl, if_pos rfl]
 cases hp : pkOk p
 ·rw [if_neg (by simp), if_neg (by simp)]
  exact ⟨rfl, rfl, rfl, h⟩
 rw [if_pos rfl, if_pos rfl]
 have hi : i.toNat < ds.length := by
  unfold isPl at hpl
  simp only [Bool.and_eq_true, decide_eq_true_eq] at hpl
  omega
 have hd : kindAt ds i = (ds.getD i.toNat default).kind := by
  unfold kindAt
  rw [List.getD_eq_getElem?_getD, List.getElem?_eq_getElem hi]
  rfl
 rcases send_rel h hd (q := q) (p := p) (c := c) with ⟨e1, e2, e3, e4, e5, e6⟩ | ⟨e1, e2⟩ | ⟨e1, e2, e3⟩
 ·rw [if_pos e2, if_pos e3, if_pos e1, e4, e5]
  cases peerF ls i (sendP (ds.getD i.toNat default) M i q p c).port with
  | some t => exact ⟨rfl, rfl, rfl, e6⟩
  | none => exact ⟨rfl, rfl, rfl, h⟩
 ·rw [if_neg (by rw [e2]; exact e1), if_neg e1, e2]
  exact ⟨rfl, rfl, rfl, h⟩
 ·rw [if_pos e2, e3, if_neg (by simp), if_neg (by rw [e1]; decide), e1]
  exact ⟨rfl, rfl, rfl, h⟩
end
section
variable {ds : List Dv} {FL : List Ft} {M : Mnd}
structure MF where
 err : Int
 FL : List Ft
end
abbrev ftC (f : Ft) : List Value := [.int .i64 f.i, .int .i64 f.p.s, .int .i64 f.p.d, .int .i64 f.p.sp, .int .i64 f.p.dp, .int .i64 f.n]
def IsFt (cs : List Value) (f : Ft) : Prop := cs = ftC f
theorem SlAt.ft {base : Nat} {w : World} {A : Option Addr} {c : Nat} {FL : List Ft} (h : SlAt base w 6 IsFt (.slice A FL.length c) FL) {k : Nat} {f : Ft} (hf : FL[k]? = some f) : ∃ b o, A = some ⟨b, o, none⟩ ∧ b < base ∧ w.cell? ⟨b, o + k * 6, none⟩ = some (.int .i64 f.i) ∧ w.cell? ⟨b, o + k * 6 + 1, none⟩ = some (.int .i64 f.p.s) ∧ w.cell? ⟨b, o + k * 6 + 2, none⟩ = some (.int .i64 f.p.d) ∧ w.cell? ⟨b, o + k * 6 + 3, none⟩ = some (.int .i64 f.p.sp) ∧ w.cell? ⟨b, o + k * 6 + 4, none⟩ = some (.int .i64 f.p.dp) ∧ w.cell? ⟨b, o + k * 6 + 5, none⟩ = some (.int .i64 f.n) := by
 obtain ⟨A', c', e, h0, h1, h2, h3⟩ := h
 cases e
 obtain ⟨b, o, ea, hl, hr⟩ := h3 (fun e => by rw [e] at hf; cases hf)
 obtain ⟨cs, _, hc, c3⟩ := hr k f hf
 unfold IsFt at hc
 subst hc
 exact ⟨b, o, ea, hl, c3 0 _ rfl, c3 1 _ rfl, c3 2 _ rfl, c3 3 _ rfl, c3 4 _ rfl, c3 5 _ rfl⟩
def Idx (is : Ft -> Bool) (FL : List Ft) (j : Int) : Prop := (j = -1 ∧ FL.find? is = none) ∨ ∃ (k : Nat) (f : Ft), j = (k : Int) ∧ FL[k]? = some f ∧ FL.find? is = some f ∧ FL.eraseP is = FL.take k ++ FL.drop (k + 1)
theorem idx_end {is : Ft -> Bool} {FL : List Ft} (h : (FL.take FL.length).any is = false) : Idx is FL (-1) := by
 rw [List.take_length] at h
 refine Or.inl ⟨rfl, List.find?_eq_none.2 (fun f hf e => ?_)⟩
 rw [Bool.eq_false_iff] at h
 exact h (List.any_eq_true.2 ⟨f, hf, e⟩)
theorem idx_at {is : Ft -> Bool} : ∀ {FL : List Ft} {k : Nat} {f : Ft}, (FL.take k).any is = false -> FL[k]? = some f -> is f = true -> Idx is FL (k : Int)
 | [], k, f, _, hf, _ => by simp at hf
 | x :: xs, 0, f, _, hf, hi => by
   obtain rfl := Option.some.inj hf
   exact Or.inr ⟨0, x, rfl, rfl, by simp [hi], by simp [hi]⟩
 | x :: xs, k + 1, f, hn, hf, hi => by
   have hx : is x = false := by
    rw [List.take_succ_cons, List.any_cons] at hn
    simp at hn
    exact Bool.eq_false_iff.2 (by simp [hn.1])
   have hn' : (xs.take k).any is = false := by
    rw [List.take_succ_cons, List.any_cons, hx, Bool.false_or] at hn
    exact hn
   rcases idx_at (k := k) hn' (by simpa using hf) hi with ⟨h, _⟩ | ⟨k', g, h1, h2, h3, h4⟩
   ·omega
   ·obtain rfl : k = k' := by omega
    refine Or.inr ⟨k + 1, g, by omega, by simpa using h2, by simp [hx, h3], ?_⟩
    rw [List.eraseP_cons_of_neg (by simp [hx]), h4]
    simp
theorem any_takeF {is : Ft -> Bool} {FL : List Ft} {k : Nat} {f : Ft} (h : FL[k]? = some f) : (FL.take (k + 1)).any is = ((FL.take k).any is || is f) := by
 obtain ⟨hk, e⟩ := List.getElem?_eq_some_iff.1 h
 rw [List.take_succ_eq_append_getElem hk, e]
 simp
theorem index_c1 (c1 c2 : Value) (A : Option Addr) (cap : Nat) (FL : List Ft) (is : Ft -> Bool) (base : Nat) (w : World) (hb0 : base <= w.heap.size) (hL : Hid (SlAt base w 6 IsFt (.slice A FL.length cap) FL)) (hF : Hid (∀ f W, Below w.heap.size w W -> Calls Tryz.prog 97 #[.agg #[.int .i64 f.i, .int .i64 f.p.s, .int .i64 f.p.d, .int .i64 f.p.sp, .int .i64 f.p.dp, .int .i64 f.n], c1, c2] W fun e w' => e = .returned (.bool (is f)) ∧ Below W.heap.size W w')) :
  Calls Tryz.prog 146 #[.slice A FL.length cap, .func (.func 97) #[] #[c1, c2]] w fun e w' => ∃ j : Int, e = .returned (.int .i64 j) ∧ Hid (Idx is FL j) ∧ Below w.heap.size w w' := by
 have hm : FL.length <= maxLen := by obtain ⟨_, _, e, _, a, b, _⟩ := hL.out; cases e; omega
 unfold maxLen at hm
 go_enter Tryz.func146, Tryz.ntmps146
 go_wp2_with fail
 go_loopw [8] (fun i wr => ∃ k : Nat, i = .int .i64 (k : Int) ∧ k <= FL.length ∧ Below w.heap.size w wr ∧ Hid ((FL.take k).any is = false)) (fun i _ => FL.length - (intOf i).toNat)
 case atStart => exact ⟨0, rfl, by omega, Below.refl _ _, rfl⟩
 case round =>
  obtain ⟨k, rfl, hk, D1, hno⟩ := hrel
  by_cases hlt : k < FL.length
  ·obtain ⟨f, hxk⟩ : ∃ f, FL[k]? = some f := ⟨_, List.getElem?_eq_getElem hlt⟩
   obtain ⟨b, o, rfl, hb, c0, d1, d2, d3, d4, d5⟩ := (SlAt.below hL.out (D1.mono hb0) (fun _ _ _ h => h)).ft hxk
   have PR : Hid (Calls Tryz.prog 97 #[.agg #[.int .i64 f.i, .int .i64 f.p.s, .int .i64 f.p.d, .int .i64 f.p.sp, .int .i64 f.p.dp, .int .i64 f.n], c1, c2] wr fun e w' => e = .returned (.bool (is f)) ∧ Below wr.heap.size wr w') := hF.out f wr D1
   have HX : Hid (FL[k]? = some f) := hxk
   have k1 : (0 : Int) <= (k : Int) := by omega
   have k2 : (k : Int) < (FL.length : Int) := by omega
   clear hL hxk hF hb
   cases hv : is f
   ·rw [hv] at PR
    have HV : Hid ((FL.take (k + 1)).any is = false) := by show _ = _; rw [any_takeF HX.out, hno.out, hv]; rfl
    clear hv hno HX
    obtain ⟨fi, ⟨fs, fd, fsp, fdp⟩, fn⟩ := f
    dsimp only at *
    go_wp2_with fail
    refine PR.out.mono ?_
    rintro e w2 ⟨rfl, hb2⟩
    have D2 := chnN hb2 D1
    clear hb2 D1 c0 d1 d2 d3 d4 d5 PR
    go_wp2_with fail
    go_roundw
    case rel => exact ⟨k + 1, by go_num, by omega, D2, HV⟩
    case measure => simp [intOf]; omega
   ·rw [hv] at PR
    have fin : Hid (Idx is FL (k : Int)) := idx_at hno.out HX.out hv
    clear hv hno HX
    obtain ⟨fi, ⟨fs, fd, fsp, fdp⟩, fn⟩ := f
    dsimp only at *
    go_wp2_with fail
    refine PR.out.mono ?_
    rintro e w2 ⟨rfl, hb2⟩
    have D2 := chnN hb2 D1
    clear hb2 D1 c0 d1 d2 d3 d4 d5 PR
    go_wp2_with fail
    go_ret
    exact ⟨_, rfl, fin, D2⟩
  ·have fin : Hid (Idx is FL (-1)) := idx_end (by rw [<- show k = FL.length by omega]; exact hno.out)
   go_wp2_with fail
   go_ret
   exact ⟨_, rfl, fin, D1⟩
theorem find_c1 (c1 c2 : Value) (g : Nat) (vA vL : Value) (A : Option Addr) (cap : Nat) (FL : List Ft) (is : Ft -> Bool) (base : Nat) (w : World) (hb0 : base <= w.heap.size) (hG : Hid (Bk w g #[vA, vL, .slice A FL.length cap] 126)) (hL : Hid (SlAt base w 6 IsFt (.slice A FL.length cap) FL)) (hF : Hid (∀ f W, Below w.heap.size w W -> Calls Tryz.prog 97 #[.agg #[.int .i64 f.i, .int .i64 f.p.s, .int .i64 f.p.d, .int .i64 f.p.sp, .int .i64 f.p.dp, .int .i64 f.n], c1, c2] W fun e w' => e = .returned (.bool (is f)) ∧ Below W.heap.size W w')) :
  Calls Tryz.prog 96 #[.pointer (some ⟨g, 0, none⟩), .func (.func 97) #[] #[c1, c2]] w fun e w' => ∃ j : Int, e = .returned (.int .i64 j) ∧ Hid (Idx is FL j) ∧ Below w.heap.size w w' := by
 have IX : Hid (Calls Tryz.prog 146 #[.slice A FL.length cap, .func (.func 97) #[] #[c1, c2]] w fun e w' => ∃ j : Int, e = .returned (.int .i64 j) ∧ Hid (Idx is FL j) ∧ Below w.heap.size w w') := index_c1 c1 c2 A cap FL is base w hb0 hL hF
 have g2 := hG.out.at 2
 clear hG hL hF
 go_enter Tryz.func96, Tryz.ntmps96
 go_wp2_with fail
 with_reducible refine IX.out.mono ?_
 rintro e w2 ⟨j, rfl, h2⟩
 go_wp2_with fail
 go_ret
 exact ⟨j, rfl, h2⟩
theorem index_c2 (c1 c2 : Value) (A : Option Addr) (cap : Nat) (FL : List Ft) (is : Ft -> Bool) (base : Nat) (w : World) (hb0 : base <= w.heap.size) (hL : Hid (SlAt base w 6 IsFt (.slice A FL.length cap) FL)) (hF : Hid (∀ f W, Below w.heap.size w W -> Calls Tryz.prog 98 #[.agg #[.int .i64 f.i, .int .i64 f.p.s, .int .i64 f.p.d, .int .i64 f.p.sp, .int .i64 f.p.dp, .int .i64 f.n], c1, c2] W fun e w' => e = .returned (.bool (is f)) ∧ Below W.heap.size W w')) :
  Calls Tryz.prog 146 #[.slice A FL.length cap, .func (.func 98) #[] #[c1, c2]] w fun e w' => ∃ j : Int, e = .returned (.int .i64 j) ∧ Hid (Idx is FL j) ∧ Below w.heap.size w w' := by
 have hm : FL.length <= maxLen := by obtain ⟨_, _, e, _, a, b, _⟩ := hL.out; cases e; omega
 unfold maxLen at hm
 go_enter Tryz.func146, Tryz.ntmps146
 go_wp2_with fail
 go_loopw [8] (fun i wr => ∃ k : Nat, i = .int .i64 (k : Int) ∧ k <= FL.length ∧ Below w.heap.size w wr ∧ Hid ((FL.take k).any is = false)) (fun i _ => FL.length - (intOf i).toNat)
 case atStart => exact ⟨0, rfl, by omega, Below.refl _ _, rfl⟩
 case round =>
  obtain ⟨k, rfl, hk, D1, hno⟩ := hrel
  by_cases hlt : k < FL.length
  ·obtain ⟨f, hxk⟩ : ∃ f, FL[k]? = some f := ⟨_, List.getElem?_eq_getElem hlt⟩
   obtain ⟨b, o, rfl, hb, c0, d1, d2, d3, d4, d5⟩ := (SlAt.below hL.out (D1.mono hb0) (fun _ _ _ h => h)).ft hxk
   have PR : Hid (Calls Tryz.prog 98 #[.agg #[.int .i64 f.i, .int .i64 f.p.s, .int .i64 f.p.d, .int .i64 f.p.sp, .int .i64 f.p.dp, .int .i64 f.n], c1, c2] wr fun e w' => e = .returned (.bool (is f)) ∧ Below wr.heap.size wr w') := hF.out f wr D1
   have HX : Hid (FL[k]? = some f) := hxk
   have k1 : (0 : Int) <= (k : Int) := by omega
   have k2 : (k : Int) < (FL.length : Int) := by omega
   clear hL hxk hF hb
   cases hv : is f
   ·rw [hv] at PR
    have HV : Hid ((FL.take (k + 1)).any is = false) := by show _ = _; rw [any_takeF HX.out, hno.out, hv]; rfl
    clear hv hno HX
    obtain ⟨fi, ⟨fs, fd, fsp, fdp⟩, fn⟩ := f
    dsimp only at *
    go_wp2_with fail
    refine PR.out.mono ?_
    rintro e w2 ⟨rfl, hb2⟩
    have D2 := chnN hb2 D1
    clear hb2 D1 c0 d1 d2 d3 d4 d5 PR
    go_wp2_with fail
    go_roundw
    case rel => exact ⟨k + 1, by go_num, by omega, D2, HV⟩
    case measure => simp [intOf]; omega
   ·rw [hv] at PR
    have fin : Hid (Idx is FL (k : Int)) := idx_at hno.out HX.out hv
    clear hv hno HX
    obtain ⟨fi, ⟨fs, fd, fsp, fdp⟩, fn⟩ := f
    dsimp only at *
    go_wp2_with fail
    refine PR.out.mono ?_
    rintro e w2 ⟨rfl, hb2⟩
    have D2 := chnN hb2 D1
    clear hb2 D1 c0 d1 d2 d3 d4 d5 PR
    go_wp2_with fail
    go_ret
    exact ⟨_, rfl, fin, D2⟩
  ·have fin : Hid (Idx is FL (-1)) := idx_end (by rw [<- show k = FL.length by omega]; exact hno.out)
   go_wp2_with fail
   go_ret
   exact ⟨_, rfl, fin, D1⟩
theorem find_c2 (c1 c2 : Value) (g : Nat) (vA vL : Value) (A : Option Addr) (cap : Nat) (FL : List Ft) (is : Ft -> Bool) (base : Nat) (w : World) (hb0 : base <= w.heap.size) (hG : Hid (Bk w g #[vA, vL, .slice A FL.length cap] 126)) (hL : Hid (SlAt base w 6 IsFt (.slice A FL.length cap) FL)) (hF : Hid (∀ f W, Below w.heap.size w W -> Calls Tryz.prog 98 #[.agg #[.int .i64 f.i, .int .i64 f.p.s, .int .i64 f.p.d, .int .i64 f.p.sp, .int .i64 f.p.dp, .int .i64 f.n], c1, c2] W fun e w' => e = .returned (.bool (is f)) ∧ Below W.heap.size W w')) :
  Calls Tryz.prog 96 #[.pointer (some ⟨g, 0, none⟩), .func (.func 98) #[] #[c1, c2]] w fun e w' => ∃ j : Int, e = .returned (.int .i64 j) ∧ Hid (Idx is FL j) ∧ Below w.heap.size w w' := by
 have IX : Hid (Calls Tryz.prog 146 #[.slice A FL.length cap, .func (.func 98) #[] #[c1, c2]] w fun e w' => ∃ j : Int, e = .returned (.int .i64 j) ∧ Hid (Idx is FL j) ∧ Below w.heap.size w w') := index_c2 c1 c2 A cap FL is base w hb0 hL hF
 have g2 := hG.out.at 2
 clear hG hL hF
 go_enter Tryz.func96, Tryz.ntmps96
 go_wp2_with fail
 with_reducible refine IX.out.mono ?_
 rintro e w2 ⟨j, rfl, h2⟩
 go_wp2_with fail
 go_ret
 exact ⟨j, rfl, h2⟩
theorem index_c3 (c1 c2 : Value) (A : Option Addr) (cap : Nat) (FL : List Ft) (is : Ft -> Bool) (base : Nat) (w : World) (hb0 : base <= w.heap.size) (hL : Hid (SlAt base w 6 IsFt (.slice A FL.length cap) FL)) (hF : Hid (∀ f W, Below w.heap.size w W -> Calls Tryz.prog 99 #[.agg #[.int .i64 f.i, .int .i64 f.p.s, .int .i64 f.p.d, .int .i64 f.p.sp, .int .i64 f.p.dp, .int .i64 f.n], c1, c2] W fun e w' => e = .returned (.bool (is f)) ∧ Below W.heap.size W w')) :
  Calls Tryz.prog 146 #[.slice A FL.length cap, .func (.func 99) #[] #[c1, c2]] w fun e w' => ∃ j : Int, e = .returned (.int .i64 j) ∧ Hid (Idx is FL j) ∧ Below w.heap.size w w' := by
 have hm : FL.length <= maxLen := by obtain ⟨_, _, e, _, a, b, _⟩ := hL.out; cases e; omega
 unfold maxLen at hm
 go_enter Tryz.func146, Tryz.ntmps146
 go_wp2_with fail
 go_loopw [8] (fun i wr => ∃ k : Nat, i = .int .i64 (k : Int) ∧ k <= FL.length ∧ Below w.heap.size w wr ∧ Hid ((FL.take k).any is = false)) (fun i _ => FL.length - (intOf i).toNat)
 case atStart => exact ⟨0, rfl, by omega, Below.refl _ _, rfl⟩
 case round =>
  obtain ⟨k, rfl, hk, D1, hno⟩ := hrel
  by_cases hlt : k < FL.length
  ·obtain ⟨f, hxk⟩ : ∃ f, FL[k]? = some f := ⟨_, List.getElem?_eq_getElem hlt⟩
   obtain ⟨b, o, rfl, hb, c0, d1, d2, d3, d4, d5⟩ := (SlAt.below hL.out (D1.mono hb0) (fun _ _ _ h => h)).ft hxk
   have PR : Hid (Calls Tryz.prog 99 #[.agg #[.int .i64 f.i, .int .i64 f.p.s, .int .i64 f.p.d, .int .i64 f.p.sp, .int .i64 f.p.dp, .int .i64 f.n], c1, c2] wr fun e w' => e = .returned (.bool (is f)) ∧ Below wr.heap.size wr w') := hF.out f wr D1
   have HX : Hid (FL[k]? = some f) := hxk
   have k1 : (0 : Int) <= (k : Int) := by omega
   have k2 : (k : Int) < (FL.length : Int) := by omega
   clear hL hxk hF hb
   cases hv : is f
   ·rw [hv] at PR
    have HV : Hid ((FL.take (k + 1)).any is = false) := by show _ = _; rw [any_takeF HX.out, hno.out, hv]; rfl
    clear hv hno HX
    obtain ⟨fi, ⟨fs, fd, fsp, fdp⟩, fn⟩ := f
    dsimp only at *
    go_wp2_with fail
    refine PR.out.mono ?_
    rintro e w2 ⟨rfl, hb2⟩
    have D2 := chnN hb2 D1
    clear hb2 D1 c0 d1 d2 d3 d4 d5 PR
    go_wp2_with fail
    go_roundw
    case rel => exact ⟨k + 1, by go_num, by omega, D2, HV⟩
    case measure => simp [intOf]; omega
   ·rw [hv] at PR
    have fin : Hid (Idx is FL (k : Int)) := idx_at hno.out HX.out hv
    clear hv hno HX
    obtain ⟨fi, ⟨fs, fd, fsp, fdp⟩, fn⟩ := f
    dsimp only at *
    go_wp2_with fail
    refine PR.out.mono ?_
    rintro e w2 ⟨rfl, hb2⟩
    have D2 := chnN hb2 D1
    clear hb2 D1 c0 d1 d2 d3 d4 d5 PR
    go_wp2_with fail
    go_ret
    exact ⟨_, rfl, fin, D2⟩
  ·have fin : Hid (Idx is FL (-1)) := idx_end (by rw [<- show k = FL.length by omega]; exact hno.out)
   go_wp2_with fail
   go_ret
   exact ⟨_, rfl, fin, D1⟩
theorem find_c3 (c1 c2 : Value) (g : Nat) (vA vL : Value) (A : Option Addr) (cap : Nat) (FL : List Ft) (is : Ft -> Bool) (base : Nat) (w : World) (hb0 : base <= w.heap.size) (hG : Hid (Bk w g #[vA, vL, .slice A FL.length cap] 126)) (hL : Hid (SlAt base w 6 IsFt (.slice A FL.length cap) FL)) (hF : Hid (∀ f W, Below w.heap.size w W -> Calls Tryz.prog 99 #[.agg #[.int .i64 f.i, .int .i64 f.p.s, .int .i64 f.p.d, .int .i64 f.p.sp, .int .i64 f.p.dp, .int .i64 f.n], c1, c2] W fun e w' => e = .returned (.bool (is f)) ∧ Below W.heap.size W w')) :
  Calls Tryz.prog 96 #[.pointer (some ⟨g, 0, none⟩), .func (.func 99) #[] #[c1, c2]] w fun e w' => ∃ j : Int, e = .returned (.int .i64 j) ∧ Hid (Idx is FL j) ∧ Below w.heap.size w w' := by
 have IX : Hid (Calls Tryz.prog 146 #[.slice A FL.length cap, .func (.func 99) #[] #[c1, c2]] w fun e w' => ∃ j : Int, e = .returned (.int .i64 j) ∧ Hid (Idx is FL j) ∧ Below w.heap.size w w') := index_c3 c1 c2 A cap FL is base w hb0 hL hF
 have g2 := hG.out.at 2
 clear hG hL hF
 go_enter Tryz.func96, Tryz.ntmps96
 go_wp2_with fail
 with_reducible refine IX.out.mono ?_
 rintro e w2 ⟨j, rfl, h2⟩
 go_wp2_with fail
 go_ret
 exact ⟨j, rfl, h2⟩
theorem index_c4 (c1 c2 : Value) (A : Option Addr) (cap : Nat) (FL : List Ft) (is : Ft -> Bool) (base : Nat) (w : World) (hb0 : base <= w.heap.size) (hL : Hid (SlAt base w 6 IsFt (.slice A FL.length cap) FL)) (hF : Hid (∀ f W, Below w.heap.size w W -> Calls Tryz.prog 100 #[.agg #[.int .i64 f.i, .int .i64 f.p.s, .int .i64 f.p.d, .int .i64 f.p.sp, .int .i64 f.p.dp, .int .i64 f.n], c1, c2] W fun e w' => e = .returned (.bool (is f)) ∧ Below W.heap.size W w')) :
  Calls Tryz.prog 146 #[.slice A FL.length cap, .func (.func 100) #[] #[c1, c2]] w fun e w' => ∃ j : Int, e = .returned (.int .i64 j) ∧ Hid (Idx is FL j) ∧ Below w.heap.size w w' := by
 have hm : FL.length <= maxLen := by obtain ⟨_, _, e, _, a, b, _⟩ := hL.out; cases e; omega
 unfold maxLen at hm
 go_enter Tryz.func146, Tryz.ntmps146
 go_wp2_with fail
 go_loopw [8] (fun i wr => ∃ k : Nat, i = .int .i64 (k : Int) ∧ k <= FL.length ∧ Below w.heap.size w wr ∧ Hid ((FL.take k).any is = false)) (fun i _ => FL.length - (intOf i).toNat)
 case atStart => exact ⟨0, rfl, by omega, Below.refl _ _, rfl⟩
 case round =>
  obtain ⟨k, rfl, hk, D1, hno⟩ := hrel
  by_cases hlt : k < FL.length
  ·obtain ⟨f, hxk⟩ : ∃ f, FL[k]? = some f := ⟨_, List.getElem?_eq_getElem hlt⟩
   obtain ⟨b, o, rfl, hb, c0, d1, d2, d3, d4, d5⟩ := (SlAt.below hL.out (D1.mono hb0) (fun _ _ _ h => h)).ft hxk
   have PR : Hid (Calls Tryz.prog 100 #[.agg #[.int .i64 f.i, .int .i64 f.p.s, .int .i64 f.p.d, .int .i64 f.p.sp, .int .i64 f.p.dp, .int .i64 f.n], c1, c2] wr fun e w' => e = .returned (.bool (is f)) ∧ Below wr.heap.size wr w') := hF.out f wr D1
   have HX : Hid (FL[k]? = some f) := hxk
   have k1 : (0 : Int) <= (k : Int) := by omega
   have k2 : (k : Int) < (FL.length : Int) := by omega
   clear hL hxk hF hb
   cases hv : is f
   ·rw [hv] at PR
    have HV : Hid ((FL.take (k + 1)).any is = false) := by show _ = _; rw [any_takeF HX.out, hno.out, hv]; rfl
    clear hv hno HX
    obtain ⟨fi, ⟨fs, fd, fsp, fdp⟩, fn⟩ := f
    dsimp only at *
    go_wp2_with fail
    refine PR.out.mono ?_
    rintro e w2 ⟨rfl, hb2⟩
    have D2 := chnN hb2 D1
    clear hb2 D1 c0 d1 d2 d3 d4 d5 PR
    go_wp2_with fail
    go_roundw
    case rel => exact ⟨k + 1, by go_num, by omega, D2, HV⟩
    case measure => simp [intOf]; omega
   ·rw [hv] at PR
    have fin : Hid (Idx is FL (k : Int)) := idx_at hno.out HX.out hv
    clear hv hno HX
    obtain ⟨fi, ⟨fs, fd, fsp, fdp⟩, fn⟩ := f
    dsimp only at *
    go_wp2_with fail
    refine PR.out.mono ?_
    rintro e w2 ⟨rfl, hb2⟩
    have D2 := chnN hb2 D1
    clear hb2 D1 c0 d1 d2 d3 d4 d5 PR
    go_wp2_with fail
    go_ret
    exact ⟨_, rfl, fin, D2⟩
  ·have fin : Hid (Idx is FL (-1)) := idx_end (by rw [<- show k = FL.length by omega]; exact hno.out)
   go_wp2_with fail
   go_ret
   exact ⟨_, rfl, fin, D1⟩
theorem find_c4 (c1 c2 : Value) (g : Nat) (vA vL : Value) (A : Option Addr) (cap : Nat) (FL : List Ft) (is : Ft -> Bool) (base : Nat) (w : World) (hb0 : base <= w.heap.size) (hG : Hid (Bk w g #[vA, vL, .slice A FL.length cap] 126)) (hL : Hid (SlAt base w 6 IsFt (.slice A FL.length cap) FL)) (hF : Hid (∀ f W, Below w.heap.size w W -> Calls Tryz.prog 100 #[.agg #[.int .i64 f.i, .int .i64 f.p.s, .int .i64 f.p.d, .int .i64 f.p.sp, .int .i64 f.p.dp, .int .i64 f.n], c1, c2] W fun e w' => e = .returned (.bool (is f)) ∧ Below W.heap.size W w')) :
  Calls Tryz.prog 96 #[.pointer (some ⟨g, 0, none⟩), .func (.func 100) #[] #[c1, c2]] w fun e w' => ∃ j : Int, e = .returned (.int .i64 j) ∧ Hid (Idx is FL j) ∧ Below w.heap.size w w' := by
 have IX : Hid (Calls Tryz.prog 146 #[.slice A FL.length cap, .func (.func 100) #[] #[c1, c2]] w fun e w' => ∃ j : Int, e = .returned (.int .i64 j) ∧ Hid (Idx is FL j) ∧ Below w.heap.size w w') := index_c4 c1 c2 A cap FL is base w hb0 hL hF
 have g2 := hG.out.at 2
 clear hG hL hF
 go_enter Tryz.func96, Tryz.ntmps96
 go_wp2_with fail
 with_reducible refine IX.out.mono ?_
 rintro e w2 ⟨j, rfl, h2⟩
 go_wp2_with fail
 go_ret
 exact ⟨j, rfl, h2⟩
theorem index_c5 (c1 c2 c3 : Value) (A : Option Addr) (cap : Nat) (FL : List Ft) (is : Ft -> Bool) (base : Nat) (w : World) (hb0 : base <= w.heap.size) (hL : Hid (SlAt base w 6 IsFt (.slice A FL.length cap) FL)) (hF : Hid (∀ f W, Below w.heap.size w W -> Calls Tryz.prog 101 #[.agg #[.int .i64 f.i, .int .i64 f.p.s, .int .i64 f.p.d, .int .i64 f.p.sp, .int .i64 f.p.dp, .int .i64 f.n], c1, c2, c3] W fun e w' => e = .returned (.bool (is f)) ∧ Below W.heap.size W w')) :
  Calls Tryz.prog 146 #[.slice A FL.length cap, .func (.func 101) #[] #[c1, c2, c3]] w fun e w' => ∃ j : Int, e = .returned (.int .i64 j) ∧ Hid (Idx is FL j) ∧ Below w.heap.size w w' := by
 have hm : FL.length <= maxLen := by obtain ⟨_, _, e, _, a, b, _⟩ := hL.out; cases e; omega
 unfold maxLen at hm
 go_enter Tryz.func146, Tryz.ntmps146
 go_wp2_with fail
 go_loopw [8] (fun i wr => ∃ k : Nat, i = .int .i64 (k : Int) ∧ k <= FL.length ∧ Below w.heap.size w wr ∧ Hid ((FL.take k).any is = false)) (fun i _ => FL.length - (intOf i).toNat)
 case atStart => exact ⟨0, rfl, by omega, Below.refl _ _, rfl⟩
 case round =>
  obtain ⟨k, rfl, hk, D1, hno⟩ := hrel
  by_cases hlt : k < FL.length
  ·obtain ⟨f, hxk⟩ : ∃ f, FL[k]? = some f := ⟨_, List.getElem?_eq_getElem hlt⟩
   obtain ⟨b, o, rfl, hb, c0, d1, d2, d3, d4, d5⟩ := (SlAt.below hL.out (D1.mono hb0) (fun _ _ _ h => h)).ft hxk
   have PR : Hid (Calls Tryz.prog 101 #[.agg #[.int .i64 f.i, .int .i64 f.p.s, .int .i64 f.p.d, .int .i64 f.p.sp, .int .i64 f.p.dp, .int .i64 f.n], c1, c2, c3] wr fun e w' => e = .returned (.bool (is f)) ∧ Below wr.heap.size wr w') := hF.out f wr D1
   have HX : Hid (FL[k]? = some f) := hxk
   have k1 : (0 : Int) <= (k : Int) := by omega
   have k2 : (k : Int) < (FL.length : Int) := by omega
   clear hL hxk hF hb
   cases hv : is f
   ·rw [hv] at PR
    have HV : Hid ((FL.take (k + 1)).any is = false) := by show _ = _; rw [any_takeF HX.out, hno.out, hv]; rfl
    clear hv hno HX
    obtain ⟨fi, ⟨fs, fd, fsp, fdp⟩, fn⟩ := f
    dsimp only at *
    go_wp2_with fail
    refine PR.out.mono ?_
    rintro e w2 ⟨rfl, hb2⟩
    have D2 := chnN hb2 D1
    clear hb2 D1 c0 d1 d2 d3 d4 d5 PR
    go_wp2_with fail
    go_roundw
    case rel => exact ⟨k + 1, by go_num, by omega, D2, HV⟩
    case measure => simp [intOf]; omega
   ·rw [hv] at PR
    have fin : Hid (Idx is FL (k : Int)) := idx_at hno.out HX.out hv
    clear hv hno HX
    obtain ⟨fi, ⟨fs, fd, fsp, fdp⟩, fn⟩ := f
    dsimp only at *
    go_wp2_with fail
    refine PR.out.mono ?_
    rintro e w2 ⟨rfl, hb2⟩
    have D2 := chnN hb2 D1
    clear hb2 D1 c0 d1 d2 d3 d4 d5 PR
    go_wp2_with fail
    go_ret
    exact ⟨_, rfl, fin, D2⟩
  ·have fin : Hid (Idx is FL (-1)) := idx_end (by rw [<- show k = FL.length by omega]; exact hno.out)
   go_wp2_with fail
   go_ret
   exact ⟨_, rfl, fin, D1⟩
theorem find_c5 (c1 c2 c3 : Value) (g : Nat) (vA vL : Value) (A : Option Addr) (cap : Nat) (FL : List Ft) (is : Ft -> Bool) (base : Nat) (w : World) (hb0 : base <= w.heap.size) (hG : Hid (Bk w g #[vA, vL, .slice A FL.length cap] 126)) (hL : Hid (SlAt base w 6 IsFt (.slice A FL.length cap) FL)) (hF : Hid (∀ f W, Below w.heap.size w W -> Calls Tryz.prog 101 #[.agg #[.int .i64 f.i, .int .i64 f.p.s, .int .i64 f.p.d, .int .i64 f.p.sp, .int .i64 f.p.dp, .int .i64 f.n], c1, c2, c3] W fun e w' => e = .returned (.bool (is f)) ∧ Below W.heap.size W w')) :
  Calls Tryz.prog 96 #[.pointer (some ⟨g, 0, none⟩), .func (.func 101) #[] #[c1, c2, c3]] w fun e w' => ∃ j : Int, e = .returned (.int .i64 j) ∧ Hid (Idx is FL j) ∧ Below w.heap.size w w' := by
 have IX : Hid (Calls Tryz.prog 146 #[.slice A FL.length cap, .func (.func 101) #[] #[c1, c2, c3]] w fun e w' => ∃ j : Int, e = .returned (.int .i64 j) ∧ Hid (Idx is FL j) ∧ Below w.heap.size w w') := index_c5 c1 c2 c3 A cap FL is base w hb0 hL hF
 have g2 := hG.out.at 2
 clear hG hL hF
 go_enter Tryz.func96, Tryz.ntmps96
 go_wp2_with fail
 with_reducible refine IX.out.mono ?_
 rintro e w2 ⟨j, rfl, h2⟩
 go_wp2_with fail
 go_ret
 exact ⟨j, rfl, h2⟩
theorem index_c6 (c1 c2 : Value) (A : Option Addr) (cap : Nat) (FL : List Ft) (is : Ft -> Bool) (base : Nat) (w : World) (hb0 : base <= w.heap.size) (hL : Hid (SlAt base w 6 IsFt (.slice A FL.length cap) FL)) (hF : Hid (∀ f W, Below w.heap.size w W -> Calls Tryz.prog 102 #[.agg #[.int .i64 f.i, .int .i64 f.p.s, .int .i64 f.p.d, .int .i64 f.p.sp, .int .i64 f.p.dp, .int .i64 f.n], c1, c2] W fun e w' => e = .returned (.bool (is f)) ∧ Below W.heap.size W w')) :
  Calls Tryz.prog 146 #[.slice A FL.length cap, .func (.func 102) #[] #[c1, c2]] w fun e w' => ∃ j : Int, e = .returned (.int .i64 j) ∧ Hid (Idx is FL j) ∧ Below w.heap.size w w' := by
 have hm : FL.length <= maxLen := by obtain ⟨_, _, e, _, a, b, _⟩ := hL.out; cases e; omega
 unfold maxLen at hm
 go_enter Tryz.func146, Tryz.ntmps146
 go_wp2_with fail
 go_loopw [8] (fun i wr => ∃ k : Nat, i = .int .i64 (k : Int) ∧ k <= FL.length ∧ Below w.heap.size w wr ∧ Hid ((FL.take k).any is = false)) (fun i _ => FL.length - (intOf i).toNat)
 case atStart => exact ⟨0, rfl, by omega, Below.refl _ _, rfl⟩
 case round =>
  obtain ⟨k, rfl, hk, D1, hno⟩ := hrel
  by_cases hlt : k < FL.length
  ·obtain ⟨f, hxk⟩ : ∃ f, FL[k]? = some f := ⟨_, List.getElem?_eq_getElem hlt⟩
   obtain ⟨b, o, rfl, hb, c0, d1, d2, d3, d4, d5⟩ := (SlAt.below hL.out (D1.mono hb0) (fun _ _ _ h => h)).ft hxk
   have PR : Hid (Calls Tryz.prog 102 #[.agg #[.int .i64 f.i, .int .i64 f.p.s, .int .i64 f.p.d, .int .i64 f.p.sp, .int .i64 f.p.dp, .int .i64 f.n], c1, c2] wr fun e w' => e = .returned (.bool (is f)) ∧ Below wr.heap.size wr w') := hF.out f wr D1
   have HX : Hid (FL[k]? = some f) := hxk
   have k1 : (0 : Int) <= (k : Int) := by omega
   have k2 : (k : Int) < (FL.length : Int) := by omega
   clear hL hxk hF hb
   cases hv : is f
   ·rw [hv] at PR
    have HV : Hid ((FL.take (k + 1)).any is = false) := by show _ = _; rw [any_takeF HX.out, hno.out, hv]; rfl
    clear hv hno HX
    obtain ⟨fi, ⟨fs, fd, fsp, fdp⟩, fn⟩ := f
    dsimp only at *
    go_wp2_with fail
    refine PR.out.mono ?_
    rintro e w2 ⟨rfl, hb2⟩
    have D2 := chnN hb2 D1
    clear hb2 D1 c0 d1 d2 d3 d4 d5 PR
    go_wp2_with fail
    go_roundw
    case rel => exact ⟨k + 1, by go_num, by omega, D2, HV⟩
    case measure => simp [intOf]; omega
   ·rw [hv] at PR
    have fin : Hid (Idx is FL (k : Int)) := idx_at hno.out HX.out hv
    clear hv hno HX
    obtain ⟨fi, ⟨fs, fd, fsp, fdp⟩, fn⟩ := f
    dsimp only at *
    go_wp2_with fail
    refine PR.out.mono ?_
    rintro e w2 ⟨rfl, hb2⟩
    have D2 := chnN hb2 D1
    clear hb2 D1 c0 d1 d2 d3 d4 d5 PR
    go_wp2_with fail
    go_ret
    exact ⟨_, rfl, fin, D2⟩
  ·have fin : Hid (Idx is FL (-1)) := idx_end (by rw [<- show k = FL.length by omega]; exact hno.out)
   go_wp2_with fail
   go_ret
   exact ⟨_, rfl, fin, D1⟩
theorem find_c6 (c1 c2 : Value) (g : Nat) (vA vL : Value) (A : Option Addr) (cap : Nat) (FL : List Ft) (is : Ft -> Bool) (base : Nat) (w : World) (hb0 : base <= w.heap.size) (hG : Hid (Bk w g #[vA, vL, .slice A FL.length cap] 126)) (hL : Hid (SlAt base w 6 IsFt (.slice A FL.length cap) FL)) (hF : Hid (∀ f W, Below w.heap.size w W -> Calls Tryz.prog 102 #[.agg #[.int .i64 f.i, .int .i64 f.p.s, .int .i64 f.p.d, .int .i64 f.p.sp, .int .i64 f.p.dp, .int .i64 f.n], c1, c2] W fun e w' => e = .returned (.bool (is f)) ∧ Below W.heap.size W w')) :
  Calls Tryz.prog 96 #[.pointer (some ⟨g, 0, none⟩), .func (.func 102) #[] #[c1, c2]] w fun e w' => ∃ j : Int, e = .returned (.int .i64 j) ∧ Hid (Idx is FL j) ∧ Below w.heap.size w w' := by
 have IX : Hid (Calls Tryz.prog 146 #[.slice A FL.length cap, .func (.func 102) #[] #[c1, c2]] w fun e w' => ∃ j : Int, e = .returned (.int .i64 j) ∧ Hid (Idx is FL j) ∧ Below w.heap.size w w') := index_c6 c1 c2 A cap FL is base w hb0 hL hF
 have g2 := hG.out.at 2
 clear hG hL hF
 go_enter Tryz.func96, Tryz.ntmps96
 go_wp2_with fail
 with_reducible refine IX.out.mono ?_
 rintro e w2 ⟨j, rfl, h2⟩
 go_wp2_with fail
 go_ret
 exact ⟨j, rfl, h2⟩
theorem packet_eqM (a b : Pk) (w : World) : (binOp .eql 29 (.agg #[.int .i64 a.s, .int .i64 a.d, .int .i64 a.sp, .int .i64 a.dp]) (.agg #[.int .i64 b.s, .int .i64 b.d, .int .i64 b.sp, .int .i64 b.dp])).run Tryz.prog w = .ok (.bool (pkB a b)) w := by
 obtain ⟨s, d, sp, dp⟩ := a
 obtain ⟨s', d', sp', dp'⟩ := b
 unfold pkB
 cases h1 : (s == s') <;> cases h2 : (d == d') <;> cases h3 : (sp == sp') <;> cases h4 : (dp == dp')
 all_goals simp [go_sem, Tryz.underlying29, Tryz.underlying3, h1, h2, h3, h4]
theorem back_any (p : Pk) (w : World) : Calls Tryz.prog 76 #[pkV p] w fun e w' => e = .returned (pkV (flipP p)) ∧ Below w.heap.size w w' := by
 have D2 := Below.alN (Below.alN (Below.refl w.heap.size w) (pkC p)) (.cells #[.int .i64 0, .int .i64 0, .int .i64 0, .int .i64 0] 29)
 have P2 := (bk_new w #[.int .i64 p.s, .int .i64 p.d, .int .i64 p.sp, .int .i64 p.dp] 29).alloc (.cells #[.int .i64 0, .int .i64 0, .int .i64 0, .int .i64 0] 29)
 have R2 := bk_new' (w.alloc (pkC p)) #[.int .i64 0, .int .i64 0, .int .i64 0, .int .i64 0] 29 (w.heap.size + 1) (by simp)
 obtain ⟨p0, p1, p2, p3, _⟩ := P2.four
 obtain ⟨r0, r1, r2, r3, f0, f1, f2, f3⟩ := R2.four
 obtain ⟨s, d, sp, dp⟩ := p
 dsimp only at *
 go_enter Tryz.func76, Tryz.ntmps76
 go_wp2_with fail
 refine bodyPost_ret (v := .agg #[.int .i64 d, .int .i64 s, .int .i64 dp, .int .i64 sp]) (by simp [results, Tryz.results76, go_sem]) rfl ⟨rfl, ?_⟩
 go_grown
theorem clo2 (f : Ft) (i q : Int) (p : Pk) (b1 b2 : Nat) (w : World) (hA : Hid (Bk w b1 #[.int .i64 i, .int .i64 q] 27)) (hP : Hid (Bk w b2 #[.int .i64 p.s, .int .i64 p.d, .int .i64 p.sp, .int .i64 p.dp] 29)) :
  Calls Tryz.prog 98 #[.agg #[.int .i64 f.i, .int .i64 f.p.s, .int .i64 f.p.d, .int .i64 f.p.sp, .int .i64 f.p.dp, .int .i64 f.n], .pointer (some ⟨b1, 0, none⟩), .pointer (some ⟨b2, 0, none⟩)] w fun e w' => e = .returned (.bool (ofPort i p.dp f)) ∧ Below w.heap.size w w' := by
 obtain ⟨fi, ⟨fs, fd, fsp, fdp⟩, fn⟩ := f
 dsimp only
 have X1 := bk_new w #[.int .i64 fi, .int .i64 fs, .int .i64 fd, .int .i64 fsp, .int .i64 fdp, .int .i64 fn] 178
 have D1 := Below.alN (Below.refl w.heap.size w) (.cells #[.int .i64 fi, .int .i64 fs, .int .i64 fd, .int .i64 fsp, .int .i64 fdp, .int .i64 fn] 178)
 obtain ⟨⟨x0, x1, x2, x3, x4, x5⟩, _⟩ := X1.six
 have Yb1 := hA.out.alloc (.cells #[.int .i64 fi, .int .i64 fs, .int .i64 fd, .int .i64 fsp, .int .i64 fdp, .int .i64 fn] 178)
 have Yb2 := hP.out.alloc (.cells #[.int .i64 fi, .int .i64 fs, .int .i64 fd, .int .i64 fsp, .int .i64 fdp, .int .i64 fn] 178)
 obtain ⟨a0, a1⟩ := Yb1.two
 obtain ⟨p0, p1, p2, p3, _⟩ := Yb2.four
 unfold ofPort
 dsimp only
 clear X1 hA hP
 cases h1 : (fi == i)
 ·have h1p : ¬ fi = i := by simpa using h1
  go_enter Tryz.func98, Tryz.ntmps98
  go_wp2_with fail
  all_goals first | exact absurd (by assumption) h1p | skip
  go_ret
  exact ⟨by simp, D1⟩
 ·obtain rfl : fi = i := by simpa using h1
  skip
  go_enter Tryz.func98, Tryz.ntmps98
  go_wp2_with fail
  go_ret
  exact ⟨by simp, D1⟩
theorem clo4 (f : Ft) (i q c : Int) (b1 b2 : Nat) (w : World) (hA : Hid (Bk w b1 #[.int .i64 i, .int .i64 q] 27)) (hC : Hid (Bk w b2 #[.int .i64 c] 3)) :
  Calls Tryz.prog 100 #[.agg #[.int .i64 f.i, .int .i64 f.p.s, .int .i64 f.p.d, .int .i64 f.p.sp, .int .i64 f.p.dp, .int .i64 f.n], .pointer (some ⟨b1, 0, none⟩), .pointer (some ⟨b2, 0, none⟩)] w fun e w' => e = .returned (.bool (ofPort i c f)) ∧ Below w.heap.size w w' := by
 obtain ⟨fi, ⟨fs, fd, fsp, fdp⟩, fn⟩ := f
 dsimp only
 have X1 := bk_new w #[.int .i64 fi, .int .i64 fs, .int .i64 fd, .int .i64 fsp, .int .i64 fdp, .int .i64 fn] 178
 have D1 := Below.alN (Below.refl w.heap.size w) (.cells #[.int .i64 fi, .int .i64 fs, .int .i64 fd, .int .i64 fsp, .int .i64 fdp, .int .i64 fn] 178)
 obtain ⟨⟨x0, x1, x2, x3, x4, x5⟩, _⟩ := X1.six
 have Yb1 := hA.out.alloc (.cells #[.int .i64 fi, .int .i64 fs, .int .i64 fd, .int .i64 fsp, .int .i64 fdp, .int .i64 fn] 178)
 have Yb2 := hC.out.alloc (.cells #[.int .i64 fi, .int .i64 fs, .int .i64 fd, .int .i64 fsp, .int .i64 fdp, .int .i64 fn] 178)
 obtain ⟨a0, a1⟩ := Yb1.two
 have y0 := Yb2.at 0
 unfold ofPort
 dsimp only
 clear X1 hA hC
 cases h1 : (fi == i)
 ·have h1p : ¬ fi = i := by simpa using h1
  go_enter Tryz.func100, Tryz.ntmps100
  go_wp2_with fail
  all_goals first | exact absurd (by assumption) h1p | skip
  go_ret
  exact ⟨by simp, D1⟩
 ·obtain rfl : fi = i := by simpa using h1
  skip
  go_enter Tryz.func100, Tryz.ntmps100
  go_wp2_with fail
  go_ret
  exact ⟨by simp, D1⟩
theorem clo3 (f : Ft) (i q : Int) (p : Pk) (b1 b2 : Nat) (w : World) (hA : Hid (Bk w b1 #[.int .i64 i, .int .i64 q] 27)) (hP : Hid (Bk w b2 #[.int .i64 p.s, .int .i64 p.d, .int .i64 p.sp, .int .i64 p.dp] 29)) :
  Calls Tryz.prog 99 #[.agg #[.int .i64 f.i, .int .i64 f.p.s, .int .i64 f.p.d, .int .i64 f.p.sp, .int .i64 f.p.dp, .int .i64 f.n], .pointer (some ⟨b1, 0, none⟩), .pointer (some ⟨b2, 0, none⟩)] w fun e w' => e = .returned (.bool (ofFlow i p f)) ∧ Below w.heap.size w w' := by
 obtain ⟨fi, ⟨fs, fd, fsp, fdp⟩, fn⟩ := f
 dsimp only
 have X1 := bk_new w #[.int .i64 fi, .int .i64 fs, .int .i64 fd, .int .i64 fsp, .int .i64 fdp, .int .i64 fn] 178
 have D1 := Below.alN (Below.refl w.heap.size w) (.cells #[.int .i64 fi, .int .i64 fs, .int .i64 fd, .int .i64 fsp, .int .i64 fdp, .int .i64 fn] 178)
 obtain ⟨⟨x0, x1, x2, x3, x4, x5⟩, _⟩ := X1.six
 have Yb1 := hA.out.alloc (.cells #[.int .i64 fi, .int .i64 fs, .int .i64 fd, .int .i64 fsp, .int .i64 fdp, .int .i64 fn] 178)
 have Yb2 := hP.out.alloc (.cells #[.int .i64 fi, .int .i64 fs, .int .i64 fd, .int .i64 fsp, .int .i64 fdp, .int .i64 fn] 178)
 obtain ⟨a0, a1⟩ := Yb1.two
 obtain ⟨p0, p1, p2, p3, _⟩ := Yb2.four
 have PE := fun w => packet_eqM ⟨fs, fd, fsp, fdp⟩ p w
 unfold ofFlow
 dsimp only at *
 generalize pkB ⟨fs, fd, fsp, fdp⟩ p = pb at *
 clear X1 hA hP
 cases h1 : (fi == i)
 ·have h1p : ¬ fi = i := by simpa using h1
  go_enter Tryz.func99, Tryz.ntmps99
  go_wp2_with fail
  all_goals first | exact absurd (by assumption) h1p | skip
  go_ret
  exact ⟨by simp, D1⟩
 ·obtain rfl : fi = i := by simpa using h1
  skip
  go_enter Tryz.func99, Tryz.ntmps99
  go_wp2_with fail
  go_ret
  exact ⟨by simp, D1⟩
theorem clo6 (f : Ft) (i q : Int) (p : Pk) (b1 b2 : Nat) (w : World) (hA : Hid (Bk w b1 #[.int .i64 i, .int .i64 q] 27)) (hP : Hid (Bk w b2 #[.int .i64 p.s, .int .i64 p.d, .int .i64 p.sp, .int .i64 p.dp] 29)) :
  Calls Tryz.prog 102 #[.agg #[.int .i64 f.i, .int .i64 f.p.s, .int .i64 f.p.d, .int .i64 f.p.sp, .int .i64 f.p.dp, .int .i64 f.n], .pointer (some ⟨b1, 0, none⟩), .pointer (some ⟨b2, 0, none⟩)] w fun e w' => e = .returned (.bool (ofFlow i p f)) ∧ Below w.heap.size w w' := by
 obtain ⟨fi, ⟨fs, fd, fsp, fdp⟩, fn⟩ := f
 dsimp only
 have X1 := bk_new w #[.int .i64 fi, .int .i64 fs, .int .i64 fd, .int .i64 fsp, .int .i64 fdp, .int .i64 fn] 178
 have D1 := Below.alN (Below.refl w.heap.size w) (.cells #[.int .i64 fi, .int .i64 fs, .int .i64 fd, .int .i64 fsp, .int .i64 fdp, .int .i64 fn] 178)
 obtain ⟨⟨x0, x1, x2, x3, x4, x5⟩, _⟩ := X1.six
 have Yb1 := hA.out.alloc (.cells #[.int .i64 fi, .int .i64 fs, .int .i64 fd, .int .i64 fsp, .int .i64 fdp, .int .i64 fn] 178)
 have Yb2 := hP.out.alloc (.cells #[.int .i64 fi, .int .i64 fs, .int .i64 fd, .int .i64 fsp, .int .i64 fdp, .int .i64 fn] 178)
 obtain ⟨a0, a1⟩ := Yb1.two
 obtain ⟨p0, p1, p2, p3, _⟩ := Yb2.four
 have PE := fun w => packet_eqM ⟨fs, fd, fsp, fdp⟩ p w
 unfold ofFlow
 dsimp only at *
 generalize pkB ⟨fs, fd, fsp, fdp⟩ p = pb at *
 clear X1 hA hP
 cases h1 : (fi == i)
 ·have h1p : ¬ fi = i := by simpa using h1
  go_enter Tryz.func102, Tryz.ntmps102
  go_wp2_with fail
  all_goals first | exact absurd (by assumption) h1p | skip
  go_ret
  exact ⟨by simp, D1⟩
 ·obtain rfl : fi = i := by simpa using h1
  skip
  go_enter Tryz.func102, Tryz.ntmps102
  go_wp2_with fail
  go_ret
  exact ⟨by simp, D1⟩
theorem clo5 (f : Ft) (i q : Int) (p o : Pk) (b1 b2 b3 : Nat) (w : World) (hA : Hid (Bk w b1 #[.int .i64 i, .int .i64 q] 27)) (hO : Hid (Bk w b3 #[.int .i64 o.s, .int .i64 o.d, .int .i64 o.sp, .int .i64 o.dp] 29)) (hP : Hid (Bk w b2 #[.int .i64 p.s, .int .i64 p.d, .int .i64 p.sp, .int .i64 p.dp] 29)) :
  Calls Tryz.prog 101 #[.agg #[.int .i64 f.i, .int .i64 f.p.s, .int .i64 f.p.d, .int .i64 f.p.sp, .int .i64 f.p.dp, .int .i64 f.n], .pointer (some ⟨b1, 0, none⟩), .pointer (some ⟨b3, 0, none⟩), .pointer (some ⟨b2, 0, none⟩)] w fun e w' => e = .returned (.bool (ftB f ⟨i, o, p.s⟩)) ∧ Below w.heap.size w w' := by
 obtain ⟨fi, ⟨fs, fd, fsp, fdp⟩, fn⟩ := f
 dsimp only
 have X1 := bk_new w #[.int .i64 fi, .int .i64 fs, .int .i64 fd, .int .i64 fsp, .int .i64 fdp, .int .i64 fn] 178
 have D1 := Below.alN (Below.refl w.heap.size w) (.cells #[.int .i64 fi, .int .i64 fs, .int .i64 fd, .int .i64 fsp, .int .i64 fdp, .int .i64 fn] 178)
 obtain ⟨⟨x0, x1, x2, x3, x4, x5⟩, _⟩ := X1.six
 have Yb1 := hA.out.alloc (.cells #[.int .i64 fi, .int .i64 fs, .int .i64 fd, .int .i64 fsp, .int .i64 fdp, .int .i64 fn] 178)
 have Yb3 := hO.out.alloc (.cells #[.int .i64 fi, .int .i64 fs, .int .i64 fd, .int .i64 fsp, .int .i64 fdp, .int .i64 fn] 178)
 have Yb2 := hP.out.alloc (.cells #[.int .i64 fi, .int .i64 fs, .int .i64 fd, .int .i64 fsp, .int .i64 fdp, .int .i64 fn] 178)
 obtain ⟨a0, a1⟩ := Yb1.two
 obtain ⟨o0, o1, o2, o3, _⟩ := Yb3.four
 obtain ⟨p0, p1, p2, p3, _⟩ := Yb2.four
 have PE := fun w => packet_eqM ⟨fs, fd, fsp, fdp⟩ o w
 unfold ftB
 dsimp only at *
 generalize pkB ⟨fs, fd, fsp, fdp⟩ o = pb at *
 clear X1 hA hO hP
 cases h1 : (fi == i)
 ·have h1p : ¬ fi = i := by simpa using h1
  go_enter Tryz.func101, Tryz.ntmps101
  go_wp2_with fail
  all_goals first | exact absurd (by assumption) h1p | skip
  go_ret
  exact ⟨by simp, D1⟩
 ·obtain rfl : fi = i := by simpa using h1
  cases pb
  ·go_enter Tryz.func101, Tryz.ntmps101
   go_wp2_with fail
   go_ret
   exact ⟨by simp, D1⟩
  ·go_enter Tryz.func101, Tryz.ntmps101
   go_wp2_with fail
   go_ret
   exact ⟨by simp, D1⟩
theorem clo1 (f : Ft) (i q : Int) (p : Pk) (b1 b2 : Nat) (w : World) (hA : Hid (Bk w b1 #[.int .i64 i, .int .i64 q] 27)) (hP : Hid (Bk w b2 #[.int .i64 p.s, .int .i64 p.d, .int .i64 p.sp, .int .i64 p.dp] 29)) :
  Calls Tryz.prog 97 #[.agg #[.int .i64 f.i, .int .i64 f.p.s, .int .i64 f.p.d, .int .i64 f.p.sp, .int .i64 f.p.dp, .int .i64 f.n], .pointer (some ⟨b1, 0, none⟩), .pointer (some ⟨b2, 0, none⟩)] w fun e w' => e = .returned (.bool (ofFlow i (flipP p) f)) ∧ Below w.heap.size w w' := by
 obtain ⟨fi, ⟨fs, fd, fsp, fdp⟩, fn⟩ := f
 dsimp only
 have X1 := bk_new w #[.int .i64 fi, .int .i64 fs, .int .i64 fd, .int .i64 fsp, .int .i64 fdp, .int .i64 fn] 178
 have D1 := Below.alN (Below.refl w.heap.size w) (.cells #[.int .i64 fi, .int .i64 fs, .int .i64 fd, .int .i64 fsp, .int .i64 fdp, .int .i64 fn] 178)
 obtain ⟨⟨x0, x1, x2, x3, x4, x5⟩, _⟩ := X1.six
 have Yb1 := hA.out.alloc (.cells #[.int .i64 fi, .int .i64 fs, .int .i64 fd, .int .i64 fsp, .int .i64 fdp, .int .i64 fn] 178)
 have Yb2 := hP.out.alloc (.cells #[.int .i64 fi, .int .i64 fs, .int .i64 fd, .int .i64 fsp, .int .i64 fdp, .int .i64 fn] 178)
 obtain ⟨a0, a1⟩ := Yb1.two
 obtain ⟨p0, p1, p2, p3, _⟩ := Yb2.four
 have PE := fun w => packet_eqM ⟨fs, fd, fsp, fdp⟩ (flipP p) w
 have BK1 : Hid (∀ W, Calls Tryz.prog 76 #[.agg #[.int .i64 p.s, .int .i64 p.d, .int .i64 p.sp, .int .i64 p.dp]] W fun e w' => e = .returned (.agg #[.int .i64 p.d, .int .i64 p.s, .int .i64 p.dp, .int .i64 p.sp]) ∧ Below W.heap.size W w') := fun W => back_any p W
 have B0 : Below (w.alloc (.cells #[.int .i64 fi, .int .i64 fs, .int .i64 fd, .int .i64 fsp, .int .i64 fdp, .int .i64 fn] 178)).heap.size (w.alloc (.cells #[.int .i64 fi, .int .i64 fs, .int .i64 fd, .int .i64 fsp, .int .i64 fdp, .int .i64 fn] 178)) (w.alloc (.cells #[.int .i64 fi, .int .i64 fs, .int .i64 fd, .int .i64 fsp, .int .i64 fdp, .int .i64 fn] 178)).drew := (Below.refl _ _).drew
 have KE : ∀ {w' : World}, Below (w.alloc (.cells #[.int .i64 fi, .int .i64 fs, .int .i64 fd, .int .i64 fsp, .int .i64 fdp, .int .i64 fn] 178)).heap.size (w.alloc (.cells #[.int .i64 fi, .int .i64 fs, .int .i64 fd, .int .i64 fsp, .int .i64 fdp, .int .i64 fn] 178)) w' -> w'.cell? ⟨w.heap.size, 0, none⟩ = some (.int .i64 fi) ∧ w'.cell? ⟨w.heap.size, 1, none⟩ = some (.int .i64 fs) ∧ w'.cell? ⟨w.heap.size, 2, none⟩ = some (.int .i64 fd) ∧ w'.cell? ⟨w.heap.size, 3, none⟩ = some (.int .i64 fsp) ∧ w'.cell? ⟨w.heap.size, 4, none⟩ = some (.int .i64 fdp) ∧ w'.cell? ⟨b1, 0, none⟩ = some (.int .i64 i) ∧ w'.cell? ⟨b2, 0, none⟩ = some (.int .i64 p.s) ∧ w'.cell? ⟨b2, 1, none⟩ = some (.int .i64 p.d) ∧ w'.cell? ⟨b2, 2, none⟩ = some (.int .i64 p.sp) ∧ w'.cell? ⟨b2, 3, none⟩ = some (.int .i64 p.dp) := fun hb => by
  have X := X1.keep hb
  have Y := Yb1.keep hb
  have Z := Yb2.keep hb
  exact ⟨X.at 0, X.at 1, X.at 2, X.at 3, X.at 4, Y.at 0, Z.at 0, Z.at 1, Z.at 2, Z.at 3⟩
 unfold ofFlow flipP at *
 dsimp only at *
 generalize pkB ⟨fs, fd, fsp, fdp⟩ ⟨p.d, p.s, p.dp, p.sp⟩ = pb at *
 clear X1 hA hP
 cases h1 : (fi == i)
 ·have h1p : ¬ fi = i := by simpa using h1
  go_enter Tryz.func97, Tryz.ntmps97
  go_upto_region 1 with fail
  go_region
  all_goals
   go_wp2_with fail
   all_goals first | exact absurd (by assumption) h1p | skip
   go_ret
   exact ⟨by simp, D1.drew⟩
 ·have h1p : fi = i := by simpa using h1
  subst h1p
  go_enter Tryz.func97, Tryz.ntmps97
  go_upto_region 1 with fail
  go_region_held3 (fun w' => w'.cell? ⟨w.heap.size, 0, none⟩ = some (.int .i64 fi) ∧ w'.cell? ⟨w.heap.size, 1, none⟩ = some (.int .i64 fs) ∧ w'.cell? ⟨w.heap.size, 2, none⟩ = some (.int .i64 fd) ∧ w'.cell? ⟨w.heap.size, 3, none⟩ = some (.int .i64 fsp) ∧ w'.cell? ⟨w.heap.size, 4, none⟩ = some (.int .i64 fdp) ∧ w'.cell? ⟨b1, 0, none⟩ = some (.int .i64 fi) ∧ w'.cell? ⟨b2, 0, none⟩ = some (.int .i64 p.s) ∧ w'.cell? ⟨b2, 1, none⟩ = some (.int .i64 p.d) ∧ w'.cell? ⟨b2, 2, none⟩ = some (.int .i64 p.sp) ∧ w'.cell? ⟨b2, 3, none⟩ = some (.int .i64 p.dp)) (exact KE (by first | exact Bf | exact B0)) (first | (go_at_call 76; (with_reducible refine (BK1.out _).mono ?_); rintro e wf ⟨rfl, hbf⟩; have Bf := chnN hbf B0))
  all_goals
   go_wp2_with fail
   first
    | (go_ret; exact ⟨by simp, chnN Bf D1⟩)
    | exact ⟨by simp, chnN Bf D1⟩
theorem adB_in (n : Int) : (decide ((0 : Int) <= n) && decide (n <= 15)) = adB n := by
 unfold adB
 rw [show decide (n <= 15) = decide (n < 16) by rw [decide_eq_decide]; omega]
theorem poB_in (n : Int) : (decide ((0 : Int) <= n) && decide (n <= 7)) = poB n := by
 unfold poB
 rw [show decide (n <= 7) = decide (n < 8) by rw [decide_eq_decide]; omega]
theorem right_M (p : Pk) (w : World) : Calls Tryz.prog 43 #[pkV p] w fun e w' => e = .returned (.bool (pkOk p)) ∧ Below w.heap.size w w' := by
 have D1 := Below.alN (Below.refl w.heap.size w) (pkC p)
 have X1 := bk_new w #[.int .i64 p.s, .int .i64 p.d, .int .i64 p.sp, .int .i64 p.dp] 29
 have IA : Hid (∀ (n : Int) W, Calls Tryz.prog 8 #[.int .i64 n, .int .i64 0, .int .i64 15] W fun e w' => e = .returned (.bool (adB n)) ∧ w' = W) := fun n W => by
  have := finR n 0 15 W
  rw [adB_in] at this
  exact this
 have IP : Hid (∀ (n : Int) W, Calls Tryz.prog 8 #[.int .i64 n, .int .i64 0, .int .i64 7] W fun e w' => e = .returned (.bool (poB n)) ∧ w' = W) := fun n W => by
  have := finR n 0 7 W
  rw [poB_in] at this
  exact this
 obtain ⟨x0, x1, x2, x3, _⟩ := X1.four
 obtain ⟨s, d, sp, dp⟩ := p
 unfold pkOk
 dsimp only at *
 have I0 : Hid (∀ W, Calls Tryz.prog 8 #[.int .i64 s, .int .i64 0, .int .i64 15] W fun e w' => e = .returned (.bool (adB s)) ∧ w' = W) := IA.out s
 have I1 : Hid (∀ W, Calls Tryz.prog 8 #[.int .i64 d, .int .i64 0, .int .i64 15] W fun e w' => e = .returned (.bool (adB d)) ∧ w' = W) := IA.out d
 have I2 : Hid (∀ W, Calls Tryz.prog 8 #[.int .i64 sp, .int .i64 0, .int .i64 7] W fun e w' => e = .returned (.bool (poB sp)) ∧ w' = W) := IP.out sp
 have I3 : Hid (∀ W, Calls Tryz.prog 8 #[.int .i64 dp, .int .i64 0, .int .i64 7] W fun e w' => e = .returned (.bool (poB dp)) ∧ w' = W) := IP.out dp
 clear IA IP X1
 generalize adB s = y0 at *
 generalize adB d = y1 at *
 generalize poB sp = y2 at *
 generalize poB dp = y3 at *
 cases y0 <;> cases y1 <;> cases y2
 all_goals
  go_enter Tryz.func43, Tryz.ntmps43
  go_wp2_with (first | (go_at_call_of 8 (Value.int .i64 s); refine (I0.out _).mono ?_; rintro e w' ⟨rfl, rfl⟩) | (go_at_call_of 8 (Value.int .i64 d); refine (I1.out _).mono ?_; rintro e w' ⟨rfl, rfl⟩) | (go_at_call_of 8 (Value.int .i64 sp); refine (I2.out _).mono ?_; rintro e w' ⟨rfl, rfl⟩) | (go_at_call_of 8 (Value.int .i64 dp); refine (I3.out _).mono ?_; rintro e w' ⟨rfl, rfl⟩))
  go_ret
  exact ⟨by simp, D1⟩
structure MnAt (W : World) (g : Nat) (A L : Option Addr) (c d : Nat) (F : Option Addr) (cF : Nat) (ds : List Dv) (ls : List Lk) (FL : List Ft) : Prop where
 blk : Bk W g #[.slice A ds.length c, .slice L ls.length d, .slice F FL.length cF] 126
 devs : Devs g W (.slice A ds.length c) ds
 links : Links g W (.slice L ls.length d) ls
 facts : W.ownsRow (g + 1) 178 6 (.slice F FL.length cF) FL.length (FL.flatMap ftC)
section
variable {W W' : World} {g : Nat} {A L : Option Addr} {c d : Nat} {F : Option Addr} {cF : Nat} {ds : List Dv} {ls : List Lk} {FL : List Ft}
theorem MnAt.below (h : MnAt W g A L c d F cF ds ls FL) (hb : Below W.heap.size W W') : MnAt W' g A L c d F cF ds ls FL :=
 have kt := KT.of_below hb (Nat.le_of_lt h.blk.lt)
 ⟨h.blk.keep hb, h.devs.kt kt, h.links.kt kt, own_below h.facts hb⟩
theorem flat_ft : ∀ (FL : List Ft) (k : Nat) (f : Ft), FL[k]? = some f -> (((FL.flatMap ftC).drop (k * 6)).take 6) = ftC f
 | [], k, f, h => by simp at h
 | y :: ys, 0, f, h => by
   obtain rfl := Option.some.inj h
   rfl
 | y :: ys, k + 1, f, h => by
   have e : ((y :: ys).flatMap ftC).drop ((k + 1) * 6) = (ys.flatMap ftC).drop (k * 6) := by
    rw [List.flatMap_cons, show (k + 1) * 6 = (ftC y).length + k * 6 by show (k + 1) * 6 = 6 + k * 6; omega, List.drop_append]
    simp
   rw [e]
   exact flat_ft ys k f (by simpa using h)
theorem MnAt.row (h : MnAt W g A L c d F cF ds ls FL) : SlAt W.heap.size W 6 IsFt (.slice F FL.length cF) FL := SlAt.own h.facts (fun k f hf => flat_ft FL k f hf)
theorem uFts : Tryz.prog.underlying 124 = some (.slice 178) := by kernel_rfl
theorem infoFt : (Tryz.prog.info? 178).map (fun i => (i.zero, i.size, i.bytes)) = some (some (.agg #[.int .i64 0, .int .i64 0, .int .i64 0, .int .i64 0, .int .i64 0, .int .i64 0]), 6, 48) := by kernel_rfl
theorem ftC_one (f : Ft) : ∀ u ∈ ftC f, u.oneCell' = true := by
 intro u hu
 simp only [ftC, List.mem_cons, List.not_mem_nil, or_false] at hu
 rcases hu with rfl | rfl | rfl | rfl | rfl | rfl <;> rfl
theorem own_slM {w : World} {B e size n : Nat} {v : Value} {xs : List Value} (h : w.ownsRow B e size v n xs) : ∃ A cap, v = .slice A n cap ∧ ∀ a, A = some a -> v.ownBlock = some a.block := by
 rcases h.2 with ⟨rfl, h0⟩ | ⟨g, cap, cur, rfl, _⟩
 ·refine ⟨none, 0, ?_, fun a e => by cases e⟩
  first
   | rfl
   | (rw [h0])
   | simp_all
 ·exact ⟨some ⟨g, 0, none⟩, cap, rfl, fun a e => by cases e; rfl⟩
theorem MnAt.put {w7 : World} {FL' : List Ft} {F' : Option Addr} {c' : Nat} (h : MnAt W g A L c d F cF ds ls FL) (O7 : w7.ownsRow (g + 1) 178 6 (.slice F' FL'.length c') FL'.length (FL'.flatMap ftC)) (D7 : Below (g + 1) W w7) : MnAt (w7.setCell ⟨g, 2, none⟩ (.slice F' FL'.length c')) g A L c d F' c' ds ls FL' := by
 have B7 : Bk w7 g _ _ := (D7.block g (by omega)).trans h.blk
 have hF : ∀ b, b ≠ g -> (w7.setCell ⟨g, 2, none⟩ (.slice F' FL'.length c')).heap[b]? = w7.heap[b]? := fun b hb => Below.heap_setCell w7 ⟨g, 2, none⟩ _ b hb
 have kt : KT g W (w7.setCell ⟨g, 2, none⟩ (.slice F' FL'.length c')) := fun b hb _ => (hF b (by omega)).trans (D7.block b (by omega))
 refine ⟨?_, h.devs.kt kt, h.links.kt kt, own_keptBut O7 (fun g' hg => hF g' (by have := (own_block O7 hg).2.1; omega))⟩
 have := B7.setS (j := 2) (.slice F' FL'.length c')
 simpa using this
end
theorem fact_eq (a b : Ft) (w : World) : (binOp .eql 178 (.agg #[.int .i64 a.i, .int .i64 a.p.s, .int .i64 a.p.d, .int .i64 a.p.sp, .int .i64 a.p.dp, .int .i64 a.n]) (.agg #[.int .i64 b.i, .int .i64 b.p.s, .int .i64 b.p.d, .int .i64 b.p.sp, .int .i64 b.p.dp, .int .i64 b.n])).run Tryz.prog w = .ok (.bool (ftB a b)) w := by
 obtain ⟨i, ⟨s, d, sp, dp⟩, n⟩ := a
 obtain ⟨i', ⟨s', d', sp', dp'⟩, n'⟩ := b
 unfold ftB pkB
 cases h0 : (i == i') <;> cases h1 : (s == s') <;> cases h2 : (d == d') <;> cases h3 : (sp == sp') <;> cases h4 : (dp == dp') <;> cases h5 : (n == n')
 all_goals simp [go_sem, Tryz.underlying178, Tryz.underlying29, Tryz.underlying3, h0, h1, h2, h3, h4, h5]
theorem index_ft (A : Option Addr) (cap : Nat) (FL : List Ft) (f : Ft) (base : Nat) (w : World) (hb0 : base <= w.heap.size) (hL : Hid (SlAt base w 6 IsFt (.slice A FL.length cap) FL)) :
  Calls Tryz.prog 147 #[.slice A FL.length cap, .agg #[.int .i64 f.i, .int .i64 f.p.s, .int .i64 f.p.d, .int .i64 f.p.sp, .int .i64 f.p.dp, .int .i64 f.n]] w fun e w' => ∃ j : Int, e = .returned (.int .i64 j) ∧ Hid (decide (0 <= j) = FL.any (fun x => ftB f x)) ∧ Below w.heap.size w w' := by
 have hm : FL.length <= maxLen := by obtain ⟨_, _, e, _, a, b, _⟩ := hL.out; cases e; omega
 unfold maxLen at hm
 have X1 := bk_new w #[.int .i64 f.i, .int .i64 f.p.s, .int .i64 f.p.d, .int .i64 f.p.sp, .int .i64 f.p.dp, .int .i64 f.n] 178
 have D0 := Below.alN (Below.refl w.heap.size w) (.cells #[.int .i64 f.i, .int .i64 f.p.s, .int .i64 f.p.d, .int .i64 f.p.sp, .int .i64 f.p.dp, .int .i64 f.n] 178)
 go_enter Tryz.func147, Tryz.ntmps147
 go_wp2_with fail
 have X1' : Hid (Bk (w.alloc (.cells #[.int .i64 f.i, .int .i64 f.p.s, .int .i64 f.p.d, .int .i64 f.p.sp, .int .i64 f.p.dp, .int .i64 f.n] 178)) w.heap.size #[.int .i64 f.i, .int .i64 f.p.s, .int .i64 f.p.d, .int .i64 f.p.sp, .int .i64 f.p.dp, .int .i64 f.n] 178) := X1
 clear X1
 go_loopw [8] (fun i wr => ∃ k : Nat, i = .int .i64 (k : Int) ∧ k <= FL.length ∧ Below w.heap.size w wr ∧ Bk wr w.heap.size #[.int .i64 f.i, .int .i64 f.p.s, .int .i64 f.p.d, .int .i64 f.p.sp, .int .i64 f.p.dp, .int .i64 f.n] 178 ∧ Hid ((FL.take k).any (fun x => ftB f x) = false)) (fun i _ => FL.length - (intOf i).toNat)
 case atStart => exact ⟨0, rfl, by omega, D0, X1'.out, rfl⟩
 case round =>
  clear D0 X1'
  obtain ⟨k, rfl, hk, D1, Y1, hno⟩ := hrel
  by_cases hlt : k < FL.length
  ·obtain ⟨x, hxk⟩ : ∃ x, FL[k]? = some x := ⟨_, List.getElem?_eq_getElem hlt⟩
   obtain ⟨b, o, rfl, hb, c0, d1, d2, d3, d4, d5⟩ := (SlAt.below hL.out (D1.mono hb0) (fun _ _ _ h => h)).ft hxk
   obtain ⟨⟨y0, y1, y2, y3, y4, y5⟩, _⟩ := Y1.six
   have FE := fun w => fact_eq f x w
   have HX : Hid (FL[k]? = some x) := hxk
   have k1 : (0 : Int) <= (k : Int) := by omega
   have k2 : (k : Int) < (FL.length : Int) := by omega
   have D2 := D1.drew
   have Y2 := Y1.drew
   clear hL hxk hb
   cases hv : ftB f x
   ·rw [hv] at FE
    have HV : Hid ((FL.take (k + 1)).any (fun x => ftB f x) = false) := by show _ = _; rw [any_takeF HX.out, hno.out, hv]; rfl
    clear hv hno HX
    obtain ⟨fi, ⟨fs, fd, fsp, fdp⟩, fn⟩ := f
    obtain ⟨xi, ⟨xs, xd, xsp, xdp⟩, xn⟩ := x
    dsimp only at *
    go_wp2_with fail
    go_region
    all_goals
     go_wp2_with fail
     go_roundw
     case rel => exact ⟨k + 1, by go_num, by omega, by first | exact D2 | exact D1, by first | exact Y2 | exact Y1, HV⟩
     case measure => simp [intOf]; omega
   ·rw [hv] at FE
    have fin : Hid (FL.any (fun x => ftB f x) = true) := List.any_eq_true.2 ⟨x, List.mem_of_getElem? HX.out, hv⟩
    clear hv hno HX
    obtain ⟨fi, ⟨fs, fd, fsp, fdp⟩, fn⟩ := f
    obtain ⟨xi, ⟨xs, xd, xsp, xdp⟩, xn⟩ := x
    dsimp only at *
    go_wp2_with fail
    go_region
    all_goals
     go_wp2_with fail
     go_ret
     exact ⟨_, rfl, (by show _ = _; rw [fin.out]; simp), by first | exact D2 | exact D1⟩
  ·have fin : Hid (FL.any (fun x => ftB f x) = false) := by
    have := hno.out
    rw [show k = FL.length by omega, List.take_length] at this
    exact this
   go_wp2_with fail
   go_ret
   exact ⟨_, rfl, (by show _ = _; rw [fin.out]; simp), D1⟩
theorem ftB_comm (a b : Ft) : ftB a b = ftB b a := by
 rw [Bool.eq_iff_iff, ftB_iff, ftB_iff]
 exact eq_comm
theorem contains_ft (A : Option Addr) (cap : Nat) (FL : List Ft) (f : Ft) (base : Nat) (w : World) (hb0 : base <= w.heap.size) (hL : Hid (SlAt base w 6 IsFt (.slice A FL.length cap) FL)) :
  Calls Tryz.prog 103 #[.slice A FL.length cap, .agg #[.int .i64 f.i, .int .i64 f.p.s, .int .i64 f.p.d, .int .i64 f.p.sp, .int .i64 f.p.dp, .int .i64 f.n]] w fun e w' => e = .returned (.bool (FL.any (fun x => ftB x f))) ∧ Below w.heap.size w w' := by
 have X1 := bk_new w #[.int .i64 f.i, .int .i64 f.p.s, .int .i64 f.p.d, .int .i64 f.p.sp, .int .i64 f.p.dp, .int .i64 f.n] 178
 have D1 := Below.alN (Below.refl w.heap.size w) (.cells #[.int .i64 f.i, .int .i64 f.p.s, .int .i64 f.p.d, .int .i64 f.p.sp, .int .i64 f.p.dp, .int .i64 f.n] 178)
 have IX : Hid (∀ W, Below w.heap.size w W -> Calls Tryz.prog 147 #[.slice A FL.length cap, .agg #[.int .i64 f.i, .int .i64 f.p.s, .int .i64 f.p.d, .int .i64 f.p.sp, .int .i64 f.p.dp, .int .i64 f.n]] W fun e w' => ∃ j : Int, e = .returned (.int .i64 j) ∧ Hid (decide (0 <= j) = FL.any (fun x => ftB x f)) ∧ Below W.heap.size W w') := fun W h => (index_ft A cap FL f base W (Nat.le_trans hb0 h.size) (SlAt.below hL.out (h.mono hb0) (fun _ _ _ h => h))).mono fun e w' ⟨j, h1, h2, h3⟩ => ⟨j, h1, by
  show _ = _
  rw [h2.out]
  congr 1
  funext x
  exact ftB_comm f x, h3⟩
 obtain ⟨⟨x0, x1, x2, x3, x4, x5⟩, _⟩ := X1.six
 obtain ⟨fi, ⟨fs, fd, fsp, fdp⟩, fn⟩ := f
 dsimp only at *
 clear hL X1
 go_enter Tryz.func103, Tryz.ntmps103
 go_wp2_with fail
 with_reducible refine (IX.out _ D1).mono ?_
 rintro e w2 ⟨j, rfl, hj, hb2⟩
 have D2 := chnN hb2 D1
 go_wp2_with fail
 go_ret
 exact ⟨by rw [<- hj.out]; first | rfl | simp, D2⟩
structure MKp (g : Nat) (F : Option Addr) (W W' : World) : Prop where
 os : W'.os = W.os
 tape : W'.tape = W.tape
 output : W'.output = W.output
 size : W.heap.size <= W'.heap.size
 block : ∀ b, b < W.heap.size -> b ≠ g -> (∀ a, F = some a -> b ≠ a.block) -> W'.heap[b]? = W.heap[b]?
theorem MKp.of_below {g : Nat} {F : Option Addr} {W W' : World} (hb : Below W.heap.size W W') : MKp g F W W' := ⟨hb.os, hb.tape, hb.output, hb.size, fun b h _ _ => hb.block b h⟩
def MOut (w : World) (g : Nat) (A L : Option Addr) (c d : Nat) (F : Option Addr) (ds : List Dv) (ls : List Lk) (FL : List Ft) (w' : World) : Prop :=
 ∃ F' cF', MnAt w' g A L c d F' cF' ds ls FL ∧ MKp g F w w' ∧ SG F F' w.heap.size
section
variable {w W W' : World} {g : Nat} {A L : Option Addr} {c d : Nat} {F : Option Addr} {cF : Nat} {ds : List Dv} {ls : List Lk} {FL FL' : List Ft}
theorem MOut.same (h : MnAt W g A L c d F cF ds ls FL) (hb : Below w.heap.size w W) : MOut w g A L c d F ds ls FL W := ⟨F, cF, h, MKp.of_below hb, SG.refl _ _⟩
theorem mout_more {w7 : World} {v7 : Value} {f : Ft} (h : MnAt W g A L c d F cF ds ls FL) (hb : Below w.heap.size w W) (O7 : w7.ownsRow (g + 1) 178 6 v7 (FL.length + 1) (FL.flatMap ftC ++ ftC f)) (D7 : Below (g + 1) W w7) (K7 : KeptB W w7 (Value.slice F FL.length cF).ownBlock) (g7 : v7.ownBlock = (Value.slice F FL.length cF).ownBlock ∨ ∃ k, v7.ownBlock = some k ∧ W.heap.size <= k) : MOut w g A L c d F ds ls (FL ++ [f]) (w7.setCell ⟨g, 2, none⟩ v7) := by
 have hg := h.blk.lt
 have e1 : (FL ++ [f]).length = FL.length + 1 := by simp
 have e2 : (FL ++ [f]).flatMap ftC = FL.flatMap ftC ++ ftC f := by simp
 rw [<- e1, <- e2] at O7
 obtain ⟨A7, c7, rfl, hA7⟩ := own_slM O7
 have hF : ∀ b, b ≠ g -> (w7.setCell ⟨g, 2, none⟩ (.slice A7 (FL ++ [f]).length c7)).heap[b]? = w7.heap[b]? := fun b h => Below.heap_setCell w7 ⟨g, 2, none⟩ _ b h
 have hsz : (w7.setCell ⟨g, 2, none⟩ (.slice A7 (FL ++ [f]).length c7)).heap.size = w7.heap.size := by simp [World.setCell]
 have hFb : ∀ b, some b = (Value.slice F FL.length cF).ownBlock -> ∃ a, F = some a ∧ a.block = b := fun b e => by
  cases F with
  | none => cases e
  | some a =>
    refine ⟨a, rfl, ?_⟩
    simp only [Value.ownBlock] at e
    first
     | exact (Option.some.inj e).symm
     | (split at e <;> simp_all)
 refine ⟨A7, c7, h.put O7 D7, ⟨D7.os.trans hb.os, D7.tape.trans hb.tape, D7.output.trans hb.output, ?_, fun b h1 h2 h3 => ?_⟩, fun a ha => ?_⟩
 ·rw [hsz]
  exact Nat.le_trans hb.size K7.size
 ·exact (hF b h2).trans ((K7.block b (Nat.lt_of_lt_of_le h1 hb.size) (fun e => by
   obtain ⟨a, ha, hab⟩ := hFb b e
   exact h3 a ha hab.symm)).trans (hb.block b h1))
 ·have hb7 := hA7 a ha
  rcases g7 with g7 | ⟨k, g7, hk⟩
  ·rw [hb7] at g7
   exact Or.inl (hFb _ g7)
  ·rw [hb7] at g7
   have := Option.some.inj g7
   exact Or.inr (by have := hb.size; omega)
theorem MnAt.set {k j : Nat} {cs : Array Value} {t : TypeId} {u : Value} (h : MnAt W g A L c d F cF ds ls FL) (hB : Bk W k cs t) (hk : g < k) (ht : t ≠ 178) : MnAt (W.setCell ⟨k, j, none⟩ u) g A L c d F cF ds ls FL := by
 have hF : ∀ b, b ≠ k -> (W.setCell ⟨k, j, none⟩ u).heap[b]? = W.heap[b]? := fun b h => Below.heap_setCell W ⟨k, j, none⟩ _ b h
 have kt : KT g W (W.setCell ⟨k, j, none⟩ u) := fun b hb _ => hF b (by omega)
 refine ⟨(hF g (by omega)).trans h.blk, h.devs.kt kt, h.links.kt kt, own_keptBut h.facts (fun b hb => hF b (fun e => ?_))⟩
 obtain ⟨_, _, cur, h2⟩ := own_block h.facts hb
 rw [e] at h2
 unfold Bk at hB
 rw [hB] at h2
 simp only [Option.some.injEq, Obj.cells.injEq] at h2
 exact ht h2.2.1
theorem MOut.set {k j : Nat} {cs : Array Value} {t : TypeId} {u : Value} (h : MOut w g A L c d F ds ls FL W) (hB : Bk W k cs t) (hg : g < w.heap.size) (hk : w.heap.size <= k) (ht : t ≠ 178) : MOut w g A L c d F ds ls FL (W.setCell ⟨k, j, none⟩ u) := by
 obtain ⟨F', cF', h1, h2, h3⟩ := h
 have hF : ∀ b, b ≠ k -> (W.setCell ⟨k, j, none⟩ u).heap[b]? = W.heap[b]? := fun b h => Below.heap_setCell W ⟨k, j, none⟩ _ b h
 have hsz : (W.setCell ⟨k, j, none⟩ u).heap.size = W.heap.size := by simp [World.setCell]
 refine ⟨F', cF', h1.set hB (by omega) ht, ⟨h2.os, h2.tape, h2.output, by rw [hsz]; exact h2.size, fun b q1 q2 q3 => (hF b (by omega)).trans (h2.block b q1 q2 q3)⟩, h3⟩
theorem MOut.set6 {k : Nat} {c0 c1 c2 c3 c4 c5 u0 u1 u2 u3 u4 u5 : Value} {t : TypeId} (h : MOut w g A L c d F ds ls FL W) (hB : Bk W k #[c0, c1, c2, c3, c4, c5] t) (hg : g < w.heap.size) (hk : w.heap.size <= k) (ht : t ≠ 178) : MOut w g A L c d F ds ls FL ((((((W.setCell ⟨k, 0, none⟩ u0).setCell ⟨k, 1, none⟩ u1).setCell ⟨k, 2, none⟩ u2).setCell ⟨k, 3, none⟩ u3).setCell ⟨k, 4, none⟩ u4).setCell ⟨k, 5, none⟩ u5) :=
 (((((h.set hB hg hk ht).set (hB.setS u0) hg hk ht).set ((hB.setS u0).setS u1) hg hk ht).set (((hB.setS u0).setS u1).setS u2) hg hk ht).set ((((hB.setS u0).setS u1).setS u2).setS u3) hg hk ht).set (((((hB.setS u0).setS u1).setS u2).setS u3).setS u4) hg hk ht
end
section
variable {w W W' : World} {g : Nat} {A L : Option Addr} {c d : Nat} {F : Option Addr} {cF : Nat} {ds : List Dv} {ls : List Lk} {FL FL' : List Ft}
theorem MnAt.alloc (h : MnAt W g A L c d F cF ds ls FL) (o : Obj) : MnAt (W.alloc o) g A L c d F cF ds ls FL := h.below ((Below.refl _ _).alloc (Nat.le_refl _) o)
theorem MnAt.drew (h : MnAt W g A L c d F cF ds ls FL) : MnAt W.drew g A L c d F cF ds ls FL := h.below (Below.refl _ _).drew
theorem MnAt.drewN (h : MnAt W g A L c d F cF ds ls FL) (n : Nat) : MnAt (W.drewN n) g A L c d F cF ds ls FL := h.below (belowNN (Below.refl _ _) n)
structure FG (w : World) (g : Nat) (A L : Option Addr) (c d : Nat) (F : Option Addr) (cF : Nat) (ds : List Dv) (ls : List Lk) (FL : List Ft) (i : Int) (p : Pk) (port kd : Int) (K : Nat) (W : World) : Prop where
 mn : MnAt W g A L c d F cF ds ls FL
 bi : Bk W w.heap.size #[.int .i64 i] 3
 bp : Bk W (w.heap.size + 1) #[.int .i64 p.s, .int .i64 p.d, .int .i64 p.sp, .int .i64 p.dp] 29
 bo : Bk W (w.heap.size + 1 + 1) #[.int .i64 port] 3
 bk : Bk W K #[.int .i64 kd] 3
 bl : Below w.heap.size w W
end
end Go.Proofs.YtppbfikimalojaaGreat
