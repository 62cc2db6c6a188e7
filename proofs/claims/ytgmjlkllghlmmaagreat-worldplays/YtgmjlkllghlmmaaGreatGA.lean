/-
  StepPlays: the document's mind, plain: a list of facts, and what devices know.
-/
import Derived.Test.YtgmjlkllghlmmaaGreatGT
namespace Go.Proofs.YtgmjlkllghlmmaaGreat
open Go.RowKit Go.Maps

/-- A fact of the document's mind. -/
structure Ft where
  i : Int
  p : Pk
  n : Int
def pkB (a b : Pk) : Bool := (a.s == b.s) && (a.d == b.d) && (a.sp == b.sp) && (a.dp == b.dp)
theorem pkB_iff (a b : Pk) : pkB a b = true ↔ a = b := by
  obtain ⟨s, d, sp, dp⟩ := a
  obtain ⟨s', d', sp', dp'⟩ := b
  simp [pkB, and_assoc]
def ftB (a b : Ft) : Bool := (a.i == b.i) && pkB a.p b.p && (a.n == b.n)
theorem ftB_iff (a b : Ft) : ftB a b = true ↔ a = b := by
  obtain ⟨i, p, n⟩ := a
  obtain ⟨i', p', n'⟩ := b
  simp only [ftB, Bool.and_eq_true, beq_iff_eq, pkB_iff, Ft.mk.injEq, and_assoc]
/-- What the mind says of a device. -/
structure MR where
  err : Int
  out : Bool
  port : Int
  p : Pk
  k : Option Ft
def ofFlow (i : Int) (p : Pk) (f : Ft) : Bool := (f.i == i) && pkB f.p p
def ofPort (i k : Int) (f : Ft) : Bool := (f.i == i) && (f.n == k)
def mSend (d : Dv) (FL : List Ft) (i q : Int) (p : Pk) (c : Int) : MR :=
  if d.kind = 2 then ⟨0, outB (routesOf d) p.d && letsB (rulesOf d) p.s p.d p.sp p.dp, outN (routesOf d) p.d, p, none⟩
  else if d.kind = 3 then (if q = 0 then ⟨0, letsB (rulesOf d) p.s p.d p.sp p.dp, 1, p, some ⟨i, p, 0⟩⟩ else ⟨0, FL.any (ofFlow i (flipP p)), 0, p, none⟩)
  else if d.kind = 4 then
    (if q = 0 then
      (match FL.find? (ofFlow i ⟨p.s, 0, p.sp, 0⟩) with
      | some f => ⟨0, true, 1, ⟨d.addr, p.d, f.n, p.dp⟩, some ⟨i, ⟨p.s, 0, p.sp, 0⟩, f.n⟩⟩
      | none => if poolB d c then (if FL.any (ofPort i c) then ⟨6, false, 0, p, none⟩ else ⟨0, true, 1, ⟨d.addr, p.d, c, p.dp⟩, some ⟨i, ⟨p.s, 0, p.sp, 0⟩, c⟩⟩) else ⟨1, false, 0, p, none⟩)
    else
      (match FL.find? (ofPort i p.dp) with
      | some f => if p.d == d.addr then ⟨0, true, 0, ⟨p.s, f.p.s, p.sp, f.p.sp⟩, none⟩ else ⟨0, false, 0, p, none⟩
      | none => ⟨0, false, 0, p, none⟩))
  else if d.kind = 5 then
    (if q = 0 then
      (if p.d == d.addr then
        (match FL.find? (ofFlow i p) with
        | some f => ⟨0, true, 1, ⟨p.s, f.n, p.sp, p.dp⟩, some ⟨i, p, f.n⟩⟩
        | none => if decide (0 ≤ c) && decide (c < (d.backs.length : Int)) then ⟨0, true, 1, ⟨p.s, d.backs.getD c.toNat 0, p.sp, p.dp⟩, some ⟨i, p, d.backs.getD c.toNat 0⟩⟩ else ⟨1, false, 0, p, none⟩)
      else ⟨0, true, 1, p, none⟩)
    else ⟨0, true, 0, if FL.any (fun f => ftB f ⟨i, ⟨p.d, d.addr, p.dp, p.sp⟩, p.s⟩) then ⟨d.addr, p.d, p.sp, p.dp⟩ else p, none⟩)
  else ⟨0, false, 1 - q, p, none⟩
def addF (FL : List Ft) : Option Ft → List Ft
  | none => FL
  | some f => if FL.any (fun g => ftB g f) then FL else FL ++ [f]
structure MH where
  err : Int
  tp : Int × Int
  p : Pk
  FL : List Ft
def badM (e : Int) (FL : List Ft) : MH := ⟨e, (0, 0), zeroP, FL⟩
def mindP (ds : List Dv) (ls : List Lk) (FL : List Ft) (i q : Int) (p : Pk) (c : Int) : MH :=
  if isPl ds i q then
    (if pkOk p then
      (if (mSend (ds.getD i.toNat default) FL i q p c).err = 0 then
        (if (mSend (ds.getD i.toNat default) FL i q p c).out then
          (match peerF ls i (mSend (ds.getD i.toNat default) FL i q p c).port with
          | some t => ⟨0, t, (mSend (ds.getD i.toNat default) FL i q p c).p, addF FL (mSend (ds.getD i.toNat default) FL i q p c).k⟩
          | none => badM 7 FL)
        else badM 7 FL)
      else badM (mSend (ds.getD i.toNat default) FL i q p c).err FL)
    else badM 1 FL)
  else badM 4 FL
/-- Facts and what is known are the same. -/
structure RelM (ds : List Dv) (FL : List Ft) (M : Mnd) : Prop where
  fl : ∀ i p, kindAt ds i = 3 → ((M.fl (i, p)).isSome = true ↔ ⟨i, p, 0⟩ ∈ FL)
  ow : ∀ i k s, kindAt ds i = 4 → (M.ow (i, k) = some s ↔ ⟨i, ⟨s.1, 0, s.2, 0⟩, k⟩ ∈ FL)
  bk : ∀ i p b, kindAt ds i = 5 → (M.bk (i, p) = some b ↔ ⟨i, p, b⟩ ∈ FL)
  k3 : ∀ f ∈ FL, kindAt ds f.i = 3 → f.n = 0
  k4 : ∀ f ∈ FL, kindAt ds f.i = 4 → f.p = ⟨f.p.s, 0, f.p.sp, 0⟩ ∧ poB f.n = true
  one : ∀ i k k' s, kindAt ds i = 4 → M.ow (i, k) = some s → M.ow (i, k') = some s → k = k'
  nd : FL.Nodup
theorem rel_no (ds : List Dv) : RelM ds [] noM := ⟨(fun i p _ => by simp [noM]), (fun i k s _ => by simp [noM]), (fun i p b _ => by simp [noM]), (fun f hf => by simp at hf), (fun f hf => by simp at hf), (fun i k k' s _ h => by cases h), List.nodup_nil⟩
section
variable {ds : List Dv} {FL : List Ft} {M : Mnd}
theorem any_flow {i : Int} {p : Pk} : FL.any (ofFlow i p) = true ↔ ∃ n, (⟨i, p, n⟩ : Ft) ∈ FL := by
  rw [List.any_eq_true]
  constructor
  · rintro ⟨⟨j, q, n⟩, hf, h⟩
    simp only [ofFlow, Bool.and_eq_true, beq_iff_eq, pkB_iff] at h
    obtain ⟨rfl, rfl⟩ := h
    exact ⟨n, hf⟩
  · rintro ⟨n, hf⟩
    exact ⟨_, hf, by simp [ofFlow, pkB_iff]⟩
theorem any_port {i k : Int} : FL.any (ofPort i k) = true ↔ ∃ p, (⟨i, p, k⟩ : Ft) ∈ FL := by
  rw [List.any_eq_true]
  constructor
  · rintro ⟨⟨j, q, n⟩, hf, h⟩
    simp only [ofPort, Bool.and_eq_true, beq_iff_eq] at h
    obtain ⟨rfl, rfl⟩ := h
    exact ⟨q, hf⟩
  · rintro ⟨p, hf⟩
    exact ⟨_, hf, by simp [ofPort]⟩
theorem find_flow {i : Int} {p : Pk} {f : Ft} (h : FL.find? (ofFlow i p) = some f) : ∃ n, f = ⟨i, p, n⟩ ∧ (⟨i, p, n⟩ : Ft) ∈ FL := by
  have h1 := List.find?_some h
  have h2 := List.mem_of_find?_eq_some h
  obtain ⟨j, q, n⟩ := f
  simp only [ofFlow, Bool.and_eq_true, beq_iff_eq, pkB_iff] at h1
  obtain ⟨rfl, rfl⟩ := h1
  exact ⟨n, rfl, h2⟩
theorem find_port {i k : Int} {f : Ft} (h : FL.find? (ofPort i k) = some f) : ∃ p, f = ⟨i, p, k⟩ ∧ (⟨i, p, k⟩ : Ft) ∈ FL := by
  have h1 := List.find?_some h
  have h2 := List.mem_of_find?_eq_some h
  obtain ⟨j, q, n⟩ := f
  simp only [ofPort, Bool.and_eq_true, beq_iff_eq] at h1
  obtain ⟨rfl, rfl⟩ := h1
  exact ⟨q, rfl, h2⟩
theorem find_no {is : Ft → Bool} (h : FL.find? is = none) : FL.any is = false := by
  rw [Bool.eq_false_iff]
  intro e
  rw [List.any_eq_true] at e
  obtain ⟨f, hf, e⟩ := e
  exact absurd e (by simpa using List.find?_eq_none.1 h f hf)
end
end Go.Proofs.YtgmjlkllghlmmaaGreat

namespace Go.Proofs.YtgmjlkllghlmmaaGreat
open Go.RowKit Go.Maps

section
variable {ds : List Dv} {FL : List Ft} {M : Mnd}
theorem mem_addF {f g : Ft} : g ∈ addF FL (some f) ↔ g ∈ FL ∨ g = f := by
  show g ∈ (if FL.any (fun g => ftB g f) then FL else FL ++ [f]) ↔ _
  split
  · rename_i h
    rw [List.any_eq_true] at h
    obtain ⟨x, hx, e⟩ := h
    rw [ftB_iff] at e
    subst e
    constructor
    · exact Or.inl
    · rintro (h | rfl)
      · exact h
      · exact hx
  · simp
theorem nodup_addF {f : Ft} (h : FL.Nodup) : (addF FL (some f)).Nodup := by
  show (if FL.any (fun g => ftB g f) then FL else FL ++ [f]).Nodup
  split
  · exact h
  · rename_i hn
    rw [List.nodup_append]
    refine ⟨h, by simp, fun a ha b hb e => ?_⟩
    rw [List.mem_singleton] at hb
    subst hb
    subst e
    exact hn (List.any_eq_true.2 ⟨a, ha, (ftB_iff _ _).2 rfl⟩)
theorem rel_flow (h : RelM ds FL M) {i : Int} {p : Pk} (hk : kindAt ds i = 3) : RelM ds (addF FL (some ⟨i, p, 0⟩)) (learnP M (.flow i p)) := by
  refine ⟨fun i' p' hk' => ?_, fun i' k s hk' => ?_, fun i' q b hk' => ?_, fun f hf hk' => ?_, fun f hf hk' => ?_, h.one, nodup_addF h.nd⟩
  · show (putF M.fl (i, p) () (i', p')).isSome = true ↔ _
    rw [mem_addF]
    by_cases e : (i', p') = (i, p)
    · rw [e, putF_same]
      obtain ⟨rfl, rfl⟩ := Prod.mk.inj e
      simp
    · rw [putF_other _ _ e, h.fl i' p' hk']
      constructor
      · exact Or.inl
      · rintro (h | h)
        · exact h
        · simp only [Ft.mk.injEq] at h
          exact absurd (by rw [h.1, h.2.1]) e
  · show M.ow (i', k) = some s ↔ _
    rw [mem_addF, h.ow i' k s hk']
    constructor
    · exact Or.inl
    · rintro (h | h)
      · exact h
      · simp only [Ft.mk.injEq] at h
        rw [h.1, hk] at hk'
        exact absurd hk' (by decide)
  · show M.bk (i', q) = some b ↔ _
    rw [mem_addF, h.bk i' q b hk']
    constructor
    · exact Or.inl
    · rintro (h | h)
      · exact h
      · simp only [Ft.mk.injEq] at h
        rw [h.1, hk] at hk'
        exact absurd hk' (by decide)
  · rcases mem_addF.1 hf with hf | rfl
    · exact h.k3 f hf hk'
    · rfl
  · rcases mem_addF.1 hf with hf | rfl
    · exact h.k4 f hf hk'
    · dsimp only at hk'
      rw [hk] at hk'
      exact absurd hk' (by decide)
theorem rel_own (h : RelM ds FL M) {i k : Int} {s : Int × Int} (hk : kindAt ds i = 4) (hp : poB k = true) (hf : M.ow (i, k) = none ∨ M.ow (i, k) = some s) (ho : ∀ k', M.ow (i, k') = some s → k' = k) : RelM ds (addF FL (some ⟨i, ⟨s.1, 0, s.2, 0⟩, k⟩)) (learnP M (.own i k s)) := by
  refine ⟨fun i' p' hk' => ?_, fun i' k' s' hk' => ?_, fun i' q b hk' => ?_, fun f hf' hk' => ?_, fun f hf' hk' => ?_, fun i' k1 k2 s' hk' h1 h2 => ?_, nodup_addF h.nd⟩
  · show (M.fl (i', p')).isSome = true ↔ _
    rw [mem_addF, h.fl i' p' hk']
    constructor
    · exact Or.inl
    · rintro (h | h)
      · exact h
      · simp only [Ft.mk.injEq] at h
        rw [h.1, hk] at hk'
        exact absurd hk' (by decide)
  · show putF M.ow (i, k) s (i', k') = some s' ↔ _
    rw [mem_addF]
    by_cases e : (i', k') = (i, k)
    · rw [e, putF_same]
      obtain ⟨rfl, rfl⟩ := Prod.mk.inj e
      constructor
      · intro e
        cases e
        exact Or.inr rfl
      · rintro (h' | h')
        · have h2 := (h.ow i' k' s' hk').2 h'
          rcases hf with hf | hf
          · rw [hf] at h2
            cases h2
          · rw [hf] at h2
            exact h2
        · simp only [Ft.mk.injEq, Pk.mk.injEq, true_and, and_true] at h'
          obtain ⟨a, b⟩ := s
          obtain ⟨a', b'⟩ := s'
          simp only at h'
          rw [h'.1, h'.2]
    · rw [putF_other _ _ e, h.ow i' k' s' hk']
      constructor
      · exact Or.inl
      · rintro (h | h)
        · exact h
        · simp only [Ft.mk.injEq] at h
          exact absurd (by rw [h.1, h.2.2]) e
  · show M.bk (i', q) = some b ↔ _
    rw [mem_addF, h.bk i' q b hk']
    constructor
    · exact Or.inl
    · rintro (h | h)
      · exact h
      · simp only [Ft.mk.injEq] at h
        rw [h.1, hk] at hk'
        exact absurd hk' (by decide)
  · rcases mem_addF.1 hf' with hf' | rfl
    · exact h.k3 f hf' hk'
    · dsimp only at hk'
      rw [hk] at hk'
      exact absurd hk' (by decide)
  · rcases mem_addF.1 hf' with hf' | rfl
    · exact h.k4 f hf' hk'
    · exact ⟨rfl, hp⟩
  · have h1' : putF M.ow (i, k) s (i', k1) = some s' := h1
    have h2' : putF M.ow (i, k) s (i', k2) = some s' := h2
    by_cases e1 : (i', k1) = (i, k)
    · by_cases e2 : (i', k2) = (i, k)
      · rw [(Prod.mk.inj e1).2, (Prod.mk.inj e2).2]
      · rw [e1, putF_same] at h1'
        cases h1'
        rw [putF_other _ _ e2, (Prod.mk.inj e1).1] at h2'
        rw [ho k2 h2', (Prod.mk.inj e1).2]
    · by_cases e2 : (i', k2) = (i, k)
      · rw [e2, putF_same] at h2'
        cases h2'
        rw [putF_other _ _ e1, (Prod.mk.inj e2).1] at h1'
        rw [ho k1 h1', (Prod.mk.inj e2).2]
      · rw [putF_other _ _ e1] at h1'
        rw [putF_other _ _ e2] at h2'
        exact h.one i' k1 k2 s' hk' h1' h2'
theorem rel_back (h : RelM ds FL M) {i : Int} {p : Pk} {b : Int} (hk : kindAt ds i = 5) (hf : M.bk (i, p) = none ∨ M.bk (i, p) = some b) : RelM ds (addF FL (some ⟨i, p, b⟩)) (learnP M (.back i p b)) := by
  refine ⟨fun i' p' hk' => ?_, fun i' k' s' hk' => ?_, fun i' q b' hk' => ?_, fun f hf' hk' => ?_, fun f hf' hk' => ?_, h.one, nodup_addF h.nd⟩
  · show (M.fl (i', p')).isSome = true ↔ _
    rw [mem_addF, h.fl i' p' hk']
    constructor
    · exact Or.inl
    · rintro (h | h)
      · exact h
      · simp only [Ft.mk.injEq] at h
        rw [h.1, hk] at hk'
        exact absurd hk' (by decide)
  · show M.ow (i', k') = some s' ↔ _
    rw [mem_addF, h.ow i' k' s' hk']
    constructor
    · exact Or.inl
    · rintro (h | h)
      · exact h
      · simp only [Ft.mk.injEq] at h
        rw [h.1, hk] at hk'
        exact absurd hk' (by decide)
  · show putF M.bk (i, p) b (i', q) = some b' ↔ _
    rw [mem_addF]
    by_cases e : (i', q) = (i, p)
    · rw [e, putF_same]
      obtain ⟨rfl, rfl⟩ := Prod.mk.inj e
      constructor
      · intro e
        cases e
        exact Or.inr rfl
      · rintro (h' | h')
        · have h2 := (h.bk i' q b' hk').2 h'
          rcases hf with hf | hf
          · rw [hf] at h2
            cases h2
          · rw [hf] at h2
            exact h2
        · simp only [Ft.mk.injEq, true_and] at h'
          rw [h']
    · rw [putF_other _ _ e, h.bk i' q b' hk']
      constructor
      · exact Or.inl
      · rintro (h | h)
        · exact h
        · simp only [Ft.mk.injEq] at h
          exact absurd (by rw [h.1, h.2.1]) e
  · rcases mem_addF.1 hf' with hf' | rfl
    · exact h.k3 f hf' hk'
    · dsimp only at hk'
      rw [hk] at hk'
      exact absurd hk' (by decide)
  · rcases mem_addF.1 hf' with hf' | rfl
    · exact h.k4 f hf' hk'
    · dsimp only at hk'
      rw [hk] at hk'
      exact absurd hk' (by decide)
/-- Who has a port is found from the first port on. -/
theorem ownFrom_of (h : RelM ds FL M) {i : Int} {s : Int × Int} {k : Int} (hk : kindAt ds i = 4) (hs : M.ow (i, k) = some s) : ∃ j : Nat, ownFrom M i s 0 = some j ∧ (j : Int) = k := by
  have hf := (h.ow i k s hk).1 hs
  have hp := (h.k4 _ hf hk).2
  unfold poB at hp
  simp only [Bool.and_eq_true, decide_eq_true_eq] at hp
  obtain ⟨kk, rfl⟩ : ∃ kk : Nat, k = (kk : Int) := ⟨k.toNat, by omega⟩
  have key : ∀ m j : Nat, kk - j ≤ m → j ≤ kk → ∃ j' : Nat, ownFrom M i s j = some j' ∧ (j' : Int) = kk := by
    intro m
    induction m with
    | zero =>
      intro j h1 h2
      obtain rfl : j = kk := by omega
      rw [ownFrom, dif_pos (by omega), if_pos hs]
      exact ⟨_, rfl, rfl⟩
    | succ m ih =>
      intro j h1 h2
      rw [ownFrom, dif_pos (by omega)]
      by_cases hj : M.ow (i, (j : Int)) = some s
      · rw [if_pos hj]
        exact ⟨j, rfl, h.one i _ _ s hk hj hs⟩
      · rw [if_neg hj]
        by_cases e : j = kk
        · subst e
          exact absurd hs hj
        · exact ih (j + 1) (by omega) (by omega)
  exact key kk 0 (by omega) (by omega)
theorem ownFrom_has {i : Int} {s : Int × Int} {j : Nat} : ∀ (m k : Nat), 8 - k ≤ m → ownFrom M i s k = some j → M.ow (i, (j : Int)) = some s ∧ j < 8
  | 0, k, h, e => by
    rw [ownFrom, dif_neg (by omega)] at e
    cases e
  | m + 1, k, h, e => by
    rw [ownFrom] at e
    by_cases hk : k < 8
    · rw [dif_pos hk] at e
      by_cases ho : M.ow (i, (k : Int)) = some s
      · rw [if_pos ho] at e
        obtain rfl := Option.some.inj e
        exact ⟨ho, hk⟩
      · rw [if_neg ho] at e
        exact ownFrom_has m (k + 1) (by omega) e
    · rw [dif_neg hk] at e
      cases e
end
end Go.Proofs.YtgmjlkllghlmmaaGreat

namespace Go.Proofs.YtgmjlkllghlmmaaGreat
open Go.RowKit Go.Maps

section
variable {ds : List Dv} {FL : List Ft} {M : Mnd}
/-- What a device says, and the mind of it. -/
def SRel (ds : List Dv) (FL : List Ft) (M : Mnd) (s : SR) (m : MR) : Prop :=
  (s.err = 0 ∧ m.err = 0 ∧ m.out = true ∧ m.port = s.port ∧ m.p = s.p ∧ RelM ds (addF FL m.k) (learnP M s.l)) ∨ (s.err ≠ 0 ∧ m.err = s.err) ∨ (s.err = 7 ∧ m.err = 0 ∧ m.out = false)
theorem stay_no {m : MR} (h1 : m.err = 0) (h2 : m.out = false) : SRel ds FL M (stayR 7) m := Or.inr (Or.inr ⟨rfl, h1, h2⟩)
theorem send_rel (h : RelM ds FL M) {d : Dv} {i q : Int} {p : Pk} {c : Int} (hd : kindAt ds i = d.kind) : SRel ds FL M (sendP d M i q p c) (mSend d FL i q p c) := by
  unfold sendP mSend
  by_cases k2 : d.kind = 2
  · rw [if_pos k2, if_pos k2]
    unfold routeP
    cases ho : (outB (routesOf d) p.d && letsB (rulesOf d) p.s p.d p.sp p.dp)
    · rw [if_neg (by simp)]
      exact stay_no rfl rfl
    · rw [if_pos rfl]
      exact Or.inl ⟨rfl, rfl, rfl, rfl, rfl, h⟩
  rw [if_neg k2, if_neg k2]
  by_cases k3 : d.kind = 3
  · rw [if_pos k3, if_pos k3]
    by_cases hq : q = 0
    · rw [if_pos hq, if_pos hq]
      unfold askP
      cases ho : letsB (rulesOf d) p.s p.d p.sp p.dp
      · rw [if_neg (by simp)]
        exact stay_no rfl rfl
      · rw [if_pos rfl]
        exact Or.inl ⟨rfl, rfl, rfl, rfl, rfl, rel_flow h (by rw [hd, k3])⟩
    · rw [if_neg hq, if_neg hq]
      unfold answerP
      have e : (M.fl (i, flipP p)).isSome = FL.any (ofFlow i (flipP p)) := by
        rw [Bool.eq_iff_iff, h.fl i (flipP p) (by rw [hd, k3]), any_flow]
        constructor
        · exact fun hf => ⟨0, hf⟩
        · rintro ⟨n, hf⟩
          have := h.k3 _ hf (by rw [hd, k3])
          dsimp only at this
          rw [this] at hf
          exact hf
      rw [e]
      cases ha : FL.any (ofFlow i (flipP p))
      · rw [if_neg (by simp)]
        exact stay_no rfl rfl
      · rw [if_pos rfl]
        exact Or.inl ⟨rfl, rfl, rfl, rfl, rfl, h⟩
  rw [if_neg k3, if_neg k3]
  by_cases k4 : d.kind = 4
  · have hk : kindAt ds i = 4 := by rw [hd, k4]
    rw [if_pos k4, if_pos k4]
    by_cases hq : q = 0
    · rw [if_pos hq, if_pos hq]
      unfold hideP
      cases hf : FL.find? (ofFlow i ⟨p.s, 0, p.sp, 0⟩) with
      | some f =>
        obtain ⟨n, rfl, hm⟩ := find_flow hf
        have hs := (h.ow i n (p.s, p.sp) hk).2 hm
        obtain ⟨j, hj, rfl⟩ := ownFrom_of h hk hs
        rw [hj]
        exact Or.inl ⟨rfl, rfl, rfl, rfl, rfl, rel_own h hk (h.k4 _ hm hk).2 (Or.inr hs) (fun k' hk' => h.one i _ _ _ hk hk' hs)⟩
      | none =>
        have hno : ∀ k', M.ow (i, k') ≠ some (p.s, p.sp) := fun k' e => by
          have hm := (h.ow i k' (p.s, p.sp) hk).1 e
          have := List.find?_eq_none.1 hf _ hm
          exact this (by simp [ofFlow, pkB_iff])
        cases ho : ownFrom M i (p.s, p.sp) 0 with
        | some j => exact absurd (ownFrom_has 8 0 (by omega) ho).1 (hno _)
        | none =>
          dsimp only
          cases hpo : poolB d c
          · rw [if_neg (by simp), if_neg (by simp)]
            exact Or.inr (Or.inl ⟨(by decide : (1 : Int) ≠ 0), rfl⟩)
          · rw [if_pos rfl, if_pos rfl]
            have hpc : poB c = true := by
              unfold poolB at hpo
              simp only [Bool.and_eq_true] at hpo
              exact hpo.1
            have e : (M.ow (i, c)).isSome = FL.any (ofPort i c) := by
              rw [Bool.eq_iff_iff, any_port]
              constructor
              · intro hs
                obtain ⟨s, hs⟩ := Option.isSome_iff_exists.1 hs
                exact ⟨_, (h.ow i c s hk).1 hs⟩
              · rintro ⟨p', hm⟩
                have h4 := (h.k4 _ hm hk).1
                dsimp only at h4
                rw [h4] at hm
                rw [(h.ow i c (p'.s, p'.sp) hk).2 hm]
                rfl
            rw [e]
            cases ha : FL.any (ofPort i c)
            · rw [if_neg (by simp), if_neg (by simp)]
              rw [ha] at e
              refine Or.inl ⟨rfl, rfl, rfl, rfl, rfl, rel_own h hk hpc (Or.inl (Option.isNone_iff_eq_none.1 (by rw [← Option.not_isSome, e]; rfl))) (fun k' hk' => absurd hk' (hno k'))⟩
            · rw [if_pos rfl, if_pos rfl]
              exact Or.inr (Or.inl ⟨(by decide : (6 : Int) ≠ 0), rfl⟩)
    · rw [if_neg hq, if_neg hq]
      unfold unhideP
      cases hf : FL.find? (ofPort i p.dp) with
      | some f =>
        obtain ⟨p', rfl, hm⟩ := find_port hf
        have h4 := (h.k4 _ hm hk).1
        dsimp only at h4
        have hm' := hm
        rw [h4] at hm'
        rw [(h.ow i p.dp (p'.s, p'.sp) hk).2 hm']
        dsimp only
        cases ha : (p.d == d.addr)
        · rw [if_neg (by simp), if_neg (by simp)]
          exact stay_no rfl rfl
        · rw [if_pos rfl, if_pos rfl]
          exact Or.inl ⟨rfl, rfl, rfl, rfl, rfl, h⟩
      | none =>
        cases ho : M.ow (i, p.dp) with
        | some s =>
          have hm := (h.ow i p.dp s hk).1 ho
          exact absurd (by simp [ofPort]) (List.find?_eq_none.1 hf _ hm)
        | none => exact stay_no rfl rfl
  rw [if_neg k4, if_neg k4]
  by_cases k5 : d.kind = 5
  · have hk : kindAt ds i = 5 := by rw [hd, k5]
    rw [if_pos k5, if_pos k5]
    by_cases hq : q = 0
    · rw [if_pos hq, if_pos hq]
      unfold spreadP
      cases ha : (p.d == d.addr)
      · rw [if_neg (by simp), if_neg (by simp)]
        exact Or.inl ⟨rfl, rfl, rfl, rfl, rfl, h⟩
      · rw [if_pos rfl, if_pos rfl]
        cases hf : FL.find? (ofFlow i p) with
        | some f =>
          obtain ⟨n, rfl, hm⟩ := find_flow hf
          have hs := (h.bk i p n hk).2 hm
          rw [hs]
          exact Or.inl ⟨rfl, rfl, rfl, rfl, rfl, rel_back h hk (Or.inr hs)⟩
        | none =>
          cases ho : M.bk (i, p) with
          | some b =>
            have hm := (h.bk i p b hk).1 ho
            exact absurd (by simp [ofFlow, pkB_iff]) (List.find?_eq_none.1 hf _ hm)
          | none =>
            dsimp only
            cases hc : (decide (0 ≤ c) && decide (c < (d.backs.length : Int)))
            · rw [if_neg (by simp), if_neg (by simp)]
              exact Or.inr (Or.inl ⟨(by decide : (1 : Int) ≠ 0), rfl⟩)
            · rw [if_pos rfl, if_pos rfl]
              exact Or.inl ⟨rfl, rfl, rfl, rfl, rfl, rel_back h hk (Or.inl ho)⟩
    · rw [if_neg hq, if_neg hq]
      unfold gatherP
      refine Or.inl ⟨rfl, rfl, rfl, rfl, ?_, h⟩
      show (if _ then _ else _) = (if _ then _ else _)
      have e : (FL.any (fun f => ftB f ⟨i, ⟨p.d, d.addr, p.dp, p.sp⟩, p.s⟩) = true) ↔ M.bk (i, ⟨p.d, d.addr, p.dp, p.sp⟩) = some p.s := by
        rw [h.bk i _ _ hk, List.any_eq_true]
        constructor
        · rintro ⟨f, hf, e⟩
          rw [ftB_iff] at e
          rw [← e]
          exact hf
        · exact fun hf => ⟨_, hf, (ftB_iff _ _).2 rfl⟩
      by_cases hb : M.bk (i, ⟨p.d, d.addr, p.dp, p.sp⟩) = some p.s
      · rw [if_pos hb, if_pos (e.2 hb)]
      · rw [if_neg hb, if_neg (fun x => hb (e.1 x))]
  rw [if_neg k5, if_neg k5]
  exact stay_no rfl rfl
/-- The mind's Handle tells what the memory's does. -/
theorem mind_rel (h : RelM ds FL M) {ls : List Lk} (i q : Int) (p : Pk) (c : Int) : (mindP ds ls FL i q p c).err = (handleP ds ls M i q p c).err ∧ (mindP ds ls FL i q p c).tp = (handleP ds ls M i q p c).tp ∧ (mindP ds ls FL i q p c).p = (handleP ds ls M i q p c).p ∧ RelM ds (mindP ds ls FL i q p c).FL (handleP ds ls M i q p c).M := by
  unfold mindP handleP
  cases hpl : isPl ds i q
  · rw [if_neg (by simp), if_neg (by simp)]
    exact ⟨rfl, rfl, rfl, h⟩
  rw [if_pos rfl, if_pos rfl]
  cases hp : pkOk p
  · rw [if_neg (by simp), if_neg (by simp)]
    exact ⟨rfl, rfl, rfl, h⟩
  rw [if_pos rfl, if_pos rfl]
  have hi : i.toNat < ds.length := by
    unfold isPl at hpl
    simp only [Bool.and_eq_true, decide_eq_true_eq] at hpl
    omega
  have hd : kindAt ds i = (ds.getD i.toNat default).kind := by
    unfold kindAt
    rw [List.getD_eq_getElem?_getD, List.getElem?_eq_getElem hi]
    rfl
  rcases send_rel h hd (q := q) (p := p) (c := c) with ⟨e1, e2, e3, e4, e5, e6⟩ | ⟨e1, e2⟩ | ⟨e1, e2, e3⟩
  · rw [if_pos e2, if_pos e3, if_pos e1, e4, e5]
    cases peerF ls i (sendP (ds.getD i.toNat default) M i q p c).port with
    | some t => exact ⟨rfl, rfl, rfl, e6⟩
    | none => exact ⟨rfl, rfl, rfl, h⟩
  · rw [if_neg (by rw [e2]; exact e1), if_neg e1, e2]
    exact ⟨rfl, rfl, rfl, h⟩
  · rw [if_pos e2, e3, if_neg (by simp), if_neg (by rw [e1]; decide), e1]
    exact ⟨rfl, rfl, rfl, h⟩
end
end Go.Proofs.YtgmjlkllghlmmaaGreat

namespace Go.Proofs.YtgmjlkllghlmmaaGreat
open Go.RowKit Go.Maps

section
variable {ds : List Dv} {FL : List Ft} {M : Mnd}
theorem mem_erase_one {is : Ft → Bool} {f : Ft} : ∀ {FL : List Ft}, FL.Nodup → f ∈ FL → is f = true → (∀ g ∈ FL, is g = true → g = f) → ∀ g, g ∈ FL.eraseP is ↔ g ∈ FL ∧ g ≠ f
  | [], _, hf, _, _, g => by simp at hf
  | x :: xs, hn, hf, hi, hu, g => by
    rw [List.nodup_cons] at hn
    by_cases hx : is x = true
    · have e := hu x (by simp) hx
      subst e
      rw [List.eraseP_cons_of_pos hx]
      constructor
      · intro hg
        exact ⟨by simp [hg], fun e => hn.1 (e ▸ hg)⟩
      · rintro ⟨hg, hne⟩
        rcases List.mem_cons.1 hg with h | h
        · exact absurd h hne
        · exact h
    · rw [List.eraseP_cons_of_neg (by simpa using hx)]
      have hf' : f ∈ xs := by
        rcases List.mem_cons.1 hf with h | h
        · subst h
          exact absurd hi hx
        · exact h
      have ih := mem_erase_one hn.2 hf' hi (fun g hg => hu g (by simp [hg])) g
      rw [List.mem_cons, ih]
      constructor
      · rintro (rfl | ⟨h1, h2⟩)
        · exact ⟨by simp, fun e => hx (e ▸ hi)⟩
        · exact ⟨by simp [h1], h2⟩
      · rintro ⟨h1, h2⟩
        rcases List.mem_cons.1 h1 with h | h
        · exact Or.inl h
        · exact Or.inr ⟨h, h2⟩
theorem nodup_erase {is : Ft → Bool} (h : FL.Nodup) : (FL.eraseP is).Nodup := List.Nodup.sublist List.eraseP_sublist h
/-- Which fact is to be forgotten. -/
def ofGone (kind i : Int) (p : Pk) (port : Int) (f : Ft) : Bool := (f.i == i) && (((kind == 4) && (f.n == port)) || (!(kind == 4) && pkB f.p p))
structure MF where
  err : Int
  FL : List Ft
def mgoneP (ds : List Dv) (FL : List Ft) (i : Int) (p : Pk) (port : Int) : MF :=
  if 0 ≤ i ∧ i < (ds.length : Int) then
    (if 3 ≤ kindAt ds i ∧ kindAt ds i ≤ 5 then
      (if FL.any (ofGone (kindAt ds i) i p port) then ⟨0, FL.eraseP (ofGone (kindAt ds i) i p port)⟩ else ⟨7, FL⟩)
    else ⟨4, FL⟩)
  else ⟨4, FL⟩
theorem gone_one {is : Ft → Bool} {f : Ft} (h : f ∈ FL) (hi : is f = true) : FL.any is = true := List.any_eq_true.2 ⟨f, h, hi⟩
theorem gone_no {is : Ft → Bool} (h : ∀ f ∈ FL, is f = true → False) : FL.any is = false := by
  rw [Bool.eq_false_iff]
  intro e
  obtain ⟨f, hf, hi⟩ := List.any_eq_true.1 e
  exact h f hf hi
theorem gone_rel (h : RelM ds FL M) (i : Int) (p : Pk) (port : Int) : (mgoneP ds FL i p port).err = (forgetP ds M i p port).err ∧ RelM ds (mgoneP ds FL i p port).FL (forgetP ds M i p port).M := by
  unfold mgoneP forgetP
  by_cases hi : 0 ≤ i ∧ i < (ds.length : Int)
  rotate_left
  · rw [if_neg hi, if_neg hi]
    exact ⟨rfl, h⟩
  rw [if_pos hi, if_pos hi]
  by_cases k3 : kindAt ds i = 3
  · rw [if_pos (show 3 ≤ kindAt ds i ∧ kindAt ds i ≤ 5 by omega), if_pos k3]
    have his : ∀ f : Ft, f ∈ FL → (ofGone (kindAt ds i) i p port f = true ↔ f = ⟨i, p, 0⟩) := fun f hf => by
      unfold ofGone
      rw [k3]
      constructor
      · intro e
        simp only [Bool.and_eq_true, Bool.or_eq_true, beq_iff_eq, pkB_iff] at e
        obtain ⟨e1, e2⟩ := e
        have e3 : f.p = p := by
          rcases e2 with e2 | e2
          · exact absurd e2.1 (by decide)
          · exact e2.2
        have hn := h.k3 f hf (by rw [e1, k3])
        obtain ⟨a, b, c⟩ := f
        dsimp only at e1 e3 hn
        rw [e1, e3, hn]
      · rintro rfl
        simp [pkB_iff]
    by_cases hs : (M.fl (i, p)).isSome = true
    · have hm := (h.fl i p k3).1 hs
      rw [if_pos hs, if_pos (gone_one hm ((his _ hm).2 rfl))]
      refine ⟨rfl, ?_⟩
      have me := mem_erase_one h.nd hm ((his _ hm).2 rfl) (fun g hg e => (his g hg).1 e)
      refine ⟨fun i' p' hk' => ?_, fun i' k s hk' => ?_, fun i' q b hk' => ?_, fun f hf hk' => h.k3 f ((me f).1 hf).1 hk', fun f hf hk' => h.k4 f ((me f).1 hf).1 hk', h.one, nodup_erase h.nd⟩
      · show (delF M.fl (i, p) (i', p')).isSome = true ↔ _
        dsimp only
        rw [me]
        by_cases e : (i', p') = (i, p)
        · rw [e, delF_same]
          obtain ⟨rfl, rfl⟩ := Prod.mk.inj e
          simp
        · rw [delF_other _ e, h.fl i' p' hk']
          constructor
          · exact fun hf => ⟨hf, fun e' => e (by simp only [Ft.mk.injEq] at e'; rw [e'.1, e'.2.1])⟩
          · exact fun hf => hf.1
      · show M.ow (i', k) = some s ↔ _
        dsimp only
        rw [me, h.ow i' k s hk']
        constructor
        · exact fun hf => ⟨hf, fun e' => by simp only [Ft.mk.injEq] at e'; rw [e'.1, k3] at hk'; exact absurd hk' (by decide)⟩
        · exact fun hf => hf.1
      · show M.bk (i', q) = some b ↔ _
        dsimp only
        rw [me, h.bk i' q b hk']
        constructor
        · exact fun hf => ⟨hf, fun e' => by simp only [Ft.mk.injEq] at e'; rw [e'.1, k3] at hk'; exact absurd hk' (by decide)⟩
        · exact fun hf => hf.1
    · rw [if_neg hs, if_neg (by rw [gone_no (fun f hf e => hs ((h.fl i p k3).2 (by rw [← (his f hf).1 e]; exact hf)))]; simp)]
      exact ⟨rfl, h⟩
  rw [if_neg k3]
  by_cases k4 : kindAt ds i = 4
  · rw [if_pos (show 3 ≤ kindAt ds i ∧ kindAt ds i ≤ 5 by omega), if_pos k4]
    have his : ∀ f : Ft, (ofGone (kindAt ds i) i p port f = true ↔ f.i = i ∧ f.n = port) := fun f => by
      unfold ofGone
      rw [k4]
      simp
    cases ho : M.ow (i, port) with
    | some s =>
      have hm := (h.ow i port s k4).1 ho
      rw [if_pos (show (some s).isSome = true from rfl), if_pos (gone_one hm ((his _).2 ⟨rfl, rfl⟩))]
      refine ⟨rfl, ?_⟩
      have hun : ∀ g ∈ FL, ofGone (kindAt ds i) i p port g = true → g = ⟨i, ⟨s.1, 0, s.2, 0⟩, port⟩ := fun g hg e => by
        obtain ⟨e1, e2⟩ := (his g).1 e
        have h4 := (h.k4 g hg (by rw [e1, k4])).1
        obtain ⟨a, b, c⟩ := g
        dsimp only at e1 e2 h4
        subst e1 e2
        have hg' := hg
        rw [h4] at hg'
        have := (h.ow a c (b.s, b.sp) k4).2 hg'
        rw [ho] at this
        rw [h4, Option.some.inj this]
      have me := mem_erase_one h.nd hm ((his _).2 ⟨rfl, rfl⟩) hun
      refine ⟨fun i' p' hk' => ?_, fun i' k' s' hk' => ?_, fun i' q b hk' => ?_, fun f hf hk' => h.k3 f ((me f).1 hf).1 hk', fun f hf hk' => h.k4 f ((me f).1 hf).1 hk', fun i' k1 k2 s' hk' h1 h2 => ?_, nodup_erase h.nd⟩
      · show (M.fl (i', p')).isSome = true ↔ _
        dsimp only
        rw [me, h.fl i' p' hk']
        constructor
        · exact fun hf => ⟨hf, fun e' => by simp only [Ft.mk.injEq] at e'; rw [e'.1, k4] at hk'; exact absurd hk' (by decide)⟩
        · exact fun hf => hf.1
      · show delF M.ow (i, port) (i', k') = some s' ↔ _
        dsimp only
        rw [me]
        by_cases e : (i', k') = (i, port)
        · rw [e, delF_same]
          obtain ⟨rfl, rfl⟩ := Prod.mk.inj e
          constructor
          · intro e; cases e
          · rintro ⟨hf, hne⟩
            have := (h.ow i' k' s' hk').2 hf
            rw [ho] at this
            cases this
            exact absurd rfl hne
        · rw [delF_other _ e, h.ow i' k' s' hk']
          constructor
          · exact fun hf => ⟨hf, fun e' => e (by simp only [Ft.mk.injEq] at e'; rw [e'.1, e'.2.2])⟩
          · exact fun hf => hf.1
      · show M.bk (i', q) = some b ↔ _
        dsimp only
        rw [me, h.bk i' q b hk']
        constructor
        · exact fun hf => ⟨hf, fun e' => by simp only [Ft.mk.injEq] at e'; rw [e'.1, k4] at hk'; exact absurd hk' (by decide)⟩
        · exact fun hf => hf.1
      · have h1' : delF M.ow (i, port) (i', k1) = some s' := h1
        have h2' : delF M.ow (i, port) (i', k2) = some s' := h2
        by_cases e1 : (i', k1) = (i, port)
        · rw [e1, delF_same] at h1'
          cases h1'
        · by_cases e2 : (i', k2) = (i, port)
          · rw [e2, delF_same] at h2'
            cases h2'
          · rw [delF_other _ e1] at h1'
            rw [delF_other _ e2] at h2'
            exact h.one i' k1 k2 s' hk' h1' h2'
    | none =>
      rw [if_neg (show ¬ (none : Option (Int × Int)).isSome = true by simp), if_neg (by
        rw [gone_no (fun f hf e => by
          obtain ⟨e1, e2⟩ := (his f).1 e
          have h4 := (h.k4 f hf (by rw [e1, k4])).1
          obtain ⟨a, b, c⟩ := f
          dsimp only at e1 e2 h4
          subst e1 e2
          rw [h4] at hf
          have := (h.ow a c (b.s, b.sp) k4).2 hf
          rw [ho] at this
          cases this)]
        simp)]
      exact ⟨rfl, h⟩
  rw [if_neg k4]
  by_cases k5 : kindAt ds i = 5
  · rw [if_pos (show 3 ≤ kindAt ds i ∧ kindAt ds i ≤ 5 by omega), if_pos k5]
    have his : ∀ f : Ft, (ofGone (kindAt ds i) i p port f = true ↔ f.i = i ∧ f.p = p) := fun f => by
      unfold ofGone
      rw [k5]
      simp [pkB_iff]
    cases ho : M.bk (i, p) with
    | some b0 =>
      have hm := (h.bk i p b0 k5).1 ho
      rw [if_pos (show (some b0).isSome = true from rfl), if_pos (gone_one hm ((his _).2 ⟨rfl, rfl⟩))]
      refine ⟨rfl, ?_⟩
      have hun : ∀ g ∈ FL, ofGone (kindAt ds i) i p port g = true → g = ⟨i, p, b0⟩ := fun g hg e => by
        obtain ⟨e1, e2⟩ := (his g).1 e
        obtain ⟨a, b, c⟩ := g
        dsimp only at e1 e2
        subst e1 e2
        have := (h.bk a b c k5).2 hg
        rw [ho] at this
        rw [Option.some.inj this]
      have me := mem_erase_one h.nd hm ((his _).2 ⟨rfl, rfl⟩) hun
      refine ⟨fun i' p' hk' => ?_, fun i' k' s' hk' => ?_, fun i' q b hk' => ?_, fun f hf hk' => h.k3 f ((me f).1 hf).1 hk', fun f hf hk' => h.k4 f ((me f).1 hf).1 hk', h.one, nodup_erase h.nd⟩
      · show (M.fl (i', p')).isSome = true ↔ _
        dsimp only
        rw [me, h.fl i' p' hk']
        constructor
        · exact fun hf => ⟨hf, fun e' => by simp only [Ft.mk.injEq] at e'; rw [e'.1, k5] at hk'; exact absurd hk' (by decide)⟩
        · exact fun hf => hf.1
      · show M.ow (i', k') = some s' ↔ _
        dsimp only
        rw [me, h.ow i' k' s' hk']
        constructor
        · exact fun hf => ⟨hf, fun e' => by simp only [Ft.mk.injEq] at e'; rw [e'.1, k5] at hk'; exact absurd hk' (by decide)⟩
        · exact fun hf => hf.1
      · show delF M.bk (i, p) (i', q) = some b ↔ _
        dsimp only
        rw [me]
        by_cases e : (i', q) = (i, p)
        · rw [e, delF_same]
          obtain ⟨rfl, rfl⟩ := Prod.mk.inj e
          constructor
          · intro e; cases e
          · rintro ⟨hf, hne⟩
            have := (h.bk i' q b hk').2 hf
            rw [ho] at this
            cases this
            exact absurd rfl hne
        · rw [delF_other _ e, h.bk i' q b hk']
          constructor
          · exact fun hf => ⟨hf, fun e' => e (by simp only [Ft.mk.injEq] at e'; rw [e'.1, e'.2.1])⟩
          · exact fun hf => hf.1
    | none =>
      rw [if_neg (show ¬ (none : Option Int).isSome = true by simp), if_neg (by
        rw [gone_no (fun f hf e => by
          obtain ⟨e1, e2⟩ := (his f).1 e
          obtain ⟨a, b, c⟩ := f
          dsimp only at e1 e2
          subst e1 e2
          have := (h.bk a b c k5).2 hf
          rw [ho] at this
          cases this)]
        simp)]
      exact ⟨rfl, h⟩
  rw [if_neg k5, if_neg (show ¬ (3 ≤ kindAt ds i ∧ kindAt ds i ≤ 5) by omega)]
  exact ⟨rfl, h⟩
end
end Go.Proofs.YtgmjlkllghlmmaaGreat
