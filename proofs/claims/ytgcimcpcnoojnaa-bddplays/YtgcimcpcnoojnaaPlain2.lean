/-
  What the builder's functions are, without the program.
-/
import Derived.Test.YtgcimcpcnoojnaaWalk1
namespace Go.Proofs.Ytgcimcpcnoojnaa

variable {vars : Nat} {ns ns' : List Nd}

theorem partOf_lt (h : Wf vars ns) {f v : Nat} (hf : f < ns.length) (hv : v < vars) (val : Bool) : partOf ns f v val < ns.length := by
  unfold partOf
  by_cases e : nv ns f = v
  · have f2 := va_lt h hf (by omega)
    have l1 := h.lo f f2 hf
    have l2 := h.hi f f2 hf
    rw [if_pos e]
    cases val
    · simp only [Bool.false_eq_true, if_false]; exact Nat.lt_trans l1 hf
    · simp only [if_true]; exact Nat.lt_trans l2 hf
  · rw [if_neg e]; exact hf
theorem partOf_va (h : Wf vars ns) {f v : Nat} (hf : f < ns.length) (hv : v < vars) (hle : v ≤ nv ns f) (val : Bool) : v < nv ns (partOf ns f v val) := by
  unfold partOf
  by_cases e : nv ns f = v
  · have f2 := va_lt h hf (by omega)
    have l1 := h.vlo f f2 hf
    have l2 := h.vhi f f2 hf
    rw [if_pos e]
    cases val
    · simp only [Bool.false_eq_true, if_false]; exact e ▸ l1
    · simp only [if_true]; exact e ▸ l2
  · rw [if_neg e]; exact Nat.lt_of_le_of_ne hle (fun x => e x.symm)
theorem partOf_ev (h : Wf vars ns) {f v : Nat} (hf : f < ns.length) (hv : v < vars) (hle : v ≤ nv ns f) (val : Bool) (e : Env) : ev ns (partOf ns f v val) e = ev ns f (setE e v val) := by
  unfold partOf
  by_cases he : nv ns f = v
  · have f2 := va_lt h hf (by omega)
    rw [if_pos he, ← he, ev_set h f2 hf]
    cases val <;> simp
  · rw [if_neg he, ev_skip h hf (Nat.lt_of_le_of_ne hle (fun x => he x.symm))]
theorem partOf_ext (X : Ext ns ns') {f : Nat} (hf : f < ns.length) (v : Nat) (val : Bool) : partOf ns' f v val = partOf ns f v val := by
  unfold partOf
  rw [nv, nh, nl, X.nd hf]
theorem setE_at {e : Env} {v : Nat} {b : Bool} (h : e v = b) : setE e v b = e := by rw [← h]; exact setE_self e v

def pc (ns : List Nd) (c : Nd) (v : Nat) (val : Bool) : Nd := (partOf ns c.1 v val, partOf ns c.2.1 v val, partOf ns c.2.2 v val)
def Inside (ns : List Nd) (c : Nd) : Prop := c.1 < ns.length ∧ c.2.1 < ns.length ∧ c.2.2 < ns.length
def min3 (ns : List Nd) (c : Nd) : Nat := min (min (nv ns c.1) (nv ns c.2.1)) (nv ns c.2.2)
theorem Inside.ext {c : Nd} (h : Inside ns c) (X : Ext ns ns') : Inside ns' c := by
  have := X.len
  obtain ⟨h1, h2, h3⟩ := h
  exact ⟨by omega, by omega, by omega⟩
theorem min3_ext {c : Nd} (h : Inside ns c) (X : Ext ns ns') : min3 ns' c = min3 ns c := by
  obtain ⟨h1, h2, h3⟩ := h
  unfold min3
  rw [X.va h1, X.va h2, X.va h3]
theorem pc_ext {c : Nd} (h : Inside ns c) (X : Ext ns ns') (v : Nat) (val : Bool) : pc ns' c v val = pc ns c v val := by
  obtain ⟨h1, h2, h3⟩ := h
  unfold pc
  rw [partOf_ext X h1, partOf_ext X h2, partOf_ext X h3]
theorem pc_inside (h : Wf vars ns) {c : Nd} (hc : Inside ns c) {v : Nat} (hv : v < vars) (val : Bool) : Inside ns (pc ns c v val) := ⟨partOf_lt h hc.1 hv val, partOf_lt h hc.2.1 hv val, partOf_lt h hc.2.2 hv val⟩
theorem pc_min3 (h : Wf vars ns) {c : Nd} (hc : Inside ns c) (hv : min3 ns c < vars) (val : Bool) : min3 ns c < min3 ns (pc ns c (min3 ns c) val) := by
  have a1 := partOf_va h hc.1 hv (by unfold min3; omega) val
  have a2 := partOf_va h hc.2.1 hv (by unfold min3; omega) val
  have a3 := partOf_va h hc.2.2 hv (by unfold min3; omega) val
  show _ < min (min (nv ns (partOf ns c.1 _ val)) (nv ns (partOf ns c.2.1 _ val))) (nv ns (partOf ns c.2.2 _ val))
  omega

/-- f is yes where when is true, no where it is false. -/
structure IsIte (ns : List Nd) (c : Nd) (f : Nat) : Prop where
  inside : Inside ns c
  lt : f < ns.length
  ev : ∀ e, ev ns f e = if ev ns c.1 e then ev ns c.2.1 e else ev ns c.2.2 e
  va : min3 ns c ≤ nv ns f
theorem IsIte.ext {c : Nd} {f : Nat} (h : IsIte ns c f) (X : Ext ns ns') (wf : Wf vars ns) (wf' : Wf vars ns') : IsIte ns' c f := by
  have hl := X.len
  have lt := h.lt
  refine ⟨h.inside.ext X, by omega, fun e => ?_, ?_⟩
  · rw [X.ev wf wf' _ h.lt, X.ev wf wf' _ h.inside.1, X.ev wf wf' _ h.inside.2.1, X.ev wf wf' _ h.inside.2.2]; exact h.ev e
  · rw [min3_ext h.inside X, X.va h.lt]; exact h.va
theorem isIte_same {c : Nd} (hc : Inside ns c) (he : c.2.1 = c.2.2) : IsIte ns c c.2.1 := ⟨hc, hc.2.1, fun e => by rw [← he]; simp, by unfold min3; omega⟩
theorem isIte_1 {c : Nd} (hc : Inside ns c) (he : c.1 = 1) : IsIte ns c c.2.1 := ⟨hc, hc.2.1, fun e => by rw [he, ev1]; simp, by unfold min3; omega⟩
theorem isIte_0 {c : Nd} (hc : Inside ns c) (he : c.1 = 0) : IsIte ns c c.2.2 := ⟨hc, hc.2.2, fun e => by rw [he, ev0]; simp, by unfold min3; omega⟩
theorem isIte_join (wf : Wf vars ns) {c : Nd} (hc : Inside ns c) (hv : min3 ns c < vars) {l u f : Nat} (h0 : IsIte ns (pc ns c (min3 ns c) false) l) (h1 : IsIte ns (pc ns c (min3 ns c) true) u) (hn : IsNode ns (min3 ns c) l u f) : IsIte ns c f := by
  refine ⟨hc, hn.lt, fun e => ?_, hn.va⟩
  have k1 : min3 ns c ≤ nv ns c.1 := by unfold min3; omega
  have k2 : min3 ns c ≤ nv ns c.2.1 := by unfold min3; omega
  have k3 : min3 ns c ≤ nv ns c.2.2 := by unfold min3; omega
  have e0 := h0.ev e
  have e1 := h1.ev e
  simp only [pc, partOf_ev wf hc.1 hv k1, partOf_ev wf hc.2.1 hv k2, partOf_ev wf hc.2.2 hv k3] at e0 e1
  rw [hn.ev, e0, e1]
  cases hb : e (min3 ns c)
  · rw [setE_at hb]; simp
  · rw [setE_at hb]; simp

def MemoC (ns : List Nd) (m : Nd → Option Nat) : Prop := ∀ c f, m c = some f → IsIte ns c f
theorem MemoC.ext {m : Nd → Option Nat} (h : MemoC ns m) (X : Ext ns ns') (wf : Wf vars ns) (wf' : Wf vars ns') : MemoC ns' m := fun c f e => (h c f e).ext X wf wf'
theorem MemoC.upd {m : Nd → Option Nat} (h : MemoC ns m) {c : Nd} {f : Nat} (hf : IsIte ns c f) : MemoC ns (upd m c f) := by
  intro d g hg
  unfold Ytgcimcpcnoojnaa.upd at hg
  by_cases e : d = c
  · subst e
    rw [if_pos rfl] at hg
    cases hg
    exact hf
  · rw [if_neg e] at hg
    exact h d g hg
end Go.Proofs.Ytgcimcpcnoojnaa


