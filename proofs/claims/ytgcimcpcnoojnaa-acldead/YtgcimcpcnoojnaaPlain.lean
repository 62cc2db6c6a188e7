/-
  Decision diagrams, without the program: a list of nodes that is in order tells each function once.
-/
import Derived.Test.YtgcimcpcnoojnaaProg
namespace Go.Proofs.Ytgcimcpcnoojnaa

/-- A node: its variable, what it is if that is false, what it is if that is true. -/
abbrev Nd := Nat × Nat × Nat
def nd (ns : List Nd) (f : Nat) : Nd := ns.getD f (0, 0, 0)
abbrev nv (ns : List Nd) (f : Nat) : Nat := (nd ns f).1
abbrev nl (ns : List Nd) (f : Nat) : Nat := (nd ns f).2.1
abbrev nh (ns : List Nd) (f : Nat) : Nat := (nd ns f).2.2

structure Wf (vars : Nat) (ns : List Nd) : Prop where
  len : 2 ≤ ns.length
  n0 : nd ns 0 = (vars, 0, 0)
  n1 : nd ns 1 = (vars, 1, 1)
  va : ∀ f, 2 ≤ f → f < ns.length → nv ns f < vars
  lo : ∀ f, 2 ≤ f → f < ns.length → nl ns f < f
  hi : ∀ f, 2 ≤ f → f < ns.length → nh ns f < f
  ne : ∀ f, 2 ≤ f → f < ns.length → nl ns f ≠ nh ns f
  vlo : ∀ f, 2 ≤ f → f < ns.length → nv ns f < nv ns (nl ns f)
  vhi : ∀ f, 2 ≤ f → f < ns.length → nv ns f < nv ns (nh ns f)
  uniq : ∀ f g, 2 ≤ f → f < ns.length → 2 ≤ g → g < ns.length → nd ns f = nd ns g → f = g

abbrev Env := Nat → Bool
def setE (e : Env) (i : Nat) (b : Bool) : Env := fun j => if j = i then b else e j
theorem setE_same (e : Env) (i : Nat) (b : Bool) : setE e i b i = b := by simp [setE]
theorem setE_ne (e : Env) {i j : Nat} (b : Bool) (h : j ≠ i) : setE e i b j = e j := by simp [setE, h]
theorem setE_self (e : Env) (i : Nat) : setE e i (e i) = e := by
  funext j
  unfold setE
  split
  · rename_i h; rw [h]
  · rfl

def evF (ns : List Nd) : Nat → Nat → Env → Bool
  | 0, f, _ => f == 1
  | k + 1, f, e => if f ≤ 1 then f == 1 else if e (nv ns f) then evF ns k (nh ns f) e else evF ns k (nl ns f) e
def ev (ns : List Nd) (f : Nat) (e : Env) : Bool := evF ns f f e

variable {vars : Nat} {ns ns' : List Nd}

theorem evF_enough (h : Wf vars ns) : ∀ (k f : Nat) (e : Env), f < ns.length → f ≤ k → evF ns k f e = ev ns f e := by
  intro k
  induction k using Nat.strongRecOn with
  | _ k ih =>
    intro f e hf hk
    by_cases h1 : f ≤ 1
    · unfold ev
      match k, f, h1 with
      | 0, 0, _ => rfl
      | k + 1, 0, _ => rfl
      | 0, 1, _ => rfl
      | k + 1, 1, _ => rfl
    · have l1 := h.lo f (by omega) hf
      have l2 := h.hi f (by omega) hf
      obtain ⟨m, rfl⟩ : ∃ m, f = m + 1 := ⟨f - 1, by omega⟩
      obtain ⟨k', rfl⟩ : ∃ k', k = k' + 1 := ⟨k - 1, by omega⟩
      unfold ev
      rw [evF, if_neg h1, evF, if_neg h1, ih k' (by omega) _ _ (by omega) (by omega), ih k' (by omega) _ _ (by omega) (by omega)]
      by_cases hm : m < k' + 1
      · rw [ih m (by omega) _ _ (by omega) (by omega), ih m (by omega) _ _ (by omega) (by omega)]
      · omega

theorem ev0 (ns : List Nd) (e : Env) : ev ns 0 e = false := rfl
theorem ev1 (ns : List Nd) (e : Env) : ev ns 1 e = true := by simp [ev, evF]

theorem ev_node (h : Wf vars ns) {f : Nat} (h2 : 2 ≤ f) (hf : f < ns.length) (e : Env) : ev ns f e = if e (nv ns f) then ev ns (nh ns f) e else ev ns (nl ns f) e := by
  have l1 := h.lo f h2 hf
  have l2 := h.hi f h2 hf
  have := evF_enough h (f + 1) f e hf (by omega)
  rw [← this, evF, if_neg (by omega), evF_enough h f _ e (by omega) (by omega), evF_enough h f _ e (by omega) (by omega)]

theorem va_le (h : Wf vars ns) {f : Nat} (hf : f < ns.length) : nv ns f ≤ vars := by
  by_cases h2 : 2 ≤ f
  · exact Nat.le_of_lt (h.va f h2 hf)
  · match f, h2 with
    | 0, _ => simp [nv, h.n0]
    | 1, _ => simp [nv, h.n1]
    | f + 2, h2 => omega

theorem va_lt (h : Wf vars ns) {f : Nat} (hf : f < ns.length) (hv : nv ns f < vars) : 2 ≤ f := by
  by_cases h2 : 2 ≤ f
  · exact h2
  · match f, h2 with
    | 0, _ => simp [nv, h.n0] at hv
    | 1, _ => simp [nv, h.n1] at hv
    | f + 2, h2 => omega

theorem ev_dep (h : Wf vars ns) : ∀ (f : Nat), f < ns.length → ∀ e e' : Env, (∀ i, nv ns f ≤ i → i < vars → e i = e' i) → ev ns f e = ev ns f e' := by
  intro f
  induction f using Nat.strongRecOn with
  | _ f ih =>
    intro hf e e' he
    by_cases h2 : 2 ≤ f
    · have l1 := h.lo f h2 hf
      have l2 := h.hi f h2 hf
      have v1 := h.vlo f h2 hf
      have v2 := h.vhi f h2 hf
      rw [ev_node h h2 hf, ev_node h h2 hf, he _ (Nat.le_refl _) (h.va f h2 hf)]
      rw [ih _ l2 (by omega) e e' (fun i hi hv => he i (by omega) hv), ih _ l1 (by omega) e e' (fun i hi hv => he i (by omega) hv)]
    · match f, h2 with
      | 0, _ => rfl
      | 1, _ => rw [ev1, ev1]
      | f + 2, h2 => omega

theorem ev_skip (h : Wf vars ns) {f : Nat} (hf : f < ns.length) {i : Nat} (hi : i < nv ns f) (e : Env) (b : Bool) : ev ns f (setE e i b) = ev ns f e :=
  ev_dep h f hf _ _ (fun j hj _ => setE_ne e b (by omega))

/-- What a node is where its variable is set. -/
theorem ev_set (h : Wf vars ns) {f : Nat} (h2 : 2 ≤ f) (hf : f < ns.length) (e : Env) (b : Bool) : ev ns f (setE e (nv ns f) b) = if b then ev ns (nh ns f) e else ev ns (nl ns f) e := by
  have l1 := h.lo f h2 hf
  have l2 := h.hi f h2 hf
  rw [ev_node h h2 hf, setE_same, ev_skip h (by omega) (h.vhi f h2 hf), ev_skip h (by omega) (h.vlo f h2 hf)]

/-- BRYANT. -/
theorem canon_to (h : Wf vars ns) : ∀ (n f g : Nat), f < n → g < n → f < ns.length → g < ns.length → (∀ e, ev ns f e = ev ns g e) → f = g := by
  intro n
  induction n with
  | zero => intro f g hn; omega
  | succ n ih =>
    have one : ∀ f g, f < n + 1 → 2 ≤ f → f < ns.length → g < ns.length → nv ns f < nv ns g → (∀ e, ev ns f e = ev ns g e) → False := by
      intro f g hn h2 hf hg hv he
      have l1 := h.lo f h2 hf
      have l2 := h.hi f h2 hf
      refine h.ne f h2 hf (ih _ _ (by omega) (by omega) (by omega) (by omega) ?_)
      intro e
      have a1 := ev_set h h2 hf e false
      have a2 := ev_set h h2 hf e true
      simp only [if_true, Bool.false_eq_true, if_false] at a1 a2
      rw [← a1, ← a2, he, he, ev_skip h hg hv, ev_skip h hg hv]
    intro f g hfn hgn hf hg he
    rcases Nat.lt_trichotomy (nv ns f) (nv ns g) with hv | hv | hv
    · exact (one f g hfn (va_lt h hf (Nat.lt_of_lt_of_le hv (va_le h hg))) hf hg hv he).elim
    · by_cases h2 : 2 ≤ f
      · have g2 : 2 ≤ g := va_lt h hg (by rw [← hv]; exact h.va f h2 hf)
        have l1 := h.lo f h2 hf
        have l2 := h.hi f h2 hf
        have m1 := h.lo g g2 hg
        have m2 := h.hi g g2 hg
        have e1 : nl ns f = nl ns g := ih _ _ (by omega) (by omega) (by omega) (by omega) (fun e => by
          have a1 := ev_set h h2 hf e false
          have a2 := ev_set h g2 hg e false
          simp only [Bool.false_eq_true, if_false] at a1 a2
          rw [← a1, ← a2, he, hv])
        have e2 : nh ns f = nh ns g := ih _ _ (by omega) (by omega) (by omega) (by omega) (fun e => by
          have a1 := ev_set h h2 hf e true
          have a2 := ev_set h g2 hg e true
          simp only [if_true] at a1 a2
          rw [← a1, ← a2, he, hv])
        exact h.uniq f g h2 hf g2 hg (Prod.ext hv (Prod.ext e1 e2))
      · by_cases g2 : 2 ≤ g
        · have := va_lt h hf (by rw [hv]; exact h.va g g2 hg)
          omega
        · have e0 := he (fun _ => false)
          match f, g, h2, g2 with
          | 0, 0, _, _ => rfl
          | 1, 1, _, _ => rfl
          | 0, 1, _, _ => rw [ev0, ev1] at e0; cases e0
          | 1, 0, _, _ => rw [ev0, ev1] at e0; cases e0
          | f + 2, _, h2, _ => omega
          | _, g + 2, _, g2 => omega
    · exact (one g f hgn (va_lt h hg (Nat.lt_of_lt_of_le hv (va_le h hf))) hg hf hv (fun e => (he e).symm)).elim

theorem canon (h : Wf vars ns) {f g : Nat} (hf : f < ns.length) (hg : g < ns.length) (he : ∀ e, ev ns f e = ev ns g e) : f = g :=
  canon_to h (max f g + 1) f g (by omega) (by omega) hf hg he

/-! ### more nodes -/
/-- ns' has ns's nodes first. -/
def Ext (ns ns' : List Nd) : Prop := ∃ more, ns' = ns ++ more
theorem Ext.refl (ns : List Nd) : Ext ns ns := ⟨[], by simp⟩
theorem Ext.trans {a b c : List Nd} (h : Ext a b) (k : Ext b c) : Ext a c := by
  obtain ⟨x, rfl⟩ := h
  obtain ⟨y, rfl⟩ := k
  exact ⟨x ++ y, by simp⟩
theorem Ext.len (h : Ext ns ns') : ns.length ≤ ns'.length := by
  obtain ⟨x, rfl⟩ := h
  simp
theorem Ext.nd (h : Ext ns ns') {f : Nat} (hf : f < ns.length) : nd ns' f = nd ns f := by
  obtain ⟨x, rfl⟩ := h
  simp [Ytgcimcpcnoojnaa.nd, List.getElem?_append_left hf]
theorem Ext.va (h : Ext ns ns') {f : Nat} (hf : f < ns.length) : nv ns' f = nv ns f := by rw [nv, h.nd hf]
theorem Ext.ev (h : Ext ns ns') (wf : Wf vars ns) (wf' : Wf vars ns') : ∀ (f : Nat), f < ns.length → ∀ e, ev ns' f e = ev ns f e := by
  intro f
  induction f using Nat.strongRecOn with
  | _ f ih =>
    intro hf e
    by_cases h2 : 2 ≤ f
    · have l1 := wf.lo f h2 hf
      have l2 := wf.hi f h2 hf
      have hl := h.len
      rw [ev_node wf' h2 (by omega), ev_node wf h2 hf, show nv ns' f = nv ns f from h.va hf, show nh ns' f = nh ns f by rw [nh, h.nd hf], show nl ns' f = nl ns f by rw [nl, h.nd hf],
        ih _ l2 (by omega), ih _ l1 (by omega)]
    · match f, h2 with
      | 0, _ => rfl
      | 1, _ => rw [ev1, ev1]
      | f + 2, h2 => omega

/-- A node that isn't there yet, and is in order, may be laid behind the others. -/
theorem wf_snoc (h : Wf vars ns) {n : Nd} (hv : n.1 < vars) (hlo : n.2.1 < ns.length) (hhi : n.2.2 < ns.length) (hne : n.2.1 ≠ n.2.2) (v1 : n.1 < nv ns n.2.1) (v2 : n.1 < nv ns n.2.2)
    (hnew : ∀ f, 2 ≤ f → f < ns.length → nd ns f ≠ n) : Wf vars (ns ++ [n]) := by
  have X : Ext ns (ns ++ [n]) := ⟨[n], rfl⟩
  have last : nd (ns ++ [n]) ns.length = n := by simp [nd]
  have len' : (ns ++ [n]).length = ns.length + 1 := by simp
  have h2 := h.len
  refine ⟨by rw [len']; omega, by rw [X.nd (by omega)]; exact h.n0, by rw [X.nd (by omega)]; exact h.n1, ?_, ?_, ?_, ?_, ?_, ?_, ?_⟩
  · intro f f2 hf
    by_cases hl : f < ns.length
    · rw [nv, X.nd hl]; exact h.va f f2 hl
    · obtain rfl : f = ns.length := by omega
      rw [nv, last]; exact hv
  · intro f f2 hf
    by_cases hl : f < ns.length
    · rw [nl, X.nd hl]; exact h.lo f f2 hl
    · obtain rfl : f = ns.length := by omega
      rw [nl, last]; exact hlo
  · intro f f2 hf
    by_cases hl : f < ns.length
    · rw [nh, X.nd hl]; exact h.hi f f2 hl
    · obtain rfl : f = ns.length := by omega
      rw [nh, last]; exact hhi
  · intro f f2 hf
    by_cases hl : f < ns.length
    · rw [nl, nh, X.nd hl]; exact h.ne f f2 hl
    · obtain rfl : f = ns.length := by omega
      rw [nl, nh, last]; exact hne
  · intro f f2 hf
    by_cases hl : f < ns.length
    · have := h.lo f f2 hl
      rw [nv, nl, X.nd hl, nv, X.nd (Nat.lt_trans this hl)]; exact h.vlo f f2 hl
    · obtain rfl : f = ns.length := by omega
      rw [nv, nl, last, nv, X.nd hlo]; exact v1
  · intro f f2 hf
    by_cases hl : f < ns.length
    · have := h.hi f f2 hl
      rw [nv, nh, X.nd hl, nv, X.nd (Nat.lt_trans this hl)]; exact h.vhi f f2 hl
    · obtain rfl : f = ns.length := by omega
      rw [nv, nh, last, nv, X.nd hhi]; exact v2
  · intro f g f2 hf g2 hg he
    by_cases hl : f < ns.length
    · by_cases gl : g < ns.length
      · rw [X.nd hl, X.nd gl] at he
        exact h.uniq f g f2 hl g2 gl he
      · obtain rfl : g = ns.length := by omega
        rw [X.nd hl, last] at he
        exact (hnew f f2 hl he).elim
    · obtain rfl : f = ns.length := by omega
      by_cases gl : g < ns.length
      · rw [X.nd gl, last] at he
        exact (hnew g g2 gl he.symm).elim
      · omega

theorem wf_start (vars : Nat) : Wf vars [(vars, 0, 0), (vars, 1, 1)] := by
  refine ⟨by simp, rfl, rfl, ?_, ?_, ?_, ?_, ?_, ?_, ?_⟩ <;> (intro f; intros; simp only [List.length_cons, List.length_nil] at *; omega)

/-- f is what a node says, in ns. -/
structure IsNode (ns : List Nd) (v l h f : Nat) : Prop where
  lt : f < ns.length
  ev : ∀ e, ev ns f e = if e v then ev ns h e else ev ns l e
  va : v ≤ nv ns f

theorem isNode_same {v l : Nat} (hl : l < ns.length) (hv : v < nv ns l) : IsNode ns v l l l := ⟨hl, fun e => by simp, Nat.le_of_lt hv⟩
theorem isNode_there (h : Wf vars ns) {v l u f : Nat} (f2 : 2 ≤ f) (hf : f < ns.length) (hn : nd ns f = (v, l, u)) : IsNode ns v l u f :=
  ⟨hf, fun e => by rw [ev_node h f2 hf]; simp only [nv, nl, nh, hn], by simp [nv, hn]⟩
end Go.Proofs.Ytgcimcpcnoojnaa


