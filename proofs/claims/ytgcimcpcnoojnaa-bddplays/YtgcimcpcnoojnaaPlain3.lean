/-
  Counting, without the program.
-/
import Derived.Test.YtgcimcpcnoojnaaWalk12
namespace Go.Proofs.Ytgcimcpcnoojnaa

/-- For how many settings of the variables from i on, k of them, g is true. -/
def T : Nat → Nat → (Env → Bool) → Env → Nat
  | 0, _, g, e => if g e then 1 else 0
  | k + 1, i, g, e => T k (i + 1) g (setE e i false) + T k (i + 1) g (setE e i true)

def Dep (l vars : Nat) (g : Env → Bool) : Prop := ∀ e e' : Env, (∀ x, l ≤ x → x < vars → e x = e' x) → g e = g e'

theorem T_congr {l vars : Nat} {g : Env → Bool} (hd : Dep l vars g) : ∀ (k i : Nat) (e e' : Env), (∀ x, l ≤ x → x < vars → (x < i ∨ i + k ≤ x) → e x = e' x) → T k i g e = T k i g e'
  | 0, i, e, e', h => by
    rw [T, T, hd e e' (fun x h1 h2 => h x h1 h2 (by omega))]
  | k + 1, i, e, e', h => by
    rw [T, T]
    have step : ∀ b, T k (i + 1) g (setE e i b) = T k (i + 1) g (setE e' i b) := fun b => by
      refine T_congr hd k (i + 1) _ _ (fun x h1 h2 h3 => ?_)
      by_cases hx : x = i
      · subst hx; rw [setE_same, setE_same]
      · rw [setE_ne _ _ hx, setE_ne _ _ hx]; exact h x h1 h2 (by omega)
    rw [step, step]
theorem T_eq {g g' : Env → Bool} {v : Nat} {b : Bool} (hg : ∀ e : Env, e v = b → g e = g' e) : ∀ (k i : Nat) (e : Env), v < i → e v = b → T k i g e = T k i g' e
  | 0, i, e, _, he => by rw [T, T, hg e he]
  | k + 1, i, e, hi, he => by
    rw [T, T, T_eq hg k (i + 1) _ (by omega) (by rw [setE_ne _ _ (by omega)]; exact he), T_eq hg k (i + 1) _ (by omega) (by rw [setE_ne _ _ (by omega)]; exact he)]
theorem T_le (g : Env → Bool) : ∀ (k i : Nat) (e : Env), T k i g e ≤ 2 ^ k
  | 0, i, e => by rw [T]; split <;> simp
  | k + 1, i, e => by
    rw [T, Nat.pow_succ]
    have := T_le g k (i + 1) (setE e i false)
    have := T_le g k (i + 1) (setE e i true)
    omega
theorem T_not (g : Env → Bool) : ∀ (k i : Nat) (e : Env), T k i g e + T k i (fun x => !g x) e = 2 ^ k
  | 0, i, e => by rw [T, T]; cases g e <;> simp
  | k + 1, i, e => by
    rw [T, T, Nat.pow_succ]
    have := T_not g k (i + 1) (setE e i false)
    have := T_not g k (i + 1) (setE e i true)
    omega
theorem T_ext {g g' : Env → Bool} (h : ∀ e, g e = g' e) (k i : Nat) (e : Env) : T k i g e = T k i g' e := by rw [funext h]

def e00 : Env := fun _ => false
section
variable {vars : Nat} {ns ns' : List Nd}
theorem dep_ev (wf : Wf vars ns) {f : Nat} (hf : f < ns.length) : Dep (nv ns f) vars (ev ns f) := fun e e' h => ev_dep wf f hf e e' h
/-- For how many settings of f's least variable and those behind it f is true. -/
def cn (vars : Nat) (ns : List Nd) (f : Nat) : Nat := T (vars - nv ns f) (nv ns f) (ev ns f) e00
theorem cn_skip (wf : Wf vars ns) {f : Nat} (hf : f < ns.length) : ∀ (d i : Nat) (e : Env), i + d = nv ns f → T (vars - i) i (ev ns f) e = cn vars ns f * 2 ^ d
  | 0, i, e, h => by
    have hi : i = nv ns f := by omega
    have := va_le wf hf
    rw [cn, ← hi, Nat.pow_zero, Nat.mul_one]
    exact T_congr (dep_ev wf hf) _ _ _ _ (fun x h1 h2 h3 => by omega)
  | d + 1, i, e, h => by
    have := va_le wf hf
    rw [show vars - i = (vars - (i + 1)) + 1 by omega, T, cn_skip wf hf d (i + 1) _ (by omega), cn_skip wf hf d (i + 1) _ (by omega), Nat.pow_succ, ← Nat.mul_assoc]
    omega
theorem cn_0 (wf : Wf vars ns) : cn vars ns 0 = 0 := by
  rw [cn, show nv ns 0 = vars by rw [nv, wf.n0], Nat.sub_self, T, ev0]
  rfl
theorem cn_1 (wf : Wf vars ns) : cn vars ns 1 = 1 := by
  rw [cn, show nv ns 1 = vars by rw [nv, wf.n1], Nat.sub_self, T, ev1]
  rfl
theorem cn_node (wf : Wf vars ns) {f : Nat} (f2 : 2 ≤ f) (hf : f < ns.length) : cn vars ns f = cn vars ns (nl ns f) * 2 ^ (nv ns (nl ns f) - nv ns f - 1) + cn vars ns (nh ns f) * 2 ^ (nv ns (nh ns f) - nv ns f - 1) := by
  have hv := wf.va f f2 hf
  have l1 := wf.lo f f2 hf
  have l2 := wf.hi f f2 hf
  have v1 := wf.vlo f f2 hf
  have v2 := wf.vhi f f2 hf
  have w1 := va_le wf (f := nl ns f) (by omega)
  have w2 := va_le wf (f := nh ns f) (by omega)
  rw [cn, show vars - nv ns f = (vars - (nv ns f + 1)) + 1 by omega, T]
  rw [T_eq (g' := ev ns (nl ns f)) (v := nv ns f) (b := false) (fun e he => by rw [ev_node wf f2 hf, he]; simp) _ _ _ (by omega) (setE_same _ _ _)]
  rw [T_eq (g' := ev ns (nh ns f)) (v := nv ns f) (b := true) (fun e he => by rw [ev_node wf f2 hf, he]; simp) _ _ _ (by omega) (setE_same _ _ _)]
  rw [cn_skip wf (by omega) (nv ns (nl ns f) - nv ns f - 1) _ _ (by omega), cn_skip wf (by omega) (nv ns (nh ns f) - nv ns f - 1) _ _ (by omega)]
theorem cn_le (f : Nat) : cn vars ns f ≤ 2 ^ (vars - nv ns f) := T_le _ _ _ _
theorem cn_all (wf : Wf vars ns) {f : Nat} (hf : f < ns.length) (e : Env) : cn vars ns f * 2 ^ nv ns f = T vars 0 (ev ns f) e := by
  have := cn_skip wf hf (nv ns f) 0 e (by omega)
  rw [Nat.sub_zero] at this
  exact this.symm
end

/-! ### exchanged variables -/
def S : List Nat → (Env → Bool) → Env → Nat
  | [], g, e => if g e then 1 else 0
  | i :: l, g, e => S l g (setE e i false) + S l g (setE e i true)
theorem T_S (g : Env → Bool) : ∀ (k i : Nat) (e : Env), T k i g e = S (List.range' i k) g e
  | 0, i, e => rfl
  | k + 1, i, e => by rw [T, List.range'_succ, S, T_S g k, T_S g k]
theorem S_perm (g : Env → Bool) {l l' : List Nat} (h : l.Perm l') : ∀ e, S l g e = S l' g e := by
  induction h with
  | nil => intro e; rfl
  | cons x _ ih => intro e; rw [S, S, ih, ih]
  | swap x y l =>
    intro e
    rw [S, S, S, S, S, S]
    by_cases hxy : x = y
    · subst hxy; rfl
    · rw [setE_comm e hxy, setE_comm e hxy, setE_comm e hxy, setE_comm e hxy]; omega
  | trans _ _ ih1 ih2 => intro e; rw [ih1, ih2]
def sg (i j x : Nat) : Nat := if x = i then j else if x = j then i else x
theorem sg_sg (i j x : Nat) : sg i j (sg i j x) = x := by
  unfold sg
  by_cases h1 : x = i <;> by_cases h2 : x = j <;> simp_all
theorem swE_eq (e : Env) (i j : Nat) : swE e i j = fun x => e (sg i j x) := by
  funext x
  unfold swE sg
  by_cases h1 : x = i <;> by_cases h2 : x = j <;> simp_all
theorem swE_set (e : Env) (i j x : Nat) (b : Bool) : swE (setE e x b) i j = setE (swE e i j) (sg i j x) b := by
  rw [swE_eq, swE_eq]
  funext y
  unfold setE
  by_cases h : y = sg i j x
  · subst h; rw [sg_sg]; simp
  · rw [if_neg h, if_neg (fun e => h (by rw [← e, sg_sg]))]
theorem S_sw (g : Env → Bool) (i j : Nat) : ∀ (l : List Nat) (e : Env), S l (fun x => g (swE x i j)) e = S (l.map (sg i j)) g (swE e i j)
  | [], e => rfl
  | x :: l, e => by rw [S, List.map_cons, S, S_sw g i j l, S_sw g i j l, swE_set, swE_set]
theorem T_swap6 {g : Env → Bool} {l : Nat} (hd : Dep l 6 g) {i j : Nat} (hi : i < 6) (hj : j < 6) (e e' : Env) : T 6 0 (fun x => g (swE x i j)) e = T 6 0 g e' := by
  have hp : ∀ i : Fin 6, ∀ j : Fin 6, ((List.range' 0 6).map (sg i.1 j.1)).Perm (List.range' 0 6) := by decide
  rw [T_S, S_sw, S_perm g (hp ⟨i, hi⟩ ⟨j, hj⟩), ← T_S]
  exact T_congr hd _ _ _ _ (fun x _ h2 h3 => by omega)
end Go.Proofs.Ytgcimcpcnoojnaa


