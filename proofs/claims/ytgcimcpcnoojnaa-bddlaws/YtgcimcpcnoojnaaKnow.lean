/-
  What a law knows of an arena: some numbers, and what functions they are.
-/
import Derived.Test.YtgcimcpcnoojnaaSize
import Derived.Test.YtgcimcpcnoojnaaWalk15
namespace Go.Proofs.Ytgcimcpcnoojnaa
open Go.RowKit Go.Maps

/-- The arena has at most L nodes, and knows the functions in Γ by their numbers. -/
def Kn (base a M : Nat) (w0 w : World) (L : Nat) (Γ : List (Nat × (Env → Bool))) : Prop :=
  ∃ ns, Ar base a M 6 40000 w ns ∧ Below base w0 w ∧ ns.length ≤ L ∧ ∀ p ∈ Γ, p.1 < ns.length ∧ ∀ x, ev ns p.1 x = p.2 x

section
variable {base a M L : Nat} {w0 w w' : World} {Γ : List (Nat × (Env → Bool))} {φ ψ χ : Env → Bool} {f g k : Nat}

theorem Kn.eq (h : Kn base a M w0 w L Γ) (hf : (f, φ) ∈ Γ) (hg : (g, ψ) ∈ Γ) (he : ∀ x, φ x = ψ x) : f = g := by
  obtain ⟨ns, hA, _, _, hΓ⟩ := h
  obtain ⟨f1, f2⟩ := hΓ _ hf
  obtain ⟨g1, g2⟩ := hΓ _ hg
  exact canon hA.wf f1 g1 (fun x => (f2 x).trans ((he x).trans (g2 x).symm))
theorem Kn.dep (h : Kn base a M w0 w L Γ) (hf : (f, φ) ∈ Γ) : Dep 0 6 φ := by
  obtain ⟨ns, hA, _, _, hΓ⟩ := h
  obtain ⟨f1, f2⟩ := hΓ _ hf
  intro e e' he
  exact (f2 e).symm.trans ((ev_dep hA.wf f f1 e e' (fun x _ h2 => he x (Nat.zero_le _) h2)).trans (f2 e'))
theorem Kn.below (h : Kn base a M w0 w L Γ) : Below base w0 w := by
  obtain ⟨ns, _, hB, _⟩ := h
  exact hB

/-- What a call leaves, that makes a function. -/
def Tells (base a M : Nat) (w0 : World) (L : Nat) (Γ : List (Nat × (Env → Bool))) (φ : Env → Bool) (e : Ending) (w' : World) : Prop :=
  ∃ r : Nat, e = .returned (.tuple #[.int .i64 (r : Int), .int .i64 0]) ∧ Kn base a M w0 w' L ((r, φ) :: Γ)

theorem Kn.op (h : Kn base a M w0 w L Γ) {n n' : Nat} {vs : Array Value} (hL : L + n < 40000)
    (hc : ∀ ns, Ar base a M 6 40000 w ns → (∀ p ∈ Γ, p.1 < ns.length ∧ ∀ x, ev ns p.1 x = p.2 x) → ∃ θ, (∀ x, θ x = φ x) ∧ Calls Try.prog n' vs w (OpPost base a M 6 40000 w ns n θ)) :
    Calls Try.prog n' vs w (Tells base a M w0 (L + n) Γ φ) := by
  obtain ⟨ns, hA, hB, hl, hΓ⟩ := h
  obtain ⟨θ, hθ, hc⟩ := hc ns hA hΓ
  refine hc.mono ?_
  rintro e w' hp
  obtain ⟨r, ns', rfl, hA', _, hB', X, l1, lt, hev⟩ := hp.ok hA (by omega)
  refine ⟨r, rfl, ns', hA', hB.trans hB', by omega, ?_⟩
  have hX := X.len
  intro p hp
  rcases List.mem_cons.1 hp with rfl | hp
  · exact ⟨lt, fun x => (hev x).trans (hθ x)⟩
  · obtain ⟨q1, q2⟩ := hΓ p hp
    exact ⟨by omega, fun x => (X.ev hA.wf hA'.wf _ q1 x).trans (q2 x)⟩

theorem var_kn (h : Kn base a M w0 w L Γ) {i : Nat} (hi : i < 6) (hL : L + 1 < 40000) : Calls Try.prog 41 #[.pointer (some ⟨a, 0, none⟩), .int .i64 (i : Int)] w (Tells base a M w0 (L + 1) Γ fun x => x i) :=
  h.op hL fun _ hA _ => ⟨_, fun _ => rfl, var_ok hA hi⟩
theorem not_kn (h : Kn base a M w0 w L Γ) (hf : (f, φ) ∈ Γ) (hL : L + 63 < 40000) : Calls Try.prog 42 #[.pointer (some ⟨a, 0, none⟩), .int .i64 (f : Int)] w (Tells base a M w0 (L + 63) Γ fun x => !φ x) :=
  h.op hL fun ns hA hΓ => ⟨_, fun x => by rw [(hΓ _ hf).2 x], not_ok hA (hΓ _ hf).1⟩
theorem and_kn (h : Kn base a M w0 w L Γ) (hf : (f, φ) ∈ Γ) (hg : (g, ψ) ∈ Γ) (hL : L + 63 < 40000) : Calls Try.prog 15 #[.pointer (some ⟨a, 0, none⟩), .int .i64 (f : Int), .int .i64 (g : Int)] w (Tells base a M w0 (L + 63) Γ fun x => φ x && ψ x) :=
  h.op hL fun ns hA hΓ => ⟨_, fun x => by rw [(hΓ _ hf).2 x, (hΓ _ hg).2 x], and_ok hA (hΓ _ hf).1 (hΓ _ hg).1⟩
theorem or_kn (h : Kn base a M w0 w L Γ) (hf : (f, φ) ∈ Γ) (hg : (g, ψ) ∈ Γ) (hL : L + 63 < 40000) : Calls Try.prog 43 #[.pointer (some ⟨a, 0, none⟩), .int .i64 (f : Int), .int .i64 (g : Int)] w (Tells base a M w0 (L + 63) Γ fun x => φ x || ψ x) :=
  h.op hL fun ns hA hΓ => ⟨_, fun x => by rw [(hΓ _ hf).2 x, (hΓ _ hg).2 x], or_ok hA (hΓ _ hf).1 (hΓ _ hg).1⟩
theorem ite_kn (h : Kn base a M w0 w L Γ) (hf : (f, φ) ∈ Γ) (hg : (g, ψ) ∈ Γ) (hk : (k, χ) ∈ Γ) (hL : L + 63 < 40000) : Calls Try.prog 47 #[.pointer (some ⟨a, 0, none⟩), .int .i64 (f : Int), .int .i64 (g : Int), .int .i64 (k : Int)] w (Tells base a M w0 (L + 63) Γ fun x => if φ x then ψ x else χ x) :=
  h.op hL fun ns hA hΓ => ⟨_, fun x => by simp only [(hΓ _ hf).2 x, (hΓ _ hg).2 x, (hΓ _ hk).2 x], ext_ite_call hA (hΓ _ hf).1 (hΓ _ hg).1 (hΓ _ hk).1⟩
theorem exists_kn (h : Kn base a M w0 w L Γ) (hf : (f, φ) ∈ Γ) {i : Nat} (hi : i < 6) (hL : L + 63 < 40000) : Calls Try.prog 44 #[.pointer (some ⟨a, 0, none⟩), .int .i64 (f : Int), .int .i64 (i : Int)] w (Tells base a M w0 (L + 63) Γ fun x => φ (setE x i false) || φ (setE x i true)) :=
  h.op hL fun ns hA hΓ => ⟨_, fun x => by rw [(hΓ _ hf).2, (hΓ _ hf).2], exists_ok hA (hΓ _ hf).1 hi⟩
theorem swap_kn (h : Kn base a M w0 w L Γ) (hf : (f, φ) ∈ Γ) {i j : Nat} (hi : i < 6) (hj : j < 6) (hL : L + 63 < 40000) : Calls Try.prog 45 #[.pointer (some ⟨a, 0, none⟩), .int .i64 (f : Int), .int .i64 (i : Int), .int .i64 (j : Int)] w (Tells base a M w0 (L + 63) Γ fun x => φ (swE x i j)) :=
  h.op hL fun ns hA hΓ => ⟨_, fun x => by rw [(hΓ _ hf).2], swap_ok hA (hΓ _ hf).1 hi hj⟩
theorem count_kn (h : Kn base a M w0 w L Γ) (hf : (f, φ) ∈ Γ) : Calls Try.prog 46 #[.pointer (some ⟨a, 0, none⟩), .int .i64 (f : Int)] w fun e w' => e = .returned (.tuple #[.int .i64 ((T 6 0 φ e00 : Nat) : Int), .int .i64 0]) ∧ Kn base a M w0 w' L Γ := by
  obtain ⟨ns, hA, hB, hl, hΓ⟩ := h
  obtain ⟨f1, f2⟩ := hΓ _ hf
  refine (count_ok hA f1).mono ?_
  rintro e w' ⟨rfl, hA', hK⟩
  exact ⟨by rw [cn_all hA.wf f1 e00, T_ext f2], ns, hA', hB.trans (hK.below hA), hl, hΓ⟩
theorem size_kn (h : Kn base a M w0 w L Γ) (hL : L < 40000) : Calls Try.prog 14 #[.pointer (some ⟨a, 0, none⟩)] w fun e w' => (∃ s : Nat, e = .returned (.int .i64 (s : Int)) ∧ ((s : Int) == 40000) = false) ∧ w' = w := by
  obtain ⟨ns, hA, hB, hl, hΓ⟩ := h
  refine (size_any hA).mono ?_
  rintro e w' ⟨rfl, rfl⟩
  exact ⟨⟨ns.length, rfl, by simp; omega⟩, rfl⟩

/-- What some does with a list of ops. -/
def SomeOk (base : Nat) (w0 : World) (v : Value) : Prop := ∀ (a M : Nat) (w : World) (ns : List Nd), Ar base a M 6 40000 w ns → Below base w0 w → ns.length ≤ 10000 →
  Calls Try.prog 38 #[.pointer (some ⟨a, 0, none⟩), v, .int .i64 6] w fun e w' => ∃ (f : Nat) (ns' : List Nd), e = .returned (.int .i64 (f : Int)) ∧ Ar base a M 6 40000 w' ns' ∧ Below base w w' ∧ Ext ns ns' ∧ ns'.length ≤ ns.length + 768 ∧ f < ns'.length
theorem some_kn {v : Value} (hs : SomeOk base w0 v) (h : Kn base a M w0 w L Γ) (hL : L ≤ 10000) : Calls Try.prog 38 #[.pointer (some ⟨a, 0, none⟩), v, .int .i64 6] w fun e w' => ∃ (r : Nat) (φ : Env → Bool), e = .returned (.int .i64 (r : Int)) ∧ Kn base a M w0 w' (L + 768) ((r, φ) :: Γ) := by
  obtain ⟨ns, hA, hB, hl, hΓ⟩ := h
  refine (hs a M w ns hA hB (by omega)).mono ?_
  rintro e w' ⟨r, ns', rfl, hA', hB', X, l1, lt⟩
  have hX := X.len
  refine ⟨r, ev ns' r, rfl, ns', hA', hB.trans hB', by omega, ?_⟩
  intro p hp
  rcases List.mem_cons.1 hp with rfl | hp
  · exact ⟨lt, fun x => rfl⟩
  · obtain ⟨q1, q2⟩ := hΓ p hp
    exact ⟨by omega, fun x => (X.ev hA.wf hA'.wf _ q1 x).trans (q2 x)⟩
theorem someOk_none (base : Nat) (w0 : World) (A : Option Addr) (cap : Nat) : SomeOk base w0 (.slice A 0 cap) := by
  intro a M w ns hA hB hl
  refine (some_none w _ A cap 6).mono ?_
  rintro e w' ⟨rfl, rfl⟩
  exact ⟨0, ns, rfl, hA, Below.refl _ _, Ext.refl _, by omega, by have := hA.wf.len; omega⟩
theorem someOk_row {lb lo n cap : Nat} {xs : Nat → Int × Int} (ho : OpsAt base w0 lb lo n xs) (hn : n ≤ cap) (hcap : cap ≤ maxLen) : SomeOk base w0 (.slice (some ⟨lb, lo, none⟩) n cap) :=
  fun _ _ _ _ hA hB hl => some_ok hA (ho.below hB) hn hcap hl
theorem new_kn (w : World) : Calls Try.prog 9 #[.int .i64 6, .int .i64 40000] w fun e w' => ∃ a M, e = .returned (.tuple #[.pointer (some ⟨a, 0, none⟩), .int .i64 0]) ∧ Kn w.heap.size a M w w' 2 [(1, fun _ => true), (0, fun _ => false)] := by
  refine (new_ok (v := 6) (m := 40000) w (by omega) (by omega) (by omega) (by omega)).mono ?_
  rintro e w' ⟨a, M, rfl, hA, hB⟩
  refine ⟨a, M, rfl, _, hA, hB, by simp, ?_⟩
  intro p hp
  rcases List.mem_cons.1 hp with rfl | hp
  · exact ⟨by simp, fun x => ev1 _ x⟩
  · rcases List.mem_cons.1 hp with rfl | hp
    · exact ⟨by simp, fun x => ev0 _ x⟩
    · cases hp
theorem got_any (f e : Int) (w : World) : Calls Try.prog 40 #[.int .i64 f, .int .i64 e] w fun x w' => x = .returned (.int .i64 (if e = 0 then f else -1)) ∧ w' = w := by
  by_cases h : e = 0
  · subst h
    go_enter Try.func40, Try.ntmps40
    go_wp2_with fail
    go_ret
    exact ⟨rfl, rfl⟩
  · have h' : (e != 0) = true := by simp [h]
    rw [if_neg h]
    go_enter Try.func40, Try.ntmps40
    go_wp2_with fail
    go_ret
    exact ⟨rfl, rfl⟩
theorem got_ok (f : Nat) (w : World) : Calls Try.prog 40 #[.int .i64 (f : Int), .int .i64 0] w fun x w' => x = .returned (.int .i64 (f : Int)) ∧ w' = w := (got_any (f : Int) 0 w).mono (fun _ _ h => h)
theorem Kn.big (h : Kn base a M w0 w L Γ) {i : Nat} (hf : (f, fun x => x i) ∈ Γ) : 2 ≤ f := by
  obtain ⟨ns, hA, _, _, hΓ⟩ := h
  obtain ⟨f1, f2⟩ := hΓ _ hf
  have n0 : f ≠ 0 := fun e => by subst e; have := f2 (fun _ => true); rw [ev0] at this; cases this
  have n1 : f ≠ 1 := fun e => by subst e; have := f2 (fun _ => false); rw [ev1] at this; cases this
  omega
end

theorem ex_or (F : Env → Bool) (i : Nat) (x : Env) : (F x || (F (setE x i false) || F (setE x i true))) = (F (setE x i false) || F (setE x i true)) := by
  have : F x = F (setE x i (x i)) := by rw [setE_self]
  rw [this]
  cases x i <;> cases F (setE x i false) <;> cases F (setE x i true) <;> rfl
theorem setE_setE (x : Env) (i : Nat) (b c : Bool) : setE (setE x i b) i c = setE x i c := by
  funext y
  unfold setE
  by_cases h : y = i <;> simp [h]
theorem ex_ex (F : Env → Bool) (i : Nat) (x : Env) : ((F (setE (setE x i false) i false) || F (setE (setE x i false) i true)) || (F (setE (setE x i true) i false) || F (setE (setE x i true) i true))) = (F (setE x i false) || F (setE x i true)) := by
  rw [setE_setE, setE_setE, setE_setE, setE_setE]
  cases F (setE x i false) <;> cases F (setE x i true) <;> rfl
theorem sw_sw (x : Env) (i j : Nat) : swE (swE x i j) i j = x := by
  rw [swE_eq, swE_eq]
  funext y
  show x (sg i j (sg i j y)) = x y
  rw [sg_sg]
theorem ex_sw (F : Env → Bool) (i j : Nat) (x : Env) : (F (swE (setE x j false) i j) || F (swE (setE x j true) i j)) = (F (setE (swE x i j) i false) || F (setE (swE x i j) i true)) := by
  have e : sg i j j = i := by
    unfold sg
    by_cases h : j = i <;> simp [h]
  rw [swE_set, swE_set, e]
end Go.Proofs.Ytgcimcpcnoojnaa


