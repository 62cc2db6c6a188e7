/-
  Functions of packets, code by code.
-/
import Derived.Test.YtgcimcpcnoojnaaDead
namespace Go.Proofs.Ytgcimcpcnoojnaa
open Go.RowKit Go.Maps

theorem mod_bit (x k : Nat) : (if x.testBit k then 2 ^ k else 0) + x % 2 ^ k = x % 2 ^ (k + 1) := by
  rw [Nat.mod_pow_succ, Nat.testBit_eq_decide_div_mod_eq]
  have : x / 2 ^ k % 2 = 0 ∨ x / 2 ^ k % 2 = 1 := by omega
  rcases this with h | h
  · rw [h]; simp
  · rw [h]; simp [Nat.add_comm]
theorem val_env (n c : Nat) : ∀ (k first : Nat), first + k ≤ n → val k first (envOf n c) = c / 2 ^ (n - first - k) % 2 ^ k := by
  intro k
  induction k with
  | zero => intro first _; simp [val, Nat.mod_one]
  | succ k ih =>
    intro first h
    rw [val, ih (first + 1) (by omega), envOf, show n - (first + 1) - k = n - first - (k + 1) by omega, ← mod_bit]
    have e : c.testBit (n - 1 - first) = (c / 2 ^ (n - first - (k + 1))).testBit k := by
      rw [Nat.testBit_div_two_pow]
      congr 1
      omega
    rw [e]
theorem phi_env (sa sb sc sd c : Nat) (hc : c < 16384) : phi sa sb sc sd (envOf 14 c) = (sa.testBit (c / 1024) && sb.testBit (c / 64 % 16) && sc.testBit (c / 8 % 8) && sd.testBit (c % 8)) := by
  unfold phi
  simp only [sel_val, val_env 14 c _ _ (show 0 + 4 ≤ 14 by decide), val_env 14 c _ _ (show 4 + 4 ≤ 14 by decide), val_env 14 c _ _ (show 8 + 3 ≤ 14 by decide), val_env 14 c _ _ (show 11 + 3 ≤ 14 by decide)]
  have h1 : c / 2 ^ (14 - 0 - 4) % 2 ^ 4 = c / 1024 := by
    have : c / 1024 < 16 := by omega
    exact Nat.mod_eq_of_lt this
  rw [h1, Bool.and_true, Bool.and_assoc, Bool.and_assoc]
  have h2 : c / 2 ^ (14 - 4 - 4) % 2 ^ 4 = c / 64 % 16 := rfl
  have h3 : c / 2 ^ (14 - 8 - 3) % 2 ^ 3 = c / 8 % 8 := rfl
  have h4 : c / 2 ^ (14 - 11 - 3) % 2 ^ 3 = c % 8 := by simp
  rw [h2, h3, h4]

/-- What a list says of the packet of a code. -/
def letsC (xs : List Rl) (c : Nat) : Bool := letsB xs ((c / 1024 : Nat) : Int) ((c / 64 % 16 : Nat) : Int) ((c / 8 % 8 : Nat) : Int) ((c % 8 : Nat) : Int)
theorem inR_env (r : Rl) (c : Nat) (hc : c < 16384) : inR r ((c / 1024 : Nat) : Int) ((c / 64 % 16 : Nat) : Int) ((c / 8 % 8 : Nat) : Int) ((c % 8 : Nat) : Int) = phi r.a r.b r.c r.d (envOf 14 c) := by
  rw [phi_env _ _ _ _ c hc]
  have h : ∀ (b n : Nat), hasB b (n : Int) = b.testBit n := fun b n => by simp [hasB]
  unfold inR inB
  rw [h, h, h, h]
theorem letsF_env : ∀ (xs : List Rl) (c : Nat), c < 16384 → letsF xs (envOf 14 c) = letsC xs c
  | [], _, _ => rfl
  | r :: l, c, hc => by
    have ih := letsF_env l c hc
    unfold letsC at ih ⊢
    rw [letsF, letsB, ih, inR_env r c hc]

theorem val_test : ∀ (k first : Nat) (x : Env) (j : Nat), j < k → (val k first x).testBit (k - 1 - j) = x (first + j) := by
  intro k
  induction k with
  | zero => intro first x j h; omega
  | succ k ih =>
    intro first x j h
    have hlt := val_lt k (first + 1) x
    have e : val (k + 1) first x = (if x first then 2 ^ k else 0) + val k (first + 1) x := rfl
    rw [e]
    by_cases h0 : j = 0
    · subst h0
      rw [show k + 1 - 1 - 0 = k by omega, Nat.add_zero]
      cases x first
      · simp [Nat.testBit_lt_two_pow hlt]
      · simp only [if_true]
        rw [Nat.testBit_two_pow_add_eq, Nat.testBit_lt_two_pow hlt]
        rfl
    · have e2 : k + 1 - 1 - j = k - 1 - (j - 1) := by omega
      have e3 := ih (first + 1) x (j - 1) (by omega)
      rw [show first + 1 + (j - 1) = first + j by omega] at e3
      rw [e2]
      cases x first
      · simpa using e3
      · simp only [if_true]
        rw [Nat.testBit_two_pow_add_gt (by omega)]
        exact e3
theorem sel_dep : ∀ (k bits first : Nat) (x y : Env), (∀ i, first ≤ i → i < first + k → x i = y i) → sel k bits first x = sel k bits first y := by
  intro k bits first x y h
  have v : ∀ (k first : Nat), (∀ i, first ≤ i → i < first + k → x i = y i) → val k first x = val k first y := by
    intro k
    induction k with
    | zero => intro first _; rfl
    | succ k ih =>
      intro first h
      show (if x first then 2 ^ k else 0) + val k (first + 1) x = (if y first then 2 ^ k else 0) + val k (first + 1) y
      rw [h first (by omega) (by omega), ih (first + 1) (fun i h1 h2 => h i (by omega) (by omega))]
  rw [sel_val, sel_val, v k first h]
theorem letsF_dep : ∀ (xs : List Rl) (x y : Env), (∀ i, i < 14 → x i = y i) → letsF xs x = letsF xs y
  | [], _, _, _ => rfl
  | r :: l, x, y, h => by
    have e : phi r.a r.b r.c r.d x = phi r.a r.b r.c r.d y := by
      unfold phi
      rw [sel_dep 4 r.a 0 x y (fun i h1 h2 => h i (by omega)), sel_dep 4 r.b 4 x y (fun i h1 h2 => h i (by omega)), sel_dep 3 r.c 8 x y (fun i h1 h2 => h i (by omega)), sel_dep 3 r.d 11 x y (fun i h1 h2 => h i (by omega))]
    rw [letsF, letsF, e, letsF_dep l x y h]
/-- Every setting is, in the variables of packets, that of a code. -/
theorem letsF_code (xs : List Rl) (x : Env) : letsF xs x = letsC xs (val 14 0 x) := by
  have hlt : val 14 0 x < 16384 := val_lt 14 0 x
  rw [← letsF_env xs _ hlt]
  refine letsF_dep xs _ _ (fun i hi => ?_)
  have := val_test 14 0 x i hi
  rw [Nat.zero_add] at this
  rw [envOf, ← this]
theorem isDead_iff (xs : List Rl) (i : Nat) : isDead xs i ↔ ∀ c, c < 16384 → letsC (wo xs i) c = letsC xs c := by
  constructor
  · intro h c hc
    rw [← letsF_env _ c hc, ← letsF_env _ c hc]
    exact h _
  · intro h x
    rw [letsF_code, letsF_code]
    exact h _ (val_lt 14 0 x)
end Go.Proofs.Ytgcimcpcnoojnaa


