/-
  Bits and settings, without the program.
-/
import Derived.Test.YtgcimcpcnoojnaaPlain3
namespace Go.Proofs.Ytgcimcpcnoojnaa

/-- The setting that bits are: variable 0 is the highest one. -/
def envOf (vars b : Nat) : Env := fun i => b.testBit (vars - 1 - i)
def bitsOf : Nat → Env → Nat
  | 0, _ => 0
  | n + 1, e => 2 * bitsOf n e + (if e n then 1 else 0)
theorem bitsOf_lt : ∀ (n : Nat) (e : Env), bitsOf n e < 2 ^ n
  | 0, _ => by simp [bitsOf]
  | n + 1, e => by
    have := bitsOf_lt n e
    rw [bitsOf, Nat.pow_succ]
    split <;> omega
theorem bitsOf_test : ∀ (n : Nat) (e : Env) (i : Nat), i < n → (bitsOf n e).testBit (n - 1 - i) = e i
  | 0, _, i, h => by omega
  | n + 1, e, i, h => by
    rw [bitsOf]
    by_cases hi : i = n
    · subst hi
      rw [show i + 1 - 1 - i = 0 by omega, Nat.testBit_zero]
      cases e i <;> simp <;> omega
    · have ih := bitsOf_test n e i (by omega)
      rw [show n + 1 - 1 - i = (n - 1 - i) + 1 by omega, Nat.testBit_succ]
      rw [show (2 * bitsOf n e + (if e n then 1 else 0)) / 2 = bitsOf n e by split <;> omega]
      exact ih
theorem envOf_bitsOf (n : Nat) (e : Env) {i : Nat} (hi : i < n) : envOf n (bitsOf n e) i = e i := bitsOf_test n e i hi

/-- Two functions of so many variables that are the same for all bits are the same. -/
theorem same_of_bits {vars l : Nat} {g g' : Env → Bool} (hd : Dep l vars g) (hd' : Dep l vars g') (h : ∀ b, b < 2 ^ vars → g (envOf vars b) = g' (envOf vars b)) (e : Env) : g e = g' e := by
  have k := h (bitsOf vars e) (bitsOf_lt vars e)
  rw [hd e (envOf vars (bitsOf vars e)) (fun x _ hx => (envOf_bitsOf vars e hx).symm), k, hd' (envOf vars (bitsOf vars e)) e (fun x _ hx => envOf_bitsOf vars e hx)]

/-- How many of the first n bits have p. -/
def cnt (p : Nat → Bool) : Nat → Nat
  | 0 => 0
  | n + 1 => cnt p n + (if p n then 1 else 0)
theorem cnt_congr {p q : Nat → Bool} : ∀ n, (∀ b, b < n → p b = q b) → cnt p n = cnt q n
  | 0, _ => rfl
  | n + 1, h => by rw [cnt, cnt, cnt_congr n (fun b hb => h b (by omega)), h n (by omega)]
theorem cnt_add (p : Nat → Bool) (m : Nat) : ∀ n, cnt p (m + n) = cnt p m + cnt (fun b => p (m + b)) n
  | 0 => rfl
  | n + 1 => by rw [← Nat.add_assoc, cnt, cnt_add p m n, cnt]; omega
/-- Settings of the last k variables are bits below 2^k. -/
theorem T_cnt (vars : Nat) (g : Env → Bool) : ∀ (k i : Nat) (e : Env), i + k = vars → (∀ e e' : Env, (∀ x, x < vars → e x = e' x) → g e = g e') →
    T k i g e = cnt (fun b => g (fun x => if x < i then e x else b.testBit (vars - 1 - x))) (2 ^ k)
  | 0, i, e, hi, hg => by
    rw [T, show (2 : Nat) ^ 0 = 0 + 1 by rfl, cnt, cnt]
    rw [hg e (fun x => if x < i then e x else (0 : Nat).testBit (vars - 1 - x)) (fun x hx => by simp; omega)]
    simp
  | k + 1, i, e, hi, hg => by
    rw [T, T_cnt vars g k (i + 1) _ (by omega) hg, T_cnt vars g k (i + 1) _ (by omega) hg, Nat.pow_succ, Nat.mul_two, cnt_add]
    have hk : vars - 1 - i = k := by omega
    congr 1
    · refine cnt_congr _ (fun b hb => hg _ _ (fun x hx => ?_))
      by_cases h1 : x = i
      · subst h1
        rw [if_pos (by omega), if_neg (by omega), setE_same, hk, Nat.testBit_lt_two_pow hb]
      · by_cases h2 : x < i
        · rw [if_pos (by omega), if_pos h2, setE_ne _ _ h1]
        · rw [if_neg (by omega), if_neg h2]
    · refine cnt_congr _ (fun b hb => hg _ _ (fun x hx => ?_))
      by_cases h1 : x = i
      · subst h1
        rw [if_pos (by omega), if_neg (by omega), setE_same, hk, Nat.testBit_two_pow_add_eq, Nat.testBit_lt_two_pow hb]
        rfl
      · by_cases h2 : x < i
        · rw [if_pos (by omega), if_pos h2, setE_ne _ _ h1]
        · rw [if_neg (by omega), if_neg h2, Nat.testBit_two_pow_add_gt (by omega)]
theorem T_all {vars l : Nat} {g : Env → Bool} (hd : Dep l vars g) (e : Env) : T vars 0 g e = cnt (fun b => g (envOf vars b)) (2 ^ vars) := by
  rw [T_cnt vars g vars 0 e (by omega) (fun e e' h => hd e e' (fun x _ hx => h x hx))]
  exact cnt_congr _ (fun b _ => congrArg g (funext fun x => by simp [envOf]))
end Go.Proofs.Ytgcimcpcnoojnaa


