/-
  Plain facts: a row of numbers as the document's answer reads it; bits set one by one.
-/
import Derived.Test.YtkckgoeemfjkkaaDoorMt1
namespace Go.Proofs.Mt
open Go.Proofs.Pk

theorem dg_cases (most : Int) (l : List UInt8) : (∃ n : Nat, num l = some n ∧ (n : Int) ≤ most ∧ dg most l = n) ∨ (dg most l = -1 ∧ ∀ n, num l = some n → ¬ (n : Int) ≤ most) := by
  unfold dg
  cases h : num l with
  | none => right; exact ⟨rfl, fun n e => by cases e⟩
  | some n =>
    by_cases hn : (n : Int) ≤ most
    · left; exact ⟨n, rfl, hn, by simp [hn]⟩
    · right
      refine ⟨by simp [hn], fun m e => ?_⟩
      obtain rfl := Option.some.inj e
      exact hn


/-- Rows with more than two pieces are none. -/
theorem rowP_many (size : Nat) (l : List UInt8) (h : 2 < (pieces 45 l).length) : rowP size l = none := by
  rcases pieces_cases 45 l with ⟨_, h1 | ⟨a, b, h1, h2⟩⟩ | ⟨a, b, _, _, h3⟩
  · rw [pieces_spl, spl_no 45 l (brk_none 45 l h1)] at h
    simp at h
  · unfold rowP
    rw [h1]
    simp only
    rw [num_bad 45 b (by decide) h2]
    cases num a <;> rfl
  · rw [h3] at h
    simp at h
/-- Rows with one or two: the first and the last one. -/
theorem rowP_few (size : Nat) (l : List UInt8) (h : (pieces 45 l).length ≤ 2) :
    ∃ a b : List UInt8, (pieces 45 l)[0]? = some a ∧ (pieces 45 l)[(pieces 45 l).length - 1]? = some b ∧ 1 ≤ (pieces 45 l).length ∧
      ((∃ p : Nat × Nat, rowP size l = some p ∧ dg ((size : Int) - 1) a = p.1 ∧ dg ((size : Int) - 1) b = p.2 ∧ p.1 ≤ p.2 ∧ p.2 < size) ∨
       (rowP size l = none ∧ (dg ((size : Int) - 1) a < 0 ∨ dg ((size : Int) - 1) b < 0 ∨ dg ((size : Int) - 1) b < dg ((size : Int) - 1) a))) := by
  have key : ∀ a b : List UInt8, (∀ x y, num a = some x → num b = some y → rowP size l = if x ≤ y ∧ y < size then some (x, y) else none) → ((num a = none ∨ num b = none) → rowP size l = none) →
      ((∃ p : Nat × Nat, rowP size l = some p ∧ dg ((size : Int) - 1) a = p.1 ∧ dg ((size : Int) - 1) b = p.2 ∧ p.1 ≤ p.2 ∧ p.2 < size) ∨
       (rowP size l = none ∧ (dg ((size : Int) - 1) a < 0 ∨ dg ((size : Int) - 1) b < 0 ∨ dg ((size : Int) - 1) b < dg ((size : Int) - 1) a))) := by
    intro a b h1 h2
    rcases dg_cases ((size : Int) - 1) a with ⟨x, ex, bx, gx⟩ | ⟨gx, ex⟩
    · rcases dg_cases ((size : Int) - 1) b with ⟨y, ey, by', gy⟩ | ⟨gy, ey⟩
      · have hr := h1 x y ex ey
        by_cases hc : x ≤ y ∧ y < size
        · rw [if_pos hc] at hr
          exact Or.inl ⟨(x, y), hr, gx, gy, hc.1, hc.2⟩
        · rw [if_neg hc] at hr
          exact Or.inr ⟨hr, Or.inr (Or.inr (by rw [gx, gy]; omega))⟩
      · refine Or.inr ⟨?_, Or.inr (Or.inl (by rw [gy]; decide))⟩
        cases hb : num b with
        | none => exact h2 (Or.inr hb)
        | some y =>
          have := ey y hb
          rw [h1 x y ex hb, if_neg (by omega)]
    · refine Or.inr ⟨?_, Or.inl (by rw [gx]; decide)⟩
      cases ha : num a with
      | none => exact h2 (Or.inl ha)
      | some x =>
        have := ex x ha
        cases hb : num b with
        | none => exact h2 (Or.inr hb)
        | some y => rw [h1 x y ha hb, if_neg (by omega)]
  rcases pieces_cases 45 l with ⟨hl, h1 | ⟨a, b, h1, h2⟩⟩ | ⟨a, b, h1, _, h3⟩
  · have e : pieces 45 l = [l] := by rw [pieces_spl, spl_no 45 l (brk_none 45 l h1)]
    rw [e]
    refine ⟨l, l, rfl, rfl, Nat.le_refl _, key l l ?_ ?_⟩
    · intro x y hx hy
      unfold rowP
      rw [h1]
      simp only [hx]
      rw [hx] at hy
      obtain rfl := Option.some.inj hy
      simp
    · intro hn
      unfold rowP
      rw [h1]
      have : num l = none := by rcases hn with h | h <;> exact h
      simp only [this]
  · obtain ⟨e1, e2⟩ := brk_some 45 l a b h1
    have h3 : 0 < b.count 45 := List.count_pos_iff.2 h2
    rw [pieces_len, e1, List.count_append, List.count_cons_self] at h hl
    omega
  · rw [h3]
    refine ⟨a, b, rfl, rfl, by simp, key a b ?_ ?_⟩
    · intro x y hx hy
      unfold rowP
      rw [h1]
      simp only [hx, hy]
    · intro hn
      unfold rowP
      rw [h1]
      simp only
      rcases hn with h | h
      · rw [h]
      · rw [h]; cases num a <;> rfl

/-- Bits set from lo on, one more. -/
theorem or_step (z lo n : Nat) (h : lo ≤ n) : (z ||| (2 ^ n - 2 ^ lo)) ||| 2 ^ n = z ||| (2 ^ (n + 1) - 2 ^ lo) := by
  apply Nat.eq_of_testBit_eq
  intro i
  have e : ∀ m, lo ≤ m → (2 ^ m - 2 ^ lo).testBit i = (decide (lo ≤ i) && decide (i < m)) := fun m hm => by
    rw [show 2 ^ m - 2 ^ lo = (2 ^ (m - lo) - 1) * 2 ^ lo by rw [Nat.sub_mul, ← Nat.pow_add, show m - lo + lo = m by omega, Nat.one_mul], Nat.testBit_mul_two_pow, Nat.testBit_two_pow_sub_one]
    by_cases h1 : lo ≤ i
    · simp [h1]; omega
    · simp [h1]
  rw [Nat.testBit_or, Nat.testBit_or, Nat.testBit_or, e n h, e (n + 1) (by omega), Nat.testBit_two_pow]
  have k : (decide (lo ≤ i) && decide (i < n) || decide (n = i)) = (decide (lo ≤ i) && decide (i < n + 1)) := by
    rw [Bool.eq_iff_iff]
    simp
    omega
  rw [Bool.or_assoc, k]
end Go.Proofs.Mt


