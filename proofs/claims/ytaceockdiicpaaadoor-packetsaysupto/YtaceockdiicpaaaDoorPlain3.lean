/-
  Plain facts: how what the document's answer reads (pieces, numbers or -1) goes with what 'pkt' reads.
-/
import Derived.Test.YtaceockdiicpaaaDoorPlain2
namespace Go.Proofs.Pk

theorem pend_none (l : List UInt8) (h : brk 58 l = none) : (pend l).2.2 = false := by
  unfold pend; rw [h]
theorem pend_num (l a b : List UInt8) (h : brk 58 l = some (a, b)) : pend l = ((num a).getD 0, (num b).getD 0, (num a).isSome && (num b).isSome) := by
  unfold pend; rw [h]
theorem pend_more (l a b : List UInt8) (h : brk 58 l = some (a, b)) (hb : (58 : UInt8) ∈ b) : (pend l).2.2 = false := by
  rw [pend_num l a b h, num_bad 58 b (by decide) hb]
  simp
theorem pend_gt (l : List UInt8) (h : (62 : UInt8) ∈ l) : (pend l).2.2 = false := by
  cases hb : brk 58 l with
  | none => exact pend_none l hb
  | some q =>
    obtain ⟨a, b⟩ := q
    rw [pend_num l a b hb]
    rw [(brk_some 58 l a b hb).1] at h
    simp only [List.mem_append, List.mem_cons] at h
    rcases h with h | h | h
    · rw [num_bad 62 a (by decide) h]; simp
    · exact absurd h (by decide)
    · rw [num_bad 62 b (by decide) h]; simp
theorem pend_len (l : List UInt8) (h : (pieces 58 l).length ≠ 2) : (pend l).2.2 = false := by
  rcases pieces_cases 58 l with ⟨_, h1 | ⟨a, b, h1, h2⟩⟩ | ⟨a, b, _, _, h3⟩
  · exact pend_none l h1
  · exact pend_more l a b h1 h2
  · rw [h3] at h; exact absurd rfl h
theorem pkt_none (l : List UInt8) (h : brk 62 l = none) : pkt l = none := by
  unfold pkt; rw [h]
theorem pkt_bad (l f t : List UInt8) (h : brk 62 l = some (f, t)) (hb : (pend f).2.2 = false ∨ (pend t).2.2 = false) : pkt l = none := by
  unfold pkt; rw [h]
  simp only
  rw [if_neg]
  rintro ⟨h1, h2, _⟩
  rcases hb with hb | hb
  · rw [hb] at h1; cases h1
  · rw [hb] at h2; cases h2
theorem pkt_len (l : List UInt8) (h : (pieces 62 l).length ≠ 2) : pkt l = none := by
  rcases pieces_cases 62 l with ⟨_, h1 | ⟨a, b, h1, h2⟩⟩ | ⟨a, b, _, _, h3⟩
  · exact pkt_none l h1
  · exact pkt_bad l a b h1 (Or.inr (pend_gt b h2))
  · rw [h3] at h; exact absurd rfl h

theorem dg_cases (most : Int) (l : List UInt8) : (∃ n : Nat, num l = some n ∧ (n : Int) ≤ most ∧ dg most l = n) ∨ (dg most l = -1 ∧ ∀ n, num l = some n → ¬ (n : Int) ≤ most) := by
  unfold dg
  cases h : num l with
  | none => right; exact ⟨rfl, fun n e => by cases e⟩
  | some n =>
    by_cases hn : (n : Int) ≤ most
    · left; exact ⟨n, rfl, hn, by simp [hn]⟩
    · right
      refine ⟨by simp [hn], fun m e => ?_⟩
      obtain rfl := Option.some.inj e
      exact hn

theorem pkt_four (l f t a b c d : List UInt8) (h : brk 62 l = some (f, t)) (h1 : brk 58 f = some (a, b)) (h2 : brk 58 t = some (c, d)) :
    (∃ n1 n2 m1 m2 : Nat, pkt l = some (n1, n2, m1, m2) ∧ (n1 < 16 ∧ n2 < 16 ∧ m1 < 8 ∧ m2 < 8) ∧ dg 15 a = n1 ∧ dg 15 c = n2 ∧ dg 7 b = m1 ∧ dg 7 d = m2) ∨
    (¬ ((0 ≤ dg 15 a ∧ dg 15 a < 16) ∧ (0 ≤ dg 15 c ∧ dg 15 c < 16) ∧ (0 ≤ dg 7 b ∧ dg 7 b < 8) ∧ (0 ≤ dg 7 d ∧ dg 7 d < 8)) ∧ pkt l = none) := by
  have key : ∀ x, pkt l = some x → ∃ n1 m1 n2 m2, num a = some n1 ∧ num b = some m1 ∧ num c = some n2 ∧ num d = some m2 ∧ n1 < 16 ∧ n2 < 16 ∧ m1 < 8 ∧ m2 < 8 ∧ x = (n1, n2, m1, m2) := by
    intro x hx
    unfold pkt at hx
    rw [h] at hx
    simp only [pend_num f a b h1, pend_num t c d h2] at hx
    split at hx
    · rename_i hc
      obtain ⟨c1, c2, c3, c4, c5, c6⟩ := hc
      simp only [Bool.and_eq_true, Option.isSome_iff_exists] at c1 c2
      obtain ⟨⟨n1, e1⟩, ⟨m1, e2⟩⟩ := c1
      obtain ⟨⟨n2, e3⟩, ⟨m2, e4⟩⟩ := c2
      rw [e1] at c3 hx
      rw [e2] at c5 hx
      rw [e3] at c4 hx
      rw [e4] at c6 hx
      simp only [Option.getD_some] at c3 c4 c5 c6 hx
      exact ⟨n1, m1, n2, m2, e1, e2, e3, e4, c3, c4, c5, c6, (Option.some.inj hx).symm⟩
    · cases hx
  have none_of : ∀ (p : Prop), (∀ n1 m1 n2 m2, num a = some n1 → num b = some m1 → num c = some n2 → num d = some m2 → n1 < 16 → n2 < 16 → m1 < 8 → m2 < 8 → False) → pkt l = none := by
    intro _ hn
    cases hp : pkt l with
    | none => rfl
    | some x =>
      obtain ⟨n1, m1, n2, m2, e1, e2, e3, e4, c3, c4, c5, c6, _⟩ := key x hp
      exact (hn n1 m1 n2 m2 e1 e2 e3 e4 c3 c4 c5 c6).elim
  rcases dg_cases 15 a with ⟨n1, e1, b1, g1⟩ | ⟨g1, e1⟩
  · rcases dg_cases 15 c with ⟨n2, e2, b2, g2⟩ | ⟨g2, e2⟩
    · rcases dg_cases 7 b with ⟨m1, e3, b3, g3⟩ | ⟨g3, e3⟩
      · rcases dg_cases 7 d with ⟨m2, e4, b4, g4⟩ | ⟨g4, e4⟩
        · left
          refine ⟨n1, n2, m1, m2, ?_, ⟨by omega, by omega, by omega, by omega⟩, g1, g2, g3, g4⟩
          unfold pkt
          rw [h]
          simp only [pend_num f a b h1, pend_num t c d h2, e1, e2, e3, e4, Option.getD_some, Option.isSome_some, Bool.and_self, true_and]
          rw [if_pos ⟨by omega, by omega, by omega, by omega⟩]
        · right
          exact ⟨by rw [g4]; omega, none_of True fun _ _ _ m2 _ _ _ k _ _ _ c => e4 m2 k (by omega)⟩
      · right
        exact ⟨by rw [g3]; omega, none_of True fun _ m1 _ _ _ k _ _ _ _ c _ => e3 m1 k (by omega)⟩
    · right
      exact ⟨by rw [g2]; omega, none_of True fun _ _ n2 _ _ _ k _ _ c _ _ => e2 n2 k (by omega)⟩
  · right
    exact ⟨by rw [g1]; omega, none_of True fun n1 _ _ _ k _ _ _ c _ _ _ => e1 n1 k (by omega)⟩

end Go.Proofs.Pk
