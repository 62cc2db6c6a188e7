/-
  Plain facts: a number that is at most some other, or -1 (the document's answer tells a text's number so); the pieces of a text between bytes of one sort, and how they go with parting it at the first one.
-/
import Derived.Test.YtkckgoeemfjkkaaDoorPlain
namespace Go.Proofs.Pk

/-- A text's number, if it is at most so great; else -1. -/
def dg (most : Int) (l : List UInt8) : Int :=
  match num l with
  | none => -1
  | some n => if (n : Int) ≤ most then n else -1

theorem dg_stop (most : Int) (l : List UInt8) (h : digs 0 l = none) : dg most l = -1 := by
  unfold dg num
  split
  · rfl
  · rename_i n hn
    split at hn
    · cases hn
    · rw [h] at hn; cases hn
theorem dg_long (most : Int) (l : List UInt8) (h : l.length = 0 ∨ 4 < l.length) : dg most l = -1 := by
  unfold dg num
  rw [if_pos (by rcases h with h | h; exact Or.inl h; exact Or.inr (Or.inl h))]
theorem dg_big (most : Int) (l : List UInt8) (n : Nat) (h : digs 0 l = some n) (hn : most < n) : dg most l = -1 := by
  unfold dg num
  split
  · rfl
  · rename_i m hm
    split at hm
    · cases hm
    · rw [h] at hm
      obtain rfl := Option.some.inj hm
      rw [if_neg (by omega)]
theorem dg_nought (most : Int) (l : List UInt8) (h : 1 < l.length) (hz : l.head? = some 48) : dg most l = -1 := by
  unfold dg num
  rw [if_pos (Or.inr (Or.inr ⟨h, hz⟩))]
theorem dg_ok (most : Int) (l : List UInt8) (n : Nat) (h0 : 0 < l.length) (h4 : l.length ≤ 4) (hz : ¬ (1 < l.length ∧ l.head? = some 48)) (h : digs 0 l = some n) (hn : (n : Int) ≤ most) : dg most l = n := by
  unfold dg num
  rw [if_neg (by
    rintro (k | k | k)
    · omega
    · omega
    · exact hz k), h]
  simp [hn]

/-- One byte more: a new piece, or the last one grown. -/
def step (c : UInt8) (o : List (List UInt8)) (x : UInt8) : List (List UInt8) :=
  if x = c then o ++ [[]] else o.dropLast ++ [o.getLastD [] ++ [x]]
/-- The pieces of a text between bytes of one sort. -/
def pieces (c : UInt8) (l : List UInt8) : List (List UInt8) := l.foldl (step c) [[]]

theorem pieces_snoc (c : UInt8) (l : List UInt8) (x : UInt8) : pieces c (l ++ [x]) = step c (pieces c l) x := by
  unfold pieces
  rw [List.foldl_append]
  rfl

theorem step_len (c : UInt8) (o : List (List UInt8)) (x : UInt8) (h : 0 < o.length) : (step c o x).length = o.length + if x = c then 1 else 0 := by
  unfold step
  split
  · simp
  · simp; omega

theorem fold_len (c : UInt8) (l : List UInt8) (o : List (List UInt8)) (h : 0 < o.length) : (l.foldl (step c) o).length = o.length + l.count c := by
  induction l generalizing o with
  | nil => simp
  | cons x r ih =>
    have h1 := step_len c o x h
    rw [List.foldl_cons, ih _ (by rw [h1]; omega), h1, List.count_cons]
    by_cases hx : x = c
    · simp [hx]; omega
    · simp [hx]

theorem pieces_len (c : UInt8) (l : List UInt8) : (pieces c l).length = 1 + l.count c := by
  unfold pieces
  rw [fold_len c l [[]] (by simp)]
  rfl

theorem fold_no (c : UInt8) (l : List UInt8) (o : List (List UInt8)) (cur : List UInt8) (h : c ∉ l) : l.foldl (step c) (o ++ [cur]) = o ++ [cur ++ l] := by
  induction l generalizing cur with
  | nil => simp
  | cons x r ih =>
    have h1 : ¬ x = c := fun e => h (by simp [e])
    have h2 : c ∉ r := fun e => h (by simp [e])
    have h3 : step c (o ++ [cur]) x = o ++ [cur ++ [x]] := by
      unfold step
      rw [if_neg h1]
      simp
    rw [List.foldl_cons, h3, ih _ h2]
    simp

theorem pieces_two (c : UInt8) (a b : List UInt8) (ha : c ∉ a) (hb : c ∉ b) : pieces c (a ++ c :: b) = [a, b] := by
  unfold pieces
  rw [List.foldl_append]
  have h1 := fold_no c a [] [] ha
  simp only [List.nil_append] at h1
  rw [h1, List.foldl_cons]
  have h2 : step c [a] c = [a] ++ [[]] := by unfold step; rw [if_pos rfl]
  rw [h2, fold_no c b [a] [] hb]
  simp

/-- Two pieces just if there is one such byte. -/
theorem pieces_cases (c : UInt8) (l : List UInt8) : ((pieces c l).length ≠ 2 ∧ (brk c l = none ∨ ∃ a b, brk c l = some (a, b) ∧ c ∈ b)) ∨ ∃ a b, brk c l = some (a, b) ∧ c ∉ b ∧ pieces c l = [a, b] := by
  cases h : brk c l with
  | none =>
    left
    refine ⟨?_, Or.inl rfl⟩
    rw [pieces_len, List.count_eq_zero.2 (brk_none c l h)]
    omega
  | some q =>
    obtain ⟨a, b⟩ := q
    obtain ⟨h1, h2⟩ := brk_some c l a b h
    by_cases hb : c ∈ b
    · left
      refine ⟨?_, Or.inr ⟨a, b, rfl, hb⟩⟩
      have h3 : 0 < b.count c := List.count_pos_iff.2 hb
      rw [pieces_len, h1, List.count_append, List.count_cons_self]
      omega
    · right
      refine ⟨a, b, rfl, hb, ?_⟩
      rw [h1]
      exact pieces_two c a b h2 hb

theorem digs_bad (c : UInt8) (l : List UInt8) (n : Nat) (hc : ¬ (48 ≤ c.toNat ∧ c.toNat ≤ 57)) (h : c ∈ l) : digs n l = none := by
  induction l generalizing n with
  | nil => cases h
  | cons x r ih =>
    rw [digs]
    split
    · rename_i hx
      rcases List.mem_cons.1 h with h1 | h1
      · subst h1; exact absurd hx hc
      · exact ih _ h1
    · rfl

theorem num_bad (c : UInt8) (l : List UInt8) (hc : ¬ (48 ≤ c.toNat ∧ c.toNat ≤ 57)) (h : c ∈ l) : num l = none := by
  unfold num
  split
  · rfl
  · exact digs_bad c l 0 hc h

theorem fold_le (c : UInt8) (l : List UInt8) (o : List (List UInt8)) (m : Nat) (h : ∀ p ∈ o, p.length ≤ m) : ∀ p ∈ l.foldl (step c) o, p.length ≤ m + l.length := by
  induction l generalizing o m with
  | nil => simpa using h
  | cons x r ih =>
    intro p hp
    rw [List.foldl_cons] at hp
    have k := ih (step c o x) (m + 1) (by
      intro q hq
      unfold step at hq
      split at hq
      · rcases List.mem_append.1 hq with h1 | h1
        · have := h q h1; omega
        · simp at h1; subst h1; simp
      · rcases List.mem_append.1 hq with h1 | h1
        · have := h q (List.dropLast_subset o h1); omega
        · simp only [List.mem_singleton] at h1
          subst h1
          rw [List.length_append, List.length_singleton]
          have : (o.getLastD []).length ≤ m := by
            rw [List.getLastD_eq_getLast?]
            cases hl : o.getLast? with
            | none => simp
            | some y => exact h y (List.mem_of_getLast? hl)
          omega) p hp
    rw [List.length_cons]
    omega

theorem pieces_le (c : UInt8) (l : List UInt8) : ∀ p ∈ pieces c l, p.length ≤ l.length := by
  intro p hp
  have := fold_le c l [[]] 0 (by simp) p hp
  omega

/-- The pieces are a list and a last one. -/
theorem pieces_last (c : UInt8) (l : List UInt8) : ∃ ini last, pieces c l = ini ++ [last] ∧ last.length ≤ l.length ∧ ini.length ≤ l.length := by
  have h0 := pieces_len c l
  have hne : pieces c l ≠ [] := fun e => by rw [e] at h0; simp at h0; omega
  refine ⟨(pieces c l).dropLast, (pieces c l).getLast hne, (List.dropLast_concat_getLast hne).symm, pieces_le c l _ (List.getLast_mem hne), ?_⟩
  rw [List.length_dropLast, h0]
  have := List.count_le_length (a := c) (l := l)
  omega

theorem step_hit (c : UInt8) (o : List (List UInt8)) : step c o c = o ++ [[]] := by unfold step; rw [if_pos rfl]
theorem step_miss (c x : UInt8) (ini : List (List UInt8)) (last : List UInt8) (h : x ≠ c) : step c (ini ++ [last]) x = ini ++ [last ++ [x]] := by
  unfold step
  rw [if_neg h]
  simp

/-- What the document's answer reads in an end of a packet: its pieces, if they are two; each a number that is at most so great, else -1. -/
def rend (l : List UInt8) : Option (List UInt8 × List UInt8) :=
  match brk 58 l with
  | none => none
  | some (a, b) => if (58 : UInt8) ∈ b then none else some (a, b)

end Go.Proofs.Pk


