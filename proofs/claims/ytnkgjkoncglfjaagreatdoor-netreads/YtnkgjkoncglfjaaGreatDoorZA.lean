/-
  Plain facts on lists of bytes: how a text is parted at a byte, how a number of one to four digits is read, and that reading and writing a packet's text undo each other. No program stands in this text.
-/
import Derived.Lib.ItoaNum
import Derived.Lib.Bytealg
import Derived.Lib.Join
namespace Go.Proofs.Pk

/-- A list parted at the first c. -/
def brk (c : UInt8) : List UInt8 → Option (List UInt8 × List UInt8)
  | [] => none
  | x :: r => if x = c then some ([], r) else (brk c r).map fun p => (x :: p.1, p.2)

theorem brk_some (c : UInt8) (l a b : List UInt8) (h : brk c l = some (a, b)) : l = a ++ c :: b ∧ c ∉ a := by
  induction l generalizing a b with
  | nil => simp [brk] at h
  | cons x r ih =>
    unfold brk at h
    by_cases hx : x = c
    · rw [if_pos hx] at h
      simp only [Option.some.injEq, Prod.mk.injEq] at h
      obtain ⟨rfl, rfl⟩ := h
      simp [hx]
    · rw [if_neg hx] at h
      cases hb : brk c r with
      | none => rw [hb] at h; simp at h
      | some p =>
        rw [hb] at h
        simp only [Option.map_some, Option.some.injEq, Prod.mk.injEq] at h
        obtain ⟨rfl, rfl⟩ := h
        obtain ⟨h1, h2⟩ := ih p.1 p.2 (by rw [hb])
        constructor
        · rw [List.cons_append, ← h1]
        · intro hm
          rcases List.mem_cons.1 hm with h3 | h3
          · exact hx h3.symm
          · exact h2 h3

theorem brk_mk (c : UInt8) (a b : List UInt8) (h : c ∉ a) : brk c (a ++ c :: b) = some (a, b) := by
  induction a with
  | nil => simp [brk]
  | cons x r ih =>
    have h1 : ¬ x = c := fun e => h (by simp [e])
    have h2 : c ∉ r := fun e => h (by simp [e])
    rw [List.cons_append, brk, if_neg h1, ih h2]
    rfl

theorem brk_none (c : UInt8) (l : List UInt8) (h : brk c l = none) : c ∉ l := by
  induction l with
  | nil => simp
  | cons x r ih =>
    unfold brk at h
    by_cases hx : x = c
    · rw [if_pos hx] at h; cases h
    · rw [if_neg hx] at h
      intro hm
      rcases List.mem_cons.1 hm with h3 | h3
      · exact hx h3.symm
      · exact ih (by simpa using h) h3

theorem indexByte_none (c : UInt8) (l : List UInt8) (h : brk c l = none) : Lib.indexByte l c = -1 := by
  have hn := brk_none c l h
  clear h
  induction l with
  | nil => rfl
  | cons x r ih =>
    have h1 : ¬ x = c := fun e => hn (by simp [e])
    have h2 : c ∉ r := fun e => hn (by simp [e])
    unfold Lib.indexByte
    simp [h1, ih h2]

theorem indexByte_at (c : UInt8) (a b : List UInt8) (h : c ∉ a) : Lib.indexByte (a ++ c :: b) c = a.length := by
  induction a with
  | nil => simp [Lib.indexByte]
  | cons x r ih =>
    have h1 : ¬ x = c := fun e => h (by simp [e])
    have h2 : c ∉ r := fun e => h (by simp [e])
    rw [List.cons_append, Lib.indexByte, ih h2]
    have h3 : ¬ ((r.length : Int) = -1) := by omega
    simp [h1, h3]

/-- Digits, read on from a number. -/
def digs (n : Nat) : List UInt8 → Option Nat
  | [] => some n
  | c :: r => if 48 ≤ c.toNat ∧ c.toNat ≤ 57 then digs (10 * n + (c.toNat - 48)) r else none

/-- A number in a text: one to four digits, without noughts ahead. -/
def num (l : List UInt8) : Option Nat :=
  if l.length = 0 ∨ 4 < l.length ∨ (1 < l.length ∧ l.head? = some 48) then none else digs 0 l

/-- A number below 100, written. -/
def dec (n : Nat) : List UInt8 := if n < 10 then [UInt8.ofNat (48 + n)] else [UInt8.ofNat (48 + n / 10), UInt8.ofNat (48 + n % 10)]

theorem decDigits_dec (n : Nat) (h : n < 100) : Lib.decDigits n = dec n := by
  unfold dec
  by_cases h1 : n < 10
  · rw [Lib.decDigits, dif_pos h1, if_pos h1]
  · rw [Lib.decDigits, dif_neg h1, if_neg h1, Lib.decDigits, dif_pos (by omega)]
    rfl

theorem dec_len (n : Nat) : (dec n).length ≤ 2 := by
  unfold dec
  split <;> simp

theorem num_dec (n : Nat) (h : n < 16) : num (dec n) = some n := by
  have : ∀ k : Fin 16, num (dec k.val) = some k.val := by decide
  exact this ⟨n, h⟩

theorem dec_no (n : Nat) (h : n < 16) : (58 : UInt8) ∉ dec n ∧ (62 : UInt8) ∉ dec n := by
  have : ∀ k : Fin 16, (58 : UInt8) ∉ dec k.val ∧ (62 : UInt8) ∉ dec k.val := by decide
  exact this ⟨n, h⟩

theorem ofNat_toNat (c : UInt8) (n : Nat) (h : n = c.toNat) : UInt8.ofNat n = c := by
  subst h; simp

theorem dec_num (l : List UInt8) (n : Nat) (h : num l = some n) (hn : n < 16) : dec n = l := by
  unfold num at h
  by_cases hc : l.length = 0 ∨ 4 < l.length ∨ (1 < l.length ∧ l.head? = some 48)
  · rw [if_pos hc] at h; cases h
  · rw [if_neg hc] at h
    have e48 : ∀ c : UInt8, c ≠ 48 → c.toNat ≠ 48 := by
      intro c hc2 e
      exact hc2 (UInt8.toNat_inj.1 e)
    match l, hc, h with
    | [], hc, _ => exact absurd (Or.inl rfl) hc
    | [a], _, h =>
      simp only [digs] at h
      split at h
      · simp only [Option.some.injEq] at h
        unfold dec
        rw [if_pos (by omega), ofNat_toNat a _ (by omega)]
      · cases h
    | [a, b], hc, h =>
      have ha : a ≠ 48 := fun e => hc (Or.inr (Or.inr ⟨by simp, by simp [e]⟩))
      have := e48 a ha
      simp only [digs] at h
      split at h
      · split at h
        · simp only [Option.some.injEq] at h
          unfold dec
          rw [if_neg (by omega), ofNat_toNat a _ (by omega), ofNat_toNat b _ (by omega)]
        · cases h
      · cases h
    | [a, b, c], hc, h =>
      have ha : a ≠ 48 := fun e => hc (Or.inr (Or.inr ⟨by simp, by simp [e]⟩))
      have := e48 a ha
      simp only [digs] at h
      split at h
      · split at h
        · split at h
          · simp only [Option.some.injEq] at h; omega
          · cases h
        · cases h
      · cases h
    | [a, b, c, d], hc, h =>
      have ha : a ≠ 48 := fun e => hc (Or.inr (Or.inr ⟨by simp, by simp [e]⟩))
      have := e48 a ha
      simp only [digs] at h
      split at h
      · split at h
        · split at h
          · split at h
            · simp only [Option.some.injEq] at h; omega
            · cases h
          · cases h
        · cases h
      · cases h
    | a :: b :: c :: d :: e :: r, hc, _ => exact absurd (Or.inr (Or.inl (by simp))) hc

/-- An end of a packet in a text: what is told, and whether it is one. -/
def pend (l : List UInt8) : Nat × Nat × Bool :=
  match brk 58 l with
  | none => (0, 0, false)
  | some (a, b) => ((num a).getD 0, (num b).getD 0, (num a).isSome && (num b).isSome)

/-- A packet's parts, in the order of the struct: Src, Dst, Sport, Dport. -/
def pkt (l : List UInt8) : Option (Nat × Nat × Nat × Nat) :=
  match brk 62 l with
  | none => none
  | some (f, t) =>
    if (pend f).2.2 = true ∧ (pend t).2.2 = true ∧ (pend f).1 < 16 ∧ (pend t).1 < 16 ∧ (pend f).2.1 < 8 ∧ (pend t).2.1 < 8 then some ((pend f).1, (pend t).1, (pend f).2.1, (pend t).2.1) else none

def txtEnd (a p : Nat) : List UInt8 := dec a ++ 58 :: dec p
theorem txtEnd_len (a p : Nat) : (txtEnd a p).length ≤ 5 := by
  have h1 := dec_len a
  have h2 := dec_len p
  unfold txtEnd
  simp only [List.length_append, List.length_cons]
  omega
def txt (s d sp dp : Nat) : List UInt8 := txtEnd s sp ++ 62 :: txtEnd d dp

theorem txt_len (s d sp dp : Nat) : (txt s d sp dp).length ≤ 11 := by
  have h1 := txtEnd_len s sp
  have h2 := txtEnd_len d dp
  unfold txt
  simp only [List.length_append, List.length_cons]
  omega

theorem pend_txt (a p : Nat) (ha : a < 16) (hp : p < 16) : pend (txtEnd a p) = (a, p, true) := by
  unfold pend txtEnd
  rw [brk_mk 58 _ _ (dec_no a ha).1]
  simp [num_dec a ha, num_dec p hp]

theorem txtEnd_no (a p : Nat) (ha : a < 16) (hp : p < 16) : (62 : UInt8) ∉ txtEnd a p := by
  unfold txtEnd
  simp [(dec_no a ha).2, (dec_no p hp).2]

theorem pkt_txt (s d sp dp : Nat) (h1 : s < 16) (h2 : d < 16) (h3 : sp < 8) (h4 : dp < 8) : pkt (txt s d sp dp) = some (s, d, sp, dp) := by
  unfold pkt txt
  rw [brk_mk 62 _ _ (txtEnd_no s sp h1 (by omega))]
  simp [pend_txt s sp h1 (by omega), pend_txt d dp h2 (by omega), h1, h2, h3, h4]

theorem txtEnd_pend (l : List UInt8) (h : (pend l).2.2 = true) (h1 : (pend l).1 < 16) (h2 : (pend l).2.1 < 16) : txtEnd (pend l).1 (pend l).2.1 = l := by
  unfold pend at h h1 h2 ⊢
  cases hb : brk 58 l with
  | none => rw [hb] at h; simp at h
  | some q =>
    obtain ⟨a, b⟩ := q
    rw [hb] at h h1 h2
    simp only [Bool.and_eq_true] at h
    simp only at h1 h2 ⊢
    cases ha : num a with
    | none => rw [ha] at h; simp at h
    | some x =>
      cases hb2 : num b with
      | none => rw [hb2] at h; simp at h
      | some y =>
        rw [ha] at h1
        rw [hb2] at h2
        simp only [Option.getD_some] at h1 h2 ⊢
        unfold txtEnd
        rw [dec_num a x ha h1, dec_num b y hb2 h2, ← (brk_some 58 l a b hb).1]

theorem txt_pkt (l : List UInt8) (s d sp dp : Nat) (h : pkt l = some (s, d, sp, dp)) : s < 16 ∧ d < 16 ∧ sp < 8 ∧ dp < 8 ∧ txt s d sp dp = l := by
  unfold pkt at h
  cases hb : brk 62 l with
  | none => rw [hb] at h; simp at h
  | some q =>
    obtain ⟨f, t⟩ := q
    rw [hb] at h
    simp only at h
    split at h
    · rename_i hc
      obtain ⟨c1, c2, c3, c4, c5, c6⟩ := hc
      simp only [Option.some.injEq, Prod.mk.injEq] at h
      obtain ⟨rfl, rfl, rfl, rfl⟩ := h
      refine ⟨c3, c4, c5, c6, ?_⟩
      unfold txt
      rw [txtEnd_pend f c1 c3 (by omega), txtEnd_pend t c2 c4 (by omega), ← (brk_some 62 l f t hb).1]
    · cases h

end Go.Proofs.Pk



namespace Go.Proofs.Pk

/-- A text's number, if it is at most so great; else -1. -/
def dg (most : Int) (l : List UInt8) : Int :=
  match num l with
  | none => -1
  | some n => if (n : Int) ≤ most then n else -1

theorem dg_stop (most : Int) (l : List UInt8) (h : digs 0 l = none) : dg most l = -1 := by
  unfold dg num
  split
  · rfl
  · rename_i n hn
    split at hn
    · cases hn
    · rw [h] at hn; cases hn
theorem dg_long (most : Int) (l : List UInt8) (h : l.length = 0 ∨ 4 < l.length) : dg most l = -1 := by
  unfold dg num
  rw [if_pos (by rcases h with h | h; exact Or.inl h; exact Or.inr (Or.inl h))]
theorem dg_big (most : Int) (l : List UInt8) (n : Nat) (h : digs 0 l = some n) (hn : most < n) : dg most l = -1 := by
  unfold dg num
  split
  · rfl
  · rename_i m hm
    split at hm
    · cases hm
    · rw [h] at hm
      obtain rfl := Option.some.inj hm
      rw [if_neg (by omega)]
theorem dg_nought (most : Int) (l : List UInt8) (h : 1 < l.length) (hz : l.head? = some 48) : dg most l = -1 := by
  unfold dg num
  rw [if_pos (Or.inr (Or.inr ⟨h, hz⟩))]
theorem dg_ok (most : Int) (l : List UInt8) (n : Nat) (h0 : 0 < l.length) (h4 : l.length ≤ 4) (hz : ¬ (1 < l.length ∧ l.head? = some 48)) (h : digs 0 l = some n) (hn : (n : Int) ≤ most) : dg most l = n := by
  unfold dg num
  rw [if_neg (by
    rintro (k | k | k)
    · omega
    · omega
    · exact hz k), h]
  simp [hn]

/-- One byte more: a new piece, or the last one grown. -/
def step (c : UInt8) (o : List (List UInt8)) (x : UInt8) : List (List UInt8) :=
  if x = c then o ++ [[]] else o.dropLast ++ [o.getLastD [] ++ [x]]
/-- The pieces of a text between bytes of one sort. -/
def pieces (c : UInt8) (l : List UInt8) : List (List UInt8) := l.foldl (step c) [[]]

theorem pieces_snoc (c : UInt8) (l : List UInt8) (x : UInt8) : pieces c (l ++ [x]) = step c (pieces c l) x := by
  unfold pieces
  rw [List.foldl_append]
  rfl

theorem step_len (c : UInt8) (o : List (List UInt8)) (x : UInt8) (h : 0 < o.length) : (step c o x).length = o.length + if x = c then 1 else 0 := by
  unfold step
  split
  · simp
  · simp; omega

theorem fold_len (c : UInt8) (l : List UInt8) (o : List (List UInt8)) (h : 0 < o.length) : (l.foldl (step c) o).length = o.length + l.count c := by
  induction l generalizing o with
  | nil => simp
  | cons x r ih =>
    have h1 := step_len c o x h
    rw [List.foldl_cons, ih _ (by rw [h1]; omega), h1, List.count_cons]
    by_cases hx : x = c
    · simp [hx]; omega
    · simp [hx]

theorem pieces_len (c : UInt8) (l : List UInt8) : (pieces c l).length = 1 + l.count c := by
  unfold pieces
  rw [fold_len c l [[]] (by simp)]
  rfl

theorem fold_no (c : UInt8) (l : List UInt8) (o : List (List UInt8)) (cur : List UInt8) (h : c ∉ l) : l.foldl (step c) (o ++ [cur]) = o ++ [cur ++ l] := by
  induction l generalizing cur with
  | nil => simp
  | cons x r ih =>
    have h1 : ¬ x = c := fun e => h (by simp [e])
    have h2 : c ∉ r := fun e => h (by simp [e])
    have h3 : step c (o ++ [cur]) x = o ++ [cur ++ [x]] := by
      unfold step
      rw [if_neg h1]
      simp
    rw [List.foldl_cons, h3, ih _ h2]
    simp

theorem pieces_two (c : UInt8) (a b : List UInt8) (ha : c ∉ a) (hb : c ∉ b) : pieces c (a ++ c :: b) = [a, b] := by
  unfold pieces
  rw [List.foldl_append]
  have h1 := fold_no c a [] [] ha
  simp only [List.nil_append] at h1
  rw [h1, List.foldl_cons]
  have h2 : step c [a] c = [a] ++ [[]] := by unfold step; rw [if_pos rfl]
  rw [h2, fold_no c b [a] [] hb]
  simp

/-- Two pieces just if there is one such byte. -/
theorem pieces_cases (c : UInt8) (l : List UInt8) : ((pieces c l).length ≠ 2 ∧ (brk c l = none ∨ ∃ a b, brk c l = some (a, b) ∧ c ∈ b)) ∨ ∃ a b, brk c l = some (a, b) ∧ c ∉ b ∧ pieces c l = [a, b] := by
  cases h : brk c l with
  | none =>
    left
    refine ⟨?_, Or.inl rfl⟩
    rw [pieces_len, List.count_eq_zero.2 (brk_none c l h)]
    omega
  | some q =>
    obtain ⟨a, b⟩ := q
    obtain ⟨h1, h2⟩ := brk_some c l a b h
    by_cases hb : c ∈ b
    · left
      refine ⟨?_, Or.inr ⟨a, b, rfl, hb⟩⟩
      have h3 : 0 < b.count c := List.count_pos_iff.2 hb
      rw [pieces_len, h1, List.count_append, List.count_cons_self]
      omega
    · right
      refine ⟨a, b, rfl, hb, ?_⟩
      rw [h1]
      exact pieces_two c a b h2 hb

theorem digs_bad (c : UInt8) (l : List UInt8) (n : Nat) (hc : ¬ (48 ≤ c.toNat ∧ c.toNat ≤ 57)) (h : c ∈ l) : digs n l = none := by
  induction l generalizing n with
  | nil => cases h
  | cons x r ih =>
    rw [digs]
    split
    · rename_i hx
      rcases List.mem_cons.1 h with h1 | h1
      · subst h1; exact absurd hx hc
      · exact ih _ h1
    · rfl

theorem num_bad (c : UInt8) (l : List UInt8) (hc : ¬ (48 ≤ c.toNat ∧ c.toNat ≤ 57)) (h : c ∈ l) : num l = none := by
  unfold num
  split
  · rfl
  · exact digs_bad c l 0 hc h

theorem fold_le (c : UInt8) (l : List UInt8) (o : List (List UInt8)) (m : Nat) (h : ∀ p ∈ o, p.length ≤ m) : ∀ p ∈ l.foldl (step c) o, p.length ≤ m + l.length := by
  induction l generalizing o m with
  | nil => simpa using h
  | cons x r ih =>
    intro p hp
    rw [List.foldl_cons] at hp
    have k := ih (step c o x) (m + 1) (by
      intro q hq
      unfold step at hq
      split at hq
      · rcases List.mem_append.1 hq with h1 | h1
        · have := h q h1; omega
        · simp at h1; subst h1; simp
      · rcases List.mem_append.1 hq with h1 | h1
        · have := h q (List.dropLast_subset o h1); omega
        · simp only [List.mem_singleton] at h1
          subst h1
          rw [List.length_append, List.length_singleton]
          have : (o.getLastD []).length ≤ m := by
            rw [List.getLastD_eq_getLast?]
            cases hl : o.getLast? with
            | none => simp
            | some y => exact h y (List.mem_of_getLast? hl)
          omega) p hp
    rw [List.length_cons]
    omega

theorem pieces_le (c : UInt8) (l : List UInt8) : ∀ p ∈ pieces c l, p.length ≤ l.length := by
  intro p hp
  have := fold_le c l [[]] 0 (by simp) p hp
  omega

/-- The pieces are a list and a last one. -/
theorem pieces_last (c : UInt8) (l : List UInt8) : ∃ ini last, pieces c l = ini ++ [last] ∧ last.length ≤ l.length ∧ ini.length ≤ l.length := by
  have h0 := pieces_len c l
  have hne : pieces c l ≠ [] := fun e => by rw [e] at h0; simp at h0; omega
  refine ⟨(pieces c l).dropLast, (pieces c l).getLast hne, (List.dropLast_concat_getLast hne).symm, pieces_le c l _ (List.getLast_mem hne), ?_⟩
  rw [List.length_dropLast, h0]
  have := List.count_le_length (a := c) (l := l)
  omega

theorem step_hit (c : UInt8) (o : List (List UInt8)) : step c o c = o ++ [[]] := by unfold step; rw [if_pos rfl]
theorem step_miss (c x : UInt8) (ini : List (List UInt8)) (last : List UInt8) (h : x ≠ c) : step c (ini ++ [last]) x = ini ++ [last ++ [x]] := by
  unfold step
  rw [if_neg h]
  simp

/-- What the document's answer reads in an end of a packet: its pieces, if they are two; each a number that is at most so great, else -1. -/
def rend (l : List UInt8) : Option (List UInt8 × List UInt8) :=
  match brk 58 l with
  | none => none
  | some (a, b) => if (58 : UInt8) ∈ b then none else some (a, b)

end Go.Proofs.Pk



namespace Go.Proofs.Mt
open Go.Proofs.Pk

/-- The pieces of a text between bytes of one sort, from the left. -/
def spl (c : UInt8) : List UInt8 → List (List UInt8)
  | [] => [[]]
  | x :: r => if x = c then [] :: spl c r else
    match spl c r with
    | [] => [[x]]
    | h :: t => (x :: h) :: t

theorem spl_ne (c : UInt8) (l : List UInt8) : ∃ h t, spl c l = h :: t := by
  cases l with
  | nil => exact ⟨_, _, rfl⟩
  | cons x r =>
    unfold spl
    split
    · exact ⟨_, _, rfl⟩
    · split <;> exact ⟨_, _, rfl⟩

theorem fold_spl (c : UInt8) (l : List UInt8) (o : List (List UInt8)) (cur h : List UInt8) (t : List (List UInt8)) (e : spl c l = h :: t) :
    l.foldl (Pk.step c) (o ++ [cur]) = o ++ (cur ++ h) :: t := by
  induction l generalizing o cur h t with
  | nil =>
    simp only [spl, List.cons.injEq] at e
    obtain ⟨rfl, rfl⟩ := e
    simp
  | cons x r ih =>
    obtain ⟨h2, t2, e2⟩ := spl_ne c r
    unfold spl at e
    rw [e2] at e
    by_cases hx : x = c
    · rw [if_pos hx] at e
      simp only [List.cons.injEq] at e
      obtain ⟨rfl, rfl⟩ := e
      have h3 : Pk.step c (o ++ [cur]) x = (o ++ [cur]) ++ [[]] := by unfold Pk.step; rw [if_pos hx]
      rw [List.foldl_cons, h3, ih (o ++ [cur]) [] h2 t2 e2]
      simp
    · rw [if_neg hx] at e
      simp only [List.cons.injEq] at e
      obtain ⟨rfl, rfl⟩ := e
      have h3 : Pk.step c (o ++ [cur]) x = o ++ [cur ++ [x]] := by
        unfold Pk.step
        rw [if_neg hx]
        simp
      rw [List.foldl_cons, h3, ih o (cur ++ [x]) h2 t2 e2]
      simp

theorem pieces_spl (c : UInt8) (l : List UInt8) : pieces c l = spl c l := by
  obtain ⟨h, t, e⟩ := spl_ne c l
  have := fold_spl c l [] [] h t e
  rw [e]
  unfold pieces
  simpa using this

theorem spl_no (c : UInt8) (l : List UInt8) (h : c ∉ l) : spl c l = [l] := by
  rw [← pieces_spl]
  have := fold_no c l [] [] h
  unfold pieces
  simpa using this

theorem spl_cons (c : UInt8) (a b : List UInt8) (h : c ∉ a) : spl c (a ++ c :: b) = a :: spl c b := by
  induction a with
  | nil => simp [spl]
  | cons x r ih =>
    have h1 : ¬ x = c := fun e => h (by simp [e])
    have h2 : c ∉ r := fun e => h (by simp [e])
    rw [List.cons_append, spl, if_neg h1, ih h2]

theorem spl_join (c : UInt8) (x : List UInt8) (r : List (List UInt8)) (hx : c ∉ x) (hr : ∀ y ∈ r, c ∉ y) : spl c (Lib.join (x :: r) [c]) = x :: r := by
  rw [Lib.join_cons]
  induction r generalizing x with
  | nil => simpa [Lib.joinTail] using spl_no c x hx
  | cons y r ih =>
    have : x ++ Lib.joinTail [c] (y :: r) = x ++ c :: (y ++ Lib.joinTail [c] r) := by simp [Lib.joinTail]
    rw [this, spl_cons c _ _ hx, ih y (hr y (by simp)) (fun z hz => hr z (by simp [hz]))]

theorem join_len (m : Nat) (l : List (List UInt8)) (sep : List UInt8) (h : ∀ y ∈ l, y.length + sep.length ≤ m) : (Lib.join l sep).length ≤ m * l.length := by
  cases l with
  | nil => simp [Lib.join_nil]
  | cons x r =>
    rw [Lib.join_cons, List.length_append, List.length_cons]
    have hx := h x (by simp)
    have : ∀ r : List (List UInt8), (∀ y ∈ r, y.length + sep.length ≤ m) → (Lib.joinTail sep r).length ≤ m * r.length := by
      intro r hr
      induction r with
      | nil => simp [Lib.joinTail]
      | cons y r ih =>
        have h1 := hr y (by simp)
        have h2 := ih (fun z hz => hr z (by simp [hz]))
        unfold Lib.joinTail at h2 ⊢
        simp only [List.map_cons, List.flatten_cons, List.length_append, List.length_cons, Nat.mul_add]
        omega
    have h2 := this r (fun z hz => h z (by simp [hz]))
    rw [Nat.mul_add]
    omega

theorem join_mem (c : UInt8) (l : List (List UInt8)) (sep : List UInt8) (h : ∀ y ∈ l, c ∉ y) (hs : c ∉ sep) : c ∉ Lib.join l sep := by
  cases l with
  | nil => simp [Lib.join_nil]
  | cons x r =>
    rw [Lib.join_cons]
    simp only [List.mem_append, not_or]
    refine ⟨h x (by simp), ?_⟩
    unfold Lib.joinTail
    intro hm
    obtain ⟨y, hy, hc⟩ := List.mem_flatten.1 hm
    obtain ⟨z, hz, rfl⟩ := List.mem_map.1 hy
    rcases List.mem_append.1 hc with k | k
    · exact hs k
    · exact h z (by simp [hz]) k

/-- A row of numbers, written. -/
def rowT (p : Nat × Nat) : List UInt8 := if p.1 = p.2 then dec p.1 else dec p.1 ++ 45 :: dec p.2

/-- A row of numbers below a size, read. -/
def rowP (size : Nat) (l : List UInt8) : Option (Nat × Nat) :=
  match brk 45 l with
  | none => match num l with
    | none => none
    | some a => if a < size then some (a, a) else none
  | some (x, y) => match num x, num y with
    | some a, some b => if a ≤ b ∧ b < size then some (a, b) else none
    | _, _ => none

theorem dec_digit (n : Nat) (h : n < 16) : ∀ c ∈ dec n, 48 ≤ c ∧ c ≤ 57 := by
  have : ∀ k : Fin 16, ∀ c ∈ dec k.val, 48 ≤ c ∧ c ≤ 57 := by decide
  exact this ⟨n, h⟩
theorem dec_not (n : Nat) (c : UInt8) (h : n < 16) (hc : c < 48) : c ∉ dec n := by
  intro hm
  have := (dec_digit n h c hm).1
  rw [UInt8.le_iff_toNat_le] at this
  rw [UInt8.lt_iff_toNat_lt] at hc
  omega
theorem dec_head (n : Nat) (h : n < 16) : ∃ c r, dec n = c :: r ∧ c ≠ 42 ∧ c ≠ 45 := by
  have : ∀ k : Fin 16, (dec k.val).length ≠ 0 := by decide
  have k := this ⟨n, h⟩
  cases hd : dec n with
  | nil => simp only [hd] at k; exact absurd rfl k
  | cons c r => exact ⟨c, r, rfl, (fun e => dec_not n 42 h (by decide) (by rw [hd, e]; simp)), (fun e => dec_not n 45 h (by decide) (by rw [hd, e]; simp))⟩

theorem brk_no (c : UInt8) (l : List UInt8) (h : c ∉ l) : brk c l = none := by
  cases hb : brk c l with
  | none => rfl
  | some q => exact absurd ((brk_some c l q.1 q.2 hb).1 ▸ by simp) h

theorem rowP_rowT (size : Nat) (p : Nat × Nat) (h1 : p.1 ≤ p.2) (h2 : p.2 < size) (h3 : size ≤ 16) : rowP size (rowT p) = some p := by
  obtain ⟨a, b⟩ := p
  simp only at h1 h2
  unfold rowT rowP
  simp only
  by_cases h : a = b
  · subst h
    rw [if_pos rfl, brk_no 45 _ (dec_not a 45 (by omega) (by decide))]
    simp only [num_dec a (by omega)]
    rw [if_pos h2]
  · rw [if_neg h, brk_mk 45 _ _ (dec_not a 45 (by omega) (by decide))]
    simp only [num_dec a (by omega), num_dec b (by omega)]
    rw [if_pos ⟨h1, h2⟩]

theorem rowP_in (size : Nat) (l : List UInt8) (p : Nat × Nat) (h : rowP size l = some p) : p.1 ≤ p.2 ∧ p.2 < size := by
  unfold rowP at h
  split at h
  · split at h
    · cases h
    · split at h
      · rename_i hlt
        obtain rfl := Option.some.inj h
        exact ⟨Nat.le_refl _, hlt⟩
      · cases h
  · split at h
    · split at h
      · rename_i hlt
        obtain rfl := Option.some.inj h
        exact hlt
      · cases h
    · cases h

theorem rowT_not (c : UInt8) (p : Nat × Nat) (h1 : p.1 < 16) (h2 : p.2 < 16) (hc : c < 45) : c ∉ rowT p := by
  have h48 : c < 48 := by
    rw [UInt8.lt_iff_toNat_lt] at hc ⊢
    have : (45 : UInt8).toNat = 45 := rfl
    have : (48 : UInt8).toNat = 48 := rfl
    omega
  have hne : c ≠ 45 := fun e => by subst e; exact absurd hc (by decide)
  unfold rowT
  split
  · exact dec_not _ c h1 h48
  · simp only [List.mem_append, List.mem_cons, not_or]
    exact ⟨dec_not _ c h1 h48, hne, dec_not _ c h2 h48⟩

theorem rowT_len (p : Nat × Nat) : (rowT p).length ≤ 5 := by
  have h1 := dec_len p.1
  have h2 := dec_len p.2
  unfold rowT
  split
  · omega
  · simp only [List.length_append, List.length_cons]; omega

theorem rowT_head (p : Nat × Nat) (h1 : p.1 < 16) : ∃ c r, rowT p = c :: r ∧ c ≠ 42 ∧ c ≠ 45 := by
  obtain ⟨c, r, e, h⟩ := dec_head p.1 h1
  unfold rowT
  split
  · exact ⟨c, r, e, h⟩
  · rw [e]; exact ⟨c, _, rfl, h⟩

/-- The bits from one to another one. -/
def mask (p : Nat × Nat) : Nat := 2 ^ (p.2 + 1) - 2 ^ p.1

theorem mask_bit (p : Nat × Nat) (i : Nat) (h : p.1 ≤ p.2) : (mask p).testBit i = (decide (p.1 ≤ i) && decide (i ≤ p.2)) := by
  obtain ⟨a, b⟩ := p
  simp only at h
  unfold mask
  simp only
  have e : 2 ^ (b + 1) - 2 ^ a = (2 ^ (b + 1 - a) - 1) * 2 ^ a := by
    rw [Nat.sub_mul, ← Nat.pow_add, show b + 1 - a + a = b + 1 by omega, Nat.one_mul]
  rw [e, Nat.testBit_mul_two_pow, Nat.testBit_two_pow_sub_one]
  by_cases h1 : a ≤ i
  · simp [h1]; omega
  · simp [h1]

theorem mask_le (p : Nat × Nat) (size : Nat) (h : p.2 < size) : mask p < 2 ^ size := by
  have : 2 ^ (p.2 + 1) ≤ 2 ^ size := Nat.pow_le_pow_right (by omega) (by omega)
  have := Nat.two_pow_pos p.1
  have := Nat.two_pow_pos (p.2 + 1)
  unfold mask
  omega

/-- Rows read, one behind another. -/
def acc (size : Nat) : Nat → List (List UInt8) → Option Nat
  | z, [] => some z
  | z, x :: r => match rowP size x with
    | none => none
    | some p => acc size (z ||| mask p) r

/-- A set of numbers below a size, read. -/
def setP (size : Nat) (l : List UInt8) : Option Nat :=
  if l = [42] then some (2 ^ size - 1) else if l = [45] then some 0 else acc size 0 (spl 44 l)

theorem acc_lt (size : Nat) (l : List (List UInt8)) (z y : Nat) (hz : z < 2 ^ size) (h : acc size z l = some y) : y < 2 ^ size := by
  induction l generalizing z with
  | nil => obtain rfl := Option.some.inj h; exact hz
  | cons x r ih =>
    unfold acc at h
    cases hp : rowP size x with
    | none => rw [hp] at h; cases h
    | some p =>
      rw [hp] at h
      exact ih (z ||| mask p) (Nat.or_lt_two_pow hz (mask_le p size (rowP_in size x p hp).2)) h

theorem setP_lt (size : Nat) (l : List UInt8) (y : Nat) (h : setP size l = some y) : y < 2 ^ size := by
  have := Nat.two_pow_pos size
  unfold setP at h
  split at h
  · obtain rfl := Option.some.inj h; omega
  · split at h
    · obtain rfl := Option.some.inj h; omega
    · exact acc_lt size _ 0 y this h

theorem acc_rows (size : Nat) (hs : size ≤ 16) (l : List (Nat × Nat)) (z : Nat) (h : ∀ p ∈ l, p.1 ≤ p.2 ∧ p.2 < size) :
    ∃ y, acc size z (l.map rowT) = some y ∧ ∀ i, y.testBit i = (z.testBit i || l.any fun p => decide (p.1 ≤ i) && decide (i ≤ p.2)) := by
  induction l generalizing z with
  | nil => exact ⟨z, rfl, fun i => by simp⟩
  | cons p r ih =>
    obtain ⟨h1, h2⟩ := h p (by simp)
    obtain ⟨y, e, k⟩ := ih (z ||| mask p) (fun q hq => h q (by simp [hq]))
    refine ⟨y, ?_, fun i => ?_⟩
    · rw [List.map_cons, acc, rowP_rowT size p h1 h2 hs]
      exact e
    · rw [k i, Nat.testBit_or, mask_bit p i h1, List.any_cons, Bool.or_assoc]

/-- The last number of a row that goes on from n. -/
def run (x : Nat) : Nat → Nat → Nat
  | 0, n => n
  | k + 1, n => if x.testBit (n + 1) then run x k (n + 1) else n
/-- The rows that begin at n: one, or none. -/
def rowAt (x n : Nat) : List (Nat × Nat) := if x.testBit n = true ∧ (n = 0 ∨ x.testBit (n - 1) = false) then [(n, run x 16 n)] else []
/-- The rows that begin below n. -/
def rowsTo (x : Nat) : Nat → List (Nat × Nat)
  | 0 => []
  | n + 1 => rowsTo x n ++ rowAt x n

/-- From n to m: a row that goes no further. -/
def IsRun (x n m : Nat) : Prop := n ≤ m ∧ (∀ i, n ≤ i → i ≤ m → x.testBit i = true) ∧ x.testBit (m + 1) = false

theorem run_is (x : Nat) (k n : Nat) (hx : x < 2 ^ (n + k + 1)) (h : x.testBit n = true) : IsRun x n (run x k n) := by
  induction k generalizing n with
  | zero =>
    refine ⟨Nat.le_refl _, fun i h1 h2 => ?_, Nat.testBit_lt_two_pow (by simpa [run] using hx)⟩
    obtain rfl : i = n := by simp only [run] at h2; omega
    exact h
  | succ k ih =>
    unfold run
    by_cases hn : x.testBit (n + 1) = true
    · rw [if_pos hn]
      obtain ⟨a, b, c⟩ := ih (n + 1) (by rw [show n + 1 + k + 1 = n + (k + 1) + 1 by omega]; exact hx) hn
      refine ⟨by omega, fun i h1 h2 => ?_, c⟩
      by_cases e : i = n
      · rw [e]; exact h
      · exact b i (by omega) h2
    · rw [if_neg hn]
      refine ⟨Nat.le_refl _, fun i h1 h2 => ?_, by simpa using hn⟩
      obtain rfl : i = n := by omega
      exact h

theorem run_one (x n m m2 : Nat) (h : IsRun x n m) (h2 : IsRun x n m2) : m = m2 := by
  obtain ⟨a, b, c⟩ := h
  obtain ⟨a2, b2, c2⟩ := h2
  rcases Nat.lt_trichotomy m m2 with k | k | k
  · have := b2 (m + 1) (by omega) (by omega)
    rw [c] at this; cases this
  · exact k
  · have := b (m2 + 1) (by omega) (by omega)
    rw [c2] at this; cases this

theorem run_eq (x n m : Nat) (hx : x < 2 ^ 16) (h : IsRun x n m) : run x 16 n = m := by
  have hb := h.2.1 n (Nat.le_refl _) h.1
  refine run_one x n _ _ (run_is x 16 n ?_ hb) h
  exact Nat.lt_of_lt_of_le hx (Nat.pow_le_pow_right (by omega) (by omega))

theorem rows_skip (x n : Nat) (h : x.testBit n = false ∨ (0 < n ∧ x.testBit (n - 1) = true)) : rowsTo x (n + 1) = rowsTo x n := by
  rw [rowsTo, rowAt, if_neg, List.append_nil]
  rintro ⟨h1, h2⟩
  rcases h with h | ⟨h, k⟩
  · rw [h] at h1; cases h1
  · rcases h2 with h2 | h2
    · omega
    · rw [k] at h2; cases h2

theorem rows_run (x n m : Nat) (hx : x < 2 ^ 16) (h : IsRun x n m) (h0 : n = 0 ∨ x.testBit (n - 1) = false) : rowsTo x (m + 1) = rowsTo x n ++ [(n, m)] := by
  have hr := run_eq x n m hx h
  obtain ⟨a, b, c⟩ := h
  have : ∀ k, n + k ≤ m → rowsTo x (n + k + 1) = rowsTo x n ++ [(n, m)] := by
    intro k
    induction k with
    | zero =>
      intro _
      rw [Nat.add_zero, rowsTo, rowAt, if_pos ⟨b n (Nat.le_refl _) a, h0⟩, hr]
    | succ k ih =>
      intro hk
      rw [show n + (k + 1) = n + k + 1 by omega, rows_skip x (n + k + 1) (Or.inr ⟨by omega, by
        rw [Nat.add_sub_cancel]; exact b (n + k) (by omega) (by omega)⟩), ih (by omega)]
  have := this (m - n) (by omega)
  rw [show n + (m - n) = m by omega] at this
  exact this

theorem rows_in (x size n : Nat) (hx : x < 2 ^ size) (hs : size ≤ 16) : ∀ p ∈ rowsTo x n, p.1 ≤ p.2 ∧ p.2 < size ∧ ∀ i, p.1 ≤ i → i ≤ p.2 → x.testBit i = true := by
  induction n with
  | zero => intro p hp; cases hp
  | succ n ih =>
    intro p hp
    rw [rowsTo] at hp
    rcases List.mem_append.1 hp with h | h
    · exact ih p h
    · unfold rowAt at h
      split at h
      · rename_i hc
        obtain rfl := List.mem_singleton.1 h
        obtain ⟨a, b, c⟩ := run_is x 16 n (Nat.lt_of_lt_of_le hx (Nat.pow_le_pow_right (by omega) (by omega))) hc.1
        refine ⟨a, ?_, b⟩
        have hb := b _ a (Nat.le_refl _)
        simp only
        rcases Nat.lt_or_ge (run x 16 n) size with k | k
        · exact k
        · rw [Nat.testBit_lt_two_pow (Nat.lt_of_lt_of_le hx (Nat.pow_le_pow_right (by omega) k))] at hb
          cases hb
      · cases h

theorem rows_len (x n : Nat) : (rowsTo x n).length ≤ n := by
  induction n with
  | zero => simp [rowsTo]
  | succ n ih =>
    rw [rowsTo, List.length_append]
    have : (rowAt x n).length ≤ 1 := by unfold rowAt; split <;> simp
    omega

/-- Each number of the set below n is in a row. -/
theorem rows_has (x size n i : Nat) (hx : x < 2 ^ size) (hs : size ≤ 16) (hi : i < n) (hb : x.testBit i = true) : ∃ p ∈ rowsTo x n, p.1 ≤ i ∧ i ≤ p.2 := by
  -- the first number of its row
  have first : ∀ i, x.testBit i = true → ∃ f, f ≤ i ∧ (∀ j, f ≤ j → j ≤ i → x.testBit j = true) ∧ (f = 0 ∨ x.testBit (f - 1) = false) := by
    intro i
    induction i with
    | zero => intro h; exact ⟨0, Nat.le_refl _, fun j _ h2 => by rw [show j = 0 by omega]; exact h, Or.inl rfl⟩
    | succ i ih =>
      intro h
      by_cases hp : x.testBit i = true
      · obtain ⟨f, a, b, c⟩ := ih hp
        refine ⟨f, by omega, fun j h1 h2 => ?_, c⟩
        by_cases e : j = i + 1
        · rw [e]; exact h
        · exact b j h1 (by omega)
      · exact ⟨i + 1, Nat.le_refl _, fun j h1 h2 => by rw [show j = i + 1 by omega]; exact h, Or.inr (by simpa using hp)⟩
  obtain ⟨f, a, b, c⟩ := first i hb
  have hf := b f (Nat.le_refl _) a
  have mem : ∀ n, f < n → (f, run x 16 f) ∈ rowsTo x n := by
    intro n
    induction n with
    | zero => intro h; omega
    | succ n ih =>
      intro h
      rw [rowsTo]
      by_cases e : f = n
      · subst e
        refine List.mem_append.2 (Or.inr ?_)
        rw [rowAt, if_pos ⟨hf, c⟩]
        simp
      · exact List.mem_append.2 (Or.inl (ih (by omega)))
  refine ⟨_, mem n (by omega), a, ?_⟩
  obtain ⟨_, h2, h3⟩ := run_is x 16 f (Nat.lt_of_lt_of_le hx (Nat.pow_le_pow_right (by omega) (by omega))) hf
  simp only
  rcases Nat.lt_or_ge (run x 16 f) i with k | k
  · have := b (run x 16 f + 1) (by omega) (by omega)
    rw [h3] at this; cases this
  · exact k

/-- A set of numbers below a size, written. -/
def setT (size x : Nat) : List UInt8 := if x = 2 ^ size - 1 then [42] else if x = 0 then [45] else Lib.join ((rowsTo x size).map rowT) [44]

theorem setP_setT (size x : Nat) (hx : x < 2 ^ size) (hs : size ≤ 16) : setP size (setT size x) = some x := by
  unfold setT
  by_cases h1 : x = 2 ^ size - 1
  · rw [if_pos h1, setP, if_pos rfl, h1]
  · rw [if_neg h1]
    by_cases h2 : x = 0
    · rw [if_pos h2, setP, if_neg (by decide), if_pos rfl, h2]
    · rw [if_neg h2]
      have hin := rows_in x size size hx hs
      cases hl : rowsTo x size with
      | nil =>
        exfalso
        apply h2
        apply Nat.eq_of_testBit_eq
        intro i
        rw [Nat.zero_testBit]
        cases hb : x.testBit i with
        | false => rfl
        | true =>
          have hi : i < size := by
            rcases Nat.lt_or_ge i size with k | k
            · exact k
            · rw [Nat.testBit_lt_two_pow (Nat.lt_of_lt_of_le hx (Nat.pow_le_pow_right (by omega) k))] at hb
              cases hb
          obtain ⟨p, hp, _⟩ := rows_has x size size i hx hs hi hb
          rw [hl] at hp; cases hp
      | cons p r =>
        rw [hl] at hin
        have hp := hin p (by simp)
        obtain ⟨c, t, e, c1, c2⟩ := rowT_head p (by omega)
        have hne : ∀ d : UInt8, c ≠ d → Lib.join ((p :: r).map rowT) [44] ≠ [d] := by
          intro d hd he
          rw [List.map_cons, Lib.join_cons, e, List.cons_append] at he
          exact hd (List.cons.inj he).1
        rw [setP, if_neg (hne 42 c1), if_neg (hne 45 c2), List.map_cons, spl_join 44 _ _ (rowT_not 44 p (by omega) (by omega) (by decide)) (by
          intro y hy
          obtain ⟨q, hq, rfl⟩ := List.mem_map.1 hy
          have := hin q (by simp [hq])
          exact rowT_not 44 q (by omega) (by omega) (by decide)), ← List.map_cons]
        obtain ⟨y, ey, ky⟩ := acc_rows size hs (p :: r) 0 (fun q hq => ⟨(hin q hq).1, (hin q hq).2.1⟩)
        rw [ey]
        congr 1
        apply Nat.eq_of_testBit_eq
        intro i
        rw [ky i, Nat.zero_testBit, Bool.false_or]
        cases hb : x.testBit i with
        | false =>
          rw [List.any_eq_false]
          intro q hq hc
          simp only [Bool.and_eq_true, decide_eq_true_eq] at hc
          have := (hin q hq).2.2 i hc.1 hc.2
          rw [hb] at this; cases this
        | true =>
          have hi : i < size := by
            rcases Nat.lt_or_ge i size with k | k
            · exact k
            · rw [Nat.testBit_lt_two_pow (Nat.lt_of_lt_of_le hx (Nat.pow_le_pow_right (by omega) k))] at hb
              cases hb
          obtain ⟨q, hq, h3⟩ := rows_has x size size i hx hs hi hb
          rw [hl] at hq
          rw [List.any_eq_true]
          exact ⟨q, hq, by simp [h3]⟩

theorem setT_len (size x : Nat) (hs : 1 ≤ size) : (setT size x).length ≤ 6 * size := by
  unfold setT
  split
  · simp; omega
  · split
    · simp; omega
    · have h := join_len 6 ((rowsTo x size).map rowT) [44] (by
        intro y hy
        obtain ⟨q, _, rfl⟩ := List.mem_map.1 hy
        have := rowT_len q
        simp only [List.length_singleton]; omega)
      have h2 := rows_len x size
      rw [List.length_map] at h
      have := Nat.mul_le_mul_left 6 h2
      omega

theorem setT_not (size x : Nat) (hx : x < 2 ^ size) (hs : size ≤ 16) : (32 : UInt8) ∉ setT size x := by
  unfold setT
  split
  · decide
  · split
    · decide
    · refine join_mem 32 _ _ ?_ (by decide)
      intro y hy
      obtain ⟨q, hq, rfl⟩ := List.mem_map.1 hy
      have := rows_in x size size hx hs q hq
      exact rowT_not 32 q (by omega) (by omega) (by decide)

/-- The four sets of a match, in the order of the struct, written. -/
def matT (a b c d : Nat) : List UInt8 := Lib.join [setT 16 a, setT 8 c, setT 16 b, setT 8 d] [32]
/-- A match read: its parts, in the order of the struct, and the error. -/
def matP (l : List UInt8) : (Nat × Nat × Nat × Nat) × Nat :=
  if 300 < l.length then ((0, 0, 0, 0), 2) else
  match spl 32 l with
  | [p, q, r, s] => match setP 16 p, setP 8 q, setP 16 r, setP 8 s with
    | some a, some c, some b, some d => ((a, b, c, d), 0)
    | _, _, _, _ => ((0, 0, 0, 0), 3)
  | _ => ((0, 0, 0, 0), 3)

theorem matT_len (a b c d : Nat) : (matT a b c d).length ≤ 300 := by
  have h1 := setT_len 16 a (by omega)
  have h2 := setT_len 8 c (by omega)
  have h3 := setT_len 16 b (by omega)
  have h4 := setT_len 8 d (by omega)
  unfold matT
  rw [Lib.join_cons]
  simp only [Lib.joinTail, List.map_cons, List.map_nil, List.flatten_cons, List.flatten_nil, List.length_append, List.length_cons, List.length_nil]
  omega

theorem matP_matT (a b c d : Nat) (ha : a < 2 ^ 16) (hb : b < 2 ^ 16) (hc : c < 2 ^ 8) (hd : d < 2 ^ 8) : matP (matT a b c d) = ((a, b, c, d), 0) := by
  have hl := matT_len a b c d
  unfold matP
  rw [if_neg (by omega)]
  unfold matT
  rw [spl_join 32 _ _ (setT_not 16 a ha (by omega)) (by
    intro y hy
    simp only [List.mem_cons, List.not_mem_nil, or_false] at hy
    rcases hy with rfl | rfl | rfl
    · exact setT_not 8 c hc (by omega)
    · exact setT_not 16 b hb (by omega)
    · exact setT_not 8 d hd (by omega))]
  simp only [setP_setT 16 a ha (by omega), setP_setT 8 c hc (by omega), setP_setT 16 b hb (by omega), setP_setT 8 d hd (by omega)]

theorem matP_lt (l : List UInt8) : (matP l).1.1 < 2 ^ 16 ∧ (matP l).1.2.1 < 2 ^ 16 ∧ (matP l).1.2.2.1 < 2 ^ 8 ∧ (matP l).1.2.2.2 < 2 ^ 8 := by
  unfold matP
  split
  · simp
  · split
    · split
      · rename_i h1 h2 h3 h4
        exact ⟨setP_lt 16 _ _ h1, setP_lt 16 _ _ h3, setP_lt 8 _ _ h2, setP_lt 8 _ _ h4⟩
      · simp
    · simp
end Go.Proofs.Mt


