/-
  Plain facts on lists of bytes: how a text is parted at a byte, how a number of one to four digits is read, and that reading and writing a packet's text undo each other. No program stands in this text.
-/
import Derived.Lib.ItoaNum
import Derived.Lib.Bytealg
namespace Go.Proofs.Pk

/-- A list parted at the first c. -/
def brk (c : UInt8) : List UInt8 → Option (List UInt8 × List UInt8)
  | [] => none
  | x :: r => if x = c then some ([], r) else (brk c r).map fun p => (x :: p.1, p.2)

theorem brk_some (c : UInt8) (l a b : List UInt8) (h : brk c l = some (a, b)) : l = a ++ c :: b ∧ c ∉ a := by
  induction l generalizing a b with
  | nil => simp [brk] at h
  | cons x r ih =>
    unfold brk at h
    by_cases hx : x = c
    · rw [if_pos hx] at h
      simp only [Option.some.injEq, Prod.mk.injEq] at h
      obtain ⟨rfl, rfl⟩ := h
      simp [hx]
    · rw [if_neg hx] at h
      cases hb : brk c r with
      | none => rw [hb] at h; simp at h
      | some p =>
        rw [hb] at h
        simp only [Option.map_some, Option.some.injEq, Prod.mk.injEq] at h
        obtain ⟨rfl, rfl⟩ := h
        obtain ⟨h1, h2⟩ := ih p.1 p.2 (by rw [hb])
        constructor
        · rw [List.cons_append, ← h1]
        · intro hm
          rcases List.mem_cons.1 hm with h3 | h3
          · exact hx h3.symm
          · exact h2 h3

theorem brk_mk (c : UInt8) (a b : List UInt8) (h : c ∉ a) : brk c (a ++ c :: b) = some (a, b) := by
  induction a with
  | nil => simp [brk]
  | cons x r ih =>
    have h1 : ¬ x = c := fun e => h (by simp [e])
    have h2 : c ∉ r := fun e => h (by simp [e])
    rw [List.cons_append, brk, if_neg h1, ih h2]
    rfl

theorem brk_none (c : UInt8) (l : List UInt8) (h : brk c l = none) : c ∉ l := by
  induction l with
  | nil => simp
  | cons x r ih =>
    unfold brk at h
    by_cases hx : x = c
    · rw [if_pos hx] at h; cases h
    · rw [if_neg hx] at h
      intro hm
      rcases List.mem_cons.1 hm with h3 | h3
      · exact hx h3.symm
      · exact ih (by simpa using h) h3

theorem indexByte_none (c : UInt8) (l : List UInt8) (h : brk c l = none) : Lib.indexByte l c = -1 := by
  have hn := brk_none c l h
  clear h
  induction l with
  | nil => rfl
  | cons x r ih =>
    have h1 : ¬ x = c := fun e => hn (by simp [e])
    have h2 : c ∉ r := fun e => hn (by simp [e])
    unfold Lib.indexByte
    simp [h1, ih h2]

theorem indexByte_at (c : UInt8) (a b : List UInt8) (h : c ∉ a) : Lib.indexByte (a ++ c :: b) c = a.length := by
  induction a with
  | nil => simp [Lib.indexByte]
  | cons x r ih =>
    have h1 : ¬ x = c := fun e => h (by simp [e])
    have h2 : c ∉ r := fun e => h (by simp [e])
    rw [List.cons_append, Lib.indexByte, ih h2]
    have h3 : ¬ ((r.length : Int) = -1) := by omega
    simp [h1, h3]

/-- Digits, read on from a number. -/
def digs (n : Nat) : List UInt8 → Option Nat
  | [] => some n
  | c :: r => if 48 ≤ c.toNat ∧ c.toNat ≤ 57 then digs (10 * n + (c.toNat - 48)) r else none

/-- A number in a text: one to four digits, without noughts ahead. -/
def num (l : List UInt8) : Option Nat :=
  if l.length = 0 ∨ 4 < l.length ∨ (1 < l.length ∧ l.head? = some 48) then none else digs 0 l

/-- A number below 100, written. -/
def dec (n : Nat) : List UInt8 := if n < 10 then [UInt8.ofNat (48 + n)] else [UInt8.ofNat (48 + n / 10), UInt8.ofNat (48 + n % 10)]

theorem decDigits_dec (n : Nat) (h : n < 100) : Lib.decDigits n = dec n := by
  unfold dec
  by_cases h1 : n < 10
  · rw [Lib.decDigits, dif_pos h1, if_pos h1]
  · rw [Lib.decDigits, dif_neg h1, if_neg h1, Lib.decDigits, dif_pos (by omega)]
    rfl

theorem dec_len (n : Nat) : (dec n).length ≤ 2 := by
  unfold dec
  split <;> simp

theorem num_dec (n : Nat) (h : n < 16) : num (dec n) = some n := by
  have : ∀ k : Fin 16, num (dec k.val) = some k.val := by decide
  exact this ⟨n, h⟩

theorem dec_no (n : Nat) (h : n < 16) : (58 : UInt8) ∉ dec n ∧ (62 : UInt8) ∉ dec n := by
  have : ∀ k : Fin 16, (58 : UInt8) ∉ dec k.val ∧ (62 : UInt8) ∉ dec k.val := by decide
  exact this ⟨n, h⟩

theorem ofNat_toNat (c : UInt8) (n : Nat) (h : n = c.toNat) : UInt8.ofNat n = c := by
  subst h; simp

theorem dec_num (l : List UInt8) (n : Nat) (h : num l = some n) (hn : n < 16) : dec n = l := by
  unfold num at h
  by_cases hc : l.length = 0 ∨ 4 < l.length ∨ (1 < l.length ∧ l.head? = some 48)
  · rw [if_pos hc] at h; cases h
  · rw [if_neg hc] at h
    have e48 : ∀ c : UInt8, c ≠ 48 → c.toNat ≠ 48 := by
      intro c hc2 e
      exact hc2 (UInt8.toNat_inj.1 e)
    match l, hc, h with
    | [], hc, _ => exact absurd (Or.inl rfl) hc
    | [a], _, h =>
      simp only [digs] at h
      split at h
      · simp only [Option.some.injEq] at h
        unfold dec
        rw [if_pos (by omega), ofNat_toNat a _ (by omega)]
      · cases h
    | [a, b], hc, h =>
      have ha : a ≠ 48 := fun e => hc (Or.inr (Or.inr ⟨by simp, by simp [e]⟩))
      have := e48 a ha
      simp only [digs] at h
      split at h
      · split at h
        · simp only [Option.some.injEq] at h
          unfold dec
          rw [if_neg (by omega), ofNat_toNat a _ (by omega), ofNat_toNat b _ (by omega)]
        · cases h
      · cases h
    | [a, b, c], hc, h =>
      have ha : a ≠ 48 := fun e => hc (Or.inr (Or.inr ⟨by simp, by simp [e]⟩))
      have := e48 a ha
      simp only [digs] at h
      split at h
      · split at h
        · split at h
          · simp only [Option.some.injEq] at h; omega
          · cases h
        · cases h
      · cases h
    | [a, b, c, d], hc, h =>
      have ha : a ≠ 48 := fun e => hc (Or.inr (Or.inr ⟨by simp, by simp [e]⟩))
      have := e48 a ha
      simp only [digs] at h
      split at h
      · split at h
        · split at h
          · split at h
            · simp only [Option.some.injEq] at h; omega
            · cases h
          · cases h
        · cases h
      · cases h
    | a :: b :: c :: d :: e :: r, hc, _ => exact absurd (Or.inr (Or.inl (by simp))) hc

/-- An end of a packet in a text: what is told, and whether it is one. -/
def pend (l : List UInt8) : Nat × Nat × Bool :=
  match brk 58 l with
  | none => (0, 0, false)
  | some (a, b) => ((num a).getD 0, (num b).getD 0, (num a).isSome && (num b).isSome)

/-- A packet's parts, in the order of the struct: Src, Dst, Sport, Dport. -/
def pkt (l : List UInt8) : Option (Nat × Nat × Nat × Nat) :=
  match brk 62 l with
  | none => none
  | some (f, t) =>
    if (pend f).2.2 = true ∧ (pend t).2.2 = true ∧ (pend f).1 < 16 ∧ (pend t).1 < 16 ∧ (pend f).2.1 < 8 ∧ (pend t).2.1 < 8 then some ((pend f).1, (pend t).1, (pend f).2.1, (pend t).2.1) else none

def txtEnd (a p : Nat) : List UInt8 := dec a ++ 58 :: dec p
theorem txtEnd_len (a p : Nat) : (txtEnd a p).length ≤ 5 := by
  have h1 := dec_len a
  have h2 := dec_len p
  unfold txtEnd
  simp only [List.length_append, List.length_cons]
  omega
def txt (s d sp dp : Nat) : List UInt8 := txtEnd s sp ++ 62 :: txtEnd d dp

theorem txt_len (s d sp dp : Nat) : (txt s d sp dp).length ≤ 11 := by
  have h1 := txtEnd_len s sp
  have h2 := txtEnd_len d dp
  unfold txt
  simp only [List.length_append, List.length_cons]
  omega

theorem pend_txt (a p : Nat) (ha : a < 16) (hp : p < 16) : pend (txtEnd a p) = (a, p, true) := by
  unfold pend txtEnd
  rw [brk_mk 58 _ _ (dec_no a ha).1]
  simp [num_dec a ha, num_dec p hp]

theorem txtEnd_no (a p : Nat) (ha : a < 16) (hp : p < 16) : (62 : UInt8) ∉ txtEnd a p := by
  unfold txtEnd
  simp [(dec_no a ha).2, (dec_no p hp).2]

theorem pkt_txt (s d sp dp : Nat) (h1 : s < 16) (h2 : d < 16) (h3 : sp < 8) (h4 : dp < 8) : pkt (txt s d sp dp) = some (s, d, sp, dp) := by
  unfold pkt txt
  rw [brk_mk 62 _ _ (txtEnd_no s sp h1 (by omega))]
  simp [pend_txt s sp h1 (by omega), pend_txt d dp h2 (by omega), h1, h2, h3, h4]

theorem txtEnd_pend (l : List UInt8) (h : (pend l).2.2 = true) (h1 : (pend l).1 < 16) (h2 : (pend l).2.1 < 16) : txtEnd (pend l).1 (pend l).2.1 = l := by
  unfold pend at h h1 h2 ⊢
  cases hb : brk 58 l with
  | none => rw [hb] at h; simp at h
  | some q =>
    obtain ⟨a, b⟩ := q
    rw [hb] at h h1 h2
    simp only [Bool.and_eq_true] at h
    simp only at h1 h2 ⊢
    cases ha : num a with
    | none => rw [ha] at h; simp at h
    | some x =>
      cases hb2 : num b with
      | none => rw [hb2] at h; simp at h
      | some y =>
        rw [ha] at h1
        rw [hb2] at h2
        simp only [Option.getD_some] at h1 h2 ⊢
        unfold txtEnd
        rw [dec_num a x ha h1, dec_num b y hb2 h2, ← (brk_some 58 l a b hb).1]

theorem txt_pkt (l : List UInt8) (s d sp dp : Nat) (h : pkt l = some (s, d, sp, dp)) : s < 16 ∧ d < 16 ∧ sp < 8 ∧ dp < 8 ∧ txt s d sp dp = l := by
  unfold pkt at h
  cases hb : brk 62 l with
  | none => rw [hb] at h; simp at h
  | some q =>
    obtain ⟨f, t⟩ := q
    rw [hb] at h
    simp only at h
    split at h
    · rename_i hc
      obtain ⟨c1, c2, c3, c4, c5, c6⟩ := hc
      simp only [Option.some.injEq, Prod.mk.injEq] at h
      obtain ⟨rfl, rfl, rfl, rfl⟩ := h
      refine ⟨c3, c4, c5, c6, ?_⟩
      unfold txt
      rw [txtEnd_pend f c1 c3 (by omega), txtEnd_pend t c2 c4 (by omega), ← (brk_some 62 l f t hb).1]
    · cases h

end Go.Proofs.Pk


