/-
  A bit struck, a bit set; the closures of Exists and Swap.
-/
import Derived.Test.YtgcimcpcnoojnaaRef3
namespace Go.Proofs.Ytgcimcpcnoojnaa
open Go.RowKit Go.Maps

/-- Bits without one of them. -/
def clr (b k : Nat) : Nat := b ^^^ (b &&& 2 ^ k)
theorem clr_test (b k j : Nat) : (clr b k).testBit j = (b.testBit j && !decide (j = k)) := by
  rw [clr, Nat.testBit_xor, Nat.testBit_and, Nat.testBit_two_pow]
  by_cases h : k = j
  · subst h; simp
  · simp [h, show ¬ j = k by omega]
theorem set_test (b k j : Nat) : (b ||| 2 ^ k).testBit j = (b.testBit j || decide (j = k)) := by
  rw [Nat.testBit_or, Nat.testBit_two_pow]
  by_cases h : k = j
  · subst h; simp
  · simp [h, show ¬ j = k by omega]
theorem clr_le (b k : Nat) : clr b k ≤ b := by
  apply Nat.le_of_testBit
  intro i hi
  rw [clr_test] at hi
  simp at hi
  exact hi.1
theorem intBits_andNot (a b k : Nat) (hb : b = 2 ^ k) (ha : a < 9223372036854775808) (hk : k < 62) : Go.bits .andNot .i64 (a : Int) (b : Int) = ((clr a k : Nat) : Int) := by
  subst hb
  have hle := clr_le a k
  have hp : 2 ^ k ≤ 2 ^ 62 := Nat.pow_le_pow_right (by omega) (by omega)
  have e1 : BitVec.ofInt 64 (a : Int) = BitVec.ofNat 64 a := by simp
  have e2 : BitVec.ofInt 64 ((2 ^ k : Nat) : Int) = BitVec.ofNat 64 (2 ^ k) := BitVec.ofInt_natCast 64 (2 ^ k)
  have hm : (BitVec.ofNat 64 a &&& ~~~ BitVec.ofNat 64 (2 ^ k)).toNat = clr a k := by
    have : BitVec.ofNat 64 a &&& ~~~ BitVec.ofNat 64 (2 ^ k) = BitVec.ofNat 64 a ^^^ (BitVec.ofNat 64 a &&& BitVec.ofNat 64 (2 ^ k)) := by
      apply BitVec.eq_of_getLsbD_eq
      intro i hi
      simp only [BitVec.getLsbD_and, BitVec.getLsbD_xor, BitVec.getLsbD_not, hi, decide_true, Bool.true_and]
      cases (BitVec.ofNat 64 a).getLsbD i <;> cases (BitVec.ofNat 64 (2 ^ k)).getLsbD i <;> rfl
    rw [this]
    simp only [BitVec.toNat_xor, BitVec.toNat_and, BitVec.toNat_ofNat]
    rw [Nat.mod_eq_of_lt (show a < 2 ^ 64 by omega), Nat.mod_eq_of_lt (show 2 ^ k < 2 ^ 64 by omega)]
    rfl
  show IntKind.i64.wrap ((BitVec.ofInt 64 (a : Int) &&& ~~~ BitVec.ofInt 64 ((2 ^ k : Nat) : Int)).toNat : Int) = _
  rw [e1, e2, hm, IntWalk.i64_in _ (by omega)]
theorem envOf_clr {vars i : Nat} (b : Nat) (hi : i < vars) {x : Nat} (hx : x < vars) : envOf vars (clr b (vars - 1 - i)) x = setE (envOf vars b) i false x := by
  unfold envOf setE
  rw [clr_test]
  by_cases h : x = i
  · subst h; simp
  · rw [if_neg h]; simp; intro _; omega
theorem envOf_set {vars i : Nat} (b : Nat) (hi : i < vars) {x : Nat} (hx : x < vars) : envOf vars (b ||| 2 ^ (vars - 1 - i)) x = setE (envOf vars b) i true x := by
  unfold envOf setE
  rw [set_test]
  by_cases h : x = i
  · subst h; simp
  · rw [if_neg h]; simp; omega

theorem set_lt {b k vars : Nat} (hb : b < 2 ^ vars) (hk : k < vars) : b ||| 2 ^ k < 2 ^ vars := Nat.or_lt_two_pow hb (Nat.pow_lt_pow_right (by omega) hk)

theorem below_drewN (w : World) (n : Nat) : Below w.heap.size w (w.drewN n) := ⟨rfl, rfl, rfl, Nat.le_refl _, fun _ _ => rfl⟩
theorem bit18v {w : World} {vb vars i q : Nat} (h : w.cell? ⟨vb, 0, none⟩ = some (.int .i64 (vars : Int))) (hv : vars ≤ 16) (hi : i < vars) (hq : q = 2 ^ (vars - 1 - i)) :
    Calls Try.prog 57 #[.int .i64 (i : Int), .pointer (some ⟨vb, 0, none⟩)] w fun e w' => e = .returned (.int .i64 (q : Int)) ∧ w' = w :=
  (bit18 h hv hi).mono (fun _ _ ⟨_, h1, h2, h3⟩ => ⟨by rw [h1, hq, h2.out], h3⟩)

set_option maxHeartbeats 2000000 in
set_option maxRecDepth 100000 in
theorem clo24 {w : World} {A ia ta n bb vb xb vars b i : Nat} {s : Nat → Bool} (hA : SeenAt w A ia ta n s) (h : w.cell? ⟨vb, 0, none⟩ = some (.int .i64 (vars : Int))) (hf : w.cell? ⟨bb, 0, none⟩ = some (.func (.func 57) #[] #[.pointer (some ⟨vb, 0, none⟩)])) (hx : w.cell? ⟨xb, 2, none⟩ = some (.int .i64 (i : Int)))
    (hv : vars ≤ 8) (hn : 2 ^ vars = n) (hi : i < vars) (hb : b < n) :
    Calls Try.prog 63 #[.int .i64 (b : Int), .pointer (some ⟨A, 0, none⟩), .pointer (some ⟨bb, 0, none⟩), .pointer (some ⟨xb, 0, none⟩)] w fun e w' => e = .returned (.bool (s (clr b (vars - 1 - i)) || s (b ||| 2 ^ (vars - 1 - i)))) ∧ Below w.heap.size w w' := by
  obtain ⟨a0, a1, aT⟩ := hA
  have hn8 : n ≤ 256 := by
    have : 2 ^ vars ≤ 2 ^ 8 := Nat.pow_le_pow_right (by omega) hv
    omega
  have l0 : clr b (vars - 1 - i) < n := Nat.lt_of_le_of_lt (clr_le _ _) hb
  have l1 : b ||| 2 ^ (vars - 1 - i) < n := by rw [← hn]; exact set_lt (by omega) (by omega)
  have c0 := World.rowIs.cell aT l0
  have c1 := World.rowIs.cell aT l1
  have hq0 : ∀ q : Nat, q = 2 ^ (vars - 1 - i) → Go.bits .andNot .i64 (b : Int) (q : Int) = ((clr b (vars - 1 - i) : Nat) : Int) := fun q hq => intBits_andNot b q _ hq (by omega) (by omega)
  have hq1 : ∀ q : Nat, q = 2 ^ (vars - 1 - i) → Go.bits .or .i64 (b : Int) (q : Int) = ((b ||| 2 ^ (vars - 1 - i) : Nat) : Int) := fun q hq => by
    subst hq
    exact intBits_or b _ vars (by omega) (by omega) (Nat.pow_lt_pow_right (by omega) (by omega))
  have hq0' := Hq.mk hq0
  have hq1' := Hq.mk hq1
  clear hq0 hq1 aT
  generalize clr b (vars - 1 - i) = x0 at *
  generalize b ||| 2 ^ (vars - 1 - i) = x1 at *
  have hB : Below w.heap.size w w.drew := (Below.refl _ _).drew
  cases hs : s x0
  · rw [hs] at c0
    go_enter Try.func63, Try.ntmps63
    go_wp2_with fail
    go_region_held3 (fun w' => w'.cell? ⟨A, 1, none⟩ = some (.slice (some ⟨ta, 0, none⟩) n n) ∧ w'.cell? ⟨bb, 0, none⟩ = some (.func (.func 57) #[] #[.pointer (some ⟨vb, 0, none⟩)]) ∧ w'.cell? ⟨xb, 2, none⟩ = some (.int .i64 (i : Int)) ∧ w'.cell? ⟨ta, x0, none⟩ = some (.bool false) ∧ w'.cell? ⟨ta, x1, none⟩ = some (.bool (s x1)) ∧ w'.cell? ⟨vb, 0, none⟩ = some (.int .i64 (vars : Int))) (go_keep)
      (first | (go_at_call 57; refine (bit18 (w := w.drew) h (by omega) hi).mono ?_; rintro e w2 ⟨q, rfl, hq, rfl⟩; have hbt := hq0'.out q hq.out; have hbt1 := hq1'.out q hq.out))
    all_goals
      go_wp2_with fail
      go_ret
      exact ⟨by simp, hB⟩
  · rw [hs] at c0
    obtain ⟨q, hq⟩ : ∃ q, q = 2 ^ (vars - 1 - i) := ⟨_, rfl⟩
    have hbt := hq0'.out q hq
    have hcl := Hq.mk (fun (W : World) (hW : W.cell? ⟨vb, 0, none⟩ = some (.int .i64 (vars : Int))) => bit18v hW (show vars ≤ 16 by omega) hi hq)
    clear hq hq0' hq1'
    go_enter Try.func63, Try.ntmps63
    go_wp2_with fail
    go_quiet ((go_at_call 57; refine Calls.quiet_of_same (hcl.out _ h)))
    go_wp2_with fail
    go_ret
    exact ⟨by simp, below_drewN w nq⟩

/-- The bits that the document's answer looks at, for bits with two variables exchanged. -/
def swBits (b ki kj : Nat) : Nat :=
  if b.testBit ki then (if b.testBit kj then (clr (clr b ki) kj ||| 2 ^ kj) ||| 2 ^ ki else clr (clr b ki) kj ||| 2 ^ kj)
  else (if b.testBit kj then clr (clr b ki) kj ||| 2 ^ ki else clr (clr b ki) kj)
end Go.Proofs.Ytgcimcpcnoojnaa


