/-
  Package net: the small functions.
-/
import Derived.Test.YthioedgnambomaaNp
namespace Go.Proofs.Ythioedgnambomaa
open Go.RowKit

abbrev devA (nm : ByteArray) (k ad : Int) (pl : Nat) (vb vr vt : Value) : Value := .agg #[.string nm, .int .i64 k, .int .i64 ad, .int .u8 (pl : Int), vb, vr, vt]
abbrev lkA (a p b q : Int) : Value := .agg #[.int .i64 a, .int .i64 p, .int .i64 b, .int .i64 q]
abbrev plA (d p : Int) : Value := .agg #[.int .i64 d, .int .i64 p]

set_option maxHeartbeats 1000000 in
theorem nports_any (k : Int) (w : World) : Calls Try.prog 23 #[.int .i64 k] w fun e w' => e = .returned (.int .i64 (portsV k)) ∧ w' = w := by
  by_cases h1 : k = 1
  · subst h1
    go_enter Try.func23, Try.ntmps23
    go_wp2_with fail
    go_ret
    exact ⟨rfl, rfl⟩
  by_cases h2 : k = 2
  · subst h2
    go_enter Try.func23, Try.ntmps23
    go_wp2_with fail
    go_ret
    exact ⟨rfl, rfl⟩
  by_cases h3 : k = 3
  · subst h3
    go_enter Try.func23, Try.ntmps23
    go_wp2_with fail
    go_ret
    exact ⟨rfl, rfl⟩
  by_cases h4 : k = 4
  · subst h4
    go_enter Try.func23, Try.ntmps23
    go_wp2_with fail
    go_ret
    exact ⟨rfl, rfl⟩
  by_cases h5 : k = 5
  · subst h5
    go_enter Try.func23, Try.ntmps23
    go_wp2_with fail
    go_ret
    exact ⟨rfl, rfl⟩
  have e : portsV k = 0 := by
    unfold portsV
    rw [if_neg h1, if_neg h2, if_neg (by omega)]
  rw [e]
  have g1 : (k == 1) = false := beq_eq_false_iff_ne.2 h1
  have g2 : (k == 2) = false := beq_eq_false_iff_ne.2 h2
  have g3 : (k == 3) = false := beq_eq_false_iff_ne.2 h3
  have g4 : (k == 4) = false := beq_eq_false_iff_ne.2 h4
  have g5 : (k == 5) = false := beq_eq_false_iff_ne.2 h5
  clear h1 h2 h3 h4 h5 e
  go_enter Try.func23, Try.ntmps23
  go_wp2_with fail
  go_ret
  exact ⟨rfl, rfl⟩

set_option maxHeartbeats 1000000 in
theorem from_any (a p b q : Int) (w : World) : Calls Try.prog 41 #[lkA a p b q] w fun e w' => e = .returned (plA a p) ∧ Below w.heap.size w w' := by
  go_enter Try.func41, Try.ntmps41
  go_wp2_with fail
  refine bodyPost_ret (v := plA a p) (by simp [results, Try.results41, go_sem]) rfl ⟨rfl, ?_⟩
  exact Below.alN (Below.alN (Below.refl _ _) _) _
set_option maxHeartbeats 1000000 in
theorem to_any (a p b q : Int) (w : World) : Calls Try.prog 42 #[lkA a p b q] w fun e w' => e = .returned (plA b q) ∧ Below w.heap.size w w' := by
  go_enter Try.func42, Try.ntmps42
  go_wp2_with fail
  refine bodyPost_ret (v := plA b q) (by simp [results, Try.results42, go_sem]) rfl ⟨rfl, ?_⟩
  exact Below.alN (Below.alN (Below.refl _ _) _) _

set_option maxHeartbeats 1000000 in
theorem hasAddr_any (k : Int) (w : World) : Calls Try.prog 65 #[.int .i64 k] w fun e w' => e = .returned (.bool (hasAddr k)) ∧ w' = w := by
  unfold hasAddr
  cases h1 : (k == 1)
  · cases h4 : (k == 4)
    · go_enter Try.func65, Try.ntmps65
      go_wp2_with fail
      go_ret
      exact ⟨by simp, rfl⟩
    · go_enter Try.func65, Try.ntmps65
      go_wp2_with fail
      go_ret
      exact ⟨by simp, rfl⟩
  · go_enter Try.func65, Try.ntmps65
    go_wp2_with fail
    go_ret
    exact ⟨by simp, rfl⟩
def addrB (n : Int) : Bool := decide (0 ≤ n) && decide (n < 16)
set_option maxHeartbeats 1000000 in
theorem isAddr_any (n : Int) (w : World) : Calls Try.prog 66 #[.int .i64 n] w fun e w' => e = .returned (.bool (addrB n)) ∧ w' = w := by
  unfold addrB
  cases h1 : decide (0 ≤ n)
  · go_enter Try.func66, Try.ntmps66
    go_wp2_with fail
    go_ret
    exact ⟨by simp, rfl⟩
  · go_enter Try.func66, Try.ntmps66
    go_wp2_with fail
    go_ret
    exact ⟨by simp, rfl⟩
def addrF (k ad : Int) : Bool := if hasAddr k then addrB ad else ad == 0
set_option maxHeartbeats 1000000 in
theorem addrFits_any (nm : ByteArray) (k ad : Int) (pl : Nat) (vb vr vt : Value) (w : World) : Calls Try.prog 46 #[devA nm k ad pl vb vr vt] w fun e w' => e = .returned (.bool (addrF k ad)) ∧ Below w.heap.size w w' := by
  have D0 := Below.alN (Below.refl w.heap.size w) (.cells #[.string nm, .int .i64 k, .int .i64 ad, .int .u8 (pl : Int), vb, vr, vt] 42)
  have HA : Hid (∀ w, Calls Try.prog 65 #[.int .i64 k] w fun e w' => e = .returned (.bool (hasAddr k)) ∧ w' = w) := fun w => hasAddr_any k w
  have IA : Hid (∀ w, Calls Try.prog 66 #[.int .i64 ad] w fun e w' => e = .returned (.bool (addrB ad)) ∧ w' = w) := fun w => isAddr_any ad w
  unfold addrF
  generalize hasAddr k = x at *
  generalize addrB ad = y at *
  cases x
  · go_enter Try.func46, Try.ntmps46
    go_wp2_with fail
    refine (HA.out _).mono ?_
    rintro e w1 ⟨rfl, rfl⟩
    go_wp2_with fail
    go_ret
    exact ⟨rfl, D0⟩
  · go_enter Try.func46, Try.ntmps46
    go_wp2_with fail
    refine (HA.out _).mono ?_
    rintro e w1 ⟨rfl, rfl⟩
    go_wp2_with fail
    refine (IA.out _).mono ?_
    rintro e w1 ⟨rfl, rfl⟩
    go_wp2_with fail
    go_ret
    exact ⟨rfl, D0⟩
def poolF (k : Int) (pl : Nat) : Bool := (!((pl : Int) == 0)) == (k == 4)
set_option maxHeartbeats 1000000 in
theorem poolFits_any (nm : ByteArray) (k ad : Int) (pl : Nat) (vb vr vt : Value) (w : World) : Calls Try.prog 47 #[devA nm k ad pl vb vr vt] w fun e w' => e = .returned (.bool (poolF k pl)) ∧ Below w.heap.size w w' := by
  have D0 := Below.alN (Below.refl w.heap.size w) (.cells #[.string nm, .int .i64 k, .int .i64 ad, .int .u8 (pl : Int), vb, vr, vt] 42)
  unfold poolF
  cases h1 : ((pl : Int) == 0) <;> cases h2 : (k == 4)
  all_goals
    go_enter Try.func47, Try.ntmps47
    go_wp2_with fail
    go_ret
    exact ⟨by first | rfl | (simp; simpa using h1) | simp, D0⟩
def listsF (k : Int) (nr nt : Nat) : Bool := ((k == 2) || (k == 3) || decide (nr = 0)) && ((k == 2) || decide (nt = 0))
set_option maxHeartbeats 2000000 in
theorem listsFit_any (nm : ByteArray) (k ad : Int) (pl : Nat) (vb : Value) (Ar At : Option Addr) (nr cr nt ct : Nat) (w : World) : Calls Try.prog 49 #[devA nm k ad pl vb (.slice Ar nr cr) (.slice At nt ct)] w fun e w' => e = .returned (.bool (listsF k nr nt)) ∧ Below w.heap.size w w' := by
  have D0 := Below.alN (Below.refl w.heap.size w) (.cells #[.string nm, .int .i64 k, .int .i64 ad, .int .u8 (pl : Int), vb, .slice Ar nr cr, .slice At nt ct] 42)
  unfold listsF
  have er : decide (nr = 0) = ((nr : Int) == 0) := by rw [Bool.eq_iff_iff]; simp
  have et : decide (nt = 0) = ((nt : Int) == 0) := by rw [Bool.eq_iff_iff]; simp
  rw [er, et]
  clear er et
  cases h2 : (k == 2) <;> cases h3 : (k == 3) <;> cases hr : ((nr : Int) == 0) <;> cases ht : ((nt : Int) == 0)
  all_goals
    go_enter Try.func49, Try.ntmps49
    go_wp2_with fail
    go_ret
    exact ⟨by first | rfl | simp, D0⟩
set_option maxHeartbeats 1000000 in
theorem aclCheck_any (A : Option Addr) (n cap : Nat) (w : World) : Calls Try.prog 50 #[.slice A n cap] w fun e w' => e = .returned (.int .i64 (if 8 < n then 2 else 0)) ∧ w' = w := by
  by_cases h : 8 < n
  · have t : decide ((8 : Int) < (n : Int)) = true := by simp; omega
    rw [if_pos h]
    go_enter Try.func50, Try.ntmps50
    go_wp2_with fail
    go_ret
    exact ⟨rfl, rfl⟩
  · have t : decide ((8 : Int) < (n : Int)) = false := by simp; omega
    rw [if_neg h]
    go_enter Try.func50, Try.ntmps50
    go_wp2_with fail
    go_ret
    exact ⟨rfl, rfl⟩
end Go.Proofs.Ythioedgnambomaa
