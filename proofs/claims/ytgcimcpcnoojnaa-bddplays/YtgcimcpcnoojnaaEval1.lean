/-
  Eval and One.
-/
import Derived.Test.YtgcimcpcnoojnaaWalk14
import Derived.Test.YtgcimcpcnoojnaaPlain4
namespace Go.Proofs.Ytgcimcpcnoojnaa
open Go.RowKit Go.Maps

theorem intBits_and (a b : Nat) (ha : a < 9223372036854775808) (hb : b < 9223372036854775808) : Go.bits .and .i64 (a : Int) (b : Int) = ((a &&& b : Nat) : Int) := by
  have e1 : BitVec.ofInt 64 (a : Int) = BitVec.ofNat 64 a := by simp
  have e2 : BitVec.ofInt 64 (b : Int) = BitVec.ofNat 64 b := by simp
  have hle : a &&& b ≤ a := Nat.and_le_left
  have hm : (BitVec.ofNat 64 a &&& BitVec.ofNat 64 b).toNat = a &&& b := by
    simp [BitVec.toNat_and, Nat.mod_eq_of_lt (show a < 18446744073709551616 by omega), Nat.mod_eq_of_lt (show b < 18446744073709551616 by omega)]
  show IntKind.i64.wrap ((BitVec.ofInt 64 (a : Int) &&& BitVec.ofInt 64 (b : Int)).toNat : Int) = _
  rw [e1, e2, hm, IntWalk.i64_in _ (by omega)]
theorem intBits_or (a b : Nat) (k : Nat) (hk : k ≤ 62) (ha : a < 2 ^ k) (hb : b < 2 ^ k) : Go.bits .or .i64 (a : Int) (b : Int) = ((a ||| b : Nat) : Int) := by
  have hp : 2 ^ k ≤ 2 ^ 62 := Nat.pow_le_pow_right (by omega) hk
  have e1 : BitVec.ofInt 64 (a : Int) = BitVec.ofNat 64 a := by simp
  have e2 : BitVec.ofInt 64 (b : Int) = BitVec.ofNat 64 b := by simp
  have hle : a ||| b < 2 ^ k := Nat.or_lt_two_pow ha hb
  have hm : (BitVec.ofNat 64 a ||| BitVec.ofNat 64 b).toNat = a ||| b := by
    simp [BitVec.toNat_or, Nat.mod_eq_of_lt (show a < 18446744073709551616 by omega), Nat.mod_eq_of_lt (show b < 18446744073709551616 by omega)]
  show IntKind.i64.wrap ((BitVec.ofInt 64 (a : Int) ||| BitVec.ofInt 64 (b : Int)).toNat : Int) = _
  rw [e1, e2, hm, IntWalk.i64_in _ (by omega)]

section
variable {base a M vars most : Nat} {w : World} {ns : List Nd}

set_option maxHeartbeats 1000000 in
set_option maxRecDepth 100000 in
theorem bit_ok (h : Ar base a M vars most w ns) {v : Nat} (hv : v < vars) : Calls Try.prog 94 #[.pointer (some ⟨a, 0, none⟩), .int .i64 (v : Int)] w fun e w' => e = .returned (.int .i64 ((2 ^ (vars - 1 - v) : Nat) : Int)) ∧ w' = w := by
  have v16 := h.vars16
  obtain ⟨cap, a0, a1, a2, a3, af, an⟩ := h.reads
  have wr1 : IntKind.i64.wrap ((vars : Int) - 1) = (vars : Int) - 1 := IntWalk.i64_in _ (by omega)
  have wr2 : IntKind.i64.wrap ((vars : Int) - 1 - (v : Int)) = (vars : Int) - 1 - (v : Int) := IntWalk.i64_in _ (by omega)
  have hp : 2 ^ (vars - 1 - v) ≤ 2 ^ 16 := Nat.pow_le_pow_right (by omega) (by omega)
  have hw : wrap64 (2 ^ (vars - 1 - v)) = ((2 ^ (vars - 1 - v) : Nat) : Int) := by
    have e : (2 : Int) ^ (vars - 1 - v) = ((2 ^ (vars - 1 - v) : Nat) : Int) := by simp
    rw [e, ← IntWalk.i64_left]
    generalize 2 ^ (vars - 1 - v) = p at *
    exact IntWalk.i64_in _ (by omega)
  have hw' := Hq.mk hw
  clear h an hw
  go_enter Try.func94, Try.ntmps94
  go_wp2_with fail
  go_ret
  refine ⟨?_, rfl⟩
  rw [← hw'.out]
  rfl

theorem bit_q (h : Ar base a M vars most w ns) {v : Nat} (hv : v < vars) : Calls Try.prog 94 #[.pointer (some ⟨a, 0, none⟩), .int .i64 (v : Int)] w fun e w' => ∃ q : Nat, e = .returned (.int .i64 (q : Int)) ∧ Hq (q = 2 ^ (vars - 1 - v)) ∧ w' = w :=
  (bit_ok h hv).mono (fun _ _ ⟨h1, h2⟩ => ⟨_, h1, ⟨rfl⟩, h2⟩)
theorem Ar.kalloc' {base a M vars most : Nat} {w : World} {ns : List Nd} (h : Ar base a M vars most w ns) (o : Obj) : Kp (ca base a M vars most) w (w.alloc o) :=
  ⟨rfl, rfl, rfl, by simp, fun i hi _ _ => Below.heap_alloc w o i hi, Or.inl (rowOf_same (Below.heap_alloc w o _ h.lta))⟩
theorem and_two (b k : Nat) : b &&& 2 ^ k = if b.testBit k then 2 ^ k else 0 := by
  apply Nat.eq_of_testBit_eq
  intro i
  rw [Nat.testBit_and, Nat.testBit_two_pow]
  by_cases h : k = i
  · subst h
    cases hb : b.testBit k
    · simp
    · simp
  · cases hb : b.testBit k
    · simp [h]
    · simp [h]
theorem test_bit (vars v b : Nat) : ((b &&& 2 ^ (vars - 1 - v)) != 0) = envOf vars b v := by
  rw [and_two, envOf]
  have : 0 < 2 ^ (vars - 1 - v) := Nat.two_pow_pos _
  cases b.testBit (vars - 1 - v)
  · simp
  · simp

set_option maxHeartbeats 2000000 in
set_option maxRecDepth 100000 in
/-- Eval. -/
theorem eval_ok (h : Ar base a M vars most w ns) {f b : Nat} (hf : f < ns.length) (hb : b < 2 ^ vars) :
    Calls Try.prog 65 #[.pointer (some ⟨a, 0, none⟩), .int .i64 (f : Int), .int .i64 (b : Int)] w fun e w' => e = .returned (.tuple #[.bool (ev ns f (envOf vars b)), .int .i64 0]) ∧ Ar base a M vars most w' ns ∧ Kp (ca base a M vars most) w w' := by
  have v16 := h.vars16
  have wf := h.wf
  have hl4 : ns.length ≤ 40000 := Nat.le_trans h.le h.most4
  have hpw : 2 ^ vars ≤ 2 ^ 16 := Nat.pow_le_pow_right (by omega) v16
  have t1 : (decide ((0 : Int) ≤ (f : Int)) && decide ((f : Int) < (ns.length : Int))) = true := by simp; omega
  have t2 : decide ((b : Int) < 0) = false := by simp
  have hw : wrap64 (2 ^ vars) = ((2 ^ vars : Nat) : Int) := by
    have e : (2 : Int) ^ vars = ((2 ^ vars : Nat) : Int) := by simp
    rw [e, ← IntWalk.i64_left]
    generalize 2 ^ vars = p at *
    exact IntWalk.i64_in _ (by omega)
  have hw2 : IntKind.i64.wrap (2 ^ vars) = ((2 ^ vars : Nat) : Int) := by rw [IntWalk.i64_left]; exact hw
  have t3 : decide (((2 ^ vars : Nat) : Int) ≤ (b : Int)) = false := by simp only [decide_eq_false_iff_not]; omega
  obtain ⟨cap0, a0, _⟩ := h.reads
  generalize hpp : (2 : Nat) ^ vars = pp at *
  have t4 : decide (pp ≤ b) = false := by simp; omega
  go_enter Try.func65, Try.ntmps65
  go_wp2_with (go_at_call 86; refine (hasFunction_any h (f : Int)).mono ?_; rintro e w' ⟨rfl, rfl⟩; rw [t1])
  go_loopw [1] (fun g wr => ∃ F : Nat, g = .int .i64 (F : Int) ∧ F < ns.length ∧ ev ns F (envOf vars b) = ev ns f (envOf vars b) ∧ Ar base a M vars most wr ns ∧ Kp (ca base a M vars most) w' wr) (fun g _ => (intOf g).toNat)
  case atStart => exact ⟨f, rfl, hf, rfl, h, Kp.refl _ _⟩
  case round =>
    obtain ⟨F, rfl, hF, hE, hA, hK⟩ := hrel
    by_cases hF2 : 2 ≤ F
    · have t5 : decide ((1 : Int) < (F : Int)) = true := by simp; omega
      obtain ⟨cap, c0, c1, c2, c3, cf, cn⟩ := hA.reads
      obtain ⟨n0, n1, n2⟩ := cn F hF
      have hlo := wf.lo F hF2 hF
      have hhi := wf.hi F hF2 hF
      have hva := wf.va F hF2 hF
      have hA1 := hA.alloc (.cells #[.int .i64 (nv ns F : Int), .int .i64 (nl ns F : Int), .int .i64 (nh ns F : Int)] 87)
      have hK1 := hK.trans (Ar.kalloc' hA (.cells #[.int .i64 (nv ns F : Int), .int .i64 (nl ns F : Int), .int .i64 (nh ns F : Int)] 87))
      have hev := ev_node wf hF2 hF (envOf vars b)
      have hb63 : b < 9223372036854775808 := by omega
      have hq63 : ∀ q : Nat, q = 2 ^ (vars - 1 - nv ns F) → (Go.bits .and .i64 (b : Int) (q : Int) != 0) = envOf vars b (nv ns F) := fun q hq => by
        have h16 : 2 ^ (vars - 1 - nv ns F) ≤ 2 ^ 16 := Nat.pow_le_pow_right (by omega) (by omega)
        rw [intBits_and b q hb63 (by omega), ← test_bit vars (nv ns F) b, hq]
        generalize b &&& 2 ^ (vars - 1 - nv ns F) = z
        cases z <;> simp <;> omega
      have hq63' := Hq.mk hq63
      generalize rowOf wr a = g at *
      clear cn hq63
      cases hcase : envOf vars b (nv ns F)
      · go_wp2_with (go_at_call 94; refine (bit_q hA1 hva).mono ?_; rintro e w2 ⟨q, rfl, hq, rfl⟩; have hbt := hq63'.out q hq.out; rw [hcase] at hbt)
        go_roundw
        case rel => exact ⟨nl ns F, rfl, by omega, by rw [← hE, hev, hcase]; simp, hA1, hK1⟩
        case measure => simp [intOf]; omega
      · go_wp2_with (go_at_call 94; refine (bit_q hA1 hva).mono ?_; rintro e w2 ⟨q, rfl, hq, rfl⟩; have hbt := hq63'.out q hq.out; rw [hcase] at hbt)
        go_roundw
        case rel => exact ⟨nh ns F, rfl, by omega, by rw [← hE, hev, hcase]; simp, hA1, hK1⟩
        case measure => simp [intOf]; omega
    · have t5 : decide ((1 : Int) < (F : Int)) = false := by simp; omega
      rcases (show F = 0 ∨ F = 1 by omega) with rfl | rfl
      · go_wp2_with fail
        go_ret2
        exact ⟨by rw [← hE, ev0]; rfl, hA, hK⟩
      · go_wp2_with fail
        go_ret2
        exact ⟨by rw [← hE, ev1]; rfl, hA, hK⟩
end
end Go.Proofs.Ytgcimcpcnoojnaa


