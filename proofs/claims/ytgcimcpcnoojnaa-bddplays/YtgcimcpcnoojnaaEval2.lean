/-
  One; Eval at bits that are too great.
-/
import Derived.Test.YtgcimcpcnoojnaaEval1
namespace Go.Proofs.Ytgcimcpcnoojnaa
open Go.RowKit Go.Maps

theorem tb_low {m j c : Nat} (hc : c < 2 ^ j) : (2 ^ (j + 1) * m + c).testBit j = false := by
  have hp : 0 < 2 ^ j := Nat.two_pow_pos j
  rw [Nat.testBit_eq_decide_div_mod_eq, show 2 ^ (j + 1) * m + c = 2 ^ j * (2 * m) + c by rw [Nat.pow_succ, Nat.mul_assoc], Nat.mul_add_div hp, Nat.div_eq_of_lt hc]
  simp
theorem tb_high {m j c : Nat} (hc : c < 2 ^ j) : (2 ^ (j + 1) * m + 2 ^ j + c).testBit j = true := by
  have hp : 0 < 2 ^ j := Nat.two_pow_pos j
  rw [Nat.testBit_eq_decide_div_mod_eq, show 2 ^ (j + 1) * m + 2 ^ j + c = 2 ^ j * (2 * m + 1) + c by rw [Nat.pow_succ, Nat.mul_add, Nat.mul_assoc, Nat.mul_one], Nat.mul_add_div hp, Nat.div_eq_of_lt hc]
  simp

/-- What One has found on its way: below B there is none; from B on f is what F is. -/
structure Found (vars : Nat) (ns : List Nd) (f F B : Nat) : Prop where
  lt : F < ns.length
  ne : F ≠ 0
  mul : ∃ m, B = 2 ^ (vars - nv ns F) * m
  le : B + 2 ^ (vars - nv ns F) ≤ 2 ^ vars
  same : ∀ c, c < 2 ^ (vars - nv ns F) → ev ns f (envOf vars (B + c)) = ev ns F (envOf vars (B + c))
  none : ∀ b, b < B → ev ns f (envOf vars b) = false

section
variable {vars : Nat} {ns : List Nd}
theorem found_start (wf : Wf vars ns) {f : Nat} (hf : f < ns.length) (h0 : f ≠ 0) : Found vars ns f f 0 := by
  have := va_le wf hf
  refine ⟨hf, h0, ⟨0, rfl⟩, ?_, fun c _ => rfl, fun b hb => by omega⟩
  rw [Nat.zero_add]
  exact Nat.pow_le_pow_right (by omega) (by omega)
theorem Found.low (wf : Wf vars ns) {f F B : Nat} (h : Found vars ns f F B) (F2 : 2 ≤ F) (hl : nl ns F ≠ 0) : Found vars ns f (nl ns F) B := by
  have hF := h.lt
  have l1 := wf.lo F F2 hF
  have v0 := wf.va F F2 hF
  have v1 := wf.vlo F F2 hF
  have v2 := va_le wf (f := nl ns F) (by omega)
  obtain ⟨m, hm⟩ := h.mul
  have hk : vars - nv ns F = (vars - nv ns F - 1) + 1 := by omega
  have hk2 : vars - nv ns F = (vars - nv ns (nl ns F)) + (nv ns (nl ns F) - nv ns F) := by omega
  have hle : 2 ^ (vars - nv ns (nl ns F)) ≤ 2 ^ (vars - nv ns F - 1) := Nat.pow_le_pow_right (by omega) (by omega)
  have hle2 : 2 ^ (vars - nv ns F - 1) ≤ 2 ^ (vars - nv ns F) := Nat.pow_le_pow_right (by omega) (by omega)
  refine ⟨by omega, hl, ⟨2 ^ (nv ns (nl ns F) - nv ns F) * m, ?_⟩, ?_, fun c hc => ?_, h.none⟩
  · rw [hm]; conv => lhs; rw [hk2, Nat.pow_add]
    rw [Nat.mul_assoc]
  · have := h.le; omega
  · rw [h.same c (by omega), ev_node wf F2 hF]
    have hb : envOf vars (B + c) (nv ns F) = false := by
      unfold envOf
      rw [show vars - 1 - nv ns F = vars - nv ns F - 1 by omega, hm, hk]
      exact tb_low (by omega)
    rw [hb]
    simp
theorem Found.high (wf : Wf vars ns) {f F B : Nat} (h : Found vars ns f F B) (F2 : 2 ≤ F) (hl : nl ns F = 0) : Found vars ns f (nh ns F) (B ||| 2 ^ (vars - 1 - nv ns F)) := by
  have hF := h.lt
  have l1 := wf.hi F F2 hF
  have v0 := wf.va F F2 hF
  have v1 := wf.vhi F F2 hF
  have v2 := va_le wf (f := nh ns F) (by omega)
  have hne := wf.ne F F2 hF
  obtain ⟨m, hm⟩ := h.mul
  have hj : vars - 1 - nv ns F = vars - nv ns F - 1 := by omega
  have hk : vars - nv ns F = (vars - nv ns F - 1) + 1 := by omega
  have hk2 : vars - nv ns F - 1 = (vars - nv ns (nh ns F)) + (nv ns (nh ns F) - nv ns F - 1) := by omega
  have hle : 2 ^ (vars - nv ns (nh ns F)) ≤ 2 ^ (vars - nv ns F - 1) := Nat.pow_le_pow_right (by omega) (by omega)
  have hdb : 2 ^ (vars - nv ns F) = 2 ^ (vars - nv ns F - 1) + 2 ^ (vars - nv ns F - 1) := by conv => lhs; rw [hk, Nat.pow_succ]
                                                                                              omega
  have hor : B ||| 2 ^ (vars - 1 - nv ns F) = B + 2 ^ (vars - nv ns F - 1) := by
    rw [hj, hm, Nat.two_pow_add_eq_or_of_lt (by rw [hdb]; have := Nat.two_pow_pos (vars - nv ns F - 1); omega)]
  rw [hor]
  have tb : ∀ c, c < 2 ^ (vars - nv ns F - 1) → envOf vars (B + c) (nv ns F) = false ∧ envOf vars (B + 2 ^ (vars - nv ns F - 1) + c) (nv ns F) = true := fun c hc => by
    unfold envOf
    rw [hj, hm, hk]
    refine ⟨tb_low (by simpa using hc), ?_⟩
    have := tb_high (m := m) (j := vars - nv ns F - 1) (c := c) hc
    simpa using this
  refine ⟨by omega, by omega, ⟨2 ^ (nv ns (nh ns F) - nv ns F - 1) * (2 * m + 1), ?_⟩, ?_, fun c hc => ?_, fun b hb => ?_⟩
  · rw [← Nat.mul_assoc, ← Nat.pow_add, ← hk2, hm]
    conv => lhs; rw [hk, Nat.pow_succ]
    rw [show vars - nv ns F - 1 + 1 - 1 = vars - nv ns F - 1 by omega, Nat.mul_add, Nat.mul_one, Nat.mul_assoc]
  · have := h.le; omega
  · rw [Nat.add_assoc, h.same _ (by omega), ev_node wf F2 hF, ← Nat.add_assoc, (tb c (by omega)).2]
    simp
  · by_cases hbB : b < B
    · exact h.none b hbB
    · obtain ⟨c, rfl⟩ : ∃ c, b = B + c := ⟨b - B, by omega⟩
      rw [h.same c (by omega), ev_node wf F2 hF, (tb c (by omega)).1, hl, ev0]
      simp
end

/-- What One tells. -/
def IsOne (vars : Nat) (ns : List Nd) (f o : Nat) (s : Bool) : Prop :=
  (f = 0 ∧ o = 0 ∧ s = false) ∨ (f ≠ 0 ∧ s = true ∧ o < 2 ^ vars ∧ ev ns f (envOf vars o) = true ∧ ∀ b, b < o → ev ns f (envOf vars b) = false)
theorem Found.end {vars : Nat} {ns : List Nd} {f B : Nat} (h : Found vars ns f 1 B) (h0 : f ≠ 0) : IsOne vars ns f B true := by
  have hp := Nat.two_pow_pos (vars - nv ns 1)
  have hl := h.le
  refine Or.inr ⟨h0, rfl, by omega, ?_, h.none⟩
  have := h.same 0 hp
  rw [Nat.add_zero, ev1] at this
  exact this

section
variable {base a M vars most : Nat} {w : World} {ns : List Nd}

set_option maxHeartbeats 2000000 in
set_option maxRecDepth 100000 in
/-- One. -/
theorem one_ok (h : Ar base a M vars most w ns) {f : Nat} (hf : f < ns.length) :
    Calls Try.prog 66 #[.pointer (some ⟨a, 0, none⟩), .int .i64 (f : Int)] w fun e w' => ∃ (o : Nat) (s : Bool), e = .returned (.tuple #[.int .i64 (o : Int), .bool s, .int .i64 0]) ∧ IsOne vars ns f o s ∧ Ar base a M vars most w' ns ∧ Kp (ca base a M vars most) w w' := by
  have v16 := h.vars16
  have wf := h.wf
  have hl4 : ns.length ≤ 40000 := Nat.le_trans h.le h.most4
  have hpw : 2 ^ vars ≤ 2 ^ 16 := Nat.pow_le_pow_right (by omega) v16
  have t1 : (decide ((0 : Int) ≤ (f : Int)) && decide ((f : Int) < (ns.length : Int))) = true := by simp; omega
  go_enter Try.func66, Try.ntmps66
  go_wp2_with (go_at_call 86; refine (hasFunction_any h (f : Int)).mono ?_; rintro e w' ⟨rfl, rfl⟩; rw [t1])
  go_loopw [1, 7] (fun g bb wr => ∃ F B : Nat, g = .int .i64 (F : Int) ∧ bb = .int .i64 (B : Int) ∧ ((f = 0 ∧ F = 0 ∧ B = 0) ∨ (f ≠ 0 ∧ Found vars ns f F B)) ∧ Ar base a M vars most wr ns ∧ Kp (ca base a M vars most) w' wr) (fun g _ _ => (intOf g).toNat)
  case atStart =>
    refine ⟨f, 0, rfl, rfl, ?_, h, Kp.refl _ _⟩
    by_cases h0 : f = 0
    · exact Or.inl ⟨h0, h0, rfl⟩
    · exact Or.inr ⟨h0, found_start wf hf h0⟩
  case round =>
    obtain ⟨F, B, rfl, rfl, hI, hA, hK⟩ := hrel
    rcases hI with ⟨rfl, rfl, rfl⟩ | ⟨h0, hI⟩
    · go_wp2_with fail
      go_ret3
      exact ⟨0, false, rfl, Or.inl ⟨rfl, rfl, rfl⟩, hA, hK⟩
    · have hF := hI.lt
      have hI' := Hq.mk hI
      by_cases hF2 : 2 ≤ F
      · have t5 : decide ((1 : Int) < (F : Int)) = true := by simp; omega
        obtain ⟨cap, c0, c1, c2, c3, cf, cn⟩ := hA.reads
        obtain ⟨n0, n1, n2⟩ := cn F hF
        have hlo := wf.lo F hF2 hF
        have hhi := wf.hi F hF2 hF
        have hva := wf.va F hF2 hF
        have hA1 := hA.alloc (.cells #[.int .i64 (nv ns F : Int), .int .i64 (nl ns F : Int), .int .i64 (nh ns F : Int)] 87)
        have hK1 := hK.trans (Ar.kalloc' hA (.cells #[.int .i64 (nv ns F : Int), .int .i64 (nl ns F : Int), .int .i64 (nh ns F : Int)] 87))
        have hBle : B < 2 ^ vars := by have := hI.le; have := Nat.two_pow_pos (vars - nv ns F); omega
        have hq63 : ∀ q : Nat, q = 2 ^ (vars - 1 - nv ns F) → Go.bits .or .i64 (B : Int) (q : Int) = ((B ||| q : Nat) : Int) := fun q hq => intBits_or B q vars (by omega) hBle (by
          rw [hq]
          exact Nat.pow_lt_pow_right (by omega) (by omega))
        have hq63' := Hq.mk hq63
        generalize rowOf wr a = g at *
        clear cn hq63 hI
        by_cases hl0 : nl ns F = 0
        · have hl0' := Hq.mk hl0
          rw [hl0] at n1 hA1 hK1
          rw [hl0] at hlo
          clear hl0
          go_wp2_with (go_at_call 94; refine (bit_q hA1 hva).mono ?_; rintro e w2 ⟨q, rfl, hq, rfl⟩; have hbt := hq63'.out q hq.out)
          go_roundw
          case rel => exact ⟨nh ns F, B ||| q, rfl, rfl, Or.inr ⟨h0, by rw [hq.out]; exact hI'.out.high wf hF2 hl0'.out⟩, hA1, hK1⟩
          case measure => simp [intOf]; omega
        · have t6 : ((nl ns F : Int) == 0) = false := by simp; omega
          go_wp2_with fail
          go_roundw
          case rel => exact ⟨nl ns F, B, rfl, rfl, Or.inr ⟨h0, hI'.out.low wf hF2 hl0⟩, hA1, hK1⟩
          case measure => simp [intOf]; omega
      · obtain rfl : F = 1 := by have := hI.ne; omega
        clear hI
        go_wp2_with fail
        go_ret3
        exact ⟨B, true, rfl, hI'.out.end h0, hA, hK⟩

/-- Eval at bits that are too great. -/
theorem eval_bad (h : Ar base a M vars most w ns) {f b : Nat} (hf : f < ns.length) (hb : 2 ^ vars ≤ b) :
    Calls Try.prog 65 #[.pointer (some ⟨a, 0, none⟩), .int .i64 (f : Int), .int .i64 (b : Int)] w fun e w' => e = .returned (.tuple #[.bool false, .int .i64 1]) ∧ w' = w := by
  have v16 := h.vars16
  have hpw : 2 ^ vars ≤ 2 ^ 16 := Nat.pow_le_pow_right (by omega) v16
  have t1 : (decide ((0 : Int) ≤ (f : Int)) && decide ((f : Int) < (ns.length : Int))) = true := by simp; omega
  have t2 : decide ((b : Int) < 0) = false := by simp
  have hw : wrap64 (2 ^ vars) = ((2 ^ vars : Nat) : Int) := by
    have e : (2 : Int) ^ vars = ((2 ^ vars : Nat) : Int) := by simp
    rw [e, ← IntWalk.i64_left]
    generalize 2 ^ vars = p at *
    exact IntWalk.i64_in _ (by omega)
  have hw2 : IntKind.i64.wrap (2 ^ vars) = ((2 ^ vars : Nat) : Int) := by rw [IntWalk.i64_left]; exact hw
  obtain ⟨cap0, a0, _⟩ := h.reads
  generalize hpp : (2 : Nat) ^ vars = pp at *
  have t4 : decide (pp ≤ b) = true := by simp; omega
  go_enter Try.func65, Try.ntmps65
  go_wp2_with (go_at_call 86; refine (hasFunction_any h (f : Int)).mono ?_; rintro e w' ⟨rfl, rfl⟩; rw [t1])
  go_ret2
  exact ⟨rfl, rfl⟩
end
end Go.Proofs.Ytgcimcpcnoojnaa


