/-
  right.
-/
import Derived.Test.YtgcimcpcnoojnaaSize
import Derived.Test.YtgcimcpcnoojnaaRef1
namespace Go.Proofs.Ytgcimcpcnoojnaa
open Go.RowKit Go.Maps

/-- The first of k bits that a table has; -1, if there is none. -/
def fst (t : Nat → Bool) : Nat → Int
  | 0 => -1
  | k + 1 => if t k then (if fst t k < 0 then (k : Int) else fst t k) else fst t k
theorem fst_ge (t : Nat → Bool) : ∀ k, -1 ≤ fst t k ∧ fst t k < k
  | 0 => by simp [fst]
  | k + 1 => by
    have := fst_ge t k
    simp only [fst]
    split
    · split <;> omega
    · omega
theorem fst_none {t : Nat → Bool} : ∀ k, (∀ b, b < k → t b = false) → fst t k = -1 ∧ cnt t k = 0
  | 0, _ => ⟨rfl, rfl⟩
  | k + 1, h => by
    have ih := fst_none k (fun b hb => h b (by omega))
    simp [fst, cnt, h k (by omega), ih.1, ih.2]
theorem fst_at {t : Nat → Bool} {o : Nat} (ho : t o = true) (hn : ∀ b, b < o → t b = false) : ∀ k, o < k → fst t k = (o : Int) ∧ 0 < cnt t k
  | 0, h => by omega
  | k + 1, h => by
    by_cases hk : o < k
    · have ih := fst_at ho hn k hk
      refine ⟨?_, by rw [cnt]; omega⟩
      simp only [fst, ih.1]
      split
      · rw [if_neg (by omega)]
      · rfl
    · obtain rfl : o = k := by omega
      have ih := fst_none o hn
      simp [fst, cnt, ho, ih.1]
theorem cnt_le (t : Nat → Bool) : ∀ k, cnt t k ≤ k
  | 0 => by simp [cnt]
  | k + 1 => by
    have := cnt_le t k
    rw [cnt]
    split <;> omega

section
variable {base a M vars most : Nat} {w : World} {ns : List Nd}

theorem Tab.kp {C : Cfg} {w w' : World} {tb n : Nat} {t : Nat → Bool} (h : Tab w tb n t) (ho : Out C w tb) (hk : Kp C w w') : Tab w' tb n t := h.of_block (hk.blk tb ho.lt ho.not ho.ne)

set_option maxHeartbeats 4000000 in
set_option maxRecDepth 100000 in
theorem right_ok (h : Ar base a M vars most w ns) {f n tb : Nat} {t : Nat → Bool} (hv8 : vars ≤ 8) (hn : 2 ^ vars = n) (hf : f < ns.length) (hT : Tab w tb n t) (ho : Out (ca base a M vars most) w tb) (hE : ∀ b, b < n → ev ns f (envOf vars b) = t b) :
    Calls Try.prog 18 #[.pointer (some ⟨a, 0, none⟩), .int .i64 (vars : Int), .int .i64 (f : Int), .slice (some ⟨tb, 0, none⟩) n n] w fun e w' => e = .returned (.bool true) ∧ Ar base a M vars most w' ns ∧ Kp (ca base a M vars most) w w' := by
  have hl4 : ns.length ≤ 40000 := Nat.le_trans h.le h.most4
  have hn8 : n ≤ 256 := by
    have : 2 ^ vars ≤ 2 ^ 8 := Nat.pow_le_pow_right (by omega) hv8
    omega
  have wf := h.wf
  obtain ⟨hw1, hw2⟩ := pow_wrap (by omega) hn
  -- what Count tells
  have hcnt : cn vars ns f * 2 ^ nv ns f = cnt t n := by
    rw [cn_all wf hf e00, T_all (dep_ev wf hf), hn]
    exact cnt_congr n hE
  have hE' := Hq.mk hE
  have hcnt' := Hq.mk hcnt
  clear hcnt
  go_enter Try.func18, Try.ntmps18
  go_wp2_with fail
  go_loopw [9, 10, 24] (fun c q i wr => ∃ k : Nat, k ≤ n ∧ i = .int .i64 (k : Int) ∧ c = .int .i64 (cnt t k : Int) ∧ q = .int .i64 (fst t k) ∧ Ar base a M vars most wr ns ∧ Kp (ca base a M vars most) w wr) (fun _ _ i _ => n - (intOf i).toNat)
  case atStart => exact ⟨0, by omega, rfl, rfl, rfl, h, Kp.refl _ _⟩
  case round =>
    obtain ⟨k, hk, rfl, rfl, rfl, hA, hK⟩ := hrel
    have hTr := hT.kp ho hK
    have hcl := cnt_le t k
    have hfg := fst_ge t k
    by_cases hlt : k < n
    · have hcell := World.rowIs.cell hTr hlt
      have hev := hE'.out k hlt
      have hc1 : cnt t (k + 1) = cnt t k + (if t k then 1 else 0) := rfl
      have hf1 : fst t (k + 1) = if t k then (if fst t k < 0 then (k : Int) else fst t k) else fst t k := rfl
      cases htk : t k
      · rw [htk] at hc1 hf1 hcell hev
        simp only [Bool.false_eq_true, if_false, Nat.add_zero] at hc1 hf1
        go_wp2_with fail
        refine (eval_ok hA hf (b := k) (by omega)).mono ?_
        rintro e w2 ⟨rfl, hA2, hK2⟩
        have hK3 := hK.trans hK2
        rw [hev]
        go_wp2_with fail
        go_roundw
        case rel => exact ⟨k + 1, by omega, by go_num, by rw [hc1], by rw [hf1], hA2, hK3⟩
        case measure => simp [intOf]; omega
      · rw [htk] at hc1 hf1 hcell hev
        simp only [if_true] at hc1 hf1
        by_cases hneg : fst t k < 0
        · rw [if_pos hneg] at hf1
          have tn : decide (fst t k < 0) = true := by simpa using hneg
          go_wp2_with fail
          refine (eval_ok hA hf (b := k) (by omega)).mono ?_
          rintro e w2 ⟨rfl, hA2, hK2⟩
          have hK3 := hK.trans hK2
          rw [hev]
          go_wp2_with fail
          go_roundw
          case rel => exact ⟨k + 1, by omega, by go_num, by rw [hc1]; go_num, by rw [hf1], hA2, hK3⟩
          case measure => simp [intOf]; omega
        · rw [if_neg hneg] at hf1
          have tn : decide (fst t k < 0) = false := by simpa using hneg
          go_wp2_with fail
          refine (eval_ok hA hf (b := k) (by omega)).mono ?_
          rintro e w2 ⟨rfl, hA2, hK2⟩
          have hK3 := hK.trans hK2
          rw [hev]
          go_wp2_with fail
          go_roundw
          case rel => exact ⟨k + 1, by omega, by go_num, by rw [hc1]; go_num, by rw [hf1], hA2, hK3⟩
          case measure => simp [intOf]; omega
    · have hk' : Hq (n = k) := ⟨by omega⟩
      go_wp2_with fail
      refine (count_ok hA hf).mono ?_
      rintro e w2 ⟨rfl, hA2, hK2⟩
      rw [hcnt'.out, hk'.out]
      have hK3 := hK.trans hK2
      go_wp2_with fail
      refine (one_ok hA2 hf).mono ?_
      rintro e w3 ⟨o, s, rfl, hO, hA4, hK4⟩
      have hK5 := hK3.trans hK4
      have hkn := hk'.out
      have hos : s = decide ((0 : Int) < (cnt t k : Int)) ∧ (o : Int) = (if fst t k < 0 then 0 else fst t k) := by
        rcases hO with ⟨h1, h2, h3⟩ | ⟨_, h3, h4, h5, h6⟩
        · have hno := fst_none k (t := t) (fun b hb => by rw [← hE'.out b (by omega), h1, ev0])
          rw [h2, h3, hno.1, hno.2]
          exact ⟨rfl, rfl⟩
        · have hat := fst_at (t := t) (o := o) (by rw [← hE'.out o (by omega)]; exact h5) (fun b hb => by rw [← hE'.out b (by omega)]; exact h6 b hb) k (by omega)
          rw [h3, hat.1]
          exact ⟨by symm; simpa using hat.2, by rw [if_neg (by omega)]⟩
      clear hkn
      obtain ⟨rfl, hoo⟩ := hos
      have hmx : ∀ (ts : Array TypeId) (ty : TypeId) (W : World), (Builtin.max_ ts ty #[.int .i64 (fst t k), .int .i64 0]).run Try.prog W = .ok (.int .i64 (o : Int)) W := fun ts ty W => by
        rw [hoo]
        simp [Builtin.max_, Builtin.max2]
      clear hoo hO
      go_wp2_with fail
      refine (eval_bad hA4 hf (b := n) (by omega)).mono ?_
      rintro e w4 ⟨rfl, rfl⟩
      have hfl : decide ((f : Int) < (ns.length : Int)) = true := by simp; omega
      go_wp2_with (go_at_call 14; refine (size_any hA4).mono ?_; rintro e w5 ⟨rfl, rfl⟩)
      go_ret
      exact ⟨by simp, hA4, hK5⟩
end
end Go.Proofs.Ytgcimcpcnoojnaa


