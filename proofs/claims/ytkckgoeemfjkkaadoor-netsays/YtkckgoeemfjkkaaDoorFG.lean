/-
  The document's answer on routes: In, top, rightRoute, Out, Routes.
-/
import Derived.Test.YtkckgoeemfjkkaaDoorFC
import Derived.Test.YtkckgoeemfjkkaaDoorNp
namespace Go.Proofs.YtkckgoeemfjkkaaDoor
open Go.RowKit

theorem finR (n lo hi : Int) (w : World) : Calls Tryd.prog 12 #[.int .i64 n, .int .i64 lo, .int .i64 hi] w fun e w' => e = .returned (.bool (decide (lo ≤ n) && decide (n ≤ hi))) ∧ w' = w := by
  by_cases h : lo ≤ n
  · go_enter Tryd.func12, Tryd.ntmps12
    go_wp2_with fail
    go_ret
    exact ⟨by simp [h], rfl⟩
  · have h' : decide (lo ≤ n) = false := by simp; omega
    go_enter Tryd.func12, Tryd.ntmps12
    go_wp2_with fail
    go_ret
    exact ⟨by simp, rfl⟩
/-- The first bits of an address. -/
def topV (n : Int) (b : Int) : Int := n / 2 ^ bh b * 2 ^ bh b
theorem top_0 (n : Int) (w : World) (h0 : 0 ≤ n) (h1 : n < 16) : Calls Tryd.prog 70 #[.int .i64 n, .int .i64 4] w fun e w' => e = .returned (.int .i64 (topV n 4)) ∧ w' = w := by
  have hw2 : IntKind.i64.wrap n = n := IntWalk.i64_in _ (by omega)
  have hw : wrap64 n = n := by rw [← IntWalk.i64_left]; exact hw2
  have E : Hid (topV n 4 = n) := by show n / 1 * 1 = n; omega
  clear h0 h1
  go_enter Tryd.func70, Tryd.ntmps70
  go_wp2_with fail
  go_ret
  refine ⟨?_, rfl⟩
  rw [E.out]
  first | rfl | (simp; done) | (simp; rw [hw]) | (simp; rw [hw2])
theorem top_1 (n : Int) (w : World) (h0 : 0 ≤ n) (h1 : n < 16) : Calls Tryd.prog 70 #[.int .i64 n, .int .i64 3] w fun e w' => e = .returned (.int .i64 (topV n 3)) ∧ w' = w := by
  have hw : wrap64 (n / 2 * 2) = n / 2 * 2 := by rw [← IntWalk.i64_left]; exact IntWalk.i64_in _ (by omega)
  have hw2 : IntKind.i64.wrap (n / 2 * 2) = n / 2 * 2 := IntWalk.i64_in _ (by omega)
  have E : Hid (topV n 3 = n / 2 * 2) := rfl
  have F : Hid (0 ≤ n ∧ n < 16) := ⟨h0, h1⟩
  clear h0 h1
  go_enter Tryd.func70, Tryd.ntmps70
  go_wp2_with fail
  go_ret
  refine ⟨?_, rfl⟩
  rw [E.out]
  first | rfl | (simp; done) | (simp; rw [hw]) | (simp; have := F.out; rw [← IntWalk.i64_left]; exact (IntWalk.i64_in _ (by omega)).symm)
theorem top_2 (n : Int) (w : World) (h0 : 0 ≤ n) (h1 : n < 16) : Calls Tryd.prog 70 #[.int .i64 n, .int .i64 2] w fun e w' => e = .returned (.int .i64 (topV n 2)) ∧ w' = w := by
  have hw : wrap64 (n / 4 * 4) = n / 4 * 4 := by rw [← IntWalk.i64_left]; exact IntWalk.i64_in _ (by omega)
  have hw2 : IntKind.i64.wrap (n / 4 * 4) = n / 4 * 4 := IntWalk.i64_in _ (by omega)
  have E : Hid (topV n 2 = n / 4 * 4) := rfl
  have F : Hid (0 ≤ n ∧ n < 16) := ⟨h0, h1⟩
  clear h0 h1
  go_enter Tryd.func70, Tryd.ntmps70
  go_wp2_with fail
  go_ret
  refine ⟨?_, rfl⟩
  rw [E.out]
  first | rfl | (simp; done) | (simp; rw [hw]) | (simp; have := F.out; rw [← IntWalk.i64_left]; exact (IntWalk.i64_in _ (by omega)).symm)
theorem top_3 (n : Int) (w : World) (h0 : 0 ≤ n) (h1 : n < 16) : Calls Tryd.prog 70 #[.int .i64 n, .int .i64 1] w fun e w' => e = .returned (.int .i64 (topV n 1)) ∧ w' = w := by
  have hw : wrap64 (n / 8 * 8) = n / 8 * 8 := by rw [← IntWalk.i64_left]; exact IntWalk.i64_in _ (by omega)
  have hw2 : IntKind.i64.wrap (n / 8 * 8) = n / 8 * 8 := IntWalk.i64_in _ (by omega)
  have E : Hid (topV n 1 = n / 8 * 8) := rfl
  have F : Hid (0 ≤ n ∧ n < 16) := ⟨h0, h1⟩
  clear h0 h1
  go_enter Tryd.func70, Tryd.ntmps70
  go_wp2_with fail
  go_ret
  refine ⟨?_, rfl⟩
  rw [E.out]
  first | rfl | (simp; done) | (simp; rw [hw]) | (simp; have := F.out; rw [← IntWalk.i64_left]; exact (IntWalk.i64_in _ (by omega)).symm)
theorem top_4 (n : Int) (w : World) (h0 : 0 ≤ n) (h1 : n < 16) : Calls Tryd.prog 70 #[.int .i64 n, .int .i64 0] w fun e w' => e = .returned (.int .i64 (topV n 0)) ∧ w' = w := by
  have hw : wrap64 (n / 16 * 16) = n / 16 * 16 := by rw [← IntWalk.i64_left]; exact IntWalk.i64_in _ (by omega)
  have hw2 : IntKind.i64.wrap (n / 16 * 16) = n / 16 * 16 := IntWalk.i64_in _ (by omega)
  have E : Hid (topV n 0 = n / 16 * 16) := rfl
  have F : Hid (0 ≤ n ∧ n < 16) := ⟨h0, h1⟩
  clear h0 h1
  go_enter Tryd.func70, Tryd.ntmps70
  go_wp2_with fail
  go_ret
  refine ⟨?_, rfl⟩
  rw [E.out]
  first | rfl | (simp; done) | (simp; rw [hw]) | (simp; have := F.out; rw [← IntWalk.i64_left]; exact (IntWalk.i64_in _ (by omega)).symm)
theorem top_any (n b : Int) (w : World) (h0 : 0 ≤ n) (h1 : n < 16) (h2 : 0 ≤ b) (h3 : b ≤ 4) : Calls Tryd.prog 70 #[.int .i64 n, .int .i64 b] w fun e w' => e = .returned (.int .i64 (topV n b)) ∧ w' = w := by
  have hb : b = 0 ∨ b = 1 ∨ b = 2 ∨ b = 3 ∨ b = 4 := by omega
  rcases hb with rfl | rfl | rfl | rfl | rfl
  · exact top_4 n w h0 h1
  · exact top_3 n w h0 h1
  · exact top_2 n w h0 h1
  · exact top_1 n w h0 h1
  · exact top_0 n w h0 h1
theorem top_same (v b : Int) : (topV v b == v) = decide (v % 2 ^ bh b = 0) := by
  have h := Int.mul_ediv_add_emod v (2 ^ bh b)
  unfold topV
  rw [Bool.eq_iff_iff, Int.mul_comm]
  generalize (2 : Int) ^ bh b = m at *
  simp
  omega
theorem top_takes {r : Rt} {d : Int} (hr : isR r = true) : (topV d r.b == r.v) = takesB r d := by
  have h := Int.mul_ediv_add_emod r.v (2 ^ bh r.b)
  have h2 := (isR_val hr).2.2
  have hp : (0 : Int) < 2 ^ bh r.b := Int.pow_pos (by omega)
  unfold topV takesB
  rw [Bool.eq_iff_iff, Int.mul_comm]
  generalize (2 : Int) ^ bh r.b = m at *
  simp
  rw [h2, Int.add_zero] at h
  constructor
  · intro e
    rw [← h] at e
    exact Int.eq_of_mul_eq_mul_left (by omega) e
  · intro e
    rw [e, h]

set_option maxHeartbeats 2000000 in
theorem right_case (v b p t : Int) (w : World) (x0 x1 x3 : Bool)
    (h0 : Hid (∀ w, Calls Tryd.prog 12 #[.int .i64 b, .int .i64 0, .int .i64 4] w fun e w' => e = .returned (.bool x0) ∧ w' = w))
    (h1 : Hid (∀ w, Calls Tryd.prog 12 #[.int .i64 v, .int .i64 0, .int .i64 15] w fun e w' => e = .returned (.bool x1) ∧ w' = w))
    (h2 : Hid ((x0 && x1) = true → ∀ w, Calls Tryd.prog 70 #[.int .i64 v, .int .i64 b] w fun e w' => e = .returned (.int .i64 t) ∧ w' = w))
    (h3 : Hid (∀ w, Calls Tryd.prog 12 #[.int .i64 p, .int .i64 0, .int .i64 3] w fun e w' => e = .returned (.bool x3) ∧ w' = w)) :
    Calls Tryd.prog 54 #[rtw v b p] w fun e w' => e = .returned (.bool (x0 && x1 && (t == v) && x3)) ∧ Below w.heap.size w w' := by
  have D0 := Below.al (Below.refl w.heap.size w) (.cells #[.int .i64 v, .int .i64 b, .int .i64 p] 60)
  cases x0
  · go_enter Tryd.func54, Tryd.ntmps54
    go_wp2_with fail
    go_quiet ((go_at_call_of 12 (Value.int .i64 b); exact Calls.quiet_of_same (h0.out _)))
    go_wp2_with fail
    go_ret
    exact ⟨by simp, belowNN D0 _⟩
  cases x1
  · go_enter Tryd.func54, Tryd.ntmps54
    go_wp2_with fail
    go_quiet ((first | (go_at_call_of 12 (Value.int .i64 b); exact Calls.quiet_of_same (h0.out _)) | (go_at_call_of 12 (Value.int .i64 v); exact Calls.quiet_of_same (h1.out _))))
    go_wp2_with fail
    go_ret
    exact ⟨by simp, belowNN D0 _⟩
  have H2 : Hid (∀ w, Calls Tryd.prog 70 #[.int .i64 v, .int .i64 b] w fun e w' => e = .returned (.int .i64 t) ∧ w' = w) := h2.out rfl
  clear h2
  cases ht : (t == v)
  · go_enter Tryd.func54, Tryd.ntmps54
    go_wp2_with fail
    go_quiet ((first | (go_at_call_of 12 (Value.int .i64 b); exact Calls.quiet_of_same (h0.out _)) | (go_at_call_of 12 (Value.int .i64 v); exact Calls.quiet_of_same (h1.out _)) | (go_at_call 70; exact Calls.quiet_of_same (H2.out _))))
    go_wp2_with fail
    go_ret
    exact ⟨by simp, belowNN D0 _⟩
  · go_enter Tryd.func54, Tryd.ntmps54
    go_wp2_with fail
    go_quiet ((first | (go_at_call_of 12 (Value.int .i64 b); exact Calls.quiet_of_same (h0.out _)) | (go_at_call_of 12 (Value.int .i64 v); exact Calls.quiet_of_same (h1.out _)) | (go_at_call_of 12 (Value.int .i64 p); exact Calls.quiet_of_same (h3.out _)) | (go_at_call 70; exact Calls.quiet_of_same (H2.out _))))
    go_wp2_with fail
    go_ret
    exact ⟨by simp, belowNN D0 _⟩
/-- rightRoute. -/
theorem rright_any (r : Rt) (w : World) : Calls Tryd.prog 54 #[rtw r.v r.b r.p] w fun e w' => e = .returned (.bool (isR r)) ∧ Below w.heap.size w w' := by
  obtain ⟨v, b, p⟩ := r
  have e : isR ⟨v, b, p⟩ = ((decide (0 ≤ b) && decide (b ≤ 4)) && (decide (0 ≤ v) && decide (v ≤ 15)) && (topV v b == v) && (decide (0 ≤ p) && decide (p ≤ 3))) := by
    rw [top_same, show decide (v ≤ 15) = decide (v < 16) by rw [decide_eq_decide]; omega, show decide (p ≤ 3) = decide (p < 4) by rw [decide_eq_decide]; omega]
    simp only [isR, Bool.and_assoc]
  rw [e]
  refine right_case v b p (topV v b) w _ _ _ (fun w => finR b 0 4 w) (fun w => finR v 0 15 w) (fun h w => ?_) (fun w => finR p 0 3 w)
  simp only [Bool.and_eq_true, decide_eq_true_eq] at h
  exact top_any v b w h.2.1 (by omega) h.1.1 h.1.2

/-! ### Out -/
def pB (d : Int) (n : Nat) (r : Rt) : Bool := isR r && (r.b == (n : Int)) && takesB r d
/-- The document's route: the most bits first. -/
def rout (l : List Rt) (d : Int) : Nat → Option Rt
  | 0 => none
  | n + 1 => (l.find? (pB d n)).or (rout l d n)
def rp : Option Rt → Int
  | some r => r.p
  | none => 0
theorem find_take {xs : List Rt} {k : Nat} {r : Rt} {q : Rt → Bool} (h : xs[k]? = some r) : (xs.take (k + 1)).find? q = ((xs.take k).find? q).or (if q r then some r else none) := by
  obtain ⟨hk, e⟩ := List.getElem?_eq_some_iff.1 h
  rw [List.take_succ_eq_append_getElem hk, e, List.find?_append]
  congr 1
  simp only [List.find?_cons, List.find?_nil]
  cases q r <;> simp
theorem find_here {xs : List Rt} {k : Nat} {r : Rt} {q : Rt → Bool} (h : xs[k]? = some r) (h0 : (xs.take k).find? q = none) (hq : q r = true) : xs.find? q = some r := by
  have e := find_take (q := q) h
  rw [h0, hq] at e
  simp only [if_true, Option.none_or] at e
  rw [← List.take_append_drop (k + 1) xs, List.find?_append, e]
  rfl
theorem best_spec (d : Int) (l : List Rt) : ((bestOf l d).1 = -1 ∧ ∀ r ∈ l, (isR r && takesB r d) = false) ∨ (∃ n : Nat, n ≤ 4 ∧ (bestOf l d).1 = (n : Int) ∧ (∃ r, l.find? (pB d n) = some r ∧ r.p = (bestOf l d).2) ∧ ∀ r ∈ l, (isR r && takesB r d) = true → r.b ≤ (n : Int)) := by
  suffices H : ∀ m : List Rt, ((bestOf m.reverse d).1 = -1 ∧ ∀ r ∈ m.reverse, (isR r && takesB r d) = false) ∨ (∃ n : Nat, n ≤ 4 ∧ (bestOf m.reverse d).1 = (n : Int) ∧ (∃ r, m.reverse.find? (pB d n) = some r ∧ r.p = (bestOf m.reverse d).2) ∧ ∀ r ∈ m.reverse, (isR r && takesB r d) = true → r.b ≤ (n : Int)) by
    have := H l.reverse
    rw [List.reverse_reverse] at this
    exact this
  intro m
  induction m with
  | nil => exact Or.inl ⟨rfl, fun r h => by cases h⟩
  | cons x m ih =>
    rw [List.reverse_cons, bestOf_snoc]
    generalize m.reverse = l at *
    by_cases hq : (isR x && takesB x d) = true
    · have hb := isR_bits (by simp only [Bool.and_eq_true] at hq; exact hq.1)
      obtain ⟨n', hn'⟩ : ∃ n' : Nat, x.b = (n' : Int) := ⟨x.b.toNat, by omega⟩
      by_cases hm : (bestOf l d).1 < x.b
      · have e : better d (bestOf l d) x = (x.b, x.p) := by
          unfold better
          rw [hq, Bool.true_and, if_pos (decide_eq_true hm)]
        rw [e]
        refine Or.inr ⟨n', by omega, hn', ⟨x, ?_, rfl⟩, ?_⟩
        · have h0 : l.find? (pB d n') = none := by
            rw [List.find?_eq_none]
            intro r hr hp
            simp only [pB, Bool.and_eq_true, beq_iff_eq] at hp
            rcases ih with ⟨_, h⟩ | ⟨n, _, e1, _, h⟩
            · have := h r hr
              rw [hp.1.1, hp.2] at this
              cases this
            · have := h r hr (by rw [hp.1.1, hp.2]; rfl)
              omega
          rw [List.find?_append, h0, Option.none_or]
          simp only [List.find?_cons]
          have : pB d n' x = true := by
            simp only [Bool.and_eq_true] at hq
            simp only [pB, hq.1, hq.2, hn', beq_self_eq_true, Bool.and_self]
          rw [this]
        · intro r hr hqr
          rcases List.mem_append.1 hr with hr | hr
          · rcases ih with ⟨_, h⟩ | ⟨n, _, e1, _, h⟩
            · have := h r hr
              rw [hqr] at this
              cases this
            · have := h r hr hqr
              omega
          · simp only [List.mem_cons, List.not_mem_nil, or_false] at hr
            subst hr
            omega
      · have e : better d (bestOf l d) x = bestOf l d := by
          unfold better
          rw [hq, Bool.true_and, if_neg (by simp only [decide_eq_true_eq]; exact hm)]
        rw [e]
        rcases ih with ⟨e1, _⟩ | ⟨n, hn, e1, ⟨r0, hf, hp⟩, h⟩
        · omega
        · refine Or.inr ⟨n, hn, e1, ⟨r0, by rw [List.find?_append, hf]; rfl, hp⟩, ?_⟩
          intro r hr hqr
          rcases List.mem_append.1 hr with hr | hr
          · exact h r hr hqr
          · simp only [List.mem_cons, List.not_mem_nil, or_false] at hr
            subst hr
            omega
    · have e : better d (bestOf l d) x = bestOf l d := by
        unfold better
        rw [if_neg (by simp only [Bool.and_eq_true] at hq ⊢; exact fun h => hq h.1)]
      rw [e]
      have hq' : (isR x && takesB x d) = false := by simpa using hq
      rcases ih with ⟨e1, h⟩ | ⟨n, hn, e1, ⟨r0, hf, hp⟩, h⟩
      · refine Or.inl ⟨e1, fun r hr => ?_⟩
        rcases List.mem_append.1 hr with hr | hr
        · exact h r hr
        · simp only [List.mem_cons, List.not_mem_nil, or_false] at hr
          subst hr
          exact hq'
      · refine Or.inr ⟨n, hn, e1, ⟨r0, by rw [List.find?_append, hf]; rfl, hp⟩, ?_⟩
        intro r hr hqr
        rcases List.mem_append.1 hr with hr | hr
        · exact h r hr hqr
        · simp only [List.mem_cons, List.not_mem_nil, or_false] at hr
          subst hr
          rw [hq'] at hqr
          cases hqr
theorem rout_none {l : List Rt} {d : Int} (h : ∀ r ∈ l, (isR r && takesB r d) = false) : ∀ n, rout l d n = none
  | 0 => rfl
  | n + 1 => by
    have : l.find? (pB d n) = none := by
      rw [List.find?_eq_none]
      intro r hr hp
      simp only [pB, Bool.and_eq_true] at hp
      have := h r hr
      rw [hp.1.1, hp.2] at this
      cases this
    rw [rout, this, Option.none_or]
    exact rout_none h n
theorem rout_hit {l : List Rt} {d : Int} {n : Nat} {r : Rt} (hf : l.find? (pB d n) = some r) (h : ∀ r ∈ l, (isR r && takesB r d) = true → r.b ≤ (n : Int)) : ∀ N, n < N → rout l d N = some r
  | 0, hN => by omega
  | N + 1, hN => by
    by_cases he : n = N
    · subst he
      rw [rout, hf]
      rfl
    · have : l.find? (pB d N) = none := by
        rw [List.find?_eq_none]
        intro r hr hp
        simp only [pB, Bool.and_eq_true, beq_iff_eq] at hp
        have := h r hr (by rw [hp.1.1, hp.2]; rfl)
        omega
      rw [rout, this, Option.none_or]
      exact rout_hit hf h N (by omega)
/-- The document's route is the best one. -/
theorem rout_out (l : List Rt) {d : Int} (hd : 0 ≤ d ∧ d < 16) : rp (rout l d 5) = outN l d ∧ (rout l d 5).isSome = outB l d := by
  unfold outN outB
  rw [if_pos hd, decide_eq_true hd.1, decide_eq_true hd.2]
  rcases best_spec d l with ⟨e, h⟩ | ⟨n, hn, e, ⟨r, hf, hp⟩, h⟩
  · rw [rout_none h 5, (bestOf_low l d).2 e, e]
    exact ⟨rfl, rfl⟩
  · rw [rout_hit hf h 5 (by omega), e, ← hp]
    refine ⟨rfl, ?_⟩
    have : ((n : Int) == -1) = false := by simp
    rw [this]
    rfl

end Go.Proofs.YtkckgoeemfjkkaaDoor

