/-
  The document's answer on routes: In, top, rightRoute, Out, Routes.
-/
import Derived.Test.YtgcimcpcnoojnaaChk
namespace Go.Proofs.Ytgcimcpcnoojnaa
open Go.RowKit

theorem finR (n lo hi : Int) (w : World) : Calls Try.prog 10 #[.int .i64 n, .int .i64 lo, .int .i64 hi] w fun e w' => e = .returned (.bool (decide (lo ≤ n) && decide (n ≤ hi))) ∧ w' = w := by
  by_cases h : lo ≤ n
  · go_enter Try.func10, Try.ntmps10
    go_wp2_with fail
    go_ret
    exact ⟨by simp [h], rfl⟩
  · have h' : decide (lo ≤ n) = false := by simp; omega
    go_enter Try.func10, Try.ntmps10
    go_wp2_with fail
    go_ret
    exact ⟨by simp, rfl⟩
/-- The first bits of an address. -/
def topV (n : Int) (b : Int) : Int := n / 2 ^ bh b * 2 ^ bh b
theorem top_0 (n : Int) (w : World) (h0 : 0 ≤ n) (h1 : n < 16) : Calls Try.prog 80 #[.int .i64 n, .int .i64 4] w fun e w' => e = .returned (.int .i64 (topV n 4)) ∧ w' = w := by
  have hw2 : IntKind.i64.wrap n = n := IntWalk.i64_in _ (by omega)
  have hw : wrap64 n = n := by rw [← IntWalk.i64_left]; exact hw2
  have E : Hid (topV n 4 = n) := by show n / 1 * 1 = n; omega
  clear h0 h1
  go_enter Try.func80, Try.ntmps80
  go_wp2_with fail
  go_ret
  refine ⟨?_, rfl⟩
  rw [E.out]
  first | rfl | (simp; done) | (simp; rw [hw]) | (simp; rw [hw2])
theorem top_1 (n : Int) (w : World) (h0 : 0 ≤ n) (h1 : n < 16) : Calls Try.prog 80 #[.int .i64 n, .int .i64 3] w fun e w' => e = .returned (.int .i64 (topV n 3)) ∧ w' = w := by
  have hw : wrap64 (n / 2 * 2) = n / 2 * 2 := by rw [← IntWalk.i64_left]; exact IntWalk.i64_in _ (by omega)
  have hw2 : IntKind.i64.wrap (n / 2 * 2) = n / 2 * 2 := IntWalk.i64_in _ (by omega)
  have E : Hid (topV n 3 = n / 2 * 2) := rfl
  have F : Hid (0 ≤ n ∧ n < 16) := ⟨h0, h1⟩
  clear h0 h1
  go_enter Try.func80, Try.ntmps80
  go_wp2_with fail
  go_ret
  refine ⟨?_, rfl⟩
  rw [E.out]
  first | rfl | (simp; done) | (simp; rw [hw]) | (simp; have := F.out; rw [← IntWalk.i64_left]; exact (IntWalk.i64_in _ (by omega)).symm)
theorem top_2 (n : Int) (w : World) (h0 : 0 ≤ n) (h1 : n < 16) : Calls Try.prog 80 #[.int .i64 n, .int .i64 2] w fun e w' => e = .returned (.int .i64 (topV n 2)) ∧ w' = w := by
  have hw : wrap64 (n / 4 * 4) = n / 4 * 4 := by rw [← IntWalk.i64_left]; exact IntWalk.i64_in _ (by omega)
  have hw2 : IntKind.i64.wrap (n / 4 * 4) = n / 4 * 4 := IntWalk.i64_in _ (by omega)
  have E : Hid (topV n 2 = n / 4 * 4) := rfl
  have F : Hid (0 ≤ n ∧ n < 16) := ⟨h0, h1⟩
  clear h0 h1
  go_enter Try.func80, Try.ntmps80
  go_wp2_with fail
  go_ret
  refine ⟨?_, rfl⟩
  rw [E.out]
  first | rfl | (simp; done) | (simp; rw [hw]) | (simp; have := F.out; rw [← IntWalk.i64_left]; exact (IntWalk.i64_in _ (by omega)).symm)
theorem top_3 (n : Int) (w : World) (h0 : 0 ≤ n) (h1 : n < 16) : Calls Try.prog 80 #[.int .i64 n, .int .i64 1] w fun e w' => e = .returned (.int .i64 (topV n 1)) ∧ w' = w := by
  have hw : wrap64 (n / 8 * 8) = n / 8 * 8 := by rw [← IntWalk.i64_left]; exact IntWalk.i64_in _ (by omega)
  have hw2 : IntKind.i64.wrap (n / 8 * 8) = n / 8 * 8 := IntWalk.i64_in _ (by omega)
  have E : Hid (topV n 1 = n / 8 * 8) := rfl
  have F : Hid (0 ≤ n ∧ n < 16) := ⟨h0, h1⟩
  clear h0 h1
  go_enter Try.func80, Try.ntmps80
  go_wp2_with fail
  go_ret
  refine ⟨?_, rfl⟩
  rw [E.out]
  first | rfl | (simp; done) | (simp; rw [hw]) | (simp; have := F.out; rw [← IntWalk.i64_left]; exact (IntWalk.i64_in _ (by omega)).symm)
theorem top_4 (n : Int) (w : World) (h0 : 0 ≤ n) (h1 : n < 16) : Calls Try.prog 80 #[.int .i64 n, .int .i64 0] w fun e w' => e = .returned (.int .i64 (topV n 0)) ∧ w' = w := by
  have hw : wrap64 (n / 16 * 16) = n / 16 * 16 := by rw [← IntWalk.i64_left]; exact IntWalk.i64_in _ (by omega)
  have hw2 : IntKind.i64.wrap (n / 16 * 16) = n / 16 * 16 := IntWalk.i64_in _ (by omega)
  have E : Hid (topV n 0 = n / 16 * 16) := rfl
  have F : Hid (0 ≤ n ∧ n < 16) := ⟨h0, h1⟩
  clear h0 h1
  go_enter Try.func80, Try.ntmps80
  go_wp2_with fail
  go_ret
  refine ⟨?_, rfl⟩
  rw [E.out]
  first | rfl | (simp; done) | (simp; rw [hw]) | (simp; have := F.out; rw [← IntWalk.i64_left]; exact (IntWalk.i64_in _ (by omega)).symm)
theorem top_any (n b : Int) (w : World) (h0 : 0 ≤ n) (h1 : n < 16) (h2 : 0 ≤ b) (h3 : b ≤ 4) : Calls Try.prog 80 #[.int .i64 n, .int .i64 b] w fun e w' => e = .returned (.int .i64 (topV n b)) ∧ w' = w := by
  have hb : b = 0 ∨ b = 1 ∨ b = 2 ∨ b = 3 ∨ b = 4 := by omega
  rcases hb with rfl | rfl | rfl | rfl | rfl
  · exact top_4 n w h0 h1
  · exact top_3 n w h0 h1
  · exact top_2 n w h0 h1
  · exact top_1 n w h0 h1
  · exact top_0 n w h0 h1
theorem top_same (v b : Int) : (topV v b == v) = decide (v % 2 ^ bh b = 0) := by
  have h := Int.mul_ediv_add_emod v (2 ^ bh b)
  unfold topV
  rw [Bool.eq_iff_iff, Int.mul_comm]
  generalize (2 : Int) ^ bh b = m at *
  simp
  omega
theorem top_takes {r : Rt} {d : Int} (hr : isR r = true) : (topV d r.b == r.v) = takesB r d := by
  have h := Int.mul_ediv_add_emod r.v (2 ^ bh r.b)
  have h2 := (isR_val hr).2.2
  have hp : (0 : Int) < 2 ^ bh r.b := Int.pow_pos (by omega)
  unfold topV takesB
  rw [Bool.eq_iff_iff, Int.mul_comm]
  generalize (2 : Int) ^ bh r.b = m at *
  simp
  rw [h2, Int.add_zero] at h
  constructor
  · intro e
    rw [← h] at e
    exact Int.eq_of_mul_eq_mul_left (by omega) e
  · intro e
    rw [e, h]

set_option maxHeartbeats 2000000 in
theorem right_case (v b p t : Int) (w : World) (x0 x1 x3 : Bool)
    (h0 : Hid (∀ w, Calls Try.prog 10 #[.int .i64 b, .int .i64 0, .int .i64 4] w fun e w' => e = .returned (.bool x0) ∧ w' = w))
    (h1 : Hid (∀ w, Calls Try.prog 10 #[.int .i64 v, .int .i64 0, .int .i64 15] w fun e w' => e = .returned (.bool x1) ∧ w' = w))
    (h2 : Hid ((x0 && x1) = true → ∀ w, Calls Try.prog 80 #[.int .i64 v, .int .i64 b] w fun e w' => e = .returned (.int .i64 t) ∧ w' = w))
    (h3 : Hid (∀ w, Calls Try.prog 10 #[.int .i64 p, .int .i64 0, .int .i64 3] w fun e w' => e = .returned (.bool x3) ∧ w' = w)) :
    Calls Try.prog 77 #[rtw v b p] w fun e w' => e = .returned (.bool (x0 && x1 && (t == v) && x3)) ∧ Below w.heap.size w w' := by
  have D0 := Below.al (Below.refl w.heap.size w) (.cells #[.int .i64 v, .int .i64 b, .int .i64 p] 109)
  cases x0
  · go_enter Try.func77, Try.ntmps77
    go_wp2_with fail
    go_quiet ((go_at_call_of 10 (Value.int .i64 b); exact Calls.quiet_of_same (h0.out _)))
    go_wp2_with fail
    go_ret
    exact ⟨by simp, belowN D0 _⟩
  cases x1
  · go_enter Try.func77, Try.ntmps77
    go_wp2_with fail
    go_quiet ((first | (go_at_call_of 10 (Value.int .i64 b); exact Calls.quiet_of_same (h0.out _)) | (go_at_call_of 10 (Value.int .i64 v); exact Calls.quiet_of_same (h1.out _))))
    go_wp2_with fail
    go_ret
    exact ⟨by simp, belowN D0 _⟩
  have H2 : Hid (∀ w, Calls Try.prog 80 #[.int .i64 v, .int .i64 b] w fun e w' => e = .returned (.int .i64 t) ∧ w' = w) := h2.out rfl
  clear h2
  cases ht : (t == v)
  · go_enter Try.func77, Try.ntmps77
    go_wp2_with fail
    go_quiet ((first | (go_at_call_of 10 (Value.int .i64 b); exact Calls.quiet_of_same (h0.out _)) | (go_at_call_of 10 (Value.int .i64 v); exact Calls.quiet_of_same (h1.out _)) | (go_at_call 80; exact Calls.quiet_of_same (H2.out _))))
    go_wp2_with fail
    go_ret
    exact ⟨by simp, belowN D0 _⟩
  · go_enter Try.func77, Try.ntmps77
    go_wp2_with fail
    go_quiet ((first | (go_at_call_of 10 (Value.int .i64 b); exact Calls.quiet_of_same (h0.out _)) | (go_at_call_of 10 (Value.int .i64 v); exact Calls.quiet_of_same (h1.out _)) | (go_at_call_of 10 (Value.int .i64 p); exact Calls.quiet_of_same (h3.out _)) | (go_at_call 80; exact Calls.quiet_of_same (H2.out _))))
    go_wp2_with fail
    go_ret
    exact ⟨by simp, belowN D0 _⟩
/-- rightRoute. -/
theorem rright_any (r : Rt) (w : World) : Calls Try.prog 77 #[rtw r.v r.b r.p] w fun e w' => e = .returned (.bool (isR r)) ∧ Below w.heap.size w w' := by
  obtain ⟨v, b, p⟩ := r
  have e : isR ⟨v, b, p⟩ = ((decide (0 ≤ b) && decide (b ≤ 4)) && (decide (0 ≤ v) && decide (v ≤ 15)) && (topV v b == v) && (decide (0 ≤ p) && decide (p ≤ 3))) := by
    rw [top_same, show decide (v ≤ 15) = decide (v < 16) by rw [decide_eq_decide]; omega, show decide (p ≤ 3) = decide (p < 4) by rw [decide_eq_decide]; omega]
    simp only [isR, Bool.and_assoc]
  rw [e]
  refine right_case v b p (topV v b) w _ _ _ (fun w => finR b 0 4 w) (fun w => finR v 0 15 w) (fun h w => ?_) (fun w => finR p 0 3 w)
  simp only [Bool.and_eq_true, decide_eq_true_eq] at h
  exact top_any v b w h.2.1 (by omega) h.1.1 h.1.2

/-! ### Out -/
def pB (d : Int) (n : Nat) (r : Rt) : Bool := isR r && (r.b == (n : Int)) && takesB r d
/-- The document's route: the most bits first. -/
def rout (l : List Rt) (d : Int) : Nat → Option Rt
  | 0 => none
  | n + 1 => (l.find? (pB d n)).or (rout l d n)
def rp : Option Rt → Int
  | some r => r.p
  | none => 0
theorem find_take {xs : List Rt} {k : Nat} {r : Rt} {q : Rt → Bool} (h : xs[k]? = some r) : (xs.take (k + 1)).find? q = ((xs.take k).find? q).or (if q r then some r else none) := by
  obtain ⟨hk, e⟩ := List.getElem?_eq_some_iff.1 h
  rw [List.take_succ_eq_append_getElem hk, e, List.find?_append]
  congr 1
  simp only [List.find?_cons, List.find?_nil]
  cases q r <;> simp
theorem find_here {xs : List Rt} {k : Nat} {r : Rt} {q : Rt → Bool} (h : xs[k]? = some r) (h0 : (xs.take k).find? q = none) (hq : q r = true) : xs.find? q = some r := by
  have e := find_take (q := q) h
  rw [h0, hq] at e
  simp only [if_true, Option.none_or] at e
  rw [← List.take_append_drop (k + 1) xs, List.find?_append, e]
  rfl
theorem best_spec (d : Int) (l : List Rt) : ((bestOf l d).1 = -1 ∧ ∀ r ∈ l, (isR r && takesB r d) = false) ∨ (∃ n : Nat, n ≤ 4 ∧ (bestOf l d).1 = (n : Int) ∧ (∃ r, l.find? (pB d n) = some r ∧ r.p = (bestOf l d).2) ∧ ∀ r ∈ l, (isR r && takesB r d) = true → r.b ≤ (n : Int)) := by
  suffices H : ∀ m : List Rt, ((bestOf m.reverse d).1 = -1 ∧ ∀ r ∈ m.reverse, (isR r && takesB r d) = false) ∨ (∃ n : Nat, n ≤ 4 ∧ (bestOf m.reverse d).1 = (n : Int) ∧ (∃ r, m.reverse.find? (pB d n) = some r ∧ r.p = (bestOf m.reverse d).2) ∧ ∀ r ∈ m.reverse, (isR r && takesB r d) = true → r.b ≤ (n : Int)) by
    have := H l.reverse
    rw [List.reverse_reverse] at this
    exact this
  intro m
  induction m with
  | nil => exact Or.inl ⟨rfl, fun r h => by cases h⟩
  | cons x m ih =>
    rw [List.reverse_cons, bestOf_snoc]
    generalize m.reverse = l at *
    by_cases hq : (isR x && takesB x d) = true
    · have hb := isR_bits (by simp only [Bool.and_eq_true] at hq; exact hq.1)
      obtain ⟨n', hn'⟩ : ∃ n' : Nat, x.b = (n' : Int) := ⟨x.b.toNat, by omega⟩
      by_cases hm : (bestOf l d).1 < x.b
      · have e : better d (bestOf l d) x = (x.b, x.p) := by
          unfold better
          rw [hq, Bool.true_and, if_pos (decide_eq_true hm)]
        rw [e]
        refine Or.inr ⟨n', by omega, hn', ⟨x, ?_, rfl⟩, ?_⟩
        · have h0 : l.find? (pB d n') = none := by
            rw [List.find?_eq_none]
            intro r hr hp
            simp only [pB, Bool.and_eq_true, beq_iff_eq] at hp
            rcases ih with ⟨_, h⟩ | ⟨n, _, e1, _, h⟩
            · have := h r hr
              rw [hp.1.1, hp.2] at this
              cases this
            · have := h r hr (by rw [hp.1.1, hp.2]; rfl)
              omega
          rw [List.find?_append, h0, Option.none_or]
          simp only [List.find?_cons]
          have : pB d n' x = true := by
            simp only [Bool.and_eq_true] at hq
            simp only [pB, hq.1, hq.2, hn', beq_self_eq_true, Bool.and_self]
          rw [this]
        · intro r hr hqr
          rcases List.mem_append.1 hr with hr | hr
          · rcases ih with ⟨_, h⟩ | ⟨n, _, e1, _, h⟩
            · have := h r hr
              rw [hqr] at this
              cases this
            · have := h r hr hqr
              omega
          · simp only [List.mem_cons, List.not_mem_nil, or_false] at hr
            subst hr
            omega
      · have e : better d (bestOf l d) x = bestOf l d := by
          unfold better
          rw [hq, Bool.true_and, if_neg (by simp only [decide_eq_true_eq]; exact hm)]
        rw [e]
        rcases ih with ⟨e1, _⟩ | ⟨n, hn, e1, ⟨r0, hf, hp⟩, h⟩
        · omega
        · refine Or.inr ⟨n, hn, e1, ⟨r0, by rw [List.find?_append, hf]; rfl, hp⟩, ?_⟩
          intro r hr hqr
          rcases List.mem_append.1 hr with hr | hr
          · exact h r hr hqr
          · simp only [List.mem_cons, List.not_mem_nil, or_false] at hr
            subst hr
            omega
    · have e : better d (bestOf l d) x = bestOf l d := by
        unfold better
        rw [if_neg (by simp only [Bool.and_eq_true] at hq ⊢; exact fun h => hq h.1)]
      rw [e]
      have hq' : (isR x && takesB x d) = false := by simpa using hq
      rcases ih with ⟨e1, h⟩ | ⟨n, hn, e1, ⟨r0, hf, hp⟩, h⟩
      · refine Or.inl ⟨e1, fun r hr => ?_⟩
        rcases List.mem_append.1 hr with hr | hr
        · exact h r hr
        · simp only [List.mem_cons, List.not_mem_nil, or_false] at hr
          subst hr
          exact hq'
      · refine Or.inr ⟨n, hn, e1, ⟨r0, by rw [List.find?_append, hf]; rfl, hp⟩, ?_⟩
        intro r hr hqr
        rcases List.mem_append.1 hr with hr | hr
        · exact h r hr hqr
        · simp only [List.mem_cons, List.not_mem_nil, or_false] at hr
          subst hr
          rw [hq'] at hqr
          cases hqr
theorem rout_none {l : List Rt} {d : Int} (h : ∀ r ∈ l, (isR r && takesB r d) = false) : ∀ n, rout l d n = none
  | 0 => rfl
  | n + 1 => by
    have : l.find? (pB d n) = none := by
      rw [List.find?_eq_none]
      intro r hr hp
      simp only [pB, Bool.and_eq_true] at hp
      have := h r hr
      rw [hp.1.1, hp.2] at this
      cases this
    rw [rout, this, Option.none_or]
    exact rout_none h n
theorem rout_hit {l : List Rt} {d : Int} {n : Nat} {r : Rt} (hf : l.find? (pB d n) = some r) (h : ∀ r ∈ l, (isR r && takesB r d) = true → r.b ≤ (n : Int)) : ∀ N, n < N → rout l d N = some r
  | 0, hN => by omega
  | N + 1, hN => by
    by_cases he : n = N
    · subst he
      rw [rout, hf]
      rfl
    · have : l.find? (pB d N) = none := by
        rw [List.find?_eq_none]
        intro r hr hp
        simp only [pB, Bool.and_eq_true, beq_iff_eq] at hp
        have := h r hr (by rw [hp.1.1, hp.2]; rfl)
        omega
      rw [rout, this, Option.none_or]
      exact rout_hit hf h N (by omega)
/-- The document's route is the best one. -/
theorem rout_out (l : List Rt) {d : Int} (hd : 0 ≤ d ∧ d < 16) : rp (rout l d 5) = outN l d ∧ (rout l d 5).isSome = outB l d := by
  unfold outN outB
  rw [if_pos hd, decide_eq_true hd.1, decide_eq_true hd.2]
  rcases best_spec d l with ⟨e, h⟩ | ⟨n, hn, e, ⟨r, hf, hp⟩, h⟩
  · rw [rout_none h 5, (bestOf_low l d).2 e, e]
    exact ⟨rfl, rfl⟩
  · rw [rout_hit hf h 5 (by omega), e, ← hp]
    refine ⟨rfl, ?_⟩
    have : ((n : Int) == -1) = false := by simp
    rw [this]
    rfl

set_option maxHeartbeats 8000000 in
set_option maxRecDepth 100000 in
theorem rout_row (b o cap : Nat) (xs : List Rt) (d : Int) (w : World) (hb : b < w.heap.size) (hn : xs.length ≤ cap) (hcap : cap ≤ maxLen) (hr : Hid (TAt w b o xs)) (h0 : 0 ≤ d) (h1 : d < 16) :
    Calls Try.prog 34 #[.slice (some ⟨b, o, none⟩) xs.length cap, .int .i64 d] w fun e w' => e = .returned (.tuple #[.int .i64 (rp (rout xs d 5)), .bool (rout xs d 5).isSome]) ∧ Below w.heap.size w w' := by
  unfold maxLen at hcap
  have IN : Hid (∀ w, Calls Try.prog 10 #[.int .i64 d, .int .i64 0, .int .i64 15] w fun e w' => e = .returned (.bool true) ∧ w' = w) := fun w => by
    have := finR d 0 15 w
    rw [show (decide (0 ≤ d) && decide (d ≤ 15)) = true by simp; omega] at this
    exact this
  have H0 : Hid (0 ≤ d ∧ d < 16) := ⟨h0, h1⟩
  clear h0 h1
  go_enter Try.func34, Try.ntmps34
  go_wp2_with fail
  go_loopw [6] (fun i wr => ∃ j : Int, i = .int .i64 j ∧ -1 ≤ j ∧ j ≤ 4 ∧ Below w.heap.size w wr ∧ Hid (rout xs d 5 = rout xs d (j + 1).toNat)) (fun i _ => (intOf i + 1).toNat)
  case atStart => exact ⟨4, rfl, by omega, by omega, Below.refl _ _, rfl⟩
  case round =>
    obtain ⟨j, rfl, hj1, hj2, D1, hl⟩ := hrel
    by_cases hj : j = -1
    · subst hj
      have e : Hid (rout xs d 5 = none) := hl.out
      go_wp2_with fail
      go_ret2
      exact ⟨by rw [e.out]; rfl, D1⟩
    · obtain ⟨m, rfl⟩ : ∃ m : Nat, j = m := ⟨j.toNat, by omega⟩
      have hm4 : m ≤ 4 := by omega
      have HL : Hid (rout xs d 5 = (xs.find? (pB d m)).or (rout xs d m)) := hl.out
      have tm : decide ((0 : Int) ≤ (m : Int)) = true := by simp
      clear hl hj hj1 hj2
      go_wp2_with fail
      refine (IN.out _).mono ?_
      rintro e w1 ⟨rfl, rfl⟩
      go_wp2_with fail
      go_loopw [7] (fun i wr => ∃ k : Nat, i = .int .i64 (k : Int) ∧ k ≤ xs.length ∧ Below w.heap.size w wr ∧ Hid ((xs.take k).find? (pB d m) = none)) (fun i _ => xs.length - (intOf i).toNat)
      case atStart => exact ⟨0, rfl, by omega, D1, rfl⟩
      case round =>
        clear D1
        obtain ⟨k, rfl, hk, D1, hno⟩ := hrel
        by_cases hlt : k < xs.length
        · obtain ⟨r, hxk⟩ : ∃ r, xs[k]? = some r := ⟨_, List.getElem?_eq_getElem hlt⟩
          have RA := hr.out.below D1 hb
          obtain ⟨c0, c1, c2⟩ := RA.at hxk
          have IS : Hid (∀ w', Below wr.heap.size wr w' → Calls Try.prog 77 #[rtw r.v r.b r.p] w' fun e w'' => e = .returned (.bool (isR r)) ∧ Hid (Below w.heap.size w w'') ∧ w''.cell? ⟨b, o + k * 3, none⟩ = some (.int .i64 r.v) ∧ w''.cell? ⟨b, o + k * 3 + 1, none⟩ = some (.int .i64 r.b) ∧ w''.cell? ⟨b, o + k * 3 + 2, none⟩ = some (.int .i64 r.p)) := fun w' hw' =>
            (rright_any r w').mono fun e w'' ⟨h1, h2⟩ => by
              have hB := hw'.trans (h2.mono hw'.size)
              have hb' : b < wr.heap.size := Nat.lt_of_lt_of_le hb D1.size
              obtain ⟨y0, y1, y2⟩ := (RA.below hB hb').at hxk
              exact ⟨h1, chn hB D1, y0, y1, y2⟩
          have TP : Hid ((isR r && (r.b == (m : Int))) = true → ∀ w', Calls Try.prog 80 #[.int .i64 d, .int .i64 (m : Int)] w' fun e w'' => e = .returned (.int .i64 (topV d r.b)) ∧ w'' = w') := fun h w' => by
            simp only [Bool.and_eq_true, beq_iff_eq] at h
            rw [h.2]
            exact top_any d m w' H0.out.1 H0.out.2 (by omega) (by omega)
          have HP : pB d m r = (isR r && (r.b == (m : Int)) && (topV d r.b == r.v)) := by
            unfold pB
            cases hx : isR r
            · rfl
            · rw [top_takes hx]
          have NX : Hid ((isR r && (r.b == (m : Int)) && (topV d r.b == r.v)) = false → Hid ((xs.take (k + 1)).find? (pB d m) = none)) := fun h => by
            show _ = _
            rw [find_take hxk, hno.out, HP, h]
            rfl
          have HT : Hid ((isR r && (r.b == (m : Int)) && (topV d r.b == r.v)) = true → rp (rout xs d 5) = r.p ∧ (rout xs d 5).isSome = true) := fun h => by
            rw [HL.out, find_here hxk hno.out (by rw [HP, h])]
            exact ⟨rfl, rfl⟩
          have R0 : Below wr.heap.size wr wr.drew := (Below.refl _ _).drew
          have lw := D1.size
          have k1 : (0 : Int) ≤ (k : Int) := by omega
          have k2 : (k : Int) < (xs.length : Int) := by omega
          clear hxk RA HP hno
          generalize topV d r.b = tv at *
          generalize isR r = x at *
          generalize hy : (r.b == (m : Int)) = y at *
          generalize r.v = rv0 at *
          generalize r.b = rb0 at *
          generalize r.p = rp0 at *
          cases x
          · clear TP HT
            go_wp2_with fail
            refine wp_region_held_drew (S := (fun w' => w'.cell? ⟨b, o + k * 3, none⟩ = some (.int .i64 rv0) ∧ w'.cell? ⟨b, o + k * 3 + 1, none⟩ = some (.int .i64 rb0) ∧ w'.cell? ⟨b, o + k * 3 + 2, none⟩ = some (.int .i64 rp0))) (by kernel_rfl) (⟨by assumption, by assumption, by assumption⟩) (fun hHeld => ?_)
            refine' wpAnyH_take (i := 0) (v := _) rfl (by kernel_rfl) (by kernel_rfl) (by kernel_rfl) (fun _ _ _ h => h) (Or.inl ⟨by rfl, ?gy1⟩) (by assumption) ?gr1
            case gy1 => (intro w hSw; (try dsimp only at hSw); go_simp; (try with_reducible rfl))
            try simp only [List.getElem_toArray, List.getElem_cons_zero, Act.put, List.setIfInBounds_toArray, List.set_cons_zero, List.set_cons_succ]
            refine' wpAnyH_take (i := 1) (v := _) rfl (by kernel_rfl) (by kernel_rfl) (by kernel_rfl) (fun _ _ _ h => h) (Or.inl ⟨by rfl, ?gy2⟩) (by assumption) ?gr2
            case gy2 => (intro w hSw; (try dsimp only at hSw); go_simp; (try with_reducible rfl))
            try simp only [List.getElem_toArray, List.getElem_cons_zero, List.getElem_cons_succ, Act.put, List.setIfInBounds_toArray, List.set_cons_zero, List.set_cons_succ]
            refine' wpAnyH_take (i := 2) (v := _) rfl (by kernel_rfl) (by kernel_rfl) (by kernel_rfl) (fun _ _ _ h => h) (Or.inl ⟨by rfl, ?gy3⟩) (by assumption) ?gr3
            case gy3 => (intro w hSw; (try dsimp only at hSw); go_simp; (try with_reducible rfl))
            try simp only [List.getElem_toArray, List.getElem_cons_zero, List.getElem_cons_succ, Act.put, List.setIfInBounds_toArray, List.set_cons_zero, List.set_cons_succ]
            refine' wpAnyH_take (i := 3) (v := _) rfl (by kernel_rfl) (by kernel_rfl) (by kernel_rfl) (fun _ _ _ h => h) (Or.inl ⟨by rfl, ?gy4⟩) (by assumption) ?gr4
            case gy4 => (intro w hSw; (try dsimp only at hSw); go_simp; (try with_reducible rfl))
            try simp only [List.getElem_toArray, List.getElem_cons_zero, List.getElem_cons_succ, Act.put, List.setIfInBounds_toArray, List.set_cons_zero, List.set_cons_succ]
            refine wpAnyH_ready (rs := [4]) (by kernel_rfl) (by simp) (AllReadyH.cons rfl (fun K hK => ?_) AllReadyH.nil)
            go_simp
            refine (IS.out _ (by assumption)).mono ?_; rintro e wz ⟨rfl, D3, z0, z1, z2⟩
            try go_wp2_with fail
            clear hHeld
            refine hK.out _ _ (⟨by assumption, by assumption, by assumption⟩) (fun hHeld => ?_)
            clear hK K
            try simp only [List.getElem_toArray, List.getElem_cons_zero, List.getElem_cons_succ, Act.put, List.setIfInBounds_toArray, List.set_cons_zero, List.set_cons_succ]
            refine' wpAnyH_take (i := 5) (v := _) rfl (by kernel_rfl) (by kernel_rfl) (by kernel_rfl) (fun _ _ _ h => h) (Or.inl ⟨by rfl, ?gy6⟩) (by assumption) ?gr6
            case gy6 => (intro w hSw; (try dsimp only at hSw); go_simp; (try with_reducible rfl))
            try simp only [List.getElem_toArray, List.getElem_cons_zero, List.getElem_cons_succ, Act.put, List.setIfInBounds_toArray, List.set_cons_zero, List.set_cons_succ]
            refine' wpAnyH_take (i := 6) (v := undef) rfl (by kernel_rfl) (by kernel_rfl) (by kernel_rfl) (fun _ _ _ h => h) (Or.inr ⟨by rfl, rfl⟩) (by assumption) ?gr7
            try simp only [List.getElem_toArray, List.getElem_cons_zero, List.getElem_cons_succ, Act.put, List.setIfInBounds_toArray, List.set_cons_zero, List.set_cons_succ]
            refine' wpAnyH_take (i := 7) (v := undef) rfl (by kernel_rfl) (by kernel_rfl) (by kernel_rfl) (fun _ _ _ h => h) (Or.inr ⟨by rfl, rfl⟩) (by assumption) ?gr8
            try simp only [List.getElem_toArray, List.getElem_cons_zero, List.getElem_cons_succ, Act.put, List.setIfInBounds_toArray, List.set_cons_zero, List.set_cons_succ]
            refine' wpAnyH_take (i := 8) (v := undef) rfl (by kernel_rfl) (by kernel_rfl) (by kernel_rfl) (fun _ _ _ h => h) (Or.inr ⟨by rfl, rfl⟩) (by assumption) ?gr9
            try simp only [List.getElem_toArray, List.getElem_cons_zero, List.getElem_cons_succ, Act.put, List.setIfInBounds_toArray, List.set_cons_zero, List.set_cons_succ]
            refine' wpAnyH_take (i := 9) (v := undef) rfl (by kernel_rfl) (by kernel_rfl) (by kernel_rfl) (fun _ _ _ h => h) (Or.inr ⟨by rfl, rfl⟩) (by assumption) ?gr10
            try simp only [List.getElem_toArray, List.getElem_cons_zero, List.getElem_cons_succ, Act.put, List.setIfInBounds_toArray, List.set_cons_zero, List.set_cons_succ]
            refine' wpAnyH_take (i := 10) (v := undef) rfl (by kernel_rfl) (by kernel_rfl) (by kernel_rfl) (fun _ _ _ h => h) (Or.inr ⟨by rfl, rfl⟩) (by assumption) ?gr11
            try simp only [List.getElem_toArray, List.getElem_cons_zero, List.getElem_cons_succ, Act.put, List.setIfInBounds_toArray, List.set_cons_zero, List.set_cons_succ]
            refine' wpAnyH_take (i := 11) (v := undef) rfl (by kernel_rfl) (by kernel_rfl) (by kernel_rfl) (fun _ _ _ h => h) (Or.inr ⟨by rfl, rfl⟩) (by assumption) ?gr12
            try simp only [List.getElem_toArray, List.getElem_cons_zero, List.getElem_cons_succ, Act.put, List.setIfInBounds_toArray, List.set_cons_zero, List.set_cons_succ]
            refine' wpAnyH_take (i := 12) (v := undef) rfl (by kernel_rfl) (by kernel_rfl) (by kernel_rfl) (fun _ _ _ h => h) (Or.inr ⟨by rfl, rfl⟩) (by assumption) ?gr13
            try simp only [List.getElem_toArray, List.getElem_cons_zero, List.getElem_cons_succ, Act.put, List.setIfInBounds_toArray, List.set_cons_zero, List.set_cons_succ]
            refine' wpAnyH_take (i := 13) (v := _) rfl (by kernel_rfl) (by kernel_rfl) (by kernel_rfl) (fun _ _ _ h => h) (Or.inl ⟨by rfl, ?gy14⟩) (by assumption) ?gr14
            case gy14 => (intro w hSw; (try dsimp only at hSw); go_simp; (try with_reducible rfl))
            try simp only [List.getElem_toArray, List.getElem_cons_zero, List.getElem_cons_succ, Act.put, List.setIfInBounds_toArray, List.set_cons_zero, List.set_cons_succ]
            refine' wpAnyH_take (i := 14) (v := _) rfl (by kernel_rfl) (by kernel_rfl) (by kernel_rfl) (fun _ _ _ h => h) (Or.inl ⟨by rfl, ?gy15⟩) (by assumption) ?gr15
            case gy15 => (intro w hSw; (try dsimp only at hSw); go_simp; (try with_reducible rfl))
            try simp only [List.getElem_toArray, List.getElem_cons_zero, List.getElem_cons_succ, Act.put, List.setIfInBounds_toArray, List.set_cons_zero, List.set_cons_succ]
            refine' wpAnyH_take (i := 15) (v := undef) rfl (by kernel_rfl) (by kernel_rfl) (by kernel_rfl) (fun _ _ _ h => h) (Or.inr ⟨by rfl, rfl⟩) (by assumption) ?gr16
            try simp only [List.getElem_toArray, List.getElem_cons_zero, List.getElem_cons_succ, Act.put, List.setIfInBounds_toArray, List.set_cons_zero, List.set_cons_succ]
            refine' wpAnyH_take (i := 16) (v := undef) rfl (by kernel_rfl) (by kernel_rfl) (by kernel_rfl) (fun _ _ _ h => h) (Or.inr ⟨by rfl, rfl⟩) (by assumption) ?gr17
            try simp only [List.getElem_toArray, List.getElem_cons_zero, List.getElem_cons_succ, Act.put, List.setIfInBounds_toArray, List.set_cons_zero, List.set_cons_succ]
            refine' wpAnyH_take (i := 17) (v := undef) rfl (by kernel_rfl) (by kernel_rfl) (by kernel_rfl) (fun _ _ _ h => h) (Or.inr ⟨by rfl, rfl⟩) (by assumption) ?gr18
            try simp only [List.getElem_toArray, List.getElem_cons_zero, List.getElem_cons_succ, Act.put, List.setIfInBounds_toArray, List.set_cons_zero, List.set_cons_succ]
            refine' wpAnyH_take (i := 18) (v := undef) rfl (by kernel_rfl) (by kernel_rfl) (by kernel_rfl) (fun _ _ _ h => h) (Or.inr ⟨by rfl, rfl⟩) (by assumption) ?gr19
            try simp only [List.getElem_toArray, List.getElem_cons_zero, List.getElem_cons_succ, Act.put, List.setIfInBounds_toArray, List.set_cons_zero, List.set_cons_succ]
            refine' wpAnyH_take (i := 19) (v := undef) rfl (by kernel_rfl) (by kernel_rfl) (by kernel_rfl) (fun _ _ _ h => h) (Or.inr ⟨by rfl, rfl⟩) (by assumption) ?gr20
            try simp only [List.getElem_toArray, List.getElem_cons_zero, List.getElem_cons_succ, Act.put, List.setIfInBounds_toArray, List.set_cons_zero, List.set_cons_succ]
            refine' wpAnyH_take (i := 20) (v := undef) rfl (by kernel_rfl) (by kernel_rfl) (by kernel_rfl) (fun _ _ _ h => h) (Or.inr ⟨by rfl, rfl⟩) (by assumption) ?gr21
            try simp only [List.getElem_toArray, List.getElem_cons_zero, List.getElem_cons_succ, Act.put, List.setIfInBounds_toArray, List.set_cons_zero, List.set_cons_succ]
            refine' wpAnyH_take (i := 21) (v := undef) rfl (by kernel_rfl) (by kernel_rfl) (by kernel_rfl) (fun _ _ _ h => h) (Or.inr ⟨by rfl, rfl⟩) (by assumption) ?gr22
            try simp only [List.getElem_toArray, List.getElem_cons_zero, List.getElem_cons_succ, Act.put, List.setIfInBounds_toArray, List.set_cons_zero, List.set_cons_succ]
            refine' wpAnyH_take (i := 22) (v := undef) rfl (by kernel_rfl) (by kernel_rfl) (by kernel_rfl) (fun _ _ _ h => h) (Or.inr ⟨by rfl, rfl⟩) (by assumption) ?gr23
            try simp only [List.getElem_toArray, List.getElem_cons_zero, List.getElem_cons_succ, Act.put, List.setIfInBounds_toArray, List.set_cons_zero, List.set_cons_succ]
            refine' wpAnyH_take (i := 23) (v := undef) rfl (by kernel_rfl) (by kernel_rfl) (by kernel_rfl) (fun _ _ _ h => h) (Or.inr ⟨by rfl, rfl⟩) (by assumption) ?gr24
            try simp only [List.getElem_toArray, List.getElem_cons_zero, List.getElem_cons_succ, Act.put, List.setIfInBounds_toArray, List.set_cons_zero, List.set_cons_succ]
            refine' wpAnyH_take (i := 24) (v := _) rfl (by kernel_rfl) (by kernel_rfl) (by kernel_rfl) (fun _ _ _ h => h) (Or.inl ⟨by rfl, ?gy25⟩) (by assumption) ?gr25
            case gy25 => (intro w hSw; (try dsimp only at hSw); go_simp; (try with_reducible rfl))
            try simp only [List.getElem_toArray, List.getElem_cons_zero, List.getElem_cons_succ, Act.put, List.setIfInBounds_toArray, List.set_cons_zero, List.set_cons_succ]
            refine wpAnyH_done (by kernel_rfl) ?_ _
            go_wp2_with fail
            go_roundw
            case rel => exact ⟨k + 1, by go_num, by omega, D3.out, NX.out rfl⟩
            case measure => simp [intOf]; omega
          cases y
          · clear TP HT
            go_wp2_with fail
            refine wp_region_held_drew (S := (fun w' => w'.cell? ⟨b, o + k * 3, none⟩ = some (.int .i64 rv0) ∧ w'.cell? ⟨b, o + k * 3 + 1, none⟩ = some (.int .i64 rb0) ∧ w'.cell? ⟨b, o + k * 3 + 2, none⟩ = some (.int .i64 rp0))) (by kernel_rfl) (⟨by assumption, by assumption, by assumption⟩) (fun hHeld => ?_)
            refine' wpAnyH_take (i := 0) (v := _) rfl (by kernel_rfl) (by kernel_rfl) (by kernel_rfl) (fun _ _ _ h => h) (Or.inl ⟨by rfl, ?gy27⟩) (by assumption) ?gr27
            case gy27 => (intro w hSw; (try dsimp only at hSw); go_simp; (try with_reducible rfl))
            try simp only [List.getElem_toArray, List.getElem_cons_zero, Act.put, List.setIfInBounds_toArray, List.set_cons_zero, List.set_cons_succ]
            refine' wpAnyH_take (i := 1) (v := _) rfl (by kernel_rfl) (by kernel_rfl) (by kernel_rfl) (fun _ _ _ h => h) (Or.inl ⟨by rfl, ?gy28⟩) (by assumption) ?gr28
            case gy28 => (intro w hSw; (try dsimp only at hSw); go_simp; (try with_reducible rfl))
            try simp only [List.getElem_toArray, List.getElem_cons_zero, List.getElem_cons_succ, Act.put, List.setIfInBounds_toArray, List.set_cons_zero, List.set_cons_succ]
            refine' wpAnyH_take (i := 2) (v := _) rfl (by kernel_rfl) (by kernel_rfl) (by kernel_rfl) (fun _ _ _ h => h) (Or.inl ⟨by rfl, ?gy29⟩) (by assumption) ?gr29
            case gy29 => (intro w hSw; (try dsimp only at hSw); go_simp; (try with_reducible rfl))
            try simp only [List.getElem_toArray, List.getElem_cons_zero, List.getElem_cons_succ, Act.put, List.setIfInBounds_toArray, List.set_cons_zero, List.set_cons_succ]
            refine' wpAnyH_take (i := 3) (v := _) rfl (by kernel_rfl) (by kernel_rfl) (by kernel_rfl) (fun _ _ _ h => h) (Or.inl ⟨by rfl, ?gy30⟩) (by assumption) ?gr30
            case gy30 => (intro w hSw; (try dsimp only at hSw); go_simp; (try with_reducible rfl))
            try simp only [List.getElem_toArray, List.getElem_cons_zero, List.getElem_cons_succ, Act.put, List.setIfInBounds_toArray, List.set_cons_zero, List.set_cons_succ]
            refine wpAnyH_ready (rs := [4]) (by kernel_rfl) (by simp) (AllReadyH.cons rfl (fun K hK => ?_) AllReadyH.nil)
            go_simp
            refine (IS.out _ (by assumption)).mono ?_; rintro e wz ⟨rfl, D3, z0, z1, z2⟩
            try go_wp2_with fail
            clear hHeld
            refine hK.out _ _ (⟨by assumption, by assumption, by assumption⟩) (fun hHeld => ?_)
            clear hK K
            try simp only [List.getElem_toArray, List.getElem_cons_zero, List.getElem_cons_succ, Act.put, List.setIfInBounds_toArray, List.set_cons_zero, List.set_cons_succ]
            refine' wpAnyH_take (i := 5) (v := _) rfl (by kernel_rfl) (by kernel_rfl) (by kernel_rfl) (fun _ _ _ h => h) (Or.inl ⟨by rfl, ?gy32⟩) (by assumption) ?gr32
            case gy32 => (intro w hSw; (try dsimp only at hSw); go_simp; (try with_reducible rfl))
            try simp only [List.getElem_toArray, List.getElem_cons_zero, List.getElem_cons_succ, Act.put, List.setIfInBounds_toArray, List.set_cons_zero, List.set_cons_succ]
            refine' wpAnyH_take (i := 6) (v := _) rfl (by kernel_rfl) (by kernel_rfl) (by kernel_rfl) (fun _ _ _ h => h) (Or.inl ⟨by rfl, ?gy33⟩) (by assumption) ?gr33
            case gy33 => (intro w hSw; (try dsimp only at hSw); go_simp; (try with_reducible rfl))
            try simp only [List.getElem_toArray, List.getElem_cons_zero, List.getElem_cons_succ, Act.put, List.setIfInBounds_toArray, List.set_cons_zero, List.set_cons_succ]
            refine' wpAnyH_take (i := 7) (v := _) rfl (by kernel_rfl) (by kernel_rfl) (by kernel_rfl) (fun _ _ _ h => h) (Or.inl ⟨by rfl, ?gy34⟩) (by assumption) ?gr34
            case gy34 => (intro w hSw; (try dsimp only at hSw); go_simp; (try with_reducible rfl))
            try simp only [List.getElem_toArray, List.getElem_cons_zero, List.getElem_cons_succ, Act.put, List.setIfInBounds_toArray, List.set_cons_zero, List.set_cons_succ]
            refine' wpAnyH_take (i := 8) (v := _) rfl (by kernel_rfl) (by kernel_rfl) (by kernel_rfl) (fun _ _ _ h => h) (Or.inl ⟨by rfl, ?gy35⟩) (by assumption) ?gr35
            case gy35 => (intro w hSw; (try dsimp only at hSw); go_simp; (try with_reducible rfl))
            try simp only [List.getElem_toArray, List.getElem_cons_zero, List.getElem_cons_succ, Act.put, List.setIfInBounds_toArray, List.set_cons_zero, List.set_cons_succ]
            refine' wpAnyH_take (i := 9) (v := _) rfl (by kernel_rfl) (by kernel_rfl) (by kernel_rfl) (fun _ _ _ h => h) (Or.inl ⟨by rfl, ?gy36⟩) (by assumption) ?gr36
            case gy36 => (intro w hSw; (try dsimp only at hSw); go_simp; (try with_reducible rfl))
            try simp only [List.getElem_toArray, List.getElem_cons_zero, List.getElem_cons_succ, Act.put, List.setIfInBounds_toArray, List.set_cons_zero, List.set_cons_succ]
            refine' wpAnyH_take (i := 10) (v := _) rfl (by kernel_rfl) (by kernel_rfl) (by kernel_rfl) (fun _ _ _ h => h) (Or.inl ⟨by rfl, ?gy37⟩) (by assumption) ?gr37
            case gy37 => (intro w hSw; (try dsimp only at hSw); go_simp; (try with_reducible rfl))
            try simp only [List.getElem_toArray, List.getElem_cons_zero, List.getElem_cons_succ, Act.put, List.setIfInBounds_toArray, List.set_cons_zero, List.set_cons_succ]
            refine' wpAnyH_take (i := 11) (v := _) rfl (by kernel_rfl) (by kernel_rfl) (by kernel_rfl) (fun _ _ _ h => h) (Or.inl ⟨by rfl, ?gy38⟩) (by assumption) ?gr38
            case gy38 => (intro w hSw; (try dsimp only at hSw); go_simp; (try with_reducible rfl))
            try simp only [List.getElem_toArray, List.getElem_cons_zero, List.getElem_cons_succ, Act.put, List.setIfInBounds_toArray, List.set_cons_zero, List.set_cons_succ]
            refine' wpAnyH_take (i := 12) (v := _) rfl (by kernel_rfl) (by kernel_rfl) (by kernel_rfl) (fun _ _ _ h => h) (Or.inl ⟨by rfl, ?gy39⟩) (by assumption) ?gr39
            case gy39 => (intro w hSw; (try dsimp only at hSw); go_simp; (try with_reducible rfl))
            try simp only [List.getElem_toArray, List.getElem_cons_zero, List.getElem_cons_succ, Act.put, List.setIfInBounds_toArray, List.set_cons_zero, List.set_cons_succ]
            refine' wpAnyH_take (i := 13) (v := _) rfl (by kernel_rfl) (by kernel_rfl) (by kernel_rfl) (fun _ _ _ h => h) (Or.inl ⟨by rfl, ?gy40⟩) (by assumption) ?gr40
            case gy40 => (intro w hSw; (try dsimp only at hSw); go_simp; (try with_reducible rfl))
            try simp only [List.getElem_toArray, List.getElem_cons_zero, List.getElem_cons_succ, Act.put, List.setIfInBounds_toArray, List.set_cons_zero, List.set_cons_succ]
            refine' wpAnyH_take (i := 14) (v := _) rfl (by kernel_rfl) (by kernel_rfl) (by kernel_rfl) (fun _ _ _ h => h) (Or.inl ⟨by rfl, ?gy41⟩) (by assumption) ?gr41
            case gy41 => (intro w hSw; (try dsimp only at hSw); go_simp; (try with_reducible rfl))
            try simp only [List.getElem_toArray, List.getElem_cons_zero, List.getElem_cons_succ, Act.put, List.setIfInBounds_toArray, List.set_cons_zero, List.set_cons_succ]
            refine' wpAnyH_take (i := 15) (v := undef) rfl (by kernel_rfl) (by kernel_rfl) (by kernel_rfl) (fun _ _ _ h => h) (Or.inr ⟨by rfl, rfl⟩) (by assumption) ?gr42
            try simp only [List.getElem_toArray, List.getElem_cons_zero, List.getElem_cons_succ, Act.put, List.setIfInBounds_toArray, List.set_cons_zero, List.set_cons_succ]
            refine' wpAnyH_take (i := 16) (v := undef) rfl (by kernel_rfl) (by kernel_rfl) (by kernel_rfl) (fun _ _ _ h => h) (Or.inr ⟨by rfl, rfl⟩) (by assumption) ?gr43
            try simp only [List.getElem_toArray, List.getElem_cons_zero, List.getElem_cons_succ, Act.put, List.setIfInBounds_toArray, List.set_cons_zero, List.set_cons_succ]
            refine' wpAnyH_take (i := 17) (v := undef) rfl (by kernel_rfl) (by kernel_rfl) (by kernel_rfl) (fun _ _ _ h => h) (Or.inr ⟨by rfl, rfl⟩) (by assumption) ?gr44
            try simp only [List.getElem_toArray, List.getElem_cons_zero, List.getElem_cons_succ, Act.put, List.setIfInBounds_toArray, List.set_cons_zero, List.set_cons_succ]
            refine' wpAnyH_take (i := 18) (v := undef) rfl (by kernel_rfl) (by kernel_rfl) (by kernel_rfl) (fun _ _ _ h => h) (Or.inr ⟨by rfl, rfl⟩) (by assumption) ?gr45
            try simp only [List.getElem_toArray, List.getElem_cons_zero, List.getElem_cons_succ, Act.put, List.setIfInBounds_toArray, List.set_cons_zero, List.set_cons_succ]
            refine' wpAnyH_take (i := 19) (v := undef) rfl (by kernel_rfl) (by kernel_rfl) (by kernel_rfl) (fun _ _ _ h => h) (Or.inr ⟨by rfl, rfl⟩) (by assumption) ?gr46
            try simp only [List.getElem_toArray, List.getElem_cons_zero, List.getElem_cons_succ, Act.put, List.setIfInBounds_toArray, List.set_cons_zero, List.set_cons_succ]
            refine' wpAnyH_take (i := 20) (v := undef) rfl (by kernel_rfl) (by kernel_rfl) (by kernel_rfl) (fun _ _ _ h => h) (Or.inr ⟨by rfl, rfl⟩) (by assumption) ?gr47
            try simp only [List.getElem_toArray, List.getElem_cons_zero, List.getElem_cons_succ, Act.put, List.setIfInBounds_toArray, List.set_cons_zero, List.set_cons_succ]
            refine' wpAnyH_take (i := 21) (v := undef) rfl (by kernel_rfl) (by kernel_rfl) (by kernel_rfl) (fun _ _ _ h => h) (Or.inr ⟨by rfl, rfl⟩) (by assumption) ?gr48
            try simp only [List.getElem_toArray, List.getElem_cons_zero, List.getElem_cons_succ, Act.put, List.setIfInBounds_toArray, List.set_cons_zero, List.set_cons_succ]
            refine' wpAnyH_take (i := 22) (v := undef) rfl (by kernel_rfl) (by kernel_rfl) (by kernel_rfl) (fun _ _ _ h => h) (Or.inr ⟨by rfl, rfl⟩) (by assumption) ?gr49
            try simp only [List.getElem_toArray, List.getElem_cons_zero, List.getElem_cons_succ, Act.put, List.setIfInBounds_toArray, List.set_cons_zero, List.set_cons_succ]
            refine' wpAnyH_take (i := 23) (v := undef) rfl (by kernel_rfl) (by kernel_rfl) (by kernel_rfl) (fun _ _ _ h => h) (Or.inr ⟨by rfl, rfl⟩) (by assumption) ?gr50
            try simp only [List.getElem_toArray, List.getElem_cons_zero, List.getElem_cons_succ, Act.put, List.setIfInBounds_toArray, List.set_cons_zero, List.set_cons_succ]
            refine' wpAnyH_take (i := 24) (v := _) rfl (by kernel_rfl) (by kernel_rfl) (by kernel_rfl) (fun _ _ _ h => h) (Or.inl ⟨by rfl, ?gy51⟩) (by assumption) ?gr51
            case gy51 => (intro w hSw; (try dsimp only at hSw); go_simp; (try with_reducible rfl))
            try simp only [List.getElem_toArray, List.getElem_cons_zero, List.getElem_cons_succ, Act.put, List.setIfInBounds_toArray, List.set_cons_zero, List.set_cons_succ]
            refine wpAnyH_done (by kernel_rfl) ?_ _
            go_wp2_with fail
            go_roundw
            case rel => exact ⟨k + 1, by go_num, by omega, D3.out, NX.out rfl⟩
            case measure => simp [intOf]; omega
          · go_wp2_with fail
            refine wp_region_held_drew (S := (fun w' => w'.cell? ⟨b, o + k * 3, none⟩ = some (.int .i64 rv0) ∧ w'.cell? ⟨b, o + k * 3 + 1, none⟩ = some (.int .i64 rb0) ∧ w'.cell? ⟨b, o + k * 3 + 2, none⟩ = some (.int .i64 rp0))) (by kernel_rfl) (⟨by assumption, by assumption, by assumption⟩) (fun hHeld => ?_)
            refine' wpAnyH_take (i := 0) (v := _) rfl (by kernel_rfl) (by kernel_rfl) (by kernel_rfl) (fun _ _ _ h => h) (Or.inl ⟨by rfl, ?gy53⟩) (by assumption) ?gr53
            case gy53 => (intro w hSw; (try dsimp only at hSw); go_simp; (try with_reducible rfl))
            try simp only [List.getElem_toArray, List.getElem_cons_zero, Act.put, List.setIfInBounds_toArray, List.set_cons_zero, List.set_cons_succ]
            refine' wpAnyH_take (i := 1) (v := _) rfl (by kernel_rfl) (by kernel_rfl) (by kernel_rfl) (fun _ _ _ h => h) (Or.inl ⟨by rfl, ?gy54⟩) (by assumption) ?gr54
            case gy54 => (intro w hSw; (try dsimp only at hSw); go_simp; (try with_reducible rfl))
            try simp only [List.getElem_toArray, List.getElem_cons_zero, List.getElem_cons_succ, Act.put, List.setIfInBounds_toArray, List.set_cons_zero, List.set_cons_succ]
            refine' wpAnyH_take (i := 2) (v := _) rfl (by kernel_rfl) (by kernel_rfl) (by kernel_rfl) (fun _ _ _ h => h) (Or.inl ⟨by rfl, ?gy55⟩) (by assumption) ?gr55
            case gy55 => (intro w hSw; (try dsimp only at hSw); go_simp; (try with_reducible rfl))
            try simp only [List.getElem_toArray, List.getElem_cons_zero, List.getElem_cons_succ, Act.put, List.setIfInBounds_toArray, List.set_cons_zero, List.set_cons_succ]
            refine' wpAnyH_take (i := 3) (v := _) rfl (by kernel_rfl) (by kernel_rfl) (by kernel_rfl) (fun _ _ _ h => h) (Or.inl ⟨by rfl, ?gy56⟩) (by assumption) ?gr56
            case gy56 => (intro w hSw; (try dsimp only at hSw); go_simp; (try with_reducible rfl))
            try simp only [List.getElem_toArray, List.getElem_cons_zero, List.getElem_cons_succ, Act.put, List.setIfInBounds_toArray, List.set_cons_zero, List.set_cons_succ]
            refine wpAnyH_ready (rs := [4]) (by kernel_rfl) (by simp) (AllReadyH.cons rfl (fun K hK => ?_) AllReadyH.nil)
            go_simp
            refine (IS.out _ (by assumption)).mono ?_; rintro e wz ⟨rfl, D3, z0, z1, z2⟩
            try go_wp2_with fail
            clear hHeld
            refine hK.out _ _ (⟨by assumption, by assumption, by assumption⟩) (fun hHeld => ?_)
            clear hK K
            try simp only [List.getElem_toArray, List.getElem_cons_zero, List.getElem_cons_succ, Act.put, List.setIfInBounds_toArray, List.set_cons_zero, List.set_cons_succ]
            refine' wpAnyH_take (i := 5) (v := _) rfl (by kernel_rfl) (by kernel_rfl) (by kernel_rfl) (fun _ _ _ h => h) (Or.inl ⟨by rfl, ?gy58⟩) (by assumption) ?gr58
            case gy58 => (intro w hSw; (try dsimp only at hSw); go_simp; (try with_reducible rfl))
            try simp only [List.getElem_toArray, List.getElem_cons_zero, List.getElem_cons_succ, Act.put, List.setIfInBounds_toArray, List.set_cons_zero, List.set_cons_succ]
            refine' wpAnyH_take (i := 6) (v := _) rfl (by kernel_rfl) (by kernel_rfl) (by kernel_rfl) (fun _ _ _ h => h) (Or.inl ⟨by rfl, ?gy59⟩) (by assumption) ?gr59
            case gy59 => (intro w hSw; (try dsimp only at hSw); go_simp; (try with_reducible rfl))
            try simp only [List.getElem_toArray, List.getElem_cons_zero, List.getElem_cons_succ, Act.put, List.setIfInBounds_toArray, List.set_cons_zero, List.set_cons_succ]
            refine' wpAnyH_take (i := 7) (v := _) rfl (by kernel_rfl) (by kernel_rfl) (by kernel_rfl) (fun _ _ _ h => h) (Or.inl ⟨by rfl, ?gy60⟩) (by assumption) ?gr60
            case gy60 => (intro w hSw; (try dsimp only at hSw); go_simp; (try with_reducible rfl))
            try simp only [List.getElem_toArray, List.getElem_cons_zero, List.getElem_cons_succ, Act.put, List.setIfInBounds_toArray, List.set_cons_zero, List.set_cons_succ]
            refine' wpAnyH_take (i := 8) (v := _) rfl (by kernel_rfl) (by kernel_rfl) (by kernel_rfl) (fun _ _ _ h => h) (Or.inl ⟨by rfl, ?gy61⟩) (by assumption) ?gr61
            case gy61 => (intro w hSw; (try dsimp only at hSw); go_simp; (try with_reducible rfl))
            try simp only [List.getElem_toArray, List.getElem_cons_zero, List.getElem_cons_succ, Act.put, List.setIfInBounds_toArray, List.set_cons_zero, List.set_cons_succ]
            refine' wpAnyH_take (i := 9) (v := _) rfl (by kernel_rfl) (by kernel_rfl) (by kernel_rfl) (fun _ _ _ h => h) (Or.inl ⟨by rfl, ?gy62⟩) (by assumption) ?gr62
            case gy62 => (intro w hSw; (try dsimp only at hSw); go_simp; (try with_reducible rfl))
            try simp only [List.getElem_toArray, List.getElem_cons_zero, List.getElem_cons_succ, Act.put, List.setIfInBounds_toArray, List.set_cons_zero, List.set_cons_succ]
            refine' wpAnyH_take (i := 10) (v := _) rfl (by kernel_rfl) (by kernel_rfl) (by kernel_rfl) (fun _ _ _ h => h) (Or.inl ⟨by rfl, ?gy63⟩) (by assumption) ?gr63
            case gy63 => (intro w hSw; (try dsimp only at hSw); go_simp; (try with_reducible rfl))
            try simp only [List.getElem_toArray, List.getElem_cons_zero, List.getElem_cons_succ, Act.put, List.setIfInBounds_toArray, List.set_cons_zero, List.set_cons_succ]
            refine' wpAnyH_take (i := 11) (v := _) rfl (by kernel_rfl) (by kernel_rfl) (by kernel_rfl) (fun _ _ _ h => h) (Or.inl ⟨by rfl, ?gy64⟩) (by assumption) ?gr64
            case gy64 => (intro w hSw; (try dsimp only at hSw); go_simp; (try with_reducible rfl))
            try simp only [List.getElem_toArray, List.getElem_cons_zero, List.getElem_cons_succ, Act.put, List.setIfInBounds_toArray, List.set_cons_zero, List.set_cons_succ]
            refine' wpAnyH_take (i := 12) (v := _) rfl (by kernel_rfl) (by kernel_rfl) (by kernel_rfl) (fun _ _ _ h => h) (Or.inl ⟨by rfl, ?gy65⟩) (by assumption) ?gr65
            case gy65 => (intro w hSw; (try dsimp only at hSw); go_simp; (try with_reducible rfl))
            try simp only [List.getElem_toArray, List.getElem_cons_zero, List.getElem_cons_succ, Act.put, List.setIfInBounds_toArray, List.set_cons_zero, List.set_cons_succ]
            refine' wpAnyH_take (i := 13) (v := _) rfl (by kernel_rfl) (by kernel_rfl) (by kernel_rfl) (fun _ _ _ h => h) (Or.inl ⟨by rfl, ?gy66⟩) (by assumption) ?gr66
            case gy66 => (intro w hSw; (try dsimp only at hSw); go_simp; (try with_reducible rfl))
            try simp only [List.getElem_toArray, List.getElem_cons_zero, List.getElem_cons_succ, Act.put, List.setIfInBounds_toArray, List.set_cons_zero, List.set_cons_succ]
            refine' wpAnyH_take (i := 14) (v := _) rfl (by kernel_rfl) (by kernel_rfl) (by kernel_rfl) (fun _ _ _ h => h) (Or.inl ⟨by rfl, ?gy67⟩) (by assumption) ?gr67
            case gy67 => (intro w hSw; (try dsimp only at hSw); go_simp; (try with_reducible rfl))
            try simp only [List.getElem_toArray, List.getElem_cons_zero, List.getElem_cons_succ, Act.put, List.setIfInBounds_toArray, List.set_cons_zero, List.set_cons_succ]
            refine' wpAnyH_take (i := 15) (v := _) rfl (by kernel_rfl) (by kernel_rfl) (by kernel_rfl) (fun _ _ _ h => h) (Or.inl ⟨by rfl, ?gy68⟩) (by assumption) ?gr68
            case gy68 => (intro w hSw; (try dsimp only at hSw); go_simp; (try with_reducible rfl))
            try simp only [List.getElem_toArray, List.getElem_cons_zero, List.getElem_cons_succ, Act.put, List.setIfInBounds_toArray, List.set_cons_zero, List.set_cons_succ]
            refine' wpAnyH_take (i := 16) (v := _) rfl (by kernel_rfl) (by kernel_rfl) (by kernel_rfl) (fun _ _ _ h => h) (Or.inl ⟨by rfl, ?gy69⟩) (by assumption) ?gr69
            case gy69 => (intro w hSw; (try dsimp only at hSw); go_simp; (try with_reducible rfl))
            try simp only [List.getElem_toArray, List.getElem_cons_zero, List.getElem_cons_succ, Act.put, List.setIfInBounds_toArray, List.set_cons_zero, List.set_cons_succ]
            refine' wpAnyH_take (i := 18) (v := _) rfl (by kernel_rfl) (by kernel_rfl) (by kernel_rfl) (fun _ _ _ h => h) (Or.inl ⟨by rfl, ?gy70⟩) (by assumption) ?gr70
            case gy70 => (intro w hSw; (try dsimp only at hSw); go_simp; (try with_reducible rfl))
            try simp only [List.getElem_toArray, List.getElem_cons_zero, List.getElem_cons_succ, Act.put, List.setIfInBounds_toArray, List.set_cons_zero, List.set_cons_succ]
            refine' wpAnyH_take (i := 19) (v := _) rfl (by kernel_rfl) (by kernel_rfl) (by kernel_rfl) (fun _ _ _ h => h) (Or.inl ⟨by rfl, ?gy71⟩) (by assumption) ?gr71
            case gy71 => (intro w hSw; (try dsimp only at hSw); go_simp; (try with_reducible rfl))
            try simp only [List.getElem_toArray, List.getElem_cons_zero, List.getElem_cons_succ, Act.put, List.setIfInBounds_toArray, List.set_cons_zero, List.set_cons_succ]
            refine' wpAnyH_take (i := 20) (v := _) rfl (by kernel_rfl) (by kernel_rfl) (by kernel_rfl) (fun _ _ _ h => h) (Or.inl ⟨by rfl, ?gy72⟩) (by assumption) ?gr72
            case gy72 => (intro w hSw; (try dsimp only at hSw); go_simp; (try with_reducible rfl))
            try simp only [List.getElem_toArray, List.getElem_cons_zero, List.getElem_cons_succ, Act.put, List.setIfInBounds_toArray, List.set_cons_zero, List.set_cons_succ]
            refine' wpAnyH_take (i := 21) (v := _) rfl (by kernel_rfl) (by kernel_rfl) (by kernel_rfl) (fun _ _ _ h => h) (Or.inl ⟨by rfl, ?gy73⟩) (by assumption) ?gr73
            case gy73 => (intro w hSw; (try dsimp only at hSw); go_simp; (try with_reducible rfl))
            try simp only [List.getElem_toArray, List.getElem_cons_zero, List.getElem_cons_succ, Act.put, List.setIfInBounds_toArray, List.set_cons_zero, List.set_cons_succ]
            refine' wpAnyH_take (i := 22) (v := _) rfl (by kernel_rfl) (by kernel_rfl) (by kernel_rfl) (fun _ _ _ h => h) (Or.inl ⟨by rfl, ?gy74⟩) (by assumption) ?gr74
            case gy74 => (intro w hSw; (try dsimp only at hSw); go_simp; (try with_reducible rfl))
            try simp only [List.getElem_toArray, List.getElem_cons_zero, List.getElem_cons_succ, Act.put, List.setIfInBounds_toArray, List.set_cons_zero, List.set_cons_succ]
            refine wpAnyH_ready (rs := [17]) (by kernel_rfl) (by simp) (AllReadyH.cons rfl (fun K hK => ?_) AllReadyH.nil)
            go_simp
            refine (TP.out rfl _).mono ?_; rintro e wy ⟨rfl, rfl⟩
            try go_wp2_with fail
            clear hHeld
            refine hK.out _ _ (⟨by assumption, by assumption, by assumption⟩) (fun hHeld => ?_)
            clear hK K
            try simp only [List.getElem_toArray, List.getElem_cons_zero, List.getElem_cons_succ, Act.put, List.setIfInBounds_toArray, List.set_cons_zero, List.set_cons_succ]
            refine' wpAnyH_take (i := 23) (v := _) rfl (by kernel_rfl) (by kernel_rfl) (by kernel_rfl) (fun _ _ _ h => h) (Or.inl ⟨by rfl, ?gy76⟩) (by assumption) ?gr76
            case gy76 => (intro w hSw; (try dsimp only at hSw); go_simp; (try with_reducible rfl))
            try simp only [List.getElem_toArray, List.getElem_cons_zero, List.getElem_cons_succ, Act.put, List.setIfInBounds_toArray, List.set_cons_zero, List.set_cons_succ]
            refine' wpAnyH_take (i := 24) (v := _) rfl (by kernel_rfl) (by kernel_rfl) (by kernel_rfl) (fun _ _ _ h => h) (Or.inl ⟨by rfl, ?gy77⟩) (by assumption) ?gr77
            case gy77 => (intro w hSw; (try dsimp only at hSw); go_simp; (try with_reducible rfl))
            try simp only [List.getElem_toArray, List.getElem_cons_zero, List.getElem_cons_succ, Act.put, List.setIfInBounds_toArray, List.set_cons_zero, List.set_cons_succ]
            refine wpAnyH_done (by kernel_rfl) ?_ _
            cases hq : (tv == rv0)
            · have HNO : Hid ((true && true && (tv == rv0)) = false) := by show _ = _; rw [hq]; rfl
              go_wp2_with fail
              go_roundw
              case rel => exact ⟨k + 1, by go_num, by omega, D3.out, NX.out HNO.out⟩
              case measure => simp [intOf]; omega
            · have HYES : Hid (rp (rout xs d 5) = rp0 ∧ (rout xs d 5).isSome = true) := HT.out (by rw [hq]; rfl)
              go_wp2_with fail
              go_ret2
              exact ⟨by rw [HYES.out.1, HYES.out.2]; rfl, D3.out⟩
        · obtain rfl : k = xs.length := by omega
          have HN : Hid (rout xs d 5 = rout xs d m) := by
            show _ = _
            have := hno.out
            rw [List.take_length] at this
            rw [HL.out, this, Option.none_or]
          go_wp2_with fail
          go_roundw
          case rel => exact ⟨(m : Int) - 1, by go_num, by omega, by omega, D1, by show _ = _; rw [HN.out]; congr 1; omega⟩
          case measure => simp [intOf]
end Go.Proofs.Ytgcimcpcnoojnaa


