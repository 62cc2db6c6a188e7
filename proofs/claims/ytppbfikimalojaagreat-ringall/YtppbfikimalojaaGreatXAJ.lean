/-
  XAJ.
-/
import Derived.Test.YtppbfikimalojaaGreatXAI
import Derived.Test.YtppbfikimalojaaGreatXLy
import Derived.Test.YtppbfikimalojaaGreatXAD
import Derived.Test.YtppbfikimalojaaGreatXAA
set_option maxHeartbeats 8000000
set_option maxRecDepth 100000
namespace Go.Proofs.YtppbfikimalojaaGreat
open Go.RowKit
theorem rdev_none (nm : ByteArray) (k ad : Int) (pl : Nat) (vb vr vt : Value) (w : World) (h : ¬ (1 <= k ∧ k <= 5)) :
  Calls Tryz.prog 33 #[.agg #[.string nm, .int .i64 k, .int .i64 ad, .int .u8 (pl : Int), vb, vr, vt]] w fun e w' => e = .returned (.int .i64 1) ∧ Below w.heap.size w w' := by
 have D0 := Below.alN (Below.refl w.heap.size w) (.cells #[.string nm, .int .i64 k, .int .i64 ad, .int .u8 (pl : Int), vb, vr, vt] 56)
 have I0 : Hid (∀ w, Calls Tryz.prog 8 #[.int .i64 k, .int .i64 1, .int .i64 5] w fun e w' => e = .returned (.bool false) ∧ w' = w) := fun w => by
  have := inN k 1 5 w
  rw [show (decide (1 <= k) && decide (k <= 5)) = false by
   rw [Bool.eq_false_iff]
   simp only [ne_eq, Bool.and_eq_true, decide_eq_true_eq]
   exact h] at this
  exact this
 clear h
 go_enter Tryz.func33, Tryz.ntmps33
 go_wp2_with (go_at_call 8; refine (I0.out _).mono ?_; rintro e w' ⟨rfl, rfl⟩)
 go_ret
 exact ⟨rfl, D0⟩
theorem rdevice_any (d : Dv) (vb vr vt : Value) (c : Int) (w : World) (hb : SlAt w.heap.size w 1 IsI vb d.backs) (hr : SlAt w.heap.size w 5 IsRule vr d.rules) (ht : SlAt w.heap.size w 3 IsRoute vt d.routes)
  (RT : Hid (∀ W, Below w.heap.size w W -> Calls Tryz.prog 71 #[vt] W fun e w' => e = .returned (.int .i64 c) ∧ Below W.heap.size W w')) :
  Calls Tryz.prog 33 #[.agg #[.string d.name, .int .i64 d.kind, .int .i64 d.addr, .int .u8 (d.pool : Int), vb, vr, vt]] w fun e w' => e = .returned (.int .i64 (devV d.kind d.addr d.pool d.backs d.rules.length d.routes.length c)) ∧ Below w.heap.size w w' := by
 obtain ⟨nm, k, ad, pl, bs, rs, ts, _, _⟩ := d
 simp only at hb hr ht ⊢
 have hb0 := hb
 obtain ⟨Ab, cb, rfl, _, b1, b2, _⟩ := hb
 obtain ⟨Ar, cr, rfl, _, _, _, _⟩ := hr
 obtain ⟨At, ct, rfl, _, _, _, _⟩ := ht
 by_cases hk : 1 <= k ∧ k <= 5
 ·have e0 : (decide (1 <= k) && decide (k <= 5)) = true := by simp [hk]
  have hkk : k = 1 ∨ k = 2 ∨ k = 3 ∨ k = 4 ∨ k = 5 := by omega
  have nil : bs.length = 0 -> backsFrom bs ad 0 = 0 := fun h => backsFrom_end (by omega)
  rcases hkk with rfl | rfl | rfl | rfl | rfl
  ·refine (rdev_1 nm ad pl Ab Ar At bs.length cb rs.length cr ts.length ct c w RT).mono fun e w' ⟨e1, e2⟩ => ⟨?_, e2⟩
   rw [e1]
   congr 2
   unfold devV hasAddr
   by_cases n0 : bs.length = 0
   ·simp [n0, nil n0]
   ·simp [n0, Nat.pos_of_ne_zero n0]
  ·refine (rdev_2 nm ad pl Ab Ar At bs.length cb rs.length cr ts.length ct c w RT).mono fun e w' ⟨e1, e2⟩ => ⟨?_, e2⟩
   rw [e1]
   congr 2
   unfold devV hasAddr
   by_cases n0 : bs.length = 0
   ·simp [n0, nil n0]
   ·simp [n0, Nat.pos_of_ne_zero n0]
  ·refine (rdev_3 nm ad pl Ab Ar At bs.length cb rs.length cr ts.length ct c w RT).mono fun e w' ⟨e1, e2⟩ => ⟨?_, e2⟩
   rw [e1]
   congr 2
   unfold devV hasAddr
   by_cases n0 : bs.length = 0
   ·simp [n0, nil n0]
   ·simp [n0, Nat.pos_of_ne_zero n0]
  ·refine (rdev_4 nm ad pl Ab Ar At bs.length cb rs.length cr ts.length ct c w RT).mono fun e w' ⟨e1, e2⟩ => ⟨?_, e2⟩
   rw [e1]
   congr 2
   unfold devV hasAddr
   by_cases n0 : bs.length = 0
   ·simp [n0, nil n0]
   ·simp [n0, Nat.pos_of_ne_zero n0]
  ·refine (rdev_5 nm ad pl Ab Ar At bs cb rs.length cr ts.length ct c w b1 b2 hb0 RT).mono fun e w' ⟨e1, e2⟩ => ⟨?_, e2⟩
   rw [e1]
   congr 2
   unfold devV hasAddr
   by_cases r8 : 8 < rs.length
   ·simp [Nat.lt_trans (show 0 < 8 by omega) r8]
   ·simp [r8]
 ·refine (rdev_none nm k ad pl _ _ _ w hk).mono fun e w' ⟨e1, e2⟩ => ⟨?_, e2⟩
  rw [e1]
  unfold devV
  rw [if_pos]
  rw [Bool.not_eq_true', Bool.eq_false_iff]
  simp only [ne_eq, Bool.and_eq_true, decide_eq_true_eq]
  exact hk
theorem finR (n lo hi : Int) (w : World) : Calls Tryz.prog 8 #[.int .i64 n, .int .i64 lo, .int .i64 hi] w fun e w' => e = .returned (.bool (decide (lo <= n) && decide (n <= hi))) ∧ w' = w := by
 by_cases h : lo <= n
 ·go_enter Tryz.func8, Tryz.ntmps8
  go_wp2_with fail
  go_ret
  exact ⟨by simp [h], rfl⟩
 ·have h' : decide (lo <= n) = false := by simp; omega
  go_enter Tryz.func8, Tryz.ntmps8
  go_wp2_with fail
  go_ret
  exact ⟨by simp, rfl⟩
def topV (n : Int) (b : Int) : Int := n / 2 ^ bh b * 2 ^ bh b
theorem top_0 (n : Int) (w : World) (h0 : 0 <= n) (h1 : n < 16) : Calls Tryz.prog 134 #[.int .i64 n, .int .i64 4] w fun e w' => e = .returned (.int .i64 (topV n 4)) ∧ w' = w := by
 have hw2 : IntKind.i64.wrap n = n := IntWalk.i64_in _ (by omega)
 have hw : wrap64 n = n := by rw [<- IntWalk.i64_left]; exact hw2
 have E : Hid (topV n 4 = n) := by show n / 1 * 1 = n; omega
 clear h0 h1
 go_enter Tryz.func134, Tryz.ntmps134
 go_wp2_with fail
 go_ret
 refine ⟨?_, rfl⟩
 rw [E.out]
 first | rfl | (simp; done) | (simp; rw [hw]) | (simp; rw [hw2])
theorem top_1 (n : Int) (w : World) (h0 : 0 <= n) (h1 : n < 16) : Calls Tryz.prog 134 #[.int .i64 n, .int .i64 3] w fun e w' => e = .returned (.int .i64 (topV n 3)) ∧ w' = w := by
 have hw : wrap64 (n / 2 * 2) = n / 2 * 2 := by rw [<- IntWalk.i64_left]; exact IntWalk.i64_in _ (by omega)
 have hw2 : IntKind.i64.wrap (n / 2 * 2) = n / 2 * 2 := IntWalk.i64_in _ (by omega)
 have E : Hid (topV n 3 = n / 2 * 2) := rfl
 have F : Hid (0 <= n ∧ n < 16) := ⟨h0, h1⟩
 clear h0 h1
 go_enter Tryz.func134, Tryz.ntmps134
 go_wp2_with fail
 go_ret
 refine ⟨?_, rfl⟩
 rw [E.out]
 first | rfl | (simp; done) | (simp; rw [hw]) | (simp; have := F.out; rw [<- IntWalk.i64_left]; exact (IntWalk.i64_in _ (by omega)).symm)
theorem top_2 (n : Int) (w : World) (h0 : 0 <= n) (h1 : n < 16) : Calls Tryz.prog 134 #[.int .i64 n, .int .i64 2] w fun e w' => e = .returned (.int .i64 (topV n 2)) ∧ w' = w := by
 have hw : wrap64 (n / 4 * 4) = n / 4 * 4 := by rw [<- IntWalk.i64_left]; exact IntWalk.i64_in _ (by omega)
 have hw2 : IntKind.i64.wrap (n / 4 * 4) = n / 4 * 4 := IntWalk.i64_in _ (by omega)
 have E : Hid (topV n 2 = n / 4 * 4) := rfl
 have F : Hid (0 <= n ∧ n < 16) := ⟨h0, h1⟩
 clear h0 h1
 go_enter Tryz.func134, Tryz.ntmps134
 go_wp2_with fail
 go_ret
 refine ⟨?_, rfl⟩
 rw [E.out]
 first | rfl | (simp; done) | (simp; rw [hw]) | (simp; have := F.out; rw [<- IntWalk.i64_left]; exact (IntWalk.i64_in _ (by omega)).symm)
theorem top_3 (n : Int) (w : World) (h0 : 0 <= n) (h1 : n < 16) : Calls Tryz.prog 134 #[.int .i64 n, .int .i64 1] w fun e w' => e = .returned (.int .i64 (topV n 1)) ∧ w' = w := by
 have hw : wrap64 (n / 8 * 8) = n / 8 * 8 := by rw [<- IntWalk.i64_left]; exact IntWalk.i64_in _ (by omega)
 have hw2 : IntKind.i64.wrap (n / 8 * 8) = n / 8 * 8 := IntWalk.i64_in _ (by omega)
 have E : Hid (topV n 1 = n / 8 * 8) := rfl
 have F : Hid (0 <= n ∧ n < 16) := ⟨h0, h1⟩
 clear h0 h1
 go_enter Tryz.func134, Tryz.ntmps134
 go_wp2_with fail
 go_ret
 refine ⟨?_, rfl⟩
 rw [E.out]
 first | rfl | (simp; done) | (simp; rw [hw]) | (simp; have := F.out; rw [<- IntWalk.i64_left]; exact (IntWalk.i64_in _ (by omega)).symm)
theorem top_4 (n : Int) (w : World) (h0 : 0 <= n) (h1 : n < 16) : Calls Tryz.prog 134 #[.int .i64 n, .int .i64 0] w fun e w' => e = .returned (.int .i64 (topV n 0)) ∧ w' = w := by
 have hw : wrap64 (n / 16 * 16) = n / 16 * 16 := by rw [<- IntWalk.i64_left]; exact IntWalk.i64_in _ (by omega)
 have hw2 : IntKind.i64.wrap (n / 16 * 16) = n / 16 * 16 := IntWalk.i64_in _ (by omega)
 have E : Hid (topV n 0 = n / 16 * 16) := rfl
 have F : Hid (0 <= n ∧ n < 16) := ⟨h0, h1⟩
 clear h0 h1
 go_enter Tryz.func134, Tryz.ntmps134
 go_wp2_with fail
 go_ret
 refine ⟨?_, rfl⟩
 rw [E.out]
 first | rfl | (simp; done) | (simp; rw [hw]) | (simp; have := F.out; rw [<- IntWalk.i64_left]; exact (IntWalk.i64_in _ (by omega)).symm)
theorem top_any (n b : Int) (w : World) (h0 : 0 <= n) (h1 : n < 16) (h2 : 0 <= b) (h3 : b <= 4) : Calls Tryz.prog 134 #[.int .i64 n, .int .i64 b] w fun e w' => e = .returned (.int .i64 (topV n b)) ∧ w' = w := by
 have hb : b = 0 ∨ b = 1 ∨ b = 2 ∨ b = 3 ∨ b = 4 := by omega
 rcases hb with rfl | rfl | rfl | rfl | rfl
 ·exact top_4 n w h0 h1
 ·exact top_3 n w h0 h1
 ·exact top_2 n w h0 h1
 ·exact top_1 n w h0 h1
 ·exact top_0 n w h0 h1
theorem top_same (v b : Int) : (topV v b == v) = decide (v % 2 ^ bh b = 0) := by
 have h := Int.mul_ediv_add_emod v (2 ^ bh b)
 unfold topV
 rw [Bool.eq_iff_iff, Int.mul_comm]
 generalize (2 : Int) ^ bh b = m at *
 simp
 omega
theorem top_takes {r : Rt} {d : Int} (hr : isR r = true) : (topV d r.b == r.v) = takesB r d := by
 have h := Int.mul_ediv_add_emod r.v (2 ^ bh r.b)
 have h2 := (isR_val hr).2.2
 have hp : (0 : Int) < 2 ^ bh r.b := Int.pow_pos (by omega)
 unfold topV takesB
 rw [Bool.eq_iff_iff, Int.mul_comm]
 generalize (2 : Int) ^ bh r.b = m at *
 simp
 rw [h2, Int.add_zero] at h
 constructor
 ·intro e
  rw [<- h] at e
  exact Int.eq_of_mul_eq_mul_left (by omega) e
 ·intro e
  rw [e, h]
theorem right_case (v b p t : Int) (w : World) (x0 x1 x3 : Bool)
  (h0 : Hid (∀ w, Calls Tryz.prog 8 #[.int .i64 b, .int .i64 0, .int .i64 4] w fun e w' => e = .returned (.bool x0) ∧ w' = w))
  (h1 : Hid (∀ w, Calls Tryz.prog 8 #[.int .i64 v, .int .i64 0, .int .i64 15] w fun e w' => e = .returned (.bool x1) ∧ w' = w))
  (h2 : Hid ((x0 && x1) = true -> ∀ w, Calls Tryz.prog 134 #[.int .i64 v, .int .i64 b] w fun e w' => e = .returned (.int .i64 t) ∧ w' = w))
  (h3 : Hid (∀ w, Calls Tryz.prog 8 #[.int .i64 p, .int .i64 0, .int .i64 3] w fun e w' => e = .returned (.bool x3) ∧ w' = w)) :
  Calls Tryz.prog 133 #[rtw v b p] w fun e w' => e = .returned (.bool (x0 && x1 && (t == v) && x3)) ∧ Below w.heap.size w w' := by
 have D0 := Below.al (Below.refl w.heap.size w) (.cells #[.int .i64 v, .int .i64 b, .int .i64 p] 210)
 cases x0
 ·go_enter Tryz.func133, Tryz.ntmps133
  go_wp2_with fail
  go_quiet ((go_at_call_of 8 (Value.int .i64 b); exact Calls.quiet_of_same (h0.out _)))
  go_wp2_with fail
  go_ret
  exact ⟨by simp, belowN D0 _⟩
 cases x1
 ·go_enter Tryz.func133, Tryz.ntmps133
  go_wp2_with fail
  go_quiet ((first | (go_at_call_of 8 (Value.int .i64 b); exact Calls.quiet_of_same (h0.out _)) | (go_at_call_of 8 (Value.int .i64 v); exact Calls.quiet_of_same (h1.out _))))
  go_wp2_with fail
  go_ret
  exact ⟨by simp, belowN D0 _⟩
 have H2 : Hid (∀ w, Calls Tryz.prog 134 #[.int .i64 v, .int .i64 b] w fun e w' => e = .returned (.int .i64 t) ∧ w' = w) := h2.out rfl
 clear h2
 cases ht : (t == v)
 ·go_enter Tryz.func133, Tryz.ntmps133
  go_wp2_with fail
  go_quiet ((first | (go_at_call_of 8 (Value.int .i64 b); exact Calls.quiet_of_same (h0.out _)) | (go_at_call_of 8 (Value.int .i64 v); exact Calls.quiet_of_same (h1.out _)) | (go_at_call 134; exact Calls.quiet_of_same (H2.out _))))
  go_wp2_with fail
  go_ret
  exact ⟨by simp, belowN D0 _⟩
 ·go_enter Tryz.func133, Tryz.ntmps133
  go_wp2_with fail
  go_quiet ((first | (go_at_call_of 8 (Value.int .i64 b); exact Calls.quiet_of_same (h0.out _)) | (go_at_call_of 8 (Value.int .i64 v); exact Calls.quiet_of_same (h1.out _)) | (go_at_call_of 8 (Value.int .i64 p); exact Calls.quiet_of_same (h3.out _)) | (go_at_call 134; exact Calls.quiet_of_same (H2.out _))))
  go_wp2_with fail
  go_ret
  exact ⟨by simp, belowN D0 _⟩
theorem rright_any (r : Rt) (w : World) : Calls Tryz.prog 133 #[rtw r.v r.b r.p] w fun e w' => e = .returned (.bool (isR r)) ∧ Below w.heap.size w w' := by
 obtain ⟨v, b, p⟩ := r
 have e : isR ⟨v, b, p⟩ = ((decide (0 <= b) && decide (b <= 4)) && (decide (0 <= v) && decide (v <= 15)) && (topV v b == v) && (decide (0 <= p) && decide (p <= 3))) := by
  rw [top_same, show decide (v <= 15) = decide (v < 16) by rw [decide_eq_decide]; omega, show decide (p <= 3) = decide (p < 4) by rw [decide_eq_decide]; omega]
  simp only [isR, Bool.and_assoc]
 rw [e]
 refine right_case v b p (topV v b) w _ _ _ (fun w => finR b 0 4 w) (fun w => finR v 0 15 w) (fun h w => ?_) (fun w => finR p 0 3 w)
 simp only [Bool.and_eq_true, decide_eq_true_eq] at h
 exact top_any v b w h.2.1 (by omega) h.1.1 h.1.2
def pB (d : Int) (n : Nat) (r : Rt) : Bool := isR r && (r.b == (n : Int)) && takesB r d
def rout (l : List Rt) (d : Int) : Nat -> Option Rt
 | 0 => none
 | n + 1 => (l.find? (pB d n)).or (rout l d n)
def rp : Option Rt -> Int
 | some r => r.p
 | none => 0
theorem find_take {xs : List Rt} {k : Nat} {r : Rt} {q : Rt -> Bool} (h : xs[k]? = some r) : (xs.take (k + 1)).find? q = ((xs.take k).find? q).or (if q r then some r else none) := by
 obtain ⟨hk, e⟩ := List.getElem?_eq_some_iff.1 h
 rw [List.take_succ_eq_append_getElem hk, e, List.find?_append]
 congr 1
 simp only [List.find?_cons, List.find?_nil]
 cases q r <;> simp
theorem find_here {xs : List Rt} {k : Nat} {r : Rt} {q : Rt -> Bool} (h : xs[k]? = some r) (h0 : (xs.take k).find? q = none) (hq : q r = true) : xs.find? q = some r := by
 have e := find_take (q := q) h
 rw [h0, hq] at e
 simp only [if_true, Option.none_or] at e
 rw [<- List.take_append_drop (k + 1) xs, List.find?_append, e]
 rfl
theorem best_spec (d : Int) (l : List Rt) : ((bestOf l d).1 = -1 ∧ ∀ r ∈ l, (isR r && takesB r d) = false) ∨ (∃ n : Nat, n <= 4 ∧ (bestOf l d).1 = (n : Int) ∧ (∃ r, l.find? (pB d n) = some r ∧ r.p = (bestOf l d).2) ∧ ∀ r ∈ l, (isR r && takesB r d) = true -> r.b <= (n : Int)) := by
 suffices H : ∀ m : List Rt, ((bestOf m.reverse d).1 = -1 ∧ ∀ r ∈ m.reverse, (isR r && takesB r d) = false) ∨ (∃ n : Nat, n <= 4 ∧ (bestOf m.reverse d).1 = (n : Int) ∧ (∃ r, m.reverse.find? (pB d n) = some r ∧ r.p = (bestOf m.reverse d).2) ∧ ∀ r ∈ m.reverse, (isR r && takesB r d) = true -> r.b <= (n : Int)) by
  have := H l.reverse
  rw [List.reverse_reverse] at this
  exact this
 intro m
 induction m with
 | nil => exact Or.inl ⟨rfl, fun r h => by cases h⟩
 | cons x m ih =>
   rw [List.reverse_cons, bestOf_snoc]
   generalize m.reverse = l at *
   by_cases hq : (isR x && takesB x d) = true
   ·have hb := isR_bits (by simp only [Bool.and_eq_true] at hq; exact hq.1)
    obtain ⟨n', hn'⟩ : ∃ n' : Nat, x.b = (n' : Int) := ⟨x.b.toNat, by omega⟩
    by_cases hm : (bestOf l d).1 < x.b
    ·have e : better d (bestOf l d) x = (x.b, x.p) := by
      unfold better
      rw [hq, Bool.true_and, if_pos (decide_eq_true hm)]
     rw [e]
     refine Or.inr ⟨n', by omega, hn', ⟨x, ?_, rfl⟩, ?_⟩
     ·have h0 : l.find? (pB d n') = none := by
       rw [List.find?_eq_none]
       intro r hr hp
       simp only [pB, Bool.and_eq_true, beq_iff_eq] at hp
       rcases ih with ⟨_, h⟩ | ⟨n, _, e1, _, h⟩
       ·have := h r hr
        rw [hp.1.1, hp.2] at this
        cases this
       ·have := h r hr (by rw [hp.1.1, hp.2]; rfl)
        omega
      rw [List.find?_append, h0, Option.none_or]
      simp only [List.find?_cons]
      have : pB d n' x = true := by
       simp only [Bool.and_eq_true] at hq
       simp only [pB, hq.1, hq.2, hn', beq_self_eq_true, Bool.and_self]
      rw [this]
     ·intro r hr hqr
      rcases List.mem_append.1 hr with hr | hr
      ·rcases ih with ⟨_, h⟩ | ⟨n, _, e1, _, h⟩
       ·have := h r hr
        rw [hqr] at this
        cases this
       ·have := h r hr hqr
        omega
      ·simp only [List.mem_cons, List.not_mem_nil, or_false] at hr
       subst hr
       omega
    ·have e : better d (bestOf l d) x = bestOf l d := by
      unfold better
      rw [hq, Bool.true_and, if_neg (by simp only [decide_eq_true_eq]; exact hm)]
     rw [e]
     rcases ih with ⟨e1, _⟩ | ⟨n, hn, e1, ⟨r0, hf, hp⟩, h⟩
     ·omega
     ·refine Or.inr ⟨n, hn, e1, ⟨r0, by rw [List.find?_append, hf]; rfl, hp⟩, ?_⟩
      intro r hr hqr
      rcases List.mem_append.1 hr with hr | hr
      ·exact h r hr hqr
      ·simp only [List.mem_cons, List.not_mem_nil, or_false] at hr
       subst hr
       omega
   ·have e : better d (bestOf l d) x = bestOf l d := by
     unfold better
     rw [if_neg (by simp only [Bool.and_eq_true] at hq ⊢; exact fun h => hq h.1)]
    rw [e]
    have hq' : (isR x && takesB x d) = false := by simpa using hq
    rcases ih with ⟨e1, h⟩ | ⟨n, hn, e1, ⟨r0, hf, hp⟩, h⟩
    ·refine Or.inl ⟨e1, fun r hr => ?_⟩
     rcases List.mem_append.1 hr with hr | hr
     ·exact h r hr
     ·simp only [List.mem_cons, List.not_mem_nil, or_false] at hr
      subst hr
      exact hq'
    ·refine Or.inr ⟨n, hn, e1, ⟨r0, by rw [List.find?_append, hf]; rfl, hp⟩, ?_⟩
     intro r hr hqr
     rcases List.mem_append.1 hr with hr | hr
     ·exact h r hr hqr
     ·simp only [List.mem_cons, List.not_mem_nil, or_false] at hr
      subst hr
      rw [hq'] at hqr
      cases hqr
theorem rout_none {l : List Rt} {d : Int} (h : ∀ r ∈ l, (isR r && takesB r d) = false) : ∀ n, rout l d n = none
 | 0 => rfl
 | n + 1 => by
   have : l.find? (pB d n) = none := by
    rw [List.find?_eq_none]
    intro r hr hp
    simp only [pB, Bool.and_eq_true] at hp
    have := h r hr
    rw [hp.1.1, hp.2] at this
    cases this
   rw [rout, this, Option.none_or]
   exact rout_none h n
theorem rout_hit {l : List Rt} {d : Int} {n : Nat} {r : Rt} (hf : l.find? (pB d n) = some r) (h : ∀ r ∈ l, (isR r && takesB r d) = true -> r.b <= (n : Int)) : ∀ N, n < N -> rout l d N = some r
 | 0, hN => by omega
 | N + 1, hN => by
   by_cases he : n = N
   ·subst he
    rw [rout, hf]
    rfl
   ·have : l.find? (pB d N) = none := by
     rw [List.find?_eq_none]
     intro r hr hp
     simp only [pB, Bool.and_eq_true, beq_iff_eq] at hp
     have := h r hr (by rw [hp.1.1, hp.2]; rfl)
     omega
    rw [rout, this, Option.none_or]
    exact rout_hit hf h N (by omega)
theorem rout_out (l : List Rt) {d : Int} (hd : 0 <= d ∧ d < 16) : rp (rout l d 5) = outN l d ∧ (rout l d 5).isSome = outB l d := by
 unfold outN outB
 rw [if_pos hd, decide_eq_true hd.1, decide_eq_true hd.2]
 rcases best_spec d l with ⟨e, h⟩ | ⟨n, hn, e, ⟨r, hf, hp⟩, h⟩
 ·rw [rout_none h 5, (bestOf_low l d).2 e, e]
  exact ⟨rfl, rfl⟩
 ·rw [rout_hit hf h 5 (by omega), e, <- hp]
  refine ⟨rfl, ?_⟩
  have : ((n : Int) == -1) = false := by simp
  rw [this]
  rfl
theorem rout_row (b o cap : Nat) (xs : List Rt) (d : Int) (w : World) (hb : b < w.heap.size) (hn : xs.length <= cap) (hcap : cap <= maxLen) (hr : Hid (TAt w b o xs)) (h0 : 0 <= d) (h1 : d < 16) :
  Calls Tryz.prog 74 #[.slice (some ⟨b, o, none⟩) xs.length cap, .int .i64 d] w fun e w' => e = .returned (.tuple #[.int .i64 (rp (rout xs d 5)), .bool (rout xs d 5).isSome]) ∧ Below w.heap.size w w' := by
 unfold maxLen at hcap
 have IN : Hid (∀ w, Calls Tryz.prog 8 #[.int .i64 d, .int .i64 0, .int .i64 15] w fun e w' => e = .returned (.bool true) ∧ w' = w) := fun w => by
  have := finR d 0 15 w
  rw [show (decide (0 <= d) && decide (d <= 15)) = true by simp; omega] at this
  exact this
 have H0 : Hid (0 <= d ∧ d < 16) := ⟨h0, h1⟩
 clear h0 h1
 go_enter Tryz.func74, Tryz.ntmps74
 go_wp2_with fail
 go_loopw [6] (fun i wr => ∃ j : Int, i = .int .i64 j ∧ -1 <= j ∧ j <= 4 ∧ Below w.heap.size w wr ∧ Hid (rout xs d 5 = rout xs d (j + 1).toNat)) (fun i _ => (intOf i + 1).toNat)
 case atStart => exact ⟨4, rfl, by omega, by omega, Below.refl _ _, rfl⟩
 case round =>
  obtain ⟨j, rfl, hj1, hj2, D1, hl⟩ := hrel
  by_cases hj : j = -1
  ·subst hj
   have e : Hid (rout xs d 5 = none) := hl.out
   go_wp2_with fail
   go_ret2
   exact ⟨by rw [e.out]; rfl, D1⟩
  ·obtain ⟨m, rfl⟩ : ∃ m : Nat, j = m := ⟨j.toNat, by omega⟩
   have hm4 : m <= 4 := by omega
   have HL : Hid (rout xs d 5 = (xs.find? (pB d m)).or (rout xs d m)) := hl.out
   have tm : decide ((0 : Int) <= (m : Int)) = true := by simp
   clear hl hj hj1 hj2
   go_wp2_with fail
   refine (IN.out _).mono ?_
   rintro e w1 ⟨rfl, rfl⟩
   go_wp2_with fail
   go_loopw [7] (fun i wr => ∃ k : Nat, i = .int .i64 (k : Int) ∧ k <= xs.length ∧ Below w.heap.size w wr ∧ Hid ((xs.take k).find? (pB d m) = none)) (fun i _ => xs.length - (intOf i).toNat)
   case atStart => exact ⟨0, rfl, by omega, D1, rfl⟩
   case round =>
    clear D1
    obtain ⟨k, rfl, hk, D1, hno⟩ := hrel
    by_cases hlt : k < xs.length
    ·obtain ⟨r, hxk⟩ : ∃ r, xs[k]? = some r := ⟨_, List.getElem?_eq_getElem hlt⟩
     have RA := hr.out.below D1 hb
     obtain ⟨c0, c1, c2⟩ := RA.at hxk
     have IS : Hid (∀ w', Below wr.heap.size wr w' -> Calls Tryz.prog 133 #[rtw r.v r.b r.p] w' fun e w'' => e = .returned (.bool (isR r)) ∧ Hid (Below w.heap.size w w'') ∧ w''.cell? ⟨b, o + k * 3, none⟩ = some (.int .i64 r.v) ∧ w''.cell? ⟨b, o + k * 3 + 1, none⟩ = some (.int .i64 r.b) ∧ w''.cell? ⟨b, o + k * 3 + 2, none⟩ = some (.int .i64 r.p)) := fun w' hw' =>
      (rright_any r w').mono fun e w'' ⟨h1, h2⟩ => by
        have hB := hw'.trans (h2.mono hw'.size)
        have hb' : b < wr.heap.size := Nat.lt_of_lt_of_le hb D1.size
        obtain ⟨y0, y1, y2⟩ := (RA.below hB hb').at hxk
        exact ⟨h1, chn hB D1, y0, y1, y2⟩
     have TP : Hid ((isR r && (r.b == (m : Int))) = true -> ∀ w', Calls Tryz.prog 134 #[.int .i64 d, .int .i64 (m : Int)] w' fun e w'' => e = .returned (.int .i64 (topV d r.b)) ∧ w'' = w') := fun h w' => by
      simp only [Bool.and_eq_true, beq_iff_eq] at h
      rw [h.2]
      exact top_any d m w' H0.out.1 H0.out.2 (by omega) (by omega)
     have HP : pB d m r = (isR r && (r.b == (m : Int)) && (topV d r.b == r.v)) := by
      unfold pB
      cases hx : isR r
      ·rfl
      ·rw [top_takes hx]
     have NX : Hid ((isR r && (r.b == (m : Int)) && (topV d r.b == r.v)) = false -> Hid ((xs.take (k + 1)).find? (pB d m) = none)) := fun h => by
      show _ = _
      rw [find_take hxk, hno.out, HP, h]
      rfl
     have HT : Hid ((isR r && (r.b == (m : Int)) && (topV d r.b == r.v)) = true -> rp (rout xs d 5) = r.p ∧ (rout xs d 5).isSome = true) := fun h => by
      rw [HL.out, find_here hxk hno.out (by rw [HP, h])]
      exact ⟨rfl, rfl⟩
     have R0 : Below wr.heap.size wr wr.drew := (Below.refl _ _).drew
     have lw := D1.size
     have k1 : (0 : Int) <= (k : Int) := by omega
     have k2 : (k : Int) < (xs.length : Int) := by omega
     clear hxk RA HP hno
     generalize topV d r.b = tv at *
     generalize isR r = x at *
     generalize hy : (r.b == (m : Int)) = y at *
     generalize r.v = rv0 at *
     generalize r.b = rb0 at *
     generalize r.p = rp0 at *
     cases x
     ·clear TP HT
      go_wp2_with fail
      refine wp_region_held_drew (S := (fun w' => w'.cell? ⟨b, o + k * 3, none⟩ = some (.int .i64 rv0) ∧ w'.cell? ⟨b, o + k * 3 + 1, none⟩ = some (.int .i64 rb0) ∧ w'.cell? ⟨b, o + k * 3 + 2, none⟩ = some (.int .i64 rp0))) (by kernel_rfl) (⟨by assumption, by assumption, by assumption⟩) (fun hHeld => ?_)
      refine tk 0 ?_; try simp only [ly]
      refine tk 1 ?_; try simp only [ly]
      refine tk 2 ?_; try simp only [ly]
      refine tk 3 ?_; try simp only [ly]
      refine rd 4 (fun K hK => ?_)
      go_simp
      refine (IS.out _ (by assumption)).mono ?_; rintro e wz ⟨rfl, D3, z0, z1, z2⟩
      try go_wp2_with fail
      clear hHeld
      refine hK.out _ _ (⟨by assumption, by assumption, by assumption⟩) (fun hHeld => ?_)
      clear hK K
      try simp only [ly]
      refine tk 5 ?_; try simp only [ly]
      refine tk0 6 ?_; try simp only [ly]
      refine tk0 7 ?_; try simp only [ly]
      refine tk0 8 ?_; try simp only [ly]
      refine tk0 9 ?_; try simp only [ly]
      refine tk0 10 ?_; try simp only [ly]
      refine tk0 11 ?_; try simp only [ly]
      refine tk0 12 ?_; try simp only [ly]
      refine tk 13 ?_; try simp only [ly]
      refine tk 14 ?_; try simp only [ly]
      refine tk0 15 ?_; try simp only [ly]
      refine tk0 16 ?_; try simp only [ly]
      refine tk0 17 ?_; try simp only [ly]
      refine tk0 18 ?_; try simp only [ly]
      refine tk0 19 ?_; try simp only [ly]
      refine tk0 20 ?_; try simp only [ly]
      refine tk0 21 ?_; try simp only [ly]
      refine tk0 22 ?_; try simp only [ly]
      refine tk0 23 ?_; try simp only [ly]
      refine tk 24 ?_; try simp only [ly]
      refine wpAnyH_done (by kernel_rfl) ?_ _
      go_wp2_with fail
      go_roundw
      case rel => exact ⟨k + 1, by go_num, by omega, D3.out, NX.out rfl⟩
      case measure => simp [intOf]; omega
     cases y
     ·clear TP HT
      go_wp2_with fail
      refine wp_region_held_drew (S := (fun w' => w'.cell? ⟨b, o + k * 3, none⟩ = some (.int .i64 rv0) ∧ w'.cell? ⟨b, o + k * 3 + 1, none⟩ = some (.int .i64 rb0) ∧ w'.cell? ⟨b, o + k * 3 + 2, none⟩ = some (.int .i64 rp0))) (by kernel_rfl) (⟨by assumption, by assumption, by assumption⟩) (fun hHeld => ?_)
      refine tk 0 ?_; try simp only [ly]
      refine tk 1 ?_; try simp only [ly]
      refine tk 2 ?_; try simp only [ly]
      refine tk 3 ?_; try simp only [ly]
      refine rd 4 (fun K hK => ?_)
      go_simp
      refine (IS.out _ (by assumption)).mono ?_; rintro e wz ⟨rfl, D3, z0, z1, z2⟩
      try go_wp2_with fail
      clear hHeld
      refine hK.out _ _ (⟨by assumption, by assumption, by assumption⟩) (fun hHeld => ?_)
      clear hK K
      try simp only [ly]
      refine tk 5 ?_; try simp only [ly]
      refine tk 6 ?_; try simp only [ly]
      refine tk 7 ?_; try simp only [ly]
      refine tk 8 ?_; try simp only [ly]
      refine tk 9 ?_; try simp only [ly]
      refine tk 10 ?_; try simp only [ly]
      refine tk 11 ?_; try simp only [ly]
      refine tk 12 ?_; try simp only [ly]
      refine tk 13 ?_; try simp only [ly]
      refine tk 14 ?_; try simp only [ly]
      refine tk0 15 ?_; try simp only [ly]
      refine tk0 16 ?_; try simp only [ly]
      refine tk0 17 ?_; try simp only [ly]
      refine tk0 18 ?_; try simp only [ly]
      refine tk0 19 ?_; try simp only [ly]
      refine tk0 20 ?_; try simp only [ly]
      refine tk0 21 ?_; try simp only [ly]
      refine tk0 22 ?_; try simp only [ly]
      refine tk0 23 ?_; try simp only [ly]
      refine tk 24 ?_; try simp only [ly]
      refine wpAnyH_done (by kernel_rfl) ?_ _
      go_wp2_with fail
      go_roundw
      case rel => exact ⟨k + 1, by go_num, by omega, D3.out, NX.out rfl⟩
      case measure => simp [intOf]; omega
     ·go_wp2_with fail
      refine wp_region_held_drew (S := (fun w' => w'.cell? ⟨b, o + k * 3, none⟩ = some (.int .i64 rv0) ∧ w'.cell? ⟨b, o + k * 3 + 1, none⟩ = some (.int .i64 rb0) ∧ w'.cell? ⟨b, o + k * 3 + 2, none⟩ = some (.int .i64 rp0))) (by kernel_rfl) (⟨by assumption, by assumption, by assumption⟩) (fun hHeld => ?_)
      refine tk 0 ?_; try simp only [ly]
      refine tk 1 ?_; try simp only [ly]
      refine tk 2 ?_; try simp only [ly]
      refine tk 3 ?_; try simp only [ly]
      refine rd 4 (fun K hK => ?_)
      go_simp
      refine (IS.out _ (by assumption)).mono ?_; rintro e wz ⟨rfl, D3, z0, z1, z2⟩
      try go_wp2_with fail
      clear hHeld
      refine hK.out _ _ (⟨by assumption, by assumption, by assumption⟩) (fun hHeld => ?_)
      clear hK K
      try simp only [ly]
      refine tk 5 ?_; try simp only [ly]
      refine tk 6 ?_; try simp only [ly]
      refine tk 7 ?_; try simp only [ly]
      refine tk 8 ?_; try simp only [ly]
      refine tk 9 ?_; try simp only [ly]
      refine tk 10 ?_; try simp only [ly]
      refine tk 11 ?_; try simp only [ly]
      refine tk 12 ?_; try simp only [ly]
      refine tk 13 ?_; try simp only [ly]
      refine tk 14 ?_; try simp only [ly]
      refine tk 15 ?_; try simp only [ly]
      refine tk 16 ?_; try simp only [ly]
      refine tk 18 ?_; try simp only [ly]
      refine tk 19 ?_; try simp only [ly]
      refine tk 20 ?_; try simp only [ly]
      refine tk 21 ?_; try simp only [ly]
      refine tk 22 ?_; try simp only [ly]
      refine rd 17 (fun K hK => ?_)
      go_simp
      refine (TP.out rfl _).mono ?_; rintro e wy ⟨rfl, rfl⟩
      try go_wp2_with fail
      clear hHeld
      refine hK.out _ _ (⟨by assumption, by assumption, by assumption⟩) (fun hHeld => ?_)
      clear hK K
      try simp only [ly]
      refine tk 23 ?_; try simp only [ly]
      refine tk 24 ?_; try simp only [ly]
      refine wpAnyH_done (by kernel_rfl) ?_ _
      cases hq : (tv == rv0)
      ·have HNO : Hid ((true && true && (tv == rv0)) = false) := by show _ = _; rw [hq]; rfl
       go_wp2_with fail
       go_roundw
       case rel => exact ⟨k + 1, by go_num, by omega, D3.out, NX.out HNO.out⟩
       case measure => simp [intOf]; omega
      ·have HYES : Hid (rp (rout xs d 5) = rp0 ∧ (rout xs d 5).isSome = true) := HT.out (by rw [hq]; rfl)
       go_wp2_with fail
       go_ret2
       exact ⟨by rw [HYES.out.1, HYES.out.2]; rfl, D3.out⟩
    ·obtain rfl : k = xs.length := by omega
     have HN : Hid (rout xs d 5 = rout xs d m) := by
      show _ = _
      have := hno.out
      rw [List.take_length] at this
      rw [HL.out, this, Option.none_or]
     go_wp2_with fail
     go_roundw
     case rel => exact ⟨(m : Int) - 1, by go_num, by omega, by omega, D1, by show _ = _; rw [HN.out]; congr 1; omega⟩
     case measure => simp [intOf]
theorem rout_nil (A : Option Addr) (cap : Nat) (d : Int) (w : World) (h0 : 0 <= d) (h1 : d < 16) :
  Calls Tryz.prog 74 #[.slice A 0 cap, .int .i64 d] w fun e w' => e = .returned (.tuple #[.int .i64 0, .bool false]) ∧ Below w.heap.size w w' := by
 have IN : Hid (∀ w, Calls Tryz.prog 8 #[.int .i64 d, .int .i64 0, .int .i64 15] w fun e w' => e = .returned (.bool true) ∧ w' = w) := fun w => by
  have := finR d 0 15 w
  rw [show (decide (0 <= d) && decide (d <= 15)) = true by simp; omega] at this
  exact this
 clear h0 h1
 go_enter Tryz.func74, Tryz.ntmps74
 go_wp2_with fail
 go_loopw [6] (fun i wr => ∃ j : Int, i = .int .i64 j ∧ -1 <= j ∧ j <= 4 ∧ Below w.heap.size w wr) (fun i _ => (intOf i + 1).toNat)
 case atStart => exact ⟨4, rfl, by omega, by omega, Below.refl _ _⟩
 case round =>
  obtain ⟨j, rfl, hj1, hj2, D1⟩ := hrel
  by_cases hj : j = -1
  ·subst hj
   go_wp2_with fail
   go_ret2
   exact ⟨rfl, D1⟩
  ·obtain ⟨m, rfl⟩ : ∃ m : Nat, j = m := ⟨j.toNat, by omega⟩
   have tm : decide ((0 : Int) <= (m : Int)) = true := by simp
   clear hj hj1
   go_wp2_with fail
   refine (IN.out _).mono ?_
   rintro e w1 ⟨rfl, rfl⟩
   go_wp2_with fail
   go_loopw [7] (fun i wr => i = .int .i64 0 ∧ Below w.heap.size w wr) (fun i _ => 0)
   case atStart => exact ⟨rfl, D1⟩
   case round =>
    clear D1
    obtain ⟨rfl, D1⟩ := hrel
    go_wp2_with fail
    go_roundw
    case rel => exact ⟨(m : Int) - 1, by go_num, by omega, by omega, D1⟩
    case measure => simp [intOf]
theorem rout_wide (v : Value) (d : Int) (w : World) (h : d < 0 ∨ 16 <= d) :
  Calls Tryz.prog 74 #[v, .int .i64 d] w fun e w' => e = .returned (.tuple #[.int .i64 0, .bool false]) ∧ Below w.heap.size w w' := by
 have IN : Hid (∀ w, Calls Tryz.prog 8 #[.int .i64 d, .int .i64 0, .int .i64 15] w fun e w' => e = .returned (.bool false) ∧ w' = w) := fun w => by
  have := finR d 0 15 w
  rw [show (decide (0 <= d) && decide (d <= 15)) = false by
   rcases h with h | h
   ·simp; omega
   ·simp; omega] at this
  exact this
 clear h
 go_enter Tryz.func74, Tryz.ntmps74
 go_wp2_with fail
 go_loopw [6] (fun i wr => i = .int .i64 4 ∧ wr = w) (fun i _ => 0)
 case atStart => exact ⟨rfl, rfl⟩
 case round =>
  obtain ⟨rfl, rfl⟩ := hrel
  go_wp2_with fail
  refine (IN.out _).mono ?_
  rintro e w1 ⟨rfl, rfl⟩
  go_wp2_with fail
  go_ret2
  exact ⟨rfl, Below.refl _ _⟩
theorem rout_any {v : Value} {xs : List Rt} (d : Int) (w : World) (h : Routes w.heap.size w v xs) :
  Calls Tryz.prog 74 #[v, .int .i64 d] w fun e w' => e = .returned (.tuple #[.int .i64 (outN xs d), .bool (outB xs d)]) ∧ Below w.heap.size w w' := by
 by_cases hd : 0 <= d ∧ d < 16
 ·obtain ⟨e1, e2⟩ := rout_out xs hd
  rw [<- e1, <- e2]
  obtain ⟨A, cap, rfl, _, h1, h2, h3⟩ := h
  by_cases hx : xs = []
  ·subst hx
   exact rout_nil A cap d w hd.1 hd.2
  ·obtain ⟨b, o, rfl, hb, hr⟩ := h3 hx
   exact rout_row b o cap xs d w hb h1 h2 hr hd.1 hd.2
 ·have e1 : outN xs d = 0 := by unfold outN; rw [if_neg hd]
  have e2 : outB xs d = false := by
   unfold outB
   by_cases h0 : 0 <= d
   ·have : ¬ d < 16 := fun h1 => hd ⟨h0, h1⟩
    simp [this]
   ·simp [h0]
  rw [e1, e2]
  exact rout_wide v d w (by omega)
theorem routes_row (b o cap : Nat) (xs : List Rt) (w : World) (hb : b < w.heap.size) (hr : Hid (TAt w b o xs)) (h8 : xs.length <= 8) :
  Calls Tryz.prog 71 #[.slice (some ⟨b, o, none⟩) xs.length cap] w fun e w' => e = .returned (.int .i64 (checkFrom xs 0)) ∧ Below w.heap.size w w' := by
 have t8 : decide ((8 : Int) < (xs.length : Int)) = false := by simp; omega
 go_enter Tryz.func71, Tryz.ntmps71
 go_wp2_with fail
 go_loopw [3] (fun i wr => ∃ k : Nat, i = .int .i64 (k : Int) ∧ k <= xs.length ∧ Below w.heap.size w wr ∧ Hid (checkFrom xs 0 = checkFrom xs k)) (fun i _ => xs.length - (intOf i).toNat)
 case atStart => exact ⟨0, rfl, by omega, Below.refl _ _, rfl⟩
 case round =>
  obtain ⟨k, rfl, hk, D1, hl⟩ := hrel
  by_cases hlt : k < xs.length
  ·obtain ⟨r, hxk⟩ : ∃ r, xs[k]? = some r := ⟨_, List.getElem?_eq_getElem hlt⟩
   obtain ⟨c0, c1, c2⟩ := (hr.out.below D1 hb).at hxk
   have Hd : Hid (checkFrom xs k = if (if isR r then (if (xs.take k).any (fun a => sameA a r) then 5 else 0) else 1 : Int) = 0 then checkFrom xs (k + 1) else (if isR r then (if (xs.take k).any (fun a => sameA a r) then 5 else 0) else 1 : Int)) := checkFrom_at hxk
   have IS : Hid (∀ w, Calls Tryz.prog 133 #[rtw r.v r.b r.p] w fun e w' => e = .returned (.bool (isR r)) ∧ Below w.heap.size w w') := fun w => rright_any r w
   have HX : Hid (xs[k]? = some r) := hxk
   have k1 : (0 : Int) <= (k : Int) := by omega
   have k2 : (k : Int) < (xs.length : Int) := by omega
   clear hxk
   cases hx : isR r
   ·rw [hx] at IS Hd
    have fin : Hid (checkFrom xs 0 = 1) := by show _ = _; rw [hl.out, Hd.out]; simp
    clear hl Hd HX hx
    generalize r.v = rv0 at *
    generalize r.b = rb0 at *
    generalize r.p = rp0 at *
    go_wp2_with fail
    refine (IS.out _).mono ?_
    rintro e w3 ⟨rfl, hb3⟩
    have D3 := chn hb3 D1
    clear hb3 D1 c0 c1 c2 IS
    go_wp2_with fail
    go_ret
    exact ⟨by rw [fin.out]; rfl, D3⟩
   ·rw [hx] at IS Hd
    clear hx
    go_wp2_with fail
    refine (IS.out _).mono ?_
    rintro e w3 ⟨rfl, hb3⟩
    have D3 := chn hb3 D1
    clear hb3 D1 c0 c1 c2 IS
    go_wp2_with fail
    go_loopw [4] (fun i wr => ∃ j : Nat, i = .int .i64 (j : Int) ∧ j <= k ∧ Below w.heap.size w wr ∧ Hid ((xs.take j).any (fun a => sameA a r) = false)) (fun i _ => k - (intOf i).toNat)
    case atStart => exact ⟨0, rfl, by omega, D3, rfl⟩
    case round =>
     clear D3
     obtain ⟨j, rfl, hj, D1, hno⟩ := hrel
     by_cases hjk : j < k
     ·obtain ⟨a, hxj⟩ : ∃ a, xs[j]? = some a := ⟨_, List.getElem?_eq_getElem (by omega)⟩
      obtain ⟨c0, c1, c2⟩ := (hr.out.below D1 hb).at HX.out
      obtain ⟨g0, g1, g2⟩ := (hr.out.below D1 hb).at hxj
      have j1 : (0 : Int) <= (j : Int) := by omega
      have j2 : (j : Int) < (xs.length : Int) := by omega
      have NX : Hid (((a.v == r.v) && (a.b == r.b)) = false -> Hid ((xs.take (j + 1)).any (fun a => sameA a r) = false)) := fun h => by
       show _ = _
       rw [any_take hxj, hno.out]
       exact h
      have HT : Hid (((a.v == r.v) && (a.b == r.b)) = true -> checkFrom xs 0 = 5) := fun h => by
       have : (xs.take k).any (fun a => sameA a r) = true := any_here (k := j) (by rw [List.getElem?_take]; simp [hjk]; rw [<- hxj]) h
       rw [hl.out, Hd.out, this]
       simp
      clear hxj hno
      generalize a.v = av0 at *
      generalize a.b = ab0 at *
      generalize a.p = ap0 at *
      generalize r.v = rv0 at *
      generalize r.b = rb0 at *
      generalize r.p = rp0 at *
      cases hv : (av0 == rv0)
      ·have NX' : Hid (Hid ((xs.take (j + 1)).any (fun a => sameA a r) = false)) := NX.out (by rw [hv]; rfl)
       clear NX HT
       go_wp2_with fail
       go_quiet (fail)
       go_wp2_with fail
       go_roundw
       case rel => exact ⟨j + 1, by go_num, by omega, belowN D1 _, NX'.out⟩
       case measure => simp [intOf]; omega
      ·cases hv2 : (ab0 == rb0)
       ·have NX' : Hid (Hid ((xs.take (j + 1)).any (fun a => sameA a r) = false)) := NX.out (by rw [hv, hv2]; rfl)
        clear NX HT
        go_wp2_with fail
        go_quiet (fail)
        go_wp2_with fail
        go_roundw
        case rel => exact ⟨j + 1, by go_num, by omega, belowN D1 _, NX'.out⟩
        case measure => simp [intOf]; omega
       ·have fin : Hid (checkFrom xs 0 = 5) := HT.out (by rw [hv, hv2]; rfl)
        clear NX HT
        go_wp2_with fail
        go_quiet (fail)
        go_wp2_with fail
        go_ret
        exact ⟨by rw [fin.out]; rfl, belowN D1 _⟩
     ·obtain rfl : j = k := by omega
      have HN : Hid (checkFrom xs 0 = checkFrom xs (j + 1)) := by
       show _ = _
       rw [hl.out, Hd.out, hno.out]
       simp
      go_wp2_with fail
      go_roundw
      case rel => exact ⟨j + 1, by go_num, by omega, D1, HN⟩
      case measure => simp [intOf]; omega
  ·have fin : Hid (checkFrom xs 0 = 0) := by show _ = _; rw [hl.out, checkFrom_end (by omega)]
   go_wp2_with fail
   go_ret
   exact ⟨by rw [fin.out]; rfl, D1⟩
theorem routes_nil (A : Option Addr) (cap : Nat) (w : World) :
  Calls Tryz.prog 71 #[.slice A 0 cap] w fun e w' => e = .returned (.int .i64 0) ∧ Below w.heap.size w w' := by
 go_enter Tryz.func71, Tryz.ntmps71
 go_wp2_with fail
 go_loopw [3] (fun i wr => i = .int .i64 0 ∧ Below w.heap.size w wr) (fun i _ => 0)
 case atStart => exact ⟨rfl, Below.refl _ _⟩
 case round =>
  obtain ⟨rfl, D1⟩ := hrel
  go_wp2_with fail
  go_ret
  exact ⟨rfl, D1⟩
theorem routes_large (A : Option Addr) (n cap : Nat) (w : World) (h : 8 < n) :
  Calls Tryz.prog 71 #[.slice A n cap] w fun e w' => e = .returned (.int .i64 2) ∧ Below w.heap.size w w' := by
 have t8 : decide ((8 : Int) < (n : Int)) = true := by simp; omega
 go_enter Tryz.func71, Tryz.ntmps71
 go_wp2_with fail
 go_ret
 exact ⟨rfl, Below.refl _ _⟩
theorem routes_any {v : Value} {xs : List Rt} (w : World) (h : Routes w.heap.size w v xs) :
  Calls Tryz.prog 71 #[v] w fun e w' => e = .returned (.int .i64 (checkV xs)) ∧ Below w.heap.size w w' := by
 obtain ⟨A, cap, rfl, _, _, _, h3⟩ := h
 unfold checkV
 by_cases h8 : 8 < xs.length
 ·rw [if_pos h8]
  exact routes_large A xs.length cap w h8
 ·rw [if_neg h8]
  by_cases hx : xs = []
  ·subst hx
   rw [checkFrom_end (by simp)]
   exact routes_nil A cap w
  ·obtain ⟨b, o, rfl, hb, hr⟩ := h3 hx
   exact routes_row b o cap xs w hb hr (by omega)
def endsL (ls : List Lk) : List (Int × Int) := ls.flatMap fun l => [(l.a, l.p), (l.b, l.q)]
theorem endsL_snoc (ls : List Lk) (l : Lk) : endsL (ls ++ [l]) = endsL ls ++ [(l.a, l.p), (l.b, l.q)] := by simp [endsL]
theorem endsL_take {ls : List Lk} {k : Nat} {l : Lk} (h : ls[k]? = some l) : endsL (ls.take (k + 1)) = endsL (ls.take k) ++ [(l.a, l.p), (l.b, l.q)] := by
 obtain ⟨hk, e⟩ := List.getElem?_eq_some_iff.1 h
 rw [List.take_succ_eq_append_getElem hk, e, endsL_snoc]
theorem endsL_len : ∀ ls : List Lk, (endsL ls).length = 2 * ls.length
 | [] => rfl
 | l :: ls => by
   have := endsL_len ls
   show (endsL ls).length + 1 + 1 = _
   rw [this, List.length_cons]
   omega
theorem beqI (a b : Int) : (a == b) = (b == a) := by rw [Bool.eq_iff_iff]; simp; exact eq_comm
theorem hasP_meet (l : Lk) : ∀ ls : List Lk, (hasP (endsL ls) (l.a, l.p) || hasP (endsL ls) (l.b, l.q)) = ls.any (fun m => meetB m l)
 | [] => rfl
 | m :: ls => by
   have ih := hasP_meet l ls
   unfold hasP at ih ⊢
   rw [show endsL (m :: ls) = (m.a, m.p) :: (m.b, m.q) :: endsL ls from rfl, List.any_cons, List.any_cons, List.any_cons, List.any_cons, List.any_cons, <- ih]
   unfold meetB
   rw [beqI l.a m.a, beqI l.p m.p, beqI l.b m.a, beqI l.q m.p, beqI l.a m.b, beqI l.p m.q, beqI l.b m.b, beqI l.q m.q]
   generalize ((m.a == l.a) && (m.p == l.p)) = x1
   generalize ((m.a == l.b) && (m.p == l.q)) = x2
   generalize ((m.b == l.a) && (m.q == l.p)) = x3
   generalize ((m.b == l.b) && (m.q == l.q)) = x4
   generalize (endsL ls).any (fun x => ((l.a, l.p) : Int × Int).1 == x.1 && ((l.a, l.p) : Int × Int).2 == x.2) = x5
   generalize (endsL ls).any (fun x => ((l.b, l.q) : Int × Int).1 == x.1 && ((l.b, l.q) : Int × Int).2 == x.2) = x6
   cases x1 <;> cases x2 <;> cases x3 <;> cases x4 <;> cases x5 <;> cases x6 <;> rfl
theorem ownsRow_bel {W W' : World} {B e size n : Nat} {v : Value} {xs : List Value} (h : W.ownsRow B e size v n xs) (hb : Below W.heap.size W W') : W'.ownsRow B e size v n xs := by
 obtain ⟨hl, hc⟩ := h
 refine ⟨hl, ?_⟩
 rcases hc with h0 | ⟨g, cap, cur, rfl, hbg, hg, rest⟩
 ·exact .inl h0
 ·exact .inr ⟨g, cap, cur, rfl, hbg, (hb.block g (Array.getElem?_eq_some_iff.1 hg).1).trans hg, rest⟩
theorem pl_yes {ds : List Dv} {d p : Int} : isPl ds d p = ((decide (0 <= d) && decide (d <= (ds.length : Int) - 1)) && (decide (0 <= p) && decide (p <= portsV (kindAt ds d) - 1))) := by
 unfold isPl
 rw [show decide (d <= (ds.length : Int) - 1) = decide (d < (ds.length : Int)) by rw [decide_eq_decide]; omega, show decide (p <= portsV (kindAt ds d) - 1) = decide (p < portsV (kindAt ds d)) by rw [decide_eq_decide]; omega, Bool.and_assoc (decide (0 <= d) && decide (d < (ds.length : Int)))]
theorem nameOk_eq (s : ByteArray) : nameOk s = ((decide ((1 : Int) <= (s.size : Int)) && decide ((s.size : Int) <= 8)) && (s.data.toList.drop 0).all nameB) := by
 unfold nameOk
 rw [show decide ((1 : Int) <= (s.size : Int)) = decide (1 <= s.size) by rw [decide_eq_decide]; omega, show decide ((s.size : Int) <= 8) = decide (s.size <= 8) by rw [decide_eq_decide]; omega]
 rfl
def EndS (w W : World) (n1 : Nat) (v1 v2 : Value) (a b c d : Value) (u : Value) (es : List (Int × Int)) : Prop :=
 Below w.heap.size w W ∧ w.heap.size + 1 <= W.heap.size ∧ Box2 W w.heap.size v1 v2 ∧ Lk4 W n1 a b c d ∧ W.ownsRow (w.heap.size + 1) 97 2 u es.length (cellsP es)
theorem EndS.keep {w W W' : World} {n1 : Nat} {v1 v2 a b c d u : Value} {es : List (Int × Int)} (h : EndS w W n1 v1 v2 a b c d u es) (hb : Below W.heap.size W W') : EndS w W' n1 v1 v2 a b c d u es :=
 ⟨chnN hb h.1, Nat.le_trans h.2.1 hb.size, h.2.2.1.below hb h.2.2.1.1, h.2.2.2.1.below hb h.2.2.2.1.1, ownsRow_bel h.2.2.2.2 hb⟩
theorem EndS.drewN {w W : World} {n1 : Nat} {v1 v2 a b c d u : Value} {es : List (Int × Int)} (h : EndS w W n1 v1 v2 a b c d u es) (n : Nat) : EndS w (W.drewN n) n1 v1 v2 a b c d u es := h.keep (belowNN (Below.refl _ _) n)
theorem EndS.drew {w W : World} {n1 : Nat} {v1 v2 a b c d u : Value} {es : List (Int × Int)} (h : EndS w W n1 v1 v2 a b c d u es) : EndS w W.drew n1 v1 v2 a b c d u es := h.keep (Below.refl _ _).drew
theorem EndS.cells {w W : World} {n1 : Nat} {v1 v2 a b c d u : Value} {es : List (Int × Int)} (h : EndS w W n1 v1 v2 a b c d u es) : W.cell? ⟨n1, 0, none⟩ = some a ∧ W.cell? ⟨n1, 1, none⟩ = some b ∧ W.cell? ⟨n1, 2, none⟩ = some c ∧ W.cell? ⟨n1, 3, none⟩ = some d := h.2.2.2.1.2
theorem EndS.below {w W : World} {n1 : Nat} {v1 v2 a b c d u : Value} {es : List (Int × Int)} (h : EndS w W n1 v1 v2 a b c d u es) : Below w.heap.size w W := h.1
theorem rnet_row (A B : Option Addr) (cap cap' : Nat) (ds : List Dv) (ls : List Lk) (res : Int) (w : World) (hD : Hid (Devs w.heap.size w (.slice A ds.length cap) ds)) (hL : Hid (Links w.heap.size w (.slice B ls.length cap') ls)) (h10 : ds.length <= 10) (h15 : ls.length <= 15) (HR : Hid (res = if devsFrom ds 0 = 0 then linksFrom ds ls 0 else devsFrom ds 0)) :
  Calls Tryz.prog 7 #[.agg #[.slice A ds.length cap, .slice B ls.length cap']] w fun e w' => e = .returned (.int .i64 res) ∧ Below w.heap.size w w' := by
 obtain ⟨_, hc, hm⟩ := hD.out.len
 obtain ⟨_, hc', hm'⟩ := hL.out.len
 unfold maxLen at hm hm'
 have t10 : decide ((10 : Int) < (ds.length : Int)) = false := by simp; omega
 have t15 : decide ((15 : Int) < (ls.length : Int)) = false := by simp; omega
 have D0 := Below.alN (Below.refl w.heap.size w) (.cells #[.slice A ds.length cap, .slice B ls.length cap'] 25)
 have B0 := box2_new w (.slice A ds.length cap) (.slice B ls.length cap') 25
 go_enter Tryz.func7, Tryz.ntmps7
 go_wp2_with fail
 go_loopw [3] (fun i wr => ∃ k : Nat, i = .int .i64 (k : Int) ∧ k <= ds.length ∧ Below w.heap.size w wr ∧ Box2 wr w.heap.size (.slice A ds.length cap) (.slice B ls.length cap') ∧ Hid (devsFrom ds 0 = devsFrom ds k)) (fun i _ => ds.length - (intOf i).toNat)
 case atStart => exact ⟨0, rfl, by omega, D0, B0, rfl⟩
 case round =>
  clear D0 B0
  obtain ⟨k, rfl, hk, D1, B1, hl⟩ := hrel
  obtain ⟨_, b0, b1, _⟩ := id B1
  by_cases hlt : k < ds.length
  ·obtain ⟨d, hxk⟩ : ∃ d, ds[k]? = some d := ⟨_, List.getElem?_eq_getElem hlt⟩
   obtain ⟨b, o, vb, vr, vt, rfl, hb, z1, z2, z3, c0, c1, c2, c3, c4, c5, c6⟩ := (hD.out.below D1).at hxk
   have y1 := z1
   have y2 := z2
   have y3 := z3
   obtain ⟨Ab, cb, rfl, _, _, _, _⟩ := z1
   obtain ⟨Ar, cr, rfl, _, _, _, _⟩ := z2
   obtain ⟨At, ct, rfl, _, _, _, _⟩ := z3
   have HF : Hid (devsFrom ds k = if devWrong ds k d = 0 then devsFrom ds (k + 1) else devWrong ds k d) := devsFrom_at hxk
   have HW : Hid (devWrong ds k d = if nameOk d.name then (if (ds.take k).any (fun x => x.name.toList == d.name.toList) then 5 else devC d) else 3) := rfl
   have HNM : Hid (∀ j x, ds[j]? = some x -> ∀ W, Below w.heap.size w W -> W.cell? ⟨b, o + j * 7, none⟩ = some (.string x.name)) := fun j x hx W h => by
    obtain ⟨b', o', _, _, _, e, _, _, _, _, q, _⟩ := (hD.out.below h).at hx
    cases e
    exact q
   have CD : Hid (∀ W, Below w.heap.size w W -> Calls Tryz.prog 33 #[devA d.name d.kind d.addr d.pool (.slice Ab d.backs.length cb) (.slice Ar d.rules.length cr) (.slice At d.routes.length ct)] W fun e w' => e = .returned (.int .i64 (devC d)) ∧ Below W.heap.size W w') := fun W h => by
    have hd := hD.out.below h
    obtain ⟨b', o', vb', vr', vt', e1, _, s1, s2, s3, q0, q1, q2, q3, q4, q5, q6⟩ := hd.at hxk
    cases e1
    have g4 := (D1.cell (p := ⟨b, o + k * 7 + 4, none⟩) hb).symm.trans c4
    have g5 := (D1.cell (p := ⟨b, o + k * 7 + 5, none⟩) hb).symm.trans c5
    have g6 := (D1.cell (p := ⟨b, o + k * 7 + 6, none⟩) hb).symm.trans c6
    have f4 := (h.cell (p := ⟨b, o + k * 7 + 4, none⟩) hb).symm.trans q4
    have f5 := (h.cell (p := ⟨b, o + k * 7 + 5, none⟩) hb).symm.trans q5
    have f6 := (h.cell (p := ⟨b, o + k * 7 + 6, none⟩) hb).symm.trans q6
    obtain rfl := Option.some.inj (g4.symm.trans f4)
    obtain rfl := Option.some.inj (g5.symm.trans f5)
    obtain rfl := Option.some.inj (g6.symm.trans f6)
    have t1 := SlAt.mono s1 h.size (fun _ _ _ h => h)
    have t2 := SlAt.mono s2 h.size (fun _ _ _ h => h)
    have t3 := SlAt.mono s3 h.size (fun _ _ _ h => h)
    exact rdevice_any d _ _ _ (checkV (d.routes.map rtOf)) W t1 t2 t3 (fun W' h' => routes_any W' (routes_of (SlAt.mono (SlAt.below t3 h' (fun _ _ _ h => h)) h'.size (fun _ _ _ h => h))))
   have IN : Hid (∀ w, Calls Tryz.prog 8 #[.int .i64 (d.name.size : Int), .int .i64 1, .int .i64 8] w fun e w' => e = .returned (.bool (decide (1 <= (d.name.size : Int)) && decide ((d.name.size : Int) <= 8))) ∧ w' = w) := fun w => inN _ 1 8 w
   have HS : Hid (((decide ((1 : Int) <= (d.name.size : Int)) && decide ((d.name.size : Int) <= 8)) && (d.name.data.toList.drop 0).all nameB) = nameOk d.name) := (nameOk_eq d.name).symm
   have hsz := d.hs
   unfold maxLen at hsz
   have k1 : (0 : Int) <= (k : Int) := by omega
   have k2 : (k : Int) < (ds.length : Int) := by omega
   have lw := D1.size
   have HX : Hid (ds[k]? = some d) := hxk
   clear hxk y1 y2 y3
   generalize devC d = dc at *
   generalize hnm : d.name = nm at *
   have Hnm : Hid (d.name = nm) := hnm
   clear hnm
   generalize (decide (1 <= (nm.size : Int)) && decide ((nm.size : Int) <= 8)) = sx at *
   generalize d.backs.length = nb at *
   generalize d.rules.length = nr at *
   generalize d.routes.length = nt at *
   generalize d.kind = kd at *
   generalize d.addr = ad at *
   generalize d.pool = pl at *
   have D2 := Below.alN D1 (.cells #[.string nm, .int .i64 kd, .int .i64 ad, .int .u8 (pl : Int), .slice Ab nb cb, .slice Ar nr cr, .slice At nt ct] 56)
   have B2 := B1.alloc (.cells #[.string nm, .int .i64 kd, .int .i64 ad, .int .u8 (pl : Int), .slice Ab nb cb, .slice Ar nr cr, .slice At nt ct] 56)
   have V2 := seven_new wr (.string nm) (.int .i64 kd) (.int .i64 ad) (.int .u8 (pl : Int)) (.slice Ab nb cb) (.slice Ar nr cr) (.slice At nt ct) 56
   obtain ⟨_, v0, v1, v2, v3, v4, v5, v6⟩ := id V2
   generalize hno : nameOk nm = nok at *
   have Hno : Hid (nameOk nm = nok) := hno
   clear hno
   go_wp2_with fail
   refine (IN.out _).mono ?_
   rintro e w2 ⟨rfl, rfl⟩
   clear c0 c1 c2 c3 c4 c5 c6 IN
   go_wp2_with fail
   go_loop [5, 6] (fun x j => ∃ (y : Bool) (i : Nat), x = .bool y ∧ j = .int .i64 (i : Int) ∧ i <= nm.size ∧ Hid ((y && (nm.data.toList.drop i).all nameB) = nok)) (fun _ j => nm.size - (intOf j).toNat)
   case atStart => exact ⟨sx, 0, rfl, rfl, by omega, HS⟩
   case round =>
    clear HS
    obtain ⟨y, i, rfl, rfl, hi, hd⟩ := hrel
    by_cases hil : i < nm.size
    ·have HA : Hid ((nm.data.toList.drop i).all nameB = (nameB nm[i] && (nm.data.toList.drop (i + 1)).all nameB)) := all_dropN nm i hil
     have HN : Hid (nameB nm[i] = ((decide (97 <= (nm[i].toNat : Int)) && decide ((nm[i].toNat : Int) <= 122)) || (decide (48 <= (nm[i].toNat : Int)) && decide ((nm[i].toNat : Int) <= 57)))) := rfl
     cases y
     ·have HV : Hid ((false && (nm.data.toList.drop (i + 1)).all nameB) = nok) := hd
      clear hd HA HN
      go_wp2_with fail
      go_round
      case rel => exact ⟨false, i + 1, rfl, congrArg (Value.int .i64) (by omega), by omega, HV⟩
      case measure => simp [intOf]; omega
     ·cases a1 : decide (97 <= (nm[i].toNat : Int)) <;> cases a2 : decide ((nm[i].toNat : Int) <= 122) <;> cases a3 : decide (48 <= (nm[i].toNat : Int)) <;> cases a4 : decide ((nm[i].toNat : Int) <= 57)
      all_goals
       rw [a1, a2, a3, a4] at HN
       first
        | (have HV : Hid ((true && (nm.data.toList.drop (i + 1)).all nameB) = nok) := by
            show _ = _
            rw [<- hd.out, HA.out, HN.out]
            rfl
           clear HN HA hd
           go_wp2_with fail
           go_round
           case rel => exact ⟨true, i + 1, rfl, congrArg (Value.int .i64) (by omega), by omega, HV⟩
           case measure => simp [intOf]; omega)
        | (have HV : Hid ((false && (nm.data.toList.drop (i + 1)).all nameB) = nok) := by
            show _ = _
            rw [<- hd.out, HA.out, HN.out]
            rfl
           clear HN HA hd
           go_wp2_with fail
           go_round
           case rel => exact ⟨false, i + 1, rfl, congrArg (Value.int .i64) (by omega), by omega, HV⟩
           case measure => simp [intOf]; omega)
    ·have HY : Hid (y = nok) := by
      show _ = _
      rw [<- hd.out, List.drop_eq_nil_of_le (by rw [<- Lib.size_eq]; omega)]
      simp
     clear hd
     cases y
     ·have HV : Hid (res = 3) := by
       have e : devWrong ds k d = 3 := by rw [HW.out, <- HY.out]; rfl
       show _ = _
       rw [HR.out, hl.out, HF.out, e]
       rfl
      go_wp2_with fail
      go_ret
      exact ⟨by rw [HV.out]; rfl, D2⟩
     ·have HW2 : Hid (devWrong ds k d = if (ds.take k).any (fun x => x.name.toList == nm.toList) then 5 else dc) := by
       show _ = _
       rw [HW.out, <- HY.out]
       rfl
      clear HW HY
      go_wp2_with fail
      go_loopw [8] (fun j wr' => ∃ i : Nat, j = .int .i64 (i : Int) ∧ i <= k ∧ Below w.heap.size w wr' ∧ Box2 wr' w.heap.size (.slice (some ⟨b, o, none⟩) ds.length cap) (.slice B ls.length cap') ∧ Seven wr' wr.heap.size (.string nm) (.int .i64 kd) (.int .i64 ad) (.int .u8 (pl : Int)) (.slice Ab nb cb) (.slice Ar nr cr) (.slice At nt ct) ∧ Hid ((ds.take i).any (fun x => x.name.toList == nm.toList) = false)) (fun j _ => k - (intOf j).toNat)
      case atStart => exact ⟨0, rfl, by omega, D2, B2, V2, rfl⟩
      case round =>
       clear D2 B2 V2 v0 v1 v2 v3 v4 v5 v6 b0 b1 B1
       obtain ⟨i, rfl, hik, D3, B3, V3, hno⟩ := hrel
       obtain ⟨_, b0, b1, _⟩ := id B3
       obtain ⟨_, v0, v1, v2, v3, v4, v5, v6⟩ := id V3
       by_cases hij : i < k
       ·obtain ⟨x, hx⟩ : ∃ x, ds[i]? = some x := ⟨_, List.getElem?_eq_getElem (by omega)⟩
        have cn := HNM.out i x hx _ D3
        have HT : Hid ((ds.take (i + 1)).any (fun x => x.name.toList == nm.toList) = ((ds.take i).any (fun x => x.name.toList == nm.toList) || (x.name.toList == nm.toList))) := by
         obtain ⟨hk', e⟩ := List.getElem?_eq_some_iff.1 hx
         show _ = _
         rw [List.take_succ_eq_append_getElem hk', e]
         simp
        have HM : Hid ((x.name.toList == nm.toList) = true -> (ds.take k).any (fun x => x.name.toList == nm.toList) = true) := fun h => List.any_eq_true.2 ⟨x, List.mem_of_getElem? (by rw [List.getElem?_take, if_pos hij]; exact hx), h⟩
        have j1 : (0 : Int) <= (i : Int) := by omega
        have j2 : (i : Int) < (ds.length : Int) := by omega
        have j3 : decide ((i : Int) < (k : Int)) = true := by simp; omega
        clear hx
        cases hv : (x.name.toList == nm.toList)
        ·have HV : Hid ((ds.take (i + 1)).any (fun x => x.name.toList == nm.toList) = false) := by
          show _ = _
          rw [HT.out, hno.out, hv]
          rfl
         clear HT HM hno
         go_wp2_with fail
         go_quiet (fail)
         go_wp2_with fail
         go_roundw
         case rel => exact ⟨i + 1, by go_num, by omega, belowNN D3 _, B3, V3, HV⟩
         case measure => simp [intOf]; omega
        ·have HV : Hid (res = 5) := by
          have e : devWrong ds k d = 5 := by rw [HW2.out, HM.out hv]; rfl
          show _ = _
          rw [HR.out, hl.out, HF.out, e]
          rfl
         clear HT HM hno
         go_wp2_with fail
         go_quiet (fail)
         go_wp2_with fail
         go_ret
         exact ⟨by rw [HV.out]; rfl, belowNN D3 _⟩
       ·have j3 : decide ((i : Int) < (k : Int)) = false := by simp; omega
        have HW3 : Hid (devWrong ds k d = dc) := by
         have e := hno.out
         rw [show i = k by omega] at e
         show _ = _
         rw [HW2.out, e]
         rfl
        clear HW2 hno
        go_wp2_with fail
        refine (CD.out _ D3).mono ?_
        rintro e w5 ⟨rfl, hb5⟩
        have D5 := chnN hb5 D3
        have B5 := B3.below hb5 B3.1
        clear hb5 D3 B3 V3 v0 v1 v2 v3 v4 v5 v6 b0 b1 CD
        cases h0 : (dc == 0)
        ·have HV : Hid (res = dc) := by
          have hne : ¬ dc = 0 := by simpa using h0
          show _ = _
          rw [HR.out, hl.out, HF.out, HW3.out, if_neg hne, if_neg hne]
         go_wp2_with fail
         go_ret
         exact ⟨by rw [HV.out]; rfl, D5⟩
        ·have HV : Hid (devsFrom ds 0 = devsFrom ds (k + 1)) := by
          have he : dc = 0 := by simpa using h0
          show _ = _
          rw [hl.out, HF.out, HW3.out, if_pos he]
         have h00 : dc = 0 := by simpa using h0
         subst h00
         clear h0
         go_wp2_with fail
         go_roundw
         case rel => first | exact ⟨k + 1, by go_num, by omega, D5, B5, HV⟩ | ((repeat apply Exists.intro); exact ⟨⟨k + 1, by go_num, by omega, D5, B5, HV⟩, rfl⟩)
         case measure => simp [intOf]; omega
  ·have HZ : Hid (res = linksFrom ds ls 0) := by
    show _ = _
    rw [HR.out, hl.out, devsFrom_end (by omega), if_pos rfl]
   clear hl HR
   go_wp2_with fail
   go_loopw [10, 11] (fun ve i wr => ∃ k : Nat, i = .int .i64 (k : Int) ∧ k <= ls.length ∧ w.heap.size + 1 <= wr.heap.size ∧ Below w.heap.size w wr ∧ Box2 wr w.heap.size (.slice A ds.length cap) (.slice B ls.length cap') ∧ wr.ownsRow (w.heap.size + 1) 97 2 ve (endsL (ls.take k)).length (cellsP (endsL (ls.take k))) ∧ Hid (res = linksFrom ds ls k)) (fun _ i _ => ls.length - (intOf i).toNat)
   case atStart => exact ⟨0, rfl, by omega, B1.1, D1, B1, ⟨rfl, .inl ⟨rfl, rfl⟩⟩, HZ⟩
   case round =>
    clear D1 B1 HZ b0 b1
    obtain ⟨j, rfl, hj, hsz, D1, B1, O1, hl⟩ := hrel
    obtain ⟨_, b0, b1, _⟩ := id B1
    by_cases hjl : j < ls.length
    ·obtain ⟨l, hxk⟩ : ∃ l, ls[j]? = some l := ⟨_, List.getElem?_eq_getElem hjl⟩
     obtain ⟨b, o, rfl, hb, c0, c1, c2, c3⟩ := (hL.out.below D1).at hxk
     have HF : Hid (linksFrom ds ls j = if linkWrong ds ls j l = 0 then linksFrom ds ls (j + 1) else linkWrong ds ls j l) := linksFrom_at hxk
     have HW : Hid (linkWrong ds ls j l = if isPl ds l.a l.p && isPl ds l.b l.q then (if selfB l || (hasP (endsL (ls.take j)) (l.a, l.p) || hasP (endsL (ls.take j)) (l.b, l.q)) then 5 else 0) else 1) := by
      show _ = _
      rw [hasP_meet]
      rfl
     have HE : Hid (endsL (ls.take (j + 1)) = endsL (ls.take j) ++ [(l.a, l.p), (l.b, l.q)]) := endsL_take hxk
     have LE : Hid ((endsL (ls.take j)).length <= 1000) := by show _ <= _; rw [endsL_len, List.length_take]; omega
     have HSELF : Hid (selfB l = ((l.a == l.b) && (l.p == l.q))) := rfl
     have k1 : (0 : Int) <= (j : Int) := by omega
     have k2 : (j : Int) < (ls.length : Int) := by omega
     have lw := D1.size
     clear hxk
     generalize endsL (ls.take j) = es at *
     generalize selfB l = sf at *
     generalize hla : l.a = la at *
     generalize hlp : l.p = lp at *
     generalize hlb : l.b = lb at *
     generalize hlq : l.q = lq at *
     clear hla hlp hlb hlq
     have D2 := Below.alN D1 (.cells #[.int .i64 la, .int .i64 lp, .int .i64 lb, .int .i64 lq] 96)
     have B2 := B1.alloc (.cells #[.int .i64 la, .int .i64 lp, .int .i64 lb, .int .i64 lq] 96)
     have D3 := Below.alN D2 (.cells #[.int .i64 la, .int .i64 lp, .int .i64 lb, .int .i64 lq] 97)
     have B3 := B2.alloc (.cells #[.int .i64 la, .int .i64 lp, .int .i64 lb, .int .i64 lq] 97)
     have L3 := lk4_new (wr.alloc (.cells #[.int .i64 la, .int .i64 lp, .int .i64 lb, .int .i64 lq] 96)) (.int .i64 la) (.int .i64 lp) (.int .i64 lb) (.int .i64 lq) 97
     rw [World.size_alloc] at L3
     have O3 := ownsRow_bel (ownsRow_bel O1 ((Below.refl _ _).alloc (Nat.le_refl _) (.cells #[.int .i64 la, .int .i64 lp, .int .i64 lb, .int .i64 lq] 96))) ((Below.refl _ _).alloc (Nat.le_refl _) (.cells #[.int .i64 la, .int .i64 lp, .int .i64 lb, .int .i64 lq] 97))
     have E3 : EndS w ((wr.alloc (.cells #[.int .i64 la, .int .i64 lp, .int .i64 lb, .int .i64 lq] 96)).alloc (.cells #[.int .i64 la, .int .i64 lp, .int .i64 lb, .int .i64 lq] 97)) (wr.heap.size + 1) (.slice A ds.length cap) (.slice (some ⟨b, o, none⟩) ls.length cap') (.int .i64 la) (.int .i64 lp) (.int .i64 lb) (.int .i64 lq) u10 es := ⟨D3, by simp; omega, B3, L3, O3⟩
     go_wp2_with fail
     clear c0 c1 c2 c3 D1 D2 B1 B2 O1 b0 b1 D3 B3 L3 O3
     generalize wr.heap.size + 1 = n1 at *
     go_loopw [14] (fun x wr' => ∃ i : Nat, x = .int .i64 (i : Int) ∧ i <= 2 ∧ EndS w wr' n1 (.slice A ds.length cap) (.slice (some ⟨b, o, none⟩) ls.length cap') (.int .i64 la) (.int .i64 lp) (.int .i64 lb) (.int .i64 lq) u10 es ∧ Hid ((0 < i -> isPl ds la lp = true) ∧ (1 < i -> isPl ds lb lq = true))) (fun x _ => 2 - (intOf x).toNat)
     case atStart => exact ⟨0, rfl, by omega, E3, ⟨fun h => by omega, fun h => by omega⟩⟩
     case round =>
      clear E3
      obtain ⟨i, rfl, hi2, E3, HP⟩ := hrel
      obtain ⟨_, b0, b1, _⟩ := id E3.2.2.1
      obtain ⟨m0, m1, m2, m3⟩ := E3.cells
      by_cases hi : i < 2
      ·obtain ⟨d, p, cd, cp, HQ⟩ : ∃ d p : Int, wr.cell? ⟨n1, i * 2, none⟩ = some (.int .i64 d) ∧ wr.cell? ⟨n1, i * 2 + 1, none⟩ = some (.int .i64 p) ∧ Hid ((i = 0 ∧ d = la ∧ p = lp) ∨ (i = 1 ∧ d = lb ∧ p = lq)) := by
        by_cases h : i = 0
        ·subst h
         exact ⟨la, lp, m0, m1, Or.inl ⟨rfl, rfl, rfl⟩⟩
        ·obtain rfl : i = 1 := by omega
         exact ⟨lb, lq, m2, m3, Or.inr ⟨rfl, rfl, rfl⟩⟩
       have HBAD : Hid (isPl ds d p = false -> res = 1) := fun h => by
        have e : linkWrong ds ls j l = 1 := by
         rw [HW.out]
         rcases HQ.out with ⟨_, rfl, rfl⟩ | ⟨_, rfl, rfl⟩
         ·rw [h]; rfl
         ·rw [h, Bool.and_false]; rfl
        rw [hl.out, HF.out, e]
        rfl
       have HGOOD : Hid (isPl ds d p = true -> ((0 < i + 1 -> isPl ds la lp = true) ∧ (1 < i + 1 -> isPl ds lb lq = true))) := fun h => by
        rcases HQ.out with ⟨rfl, rfl, rfl⟩ | ⟨rfl, rfl, rfl⟩
        ·exact ⟨fun _ => h, fun h1 => by omega⟩
        ·exact ⟨fun _ => HP.out.1 (by omega), fun _ => h⟩
       have HPL : Hid (isPl ds d p = ((decide (0 <= d) && decide (d <= (ds.length : Int) - 1)) && (decide (0 <= p) && decide (p <= portsV (kindAt ds d) - 1)))) := pl_yes
       clear HQ HP m0 m1 m2 m3
       have i1 : (0 : Int) <= (i : Int) := by omega
       have i2 : (i : Int) < 2 := by omega
       have wl : IntKind.i64.wrap ((ds.length : Int) - 1) = (ds.length : Int) - 1 := by rw [IntKind.wrap_i64] <;> omega
       have I0 : Hid (∀ w, Calls Tryz.prog 8 #[.int .i64 d, .int .i64 0, .int .i64 ((ds.length : Int) - 1)] w fun e w' => e = .returned (.bool (decide (0 <= d) && decide (d <= (ds.length : Int) - 1))) ∧ w' = w) := fun w => inN _ 0 _ w
       cases hx0 : (decide (0 <= d) && decide (d <= (ds.length : Int) - 1))
       ·have HV : Hid (res = 1) := HBAD.out (by rw [HPL.out, hx0]; rfl)
        rw [hx0] at I0
        clear HBAD HGOOD HPL hx0
        go_wp2_with fail
        go_quiet ((go_at_call 8; exact Calls.quiet_of_same (I0.out _)))
        go_wp2_with fail
        go_ret
        exact ⟨by rw [HV.out]; rfl, (E3.drewN _).below⟩
       ·have hd : 0 <= d ∧ d <= (ds.length : Int) - 1 := by simpa using hx0
        rw [hx0] at I0 HPL
        clear hx0
        obtain ⟨i', rfl⟩ : ∃ i' : Nat, d = (i' : Int) := ⟨d.toNat, by omega⟩
        have hil : i' < ds.length := by omega
        obtain ⟨x, hx⟩ : ∃ x, ds[i']? = some x := ⟨_, List.getElem?_eq_getElem hil⟩
        obtain ⟨bd, od, _, _, _, rfl, hbd, _, _, _, _, ck, _⟩ := (hD.out.below E3.1).at hx
        have ek : kindAt ds (i' : Int) = x.kind := by
         unfold kindAt
         rw [Int.toNat_natCast, hx]
         rfl
        rw [ek] at HPL
        obtain ⟨pk, hpk, hp4⟩ := portsV_nat x.kind
        have PO : Hid (∀ w, Calls Tryz.prog 19 #[.int .i64 x.kind] w fun e w' => e = .returned (.int .i64 (portsV x.kind)) ∧ Below w.heap.size w w') := fun w => rports_any x.kind w
        rw [hpk] at PO HPL
        have wp : IntKind.i64.wrap ((pk : Int) - 1) = (pk : Int) - 1 := by rw [IntKind.wrap_i64] <;> omega
        have I1 : Hid (∀ w, Calls Tryz.prog 8 #[.int .i64 p, .int .i64 0, .int .i64 ((pk : Int) - 1)] w fun e w' => e = .returned (.bool (decide (0 <= p) && decide (p <= (pk : Int) - 1))) ∧ w' = w) := fun w => inN _ 0 _ w
        have j1 : (0 : Int) <= (i' : Int) := by omega
        have j2 : (i' : Int) < (ds.length : Int) := by omega
        clear hx hd ek hpk
        generalize (decide (0 <= p) && decide (p <= (pk : Int) - 1)) = y at *
        generalize x.kind = kd at *
        have E4 := E3.drew
        go_wp2_with fail
        go_region_held3 (fun w' => w'.cell? ⟨n1, i * 2, none⟩ = some (.int .i64 (i' : Int)) ∧ w'.cell? ⟨n1, i * 2 + 1, none⟩ = some (.int .i64 p) ∧ w'.cell? ⟨w.heap.size, 0, none⟩ = some (.slice (some ⟨bd, od, none⟩) ds.length cap) ∧ w'.cell? ⟨bd, od + i' * 7 + 1, none⟩ = some (.int .i64 kd)) (go_keep) (first | (go_at_call 19; refine (PO.out _).mono ?_; rintro e w4 ⟨rfl, hb4⟩; have E5 := E4.keep hb4; have cd5 := (hb4.cell (p := ⟨n1, i * 2, none⟩) E4.2.2.2.1.1).trans cd; have cp5 := (hb4.cell (p := ⟨n1, i * 2 + 1, none⟩) E4.2.2.2.1.1).trans cp; have ck5 := (hb4.cell (p := ⟨bd, od + i' * 7 + 1, none⟩) (Nat.lt_of_lt_of_le hbd E4.1.size)).trans ck; have b05 := (hb4.cell (p := ⟨w.heap.size, 0, none⟩) E4.2.2.1.1).trans b0) | (go_at_call_of 8 (Value.int .i64 (i' : Int)); refine (I0.out _).mono ?_; rintro e w5 ⟨rfl, rfl⟩) | (go_at_call_of 8 (Value.int .i64 p); refine (I1.out _).mono ?_; rintro e w6 ⟨rfl, rfl⟩))
        cases y
        ·have HV : Hid (res = 1) := HBAD.out (by rw [HPL.out]; rfl)
         clear HBAD HGOOD HPL
         go_wp2_with fail
         go_ret
         exact ⟨by rw [HV.out]; rfl, E5.below⟩
        ·have HV := HGOOD.out (by rw [HPL.out]; rfl)
         clear HBAD HGOOD HPL
         go_wp2_with fail
         go_roundw
         case rel => exact ⟨i + 1, by go_num, by omega, E5, HV⟩
         case measure => simp [intOf]; omega
      ·obtain ⟨hp1, hp2⟩ := HP.out
       have HW2 : Hid (linkWrong ds ls j l = if sf || (hasP es (la, lp) || hasP es (lb, lq)) then 5 else 0) := by
        show _ = _
        rw [HW.out, hp1 (by omega), hp2 (by omega)]
        rfl
       clear hp1 hp2 HP HW m0 m1 m2 m3
       obtain rfl : i = 2 := by omega
       have C1 : Hid (∀ W, EndS w W n1 (.slice A ds.length cap) (.slice (some ⟨b, o, none⟩) ls.length cap') (.int .i64 la) (.int .i64 lp) (.int .i64 lb) (.int .i64 lq) u10 es -> Calls Tryz.prog 34 #[u10, prV la lp] W fun e w' => e = .returned (.bool (hasP es (la, lp))) ∧ Below W.heap.size W w') := fun W h => pairHas_any u10 es la lp W (Prs.own h.2.2.2.2)
       have C2 : Hid (∀ W, EndS w W n1 (.slice A ds.length cap) (.slice (some ⟨b, o, none⟩) ls.length cap') (.int .i64 la) (.int .i64 lp) (.int .i64 lb) (.int .i64 lq) u10 es -> Calls Tryz.prog 34 #[u10, prV lb lq] W fun e w' => e = .returned (.bool (hasP es (lb, lq))) ∧ Below W.heap.size W w') := fun W h => pairHas_any u10 es lb lq W (Prs.own h.2.2.2.2)
       have APP : Hid (∀ W, EndS w W n1 (.slice A ds.length cap) (.slice (some ⟨b, o, none⟩) ls.length cap') (.int .i64 la) (.int .i64 lp) (.int .i64 lb) (.int .i64 lq) u10 es -> ∃ v' w', (Builtin.append_ #[94, 94] 94 #[u10, .slice (some ⟨n1, 0, none⟩) 2 2]).run Tryz.prog W = .ok v' w' ∧ w.heap.size + 1 <= w'.heap.size ∧ Below w.heap.size w w' ∧ Box2 w' w.heap.size (.slice A ds.length cap) (.slice (some ⟨b, o, none⟩) ls.length cap') ∧ w'.ownsRow (w.heap.size + 1) 97 2 v' (es ++ [(la, lp), (lb, lq)]).length (cellsP (es ++ [(la, lp), (lb, lq)]))) := fun W h => by
        obtain ⟨h1, h2, h3, h4, h5⟩ := h
        obtain ⟨_, q0, q1, q2, q3⟩ := h4
        obtain ⟨v', w', r1, r2, r3⟩ := app_pairs 94 h5 q0 q1 q2 q3 (by have := LE.out; omega) h2
        have hbl : Below (w.heap.size + 1) W w' := Below.app2 (Below.refl _ _) h5 r3 (Nat.le_refl _) h2
        exact ⟨v', w', r1, Nat.le_trans h2 hbl.size, Below.app2 h1 h5 r3 (by omega) h2, h3.below hbl (by omega), r2⟩
       have PE : ∀ w, (binOp .eql 97 (prV la lp) (prV lb lq)).run Tryz.prog w = .ok (.bool sf) w := fun w => by rw [pair_eq, <- HSELF.out]
       generalize hasP es (la, lp) = x1 at *
       generalize hasP es (lb, lq) = x2 at *
       have E4 := E3.drew
       have H5 : Hid ((sf || (x1 || x2)) = true -> res = 5) := fun h => by
        have e : linkWrong ds ls j l = 5 := by rw [HW2.out, h]; rfl
        rw [hl.out, HF.out, e]
        rfl
       have H0 : Hid ((sf || (x1 || x2)) = false -> res = linksFrom ds ls (j + 1)) := fun h => by
        have e : linkWrong ds ls j l = 0 := by rw [HW2.out, h]; rfl
        rw [hl.out, HF.out, e]
        rfl
       clear HW2 HF hl HSELF
       cases sf
       ·cases x1
        ·have H6 : Hid (x2 = true -> res = 5) := fun h => H5.out (by rw [h]; rfl)
         have H7 : Hid (x2 = false -> res = linksFrom ds ls (j + 1)) := fun h => H0.out (by rw [h]; rfl)
         clear H5 H0
         go_wp2_with fail
         refine wp_region_held_drew (S := (fun w' => w'.cell? ⟨n1, 0, none⟩ = some (.int .i64 la) ∧ w'.cell? ⟨n1, 1, none⟩ = some (.int .i64 lp) ∧ w'.cell? ⟨n1, 2, none⟩ = some (.int .i64 lb) ∧ w'.cell? ⟨n1, 3, none⟩ = some (.int .i64 lq))) (by kernel_rfl) (EndS.cells (n1 := n1) (by assumption)) (fun hHeld => ?_)
         refine tk 0 ?_; try simp only [ly]
         refine tk 1 ?_; try simp only [ly]
         refine tk 2 ?_; try simp only [ly]
         refine tk 3 ?_; try simp only [ly]
         refine tk 4 ?_; try simp only [ly]
         refine tk 5 ?_; try simp only [ly]
         refine tk 6 ?_; try simp only [ly]
         refine tk 7 ?_; try simp only [ly]
         refine tk 8 ?_; try simp only [ly]
         refine tk 9 ?_; try simp only [ly]
         refine tk 10 ?_; try simp only [ly]
         refine tk 11 ?_; try simp only [ly]
         refine rd 12 (fun K hK => ?_)
         go_simp
         refine (C1.out _ (by assumption)).mono ?_; rintro e wz ⟨rfl, hbz⟩; have Ez := EndS.keep (n1 := n1) (by assumption) hbz; clear hbz
         try go_wp2_with fail
         clear hHeld
         refine hK.out _ _ (EndS.cells (n1 := n1) (by assumption)) (fun hHeld => ?_)
         clear hK K
         try simp only [ly]
         refine tk 13 ?_; try simp only [ly]
         refine tk 14 ?_; try simp only [ly]
         refine tk 15 ?_; try simp only [ly]
         refine tk 16 ?_; try simp only [ly]
         refine tk 17 ?_; try simp only [ly]
         refine tk 18 ?_; try simp only [ly]
         refine rd 19 (fun K hK => ?_)
         go_simp
         refine (C2.out _ (by assumption)).mono ?_; rintro e wz ⟨rfl, hbz⟩; have Ez := EndS.keep (n1 := n1) (by assumption) hbz; clear hbz
         try go_wp2_with fail
         clear hHeld
         refine hK.out _ _ (EndS.cells (n1 := n1) (by assumption)) (fun hHeld => ?_)
         clear hK K
         try simp only [ly]
         refine tk 20 ?_; try simp only [ly]
         refine wpAnyH_done (by kernel_rfl) ?_ _
         cases x2
         ·have HV : Hid (res = linksFrom ds ls (j + 1)) := H7.out rfl
          obtain ⟨v5, w5, r5, s5, D5, B5, O5⟩ := APP.out _ (by assumption)
          rw [<- HE.out] at O5
          go_wp2_with (at_builtin; refine append_run2 rfl _ _ 94 rfl rfl rfl r5 ?_)
          go_roundw
          case rel => first | exact ⟨j + 1, by go_num, by omega, s5, D5, B5, O5, HV⟩ | ((repeat apply Exists.intro); exact ⟨⟨j + 1, by go_num, by omega, s5, D5, B5, O5, HV⟩, rfl⟩)
          case measure => simp [intOf]; omega
         ·have HV : Hid (res = 5) := H6.out rfl
          go_wp2_with fail
          go_ret
          exact ⟨by rw [HV.out]; rfl, EndS.below (by assumption)⟩
        ·have HV : Hid (res = 5) := H5.out rfl
         clear H5 H0
         go_wp2_with fail
         refine wp_region_held_drew (S := (fun w' => w'.cell? ⟨n1, 0, none⟩ = some (.int .i64 la) ∧ w'.cell? ⟨n1, 1, none⟩ = some (.int .i64 lp) ∧ w'.cell? ⟨n1, 2, none⟩ = some (.int .i64 lb) ∧ w'.cell? ⟨n1, 3, none⟩ = some (.int .i64 lq))) (by kernel_rfl) (EndS.cells (n1 := n1) (by assumption)) (fun hHeld => ?_)
         refine tk 0 ?_; try simp only [ly]
         refine tk 1 ?_; try simp only [ly]
         refine tk 2 ?_; try simp only [ly]
         refine tk 3 ?_; try simp only [ly]
         refine tk 4 ?_; try simp only [ly]
         refine tk 5 ?_; try simp only [ly]
         refine tk 6 ?_; try simp only [ly]
         refine tk 7 ?_; try simp only [ly]
         refine tk 8 ?_; try simp only [ly]
         refine tk 9 ?_; try simp only [ly]
         refine tk 10 ?_; try simp only [ly]
         refine tk 11 ?_; try simp only [ly]
         refine rd 12 (fun K hK => ?_)
         go_simp
         refine (C1.out _ (by assumption)).mono ?_; rintro e wz ⟨rfl, hbz⟩; have Ez := EndS.keep (n1 := n1) (by assumption) hbz; clear hbz
         try go_wp2_with fail
         clear hHeld
         refine hK.out _ _ (EndS.cells (n1 := n1) (by assumption)) (fun hHeld => ?_)
         clear hK K
         try simp only [ly]
         refine tk 13 ?_; try simp only [ly]
         refine tk 14 ?_; try simp only [ly]
         refine tk0 15 ?_; try simp only [ly]
         refine tk0 16 ?_; try simp only [ly]
         refine tk0 17 ?_; try simp only [ly]
         refine tk0 18 ?_; try simp only [ly]
         refine tk0 19 ?_; try simp only [ly]
         refine tk 20 ?_; try simp only [ly]
         refine wpAnyH_done (by kernel_rfl) ?_ _
         go_wp2_with fail
         go_ret
         exact ⟨by rw [HV.out]; rfl, EndS.below (by assumption)⟩
       ·have HV : Hid (res = 5) := H5.out rfl
        clear H5 H0
        go_wp2_with fail
        refine wp_region_held_drew (S := (fun w' => w'.cell? ⟨n1, 0, none⟩ = some (.int .i64 la) ∧ w'.cell? ⟨n1, 1, none⟩ = some (.int .i64 lp) ∧ w'.cell? ⟨n1, 2, none⟩ = some (.int .i64 lb) ∧ w'.cell? ⟨n1, 3, none⟩ = some (.int .i64 lq))) (by kernel_rfl) (EndS.cells (n1 := n1) (by assumption)) (fun hHeld => ?_)
        refine tk 0 ?_; try simp only [ly]
        refine tk 1 ?_; try simp only [ly]
        refine tk 2 ?_; try simp only [ly]
        refine tk 3 ?_; try simp only [ly]
        refine tk 4 ?_; try simp only [ly]
        refine tk 5 ?_; try simp only [ly]
        refine tk 6 ?_; try simp only [ly]
        refine tk 7 ?_; try simp only [ly]
        refine tk0 8 ?_; try simp only [ly]
        refine tk0 9 ?_; try simp only [ly]
        refine tk0 10 ?_; try simp only [ly]
        refine tk0 11 ?_; try simp only [ly]
        refine tk0 12 ?_; try simp only [ly]
        refine tk 13 ?_; try simp only [ly]
        refine tk 14 ?_; try simp only [ly]
        refine tk0 15 ?_; try simp only [ly]
        refine tk0 16 ?_; try simp only [ly]
        refine tk0 17 ?_; try simp only [ly]
        refine tk0 18 ?_; try simp only [ly]
        refine tk0 19 ?_; try simp only [ly]
        refine tk 20 ?_; try simp only [ly]
        refine wpAnyH_done (by kernel_rfl) ?_ _
        go_wp2_with fail
        go_ret
        exact ⟨by rw [HV.out]; rfl, EndS.below (by assumption)⟩
    ·have HV : Hid (res = 0) := by
      show _ = _
      rw [hl.out, linksFrom_end (by omega)]
     go_wp2_with fail
     go_ret
     exact ⟨by rw [HV.out]; rfl, D1⟩
theorem rnet_any (vd vl : Value) (ds : List Dv) (ls : List Lk) (w : World) (hD : Devs w.heap.size w vd ds) (hL : Links w.heap.size w vl ls) :
  Calls Tryz.prog 7 #[.agg #[vd, vl]] w fun e w' => e = .returned (.int .i64 (netV ds ls)) ∧ Below w.heap.size w w' := by
 have hD0 := hD
 have hL0 := hL
 obtain ⟨A, cap, rfl, _, _, _, _⟩ := hD
 obtain ⟨B, cap', rfl, _, _, _, _⟩ := hL
 unfold netV
 by_cases h : 10 < ds.length ∨ 15 < ls.length
 ·rw [if_pos h]
  have D0 := Below.alN (Below.refl w.heap.size w) (.cells #[.slice A ds.length cap, .slice B ls.length cap'] 25)
  clear hD0 hL0
  by_cases h10 : 10 < ds.length
  ·have t10 : decide ((10 : Int) < (ds.length : Int)) = true := by simp; omega
   clear h
   go_enter Tryz.func7, Tryz.ntmps7
   go_wp2_with fail
   go_ret
   exact ⟨rfl, D0⟩
  ·have t10 : decide ((10 : Int) < (ds.length : Int)) = false := by simp; omega
   have t15 : decide ((15 : Int) < (ls.length : Int)) = true := by simp; omega
   clear h
   go_enter Tryz.func7, Tryz.ntmps7
   go_wp2_with fail
   go_ret
   exact ⟨rfl, D0⟩
 ·rw [if_neg h]
  exact rnet_row A B cap cap' ds ls _ w hD0 hL0 (by omega) (by omega) rfl
theorem plain_any (A B : Option Addr) (cap cap' : Nat) (ds : List Dv) (ls : List Lk) (w : World) (hD : Hid (Devs w.heap.size w (.slice A ds.length cap) ds)) (hL : Hid (Links w.heap.size w (.slice B ls.length cap') ls)) :
  Calls Tryz.prog 18 #[.agg #[.slice A ds.length cap, .slice B ls.length cap']] w fun e w' => e = .returned (.int .i64 (ringV ds ls)) ∧ Below w.heap.size w w' := by
 have D0 := Below.alN (Below.refl w.heap.size w) (.cells #[.slice A ds.length cap, .slice B ls.length cap'] 25)
 have B0 := box2_new w (.slice A ds.length cap) (.slice B ls.length cap') 25
 have CK : Hid (∀ W, Below w.heap.size w W -> Calls Tryz.prog 7 #[.agg #[.slice A ds.length cap, .slice B ls.length cap']] W fun e w' => e = .returned (.int .i64 (netV ds ls)) ∧ Below W.heap.size W w') := fun W h => rnet_any _ _ ds ls W ((hD.out.below h).mono h.size) ((hL.out.below h).mono h.size)
 have HV : Hid (ringV ds ls = if netV ds ls = 0 then (if ds.any (fun d => remB d.kind) then 1 else 0) else netV ds ls) := rfl
 obtain ⟨_, hc, hm⟩ := hD.out.len
 unfold maxLen at hm
 generalize ringV ds ls = rv at *
 generalize netV ds ls = nv at *
 obtain ⟨_, q0, q1, _⟩ := id B0
 go_enter Tryz.func18, Tryz.ntmps18
 go_wp2_with fail
 refine (CK.out _ D0).mono ?_
 rintro e w1 ⟨rfl, hb1⟩
 have D1 := chnN hb1 D0
 have B1 : Box2 w1 w.heap.size (.slice A ds.length cap) (.slice B ls.length cap') := B0.below hb1 B0.1
 clear hb1 B0 D0 q0 q1 CK
 by_cases hn : nv = 0
 rotate_left
 ·have hz1 : (nv == 0) = false := by simpa using hn
  have hv := HV.out
  rw [if_neg hn] at hv
  have HV2 : Hid (rv = nv) := hv
  clear HV hv
  have HNZ : Hid (¬ nv = 0) := hn
  clear hn
  go_wp2_with fail
  all_goals first | exact absurd (by assumption) HNZ.out | skip
  all_goals
   go_ret
   exact ⟨by rw [HV2.out]; first | rfl | simp, D1⟩
 have hv := HV.out
 rw [if_pos hn] at hv
 have HV2 : Hid (rv = if ds.any (fun d => remB d.kind) = true then 1 else 0) := hv
 clear HV hv
 subst hn
 go_wp2_with fail
 go_loopw [4] (fun i wr => ∃ k : Nat, i = .int .i64 (k : Int) ∧ k <= ds.length ∧ wr = w1 ∧ Hid ((ds.take k).any (fun d => remB d.kind) = false)) (fun i _ => ds.length - (intOf i).toNat)
 case atStart => exact ⟨0, rfl, by omega, rfl, rfl⟩
 case round =>
  obtain ⟨k, rfl, hk, rfl, hno⟩ := hrel
  obtain ⟨_, q0, q1, _⟩ := id B1
  by_cases hlt : k < ds.length
  ·obtain ⟨d, hxk⟩ : ∃ d, ds[k]? = some d := ⟨_, List.getElem?_eq_getElem hlt⟩
   obtain ⟨b, o, vb, vr, vt, rfl, hb, _, _, _, c0, c1, c2, c3, c4, c5, c6⟩ := (hD.out.below D1).at hxk
   have HX : Hid (ds[k]? = some d) := hxk
   have k1 : (0 : Int) <= (k : Int) := by omega
   have k2 : (k : Int) < (ds.length : Int) := by omega
   clear hxk hD c0 c2 c3 c4 c5 c6 hL
   cases hv : remB d.kind
   ·have HV : Hid ((ds.take (k + 1)).any (fun d => remB d.kind) = false) := by show _ = _; rw [any_takeD HX.out, hno.out, hv]; rfl
    have hkk : d.kind = 1 ∨ d.kind = 2 := by
     unfold remB at hv
     by_cases h1 : d.kind = 1
     ·exact Or.inl h1
     ·by_cases h2 : d.kind = 2
      ·exact Or.inr h2
      ·simp [h1, h2] at hv
    clear hv hno HX HV2
    generalize d.kind = kd at *
    rcases hkk with rfl | rfl
    all_goals
     go_wp2_with fail
     go_roundw
     case rel => exact ⟨k + 1, by go_num, by omega, by first | rfl | trivial, HV⟩
     case measure => simp [intOf]; omega
   ·have fin : Hid (rv = 1) := by
     show _ = _
     rw [HV2.out, if_pos (List.any_eq_true.2 ⟨d, List.mem_of_getElem? HX.out, hv⟩)]
    have h1 : ¬ d.kind = 1 := by
     intro e
     rw [e] at hv
     cases hv
    have h2 : ¬ d.kind = 2 := by
     intro e
     rw [e] at hv
     cases hv
    clear hv hno HX HV2
    generalize d.kind = kd at *
    have e1 : (kd == 1) = false := by simpa using h1
    have e2 : (kd == 2) = false := by simpa using h2
    have f1 : (kd != 1) = true := by simpa using h1
    have f2 : (kd != 2) = true := by simpa using h2
    go_wp2_with fail
    go_ret
    exact ⟨by rw [fin.out]; rfl, D1⟩
  ·have fin : Hid (rv = 0) := by
    have := hno.out
    rw [show k = ds.length by omega, List.take_length] at this
    show _ = _
    rw [HV2.out, this]
    rfl
   go_wp2_with fail
   go_ret
   exact ⟨by rw [fin.out]; rfl, D1⟩
end Go.Proofs.YtppbfikimalojaaGreat
namespace Go.Proofs.YtppbfikimalojaaGreat
open Go.RowKit Go.Maps
def cntI (ds : List Dv) (ls : List Lk) (i : Nat) : Int := ((T 14 0 (FF ds ls ds.length i) e00 : Nat) : Int)
def allL (ds : List Dv) (ls : List Lk) : Nat -> List Int
 | 0 => []
 | k + 1 => allL ds ls k ++ List.replicate (portsV (ds.getD k default).kind).toNat (cntI ds ls k)
theorem allL_len (ds : List Dv) (ls : List Lk) : ∀ k, (allL ds ls k).length <= 4 * k
 | 0 => by simp [allL]
 | k + 1 => by
   have ih := allL_len ds ls k
   have := portsV_le (ds.getD k default).kind
   simp only [allL, List.length_append, List.length_replicate]
   omega
def intC (l : List Int) : List Value := l.map fun x => .int .i64 x
theorem intC_app (l m : List Int) : intC (l ++ m) = intC l ++ intC m := List.map_append
theorem new_most (m : Int) (w : World) (h : m < 2 ∨ 40000 < m) : Calls Tryz.prog 30 #[.int .i64 14, .int .i64 m] w fun e w' => e = .returned (.tuple #[.pointer none, .int .i64 1]) ∧ w' = w := by
 by_cases h1 : m < 2
 ·have t1 : decide (m < 2) = true := by simp [h1]
  go_enter Tryz.func30, Tryz.ntmps30
  go_wp2_with fail
  go_ret2
  exact ⟨rfl, rfl⟩
 ·have h2 : 40000 < m := by omega
  have t1 : decide (m < 2) = false := by simp [h1]
  have t2 : decide (40000 < m) = true := by simp [h2]
  go_enter Tryz.func30, Tryz.ntmps30
  go_wp2_with fail
  go_ret2
  exact ⟨rfl, rfl⟩
theorem app_row {base n m N : Nat} {w : World} {v : Value} {xs us : List Value} (h : w.ownsRow base 3 1 v n xs) (hN : Bz w N us.toArray 3) (hus : us.length = m) (h1 : ∀ u ∈ us, u.oneCell' = true) (hn : n + m <= 700000) (hb : base <= w.heap.size) :
  ∃ v' w', (Builtin.append_ #[50, 50] 50 #[v, .slice (some ⟨N, 0, none⟩) m m]).run Tryz.prog w = .ok v' w' ∧ w'.ownsRow base 3 1 v' (n + m) (xs ++ us) ∧ Below base w w' ∧ KeptB w w' v.ownBlock := by
 obtain ⟨i0, hi, hz0, hz1', hz2⟩ := info_parts infoIntN
 obtain ⟨v', w', hr, h4, h5, _, h7⟩ := run_append_own_at (P := Tryz.prog) w base 50 50 3 i0 _ 1 8 Tryz.underlying50 hi hz0 hz1' hz2 rfl (by omega) v n xs h ⟨N, 0, none⟩ m m us (by rw [hus, Nat.mul_one]) (fun j x hj => by
  rw [Addr.add_lit, Nat.zero_add]
  refine hN.cell j _ ?_
  rw [List.getElem?_toArray]
  exact hj) h1 (by unfold maxLen; omega) (by omega) hb
 exact ⟨v', w', hr, h4, (Below.refl base w).grown h5 hb (fun k e => (h.lt k e).1), ⟨h5.size, fun k hk hne => h5.block k hk hne⟩⟩
section
variable {b1 a1 M1 most bq aq Mq : Nat} {ns1 nsS : List Nd} {w W W' : World}
def Apt (aq Mq a1 M1 : Nat) (W : World) : Prop := ∀ i, i = aq ∨ i = Mq ∨ i = rowOf W aq -> i ≠ a1 ∧ i ≠ M1 ∧ i ≠ rowOf W a1
theorem Apt.kp (ap : Apt aq Mq a1 M1 W) (hS : Ar bq aq Mq 14 40000 W nsS) (k : Kp (ca b1 a1 M1 14 most) W W') : Ar bq aq Mq 14 40000 W' nsS ∧ Apt aq Mq a1 M1 W' := by
 have l1 := hS.lta
 have l2 := hS.ltM
 have l3 := hS.row.choose_spec.2.2
 have up : ∀ i, i < W.heap.size -> (i = aq ∨ i = Mq ∨ i = rowOf W aq) -> W'.heap[i]? = W.heap[i]? := fun i hi h => by
  obtain ⟨n1, n2, n3⟩ := ap i h
  refine k.blk i hi (fun hm => ?_) n3
  rcases hm with e | e | e | e | e | e
  ·exact n1 e
  ·exact n1 e
  ·exact n2 e
  ·cases e
  ·cases e
  ·cases e
 have er : rowOf W' aq = rowOf W aq := rowOf_same (up _ l1 (Or.inl rfl))
 refine ⟨hS.same (up _ l1 (Or.inl rfl)) (up _ l2 (Or.inr (Or.inl rfl))) (up _ (by omega) (Or.inr (Or.inr rfl))), fun i hi => ?_⟩
 rw [er] at hi
 obtain ⟨n1, n2, n3⟩ := ap i hi
 refine ⟨n1, n2, fun e => ?_⟩
 rcases k.row with h | h
 ·have h : rowOf W' a1 = rowOf W a1 := h
  rw [h] at e
  exact n3 e
 ·have h : W.heap.size <= rowOf W' a1 := h
  rcases hi with e2 | e2 | e2 <;> omega
theorem Apt.same (ap : Apt aq Mq a1 M1 W) (e1 : W'.heap[aq]? = W.heap[aq]?) (e2 : W'.heap[a1]? = W.heap[a1]?) : Apt aq Mq a1 M1 W' := fun i hi => by
 rw [rowOf_same e1] at hi
 rw [rowOf_same e2]
 exact ap i hi
end
structure Als (w : World) (N : Nat) (nv cs : Array Value) (b1 a1 M1 most bq aq Mq : Nat) (nsS : List Nd) (v : Value) (l : List Int) (W : World) : Prop where
 bel : Below w.heap.size w W
 bN : Bz W w.heap.size nv 25
 bX : Bz W N cs 118
 ar : ∃ ns, Ar b1 a1 M1 14 most W ns
 src : Ar bq aq Mq 14 40000 W nsS
 ap : Apt aq Mq a1 M1 W
 own : W.ownsRow w.heap.size 3 1 v l.length (intC l)
 lo : w.heap.size <= b1 ∧ w.heap.size <= W.heap.size ∧ w.heap.size <= bq
section
variable {b1 a1 M1 most bq aq Mq N : Nat} {nsS : List Nd} {w W W' : World} {nv cs : Array Value} {v : Value} {l : List Int}
theorem Als.below (h : Als w N nv cs b1 a1 M1 most bq aq Mq nsS v l W) (hb : Below W.heap.size W W') : Als w N nv cs b1 a1 M1 most bq aq Mq nsS v l W' := by
 obtain ⟨ns, ha⟩ := h.ar
 exact ⟨chain hb h.bel, (hb.block _ h.bN.lt).trans h.bN, (hb.block _ h.bX.lt).trans h.bX, ⟨ns, ha.below hb⟩, h.src.below hb, h.ap.same (hb.block _ h.src.lta) (hb.block _ ha.lta), own_below h.own hb, ⟨h.lo.1, Nat.le_trans h.lo.2.1 hb.size, h.lo.2.2⟩⟩
theorem Als.kp (h : Als w N nv cs b1 a1 M1 most bq aq Mq nsS v l W) {ns ns' : List Nd} (ha : Ar b1 a1 M1 14 most W ns) (ha' : Ar b1 a1 M1 14 most W' ns') (k : Kp (ca b1 a1 M1 14 most) W W') : Als w N nv cs b1 a1 M1 most bq aq Mq nsS v l W' := by
 obtain ⟨hs', ap'⟩ := h.ap.kp h.src k
 have far : ∀ {g : Nat} {c : Array Value} {t : TypeId}, Bz W g c t -> (t ≠ 82 ∧ t ≠ 85) -> t ≠ 143 -> Bz W' g c t := fun {g c t} hb h1 h2 => ((ha.outBox hb h1 h2).kp k).blk
 refine ⟨h.bel.trans ((ha.kp_below k).mono h.lo.1), far h.bN (by decide) (by decide), far h.bX (by decide) (by decide), ⟨ns', ha'⟩, hs', ap', own_keptBut h.own (fun g hg => ?_), ⟨h.lo.1, Nat.le_trans h.lo.2.1 k.size, h.lo.2.2⟩⟩
 obtain ⟨_, _, cur, hc⟩ := own_block h.own hg
 exact (far (g := g) hc (by decide) (by decide)).trans hc.symm
theorem Als.app (h : Als w N nv cs b1 a1 M1 most bq aq Mq nsS v l W) {R m : Nat} {x : Int} (hR : Bz W R (List.replicate m (.int .i64 x)).toArray 3) (hl : l.length + m <= 700000) :
  ∃ v' w', (Builtin.append_ #[50, 50] 50 #[v, .slice (some ⟨R, 0, none⟩) m m]).run Tryz.prog W = .ok v' w' ∧ Als w N nv cs b1 a1 M1 most bq aq Mq nsS v' (l ++ List.replicate m x) w' := by
 obtain ⟨ns, ha⟩ := h.ar
 obtain ⟨v', w', r, O, D, K⟩ := app_row h.own hR (by simp) (fun u hu => by rw [List.eq_of_mem_replicate hu]; rfl) hl h.lo.2.1
 have far : ∀ {g : Nat} {c : Array Value} {t : TypeId}, Bz W g c t -> t ≠ 3 -> w'.heap[g]? = W.heap[g]? := fun {g c t} hb ht => K.block g hb.lt (fun e => by
  obtain ⟨_, _, cur, hc⟩ := own_block h.own e.symm
  have hb : W.heap[g]? = _ := hb
  rw [hb] at hc
  cases hc
  exact ht rfl)
 have arF : ∀ {b a M mo : Nat} {ns : List Nd}, Ar b a M 14 mo W ns -> ∀ g, (g = a ∨ g = M ∨ g = rowOf W a) -> w'.heap[g]? = W.heap[g]? := fun {b a M mo ns} hA g hg => by
  have l3 := hA.row.choose_spec.2.2
  have hlt : g < W.heap.size := by
   rcases hg with rfl | rfl | rfl
   ·exact hA.lta
   ·exact hA.ltM
   ·exact l3
  refine K.block g hlt (fun e => ?_)
  obtain ⟨_, _, cur, hc⟩ := own_block h.own e.symm
  have L := (hA.outBox hc (by decide) (by decide)).out
  rcases hg with rfl | rfl | rfl
  ·exact L.not (Or.inl rfl)
  ·exact L.not (Or.inr (Or.inr (Or.inl rfl)))
  ·exact L.ne rfl
 refine ⟨v', w', r, h.bel.trans D, (far h.bN (by decide)).trans h.bN, (far h.bX (by decide)).trans h.bX, ⟨ns, ha.same (arF ha _ (Or.inl rfl)) (arF ha _ (Or.inr (Or.inl rfl))) (arF ha _ (Or.inr (Or.inr rfl)))⟩, h.src.same (arF h.src _ (Or.inl rfl)) (arF h.src _ (Or.inr (Or.inl rfl))) (arF h.src _ (Or.inr (Or.inr rfl))), h.ap.same (arF h.src _ (Or.inl rfl)) (arF ha _ (Or.inl rfl)), ?_, ⟨h.lo.1, Nat.le_trans h.lo.2.1 K.size, h.lo.2.2⟩⟩
 rw [List.length_append, List.length_replicate, intC_app]
 unfold intC at O ⊢
 rw [List.map_replicate]
 exact O
end
structure FR where
 err : Int
 M : Mnd
end Go.Proofs.YtppbfikimalojaaGreat
