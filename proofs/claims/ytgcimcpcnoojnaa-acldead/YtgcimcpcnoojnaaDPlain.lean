/-
  Rules that can be left out, packet by packet; the rules behind one for all.
-/
import Derived.Test.YtgcimcpcnoojnaaPhi
import Derived.Test.YtgcimcpcnoojnaaFinds
import Derived.Test.YtgcimcpcnoojnaaFirst0
namespace Go.Proofs.Ytgcimcpcnoojnaa
open Go.RowKit

theorem dead_at {xs : List Rl} {i : Nat} (h : isDead xs i) {p q s t : Int} (hr : rightB p q s t = true) : letsB (wo xs i) p q s t = letsB xs p q s t := by
  simp only [rightB, Bool.and_eq_true, decide_eq_true_eq] at hr
  obtain ⟨⟨⟨h1, h2⟩, h3⟩, h4⟩ := hr
  have := (isDead_iff xs i).1 h (p.toNat * 1024 + q.toNat * 64 + s.toNat * 8 + t.toNat) (by omega)
  unfold letsC at this
  rw [show (((p.toNat * 1024 + q.toNat * 64 + s.toNat * 8 + t.toNat) / 1024 : Nat) : Int) = p by omega, show (((p.toNat * 1024 + q.toNat * 64 + s.toNat * 8 + t.toNat) / 64 % 16 : Nat) : Int) = q by omega,
    show (((p.toNat * 1024 + q.toNat * 64 + s.toNat * 8 + t.toNat) / 8 % 8 : Nat) : Int) = s by omega, show (((p.toNat * 1024 + q.toNat * 64 + s.toNat * 8 + t.toNat) % 8 : Nat) : Int) = t by omega] at this
  exact this
theorem sel_all (k first : Nat) (x : Env) : sel k (2 ^ 2 ^ k - 1) first x = true := by
  rw [sel_val, Nat.testBit_two_pow_sub_one]
  simp [val_lt]
theorem phi_all {r : Rl} (h : isAllB r = true) (x : Env) : phi r.a r.b r.c r.d x = true := by
  simp only [isAllB, Bool.and_eq_true, decide_eq_true_eq] at h
  obtain ⟨⟨⟨ha, hb⟩, hc⟩, hd⟩ := h
  unfold phi
  rw [ha, hb, hc, hd]
  have e4 : ∀ f, sel 4 65535 f x = true := fun f => sel_all 4 f x
  have e3 : ∀ f, sel 3 255 f x = true := fun f => sel_all 3 f x
  rw [e4, e4, e3, e3]
  rfl
theorem letsF_app : ∀ (l m : List Rl) (x : Env), (∃ r ∈ l, phi r.a r.b r.c r.d x = true) → letsF (l ++ m) x = letsF l x
  | [], _, _, h => by obtain ⟨r, hr, _⟩ := h; cases hr
  | y :: l, m, x, h => by
    simp only [List.cons_append, letsF]
    by_cases hx : phi y.a y.b y.c y.d x = true
    · rw [if_pos hx, if_pos hx]
    · rw [if_neg hx, if_neg hx]
      refine letsF_app l m x ?_
      obtain ⟨r, hr, hi⟩ := h
      rcases List.mem_cons.1 hr with rfl | hr
      · exact absurd hi hx
      · exact ⟨r, hr, hi⟩
theorem dead_behind {xs : List Rl} {i k : Nat} {r : Rl} (h : xs[i]? = some r) (hr : isAllB r = true) (hik : i < k) : isDead xs k := by
  intro x
  have hm : r ∈ xs.take (i + 1) := List.mem_of_getElem? (i := i) (by rw [List.getElem?_take, if_pos (by omega)]; exact h)
  have e1 : xs = xs.take (i + 1) ++ xs.drop (i + 1) := (List.take_append_drop _ _).symm
  have e2 : wo xs k = xs.take (i + 1) ++ ((xs.take k).drop (i + 1) ++ xs.drop (k + 1)) := by
    have : xs.take k = xs.take (i + 1) ++ (xs.take k).drop (i + 1) := by
      have h2 := (List.take_append_drop (i + 1) (xs.take k)).symm
      rw [List.take_take, Nat.min_eq_left (by omega)] at h2
      exact h2
    unfold wo
    rw [← List.append_assoc, ← this]
  rw [e2, letsF_app _ _ x ⟨r, hm, phi_all hr x⟩]
  conv => rhs; rw [e1]
  rw [letsF_app _ _ x ⟨r, hm, phi_all hr x⟩]
/-- Where the first rule for all is: behind it all are among those that can be left out. -/
theorem idx_cases (xs : List Rl) : idxAll xs = -1 ∨ ∃ j : Nat, idxAll xs = (j : Int) ∧ j < xs.length ∧ ∀ k, j < k → k < xs.length → k ∈ deadTo xs xs.length := by
  unfold idxAll
  by_cases h : xs.findIdx isAllB < xs.length
  · rw [if_pos h]
    exact Or.inr ⟨_, rfl, h, fun k h1 h2 => deadTo_mem.2 ⟨h2, dead_behind (List.getElem?_eq_getElem h) (List.findIdx_getElem (w := h)) h1⟩⟩
  · rw [if_neg h]
    exact Or.inl rfl

/-- The list that is asked for first: a rule for all that lets through, one that doesn't. -/
abbrev two : List Rl := [allR true, allR false]
theorem all_is (b : Bool) : isAllB (allR b) = true := by simp [isAllB, allR]
theorem letsF_two (x : Env) : letsF two x = true := by
  rw [letsF, if_pos (phi_all (all_is true) x)]
  rfl
theorem letsF_wo0 (x : Env) : letsF (wo two 0) x = false := by
  show letsF [allR false] x = false
  rw [letsF, if_pos (phi_all (all_is false) x)]
  rfl
theorem letsF_wo1 (x : Env) : letsF (wo two 1) x = true := by
  show letsF [allR true] x = true
  rw [letsF, if_pos (phi_all (all_is true) x)]
  rfl
theorem two_const : ∀ ys : List Rl, (ys = two ∨ ∃ k, k < two.length ∧ ys = wo two k) → ∃ b, ∀ x, letsF ys x = b := by
  rintro ys (rfl | ⟨k, hk, rfl⟩)
  · exact ⟨true, letsF_two⟩
  · match k, hk with
    | 0, _ => exact ⟨false, letsF_wo0⟩
    | 1, _ => exact ⟨true, letsF_wo1⟩
    | k + 2, hk => exact absurd hk (by show ¬ (k + 2 < 2); omega)
theorem two_dead : deadTo two 2 = [1] := by
  rw [deadTo_yes (k := 1) (fun x => (letsF_wo1 x).trans (letsF_two x).symm), deadTo_no (k := 0), deadTo_zero]
  · rfl
  · intro h
    have := h (fun _ => false)
    rw [letsF_wo0, letsF_two] at this
    cases this

/-- A new array of two rules. -/
theorem two_rule (w : World) (r u : Rl) (t : TypeId) : RAt (w.alloc (.cells #[.bool r.ok, .int .u16 (r.a : Int), .int .u16 (r.b : Int), .int .u8 (r.c : Int), .int .u8 (r.d : Int), .bool u.ok, .int .u16 (u.a : Int), .int .u16 (u.b : Int), .int .u8 (u.c : Int), .int .u8 (u.d : Int)] t)) w.heap.size 0 [r, u] := by
  intro j v hj
  rw [cell_of_row _ _ _ _ _ _ (Go.heap_alloc_new w _), Nat.zero_add]
  rw [← hj, ← Array.getElem?_toList]
  rfl
theorem one_int (w : World) (d : Nat) : IntsAt (w.alloc (.cells #[.int .i64 (d : Int)] 3)) (.slice (some ⟨w.heap.size, 0, none⟩) 1 1) [d] := by
  refine ⟨_, 1, rfl, Nat.le_refl _, by unfold maxLen; omega, fun _ => ⟨_, 0, rfl, by simp, fun j e hj => ?_⟩⟩
  match j, hj with
  | 0, hj => cases hj; simp [go_sem]
  | j + 1, hj => simp at hj
theorem DPost.pair' {E : Prop} {base a M : Nat} {w w' : World} {ns : List Nd} {xs : List Rl} {e : Ending} (h : DPost E base a M w ns xs e w') :
    ∃ (ns' : List Nd) (v : Value) (er : Int), e = .returned (.tuple #[v, .int .i64 er]) ∧ Ar base a M 14 40000 w' ns' ∧ Kp (ca base a M 14 40000) w w' ∧ Ext ns ns' ∧
      Hid ((er = 0 ∧ IntsAt w' v (deadTo xs xs.length)) ∨ (er = 6 ∧ v = .slice none 0 0 ∧ E)) := by
  obtain ⟨ns', r1, r2, r3, ⟨v, e1, e2⟩ | ⟨e1, e2⟩⟩ := h
  · exact ⟨ns', v, 0, e1, r1, r2, r3, Or.inl ⟨rfl, IntsAt.own e2⟩⟩
  · exact ⟨ns', _, 6, e1, r1, r2, r3, Or.inr ⟨rfl, rfl, e2⟩⟩

abbrev twoCells : Array Value := #[.bool (allR true).ok, .int .u16 ((allR true).a : Int), .int .u16 ((allR true).b : Int), .int .u8 ((allR true).c : Int), .int .u8 ((allR true).d : Int), .bool (allR false).ok, .int .u16 ((allR false).a : Int), .int .u16 ((allR false).b : Int), .int .u8 ((allR false).c : Int), .int .u8 ((allR false).d : Int)]
/-- Dead, of that list: it finds room. -/
theorem dead_two {base a M : Nat} {w : World} {ns : List Nd} (h : Ar base a M 14 40000 w ns) :
    Calls Try.prog 28 #[.pointer (some ⟨a, 0, none⟩), .slice (some ⟨w.heap.size, 0, none⟩) 2 2] (w.alloc (.cells twoCells 78)) fun e w' => ∃ (ns' : List Nd) (v : Value), e = .returned (.tuple #[v, .int .i64 0]) ∧ Ar base a M 14 40000 w' ns' ∧ Below base (w.alloc (.cells twoCells 78)) w' ∧ Hid (IntsAt w' v [1]) := by
  have A1 := h.alloc (.cells twoCells 78)
  have hR : RulesK (ca base a M 14 40000) (w.alloc (.cells twoCells 78)) (.slice (some ⟨w.heap.size, 0, none⟩) two.length 2) two :=
    ⟨_, 2, rfl, (fun e => by cases e), Nat.le_refl _, by unfold maxLen; omega, fun _ => ⟨_, 0, rfl, (A1.outBox (Go.heap_alloc_new w _) (by decide) (by decide)).out, two_rule w _ _ _⟩⟩
  refine (dead_const A1 _ 2 two hR (Nat.le_refl _) two_const).mono fun e w' hp => ?_
  obtain ⟨ns', v, er, e1, r1, r2, _, d⟩ := hp.pair'
  rcases d.out with ⟨rfl, hi⟩ | ⟨_, _, hE⟩
  · refine ⟨ns', v, e1, r1, A1.kp_below r2, ?_⟩
    have hi' : IntsAt w' v (deadTo two 2) := hi
    rw [two_dead] at hi'
    exact hi'
  · exact hE.elim
/-- slices.Clone, of a list that is not empty. -/
theorem clone_n {v : Value} {xs : List Rl} (w : World) (h : Rules w.heap.size w v xs) {n : Nat} (hn : xs.length = n) (h0 : 0 < n) (hs : n ≤ 1000) :
    Calls Try.prog 51 #[v] w fun e w' => ∃ g cap, e = .returned (.slice (some ⟨g, 0, none⟩) n cap) ∧ Hid (w'.ownsRow w.heap.size 78 5 (.slice (some ⟨g, 0, none⟩) n cap) n (cellsR xs) ∧ Below w.heap.size w w') := by
  subst hn
  refine (clone_any w h (by omega)).mono fun e w' ⟨v', e1, e2, e3⟩ => ?_
  rcases id e2.2 with ⟨_, hz⟩ | ⟨g, cap, cur, hv, _⟩
  · omega
  · subst hv
    exact ⟨g, cap, e1, e2, e3⟩
end Go.Proofs.Ytgcimcpcnoojnaa


