/-
  AclFirst: it returns true.
-/
import Derived.Test.YtaceockdiicpaadFirst0
import Derived.Deep.RegionHeld3
namespace Go.Proofs.Ytaceockdiicpaad
open Go.RowKit

/-- Five cells lie in a block of their own. -/
def Five (w : World) (n : Nat) (a b c d e : Value) : Prop :=
  n < w.heap.size ∧ w.cell? ⟨n, 0, none⟩ = some a ∧ w.cell? ⟨n, 1, none⟩ = some b ∧ w.cell? ⟨n, 2, none⟩ = some c ∧ w.cell? ⟨n, 3, none⟩ = some d ∧ w.cell? ⟨n, 4, none⟩ = some e
theorem keepFive {B : Nat} {W w' : World} {n : Nat} {a b c d e : Value} (hb : Below B W w') (hB : n < B) (h : Five W n a b c d e) : Five w' n a b c d e := by
  obtain ⟨h0, h1, h2, h3, h4, h5⟩ := h
  exact ⟨Nat.lt_of_lt_of_le h0 hb.size, (hb.cell (p := ⟨n, 0, none⟩) hB).trans h1, (hb.cell (p := ⟨n, 1, none⟩) hB).trans h2, (hb.cell (p := ⟨n, 2, none⟩) hB).trans h3, (hb.cell (p := ⟨n, 3, none⟩) hB).trans h4, (hb.cell (p := ⟨n, 4, none⟩) hB).trans h5⟩
theorem keepFour' {B : Nat} {W w' : World} {n : Nat} {a b c d : Value} (hb : Below B W w') (hB : n < B) (h : Four W n a b c d) : Four w' n a b c d := by
  obtain ⟨h0, h1, h2, h3, h4⟩ := h
  exact ⟨Nat.lt_of_lt_of_le h0 hb.size, (hb.cell (p := ⟨n, 0, none⟩) hB).trans h1, (hb.cell (p := ⟨n, 1, none⟩) hB).trans h2, (hb.cell (p := ⟨n, 2, none⟩) hB).trans h3, (hb.cell (p := ⟨n, 3, none⟩) hB).trans h4⟩
theorem one_rules (w : World) (r : Rl) (t : TypeId) : Rules (w.alloc (.cells #[.bool r.ok, .int .u16 (r.a : Int), .int .u16 (r.b : Int), .int .u8 (r.c : Int), .int .u8 (r.d : Int)] t)).heap.size (w.alloc (.cells #[.bool r.ok, .int .u16 (r.a : Int), .int .u16 (r.b : Int), .int .u8 (r.c : Int), .int .u8 (r.d : Int)] t)) (.slice (some ⟨w.heap.size, 0, none⟩) 1 1) [r] :=
  ⟨_, 1, rfl, (fun e => by cases e), Nat.le_refl _, by unfold maxLen; omega, fun _ => ⟨_, _, rfl, by simp, one_rule w r t⟩⟩
theorem one_own (w : World) (r : Rl) : (w.alloc (.cells #[.bool r.ok, .int .u16 (r.a : Int), .int .u16 (r.b : Int), .int .u8 (r.c : Int), .int .u8 (r.d : Int)] 46)).ownsRow w.heap.size 46 5 (.slice (some ⟨w.heap.size, 0, none⟩) 1 1) ([r] : List Rl).length (cellsR [r]) :=
  ⟨rfl, .inr ⟨w.heap.size, 1, _, rfl, Nat.le_refl _, Go.heap_alloc_new w _, Nat.le_refl _, by unfold maxLen; omega, rfl, rfl⟩⟩
theorem ownsRow_below {base : Nat} {w w' : World} {t : TypeId} {s n : Nat} {v : Value} {cs : List Value} (h : w.ownsRow base t s v n cs) (hb : Below w.heap.size w w') : w'.ownsRow base t s v n cs := by
  refine ⟨h.1, ?_⟩
  rcases h.2 with h0 | ⟨g, cap, cur, hv, h1, hg, h2⟩
  · exact .inl h0
  · exact .inr ⟨g, cap, cur, hv, h1, (hb.block g (Array.getElem?_eq_some_iff.1 hg).1).trans hg, h2⟩

/-- What stands behind the two appends: nothing that lay there has turned; the rule in block n, the packet behind it. -/
def Sees (W : World) (n : Nat) (r : Rl) (p q s t : Int) (w : World) : Prop :=
  Below W.heap.size W w ∧ Four w (n + 1) (.int .i64 p) (.int .i64 q) (.int .i64 s) (.int .i64 t) ∧ Five w n (.bool r.ok) (.int .u16 (r.a : Int)) (.int .u16 (r.b : Int)) (.int .u8 (r.c : Int)) (.int .u8 (r.d : Int))
section
variable {W w w' : World} {n : Nat} {r : Rl} {p q s t : Int}
theorem Sees.step (h : Sees W n r p q s t w) (hb : Below w.heap.size w w') : Sees W n r p q s t w' :=
  ⟨h.1.trans (hb.mono h.1.size), keepFour hb h.2.1, keepFive hb h.2.2.1 h.2.2⟩
theorem Sees.drew (h : Sees W n r p q s t w) : Sees W n r p q s t w.drew := ⟨h.1.drew, h.2⟩
theorem Sees.lt (h : Sees W n r p q s t w) : n + 1 < w.heap.size := h.2.1.1
theorem Sees.cells (h : Sees W n r p q s t w) : (w.cell? ⟨n + 1, 0, none⟩ = some (.int .i64 p) ∧ w.cell? ⟨n + 1, 1, none⟩ = some (.int .i64 q) ∧ w.cell? ⟨n + 1, 2, none⟩ = some (.int .i64 s) ∧ w.cell? ⟨n + 1, 3, none⟩ = some (.int .i64 t)) ∧
    (w.cell? ⟨n, 0, none⟩ = some (.bool r.ok) ∧ w.cell? ⟨n, 1, none⟩ = some (.int .u16 (r.a : Int)) ∧ w.cell? ⟨n, 2, none⟩ = some (.int .u16 (r.b : Int)) ∧ w.cell? ⟨n, 3, none⟩ = some (.int .u8 (r.c : Int)) ∧ w.cell? ⟨n, 4, none⟩ = some (.int .u8 (r.d : Int))) := ⟨h.2.1.2, h.2.2.2⟩
theorem Sees.four (h : Sees W n r p q s t w) : w.cell? ⟨n + 1, 0, none⟩ = some (.int .i64 p) ∧ w.cell? ⟨n + 1, 1, none⟩ = some (.int .i64 q) ∧ w.cell? ⟨n + 1, 2, none⟩ = some (.int .i64 s) ∧ w.cell? ⟨n + 1, 3, none⟩ = some (.int .i64 t) := h.2.1.2
theorem Sees.alloc (h : Sees W n r p q s t w) (o : Obj) : Sees W n r p q s t (w.alloc o) := h.step ((Below.refl _ _).alloc (Nat.le_refl _) o)
theorem Sees.all {w0 : World} (D : Below w0.heap.size w0 W) (h : Sees W n r p q s t w) : Below w0.heap.size w0 w := D.trans (h.1.mono D.size)
theorem Sees.grown {row : Option Nat} (h : Sees W n r p q s t (w.alloc (.cells #[.bool r.ok, .int .u16 (r.a : Int), .int .u16 (r.b : Int), .int .u8 (r.c : Int), .int .u8 (r.d : Int)] 46))) (hg : (w.alloc (.cells #[.bool r.ok, .int .u16 (r.a : Int), .int .u16 (r.b : Int), .int .u8 (r.c : Int), .int .u8 (r.d : Int)] 46)).grownBy w' row) (hr : ∀ k, row = some k → w.heap.size ≤ k) (hn : n + 1 < w.heap.size) (hW : W.heap.size ≤ w.heap.size) : Sees W n r p q s t w' := by
  have hb : Below w.heap.size (w.alloc (.cells #[.bool r.ok, .int .u16 (r.a : Int), .int .u16 (r.b : Int), .int .u8 (r.c : Int), .int .u8 (r.d : Int)] 46)) w' := (Below.refl _ _).grown hg (by simp) hr
  exact ⟨h.1.trans (hb.mono hW), keepFour' hb hn h.2.1, keepFive hb (by omega) h.2.2⟩
/-- The same, and the list with the rule ahead. -/
def See2 (W V : World) (n : Nat) (r : Rl) (p q s t : Int) (w : World) : Prop := Sees W n r p q s t w ∧ Below V.heap.size V w
variable {V : World}
theorem See2.step (h : See2 W V n r p q s t w) (hb : Below w.heap.size w w') : See2 W V n r p q s t w' := ⟨h.1.step hb, h.2.trans (hb.mono h.2.size)⟩
theorem See2.drew (h : See2 W V n r p q s t w) : See2 W V n r p q s t w.drew := ⟨h.1.drew, h.2.drew⟩
theorem See2.one (h : See2 W V n r p q s t w) : Sees W n r p q s t w := h.1
theorem See2.four (h : See2 W V n r p q s t w) : w.cell? ⟨n + 1, 0, none⟩ = some (.int .i64 p) ∧ w.cell? ⟨n + 1, 1, none⟩ = some (.int .i64 q) ∧ w.cell? ⟨n + 1, 2, none⟩ = some (.int .i64 s) ∧ w.cell? ⟨n + 1, 3, none⟩ = some (.int .i64 t) := h.1.four
theorem See2.five (h : See2 W V n r p q s t w) : (w.cell? ⟨n + 1, 0, none⟩ = some (.int .i64 p) ∧ w.cell? ⟨n + 1, 1, none⟩ = some (.int .i64 q) ∧ w.cell? ⟨n + 1, 2, none⟩ = some (.int .i64 s) ∧ w.cell? ⟨n + 1, 3, none⟩ = some (.int .i64 t)) ∧ w.cell? ⟨n, 0, none⟩ = some (.bool r.ok) := ⟨h.1.four, h.1.2.2.2.1⟩
end

theorem right_all {p q s t : Int} (h : rightB p q s t = true) : inR (allR false) p q s t = true := by
  simp only [rightB, Bool.and_eq_true, decide_eq_true_eq] at h
  obtain ⟨⟨⟨h1, h2⟩, h3⟩, h4⟩ := h
  exact inR_all ⟨h1.1, by omega⟩ ⟨h2.1, by omega⟩ ⟨h3.1, by omega⟩ ⟨h4.1, by omega⟩

set_option maxHeartbeats 8000000 in
set_option maxRecDepth 100000 in
theorem first_any (vl vm : Value) (l more : List Rl) (r : Rl) (p q s t : Int) (w : World) (hl : Hid (Rules w.heap.size w vl l)) (hm : Hid (Rules w.heap.size w vm more)) (hs : Hid (l.length + more.length ≤ 1048576)) :
    Calls Try.prog 5 #[vl, vm, rv r, pk p q s t] w fun e w' => e = .returned (.bool true) ∧ Below w.heap.size w w' := by
  have D1 := Below.alloc' (Below.alloc' (Below.refl w.heap.size w) (.cells #[.bool r.ok, .int .u16 (r.a : Int), .int .u16 (r.b : Int), .int .u8 (r.c : Int), .int .u8 (r.d : Int)] 46)) (.cells #[.int .i64 p, .int .i64 q, .int .i64 s, .int .i64 t] 40)
  have S1 : Sees ((w.alloc (.cells #[.bool r.ok, .int .u16 (r.a : Int), .int .u16 (r.b : Int), .int .u8 (r.c : Int), .int .u8 (r.d : Int)] 46)).alloc (.cells #[.int .i64 p, .int .i64 q, .int .i64 s, .int .i64 t] 40)) w.heap.size r p q s t ((w.alloc (.cells #[.bool r.ok, .int .u16 (r.a : Int), .int .u16 (r.b : Int), .int .u8 (r.c : Int), .int .u8 (r.d : Int)] 46)).alloc (.cells #[.int .i64 p, .int .i64 q, .int .i64 s, .int .i64 t] 40)) := by
    refine ⟨Below.refl _ _, ?_, ?_⟩
    · have := four_new (w.alloc (.cells #[.bool r.ok, .int .u16 (r.a : Int), .int .u16 (r.b : Int), .int .u8 (r.c : Int), .int .u8 (r.d : Int)] 46)) (.int .i64 p) (.int .i64 q) (.int .i64 s) (.int .i64 t) 40
      simpa using this
    · exact keepFive (B := w.heap.size + 1) ((Below.refl _ _).alloc (by simp) _) (by omega) ⟨by simp, five_new w _ _ _ _ _ _⟩
  have L1 : Hid (∀ w2 : World, Calls Try.prog 22 #[.slice (some ⟨w2.heap.size, 0, none⟩) 1 1, pk 0 0 0 0] (w2.alloc (.cells #[.bool (allR true).ok, .int .u16 ((allR true).a : Int), .int .u16 ((allR true).b : Int), .int .u8 ((allR true).c : Int), .int .u8 ((allR true).d : Int)] 46)) fun e w' => e = .returned (.bool true) ∧ Below (w2.alloc (.cells #[.bool (allR true).ok, .int .u16 ((allR true).a : Int), .int .u16 ((allR true).b : Int), .int .u8 ((allR true).c : Int), .int .u8 ((allR true).d : Int)] 46)).heap.size (w2.alloc (.cells #[.bool (allR true).ok, .int .u16 ((allR true).a : Int), .int .u16 ((allR true).b : Int), .int .u8 ((allR true).c : Int), .int .u8 ((allR true).d : Int)] 46)) w') := fun w2 => by
    have := lets_any 0 0 0 0 _ (one_rules w2 (allR true) 46)
    rw [show letsB [allR true] 0 0 0 0 = true by decide] at this
    exact this
  go_enter Try.func5, Try.ntmps5
  go_wp2_with fail
  refine (all_r true _).mono ?_
  rintro e w2 ⟨rfl, hb2⟩
  have D2 := chain hb2 D1
  have S2 := S1.step hb2
  clear hb2 D1 S1
  go_wp2_with fail
  refine (L1.out _).mono ?_
  rintro e w3 ⟨rfl, hb3⟩
  have D3 := chain hb3 (Below.alloc' D2 _)
  have S3 := (S2.alloc _).step hb3
  obtain ⟨⟨c0, c1, c2, c3⟩, _⟩ := S3.cells
  clear hb3 D2 S2 L1
  go_wp2_with fail
  refine (lets_none none 0 p q s t _).mono ?_
  rintro e w4 ⟨rfl, hb4⟩
  have D4 := chain hb4 D3
  have S4 := S3.step hb4
  have n4' := S4.lt
  clear hb4 D3 S3 c0 c1 c2 c3
  go_wp2_with fail
  refine (clone_any w4 ((hl.out.below D4).mono D4.size) (by have := hs.out; omega)).mono ?_
  rintro e w5 ⟨vc, rfl, o5, hb5⟩
  have D5 := chain hb5 D4
  have S5 := S4.step hb5
  have z5 := hb5.size
  have z4 := D4.size
  clear hb5 D4 S4
  go_wp2_with fail
  refine (all_r false _).mono ?_
  rintro e w6 ⟨rfl, hb6⟩
  have D6 := chain hb6 D5
  have S6 := S5.step hb6
  have o6 := (ownsRow_below o5 hb6).alloc (.cells #[.bool (allR false).ok, .int .u16 ((allR false).a : Int), .int .u16 ((allR false).b : Int), .int .u8 ((allR false).c : Int), .int .u8 ((allR false).d : Int)] 46)
  have z6 := hb6.size
  have D6b := Below.alloc' D6 (.cells #[.bool (allR false).ok, .int .u16 ((allR false).a : Int), .int .u16 ((allR false).b : Int), .int .u8 ((allR false).c : Int), .int .u8 ((allR false).d : Int)] 46)
  have S6b := S6.alloc (.cells #[.bool (allR false).ok, .int .u16 ((allR false).a : Int), .int .u16 ((allR false).b : Int), .int .u8 ((allR false).c : Int), .int .u8 ((allR false).d : Int)] 46)
  clear hb6 D5 S5 o5
  obtain ⟨v7, w7, hr7, o7, g7⟩ := app_rules 44 o6 (one_rules w6 (allR false) 46) (by have := hs.out; simp only [List.length_cons, List.length_nil]; omega) (by simp; omega)
  have D7 := Below.app D6b o6 g7 z4 (by simp; omega)
  have z7 := g7.size
  simp at z7
  have hm7 := (hm.out.below D7).mono (base' := w7.heap.size) D7.size
  obtain ⟨v8, w8, hr8, o8, g8⟩ := app_rules 44 o7 hm7 (by have := hs.out; simp only [List.length_append, List.length_cons, List.length_nil]; omega) (by omega)
  have D8 := Below.app D7 o7 g8 z4 (by omega)
  have E8 : Hid (Rules w8.heap.size w8 v8 (l ++ (allR false :: more))) := by
    have := Rules.own o8
    rw [List.append_assoc] at this
    exact this
  have z8 := g8.size
  have b8 : Below w4.heap.size (w6.alloc (.cells #[.bool (allR false).ok, .int .u16 ((allR false).a : Int), .int .u16 ((allR false).b : Int), .int .u8 ((allR false).c : Int), .int .u8 ((allR false).d : Int)] 46)) w8 := Below.app (Below.app (Below.refl _ _) o6 g7 (Nat.le_refl _) (by simp; omega)) o7 g8 (Nat.le_refl _) (by omega)
  have n4 : w.heap.size + 1 < w4.heap.size := n4'
  have S8 : Sees w8 w.heap.size r p q s t w8 := ⟨Below.refl _ _, keepFour' b8 n4 S6b.2.1, keepFive b8 (by omega) S6b.2.2⟩
  clear b8 o7 o6 g7 g8 D7 D6 D6b S6 S6b hm7 o8 z4 z5 z6 z7 z8 n4
  have RI : Hid (∀ w', Sees w8 w.heap.size r p q s t w' → Calls Try.prog 25 #[pk p q s t] w' fun e w'' => e = .returned (.bool (rightB p q s t)) ∧ Below w'.heap.size w' w'') := fun w' _ => right_any p q s t w'
  have LE : Hid (∀ w', Sees w8 w.heap.size r p q s t w' → Calls Try.prog 22 #[v8, pk p q s t] w' fun e w'' => e = .returned (.bool (letsB (l ++ (allR false :: more)) p q s t)) ∧ Below w'.heap.size w' w'') := fun w' h => lets_any p q s t w' ((E8.out.below h.1).mono h.1.size)
  have LL : Hid (∀ w', Sees w8 w.heap.size r p q s t w' → Calls Try.prog 22 #[vl, pk p q s t] w' fun e w'' => e = .returned (.bool (letsB l p q s t)) ∧ Below w'.heap.size w' w'') := fun w' h => lets_any p q s t w' ((hl.out.below (h.all D8)).mono (h.all D8).size)
  have hEq : Hid (rightB p q s t = true → letsB (l ++ (allR false :: more)) p q s t = letsB l p q s t) := fun h => letsB_ended l more (right_all h)
  generalize letsB (l ++ (allR false :: more)) p q s t = X at LE hEq
  generalize rightB p q s t = R at RI hEq
  have S8d := S8.drew
  clear E8 hm
  go_wp2_with (first | (at_builtin; refine append_run rfl _ _ 44 rfl rfl rfl hr7 ?_) | (at_builtin; refine append_run rfl _ _ 44 rfl rfl rfl hr8 ?_))
  clear hr7 hr8
  cases R
  · refine wp_region_held_drew (S := (fun w' => w'.cell? ⟨w.heap.size + 1, 0, none⟩ = some (.int .i64 p) ∧ w'.cell? ⟨w.heap.size + 1, 1, none⟩ = some (.int .i64 q) ∧ w'.cell? ⟨w.heap.size + 1, 2, none⟩ = some (.int .i64 s) ∧ w'.cell? ⟨w.heap.size + 1, 3, none⟩ = some (.int .i64 t))) (by kernel_rfl) (Sees.four (by assumption)) (fun hHeld => ?_)
    refine' wpAnyH_take (i := 0) (v := _) rfl (by kernel_rfl) (by kernel_rfl) (by kernel_rfl) (fun _ _ _ h => h) (Or.inl ⟨by rfl, ?gy1⟩) (by assumption) ?gr1
    case gy1 => (intro w hSw; (try dsimp only at hSw); go_simp; (try with_reducible rfl))
    try simp only [List.getElem_toArray, List.getElem_cons_zero, Act.put, List.setIfInBounds_toArray, List.set_cons_zero, List.set_cons_succ]
    refine wpAnyH_ready (rs := [1]) (by kernel_rfl) (by simp) (AllReadyH.cons rfl (fun K hK => ?_) AllReadyH.nil)
    go_simp
    refine (RI.out _ (by assumption)).mono ?_; rintro e wz ⟨rfl, hbz⟩; have hz := Sees.step (by assumption) hbz; clear hbz
    try go_wp2_with fail
    clear hHeld
    refine hK.out _ _ (Sees.four (by assumption)) (fun hHeld => ?_)
    clear hK K
    try simp only [List.getElem_toArray, List.getElem_cons_zero, List.getElem_cons_succ, Act.put, List.setIfInBounds_toArray, List.set_cons_zero, List.set_cons_succ]
    refine' wpAnyH_take (i := 2) (v := _) rfl (by kernel_rfl) (by kernel_rfl) (by kernel_rfl) (fun _ _ _ h => h) (Or.inl ⟨by rfl, ?gy3⟩) (by assumption) ?gr3
    case gy3 => (intro w hSw; (try dsimp only at hSw); go_simp; (try with_reducible rfl))
    try simp only [List.getElem_toArray, List.getElem_cons_zero, List.getElem_cons_succ, Act.put, List.setIfInBounds_toArray, List.set_cons_zero, List.set_cons_succ]
    refine' wpAnyH_take (i := 3) (v := undef) rfl (by kernel_rfl) (by kernel_rfl) (by kernel_rfl) (fun _ _ _ h => h) (Or.inr ⟨by rfl, rfl⟩) (by assumption) ?gr4
    try simp only [List.getElem_toArray, List.getElem_cons_zero, List.getElem_cons_succ, Act.put, List.setIfInBounds_toArray, List.set_cons_zero, List.set_cons_succ]
    refine' wpAnyH_take (i := 4) (v := undef) rfl (by kernel_rfl) (by kernel_rfl) (by kernel_rfl) (fun _ _ _ h => h) (Or.inr ⟨by rfl, rfl⟩) (by assumption) ?gr5
    try simp only [List.getElem_toArray, List.getElem_cons_zero, List.getElem_cons_succ, Act.put, List.setIfInBounds_toArray, List.set_cons_zero, List.set_cons_succ]
    refine' wpAnyH_take (i := 5) (v := undef) rfl (by kernel_rfl) (by kernel_rfl) (by kernel_rfl) (fun _ _ _ h => h) (Or.inr ⟨by rfl, rfl⟩) (by assumption) ?gr6
    try simp only [List.getElem_toArray, List.getElem_cons_zero, List.getElem_cons_succ, Act.put, List.setIfInBounds_toArray, List.set_cons_zero, List.set_cons_succ]
    refine' wpAnyH_take (i := 6) (v := undef) rfl (by kernel_rfl) (by kernel_rfl) (by kernel_rfl) (fun _ _ _ h => h) (Or.inr ⟨by rfl, rfl⟩) (by assumption) ?gr7
    try simp only [List.getElem_toArray, List.getElem_cons_zero, List.getElem_cons_succ, Act.put, List.setIfInBounds_toArray, List.set_cons_zero, List.set_cons_succ]
    refine' wpAnyH_take (i := 7) (v := undef) rfl (by kernel_rfl) (by kernel_rfl) (by kernel_rfl) (fun _ _ _ h => h) (Or.inr ⟨by rfl, rfl⟩) (by assumption) ?gr8
    try simp only [List.getElem_toArray, List.getElem_cons_zero, List.getElem_cons_succ, Act.put, List.setIfInBounds_toArray, List.set_cons_zero, List.set_cons_succ]
    refine' wpAnyH_take (i := 8) (v := undef) rfl (by kernel_rfl) (by kernel_rfl) (by kernel_rfl) (fun _ _ _ h => h) (Or.inr ⟨by rfl, rfl⟩) (by assumption) ?gr9
    try simp only [List.getElem_toArray, List.getElem_cons_zero, List.getElem_cons_succ, Act.put, List.setIfInBounds_toArray, List.set_cons_zero, List.set_cons_succ]
    refine' wpAnyH_take (i := 9) (v := undef) rfl (by kernel_rfl) (by kernel_rfl) (by kernel_rfl) (fun _ _ _ h => h) (Or.inr ⟨by rfl, rfl⟩) (by assumption) ?gr10
    try simp only [List.getElem_toArray, List.getElem_cons_zero, List.getElem_cons_succ, Act.put, List.setIfInBounds_toArray, List.set_cons_zero, List.set_cons_succ]
    refine' wpAnyH_take (i := 10) (v := _) rfl (by kernel_rfl) (by kernel_rfl) (by kernel_rfl) (fun _ _ _ h => h) (Or.inl ⟨by rfl, ?gy11⟩) (by assumption) ?gr11
    case gy11 => (intro w hSw; (try dsimp only at hSw); go_simp; (try with_reducible rfl))
    try simp only [List.getElem_toArray, List.getElem_cons_zero, List.getElem_cons_succ, Act.put, List.setIfInBounds_toArray, List.set_cons_zero, List.set_cons_succ]
    refine wpAnyH_done (by kernel_rfl) ?_ _
    clear RI LE
    obtain ⟨⟨c0, c1, c2, c3⟩, ⟨e0, e1, e2, e3, e4⟩⟩ := hz.cells
    have lz := hz.lt
    have D9 := Sees.all D8 hz
    have S9 := hz.alloc (.cells #[.bool r.ok, .int .u16 (r.a : Int), .int .u16 (r.b : Int), .int .u8 (r.c : Int), .int .u8 (r.d : Int)] 46)
    have D9b := Sees.all D8 S9
    have o9 := one_own wz r
    have R9 := (hl.out.below D9b).mono (base' := (wz.alloc (.cells #[.bool r.ok, .int .u16 (r.a : Int), .int .u16 (r.b : Int), .int .u8 (r.c : Int), .int .u8 (r.d : Int)] 46)).heap.size) (by have := D9.size; simp; omega)
    obtain ⟨va, wa, hra, oa, ga⟩ := app_rules 44 o9 R9 (by have := hs.out; simp only [List.length_cons, List.length_nil]; omega) (by simp)
    have Sa : See2 w8 wa w.heap.size r p q s t wa := ⟨S9.grown ga (fun k e => (o9.lt k e).1) lz hz.1.size, Below.refl _ _⟩
    have Ra : Rules wa.heap.size wa va (r :: l) := Rules.own oa
    have LA : Hid (∀ w', See2 w8 wa w.heap.size r p q s t w' → Calls Try.prog 22 #[va, pk p q s t] w' fun e w'' => e = .returned (.bool (if inR r p q s t then r.ok else letsB l p q s t)) ∧ Below w'.heap.size w' w'') := fun w' h => lets_any p q s t w' ((Ra.below h.2).mono h.2.size)
    have LB : Hid (∀ w', See2 w8 wa w.heap.size r p q s t w' → Calls Try.prog 22 #[vl, pk p q s t] w' fun e w'' => e = .returned (.bool (letsB l p q s t)) ∧ Below w'.heap.size w' w'') := fun w' h => LL.out w' h.1
    have IN : Hid (∀ w', Calls Try.prog 20 #[mt r.a r.b r.c r.d, pk p q s t] w' fun e w'' => e = .returned (.bool (inR r p q s t)) ∧ Below w'.heap.size w' w'') := fun w' => in_any r.a r.b r.c r.d p q s t w' r.ha r.hb r.hc r.hd
    generalize inR r p q s t = I at *
    generalize letsB l p q s t = Y at *
    clear oa ga Ra R9 o9 D9 D9b S9 LL S8 S8d
    obtain ⟨⟨d0, d1, d2, d3⟩, ⟨k0, k1, k2, k3, k4⟩⟩ := Sa.1.cells
    go_wp2_with (at_builtin; refine append_run rfl _ _ 44 rfl rfl rfl hra ?_)
    refine (IN.out _).mono ?_
    rintro e wb ⟨rfl, hbb⟩
    have Sb := See2.step Sa hbb
    have Sb' := Sb.drew
    obtain ⟨⟨m0, m1, m2, m3⟩, ⟨n0, n1, n2, n3, n4⟩⟩ := Sb.1.cells
    clear hbb hra Sa IN hz d0 d1 d2 d3 k0 k1 k2 k3 k4 c0 c1 c2 c3 e0 e1 e2 e3 e4
    cases I
    · rw [if_neg (by simp)] at LA
      go_wp2_with fail
      refine wp_region_held_drew (S := (fun w' => w'.cell? ⟨w.heap.size + 1, 0, none⟩ = some (.int .i64 p) ∧ w'.cell? ⟨w.heap.size + 1, 1, none⟩ = some (.int .i64 q) ∧ w'.cell? ⟨w.heap.size + 1, 2, none⟩ = some (.int .i64 s) ∧ w'.cell? ⟨w.heap.size + 1, 3, none⟩ = some (.int .i64 t))) (by kernel_rfl) (See2.four (by assumption)) (fun hHeld => ?_)
      refine' wpAnyH_take (i := 0) (v := _) rfl (by kernel_rfl) (by kernel_rfl) (by kernel_rfl) (fun _ _ _ h => h) (Or.inl ⟨by rfl, ?gy13⟩) (by assumption) ?gr13
      case gy13 => (intro w hSw; (try dsimp only at hSw); go_simp; (try with_reducible rfl))
      try simp only [List.getElem_toArray, List.getElem_cons_zero, Act.put, List.setIfInBounds_toArray, List.set_cons_zero, List.set_cons_succ]
      refine' wpAnyH_take (i := 1) (v := _) rfl (by kernel_rfl) (by kernel_rfl) (by kernel_rfl) (fun _ _ _ h => h) (Or.inl ⟨by rfl, ?gy14⟩) (by assumption) ?gr14
      case gy14 => (intro w hSw; (try dsimp only at hSw); go_simp; (try with_reducible rfl))
      try simp only [List.getElem_toArray, List.getElem_cons_zero, List.getElem_cons_succ, Act.put, List.setIfInBounds_toArray, List.set_cons_zero, List.set_cons_succ]
      refine' wpAnyH_take (i := 3) (v := _) rfl (by kernel_rfl) (by kernel_rfl) (by kernel_rfl) (fun _ _ _ h => h) (Or.inl ⟨by rfl, ?gy15⟩) (by assumption) ?gr15
      case gy15 => (intro w hSw; (try dsimp only at hSw); go_simp; (try with_reducible rfl))
      try simp only [List.getElem_toArray, List.getElem_cons_zero, List.getElem_cons_succ, Act.put, List.setIfInBounds_toArray, List.set_cons_zero, List.set_cons_succ]
      refine' wpAnyH_take (i := 4) (v := _) rfl (by kernel_rfl) (by kernel_rfl) (by kernel_rfl) (fun _ _ _ h => h) (Or.inl ⟨by rfl, ?gy16⟩) (by assumption) ?gr16
      case gy16 => (intro w hSw; (try dsimp only at hSw); go_simp; (try with_reducible rfl))
      try simp only [List.getElem_toArray, List.getElem_cons_zero, List.getElem_cons_succ, Act.put, List.setIfInBounds_toArray, List.set_cons_zero, List.set_cons_succ]
      refine wpAnyH_ready (rs := [2]) (by kernel_rfl) (by simp) (AllReadyH.cons rfl (fun K hK => ?_) AllReadyH.nil)
      go_simp
      refine (LA.out _ (by assumption)).mono ?_; rintro e wz ⟨rfl, hbz⟩; have hz := See2.step (by assumption) hbz; clear hbz
      try go_wp2_with fail
      clear hHeld
      refine hK.out _ _ (See2.four (by assumption)) (fun hHeld => ?_)
      clear hK K
      try simp only [List.getElem_toArray, List.getElem_cons_zero, List.getElem_cons_succ, Act.put, List.setIfInBounds_toArray, List.set_cons_zero, List.set_cons_succ]
      refine wpAnyH_ready (rs := [5]) (by kernel_rfl) (by simp) (AllReadyH.cons rfl (fun K hK => ?_) AllReadyH.nil)
      go_simp
      refine (LB.out _ (by assumption)).mono ?_; rintro e wz ⟨rfl, hbz⟩; have hz := See2.step (by assumption) hbz; clear hbz
      try go_wp2_with fail
      clear hHeld
      refine hK.out _ _ (See2.four (by assumption)) (fun hHeld => ?_)
      clear hK K
      try simp only [List.getElem_toArray, List.getElem_cons_zero, List.getElem_cons_succ, Act.put, List.setIfInBounds_toArray, List.set_cons_zero, List.set_cons_succ]
      refine' wpAnyH_take (i := 6) (v := _) rfl (by kernel_rfl) (by kernel_rfl) (by kernel_rfl) (fun _ _ _ h => h) (Or.inl ⟨by rfl, ?gy19⟩) (by assumption) ?gr19
      case gy19 => (intro w hSw; (try dsimp only at hSw); go_simp; (try with_reducible rfl))
      try simp only [List.getElem_toArray, List.getElem_cons_zero, List.getElem_cons_succ, Act.put, List.setIfInBounds_toArray, List.set_cons_zero, List.set_cons_succ]
      refine' wpAnyH_take (i := 7) (v := _) rfl (by kernel_rfl) (by kernel_rfl) (by kernel_rfl) (fun _ _ _ h => h) (Or.inl ⟨by rfl, ?gy20⟩) (by assumption) ?gr20
      case gy20 => (intro w hSw; (try dsimp only at hSw); go_simp; (try with_reducible rfl))
      try simp only [List.getElem_toArray, List.getElem_cons_zero, List.getElem_cons_succ, Act.put, List.setIfInBounds_toArray, List.set_cons_zero, List.set_cons_succ]
      refine wpAnyH_done (by kernel_rfl) ?_ _
      go_wp2_with fail
      go_ret
      exact ⟨by simp, Sees.all D8 (See2.one (by assumption))⟩
    · rw [if_pos rfl] at LA
      go_wp2_with fail
      refine wp_region_held_drew (S := (fun w' => (w'.cell? ⟨w.heap.size + 1, 0, none⟩ = some (.int .i64 p) ∧ w'.cell? ⟨w.heap.size + 1, 1, none⟩ = some (.int .i64 q) ∧ w'.cell? ⟨w.heap.size + 1, 2, none⟩ = some (.int .i64 s) ∧ w'.cell? ⟨w.heap.size + 1, 3, none⟩ = some (.int .i64 t)) ∧ w'.cell? ⟨w.heap.size, 0, none⟩ = some (.bool r.ok))) (by kernel_rfl) (See2.five (by assumption)) (fun hHeld => ?_)
      refine' wpAnyH_take (i := 0) (v := _) rfl (by kernel_rfl) (by kernel_rfl) (by kernel_rfl) (fun _ _ _ h => h) (Or.inl ⟨by rfl, ?gy22⟩) (by assumption) ?gr22
      case gy22 => (intro w hSw; (try dsimp only at hSw); go_simp; (try with_reducible rfl))
      try simp only [List.getElem_toArray, List.getElem_cons_zero, Act.put, List.setIfInBounds_toArray, List.set_cons_zero, List.set_cons_succ]
      refine' wpAnyH_take (i := 1) (v := _) rfl (by kernel_rfl) (by kernel_rfl) (by kernel_rfl) (fun _ _ _ h => h) (Or.inl ⟨by rfl, ?gy23⟩) (by assumption) ?gr23
      case gy23 => (intro w hSw; (try dsimp only at hSw); go_simp; (try with_reducible rfl))
      try simp only [List.getElem_toArray, List.getElem_cons_zero, List.getElem_cons_succ, Act.put, List.setIfInBounds_toArray, List.set_cons_zero, List.set_cons_succ]
      refine' wpAnyH_take (i := 3) (v := _) rfl (by kernel_rfl) (by kernel_rfl) (by kernel_rfl) (fun _ _ _ h => h) (Or.inl ⟨by rfl, ?gy24⟩) (by assumption) ?gr24
      case gy24 => (intro w hSw; (try dsimp only at hSw); go_simp; (try with_reducible rfl))
      try simp only [List.getElem_toArray, List.getElem_cons_zero, List.getElem_cons_succ, Act.put, List.setIfInBounds_toArray, List.set_cons_zero, List.set_cons_succ]
      refine' wpAnyH_take (i := 4) (v := _) rfl (by kernel_rfl) (by kernel_rfl) (by kernel_rfl) (fun _ _ _ h => h) (Or.inl ⟨by rfl, ?gy25⟩) (by assumption) ?gr25
      case gy25 => (intro w hSw; (try dsimp only at hSw); go_simp; (try with_reducible rfl))
      try simp only [List.getElem_toArray, List.getElem_cons_zero, List.getElem_cons_succ, Act.put, List.setIfInBounds_toArray, List.set_cons_zero, List.set_cons_succ]
      refine wpAnyH_ready (rs := [2]) (by kernel_rfl) (by simp) (AllReadyH.cons rfl (fun K hK => ?_) AllReadyH.nil)
      go_simp
      refine (LA.out _ (by assumption)).mono ?_; rintro e wz ⟨rfl, hbz⟩; have hz := See2.step (by assumption) hbz; clear hbz
      try go_wp2_with fail
      clear hHeld
      refine hK.out _ _ (See2.five (by assumption)) (fun hHeld => ?_)
      clear hK K
      try simp only [List.getElem_toArray, List.getElem_cons_zero, List.getElem_cons_succ, Act.put, List.setIfInBounds_toArray, List.set_cons_zero, List.set_cons_succ]
      refine' wpAnyH_take (i := 5) (v := _) rfl (by kernel_rfl) (by kernel_rfl) (by kernel_rfl) (fun _ _ _ h => h) (Or.inl ⟨by rfl, ?gy27⟩) (by assumption) ?gr27
      case gy27 => (intro w hSw; (try dsimp only at hSw); go_simp; (try with_reducible rfl))
      try simp only [List.getElem_toArray, List.getElem_cons_zero, List.getElem_cons_succ, Act.put, List.setIfInBounds_toArray, List.set_cons_zero, List.set_cons_succ]
      refine' wpAnyH_take (i := 6) (v := _) rfl (by kernel_rfl) (by kernel_rfl) (by kernel_rfl) (fun _ _ _ h => h) (Or.inl ⟨by rfl, ?gy28⟩) (by assumption) ?gr28
      case gy28 => (intro w hSw; (try dsimp only at hSw); go_simp; (try with_reducible rfl))
      try simp only [List.getElem_toArray, List.getElem_cons_zero, List.getElem_cons_succ, Act.put, List.setIfInBounds_toArray, List.set_cons_zero, List.set_cons_succ]
      refine wpAnyH_done (by kernel_rfl) ?_ _
      go_wp2_with fail
      go_ret
      exact ⟨by simp, Sees.all D8 (See2.one (by assumption))⟩
  · have hE := hEq.out rfl
    rw [hE] at LE
    clear hE hEq
    refine wp_region_held_drew (S := (fun w' => w'.cell? ⟨w.heap.size + 1, 0, none⟩ = some (.int .i64 p) ∧ w'.cell? ⟨w.heap.size + 1, 1, none⟩ = some (.int .i64 q) ∧ w'.cell? ⟨w.heap.size + 1, 2, none⟩ = some (.int .i64 s) ∧ w'.cell? ⟨w.heap.size + 1, 3, none⟩ = some (.int .i64 t))) (by kernel_rfl) (Sees.four (by assumption)) (fun hHeld => ?_)
    refine' wpAnyH_take (i := 0) (v := _) rfl (by kernel_rfl) (by kernel_rfl) (by kernel_rfl) (fun _ _ _ h => h) (Or.inl ⟨by rfl, ?gy30⟩) (by assumption) ?gr30
    case gy30 => (intro w hSw; (try dsimp only at hSw); go_simp; (try with_reducible rfl))
    try simp only [List.getElem_toArray, List.getElem_cons_zero, Act.put, List.setIfInBounds_toArray, List.set_cons_zero, List.set_cons_succ]
    refine wpAnyH_ready (rs := [1]) (by kernel_rfl) (by simp) (AllReadyH.cons rfl (fun K hK => ?_) AllReadyH.nil)
    go_simp
    refine (RI.out _ (by assumption)).mono ?_; rintro e wz ⟨rfl, hbz⟩; have hz := Sees.step (by assumption) hbz; clear hbz
    try go_wp2_with fail
    clear hHeld
    refine hK.out _ _ (Sees.four (by assumption)) (fun hHeld => ?_)
    clear hK K
    try simp only [List.getElem_toArray, List.getElem_cons_zero, List.getElem_cons_succ, Act.put, List.setIfInBounds_toArray, List.set_cons_zero, List.set_cons_succ]
    refine' wpAnyH_take (i := 2) (v := _) rfl (by kernel_rfl) (by kernel_rfl) (by kernel_rfl) (fun _ _ _ h => h) (Or.inl ⟨by rfl, ?gy32⟩) (by assumption) ?gr32
    case gy32 => (intro w hSw; (try dsimp only at hSw); go_simp; (try with_reducible rfl))
    try simp only [List.getElem_toArray, List.getElem_cons_zero, List.getElem_cons_succ, Act.put, List.setIfInBounds_toArray, List.set_cons_zero, List.set_cons_succ]
    refine' wpAnyH_take (i := 3) (v := _) rfl (by kernel_rfl) (by kernel_rfl) (by kernel_rfl) (fun _ _ _ h => h) (Or.inl ⟨by rfl, ?gy33⟩) (by assumption) ?gr33
    case gy33 => (intro w hSw; (try dsimp only at hSw); go_simp; (try with_reducible rfl))
    try simp only [List.getElem_toArray, List.getElem_cons_zero, List.getElem_cons_succ, Act.put, List.setIfInBounds_toArray, List.set_cons_zero, List.set_cons_succ]
    refine' wpAnyH_take (i := 4) (v := _) rfl (by kernel_rfl) (by kernel_rfl) (by kernel_rfl) (fun _ _ _ h => h) (Or.inl ⟨by rfl, ?gy34⟩) (by assumption) ?gr34
    case gy34 => (intro w hSw; (try dsimp only at hSw); go_simp; (try with_reducible rfl))
    try simp only [List.getElem_toArray, List.getElem_cons_zero, List.getElem_cons_succ, Act.put, List.setIfInBounds_toArray, List.set_cons_zero, List.set_cons_succ]
    refine' wpAnyH_take (i := 6) (v := _) rfl (by kernel_rfl) (by kernel_rfl) (by kernel_rfl) (fun _ _ _ h => h) (Or.inl ⟨by rfl, ?gy35⟩) (by assumption) ?gr35
    case gy35 => (intro w hSw; (try dsimp only at hSw); go_simp; (try with_reducible rfl))
    try simp only [List.getElem_toArray, List.getElem_cons_zero, List.getElem_cons_succ, Act.put, List.setIfInBounds_toArray, List.set_cons_zero, List.set_cons_succ]
    refine' wpAnyH_take (i := 7) (v := _) rfl (by kernel_rfl) (by kernel_rfl) (by kernel_rfl) (fun _ _ _ h => h) (Or.inl ⟨by rfl, ?gy36⟩) (by assumption) ?gr36
    case gy36 => (intro w hSw; (try dsimp only at hSw); go_simp; (try with_reducible rfl))
    try simp only [List.getElem_toArray, List.getElem_cons_zero, List.getElem_cons_succ, Act.put, List.setIfInBounds_toArray, List.set_cons_zero, List.set_cons_succ]
    refine wpAnyH_ready (rs := [5]) (by kernel_rfl) (by simp) (AllReadyH.cons rfl (fun K hK => ?_) AllReadyH.nil)
    go_simp
    refine (LE.out _ (by assumption)).mono ?_; rintro e wz ⟨rfl, hbz⟩; have hz := Sees.step (by assumption) hbz; clear hbz
    try go_wp2_with fail
    clear hHeld
    refine hK.out _ _ (Sees.four (by assumption)) (fun hHeld => ?_)
    clear hK K
    try simp only [List.getElem_toArray, List.getElem_cons_zero, List.getElem_cons_succ, Act.put, List.setIfInBounds_toArray, List.set_cons_zero, List.set_cons_succ]
    refine wpAnyH_ready (rs := [8]) (by kernel_rfl) (by simp) (AllReadyH.cons rfl (fun K hK => ?_) AllReadyH.nil)
    go_simp
    refine (LL.out _ (by assumption)).mono ?_; rintro e wz ⟨rfl, hbz⟩; have hz := Sees.step (by assumption) hbz; clear hbz
    try go_wp2_with fail
    clear hHeld
    refine hK.out _ _ (Sees.four (by assumption)) (fun hHeld => ?_)
    clear hK K
    try simp only [List.getElem_toArray, List.getElem_cons_zero, List.getElem_cons_succ, Act.put, List.setIfInBounds_toArray, List.set_cons_zero, List.set_cons_succ]
    refine' wpAnyH_take (i := 9) (v := _) rfl (by kernel_rfl) (by kernel_rfl) (by kernel_rfl) (fun _ _ _ h => h) (Or.inl ⟨by rfl, ?gy39⟩) (by assumption) ?gr39
    case gy39 => (intro w hSw; (try dsimp only at hSw); go_simp; (try with_reducible rfl))
    try simp only [List.getElem_toArray, List.getElem_cons_zero, List.getElem_cons_succ, Act.put, List.setIfInBounds_toArray, List.set_cons_zero, List.set_cons_succ]
    refine' wpAnyH_take (i := 10) (v := _) rfl (by kernel_rfl) (by kernel_rfl) (by kernel_rfl) (fun _ _ _ h => h) (Or.inl ⟨by rfl, ?gy40⟩) (by assumption) ?gr40
    case gy40 => (intro w hSw; (try dsimp only at hSw); go_simp; (try with_reducible rfl))
    try simp only [List.getElem_toArray, List.getElem_cons_zero, List.getElem_cons_succ, Act.put, List.setIfInBounds_toArray, List.set_cons_zero, List.set_cons_succ]
    refine wpAnyH_done (by kernel_rfl) ?_ _
    clear RI LE
    obtain ⟨⟨c0, c1, c2, c3⟩, ⟨e0, e1, e2, e3, e4⟩⟩ := hz.cells
    have lz := hz.lt
    have D9 := Sees.all D8 hz
    have S9 := hz.alloc (.cells #[.bool r.ok, .int .u16 (r.a : Int), .int .u16 (r.b : Int), .int .u8 (r.c : Int), .int .u8 (r.d : Int)] 46)
    have D9b := Sees.all D8 S9
    have o9 := one_own wz r
    have R9 := (hl.out.below D9b).mono (base' := (wz.alloc (.cells #[.bool r.ok, .int .u16 (r.a : Int), .int .u16 (r.b : Int), .int .u8 (r.c : Int), .int .u8 (r.d : Int)] 46)).heap.size) (by have := D9.size; simp; omega)
    obtain ⟨va, wa, hra, oa, ga⟩ := app_rules 44 o9 R9 (by have := hs.out; simp only [List.length_cons, List.length_nil]; omega) (by simp)
    have Sa : See2 w8 wa w.heap.size r p q s t wa := ⟨S9.grown ga (fun k e => (o9.lt k e).1) lz hz.1.size, Below.refl _ _⟩
    have Ra : Rules wa.heap.size wa va (r :: l) := Rules.own oa
    have LA : Hid (∀ w', See2 w8 wa w.heap.size r p q s t w' → Calls Try.prog 22 #[va, pk p q s t] w' fun e w'' => e = .returned (.bool (if inR r p q s t then r.ok else letsB l p q s t)) ∧ Below w'.heap.size w' w'') := fun w' h => lets_any p q s t w' ((Ra.below h.2).mono h.2.size)
    have LB : Hid (∀ w', See2 w8 wa w.heap.size r p q s t w' → Calls Try.prog 22 #[vl, pk p q s t] w' fun e w'' => e = .returned (.bool (letsB l p q s t)) ∧ Below w'.heap.size w' w'') := fun w' h => LL.out w' h.1
    have IN : Hid (∀ w', Calls Try.prog 20 #[mt r.a r.b r.c r.d, pk p q s t] w' fun e w'' => e = .returned (.bool (inR r p q s t)) ∧ Below w'.heap.size w' w'') := fun w' => in_any r.a r.b r.c r.d p q s t w' r.ha r.hb r.hc r.hd
    generalize inR r p q s t = I at *
    generalize letsB l p q s t = Y at *
    clear oa ga Ra R9 o9 D9 D9b S9 LL S8 S8d
    obtain ⟨⟨d0, d1, d2, d3⟩, ⟨k0, k1, k2, k3, k4⟩⟩ := Sa.1.cells
    go_wp2_with (at_builtin; refine append_run rfl _ _ 44 rfl rfl rfl hra ?_)
    refine (IN.out _).mono ?_
    rintro e wb ⟨rfl, hbb⟩
    have Sb := See2.step Sa hbb
    have Sb' := Sb.drew
    obtain ⟨⟨m0, m1, m2, m3⟩, ⟨n0, n1, n2, n3, n4⟩⟩ := Sb.1.cells
    clear hbb hra Sa IN hz d0 d1 d2 d3 k0 k1 k2 k3 k4 c0 c1 c2 c3 e0 e1 e2 e3 e4
    cases I
    · rw [if_neg (by simp)] at LA
      go_wp2_with fail
      refine wp_region_held_drew (S := (fun w' => w'.cell? ⟨w.heap.size + 1, 0, none⟩ = some (.int .i64 p) ∧ w'.cell? ⟨w.heap.size + 1, 1, none⟩ = some (.int .i64 q) ∧ w'.cell? ⟨w.heap.size + 1, 2, none⟩ = some (.int .i64 s) ∧ w'.cell? ⟨w.heap.size + 1, 3, none⟩ = some (.int .i64 t))) (by kernel_rfl) (See2.four (by assumption)) (fun hHeld => ?_)
      refine' wpAnyH_take (i := 0) (v := _) rfl (by kernel_rfl) (by kernel_rfl) (by kernel_rfl) (fun _ _ _ h => h) (Or.inl ⟨by rfl, ?gy42⟩) (by assumption) ?gr42
      case gy42 => (intro w hSw; (try dsimp only at hSw); go_simp; (try with_reducible rfl))
      try simp only [List.getElem_toArray, List.getElem_cons_zero, Act.put, List.setIfInBounds_toArray, List.set_cons_zero, List.set_cons_succ]
      refine' wpAnyH_take (i := 1) (v := _) rfl (by kernel_rfl) (by kernel_rfl) (by kernel_rfl) (fun _ _ _ h => h) (Or.inl ⟨by rfl, ?gy43⟩) (by assumption) ?gr43
      case gy43 => (intro w hSw; (try dsimp only at hSw); go_simp; (try with_reducible rfl))
      try simp only [List.getElem_toArray, List.getElem_cons_zero, List.getElem_cons_succ, Act.put, List.setIfInBounds_toArray, List.set_cons_zero, List.set_cons_succ]
      refine' wpAnyH_take (i := 3) (v := _) rfl (by kernel_rfl) (by kernel_rfl) (by kernel_rfl) (fun _ _ _ h => h) (Or.inl ⟨by rfl, ?gy44⟩) (by assumption) ?gr44
      case gy44 => (intro w hSw; (try dsimp only at hSw); go_simp; (try with_reducible rfl))
      try simp only [List.getElem_toArray, List.getElem_cons_zero, List.getElem_cons_succ, Act.put, List.setIfInBounds_toArray, List.set_cons_zero, List.set_cons_succ]
      refine' wpAnyH_take (i := 4) (v := _) rfl (by kernel_rfl) (by kernel_rfl) (by kernel_rfl) (fun _ _ _ h => h) (Or.inl ⟨by rfl, ?gy45⟩) (by assumption) ?gr45
      case gy45 => (intro w hSw; (try dsimp only at hSw); go_simp; (try with_reducible rfl))
      try simp only [List.getElem_toArray, List.getElem_cons_zero, List.getElem_cons_succ, Act.put, List.setIfInBounds_toArray, List.set_cons_zero, List.set_cons_succ]
      refine wpAnyH_ready (rs := [2]) (by kernel_rfl) (by simp) (AllReadyH.cons rfl (fun K hK => ?_) AllReadyH.nil)
      go_simp
      refine (LA.out _ (by assumption)).mono ?_; rintro e wz ⟨rfl, hbz⟩; have hz := See2.step (by assumption) hbz; clear hbz
      try go_wp2_with fail
      clear hHeld
      refine hK.out _ _ (See2.four (by assumption)) (fun hHeld => ?_)
      clear hK K
      try simp only [List.getElem_toArray, List.getElem_cons_zero, List.getElem_cons_succ, Act.put, List.setIfInBounds_toArray, List.set_cons_zero, List.set_cons_succ]
      refine wpAnyH_ready (rs := [5]) (by kernel_rfl) (by simp) (AllReadyH.cons rfl (fun K hK => ?_) AllReadyH.nil)
      go_simp
      refine (LB.out _ (by assumption)).mono ?_; rintro e wz ⟨rfl, hbz⟩; have hz := See2.step (by assumption) hbz; clear hbz
      try go_wp2_with fail
      clear hHeld
      refine hK.out _ _ (See2.four (by assumption)) (fun hHeld => ?_)
      clear hK K
      try simp only [List.getElem_toArray, List.getElem_cons_zero, List.getElem_cons_succ, Act.put, List.setIfInBounds_toArray, List.set_cons_zero, List.set_cons_succ]
      refine' wpAnyH_take (i := 6) (v := _) rfl (by kernel_rfl) (by kernel_rfl) (by kernel_rfl) (fun _ _ _ h => h) (Or.inl ⟨by rfl, ?gy48⟩) (by assumption) ?gr48
      case gy48 => (intro w hSw; (try dsimp only at hSw); go_simp; (try with_reducible rfl))
      try simp only [List.getElem_toArray, List.getElem_cons_zero, List.getElem_cons_succ, Act.put, List.setIfInBounds_toArray, List.set_cons_zero, List.set_cons_succ]
      refine' wpAnyH_take (i := 7) (v := _) rfl (by kernel_rfl) (by kernel_rfl) (by kernel_rfl) (fun _ _ _ h => h) (Or.inl ⟨by rfl, ?gy49⟩) (by assumption) ?gr49
      case gy49 => (intro w hSw; (try dsimp only at hSw); go_simp; (try with_reducible rfl))
      try simp only [List.getElem_toArray, List.getElem_cons_zero, List.getElem_cons_succ, Act.put, List.setIfInBounds_toArray, List.set_cons_zero, List.set_cons_succ]
      refine wpAnyH_done (by kernel_rfl) ?_ _
      go_wp2_with fail
      go_ret
      exact ⟨by simp, Sees.all D8 (See2.one (by assumption))⟩
    · rw [if_pos rfl] at LA
      go_wp2_with fail
      refine wp_region_held_drew (S := (fun w' => (w'.cell? ⟨w.heap.size + 1, 0, none⟩ = some (.int .i64 p) ∧ w'.cell? ⟨w.heap.size + 1, 1, none⟩ = some (.int .i64 q) ∧ w'.cell? ⟨w.heap.size + 1, 2, none⟩ = some (.int .i64 s) ∧ w'.cell? ⟨w.heap.size + 1, 3, none⟩ = some (.int .i64 t)) ∧ w'.cell? ⟨w.heap.size, 0, none⟩ = some (.bool r.ok))) (by kernel_rfl) (See2.five (by assumption)) (fun hHeld => ?_)
      refine' wpAnyH_take (i := 0) (v := _) rfl (by kernel_rfl) (by kernel_rfl) (by kernel_rfl) (fun _ _ _ h => h) (Or.inl ⟨by rfl, ?gy51⟩) (by assumption) ?gr51
      case gy51 => (intro w hSw; (try dsimp only at hSw); go_simp; (try with_reducible rfl))
      try simp only [List.getElem_toArray, List.getElem_cons_zero, Act.put, List.setIfInBounds_toArray, List.set_cons_zero, List.set_cons_succ]
      refine' wpAnyH_take (i := 1) (v := _) rfl (by kernel_rfl) (by kernel_rfl) (by kernel_rfl) (fun _ _ _ h => h) (Or.inl ⟨by rfl, ?gy52⟩) (by assumption) ?gr52
      case gy52 => (intro w hSw; (try dsimp only at hSw); go_simp; (try with_reducible rfl))
      try simp only [List.getElem_toArray, List.getElem_cons_zero, List.getElem_cons_succ, Act.put, List.setIfInBounds_toArray, List.set_cons_zero, List.set_cons_succ]
      refine' wpAnyH_take (i := 3) (v := _) rfl (by kernel_rfl) (by kernel_rfl) (by kernel_rfl) (fun _ _ _ h => h) (Or.inl ⟨by rfl, ?gy53⟩) (by assumption) ?gr53
      case gy53 => (intro w hSw; (try dsimp only at hSw); go_simp; (try with_reducible rfl))
      try simp only [List.getElem_toArray, List.getElem_cons_zero, List.getElem_cons_succ, Act.put, List.setIfInBounds_toArray, List.set_cons_zero, List.set_cons_succ]
      refine' wpAnyH_take (i := 4) (v := _) rfl (by kernel_rfl) (by kernel_rfl) (by kernel_rfl) (fun _ _ _ h => h) (Or.inl ⟨by rfl, ?gy54⟩) (by assumption) ?gr54
      case gy54 => (intro w hSw; (try dsimp only at hSw); go_simp; (try with_reducible rfl))
      try simp only [List.getElem_toArray, List.getElem_cons_zero, List.getElem_cons_succ, Act.put, List.setIfInBounds_toArray, List.set_cons_zero, List.set_cons_succ]
      refine wpAnyH_ready (rs := [2]) (by kernel_rfl) (by simp) (AllReadyH.cons rfl (fun K hK => ?_) AllReadyH.nil)
      go_simp
      refine (LA.out _ (by assumption)).mono ?_; rintro e wz ⟨rfl, hbz⟩; have hz := See2.step (by assumption) hbz; clear hbz
      try go_wp2_with fail
      clear hHeld
      refine hK.out _ _ (See2.five (by assumption)) (fun hHeld => ?_)
      clear hK K
      try simp only [List.getElem_toArray, List.getElem_cons_zero, List.getElem_cons_succ, Act.put, List.setIfInBounds_toArray, List.set_cons_zero, List.set_cons_succ]
      refine' wpAnyH_take (i := 5) (v := _) rfl (by kernel_rfl) (by kernel_rfl) (by kernel_rfl) (fun _ _ _ h => h) (Or.inl ⟨by rfl, ?gy56⟩) (by assumption) ?gr56
      case gy56 => (intro w hSw; (try dsimp only at hSw); go_simp; (try with_reducible rfl))
      try simp only [List.getElem_toArray, List.getElem_cons_zero, List.getElem_cons_succ, Act.put, List.setIfInBounds_toArray, List.set_cons_zero, List.set_cons_succ]
      refine' wpAnyH_take (i := 6) (v := _) rfl (by kernel_rfl) (by kernel_rfl) (by kernel_rfl) (fun _ _ _ h => h) (Or.inl ⟨by rfl, ?gy57⟩) (by assumption) ?gr57
      case gy57 => (intro w hSw; (try dsimp only at hSw); go_simp; (try with_reducible rfl))
      try simp only [List.getElem_toArray, List.getElem_cons_zero, List.getElem_cons_succ, Act.put, List.setIfInBounds_toArray, List.set_cons_zero, List.set_cons_succ]
      refine wpAnyH_done (by kernel_rfl) ?_ _
      go_wp2_with fail
      go_ret
      exact ⟨by simp, Sees.all D8 (See2.one (by assumption))⟩
end Go.Proofs.Ytaceockdiicpaad
