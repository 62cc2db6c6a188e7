/-
  The arena's calls: Exists, Swap.
-/
import Derived.Test.YtgcimcpcnoojnaaWalk11
namespace Go.Proofs.Ytgcimcpcnoojnaa
open Go.RowKit Go.Maps

section
variable {base a M vars most : Nat} {w : World} {ns : List Nd}

set_option maxHeartbeats 2000000 in
set_option maxRecDepth 100000 in
/-- Exists. -/
theorem exists_ok (h : Ar base a M vars most w ns) {f i : Nat} (hf : f < ns.length) (hi : i < vars) :
    Calls Try.prog 44 #[.pointer (some ⟨a, 0, none⟩), .int .i64 (f : Int), .int .i64 (i : Int)] w (OpPost base a M vars most w ns (2 ^ vars - 1) fun q => ev ns f (setE q i false) || ev ns f (setE q i true)) := by
  have hmm := @run_makeMap Try.prog
  have la := h.lta
  have lM := h.ltM
  have hA := h.lowA
  have v16 := h.vars16
  have wf := h.wf
  have hs : ((w.alloc (.map #[] 0)).alloc (.map #[] 0)).heap.size = w.heap.size + 2 := by simp
  have hs1 : (w.alloc (.map #[] 0)).heap.size = w.heap.size + 1 := by simp
  have hpw := Nat.pow_le_pow_right (n := 2) (by omega) v16
  have hb := bu_new (w := (w.alloc (.map #[] 0)).alloc (.map #[] 0)) (C := ⟨base, a, w.heap.size + 2, M, some w.heap.size, none, some (w.heap.size + 1), vars, most⟩) (m1 := fun _ => none) (m2 := fun _ => none) (m3 := fun _ => none) ((h.alloc _).alloc _) (by simp) (by rw [hs]; show base ≤ _; omega)
    (fun i e => by cases e; exact (mapIs_made choiceE w).same (Below.heap_alloc _ _ _ (by simp))) (fun _ e => by cases e) (fun i e => by cases e; have hq := mapIs_made intE (w.alloc (.map #[] 0)); rw [hs1] at hq; exact hq)
    (fun i e => by cases e; exact ⟨by show base ≤ w.heap.size; omega, by show w.heap.size ≠ M; omega, (fun e => by simp at e), (fun e => by simp at e)⟩) (fun _ e => by cases e) (fun i e => by cases e; exact ⟨by show base ≤ w.heap.size + 1; omega, by show w.heap.size + 1 ≠ M; omega, (fun e => by simp at e), (fun e => by simp at e)⟩)
  have hch := exists_any (C := ⟨base, a, w.heap.size + 2, M, some w.heap.size, none, some (w.heap.size + 1), vars, most⟩) (c1 := w.heap.size) (c3 := w.heap.size + 1) rfl rfl hi vars _ ns false 0 _ _ f hb hf (Nat.le_add_left _ _) (fun _ => ⟨(fun _ _ e => by cases e), (fun _ _ e => by cases e)⟩) (by omega)
  have t1 : (decide ((0 : Int) ≤ (f : Int)) && decide ((f : Int) < (ns.length : Int))) = true := by simp; omega
  have t2 : (decide ((0 : Int) ≤ (i : Int)) && decide ((i : Int) < (vars : Int))) = true := by simp; omega
  have hch' := Hq.mk hch
  clear hch hb hpw
  go_enter Try.func44, Try.ntmps44
  go_wp2_with (first
    | (go_at_call 86; refine (hasFunction_any h (f : Int)).mono ?_; rintro e w' ⟨rfl, rfl⟩; rw [t1])
    | (go_at_call 87; refine (hasVariable_any h (i : Int)).mono ?_; rintro e w' ⟨rfl, rfl⟩; rw [t2]))
  refine hch'.out.mono ?_
  rintro e w2 ⟨r, ns', full', N', m1', m3', rfl, hp, X, l1, _, lt, _, sm⟩
  have wf' := hp.bu.ar.wf
  have hK : Kp (ca base a M vars most) w' w2 := hp.kp.outer rfl rfl rfl rfl (by simp; omega) (fun i hi => (Below.heap_alloc _ _ _ (by simp; omega)).trans ((Below.heap_alloc _ _ _ (by simp; omega)).trans (Below.heap_alloc _ _ _ hi))) (by
    rintro i (e | e | e | e | e | e)
    · exact Or.inl e
    · exact Or.inr (Or.inr (by rw [e]; show _ ≤ w'.heap.size + 2; omega))
    · exact Or.inr (Or.inl e)
    · cases e; exact Or.inr (Or.inr (Nat.le_refl _))
    · cases e
    · cases e; exact Or.inr (Or.inr (Nat.le_succ _))) la
  go_wp2_with fail
  cases full'
  · refine (answer_any hp.bu r).mono ?_
    rintro e w3 ⟨rfl, rfl⟩
    have hfin : OpPost base a M vars most w' ns (2 ^ vars - 1) (fun q => ev ns f (setE q i false) || ev ns f (setE q i true)) (.returned (.tuple #[.int .i64 (r : Int), .int .i64 0])) w3 :=
      ⟨ns', hp.bu.ar, hK, X, l1, Or.inl ⟨r, rfl, lt, fun q => by rw [(sm rfl).2.2.ev q, X.ev wf wf' _ hf, X.ev wf wf' _ hf]⟩⟩
    clear hp hK
    go_wp2_with fail
    go_ret2
    exact hfin
  · refine (answer_any hp.bu r).mono ?_
    rintro e w3 ⟨rfl, rfl⟩
    have hfin : OpPost base a M vars most w' ns (2 ^ vars - 1) (fun q => ev ns f (setE q i false) || ev ns f (setE q i true)) (.returned (.tuple #[.int .i64 0, .int .i64 6])) w3 :=
      ⟨ns', hp.bu.ar, hK, X, l1, Or.inr ⟨rfl, hp.bu.full_len rfl⟩⟩
    clear hp hK
    go_wp2_with fail
    go_ret2
    exact hfin

theorem swE_comm (e : Env) (i j : Nat) : swE e i j = swE e j i := by
  funext x
  unfold swE
  by_cases h1 : x = i <;> by_cases h2 : x = j <;> simp_all
theorem swE_same (e : Env) (i : Nat) : swE e i i = e := by
  funext x
  unfold swE
  by_cases h1 : x = i <;> simp_all
theorem run_max2 (x y : Nat) (ts : Array TypeId) (t : TypeId) (W : World) : (Builtin.max_ ts t #[.int .i64 (x : Int), .int .i64 (y : Int)]).run Try.prog W = .ok (.int .i64 ((max x y : Nat) : Int)) W := by
  have e : ((max x y : Nat) : Int) = if (x : Int) < (y : Int) then (y : Int) else (x : Int) := by split <;> omega
  rw [e]
  simp [Builtin.max_, Builtin.max2]

set_option maxHeartbeats 2000000 in
set_option maxRecDepth 100000 in
/-- Swap of a variable with itself. -/
theorem swap_one (h : Ar base a M vars most w ns) {f i : Nat} (hf : f < ns.length) (hi : i < vars) :
    Calls Try.prog 45 #[.pointer (some ⟨a, 0, none⟩), .int .i64 (f : Int), .int .i64 (i : Int), .int .i64 (i : Int)] w fun e w' => e = .returned (.tuple #[.int .i64 (f : Int), .int .i64 0]) ∧ w' = w := by
  have t1 : (decide ((0 : Int) ≤ (f : Int)) && decide ((f : Int) < (ns.length : Int))) = true := by simp; omega
  have t2 : (decide ((0 : Int) ≤ (i : Int)) && decide ((i : Int) < (vars : Int))) = true := by simp; omega
  go_enter Try.func45, Try.ntmps45
  go_wp2_with (first
    | (go_at_call 86; refine (hasFunction_any h (f : Int)).mono ?_; rintro e w' ⟨rfl, rfl⟩; rw [t1])
    | (go_at_call 87; refine (hasVariable_any h (i : Int)).mono ?_; rintro e w' ⟨rfl, rfl⟩; rw [t2]))
  go_ret2
  exact ⟨rfl, rfl⟩

set_option maxHeartbeats 2000000 in
set_option maxRecDepth 100000 in
theorem swap_two (h : Ar base a M vars most w ns) {f i j : Nat} (hf : f < ns.length) (hi : i < vars) (hj : j < vars) (hij : i ≠ j) :
    Calls Try.prog 45 #[.pointer (some ⟨a, 0, none⟩), .int .i64 (f : Int), .int .i64 (i : Int), .int .i64 (j : Int)] w (OpPost base a M vars most w ns (2 ^ vars - 1) fun q => ev ns f (swE q i j)) := by
  have hmm := @run_makeMap Try.prog
  have la := h.lta
  have lM := h.ltM
  have hA := h.lowA
  have v16 := h.vars16
  have wf := h.wf
  have hs : ((w.alloc (.map #[] 0)).alloc (.map #[] 0)).heap.size = w.heap.size + 2 := by simp
  have hs1 : (w.alloc (.map #[] 0)).heap.size = w.heap.size + 1 := by simp
  have hpw := Nat.pow_le_pow_right (n := 2) (by omega) v16
  have hb := bu_new (w := (w.alloc (.map #[] 0)).alloc (.map #[] 0)) (C := ⟨base, a, w.heap.size + 2, M, none, some (w.heap.size + 1), some w.heap.size, vars, most⟩) (m1 := fun _ => none) (m2 := fun _ => none) (m3 := fun _ => none) ((h.alloc _).alloc _) (by simp) (by rw [hs]; show base ≤ _; omega)
    (fun _ e => by cases e) (fun i e => by cases e; have hq := mapIs_made mixE (w.alloc (.map #[] 0)); rw [hs1] at hq; exact hq) (fun i e => by cases e; exact (mapIs_made intE w).same (Below.heap_alloc _ _ _ (by simp)))
    (fun _ e => by cases e) (fun i e => by cases e; exact ⟨by show base ≤ w.heap.size + 1; omega, by show w.heap.size + 1 ≠ M; omega, (fun e => by simp at e), (fun e => by simp at e)⟩) (fun i e => by cases e; exact ⟨by show base ≤ w.heap.size; omega, by show w.heap.size ≠ M; omega, (fun e => by simp at e), (fun e => by simp at e)⟩)
  have hch := swap_any (C := ⟨base, a, w.heap.size + 2, M, none, some (w.heap.size + 1), some w.heap.size, vars, most⟩) (m1 := fun _ => none) (c2 := w.heap.size + 1) (c3 := w.heap.size) rfl rfl (i := min i j) (j := max i j) (by omega) (by show max i j < vars; omega) vars _ ns false 0 _ _ f hb hf (Nat.le_add_left _ _) (fun _ => ⟨(fun _ _ e => by cases e), (fun _ _ e => by cases e)⟩) (by omega)
  have t1 : (decide ((0 : Int) ≤ (f : Int)) && decide ((f : Int) < (ns.length : Int))) = true := by simp; omega
  have t2 : (decide ((0 : Int) ≤ (i : Int)) && decide ((i : Int) < (vars : Int))) = true := by simp; omega
  have t3 : (decide ((0 : Int) ≤ (j : Int)) && decide ((j : Int) < (vars : Int))) = true := by simp; omega
  have t4 : ((i : Int) == (j : Int)) = false := by simp; omega
  have hsw : ∀ q, swE q (min i j) (max i j) = swE q i j := fun q => by
    rcases Nat.le_total i j with hle | hle
    · rw [Nat.min_eq_left hle, Nat.max_eq_right hle]
    · rw [Nat.min_eq_right hle, Nat.max_eq_left hle, swE_comm]
  have hmn : ∀ (ts : Array TypeId) (t : TypeId) (W : World), (Builtin.min_ ts t #[.int .i64 (i : Int), .int .i64 (j : Int)]).run Try.prog W = .ok (.int .i64 ((min i j : Nat) : Int)) W := fun ts t W => run_min2 i j ts t W
  have hmx : ∀ (ts : Array TypeId) (t : TypeId) (W : World), (Builtin.max_ ts t #[.int .i64 (i : Int), .int .i64 (j : Int)]).run Try.prog W = .ok (.int .i64 ((max i j : Nat) : Int)) W := fun ts t W => run_max2 i j ts t W
  generalize min i j = lo at *
  generalize max i j = up at *
  have hch' := Hq.mk hch
  have hsw' := Hq.mk hsw
  clear hch hb hpw hsw
  go_enter Try.func45, Try.ntmps45
  go_wp2_with (first
    | (go_at_call 86; refine (hasFunction_any h (f : Int)).mono ?_; rintro e w' ⟨rfl, rfl⟩; rw [t1])
    | (go_at_call_of 87 (Value.int .i64 (i : Int)); refine (hasVariable_any h (i : Int)).mono ?_; rintro e w' ⟨rfl, rfl⟩; rw [t2])
    | (go_at_call_of 87 (Value.int .i64 (j : Int)); refine (hasVariable_any h (j : Int)).mono ?_; rintro e w' ⟨rfl, rfl⟩; rw [t3]))
  refine hch'.out.mono ?_
  rintro e w2 ⟨r, ns', full', N', m2', m3', rfl, hp, X, l1, _, lt, _, sm⟩
  have wf' := hp.bu.ar.wf
  have hK : Kp (ca base a M vars most) w' w2 := hp.kp.outer rfl rfl rfl rfl (by simp; omega) (fun i hi => (Below.heap_alloc _ _ _ (by simp; omega)).trans ((Below.heap_alloc _ _ _ (by simp; omega)).trans (Below.heap_alloc _ _ _ hi))) (by
    rintro i (e | e | e | e | e | e)
    · exact Or.inl e
    · exact Or.inr (Or.inr (by rw [e]; show _ ≤ w'.heap.size + 2; omega))
    · exact Or.inr (Or.inl e)
    · cases e
    · cases e; exact Or.inr (Or.inr (Nat.le_succ _))
    · cases e; exact Or.inr (Or.inr (Nat.le_refl _))) la
  go_wp2_with fail
  cases full'
  · refine (answer_any hp.bu r).mono ?_
    rintro e w3 ⟨rfl, rfl⟩
    have hfin : OpPost base a M vars most w' ns (2 ^ vars - 1) (fun q => ev ns f (swE q i j)) (.returned (.tuple #[.int .i64 (r : Int), .int .i64 0])) w3 :=
      ⟨ns', hp.bu.ar, hK, X, l1, Or.inl ⟨r, rfl, lt, fun q => by rw [(sm rfl).2.2.ev q, X.ev wf wf' _ hf, hsw'.out]⟩⟩
    clear hp hK
    go_wp2_with fail
    go_ret2
    exact hfin
  · refine (answer_any hp.bu r).mono ?_
    rintro e w3 ⟨rfl, rfl⟩
    have hfin : OpPost base a M vars most w' ns (2 ^ vars - 1) (fun q => ev ns f (swE q i j)) (.returned (.tuple #[.int .i64 0, .int .i64 6])) w3 :=
      ⟨ns', hp.bu.ar, hK, X, l1, Or.inr ⟨rfl, hp.bu.full_len rfl⟩⟩
    clear hp hK
    go_wp2_with fail
    go_ret2
    exact hfin

/-- Swap. -/
theorem swap_ok (h : Ar base a M vars most w ns) {f i j : Nat} (hf : f < ns.length) (hi : i < vars) (hj : j < vars) :
    Calls Try.prog 45 #[.pointer (some ⟨a, 0, none⟩), .int .i64 (f : Int), .int .i64 (i : Int), .int .i64 (j : Int)] w (OpPost base a M vars most w ns (2 ^ vars - 1) fun q => ev ns f (swE q i j)) := by
  by_cases e : i = j
  · subst e
    refine (swap_one h hf hi).mono ?_
    rintro e w' ⟨rfl, rfl⟩
    exact ⟨ns, h, Kp.refl _ _, Ext.refl _, Nat.le_add_right _ _, Or.inl ⟨f, rfl, hf, fun q => by show ev ns f q = ev ns f (swE q i i); rw [swE_same]⟩⟩
  · exact swap_two h hf hi hj e
end
end Go.Proofs.Ytgcimcpcnoojnaa


