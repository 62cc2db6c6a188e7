/-
  The arena's calls New, Vars, Node, Var.
-/
import Derived.Test.YtgcimcpcnoojnaaWalk5
namespace Go.Proofs.Ytgcimcpcnoojnaa
open Go.RowKit Go.Maps

/-- An arena alone, as a place. -/
def ca (base a M vars most : Nat) : Cfg := ⟨base, a, a, M, none, none, none, vars, most⟩

/-- What a call that makes a function leaves: φ's number, or no room. -/
def OpPost (base a M vars most : Nat) (w : World) (ns : List Nd) (g : Nat) (φ : Env → Bool) (e : Ending) (w' : World) : Prop :=
  ∃ ns', Ar base a M vars most w' ns' ∧ Kp (ca base a M vars most) w w' ∧ Ext ns ns' ∧ ns'.length ≤ ns.length + g ∧
    ((∃ f : Nat, e = .returned (.tuple #[.int .i64 (f : Int), .int .i64 0]) ∧ f < ns'.length ∧ ∀ x, ev ns' f x = φ x) ∨ (e = .returned (.tuple #[.int .i64 0, .int .i64 6]) ∧ ns'.length = most))

/-- The same, and it hangs on variables from i on alone. -/
def MkPost (base a M vars most : Nat) (w : World) (ns : List Nd) (g i : Nat) (φ : Env → Bool) (e : Ending) (w' : World) : Prop :=
  ∃ ns', Ar base a M vars most w' ns' ∧ Kp (ca base a M vars most) w w' ∧ Ext ns ns' ∧ ns'.length ≤ ns.length + g ∧
    ((∃ f : Nat, e = .returned (.tuple #[.int .i64 (f : Int), .int .i64 0]) ∧ f < ns'.length ∧ i ≤ nv ns' f ∧ ∀ x, ev ns' f x = φ x) ∨ (e = .returned (.tuple #[.int .i64 0, .int .i64 6]) ∧ ns'.length = most))

section
variable {base a M vars most : Nat} {w w1 w2 : World} {ns : List Nd}

/-- A builder's life, seen from its arena. -/
theorem Kp.outer {C : Cfg} (hK : Kp C w1 w2) (ha : C.a = a) (ho : w1.os = w.os) (ht : w1.tape = w.tape) (hp : w1.output = w.output) (hs : w.heap.size ≤ w1.heap.size) (hb : ∀ i, i < w.heap.size → w1.heap[i]? = w.heap[i]?)
    (hn : ∀ i, C.mine i → i = a ∨ i = M ∨ w.heap.size ≤ i) (la : a < w.heap.size) : Kp (ca base a M vars most) w w2 := by
  have hr : rowOf w1 a = rowOf w a := rowOf_same (hb a la)
  have hr2 := hK.row
  rw [ha] at hr2
  have hs2 := hK.size
  refine ⟨hK.os.trans ho, hK.tape.trans ht, hK.output.trans hp, by omega, fun i hi hm hne => ?_, ?_⟩
  · refine (hK.blk i (by omega) (fun hc => ?_) (by rw [ha, hr]; exact hne)).trans (hb i hi)
    rcases hn i hc with e | e | e
    · exact hm (Or.inl e)
    · exact hm (Or.inr (Or.inr (Or.inl e)))
    · omega
  · show rowOf w2 a = rowOf w a ∨ w.heap.size ≤ rowOf w2 a
    rcases hr2 with e | e
    · exact Or.inl (e.trans hr)
    · exact Or.inr (by omega)

theorem Ar.alloc (h : Ar base a M vars most w ns) (o : Obj) : Ar base a M vars most (w.alloc o) ns := by
  obtain ⟨_, _, _, rl⟩ := h.row
  exact h.same (Below.heap_alloc w o _ h.lta) (Below.heap_alloc w o _ h.ltM) (Below.heap_alloc w o _ rl)

/-- New, where its arguments are right. -/
theorem new_ok {v m : Nat} (w : World) (hv1 : 1 ≤ v) (hv2 : v ≤ 16) (hm1 : 2 ≤ m) (hm2 : m ≤ 40000) :
    Calls Try.prog 9 #[.int .i64 (v : Int), .int .i64 (m : Int)] w fun e w' => ∃ a M, e = .returned (.tuple #[.pointer (some ⟨a, 0, none⟩), .int .i64 0]) ∧ Ar w.heap.size a M v m w' [(v, 0, 0), (v, 1, 1)] ∧ Below w.heap.size w w' := by
  have hmm := @run_makeMap Try.prog
  have t1 : decide ((v : Int) < 1) = false := by simp; omega
  have t2 : decide ((16 : Int) < (v : Int)) = false := by simp; omega
  have t3 : decide ((m : Int) < 2) = false := by simp; omega
  have t4 : decide ((40000 : Int) < (m : Int)) = false := by simp; omega
  go_enter Try.func9, Try.ntmps9
  go_wp2_with fail
  go_ret2
  refine ⟨w.heap.size + 1 + 1, w.heap.size + 1, rfl, ?_, ?_⟩
  · refine ⟨wf_start v, by simpa using hm1, hv1, hv2, hm2, by omega, by omega, ⟨w.heap.size, 2, ?_, ?_⟩, ⟨fun _ => none, ?_, ?_⟩⟩
    · rw [show w.heap.size + 1 + 1 = ((w.alloc (.cells #[.int .i64 (v : Int), .int .i64 0, .int .i64 0, .int .i64 (v : Int), .int .i64 1, .int .i64 1] 87)).alloc (.map #[] 0)).heap.size by simp]
      exact Go.heap_alloc_new _ _
    · refine ⟨by simp [cellsOf], .inr ⟨w.heap.size, 2, #[.int .i64 (v : Int), .int .i64 0, .int .i64 0, .int .i64 (v : Int), .int .i64 1, .int .i64 1], rfl, Nat.le_refl _, ?_, by simp, by decide, by simp, by simp [cellsOf]⟩⟩
      rw [Below.heap_alloc _ _ _ (by simp; omega), Below.heap_alloc _ _ _ (by simp)]
      exact Go.heap_alloc_new _ _
    · have hM := mapIs_made nodeE (w.alloc (.cells #[.int .i64 (v : Int), .int .i64 0, .int .i64 0, .int .i64 (v : Int), .int .i64 1, .int .i64 1] 87))
      rw [show (w.alloc (.cells #[.int .i64 (v : Int), .int .i64 0, .int .i64 0, .int .i64 (v : Int), .int .i64 1, .int .i64 1] 87)).heap.size = w.heap.size + 1 by simp] at hM
      exact (hM.same (Below.heap_alloc _ _ _ (by simp))).mono (by simp)
    · intro n f
      simp only [List.length_cons, List.length_nil]
      constructor
      · intro h; cases h
      · rintro ⟨h1, h2, _⟩; omega
  · exact (((Below.refl _ _).alloc (Nat.le_refl _) _).alloc (by simp) _).alloc (by simp; omega) _

/-- A new builder. -/
theorem bu_new {C : Cfg} {m1 : Nd → Option Nat} {m2 : Mx → Option Nat} {m3 : Nat → Option Nat} (h : Ar C.base C.a C.M C.vars C.most w ns) (hb : C.b = w.heap.size) (hbase : C.base ≤ w.heap.size) (o1 : OMap choiceE w C.c1 0 m1) (o2 : OMap mixE w C.c2 0 m2) (o3 : OMap intE w C.c3 0 m3)
    (low1 : ∀ i, C.c1 = some i → C.base ≤ i ∧ i ≠ C.M ∧ C.c2 ≠ some i ∧ C.c3 ≠ some i) (low2 : ∀ i, C.c2 = some i → C.base ≤ i ∧ i ≠ C.M ∧ C.c1 ≠ some i ∧ C.c3 ≠ some i) (low3 : ∀ i, C.c3 = some i → C.base ≤ i ∧ i ≠ C.M ∧ C.c1 ≠ some i ∧ C.c2 ≠ some i) :
    Bu C (w.alloc (.cells #[.pointer (some ⟨C.a, 0, none⟩), .bool false, .map C.c1, .map C.c2, .map C.c3] 119)) ns false 0 m1 m2 m3 :=
  ⟨h.alloc _, by rw [hb]; exact Go.heap_alloc_new _ _, by omega, fun i e => (o1 i e).same (Below.heap_alloc _ _ _ (o1 i e).lt), fun i e => (o2 i e).same (Below.heap_alloc _ _ _ (o2 i e).lt), fun i e => (o3 i e).same (Below.heap_alloc _ _ _ (o3 i e).lt), low1, low2, low3, fun e => by cases e⟩


theorem vars_any (h : Ar base a M vars most w ns) : Calls Try.prog 67 #[.pointer (some ⟨a, 0, none⟩)] w fun e w' => e = .returned (.int .i64 (vars : Int)) ∧ w' = w := by
  obtain ⟨cap, a0, a1, a2, a3, af, an⟩ := h.reads
  clear h an
  go_enter Try.func67, Try.ntmps67
  go_wp2_with fail
  go_ret
  exact ⟨rfl, rfl⟩

set_option maxHeartbeats 1000000 in
theorem hangs_ok (h : Ar base a M vars most w ns) {f i : Nat} (hf : f < ns.length) (hv : i < nv ns f) :
    Calls Try.prog 102 #[.pointer (some ⟨a, 0, none⟩), .int .i64 (f : Int), .int .i64 (i : Int)] w fun e w' => e = .returned (.bool true) ∧ w' = w := by
  have t1 : (decide ((0 : Int) ≤ (f : Int)) && decide ((f : Int) < (ns.length : Int))) = true := by simp; omega
  have t2 : decide ((i : Int) < (nv ns f : Int)) = true := by simp; omega
  have hl : ns.length ≤ 40000 := Nat.le_trans h.le h.most4
  have hF : Hid (Ar base a M vars most w ns) := h
  obtain ⟨cap, a0, a1, a2, a3, af, an⟩ := h.reads
  obtain ⟨n0, n1, n2⟩ := an f hf
  clear h an
  generalize rowOf w a = g at *
  go_enter Try.func102, Try.ntmps102
  go_wp2_with (go_at_call 86; refine (hasFunction_any hF.out (f : Int)).mono ?_; rintro e w' ⟨rfl, rfl⟩; rw [t1])
  go_ret
  exact ⟨by simp, rfl⟩

set_option maxHeartbeats 1000000 in
/-- Node, where its arguments are right. -/
theorem node_ok (h : Ar base a M vars most w ns) {i lo up : Nat} (hi : i < vars) (l1 : lo < ns.length) (l2 : up < ns.length) (v1 : i < nv ns lo) (v2 : i < nv ns up) :
    Calls Try.prog 85 #[.pointer (some ⟨a, 0, none⟩), .int .i64 (i : Int), .int .i64 (lo : Int), .int .i64 (up : Int)] w (MkPost base a M vars most w ns 1 i fun x => if x i then ev ns up x else ev ns lo x) := by
  have la := h.lta
  have lM := h.ltM
  have wf := h.wf
  have hb := bu_new (C := ⟨base, a, w.heap.size, M, none, none, none, vars, most⟩) (m1 := fun _ => none) (m2 := fun _ => none) (m3 := fun _ => none) h rfl (by have := h.lowA; show base ≤ w.heap.size; omega) (fun _ e => by cases e) (fun _ e => by cases e) (fun _ e => by cases e) (fun _ e => by cases e) (fun _ e => by cases e) (fun _ e => by cases e)
  have t0 : (decide ((0 : Int) ≤ (i : Int)) && decide ((i : Int) < (vars : Int))) = true := by simp; omega
  go_enter Try.func85, Try.ntmps85
  go_wp2_with (first
    | (go_at_call 87; refine (hasVariable_any h (i : Int)).mono ?_; rintro e w' ⟨rfl, rfl⟩; rw [t0])
    | (go_at_call_of 102 (Value.int .i64 (lo : Int)); refine (hangs_ok h l1 v1).mono ?_; rintro e w' ⟨rfl, rfl⟩)
    | (go_at_call_of 102 (Value.int .i64 (up : Int)); refine (hangs_ok h l2 v2).mono ?_; rintro e w' ⟨rfl, rfl⟩))
  refine (numberOf_any (v := i) (l := lo) (u := up) hb hi l1 l2 (fun _ => ⟨v1, v2⟩)).mono ?_
  rintro e w2 ⟨f, ns', full', rfl, hp, X, l3, lt, mo, sm⟩
  have wf' := hp.bu.ar.wf
  have hK : Kp (ca base a M vars most) w' w2 := hp.kp.outer rfl rfl rfl rfl (by simp) (fun i hi => Below.heap_alloc _ _ _ hi) (by
    rintro i (e | e | e | e | e | e)
    · exact Or.inl e
    · exact Or.inr (Or.inr (by rw [e]; exact Nat.le_refl _))
    · exact Or.inr (Or.inl e)
    · cases e
    · cases e
    · cases e) la
  go_wp2_with fail
  cases full'
  · refine (answer_any hp.bu f).mono ?_
    rintro e w3 ⟨rfl, rfl⟩
    have hfin : MkPost base a M vars most w' ns 1 i (fun x => if x i then ev ns up x else ev ns lo x) (.returned (.tuple #[.int .i64 (f : Int), .int .i64 0])) w3 :=
      ⟨ns', hp.bu.ar, hK, X, l3, Or.inl ⟨f, rfl, lt, (sm rfl).va, fun x => by rw [(sm rfl).ev x, X.ev wf wf' _ l1, X.ev wf wf' _ l2]⟩⟩
    clear hp hK
    go_wp2_with fail
    go_ret2
    exact hfin
  · refine (answer_any hp.bu f).mono ?_
    rintro e w3 ⟨rfl, rfl⟩
    have hfin : MkPost base a M vars most w' ns 1 i (fun x => if x i then ev ns up x else ev ns lo x) (.returned (.tuple #[.int .i64 0, .int .i64 6])) w3 :=
      ⟨ns', hp.bu.ar, hK, X, l3, Or.inr ⟨rfl, hp.bu.full_len rfl⟩⟩
    clear hp hK
    go_wp2_with fail
    go_ret2
    exact hfin

set_option maxHeartbeats 2000000 in
/-- Ite. -/
theorem ite_ok (h : Ar base a M vars most w ns) {c : Nd} (hc : Inside ns c) :
    Calls Try.prog 47 #[.pointer (some ⟨a, 0, none⟩), .int .i64 (c.1 : Int), .int .i64 (c.2.1 : Int), .int .i64 (c.2.2 : Int)] w (OpPost base a M vars most w ns (2 ^ vars - 1) fun x => if ev ns c.1 x then ev ns c.2.1 x else ev ns c.2.2 x) := by
  have hmm := @run_makeMap Try.prog
  have la := h.lta
  have lM := h.ltM
  have hA := h.lowA
  have v16 := h.vars16
  have wf := h.wf
  have hs : (w.alloc (.map #[] 0)).heap.size = w.heap.size + 1 := by simp
  have hb := bu_new (w := w.alloc (.map #[] 0)) (C := ⟨base, a, w.heap.size + 1, M, some w.heap.size, none, none, vars, most⟩) (m1 := fun _ => none) (m2 := fun _ => none) (m3 := fun _ => none) (h.alloc _) (by simp) (by rw [hs]; show base ≤ _; omega)
    (fun i e => by cases e; exact mapIs_made choiceE w) (fun _ e => by cases e) (fun _ e => by cases e) (fun i e => by cases e; exact ⟨by show base ≤ _; omega, by show w.heap.size ≠ M; omega, (fun e => by cases e), (fun e => by cases e)⟩) (fun _ e => by cases e) (fun _ e => by cases e)
  obtain ⟨x, y, z⟩ := c
  have hch := choose_any (C := ⟨base, a, w.heap.size + 1, M, some w.heap.size, none, none, vars, most⟩) (c1 := w.heap.size) rfl vars _ ns false 0 _ (x, y, z) hb hc (Nat.le_add_left _ _) (fun _ _ _ e => by cases e) (by have := Nat.pow_le_pow_right (n := 2) (by omega) v16; omega)
  obtain ⟨i1, i2, i3⟩ := id hc
  simp only [] at i1 i2 i3
  have t1 : (decide ((0 : Int) ≤ (x : Int)) && decide ((x : Int) < (ns.length : Int))) = true := by simp; omega
  have t2 : (decide ((0 : Int) ≤ (y : Int)) && decide ((y : Int) < (ns.length : Int))) = true := by simp; omega
  have t3 : (decide ((0 : Int) ≤ (z : Int)) && decide ((z : Int) < (ns.length : Int))) = true := by simp; omega
  have hch' := Hq.mk hch
  clear hch hb
  simp only []
  go_enter Try.func47, Try.ntmps47
  go_wp2_with (first
    | (go_at_call_of 86 (Value.int .i64 (x : Int)); refine (hasFunction_any h (x : Int)).mono ?_; rintro e w' ⟨rfl, rfl⟩; rw [t1])
    | (go_at_call_of 86 (Value.int .i64 (y : Int)); refine (hasFunction_any h (y : Int)).mono ?_; rintro e w' ⟨rfl, rfl⟩; rw [t2])
    | (go_at_call_of 86 (Value.int .i64 (z : Int)); refine (hasFunction_any h (z : Int)).mono ?_; rintro e w' ⟨rfl, rfl⟩; rw [t3]))
  refine hch'.out.mono ?_
  rintro e w2 ⟨f, ns', full', N', m1', rfl, hp, X, l1, _, lt, _, sm⟩
  have wf' := hp.bu.ar.wf
  have hK : Kp (ca base a M vars most) w' w2 := hp.kp.outer rfl rfl rfl rfl (by simp; omega) (fun i hi => (Below.heap_alloc _ _ _ (by simp; omega)).trans (Below.heap_alloc _ _ _ hi)) (by
    rintro i (e | e | e | e | e | e)
    · exact Or.inl e
    · exact Or.inr (Or.inr (by rw [e]; show _ ≤ w'.heap.size + 1; omega))
    · exact Or.inr (Or.inl e)
    · cases e; exact Or.inr (Or.inr (Nat.le_refl _))
    · cases e
    · cases e) la
  go_wp2_with fail
  cases full'
  · refine (answer_any hp.bu f).mono ?_
    rintro e w3 ⟨rfl, rfl⟩
    have hfin : OpPost base a M vars most w' ns (2 ^ vars - 1) (fun q => if ev ns x q then ev ns y q else ev ns z q) (.returned (.tuple #[.int .i64 (f : Int), .int .i64 0])) w3 :=
      ⟨ns', hp.bu.ar, hK, X, l1, Or.inl ⟨f, rfl, lt, fun q => by rw [(sm rfl).2.ev q]; simp only [X.ev wf wf' _ i1, X.ev wf wf' _ i2, X.ev wf wf' _ i3]⟩⟩
    clear hp hK
    go_wp2_with fail
    go_ret2
    exact hfin
  · refine (answer_any hp.bu f).mono ?_
    rintro e w3 ⟨rfl, rfl⟩
    have hfin : OpPost base a M vars most w' ns (2 ^ vars - 1) (fun q => if ev ns x q then ev ns y q else ev ns z q) (.returned (.tuple #[.int .i64 0, .int .i64 6])) w3 :=
      ⟨ns', hp.bu.ar, hK, X, l1, Or.inr ⟨rfl, hp.bu.full_len rfl⟩⟩
    clear hp hK
    go_wp2_with fail
    go_ret2
    exact hfin

theorem OpPost.of {w : World} {g : Nat} {φ ψ : Env → Bool} {e : Ending} {w' : World} (h : OpPost base a M vars most w ns g φ e w') (hq : ∀ q, φ q = ψ q) : OpPost base a M vars most w ns g ψ e w' := by
  obtain ⟨ns', r1, r2, r3, r4, r5⟩ := h
  refine ⟨ns', r1, r2, r3, r4, ?_⟩
  rcases r5 with ⟨f, e1, e2, e3⟩ | r5
  · exact Or.inl ⟨f, e1, e2, fun q => (e3 q).trans (hq q)⟩
  · exact Or.inr r5

end
end Go.Proofs.Ytgcimcpcnoojnaa


