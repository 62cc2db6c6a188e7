/-
  Arena.Take.
-/
import Derived.Test.YtgcimcpcnoojnaaTake
namespace Go.Proofs.Ytgcimcpcnoojnaa
open Go.RowKit Go.Maps

theorem Ar.drewT {base a M vars most : Nat} {w : World} {ns : List Nd} (h : Ar base a M vars most w ns) : Ar base a M vars most w.drew ns := h.same rfl rfl rfl

set_option maxHeartbeats 4000000 in
theorem take_ok {base a M vars most base2 a2 M2 v2 most2 : Nat} {w : World} {ns ns2 : List Nd} (h : Ar base a M vars most w ns) (h2 : Ar base2 a2 M2 v2 most2 w ns2) (hv2 : v2 ≤ vars) (p1 : a < base2) (p2 : M < base2) (p3 : rowOf w a < base2) {f : Nat} (hf : f < ns2.length) :
    Calls Try.prog 75 #[.pointer (some ⟨a, 0, none⟩), .pointer (some ⟨a2, 0, none⟩), .int .i64 (f : Int)] w (OpPost base a M vars most w ns (2 ^ v2 - 1) fun q => ev ns2 f q) := by
  have hmm := @run_makeMap Try.prog
  have la := h.lta
  have lM := h.ltM
  have hA := h.lowA
  have v16 := h2.vars16
  have wf := h.wf
  have t1 : (decide ((0 : Int) ≤ (f : Int)) && decide ((f : Int) < (ns2.length : Int))) = true := by simp; omega
  have HF : Hid (∀ w', Ar base2 a2 M2 v2 most2 w' ns2 → Calls Try.prog 86 #[.pointer (some ⟨a2, 0, none⟩), .int .i64 (f : Int)] w' fun e w'' => e = .returned (.bool true) ∧ w'' = w') := fun w' h' => by
    have := hasFunction_any h' (f : Int)
    rw [t1] at this
    exact this
  have t2 : decide ((vars : Int) < (v2 : Int)) = false := by simp; omega
  have hs : ((w.drew).alloc (.map #[] 0)).heap.size = w.heap.size + 1 := by simp
  have hb := bu_new (w := (w.drew).alloc (.map #[] 0)) (C := ⟨base, a, w.heap.size + 1, M, none, none, some w.heap.size, vars, most⟩) (m1 := fun _ => none) (m2 := fun _ => none) (m3 := fun _ => none) ((h.drewT).alloc _) (by simp) (by rw [hs]; show base ≤ _; omega)
    (fun _ e => by cases e) (fun _ e => by cases e) (fun i e => by cases e; exact mapIs_made intE w.drew) (fun _ e => by cases e) (fun _ e => by cases e) (fun i e => by cases e; exact ⟨by show base ≤ _; omega, by show w.heap.size ≠ M; omega, (fun e => by cases e), (fun e => by cases e)⟩)
  obtain ⟨_, _, rb2, rl2⟩ := h2.row
  have la2 := h2.lta
  have lM2 := h2.ltM
  have lo2 := h2.lowA
  have loM2 := h2.lowM
  have hrow : rowOf (((w.drew).alloc (.map #[] 0)).alloc (.cells #[.pointer (some ⟨a, 0, none⟩), .bool false, .map none, .map none, .map (some w.heap.size)] 119)) a = rowOf w a := by
    rw [rowOf_same (Below.heap_alloc _ _ _ (by simp; omega)), rowOf_same (Below.heap_alloc w.drew _ _ la)]
    rfl
  have hrow2 : rowOf (((w.drew).alloc (.map #[] 0)).alloc (.cells #[.pointer (some ⟨a, 0, none⟩), .bool false, .map none, .map none, .map (some w.heap.size)] 119)) a2 = rowOf w a2 := by
    rw [rowOf_same (Below.heap_alloc _ _ _ (by simp; omega)), rowOf_same (Below.heap_alloc w.drew _ _ la2)]
    rfl
  have out : ∀ i, base2 ≤ i → i < w.heap.size → Out ⟨base, a, w.heap.size + 1, M, none, none, some w.heap.size, vars, most⟩ (((w.drew).alloc (.map #[] 0)).alloc (.cells #[.pointer (some ⟨a, 0, none⟩), .bool false, .map none, .map none, .map (some w.heap.size)] 119)) i := by
    intro i h1 h2
    refine ⟨by simp; omega, ?_, ?_⟩
    · rintro (e | e | e | e | e | e)
      · have e' : i = a := e; omega
      · have e' : i = w.heap.size + 1 := e; omega
      · have e' : i = M := e; omega
      · cases e
      · cases e
      · cases e; omega
    · show i ≠ rowOf _ a
      rw [hrow]
      omega
  have hFr : Fr ⟨base, a, w.heap.size + 1, M, none, none, some w.heap.size, vars, most⟩ (((w.drew).alloc (.map #[] 0)).alloc (.cells #[.pointer (some ⟨a, 0, none⟩), .bool false, .map none, .map none, .map (some w.heap.size)] 119)) base2 a2 M2 v2 most2 ns2 :=
    ⟨((h2.drewT).alloc _).alloc _, out a2 lo2 la2, out M2 loM2 lM2, by rw [hrow2]; exact out _ rb2 rl2⟩
  have hpw := Nat.pow_le_pow_right (n := 2) (by omega) v16
  have hch := take_any (C := ⟨base, a, w.heap.size + 1, M, none, none, some w.heap.size, vars, most⟩) (c3 := w.heap.size) rfl hv2 v2 _ ns false 0 _ f hb hFr hf (Nat.le_add_left _ _) (fun _ _ _ e => by cases e) (by omega)
  have hch' := Hq.mk hch
  obtain ⟨cap, a0, _⟩ := h.reads
  obtain ⟨cap2, b0, _⟩ := h2.reads
  have a0' : w.drew.cell? ⟨a, 0, none⟩ = some (.int .i64 (vars : Int)) := a0
  have b0' : w.drew.cell? ⟨a2, 0, none⟩ = some (.int .i64 (v2 : Int)) := b0
  have h2d := h2.drewT
  clear hch hb hFr out hrow hrow2 hpw
  go_enter Try.func75, Try.ntmps75
  go_wp2_with fail
  go_region_held3 (fun w' => w'.cell? ⟨a, 0, none⟩ = some (.int .i64 (vars : Int)) ∧ w'.cell? ⟨a2, 0, none⟩ = some (.int .i64 (v2 : Int))) (exact ⟨by assumption, by assumption⟩)
    (first | (go_at_call 86; refine (HF.out _ (by assumption)).mono ?_; rintro e wn ⟨rfl, rfl⟩))
  go_wp2_with fail
  refine hch'.out.mono ?_
  rintro e w2 ⟨r, ns', full', N', m3', rfl, hp, X, l1, _, lt, _, sm⟩
  have wf' := hp.bu.ar.wf
  have hK : Kp (ca base a M vars most) w w2 := hp.kp.outer rfl rfl rfl rfl (by simp; omega) (fun i hi => (Below.heap_alloc _ _ _ (by simp; omega)).trans (Below.heap_alloc _ _ _ hi)) (by
    rintro i (e | e | e | e | e | e)
    · exact Or.inl e
    · exact Or.inr (Or.inr (by rw [e]; show _ ≤ w.heap.size + 1; omega))
    · exact Or.inr (Or.inl e)
    · cases e
    · cases e
    · cases e; exact Or.inr (Or.inr (Nat.le_refl _))) la
  go_wp2_with fail
  cases full'
  · refine (answer_any hp.bu r).mono ?_
    rintro e w3 ⟨rfl, rfl⟩
    have hfin : OpPost base a M vars most w ns (2 ^ v2 - 1) (fun q => ev ns2 f q) (.returned (.tuple #[.int .i64 (r : Int), .int .i64 0])) w3 :=
      ⟨ns', hp.bu.ar, hK, X, l1, Or.inl ⟨r, rfl, lt, fun q => (sm rfl).2.ev q⟩⟩
    clear hp hK
    go_wp2_with fail
    go_ret2
    exact hfin
  · refine (answer_any hp.bu r).mono ?_
    rintro e w3 ⟨rfl, rfl⟩
    have hfin : OpPost base a M vars most w ns (2 ^ v2 - 1) (fun q => ev ns2 f q) (.returned (.tuple #[.int .i64 0, .int .i64 6])) w3 :=
      ⟨ns', hp.bu.ar, hK, X, l1, Or.inr ⟨rfl, hp.bu.full_len rfl⟩⟩
    clear hp hK
    go_wp2_with fail
    go_ret2
    exact hfin

theorem Ar.kalloc2 {base a M vars most : Nat} {w : World} {ns : List Nd} (h : Ar base a M vars most w ns) (o : Obj) : Kp (ca base a M vars most) w (w.alloc o) :=
  ⟨rfl, rfl, rfl, by simp, fun i hi _ _ => Below.heap_alloc w o i hi, Or.inl (rowOf_same (Below.heap_alloc w o _ h.lta))⟩

set_option maxHeartbeats 4000000 in
theorem take_const {base a M vars most base2 a2 M2 v2 most2 : Nat} {w : World} {ns ns2 : List Nd} (h : Ar base a M vars most w ns) (h2 : Ar base2 a2 M2 v2 most2 w ns2) (hv2 : v2 ≤ vars) {f : Nat} (hf1 : f ≤ 1) :
    Calls Try.prog 75 #[.pointer (some ⟨a, 0, none⟩), .pointer (some ⟨a2, 0, none⟩), .int .i64 (f : Int)] w fun e w' => e = .returned (.tuple #[.int .i64 (f : Int), .int .i64 0]) ∧ Ar base a M vars most w' ns ∧ Kp (ca base a M vars most) w w' := by
  have hf : f < ns2.length := by have := h2.wf.len; omega
  have hmm := @run_makeMap Try.prog
  have la := h.lta
  have lM := h.ltM
  have hA := h.lowA
  have t1 : (decide ((0 : Int) ≤ (f : Int)) && decide ((f : Int) < (ns2.length : Int))) = true := by simp; omega
  have HF : Hid (∀ w', Ar base2 a2 M2 v2 most2 w' ns2 → Calls Try.prog 86 #[.pointer (some ⟨a2, 0, none⟩), .int .i64 (f : Int)] w' fun e w'' => e = .returned (.bool true) ∧ w'' = w') := fun w' h' => by
    have := hasFunction_any h' (f : Int)
    rw [t1] at this
    exact this
  have t2 : decide ((vars : Int) < (v2 : Int)) = false := by simp; omega
  have hs : ((w.drew).alloc (.map #[] 0)).heap.size = w.heap.size + 1 := by simp
  have hb := bu_new (w := (w.drew).alloc (.map #[] 0)) (C := ⟨base, a, w.heap.size + 1, M, none, none, some w.heap.size, vars, most⟩) (m1 := fun _ => none) (m2 := fun _ => none) (m3 := fun _ => none) ((h.drewT).alloc _) (by simp) (by rw [hs]; show base ≤ _; omega)
    (fun _ e => by cases e) (fun _ e => by cases e) (fun i e => by cases e; exact mapIs_made intE w.drew) (fun _ e => by cases e) (fun _ e => by cases e) (fun i e => by cases e; exact ⟨by show base ≤ _; omega, by show w.heap.size ≠ M; omega, (fun e => by cases e), (fun e => by cases e)⟩)
  have hch := take_small (a2 := a2) hb hf1
  have hch' := Hq.mk hch
  obtain ⟨cap, a0, _⟩ := h.reads
  obtain ⟨cap2, b0, _⟩ := h2.reads
  have a0' : w.drew.cell? ⟨a, 0, none⟩ = some (.int .i64 (vars : Int)) := a0
  have b0' : w.drew.cell? ⟨a2, 0, none⟩ = some (.int .i64 (v2 : Int)) := b0
  have h2d := h2.drewT
  have hb' := Hq.mk hb
  clear hch hb
  go_enter Try.func75, Try.ntmps75
  go_wp2_with fail
  go_region_held3 (fun w' => w'.cell? ⟨a, 0, none⟩ = some (.int .i64 (vars : Int)) ∧ w'.cell? ⟨a2, 0, none⟩ = some (.int .i64 (v2 : Int))) (exact ⟨by assumption, by assumption⟩)
    (first | (go_at_call 86; refine (HF.out _ (by assumption)).mono ?_; rintro e wn ⟨rfl, rfl⟩))
  go_wp2_with fail
  refine hch'.out.mono ?_
  rintro e w2 ⟨rfl, rfl⟩
  have hK : Kp (ca base a M vars most) w (((w.drew).alloc (.map #[] 0)).alloc (.cells #[.pointer (some ⟨a, 0, none⟩), .bool false, .map none, .map none, .map (some w.heap.size)] 119)) := (Kp.refl (ca base a M vars most) w).drew.trans ((h.drewT.kalloc2 _).trans ((h.drewT.alloc _).kalloc2 _))
  have hA9 := ((h.drewT).alloc (.map #[] 0)).alloc (.cells #[.pointer (some ⟨a, 0, none⟩), .bool false, .map none, .map none, .map (some w.heap.size)] 119)
  go_wp2_with fail
  refine (answer_any hb'.out f).mono ?_
  rintro e w3 ⟨rfl, rfl⟩
  have fin := Hq.mk (And.intro hA9 hK)
  clear hA9 hK hb'
  go_wp2_with fail
  go_ret2
  exact ⟨rfl, fin.out⟩
end Go.Proofs.Ytgcimcpcnoojnaa


