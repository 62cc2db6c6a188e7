/-
  Count.
-/
import Derived.Test.YtgcimcpcnoojnaaPlain3
namespace Go.Proofs.Ytgcimcpcnoojnaa
open Go.RowKit Go.Maps

def MemoN (vars : Nat) (ns : List Nd) (m : Nat → Option Nat) : Prop := ∀ f c, m f = some c → c = cn vars ns f
theorem MemoN.upd {vars : Nat} {ns : List Nd} {m : Nat → Option Nat} (h : MemoN vars ns m) (f : Nat) : MemoN vars ns (upd m f (cn vars ns f)) := by
  intro d c hc
  unfold Ytgcimcpcnoojnaa.upd at hc
  by_cases e : d = f
  · subst e
    rw [if_pos rfl] at hc
    cases hc
    rfl
  · rw [if_neg e] at hc
    exact h d c hc

/-- What a count leaves: its answer, and more that is known, in block K. -/
def CountPost (vars : Nat) (w : World) (ns : List Nd) (K n g r : Nat) (e : Ending) (w' : World) : Prop :=
  ∃ n' mk', e = .returned (.int .i64 (r : Int)) ∧ w.grownBy w' (some K) ∧ MapIs intE w' K n' mk' ∧ MemoN vars ns mk' ∧ n' ≤ n + g

section
variable {base a M vars most : Nat} {w w' : World} {ns : List Nd} {K n : Nat} {mk : Nat → Option Nat}

theorem Ar.grownK (h : Ar base a M vars most w ns) (hm : MapIs intE w K n mk) (hKM : K ≠ M) (hg : w.grownBy w' (some K)) : Ar base a M vars most w' ns ∧ rowOf w' a = rowOf w a := by
  obtain ⟨es, clock, hb⟩ := hm.isMap
  obtain ⟨g, cap, hba, _⟩ := h.blk
  obtain ⟨cur, hr, _, rl⟩ := h.row
  have k1 : a ≠ K := fun e => by rw [← e, hba] at hb; simp at hb
  have k2 : rowOf w a ≠ K := fun e => by rw [← e, hr] at hb; simp at hb
  have b1 := hg.block a h.lta (by simpa using k1)
  exact ⟨h.same b1 (hg.block M h.ltM (by simpa using hKM.symm)) (hg.block _ rl (by simpa using k2)), rowOf_same b1⟩

set_option maxHeartbeats 2000000 in
set_option maxRecDepth 100000 in
theorem countBelow_of (h : Ar base a M vars most w ns) (hm : MapIs intE w K n mk) (hmn : MemoN vars ns mk) {f v k : Nat} (hf : f < ns.length) (hv : v < nv ns f) (hN : n + 2 ^ k ≤ 1099511627776)
    (hc : Hq (∀ w n mk, Ar base a M vars most w ns → MapIs intE w K n mk → MemoN vars ns mk → n + 2 ^ k ≤ 1099511627776 → Calls Try.prog 91 #[.pointer (some ⟨a, 0, none⟩), .int .i64 (f : Int), .map (some K)] w (CountPost vars w ns K n (2 ^ k - 1) (cn vars ns f)))) :
    Calls Try.prog 106 #[.pointer (some ⟨a, 0, none⟩), .int .i64 (f : Int), .int .i64 (v : Int), .map (some K)] w (CountPost vars w ns K n (2 ^ k - 1) (cn vars ns f * 2 ^ (nv ns f - v - 1))) := by
  have hA : Ar base a M vars most w.drew ns := h.same rfl rfl rfl
  have hmd : MapIs intE w.drew K n mk := hm.same rfl
  have v16 := h.vars16
  have wf := h.wf
  have hva := va_le wf hf
  have hcl := cn_le (vars := vars) (ns := ns) f
  have hl : ns.length ≤ 40000 := Nat.le_trans h.le h.most4
  have hwr : IntKind.i64.wrap ((cn vars ns f : Int) * 2 ^ (nv ns f - v - 1)) = ((cn vars ns f * 2 ^ (nv ns f - v - 1) : Nat) : Int) := by
    have p1 : cn vars ns f * 2 ^ (nv ns f - v - 1) ≤ 2 ^ (vars - nv ns f) * 2 ^ (nv ns f - v - 1) := Nat.mul_le_mul_right _ hcl
    rw [← Nat.pow_add] at p1
    have p2 : 2 ^ (vars - nv ns f + (nv ns f - v - 1)) ≤ 2 ^ 16 := Nat.pow_le_pow_right (by omega) (by omega)
    have e : (cn vars ns f : Int) * 2 ^ (nv ns f - v - 1) = ((cn vars ns f * 2 ^ (nv ns f - v - 1) : Nat) : Int) := by simp
    rw [e, IntWalk.i64_in _ (by omega)]
  have wr1 : IntKind.i64.wrap ((nv ns f : Int) - (v : Int)) = (nv ns f : Int) - (v : Int) := IntWalk.i64_in _ (by omega)
  have wr2 : IntKind.i64.wrap ((nv ns f : Int) - (v : Int) - 1) = (nv ns f : Int) - (v : Int) - 1 := IntWalk.i64_in _ (by omega)
  obtain ⟨cap, a0, a1, a2, a3, af, an⟩ := h.reads
  obtain ⟨n0, n1, n2⟩ := an f hf
  have hkeep : ∀ n1 mk1 w1, w.drew.grownBy w1 (some K) → MapIs intE w1 K n1 mk1 → w1.cell? ⟨a, 2, none⟩ = some (.slice (some ⟨rowOf w a, 0, none⟩) ns.length cap) ∧ w1.cell? ⟨rowOf w a, f * 3, none⟩ = some (.int .i64 (nv ns f : Int)) := fun n1 mk1 w1 hg hm1 => by
    obtain ⟨es, clock, hb⟩ := hm.isMap
    obtain ⟨g, cap', hba, _⟩ := h.blk
    obtain ⟨cur, hr, _, rl⟩ := h.row
    have k1 : a ≠ K := fun e => by rw [← e, hba] at hb; simp at hb
    have k2 : rowOf w a ≠ K := fun e => by rw [← e, hr] at hb; simp at hb
    exact ⟨(hg.cell_far ⟨a, 2, none⟩ h.lta (by simpa using k1)).trans a2, (hg.cell_far ⟨rowOf w a, f * 3, none⟩ rl (by simpa using k2)).trans n0⟩
  have hwr' := Hq.mk hwr
  clear h an hm hwr
  generalize rowOf w a = g at *
  go_enter Try.func106, Try.ntmps106
  go_wp2_with fail
  go_region_held3 (fun w' => w'.cell? ⟨a, 2, none⟩ = some (.slice (some ⟨g, 0, none⟩) ns.length cap) ∧ w'.cell? ⟨g, f * 3, none⟩ = some (.int .i64 (nv ns f : Int))) (go_keep)
    (first | (go_at_call 91; refine (hc.out _ n mk hA hmd hmn hN).mono ?_; rintro e w1 ⟨n', mk', rfl, hg, hM, hmm, hn⟩; obtain ⟨q1, q2⟩ := hkeep _ _ _ hg hM))
  have hfin : CountPost vars w ns K n (2 ^ k - 1) (cn vars ns f * 2 ^ (nv ns f - v - 1)) (.returned (.int .i64 (IntKind.i64.wrap ((cn vars ns f : Int) * 2 ^ (nv ns f - v - 1))))) w1 := ⟨n', mk', by rw [hwr'.out], ⟨hg.os, hg.tape, hg.output, hg.size, hg.block⟩, hM, hmm, hn⟩
  go_wp2_with fail
  go_ret
  exact hfin

theorem count_small (w : World) (K : Nat) {f : Nat} (hf : f ≤ 1) : Calls Try.prog 91 #[.pointer (some ⟨a, 0, none⟩), .int .i64 (f : Int), .map (some K)] w fun e w' => e = .returned (.int .i64 (f : Int)) ∧ w' = w := by
  have t1 : decide ((f : Int) ≤ 1) = true := by simp; omega
  go_enter Try.func91, Try.ntmps91
  go_wp2_with fail
  go_ret
  exact ⟨rfl, rfl⟩

theorem count_hit (hm : MapIs intE w K n mk) {f c : Nat} (f2 : 2 ≤ f) (hf : f < 9223372036854775808) (hc : mk f = some c) :
    Calls Try.prog 91 #[.pointer (some ⟨a, 0, none⟩), .int .i64 (f : Int), .map (some K)] w fun e w' => e = .returned (.int .i64 (c : Int)) ∧ w' = w := by
  have t1 : decide ((f : Int) ≤ 1) = false := by simp; omega
  have hlook := hm.look Try.u47 (x := f) hf
  rw [hc] at hlook
  simp only [intE, Option.getD_some, Option.isSome_some] at hlook
  clear hm
  go_enter Try.func91, Try.ntmps91
  go_wp2_with fail
  go_ret
  exact ⟨rfl, rfl⟩

set_option maxHeartbeats 4000000 in
set_option maxRecDepth 100000 in
theorem count_miss (h : Ar base a M vars most w ns) (hm : MapIs intE w K n mk) (hKM : K ≠ M) (hmn : MemoN vars ns mk) {f k : Nat} (f2 : 2 ≤ f) (hf : f < ns.length) (hr : mk f = none) (hk : vars ≤ nv ns f + (k + 1)) (hN : n + 2 ^ (k + 1) ≤ 1099511627776)
    (ih : Hq (∀ w n mk f, Ar base a M vars most w ns → MapIs intE w K n mk → MemoN vars ns mk → f < ns.length → vars ≤ nv ns f + k → n + 2 ^ k ≤ 1099511627776 → Calls Try.prog 91 #[.pointer (some ⟨a, 0, none⟩), .int .i64 (f : Int), .map (some K)] w (CountPost vars w ns K n (2 ^ k - 1) (cn vars ns f)))) :
    Calls Try.prog 91 #[.pointer (some ⟨a, 0, none⟩), .int .i64 (f : Int), .map (some K)] w (CountPost vars w ns K n (2 ^ (k + 1) - 1) (cn vars ns f)) := by
  have wf := h.wf
  have v16 := h.vars16
  have hv := wf.va f f2 hf
  have l1 := wf.lo f f2 hf
  have l2 := wf.hi f f2 hf
  have v1 := wf.vlo f f2 hf
  have v2 := wf.vhi f f2 hf
  have hl : ns.length ≤ 40000 := Nat.le_trans h.le h.most4
  have hp2 : 2 ^ (k + 1) = 2 * 2 ^ k := by rw [Nat.pow_succ]; omega
  have hp1 : 1 ≤ 2 ^ k := Nat.one_le_two_pow
  have t1 : decide ((f : Int) ≤ 1) = false := by simp; omega
  have hlook := hm.look Try.u47 (x := f) (by show f < _; omega)
  rw [hr] at hlook
  simp only [intE, Option.getD_none, Option.isSome_none] at hlook
  obtain ⟨cap, a0, a1, a2, a3, af, an⟩ := h.reads
  obtain ⟨n0, n1, n2⟩ := an f hf
  have lK := hm.lt
  have hcn := cn_node wf f2 hf
  have hle := cn_le (vars := vars) (ns := ns) f
  have hle2 : cn vars ns f ≤ 65536 := Nat.le_trans hle (by have : 2 ^ (vars - nv ns f) ≤ 2 ^ 16 := Nat.pow_le_pow_right (by omega) (by omega); omega)
  -- the two halves, and what they leave
  have hA0 : Ar base a M vars most (w.alloc (.cells #[.int .i64 (nv ns f : Int), .int .i64 (nl ns f : Int), .int .i64 (nh ns f : Int)] 87)).drew ns := (h.alloc _).same rfl rfl rfl
  have hm0 : MapIs intE (w.alloc (.cells #[.int .i64 (nv ns f : Int), .int .i64 (nl ns f : Int), .int .i64 (nh ns f : Int)] 87)).drew K n mk := hm.same (Below.heap_alloc w _ K lK)
  have low : Hq (Calls Try.prog 106 #[.pointer (some ⟨a, 0, none⟩), .int .i64 (nl ns f : Int), .int .i64 (nv ns f : Int), .map (some K)] (w.alloc (.cells #[.int .i64 (nv ns f : Int), .int .i64 (nl ns f : Int), .int .i64 (nh ns f : Int)] 87)).drew
      (CountPost vars (w.alloc (.cells #[.int .i64 (nv ns f : Int), .int .i64 (nl ns f : Int), .int .i64 (nh ns f : Int)] 87)).drew ns K n (2 ^ k - 1) (cn vars ns (nl ns f) * 2 ^ (nv ns (nl ns f) - nv ns f - 1)))) :=
    ⟨countBelow_of hA0 hm0 hmn (by omega) v1 (by omega) ⟨fun w n mk q1 q2 q3 q4 => ih.out w n mk _ q1 q2 q3 (by omega) (by omega) q4⟩⟩
  have high : Hq (∀ (n' : Nat) (mk' : Nat → Option Nat) (w1 : World), (w.alloc (.cells #[.int .i64 (nv ns f : Int), .int .i64 (nl ns f : Int), .int .i64 (nh ns f : Int)] 87)).drew.grownBy w1 (some K) → MapIs intE w1 K n' mk' → MemoN vars ns mk' → n' ≤ n + (2 ^ k - 1) →
      (w1.cell? ⟨w.heap.size, 0, none⟩ = some (.int .i64 (nv ns f : Int)) ∧ w1.cell? ⟨w.heap.size, 1, none⟩ = some (.int .i64 (nl ns f : Int)) ∧ w1.cell? ⟨w.heap.size, 2, none⟩ = some (.int .i64 (nh ns f : Int))) ∧
      Calls Try.prog 106 #[.pointer (some ⟨a, 0, none⟩), .int .i64 (nh ns f : Int), .int .i64 (nv ns f : Int), .map (some K)] w1 (CountPost vars w1 ns K n' (2 ^ k - 1) (cn vars ns (nh ns f) * 2 ^ (nv ns (nh ns f) - nv ns f - 1)))) :=
    ⟨fun n' mk' w1 hg hm1 hmm hn => by
      have hne : some w.heap.size ≠ some K := by simp; omega
      refine ⟨⟨?_, ?_, ?_⟩, countBelow_of (hA0.grownK hm0 hKM hg).1 hm1 hmm (by omega) v2 (by omega) ⟨fun w n mk q1 q2 q3 q4 => ih.out w n mk _ q1 q2 q3 (by omega) (by omega) q4⟩⟩
      · rw [hg.cell_far ⟨w.heap.size, 0, none⟩ (by simp) hne]; simp
      · rw [hg.cell_far ⟨w.heap.size, 1, none⟩ (by simp) hne]; simp
      · rw [hg.cell_far ⟨w.heap.size, 2, none⟩ (by simp) hne]; simp⟩
  have keep2 : Hq (∀ w1 w2 : World, w1.grownBy w2 (some K) → w.heap.size < w1.heap.size → (w1.cell? ⟨w.heap.size, 0, none⟩ = some (.int .i64 (nv ns f : Int)) ∧ w1.cell? ⟨w.heap.size, 1, none⟩ = some (.int .i64 (nl ns f : Int)) ∧ w1.cell? ⟨w.heap.size, 2, none⟩ = some (.int .i64 (nh ns f : Int))) →
      (w2.cell? ⟨w.heap.size, 0, none⟩ = some (.int .i64 (nv ns f : Int)) ∧ w2.cell? ⟨w.heap.size, 1, none⟩ = some (.int .i64 (nl ns f : Int)) ∧ w2.cell? ⟨w.heap.size, 2, none⟩ = some (.int .i64 (nh ns f : Int)))) :=
    ⟨fun w1 w2 hg hs ⟨c0, c1, c2⟩ => by
      have hne : some w.heap.size ≠ some K := by simp; omega
      exact ⟨(hg.cell_far ⟨w.heap.size, 0, none⟩ hs hne).trans c0, (hg.cell_far ⟨w.heap.size, 1, none⟩ hs hne).trans c1, (hg.cell_far ⟨w.heap.size, 2, none⟩ hs hne).trans c2⟩⟩
  generalize hcl : cn vars ns (nl ns f) * 2 ^ (nv ns (nl ns f) - nv ns f - 1) = xl at *
  generalize hch : cn vars ns (nh ns f) * 2 ^ (nv ns (nh ns f) - nv ns f - 1) = xh at *
  have wr : IntKind.i64.wrap ((xl : Int) + (xh : Int)) = (xl : Int) + (xh : Int) := IntWalk.i64_in _ (by omega)
  have hcn' := Hq.mk hcn
  clear h an hm hcn
  generalize rowOf w a = g at *
  go_enter Try.func91, Try.ntmps91
  go_wp2_with fail
  go_cut [10] (fun v wx => v = .int .i64 ((cn vars ns f : Nat) : Int) ∧ ∃ n2 mk2, w.grownBy wx (some K) ∧ MapIs intE wx K n2 mk2 ∧ MemoN vars ns mk2 ∧ n2 ≤ n + (2 ^ k - 1) + (2 ^ k - 1))
  case first =>
    go_region_held3 (fun w' => w'.cell? ⟨w.heap.size, 0, none⟩ = some (.int .i64 (nv ns f : Int)) ∧ w'.cell? ⟨w.heap.size, 1, none⟩ = some (.int .i64 (nl ns f : Int)) ∧ w'.cell? ⟨w.heap.size, 2, none⟩ = some (.int .i64 (nh ns f : Int))) (first | go_keep | exact ⟨by assumption, by assumption, by assumption⟩)
      (first
        | (go_at_call_of 106 (Value.int .i64 (nl ns f : Int)); refine low.out.mono ?_; rintro e w1 ⟨n', mk', rfl, hg1, hM1, hmm1, hn1⟩; obtain ⟨⟨c0, c1, c2⟩, hcall⟩ := high.out _ _ _ hg1 hM1 hmm1 hn1; have hcall' := Hq.mk hcall; clear hcall)
        | (go_at_call_of 106 (Value.int .i64 (nh ns f : Int)); refine hcall'.out.mono ?_; rintro e w2 ⟨n'', mk'', rfl, hg2, hM2, hmm2, hn2⟩; obtain ⟨d0, d1, d2⟩ := keep2.out _ _ hg2 (Nat.lt_of_lt_of_le (by simp) hg1.size) ⟨c0, c1, c2⟩))
    go_wp2_with fail
    go_meet
    exact ⟨by rw [show ((cn vars ns f : Nat) : Int) = (xl : Int) + (xh : Int) by have := hcn'.out; omega], n'', mk'', (World.grownBy_alloc w _ (some K)).trans (World.grownBy.trans ⟨hg1.os, hg1.tape, hg1.output, hg1.size, hg1.block⟩ hg2), hM2, hmm2, by omega⟩
  case rest =>
    obtain ⟨rfl, n2, mk2, hg, hM, hmm, hn⟩ := hcut
    obtain ⟨w8, hrun, hM8, hg8⟩ := hM.store Try.u47 (by unfold maxLen; omega) (x := f) (by show f < _; omega) (v := cn vars ns f) (by omega)
    simp only [intE] at hrun
    have hfin : CountPost vars w ns K n (2 ^ (k + 1) - 1) (cn vars ns f) (.returned (.int .i64 ((cn vars ns f : Nat) : Int))) w8 := ⟨n2 + 1, _, rfl, hg.trans hg8, hM8, hmm.upd f, by omega⟩
    clear hM hM8
    go_wp2_with fail
    go_ret
    exact hfin

theorem count_any (hKM : K ≠ M) : ∀ (k : Nat) (w : World) (n : Nat) (mk : Nat → Option Nat) (f : Nat), Ar base a M vars most w ns → MapIs intE w K n mk → MemoN vars ns mk → f < ns.length → vars ≤ nv ns f + k → n + 2 ^ k ≤ 1099511627776 →
    Calls Try.prog 91 #[.pointer (some ⟨a, 0, none⟩), .int .i64 (f : Int), .map (some K)] w (CountPost vars w ns K n (2 ^ k - 1) (cn vars ns f)) := by
  intro k
  have small : ∀ (w : World) (n g : Nat) (mk : Nat → Option Nat) (f : Nat), Ar base a M vars most w ns → MapIs intE w K n mk → MemoN vars ns mk → f ≤ 1 → Calls Try.prog 91 #[.pointer (some ⟨a, 0, none⟩), .int .i64 (f : Int), .map (some K)] w (CountPost vars w ns K n g (cn vars ns f)) := by
    intro w n g mk f h hm hmn h1
    refine (count_small w K h1).mono ?_
    rintro e w' ⟨rfl, rfl⟩
    refine ⟨n, mk, ?_, ⟨rfl, rfl, rfl, Nat.le_refl _, fun _ _ _ => rfl⟩, hm, hmn, by omega⟩
    match f, h1 with
    | 0, _ => rw [cn_0 h.wf]
    | 1, _ => rw [cn_1 h.wf]
    | f + 2, h1 => omega
  induction k with
  | zero =>
    intro w n mk f h hm hmn hf hk hN
    refine small w n _ mk f h hm hmn ?_
    by_cases f2 : 2 ≤ f
    · have := h.wf.va f f2 hf; omega
    · omega
  | succ k ih =>
    intro w n mk f h hm hmn hf hk hN
    by_cases f2 : 2 ≤ f
    · cases hr : mk f with
      | none => exact count_miss h hm hKM hmn f2 hf hr hk hN ⟨ih⟩
      | some c =>
        have hl : ns.length ≤ 40000 := Nat.le_trans h.le h.most4
        refine (count_hit hm f2 (by omega) hr).mono ?_
        rintro e w' ⟨rfl, rfl⟩
        exact ⟨n, mk, by rw [hmn f c hr], ⟨rfl, rfl, rfl, Nat.le_refl _, fun _ _ _ => rfl⟩, hm, hmn, by omega⟩
    · exact small w n _ mk f h hm hmn (by omega)
end
end Go.Proofs.Ytgcimcpcnoojnaa


