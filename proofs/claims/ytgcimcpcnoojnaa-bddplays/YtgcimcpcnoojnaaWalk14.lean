/-
  Count, whole; Rest; some.
-/
import Derived.Test.YtgcimcpcnoojnaaWalk13
namespace Go.Proofs.Ytgcimcpcnoojnaa
open Go.RowKit Go.Maps

section
variable {base a M vars most : Nat} {w : World} {ns : List Nd}

set_option maxHeartbeats 2000000 in
set_option maxRecDepth 100000 in
theorem count_ok (h : Ar base a M vars most w ns) {f : Nat} (hf : f < ns.length) :
    Calls Try.prog 46 #[.pointer (some ⟨a, 0, none⟩), .int .i64 (f : Int)] w fun e w' => e = .returned (.tuple #[.int .i64 ((cn vars ns f * 2 ^ nv ns f : Nat) : Int), .int .i64 0]) ∧ Ar base a M vars most w' ns ∧ Kp (ca base a M vars most) w w' := by
  have hmm := @run_makeMap Try.prog
  have la := h.lta
  have lM := h.ltM
  have v16 := h.vars16
  have wf := h.wf
  have hva := va_le wf hf
  have hcl := cn_le (vars := vars) (ns := ns) f
  have hl : ns.length ≤ 40000 := Nat.le_trans h.le h.most4
  have hA : Ar base a M vars most (w.alloc (.map #[] 0)).drew ns := (h.alloc _).same rfl rfl rfl
  have hm : MapIs intE (w.alloc (.map #[] 0)).drew w.heap.size 0 (fun _ => none) := (mapIs_made intE w).same rfl
  have hpw : 2 ^ vars ≤ 2 ^ 16 := Nat.pow_le_pow_right (by omega) v16
  have hc := Hq.mk (count_any (base := base) (a := a) (most := most) (ns := ns) (M := M) (K := w.heap.size) (by omega) vars _ 0 _ f hA hm (fun _ _ e => by cases e) hf (Nat.le_add_left _ _) (by omega))
  have hwr : IntKind.i64.wrap ((cn vars ns f : Int) * 2 ^ nv ns f) = ((cn vars ns f * 2 ^ nv ns f : Nat) : Int) := by
    have p1 : cn vars ns f * 2 ^ nv ns f ≤ 2 ^ (vars - nv ns f) * 2 ^ nv ns f := Nat.mul_le_mul_right _ hcl
    rw [← Nat.pow_add, show vars - nv ns f + nv ns f = vars by omega] at p1
    have e : (cn vars ns f : Int) * 2 ^ nv ns f = ((cn vars ns f * 2 ^ nv ns f : Nat) : Int) := by simp
    rw [e, IntWalk.i64_in _ (by omega)]
  have hwr' := Hq.mk hwr
  have t1 : (decide ((0 : Int) ≤ (f : Int)) && decide ((f : Int) < (ns.length : Int))) = true := by simp; omega
  have hkeep : ∀ w1 : World, (w.alloc (.map #[] 0)).drew.grownBy w1 (some w.heap.size) → Ar base a M vars most w1 ns ∧ Kp (ca base a M vars most) w w1 := fun w1 hg => by
    obtain ⟨q1, q2⟩ := hA.grownK hm (by omega) hg
    refine ⟨q1, ⟨hg.os, hg.tape, hg.output, ?_, fun i hi _ _ => ?_, Or.inl ?_⟩⟩
    · have := hg.size; simp only [heap_drew, World.size_alloc] at this; omega
    · rw [hg.block i (by simp; omega) (by simp; omega), heap_drew, Below.heap_alloc _ _ _ hi]
    · exact q2.trans (rowOf_same (Below.heap_alloc w _ a la))
  obtain ⟨cap, a0, a1, a2, a3, af, an⟩ := h.reads
  obtain ⟨n0, n1, n2⟩ := an f hf
  have hcell : ∀ w1 : World, (w.alloc (.map #[] 0)).drew.grownBy w1 (some w.heap.size) → w1.cell? ⟨a, 2, none⟩ = some (.slice (some ⟨rowOf w a, 0, none⟩) ns.length cap) ∧ w1.cell? ⟨rowOf w a, f * 3, none⟩ = some (.int .i64 (nv ns f : Int)) := fun w1 hg => by
    obtain ⟨_, _, _, rl⟩ := h.row
    refine ⟨?_, ?_⟩
    · rw [hg.cell_far ⟨a, 2, none⟩ (by simp; omega) (by simp; omega)]
      simp [*, World.cell?_alloc_some]
    · rw [hg.cell_far ⟨rowOf w a, f * 3, none⟩ (by simp; omega) (by simp; omega)]
      simp [*, World.cell?_alloc_some]
  have hch := Hq.mk hkeep
  have rl : rowOf w a < w.heap.size := by obtain ⟨_, _, _, rl⟩ := h.row; exact rl
  clear an hm hwr hA hkeep
  generalize rowOf w a = g at *
  go_enter Try.func46, Try.ntmps46
  go_wp2_with (go_at_call 86; refine (hasFunction_any h (f : Int)).mono ?_; rintro e w' ⟨rfl, rfl⟩; rw [t1])
  go_region_held3 (fun w1 => w1.cell? ⟨a, 2, none⟩ = some (.slice (some ⟨g, 0, none⟩) ns.length cap) ∧ w1.cell? ⟨g, f * 3, none⟩ = some (.int .i64 (nv ns f : Int))) (go_keep)
    (first | (go_at_call 91; refine hc.out.mono ?_; rintro e w1 ⟨n', mk', rfl, hg, hM, hmm, hn⟩; obtain ⟨q1, q2⟩ := hcell _ hg))
  obtain ⟨r1, r2⟩ := hch.out _ hg
  go_wp2_with fail
  go_ret2
  refine ⟨?_, r1, r2⟩
  rw [← hwr'.out]
  rfl
end
end Go.Proofs.Ytgcimcpcnoojnaa


