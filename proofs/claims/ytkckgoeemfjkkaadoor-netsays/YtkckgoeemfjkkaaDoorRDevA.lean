/-
  The document's answer on nets: any device.
-/
import Derived.Test.YtkckgoeemfjkkaaDoorRDev5
namespace Go.Proofs.YtkckgoeemfjkkaaDoor
open Go.RowKit

set_option maxHeartbeats 1000000 in
set_option maxRecDepth 100000 in
theorem rdev_none (nm : ByteArray) (k ad : Int) (pl : Nat) (vb vr vt : Value) (w : World) (h : ¬ (1 ≤ k ∧ k ≤ 5)) :
    Calls Tryd.prog 13 #[.agg #[.string nm, .int .i64 k, .int .i64 ad, .int .u8 (pl : Int), vb, vr, vt]] w fun e w' => e = .returned (.int .i64 1) ∧ Below w.heap.size w w' := by
  have D0 := Below.alN (Below.refl w.heap.size w) (.cells #[.string nm, .int .i64 k, .int .i64 ad, .int .u8 (pl : Int), vb, vr, vt] 41)
  have I0 : Hid (∀ w, Calls Tryd.prog 12 #[.int .i64 k, .int .i64 1, .int .i64 5] w fun e w' => e = .returned (.bool false) ∧ w' = w) := fun w => by
    have := inN k 1 5 w
    rw [show (decide (1 ≤ k) && decide (k ≤ 5)) = false by
      rw [Bool.eq_false_iff]
      simp only [ne_eq, Bool.and_eq_true, decide_eq_true_eq]
      exact h] at this
    exact this
  clear h
  go_enter Tryd.func13, Tryd.ntmps13
  go_wp2_with (go_at_call 12; refine (I0.out _).mono ?_; rintro e w' ⟨rfl, rfl⟩)
  go_ret
  exact ⟨rfl, D0⟩
/-- The document's check of a device. -/
theorem rdevice_any (d : Dv) (vb vr vt : Value) (c : Int) (w : World) (hb : SlAt w.heap.size w 1 IsI vb d.backs) (hr : SlAt w.heap.size w 5 IsRule vr d.rules) (ht : SlAt w.heap.size w 3 IsRoute vt d.routes)
    (RT : Hid (∀ W, Below w.heap.size w W → Calls Tryd.prog 28 #[vt] W fun e w' => e = .returned (.int .i64 c) ∧ Below W.heap.size W w')) :
    Calls Tryd.prog 13 #[.agg #[.string d.name, .int .i64 d.kind, .int .i64 d.addr, .int .u8 (d.pool : Int), vb, vr, vt]] w fun e w' => e = .returned (.int .i64 (devV d.kind d.addr d.pool d.backs d.rules.length d.routes.length c)) ∧ Below w.heap.size w w' := by
  obtain ⟨nm, k, ad, pl, bs, rs, ts, _, _⟩ := d
  simp only at hb hr ht ⊢
  have hb0 := hb
  obtain ⟨Ab, cb, rfl, _, b1, b2, _⟩ := hb
  obtain ⟨Ar, cr, rfl, _, _, _, _⟩ := hr
  obtain ⟨At, ct, rfl, _, _, _, _⟩ := ht
  by_cases hk : 1 ≤ k ∧ k ≤ 5
  · have e0 : (decide (1 ≤ k) && decide (k ≤ 5)) = true := by simp [hk]
    have hkk : k = 1 ∨ k = 2 ∨ k = 3 ∨ k = 4 ∨ k = 5 := by omega
    have nil : bs.length = 0 → backsFrom bs ad 0 = 0 := fun h => backsFrom_end (by omega)
    rcases hkk with rfl | rfl | rfl | rfl | rfl
    · refine (rdev_1 nm ad pl Ab Ar At bs.length cb rs.length cr ts.length ct c w RT).mono fun e w' ⟨e1, e2⟩ => ⟨?_, e2⟩
      rw [e1]
      congr 2
      unfold devV hasAddr
      by_cases n0 : bs.length = 0
      · simp [n0, nil n0]
      · simp [n0, Nat.pos_of_ne_zero n0]
    · refine (rdev_2 nm ad pl Ab Ar At bs.length cb rs.length cr ts.length ct c w RT).mono fun e w' ⟨e1, e2⟩ => ⟨?_, e2⟩
      rw [e1]
      congr 2
      unfold devV hasAddr
      by_cases n0 : bs.length = 0
      · simp [n0, nil n0]
      · simp [n0, Nat.pos_of_ne_zero n0]
    · refine (rdev_3 nm ad pl Ab Ar At bs.length cb rs.length cr ts.length ct c w RT).mono fun e w' ⟨e1, e2⟩ => ⟨?_, e2⟩
      rw [e1]
      congr 2
      unfold devV hasAddr
      by_cases n0 : bs.length = 0
      · simp [n0, nil n0]
      · simp [n0, Nat.pos_of_ne_zero n0]
    · refine (rdev_4 nm ad pl Ab Ar At bs.length cb rs.length cr ts.length ct c w RT).mono fun e w' ⟨e1, e2⟩ => ⟨?_, e2⟩
      rw [e1]
      congr 2
      unfold devV hasAddr
      by_cases n0 : bs.length = 0
      · simp [n0, nil n0]
      · simp [n0, Nat.pos_of_ne_zero n0]
    · refine (rdev_5 nm ad pl Ab Ar At bs cb rs.length cr ts.length ct c w b1 b2 hb0 RT).mono fun e w' ⟨e1, e2⟩ => ⟨?_, e2⟩
      rw [e1]
      congr 2
      unfold devV hasAddr
      by_cases r8 : 8 < rs.length
      · simp [Nat.lt_trans (show 0 < 8 by omega) r8]
      · simp [r8]
  · refine (rdev_none nm k ad pl _ _ _ w hk).mono fun e w' ⟨e1, e2⟩ => ⟨?_, e2⟩
    rw [e1]
    unfold devV
    rw [if_pos]
    rw [Bool.not_eq_true', Bool.eq_false_iff]
    simp only [ne_eq, Bool.and_eq_true, decide_eq_true_eq]
    exact hk
end Go.Proofs.YtkckgoeemfjkkaaDoor
