/-
  Slices of numbers; slices.Equal of two that hold the same.
-/
import Derived.Test.YtgcimcpcnoojnaaDead
namespace Go.Proofs.Ytgcimcpcnoojnaa
open Go.RowKit

/-- A slice that holds the numbers ds. -/
def IntsAt (w : World) (v : Value) (ds : List Nat) : Prop :=
  ∃ A cap, v = .slice A ds.length cap ∧ ds.length ≤ cap ∧ cap ≤ maxLen ∧ (ds ≠ [] → ∃ b o, A = some ⟨b, o, none⟩ ∧ b < w.heap.size ∧ ∀ (j d : Nat), ds[j]? = some d → w.cell? ⟨b, o + j, none⟩ = some (.int .i64 (d : Int)))
theorem IntsAt.below {w w' : World} {v : Value} {ds : List Nat} (h : IntsAt w v ds) (hb : Below w.heap.size w w') : IntsAt w' v ds := by
  obtain ⟨A, cap, e, h1, h2, h3⟩ := h
  refine ⟨A, cap, e, h1, h2, fun hn => ?_⟩
  obtain ⟨b, o, ea, hl, hc⟩ := h3 hn
  exact ⟨b, o, ea, Nat.lt_of_lt_of_le hl hb.size, fun j d hj => (hb.cell (p := ⟨b, o + j, none⟩) hl).trans (hc j d hj)⟩
theorem IntsAt.own {base : Nat} {w : World} {v : Value} {ds : List Nat} (h : w.ownsRow base 3 1 v ds.length (intsV ds)) : IntsAt w v ds := by
  have h' := h
  obtain ⟨hl, hc⟩ := h
  rcases hc with ⟨rfl, h0⟩ | ⟨g, cap, cur, rfl, hb, hg, hn, hcap, hs, ht⟩
  · exact ⟨none, 0, by rw [h0], by omega, by unfold maxLen; omega, fun hn => absurd (List.length_eq_zero_iff.1 h0) hn⟩
  · refine ⟨_, cap, rfl, hn, hcap, fun _ => ⟨g, 0, rfl, (Array.getElem?_eq_some_iff.1 hg).1, fun j d hj => ?_⟩⟩
    have := h'.cells (g := g) rfl j (.int .i64 (d : Int)) (by simp [intsV, hj])
    rw [Addr.add_lit] at this
    exact this

set_option maxHeartbeats 4000000 in
set_option maxRecDepth 100000 in
theorem equal_row (b1 o1 c1 b2 o2 c2 : Nat) (ds : List Nat) (w : World) (hb1 : b1 < w.heap.size) (hb2 : b2 < w.heap.size) (hc2 : ds.length ≤ c2) (hm2 : c2 ≤ maxLen)
    (h1 : ∀ (j d : Nat), ds[j]? = some d → w.cell? ⟨b1, o1 + j, none⟩ = some (.int .i64 (d : Int))) (h2 : ∀ (j d : Nat), ds[j]? = some d → w.cell? ⟨b2, o2 + j, none⟩ = some (.int .i64 (d : Int))) :
    Calls Try.prog 30 #[.slice (some ⟨b1, o1, none⟩) ds.length c1, .slice (some ⟨b2, o2, none⟩) ds.length c2] w fun e w' => e = .returned (.bool true) ∧ Below w.heap.size w w' := by
  unfold maxLen at hm2
  have H1 : Hid (∀ (j d : Nat), ds[j]? = some d → w.cell? ⟨b1, o1 + j, none⟩ = some (.int .i64 (d : Int))) := h1
  have H2 : Hid (∀ (j d : Nat), ds[j]? = some d → w.cell? ⟨b2, o2 + j, none⟩ = some (.int .i64 (d : Int))) := h2
  clear h1 h2
  go_enter Try.func30, Try.ntmps30
  go_wp2_with fail
  go_loopw [13] (fun i wr => ∃ k : Nat, i = .int .i64 (k : Int) ∧ k ≤ ds.length ∧ Below w.heap.size w wr) (fun i _ => ds.length - (intOf i).toNat)
  case atStart => exact ⟨0, rfl, by omega, Below.refl _ _⟩
  case round =>
    obtain ⟨k, rfl, hk, D1⟩ := hrel
    by_cases hlt : k < ds.length
    · obtain ⟨d, hd⟩ : ∃ d, ds[k]? = some d := ⟨_, List.getElem?_eq_getElem hlt⟩
      have q1 : wr.drew.cell? ⟨b1, o1 + k, none⟩ = some (.int .i64 (d : Int)) := (D1.cell (p := ⟨b1, o1 + k, none⟩) hb1).trans (H1.out k d hd)
      have q2 : wr.drew.cell? ⟨b2, o2 + k, none⟩ = some (.int .i64 (d : Int)) := (D1.cell (p := ⟨b2, o2 + k, none⟩) hb2).trans (H2.out k d hd)
      have k1 : (0 : Int) ≤ (k : Int) := by omega
      have k2 : (k : Int) < (ds.length : Int) := by omega
      have D2 := D1.drew
      clear hd H1 H2
      go_wp2_with fail
      go_region_held3 (fun w' => w'.cell? ⟨b1, o1 + k, none⟩ = some (.int .i64 (d : Int)) ∧ w'.cell? ⟨b2, o2 + k, none⟩ = some (.int .i64 (d : Int))) (exact ⟨by assumption, by assumption⟩) (first | fail)
      go_wp2_with fail
      go_roundw
      case rel => exact ⟨k + 1, by go_num, by omega, D2⟩
      case measure => simp [intOf]; omega
    · go_wp2_with fail
      go_ret
      exact ⟨rfl, D1⟩
set_option maxHeartbeats 1000000 in
theorem equal_none (A1 A2 : Option Addr) (c1 c2 : Nat) (w : World) :
    Calls Try.prog 30 #[.slice A1 0 c1, .slice A2 0 c2] w fun e w' => e = .returned (.bool true) ∧ Below w.heap.size w w' := by
  go_enter Try.func30, Try.ntmps30
  go_wp2_with fail
  go_loopw [13] (fun i wr => i = .int .i64 0 ∧ Below w.heap.size w wr) (fun i _ => 0)
  case atStart => exact ⟨rfl, Below.refl _ _⟩
  case round =>
    obtain ⟨rfl, D1⟩ := hrel
    go_wp2_with fail
    go_ret
    exact ⟨rfl, D1⟩
theorem equal_same {v1 v2 : Value} {ds : List Nat} (w : World) (h1 : IntsAt w v1 ds) (h2 : IntsAt w v2 ds) :
    Calls Try.prog 30 #[v1, v2] w fun e w' => e = .returned (.bool true) ∧ Below w.heap.size w w' := by
  obtain ⟨A1, c1, rfl, _, _, r1⟩ := h1
  obtain ⟨A2, c2, rfl, e2, m2, r2⟩ := h2
  by_cases hx : ds = []
  · subst hx
    exact equal_none A1 A2 c1 c2 w
  · obtain ⟨b1, o1, rfl, l1, q1⟩ := r1 hx
    obtain ⟨b2, o2, rfl, l2, q2⟩ := r2 hx
    exact equal_row b1 o1 c1 b2 o2 c2 ds w l1 l2 e2 m2 q1 q2
end Go.Proofs.Ytgcimcpcnoojnaa


