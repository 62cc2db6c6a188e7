/-
  acl.without.
-/
import Derived.Test.YtgcimcpcnoojnaaConcat
import Derived.Deep.RegionHeld3
namespace Go.Proofs.Ytgcimcpcnoojnaa
open Go.RowKit

theorem RAt.take {w : World} {b o : Nat} {xs : List Rl} (h : RAt w b o xs) (i : Nat) : RAt w b o (xs.take i) := fun j u hj => by
  refine h j u ?_
  have e : cellsR xs = cellsR (xs.take i) ++ cellsR (xs.drop i) := by rw [← cellsR_append, List.take_append_drop]
  rw [e, List.getElem?_append_left (List.getElem?_eq_some_iff.1 hj).1]
  exact hj
theorem RAt.drop {w : World} {b o : Nat} {xs : List Rl} (h : RAt w b o xs) {i : Nat} (hi : i ≤ xs.length) : RAt w b (o + i * 5) (xs.drop i) := fun j u hj => by
  have hl : (cellsR (xs.take i)).length = i * 5 := by rw [cellsR_length, List.length_take, Nat.min_eq_left hi]
  have := h (i * 5 + j) u (by
    have e : cellsR xs = cellsR (xs.take i) ++ cellsR (xs.drop i) := by rw [← cellsR_append, List.take_append_drop]
    rw [e, List.getElem?_append_right (by omega), hl]
    simpa using hj)
  rw [← Nat.add_assoc] at this
  exact this

theorem ownsRow_mono {base base' : Nat} {w : World} {t : TypeId} {s n : Nat} {v : Value} {cs : List Value} (h : w.ownsRow base' t s v n cs) (hb : base ≤ base') : w.ownsRow base t s v n cs := by
  refine ⟨h.1, ?_⟩
  rcases h.2 with h0 | ⟨g, cap, cur, hv, h1, h2⟩
  · exact .inl h0
  · exact .inr ⟨g, cap, cur, hv, by omega, h2⟩
theorem two_new (w : World) (x y : Value) (t : TypeId) : (w.alloc (.cells #[x, y] t)).cell? ⟨w.heap.size, 0, none⟩ = some x ∧ (w.alloc (.cells #[x, y] t)).cell? ⟨w.heap.size, 1, none⟩ = some y := ⟨by simp [go_sem], by simp [go_sem]⟩
/-- A list without one of its rules. -/
def wo (xs : List Rl) (i : Nat) : List Rl := xs.take i ++ xs.drop (i + 1)

theorem without_cc (A2 : Option Addr) (b o cap i : Nat) (xs : List Rl) (w : World) (hA : A2 ≠ none) (hA2 : xs.length ≠ i + 1 → A2 = some ⟨b, o + (i + 1) * 5, none⟩) (hi : i < xs.length) (hl : xs.length ≤ 8) (hc : xs.length ≤ cap) (hcap : cap ≤ maxLen) (hb : b < w.heap.size) (hr : RAt w b o xs) :
    Calls Try.prog 99 #[.slice (some ⟨w.heap.size, 0, none⟩) 2 2] ((w.alloc (.cells #[.slice (some ⟨b, o, none⟩) i cap, .slice A2 (xs.length - (i + 1)) (cap - (i + 1))] 57)).drew) fun e w' => ∃ v, e = .returned v ∧ Hid (w'.ownsRow w.heap.size 78 5 v (wo xs i).length (cellsR (wo xs i)) ∧ Below w.heap.size w w') := by
  have D0 : Below w.heap.size w ((w.alloc (.cells #[.slice (some ⟨b, o, none⟩) i cap, .slice A2 (xs.length - (i + 1)) (cap - (i + 1))] 57)).drew) := ((Below.refl _ _).alloc (Nat.le_refl _) _).drew
  have hz : ((w.alloc (.cells #[.slice (some ⟨b, o, none⟩) i cap, .slice A2 (xs.length - (i + 1)) (cap - (i + 1))] 57)).drew).heap.size = w.heap.size + 1 := by simp
  obtain ⟨c0, c1⟩ := two_new w (.slice (some ⟨b, o, none⟩) i cap) (.slice A2 (xs.length - (i + 1)) (cap - (i + 1))) 57
  refine (concat_ok w.heap.size (some ⟨b, o, none⟩) A2 i (xs.length - (i + 1)) cap (cap - (i + 1)) (xs.take i) (xs.drop (i + 1)) ((w.alloc (.cells #[.slice (some ⟨b, o, none⟩) i cap, .slice A2 (xs.length - (i + 1)) (cap - (i + 1))] 57)).drew) (by rw [hz]; omega) c0 c1 ?_ ?_ (by omega) (by omega) ?_ ?_).mono ?_
  · refine ⟨_, cap, by rw [List.length_take, Nat.min_eq_left (by omega)], (fun e => by cases e), by rw [List.length_take]; omega, hcap, fun _ => ⟨b, o, rfl, by rw [hz]; omega, ?_⟩⟩
    exact (hr.take i).below D0 hb
  · refine ⟨_, cap - (i + 1), by rw [List.length_drop], (fun e => absurd e hA), by rw [List.length_drop]; omega, by omega, fun hn => ?_⟩
    have hne : xs.length ≠ i + 1 := fun e => hn (List.drop_eq_nil_of_le (by omega))
    exact ⟨b, _, hA2 hne, by rw [hz]; omega, (hr.drop (by omega)).below D0 hb⟩
  · show (xs.take i).length = i
    rw [List.length_take]; omega
  · show (xs.drop (i + 1)).length = xs.length - (i + 1)
    rw [List.length_drop]
  · rintro e w' ⟨v, rfl, ho, hb'⟩
    exact ⟨v, rfl, ownsRow_mono ho (by rw [hz]; omega), D0.trans (hb'.mono (by rw [hz]; omega))⟩

set_option maxHeartbeats 4000000 in
set_option maxRecDepth 100000 in
theorem without_row (b o cap i : Nat) (xs : List Rl) (w : World) (hi : i < xs.length) (hl : xs.length ≤ 8) (hc : xs.length ≤ cap) (hcap : cap ≤ maxLen) (hb : b < w.heap.size) (hr : RAt w b o xs) :
    Calls Try.prog 76 #[.slice (some ⟨b, o, none⟩) xs.length cap, .int .i64 (i : Int)] w fun e w' => ∃ v, e = .returned v ∧ w'.ownsRow w.heap.size 78 5 v (wo xs i).length (cellsR (wo xs i)) ∧ Below w.heap.size w w' := by
  have C1 : cap = i + 1 → Hid (Calls Try.prog 99 #[.slice (some ⟨w.heap.size, 0, none⟩) 2 2] ((w.alloc (.cells #[.slice (some ⟨b, o, none⟩) i cap, .slice (some ⟨b, o, none⟩) (xs.length - (i + 1)) (cap - (i + 1))] 57)).drew) fun e w' => ∃ v, e = .returned v ∧ Hid (w'.ownsRow w.heap.size 78 5 v (wo xs i).length (cellsR (wo xs i)) ∧ Below w.heap.size w w')) := fun e => without_cc _ b o cap i xs w (fun e => by cases e) (fun h => by omega) hi hl hc hcap hb hr
  have C2 : Hid (Calls Try.prog 99 #[.slice (some ⟨w.heap.size, 0, none⟩) 2 2] ((w.alloc (.cells #[.slice (some ⟨b, o, none⟩) i cap, .slice (some ⟨b, o + (i + 1) * 5, none⟩) (xs.length - (i + 1)) (cap - (i + 1))] 57)).drew) fun e w' => ∃ v, e = .returned v ∧ Hid (w'.ownsRow w.heap.size 78 5 v (wo xs i).length (cellsR (wo xs i)) ∧ Below w.heap.size w w')) := without_cc _ b o cap i xs w (fun e => by cases e) (fun h => rfl) hi hl hc hcap hb hr
  unfold maxLen at hcap
  clear hr
  generalize xs.length = len at *
  have k1 : (0 : Int) ≤ (i : Int) := by omega
  have k2 : (i : Int) ≤ (cap : Int) := by omega
  have k3 : IntKind.i64.wrap ((i : Int) + 1) = (i : Int) + 1 := IntWalk.i64_in _ (by omega)
  have k4 : (0 : Int) ≤ (i : Int) + 1 := by omega
  have k5 : (i : Int) + 1 ≤ (len : Int) := by omega
  by_cases he : cap = i + 1
  · have CC := C1 he
    clear C1 C2
    obtain rfl : len = i + 1 := by omega
    subst he
    simp only [Nat.sub_self] at CC
    have k6 : (i : Int) ≤ ((i + 1 : Nat) : Int) := by omega
    have k7 : (i : Int) + 1 ≤ ((i + 1 : Nat) : Int) := by omega
    have k8 : (i : Int) ≤ (i : Int) + 1 := by omega
    go_enter Try.func76, Try.ntmps76
    go_wp2_with fail
    go_region_held3 (fun _ => True) (trivial) (first | (go_at_call 99; refine CC.out.mono ?_; rintro e wn ⟨v, rfl, hn⟩))
    go_wp2_with fail
    go_ret
    exact ⟨_, rfl, hn.out⟩
  · clear C1
    go_enter Try.func76, Try.ntmps76
    go_wp2_with fail
    go_region_held3 (fun _ => True) (trivial) (first | (go_at_call 99; refine C2.out.mono ?_; rintro e wn ⟨v, rfl, hn⟩))
    go_wp2_with fail
    go_ret
    exact ⟨_, rfl, hn.out⟩

theorem without_ok {v : Value} {xs : List Rl} {i : Nat} (w : World) (h : Rules w.heap.size w v xs) (hi : i < xs.length) (hl : xs.length ≤ 8) :
    Calls Try.prog 76 #[v, .int .i64 (i : Int)] w fun e w' => ∃ v, e = .returned v ∧ w'.ownsRow w.heap.size 78 5 v (wo xs i).length (cellsR (wo xs i)) ∧ Below w.heap.size w w' := by
  obtain ⟨A, cap, rfl, _, h1, h2, h3⟩ := h
  obtain ⟨b, o, rfl, hb, hr⟩ := h3 (fun e => by subst e; simp at hi)
  exact without_row b o cap i xs w hi hl h1 h2 hb hr
end Go.Proofs.Ytgcimcpcnoojnaa


