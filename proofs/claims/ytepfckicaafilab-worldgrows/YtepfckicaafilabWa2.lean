/-
  Package world: New, Has.
-/
import Derived.Test.YtepfckicaafilabWa1
import Derived.Deep.RegionHeld3
namespace Go.Proofs.Ytepfckicaafilab
open Go.RowKit Go.Maps

/-- A new world, out of its parts. -/
theorem wl_new {W : World} {m : Mp} {ds : List Dv} {ls : List Lk} {A L : Option Addr} {c d G : Nat} (hM : MemAt W m ds ls 0 noM) (hD : Devs W.heap.size W (.slice A ds.length c) ds) (hL : Links W.heap.size W (.slice L ls.length d) ls) (hG : MapAt arvE unitV W G 0 (fun _ => none)) (g1 : G ≠ m.f) (g2 : G ≠ m.o) (g3 : G ≠ m.k) :
    WlAt (W.alloc (.cells #[.slice A ds.length c, .slice L ls.length d, .slice m.A ds.length m.cap, .slice m.L ls.length m.cap', .map (some m.f), .map (some m.o), .map (some m.k), .slice none 0 0, .map (some G)] 71)) ⟨W.heap.size, m.f, m.o, m.k, m.A, m.cap, m.L, m.cap', A, c, L, d, G⟩ none 0 ds ls 0 noM [] := by
  have hb : Below W.heap.size W (W.alloc (.cells #[.slice A ds.length c, .slice L ls.length d, .slice m.A ds.length m.cap, .slice m.L ls.length m.cap', .map (some m.f), .map (some m.o), .map (some m.k), .slice none 0 0, .map (some G)] 71)) := (Below.refl _ _).alloc (Nat.le_refl _) _
  have hM' := hM.below hb
  refine ⟨bk_new W _ _, hD.below hb, hL.below hb, hM.devs.below hb, hM.links.below hb, hM'.fl, hM'.ow, hM'.bk, hM'.fo, hM'.fk, hM'.ok, ⟨rfl, Or.inl ⟨rfl, rfl⟩⟩, ?_, g1, g2, g3, ⟨hM.fl.lt, hM.ow.lt, hM.bk.lt, hG.lt⟩, fun x hx => by cases hx⟩
  rw [show inF ([] : List Arv) = fun _ => none from inF_no]
  exact hG.same (hb.block _ hG.lt)
/-- What New tells. -/
def WNew (w : World) (ds : List Dv) (ls : List Lk) (e : Ending) (w' : World) : Prop :=
  Below w.heap.size w w' ∧ ((netV ds ls ≠ 0 ∧ e = .returned (.tuple #[.pointer none, .int .i64 (netV ds ls)])) ∨
    (netV ds ls = 0 ∧ ∃ p : Wp, e = .returned (.tuple #[.pointer (some ⟨p.B, 0, none⟩), .int .i64 0]) ∧ WlAt w' p none 0 ds ls 0 noM [] ∧ w.heap.size ≤ p.f ∧ w.heap.size ≤ p.o ∧ w.heap.size ≤ p.k ∧ w.heap.size ≤ p.B ∧ w.heap.size ≤ p.G))
set_option maxHeartbeats 8000000 in
set_option maxRecDepth 100000 in
theorem wnew_any (A L : Option Addr) (cap cap' : Nat) (ds : List Dv) (ls : List Lk) (w : World) (hD : Hid (Devs w.heap.size w (.slice A ds.length cap) ds)) (hL : Hid (Links w.heap.size w (.slice L ls.length cap') ls)) :
    Calls Try.prog 5 #[.agg #[.slice A ds.length cap, .slice L ls.length cap']] w (WNew w ds ls) := by
  have N2 : Hid (∀ (W : World), Below w.heap.size w W → Calls Try.prog 14 #[.agg #[.slice A ds.length cap, .slice L ls.length cap']] W (NewOut W ds ls)) := fun W h => new_any A L cap cap' ds ls W ((hD.out.below h).mono h.size) ((hL.out.below h).mono h.size)
  have D0 := Below.alN (Below.refl w.heap.size w) (.cells #[.slice A ds.length cap, .slice L ls.length cap'] 25)
  have N0 := bk_new w #[.slice A ds.length cap, .slice L ls.length cap'] 25
  obtain ⟨n0, n1⟩ := N0.two
  go_enter Try.func5, Try.ntmps5
  go_wp2_with fail
  refine (N2.out _ D0).mono ?_
  rintro e w1 ⟨hb1, hN⟩
  have D1 := chnN hb1 D0
  have N1 := N0.keep hb1
  have z0 := D0.size
  clear hb1 D0 N0 n0 n1 N2
  rcases hN with ⟨hne, rfl⟩ | ⟨hz, m, rfl, hM, l1, l2, l3, l4, q1, q2, q3⟩
  · have hz1 : (netV ds ls == 0) = false := by simpa using hne
    generalize hnv : netV ds ls = nv at *
    have HNZ : Hid (¬ nv = 0) := hne
    clear hne
    go_wp2_with fail
    all_goals first | exact absurd (by assumption) HNZ.out | skip
    go_ret2
    exact ⟨D1, .inl ⟨by rw [hnv]; exact HNZ.out, by rw [hnv]; rfl⟩⟩
  have CP : Hid (∀ W, Below w.heap.size w W → Calls Try.prog 15 #[.agg #[.slice A ds.length cap, .slice L ls.length cap']] W (CopyOut W ds ls)) := fun W h => copy_any A L cap cap' ds ls W ((hD.out.below h).mono h.size) ((hL.out.below h).mono h.size) (small_of hz)
  obtain ⟨z, pre, post, ty, B, f, o, k, A2, c2, L2, d2⟩ := m
  dsimp only at q1 q2 q3 l1 l2 l3 l4
  subst q1 q2 q3
  have HZ : Hid (netV ds ls = 0) := hz
  have fin : Hid (∀ (W : World) (A' : Option Addr) (c' : Nat) (L' : Option Addr) (d' G : Nat), MemAt W ⟨0, [], [], ty, B, f, o, k, A2, c2, L2, d2⟩ ds ls 0 noM → Devs W.heap.size W (.slice A' ds.length c') ds → Links W.heap.size W (.slice L' ls.length d') ls → MapAt arvE unitV W G 0 (fun _ => none) → w1.heap.size ≤ G → Below w.heap.size w W → WNew w ds ls (.returned (.tuple #[.pointer (some ⟨W.heap.size, 0, none⟩), .int .i64 0])) (W.alloc (.cells #[.slice A' ds.length c', .slice L' ls.length d', .slice A2 ds.length c2, .slice L2 ls.length d2, .map (some f), .map (some o), .map (some k), .slice none 0 0, .map (some G)] 71))) := by
    intro W A' c' L' d' G h1 h2 h3 h4 h5 h6
    have f1 := hM.fl.lt
    have f2 := hM.ow.lt
    have f3 := hM.bk.lt
    dsimp only at f1 f2 f3
    have z6 := h6.size
    have z1 := D1.size
    exact ⟨Below.alN h6 _, .inr ⟨hz, _, rfl, wl_new h1 h2 h3 h4 (by show G ≠ f; omega) (by show G ≠ o; omega) (by show G ≠ k; omega), by show w.heap.size ≤ f; omega, by show w.heap.size ≤ o; omega, by show w.heap.size ≤ k; omega, by show w.heap.size ≤ W.heap.size; omega, by show w.heap.size ≤ G; omega⟩⟩
  obtain ⟨Q, hQ⟩ : ∃ Q : World → Prop, Q = fun W => MemAt W ⟨0, [], [], ty, B, f, o, k, A2, c2, L2, d2⟩ ds ls 0 noM ∧ Bk W w.heap.size #[.slice A ds.length cap, .slice L ls.length cap'] 25 ∧ Below w.heap.size w W := ⟨_, rfl⟩
  have Q1 : Q w1 := by rw [hQ]; exact ⟨hM, N1, D1⟩
  have FS : ∀ {w' : World}, Q w' → w'.cell? ⟨w.heap.size, 0, none⟩ = some (.slice A ds.length cap) ∧ w'.cell? ⟨w.heap.size, 1, none⟩ = some (.slice L ls.length cap') ∧ w'.cell? ⟨B, 0, none⟩ = some (.slice A2 ds.length c2) ∧ w'.cell? ⟨B, 1, none⟩ = some (.slice L2 ls.length d2) ∧ w'.cell? ⟨B, 2, none⟩ = some (.map (some f)) ∧ w'.cell? ⟨B, 3, none⟩ = some (.map (some o)) ∧ w'.cell? ⟨B, 4, none⟩ = some (.map (some k)) := fun {w'} h => by
    rw [hQ] at h
    have h1 := h.1.cells
    simp only [Nat.zero_add] at h1
    exact ⟨h.2.1.at 0, h.2.1.at 1, h1⟩
  have KP : ∀ {W W' : World}, Q W → Below W.heap.size W W' → Q W' := fun {W W'} h hb => by
    rw [hQ] at h ⊢
    exact ⟨h.1.below hb, h.2.1.keep hb, chnN hb h.2.2⟩
  have AL : ∀ {W : World} (o : Obj), Q W → Q (W.alloc o) := fun o h => KP h ((Below.refl _ _).alloc (Nat.le_refl _) o)
  have DR : ∀ {W : World}, Q W → Q W.drew := fun h => KP h (Below.refl _ _).drew
  have CQ : Hid (∀ W, Q W → Calls Try.prog 15 #[.agg #[.slice A ds.length cap, .slice L ls.length cap']] W fun e w' => ∃ A' c' L' d', e = .returned (.agg #[.slice A' ds.length c', .slice L' ls.length d']) ∧ Hid (Devs w'.heap.size w' (.slice A' ds.length c') ds ∧ Links w'.heap.size w' (.slice L' ls.length d') ls) ∧ Below W.heap.size W w') := fun W h => (CP.out W (by rw [hQ] at h; exact h.2.2)).mono fun e w' ⟨A', c', L', d', h1, h2, h3, h4⟩ => ⟨A', c', L', d', h1, ⟨h2, h3⟩, h4⟩
  have fin2 : Hid (∀ (W : World) (A' : Option Addr) (c' : Nat) (L' : Option Addr) (d' G : Nat), Q W → Devs W.heap.size W (.slice A' ds.length c') ds → Links W.heap.size W (.slice L' ls.length d') ls → MapAt arvE unitV W G 0 (fun _ => none) → w1.heap.size ≤ G → WNew w ds ls (.returned (.tuple #[.pointer (some ⟨W.heap.size, 0, none⟩), .int .i64 0])) (W.alloc (.cells #[.slice A' ds.length c', .slice L' ls.length d', .slice A2 ds.length c2, .slice L2 ls.length d2, .map (some f), .map (some o), .map (some k), .slice none 0 0, .map (some G)] 71))) := fun W A' c' L' d' G h h2 h3 h4 h5 => by
    rw [hQ] at h
    exact fin.out W A' c' L' d' G h.1 h2 h3 h4 h5 h.2.2
  generalize WNew w ds ls = WN at *
  have G1 : Hid (MapAt arvE unitV (w1.alloc (.map #[] 0)).drew w1.heap.size 0 (fun _ => none)) := mapAt_made arvE unitV w1
  have Q1d := DR Q1
  have Q1a := DR (AL (.map #[] 0) Q1)
  obtain ⟨a0, a1, a2, a3, a4, a5, a6⟩ := FS Q1
  clear fin CP HZ hz hM D1 N1 hQ hD hL l1 l2 l3 l4 z0
  have hmm := @run_makeMap Try.prog
  go_upto_region 4 with fail
  go_region_held3 (fun w' => w'.cell? ⟨w.heap.size, 0, none⟩ = some (.slice A ds.length cap) ∧ w'.cell? ⟨w.heap.size, 1, none⟩ = some (.slice L ls.length cap') ∧ w'.cell? ⟨B, 0, none⟩ = some (.slice A2 ds.length c2) ∧ w'.cell? ⟨B, 1, none⟩ = some (.slice L2 ls.length d2) ∧ w'.cell? ⟨B, 2, none⟩ = some (.map (some f)) ∧ w'.cell? ⟨B, 3, none⟩ = some (.map (some o)) ∧ w'.cell? ⟨B, 4, none⟩ = some (.map (some k))) (exact FS (by first | exact Q2 | exact AL _ Q2 | exact AL _ (AL _ Q2) | exact Q1a | exact Q1d)) (first | (go_at_call 15; (with_reducible refine (CQ.out _ Q1d).mono ?_); rintro e w2 ⟨A', c', L', d', rfl, hC, hb2⟩; have Q2 := KP Q1d hb2; have zz := hb2.size) | (go_at_call 15; (with_reducible refine (CQ.out _ Q1a).mono ?_); rintro e w2 ⟨A', c', L', d', rfl, hC, hb2⟩; have Q2 := KP Q1a hb2; have G2 := G1.out.same (hb2.block _ G1.out.lt)))
  all_goals
    go_wp2_with fail
    first
      | exact fin2.out _ _ _ _ _ _ Q2 hC.out.1 hC.out.2 G2 (Nat.le_refl _)
      | (have hf := fin2.out _ _ _ _ _ _ (AL _ Q2) ((hC.out.1.below ((Below.refl _ _).alloc (Nat.le_refl _) _)).mono (by simp)) ((hC.out.2.below ((Below.refl _ _).alloc (Nat.le_refl _) _)).mono (by simp)) (mapAt_made arvE unitV w2) zz; rw [World.size_alloc] at hf; exact hf)
end Go.Proofs.Ytepfckicaafilab
