/-
  step.New: where the new memory lies: above all that was there; a store below it leaves it as it was.
-/
import Derived.Test.YtecdepgcklgfbaaSd1
import Derived.Test.YtecdepgcklgfbaaSd2
import Derived.Test.YtecdepgcklgfbaaSc4
namespace Go.Proofs.Ytecdepgcklgfbaa
open Go.RowKit Go.Maps

theorem Devs.blk {base : Nat} {w : World} {A : Option Addr} {cap g : Nat} {ds : List Dv} (h : Devs base w (.slice A ds.length cap) ds) (hn : ds.length ≠ 0) (e : A = some ⟨g, 0, none⟩) : g < base := by
  obtain ⟨A', cap', e', h0, h1, h2, h3⟩ := h
  obtain ⟨rfl, _, rfl⟩ := Value.slice.inj e'
  obtain ⟨b, o, ea, hl, _⟩ := h3 (fun e0 => hn (by rw [e0]; rfl))
  rw [e] at ea
  cases ea
  exact hl
theorem Deep.below {lo : Nat} {w w' : World} {A : Option Addr} {cap : Nat} {ds : List Dv} (h : Deep lo w A ds.length) (hD : Devs w.heap.size w (.slice A ds.length cap) ds) (hb : Below w.heap.size w w') : Deep lo w' A ds.length := fun hn => by
  obtain ⟨g, e, h1, h2⟩ := h hn
  exact ⟨g, e, h1, h2.below hb (hD.blk hn e)⟩
theorem Devs.low {lo base k j : Nat} {w : World} {A : Option Addr} {cap : Nat} {ds : List Dv} {u : Value} (h : Devs base w (.slice A ds.length cap) ds) (hd : Deep lo w A ds.length) (hk : k < lo) : Devs base (w.setCell ⟨k, j, none⟩ u) (.slice A ds.length cap) ds := by
  obtain ⟨A', cap', e', h0, h1, h2, h3⟩ := h
  obtain ⟨rfl, _, rfl⟩ := Value.slice.inj e'
  refine ⟨A, cap, rfl, h0, h1, h2, fun hx => ?_⟩
  have hn : ds.length ≠ 0 := fun e => hx (List.length_eq_zero_iff.1 e)
  obtain ⟨b, o, ea, hl, hr⟩ := h3 hx
  obtain ⟨g, eg, hlo, hP⟩ := hd hn
  rw [ea] at eg
  cases eg
  refine ⟨b, 0, ea, hl, fun i x hi => ?_⟩
  obtain ⟨cs, c1, ⟨vb, vr, vt, rfl, s4, s5, s6⟩, c3⟩ := hr i x hi
  have hin : i < ds.length := (List.getElem?_eq_some_iff.1 hi).1
  have k4 := hP (i * 7 + 4) vb ⟨i, hin, Or.inl rfl⟩ (by have := c3 4 vb rfl; rwa [show 0 + i * 7 + 4 = i * 7 + 4 by omega] at this)
  have k5 := hP (i * 7 + 5) vr ⟨i, hin, Or.inr (Or.inl rfl)⟩ (by have := c3 5 vr rfl; rwa [show 0 + i * 7 + 5 = i * 7 + 5 by omega] at this)
  have k6 := hP (i * 7 + 6) vt ⟨i, hin, Or.inr (Or.inr rfl)⟩ (by have := c3 6 vt rfl; rwa [show 0 + i * 7 + 6 = i * 7 + 6 by omega] at this)
  exact ⟨_, c1, ⟨vb, vr, vt, rfl, s4.setB (k4.b hk), s5.setB (k5.b hk), s6.setB (k6.b hk)⟩, fun j' u' hj => (cell_of_blockC (Below.heap_setCell w ⟨k, j, none⟩ u b (show b ≠ k by omega))).trans (c3 j' u' hj)⟩
/-- A memory lies from lo on. -/
structure MemHi (lo : Nat) (m : Mp) (nd nl : Nat) (W : World) : Prop where
  deep : Deep lo W m.A nd
  hi : Hi lo (.slice m.L nl m.cap')
  f : lo ≤ m.f
  o : lo ≤ m.o
  k : lo ≤ m.k
  B : lo ≤ m.B
theorem MemHi.below {lo : Nat} {m : Mp} {ds : List Dv} {ls : List Lk} {n : Nat} {M : Mnd} {W W' : World} (h : MemHi lo m ds.length ls.length W) (hM : MemAt W m ds ls n M) (hb : Below W.heap.size W W') : MemHi lo m ds.length ls.length W' := ⟨h.deep.below hM.devs hb, h.hi, h.f, h.o, h.k, h.B⟩
/-- A store below a memory. -/
theorem MemAt.low {lo k j : Nat} {m : Mp} {ds : List Dv} {ls : List Lk} {n : Nat} {M : Mnd} {W : World} {u : Value} (h : MemAt W m ds ls n M) (hh : MemHi lo m ds.length ls.length W) (hk : k < lo) : MemAt (W.setCell ⟨k, j, none⟩ u) m ds ls n M := by
  have hF := fun (b : Nat) (hb : lo ≤ b) => Below.heap_setCell W ⟨k, j, none⟩ u b (show b ≠ k by omega)
  have hs : (W.setCell ⟨k, j, none⟩ u).heap.size = W.heap.size := by simp [World.setCell]
  refine ⟨(hF _ hh.B).trans h.blk, ?_, ?_, h.fl.same (hF _ hh.f), h.ow.same (hF _ hh.o), h.bk.same (hF _ hh.k), h.fo, h.fk, h.ok⟩
  · rw [hs]
    exact h.devs.low hh.deep hk
  · rw [hs]
    exact SlAt.setB h.links (hh.hi.b hk)
/-- What New tells, and where. -/
def NewDeep (w : World) (ds : List Dv) (ls : List Lk) (e : Ending) (w' : World) : Prop :=
  Below w.heap.size w w' ∧ ((netV ds ls ≠ 0 ∧ e = .returned (.tuple #[.pointer none, .int .i64 (netV ds ls)])) ∨
    (netV ds ls = 0 ∧ ∃ m : Mp, e = .returned (.tuple #[.pointer (some ⟨m.B, 0, none⟩), .int .i64 0]) ∧ MemAt w' m ds ls 0 noM ∧ MemHi w.heap.size m ds.length ls.length w'))
theorem Hi.lo {lo lo' : Nat} {v : Value} (h : Hi lo v) (hl : lo' ≤ lo) : Hi lo' v := fun b o n c e hn => Nat.le_trans hl (h b o n c e hn)
theorem Deep.lo {lo lo' n : Nat} {w : World} {A : Option Addr} (h : Deep lo w A n) (hl : lo' ≤ lo) : Deep lo' w A n := fun hn => by
  obtain ⟨g, e, h1, h2⟩ := h hn
  exact ⟨g, e, by omega, fun o v hs hv => (h2 o v hs hv).lo hl⟩
set_option maxHeartbeats 4000000 in
set_option maxRecDepth 100000 in
/-- New. -/
theorem new_deep (A B : Option Addr) (cap cap' : Nat) (ds : List Dv) (ls : List Lk) (w : World) (hD : Hid (Devs w.heap.size w (.slice A ds.length cap) ds)) (hL : Hid (Links w.heap.size w (.slice B ls.length cap') ls)) :
    Calls Try.prog 7 #[.agg #[.slice A ds.length cap, .slice B ls.length cap']] w (NewDeep w ds ls) := by
  have CK : Hid (∀ W, Below w.heap.size w W → Calls Try.prog 20 #[.agg #[.slice A ds.length cap, .slice B ls.length cap']] W fun e w' => e = .returned (.int .i64 (netV ds ls)) ∧ Below W.heap.size W w') := fun W h => net_any _ _ ds ls W ((hD.out.below h).mono h.size) ((hL.out.below h).mono h.size)
  have CP : Hid (netV ds ls = 0 → ∀ W, Below w.heap.size w W → Calls Try.prog 21 #[.agg #[.slice A ds.length cap, .slice B ls.length cap']] W (CopyDeep W ds ls)) := fun hz W h => copy_deep A B cap cap' ds ls W ((hD.out.below h).mono h.size) ((hL.out.below h).mono h.size) (small_of hz)
  have D0 := Below.alN (Below.refl w.heap.size w) (.cells #[.slice A ds.length cap, .slice B ls.length cap'] 32)
  have N0 := bk_new w #[.slice A ds.length cap, .slice B ls.length cap'] 32
  clear hD hL
  go_enter Try.func7, Try.ntmps7
  go_wp2_with fail
  refine (CK.out _ D0).mono ?_
  rintro e w1 ⟨rfl, hb1⟩
  have D1 := chnN hb1 D0
  have N1 := N0.keep hb1
  clear hb1 D0 N0 CK
  obtain ⟨n0, n1⟩ := N1.two
  by_cases hz : netV ds ls = 0
  rotate_left
  · have hz1 : (netV ds ls == 0) = false := by simpa using hz
    have HZ : Hid (netV ds ls ≠ 0) := hz
    clear hz CP
    go_wp2_with fail
    go_ret2
    exact ⟨D1, .inl ⟨HZ.out, rfl⟩⟩
  have CP2 : Hid _ := CP.out hz
  have HZ : Hid (netV ds ls = 0) := hz
  rw [hz]
  clear hz CP
  go_wp2_with fail
  refine (CP2.out _ D1).mono ?_
  rintro e w2 ⟨A2, q2, B2, q3, rfl, hD2, hL2, hb2, P2, U2⟩
  have D2 := chnN hb2 D1
  have z2 := D2.size
  have z1 := D1.size
  have M5 := new_mem hD2 hL2
  have P6 := (P2.lo z1).below hD2 (Below.alN (Below.alN (Below.alN (Below.alN (Below.refl w2.heap.size w2) (.map #[] 0)) (.map #[] 0)) (.map #[] 0)) (.cells #[.slice A2 ds.length q2, .slice B2 ls.length q3, .map (some w2.heap.size), .map (some (w2.heap.size + 1)), .map (some (w2.heap.size + 1 + 1))] 75))
  have U6 := U2.lo z1
  have D6 := Below.alN (Below.alN (Below.alN (Below.alN D2 (.map #[] 0)) (.map #[] 0)) (.map #[] 0)) (.cells #[.slice A2 ds.length q2, .slice B2 ls.length q3, .map (some w2.heap.size), .map (some (w2.heap.size + 1)), .map (some (w2.heap.size + 1 + 1))] 75)
  clear hb2 D1 N1 n0 n1 hD2 hL2 CP2 P2 U2 z1
  have hmm := @run_makeMap Try.prog
  go_wp2_with fail
  go_ret2
  exact ⟨D6, .inr ⟨HZ.out, _, rfl, M5, P6, U6, by show w.heap.size ≤ w2.heap.size; omega, by show w.heap.size ≤ w2.heap.size + 1; omega, by show w.heap.size ≤ w2.heap.size + 1 + 1; omega, by show w.heap.size ≤ w2.heap.size + 1 + 1 + 1; omega⟩⟩
end Go.Proofs.Ytecdepgcklgfbaa
