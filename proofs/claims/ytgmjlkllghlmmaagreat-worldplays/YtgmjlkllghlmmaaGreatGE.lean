/-
  StepPlays: what the mind's calls leave alone; a row of facts with one more, or one less.
-/
import Derived.Test.YtgmjlkllghlmmaaGreatGD
import Derived.Test.YtgmjlkllghlmmaaGreatGW
import Derived.Deep.RegionLaw
namespace Go.Proofs.YtgmjlkllghlmmaaGreat
open Go.RowKit Go.Maps

/-- What a call of the mind leaves alone. -/
structure MKp (g : Nat) (F : Option Addr) (W W' : World) : Prop where
  os : W'.os = W.os
  tape : W'.tape = W.tape
  output : W'.output = W.output
  size : W.heap.size ≤ W'.heap.size
  block : ∀ b, b < W.heap.size → b ≠ g → (∀ a, F = some a → b ≠ a.block) → W'.heap[b]? = W.heap[b]?
theorem MKp.of_below {g : Nat} {F : Option Addr} {W W' : World} (hb : Below W.heap.size W W') : MKp g F W W' := ⟨hb.os, hb.tape, hb.output, hb.size, fun b h _ _ => hb.block b h⟩
theorem MKp.from {g : Nat} {F : Option Addr} {w W W' : World} (hb : Below w.heap.size w W) (h : MKp g F W W') : MKp g F w W' :=
  ⟨h.os.trans hb.os, h.tape.trans hb.tape, h.output.trans hb.output, Nat.le_trans hb.size h.size, fun b h1 h2 h3 => (h.block b (Nat.lt_of_lt_of_le h1 hb.size) h2 h3).trans (hb.block b h1)⟩
/-- What a call of the mind leaves. -/
def MOut (w : World) (g : Nat) (A L : Option Addr) (c d : Nat) (F : Option Addr) (ds : List Dv) (ls : List Lk) (FL : List Ft) (w' : World) : Prop :=
  ∃ F' cF', MnAt w' g A L c d F' cF' ds ls FL ∧ MKp g F w w' ∧ SG F F' w.heap.size
section
variable {w W W' : World} {g : Nat} {A L : Option Addr} {c d : Nat} {F : Option Addr} {cF : Nat} {ds : List Dv} {ls : List Lk} {FL FL' : List Ft}
theorem MOut.same (h : MnAt W g A L c d F cF ds ls FL) (hb : Below w.heap.size w W) : MOut w g A L c d F ds ls FL W := ⟨F, cF, h, MKp.of_below hb, SG.refl _ _⟩
theorem MOut.from (hb : Below w.heap.size w W) (h : MOut W g A L c d F ds ls FL W') : MOut w g A L c d F ds ls FL W' := by
  obtain ⟨F', cF', h1, h2, h3⟩ := h
  refine ⟨F', cF', h1, h2.from hb, fun a ha => ?_⟩
  rcases h3 a ha with h | h
  · exact Or.inl h
  · exact Or.inr (Nat.le_trans hb.size h)
theorem own_cell {B e size n : Nat} {v : Value} {xs : List Value} (h : W.ownsRow B e size v n xs) {k : Nat} (hg : v.ownBlock = some k) {j : Nat} {u : Value} (hj : xs[j]? = some u) : W.cell? ⟨k, j, none⟩ = some u := by
  rcases h.2 with ⟨rfl, _⟩ | ⟨g', cap, cur, rfl, hb, hh, _, _, _, ht⟩
  · cases hg
  · obtain rfl : g' = k := by simpa [Value.ownBlock] using hg
    rw [cell_of_row W g' j _ _ _ hh]
    have : (cur.toList.take (n * size))[j]? = some u := by rw [ht]; exact hj
    rw [List.getElem?_take] at this
    split at this
    · simpa using this
    · cases this
theorem own_nil (w : World) (B e size : Nat) : w.ownsRow B e size (.slice none 0 0) 0 [] := ⟨by simp, Or.inl ⟨rfl, rfl⟩⟩
theorem own_monoM {base base' : Nat} {t : TypeId} {s n : Nat} {v : Value} {cs : List Value} (h : W.ownsRow base' t s v n cs) (hb : base ≤ base') : W.ownsRow base t s v n cs := by
  refine ⟨h.1, ?_⟩
  rcases h.2 with h0 | ⟨g, cap, cur, hv, h1, h2⟩
  · exact .inl h0
  · exact .inr ⟨g, cap, cur, hv, by omega, h2⟩
theorem flat_len (FL : List Ft) : (FL.flatMap ftC).length = FL.length * 6 := by
  induction FL with
  | nil => rfl
  | cons x xs ih =>
    rw [List.flatMap_cons, List.length_append, ih, List.length_cons]
    show 6 + xs.length * 6 = (xs.length + 1) * 6
    omega
theorem flat_one (FL : List Ft) : ∀ u ∈ FL.flatMap ftC, u.oneCell' = true := fun u hu => by
  obtain ⟨f, _, hf⟩ := List.mem_flatMap.1 hu
  exact ftC_one f u hf
/-- Facts without one of them: two appends. -/
theorem without_ft (h : MnAt W g A L c d F cF ds ls FL) {k : Nat} (hk : k < FL.length) (hn : FL.length ≤ 5000) :
    ∃ b, F = some ⟨b, 0, none⟩ ∧ FL.length ≤ cF ∧ cF ≤ maxLen ∧ ∀ a2 : Addr, (FL.length ≠ k + 1 → a2 = ⟨b, (k + 1) * 6, none⟩) → ∃ v1 w1 v2 w2, (∃ A1 q1, v1 = .slice A1 k q1) ∧ (Builtin.append_ #[33, 33] 33 #[.slice none 0 0, .slice (some ⟨b, 0, none⟩) k cF]).run Tryz.prog W = .ok v1 w1 ∧ (Builtin.append_ #[33, 33] 33 #[v1, .slice (some a2) (FL.length - (k + 1)) (cF - (k + 1))]).run Tryz.prog w1 = .ok v2 w2 ∧ Below W.heap.size W w1 ∧ w2.ownsRow W.heap.size 101 6 v2 (FL.take k ++ FL.drop (k + 1)).length ((FL.take k ++ FL.drop (k + 1)).flatMap ftC) ∧ Below W.heap.size W w2 := by
  obtain ⟨i0, hi, hz0, hz1, hz2⟩ := info_parts infoFt
  rcases h.facts.2 with ⟨_, h0⟩ | ⟨b, cap, cur, hv, hb, hh, hnc, hcm, hcs, ht⟩
  · omega
  obtain ⟨rfl, _, rfl⟩ := Value.slice.inj hv
  have hob : (Value.slice (some ⟨b, 0, none⟩) FL.length cF).ownBlock = some b := rfl
  have hlt : b < W.heap.size := (Array.getElem?_eq_some_iff.1 hh).1
  have hsp : FL.flatMap ftC = (FL.take (k + 1)).flatMap ftC ++ (FL.drop (k + 1)).flatMap ftC := by rw [← List.flatMap_append, List.take_append_drop]
  have hsp0 : FL.flatMap ftC = (FL.take k).flatMap ftC ++ (FL.drop k).flatMap ftC := by rw [← List.flatMap_append, List.take_append_drop]
  have hl0 : ((FL.take k).flatMap ftC).length = k * 6 := by rw [flat_len, List.length_take, Nat.min_eq_left (by omega)]
  have hl1 : ((FL.take (k + 1)).flatMap ftC).length = (k + 1) * 6 := by rw [flat_len, List.length_take, Nat.min_eq_left (by omega)]
  refine ⟨b, rfl, hnc, hcm, fun a2 ha2 => ?_⟩
  obtain ⟨v1, w1, r1, o1, g1, _, p1⟩ := run_append_own_at (P := Tryz.prog) W W.heap.size 33 33 101 i0 _ 6 48 uFts hi hz0 hz1 hz2 rfl (by decide) (.slice none 0 0) 0 [] (own_nil W _ _ _) ⟨b, 0, none⟩ k cF ((FL.take k).flatMap ftC) hl0 (fun j u hj => by
    rw [Addr.add_lit, Nat.zero_add]
    refine own_cell h.facts hob ?_
    rw [hsp0, List.getElem?_append_left (List.getElem?_eq_some_iff.1 hj).1]
    exact hj) (flat_one _) (by unfold maxLen; omega) (by omega) (Nat.le_refl _)
  have b1 : Below W.heap.size W w1 := (Below.refl _ _).grown g1 (Nat.le_refl _) (fun k e => by cases e)
  obtain ⟨v2, w2, r2, o2, g2, _, p2⟩ := run_append_own_at (P := Tryz.prog) w1 W.heap.size 33 33 101 i0 _ 6 48 uFts hi hz0 hz1 hz2 rfl (by decide) v1 (0 + k) _ o1 a2 (FL.length - (k + 1)) (cF - (k + 1)) ((FL.drop (k + 1)).flatMap ftC) (by rw [flat_len, List.length_drop]) (fun j u hj => by
    have hne : FL.length ≠ k + 1 := fun e => by
      rw [List.drop_eq_nil_of_le (by omega)] at hj
      cases hj
    rw [ha2 hne, Addr.add_lit]
    refine (b1.cell (p := ⟨b, _, none⟩) hlt).trans (own_cell h.facts hob ?_)
    rw [hsp, List.getElem?_append_right (by rw [hl1]; omega), hl1, Nat.add_sub_cancel_left]
    exact hj) (flat_one _) (by unfold maxLen; omega) (by omega) b1.size
  refine ⟨v1, w1, v2, w2, (by obtain ⟨A1, q1, e, _⟩ := own_slM o1; exact ⟨A1, q1, by rw [e, Nat.zero_add]⟩), r1, r2, b1, ?_, b1.grown g2 b1.size (fun k e => (o1.lt k e).1)⟩
  have e1 : (FL.take k ++ FL.drop (k + 1)).length = 0 + k + (FL.length - (k + 1)) := by
    rw [List.length_append, List.length_take, List.length_drop, Nat.min_eq_left (by omega)]
    omega
  rw [e1, List.flatMap_append]
  simpa using o2
theorem mout_less {w7 : World} {v7 : Value} (h : MnAt W g A L c d F cF ds ls FL) (hb : Below w.heap.size w W) (O7 : w7.ownsRow W.heap.size 101 6 v7 FL'.length (FL'.flatMap ftC)) (D7 : Below W.heap.size W w7) : MOut w g A L c d F ds ls FL' (w7.setCell ⟨g, 2, none⟩ v7) := by
  have hg := h.blk.lt
  obtain ⟨A7, c7, rfl, hA7⟩ := own_slM O7
  have hF : ∀ b, b ≠ g → (w7.setCell ⟨g, 2, none⟩ (.slice A7 FL'.length c7)).heap[b]? = w7.heap[b]? := fun b h => Below.heap_setCell w7 ⟨g, 2, none⟩ _ b h
  have hsz : (w7.setCell ⟨g, 2, none⟩ (.slice A7 FL'.length c7)).heap.size = w7.heap.size := by simp [World.setCell]
  refine ⟨A7, c7, h.put (own_monoM O7 (by omega)) (D7.mono (by omega)), ⟨D7.os.trans hb.os, D7.tape.trans hb.tape, D7.output.trans hb.output, ?_, fun b h1 h2 _ => ?_⟩, fun a ha => ?_⟩
  · rw [hsz]
    exact Nat.le_trans hb.size D7.size
  · exact (hF b h2).trans ((D7.block b (Nat.lt_of_lt_of_le h1 hb.size)).trans (hb.block b h1))
  · exact Or.inr (Nat.le_trans hb.size (own_block O7 (hA7 a ha)).2.1)
theorem mout_more {w7 : World} {v7 : Value} {f : Ft} (h : MnAt W g A L c d F cF ds ls FL) (hb : Below w.heap.size w W) (O7 : w7.ownsRow (g + 1) 101 6 v7 (FL.length + 1) (FL.flatMap ftC ++ ftC f)) (D7 : Below (g + 1) W w7) (K7 : KeptB W w7 (Value.slice F FL.length cF).ownBlock) (g7 : v7.ownBlock = (Value.slice F FL.length cF).ownBlock ∨ ∃ k, v7.ownBlock = some k ∧ W.heap.size ≤ k) : MOut w g A L c d F ds ls (FL ++ [f]) (w7.setCell ⟨g, 2, none⟩ v7) := by
  have hg := h.blk.lt
  have e1 : (FL ++ [f]).length = FL.length + 1 := by simp
  have e2 : (FL ++ [f]).flatMap ftC = FL.flatMap ftC ++ ftC f := by simp
  rw [← e1, ← e2] at O7
  obtain ⟨A7, c7, rfl, hA7⟩ := own_slM O7
  have hF : ∀ b, b ≠ g → (w7.setCell ⟨g, 2, none⟩ (.slice A7 (FL ++ [f]).length c7)).heap[b]? = w7.heap[b]? := fun b h => Below.heap_setCell w7 ⟨g, 2, none⟩ _ b h
  have hsz : (w7.setCell ⟨g, 2, none⟩ (.slice A7 (FL ++ [f]).length c7)).heap.size = w7.heap.size := by simp [World.setCell]
  have hFb : ∀ b, some b = (Value.slice F FL.length cF).ownBlock → ∃ a, F = some a ∧ a.block = b := fun b e => by
    cases F with
    | none => cases e
    | some a =>
      refine ⟨a, rfl, ?_⟩
      simp only [Value.ownBlock] at e
      first
        | exact (Option.some.inj e).symm
        | (split at e <;> simp_all)
  refine ⟨A7, c7, h.put O7 D7, ⟨D7.os.trans hb.os, D7.tape.trans hb.tape, D7.output.trans hb.output, ?_, fun b h1 h2 h3 => ?_⟩, fun a ha => ?_⟩
  · rw [hsz]
    exact Nat.le_trans hb.size K7.size
  · exact (hF b h2).trans ((K7.block b (Nat.lt_of_lt_of_le h1 hb.size) (fun e => by
      obtain ⟨a, ha, hab⟩ := hFb b e
      exact h3 a ha hab.symm)).trans (hb.block b h1))
  · have hb7 := hA7 a ha
    rcases g7 with g7 | ⟨k, g7, hk⟩
    · rw [hb7] at g7
      exact Or.inl (hFb _ g7)
    · rw [hb7] at g7
      have := Option.some.inj g7
      exact Or.inr (by have := hb.size; omega)
/-- A store into a block of the call's own. -/
theorem MnAt.set {k j : Nat} {cs : Array Value} {t : TypeId} {u : Value} (h : MnAt W g A L c d F cF ds ls FL) (hB : Bk W k cs t) (hk : g < k) (ht : t ≠ 101) : MnAt (W.setCell ⟨k, j, none⟩ u) g A L c d F cF ds ls FL := by
  have hF : ∀ b, b ≠ k → (W.setCell ⟨k, j, none⟩ u).heap[b]? = W.heap[b]? := fun b h => Below.heap_setCell W ⟨k, j, none⟩ _ b h
  have kt : KT g W (W.setCell ⟨k, j, none⟩ u) := fun b hb _ => hF b (by omega)
  refine ⟨(hF g (by omega)).trans h.blk, h.devs.kt kt, h.links.kt kt, own_keptBut h.facts (fun b hb => hF b (fun e => ?_))⟩
  obtain ⟨_, _, cur, h2⟩ := own_block h.facts hb
  rw [e] at h2
  unfold Bk at hB
  rw [hB] at h2
  simp only [Option.some.injEq, Obj.cells.injEq] at h2
  exact ht h2.2.1
theorem MOut.set {k j : Nat} {cs : Array Value} {t : TypeId} {u : Value} (h : MOut w g A L c d F ds ls FL W) (hB : Bk W k cs t) (hg : g < w.heap.size) (hk : w.heap.size ≤ k) (ht : t ≠ 101) : MOut w g A L c d F ds ls FL (W.setCell ⟨k, j, none⟩ u) := by
  obtain ⟨F', cF', h1, h2, h3⟩ := h
  have hF : ∀ b, b ≠ k → (W.setCell ⟨k, j, none⟩ u).heap[b]? = W.heap[b]? := fun b h => Below.heap_setCell W ⟨k, j, none⟩ _ b h
  have hsz : (W.setCell ⟨k, j, none⟩ u).heap.size = W.heap.size := by simp [World.setCell]
  refine ⟨F', cF', h1.set hB (by omega) ht, ⟨h2.os, h2.tape, h2.output, by rw [hsz]; exact h2.size, fun b q1 q2 q3 => (hF b (by omega)).trans (h2.block b q1 q2 q3)⟩, h3⟩
theorem MOut.set6 {k : Nat} {c0 c1 c2 c3 c4 c5 u0 u1 u2 u3 u4 u5 : Value} {t : TypeId} (h : MOut w g A L c d F ds ls FL W) (hB : Bk W k #[c0, c1, c2, c3, c4, c5] t) (hg : g < w.heap.size) (hk : w.heap.size ≤ k) (ht : t ≠ 101) : MOut w g A L c d F ds ls FL ((((((W.setCell ⟨k, 0, none⟩ u0).setCell ⟨k, 1, none⟩ u1).setCell ⟨k, 2, none⟩ u2).setCell ⟨k, 3, none⟩ u3).setCell ⟨k, 4, none⟩ u4).setCell ⟨k, 5, none⟩ u5) :=
  (((((h.set hB hg hk ht).set (hB.setS u0) hg hk ht).set ((hB.setS u0).setS u1) hg hk ht).set (((hB.setS u0).setS u1).setS u2) hg hk ht).set ((((hB.setS u0).setS u1).setS u2).setS u3) hg hk ht).set (((((hB.setS u0).setS u1).setS u2).setS u3).setS u4) hg hk ht
end
end Go.Proofs.YtgmjlkllghlmmaaGreat

namespace Go.Proofs.YtgmjlkllghlmmaaGreat
open Go.RowKit Go.Maps

section
variable {w W W' : World} {g : Nat} {A L : Option Addr} {c d : Nat} {F : Option Addr} {cF : Nat} {ds : List Dv} {ls : List Lk} {FL FL' : List Ft}
theorem MnAt.alloc (h : MnAt W g A L c d F cF ds ls FL) (o : Obj) : MnAt (W.alloc o) g A L c d F cF ds ls FL := h.below ((Below.refl _ _).alloc (Nat.le_refl _) o)
theorem MnAt.drew (h : MnAt W g A L c d F cF ds ls FL) : MnAt W.drew g A L c d F cF ds ls FL := h.below (Below.refl _ _).drew
theorem MnAt.drewN (h : MnAt W g A L c d F cF ds ls FL) (n : Nat) : MnAt (W.drewN n) g A L c d F cF ds ls FL := h.below (belowNN (Below.refl _ _) n)
/-- Forget, under way. -/
structure FG (w : World) (g : Nat) (A L : Option Addr) (c d : Nat) (F : Option Addr) (cF : Nat) (ds : List Dv) (ls : List Lk) (FL : List Ft) (i : Int) (p : Pk) (port kd : Int) (K : Nat) (W : World) : Prop where
  mn : MnAt W g A L c d F cF ds ls FL
  bi : Bk W w.heap.size #[.int .i64 i] 3
  bp : Bk W (w.heap.size + 1) #[.int .i64 p.s, .int .i64 p.d, .int .i64 p.sp, .int .i64 p.dp] 39
  bo : Bk W (w.heap.size + 1 + 1) #[.int .i64 port] 3
  bk : Bk W K #[.int .i64 kd] 3
  bl : Below w.heap.size w W
theorem FG.keep {i port kd : Int} {p : Pk} {K : Nat} (h : FG w g A L c d F cF ds ls FL i p port kd K W) (hb : Below W.heap.size W W') : FG w g A L c d F cF ds ls FL i p port kd K W' := ⟨h.mn.below hb, h.bi.keep hb, h.bp.keep hb, h.bo.keep hb, h.bk.keep hb, chnN hb h.bl⟩
theorem gone_found {i port : Int} {p : Pk} {kd : Int} (hi : 0 ≤ i ∧ i < (ds.length : Int)) (hk : kindAt ds i = kd) (h35 : 3 ≤ kd ∧ kd ≤ 5) {k : Nat} {f : Ft} (h1 : FL[k]? = some f) (h2 : FL.find? (ofGone kd i p port) = some f) (h3 : FL.eraseP (ofGone kd i p port) = FL.take k ++ FL.drop (k + 1)) : mgoneP ds FL i p port = ⟨0, FL.take k ++ FL.drop (k + 1)⟩ := by
  unfold mgoneP
  rw [if_pos hi, hk, if_pos h35, if_pos (List.any_eq_true.2 ⟨f, List.mem_of_getElem? h1, List.find?_some h2⟩), h3]
theorem gone_none {i port : Int} {p : Pk} {kd : Int} (hi : 0 ≤ i ∧ i < (ds.length : Int)) (hk : kindAt ds i = kd) (h35 : 3 ≤ kd ∧ kd ≤ 5) (h2 : FL.find? (ofGone kd i p port) = none) : mgoneP ds FL i p port = ⟨7, FL⟩ := by
  unfold mgoneP
  rw [if_pos hi, hk, if_pos h35, if_neg (by rw [find_no h2]; simp)]
theorem gone_kind {i port : Int} {p : Pk} {kd : Int} (hi : 0 ≤ i ∧ i < (ds.length : Int)) (hk : kindAt ds i = kd) (h35 : ¬ (3 ≤ kd ∧ kd ≤ 5)) : mgoneP ds FL i p port = ⟨4, FL⟩ := by
  unfold mgoneP
  rw [if_pos hi, hk, if_neg h35]
end
set_option maxHeartbeats 8000000 in
set_option maxRecDepth 100000 in
theorem mforget_any {g : Nat} {A L : Option Addr} {c d : Nat} {F : Option Addr} {cF : Nat} {ds : List Dv} {ls : List Lk} {FL : List Ft} (i : Int) (p : Pk) (port : Int) (w : World) (h : Hid (MnAt w g A L c d F cF ds ls FL)) (hn : FL.length ≤ 5000) :
    Calls Tryz.prog 10 #[.pointer (some ⟨g, 0, none⟩), .int .i64 i, pkV p, .int .i64 port] w fun e w' => e = .returned (.int .i64 (mgoneP ds FL i p port).err) ∧ MOut w g A L c d F ds ls (mgoneP ds FL i p port).FL w' := by
  obtain ⟨r, hr⟩ : ∃ r, mgoneP ds FL i p port = r := ⟨_, rfl⟩
  rw [hr]
  have HR : Hid (mgoneP ds FL i p port = r) := hr
  clear hr
  have hln := h.out.devs.len
  have h3 := ((h.out.alloc (.cells #[.int .i64 i] 3)).alloc (pkC p)).alloc (.cells #[.int .i64 port] 3)
  have D3 := Below.alN (Below.alN (Below.alN (Below.refl w.heap.size w) (.cells #[.int .i64 i] 3)) (pkC p)) (.cells #[.int .i64 port] 3)
  have I3 := ((bk_new w #[.int .i64 i] 3).alloc (pkC p)).alloc (.cells #[.int .i64 port] 3)
  have P3 := (bk_new' (w.alloc (.cells #[.int .i64 i] 3)) #[.int .i64 p.s, .int .i64 p.d, .int .i64 p.sp, .int .i64 p.dp] 39 (w.heap.size + 1) (by simp)).alloc (.cells #[.int .i64 port] 3)
  have O3 := bk_new' ((w.alloc (.cells #[.int .i64 i] 3)).alloc (pkC p)) #[.int .i64 port] 3 (w.heap.size + 1 + 1) (by simp)
  have hm : ds.length ≤ maxLen := Nat.le_trans hln.2.1 hln.2.2
  unfold maxLen at hm
  have hw : IntKind.i64.wrap ((ds.length : Int) - 1) = (ds.length : Int) - 1 := IntWalk.i64_in _ (by omega)
  have IN : Hid (∀ W, Calls Tryz.prog 23 #[.int .i64 i, .int .i64 0, .int .i64 ((ds.length : Int) - 1)] W fun e w' => e = .returned (.bool (decide (0 ≤ i) && decide (i ≤ (ds.length : Int) - 1))) ∧ w' = W) := fun W => finR _ _ _ W
  have hG := h.out.blk.lt
  have g0 := h3.blk.at 0
  have i0 := I3.at 0
  clear hln h
  by_cases hi : 0 ≤ i ∧ i < (ds.length : Int)
  rotate_left
  · have hv : r = ⟨4, FL⟩ := by
      rw [← HR.out]
      unfold mgoneP
      rw [if_neg hi]
    subst hv
    rw [show (decide (0 ≤ i) && decide (i ≤ (ds.length : Int) - 1)) = false by rw [Bool.and_eq_false_iff]; simp only [decide_eq_false_iff_not]; omega] at IN
    clear HR hi
    go_enter Tryz.func10, Tryz.ntmps10
    go_wp2_with fail
    go_quiet ((go_at_call 23; exact Calls.quiet_of_same (IN.out _)))
    go_wp2_with fail
    go_ret
    exact ⟨rfl, MOut.same (h3.drewN _) (belowNN D3 _)⟩
  rw [show (decide (0 ≤ i) && decide (i ≤ (ds.length : Int) - 1)) = true by rw [Bool.and_eq_true]; simp only [decide_eq_true_eq]; omega] at IN
  have hi' := hi
  obtain ⟨j, rfl⟩ : ∃ j : Nat, i = (j : Int) := ⟨i.toNat, by omega⟩
  have hj : j < ds.length := by omega
  obtain ⟨dv, hd⟩ : ∃ dv, ds[j]? = some dv := ⟨_, List.getElem?_eq_getElem hj⟩
  have hkd : kindAt ds (j : Int) = dv.kind := by
    unfold kindAt
    rw [Int.toNat_natCast, hd]
    rfl
  obtain ⟨b, o, vb, vr, vt, hA, hbl, s1, s2, s3, c0, c1, c2, c3, c4, c5, c6⟩ := h3.devs.at hd
  have hbw := Nat.lt_trans hbl h3.blk.lt
  subst hA
  have HFD : Hid (∀ k f, FL[k]? = some f → FL.find? (ofGone dv.kind (j : Int) p port) = some f → FL.eraseP (ofGone dv.kind (j : Int) p port) = FL.take k ++ FL.drop (k + 1) → (3 ≤ dv.kind ∧ dv.kind ≤ 5) → r = ⟨0, FL.take k ++ FL.drop (k + 1)⟩) := fun k f h1 h2 h4 h35 => HR.out.symm.trans (gone_found hi' hkd h35 h1 h2 h4)
  have HNO : Hid (FL.find? (ofGone dv.kind (j : Int) p port) = none → (3 ≤ dv.kind ∧ dv.kind ≤ 5) → r = ⟨7, FL⟩) := fun h2 h35 => HR.out.symm.trans (gone_none hi' hkd h35 h2)
  have HKD : Hid (¬ (3 ≤ dv.kind ∧ dv.kind ≤ 5) → r = ⟨4, FL⟩) := fun h35 => HR.out.symm.trans (gone_kind hi' hkd h35)
  have k1 : (0 : Int) ≤ (j : Int) := by omega
  have k2 : (j : Int) < (ds.length : Int) := by omega
  clear HR hi hi' hkd hd s1 s2 s3 c0 c2 c3 c4 c5 c6 hj
  generalize dv.kind = kd at *
  have I5 : Hid (∀ W, Calls Tryz.prog 23 #[.int .i64 kd, .int .i64 3, .int .i64 5] W fun e w' => e = .returned (.bool (decide (3 ≤ kd) && decide (kd ≤ 5))) ∧ w' = W) := fun W => finR _ _ _ W
  have FIND : Hid (∀ K W, FG w g (some ⟨b, o, none⟩) L c d F cF ds ls FL (j : Int) p port kd K W → Calls Tryz.prog 34 #[.pointer (some ⟨g, 0, none⟩), .func (.func 48) #[] #[.pointer (some ⟨w.heap.size, 0, none⟩), .pointer (some ⟨K, 0, none⟩), .pointer (some ⟨w.heap.size + 1 + 1, 0, none⟩), .pointer (some ⟨w.heap.size + 1, 0, none⟩)]] W fun e w' => ∃ x : Int, e = .returned (.int .i64 x) ∧ Hid (Idx (ofGone kd (j : Int) p port) FL x) ∧ Below W.heap.size W w') := fun K W hF => find_c7 _ _ _ _ g _ _ F cF FL (ofGone kd (j : Int) p port) W.heap.size W (Nat.le_refl _) hF.mn.blk hF.mn.row (fun f W' hb => clo7 f (j : Int) kd port p _ _ _ _ W' (hF.keep hb).bi (hF.keep hb).bk (hF.keep hb).bo (hF.keep hb).bp)
  have Z3 : Hid (∀ n, MnAt ((((w.alloc (.cells #[.int .i64 (j : Int)] 3)).alloc (pkC p)).alloc (.cells #[.int .i64 port] 3)).drewN n) g (some ⟨b, o, none⟩) L c d F cF ds ls FL ∧ Bk ((((w.alloc (.cells #[.int .i64 (j : Int)] 3)).alloc (pkC p)).alloc (.cells #[.int .i64 port] 3)).drewN n) w.heap.size #[.int .i64 (j : Int)] 3 ∧ Bk ((((w.alloc (.cells #[.int .i64 (j : Int)] 3)).alloc (pkC p)).alloc (.cells #[.int .i64 port] 3)).drewN n) (w.heap.size + 1) #[.int .i64 p.s, .int .i64 p.d, .int .i64 p.sp, .int .i64 p.dp] 39 ∧ Bk ((((w.alloc (.cells #[.int .i64 (j : Int)] 3)).alloc (pkC p)).alloc (.cells #[.int .i64 port] 3)).drewN n) (w.heap.size + 1 + 1) #[.int .i64 port] 3 ∧ Below w.heap.size w ((((w.alloc (.cells #[.int .i64 (j : Int)] 3)).alloc (pkC p)).alloc (.cells #[.int .i64 port] 3)).drewN n) ∧ ((((w.alloc (.cells #[.int .i64 (j : Int)] 3)).alloc (pkC p)).alloc (.cells #[.int .i64 port] 3)).drewN n).cell? ⟨b, o + j * 7 + 1, none⟩ = some (.int .i64 kd)) := fun n => ⟨h3.drewN n, I3.drewN n, P3.drewN n, O3.drewN n, belowNN D3 n, c1⟩
  have hG0 : g < w.heap.size := hG
  clear h3 D3 I3 P3 O3
  go_enter Tryz.func10, Tryz.ntmps10
  go_wp2_with fail
  go_cut [20] (fun v wx => v = .bool false ∧ MnAt wx g (some ⟨b, o, none⟩) L c d F cF ds ls FL ∧ Bk wx w.heap.size #[.int .i64 (j : Int)] 3 ∧ Bk wx (w.heap.size + 1) #[.int .i64 p.s, .int .i64 p.d, .int .i64 p.sp, .int .i64 p.dp] 39 ∧ Bk wx (w.heap.size + 1 + 1) #[.int .i64 port] 3 ∧ Below w.heap.size w wx ∧ wx.cell? ⟨b, o + j * 7 + 1, none⟩ = some (.int .i64 kd))
  case first =>
    go_quiet ((go_at_call 23; exact Calls.quiet_of_same (IN.out _)))
    go_wp2_with fail
    go_meet
    exact ⟨rfl, Z3.out _⟩
  case rest =>
    obtain ⟨rfl, h4, I4, P4, O4, D4, c4⟩ := hcut
    have hbw4 : b < wc.heap.size := Nat.lt_of_lt_of_le (by first | omega | (simp only [World.size_alloc] at hbl; omega)) h4.blk.lt
    have FG4 : Hid (FG w g (some ⟨b, o, none⟩) L c d F cF ds ls FL (j : Int) p port kd wc.heap.size (wc.alloc (.cells #[.int .i64 kd] 3))) := ⟨h4.alloc _, I4.alloc _, P4.alloc _, O4.alloc _, bk_new wc _ _, Below.alN D4 _⟩
    have g4 := h4.blk.at 0
    have j4 := I4.at 0
    have g5 := (h4.alloc (.cells #[.int .i64 0] 3)).blk.at 0
    have j5 := (I4.alloc (.cells #[.int .i64 0] 3)).at 0
    have c5 := (((Below.refl wc.heap.size wc).alloc (Nat.le_refl _) (.cells #[.int .i64 0] 3)).cell (p := ⟨b, o + j * 7 + 1, none⟩) hbw4).trans c4
    have g6 : (wc.drew.alloc (.cells #[.int .i64 0] 3)).cell? ⟨g, 0, none⟩ = some (.slice (some ⟨b, o, none⟩) ds.length c) := g5
    have j6 : (wc.drew.alloc (.cells #[.int .i64 0] 3)).cell? ⟨w.heap.size, 0, none⟩ = some (.int .i64 (j : Int)) := j5
    have c6 : (wc.drew.alloc (.cells #[.int .i64 0] 3)).cell? ⟨b, o + j * 7 + 1, none⟩ = some (.int .i64 kd) := c5
    clear Z3 h4 I4 P4 O4 D4 g0 i0 c1 IN hw
    go_wp2_with fail
    go_cut [9] (fun v9 wx => ∃ K, v9 = .pointer (some ⟨K, 0, none⟩) ∧ FG w g (some ⟨b, o, none⟩) L c d F cF ds ls FL (j : Int) p port kd K wx)
    case first =>
      go_region
      all_goals
        go_wp2_with fail
        go_meet
        exact ⟨_, rfl, FG4.out.keep (belowNN (Below.refl _ _) _)⟩
    case rest =>
      obtain ⟨K, rfl, F5⟩ := hcut
      have k5 := F5.bk.at 0
      clear FG4 g4 j4 c4 g5 j5 c5 g6 j6 c6 hbw4
      go_wp2_with fail
      refine (I5.out _).mono ?_
      rintro e w' ⟨rfl, rfl⟩
      by_cases h35 : 3 ≤ kd ∧ kd ≤ 5
      rotate_left
      · have hv := HKD.out h35
        subst hv
        have u5 : (decide (3 ≤ kd) && decide (kd ≤ 5)) = false := by rw [Bool.and_eq_false_iff]; simp only [decide_eq_false_iff_not]; omega
        have hf : MOut w g (some ⟨b, o, none⟩) L c d F ds ls FL w' := MOut.same F5.mn F5.bl
        clear HKD HNO HFD h35 F5 FIND
        rw [u5]
        go_wp2_with fail
        go_ret
        exact ⟨rfl, hf⟩
      have u5 : (decide (3 ≤ kd) && decide (kd ≤ 5)) = true := by rw [Bool.and_eq_true]; simp only [decide_eq_true_eq]; omega
      rw [u5]
      have H35 : Hid (3 ≤ kd ∧ kd ≤ 5) := h35
      clear HKD h35
      go_wp2_with fail
      refine (FIND.out K _ F5).mono ?_
      rintro e w6 ⟨x, rfl, hx, hb6⟩
      have F6 := F5.keep hb6
      clear hb6 F5 k5 FIND
      rcases hx.out with ⟨rfl, hno⟩ | ⟨k, f, rfl, hk, hfd, her⟩
      · have hv := HNO.out hno H35.out
        subst hv
        have hf : MOut w g (some ⟨b, o, none⟩) L c d F ds ls FL w6 := MOut.same F6.mn F6.bl
        clear HNO HFD F6 hx hno
        go_wp2_with fail
        go_ret
        exact ⟨rfl, hf⟩
      have hv := HFD.out k f hk hfd her H35.out
      subst hv
      have hkl : k < FL.length := (List.getElem?_eq_some_iff.1 hk).1
      obtain ⟨fb, hFb, hnc, hcm, hap⟩ := without_ft F6.mn.drew hkl hn
      have hmm : MnAt w6 g (some ⟨b, o, none⟩) L c d F cF ds ls FL := F6.mn
      have hbl6 := F6.bl
      unfold maxLen at hcm
      have u1 : (0 : Int) ≤ (k : Int) := by omega
      have u2 : (k : Int) ≤ (cF : Int) := by omega
      have u3 : IntKind.i64.wrap ((k : Int) + 1) = (k : Int) + 1 := IntWalk.i64_in _ (by omega)
      have u4 : (0 : Int) ≤ (k : Int) + 1 := by omega
      have u6 : (k : Int) + 1 ≤ (FL.length : Int) := by omega
      have u7 : decide ((k : Int) < 0) = false := by simp
      subst hFb
      have m6 := hmm.blk.at 2
      have m6d : w6.drew.cell? ⟨g, 2, none⟩ = some (.slice (some ⟨fb, 0, none⟩) FL.length cF) := m6
      by_cases he : cF = k + 1
      · obtain ⟨v1, w1, v2, w2, ⟨A1, q1, hv1⟩, r1, r2, b1, o2, b2⟩ := hap ⟨fb, 0, none⟩ (fun h => by omega)
        have hfin : Hid (MOut w g (some ⟨b, o, none⟩) L c d (some ⟨fb, 0, none⟩) ds ls (FL.take k ++ FL.drop (k + 1)) (w2.setCell ⟨g, 2, none⟩ v2)) := mout_less (W := w6.drew) hmm.drew hbl6.drew o2 b2
        have hgl := hmm.blk.lt
        have n1 := (hmm.drew.blk.below b1 hgl).at 2
        have n2 := (hmm.drew.blk.below b2 hgl).at 2
        have z2 := (hmm.drew.blk.below b2 hgl).fz 2
        obtain ⟨A7, q7, hv7, _⟩ := own_slM o2
        clear HNO HFD F6 hx hk hfd her hap o2 b1 b2 hmm hbl6
        generalize (FL.take k ++ FL.drop (k + 1)).length = n7 at hv7
        subst hv7
        subst hv1
        generalize FL.length = len at *
        obtain rfl : len = k + 1 := by omega
        subst he
        simp only [Nat.sub_self] at r2
        have k6 : (k : Int) ≤ ((k + 1 : Nat) : Int) := by omega
        have k7 : (k : Int) + 1 ≤ ((k + 1 : Nat) : Int) := by omega
        have k8 : (k : Int) ≤ (k : Int) + 1 := by omega
        go_wp2_with fail
        go_region_law (first | (refine step_append_run (by rfl) _ _ 33 (by rfl) (.slice none 0 0) (.slice (some ⟨fb, 0, none⟩) k _) (.slice A1 k q1) w1 (by rfl) (by rfl) ?_ ?_; exact r1) | (refine step_append_run (by rfl) _ _ 33 (by rfl) (.slice A1 k q1) _ _ w2 (by rfl) (by rfl) r2 ?_))
        all_goals
          go_wp2_with fail
          go_ret
          exact ⟨rfl, hfin.out⟩
      · obtain ⟨v1, w1, v2, w2, ⟨A1, q1, hv1⟩, r1, r2, b1, o2, b2⟩ := hap ⟨fb, (k + 1) * 6, none⟩ (fun h => rfl)
        have hfin : Hid (MOut w g (some ⟨b, o, none⟩) L c d (some ⟨fb, 0, none⟩) ds ls (FL.take k ++ FL.drop (k + 1)) (w2.setCell ⟨g, 2, none⟩ v2)) := mout_less (W := w6.drew) hmm.drew hbl6.drew o2 b2
        have hgl := hmm.blk.lt
        have n1 := (hmm.drew.blk.below b1 hgl).at 2
        have n2 := (hmm.drew.blk.below b2 hgl).at 2
        have z2 := (hmm.drew.blk.below b2 hgl).fz 2
        obtain ⟨A7, q7, hv7, _⟩ := own_slM o2
        clear HNO HFD F6 hx hk hfd her hap o2 b1 b2 hmm hbl6
        generalize (FL.take k ++ FL.drop (k + 1)).length = n7 at hv7
        subst hv7
        subst hv1
        go_wp2_with fail
        go_region_law (first | (refine step_append_run (by rfl) _ _ 33 (by rfl) (.slice none 0 0) (.slice (some ⟨fb, 0, none⟩) k _) (.slice A1 k q1) w1 (by rfl) (by rfl) ?_ ?_; exact r1) | (refine step_append_run (by rfl) _ _ 33 (by rfl) (.slice A1 k q1) _ _ w2 (by rfl) (by rfl) r2 ?_))
        all_goals
          go_wp2_with fail
          go_ret
          exact ⟨rfl, hfin.out⟩
end Go.Proofs.YtgmjlkllghlmmaaGreat
