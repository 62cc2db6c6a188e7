/-
  XAF.
-/
import Derived.Test.YtlmmeppifkigeaaGreatXAE
import Derived.Laws.CopyRow
set_option maxHeartbeats 8000000
set_option maxRecDepth 100000
namespace Go.Proofs.YtlmmeppifkigeaaGreat
open Go.RowKit Go.Maps
def Bk (w : World) (k : Nat) (c : Array Value) (t : TypeId) : Prop := w.heap[k]? = some (.cells c t (0, 0))
section
variable {w w' : World} {k : Nat} {c : Array Value} {t : TypeId}
theorem Bk.lt (h : Bk w k c t) : k < w.heap.size := (Array.getElem?_eq_some_iff.1 h).1
theorem Bk.below {B : Nat} (h : Bk w k c t) (hb : Below B w w') (hk : k < B) : Bk w' k c t := (hb.block k hk).trans h
theorem Bk.keep (hb : Below w.heap.size w w') (h : Bk w k c t) : Bk w' k c t := h.below hb h.lt
theorem Bk.alloc (h : Bk w k c t) (o : Obj) : Bk (w.alloc o) k c t := h.below ((Below.refl _ _).alloc (Nat.le_refl _) o) h.lt
theorem Bk.drew (h : Bk w k c t) : Bk w.drew k c t := h
theorem bk_new (w : World) (c : Array Value) (t : TypeId) : Bk (w.alloc (.cells c t)) w.heap.size c t := by
 show (w.heap.push _)[w.heap.size]? = _
 simp
theorem bk_new' (w : World) (c : Array Value) (t : TypeId) (k : Nat) (h : k = w.heap.size) : Bk (w.alloc (.cells c t)) k c t := by rw [h]; exact bk_new w c t
theorem Bk.at (h : Bk w k c t) (j : Nat) : w.cell? ⟨k, j, none⟩ = c[j]? := cell_of_row w k j _ _ _ h
theorem Bk.fz (h : Bk w k c t) (j : Nat) : w.frozen? ⟨k, j, none⟩ = false := by
 unfold Bk at h
 simp [World.frozen?, h]
end
structure Put (k : Nat) (w w' : World) : Prop where
 os : w'.os = w.os
 tape : w'.tape = w.tape
 output : w'.output = w.output
 size : w'.heap.size = w.heap.size
 block : ∀ b, b ≠ k -> w'.heap[b]? = w.heap[b]?
theorem Bk.setO {w : World} {k b j : Nat} {c : Array Value} {t : TypeId} (h : Bk w k c t) (hne : k ≠ b) (u : Value) : Bk (w.setCell ⟨b, j, none⟩ u) k c t := (Below.heap_setCell w ⟨b, j, none⟩ u k hne).trans h
theorem Bk.setS {w : World} {k j : Nat} {c : Array Value} {t : TypeId} (h : Bk w k c t) (u : Value) : Bk (w.setCell ⟨k, j, none⟩ u) k (c.setIfInBounds j u) t := by
 unfold Bk at *
 simp [World.setCell, Array.getElem?_modify, h]
theorem Bk.four {w : World} {k : Nat} {t : TypeId} {a b c d : Value} (h : Bk w k #[a, b, c, d] t) : w.cell? ⟨k, 0, none⟩ = some a ∧ w.cell? ⟨k, 1, none⟩ = some b ∧ w.cell? ⟨k, 2, none⟩ = some c ∧ w.cell? ⟨k, 3, none⟩ = some d ∧ w.frozen? ⟨k, 0, none⟩ = false ∧ w.frozen? ⟨k, 1, none⟩ = false ∧ w.frozen? ⟨k, 2, none⟩ = false ∧ w.frozen? ⟨k, 3, none⟩ = false := ⟨h.at 0, h.at 1, h.at 2, h.at 3, h.fz 0, h.fz 1, h.fz 2, h.fz 3⟩
theorem Bk.one {w : World} {k : Nat} {t : TypeId} {a : Value} (h : Bk w k #[a] t) : w.cell? ⟨k, 0, none⟩ = some a ∧ w.frozen? ⟨k, 0, none⟩ = false := ⟨h.at 0, h.fz 0⟩
theorem Bk.two {w : World} {k : Nat} {t : TypeId} {a b : Value} (h : Bk w k #[a, b] t) : w.cell? ⟨k, 0, none⟩ = some a ∧ w.cell? ⟨k, 1, none⟩ = some b := ⟨h.at 0, h.at 1⟩
theorem Bk.five {w : World} {k : Nat} {t : TypeId} {a b c d e : Value} (h : Bk w k #[a, b, c, d, e] t) : w.cell? ⟨k, 0, none⟩ = some a ∧ w.cell? ⟨k, 1, none⟩ = some b ∧ w.cell? ⟨k, 2, none⟩ = some c ∧ w.cell? ⟨k, 3, none⟩ = some d ∧ w.cell? ⟨k, 4, none⟩ = some e := ⟨h.at 0, h.at 1, h.at 2, h.at 3, h.at 4⟩
theorem Bk.six {w : World} {k : Nat} {t : TypeId} {a b c d e f : Value} (h : Bk w k #[a, b, c, d, e, f] t) : (w.cell? ⟨k, 0, none⟩ = some a ∧ w.cell? ⟨k, 1, none⟩ = some b ∧ w.cell? ⟨k, 2, none⟩ = some c ∧ w.cell? ⟨k, 3, none⟩ = some d ∧ w.cell? ⟨k, 4, none⟩ = some e ∧ w.cell? ⟨k, 5, none⟩ = some f) ∧ (w.frozen? ⟨k, 0, none⟩ = false ∧ w.frozen? ⟨k, 1, none⟩ = false ∧ w.frozen? ⟨k, 2, none⟩ = false ∧ w.frozen? ⟨k, 3, none⟩ = false ∧ w.frozen? ⟨k, 4, none⟩ = false ∧ w.frozen? ⟨k, 5, none⟩ = false) := ⟨⟨h.at 0, h.at 1, h.at 2, h.at 3, h.at 4, h.at 5⟩, ⟨h.fz 0, h.fz 1, h.fz 2, h.fz 3, h.fz 4, h.fz 5⟩⟩
theorem Bk.seven {w : World} {k : Nat} {t : TypeId} {a b c d e f g : Value} (h : Bk w k #[a, b, c, d, e, f, g] t) : w.cell? ⟨k, 0, none⟩ = some a ∧ w.cell? ⟨k, 1, none⟩ = some b ∧ w.cell? ⟨k, 2, none⟩ = some c ∧ w.cell? ⟨k, 3, none⟩ = some d ∧ w.cell? ⟨k, 4, none⟩ = some e ∧ w.cell? ⟨k, 5, none⟩ = some f ∧ w.cell? ⟨k, 6, none⟩ = some g := ⟨h.at 0, h.at 1, h.at 2, h.at 3, h.at 4, h.at 5, h.at 6⟩
abbrev lvC : Obj := .cells #[.int .i64 0, .int .i64 0, .int .i64 0, .int .i64 0, .int .i64 0, .nilFunc] 190
abbrev dvC (nm : ByteArray) (k ad : Int) (pl : Nat) (vb vr vt : Value) : Obj := .cells #[.string nm, .int .i64 k, .int .i64 ad, .int .u8 (pl : Int), vb, vr, vt] 62
def FV (v : Value) : Prop := v = .nilFunc ∨ ∃ fn cp, v = .func fn #[] cp
def SPost (m : Mp) (w : World) (r : SR) (e : Ending) (w' : World) : Prop :=
 ∃ (q : Int) (p : Pk) (fv : Value) (er : Int), e = .returned (.tuple #[lvA q p fv, .int .i64 er]) ∧ Hid (er = r.err ∧ FV fv ∧ (r.err = 0 -> q = r.port ∧ p = r.p ∧ LrnAt w.heap.size w' m fv r.l)) ∧ Below w.heap.size w w'
theorem rules_of {base : Nat} {w : World} {v : Value} {xs : List NRule} (h : SlAt base w 5 IsRule v xs) : Rules base w v (xs.map fun r => ⟨r.ok, r.a, r.b, r.c, r.d, r.ha, r.hb, r.hc, r.hd⟩) := by
 obtain ⟨A, cap, rfl, h0, h1, h2, h3⟩ := h
 refine ⟨A, cap, by rw [List.length_map], h0, by rw [List.length_map]; exact h1, h2, fun hn => ?_⟩
 obtain ⟨b, o, ea, hl, hr⟩ := h3 (fun e => hn (by rw [e]; rfl))
 refine ⟨b, o, ea, hl, fun j u hj => ?_⟩
 have hjl := (List.getElem?_eq_some_iff.1 hj).1
 rw [cellsR_length, List.length_map] at hjl
 have hk : j / 5 < xs.length := by omega
 have hx : xs[j / 5]? = some xs[j / 5] := List.getElem?_eq_getElem hk
 obtain ⟨cs, _, rfl, hc⟩ := hr _ _ hx
 obtain ⟨c0, c1, c2, c3, c4⟩ := cellsR_at (xs.map fun r : NRule => (⟨r.ok, r.a, r.b, r.c, r.d, r.ha, r.hb, r.hc, r.hd⟩ : Rl)) (j / 5) _ (by rw [List.getElem?_map, hx]; rfl)
 have hm : j % 5 = 0 ∨ j % 5 = 1 ∨ j % 5 = 2 ∨ j % 5 = 3 ∨ j % 5 = 4 := by omega
 have eo : o + j = o + j / 5 * 5 + j % 5 := by omega
 rw [eo]
 rcases hm with hm | hm | hm | hm | hm
 ·rw [show j = j / 5 * 5 by omega, c0] at hj
  rw [hm, <- Option.some.inj hj]
  exact hc 0 _ rfl
 ·rw [show j = j / 5 * 5 + 1 by omega, c1] at hj
  rw [hm, <- Option.some.inj hj]
  exact hc 1 _ rfl
 ·rw [show j = j / 5 * 5 + 2 by omega, c2] at hj
  rw [hm, <- Option.some.inj hj]
  exact hc 2 _ rfl
 ·rw [show j = j / 5 * 5 + 3 by omega, c3] at hj
  rw [hm, <- Option.some.inj hj]
  exact hc 3 _ rfl
 ·rw [show j = j / 5 * 5 + 4 by omega, c4] at hj
  rw [hm, <- Option.some.inj hj]
  exact hc 4 _ rfl
structure DevAt (w : World) (d : Dv) (b o : Nat) (vb vr vt : Value) : Prop where
 c0 : w.cell? ⟨b, o, none⟩ = some (.string d.name)
 c1 : w.cell? ⟨b, o + 1, none⟩ = some (.int .i64 d.kind)
 c2 : w.cell? ⟨b, o + 2, none⟩ = some (.int .i64 d.addr)
 c3 : w.cell? ⟨b, o + 3, none⟩ = some (.int .u8 (d.pool : Int))
 c4 : w.cell? ⟨b, o + 4, none⟩ = some vb
 c5 : w.cell? ⟨b, o + 5, none⟩ = some vr
 c6 : w.cell? ⟨b, o + 6, none⟩ = some vt
 backs : SlAt w.heap.size w 1 IsI vb d.backs
 rules : Rules w.heap.size w vr (rulesOf d)
 routes : Routes w.heap.size w vt (routesOf d)
theorem MemAt.dev {w : World} {m : Mp} {ds : List Dv} {ls : List Lk} {n : Nat} {M : Mnd} (h : MemAt w m ds ls n M) {i : Nat} {d : Dv} (hx : ds[i]? = some d) :
  ∃ b o vb vr vt, m.A = some ⟨b, o, none⟩ ∧ DevAt w d b (o + i * 7) vb vr vt ∧ (0 : Int) <= (i : Int) ∧ (i : Int) < (ds.length : Int) := by
 obtain ⟨b, o, vb, vr, vt, eA, hb, s1, s2, s3, c0, c1, c2, c3, c4, c5, c6⟩ := h.devs.at hx
 have hi := (List.getElem?_eq_some_iff.1 hx).1
 exact ⟨b, o, vb, vr, vt, eA, ⟨c0, c1, c2, c3, c4, c5, c6, s1, rules_of s2, routes_of s3⟩, by omega, by omega⟩
theorem cell_of_blockC {w w' : World} {b o : Nat} (h : w'.heap[b]? = w.heap[b]?) : w'.cell? ⟨b, o, none⟩ = w.cell? ⟨b, o, none⟩ := by
 unfold World.cell?
 rw [h]
def NotB (k : Nat) (v : Value) : Prop := ∀ b o n c, v = .slice (some ⟨b, o, none⟩) n c -> n ≠ 0 -> b ≠ k
def NotIn (lo hi : Nat) (v : Value) : Prop := ∀ b o n c, v = .slice (some ⟨b, o, none⟩) n c -> n ≠ 0 -> b < lo ∨ hi <= b
theorem NotIn.b {lo hi k : Nat} {v : Value} (h : NotIn lo hi v) (h1 : lo <= k) (h2 : k < hi) : NotB k v := fun b o n c e hn => by
 have := h b o n c e hn
 omega
theorem SlAt.setB {α : Type} {base n k j : Nat} {w : World} {R : List Value -> α -> Prop} {v u : Value} {xs : List α} (h : SlAt base w n R v xs) (hn : NotB k v) : SlAt base (w.setCell ⟨k, j, none⟩ u) n R v xs := by
 obtain ⟨A, cap, rfl, h0, h1, h2, h3⟩ := h
 refine ⟨A, cap, rfl, h0, h1, h2, fun hx => ?_⟩
 obtain ⟨b, o, rfl, hl, hr⟩ := h3 hx
 have hb : b ≠ k := hn b o _ _ rfl (fun e => hx (List.length_eq_zero_iff.1 e))
 refine ⟨b, o, rfl, hl, fun i x hi => ?_⟩
 obtain ⟨cs, c1, c2, c3⟩ := hr i x hi
 exact ⟨cs, c1, c2, fun j' u' hj => (cell_of_blockC (Below.heap_setCell w ⟨k, j, none⟩ u b hb)).trans (c3 j' u' hj)⟩
theorem SlAt.notIn {α : Type} {base n hi : Nat} {w : World} {R : List Value -> α -> Prop} {v : Value} {xs : List α} (h : SlAt base w n R v xs) : NotIn base hi v := fun b o m c e hn => by
 obtain ⟨A, cap, rfl, h0, h1, h2, h3⟩ := h
 obtain ⟨b', o', e', hl, _⟩ := h3 (fun e0 => hn (by cases e; rw [e0]; rfl))
 cases e
 cases e'
 exact .inl hl
theorem own_notIn {base lo hi n N : Nat} {t : TypeId} {w : World} {v : Value} {cs : List Value} (h : w.ownsRow base t n v N cs) (hb : hi <= base) : NotIn lo hi v := fun b o m c e hn => by
 rcases h.2 with ⟨rfl, _⟩ | ⟨g, cap, cur, rfl, hg, _⟩
 ·cases e
 ·cases e
  exact .inr (by omega)
def DvRow (lo hi g : Nat) (w : World) (ds : List Dv) : Prop := ∀ k d, ds[k]? = some d -> ∃ vb vr vt, (w.cell? ⟨g, k * 7, none⟩ = some (.string d.name) ∧ w.cell? ⟨g, k * 7 + 1, none⟩ = some (.int .i64 d.kind) ∧ w.cell? ⟨g, k * 7 + 2, none⟩ = some (.int .i64 d.addr) ∧ w.cell? ⟨g, k * 7 + 3, none⟩ = some (.int .u8 (d.pool : Int)) ∧ w.cell? ⟨g, k * 7 + 4, none⟩ = some vb ∧ w.cell? ⟨g, k * 7 + 5, none⟩ = some vr ∧ w.cell? ⟨g, k * 7 + 6, none⟩ = some vt) ∧ (SlAt w.heap.size w 1 IsI vb d.backs ∧ SlAt w.heap.size w 5 IsRule vr d.rules ∧ SlAt w.heap.size w 3 IsRoute vt d.routes) ∧ NotIn lo hi vb ∧ NotIn lo hi vr ∧ NotIn lo hi vt
theorem cell_set {w : World} {a : Addr} {u v : Value} (h : w.cell? a = some v) : (w.setCell a u).cell? a = some u := by
 have hs := spotN h
 obtain ⟨b, o, sp⟩ := a
 simp only at hs
 subst hs
 simp [go_sem, h]
theorem cell_off {w : World} {b i j : Nat} {u : Value} (h : i ≠ j) : (w.setCell ⟨b, j, none⟩ u).cell? ⟨b, i, none⟩ = w.cell? ⟨b, i, none⟩ := by
 simp [go_sem]
section
variable {lo hi g : Nat} {w w' : World} {ds : List Dv}
theorem DvRow.below (h : DvRow lo hi g w ds) (hb : Below w.heap.size w w') : DvRow lo hi g w' ds := fun k d hk => by
 obtain ⟨vb, vr, vt, ⟨c0, c1, c2, c3, c4, c5, c6⟩, ⟨s1, s2, s3⟩, n1, n2, n3⟩ := h k d hk
 have C := fun {o : Nat} {v : Value} (hc : w.cell? ⟨g, o, none⟩ = some v) => (CK.of_below hb).cell hc
 exact ⟨vb, vr, vt, ⟨C c0, C c1, C c2, C c3, C c4, C c5, C c6⟩, ⟨SlAt.mono (SlAt.below s1 hb (fun _ _ _ h => h)) hb.size (fun _ _ _ h => h), SlAt.mono (SlAt.below s2 hb (fun _ _ _ h => h)) hb.size (fun _ _ _ h => h), SlAt.mono (SlAt.below s3 hb (fun _ _ _ h => h)) hb.size (fun _ _ _ h => h)⟩, n1, n2, n3⟩
theorem DvRow.other (h : DvRow lo hi g w ds) {k j : Nat} {u : Value} (hne : g ≠ k) (h1 : lo <= k) (h2 : k < hi) : DvRow lo hi g (w.setCell ⟨k, j, none⟩ u) ds := fun i d hi' => by
 obtain ⟨vb, vr, vt, ⟨c0, c1, c2, c3, c4, c5, c6⟩, ⟨s1, s2, s3⟩, n1, n2, n3⟩ := h i d hi'
 have C := fun {o : Nat} {v : Value} (hc : w.cell? ⟨g, o, none⟩ = some v) => (cell_of_blockC (o := o) (Below.heap_setCell w ⟨k, j, none⟩ u g hne)).trans hc
 have sz : (w.setCell ⟨k, j, none⟩ u).heap.size = w.heap.size := by simp [World.setCell]
 rw [sz]
 exact ⟨vb, vr, vt, ⟨C c0, C c1, C c2, C c3, C c4, C c5, C c6⟩, ⟨s1.setB (n1.b h1 h2), s2.setB (n2.b h1 h2), s3.setB (n3.b h1 h2)⟩, n1, n2, n3⟩
theorem DvRow.set4 (h : DvRow lo hi g w ds) {k : Nat} {d : Dv} {u : Value} (hk : ds[k]? = some d) (hs : SlAt w.heap.size w 1 IsI u d.backs) (hn : NotIn lo hi u) (h1 : lo <= g) (h2 : g < hi) : DvRow lo hi g (w.setCell ⟨g, k * 7 + 4, none⟩ u) ds := fun i d' hi' => by
 have sz : (w.setCell ⟨g, k * 7 + 4, none⟩ u).heap.size = w.heap.size := by simp [World.setCell]
 rw [sz]
 by_cases e : i = k
 ·subst e
  rw [hk] at hi'
  obtain rfl := Option.some.inj hi'
  obtain ⟨vb, vr, vt, ⟨c0, c1, c2, c3, c4, c5, c6⟩, ⟨s1, s2, s3⟩, n1, n2, n3⟩ := h i d hk
  exact ⟨u, vr, vt, ⟨(cell_off (by omega)).trans c0, (cell_off (by omega)).trans c1, (cell_off (by omega)).trans c2, (cell_off (by omega)).trans c3, (cell_set c4), (cell_off (by omega)).trans c5, (cell_off (by omega)).trans c6⟩, ⟨hs.setB (hn.b h1 h2), s2.setB (n2.b h1 h2), s3.setB (n3.b h1 h2)⟩, hn, n2, n3⟩
 ·obtain ⟨vb, vr, vt, ⟨e0, e1, e2, e3, e4, e5, e6⟩, ⟨s1, s2, s3⟩, n1, n2, n3⟩ := h i d' hi'
  exact ⟨vb, vr, vt, ⟨(cell_off (by omega)).trans e0, (cell_off (by omega)).trans e1, (cell_off (by omega)).trans e2, (cell_off (by omega)).trans e3, (cell_off (by omega)).trans e4, (cell_off (by omega)).trans e5, (cell_off (by omega)).trans e6⟩, ⟨s1.setB (n1.b h1 h2), s2.setB (n2.b h1 h2), s3.setB (n3.b h1 h2)⟩, n1, n2, n3⟩
theorem DvRow.set5 (h : DvRow lo hi g w ds) {k : Nat} {d : Dv} {u : Value} (hk : ds[k]? = some d) (hs : SlAt w.heap.size w 5 IsRule u d.rules) (hn : NotIn lo hi u) (h1 : lo <= g) (h2 : g < hi) : DvRow lo hi g (w.setCell ⟨g, k * 7 + 5, none⟩ u) ds := fun i d' hi' => by
 have sz : (w.setCell ⟨g, k * 7 + 5, none⟩ u).heap.size = w.heap.size := by simp [World.setCell]
 rw [sz]
 by_cases e : i = k
 ·subst e
  rw [hk] at hi'
  obtain rfl := Option.some.inj hi'
  obtain ⟨vb, vr, vt, ⟨c0, c1, c2, c3, c4, c5, c6⟩, ⟨s1, s2, s3⟩, n1, n2, n3⟩ := h i d hk
  exact ⟨vb, u, vt, ⟨(cell_off (by omega)).trans c0, (cell_off (by omega)).trans c1, (cell_off (by omega)).trans c2, (cell_off (by omega)).trans c3, (cell_off (by omega)).trans c4, (cell_set c5), (cell_off (by omega)).trans c6⟩, ⟨s1.setB (n1.b h1 h2), hs.setB (hn.b h1 h2), s3.setB (n3.b h1 h2)⟩, n1, hn, n3⟩
 ·obtain ⟨vb, vr, vt, ⟨e0, e1, e2, e3, e4, e5, e6⟩, ⟨s1, s2, s3⟩, n1, n2, n3⟩ := h i d' hi'
  exact ⟨vb, vr, vt, ⟨(cell_off (by omega)).trans e0, (cell_off (by omega)).trans e1, (cell_off (by omega)).trans e2, (cell_off (by omega)).trans e3, (cell_off (by omega)).trans e4, (cell_off (by omega)).trans e5, (cell_off (by omega)).trans e6⟩, ⟨s1.setB (n1.b h1 h2), s2.setB (n2.b h1 h2), s3.setB (n3.b h1 h2)⟩, n1, n2, n3⟩
theorem DvRow.set6 (h : DvRow lo hi g w ds) {k : Nat} {d : Dv} {u : Value} (hk : ds[k]? = some d) (hs : SlAt w.heap.size w 3 IsRoute u d.routes) (hn : NotIn lo hi u) (h1 : lo <= g) (h2 : g < hi) : DvRow lo hi g (w.setCell ⟨g, k * 7 + 6, none⟩ u) ds := fun i d' hi' => by
 have sz : (w.setCell ⟨g, k * 7 + 6, none⟩ u).heap.size = w.heap.size := by simp [World.setCell]
 rw [sz]
 by_cases e : i = k
 ·subst e
  rw [hk] at hi'
  obtain rfl := Option.some.inj hi'
  obtain ⟨vb, vr, vt, ⟨c0, c1, c2, c3, c4, c5, c6⟩, ⟨s1, s2, s3⟩, n1, n2, n3⟩ := h i d hk
  exact ⟨vb, vr, u, ⟨(cell_off (by omega)).trans c0, (cell_off (by omega)).trans c1, (cell_off (by omega)).trans c2, (cell_off (by omega)).trans c3, (cell_off (by omega)).trans c4, (cell_off (by omega)).trans c5, (cell_set c6)⟩, ⟨s1.setB (n1.b h1 h2), s2.setB (n2.b h1 h2), hs.setB (hn.b h1 h2)⟩, n1, n2, hn⟩
 ·obtain ⟨vb, vr, vt, ⟨e0, e1, e2, e3, e4, e5, e6⟩, ⟨s1, s2, s3⟩, n1, n2, n3⟩ := h i d' hi'
  exact ⟨vb, vr, vt, ⟨(cell_off (by omega)).trans e0, (cell_off (by omega)).trans e1, (cell_off (by omega)).trans e2, (cell_off (by omega)).trans e3, (cell_off (by omega)).trans e4, (cell_off (by omega)).trans e5, (cell_off (by omega)).trans e6⟩, ⟨s1.setB (n1.b h1 h2), s2.setB (n2.b h1 h2), s3.setB (n3.b h1 h2)⟩, n1, n2, n3⟩
end
theorem DvRow.devs {lo hi g : Nat} {w : World} {ds : List Dv} {cap : Nat} (h : DvRow lo hi g w ds) (hg : g < w.heap.size) (h1 : ds.length <= cap) (h2 : cap <= maxLen) : Devs w.heap.size w (.slice (some ⟨g, 0, none⟩) ds.length cap) ds := by
 refine ⟨_, cap, rfl, (fun e => by cases e), h1, h2, fun _ => ⟨g, 0, rfl, hg, fun k d hk => ?_⟩⟩
 obtain ⟨vb, vr, vt, ⟨c0, c1, c2, c3, c4, c5, c6⟩, ⟨s1, s2, s3⟩, _⟩ := h k d hk
 refine ⟨[.string d.name, .int .i64 d.kind, .int .i64 d.addr, .int .u8 (d.pool : Int), vb, vr, vt], rfl, ⟨vb, vr, vt, rfl, s1, s2, s3⟩, fun j u hj => ?_⟩
 rw [Nat.zero_add]
 match j, hj with
 | 0, hj => obtain rfl := Option.some.inj hj; exact c0
 | 1, hj => obtain rfl := Option.some.inj hj; exact c1
 | 2, hj => obtain rfl := Option.some.inj hj; exact c2
 | 3, hj => obtain rfl := Option.some.inj hj; exact c3
 | 4, hj => obtain rfl := Option.some.inj hj; exact c4
 | 5, hj => obtain rfl := Option.some.inj hj; exact c5
 | 6, hj => obtain rfl := Option.some.inj hj; exact c6
def IsB (w : World) (g : Nat) : Prop := ∃ cs t, Bk w g cs t
theorem IsB.below {w w' : World} {g : Nat} (h : IsB w g) (hb : Below w.heap.size w w') : IsB w' g := by
 obtain ⟨cs, t, h⟩ := h
 exact ⟨cs, t, h.keep hb⟩
theorem IsB.set {w : World} {g k j : Nat} {u : Value} (h : IsB w g) : IsB (w.setCell ⟨k, j, none⟩ u) g := by
 obtain ⟨cs, t, h⟩ := h
 by_cases e : g = k
 ·subst e
  exact ⟨_, t, h.setS u⟩
 ·exact ⟨cs, t, h.setO e u⟩
theorem IsB.fz {w : World} {g : Nat} (h : IsB w g) (o : Nat) : w.frozen? ⟨g, o, none⟩ = false := by
 obtain ⟨cs, t, h⟩ := h
 exact h.fz o
def Fresh (lo : Nat) (w : World) (A : Option Addr) (cap : Nat) (w0 : World) (ds : List Dv) : Prop :=
 (A = none -> cap = 0) ∧ ds.length <= cap ∧ cap <= maxLen ∧ (ds.length ≠ 0 -> ∃ g, A = some ⟨g, 0, none⟩ ∧ lo <= g ∧ g < w.heap.size ∧ IsB w g ∧ ∀ k d, ds[k]? = some d -> ∃ vb vr vt, (w.cell? ⟨g, k * 7, none⟩ = some (.string d.name) ∧ w.cell? ⟨g, k * 7 + 1, none⟩ = some (.int .i64 d.kind) ∧ w.cell? ⟨g, k * 7 + 2, none⟩ = some (.int .i64 d.addr) ∧ w.cell? ⟨g, k * 7 + 3, none⟩ = some (.int .u8 (d.pool : Int)) ∧ w.cell? ⟨g, k * 7 + 4, none⟩ = some vb ∧ w.cell? ⟨g, k * 7 + 5, none⟩ = some vr ∧ w.cell? ⟨g, k * 7 + 6, none⟩ = some vt) ∧ (SlAt w0.heap.size w0 1 IsI vb d.backs ∧ SlAt w0.heap.size w0 5 IsRule vr d.rules ∧ SlAt w0.heap.size w0 3 IsRoute vt d.routes))
theorem Fresh.below {lo : Nat} {w w' w0 : World} {A : Option Addr} {cap : Nat} {ds : List Dv} (h : Fresh lo w A cap w0 ds) (hb : Below w.heap.size w w') : Fresh lo w' A cap w0 ds := by
 obtain ⟨h0, h1, h2, h3⟩ := h
 refine ⟨h0, h1, h2, fun hn => ?_⟩
 obtain ⟨g, e, hl, hg, hB, hr⟩ := h3 hn
 refine ⟨g, e, hl, Nat.lt_of_lt_of_le hg hb.size, hB.below hb, fun k d hk => ?_⟩
 obtain ⟨vb, vr, vt, ⟨c0, c1, c2, c3, c4, c5, c6⟩, s⟩ := hr k d hk
 have C := fun {o : Nat} {v : Value} (hc : w.cell? ⟨g, o, none⟩ = some v) => (CK.of_below hb).cell hc
 exact ⟨vb, vr, vt, ⟨C c0, C c1, C c2, C c3, C c4, C c5, C c6⟩, s⟩
theorem Fresh.set {lo k j : Nat} {w w0 : World} {A : Option Addr} {cap : Nat} {ds : List Dv} {u : Value} (h : Fresh lo w A cap w0 ds) (hne : ∀ g', A = some ⟨g', 0, none⟩ -> ds.length ≠ 0 -> g' ≠ k) : Fresh lo (w.setCell ⟨k, j, none⟩ u) A cap w0 ds := by
 obtain ⟨h0, h1, h2, h3⟩ := h
 refine ⟨h0, h1, h2, fun hn => ?_⟩
 obtain ⟨g, e, hl, hg, hB, hr⟩ := h3 hn
 have hgk := hne g e hn
 refine ⟨g, e, hl, by simpa [World.setCell] using hg, hB.set, fun k' d hk => ?_⟩
 obtain ⟨vb, vr, vt, ⟨c0, c1, c2, c3, c4, c5, c6⟩, s⟩ := hr k' d hk
 have C := fun {o : Nat} {v : Value} (hc : w.cell? ⟨g, o, none⟩ = some v) => (cell_of_blockC (o := o) (Below.heap_setCell w ⟨k, j, none⟩ u g hgk)).trans hc
 exact ⟨vb, vr, vt, ⟨C c0, C c1, C c2, C c3, C c4, C c5, C c6⟩, s⟩
theorem Fresh.lo {lo lo' : Nat} {w w0 : World} {A : Option Addr} {cap : Nat} {ds : List Dv} (h : Fresh lo w A cap w0 ds) (hl : lo' <= lo) : Fresh lo' w A cap w0 ds := by
 obtain ⟨h0, h1, h2, h3⟩ := h
 refine ⟨h0, h1, h2, fun hn => ?_⟩
 obtain ⟨g, e, hg, r⟩ := h3 hn
 exact ⟨g, e, by omega, r⟩
theorem Fresh.lt {lo : Nat} {w w0 : World} {A : Option Addr} {cap : Nat} {ds : List Dv} (h : Fresh lo w A cap w0 ds) {g' : Nat} (e : A = some ⟨g', 0, none⟩) (hn : ds.length ≠ 0) : lo <= g' ∧ g' < w.heap.size := by
 obtain ⟨g, e', h1, h2, _⟩ := h.2.2.2 hn
 rw [e] at e'
 cases e'
 exact ⟨h1, h2⟩
theorem Fresh.row {lo hi : Nat} {w w0 : World} {A : Option Addr} {cap : Nat} {ds : List Dv} (h : Fresh lo w A cap w0 ds) (hb : Below w0.heap.size w0 w) (hn : ds.length ≠ 0) : ∃ g, A = some ⟨g, 0, none⟩ ∧ lo <= g ∧ g < w.heap.size ∧ IsB w g ∧ DvRow w0.heap.size hi g w ds := by
 obtain ⟨g, e, hl, hg, hB, hr⟩ := h.2.2.2 hn
 refine ⟨g, e, hl, hg, hB, fun k d hk => ?_⟩
 obtain ⟨vb, vr, vt, c, ⟨s1, s2, s3⟩⟩ := hr k d hk
 exact ⟨vb, vr, vt, c, ⟨SlAt.mono (SlAt.below s1 hb (fun _ _ _ h => h)) hb.size (fun _ _ _ h => h), SlAt.mono (SlAt.below s2 hb (fun _ _ _ h => h)) hb.size (fun _ _ _ h => h), SlAt.mono (SlAt.below s3 hb (fun _ _ _ h => h)) hb.size (fun _ _ _ h => h)⟩, s1.notIn, s2.notIn, s3.notIn⟩
theorem clone_fresh {v : Value} {ds : List Dv} {w0 : World} (W : World) (h : Devs w0.heap.size w0 v ds) (hb : Below w0.heap.size w0 W) (hs : ds.length <= 1048576) :
  Calls Tryz.prog 44 #[v] W fun e w' => ∃ A cap, e = .returned (.slice A ds.length cap) ∧ Fresh W.heap.size w' A cap w0 ds ∧ Below W.heap.size W w' := by
 obtain ⟨cs, hr, hf⟩ := SlAt.row h (fun cs x hx => oneDv cs x hx)
 have hr' : RowAt W.heap.size W v ds.length 7 cs := by
  obtain ⟨A, cap, e, h0, h1, h2, hl, ho, h3⟩ := hr
  refine ⟨A, cap, e, h0, h1, h2, hl, ho, fun hn => ?_⟩
  obtain ⟨b, o, ea, hlt, hc⟩ := h3 hn
  exact ⟨b, o, ea, Nat.lt_of_lt_of_le hlt hb.size, fun j u hj => (hb.cell (p := ⟨b, o + j, none⟩) hlt).trans (hc j u hj)⟩
 refine (clone_devs W hr' hs).mono fun e w' ⟨v', he, how, hbw⟩ => ?_
 have hs' := SlAt.own (R := fun cs d => ∃ w1 : World, w1 = w0 ∧ IsDv w0.heap.size w1 cs d) how (fun k x hx => ⟨w0, rfl, hf k x hx⟩)
 obtain ⟨A, cap, rfl, h0, h1, h2, h3⟩ := hs'
 refine ⟨A, cap, he, ⟨h0, h1, h2, fun hn => ?_⟩, hbw⟩
 obtain ⟨b, o, ea, hlt, hc⟩ := h3 (fun e0 => hn (by rw [e0]; rfl))
 rcases how.2 with ⟨hv, _⟩ | ⟨g, cap', cur, hv, hg, hcur, _⟩
 ·rw [ea] at hv
  cases hv
 ·rw [ea] at hv
  simp only [Value.slice.injEq, Option.some.injEq, Addr.mk.injEq, and_true, true_and] at hv
  obtain ⟨⟨rfl, rfl⟩, _⟩ := hv
  refine ⟨b, ea, hg, hlt, ⟨_, _, hcur⟩, fun k d hk => ?_⟩
  obtain ⟨c, _, ⟨w1, rfl, vb, vr, vt, rfl, s1, s2, s3⟩, hcc⟩ := hc k d hk
  simp only [Nat.zero_add] at hcc
  exact ⟨vb, vr, vt, ⟨hcc 0 _ rfl, hcc 1 _ rfl, hcc 2 _ rfl, hcc 3 _ rfl, hcc 4 _ rfl, hcc 5 _ rfl, hcc 6 _ rfl⟩, ⟨s1, s2, s3⟩⟩
theorem copy_ints {v : Value} {xs : List Int} (W : World) (h : SlAt W.heap.size W 1 IsI v xs) (hs : xs.length <= 1048576) :
  Calls Tryz.prog 46 #[v] W fun e w' => ∃ A cap, e = .returned (.slice A xs.length cap) ∧ SlAt w'.heap.size w' 1 IsI (.slice A xs.length cap) xs ∧ (∀ lo hi, hi <= W.heap.size -> NotIn lo hi (.slice A xs.length cap)) ∧ Below W.heap.size W w' := by
 obtain ⟨cs, hr, hf⟩ := SlAt.row h (fun cs x hx => oneI cs x hx)
 refine (clone_ints W hr hs).mono fun e w' ⟨v', he, how, hbw⟩ => ?_
 have hs' := SlAt.own (R := IsI) how hf
 obtain ⟨A, cap, rfl, h0⟩ := id hs'
 exact ⟨A, cap, he, hs', fun lo hi hh => own_notIn how hh, hbw⟩
theorem copy_rules {v : Value} {xs : List NRule} (W : World) (h : SlAt W.heap.size W 5 IsRule v xs) (hs : xs.length <= 1048576) :
  Calls Tryz.prog 47 #[v] W fun e w' => ∃ A cap, e = .returned (.slice A xs.length cap) ∧ SlAt w'.heap.size w' 5 IsRule (.slice A xs.length cap) xs ∧ (∀ lo hi, hi <= W.heap.size -> NotIn lo hi (.slice A xs.length cap)) ∧ Below W.heap.size W w' := by
 obtain ⟨cs, hr, hf⟩ := SlAt.row h (fun cs x hx => oneRule cs x hx)
 refine (clone_rules W hr hs).mono fun e w' ⟨v', he, how, hbw⟩ => ?_
 have hs' := SlAt.own (R := IsRule) how hf
 obtain ⟨A, cap, rfl, h0⟩ := id hs'
 exact ⟨A, cap, he, hs', fun lo hi hh => own_notIn how hh, hbw⟩
theorem copy_routes {v : Value} {xs : List NRoute} (W : World) (h : SlAt W.heap.size W 3 IsRoute v xs) (hs : xs.length <= 1048576) :
  Calls Tryz.prog 48 #[v] W fun e w' => ∃ A cap, e = .returned (.slice A xs.length cap) ∧ SlAt w'.heap.size w' 3 IsRoute (.slice A xs.length cap) xs ∧ (∀ lo hi, hi <= W.heap.size -> NotIn lo hi (.slice A xs.length cap)) ∧ Below W.heap.size W w' := by
 obtain ⟨cs, hr, hf⟩ := SlAt.row h (fun cs x hx => oneRoute cs x hx)
 refine (clone_routes W hr hs).mono fun e w' ⟨v', he, how, hbw⟩ => ?_
 have hs' := SlAt.own (R := IsRoute) how hf
 obtain ⟨A, cap, rfl, h0⟩ := id hs'
 exact ⟨A, cap, he, hs', fun lo hi hh => own_notIn how hh, hbw⟩
theorem copy_links {v : Value} {xs : List Lk} (W : World) (h : SlAt W.heap.size W 4 IsLk v xs) (hs : xs.length <= 1048576) :
  Calls Tryz.prog 45 #[v] W fun e w' => ∃ A cap, e = .returned (.slice A xs.length cap) ∧ SlAt w'.heap.size w' 4 IsLk (.slice A xs.length cap) xs ∧ (∀ lo hi, hi <= W.heap.size -> NotIn lo hi (.slice A xs.length cap)) ∧ Below W.heap.size W w' := by
 obtain ⟨cs, hr, hf⟩ := SlAt.row h (fun cs x hx => oneLk cs x hx)
 refine (clone_links W hr hs).mono fun e w' ⟨v', he, how, hbw⟩ => ?_
 have hs' := SlAt.own (R := IsLk) how hf
 obtain ⟨A, cap, rfl, h0⟩ := id hs'
 exact ⟨A, cap, he, hs', fun lo hi hh => own_notIn how hh, hbw⟩
structure Small (ds : List Dv) (ls : List Lk) : Prop where
 nd : ds.length <= 1048576
 nl : ls.length <= 1048576
 backs : ∀ d ∈ ds, d.backs.length <= 1048576
 rules : ∀ d ∈ ds, d.rules.length <= 1048576
 routes : ∀ d ∈ ds, d.routes.length <= 1048576
def CopyOut (w : World) (ds : List Dv) (ls : List Lk) (e : Ending) (w' : World) : Prop :=
 ∃ A cap B cap', e = .returned (.agg #[.slice A ds.length cap, .slice B ls.length cap']) ∧ Devs w'.heap.size w' (.slice A ds.length cap) ds ∧ Links w'.heap.size w' (.slice B ls.length cap') ls ∧ Below w.heap.size w w'
theorem NotB.of {k : Nat} {v : Value} (h : ∀ lo hi, hi <= k + 1 -> NotIn lo hi v) : NotB k v := (h 0 (k + 1) (Nat.le_refl _)).b (Nat.zero_le _) (Nat.lt_succ_self _)
theorem copy_any (A B : Option Addr) (cap cap' : Nat) (ds : List Dv) (ls : List Lk) (w : World) (hD : Hid (Devs w.heap.size w (.slice A ds.length cap) ds)) (hL : Hid (Links w.heap.size w (.slice B ls.length cap') ls)) (hS : Hid (Small ds ls)) :
  Calls Tryz.prog 24 #[.agg #[.slice A ds.length cap, .slice B ls.length cap']] w (CopyOut w ds ls) := by
 have hsz := hS.out.nd
 have CD : Hid (∀ W, Below w.heap.size w W -> Calls Tryz.prog 44 #[.slice A ds.length cap] W fun e w' => ∃ A cap, e = .returned (.slice A ds.length cap) ∧ Fresh W.heap.size w' A cap w ds ∧ Below W.heap.size W w') := fun W h => clone_fresh W hD.out h hS.out.nd
 have CL : Hid (∀ W, Below w.heap.size w W -> Calls Tryz.prog 45 #[.slice B ls.length cap'] W fun e w' => ∃ A cap, e = .returned (.slice A ls.length cap) ∧ SlAt w'.heap.size w' 4 IsLk (.slice A ls.length cap) ls ∧ (∀ lo hi, hi <= W.heap.size -> NotIn lo hi (.slice A ls.length cap)) ∧ Below W.heap.size W w') := fun W h => copy_links W ((hL.out.below h).mono h.size) hS.out.nl
 have D2 := Below.alN (Below.alN (Below.refl w.heap.size w) (.cells #[.slice A ds.length cap, .slice B ls.length cap'] 25)) (.cells #[.slice none 0 0, .slice none 0 0] 25)
 have N2 := (bk_new w #[.slice A ds.length cap, .slice B ls.length cap'] 25).alloc (.cells #[.slice none 0 0, .slice none 0 0] 25)
 have R2 := bk_new' (w.alloc (.cells #[.slice A ds.length cap, .slice B ls.length cap'] 25)) #[.slice none 0 0, .slice none 0 0] 25 (w.heap.size + 1) (by simp)
 have S2 := N2.two
 have D2d := D2.drew
 have N2d := N2.drew
 have R2d := R2.drew
 have D2a := (Below.alN D2 (.cells #[.slice none 0 0, .slice none 0 0] 25)).drew
 have N2a := (N2.alloc (.cells #[.slice none 0 0, .slice none 0 0] 25)).drew
 have R2a := (R2.alloc (.cells #[.slice none 0 0, .slice none 0 0] 25)).drew
 have G2a := (bk_new' ((w.alloc (.cells #[.slice A ds.length cap, .slice B ls.length cap'] 25)).alloc (.cells #[.slice none 0 0, .slice none 0 0] 25)) #[.slice none 0 0, .slice none 0 0] 25 (w.heap.size + 1 + 1) (by simp)).drew
 clear hD hL
 obtain ⟨n0, n1⟩ := S2
 go_enter Tryz.func24, Tryz.ntmps24
 go_wp2_with fail
 go_cut [3] (fun v3 wx => ∃ g A1 c1 B1 c2, v3 = .pointer (some ⟨g, 0, none⟩) ∧ Bk wx g #[.slice A1 ds.length c1, .slice B1 ls.length c2] 25 ∧ w.heap.size + 1 < g ∧ Fresh (w.heap.size + 1 + 1) wx A1 c1 w ds ∧ (∀ g', A1 = some ⟨g', 0, none⟩ -> ds.length ≠ 0 -> g' ≠ g) ∧ SlAt wx.heap.size wx 4 IsLk (.slice B1 ls.length c2) ls ∧ NotB g (.slice B1 ls.length c2) ∧ NotB (w.heap.size + 1) (.slice B1 ls.length c2) ∧ (∀ g', A1 = some ⟨g', 0, none⟩ -> ds.length ≠ 0 -> NotB g' (.slice B1 ls.length c2)) ∧ Bk wx (w.heap.size + 1) #[.slice none 0 0, .slice none 0 0] 25 ∧ Below w.heap.size w wx)
 case first =>
  go_region_held3 (fun w' => w'.cell? ⟨w.heap.size, 0, none⟩ = some (.slice A ds.length cap) ∧ w'.cell? ⟨w.heap.size, 1, none⟩ = some (.slice B ls.length cap')) (first | exact Bk.two (by first | assumption | exact Bk.alloc (by assumption) _) | exact Bk.two ((N6.setO (by omega) _).setO (by omega) _)) (first | (go_at_call 44; refine (CD.out _ D2d).mono ?_; rintro e w5 ⟨A1, c1, rfl, F5, hb5⟩; have D5 := chnN hb5 D2d; have N5 := N2d.keep hb5; have R5 := R2d.keep hb5; have z5 := R5.lt; have F5l := F5.lo (lo' := w.heap.size + 1 + 1) (by simp)) | (go_at_call 44; refine (CD.out _ D2a).mono ?_; rintro e w5 ⟨A1, c1, rfl, F5, hb5⟩; have D5 := chnN hb5 D2a; have N5 := N2a.keep hb5; have R5 := R2a.keep hb5; have G5 := G2a.keep hb5; have z5 := G5.lt; have F5l := F5.lo (lo' := w.heap.size + 1 + 1 + 1) (by simp)) | (go_at_call 45; refine (CL.out _ D5).mono ?_; rintro e w6 ⟨B1, c2, rfl, K6, Z6, hb6⟩; have D6 := chnN hb6 D5; have N6 := N5.keep hb6; have R6 := R5.keep hb6; have F6 := F5l.below hb6; have G6 := G5.keep hb6; have gf0 := G6.fz 0; have gf1 := G6.fz 1; obtain ⟨gg0, gg1⟩ := G6.two) | (go_at_call 45; refine (CL.out _ D5).mono ?_; rintro e w6 ⟨B1, c2, rfl, K6, Z6, hb6⟩; have D6 := chnN hb6 D5; have N6 := N5.keep hb6; have R6 := R5.keep hb6; have F6 := F5l.below hb6) | (go_at_call 45; refine (CL.out _ (Below.alN D5 (.cells #[.slice none 0 0, .slice none 0 0] 25))).mono ?_; rintro e w6 ⟨B1, c2, rfl, K6, Z6, hb6⟩; have D6 := chnN hb6 (Below.alN D5 (.cells #[.slice none 0 0, .slice none 0 0] 25)); have N6 := (N5.alloc (.cells #[.slice none 0 0, .slice none 0 0] 25)).keep hb6; have R6 := (R5.alloc (.cells #[.slice none 0 0, .slice none 0 0] 25)).keep hb6; have F6 := (F5l.below ((Below.refl _ _).alloc (Nat.le_refl _) (.cells #[.slice none 0 0, .slice none 0 0] 25))).below hb6; have G6 := (bk_new w5 #[.slice none 0 0, .slice none 0 0] 25).keep hb6; have gf0 := G6.fz 0; have gf1 := G6.fz 1; obtain ⟨gg0, gg1⟩ := G6.two))
  all_goals
   go_wp2_with fail
   go_meet
   have y6 := hb6.size
   first
    | exact ⟨_, _, _, _, _, rfl, bk_new w6 _ _, (by omega), F6.below ((Below.refl _ _).alloc (Nat.le_refl _) _), (fun g' e hn => by have := F6.lt e hn; omega), SlAt.mono (SlAt.below K6 ((Below.refl _ w6).alloc (Nat.le_refl _) _) (fun _ _ _ h => h)) (by simp) (fun _ _ _ h => h), (fun b o n c e hn => by have := (Z6 0 w5.heap.size (by simp) b o n c e hn); have q := SlAt.notIn (hi := w6.heap.size + 1) K6 b o n c e hn; omega), NotB.of (fun lo hi h => Z6 lo hi (by omega)), (fun g' e hn => NotB.of (fun lo hi h => Z6 lo hi (by have := F5l.lt e hn; omega))), R6.alloc _, Below.alN D6 _⟩
    | ((try simp only [World.size_alloc] at y6 Z6)
       exact ⟨_, _, _, _, _, rfl, (by have := (G6.setS (j := 0) (.slice A1 ds.length c1)).setS (j := 1) (.slice B1 ls.length c2); simpa using this), (by omega), ((F6.set (fun g' e hn => by have := F5l.lt e hn; omega)).set (fun g' e hn => by have := F5l.lt e hn; omega)).lo (by omega), (fun g' e hn => by have := F5l.lt e hn; omega), (by have := (K6.setB (k := w.heap.size + 1 + 1) (j := 0) (u := .slice A1 ds.length c1) (NotB.of (fun lo hi h => Z6 lo hi (by omega)))).setB (k := w.heap.size + 1 + 1) (j := 1) (u := .slice B1 ls.length c2) (NotB.of (fun lo hi h => Z6 lo hi (by omega))); simpa [World.setCell] using this), NotB.of (fun lo hi h => Z6 lo hi (by omega)), NotB.of (fun lo hi h => Z6 lo hi (by omega)), (fun g' e hn => NotB.of (fun lo hi h => Z6 lo hi (by have := F5l.lt e hn; omega))), (R6.setO (by omega) _).setO (by omega) _, (D6.setCell (by simp; omega) _).setCell (by simp; omega) _⟩)
    | ((try simp only [World.size_alloc] at y6 Z6)
       exact ⟨_, _, _, _, _, rfl, (by have := (G6.setS (j := 0) (.slice A1 ds.length c1)).setS (j := 1) (.slice B1 ls.length c2); simpa using this), (by omega), ((F6.set (fun g' e hn => by have := F5l.lt e hn; omega)).set (fun g' e hn => by have := F5l.lt e hn; omega)).lo (by omega), (fun g' e hn => by have := F5l.lt e hn; omega), (by have := (K6.setB (k := w5.heap.size) (j := 0) (u := .slice A1 ds.length c1) (NotB.of (fun lo hi h => Z6 lo hi (by omega)))).setB (k := w5.heap.size) (j := 1) (u := .slice B1 ls.length c2) (NotB.of (fun lo hi h => Z6 lo hi (by omega))); simpa [World.setCell] using this), NotB.of (fun lo hi h => Z6 lo hi (by omega)), NotB.of (fun lo hi h => Z6 lo hi (by omega)), (fun g' e hn => NotB.of (fun lo hi h => Z6 lo hi (by have := F5l.lt e hn; omega))), (R6.setO (by omega) _).setO (by omega) _, (D6.setCell (by simp; omega) _).setCell (by simp; omega) _⟩)
 case rest =>
  clear D2 N2 R2 D2d N2d R2d D2a N2a R2a G2a n0 n1 CD CL
  obtain ⟨g, A1, c1, B1, c2, rfl, G4, zg, F4, hgg, K4, nb1, nb2, nb3, R4, D4⟩ := hcut
  by_cases hn : ds.length = 0
  ·have hds : ds = [] := List.length_eq_zero_iff.1 hn
   obtain ⟨f0, f1, f2, _⟩ := F4
   subst hds
   clear hgg nb3 hn
   simp only [List.length_nil] at *
   obtain ⟨x0, x1⟩ := G4.two
   go_wp2_with fail
   go_loopw [16] (fun i wr => i = .int .i64 0 ∧ Below w.heap.size w wr ∧ Bk wr g #[.slice A1 0 c1, .slice B1 ls.length c2] 25 ∧ Bk wr (w.heap.size + 1) #[.slice none 0 0, .slice none 0 0] 25 ∧ SlAt wr.heap.size wr 4 IsLk (.slice B1 ls.length c2) ls) (fun i _ => 0)
   case atStart => exact ⟨rfl, D4, G4, R4, K4⟩
   case round =>
    clear D4 G4 R4 K4 x0 x1
    obtain ⟨rfl, D4, G4, R4, K4⟩ := hrel
    obtain ⟨x0, x1⟩ := G4.two
    obtain ⟨r0, r1⟩ := R4.two
    have rf0 := R4.fz 0
    have rf1 := R4.fz 1
    go_wp2_with fail
    refine bodyPost_ret (v := .agg #[.slice A1 0 c1, .slice B1 ls.length c2]) (by simp [results, Tryz.results24, go_sem, r0, r1]) rfl ⟨A1, c1, B1, c2, rfl, ⟨A1, c1, rfl, f0, f1, f2, fun h => absurd rfl h⟩, ?_, ?_⟩
    ·have := (K4.setB (k := w.heap.size + 1) (j := 0) (u := .slice A1 0 c1) nb2).setB (k := w.heap.size + 1) (j := 1) (u := .slice B1 ls.length c2) nb2
     unfold Links
     simpa [World.setCell] using this
    ·exact (D4.setCell (by simp) _).setCell (by simp) _
  obtain ⟨f0, f1, f2, _⟩ := id F4
  obtain ⟨g', rfl, hl, hg', I4, V4⟩ := F4.row (hi := wc.heap.size) D4 hn
  have hgg := hgg g' rfl hn
  have nb3 := nb3 g' rfl hn
  have zR := R4.lt
  have hgHI : g' < wc.heap.size := hg'
  obtain ⟨x0, x1⟩ := G4.two
  generalize hHI : wc.heap.size = HI at *
  clear F4 hn
  unfold maxLen at f2
  go_wp2_with fail
  go_loopw [16] (fun i wr => ∃ k : Nat, i = .int .i64 (k : Int) ∧ k <= ds.length ∧ Below w.heap.size w wr ∧ Bk wr g #[.slice (some ⟨g', 0, none⟩) ds.length c1, .slice B1 ls.length c2] 25 ∧ Bk wr (w.heap.size + 1) #[.slice none 0 0, .slice none 0 0] 25 ∧ SlAt wr.heap.size wr 4 IsLk (.slice B1 ls.length c2) ls ∧ IsB wr g' ∧ DvRow w.heap.size HI g' wr ds ∧ g' < wr.heap.size ∧ HI <= wr.heap.size) (fun i _ => ds.length - (intOf i).toNat)
  case atStart => exact ⟨0, rfl, by omega, D4, G4, R4, by rw [hHI]; exact K4, I4, V4, by omega, by omega⟩
  case round =>
   clear D4 G4 R4 K4 I4 V4 x0 x1 hHI
   obtain ⟨k, rfl, hk, D1, G1, R1, K1, I1, V1, zg1, zh1⟩ := hrel
   obtain ⟨x0, x1⟩ := G1.two
   by_cases hlt : k < ds.length
   rotate_left
   ·obtain ⟨r0, r1⟩ := R1.two
    have rf0 := R1.fz 0
    have rf1 := R1.fz 1
    go_wp2_with fail
    refine bodyPost_ret (v := .agg #[.slice (some ⟨g', 0, none⟩) ds.length c1, .slice B1 ls.length c2]) (by simp [results, Tryz.results24, go_sem, r0, r1]) rfl ⟨_, c1, B1, c2, rfl, ?_, ?_, ?_⟩
    ·have := ((V1.other (k := w.heap.size + 1) (j := 0) (u := .slice (some ⟨g', 0, none⟩) ds.length c1) (by omega) (by omega) (by omega)).other (k := w.heap.size + 1) (j := 1) (u := .slice B1 ls.length c2) (by omega) (by omega) (by omega)).devs (cap := c1) (by simpa [World.setCell] using zg1) f1 (by unfold maxLen; omega)
     exact this
    ·have := (K1.setB (k := w.heap.size + 1) (j := 0) (u := .slice (some ⟨g', 0, none⟩) ds.length c1) nb2).setB (k := w.heap.size + 1) (j := 1) (u := .slice B1 ls.length c2) nb2
     unfold Links
     simpa [World.setCell] using this
    ·exact (D1.setCell (by simp) _).setCell (by simp) _
   obtain ⟨d, hxk⟩ : ∃ d, ds[k]? = some d := ⟨_, List.getElem?_eq_getElem hlt⟩
   have HX : Hid (ds[k]? = some d) := hxk
   have k1 : (0 : Int) <= (k : Int) := by omega
   have k2 : (k : Int) < (ds.length : Int) := by omega
   clear hxk
   obtain ⟨vb1, vr1, vt1, ⟨c0, c1', c2', c3, c4, c5, c6⟩, ⟨s1, s2, s3⟩, _, _, _⟩ := V1 k d HX.out
   obtain ⟨Ab, cb, rfl, _⟩ := id s1
   obtain ⟨Ar, cr, rfl, _⟩ := id s2
   obtain ⟨At, ct, rfl, _⟩ := id s3
   have CC : Hid (Calls Tryz.prog 46 #[.slice Ab d.backs.length cb] _ _) := copy_ints _ s1 (hS.out.backs d (List.mem_of_getElem? HX.out))
   have HL1 : Hid (d.backs.length = d.backs.length) := rfl
   clear s1 s2 s3
   go_wp2_with fail
   refine CC.out.mono ?_
   rintro e w20 ⟨A2, q2, rfl, S2, Z2, hb2⟩
   have yy2 := hb2.size
   have D20 := chnN hb2 D1
   have G20 := G1.keep hb2
   have R20 := R1.keep hb2
   have K20 := SlAt.mono (SlAt.below K1 hb2 (fun _ _ _ h => h)) hb2.size (fun _ _ _ h => h)
   have I20 := I1.below hb2
   have V20 := V1.below hb2
   have zg2 : g' < w20.heap.size := by omega
   have zh2 : HI <= w20.heap.size := by omega
   have V2 := V20.set4 HX.out S2 (Z2 _ _ zh1) (by omega) hgHI
   have D2 := D20.setCell (p := ⟨g', k * 7 + 4, none⟩) (by simp; omega) (.slice A2 d.backs.length q2)
   have G2 := G20.setO (b := g') (j := k * 7 + 4) (by omega) (.slice A2 d.backs.length q2)
   have R2 := R20.setO (b := g') (j := k * 7 + 4) (by omega) (.slice A2 d.backs.length q2)
   have K2 := K20.setB (k := g') (j := k * 7 + 4) (u := .slice A2 d.backs.length q2) nb3
   have I2 := I20.set (k := g') (j := k * 7 + 4) (u := .slice A2 d.backs.length q2)
   have fz2 := I20.fz (k * 7 + 4)
   obtain ⟨_, _, _, ⟨_, _, _, _, e4, e5, e6⟩, _⟩ := V20 k d HX.out
   have ee2 : ∃ v, w20.cell? ⟨g', k * 7 + 4, none⟩ = some v := ⟨_, e4⟩
   obtain ⟨ev2, ec2⟩ := ee2
   have sz2 : (w20.setCell ⟨g', k * 7 + 4, none⟩ (.slice A2 d.backs.length q2)).heap.size = w20.heap.size := by simp [World.setCell]
   rw [sz2.symm] at K2 zg2 zh2
   clear V1 D1 G1 R1 K1 I1 c0 c1' c2' c3 c4 c5 c6 e4 e5 e6 CC S2 Z2 hb2 V20 D20 G20 R20 K20 I20 HL1 zg1 zh1 yy2
   go_upto_region 7 with fail
   generalize hW2 : w20.setCell ⟨g', k * 7 + 4, none⟩ (.slice A2 d.backs.length q2) = w2 at *
   clear hW2 fz2 ec2 sz2
   obtain ⟨vb2, vr2, vt2, ⟨c0, c1', c2', c3, c4, c5, c6⟩, ⟨s1, s2, s3⟩, _, _, _⟩ := V2 k d HX.out
   obtain ⟨Ab, cb, rfl, _⟩ := id s1
   obtain ⟨Ar, cr, rfl, _⟩ := id s2
   obtain ⟨At, ct, rfl, _⟩ := id s3
   have CC : Hid (Calls Tryz.prog 47 #[.slice Ar d.rules.length cr] _ _) := copy_rules _ s2 (hS.out.rules d (List.mem_of_getElem? HX.out))
   have HL2 : Hid (d.rules.length = d.rules.length) := rfl
   clear s1 s2 s3
   go_wp2_with fail
   refine CC.out.mono ?_
   rintro e w30 ⟨A3, q3, rfl, S3, Z3, hb3⟩
   have yy3 := hb3.size
   have D30 := chnN hb3 D2
   have G30 := G2.keep hb3
   have R30 := R2.keep hb3
   have K30 := SlAt.mono (SlAt.below K2 hb3 (fun _ _ _ h => h)) hb3.size (fun _ _ _ h => h)
   have I30 := I2.below hb3
   have V30 := V2.below hb3
   have zg3 : g' < w30.heap.size := by omega
   have zh3 : HI <= w30.heap.size := by omega
   have V3 := V30.set5 HX.out S3 (Z3 _ _ zh2) (by omega) hgHI
   have D3 := D30.setCell (p := ⟨g', k * 7 + 5, none⟩) (by simp; omega) (.slice A3 d.rules.length q3)
   have G3 := G30.setO (b := g') (j := k * 7 + 5) (by omega) (.slice A3 d.rules.length q3)
   have R3 := R30.setO (b := g') (j := k * 7 + 5) (by omega) (.slice A3 d.rules.length q3)
   have K3 := K30.setB (k := g') (j := k * 7 + 5) (u := .slice A3 d.rules.length q3) nb3
   have I3 := I30.set (k := g') (j := k * 7 + 5) (u := .slice A3 d.rules.length q3)
   have fz3 := I30.fz (k * 7 + 5)
   obtain ⟨_, _, _, ⟨_, _, _, _, e4, e5, e6⟩, _⟩ := V30 k d HX.out
   have ee3 : ∃ v, w30.cell? ⟨g', k * 7 + 5, none⟩ = some v := ⟨_, e5⟩
   obtain ⟨ev3, ec3⟩ := ee3
   have sz3 : (w30.setCell ⟨g', k * 7 + 5, none⟩ (.slice A3 d.rules.length q3)).heap.size = w30.heap.size := by simp [World.setCell]
   rw [sz3.symm] at K3 zg3 zh3
   clear V2 D2 G2 R2 K2 I2 c0 c1' c2' c3 c4 c5 c6 e4 e5 e6 CC S3 Z3 hb3 V30 D30 G30 R30 K30 I30 HL2 zg2 zh2 yy3
   go_upto_region 8 with fail
   generalize hW3 : w30.setCell ⟨g', k * 7 + 5, none⟩ (.slice A3 d.rules.length q3) = w3 at *
   clear hW3 fz3 ec3 sz3
   obtain ⟨vb3, vr3, vt3, ⟨c0, c1', c2', c3, c4, c5, c6⟩, ⟨s1, s2, s3⟩, _, _, _⟩ := V3 k d HX.out
   obtain ⟨Ab, cb, rfl, _⟩ := id s1
   obtain ⟨Ar, cr, rfl, _⟩ := id s2
   obtain ⟨At, ct, rfl, _⟩ := id s3
   have CC : Hid (Calls Tryz.prog 48 #[.slice At d.routes.length ct] _ _) := copy_routes _ s3 (hS.out.routes d (List.mem_of_getElem? HX.out))
   have HL3 : Hid (d.routes.length = d.routes.length) := rfl
   clear s1 s2 s3
   go_wp2_with fail
   refine CC.out.mono ?_
   rintro e w40 ⟨A4, q4, rfl, S4, Z4, hb4⟩
   have yy4 := hb4.size
   have D40 := chnN hb4 D3
   have G40 := G3.keep hb4
   have R40 := R3.keep hb4
   have K40 := SlAt.mono (SlAt.below K3 hb4 (fun _ _ _ h => h)) hb4.size (fun _ _ _ h => h)
   have I40 := I3.below hb4
   have V40 := V3.below hb4
   have zg4 : g' < w40.heap.size := by omega
   have zh4 : HI <= w40.heap.size := by omega
   have V4 := V40.set6 HX.out S4 (Z4 _ _ zh3) (by omega) hgHI
   have D4 := D40.setCell (p := ⟨g', k * 7 + 6, none⟩) (by simp; omega) (.slice A4 d.routes.length q4)
   have G4 := G40.setO (b := g') (j := k * 7 + 6) (by omega) (.slice A4 d.routes.length q4)
   have R4 := R40.setO (b := g') (j := k * 7 + 6) (by omega) (.slice A4 d.routes.length q4)
   have K4 := K40.setB (k := g') (j := k * 7 + 6) (u := .slice A4 d.routes.length q4) nb3
   have I4 := I40.set (k := g') (j := k * 7 + 6) (u := .slice A4 d.routes.length q4)
   have fz4 := I40.fz (k * 7 + 6)
   obtain ⟨_, _, _, ⟨_, _, _, _, e4, e5, e6⟩, _⟩ := V40 k d HX.out
   have ee4 : ∃ v, w40.cell? ⟨g', k * 7 + 6, none⟩ = some v := ⟨_, e6⟩
   obtain ⟨ev4, ec4⟩ := ee4
   have sz4 : (w40.setCell ⟨g', k * 7 + 6, none⟩ (.slice A4 d.routes.length q4)).heap.size = w40.heap.size := by simp [World.setCell]
   rw [sz4.symm] at K4 zg4 zh4
   clear V3 D3 G3 R3 K3 I3 c0 c1' c2' c3 c4 c5 c6 e4 e5 e6 CC S4 Z4 hb4 V40 D40 G40 R40 K40 I40 HL3 zg3 zh3 yy4
   go_upto_region 9 with fail
   generalize hW4 : w40.setCell ⟨g', k * 7 + 6, none⟩ (.slice A4 d.routes.length q4) = w4 at *
   clear hW4 fz4 ec4 sz4
   go_wp2_with fail
   go_roundw
   case rel => exact ⟨k + 1, by go_num, by omega, D4, G4, R4, K4, I4, V4, zg4, zh4⟩
   case measure => simp [intOf]; omega
theorem cell_of_block {w w' : World} {b o : Nat} (h : w'.heap[b]? = w.heap[b]?) : w'.cell? ⟨b, o, none⟩ = w.cell? ⟨b, o, none⟩ := by
 unfold World.cell?
 rw [h]
theorem set6_block {w : World} {k b : Nat} (h : b ≠ k) (u0 u1 u2 u3 u4 u5 : Value) : ((((((w.setCell ⟨k, 0, none⟩ u0).setCell ⟨k, 1, none⟩ u1).setCell ⟨k, 2, none⟩ u2).setCell ⟨k, 3, none⟩ u3).setCell ⟨k, 4, none⟩ u4).setCell ⟨k, 5, none⟩ u5).heap[b]? = w.heap[b]? := by
 rw [Below.heap_setCell _ _ _ _ h, Below.heap_setCell _ _ _ _ h, Below.heap_setCell _ _ _ _ h, Below.heap_setCell _ _ _ _ h, Below.heap_setCell _ _ _ _ h, Below.heap_setCell _ _ _ _ h]
theorem spost_up {m : Mp} {N k : Nat} {w' w'' : World} {r : SR} {q er : Int} {p : Pk} {fv : Value} {n0 : Nat} (h : er = r.err ∧ FV fv ∧ (r.err = 0 -> q = r.port ∧ p = r.p ∧ LrnAt N w' m fv r.l)) (hk : k < N) (hn : n0 <= N) (hc : ∀ b, b ≠ k -> w''.heap[b]? = w'.heap[b]?) : er = r.err ∧ FV fv ∧ (r.err = 0 -> q = r.port ∧ p = r.p ∧ LrnAt n0 w'' m fv r.l) :=
 ⟨h.1, h.2.1, fun he => ⟨(h.2.2 he).1, (h.2.2 he).2.1, (h.2.2 he).2.2.keep hn (fun {b o v} hb hv => (cell_of_block (hc b (by omega))).trans hv)⟩⟩
theorem sendW_route (m : Mp) (ds : List Dv) (ls : List Lk) (n : Nat) (M : Mnd) (i : Nat) (d : Dv) (q : Int) (p : Pk) (c : Int) (r : SR) (w : World) (hM : Hid (MemAt w m ds ls n M)) (hx : Hid (ds[i]? = some d)) (hk : d.kind = 2)
  (CF : Hid (∀ W, MemAt W m ds ls n M -> Calls Tryz.prog 125 #[.pointer (some ⟨m.B, m.z, none⟩), .int .i64 (i : Int), pkV p] W (SPost m W r))) :
  Calls Tryz.prog 96 #[.pointer (some ⟨m.B, m.z, none⟩), plA (i : Int) q, pkV p, .int .i64 c] w (SPost m w r) := by
 have M2 := ((hM.out.alloc (.cells #[.int .i64 (i : Int), .int .i64 q] 43)).alloc (pkC p)).alloc lvC
 have D2 := Below.alN (Below.alN (Below.alN (Below.refl w.heap.size w) (.cells #[.int .i64 (i : Int), .int .i64 q] 43)) (pkC p)) lvC
 have L2 := bk_new' ((w.alloc (.cells #[.int .i64 (i : Int), .int .i64 q] 43)).alloc (pkC p)) #[.int .i64 0, .int .i64 0, .int .i64 0, .int .i64 0, .int .i64 0, .nilFunc] 190 (w.heap.size + 1 + 1) (by simp)
 obtain ⟨q0, _, _, _, _⟩ := M2.cells
 obtain ⟨b, o, vb, vr, vt, eA, HD, k1, k2⟩ := M2.dev hx.out
 rw [eA] at q0
 obtain ⟨c0, c1, c2, c3, c4, c5, c6, s1, s2, s3⟩ := HD
 rw [hk] at c1
 obtain ⟨s, dd, sp, dp⟩ := p
 clear hM hx eA s1 s2 s3 c0 c2 c3 c4 c5 c6
 go_enter Tryz.func96, Tryz.ntmps96
 go_wp2_with fail
 go_region
 clear c1 q0
 go_wp2_with fail
 refine (CF.out _ M2.drew).mono ?_
 rintro e w5 ⟨q2, p2, fv, er, rfl, HQ, hb5⟩
 have D5 := chnN hb5 D2.drew
 have L5 := L2.drew.keep hb5
 have zN : w.heap.size + 1 + 1 < (World.heap (((w.alloc (.cells #[.int .i64 (i : Int), .int .i64 q] 43)).alloc (pkC ⟨s, dd, sp, dp⟩)).alloc lvC).drew).size := L2.lt
 have zM : w.heap.size <= (World.heap (((w.alloc (.cells #[.int .i64 (i : Int), .int .i64 q] 43)).alloc (pkC ⟨s, dd, sp, dp⟩)).alloc lvC).drew).size := by omega
 obtain ⟨⟨l0, l1, l2, l3, l4, l5⟩, ⟨f0, f1, f2, f3, f4, f5⟩⟩ := L5.six
 obtain ⟨ps, pd, psp, pdp⟩ := p2
 rcases HQ.out.2.1 with rfl | ⟨fn, cp, rfl⟩
 ·go_wp2_with fail
  refine bodyPost_ret (v := .tuple #[.agg #[.int .i64 q2, .int .i64 ps, .int .i64 pd, .int .i64 psp, .int .i64 pdp, .nilFunc], .int .i64 er]) (by simp [results, Tryz.results96, go_sem, l0, l1, l2, l3, l4, l5]) rfl ⟨q2, ⟨ps, pd, psp, pdp⟩, _, er, rfl, ?_, ?_⟩
  ·exact spost_up HQ.out zN zM (fun b hb => set6_block hb _ _ _ _ _ _)
  ·go_grown
 ·go_wp2_with fail
  refine bodyPost_ret (v := .tuple #[.agg #[.int .i64 q2, .int .i64 ps, .int .i64 pd, .int .i64 psp, .int .i64 pdp, .func fn #[] cp], .int .i64 er]) (by simp [results, Tryz.results96, go_sem, l0, l1, l2, l3, l4, l5]) rfl ⟨q2, ⟨ps, pd, psp, pdp⟩, _, er, rfl, ?_, ?_⟩
  ·exact spost_up HQ.out zN zM (fun b hb => set6_block hb _ _ _ _ _ _)
  ·go_grown
theorem sendW_ask (m : Mp) (ds : List Dv) (ls : List Lk) (n : Nat) (M : Mnd) (i : Nat) (d : Dv) (q : Int) (p : Pk) (c : Int) (r : SR) (w : World) (hM : Hid (MemAt w m ds ls n M)) (hx : Hid (ds[i]? = some d)) (hk : d.kind = 3) (hq : (q == 0) = true)
  (CF : Hid (∀ W, MemAt W m ds ls n M -> Calls Tryz.prog 126 #[.pointer (some ⟨m.B, m.z, none⟩), .int .i64 (i : Int), pkV p] W (SPost m W r))) :
  Calls Tryz.prog 96 #[.pointer (some ⟨m.B, m.z, none⟩), plA (i : Int) q, pkV p, .int .i64 c] w (SPost m w r) := by
 have M2 := ((hM.out.alloc (.cells #[.int .i64 (i : Int), .int .i64 q] 43)).alloc (pkC p)).alloc lvC
 have D2 := Below.alN (Below.alN (Below.alN (Below.refl w.heap.size w) (.cells #[.int .i64 (i : Int), .int .i64 q] 43)) (pkC p)) lvC
 have L2 := bk_new' ((w.alloc (.cells #[.int .i64 (i : Int), .int .i64 q] 43)).alloc (pkC p)) #[.int .i64 0, .int .i64 0, .int .i64 0, .int .i64 0, .int .i64 0, .nilFunc] 190 (w.heap.size + 1 + 1) (by simp)
 obtain ⟨q0, _, _, _, _⟩ := M2.cells
 obtain ⟨b, o, vb, vr, vt, eA, HD, k1, k2⟩ := M2.dev hx.out
 rw [eA] at q0
 obtain ⟨c0, c1, c2, c3, c4, c5, c6, s1, s2, s3⟩ := HD
 rw [hk] at c1
 obtain ⟨s, dd, sp, dp⟩ := p
 clear hM hx eA s1 s2 s3 c0 c2 c3 c4 c5 c6
 go_enter Tryz.func96, Tryz.ntmps96
 go_wp2_with fail
 go_region
 clear c1 q0
 go_wp2_with fail
 refine (CF.out _ M2.drew).mono ?_
 rintro e w5 ⟨q2, p2, fv, er, rfl, HQ, hb5⟩
 have D5 := chnN hb5 D2.drew
 have L5 := L2.drew.keep hb5
 have zN : w.heap.size + 1 + 1 < (World.heap (((w.alloc (.cells #[.int .i64 (i : Int), .int .i64 q] 43)).alloc (pkC ⟨s, dd, sp, dp⟩)).alloc lvC).drew).size := L2.lt
 have zM : w.heap.size <= (World.heap (((w.alloc (.cells #[.int .i64 (i : Int), .int .i64 q] 43)).alloc (pkC ⟨s, dd, sp, dp⟩)).alloc lvC).drew).size := by omega
 obtain ⟨⟨l0, l1, l2, l3, l4, l5⟩, ⟨f0, f1, f2, f3, f4, f5⟩⟩ := L5.six
 obtain ⟨ps, pd, psp, pdp⟩ := p2
 rcases HQ.out.2.1 with rfl | ⟨fn, cp, rfl⟩
 ·go_wp2_with fail
  refine bodyPost_ret (v := .tuple #[.agg #[.int .i64 q2, .int .i64 ps, .int .i64 pd, .int .i64 psp, .int .i64 pdp, .nilFunc], .int .i64 er]) (by simp [results, Tryz.results96, go_sem, l0, l1, l2, l3, l4, l5]) rfl ⟨q2, ⟨ps, pd, psp, pdp⟩, _, er, rfl, ?_, ?_⟩
  ·exact spost_up HQ.out zN zM (fun b hb => set6_block hb _ _ _ _ _ _)
  ·go_grown
 ·go_wp2_with fail
  refine bodyPost_ret (v := .tuple #[.agg #[.int .i64 q2, .int .i64 ps, .int .i64 pd, .int .i64 psp, .int .i64 pdp, .func fn #[] cp], .int .i64 er]) (by simp [results, Tryz.results96, go_sem, l0, l1, l2, l3, l4, l5]) rfl ⟨q2, ⟨ps, pd, psp, pdp⟩, _, er, rfl, ?_, ?_⟩
  ·exact spost_up HQ.out zN zM (fun b hb => set6_block hb _ _ _ _ _ _)
  ·go_grown
theorem sendW_answer (m : Mp) (ds : List Dv) (ls : List Lk) (n : Nat) (M : Mnd) (i : Nat) (d : Dv) (q : Int) (p : Pk) (c : Int) (r : SR) (w : World) (hM : Hid (MemAt w m ds ls n M)) (hx : Hid (ds[i]? = some d)) (hk : d.kind = 3) (hq : (q == 0) = false)
  (CF : Hid (∀ W, MemAt W m ds ls n M -> Calls Tryz.prog 127 #[.pointer (some ⟨m.B, m.z, none⟩), .int .i64 (i : Int), pkV p] W (SPost m W r))) :
  Calls Tryz.prog 96 #[.pointer (some ⟨m.B, m.z, none⟩), plA (i : Int) q, pkV p, .int .i64 c] w (SPost m w r) := by
 have M2 := ((hM.out.alloc (.cells #[.int .i64 (i : Int), .int .i64 q] 43)).alloc (pkC p)).alloc lvC
 have D2 := Below.alN (Below.alN (Below.alN (Below.refl w.heap.size w) (.cells #[.int .i64 (i : Int), .int .i64 q] 43)) (pkC p)) lvC
 have L2 := bk_new' ((w.alloc (.cells #[.int .i64 (i : Int), .int .i64 q] 43)).alloc (pkC p)) #[.int .i64 0, .int .i64 0, .int .i64 0, .int .i64 0, .int .i64 0, .nilFunc] 190 (w.heap.size + 1 + 1) (by simp)
 obtain ⟨q0, _, _, _, _⟩ := M2.cells
 obtain ⟨b, o, vb, vr, vt, eA, HD, k1, k2⟩ := M2.dev hx.out
 rw [eA] at q0
 obtain ⟨c0, c1, c2, c3, c4, c5, c6, s1, s2, s3⟩ := HD
 rw [hk] at c1
 obtain ⟨s, dd, sp, dp⟩ := p
 clear hM hx eA s1 s2 s3 c0 c2 c3 c4 c5 c6
 go_enter Tryz.func96, Tryz.ntmps96
 go_wp2_with fail
 go_region
 clear c1 q0
 go_wp2_with fail
 refine (CF.out _ M2.drew).mono ?_
 rintro e w5 ⟨q2, p2, fv, er, rfl, HQ, hb5⟩
 have D5 := chnN hb5 D2.drew
 have L5 := L2.drew.keep hb5
 have zN : w.heap.size + 1 + 1 < (World.heap (((w.alloc (.cells #[.int .i64 (i : Int), .int .i64 q] 43)).alloc (pkC ⟨s, dd, sp, dp⟩)).alloc lvC).drew).size := L2.lt
 have zM : w.heap.size <= (World.heap (((w.alloc (.cells #[.int .i64 (i : Int), .int .i64 q] 43)).alloc (pkC ⟨s, dd, sp, dp⟩)).alloc lvC).drew).size := by omega
 obtain ⟨⟨l0, l1, l2, l3, l4, l5⟩, ⟨f0, f1, f2, f3, f4, f5⟩⟩ := L5.six
 obtain ⟨ps, pd, psp, pdp⟩ := p2
 rcases HQ.out.2.1 with rfl | ⟨fn, cp, rfl⟩
 ·go_wp2_with fail
  refine bodyPost_ret (v := .tuple #[.agg #[.int .i64 q2, .int .i64 ps, .int .i64 pd, .int .i64 psp, .int .i64 pdp, .nilFunc], .int .i64 er]) (by simp [results, Tryz.results96, go_sem, l0, l1, l2, l3, l4, l5]) rfl ⟨q2, ⟨ps, pd, psp, pdp⟩, _, er, rfl, ?_, ?_⟩
  ·exact spost_up HQ.out zN zM (fun b hb => set6_block hb _ _ _ _ _ _)
  ·go_grown
 ·go_wp2_with fail
  refine bodyPost_ret (v := .tuple #[.agg #[.int .i64 q2, .int .i64 ps, .int .i64 pd, .int .i64 psp, .int .i64 pdp, .func fn #[] cp], .int .i64 er]) (by simp [results, Tryz.results96, go_sem, l0, l1, l2, l3, l4, l5]) rfl ⟨q2, ⟨ps, pd, psp, pdp⟩, _, er, rfl, ?_, ?_⟩
  ·exact spost_up HQ.out zN zM (fun b hb => set6_block hb _ _ _ _ _ _)
  ·go_grown
end Go.Proofs.YtlmmeppifkigeaaGreat
