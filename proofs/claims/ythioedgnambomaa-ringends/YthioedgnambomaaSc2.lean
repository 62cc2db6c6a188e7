/-
  Package net: Copy.
-/
import Derived.Test.YthioedgnambomaaSc1
import Derived.Test.YthioedgnambomaaSs
namespace Go.Proofs.Ythioedgnambomaa
open Go.RowKit Go.Maps

theorem cell_of_blockC {w w' : World} {b o : Nat} (h : w'.heap[b]? = w.heap[b]?) : w'.cell? ⟨b, o, none⟩ = w.cell? ⟨b, o, none⟩ := by
  unfold World.cell?
  rw [h]
/-- The slice's array isn't block k. -/
def NotB (k : Nat) (v : Value) : Prop := ∀ b o n c, v = .slice (some ⟨b, o, none⟩) n c → n ≠ 0 → b ≠ k
/-- The slice's array lies below lo, or from hi on. -/
def NotIn (lo hi : Nat) (v : Value) : Prop := ∀ b o n c, v = .slice (some ⟨b, o, none⟩) n c → n ≠ 0 → b < lo ∨ hi ≤ b
theorem NotIn.b {lo hi k : Nat} {v : Value} (h : NotIn lo hi v) (h1 : lo ≤ k) (h2 : k < hi) : NotB k v := fun b o n c e hn => by
  have := h b o n c e hn
  omega
theorem SlAt.setB {α : Type} {base n k j : Nat} {w : World} {R : List Value → α → Prop} {v u : Value} {xs : List α} (h : SlAt base w n R v xs) (hn : NotB k v) : SlAt base (w.setCell ⟨k, j, none⟩ u) n R v xs := by
  obtain ⟨A, cap, rfl, h0, h1, h2, h3⟩ := h
  refine ⟨A, cap, rfl, h0, h1, h2, fun hx => ?_⟩
  obtain ⟨b, o, rfl, hl, hr⟩ := h3 hx
  have hb : b ≠ k := hn b o _ _ rfl (fun e => hx (List.length_eq_zero_iff.1 e))
  refine ⟨b, o, rfl, hl, fun i x hi => ?_⟩
  obtain ⟨cs, c1, c2, c3⟩ := hr i x hi
  exact ⟨cs, c1, c2, fun j' u' hj => (cell_of_blockC (Below.heap_setCell w ⟨k, j, none⟩ u b hb)).trans (c3 j' u' hj)⟩
theorem SlAt.notIn {α : Type} {base n hi : Nat} {w : World} {R : List Value → α → Prop} {v : Value} {xs : List α} (h : SlAt base w n R v xs) : NotIn base hi v := fun b o m c e hn => by
  obtain ⟨A, cap, rfl, h0, h1, h2, h3⟩ := h
  obtain ⟨b', o', e', hl, _⟩ := h3 (fun e0 => hn (by cases e; rw [e0]; rfl))
  cases e
  cases e'
  exact .inl hl
theorem own_notIn {base lo hi n N : Nat} {t : TypeId} {w : World} {v : Value} {cs : List Value} (h : w.ownsRow base t n v N cs) (hb : hi ≤ base) : NotIn lo hi v := fun b o m c e hn => by
  rcases h.2 with ⟨rfl, _⟩ | ⟨g, cap, cur, rfl, hg, _⟩
  · cases e
  · cases e
    exact .inr (by omega)
/-- A row of devices in block g: as the devices are, their lists apart from blocks lo to hi. -/
def DvRow (lo hi g : Nat) (w : World) (ds : List Dv) : Prop := ∀ k d, ds[k]? = some d → ∃ vb vr vt, (w.cell? ⟨g, k * 7, none⟩ = some (.string d.name) ∧ w.cell? ⟨g, k * 7 + 1, none⟩ = some (.int .i64 d.kind) ∧ w.cell? ⟨g, k * 7 + 2, none⟩ = some (.int .i64 d.addr) ∧ w.cell? ⟨g, k * 7 + 3, none⟩ = some (.int .u8 (d.pool : Int)) ∧ w.cell? ⟨g, k * 7 + 4, none⟩ = some vb ∧ w.cell? ⟨g, k * 7 + 5, none⟩ = some vr ∧ w.cell? ⟨g, k * 7 + 6, none⟩ = some vt) ∧ (SlAt w.heap.size w 1 IsI vb d.backs ∧ SlAt w.heap.size w 5 IsRule vr d.rules ∧ SlAt w.heap.size w 3 IsRoute vt d.routes) ∧ NotIn lo hi vb ∧ NotIn lo hi vr ∧ NotIn lo hi vt
theorem cell_set {w : World} {a : Addr} {u v : Value} (h : w.cell? a = some v) : (w.setCell a u).cell? a = some u := by
  have hs := spotN h
  obtain ⟨b, o, sp⟩ := a
  simp only at hs
  subst hs
  simp [go_sem, h]
theorem cell_off {w : World} {b i j : Nat} {u : Value} (h : i ≠ j) : (w.setCell ⟨b, j, none⟩ u).cell? ⟨b, i, none⟩ = w.cell? ⟨b, i, none⟩ := by
  simp [go_sem]
section
variable {lo hi g : Nat} {w w' : World} {ds : List Dv}
theorem DvRow.below (h : DvRow lo hi g w ds) (hb : Below w.heap.size w w') : DvRow lo hi g w' ds := fun k d hk => by
  obtain ⟨vb, vr, vt, ⟨c0, c1, c2, c3, c4, c5, c6⟩, ⟨s1, s2, s3⟩, n1, n2, n3⟩ := h k d hk
  have C := fun {o : Nat} {v : Value} (hc : w.cell? ⟨g, o, none⟩ = some v) => (CK.of_below hb).cell hc
  exact ⟨vb, vr, vt, ⟨C c0, C c1, C c2, C c3, C c4, C c5, C c6⟩, ⟨SlAt.mono (SlAt.below s1 hb (fun _ _ _ h => h)) hb.size (fun _ _ _ h => h), SlAt.mono (SlAt.below s2 hb (fun _ _ _ h => h)) hb.size (fun _ _ _ h => h), SlAt.mono (SlAt.below s3 hb (fun _ _ _ h => h)) hb.size (fun _ _ _ h => h)⟩, n1, n2, n3⟩
theorem DvRow.other (h : DvRow lo hi g w ds) {k j : Nat} {u : Value} (hne : g ≠ k) (h1 : lo ≤ k) (h2 : k < hi) : DvRow lo hi g (w.setCell ⟨k, j, none⟩ u) ds := fun i d hi' => by
  obtain ⟨vb, vr, vt, ⟨c0, c1, c2, c3, c4, c5, c6⟩, ⟨s1, s2, s3⟩, n1, n2, n3⟩ := h i d hi'
  have C := fun {o : Nat} {v : Value} (hc : w.cell? ⟨g, o, none⟩ = some v) => (cell_of_blockC (o := o) (Below.heap_setCell w ⟨k, j, none⟩ u g hne)).trans hc
  have sz : (w.setCell ⟨k, j, none⟩ u).heap.size = w.heap.size := by simp [World.setCell]
  rw [sz]
  exact ⟨vb, vr, vt, ⟨C c0, C c1, C c2, C c3, C c4, C c5, C c6⟩, ⟨s1.setB (n1.b h1 h2), s2.setB (n2.b h1 h2), s3.setB (n3.b h1 h2)⟩, n1, n2, n3⟩
theorem DvRow.set4 (h : DvRow lo hi g w ds) {k : Nat} {d : Dv} {u : Value} (hk : ds[k]? = some d) (hs : SlAt w.heap.size w 1 IsI u d.backs) (hn : NotIn lo hi u) (h1 : lo ≤ g) (h2 : g < hi) : DvRow lo hi g (w.setCell ⟨g, k * 7 + 4, none⟩ u) ds := fun i d' hi' => by
  have sz : (w.setCell ⟨g, k * 7 + 4, none⟩ u).heap.size = w.heap.size := by simp [World.setCell]
  rw [sz]
  by_cases e : i = k
  · subst e
    rw [hk] at hi'
    obtain rfl := Option.some.inj hi'
    obtain ⟨vb, vr, vt, ⟨c0, c1, c2, c3, c4, c5, c6⟩, ⟨s1, s2, s3⟩, n1, n2, n3⟩ := h i d hk
    exact ⟨u, vr, vt, ⟨(cell_off (by omega)).trans c0, (cell_off (by omega)).trans c1, (cell_off (by omega)).trans c2, (cell_off (by omega)).trans c3, (cell_set c4), (cell_off (by omega)).trans c5, (cell_off (by omega)).trans c6⟩, ⟨hs.setB (hn.b h1 h2), s2.setB (n2.b h1 h2), s3.setB (n3.b h1 h2)⟩, hn, n2, n3⟩
  · obtain ⟨vb, vr, vt, ⟨e0, e1, e2, e3, e4, e5, e6⟩, ⟨s1, s2, s3⟩, n1, n2, n3⟩ := h i d' hi'
    exact ⟨vb, vr, vt, ⟨(cell_off (by omega)).trans e0, (cell_off (by omega)).trans e1, (cell_off (by omega)).trans e2, (cell_off (by omega)).trans e3, (cell_off (by omega)).trans e4, (cell_off (by omega)).trans e5, (cell_off (by omega)).trans e6⟩, ⟨s1.setB (n1.b h1 h2), s2.setB (n2.b h1 h2), s3.setB (n3.b h1 h2)⟩, n1, n2, n3⟩
theorem DvRow.set5 (h : DvRow lo hi g w ds) {k : Nat} {d : Dv} {u : Value} (hk : ds[k]? = some d) (hs : SlAt w.heap.size w 5 IsRule u d.rules) (hn : NotIn lo hi u) (h1 : lo ≤ g) (h2 : g < hi) : DvRow lo hi g (w.setCell ⟨g, k * 7 + 5, none⟩ u) ds := fun i d' hi' => by
  have sz : (w.setCell ⟨g, k * 7 + 5, none⟩ u).heap.size = w.heap.size := by simp [World.setCell]
  rw [sz]
  by_cases e : i = k
  · subst e
    rw [hk] at hi'
    obtain rfl := Option.some.inj hi'
    obtain ⟨vb, vr, vt, ⟨c0, c1, c2, c3, c4, c5, c6⟩, ⟨s1, s2, s3⟩, n1, n2, n3⟩ := h i d hk
    exact ⟨vb, u, vt, ⟨(cell_off (by omega)).trans c0, (cell_off (by omega)).trans c1, (cell_off (by omega)).trans c2, (cell_off (by omega)).trans c3, (cell_off (by omega)).trans c4, (cell_set c5), (cell_off (by omega)).trans c6⟩, ⟨s1.setB (n1.b h1 h2), hs.setB (hn.b h1 h2), s3.setB (n3.b h1 h2)⟩, n1, hn, n3⟩
  · obtain ⟨vb, vr, vt, ⟨e0, e1, e2, e3, e4, e5, e6⟩, ⟨s1, s2, s3⟩, n1, n2, n3⟩ := h i d' hi'
    exact ⟨vb, vr, vt, ⟨(cell_off (by omega)).trans e0, (cell_off (by omega)).trans e1, (cell_off (by omega)).trans e2, (cell_off (by omega)).trans e3, (cell_off (by omega)).trans e4, (cell_off (by omega)).trans e5, (cell_off (by omega)).trans e6⟩, ⟨s1.setB (n1.b h1 h2), s2.setB (n2.b h1 h2), s3.setB (n3.b h1 h2)⟩, n1, n2, n3⟩
theorem DvRow.set6 (h : DvRow lo hi g w ds) {k : Nat} {d : Dv} {u : Value} (hk : ds[k]? = some d) (hs : SlAt w.heap.size w 3 IsRoute u d.routes) (hn : NotIn lo hi u) (h1 : lo ≤ g) (h2 : g < hi) : DvRow lo hi g (w.setCell ⟨g, k * 7 + 6, none⟩ u) ds := fun i d' hi' => by
  have sz : (w.setCell ⟨g, k * 7 + 6, none⟩ u).heap.size = w.heap.size := by simp [World.setCell]
  rw [sz]
  by_cases e : i = k
  · subst e
    rw [hk] at hi'
    obtain rfl := Option.some.inj hi'
    obtain ⟨vb, vr, vt, ⟨c0, c1, c2, c3, c4, c5, c6⟩, ⟨s1, s2, s3⟩, n1, n2, n3⟩ := h i d hk
    exact ⟨vb, vr, u, ⟨(cell_off (by omega)).trans c0, (cell_off (by omega)).trans c1, (cell_off (by omega)).trans c2, (cell_off (by omega)).trans c3, (cell_off (by omega)).trans c4, (cell_off (by omega)).trans c5, (cell_set c6)⟩, ⟨s1.setB (n1.b h1 h2), s2.setB (n2.b h1 h2), hs.setB (hn.b h1 h2)⟩, n1, n2, hn⟩
  · obtain ⟨vb, vr, vt, ⟨e0, e1, e2, e3, e4, e5, e6⟩, ⟨s1, s2, s3⟩, n1, n2, n3⟩ := h i d' hi'
    exact ⟨vb, vr, vt, ⟨(cell_off (by omega)).trans e0, (cell_off (by omega)).trans e1, (cell_off (by omega)).trans e2, (cell_off (by omega)).trans e3, (cell_off (by omega)).trans e4, (cell_off (by omega)).trans e5, (cell_off (by omega)).trans e6⟩, ⟨s1.setB (n1.b h1 h2), s2.setB (n2.b h1 h2), s3.setB (n3.b h1 h2)⟩, n1, n2, n3⟩

end
theorem DvRow.devs {lo hi g : Nat} {w : World} {ds : List Dv} {cap : Nat} (h : DvRow lo hi g w ds) (hg : g < w.heap.size) (h1 : ds.length ≤ cap) (h2 : cap ≤ maxLen) : Devs w.heap.size w (.slice (some ⟨g, 0, none⟩) ds.length cap) ds := by
  refine ⟨_, cap, rfl, (fun e => by cases e), h1, h2, fun _ => ⟨g, 0, rfl, hg, fun k d hk => ?_⟩⟩
  obtain ⟨vb, vr, vt, ⟨c0, c1, c2, c3, c4, c5, c6⟩, ⟨s1, s2, s3⟩, _⟩ := h k d hk
  refine ⟨[.string d.name, .int .i64 d.kind, .int .i64 d.addr, .int .u8 (d.pool : Int), vb, vr, vt], rfl, ⟨vb, vr, vt, rfl, s1, s2, s3⟩, fun j u hj => ?_⟩
  rw [Nat.zero_add]
  match j, hj with
  | 0, hj => obtain rfl := Option.some.inj hj; exact c0
  | 1, hj => obtain rfl := Option.some.inj hj; exact c1
  | 2, hj => obtain rfl := Option.some.inj hj; exact c2
  | 3, hj => obtain rfl := Option.some.inj hj; exact c3
  | 4, hj => obtain rfl := Option.some.inj hj; exact c4
  | 5, hj => obtain rfl := Option.some.inj hj; exact c5
  | 6, hj => obtain rfl := Option.some.inj hj; exact c6
/-- Block g is one of cells, which may be written. -/
def IsB (w : World) (g : Nat) : Prop := ∃ cs t, Bk w g cs t
theorem IsB.below {w w' : World} {g : Nat} (h : IsB w g) (hb : Below w.heap.size w w') : IsB w' g := by
  obtain ⟨cs, t, h⟩ := h
  exact ⟨cs, t, h.keep hb⟩
theorem IsB.set {w : World} {g k j : Nat} {u : Value} (h : IsB w g) : IsB (w.setCell ⟨k, j, none⟩ u) g := by
  obtain ⟨cs, t, h⟩ := h
  by_cases e : g = k
  · subst e
    exact ⟨_, t, h.setS u⟩
  · exact ⟨cs, t, h.setO e u⟩
theorem IsB.fz {w : World} {g : Nat} (h : IsB w g) (o : Nat) : w.frozen? ⟨g, o, none⟩ = false := by
  obtain ⟨cs, t, h⟩ := h
  exact h.fz o
/-- A clone of devices, fresh: the lists are the elder ones. -/
def Fresh (lo : Nat) (w : World) (A : Option Addr) (cap : Nat) (w0 : World) (ds : List Dv) : Prop :=
  (A = none → cap = 0) ∧ ds.length ≤ cap ∧ cap ≤ maxLen ∧ (ds.length ≠ 0 → ∃ g, A = some ⟨g, 0, none⟩ ∧ lo ≤ g ∧ g < w.heap.size ∧ IsB w g ∧ ∀ k d, ds[k]? = some d → ∃ vb vr vt, (w.cell? ⟨g, k * 7, none⟩ = some (.string d.name) ∧ w.cell? ⟨g, k * 7 + 1, none⟩ = some (.int .i64 d.kind) ∧ w.cell? ⟨g, k * 7 + 2, none⟩ = some (.int .i64 d.addr) ∧ w.cell? ⟨g, k * 7 + 3, none⟩ = some (.int .u8 (d.pool : Int)) ∧ w.cell? ⟨g, k * 7 + 4, none⟩ = some vb ∧ w.cell? ⟨g, k * 7 + 5, none⟩ = some vr ∧ w.cell? ⟨g, k * 7 + 6, none⟩ = some vt) ∧ (SlAt w0.heap.size w0 1 IsI vb d.backs ∧ SlAt w0.heap.size w0 5 IsRule vr d.rules ∧ SlAt w0.heap.size w0 3 IsRoute vt d.routes))
theorem Fresh.below {lo : Nat} {w w' w0 : World} {A : Option Addr} {cap : Nat} {ds : List Dv} (h : Fresh lo w A cap w0 ds) (hb : Below w.heap.size w w') : Fresh lo w' A cap w0 ds := by
  obtain ⟨h0, h1, h2, h3⟩ := h
  refine ⟨h0, h1, h2, fun hn => ?_⟩
  obtain ⟨g, e, hl, hg, hB, hr⟩ := h3 hn
  refine ⟨g, e, hl, Nat.lt_of_lt_of_le hg hb.size, hB.below hb, fun k d hk => ?_⟩
  obtain ⟨vb, vr, vt, ⟨c0, c1, c2, c3, c4, c5, c6⟩, s⟩ := hr k d hk
  have C := fun {o : Nat} {v : Value} (hc : w.cell? ⟨g, o, none⟩ = some v) => (CK.of_below hb).cell hc
  exact ⟨vb, vr, vt, ⟨C c0, C c1, C c2, C c3, C c4, C c5, C c6⟩, s⟩
theorem Fresh.set {lo k j : Nat} {w w0 : World} {A : Option Addr} {cap : Nat} {ds : List Dv} {u : Value} (h : Fresh lo w A cap w0 ds) (hne : ∀ g', A = some ⟨g', 0, none⟩ → ds.length ≠ 0 → g' ≠ k) : Fresh lo (w.setCell ⟨k, j, none⟩ u) A cap w0 ds := by
  obtain ⟨h0, h1, h2, h3⟩ := h
  refine ⟨h0, h1, h2, fun hn => ?_⟩
  obtain ⟨g, e, hl, hg, hB, hr⟩ := h3 hn
  have hgk := hne g e hn
  refine ⟨g, e, hl, by simpa [World.setCell] using hg, hB.set, fun k' d hk => ?_⟩
  obtain ⟨vb, vr, vt, ⟨c0, c1, c2, c3, c4, c5, c6⟩, s⟩ := hr k' d hk
  have C := fun {o : Nat} {v : Value} (hc : w.cell? ⟨g, o, none⟩ = some v) => (cell_of_blockC (o := o) (Below.heap_setCell w ⟨k, j, none⟩ u g hgk)).trans hc
  exact ⟨vb, vr, vt, ⟨C c0, C c1, C c2, C c3, C c4, C c5, C c6⟩, s⟩
theorem Fresh.lo {lo lo' : Nat} {w w0 : World} {A : Option Addr} {cap : Nat} {ds : List Dv} (h : Fresh lo w A cap w0 ds) (hl : lo' ≤ lo) : Fresh lo' w A cap w0 ds := by
  obtain ⟨h0, h1, h2, h3⟩ := h
  refine ⟨h0, h1, h2, fun hn => ?_⟩
  obtain ⟨g, e, hg, r⟩ := h3 hn
  exact ⟨g, e, by omega, r⟩
theorem Fresh.lt {lo : Nat} {w w0 : World} {A : Option Addr} {cap : Nat} {ds : List Dv} (h : Fresh lo w A cap w0 ds) {g' : Nat} (e : A = some ⟨g', 0, none⟩) (hn : ds.length ≠ 0) : lo ≤ g' ∧ g' < w.heap.size := by
  obtain ⟨g, e', h1, h2, _⟩ := h.2.2.2 hn
  rw [e] at e'
  cases e'
  exact ⟨h1, h2⟩
theorem Fresh.row {lo hi : Nat} {w w0 : World} {A : Option Addr} {cap : Nat} {ds : List Dv} (h : Fresh lo w A cap w0 ds) (hb : Below w0.heap.size w0 w) (hn : ds.length ≠ 0) : ∃ g, A = some ⟨g, 0, none⟩ ∧ lo ≤ g ∧ g < w.heap.size ∧ IsB w g ∧ DvRow w0.heap.size hi g w ds := by
  obtain ⟨g, e, hl, hg, hB, hr⟩ := h.2.2.2 hn
  refine ⟨g, e, hl, hg, hB, fun k d hk => ?_⟩
  obtain ⟨vb, vr, vt, c, ⟨s1, s2, s3⟩⟩ := hr k d hk
  exact ⟨vb, vr, vt, c, ⟨SlAt.mono (SlAt.below s1 hb (fun _ _ _ h => h)) hb.size (fun _ _ _ h => h), SlAt.mono (SlAt.below s2 hb (fun _ _ _ h => h)) hb.size (fun _ _ _ h => h), SlAt.mono (SlAt.below s3 hb (fun _ _ _ h => h)) hb.size (fun _ _ _ h => h)⟩, s1.notIn, s2.notIn, s3.notIn⟩
theorem clone_fresh {v : Value} {ds : List Dv} {w0 : World} (W : World) (h : Devs w0.heap.size w0 v ds) (hb : Below w0.heap.size w0 W) (hs : ds.length ≤ 1048576) :
    Calls Try.prog 28 #[v] W fun e w' => ∃ A cap, e = .returned (.slice A ds.length cap) ∧ Fresh W.heap.size w' A cap w0 ds ∧ Below W.heap.size W w' := by
  obtain ⟨cs, hr, hf⟩ := SlAt.row h (fun cs x hx => oneDv cs x hx)
  have hr' : RowAt W.heap.size W v ds.length 7 cs := by
    obtain ⟨A, cap, e, h0, h1, h2, hl, ho, h3⟩ := hr
    refine ⟨A, cap, e, h0, h1, h2, hl, ho, fun hn => ?_⟩
    obtain ⟨b, o, ea, hlt, hc⟩ := h3 hn
    exact ⟨b, o, ea, Nat.lt_of_lt_of_le hlt hb.size, fun j u hj => (hb.cell (p := ⟨b, o + j, none⟩) hlt).trans (hc j u hj)⟩
  refine (clone_devs W hr' hs).mono fun e w' ⟨v', he, how, hbw⟩ => ?_
  have hs' := SlAt.own (R := fun cs d => ∃ w1 : World, w1 = w0 ∧ IsDv w0.heap.size w1 cs d) how (fun k x hx => ⟨w0, rfl, hf k x hx⟩)
  obtain ⟨A, cap, rfl, h0, h1, h2, h3⟩ := hs'
  refine ⟨A, cap, he, ⟨h0, h1, h2, fun hn => ?_⟩, hbw⟩
  obtain ⟨b, o, ea, hlt, hc⟩ := h3 (fun e0 => hn (by rw [e0]; rfl))
  rcases how.2 with ⟨hv, _⟩ | ⟨g, cap', cur, hv, hg, hcur, _⟩
  · rw [ea] at hv
    cases hv
  · rw [ea] at hv
    simp only [Value.slice.injEq, Option.some.injEq, Addr.mk.injEq, and_true, true_and] at hv
    obtain ⟨⟨rfl, rfl⟩, _⟩ := hv
    refine ⟨b, ea, hg, hlt, ⟨_, _, hcur⟩, fun k d hk => ?_⟩
    obtain ⟨c, _, ⟨w1, rfl, vb, vr, vt, rfl, s1, s2, s3⟩, hcc⟩ := hc k d hk
    simp only [Nat.zero_add] at hcc
    exact ⟨vb, vr, vt, ⟨hcc 0 _ rfl, hcc 1 _ rfl, hcc 2 _ rfl, hcc 3 _ rfl, hcc 4 _ rfl, hcc 5 _ rfl, hcc 6 _ rfl⟩, ⟨s1, s2, s3⟩⟩
theorem copy_ints {v : Value} {xs : List Int} (W : World) (h : SlAt W.heap.size W 1 IsI v xs) (hs : xs.length ≤ 1048576) :
    Calls Try.prog 30 #[v] W fun e w' => ∃ A cap, e = .returned (.slice A xs.length cap) ∧ SlAt w'.heap.size w' 1 IsI (.slice A xs.length cap) xs ∧ (∀ lo hi, hi ≤ W.heap.size → NotIn lo hi (.slice A xs.length cap)) ∧ Below W.heap.size W w' := by
  obtain ⟨cs, hr, hf⟩ := SlAt.row h (fun cs x hx => oneI cs x hx)
  refine (clone_ints W hr hs).mono fun e w' ⟨v', he, how, hbw⟩ => ?_
  have hs' := SlAt.own (R := IsI) how hf
  obtain ⟨A, cap, rfl, h0⟩ := id hs'
  exact ⟨A, cap, he, hs', fun lo hi hh => own_notIn how hh, hbw⟩
theorem copy_rules {v : Value} {xs : List NRule} (W : World) (h : SlAt W.heap.size W 5 IsRule v xs) (hs : xs.length ≤ 1048576) :
    Calls Try.prog 31 #[v] W fun e w' => ∃ A cap, e = .returned (.slice A xs.length cap) ∧ SlAt w'.heap.size w' 5 IsRule (.slice A xs.length cap) xs ∧ (∀ lo hi, hi ≤ W.heap.size → NotIn lo hi (.slice A xs.length cap)) ∧ Below W.heap.size W w' := by
  obtain ⟨cs, hr, hf⟩ := SlAt.row h (fun cs x hx => oneRule cs x hx)
  refine (clone_rules W hr hs).mono fun e w' ⟨v', he, how, hbw⟩ => ?_
  have hs' := SlAt.own (R := IsRule) how hf
  obtain ⟨A, cap, rfl, h0⟩ := id hs'
  exact ⟨A, cap, he, hs', fun lo hi hh => own_notIn how hh, hbw⟩
theorem copy_routes {v : Value} {xs : List NRoute} (W : World) (h : SlAt W.heap.size W 3 IsRoute v xs) (hs : xs.length ≤ 1048576) :
    Calls Try.prog 32 #[v] W fun e w' => ∃ A cap, e = .returned (.slice A xs.length cap) ∧ SlAt w'.heap.size w' 3 IsRoute (.slice A xs.length cap) xs ∧ (∀ lo hi, hi ≤ W.heap.size → NotIn lo hi (.slice A xs.length cap)) ∧ Below W.heap.size W w' := by
  obtain ⟨cs, hr, hf⟩ := SlAt.row h (fun cs x hx => oneRoute cs x hx)
  refine (clone_routes W hr hs).mono fun e w' ⟨v', he, how, hbw⟩ => ?_
  have hs' := SlAt.own (R := IsRoute) how hf
  obtain ⟨A, cap, rfl, h0⟩ := id hs'
  exact ⟨A, cap, he, hs', fun lo hi hh => own_notIn how hh, hbw⟩
theorem copy_links {v : Value} {xs : List Lk} (W : World) (h : SlAt W.heap.size W 4 IsLk v xs) (hs : xs.length ≤ 1048576) :
    Calls Try.prog 29 #[v] W fun e w' => ∃ A cap, e = .returned (.slice A xs.length cap) ∧ SlAt w'.heap.size w' 4 IsLk (.slice A xs.length cap) xs ∧ (∀ lo hi, hi ≤ W.heap.size → NotIn lo hi (.slice A xs.length cap)) ∧ Below W.heap.size W w' := by
  obtain ⟨cs, hr, hf⟩ := SlAt.row h (fun cs x hx => oneLk cs x hx)
  refine (clone_links W hr hs).mono fun e w' ⟨v', he, how, hbw⟩ => ?_
  have hs' := SlAt.own (R := IsLk) how hf
  obtain ⟨A, cap, rfl, h0⟩ := id hs'
  exact ⟨A, cap, he, hs', fun lo hi hh => own_notIn how hh, hbw⟩

end Go.Proofs.Ythioedgnambomaa
