/-
  Nets: as data, and in memory.
-/
import Derived.Test.YthioedgnambomaaProg
import Derived.WalkKit
import Derived.WalkSpells
import Derived.WalkLawsBesides
import Derived.Handy
import Derived.BigQuiet
import Derived.Deep.QuietTactic
import Derived.Deep.RegionHeld3
import Derived.Deep.DeepCutAuto
import Derived.ProofKit
import Derived.OpenShut
import Derived.Deep.Slices
namespace Go.Proofs.Ythioedgnambomaa
open Go.ChangeShapes Go.WideShapes Go.RowKit Go.Deep

/-! ### slices of anything -/
/-- A slice whose elements, n cells each, are xs by R; it lies below block number base. -/
def SlAt {α : Type} (base : Nat) (w : World) (n : Nat) (R : List Value → α → Prop) (v : Value) (xs : List α) : Prop :=
  ∃ A cap, v = .slice A xs.length cap ∧ (A = none → cap = 0) ∧ xs.length ≤ cap ∧ cap ≤ maxLen ∧
    (xs ≠ [] → ∃ b o, A = some ⟨b, o, none⟩ ∧ b < base ∧ ∀ k x, xs[k]? = some x → ∃ cs : List Value, cs.length = n ∧ R cs x ∧ ∀ j u, cs[j]? = some u → w.cell? ⟨b, o + k * n + j, none⟩ = some u)
section
variable {α : Type} {base base' n : Nat} {w w' : World} {R R' : List Value → α → Prop} {v : Value} {xs : List α}
theorem SlAt.below (h : SlAt base w n R v xs) (hb : Below base w w') (hR : ∀ cs x, x ∈ xs → R cs x → R' cs x) : SlAt base w' n R' v xs := by
  obtain ⟨A, cap, e, h0, h1, h2, h3⟩ := h
  refine ⟨A, cap, e, h0, h1, h2, fun hn => ?_⟩
  obtain ⟨b, o, ea, hl, hr⟩ := h3 hn
  refine ⟨b, o, ea, hl, fun k x hx => ?_⟩
  obtain ⟨cs, c1, c2, c3⟩ := hr k x hx
  exact ⟨cs, c1, hR cs x (List.mem_of_getElem? hx) c2, fun j u hj => (hb.cell (p := ⟨b, _, none⟩) hl).trans (c3 j u hj)⟩
theorem SlAt.mono (h : SlAt base w n R v xs) (hb : base ≤ base') (hR : ∀ cs x, x ∈ xs → R cs x → R' cs x) : SlAt base' w n R' v xs := by
  obtain ⟨A, cap, e, h0, h1, h2, h3⟩ := h
  refine ⟨A, cap, e, h0, h1, h2, fun hn => ?_⟩
  obtain ⟨b, o, ea, hl, hr⟩ := h3 hn
  refine ⟨b, o, ea, by omega, fun k x hx => ?_⟩
  obtain ⟨cs, c1, c2, c3⟩ := hr k x hx
  exact ⟨cs, c1, hR cs x (List.mem_of_getElem? hx) c2, c3⟩
end
theorem spotN {w : World} {a : Addr} {v : Value} (h : w.cell? a = some v) : a.spot = none := by
  unfold World.cell? at h
  split at h
  · split at h
    · cases h
    · rename_i hs
      cases hp : a.spot
      · rfl
      · rw [hp] at hs; simp at hs
  · cases h
section
variable {H : Type} {enc : TypeId × Value → H} {W : World} {sp : Nat → Bool} {held : Bool}
set_option maxRecDepth 100000 in
/-- What reads as a slice is one, if what reads as an element is one. -/
theorem slice_open {α : Type} [Inhabited α] {S E : TypeId} {n : Nat} {R : List Value → α → Prop} (hu : Try.prog.underlying S = some (.slice E)) (hc : Try.prog.cellsOf E = n) (hn : 0 < n) (hR : ∀ fuel cs x, cs.length = n → DataW.trod enc Try.prog W 0 sp held fuel E cs = some x → ∃ y, R cs y)
    {fuel : Nat} {cs : List Value} {x : DataW H × List MemPlace} (h : DataW.trod enc Try.prog W 0 sp held fuel S cs = some x) : ∃ v xs, cs = [v] ∧ SlAt W.heap.size W n R v xs := by
  rcases open_slice hu h with ⟨h0, h00⟩ | ⟨a, len, cap, m, nn, D, Pl, h0, _, hl, hm, hmm, hd, hx⟩
  · exact ⟨.slice none 0 0, [], h0, none, 0, rfl, fun _ => rfl, Nat.le_refl _, Nat.zero_le _, fun hn => absurd rfl hn⟩
  · have hlm : len ≤ m := by rw [hmm]; split <;> omega
    by_cases h00 : len = 0
    · subst h00
      exact ⟨.slice (some a) 0 cap, [], h0, some a, cap, rfl, (fun e => by cases e), hl, hm, fun hn => absurd rfl hn⟩
    · have each : ∀ i, i < len → ∃ y : α, ∃ cs' : List Value, cs'.length = n ∧ R cs' y ∧ ∀ j u, cs'[j]? = some u → W.cell? ((a.add (i * n)).add j) = some u := by
        intro i hi
        obtain ⟨cs', h1, h2⟩ := hx i (by omega)
        rw [hc] at h1
        obtain ⟨_, hlen, hcell⟩ := World.cells?_some h1
        obtain ⟨y, hy⟩ := hR _ _ _ hlen h2
        refine ⟨y, cs', hlen, hy, fun j u hj => ?_⟩
        have hj5 : j < n := by
          have := (List.getElem?_eq_some_iff.1 hj).1
          omega
        have := hcell j hj5
        rw [hj] at this
        exact this
      have hfst : ∃ u, W.cell? a = some u := by
        obtain ⟨y, cs', hl', _, hc'⟩ := each 0 (by omega)
        obtain ⟨u, hu'⟩ : ∃ u, cs'[0]? = some u := ⟨_, List.getElem?_eq_getElem (by omega)⟩
        exact ⟨u, by simpa [Addr.add] using hc' 0 u hu'⟩
      obtain ⟨u0, hu0⟩ := hfst
      have hsp := spotN hu0
      obtain ⟨b, o, sp'⟩ := a
      simp only [] at hsp
      subst hsp
      obtain ⟨f, hf⟩ := choose_lt each
      have hlb : b < W.heap.size := World.block_lt_of_cell? W _ hu0
      have hlen : ((List.range len).map f).length = len := by simp
      refine ⟨_, (List.range len).map f, h0, some ⟨b, o, none⟩, cap, by rw [hlen], (fun e => by cases e), by rw [hlen]; exact hl, hm, fun _ => ⟨b, o, rfl, hlb, fun k y hy => ?_⟩⟩
      have hk : k < len := by
        have := (List.getElem?_eq_some_iff.1 hy).1
        rw [hlen] at this
        exact this
      obtain rfl : f k = y := by
        rw [List.getElem?_map, List.getElem?_range hk] at hy
        simpa using hy
      obtain ⟨cs', c1, c2, c3⟩ := hf k hk
      refine ⟨cs', c1, c2, fun j u hj => ?_⟩
      have := c3 j u hj
      rw [Addr.add_lit, Addr.add_lit] at this
      exact this
end

/-! ### the data -/
/-- A rule of a device. -/
structure NRule where
  ok : Bool
  a : Nat
  b : Nat
  c : Nat
  d : Nat
  ha : a < 65536
  hb : b < 65536
  hc : c < 256
  hd : d < 256
/-- A route of a device. -/
structure NRoute where
  v : Int
  b : Int
  p : Int
structure Dv where
  name : ByteArray
  kind : Int
  addr : Int
  pool : Nat
  backs : List Int
  rules : List NRule
  routes : List NRoute
  hp : pool < 256
  hs : name.size ≤ maxLen
structure Lk where
  a : Int
  p : Int
  b : Int
  q : Int
instance : Inhabited NRule := ⟨⟨false, 0, 0, 0, 0, by omega, by omega, by omega, by omega⟩⟩
instance : Inhabited NRoute := ⟨⟨0, 0, 0⟩⟩
instance : Inhabited Lk := ⟨⟨0, 0, 0, 0⟩⟩
instance : Inhabited Dv := ⟨⟨⟨#[]⟩, 0, 0, 0, [], [], [], by omega, Nat.zero_le _⟩⟩
def IsI (cs : List Value) (x : Int) : Prop := cs = [.int .i64 x]
def IsRule (cs : List Value) (r : NRule) : Prop := cs = [.bool r.ok, .int .u16 (r.a : Int), .int .u16 (r.b : Int), .int .u8 (r.c : Int), .int .u8 (r.d : Int)]
def IsRoute (cs : List Value) (r : NRoute) : Prop := cs = [.int .i64 r.v, .int .i64 r.b, .int .i64 r.p]
def IsLk (cs : List Value) (l : Lk) : Prop := cs = [.int .i64 l.a, .int .i64 l.p, .int .i64 l.b, .int .i64 l.q]
/-- A device's seven cells. -/
def IsDv (base : Nat) (w : World) (cs : List Value) (d : Dv) : Prop :=
  ∃ vb vr vt, cs = [.string d.name, .int .i64 d.kind, .int .i64 d.addr, .int .u8 (d.pool : Int), vb, vr, vt] ∧ SlAt base w 1 IsI vb d.backs ∧ SlAt base w 5 IsRule vr d.rules ∧ SlAt base w 3 IsRoute vt d.routes
theorem IsDv.below {base : Nat} {w w' : World} {cs : List Value} {d : Dv} (h : IsDv base w cs d) (hb : Below base w w') : IsDv base w' cs d := by
  obtain ⟨vb, vr, vt, e, h1, h2, h3⟩ := h
  exact ⟨vb, vr, vt, e, h1.below hb (fun _ _ _ h => h), h2.below hb (fun _ _ _ h => h), h3.below hb (fun _ _ _ h => h)⟩
theorem IsDv.mono {base base' : Nat} {w : World} {cs : List Value} {d : Dv} (h : IsDv base w cs d) (hb : base ≤ base') : IsDv base' w cs d := by
  obtain ⟨vb, vr, vt, e, h1, h2, h3⟩ := h
  exact ⟨vb, vr, vt, e, h1.mono hb (fun _ _ _ h => h), h2.mono hb (fun _ _ _ h => h), h3.mono hb (fun _ _ _ h => h)⟩
/-- The devices of a net, its links. -/
def Devs (base : Nat) (w : World) (v : Value) (ds : List Dv) : Prop := SlAt base w 7 (IsDv base w) v ds
def Links (base : Nat) (w : World) (v : Value) (ls : List Lk) : Prop := SlAt base w 4 IsLk v ls
theorem Devs.below {base : Nat} {w w' : World} {v : Value} {ds : List Dv} (h : Devs base w v ds) (hb : Below base w w') : Devs base w' v ds := SlAt.below h hb (fun _ _ _ h => h.below hb)
theorem Devs.mono {base base' : Nat} {w : World} {v : Value} {ds : List Dv} (h : Devs base w v ds) (hb : base ≤ base') : Devs base' w v ds := SlAt.mono h hb (fun _ _ _ h => h.mono hb)
theorem Links.below {base : Nat} {w w' : World} {v : Value} {ls : List Lk} (h : Links base w v ls) (hb : Below base w w') : Links base w' v ls := SlAt.below h hb (fun _ _ _ h => h)
theorem Links.mono {base base' : Nat} {w : World} {v : Value} {ls : List Lk} (h : Links base w v ls) (hb : base ≤ base') : Links base' w v ls := SlAt.mono h hb (fun _ _ _ h => h)

/-! ### a net that is handed in -/
theorem nInt : Try.prog.cellsOf 3 = 1 := by kernel_rfl
theorem nBool : Try.prog.cellsOf 4 = 1 := by kernel_rfl
theorem nU8 : Try.prog.cellsOf 5 = 1 := by kernel_rfl
theorem nU16 : Try.prog.cellsOf 30 = 1 := by kernel_rfl
theorem nStr : Try.prog.cellsOf 9 = 1 := by kernel_rfl
theorem nMatch : Try.prog.cellsOf 32 = 4 := by kernel_rfl
theorem nRule : Try.prog.cellsOf 34 = 5 := by kernel_rfl
theorem nRoute : Try.prog.cellsOf 38 = 3 := by kernel_rfl
theorem nLink : Try.prog.cellsOf 44 = 4 := by kernel_rfl
theorem nDevice : Try.prog.cellsOf 42 = 7 := by kernel_rfl
theorem nInts : Try.prog.cellsOf 40 = 1 := by kernel_rfl
theorem nRules : Try.prog.cellsOf 36 = 1 := by kernel_rfl
theorem nRoutes : Try.prog.cellsOf 39 = 1 := by kernel_rfl
theorem nDevices : Try.prog.cellsOf 22 = 1 := by kernel_rfl
theorem nLinks : Try.prog.cellsOf 23 = 1 := by kernel_rfl
theorem nNet : Try.prog.cellsOf 25 = 2 := by kernel_rfl
theorem nat_ofN {x : Int} {n : Nat} (h0 : 0 ≤ x) (h1 : x ≤ (n : Int)) : ∃ k : Nat, x = (k : Int) ∧ k < n + 1 := ⟨x.toNat, by omega, by omega⟩
section
variable {H : Type} {enc : TypeId × Value → H} {W : World} {sp : Nat → Bool} {held : Bool} {fuel : Nat} {cs : List Value} {x : DataW H × List MemPlace}
theorem int_openN (h : DataW.trod enc Try.prog W 0 sp held fuel 3 cs = some x) : ∃ y : Int, IsI cs y := by
  obtain ⟨y, e, _⟩ := DataW.trod_int Try.underlying3 h
  exact ⟨y, e⟩
set_option maxRecDepth 100000 in
theorem link_openN (hl : cs.length = 4) (h : DataW.trod enc Try.prog W 0 sp held fuel 44 cs = some x) : ∃ l : Lk, IsLk cs l := by
  obtain ⟨xs, k, hk, hxy, _, hxl, hf⟩ := DataW.trod_struct Try.underlying44 h
  match xs, hxl, cs, hl with
  | [y0, y1, y2, y3], _, [v0, v1, v2, v3], _ =>
    have g0 := hf 0 _ rfl
    have g1 := hf 1 _ rfl
    have g2 := hf 2 _ rfl
    have g3 := hf 3 _ rfl
    simp [nInt] at g0 g1 g2 g3
    obtain ⟨x0, e0, _⟩ := DataW.trod_int Try.underlying3 g0
    obtain ⟨x1, e1, _⟩ := DataW.trod_int Try.underlying3 g1
    obtain ⟨x2, e2, _⟩ := DataW.trod_int Try.underlying3 g2
    obtain ⟨x3, e3, _⟩ := DataW.trod_int Try.underlying3 g3
    simp only [List.cons.injEq, and_true] at e0 e1 e2 e3
    subst e0 e1 e2 e3
    exact ⟨⟨x0, x1, x2, x3⟩, rfl⟩
set_option maxRecDepth 100000 in
theorem route_openN (hl : cs.length = 3) (h : DataW.trod enc Try.prog W 0 sp held fuel 38 cs = some x) : ∃ r : NRoute, IsRoute cs r := by
  obtain ⟨xs, k, hk, hxy, _, hxl, hf⟩ := DataW.trod_struct Try.underlying38 h
  match xs, hxl, cs, hl with
  | [y0, y1, y2], _, [v0, v1, v2], _ =>
    have g0 := hf 0 _ rfl
    have g1 := hf 1 _ rfl
    have g2 := hf 2 _ rfl
    simp [nInt] at g0 g1 g2
    obtain ⟨x0, e0, _⟩ := DataW.trod_int Try.underlying3 g0
    obtain ⟨x1, e1, _⟩ := DataW.trod_int Try.underlying3 g1
    obtain ⟨x2, e2, _⟩ := DataW.trod_int Try.underlying3 g2
    simp only [List.cons.injEq, and_true] at e0 e1 e2
    subst e0 e1 e2
    exact ⟨⟨x0, x1, x2⟩, rfl⟩
set_option maxRecDepth 100000 in
theorem rule_openN (hl : cs.length = 5) (h : DataW.trod enc Try.prog W 0 sp held fuel 34 cs = some x) : ∃ r : NRule, IsRule cs r := by
  obtain ⟨xs, k, hk, hxy, _, hxl, hf⟩ := DataW.trod_struct Try.underlying34 h
  match xs, hxl, cs, hl with
  | [y0, y1], _, [v0, v1, v2, v3, v4], _ =>
    have g0 := hf 0 _ rfl
    have g1 := hf 1 _ rfl
    simp [nBool, nMatch] at g0 g1
    obtain ⟨ok, q0, _⟩ := DataW.trod_bool Try.underlying4 g0
    obtain ⟨xs, k, hk, hxy, _, hxl, hf⟩ := DataW.trod_struct Try.underlying32 g1
    match xs, hxl with
    | [z0, z1, z2, z3], _ =>
      have g0 := hf 0 _ rfl
      have g1 := hf 1 _ rfl
      have g2 := hf 2 _ rfl
      have g3 := hf 3 _ rfl
      simp [nU16, nU8] at g0 g1 g2 g3
      obtain ⟨x0, e0, _, w0⟩ := DataW.trod_int Try.underlying30 g0
      obtain ⟨x1, e1, _, w1⟩ := DataW.trod_int Try.underlying30 g1
      obtain ⟨x2, e2, _, w2⟩ := DataW.trod_int Try.underlying5 g2
      obtain ⟨x3, e3, _, w3⟩ := DataW.trod_int Try.underlying5 g3
      simp only [List.cons.injEq, and_true] at q0 e0 e1 e2 e3
      subst q0 e0 e1 e2 e3
      obtain ⟨na, rfl, la⟩ := nat_ofN (n := 65535) (bounds_u16 w0).1 (bounds_u16 w0).2
      obtain ⟨nb, rfl, lb⟩ := nat_ofN (n := 65535) (bounds_u16 w1).1 (bounds_u16 w1).2
      obtain ⟨nc, rfl, lc⟩ := nat_ofN (n := 255) (bounds_u8 w2).1 (bounds_u8 w2).2
      obtain ⟨nd', rfl, ld⟩ := nat_ofN (n := 255) (bounds_u8 w3).1 (bounds_u8 w3).2
      exact ⟨⟨ok, na, nb, nc, nd', by omega, by omega, by omega, by omega⟩, rfl⟩
set_option maxRecDepth 100000 in
theorem device_openN (hl : cs.length = 7) (h : DataW.trod enc Try.prog W 0 sp held fuel 42 cs = some x) : ∃ d : Dv, IsDv W.heap.size W cs d := by
  obtain ⟨xs, k, hk, hxy, _, hxl, hf⟩ := DataW.trod_struct Try.underlying42 h
  match xs, hxl, cs, hl with
  | [y0, y1, y2, y3, y4, y5, y6], _, [v0, v1, v2, v3, v4, v5, v6], _ =>
    have g0 := hf 0 _ rfl
    have g1 := hf 1 _ rfl
    have g2 := hf 2 _ rfl
    have g3 := hf 3 _ rfl
    have g4 := hf 4 _ rfl
    have g5 := hf 5 _ rfl
    have g6 := hf 6 _ rfl
    simp [nInt, nStr, nU8, nInts, nRules, nRoutes] at g0 g1 g2 g3 g4 g5 g6
    obtain ⟨s, e0, _, ls⟩ := DataW.trod_string Try.underlying9 g0
    obtain ⟨x1, e1, _⟩ := DataW.trod_int Try.underlying3 g1
    obtain ⟨x2, e2, _⟩ := DataW.trod_int Try.underlying3 g2
    obtain ⟨x3, e3, _, w3⟩ := DataW.trod_int Try.underlying5 g3
    obtain ⟨u4, b4, e4, s4⟩ := slice_open (n := 1) (R := IsI) Try.underlying40 nInt (by omega) (fun _ _ _ _ h => int_openN h) g4
    obtain ⟨u5, b5, e5, s5⟩ := slice_open (n := 5) (R := IsRule) Try.underlying36 nRule (by omega) (fun _ _ _ hl h => rule_openN hl h) g5
    obtain ⟨u6, b6, e6, s6⟩ := slice_open (n := 3) (R := IsRoute) Try.underlying39 nRoute (by omega) (fun _ _ _ hl h => route_openN hl h) g6
    simp only [List.cons.injEq, and_true] at e0 e1 e2 e3 e4 e5 e6
    subst e0 e1 e2 e3 e4 e5 e6
    obtain ⟨nc, rfl, lc⟩ := nat_ofN (n := 255) (bounds_u8 w3).1 (bounds_u8 w3).2
    exact ⟨⟨s, x1, x2, nc, b4, b5, b6, by omega, ls⟩, _, _, _, rfl, s4, s5, s6⟩
set_option maxRecDepth 100000 in
/-- A net that is handed in. -/
theorem net_open {r : Reach} {b0 : Nat} {v : Value} {d : DataW H} {p : List MemPlace} (hv : Value.okWide Try.prog W r b0 25 v) (h : DataW.Trod enc Try.prog W 0 sp held 25 v d p) :
    ∃ vd vl ds ls, v = .agg #[vd, vl] ∧ Devs W.heap.size W vd ds ∧ Links W.heap.size W vl ls := by
  obtain ⟨cs, rfl, hsz⟩ := okWide_struct Try.underlying25 hv
  obtain ⟨fuel, h⟩ := h
  rw [nNet] at hsz
  obtain ⟨l⟩ := cs
  simp only [Value.cells] at h
  obtain ⟨xs, k, hk, hxy, _, hxl, hf⟩ := DataW.trod_struct Try.underlying25 h
  match xs, hxl, l, hsz with
  | [y0, y1], _, [v0, v1], _ =>
    have g0 := hf 0 _ rfl
    have g1 := hf 1 _ rfl
    simp [nDevices, nLinks] at g0 g1
    obtain ⟨u0, ds, e0, s0⟩ := slice_open (n := 7) (R := IsDv W.heap.size W) Try.underlying22 nDevice (by omega) (fun _ _ _ hl h => device_openN hl h) g0
    obtain ⟨u1, ls, e1, s1⟩ := slice_open (n := 4) (R := IsLk) Try.underlying23 nLink (by omega) (fun _ _ _ hl h => link_openN hl h) g1
    simp only [List.cons.injEq, and_true] at e0 e1
    subst e0 e1
    exact ⟨_, _, ds, ls, rfl, s0, s1⟩
end
end Go.Proofs.Ythioedgnambomaa
