/-
  Laws of package step: the state between calls; a chain of three devices.
-/
import Derived.Test.YtepfckicaafilaaSd1
import Derived.Test.YtepfckicaafilaaSd2
namespace Go.Proofs.Ytepfckicaafilaa
open Go.RowKit Go.Maps

/-- Below block number T all but maps is as it was. -/
def KT (T : Nat) (W W' : World) : Prop := ∀ b, b < T → (∀ es c, W.heap[b]? ≠ some (.map es c)) → W'.heap[b]? = W.heap[b]?
theorem KT.of_below {T : Nat} {W W' : World} (hb : Below W.heap.size W W') (hT : T ≤ W.heap.size) : KT T W W' := fun b h _ => hb.block b (by omega)
theorem KT.cell {T : Nat} {W W' : World} (h : KT T W W') {b o : Nat} {v : Value} (hb : b < T) (hc : W.cell? ⟨b, o, none⟩ = some v) : W'.cell? ⟨b, o, none⟩ = some v := by
  have e := h b hb (fun es c e => by
    unfold World.cell? at hc
    rw [e] at hc
    cases hc)
  unfold World.cell? at hc ⊢
  rw [e]
  exact hc
theorem SlAt.kt {α : Type} {T k : Nat} {w w' : World} {R R' : List Value → α → Prop} {v : Value} {xs : List α} (h : SlAt T w k R v xs) (hb : KT T w w') (hR : ∀ cs x, x ∈ xs → R cs x → R' cs x) : SlAt T w' k R' v xs := by
  obtain ⟨A, cap, e, h0, h1, h2, h3⟩ := h
  refine ⟨A, cap, e, h0, h1, h2, fun hn => ?_⟩
  obtain ⟨b, o, ea, hl, hr⟩ := h3 hn
  refine ⟨b, o, ea, hl, fun k x hx => ?_⟩
  obtain ⟨cs, c1, c2, c3⟩ := hr k x hx
  exact ⟨cs, c1, hR cs x (List.mem_of_getElem? hx) c2, fun j u hj => hb.cell hl (c3 j u hj)⟩
theorem IsDv.kt {T : Nat} {w w' : World} {cs : List Value} {d : Dv} (h : IsDv T w cs d) (hb : KT T w w') : IsDv T w' cs d := by
  obtain ⟨vb, vr, vt, e, h1, h2, h3⟩ := h
  exact ⟨vb, vr, vt, e, h1.kt hb (fun _ _ _ h => h), h2.kt hb (fun _ _ _ h => h), h3.kt hb (fun _ _ _ h => h)⟩
theorem Devs.kt {T : Nat} {w w' : World} {v : Value} {ds : List Dv} (h : Devs T w v ds) (hb : KT T w w') : Devs T w' v ds := SlAt.kt h hb (fun _ _ _ h => h.kt hb)
theorem Links.kt {T : Nat} {w w' : World} {v : Value} {ls : List Lk} (h : Links T w v ls) (hb : KT T w w') : Links T w' v ls := SlAt.kt h hb (fun _ _ _ h => h)
theorem Bk.kt {T k : Nat} {w w' : World} {c : Array Value} {t : TypeId} (h : Bk w k c t) (hb : KT T w w') (hk : k < T) : Bk w' k c t := (hb k hk (fun es x e => by unfold Bk at h; rw [h] at e; cases e)).trans h
/-- A law's state between calls: a memory, what the law itself holds (X), all that was there. -/
structure LSt (w : World) (T : Nat) (X : World → Prop) (m : Mp) (ds : List Dv) (ls : List Lk) (n : Nat) (M : Mnd) (W : World) : Prop where
  mem : MemAt W m ds ls n M
  dT : Devs T W (.slice m.A ds.length m.cap) ds
  lT : Links T W (.slice m.L ls.length m.cap') ls
  x : X W
  below : Below w.heap.size w W
  tW : T ≤ W.heap.size
  lo : w.heap.size ≤ m.f ∧ w.heap.size ≤ m.o ∧ w.heap.size ≤ m.k
  hi : m.B < T ∧ m.f < T ∧ m.o < T ∧ m.k < T
section
variable {w W W' : World} {T : Nat} {X : World → Prop} {m : Mp} {ds : List Dv} {ls : List Lk} {n n' : Nat} {M M' : Mnd}
theorem LSt.keep (hX : Hid (∀ W W', KT T W W' → X W → X W')) (hb : Below W.heap.size W W') (h : LSt w T X m ds ls n M W) : LSt w T X m ds ls n M W' :=
  have hk := KT.of_below hb h.tW
  ⟨h.mem.below hb, h.dT.kt hk, h.lT.kt hk, hX.out _ _ hk h.x, chnN hb h.below, Nat.le_trans h.tW hb.size, h.lo, h.hi⟩
theorem LSt.alloc (hX : Hid (∀ W W', KT T W W' → X W → X W')) (h : LSt w T X m ds ls n M W) (o : Obj) : LSt w T X m ds ls n M (W.alloc o) := h.keep hX ((Below.refl _ _).alloc (Nat.le_refl _) o)
theorem LSt.drew (hX : Hid (∀ W W', KT T W W' → X W → X W')) (h : LSt w T X m ds ls n M W) : LSt w T X m ds ls n M W.drew := h.keep hX (Below.refl _ _).drew
theorem LSt.hk (hX : Hid (∀ W W', KT T W W' → X W → X W')) (h : LSt w T X m ds ls n M W) (hM : MemAt W' m ds ls n' M') (hk : HK m W W') : LSt w T X m ds ls n' M' W' := by
  have kt : KT T W W' := fun b hb hn => (h.mem.ck hk).block b hn (Nat.lt_of_lt_of_le hb h.tW)
  refine ⟨hM, h.dT.kt kt, h.lT.kt kt, hX.out _ _ kt h.x, h.below.trans ⟨hk.os, hk.tape, hk.output, hk.size, fun b hb => ?_⟩, Nat.le_trans h.tW hk.size, h.lo, h.hi⟩
  obtain ⟨l1, l2, l3⟩ := h.lo
  exact hk.block b (Nat.lt_of_lt_of_le hb h.below.size) (by omega) (by omega) (by omega)
theorem LSt.put (hX : Hid (∀ W W', KT T W W' → X W → X W')) (h : LSt w T X m ds ls n M W) {k : Nat} (hk : T ≤ k) (hF : ∀ b, b ≠ k → W'.heap[b]? = W.heap[b]?) (hs : W'.heap.size = W.heap.size) (hb : Below w.heap.size w W') : LSt w T X m ds ls n M W' := by
  have kt : KT T W W' := fun b hb _ => hF b (by omega)
  obtain ⟨i1, i2, i3, i4⟩ := h.hi
  have tW : T ≤ W'.heap.size := by rw [hs]; exact h.tW
  exact ⟨⟨(hF _ (by omega)).trans h.mem.blk, (h.dT.kt kt).mono tW, (h.lT.kt kt).mono tW, h.mem.fl.same (hF _ (by omega)), h.mem.ow.same (hF _ (by omega)), h.mem.bk.same (hF _ (by omega)), h.mem.fo, h.mem.fk, h.mem.ok⟩, h.dT.kt kt, h.lT.kt kt, hX.out _ _ kt h.x, hb, tW, h.lo, h.hi⟩
theorem LSt.set6 (hX : Hid (∀ W W', KT T W W' → X W → X W')) (h : LSt w T X m ds ls n M W) {k : Nat} (hk : T ≤ k) (hw : w.heap.size ≤ k) (u0 u1 u2 u3 u4 u5 : Value) : LSt w T X m ds ls n M ((((((W.setCell ⟨k, 0, none⟩ u0).setCell ⟨k, 1, none⟩ u1).setCell ⟨k, 2, none⟩ u2).setCell ⟨k, 3, none⟩ u3).setCell ⟨k, 4, none⟩ u4).setCell ⟨k, 5, none⟩ u5) :=
  h.put hX hk (fun b hb => set6_block hb u0 u1 u2 u3 u4 u5) (by simp only [World.setCell, Array.size_modify]) ((((((h.below.setCell (p := ⟨k, 0, none⟩) hw u0).setCell (p := ⟨k, 1, none⟩) hw u1).setCell (p := ⟨k, 2, none⟩) hw u2).setCell (p := ⟨k, 3, none⟩) hw u3).setCell (p := ⟨k, 4, none⟩) hw u4).setCell (p := ⟨k, 5, none⟩) hw u5)
theorem LSt.T_le (h : LSt w T X m ds ls n M W) : w.heap.size ≤ T := by
  have := h.lo
  have := h.hi
  omega
end
/-- A memory that New made, as a law's state. -/
theorem LSt.new {w W : World} {X : World → Prop} {m : Mp} {ds : List Dv} {ls : List Lk} {n : Nat} {M : Mnd} (hM : MemAt W m ds ls n M) (hx : X W) (hb : Below w.heap.size w W) (lo : w.heap.size ≤ m.f ∧ w.heap.size ≤ m.o ∧ w.heap.size ≤ m.k) : LSt w W.heap.size X m ds ls n M W :=
  ⟨hM, hM.devs, hM.links, hx, hb, Nat.le_refl _, lo, ⟨hM.lt, hM.fl.lt, hM.ow.lt, hM.bk.lt⟩⟩
abbrev arZ : Obj := .cells #[.int .i64 0, .int .i64 0, .int .i64 0, .int .i64 0, .int .i64 0, .int .i64 0] 47
/-- A variable for an arrival, new. -/
def ZB (T k : Nat) (W : World) : Prop := Bk W k #[.int .i64 0, .int .i64 0, .int .i64 0, .int .i64 0, .int .i64 0, .int .i64 0] 47 ∧ T ≤ k
theorem zb_new {T : Nat} {W : World} (h : T ≤ W.heap.size) : ZB T W.heap.size (W.alloc arZ) := ⟨bk_new W _ _, h⟩
theorem ZB.keep {T k : Nat} {W W' : World} (hb : Below W.heap.size W W') (h : ZB T k W) : ZB T k W' := ⟨h.1.keep hb, h.2⟩
theorem ZB.drew {T k : Nat} {W : World} (h : ZB T k W) : ZB T k W.drew := h
theorem ZB.ck {T k : Nat} {W W' : World} (h : ZB T k W) (hc : CK W W') : ZB T k W' := ⟨h.1.ck hc, h.2⟩

/-! ### chain, place, all -/
def hostD (nm : ByteArray) (a : Int) (h : nm.size ≤ maxLen) : Dv := ⟨nm, 1, a, 0, [], [], [], by omega, h⟩
def chainD (d : Dv) : List Dv := [hostD ⟨#[105, 110]⟩ 1 (by decide), { d with name := ⟨#[100]⟩, hs := by decide }, hostD ⟨#[111, 117, 116]⟩ 2 (by decide)]
def chainL : List Lk := [⟨0, 0, 1, 0⟩, ⟨1, 1, 2, 0⟩]
theorem checkV_nil : checkV [] = 0 := by
  unfold checkV
  rw [if_neg (by simp), checkFrom_end (by simp)]
theorem backsFrom_nil (ad : Int) : backsFrom [] ad 0 = 0 := by
  unfold backsFrom
  simp
theorem host_ok (nm : ByteArray) (a : Int) (h : nm.size ≤ maxLen) (h0 : 0 ≤ a) (h1 : a ≤ 15) : devC (hostD nm a h) = 0 := by
  unfold devC devV hostD
  simp [hasAddr, checkV_nil, backsFrom_nil, h0, h1]
/-- What Check says of a chain, if its device has two ports. -/
theorem chain_netV (d : Dv) (hk : d.kind = 3 ∨ d.kind = 4 ∨ d.kind = 5) : netV (chainD d) chainL = devC d := by
  have e0 : devWrong (chainD d) 0 (hostD ⟨#[105, 110]⟩ 1 (by decide)) = 0 := by
    unfold devWrong
    rw [if_pos (by decide), if_neg (by simp), host_ok _ _ _ (by omega) (by omega)]
  have e1 : devWrong (chainD d) 1 { d with name := ⟨#[100]⟩, hs := by decide } = devC d := by
    unfold devWrong
    rw [if_pos (show nameOk ⟨#[100]⟩ = true by decide), if_neg]
    · rfl
    · simp [chainD, hostD]
  have e2 : devWrong (chainD d) 2 (hostD ⟨#[111, 117, 116]⟩ 2 (by decide)) = 0 := by
    unfold devWrong
    rw [if_pos (by decide), if_neg, host_ok _ _ _ (by omega) (by omega)]
    simp [chainD, hostD]
  have ld : (chainD d).length = 3 := rfl
  have ll : chainL.length = 2 := rfl
  have pd : portsV d.kind = 2 := by
    unfold portsV
    rcases hk with h | h | h <;> rw [h] <;> rfl
  unfold netV
  rw [if_neg (by rw [ld, ll]; omega)]
  rw [devsFrom_at (d := hostD ⟨#[105, 110]⟩ 1 (by decide)) rfl, if_pos e0, devsFrom_at (d := { d with name := ⟨#[100]⟩, hs := by decide }) rfl, e1]
  by_cases hz : devC d = 0
  · rw [if_pos hz, devsFrom_at (d := hostD ⟨#[111, 117, 116]⟩ 2 (by decide)) rfl, if_pos e2, devsFrom_end (by rw [ld]; omega), if_pos rfl, hz]
    have k0 : kindAt (chainD d) 0 = 1 := rfl
    have k1 : kindAt (chainD d) 1 = d.kind := rfl
    have k2 : kindAt (chainD d) 2 = 1 := rfl
    have p1 : portsV 1 = 1 := rfl
    have l0 : linkWrong (chainD d) chainL 0 ⟨0, 0, 1, 0⟩ = 0 := by
      unfold linkWrong isPl
      simp [ld, k0, k1, pd, p1, selfB]
    have l1 : linkWrong (chainD d) chainL 1 ⟨1, 1, 2, 0⟩ = 0 := by
      unfold linkWrong isPl
      simp [ld, k1, k2, pd, p1, selfB, chainL, meetB]
    rw [linksFrom_at (l := ⟨0, 0, 1, 0⟩) rfl, if_pos l0, linksFrom_at (l := ⟨1, 1, 2, 0⟩) rfl, if_pos l1, linksFrom_end (by rw [ll]; omega)]
  · rw [if_neg hz, if_neg hz]
theorem row21 {w : World} {b : Nat} {d : Dv} {vb vr vt : Value} (h : Bk w b #[.string ⟨#[105, 110]⟩, .int .i64 1, .int .i64 1, .int .u8 0, .slice none 0 0, .slice none 0 0, .slice none 0 0, .string ⟨#[100]⟩, .int .i64 d.kind, .int .i64 d.addr, .int .u8 (d.pool : Int), vb, vr, vt, .string ⟨#[111, 117, 116]⟩, .int .i64 1, .int .i64 2, .int .u8 0, .slice none 0 0, .slice none 0 0, .slice none 0 0] 43)
    (hb : SlAt w.heap.size w 1 IsI vb d.backs) (hr : SlAt w.heap.size w 5 IsRule vr d.rules) (ht : SlAt w.heap.size w 3 IsRoute vt d.routes) : Devs w.heap.size w (.slice (some ⟨b, 0, none⟩) 3 3) (chainD d) := by
  have nil : ∀ {α : Type} (n : Nat) (R : List Value → α → Prop), SlAt w.heap.size w n R (.slice none 0 0) [] := fun n R => ⟨none, 0, rfl, fun _ => rfl, Nat.le_refl _, Nat.zero_le _, fun h => absurd rfl h⟩
  refine ⟨some ⟨b, 0, none⟩, 3, rfl, (fun e => by cases e), Nat.le_refl _, by decide, fun _ => ⟨b, 0, rfl, h.lt, fun k x hx => ?_⟩⟩
  match k, hx with
  | 0, hx =>
    obtain rfl := Option.some.inj hx
    refine ⟨[.string ⟨#[105, 110]⟩, .int .i64 1, .int .i64 1, .int .u8 0, .slice none 0 0, .slice none 0 0, .slice none 0 0], rfl, ⟨_, _, _, rfl, nil _ _, nil _ _, nil _ _⟩, fun j u hj => ?_⟩
    have hj7 : j < 7 := (List.getElem?_eq_some_iff.1 hj).1
    rw [show 0 + 0 * 7 + j = j by omega, h.at]
    match j, hj7, hj with
    | 0, _, hj => exact hj
    | 1, _, hj => exact hj
    | 2, _, hj => exact hj
    | 3, _, hj => exact hj
    | 4, _, hj => exact hj
    | 5, _, hj => exact hj
    | 6, _, hj => exact hj
  | 1, hx =>
    obtain rfl := Option.some.inj hx
    refine ⟨[.string ⟨#[100]⟩, .int .i64 d.kind, .int .i64 d.addr, .int .u8 (d.pool : Int), vb, vr, vt], rfl, ⟨_, _, _, rfl, hb, hr, ht⟩, fun j u hj => ?_⟩
    have hj7 : j < 7 := (List.getElem?_eq_some_iff.1 hj).1
    rw [show 0 + 1 * 7 + j = 7 + j by omega, h.at]
    match j, hj7, hj with
    | 0, _, hj => exact hj
    | 1, _, hj => exact hj
    | 2, _, hj => exact hj
    | 3, _, hj => exact hj
    | 4, _, hj => exact hj
    | 5, _, hj => exact hj
    | 6, _, hj => exact hj
  | 2, hx =>
    obtain rfl := Option.some.inj hx
    refine ⟨[.string ⟨#[111, 117, 116]⟩, .int .i64 1, .int .i64 2, .int .u8 0, .slice none 0 0, .slice none 0 0, .slice none 0 0], rfl, ⟨_, _, _, rfl, nil _ _, nil _ _, nil _ _⟩, fun j u hj => ?_⟩
    have hj7 : j < 7 := (List.getElem?_eq_some_iff.1 hj).1
    rw [show 0 + 2 * 7 + j = 14 + j by omega, h.at]
    match j, hj7, hj with
    | 0, _, hj => exact hj
    | 1, _, hj => exact hj
    | 2, _, hj => exact hj
    | 3, _, hj => exact hj
    | 4, _, hj => exact hj
    | 5, _, hj => exact hj
    | 6, _, hj => exact hj
theorem row8 {w : World} {b : Nat} (h : Bk w b #[.int .i64 0, .int .i64 0, .int .i64 1, .int .i64 0, .int .i64 1, .int .i64 1, .int .i64 2, .int .i64 0] 77) : Links w.heap.size w (.slice (some ⟨b, 0, none⟩) 2 2) chainL := by
  refine ⟨some ⟨b, 0, none⟩, 2, rfl, (fun e => by cases e), Nat.le_refl _, by decide, fun _ => ⟨b, 0, rfl, h.lt, fun k x hx => ?_⟩⟩
  match k, hx with
  | 0, hx =>
    obtain rfl := Option.some.inj hx
    refine ⟨[.int .i64 0, .int .i64 0, .int .i64 1, .int .i64 0], rfl, rfl, fun j u hj => ?_⟩
    have hj7 : j < 4 := (List.getElem?_eq_some_iff.1 hj).1
    rw [show 0 + 0 * 4 + j = j by omega, h.at]
    match j, hj7, hj with
    | 0, _, hj => exact hj
    | 1, _, hj => exact hj
    | 2, _, hj => exact hj
    | 3, _, hj => exact hj
  | 1, hx =>
    obtain rfl := Option.some.inj hx
    refine ⟨[.int .i64 1, .int .i64 1, .int .i64 2, .int .i64 0], rfl, rfl, fun j u hj => ?_⟩
    have hj7 : j < 4 := (List.getElem?_eq_some_iff.1 hj).1
    rw [show 0 + 1 * 4 + j = 4 + j by omega, h.at]
    match j, hj7, hj with
    | 0, _, hj => exact hj
    | 1, _, hj => exact hj
    | 2, _, hj => exact hj
    | 3, _, hj => exact hj
set_option maxHeartbeats 2000000 in
set_option maxRecDepth 100000 in
theorem chain_any (d : Dv) (vb vr vt : Value) (w : World) (hb : SlAt w.heap.size w 1 IsI vb d.backs) (hr : SlAt w.heap.size w 5 IsRule vr d.rules) (ht : SlAt w.heap.size w 3 IsRoute vt d.routes) :
    Calls Try.prog 8 #[.agg #[.string d.name, .int .i64 d.kind, .int .i64 d.addr, .int .u8 (d.pool : Int), vb, vr, vt]] w fun e w' => ∃ b b', e = .returned (.agg #[.slice (some ⟨b, 0, none⟩) 3 3, .slice (some ⟨b', 0, none⟩) 2 2]) ∧ Devs w'.heap.size w' (.slice (some ⟨b, 0, none⟩) 3 3) (chainD d) ∧ Links w'.heap.size w' (.slice (some ⟨b', 0, none⟩) 2 2) chainL ∧ Below w.heap.size w w' := by
  have fin : Hid (∀ (w' : World) (b b' : Nat), Below w.heap.size w w' → Bk w' b #[.string ⟨#[105, 110]⟩, .int .i64 1, .int .i64 1, .int .u8 0, .slice none 0 0, .slice none 0 0, .slice none 0 0, .string ⟨#[100]⟩, .int .i64 d.kind, .int .i64 d.addr, .int .u8 (d.pool : Int), vb, vr, vt, .string ⟨#[111, 117, 116]⟩, .int .i64 1, .int .i64 2, .int .u8 0, .slice none 0 0, .slice none 0 0, .slice none 0 0] 43 → Bk w' b' #[.int .i64 0, .int .i64 0, .int .i64 1, .int .i64 0, .int .i64 1, .int .i64 1, .int .i64 2, .int .i64 0] 77 → Devs w'.heap.size w' (.slice (some ⟨b, 0, none⟩) 3 3) (chainD d) ∧ Links w'.heap.size w' (.slice (some ⟨b', 0, none⟩) 2 2) chainL ∧ Below w.heap.size w w') := fun w' b b' h k1 k2 =>
    ⟨row21 k1 (SlAt.mono (SlAt.below hb h (fun _ _ _ h => h)) h.size (fun _ _ _ h => h)) (SlAt.mono (SlAt.below hr h (fun _ _ _ h => h)) h.size (fun _ _ _ h => h)) (SlAt.mono (SlAt.below ht h (fun _ _ _ h => h)) h.size (fun _ _ _ h => h)), row8 k2, h⟩
  obtain ⟨Ab, cb, rfl, _, _, _, _⟩ := hb
  obtain ⟨Ar, cr, rfl, _, _, _, _⟩ := hr
  obtain ⟨At, ct, rfl, _, _, _, _⟩ := ht
  generalize d.name = nm at *
  generalize d.kind = kd at *
  generalize d.addr = ad at *
  generalize d.pool = pl at *
  generalize d.backs.length = nb at *
  generalize d.rules.length = nr at *
  generalize d.routes.length = nt at *
  go_enter Try.func8, Try.ntmps8
  go_wp2_with fail
  refine bodyPost_ret (v := .agg #[.slice (some ⟨w.heap.size + 1 + 1, 0, none⟩) 3 3, .slice (some ⟨w.heap.size + 1 + 1 + 1, 0, none⟩) 2 2]) (by simp [results, Try.results8, go_sem]) rfl ⟨_, _, rfl, ?_⟩
  exact fin.out _ _ _ (by go_grown) ((bk_new' _ _ _ _ (by simp)).alloc _) (bk_new' _ _ _ _ (by simp))
set_option maxHeartbeats 1000000 in
theorem place_any (x y : Int) (w : World) : Calls Try.prog 11 #[.int .i64 x, .int .i64 y] w fun e w' => e = .returned (plA x y) ∧ Below w.heap.size w w' := by
  go_enter Try.func11, Try.ntmps11
  go_wp2_with fail
  refine bodyPost_ret (v := plA x y) (by simp [results, Try.results11, go_sem]) rfl ⟨rfl, ?_⟩
  exact Below.alN (Below.refl _ _) _
set_option maxHeartbeats 1000000 in
theorem mAll_any (w : World) : Calls Try.prog 22 #[] w fun e w' => e = .returned (.agg #[.int .u16 65535, .int .u16 65535, .int .u8 255, .int .u8 255]) ∧ Below w.heap.size w w' := by
  go_enter Try.func22, Try.ntmps22
  go_wp2_with fail
  refine bodyPost_ret (v := .agg #[.int .u16 65535, .int .u16 65535, .int .u8 255, .int .u8 255]) (by simp [results, Try.results22, go_sem]) rfl ⟨rfl, ?_⟩
  exact Below.alN (Below.refl _ _) _
set_option maxHeartbeats 1000000 in
theorem allR_any (ok : Bool) (w : World) : Calls Try.prog 9 #[.bool ok] w fun e w' => e = .returned (.agg #[.bool ok, .int .u16 65535, .int .u16 65535, .int .u8 255, .int .u8 255]) ∧ Below w.heap.size w w' := by
  have R1 := bk_new w #[.bool false, .int .u16 0, .int .u16 0, .int .u8 0, .int .u8 0] 38
  have D1 := Below.alN (Below.refl w.heap.size w) (.cells #[.bool false, .int .u16 0, .int .u16 0, .int .u8 0, .int .u8 0] 38)
  go_enter Try.func9, Try.ntmps9
  go_wp2_with fail
  refine (mAll_any _).mono ?_
  rintro e w2 ⟨rfl, hb2⟩
  have R2 := R1.keep hb2
  have D2 := chnN hb2 D1
  obtain ⟨r0, r1, r2, r3, r4⟩ := R2.five
  have f0 := R2.fz 0
  have f1 := R2.fz 1
  have f2 := R2.fz 2
  have f3 := R2.fz 3
  have f4 := R2.fz 4
  go_wp2_with fail
  refine bodyPost_ret (v := .agg #[.bool ok, .int .u16 65535, .int .u16 65535, .int .u8 255, .int .u8 255]) (by simp [results, Try.results9, go_sem, r0, r1, r2, r3, r4]) rfl ⟨rfl, ?_⟩
  go_grown
end Go.Proofs.Ytepfckicaafilaa
