/-
  Nets: what is said of them, apart from any program: ports, the other end of a link, what a check tells; counting of ends.
-/
import Derived.Test.YthioedgnambomaaNt
import Derived.Test.YthioedgnambomaaRt
namespace Go.Proofs.Ythioedgnambomaa
open Go.RowKit

theorem chnN {W0 W w' : World} (hb : Below W.heap.size W w') (h : Below W0.heap.size W0 W) : Below W0.heap.size W0 w' := h.trans (hb.mono h.size)
theorem Below.alN {W0 w : World} (h : Below W0.heap.size W0 w) (o : Obj) : Below W0.heap.size W0 (w.alloc o) := h.alloc h.size o
/-- How many ports a device of a kind has. -/
def portsV (k : Int) : Int := if k = 1 then 1 else if k = 2 then 4 else if k = 3 ∨ k = 4 ∨ k = 5 then 2 else 0

/-- The other end of a link, if it ends at a place. -/
def endOf (l : Lk) (d p : Int) : Option (Int × Int) := if (l.a == d) && (l.p == p) then some (l.b, l.q) else if (l.b == d) && (l.q == p) then some (l.a, l.p) else none
def peerF : List Lk → Int → Int → Option (Int × Int)
  | [], _, _ => none
  | l :: ls, d, p => (endOf l d p).or (peerF ls d p)
theorem peerF_drop {ls : List Lk} {k : Nat} {l : Lk} (h : ls[k]? = some l) (d p : Int) : peerF (ls.drop k) d p = (endOf l d p).or (peerF (ls.drop (k + 1)) d p) := by
  obtain ⟨hk, e⟩ := List.getElem?_eq_some_iff.1 h
  rw [List.drop_eq_getElem_cons hk, e]
  rfl
abbrev placeV : Option (Int × Int) → Value
  | some x => .agg #[.int .i64 x.1, .int .i64 x.2]
  | none => .agg #[.int .i64 0, .int .i64 0]
theorem Links.at {base : Nat} {w : World} {A : Option Addr} {n cap : Nat} {ls : List Lk} (h : Links base w (.slice A n cap) ls) {k : Nat} {l : Lk} (hk : ls[k]? = some l) :
    ∃ b o, A = some ⟨b, o, none⟩ ∧ b < base ∧ w.cell? ⟨b, o + k * 4, none⟩ = some (.int .i64 l.a) ∧ w.cell? ⟨b, o + k * 4 + 1, none⟩ = some (.int .i64 l.p) ∧ w.cell? ⟨b, o + k * 4 + 2, none⟩ = some (.int .i64 l.b) ∧ w.cell? ⟨b, o + k * 4 + 3, none⟩ = some (.int .i64 l.q) := by
  obtain ⟨A', cap', e, _, _, _, h3⟩ := h
  cases e
  obtain ⟨b, o, ea, hl, hr⟩ := h3 (fun e => by subst e; simp at hk)
  obtain ⟨cs, _, rfl, hc⟩ := hr k l hk
  exact ⟨b, o, ea, hl, hc 0 _ rfl, hc 1 _ rfl, hc 2 _ rfl, hc 3 _ rfl⟩
theorem Links.len {base : Nat} {w : World} {A : Option Addr} {n cap : Nat} {ls : List Lk} (h : Links base w (.slice A n cap) ls) : n = ls.length ∧ n ≤ cap ∧ cap ≤ maxLen := by
  obtain ⟨A', cap', e, _, h1, h2, _⟩ := h
  cases e
  exact ⟨rfl, h1, h2⟩
/-- Two cells in a block of a call's own. -/
def Box2 (w : World) (n : Nat) (x y : Value) : Prop := n < w.heap.size ∧ w.cell? ⟨n, 0, none⟩ = some x ∧ w.cell? ⟨n, 1, none⟩ = some y ∧ w.frozen? ⟨n, 0, none⟩ = false ∧ w.frozen? ⟨n, 1, none⟩ = false
theorem Box2.below {B : Nat} {W w' : World} {n : Nat} {x y : Value} (h : Box2 W n x y) (hb : Below B W w') (hB : n < B) : Box2 w' n x y :=
  ⟨Nat.lt_of_lt_of_le h.1 hb.size, (hb.cell (p := ⟨n, 0, none⟩) hB).trans h.2.1, (hb.cell (p := ⟨n, 1, none⟩) hB).trans h.2.2.1, (hb.frozen (p := ⟨n, 0, none⟩) hB).trans h.2.2.2.1, (hb.frozen (p := ⟨n, 1, none⟩) hB).trans h.2.2.2.2⟩
theorem Box2.alloc {w : World} {n : Nat} {x y : Value} (h : Box2 w n x y) (o : Obj) : Box2 (w.alloc o) n x y := h.below ((Below.refl _ _).alloc (Nat.le_refl _) o) h.1
theorem box2_new (w : World) (x y : Value) (t : TypeId) : Box2 (w.alloc (.cells #[x, y] t)) w.heap.size x y := ⟨by simp, by simp [go_sem], by simp [go_sem], by simp [go_sem], by simp [go_sem]⟩


/-- Is a back wrong, from number k on? -/
def backsFrom (bs : List Int) (ad : Int) (k : Nat) : Int :=
  if h : k < bs.length then (if (decide (0 ≤ bs[k]) && decide (bs[k] ≤ 15)) && !(bs[k] == ad) && !((bs.take k).any (fun y => y == bs[k])) then backsFrom bs ad (k + 1) else 1) else 0
termination_by bs.length - k
theorem backsFrom_at {bs : List Int} {ad : Int} {k : Nat} {x : Int} (h : bs[k]? = some x) : backsFrom bs ad k = if (decide (0 ≤ x) && decide (x ≤ 15)) && !(x == ad) && !((bs.take k).any (fun y => y == x)) then backsFrom bs ad (k + 1) else 1 := by
  obtain ⟨hk, e⟩ := List.getElem?_eq_some_iff.1 h
  rw [backsFrom, dif_pos hk, e]
theorem backsFrom_end {bs : List Int} {ad : Int} {k : Nat} (h : bs.length ≤ k) : backsFrom bs ad k = 0 := by rw [backsFrom, dif_neg (by omega)]
def hasAddr (k : Int) : Bool := (k == 1) || (k == 4) || (k == 5)
/-- What the document's check tells of a device whose routes' check tells c. -/
def devV (k ad : Int) (pl : Nat) (bs : List Int) (nr nt : Nat) (c : Int) : Int :=
  if !(decide (1 ≤ k) && decide (k ≤ 5)) then 1
  else if (hasAddr k && !(decide (0 ≤ ad) && decide (ad ≤ 15))) || (!hasAddr k && !(ad == 0)) || (decide (0 < pl) != (k == 4)) then 1
  else if 3 < bs.length then 2
  else if (decide (bs.length = 0) == (k == 5)) then 1
  else if backsFrom bs ad 0 = 1 then 1
  else if (decide (0 < nr) && !(k == 2) && !(k == 3)) || (decide (0 < nt) && !(k == 2)) then 1
  else if 8 < nr then 2
  else c
/-- A device's cells in a block of a call's own. -/
def Seven (w : World) (n : Nat) (a b c d e f g : Value) : Prop :=
  n < w.heap.size ∧ w.cell? ⟨n, 0, none⟩ = some a ∧ w.cell? ⟨n, 1, none⟩ = some b ∧ w.cell? ⟨n, 2, none⟩ = some c ∧ w.cell? ⟨n, 3, none⟩ = some d ∧ w.cell? ⟨n, 4, none⟩ = some e ∧ w.cell? ⟨n, 5, none⟩ = some f ∧ w.cell? ⟨n, 6, none⟩ = some g
theorem seven_new (w : World) (a b c d e f g : Value) (t : TypeId) : Seven (w.alloc (.cells #[a, b, c, d, e, f, g] t)) w.heap.size a b c d e f g :=
  ⟨by simp, by simp [go_sem], by simp [go_sem], by simp [go_sem], by simp [go_sem], by simp [go_sem], by simp [go_sem], by simp [go_sem]⟩
theorem Seven.below {B : Nat} {W w' : World} {n : Nat} {a b c d e f g : Value} (h : Seven W n a b c d e f g) (hb : Below B W w') (hB : n < B) : Seven w' n a b c d e f g := by
  obtain ⟨h0, h1, h2, h3, h4, h5, h6, h7⟩ := h
  exact ⟨Nat.lt_of_lt_of_le h0 hb.size, (hb.cell (p := ⟨n, 0, none⟩) hB).trans h1, (hb.cell (p := ⟨n, 1, none⟩) hB).trans h2, (hb.cell (p := ⟨n, 2, none⟩) hB).trans h3, (hb.cell (p := ⟨n, 3, none⟩) hB).trans h4, (hb.cell (p := ⟨n, 4, none⟩) hB).trans h5, (hb.cell (p := ⟨n, 5, none⟩) hB).trans h6, (hb.cell (p := ⟨n, 6, none⟩) hB).trans h7⟩
theorem belowNN {B : Nat} {a w : World} (h : Below B a w) (n : Nat) : Below B a (w.drewN n) := h.trans ⟨rfl, rfl, rfl, Nat.le_refl _, fun _ _ => rfl⟩

theorem Ints.at {base : Nat} {w : World} {A : Option Addr} {n cap : Nat} {bs : List Int} (h : SlAt base w 1 IsI (.slice A n cap) bs) {k : Nat} {x : Int} (hk : bs[k]? = some x) :
    ∃ b o, A = some ⟨b, o, none⟩ ∧ b < base ∧ ∀ j y, bs[j]? = some y → w.cell? ⟨b, o + j, none⟩ = some (.int .i64 y) := by
  obtain ⟨A', cap', e, _, _, _, h3⟩ := h
  cases e
  obtain ⟨b, o, ea, hl, hr⟩ := h3 (fun e => by subst e; simp at hk)
  refine ⟨b, o, ea, hl, fun j y hy => ?_⟩
  obtain ⟨cs, _, rfl, hc⟩ := hr j y hy
  have := hc 0 _ rfl
  rw [Nat.mul_one, Nat.add_zero] at this
  exact this
theorem any_takeI {bs : List Int} {j : Nat} {y x : Int} (h : bs[j]? = some y) : (bs.take (j + 1)).any (fun z => z == x) = ((bs.take j).any (fun z => z == x) || (y == x)) := by
  obtain ⟨hk, e⟩ := List.getElem?_eq_some_iff.1 h
  rw [List.take_succ_eq_append_getElem hk, e]
  simp


/-- Do two links share an end? -/
def meetB (m l : Lk) : Bool := ((m.a == l.a) && (m.p == l.p)) || ((m.a == l.b) && (m.p == l.q)) || ((m.b == l.a) && (m.q == l.p)) || ((m.b == l.b) && (m.q == l.q))
def selfB (l : Lk) : Bool := (l.a == l.b) && (l.p == l.q)
theorem endOf_ends {l : Lk} {d p : Int} {x : Int × Int} (h : endOf l d p = some x) : ((l.a = d ∧ l.p = p) ∧ x = (l.b, l.q)) ∨ ((l.b = d ∧ l.q = p) ∧ x = (l.a, l.p)) := by
  unfold endOf at h
  split at h
  · rename_i hc
    simp only [Bool.and_eq_true, beq_iff_eq] at hc
    exact .inl ⟨hc, (Option.some.inj h).symm⟩
  · split at h
    · rename_i hc
      simp only [Bool.and_eq_true, beq_iff_eq] at hc
      exact .inr ⟨hc, (Option.some.inj h).symm⟩
    · cases h
theorem endOf_from (l : Lk) : endOf l l.a l.p = some (l.b, l.q) := by unfold endOf; simp
theorem endOf_to {l : Lk} (hs : selfB l = false) : endOf l l.b l.q = some (l.a, l.p) := by
  unfold endOf
  unfold selfB at hs
  rw [hs]
  simp
theorem endOf_back {l : Lk} {d p : Int} {x : Int × Int} (hs : selfB l = false) (h : endOf l d p = some x) : endOf l x.1 x.2 = some (d, p) := by
  rcases endOf_ends h with ⟨⟨rfl, rfl⟩, rfl⟩ | ⟨⟨rfl, rfl⟩, rfl⟩
  · exact endOf_to hs
  · exact endOf_from l
/-- A place that is an end of two links: they meet. -/
theorem endOf_meet {m l : Lk} {d p : Int} (h1 : (endOf m d p).isSome) (h2 : (endOf l d p).isSome) : meetB m l = true := by
  obtain ⟨x, hx⟩ := Option.isSome_iff_exists.1 h1
  obtain ⟨y, hy⟩ := Option.isSome_iff_exists.1 h2
  unfold meetB
  rcases endOf_ends hx with ⟨⟨h1, h2⟩, _⟩ | ⟨⟨h1, h2⟩, _⟩ <;> rcases endOf_ends hy with ⟨⟨h3, h4⟩, _⟩ | ⟨⟨h3, h4⟩, _⟩ <;> simp [h1, h2, h3, h4]
theorem peerF_of {ls : List Lk} {d p : Int} {x : Int × Int} (h : peerF ls d p = some x) : ∃ l ∈ ls, endOf l d p = some x := by
  induction ls with
  | nil => simp [peerF] at h
  | cons l ls ih =>
    rw [peerF] at h
    cases he : endOf l d p with
    | some y =>
      rw [he] at h
      exact ⟨l, by simp, by rw [he]; simpa using h⟩
    | none =>
      rw [he] at h
      obtain ⟨m, hm, e⟩ := ih (by simpa using h)
      exact ⟨m, by simp [hm], e⟩
/-- Links none of which has an end of another one, or the same one twice. -/
def Apart (ls : List Lk) : Prop := ls.Pairwise (fun m l => meetB m l = false) ∧ ∀ l ∈ ls, selfB l = false
theorem Apart.tail {l : Lk} {ls : List Lk} (h : Apart (l :: ls)) : Apart ls := ⟨(List.pairwise_cons.1 h.1).2, fun m hm => h.2 m (by simp [hm])⟩
theorem peerF_back {ls : List Lk} (hA : Apart ls) {d p : Int} {x : Int × Int} (h : peerF ls d p = some x) : peerF ls x.1 x.2 = some (d, p) := by
  induction ls with
  | nil => simp [peerF] at h
  | cons l ls ih =>
    rw [peerF] at h
    cases he : endOf l d p with
    | some y =>
      rw [he] at h
      obtain rfl : y = x := by simpa using h
      rw [peerF, endOf_back (hA.2 l (by simp)) he]
      rfl
    | none =>
      rw [he] at h
      have h' : peerF ls d p = some x := by simpa using h
      obtain ⟨m, hm, e⟩ := peerF_of h'
      have hb := endOf_back (hA.2 m (by simp [hm])) e
      have hn : endOf l x.1 x.2 = none := by
        cases hq : endOf l x.1 x.2 with
        | none => rfl
        | some z =>
          have := endOf_meet (m := l) (l := m) (by rw [hq]; rfl) (by rw [hb]; rfl)
          rw [(List.pairwise_cons.1 hA.1).1 m hm] at this
          cases this
      rw [peerF, hn, ih hA.tail h']
      rfl
theorem countP_or {α : Type} (P : List α) (p q : α → Bool) (h : ∀ x ∈ P, ¬ (p x = true ∧ q x = true)) : P.countP (fun x => p x || q x) = P.countP p + P.countP q := by
  induction P with
  | nil => rfl
  | cons x P ih =>
    have := ih (fun y hy => h y (by simp [hy]))
    have hx := h x (by simp)
    rw [List.countP_cons, List.countP_cons, List.countP_cons, this]
    cases hp : p x <;> cases hq : q x <;> simp_all <;> omega
theorem countP_one {P : List (Int × Int)} (hn : P.Nodup) {e : Int × Int} (he : e ∈ P) : P.countP (fun x => x == e) = 1 := by
  have := List.Nodup.count hn (a := e)
  rw [if_pos he] at this
  exact this
theorem countP_ends {P : List (Int × Int)} (hn : P.Nodup) {ls : List Lk} (hA : Apart ls) (hin : ∀ l ∈ ls, (l.a, l.p) ∈ P ∧ (l.b, l.q) ∈ P) : P.countP (fun x => (peerF ls x.1 x.2).isSome) = 2 * ls.length := by
  induction ls with
  | nil => simp [peerF]
  | cons l ls ih =>
    have e1 : (fun x : Int × Int => (peerF (l :: ls) x.1 x.2).isSome) = fun x => (endOf l x.1 x.2).isSome || (peerF ls x.1 x.2).isSome := by
      funext x
      rw [peerF]
      cases endOf l x.1 x.2 <;> simp
    rw [e1, countP_or]
    · rw [ih hA.tail (fun m hm => hin m (by simp [hm]))]
      have e2 : (fun x : Int × Int => (endOf l x.1 x.2).isSome) = fun x => (x == (l.a, l.p)) || (x == (l.b, l.q)) := by
        funext x
        obtain ⟨d, p⟩ := x
        unfold endOf
        have q1 : (((d, p) : Int × Int) == (l.a, l.p)) = ((l.a == d) && (l.p == p)) := by
          rw [Bool.eq_iff_iff]; simp [Prod.ext_iff]; constructor <;> rintro ⟨h1, h2⟩ <;> exact ⟨h1.symm, h2.symm⟩
        have q2 : (((d, p) : Int × Int) == (l.b, l.q)) = ((l.b == d) && (l.q == p)) := by
          rw [Bool.eq_iff_iff]; simp [Prod.ext_iff]; constructor <;> rintro ⟨h1, h2⟩ <;> exact ⟨h1.symm, h2.symm⟩
        rw [q1, q2]
        simp only
        split
        · rename_i h; rw [h]; rfl
        · rename_i h
          split
          · rename_i h2; rw [h2]; simp
          · rename_i h2
            simp [Bool.eq_false_iff.2 h, Bool.eq_false_iff.2 h2]
      rw [e2, countP_or]
      · obtain ⟨h1, h2⟩ := hin l (by simp)
        rw [countP_one hn h1, countP_one hn h2, List.length_cons]
        omega
      · rintro x _ ⟨h1, h2⟩
        have h1 := eq_of_beq h1
        have h2 := eq_of_beq h2
        have hs := hA.2 l (by simp)
        rw [h1] at h2
        simp only [Prod.mk.injEq] at h2
        unfold selfB at hs
        simp [h2.1, h2.2] at hs
    · rintro x _ ⟨h1, h2⟩
      obtain ⟨y, hy⟩ := Option.isSome_iff_exists.1 h2
      obtain ⟨m, hm, e⟩ := peerF_of hy
      have := endOf_meet h1 (l := m) (by rw [e]; rfl)
      rw [(List.pairwise_cons.1 hA.1).1 m hm] at this
      cases this
/-- The places of devices of so many ports. -/
def placesOf (ps : List Nat) (n : Nat) : List (Int × Int) := (List.range n).flatMap fun i => (List.range (ps.getD i 0)).map fun k : Nat => ((i : Int), (k : Int))
theorem placesOf_succ (ps : List Nat) (n : Nat) : placesOf ps (n + 1) = placesOf ps n ++ (List.range (ps.getD n 0)).map fun k : Nat => ((n : Int), (k : Int)) := by
  unfold placesOf
  rw [List.range_succ, List.flatMap_append]
  simp
theorem placesOf_nodup (ps : List Nat) (n : Nat) : (placesOf ps n).Nodup := by
  unfold placesOf List.Nodup
  rw [List.pairwise_flatMap]
  constructor
  · intro i _
    rw [List.pairwise_map]
    refine List.Pairwise.imp ?_ List.pairwise_lt_range
    intro a b h e
    simp only [Prod.mk.injEq] at e
    omega
  · refine List.Pairwise.imp ?_ List.pairwise_lt_range
    intro a b h x hx y hy e
    rw [List.mem_map] at hx hy
    obtain ⟨_, _, rfl⟩ := hx
    obtain ⟨_, _, rfl⟩ := hy
    simp only [Prod.mk.injEq] at e
    omega
theorem placesOf_mem {ps : List Nat} {n i k : Nat} (hi : i < n) (hk : k < ps.getD i 0) : ((i : Int), (k : Int)) ∈ placesOf ps n := by
  unfold placesOf
  rw [List.mem_flatMap]
  exact ⟨i, by simpa using hi, List.mem_map.2 ⟨k, by simpa using hk, rfl⟩⟩
/-- How many of the first k ports of device i are linked. -/
def linked (ls : List Lk) (i k : Nat) : Nat := ((List.range k).map fun k : Nat => ((i : Int), (k : Int))).countP (fun x => (peerF ls x.1 x.2).isSome)
theorem linked_succ (ls : List Lk) (i k : Nat) : linked ls i (k + 1) = linked ls i k + if (peerF ls i k).isSome then 1 else 0 := by
  unfold linked
  rw [List.range_succ, List.map_append, List.countP_append]
  simp [List.countP_cons]
theorem linked_zero (ls : List Lk) (i : Nat) : linked ls i 0 = 0 := rfl
def linkedAll (ps : List Nat) (ls : List Lk) (n : Nat) : Nat := (placesOf ps n).countP (fun x => (peerF ls x.1 x.2).isSome)
theorem linkedAll_succ (ps : List Nat) (ls : List Lk) (n : Nat) : linkedAll ps ls (n + 1) = linkedAll ps ls n + linked ls n (ps.getD n 0) := by
  unfold linkedAll linked
  rw [placesOf_succ, List.countP_append]

/-! ### what a check tells -/
def nameB (c : UInt8) : Bool := (decide (97 ≤ (c.toNat : Int)) && decide ((c.toNat : Int) ≤ 122)) || (decide (48 ≤ (c.toNat : Int)) && decide ((c.toNat : Int) ≤ 57))
def nameOk (s : ByteArray) : Bool := decide (1 ≤ s.size) && decide (s.size ≤ 8) && s.data.toList.all nameB
def rtOf (r : NRoute) : Rt := ⟨r.v, r.b, r.p⟩
/-- What a device's own check tells, its name apart. -/
def devC (d : Dv) : Int := devV d.kind d.addr d.pool d.backs d.rules.length d.routes.length (checkV (d.routes.map rtOf))
def devWrong (ds : List Dv) (k : Nat) (d : Dv) : Int := if nameOk d.name then (if (ds.take k).any (fun x => x.name.toList == d.name.toList) then 5 else devC d) else 3
def devsFrom (ds : List Dv) (k : Nat) : Int :=
  if h : k < ds.length then (if devWrong ds k ds[k] = 0 then devsFrom ds (k + 1) else devWrong ds k ds[k]) else 0
termination_by ds.length - k
theorem devsFrom_at {ds : List Dv} {k : Nat} {d : Dv} (h : ds[k]? = some d) : devsFrom ds k = if devWrong ds k d = 0 then devsFrom ds (k + 1) else devWrong ds k d := by
  obtain ⟨hk, e⟩ := List.getElem?_eq_some_iff.1 h
  rw [devsFrom, dif_pos hk, e]
theorem devsFrom_end {ds : List Dv} {k : Nat} (h : ds.length ≤ k) : devsFrom ds k = 0 := by rw [devsFrom, dif_neg (by omega)]
def kindAt (ds : List Dv) (d : Int) : Int := ((ds[d.toNat]?).map (·.kind)).getD 0
def isPl (ds : List Dv) (d p : Int) : Bool := decide (0 ≤ d) && decide (d < (ds.length : Int)) && decide (0 ≤ p) && decide (p < portsV (kindAt ds d))
def linkWrong (ds : List Dv) (ls : List Lk) (k : Nat) (l : Lk) : Int := if isPl ds l.a l.p && isPl ds l.b l.q then (if selfB l || (ls.take k).any (fun m => meetB m l) then 5 else 0) else 1
def linksFrom (ds : List Dv) (ls : List Lk) (k : Nat) : Int :=
  if h : k < ls.length then (if linkWrong ds ls k ls[k] = 0 then linksFrom ds ls (k + 1) else linkWrong ds ls k ls[k]) else 0
termination_by ls.length - k
theorem linksFrom_at {ds : List Dv} {ls : List Lk} {k : Nat} {l : Lk} (h : ls[k]? = some l) : linksFrom ds ls k = if linkWrong ds ls k l = 0 then linksFrom ds ls (k + 1) else linkWrong ds ls k l := by
  obtain ⟨hk, e⟩ := List.getElem?_eq_some_iff.1 h
  rw [linksFrom, dif_pos hk, e]
theorem linksFrom_end {ds : List Dv} {ls : List Lk} {k : Nat} (h : ls.length ≤ k) : linksFrom ds ls k = 0 := by rw [linksFrom, dif_neg (by omega)]
def netV (ds : List Dv) (ls : List Lk) : Int := if 10 < ds.length ∨ 15 < ls.length then 2 else if devsFrom ds 0 = 0 then linksFrom ds ls 0 else devsFrom ds 0
theorem linksFrom_all {ds : List Dv} {ls : List Lk} : ∀ (m k : Nat), ls.length - k ≤ m → linksFrom ds ls k = 0 → ∀ j l, k ≤ j → ls[j]? = some l → linkWrong ds ls j l = 0
  | 0, k, h, _, j, l, hj, hl => by
    have := (List.getElem?_eq_some_iff.1 hl).1
    omega
  | m + 1, k, h, h0, j, l, hj, hl => by
    have hjl := (List.getElem?_eq_some_iff.1 hl).1
    have hk : k < ls.length := by omega
    rw [linksFrom_at (List.getElem?_eq_getElem hk)] at h0
    split at h0
    · rename_i hw
      by_cases e : j = k
      · subst e
        rw [List.getElem?_eq_getElem hk, Option.some.injEq] at hl
        rw [← hl]
        exact hw
      · exact linksFrom_all m (k + 1) (by omega) h0 j l (by omega) hl
    · rename_i hw
      exact absurd h0 hw
theorem linkWrong_zero {ds : List Dv} {ls : List Lk} {k : Nat} {l : Lk} (h : linkWrong ds ls k l = 0) : isPl ds l.a l.p = true ∧ isPl ds l.b l.q = true ∧ selfB l = false ∧ (ls.take k).any (fun m => meetB m l) = false := by
  unfold linkWrong at h
  split at h
  · rename_i h1
    simp only [Bool.and_eq_true] at h1
    split at h
    · simp at h
    · rename_i h2
      rw [Bool.not_eq_true, Bool.or_eq_false_iff] at h2
      exact ⟨h1.1, h1.2, h2.1, h2.2⟩
  · simp at h
/-- Of a net that the check takes: its links are apart, and their ends are places. -/
theorem netV_links {ds : List Dv} {ls : List Lk} (h : netV ds ls = 0) : ds.length ≤ 10 ∧ ls.length ≤ 15 ∧ Apart ls ∧ ∀ l ∈ ls, isPl ds l.a l.p = true ∧ isPl ds l.b l.q = true := by
  unfold netV at h
  split at h
  · simp at h
  · rename_i hn
    split at h
    · have all := linksFrom_all ls.length 0 (by omega) h
      have each : ∀ l ∈ ls, ∃ k, ls[k]? = some l := fun l hl => by
        obtain ⟨k, hk, e⟩ := List.mem_iff_getElem.1 hl
        exact ⟨k, by rw [List.getElem?_eq_getElem hk, e]⟩
      refine ⟨by omega, by omega, ⟨?_, fun l hl => ?_⟩, fun l hl => ?_⟩
      · rw [List.pairwise_iff_getElem]
        intro i j hi hj hij
        have := (linkWrong_zero (all j _ (Nat.zero_le _) (List.getElem?_eq_getElem hj))).2.2.2
        rw [List.any_eq_false] at this
        have hm := this ls[i] (by
          rw [List.mem_take_iff_getElem]
          exact ⟨i, by omega, rfl⟩)
        simpa using hm
      · obtain ⟨k, hk⟩ := each l hl
        exact (linkWrong_zero (all k _ (Nat.zero_le _) hk)).2.2.1
      · obtain ⟨k, hk⟩ := each l hl
        have := linkWrong_zero (all k _ (Nat.zero_le _) hk)
        exact ⟨this.1, this.2.1⟩
    · rename_i h0
      exact absurd h h0
theorem portsV_nat (k : Int) : ∃ n : Nat, portsV k = (n : Int) ∧ n ≤ 4 := by
  unfold portsV
  split
  · exact ⟨1, rfl, by omega⟩
  · split
    · exact ⟨4, rfl, by omega⟩
    · split
      · exact ⟨2, rfl, by omega⟩
      · exact ⟨0, rfl, by omega⟩
def portsL (ds : List Dv) : List Nat := ds.map fun d => (portsV d.kind).toNat
theorem portsL_at {ds : List Dv} {k : Nat} {d : Dv} (h : ds[k]? = some d) : (portsL ds).getD k 0 = (portsV d.kind).toNat := by
  unfold portsL
  rw [List.getD_eq_getElem?_getD, List.getElem?_map, h]
  rfl
theorem isPl_mem {ds : List Dv} {d p : Int} (h : isPl ds d p = true) : (d, p) ∈ placesOf (portsL ds) ds.length := by
  unfold isPl at h
  simp only [Bool.and_eq_true, decide_eq_true_eq] at h
  obtain ⟨⟨⟨h0, h1⟩, h2⟩, h3⟩ := h
  obtain ⟨i, rfl⟩ : ∃ i : Nat, d = (i : Int) := ⟨d.toNat, by omega⟩
  obtain ⟨k, rfl⟩ : ∃ k : Nat, p = (k : Int) := ⟨p.toNat, by omega⟩
  have hi : i < ds.length := by omega
  have hx : ds[i]? = some ds[i] := List.getElem?_eq_getElem hi
  refine placesOf_mem hi ?_
  rw [portsL_at hx]
  unfold kindAt at h3
  rw [Int.toNat_natCast, hx] at h3
  simp only [Option.map_some, Option.getD_some] at h3
  omega
/-- All ends are met, each once. -/
theorem linkedAll_net {ds : List Dv} {ls : List Lk} (h : netV ds ls = 0) : linkedAll (portsL ds) ls ds.length = 2 * ls.length := by
  obtain ⟨_, _, hA, hp⟩ := netV_links h
  exact countP_ends (placesOf_nodup _ _) hA (fun l hl => ⟨isPl_mem (hp l hl).1, isPl_mem (hp l hl).2⟩)

/-! ### routes of a device -/
theorem routes_of {base : Nat} {w : World} {v : Value} {xs : List NRoute} (h : SlAt base w 3 IsRoute v xs) : Routes base w v (xs.map rtOf) := by
  obtain ⟨A, cap, rfl, h0, h1, h2, h3⟩ := h
  refine ⟨A, cap, by rw [List.length_map], h0, by rw [List.length_map]; exact h1, h2, fun hn => ?_⟩
  obtain ⟨b, o, ea, hl, hr⟩ := h3 (fun e => hn (by rw [e]; rfl))
  refine ⟨b, o, ea, hl, fun j u hj => ?_⟩
  have hjl := (List.getElem?_eq_some_iff.1 hj).1
  rw [cellsT_length, List.length_map] at hjl
  have hk : j / 3 < xs.length := by omega
  have hx : xs[j / 3]? = some xs[j / 3] := List.getElem?_eq_getElem hk
  obtain ⟨cs, _, rfl, hc⟩ := hr _ _ hx
  obtain ⟨c0, c1, c2⟩ := cellsT_at (xs.map rtOf) (j / 3) (rtOf xs[j / 3]) (by rw [List.getElem?_map, hx]; rfl)
  have hm : j % 3 = 0 ∨ j % 3 = 1 ∨ j % 3 = 2 := by omega
  have ej : j = j / 3 * 3 + j % 3 := by omega
  have eo : o + j = o + j / 3 * 3 + j % 3 := by omega
  rw [eo]
  rcases hm with hm | hm | hm
  · have : u = .int .i64 xs[j / 3].v := by
      rw [show j = j / 3 * 3 by omega, c0] at hj
      exact (Option.some.inj hj).symm
    rw [hm, this]
    exact hc 0 _ rfl
  · have : u = .int .i64 xs[j / 3].b := by
      rw [show j = j / 3 * 3 + 1 by omega, c1] at hj
      exact (Option.some.inj hj).symm
    rw [hm, this]
    exact hc 1 _ rfl
  · have : u = .int .i64 xs[j / 3].p := by
      rw [show j = j / 3 * 3 + 2 by omega, c2] at hj
      exact (Option.some.inj hj).symm
    rw [hm, this]
    exact hc 2 _ rfl
end Go.Proofs.Ythioedgnambomaa
