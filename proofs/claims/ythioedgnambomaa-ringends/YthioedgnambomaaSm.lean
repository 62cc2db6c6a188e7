/-
  Maps of a call's own, as functions: keys and elements of package step.
-/
import Derived.Test.YthioedgnambomaaProg
import Derived.Maps.OwnSet
import Derived.WalkKit
import Derived.DeepKeys5
namespace Go.Proofs.Ythioedgnambomaa
open Go.RowKit Go.Maps

theorem zeroI (w : World) : (zeroValue 3).run Try.prog w = .ok (.int .i64 0) w := by kernel_rfl
theorem zeroU (w : World) : (zeroValue 108).run Try.prog w = .ok (.agg #[]) w := by kernel_rfl
theorem zeroE (w : World) : (zeroValue 112).run Try.prog w = .ok (.agg #[.int .i64 0, .int .i64 0]) w := by kernel_rfl
theorem laidS : laidOutB Try.prog = true := by kernel_rfl
theorem sizeS : Try.prog.types.size = 150 := by kernel_rfl
theorem cInt : Try.prog.cellsOf 3 = 1 := by kernel_rfl
theorem cPkt : Try.prog.cellsOf 29 = 4 := by kernel_rfl
theorem lawPk : Keyed Try.prog 107 := Keyed.of_law (deep_law_gate (k := 107) laidS (by rw [sizeS]; decide) (by rw [sizeS]; decide) (by kernel_rfl) (by kernel_rfl))
theorem lawPo : Keyed Try.prog 117 := Keyed.of_law (deep_law_gate (k := 117) laidS (by rw [sizeS]; decide) (by rw [sizeS]; decide) (by kernel_rfl) (by kernel_rfl))

/-- How values of α are keys of type k. -/
structure KeyEnc (k : TypeId) (α : Type) where
  enc : α → Value
  ok : α → Prop
  lit : α → Lit
  law : Keyed Try.prog k
  key : ∀ x, ok x → keyOf Try.prog k (enc x) = some (lit x)
  inj : ∀ x y, enc x = enc y → x = y
/-- How values of β are elements of type e. -/
structure ElEnc (e : TypeId) (β : Type) where
  enc : β → Value
  R : Value → Option (DataW Unit × List MemPlace)
  dat : β → DataW Unit
  read : ∀ x, R (enc x) = some (dat x, [])
  inv : ∀ v z, R v = some z → ∃ x, v = enc x ∧ z = (dat x, [])
  inj : ∀ x y, dat x = dat y → x = y
  zero : β
  hz : ∀ w, (zeroValue e).run Try.prog w = .ok (enc zero) w

/-- Block b is a map of at most n entries, which are f. -/
def MapAt {k e : TypeId} {α β : Type} (E : KeyEnc k α) (V : ElEnc e β) (w : World) (b n : Nat) (f : α → Option β) : Prop :=
  ∃ D : DataW Unit, w.ownsMap Try.prog k V.R b n D ∧ ∀ x, E.ok x → Maps.has D (E.lit x) = (f x).isSome ∧ D.atKey (E.lit x) (V.dat V.zero) = V.dat ((f x).getD V.zero)

open Classical in
noncomputable def putF {α β : Type} (f : α → Option β) (x : α) (v : β) : α → Option β := fun y => if y = x then some v else f y
open Classical in
noncomputable def delF {α β : Type} (f : α → Option β) (x : α) : α → Option β := fun y => if y = x then none else f y
theorem putF_same {α β : Type} (f : α → Option β) (x : α) (v : β) : putF f x v x = some v := by simp [putF]
theorem putF_other {α β : Type} (f : α → Option β) {x y : α} (v : β) (h : y ≠ x) : putF f x v y = f y := by simp [putF, h]
theorem delF_same {α β : Type} (f : α → Option β) (x : α) : delF f x x = none := by simp [delF]
theorem delF_other {α β : Type} (f : α → Option β) {x y : α} (h : y ≠ x) : delF f x y = f y := by simp [delF, h]
theorem putF_id {α β : Type} (f : α → Option β) {x : α} {v : β} (h : f x = some v) : putF f x v = f := by
  funext y
  by_cases e : y = x
  · subst e; rw [putF_same, h]
  · rw [putF_other f v e]

section
variable {k e : TypeId} {α β : Type} {E : KeyEnc k α} {V : ElEnc e β} {w w' : World} {b n : Nat} {f : α → Option β}

theorem MapAt.lt (h : MapAt E V w b n f) : b < w.heap.size := by
  obtain ⟨D, h, _⟩ := h
  exact h.lt
theorem MapAt.isMap (h : MapAt E V w b n f) : ∃ es clock, w.heap[b]? = some (.map es clock) := by
  obtain ⟨D, ⟨es, clock, hb, _⟩, _⟩ := h
  exact ⟨es, clock, hb⟩
theorem MapAt.mono (h : MapAt E V w b n f) {n' : Nat} (hn : n ≤ n') : MapAt E V w b n' f := by
  obtain ⟨D, h, r⟩ := h
  exact ⟨D, h.mono hn, r⟩
theorem MapAt.same (h : MapAt E V w b n f) (hb : w'.heap[b]? = w.heap[b]?) : MapAt E V w' b n f := by
  obtain ⟨D, ⟨es, clock, h1, r⟩, r'⟩ := h
  exact ⟨D, ⟨es, clock, hb.trans h1, r⟩, r'⟩
theorem mapAt_made (E : KeyEnc k α) (V : ElEnc e β) (w : World) : MapAt E V (w.alloc (.map #[] 0)) w.heap.size 0 (fun _ => none) :=
  ⟨.map [], World.ownsMap_made w _ _ _, fun _ _ => ⟨rfl, rfl⟩⟩
theorem MapAt.look (h : MapAt E V w b n f) {t : TypeId} (ht : Try.prog.underlying t = some (.map k e)) {x : α} (hx : E.ok x) :
    (Instr.lookup t (.map (some b)) (E.enc x) true).run Try.prog w = .ok (.tuple #[V.enc ((f x).getD V.zero), .bool (f x).isSome]) w := by
  obtain ⟨D, h, r⟩ := h
  obtain ⟨v, ps, hrun, hv⟩ := h.look_ok E.law ht (V.hz w) (V.read V.zero) (E.key x hx)
  rw [(r x hx).2] at hv
  obtain ⟨y, rfl, hy⟩ := V.inv _ _ hv
  simp only [Prod.mk.injEq] at hy
  rw [hrun, (r x hx).1, V.inj _ _ hy.1]
theorem MapAt.store (h : MapAt E V w b n f) {t : TypeId} (ht : Try.prog.underlying t = some (.map k e)) (hn : n < maxLen) {x : α} (hx : E.ok x) (v : β) :
    ∃ w', (Instr.mapUpdate t (.map (some b)) (E.enc x) (V.enc v)).run Try.prog w = .ok () w' ∧ MapAt E V w' b (n + 1) (putF f x v) ∧ w.mapTurned w' b := by
  obtain ⟨D, h, r⟩ := h
  obtain ⟨w', hrun, hown, hgrow⟩ := h.store E.law ht hn (E.key x hx) (V.read v)
  refine ⟨w', hrun, ⟨_, hown, fun y hy => ?_⟩, hgrow⟩
  by_cases e : y = x
  · subst e
    rw [has_put_same h.isMap (E.law.key (E.key y hy)), atKey_put_same h.isMap (E.law.key (E.key y hy)), putF_same]
    exact ⟨rfl, rfl⟩
  · have hne : E.lit y ≠ E.lit x := fun hl => by
      have k1 := E.key y hy
      rw [hl] at k1
      exact e (E.inj _ _ (E.law.inj k1 (E.key x hx)))
    rw [has_put_other hne, atKey_put_other hne, putF_other f v e]
    exact r y hy
theorem MapAt.drop (h : MapAt E V w b n f) {t : TypeId} (ht : Try.prog.underlying t = some (.map k e)) {x : α} (hx : E.ok x) (ty : TypeId) :
    ∃ w', (Builtin.delete_ #[t, k] ty #[.map (some b), E.enc x]).run Try.prog w = .ok (.tuple #[]) w' ∧ MapAt E V w' b n (delF f x) ∧ w.mapTurned w' b := by
  obtain ⟨D, h, r⟩ := h
  obtain ⟨w', hrun, hown, hgrow⟩ := h.drop E.law ht (E.key x hx) ty
  refine ⟨w', hrun, ⟨_, hown, fun y hy => ?_⟩, hgrow⟩
  by_cases e : y = x
  · subst e
    rw [has_del_same, atKey_del_same, delF_same]
    exact ⟨rfl, rfl⟩
  · have hne : E.lit y ≠ E.lit x := fun hl => by
      have k1 := E.key y hy
      rw [hl] at k1
      exact e (E.inj _ _ (E.law.inj k1 (E.key x hx)))
    rw [has_del_other hne, atKey_del_other hne, delF_other f e]
    exact r y hy
theorem MapAt.cloned (h : MapAt E V w b n f) {es : Array MapEntry} {clock : Nat} (hb : w.heap[b]? = some (.map es clock)) : MapAt E V (w.alloc (.map es clock)) w.heap.size n f := by
  obtain ⟨D, ⟨es', clock', h1, r⟩, r'⟩ := h
  rw [hb] at h1
  simp only [Option.some.injEq, Obj.map.injEq] at h1
  obtain ⟨rfl, rfl⟩ := h1
  exact ⟨D, ⟨es, clock, (MapKept.heap_alloc w _).1, r⟩, r'⟩
end

/-! ### packets, keys, elements -/
structure Pk where
  s : Int
  d : Int
  sp : Int
  dp : Int
def i64ok (n : Int) : Prop := (Lit.int .i64 n).wf = true
theorem i64ok_of {n : Int} (h : -9223372036854775808 ≤ n) (h' : n < 9223372036854775808) : i64ok n := WalkArith.wf_i64 (by omega)
structure Pk.ok (p : Pk) : Prop where
  s : i64ok p.s
  d : i64ok p.d
  sp : i64ok p.sp
  dp : i64ok p.dp
abbrev pkV (p : Pk) : Value := .agg #[.int .i64 p.s, .int .i64 p.d, .int .i64 p.sp, .int .i64 p.dp]
abbrev pofV (x : Int × Pk) : Value := .agg #[.int .i64 x.1, .int .i64 x.2.s, .int .i64 x.2.d, .int .i64 x.2.sp, .int .i64 x.2.dp]
abbrev prtV (x : Int × Int) : Value := .agg #[.int .i64 x.1, .int .i64 x.2]
def pofOk (x : Int × Pk) : Prop := i64ok x.1 ∧ x.2.ok
def prtOk (x : Int × Int) : Prop := i64ok x.1 ∧ i64ok x.2
theorem pofV_inj (x y : Int × Pk) (h : pofV x = pofV y) : x = y := by
  obtain ⟨a, b, c, d, e⟩ := x
  obtain ⟨a', b', c', d', e'⟩ := y
  simp at h
  obtain ⟨rfl, rfl, rfl, rfl, rfl⟩ := h
  rfl
theorem prtV_inj (x y : Int × Int) (h : prtV x = prtV y) : x = y := by
  obtain ⟨a, b⟩ := x
  obtain ⟨a', b'⟩ := y
  simp at h
  obtain ⟨rfl, rfl⟩ := h
  rfl
noncomputable def litOfS (k : TypeId) (v : Value) : Lit := (keyOf Try.prog k v).getD (.bool false)
theorem litOfS_some {k : TypeId} {v : Value} (hs : (keyOf Try.prog k v).isSome = true) : keyOf Try.prog k v = some (litOfS k v) := by
  unfold litOfS
  cases hk : keyOf Try.prog k v with
  | none => rw [hk] at hs; cases hs
  | some l => rfl
theorem fuelS : ∃ m, Try.prog.types.size + 1 = m + 3 := ⟨150 - 2, by rw [sizeS]⟩
theorem keyPo (n : Int × Int) (h : prtOk n) : keyOf Try.prog 117 (prtV n) = some (litOfS 117 (prtV n)) := by
  obtain ⟨w1, w2⟩ := h
  unfold i64ok at w1 w2
  obtain ⟨m, hm⟩ := fuelS
  refine litOfS_some ?_
  unfold keyOf
  simp only [Try.underlying117]
  rw [if_pos (by kernel_rfl), hm]
  unfold Program.keyLits
  simp only [Try.underlying117, Value.cells]
  rw [if_pos ⟨by kernel_rfl, by kernel_rfl⟩]
  simp [Program.keyLits, Try.underlying3, w1, w2, cInt]
theorem keyPk (n : Int × Pk) (h : pofOk n) : keyOf Try.prog 107 (pofV n) = some (litOfS 107 (pofV n)) := by
  obtain ⟨w1, ⟨w2, w3, w4, w5⟩⟩ := h
  unfold i64ok at w1 w2 w3 w4 w5
  obtain ⟨m, hm⟩ := fuelS
  refine litOfS_some ?_
  unfold keyOf
  simp only [Try.underlying107]
  rw [if_pos (by kernel_rfl), hm]
  unfold Program.keyLits
  simp only [Try.underlying107, Value.cells]
  rw [if_pos ⟨by kernel_rfl, by kernel_rfl⟩]
  have hi : Try.prog.keyLits (m + 2) 3 [.int .i64 n.1] = some [.int .i64 n.1] := by
    simp [Program.keyLits, Try.underlying3, w1]
  have hp : Try.prog.keyLits (m + 2) 29 [.int .i64 n.2.s, .int .i64 n.2.d, .int .i64 n.2.sp, .int .i64 n.2.dp] = some [.int .i64 n.2.s, .int .i64 n.2.d, .int .i64 n.2.sp, .int .i64 n.2.dp] := by
    unfold Program.keyLits
    simp only [Try.underlying29]
    rw [if_pos ⟨by kernel_rfl, by kernel_rfl⟩]
    simp [Program.keyLits, Try.underlying3, w2, w3, w4, w5, cInt]
  simp [hi, hp, cInt, cPkt]
noncomputable def pofE : KeyEnc 107 (Int × Pk) := ⟨pofV, pofOk, fun n => litOfS 107 (pofV n), lawPk, keyPk, pofV_inj⟩
noncomputable def prtE : KeyEnc 117 (Int × Int) := ⟨prtV, prtOk, fun n => litOfS 117 (prtV n), lawPo, keyPo, prtV_inj⟩

def intR : Value → Option (DataW Unit × List MemPlace)
  | .int .i64 a => some (.lit (.int .i64 a), [])
  | _ => none
theorem intR_inv (v : Value) (z : DataW Unit × List MemPlace) (h : intR v = some z) : ∃ x : Int, v = .int .i64 x ∧ z = (.lit (.int .i64 x), []) := by
  unfold intR at h
  split at h
  · cases h; exact ⟨_, rfl, rfl⟩
  · cases h
def intV : ElEnc 3 Int := ⟨fun x => .int .i64 x, intR, fun x => .lit (.int .i64 x), fun _ => rfl, intR_inv, fun x y h => by simpa using h, 0, zeroI⟩
def unitV : ElEnc 108 Unit := ⟨fun _ => .agg #[], unitElem, fun _ => .agg [], fun _ => unitElem_mk, fun _ _ h => ⟨(), (unitElem_inv h).1, (unitElem_inv h).2⟩, fun _ _ _ => rfl, (), zeroU⟩
def twoR : List Value → Option (DataW Unit × List MemPlace)
  | [.int .i64 a, .int .i64 b] => some (.agg [.lit (.int .i64 a), .lit (.int .i64 b)], [])
  | _ => none
theorem twoR_inv (l : List Value) (z : DataW Unit × List MemPlace) (h : twoR l = some z) : ∃ x : Int × Int, l = [.int .i64 x.1, .int .i64 x.2] ∧ z = (.agg [.lit (.int .i64 x.1), .lit (.int .i64 x.2)], []) := by
  unfold twoR at h
  split at h
  · cases h; exact ⟨(_, _), rfl, rfl⟩
  · cases h
def endR : Value → Option (DataW Unit × List MemPlace)
  | .agg cs => twoR cs.toList
  | _ => none
theorem endR_inv (v : Value) (z : DataW Unit × List MemPlace) (h : endR v = some z) : ∃ x : Int × Int, v = prtV x ∧ z = (.agg [.lit (.int .i64 x.1), .lit (.int .i64 x.2)], []) := by
  unfold endR at h
  split at h
  · rename_i cs
    obtain ⟨x, e, rfl⟩ := twoR_inv _ _ h
    refine ⟨x, ?_, rfl⟩
    rw [prtV, ← e]
  · cases h
def endV : ElEnc 112 (Int × Int) := ⟨prtV, endR, fun x => .agg [.lit (.int .i64 x.1), .lit (.int .i64 x.2)], fun _ => rfl, endR_inv, fun x y h => by
  obtain ⟨a, b⟩ := x
  obtain ⟨c, d⟩ := y
  simpa using h, (0, 0), zeroE⟩
end Go.Proofs.Ythioedgnambomaa
