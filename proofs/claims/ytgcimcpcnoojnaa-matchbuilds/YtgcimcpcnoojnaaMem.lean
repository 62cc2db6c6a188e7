/-
  Maps keyed by numbers and by structs, as functions that need not be told everywhere; an arena and a builder in memory.
-/
import Derived.Test.YtgcimcpcnoojnaaPlain
import Derived.Maps.OwnSet
import Derived.WalkKit
import Derived.DeepKeys5
import Derived.Deep.AppendLies
namespace Go.Proofs.Ytgcimcpcnoojnaa
open Go.RowKit Go.Maps

theorem Try.u3 : Try.prog.underlying 3 = some (.int .i64) := by kernel_rfl
theorem Try.u4 : Try.prog.underlying 4 = some .bool := by kernel_rfl
theorem Try.u39 : Try.prog.underlying 89 = some (.map 87 3) := by kernel_rfl
theorem Try.u45 : Try.prog.underlying 115 = some (.map 124 3) := by kernel_rfl
theorem Try.u46 : Try.prog.underlying 117 = some (.map 139 3) := by kernel_rfl
theorem Try.u47 : Try.prog.underlying 116 = some (.map 3 3) := by kernel_rfl
theorem Try.u38 : Try.prog.underlying 88 = some (.slice 87) := by kernel_rfl
theorem zero3 (w : World) : (zeroValue 3).run Try.prog w = .ok (.int .i64 0) w := by kernel_rfl
theorem Try.laidOut : laidOutB Try.prog = true := by kernel_rfl
theorem Try.size : Try.prog.types.size = 161 := by kernel_rfl
theorem law3 : Keyed Try.prog 3 := int_keyed Try.u3
theorem Try.cells3 : Try.prog.cellsOf 3 = 1 := by kernel_rfl
theorem Try.cells4 : Try.prog.cellsOf 4 = 1 := by kernel_rfl
theorem law37 : Keyed Try.prog 87 := Keyed.of_law (deep_law_gate (k := 87) Try.laidOut (by rw [Try.size]; decide) (by rw [Try.size]; decide) (by kernel_rfl) (by kernel_rfl))
theorem law56 : Keyed Try.prog 124 := Keyed.of_law (deep_law_gate (k := 124) Try.laidOut (by rw [Try.size]; decide) (by rw [Try.size]; decide) (by kernel_rfl) (by kernel_rfl))
theorem law62 : Keyed Try.prog 139 := Keyed.of_law (deep_law_gate (k := 139) Try.laidOut (by rw [Try.size]; decide) (by rw [Try.size]; decide) (by kernel_rfl) (by kernel_rfl))

theorem wf_nat {n : Nat} (h : n < 9223372036854775808) : (Lit.int .i64 (n : Int)).wf = true := WalkArith.wf_i64 (by omega)

/-- How values of α are keys of type k. -/
structure KeyEnc (k : TypeId) (α : Type) where
  enc : α → Value
  ok : α → Prop
  lit : α → Lit
  law : Keyed Try.prog k
  key : ∀ x, ok x → keyOf Try.prog k (enc x) = some (lit x)
  inj : ∀ x y, enc x = enc y → x = y

/-- Block b is a map of at most n entries, which are f. -/
def MapIs {k : TypeId} {α : Type} (E : KeyEnc k α) (w : World) (b n : Nat) (f : α → Option Nat) : Prop :=
  ∃ D : DataW Unit, w.ownsMap Try.prog k (plainElem Try.prog 3) b n D ∧ ∀ x, E.ok x → Maps.has D (E.lit x) = (f x).isSome ∧ D.atKey (E.lit x) (.lit (.int .i64 0)) = .lit (.int .i64 (((f x).getD 0 : Nat) : Int))

open Classical in
noncomputable def upd {α : Type} (f : α → Option Nat) (x : α) (v : Nat) : α → Option Nat := fun y => if y = x then some v else f y

section
variable {k : TypeId} {α : Type} {E : KeyEnc k α} {w w' : World} {b n : Nat} {f : α → Option Nat}

theorem MapIs.lt (h : MapIs E w b n f) : b < w.heap.size := by
  obtain ⟨D, h, _⟩ := h
  exact h.lt
theorem MapIs.isMap (h : MapIs E w b n f) : ∃ es clock, w.heap[b]? = some (.map es clock) := by
  obtain ⟨D, ⟨es, clock, hb, _⟩, _⟩ := h
  exact ⟨es, clock, hb⟩
theorem MapIs.mono (h : MapIs E w b n f) {n' : Nat} (hn : n ≤ n') : MapIs E w b n' f := by
  obtain ⟨D, h, r⟩ := h
  exact ⟨D, h.mono hn, r⟩
theorem MapIs.same (h : MapIs E w b n f) (hb : w'.heap[b]? = w.heap[b]?) : MapIs E w' b n f := by
  obtain ⟨D, ⟨es, clock, h1, r⟩, r'⟩ := h
  exact ⟨D, ⟨es, clock, hb.trans h1, r⟩, r'⟩
theorem mapIs_made (E : KeyEnc k α) (w : World) : MapIs E (w.alloc (.map #[] 0)) w.heap.size 0 (fun _ => none) :=
  ⟨.map [], World.ownsMap_made w _ _ _, fun _ _ => ⟨rfl, rfl⟩⟩

theorem MapIs.look (h : MapIs E w b n f) {t : TypeId} (ht : Try.prog.underlying t = some (.map k 3)) {x : α} (hx : E.ok x) :
    (Instr.lookup t (.map (some b)) (E.enc x) true).run Try.prog w = .ok (.tuple #[.int .i64 (((f x).getD 0 : Nat) : Int), .bool (f x).isSome]) w := by
  obtain ⟨D, h, r⟩ := h
  obtain ⟨v, ps, hrun, hv⟩ := h.look_ok E.law ht (zero3 w) (plainElem_int Try.u3 (by decide)) (E.key x hx)
  rw [(r x hx).2] at hv
  obtain ⟨c, rfl, hc, _⟩ := plainElem_int_inv Try.u3 hv
  simp only [Prod.mk.injEq, DataW.lit.injEq, Lit.int.injEq, true_and] at hc
  rw [hrun, (r x hx).1, hc.1]

theorem MapIs.store (h : MapIs E w b n f) {t : TypeId} (ht : Try.prog.underlying t = some (.map k 3)) (hn : n < maxLen) {x : α} (hx : E.ok x) {v : Nat} (hv : v < 9223372036854775808) :
    ∃ w', (Instr.mapUpdate t (.map (some b)) (E.enc x) (.int .i64 (v : Int))).run Try.prog w = .ok () w' ∧ MapIs E w' b (n + 1) (upd f x v) ∧ w.grownBy w' (some b) := by
  obtain ⟨D, h, r⟩ := h
  obtain ⟨w', hrun, hown, hgrow⟩ := h.update E.law ht hn (E.key x hx) (plainElem_int Try.u3 (wf_nat hv))
  refine ⟨w', hrun, ⟨_, hown, fun y hy => ?_⟩, hgrow⟩
  by_cases e : y = x
  · subst e
    rw [has_put_same h.isMap (E.law.key (E.key y hy)), atKey_put_same h.isMap (E.law.key (E.key y hy))]
    simp [upd]
  · have hne : E.lit y ≠ E.lit x := fun hl => by
      have k1 := E.key y hy
      rw [hl] at k1
      exact e (E.inj _ _ (E.law.inj k1 (E.key x hx)))
    rw [has_put_other hne, atKey_put_other hne]
    simp [upd, e, r y hy]
end

def ok3 (n : Nd) : Prop := n.1 < 9223372036854775808 ∧ n.2.1 < 9223372036854775808 ∧ n.2.2 < 9223372036854775808
abbrev agg3 (n : Nd) : Value := .agg #[.int .i64 (n.1 : Int), .int .i64 (n.2.1 : Int), .int .i64 (n.2.2 : Int)]
theorem agg3_inj (x y : Nd) (h : agg3 x = agg3 y) : x = y := by
  obtain ⟨a, b, c⟩ := x
  obtain ⟨d, e, f⟩ := y
  simp at h
  simp
  omega
noncomputable def litOf (k : TypeId) (v : Value) : Lit := (keyOf Try.prog k v).getD (.bool false)
theorem litOf_some {k : TypeId} {v : Value} (hs : (keyOf Try.prog k v).isSome = true) : keyOf Try.prog k v = some (litOf k v) := by
  unfold litOf
  cases hk : keyOf Try.prog k v with
  | none => rw [hk] at hs; cases hs
  | some l => rfl
theorem Try.fuel : ∃ m, Try.prog.types.size + 1 = m + 2 := ⟨160, by rw [Try.size]⟩
theorem key37 (n : Nd) (h : ok3 n) : keyOf Try.prog 87 (agg3 n) = some (litOf 87 (agg3 n)) := by
  obtain ⟨h1, h2, h3⟩ := h
  have w1 := wf_nat h1
  have w2 := wf_nat h2
  have w3 := wf_nat h3
  obtain ⟨m, hm⟩ := Try.fuel
  refine litOf_some ?_
  unfold keyOf
  simp only [Try.underlying87]
  rw [if_pos (by kernel_rfl), hm]
  unfold Program.keyLits
  simp only [Try.underlying87, Value.cells]
  rw [if_pos ⟨by kernel_rfl, by kernel_rfl⟩]
  simp [Program.keyLits, Try.underlying3, w1, w2, w3, Try.cells3]
theorem key56 (n : Nd) (h : ok3 n) : keyOf Try.prog 124 (agg3 n) = some (litOf 124 (agg3 n)) := by
  obtain ⟨h1, h2, h3⟩ := h
  have w1 := wf_nat h1
  have w2 := wf_nat h2
  have w3 := wf_nat h3
  obtain ⟨m, hm⟩ := Try.fuel
  refine litOf_some ?_
  unfold keyOf
  simp only [Try.underlying124]
  rw [if_pos (by kernel_rfl), hm]
  unfold Program.keyLits
  simp only [Try.underlying124, Value.cells]
  rw [if_pos ⟨by kernel_rfl, by kernel_rfl⟩]
  simp [Program.keyLits, Try.underlying3, w1, w2, w3, Try.cells3]

abbrev Mx := Nat × Nat × Bool
def okx (n : Mx) : Prop := n.1 < 9223372036854775808 ∧ n.2.1 < 9223372036854775808
abbrev aggx (n : Mx) : Value := .agg #[.int .i64 (n.1 : Int), .int .i64 (n.2.1 : Int), .bool n.2.2]
theorem aggx_inj (x y : Mx) (h : aggx x = aggx y) : x = y := by
  obtain ⟨a, b, c⟩ := x
  obtain ⟨d, e, f⟩ := y
  simp at h
  obtain ⟨h1, h2, rfl⟩ := h
  simp
  omega
theorem key62 (n : Mx) (h : okx n) : keyOf Try.prog 139 (aggx n) = some (litOf 139 (aggx n)) := by
  obtain ⟨h1, h2⟩ := h
  have w1 := wf_nat h1
  have w2 := wf_nat h2
  obtain ⟨m, hm⟩ := Try.fuel
  refine litOf_some ?_
  unfold keyOf
  simp only [Try.underlying139]
  rw [if_pos (by kernel_rfl), hm]
  unfold Program.keyLits
  simp only [Try.underlying139, Value.cells]
  rw [if_pos ⟨by kernel_rfl, by kernel_rfl⟩]
  simp [Program.keyLits, Try.underlying3, Try.underlying4, w1, w2, Try.cells3, Try.cells4]
noncomputable def nodeE : KeyEnc 87 Nd := ⟨agg3, ok3, fun n => litOf 87 (agg3 n), law37, key37, agg3_inj⟩
noncomputable def choiceE : KeyEnc 124 Nd := ⟨agg3, ok3, fun n => litOf 124 (agg3 n), law56, key56, agg3_inj⟩
noncomputable def mixE : KeyEnc 139 Mx := ⟨aggx, okx, fun n => litOf 139 (aggx n), law62, key62, aggx_inj⟩
noncomputable def intE : KeyEnc 3 Nat := ⟨fun n => .int .i64 (n : Int), fun n => n < 9223372036854775808, fun n => .int .i64 (n : Int), law3, fun _ h => keyOf_int_mk Try.u3 (wf_nat h), fun x y h => by simp at h; omega⟩
end Go.Proofs.Ytgcimcpcnoojnaa


