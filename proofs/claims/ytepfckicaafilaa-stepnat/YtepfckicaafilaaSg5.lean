/-
  StepNat: a law's state beside its map; how long the map is; the pool's test.
-/
import Derived.Test.YtepfckicaafilaaSg4
namespace Go.Proofs.Ytepfckicaafilaa
open Go.RowKit Go.Maps

theorem uMi : Try.prog.underlying 58 = some (.map 3 24) := by kernel_rfl
section
variable {k e : TypeId} {α β : Type} {E : KeyEnc k α} {V : ElEnc e β} {w w' : World} {b n : Nat} {f : α → Option β}
/-- How long a map is: not nothing, where a key is in it. -/
theorem MapAt.len (h : MapAt E V w b n f) {t : TypeId} (ht : Try.prog.underlying t = some (.map k e)) :
    ∃ z : Nat, (∀ ty, (Builtin.len_ #[t] ty #[.map (some b)]).run Try.prog w = .ok (.int .i64 (z : Int)) w) ∧ ∀ x, E.ok x → (f x).isSome = true → 0 < z := by
  obtain ⟨D, h, r⟩ := h
  refine ⟨Maps.size D, fun ty => h.len ht ty, fun x hx hs => ?_⟩
  have h1 := (r x hx).1
  rw [hs] at h1
  obtain ⟨es, rfl⟩ := h.isMap
  cases es with
  | nil => simp [Maps.has] at h1
  | cons x xs => rw [Maps.size_eq]; simp
end
section
/-- A law's state with a map of its own. -/
structure NSt (w : World) (T : Nat) (X : World → Prop) (m : Mp) (ds : List Dv) (ls : List Lk) (G : Nat) (n : Nat) (M : Mnd) (q : Nat) (F : Int → Option Pk) (W : World) : Prop where
  st : LSt w T X m ds ls n M W
  mp : MapAt intE pktV W G q F
  ne : G ≠ m.f ∧ G ≠ m.o ∧ G ≠ m.k
variable {w W W' : World} {T : Nat} {X : World → Prop} {m : Mp} {ds : List Dv} {ls : List Lk} {G n q : Nat} {M : Mnd} {F : Int → Option Pk}
theorem NSt.keep (hX : Hid (∀ W W', KT T W W' → X W → X W')) (h : NSt w T X m ds ls G n M q F W) (hb : Below W.heap.size W W') : NSt w T X m ds ls G n M q F W' := ⟨h.st.keep hX hb, h.mp.same (hb.block G h.mp.lt), h.ne⟩
theorem NSt.alloc (hX : Hid (∀ W W', KT T W W' → X W → X W')) (h : NSt w T X m ds ls G n M q F W) (o : Obj) : NSt w T X m ds ls G n M q F (W.alloc o) := h.keep hX ((Below.refl _ _).alloc (Nat.le_refl _) o)
theorem NSt.drew (hX : Hid (∀ W W', KT T W W' → X W → X W')) (h : NSt w T X m ds ls G n M q F W) : NSt w T X m ds ls G n M q F W.drew := h.keep hX (Below.refl _ _).drew
theorem NSt.set6 (hX : Hid (∀ W W', KT T W W' → X W → X W')) (h : NSt w T X m ds ls G n M q F W) {k : Nat} (z : ZB T k W) (hw : w.heap.size ≤ T) (u0 u1 u2 u3 u4 u5 : Value) : NSt w T X m ds ls G n M q F ((((((W.setCell ⟨k, 0, none⟩ u0).setCell ⟨k, 1, none⟩ u1).setCell ⟨k, 2, none⟩ u2).setCell ⟨k, 3, none⟩ u3).setCell ⟨k, 4, none⟩ u4).setCell ⟨k, 5, none⟩ u5) := by
  refine ⟨h.st.set6 hX z.2 (Nat.le_trans hw z.2) u0 u1 u2 u3 u4 u5, h.mp.same (set6_block (fun e => ?_) u0 u1 u2 u3 u4 u5), h.ne⟩
  obtain ⟨es, c, hg⟩ := h.mp.isMap
  have := z.1
  unfold Bk at this
  rw [← e, hg] at this
  cases this
theorem NSt.handle (hX : Hid (∀ W W', KT T W W' → X W → X W')) (i o : Int) (p : Pk) (c : Int) (h : NSt w T X m ds ls G n M q F W) (hn : n < maxLen) (ha : AddrsOk ds) (hi : i64ok i) (hc : i64ok c) {r : HR} (hr : handleP ds ls M i o p c = r) :
    Calls Try.prog 10 #[.pointer (some ⟨m.B, 0, none⟩), plA i o, pkV p, .int .i64 c] W fun e w' => e = .returned (.tuple #[arV r.tp r.p, .int .i64 r.err]) ∧ NSt w T X m ds ls G (n + 1) r.M q F w' ∧ CK W w' :=
  (handle_h hX i o p c h.st hn ha hi hc hr).mono fun _ _ ⟨h1, h2, h3⟩ => ⟨h1, ⟨h2, h.mp.hk h3 h.ne.1 h.ne.2.1 h.ne.2.2, h.ne⟩, h.st.mem.ck h3⟩
/-- An entry is put into the law's map. -/
theorem NSt.store (hX : Hid (∀ W W', KT T W W' → X W → X W')) (h : NSt w T X m ds ls G n M q F W) (hG : w.heap.size ≤ G) (hq : q < maxLen) {k : Int} (hk : i64ok k) (v : Pk) :
    ∃ w', (Instr.mapUpdate 58 (.map (some G)) (.int .i64 k) (pkV v)).run Try.prog W = .ok () w' ∧ NSt w T X m ds ls G n M (q + 1) (putF F k v) w' ∧ CK W w' := by
  obtain ⟨w', hr, hm, ht⟩ := h.mp.store uMi hq (x := k) hk v
  refine ⟨w', hr, ⟨h.st.mapput hX h.mp.isMap h.ne.1 h.ne.2.1 h.ne.2.2 (fun b hb => mapTurned_block ht hb) ?_ ?_, hm, h.ne⟩, CK.of_turned ht⟩
  · exact mapTurned_size ht
  · have hz : W.heap.size ≤ w'.heap.size := by rw [mapTurned_size ht]; omega
    obtain ⟨es, c, es', c', hb, rfl⟩ := id ht
    exact h.st.below.trans ⟨rfl, rfl, rfl, hz, fun b hb' => mapTurned_block ht (by have := h.st.below.size; omega)⟩
theorem NSt.look (h : NSt w T X m ds ls G n M q F W) {k : Int} (hk : i64ok k) : (Instr.lookup 58 (.map (some G)) (.int .i64 k) true).run Try.prog W = .ok (.tuple #[pkV ((F k).getD zeroP), .bool (F k).isSome]) W := h.mp.look uMi (x := k) hk
end
/-- The pool's test: a port that is in it. -/
theorem pool_in {pl : Nat} (hp : pl < 256) {k : Nat} (h : pl.testBit k = true) : (Go.bits .and .u8 (((pl / 2 ^ k : Nat) : Int)) 1 == 0) = false := by
  have h1 := pool_bit pl hp k
  rw [h] at h1
  rw [beq_iff_eq.1 h1]
  rfl
end Go.Proofs.Ytepfckicaafilaa
