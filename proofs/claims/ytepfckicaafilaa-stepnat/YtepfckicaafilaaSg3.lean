/-
  A law's state beside a map of the law's own.
-/
import Derived.Test.YtepfckicaafilaaSg2
namespace Go.Proofs.Ytepfckicaafilaa
open Go.RowKit Go.Maps

section
variable {w W W' : World} {T : Nat} {X : World → Prop} {m : Mp} {ds : List Dv} {ls : List Lk} {n : Nat} {M : Mnd}
/-- Handle, with all that it leaves alone. -/
theorem handle_h (hX : Hid (∀ W W', KT T W W' → X W → X W')) (i q : Int) (p : Pk) (c : Int) (h : LSt w T X m ds ls n M W) (hn : n < maxLen) (ha : AddrsOk ds) (hi : i64ok i) (hc : i64ok c) {r : HR} (hr : handleP ds ls M i q p c = r) :
    Calls Try.prog 10 #[.pointer (some ⟨m.B, 0, none⟩), plA i q, pkV p, .int .i64 c] W fun e w' => e = .returned (.tuple #[arV r.tp r.p, .int .i64 r.err]) ∧ LSt w T X m ds ls (n + 1) r.M w' ∧ HK m W w' :=
  (handle_any m ds ls n M i q p c W h.mem hn ha hi hc).mono fun e w' ⟨h1, h2, h3⟩ => by
    rw [hr] at h1 h2
    exact ⟨h1, h.hk hX h2 h3, h3⟩
/-- Another map stays. -/
theorem MapAt.hk {k e : TypeId} {α β : Type} {E : KeyEnc k α} {V : ElEnc e β} {g n' : Nat} {f : α → Option β} (h : MapAt E V W g n' f) (hk : HK m W W') (h1 : g ≠ m.f) (h2 : g ≠ m.o) (h3 : g ≠ m.k) : MapAt E V W' g n' f := h.same (hk.block g h.lt h1 h2 h3)
/-- Another map changes. -/
theorem LSt.mapput (hX : Hid (∀ W W', KT T W W' → X W → X W')) (h : LSt w T X m ds ls n M W) {g : Nat} (hg : ∃ es c, W.heap[g]? = some (.map es c)) (h1 : g ≠ m.f) (h2 : g ≠ m.o) (h3 : g ≠ m.k) (hF : ∀ b, b ≠ g → W'.heap[b]? = W.heap[b]?) (hs : W'.heap.size = W.heap.size) (hb : Below w.heap.size w W') : LSt w T X m ds ls n M W' := by
  obtain ⟨es, c, hg⟩ := hg
  have kt : KT T W W' := fun b hb hn => hF b (fun e => hn es c (by rw [e]; exact hg))
  have hB : m.B ≠ g := fun e => by
    have := h.mem.blk
    rw [e, hg] at this
    cases this
  have tW : T ≤ W'.heap.size := by rw [hs]; exact h.tW
  exact ⟨⟨(hF _ hB).trans h.mem.blk, (h.dT.kt kt).mono tW, (h.lT.kt kt).mono tW, h.mem.fl.same (hF _ h1.symm), h.mem.ow.same (hF _ h2.symm), h.mem.bk.same (hF _ h3.symm), h.mem.fo, h.mem.fk, h.mem.ok⟩, h.dT.kt kt, h.lT.kt kt, hX.out _ _ kt h.x, hb, tW, h.lo, h.hi⟩
end
end Go.Proofs.Ytepfckicaafilaa
