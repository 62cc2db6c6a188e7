/-
  What BddPlays knows: the list of functions that were told, with their tables.
-/
import Derived.Test.YtgcimcpcnoojnaaTold
import Derived.Test.YtgcimcpcnoojnaaRef2
import Derived.Test.YtgcimcpcnoojnaaBad
import Derived.Test.YtgcimcpcnoojnaaAsked
import Derived.Test.YtgcimcpcnoojnaaSw
import Derived.Test.YtgcimcpcnoojnaaWalk14
import Derived.Laws.AppendOwn
namespace Go.Proofs.Ytgcimcpcnoojnaa
open Go.RowKit Go.Maps

/-- A function that is known: its number, the block of its table, the table. -/
structure En where
  id : Nat
  tb : Nat
  t : Nat → Bool
def cellsE (N : Nat) (ks : List En) : List Value := ks.flatMap fun x => [.int .i64 (x.id : Int), .slice (some ⟨x.tb, 0, none⟩) N N]
theorem cellsE_append (N : Nat) (a b : List En) : cellsE N (a ++ b) = cellsE N a ++ cellsE N b := by simp [cellsE]
theorem cellsE_length (N : Nat) : ∀ ks : List En, (cellsE N ks).length = ks.length * 2
  | [] => rfl
  | x :: l => by
    have := cellsE_length N l
    show (_ :: _ :: cellsE N l).length = _
    simp only [List.length_cons, this]
    omega
theorem cellsE_at (N : Nat) : ∀ (ks : List En) (k : Nat) (x : En), ks[k]? = some x → (cellsE N ks)[k * 2]? = some (.int .i64 (x.id : Int)) ∧ (cellsE N ks)[k * 2 + 1]? = some (.slice (some ⟨x.tb, 0, none⟩) N N)
  | [], k, x, h => by simp at h
  | y :: l, 0, x, h => by
    obtain rfl : y = x := by simpa using h
    exact ⟨rfl, rfl⟩
  | y :: l, k + 1, x, h => by
    have ih := cellsE_at N l k x (by simpa using h)
    have sh : ∀ j, (cellsE N (y :: l))[(k + 1) * 2 + j]? = (cellsE N l)[k * 2 + j]? := fun j => by
      show (_ :: _ :: cellsE N l)[(k + 1) * 2 + j]? = _
      rw [show (k + 1) * 2 + j = k * 2 + j + 1 + 1 by omega]
      rfl
    have s0 := sh 0
    simp only [Nat.add_zero] at s0
    rw [s0, sh 1]
    exact ih
theorem cellsE_one (N : Nat) : ∀ ks : List En, ∀ u ∈ cellsE N ks, u.oneCell' = true
  | [], u, h => by simp [cellsE] at h
  | x :: l, u, h => by
    have h' : u ∈ (.int .i64 (x.id : Int) :: .slice (some ⟨x.tb, 0, none⟩) N N :: cellsE N l : List Value) := h
    simp only [List.mem_cons] at h'
    rcases h' with rfl | rfl | h'
    · rfl
    · rfl
    · exact cellsE_one N l u h'

/-- The state between two ops. -/
structure St (base a M vars most N : Nat) (w : World) (ns : List Nd) (K cap : Nat) (ks : List En) : Prop where
  ar : Ar base a M vars most w ns
  v8 : vars ≤ 8
  hN : 2 ^ vars = N
  two : 2 ≤ ks.length
  few : ks.length ≤ 42
  own : w.ownsRow base 33 2 (.slice (some ⟨K, 0, none⟩) ks.length cap) ks.length (cellsE N ks)
  outK : Out (ca base a M vars most) w K
  ent : ∀ x ∈ ks, x.id < ns.length ∧ Tab w x.tb N x.t ∧ Out (ca base a M vars most) w x.tb ∧ ∀ b, b < N → ev ns x.id (envOf vars b) = x.t b

section
variable {base a M vars most N : Nat} {w w' : World} {ns ns' : List Nd} {K cap : Nat} {ks : List En}
theorem Ar.below (h : Ar base a M vars most w ns) (hb : Below w.heap.size w w') : Ar base a M vars most w' ns := by
  obtain ⟨_, _, _, rl⟩ := h.row
  exact h.same (hb.block _ h.lta) (hb.block _ h.ltM) (hb.block _ rl)
theorem Ar.kbelow (h : Ar base a M vars most w ns) (hb : Below w.heap.size w w') : Kp (ca base a M vars most) w w' :=
  ⟨hb.os, hb.tape, hb.output, hb.size, fun i hi _ _ => hb.block i hi, Or.inl (rowOf_same (hb.block _ h.lta))⟩
theorem Ar.notMine (h : Ar base a M vars most w ns) {i : Nat} (hi : i < base) : ¬ (ca base a M vars most).mine i := by
  have h1 := h.lowA
  have h2 := h.lowM
  rintro (e | e | e | e | e | e)
  · have : i = a := e
    omega
  · have : i = a := e
    omega
  · have : i = M := e
    omega
  · cases e
  · cases e
  · cases e
theorem Ar.kp_below (h : Ar base a M vars most w ns) (k : Kp (ca base a M vars most) w w') : Below base w w' := by
  obtain ⟨_, _, rb, rl⟩ := h.row
  have h1 := h.lowA
  have h2 := h.lta
  exact ⟨k.os, k.tape, k.output, k.size, fun i hi => k.blk i (by omega) (h.notMine hi) (by show i ≠ rowOf w a; omega)⟩
/-- What was made behind the arena is none of hers. -/
theorem Ar.newOut (h : Ar base a M vars most w ns) (hb : Below w.heap.size w w') {i : Nat} (h1 : w.heap.size ≤ i) (h2 : i < w'.heap.size) : Out (ca base a M vars most) w' i := by
  obtain ⟨_, _, rb, rl⟩ := h.row
  have l1 := h.lta
  have l2 := h.ltM
  refine ⟨h2, ?_, ?_⟩
  · rintro (e | e | e | e | e | e)
    · have : i = a := e
      omega
    · have : i = a := e
      omega
    · have : i = M := e
      omega
    · cases e
    · cases e
    · cases e
  · have e : rowOf w' a = rowOf w a := rowOf_same (hb.block _ l1)
    show i ≠ rowOf w' a
    rw [e]
    omega
theorem Out.cell {C : Cfg} {i : Nat} (h : Out C w i) (k : Kp C w w') (j : Nat) : w'.cell? ⟨i, j, none⟩ = w.cell? ⟨i, j, none⟩ := World.cell?_of_block (a := ⟨i, j, none⟩) (k.blk i h.lt h.not h.ne)
theorem St.below (h : St base a M vars most N w ns K cap ks) (hb : Below w.heap.size w w') : St base a M vars most N w' ns K cap ks := by
  have k := h.ar.kbelow hb
  refine ⟨h.ar.below hb, h.v8, h.hN, h.two, h.few, ⟨h.own.1, ?_⟩, h.outK.kp k, fun x hx => ?_⟩
  · rcases h.own.2 with h0 | ⟨g, c, cur, hv, h1, hg, h2⟩
    · exact .inl h0
    · exact .inr ⟨g, c, cur, hv, h1, (hb.block g (Array.getElem?_eq_some_iff.1 hg).1).trans hg, h2⟩
  · obtain ⟨e1, e2, e3, e4⟩ := h.ent x hx
    exact ⟨e1, Tab.below e2 hb, e3.kp k, e4⟩
/-- Behind a call of the arena. -/
theorem St.kp (h : St base a M vars most N w ns K cap ks) (hA : Ar base a M vars most w' ns') (k : Kp (ca base a M vars most) w w') (X : Ext ns ns') : St base a M vars most N w' ns' K cap ks := by
  have wf := h.ar.wf
  have wf' := hA.wf
  have hl := X.len
  refine ⟨hA, h.v8, h.hN, h.two, h.few, ⟨h.own.1, ?_⟩, h.outK.kp k, fun x hx => ?_⟩
  · rcases h.own.2 with h0 | ⟨g, c, cur, hv, h1, hg, h2⟩
    · exact .inl h0
    · obtain rfl : K = g := by
        cases hv
        rfl
      exact .inr ⟨K, c, cur, hv, h1, (k.blk K h.outK.lt h.outK.not h.outK.ne).trans hg, h2⟩
  · obtain ⟨e1, e2, e3, e4⟩ := h.ent x hx
    exact ⟨by omega, e2.kp e3 k, e3.kp k, fun b hb => by rw [X.ev wf wf' _ e1]; exact e4 b hb⟩
theorem St.ltK (h : St base a M vars most N w ns K cap ks) : K < w.heap.size := h.outK.lt
theorem St.cells (h : St base a M vars most N w ns K cap ks) {j : Nat} {x : En} (hx : ks[j]? = some x) : w.cell? ⟨K, j * 2, none⟩ = some (.int .i64 (x.id : Int)) ∧ w.cell? ⟨K, j * 2 + 1, none⟩ = some (.slice (some ⟨x.tb, 0, none⟩) N N) := by
  obtain ⟨h0, h1⟩ := cellsE_at N ks j x hx
  have c0 := h.own.cells (g := K) rfl _ _ h0
  have c1 := h.own.cells (g := K) rfl _ _ h1
  rw [Addr.add_lit] at c0 c1
  rw [Nat.zero_add] at c0 c1
  exact ⟨c0, c1⟩
/-- What is known at a number. -/
theorem St.kn (h : St base a M vars most N w ns K cap ks) (i : Int) : ∃ j x, x ∈ ks ∧ KnAt w K ks.length i j x.id x.tb N x.t := by
  have h2 := h.two
  have b1 := Int.emod_nonneg i (b := (ks.length : Int)) (by omega)
  have b2 := Int.emod_lt_of_pos i (b := (ks.length : Int)) (by omega)
  have hj : (i % (ks.length : Int)).toNat < ks.length := by omega
  have hx : ks[(i % (ks.length : Int)).toNat]? = some ks[(i % (ks.length : Int)).toNat] := List.getElem?_eq_getElem hj
  obtain ⟨c0, c1⟩ := h.cells hx
  exact ⟨_, _, List.getElem_mem hj, by omega, c0, c1, (h.ent _ (List.getElem_mem hj)).2.1⟩
/-- The same function has one number. -/
theorem St.same (h : St base a M vars most N w ns K cap ks) {x : En} (hx : x ∈ ks) {f : Nat} {t : Nat → Bool} (hf : f < ns.length) (he : ∀ b, b < N → ev ns f (envOf vars b) = t b) : (x.id = f ↔ ∀ b, b < N → x.t b = t b) := by
  obtain ⟨e1, _, _, e4⟩ := h.ent x hx
  constructor
  · intro e b hb
    rw [← e4 b hb, ← he b hb, e]
  · intro hb
    have wf := h.ar.wf
    refine canon wf e1 hf (fun e => ?_)
    refine same_of_bits (vars := vars) (l := 0) (fun a b hab => dep_ev wf e1 a b (fun x _ h2 => hab x (Nat.zero_le _) h2)) (fun a b hab => dep_ev wf hf a b (fun x _ h2 => hab x (Nat.zero_le _) h2)) (fun b hb' => ?_) e
    rw [h.hN] at hb'
    rw [e4 b hb', he b hb', hb b hb']
end
end Go.Proofs.Ytgcimcpcnoojnaa


