/-
  Lists of ops in memory; one more function that is known.
-/
import Derived.Test.YtgcimcpcnoojnaaStep
namespace Go.Proofs.Ytgcimcpcnoojnaa
open Go.RowKit Go.Maps

/-- An op. -/
structure Ox where
  k : Int
  a : Int
  b : Int
  c : Int
def cellsX (xs : List Ox) : List Value := xs.flatMap fun r => [.int .i64 r.k, .int .i64 r.a, .int .i64 r.b, .int .i64 r.c]
theorem cellsX_length : ∀ xs : List Ox, (cellsX xs).length = xs.length * 4
  | [] => rfl
  | r :: l => by
    have := cellsX_length l
    show (_ :: _ :: _ :: _ :: cellsX l).length = _
    simp only [List.length_cons, this]
    omega
theorem cellsX_at : ∀ (xs : List Ox) (k : Nat) (r : Ox), xs[k]? = some r →
    (cellsX xs)[k * 4]? = some (.int .i64 r.k) ∧ (cellsX xs)[k * 4 + 1]? = some (.int .i64 r.a) ∧ (cellsX xs)[k * 4 + 2]? = some (.int .i64 r.b) ∧ (cellsX xs)[k * 4 + 3]? = some (.int .i64 r.c)
  | [], k, r, h => by simp at h
  | x :: l, 0, r, h => by
    obtain rfl : x = r := by simpa using h
    exact ⟨rfl, rfl, rfl, rfl⟩
  | x :: l, k + 1, r, h => by
    have ih := cellsX_at l k r (by simpa using h)
    have sh : ∀ j, (cellsX (x :: l))[(k + 1) * 4 + j]? = (cellsX l)[k * 4 + j]? := fun j => by
      show (_ :: _ :: _ :: _ :: cellsX l)[(k + 1) * 4 + j]? = _
      rw [show (k + 1) * 4 + j = k * 4 + j + 1 + 1 + 1 + 1 by omega]
      rfl
    have s0 := sh 0
    simp only [Nat.add_zero] at s0
    rw [s0, sh 1, sh 2, sh 3]
    exact ih
/-- So the ops lie in block b, from cell o on. -/
def XAt (w : World) (b o : Nat) (xs : List Ox) : Prop := ∀ j u, (cellsX xs)[j]? = some u → w.cell? ⟨b, o + j, none⟩ = some u
/-- A slice that holds the ops, below block number base. -/
def Opsl (base : Nat) (w : World) (v : Value) (xs : List Ox) : Prop :=
  ∃ A cap, v = .slice A xs.length cap ∧ xs.length ≤ cap ∧ cap ≤ maxLen ∧ (xs ≠ [] → ∃ b o, A = some ⟨b, o, none⟩ ∧ b < base ∧ XAt w b o xs)
theorem XAt.at {w : World} {b o : Nat} {xs : List Ox} (h : XAt w b o xs) {k : Nat} {r : Ox} (hk : xs[k]? = some r) :
    w.cell? ⟨b, o + k * 4, none⟩ = some (.int .i64 r.k) ∧ w.cell? ⟨b, o + k * 4 + 1, none⟩ = some (.int .i64 r.a) ∧ w.cell? ⟨b, o + k * 4 + 2, none⟩ = some (.int .i64 r.b) ∧ w.cell? ⟨b, o + k * 4 + 3, none⟩ = some (.int .i64 r.c) := by
  obtain ⟨h0, h1, h2, h3⟩ := cellsX_at xs k r hk
  exact ⟨h _ _ h0, h _ _ h1, h _ _ h2, h _ _ h3⟩
theorem XAt.below {base : Nat} {w w' : World} {b o : Nat} {xs : List Ox} (h : XAt w b o xs) (hb : Below base w w') (hl : b < base) : XAt w' b o xs :=
  fun j u hj => (hb.cell (p := ⟨b, _, none⟩) hl).trans (h j u hj)

theorem Try.uSeen : Try.prog.underlying 34 = some (.slice 33) := by kernel_rfl
theorem Try.infoSeen : (Try.prog.info? 33).map (fun i => (i.zero, i.size, i.bytes)) = some (some (.agg #[.int .i64 0, .slice none 0 0]), 2, 32) := by kernel_rfl
/-- append, by its run equation. -/
theorem append_run {P : Program} {w w' : World} {ops : Array Oper} {rest : List Oper} {o : Oper} {a : Act} {Q : Exit → Act → World → Prop} (hgd : o.guard = none) (s x : Operand) (t : TypeId)
    (ho : o.op = .call { callee := .builtin .append, args := #[s, x], argTypes := #[t, t] }) {v x' v' : Value} (hs : a.eval s = v) (hx : a.eval x = x') (hr : (Builtin.append_ #[t, t] o.type #[v, x']).run P w = .ok v' w')
    (h : wpList P ops Q rest (a.put o.dst v') w') : wpList P ops Q (o :: rest) a w := by
  refine wpList_plain hgd fun K hK => ?_
  unfold Oper.wp execOp
  simp only [ho, resolve, invoke, builtin, Sem.run_bind, Sem.run_pure, Result.andThen_ok, List.map_toArray, List.map_cons, List.map_nil, hs, hx, hr]
  exact hK _ _ h

section
variable {base a M vars most N : Nat} {w w' W : World} {ns : List Nd} {K cap : Nat} {ks : List En}
theorem Ar.outBox {i : Nat} {cs : Array Value} {t : TypeId} (h : Ar base a M vars most W ns) (hb : W.heap[i]? = some (.cells cs t (0, 0))) (h1 : t ≠ 91) (h2 : t ≠ 87) : Loc (ca base a M vars most) W i cs t := by
  refine ⟨⟨(Array.getElem?_eq_some_iff.1 hb).1, ?_, fun e => ?_⟩, hb⟩
  · have na : i ≠ a := fun e => by
      obtain ⟨g, cap, ha, _⟩ := h.blk
      rw [e, ha] at hb
      simp only [Option.some.injEq, Obj.cells.injEq] at hb
      exact h1 hb.2.1.symm
    rintro (e | e | e | e | e | e)
    · exact na e
    · exact na e
    · have e' : i = M := e
      obtain ⟨num, hm, _⟩ := h.map
      obtain ⟨es, clock, hM⟩ := hm.isMap
      rw [e', hM] at hb
      simp at hb
    · cases e
    · cases e
    · cases e
  · have e' : i = rowOf W a := e
    obtain ⟨cur, hrow, _⟩ := h.row
    rw [e', hrow] at hb
    simp only [Option.some.injEq, Obj.cells.injEq] at hb
    exact h2 hb.2.1.symm
/-- One more. -/
theorem St.push (h : St base a M vars most N w ns K cap ks) (hfew : ks.length + 1 ≤ 42) {f tb : Nat} {t : Nat → Bool} (hf : f < ns.length) (hT : Tab w tb N t) (ho : Out (ca base a M vars most) w tb) (he : ∀ b, b < N → ev ns f (envOf vars b) = t b) (hbase : base ≤ w.heap.size) :
    ∃ K' cap' w', (Builtin.append_ #[34, 34] 34 #[.slice (some ⟨K, 0, none⟩) ks.length cap, .slice (some ⟨w.heap.size, 0, none⟩) 1 1]).run Try.prog (w.alloc (.cells #[.int .i64 (f : Int), .slice (some ⟨tb, 0, none⟩) N N] 33)) = .ok (.slice (some ⟨K', 0, none⟩) (ks.length + 1) cap') w' ∧ Hid (St base a M vars most N w' ns K' cap' (ks ++ [⟨f, tb, t⟩])) ∧ Below base w w' := by
  have B1 : Below w.heap.size w (w.alloc (.cells #[.int .i64 (f : Int), .slice (some ⟨tb, 0, none⟩) N N] 33)) := Below.al (Below.refl _ _) _
  have h1 := h.below B1
  have k1 := h.ar.kbelow B1
  have hT1 := Tab.below hT B1
  have ho1 := ho.kp k1
  have hnew := Go.heap_alloc_new w (.cells #[.int .i64 (f : Int), .slice (some ⟨tb, 0, none⟩) N N] 33)
  obtain ⟨i0, hi, hz0, hz1, hz2⟩ := info_parts Try.infoSeen
  have hsz : (w.alloc (.cells #[.int .i64 (f : Int), .slice (some ⟨tb, 0, none⟩) N N] 33)).heap.size = w.heap.size + 1 := by simp
  generalize w.alloc (.cells #[.int .i64 (f : Int), .slice (some ⟨tb, 0, none⟩) N N] 33) = W at *
  have hl2 := h1.few
  obtain ⟨v', w', hr, h4, h5, _⟩ := run_append_own (P := Try.prog) W base 34 34 33 i0 _ 2 32 Try.uSeen hi hz0 hz1 hz2 rfl (by decide) _ ks.length (cellsE N ks) h1.own ⟨w.heap.size, 0, none⟩ 1 1 (cellsE N [⟨f, tb, t⟩]) (cellsE_length N _) (fun j u hj => by
    rw [Addr.add_lit, Nat.zero_add, cell_of_row _ _ _ _ _ _ hnew]
    match j, hj with
    | 0, hj => cases hj; rfl
    | 1, hj => cases hj; rfl
    | j + 2, hj => simp [cellsE] at hj) (cellsE_one N _) (by unfold maxLen; omega) (by omega) (by omega)
  have hown' : some K = (Value.slice (some ⟨K, 0, none⟩) ks.length cap).ownBlock := rfl
  rw [← hown'] at h5
  have hoK := h1.outK
  have notK : ∀ i : Nat, i < W.heap.size → i ≠ K → w'.heap[i]? = W.heap[i]? := fun i hi hne => h5.block i hi (by simpa using hne)
  have hA' : Ar base a M vars most w' ns := by
    obtain ⟨_, _, _, rl⟩ := h1.ar.row
    refine h1.ar.same (notK _ h1.ar.lta (fun e => hoK.not (Or.inl e.symm))) (notK _ h1.ar.ltM (fun e => hoK.not (Or.inr (Or.inr (Or.inl e.symm))))) (notK _ rl (fun e => hoK.ne e.symm))
  have hrow : rowOf w' a = rowOf W a := rowOf_same (notK _ h1.ar.lta (fun e => hoK.not (Or.inl e.symm)))
  have typK : ∃ cur, W.heap[K]? = some (.cells cur 33 (0, 0)) := by
    rcases h1.own.2 with ⟨e, _⟩ | ⟨g, c, cur, e, _, hg, _⟩
    · cases e
    · cases e
      exact ⟨cur, hg⟩
  have tabK : ∀ {q : Nat} {s : Nat → Bool}, Tab W q N s → q ≠ K := fun hq e => by
    obtain ⟨c, hc, _⟩ := hq
    obtain ⟨cur, hcur⟩ := typK
    rw [e, hcur] at hc
    simp at hc
  have keepT : ∀ {q : Nat} {s : Nat → Bool}, Tab W q N s → Tab w' q N s := fun hq => World.rowIs.of_block hq (notK _ (World.rowIs.lt hq) (tabK hq))
  have keepO : ∀ {q : Nat}, Out (ca base a M vars most) W q → Out (ca base a M vars most) w' q := fun hq => ⟨Nat.lt_of_lt_of_le hq.lt h5.size, hq.not, by show _ ≠ rowOf w' a; rw [hrow]; exact hq.ne⟩
  have hD : Below base w w' := (B1.mono hbase).trans ⟨h5.os, h5.tape, h5.output, h5.size, fun i hi => notK i (by omega) (fun e => by
    have hb : base ≤ K := by
      rcases h1.own.2 with ⟨e', _⟩ | ⟨g, c, cur, e', hb, _⟩
      · cases e'
      · cases e'
        exact hb
    omega)⟩
  have hlen : (ks ++ [(⟨f, tb, t⟩ : En)]).length = ks.length + 1 := by simp
  rcases h4.2 with ⟨_, hn0⟩ | ⟨K', cap', cur, rfl, hb', hg', hn', hcap', hcs', htk'⟩
  · omega
  · refine ⟨K', cap', w', hr, ⟨hA', h.v8, h.hN, by rw [hlen]; have := h.two; omega, by rw [hlen]; exact hfew, ?_, (hA'.outBox hg' (by decide) (by decide)).out, fun x hx => ?_⟩, hD⟩
    · rw [hlen, cellsE_append]
      exact h4
    · rcases List.mem_append.1 hx with hx | hx
      · obtain ⟨e1, e2, e3, e4⟩ := h1.ent x hx
        exact ⟨e1, keepT e2, keepO e3, e4⟩
      · simp only [List.mem_cons, List.not_mem_nil, or_false] at hx
        subst hx
        exact ⟨hf, keepT hT1, keepO ho1, he⟩
/-- The start. -/
theorem St.start (h : Ar base a M vars most w [(vars, 0, 0), (vars, 1, 1)]) (h8 : vars ≤ 8) (hN : 2 ^ vars = N) (hbase : base ≤ w.heap.size) {t0 t1 : Nat} (hT0 : Tab w t0 N (fun _ => false)) (hT1 : Tab w t1 N (fun _ => true)) :
    St base a M vars most N (w.alloc (.cells #[.int .i64 0, .slice (some ⟨t0, 0, none⟩) N N, .int .i64 1, .slice (some ⟨t1, 0, none⟩) N N] 33)) [(vars, 0, 0), (vars, 1, 1)] w.heap.size 2 [⟨0, t0, fun _ => false⟩, ⟨1, t1, fun _ => true⟩] := by
  have B1 : Below w.heap.size w (w.alloc (.cells #[.int .i64 0, .slice (some ⟨t0, 0, none⟩) N N, .int .i64 1, .slice (some ⟨t1, 0, none⟩) N N] 33)) := Below.al (Below.refl _ _) _
  have outT : ∀ {q : Nat} {s : Nat → Bool}, Tab w q N s → Out (ca base a M vars most) w q := fun hq => by
    obtain ⟨c, hc, _⟩ := hq
    exact (h.outBox hc (by decide) (by decide)).out
  refine ⟨h.below B1, h8, hN, by simp, by simp, ⟨rfl, .inr ⟨w.heap.size, 2, _, rfl, hbase, Go.heap_alloc_new w _, Nat.le_refl _, by unfold maxLen; omega, rfl, rfl⟩⟩, h.newOut B1 (Nat.le_refl _) (by simp), fun x hx => ?_⟩
  simp only [List.mem_cons, List.not_mem_nil, or_false] at hx
  rcases hx with rfl | rfl
  · exact ⟨by simp, Tab.below hT0 B1, (outT hT0).kp (h.kbelow B1), fun b _ => ev0 _ _⟩
  · exact ⟨by simp, Tab.below hT1 B1, (outT hT1).kp (h.kbelow B1), fun b _ => ev1 _ _⟩
/-- Any op but And of numbers themselves. -/
theorem step_any (h : St base a M vars most N w ns K cap ks) (q A B C : Int) (h0 : 0 ≤ q) (h6 : q ≤ 6) : Calls Try.prog 16 #[.int .i64 (vars : Int), .slice (some ⟨K, 0, none⟩) ks.length cap, .agg #[.int .i64 q, .int .i64 A, .int .i64 B, .int .i64 C]] w (TOut base a M vars most N w ns (.agg #[.int .i64 q, .int .i64 A, .int .i64 B, .int .i64 C])) := by
  have hq : q = 0 ∨ q = 1 ∨ q = 2 ∨ q = 3 ∨ q = 4 ∨ q = 5 ∨ q = 6 := by omega
  rcases hq with rfl | rfl | rfl | rfl | rfl | rfl | rfl
  · exact step_0 h A B C
  · exact step_1 h A B C
  · exact step_2 h A B C
  · exact step_3 h A B C
  · exact step_4 h A B C
  · exact step_5 h A B C
  · exact step_6 h A B C
end
end Go.Proofs.Ytgcimcpcnoojnaa


