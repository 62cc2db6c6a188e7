/-
  Package world: a world in memory.
-/
import Derived.Test.YtgmjlkllghlmmaaGreatGT
import Derived.Maps.AppendAt
import Derived.Deep.Heap
import Derived.OneCell
import Derived.Deep.RegionHeldLaw
namespace Go.Proofs.YtgmjlkllghlmmaaGreat
open Go.RowKit Go.Maps

/-! ### rows of a call's own -/
/-- All blocks but one are as they were. -/
structure KeptB (w w' : World) (row : Option Nat) : Prop where
  size : w.heap.size ≤ w'.heap.size
  block : ∀ k, k < w.heap.size → some k ≠ row → w'.heap[k]? = w.heap[k]?
theorem KeptB.of_below {w w' : World} (h : Below w.heap.size w w') : KeptB w w' none := ⟨h.size, fun k hk _ => h.block k hk⟩
section
variable {w w' : World} {B e size n : Nat} {v : Value} {xs : List Value} {row : Option Nat}
theorem own_block (h : w.ownsRow B e size v n xs) {g : Nat} (hg : v.ownBlock = some g) : g < w.heap.size ∧ B ≤ g ∧ ∃ cur, w.heap[g]? = some (.cells cur e (0, 0)) := by
  rcases h.2 with ⟨rfl, _⟩ | ⟨g', cap, cur, rfl, hb, hh, _⟩
  · cases hg
  · obtain rfl : g' = g := by simpa [Value.ownBlock] using hg
    exact ⟨(Array.getElem?_eq_some_iff.1 hh).1, hb, cur, hh⟩
theorem own_keptBut (h : w.ownsRow B e size v n xs) (hk : ∀ g, v.ownBlock = some g → w'.heap[g]? = w.heap[g]?) : w'.ownsRow B e size v n xs := by
  refine ⟨h.1, ?_⟩
  rcases h.2 with k | ⟨g, cap, cur, h1, h2, h3, h4⟩
  · exact Or.inl k
  · exact Or.inr ⟨g, cap, cur, h1, h2, (hk g (by rw [h1]; rfl)).trans h3, h4⟩
theorem own_kept (h : w.ownsRow B e size v n xs) (hk : KeptB w w' row) (hr : ∀ g, v.ownBlock = some g → row ≠ some g) : w'.ownsRow B e size v n xs :=
  own_keptBut h (fun g hg => hk.block g (own_block h hg).1 (fun e => hr g hg e.symm))
theorem own_below (h : w.ownsRow B e size v n xs) (hb : Below w.heap.size w w') : w'.ownsRow B e size v n xs := own_keptBut h (fun g hg => hb.block g (own_block h hg).1)
theorem own_ck (h : w.ownsRow B e size v n xs) (hc : CK w w') : w'.ownsRow B e size v n xs := own_keptBut h (fun g hg => by
  obtain ⟨h1, _, cur, h2⟩ := own_block h hg
  exact hc.block g (fun es c e => by rw [h2] at e; cases e) h1)
end
/-- append, of one element that was just laid, to a row of the call's own. -/
theorem app_el {t e : TypeId} {z : Value} {size bytes : Nat} (hu : Tryz.prog.underlying t = some (.slice e)) (hinfo : (Tryz.prog.info? e).map (fun i => (i.zero, i.size, i.bytes)) = some (some z, size, bytes)) (hz1 : z.cells.size = size) (hs0 : 0 < size) (hby : bytes ≤ 128)
    {base n : Nat} {w : World} {v : Value} {xs us : List Value} (ty : TypeId) (h : w.ownsRow base e size v n xs) (hus : us.length = size) (h1 : ∀ u ∈ us, u.oneCell' = true) (hn : n ≤ 5000) (hb : base ≤ w.heap.size) :
    ∃ v' w', (Builtin.append_ #[t, t] ty #[v, .slice (some ⟨w.heap.size, 0, none⟩) 1 1]).run Tryz.prog (w.alloc (.cells us.toArray e)) = .ok v' w' ∧ w'.ownsRow base e size v' (n + 1) (xs ++ us) ∧ Below base w w' ∧ KeptB w w' v.ownBlock ∧ (v'.ownBlock = v.ownBlock ∨ ∃ g, v'.ownBlock = some g ∧ w.heap.size ≤ g) := by
  obtain ⟨i0, hi, hz0, hz1', hz2⟩ := info_parts hinfo
  have hA : Below w.heap.size w (w.alloc (.cells us.toArray e)) := (Below.refl _ _).alloc (Nat.le_refl _) _
  have ho : (w.alloc (.cells us.toArray e)).ownsRow base e size v n xs := own_kept h (KeptB.of_below hA) (fun g _ => by simp)
  obtain ⟨v', w', hr, h4, h5, _, h7⟩ := run_append_own_at (P := Tryz.prog) (w.alloc (.cells us.toArray e)) base t ty e i0 z size bytes hu hi hz0 hz1' hz2 hz1 hs0 v n xs ho ⟨w.heap.size, 0, none⟩ 1 1 us (by rw [hus, Nat.one_mul]) (fun j x hj => by
    have hg : (w.alloc (.cells us.toArray e)).heap[w.heap.size]? = some (.cells us.toArray e) := Go.Deep.blk_alloc_new w _
    rw [Addr.add_lit, Nat.zero_add]
    simp only [World.cell?, hg]
    simp [hj]) h1 (by unfold maxLen; omega) (by
      have : (n + 1) * bytes ≤ 5001 * 128 := Nat.mul_le_mul (by omega) hby
      omega) (by simp; omega)
  have hsz : (w.alloc (.cells us.toArray e)).heap.size = w.heap.size + 1 := Go.Deep.nblk_alloc w _
  refine ⟨v', w', hr, h4, ?_, ⟨by have := h5.size; omega, fun k hk hne => ?_⟩, ?_⟩
  · exact ((Below.refl base w).alloc hb (.cells us.toArray e)).grown h5 (by simp; omega) (fun k e => (ho.lt k e).1)
  · rw [h5.block k (by omega) hne, Go.Deep.blk_alloc_lt w _ k hk]
  · rcases h7 with h7 | h7
    · exact Or.inl h7
    · exact Or.inr ⟨_, h7, by omega⟩
/-- At a step of a region that draws: append, by its run. -/
theorem step_append_run {P : Program} {w : World} {ops : Array Oper} {o : Oper} {a : Act} {K : Act → World → Prop} {Q : Exit → Act → World → Prop} {E : Prop} (hgd : o.guard = none) (s x : Operand) (t : TypeId)
    (ho : o.op = .call { callee := .builtin .append, args := #[s, x], argTypes := #[t, t] }) (v u v' : Value) (w' : World) (hs : a.eval s = v) (hx : a.eval x = u)
    (hr : (Builtin.append_ #[t, t] o.type #[v, u]).run P w = .ok v' w') (h : K (a.put o.dst v') w') :
    if Region.wanted o (yielded ops a.tmps) = true then Oper.wp P o a w K Q else E := by
  have hw : Region.wanted o (yielded ops a.tmps) = true := by simp [Region.wanted, hgd]
  rw [if_pos hw]
  unfold Oper.wp execOp
  simp only [ho, resolve, invoke, builtin, Sem.run_bind, Sem.run_pure, Result.andThen_ok, List.map_toArray, List.map_cons, List.map_nil, hs, hx, hr]
  exact h

/-! ### arrivals -/
abbrev Arv := (Int × Int) × Pk
def arvOk (x : Arv) : Prop := i64ok x.1.1 ∧ i64ok x.1.2 ∧ x.2.ok
abbrev arC (x : Arv) : List Value := [.int .i64 x.1.1, .int .i64 x.1.2, .int .i64 x.2.s, .int .i64 x.2.d, .int .i64 x.2.sp, .int .i64 x.2.dp]
theorem arV_inj (x y : Arv) (h : arV x.1 x.2 = arV y.1 y.2) : x = y := by
  obtain ⟨⟨a, b⟩, c, d, e, f⟩ := x
  obtain ⟨⟨a', b'⟩, c', d', e', f'⟩ := y
  simp at h
  obtain ⟨rfl, rfl, rfl, rfl, rfl, rfl⟩ := h
  rfl
theorem lawAr : Keyed Tryz.prog 43 := Keyed.of_law (deep_law_gate (k := 43) laidS (by rw [sizeS]; decide) (by rw [sizeS]; decide) (by kernel_rfl) (by kernel_rfl))
theorem cPlc : Tryz.prog.cellsOf 37 = 2 := by kernel_rfl
theorem keyAr (n : Arv) (h : arvOk n) : keyOf Tryz.prog 43 (arV n.1 n.2) = some (litOfS 43 (arV n.1 n.2)) := by
  obtain ⟨w0, w1, ⟨w2, w3, w4, w5⟩⟩ := h
  unfold i64ok at w0 w1 w2 w3 w4 w5
  obtain ⟨m, hm⟩ := fuelS
  refine litOfS_some ?_
  unfold keyOf
  simp only [Tryz.underlying43]
  rw [if_pos (by kernel_rfl), hm]
  unfold Program.keyLits
  simp only [Tryz.underlying43, Value.cells]
  rw [if_pos ⟨by kernel_rfl, by kernel_rfl⟩]
  have hi : Tryz.prog.keyLits (m + 2) 37 [.int .i64 n.1.1, .int .i64 n.1.2] = some [.int .i64 n.1.1, .int .i64 n.1.2] := by
    unfold Program.keyLits
    simp only [Tryz.underlying37]
    rw [if_pos ⟨by kernel_rfl, by kernel_rfl⟩]
    simp [Program.keyLits, Tryz.underlying3, w0, w1, cInt]
  have hp : Tryz.prog.keyLits (m + 2) 39 [.int .i64 n.2.s, .int .i64 n.2.d, .int .i64 n.2.sp, .int .i64 n.2.dp] = some [.int .i64 n.2.s, .int .i64 n.2.d, .int .i64 n.2.sp, .int .i64 n.2.dp] := by
    unfold Program.keyLits
    simp only [Tryz.underlying39]
    rw [if_pos ⟨by kernel_rfl, by kernel_rfl⟩]
    simp [Program.keyLits, Tryz.underlying3, w2, w3, w4, w5, cInt]
  simp [hi, hp, cPlc, cPkt]
noncomputable def arvE : KeyEnc 43 Arv := ⟨fun x => arV x.1 x.2, arvOk, fun n => litOfS 43 (arV n.1 n.2), lawAr, keyAr, arV_inj⟩
theorem uMw : Tryz.prog.underlying 120 = some (.map 43 110) := by kernel_rfl
theorem uArs : Tryz.prog.underlying 59 = some (.slice 43) := by kernel_rfl
theorem infoAr : (Tryz.prog.info? 43).map (fun i => (i.zero, i.size, i.bytes)) = some (some (.agg #[.int .i64 0, .int .i64 0, .int .i64 0, .int .i64 0, .int .i64 0, .int .i64 0]), 6, 48) := by kernel_rfl
open Classical in
/-- Which arrivals were. -/
noncomputable def inF (ar : List Arv) : Arv → Option Unit := fun x => if x ∈ ar then some () else none
theorem inF_in {ar : List Arv} {x : Arv} : (inF ar x).isSome = true ↔ x ∈ ar := by
  unfold inF
  split <;> simp_all
theorem inF_add (ar : List Arv) (x : Arv) : putF (inF ar) x () = inF (ar ++ [x]) := by
  funext y
  by_cases h : y = x
  · subst h
    rw [putF_same]
    unfold inF
    rw [if_pos (by simp)]
  · rw [putF_other _ _ h]
    unfold inF
    by_cases hy : y ∈ ar
    · rw [if_pos hy, if_pos (by simp [hy])]
    · rw [if_neg hy, if_neg (by simp [hy, h])]
theorem inF_no : inF [] = fun _ => none := by
  funext y
  unfold inF
  rw [if_neg (by simp)]

/-! ### a world -/
structure Wp where
  B : Nat
  f : Nat
  o : Nat
  k : Nat
  A2 : Option Addr
  c2 : Nat
  L2 : Option Addr
  d2 : Nat
  A : Option Addr
  c : Nat
  L : Option Addr
  d : Nat
  G : Nat
def Wp.m (p : Wp) (nd nl : Nat) (S : Option Addr) (cS na : Nat) : Mp := ⟨2, [.slice p.A nd p.c, .slice p.L nl p.d], [.slice S na cS, .map (some p.G)], 122, p.B, p.f, p.o, p.k, p.A2, p.c2, p.L2, p.d2⟩
/-- Below block number T all but maps is as it was. -/
def KT (T : Nat) (W W' : World) : Prop := ∀ b, b < T → (∀ es c, W.heap[b]? ≠ some (.map es c)) → W'.heap[b]? = W.heap[b]?
theorem KT.of_below {T : Nat} {W W' : World} (hb : Below W.heap.size W W') (hT : T ≤ W.heap.size) : KT T W W' := fun b h _ => hb.block b (by omega)
theorem KT.cell {T : Nat} {W W' : World} (h : KT T W W') {b o : Nat} {v : Value} (hb : b < T) (hc : W.cell? ⟨b, o, none⟩ = some v) : W'.cell? ⟨b, o, none⟩ = some v := by
  have e := h b hb (fun es c e => by
    unfold World.cell? at hc
    rw [e] at hc
    cases hc)
  unfold World.cell? at hc ⊢
  rw [e]
  exact hc
theorem SlAt.kt {α : Type} {T k : Nat} {w w' : World} {R R' : List Value → α → Prop} {v : Value} {xs : List α} (h : SlAt T w k R v xs) (hb : KT T w w') (hR : ∀ cs x, x ∈ xs → R cs x → R' cs x) : SlAt T w' k R' v xs := by
  obtain ⟨A, cap, e, h0, h1, h2, h3⟩ := h
  refine ⟨A, cap, e, h0, h1, h2, fun hn => ?_⟩
  obtain ⟨b, o, ea, hl, hr⟩ := h3 hn
  refine ⟨b, o, ea, hl, fun k x hx => ?_⟩
  obtain ⟨cs, c1, c2, c3⟩ := hr k x hx
  exact ⟨cs, c1, hR cs x (List.mem_of_getElem? hx) c2, fun j u hj => hb.cell hl (c3 j u hj)⟩
theorem IsDv.kt {T : Nat} {w w' : World} {cs : List Value} {d : Dv} (h : IsDv T w cs d) (hb : KT T w w') : IsDv T w' cs d := by
  obtain ⟨vb, vr, vt, e, h1, h2, h3⟩ := h
  exact ⟨vb, vr, vt, e, h1.kt hb (fun _ _ _ h => h), h2.kt hb (fun _ _ _ h => h), h3.kt hb (fun _ _ _ h => h)⟩
theorem Devs.kt {T : Nat} {w w' : World} {v : Value} {ds : List Dv} (h : Devs T w v ds) (hb : KT T w w') : Devs T w' v ds := SlAt.kt h hb (fun _ _ _ h => h.kt hb)
theorem Links.kt {T : Nat} {w w' : World} {v : Value} {ls : List Lk} (h : Links T w v ls) (hb : KT T w w') : Links T w' v ls := SlAt.kt h hb (fun _ _ _ h => h)
theorem Bk.kt {T k : Nat} {w w' : World} {c : Array Value} {t : TypeId} (h : Bk w k c t) (hb : KT T w w') (hk : k < T) : Bk w' k c t := (hb k hk (fun es x e => by unfold Bk at h; rw [h] at e; cases e)).trans h
/-- A world of a net, in memory: what is known, what came in. -/
structure WlAt (W : World) (p : Wp) (S : Option Addr) (cS : Nat) (ds : List Dv) (ls : List Lk) (n : Nat) (M : Mnd) (ar : List Arv) : Prop where
  blk : Bk W p.B #[.slice p.A ds.length p.c, .slice p.L ls.length p.d, .slice p.A2 ds.length p.c2, .slice p.L2 ls.length p.d2, .map (some p.f), .map (some p.o), .map (some p.k), .slice S ar.length cS, .map (some p.G)] 122
  devs : Devs p.B W (.slice p.A ds.length p.c) ds
  links : Links p.B W (.slice p.L ls.length p.d) ls
  mdevs : Devs p.B W (.slice p.A2 ds.length p.c2) ds
  mlinks : Links p.B W (.slice p.L2 ls.length p.d2) ls
  fl : MapAt pofE unitV W p.f n M.fl
  ow : MapAt prtE endV W p.o n M.ow
  bk : MapAt pofE intV W p.k n M.bk
  fo : p.f ≠ p.o
  fk : p.f ≠ p.k
  ok : p.o ≠ p.k
  seen : W.ownsRow (p.B + 1) 43 6 (.slice S ar.length cS) ar.length (ar.flatMap arC)
  was : MapAt arvE unitV W p.G n (inF ar)
  gf : p.G ≠ p.f
  go : p.G ≠ p.o
  gk : p.G ≠ p.k
  lo : p.f < p.B ∧ p.o < p.B ∧ p.k < p.B ∧ p.G < p.B
  all : ∀ x ∈ ar, arvOk x
section
variable {W W' : World} {p : Wp} {S : Option Addr} {cS : Nat} {ds : List Dv} {ls : List Lk} {n n' : Nat} {M M' : Mnd} {ar : List Arv}
theorem WlAt.mem (h : WlAt W p S cS ds ls n M ar) : MemAt W (p.m ds.length ls.length S cS ar.length) ds ls n M :=
  ⟨⟨h.blk, rfl⟩, h.mdevs.mono (Nat.le_of_lt h.blk.lt), h.mlinks.mono (Nat.le_of_lt h.blk.lt), h.fl, h.ow, h.bk, h.fo, h.fk, h.ok⟩
theorem WlAt.below (h : WlAt W p S cS ds ls n M ar) (hb : Below W.heap.size W W') : WlAt W' p S cS ds ls n M ar :=
  have kt := KT.of_below hb (Nat.le_of_lt h.blk.lt)
  ⟨h.blk.keep hb, h.devs.kt kt, h.links.kt kt, h.mdevs.kt kt, h.mlinks.kt kt, h.fl.same (hb.block _ h.fl.lt), h.ow.same (hb.block _ h.ow.lt), h.bk.same (hb.block _ h.bk.lt), h.fo, h.fk, h.ok, own_below h.seen hb, h.was.same (hb.block _ h.was.lt), h.gf, h.go, h.gk, h.lo, h.all⟩
theorem WlAt.alloc (h : WlAt W p S cS ds ls n M ar) (o : Obj) : WlAt (W.alloc o) p S cS ds ls n M ar := h.below ((Below.refl _ _).alloc (Nat.le_refl _) o)
theorem WlAt.drew (h : WlAt W p S cS ds ls n M ar) : WlAt W.drew p S cS ds ls n M ar := h.below (Below.refl _ _).drew
theorem WlAt.mono (h : WlAt W p S cS ds ls n M ar) (hn : n ≤ n') : WlAt W p S cS ds ls n' M ar := ⟨h.blk, h.devs, h.links, h.mdevs, h.mlinks, h.fl.mono hn, h.ow.mono hn, h.bk.mono hn, h.fo, h.fk, h.ok, h.seen, h.was.mono hn, h.gf, h.go, h.gk, h.lo, h.all⟩
/-- The memory of a world does something. -/
theorem WlAt.hk (h : WlAt W p S cS ds ls n M ar) (hn : n ≤ n') (hM : MemAt W' (p.m ds.length ls.length S cS ar.length) ds ls n' M') (hk : HK (p.m ds.length ls.length S cS ar.length) W W') : WlAt W' p S cS ds ls n' M' ar := by
  have hc := h.mem.ck hk
  have kt : KT p.B W W' := fun b hb hn => hc.block b hn (Nat.lt_trans hb h.blk.lt)
  exact ⟨hM.blk.1, h.devs.kt kt, h.links.kt kt, h.mdevs.kt kt, h.mlinks.kt kt, hM.fl, hM.ow, hM.bk, h.fo, h.fk, h.ok, own_ck h.seen hc, (h.was.same (hk.block _ h.was.lt h.gf h.go h.gk)).mono hn, h.gf, h.go, h.gk, h.lo, h.all⟩
theorem WlAt.look (h : WlAt W p S cS ds ls n M ar) {x : Arv} (hx : arvOk x) : (Instr.lookup 120 (.map (some p.G)) (arV x.1 x.2) true).run Tryz.prog W = .ok (.tuple #[.agg #[], .bool (inF ar x).isSome]) W := h.was.look uMw (x := x) hx
/-- What a world's calls leave alone: all but its own blocks, its maps and its row of arrivals. -/
structure WF (p : Wp) (S : Option Addr) (W W' : World) : Prop where
  os : W'.os = W.os
  tape : W'.tape = W.tape
  output : W'.output = W.output
  size : W.heap.size ≤ W'.heap.size
  block : ∀ b, b < W.heap.size → b ≠ p.B → b ≠ p.f → b ≠ p.o → b ≠ p.k → b ≠ p.G → (∀ a, S = some a → b ≠ a.block) → W'.heap[b]? = W.heap[b]?
theorem WF.of_below (hb : Below W.heap.size W W') : WF p S W W' := ⟨hb.os, hb.tape, hb.output, hb.size, fun b h _ _ _ _ _ _ => hb.block b h⟩
theorem WF.of_hk {nd nl na : Nat} (hk : HK (p.m nd nl S cS na) W W') : WF p S W W' := ⟨hk.os, hk.tape, hk.output, hk.size, fun b h _ h1 h2 h3 _ _ => hk.block b h h1 h2 h3⟩
theorem WF.trans {W'' : World} (h : WF p S W W') (g : WF p S W' W'') : WF p S W W'' := ⟨g.os.trans h.os, g.tape.trans h.tape, g.output.trans h.output, Nat.le_trans h.size g.size, fun b hb h1 h2 h3 h4 h5 h6 => (g.block b (Nat.lt_of_lt_of_le hb h.size) h1 h2 h3 h4 h5 h6).trans (h.block b hb h1 h2 h3 h4 h5 h6)⟩
end
end Go.Proofs.YtgmjlkllghlmmaaGreat
