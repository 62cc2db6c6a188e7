/-
  WorldPlays: the tale's Do, under way: what stays, what its calls tell.
-/
import Derived.Test.YtgmjlkllghlmmaaGreatGY
import Derived.Test.YtgmjlkllghlmmaaGreatLy
import Derived.Deep.RegionHeld3
import Derived.Deep.CutRange
namespace Go.Proofs.YtgmjlkllghlmmaaGreat
open Go.RowKit Go.Maps

/-- What an event does, as the document's tale has it. -/
noncomputable def talP (ds : List Dv) (ls : List Lk) (FL : List Ft) (ar : List Arv) (x : Ev) : Int × List Ft × List Arv :=
  if x.k = 1 then ((injP ds ls ar x.i x.p).1, FL, (injP ds ls ar x.i x.p).2)
  else if x.k = 2 then (if (inF ar ((x.i, x.q), x.p)).isSome = true then ((mindP ds ls FL x.i x.q x.p x.c).err, (mindP ds ls FL x.i x.q x.p x.c).FL, if (mindP ds ls FL x.i x.q x.p x.c).err = 0 then addA ar ((mindP ds ls FL x.i x.q x.p x.c).tp, (mindP ds ls FL x.i x.q x.p x.c).p) else ar) else (7, FL, ar))
  else if x.k = 3 then ((mgoneP ds FL x.i x.p x.c).err, (mgoneP ds FL x.i x.p x.c).FL, ar)
  else (1, FL, ar)
theorem tal_rel {ds : List Dv} {ls : List Lk} {FL : List Ft} {M : Mnd} (h : RelM ds FL M) (ar : List Arv) (x : Ev) : (talP ds ls FL ar x).1 = (doP ds ls M ar x).1 ∧ (talP ds ls FL ar x).2.2 = (doP ds ls M ar x).2.2 ∧ RelM ds (talP ds ls FL ar x).2.1 (doP ds ls M ar x).2.1 := by
  unfold talP doP
  by_cases k1 : x.k = 1
  · rw [if_pos k1, if_pos k1]
    exact ⟨rfl, rfl, h⟩
  rw [if_neg k1, if_neg k1]
  by_cases k2 : x.k = 2
  · rw [if_pos k2, if_pos k2]
    unfold hopP
    by_cases hi : (inF ar ((x.i, x.q), x.p)).isSome = true
    · rw [if_pos hi, if_pos hi]
      obtain ⟨r1, r2, r3, r4⟩ := mind_rel h (ls := ls) x.i x.q x.p x.c
      refine ⟨r1, ?_, r4⟩
      dsimp only
      rw [r1, r2, r3]
    · rw [if_neg hi, if_neg hi]
      exact ⟨rfl, rfl, h⟩
  rw [if_neg k2, if_neg k2]
  by_cases k3 : x.k = 3
  · rw [if_pos k3, if_pos k3]
    obtain ⟨r1, r4⟩ := gone_rel h x.i x.p x.c
    exact ⟨r1, rfl, r4⟩
  rw [if_neg k3, if_neg k3]
  exact ⟨rfl, rfl, h⟩
theorem addA_len (ar : List Arv) (x : Arv) : (addA ar x).length ≤ ar.length + 1 := by
  unfold addA
  split
  · omega
  · simp
theorem talP_len (ds : List Dv) (ls : List Lk) (FL : List Ft) (ar : List Arv) (x : Ev) : (talP ds ls FL ar x).2.1.length ≤ FL.length + 1 ∧ (talP ds ls FL ar x).2.2.length ≤ ar.length + 1 := by
  have hi : (injP ds ls ar x.i x.p).2.length ≤ ar.length + 1 := by
    unfold injP
    split
    · split
      · split
        · split
          · unfold inj2
            split
            · exact addA_len _ _
            · show ar.length ≤ _; omega
          · show ar.length ≤ _; omega
        · show ar.length ≤ _; omega
      · show ar.length ≤ _; omega
    · show ar.length ≤ _; omega
  have hm := mindP_len ds ls FL x.i x.q x.p x.c
  have hg := mgoneP_len ds FL x.i x.p x.c
  have ha := addA_len ar ((mindP ds ls FL x.i x.q x.p x.c).tp, (mindP ds ls FL x.i x.q x.p x.c).p)
  unfold talP
  split
  · exact ⟨by show FL.length ≤ _; omega, hi⟩
  · split
    · split
      · refine ⟨hm, ?_⟩
        dsimp only
        split
        · exact ha
        · omega
      · exact ⟨by show FL.length ≤ _; omega, by show ar.length ≤ _; omega⟩
    · split
      · exact ⟨by show (mgoneP ds FL x.i x.p x.c).FL.length ≤ _; omega, by show ar.length ≤ _; omega⟩
      · exact ⟨by show FL.length ≤ _; omega, by show ar.length ≤ _; omega⟩
abbrev evC (x : Ev) : Array Value := #[.int .i64 x.k, .int .i64 x.i, .int .i64 x.q, .int .i64 x.p.s, .int .i64 x.p.d, .int .i64 x.p.sp, .int .i64 x.p.dp, .int .i64 x.c]
def TG (w : World) (T g : Nat) (A L : Option Addr) (c d : Nat) (F0 S : Option Addr) (cS : Nat) (ds : List Dv) (ls : List Lk) (ar : List Arv) (x : Ev) (FL : List Ft) (W : World) : Prop :=
  ∃ F cF, TlAt W T g A L c d F cF S cS ds ls FL ar ∧ TKp T g F0 S w W ∧ SG F0 F w.heap.size ∧ Bk W w.heap.size (evC x) 56 ∧ T < w.heap.size ∧ ∀ b, (Value.slice F FL.length cF).ownBlock = some b → b < W.heap.size
theorem tout_chain {w W w' : World} {T g : Nat} {A L : Option Addr} {c d : Nat} {F0 F S : Option Addr} {ds : List Dv} {ls : List Lk} {FL : List Ft} {ar : List Arv} (hk : TKp T g F0 S w W) (hF : SG F0 F w.heap.size) (h : TOut W T g A L c d F S ds ls FL ar w') : TOut w T g A L c d F0 S ds ls FL ar w' := by
  obtain ⟨F', cF', S', cS', h1, h2, h3, h4⟩ := h
  refine ⟨F', cF', S', cS', h1, ⟨h2.os.trans hk.os, h2.tape.trans hk.tape, h2.output.trans hk.output, Nat.le_trans hk.size h2.size, fun b q1 q2 q3 q4 q5 => (h2.block b (Nat.lt_of_lt_of_le q1 hk.size) q2 q3 (fun a ha => ?_) q5).trans (hk.block b q1 q2 q3 q4 q5)⟩, fun a ha => ?_, h4.from hk.size⟩
  · rcases hF a ha with ⟨a', ha', e⟩ | e
    · rw [← e]
      exact q4 a' ha'
    · omega
  · rcases h3 a ha with ⟨a', ha', e⟩ | e
    · rcases hF a' ha' with ⟨a2, ha2, e2⟩ | e2
      · exact Or.inl ⟨a2, ha2, e2.trans e⟩
      · exact Or.inr (by omega)
    · exact Or.inr (Nat.le_trans hk.size e)
theorem TG.tl {w : World} {T g : Nat} {A L : Option Addr} {c d : Nat} {F0 S : Option Addr} {cS : Nat} {ds : List Dv} {ls : List Lk} {ar : List Arv} {x : Ev} {FL : List Ft} {W : World} (h : TG w T g A L c d F0 S cS ds ls ar x FL W) : ∃ F cF, TlAt W T g A L c d F cF S cS ds ls FL ar := by
  obtain ⟨F, cF, h, _⟩ := h
  exact ⟨F, cF, h⟩
structure TFacts (w : World) (T g : Nat) (A L : Option Addr) (c d : Nat) (F0 S : Option Addr) (cS : Nat) (ds : List Dv) (ls : List Lk) (ar : List Arv) (x : Ev) (G : List Ft → World → Prop) : Prop where
  keep : ∀ {FL W W'}, G FL W → Below W.heap.size W W' → G FL W'
  ct : ∀ {FL W}, G FL W → W.cell? ⟨T, 0, none⟩ = some (.pointer (some ⟨g, 0, none⟩)) ∧ W.cell? ⟨T, 1, none⟩ = some (.slice S ar.length cS)
  cg : ∀ {FL W}, G FL W → W.cell? ⟨g, 0, none⟩ = some (.slice A ds.length c) ∧ W.cell? ⟨g, 1, none⟩ = some (.slice L ls.length d)
  cx : ∀ {FL W}, G FL W → W.cell? ⟨w.heap.size, 0, none⟩ = some (.int .i64 x.k) ∧ W.cell? ⟨w.heap.size, 1, none⟩ = some (.int .i64 x.i) ∧ W.cell? ⟨w.heap.size, 2, none⟩ = some (.int .i64 x.q) ∧ W.cell? ⟨w.heap.size, 3, none⟩ = some (.int .i64 x.p.s) ∧ W.cell? ⟨w.heap.size, 4, none⟩ = some (.int .i64 x.p.d) ∧ W.cell? ⟨w.heap.size, 5, none⟩ = some (.int .i64 x.p.sp) ∧ W.cell? ⟨w.heap.size, 6, none⟩ = some (.int .i64 x.p.dp) ∧ W.cell? ⟨w.heap.size, 7, none⟩ = some (.int .i64 x.c)
  devs : ∀ {FL W}, G FL W → Devs W.heap.size W (.slice A ds.length c) ds
  peer : ∀ {FL W}, G FL W → ∀ i port : Int, Calls Tryz.prog 43 #[.agg #[.slice A ds.length c, .slice L ls.length d], .agg #[.int .i64 i, .int .i64 port]] W fun e w' => e = .returned (.tuple #[placeV (peerF ls i port), .bool (peerF ls i port).isSome]) ∧ Below W.heap.size W w'
  cont : ∀ {FL W}, G FL W → ∀ y : Arv, Calls Tryz.prog 19 #[.slice S ar.length cS, .agg #[.int .i64 y.1.1, .int .i64 y.1.2, .int .i64 y.2.s, .int .i64 y.2.d, .int .i64 y.2.sp, .int .i64 y.2.dp]] W fun e w' => e = .returned (.bool (inF ar y).isSome) ∧ Below W.heap.size W w'
  mh : ∀ {FL W}, G FL W → FL.length ≤ 5000 → ∀ (i q : Int) (p : Pk) (ch : Int), Calls Tryz.prog 8 #[.pointer (some ⟨g, 0, none⟩), plA i q, pkV p, .int .i64 ch] W fun e w' => e = .returned (.tuple #[arV (mindP ds ls FL i q p ch).tp (mindP ds ls FL i q p ch).p, .int .i64 (mindP ds ls FL i q p ch).err]) ∧ G (mindP ds ls FL i q p ch).FL w' ∧ ∀ b cs ty, Bk W b cs ty → ty ≠ 101 → ty ≠ 35 → Bk w' b cs ty
  mf : ∀ {FL W}, G FL W → FL.length ≤ 5000 → ∀ (i : Int) (p : Pk) (ch : Int), Calls Tryz.prog 10 #[.pointer (some ⟨g, 0, none⟩), .int .i64 i, pkV p, .int .i64 ch] W fun e w' => e = .returned (.int .i64 (mgoneP ds FL i p ch).err) ∧ G (mgoneP ds FL i p ch).FL w' ∧ ∀ b cs ty, Bk W b cs ty → ty ≠ 101 → ty ≠ 35 → Bk w' b cs ty
  cm : ∀ {FL W}, G FL W → ar.length ≤ 5000 → ∀ y : Arv, Calls Tryz.prog 54 #[.pointer (some ⟨T, 0, none⟩), arV y.1 y.2] W fun e w' => (∃ v, e = .returned v) ∧ TOut w T g A L c d F0 S ds ls FL (addA ar y) w'
  out : ∀ {FL W}, G FL W → TOut w T g A L c d F0 S ds ls FL ar W
  bx : ∀ {FL W}, G FL W → Bk W w.heap.size (evC x) 56
  bt : ∀ {FL W}, G FL W → Bk W T #[.pointer (some ⟨g, 0, none⟩), .slice S ar.length cS] 62
theorem tg_mind {w W w' : World} {T g : Nat} {A L : Option Addr} {c d : Nat} {F0 S : Option Addr} {cS : Nat} {ds : List Dv} {ls : List Lk} {ar : List Arv} {x : Ev} {FL FL' : List Ft} {F : Option Addr} {cF : Nat} (h : TlAt W T g A L c d F cF S cS ds ls FL ar) (hk : TKp T g F0 S w W) (hF : SG F0 F w.heap.size) (hB : Bk W w.heap.size (evC x) 56) (hT : T < w.heap.size) (hM : MOut W g A L c d F ds ls FL' w') : TG w T g A L c d F0 S cS ds ls ar x FL' w' := by
  have kB := MOut.bk h.mn hM
  obtain ⟨F', cF', h1, h2, h3⟩ := hM
  have h4 : SG F0 F' w.heap.size := fun a ha => by
    rcases h3 a ha with ⟨a', ha', e⟩ | e
    · rcases hF a' ha' with ⟨a2, ha2, e2⟩ | e2
      · exact Or.inl ⟨a2, ha2, e2.trans e⟩
      · exact Or.inr (by omega)
    · exact Or.inr (Nat.le_trans hk.size e)
  refine ⟨F', cF', ⟨kB _ _ _ h.blk (by decide) (by decide), h1, own_keptBut h.seen (fun b hb => ?_), h.lt⟩, ⟨h2.os.trans hk.os, h2.tape.trans hk.tape, h2.output.trans hk.output, Nat.le_trans hk.size h2.size, fun b q1 q2 q3 q4 q5 => (h2.block b (Nat.lt_of_lt_of_le q1 hk.size) q3 (fun a ha => ?_)).trans (hk.block b q1 q2 q3 q4 q5)⟩, h4, kB _ _ _ hB (by decide) (by decide), hT, fun b hb => (own_block h1.facts hb).1⟩
  · obtain ⟨l1, _, cur, l2⟩ := own_block h.seen hb
    exact (kB b cur _ l2 (by decide) (by decide)).trans l2.symm
  · rcases hF a ha with ⟨a', ha', e⟩ | e
    · rw [← e]
      exact q4 a' ha'
    · omega
theorem t_facts (w : World) (T g : Nat) (A L : Option Addr) (c d : Nat) (F0 S : Option Addr) (cS : Nat) (ds : List Dv) (ls : List Lk) (ar : List Arv) (x : Ev) : TFacts w T g A L c d F0 S cS ds ls ar x (TG w T g A L c d F0 S cS ds ls ar x) where
  keep h hb := by
    obtain ⟨F, cF, h, hk, hF, hB, hT, hl⟩ := h
    exact ⟨F, cF, h.below hb, ⟨hb.os.trans hk.os, hb.tape.trans hk.tape, hb.output.trans hk.output, Nat.le_trans hk.size hb.size, fun b q1 q2 q3 q4 q5 => (hb.block b (Nat.lt_of_lt_of_le q1 hk.size)).trans (hk.block b q1 q2 q3 q4 q5)⟩, hF, hB.keep hb, hT, fun b hb' => Nat.lt_of_lt_of_le (hl b hb') hb.size⟩
  ct h := by
    obtain ⟨F, cF, h, _⟩ := h
    exact ⟨h.blk.at 0, h.blk.at 1⟩
  cg h := by
    obtain ⟨F, cF, h, _⟩ := h
    exact ⟨h.mn.blk.at 0, h.mn.blk.at 1⟩
  cx h := by
    obtain ⟨F, cF, _, _, _, hB, _⟩ := h
    exact ⟨hB.at 0, hB.at 1, hB.at 2, hB.at 3, hB.at 4, hB.at 5, hB.at 6, hB.at 7⟩
  devs h := by
    obtain ⟨F, cF, h, _⟩ := h
    exact h.mn.devs.mono (Nat.le_of_lt h.mn.blk.lt)
  peer {FL W} h i port := by
    obtain ⟨F, cF, h, _⟩ := h
    exact rpeer_any _ L ls.length d ls i port _ (h.mn.links.mono (Nat.le_of_lt h.mn.blk.lt))
  cont {FL W} h y := by
    obtain ⟨F, cF, h, _⟩ := h
    have := contains_ar S cS ar y W.heap.size W (Nat.le_refl _) h.row
    rw [any_inF] at this
    exact this
  mh {FL W} h hn i q p ch := by
    obtain ⟨F, cF, h, hk, hF, hB, hT, hl⟩ := h
    exact (mhandle_any i q p ch W h.mn hn).mono fun e w' ⟨he, hM⟩ => ⟨he, tg_mind h hk hF hB hT hM, MOut.bk h.mn hM⟩
  mf {FL W} h hn i p ch := by
    obtain ⟨F, cF, h, hk, hF, hB, hT, hl⟩ := h
    exact (mforget_any i p ch W h.mn hn).mono fun e w' ⟨he, hM⟩ => ⟨he, tg_mind h hk hF hB hT hM, MOut.bk h.mn hM⟩
  cm {FL W} h ha y := by
    obtain ⟨F, cF, h, hk, hF, hB, hT, hl⟩ := h
    exact (comes_any y W h ha).mono fun e w' ⟨he, hM⟩ => ⟨he, tout_chain hk hF hM⟩
  out {FL W} h := by
    obtain ⟨F, cF, h, hk, hF, hB, hT, hl⟩ := h
    exact tout_chain hk hF (TOut.same h (Below.refl _ _))
  bx h := by
    obtain ⟨F, cF, h, hk, hF, hB, hT, hl⟩ := h
    exact hB
  bt h := by
    obtain ⟨F, cF, h, _⟩ := h
    exact h.blk
theorem tg_start {w : World} {T g : Nat} {A L : Option Addr} {c d : Nat} {F : Option Addr} {cF : Nat} {S : Option Addr} {cS : Nat} {ds : List Dv} {ls : List Lk} {FL : List Ft} {ar : List Arv} (h : TlAt w T g A L c d F cF S cS ds ls FL ar) (x : Ev) : TG w T g A L c d F S cS ds ls ar x FL (w.alloc (.cells (evC x) 56)) := by
  have hb : Below w.heap.size w (w.alloc (.cells (evC x) 56)) := (Below.refl _ _).alloc (Nat.le_refl _) _
  exact ⟨F, cF, h.below hb, TKp.of_below hb, SG.refl _ _, bk_new w _ _, h.blk.lt, fun b hb' => Nat.lt_of_lt_of_le (own_block h.mn.facts hb').1 hb.size⟩
theorem yields_build1 {P : Program} {ops : Array Oper} {S : World → Prop} {o : Oper} {a : Act} (hw : Region.wanted o (yielded ops a.tmps) = true) (t : TypeId) (x0 : Operand) (n0 : Nat) (ho : o.op = .build t #[(n0, x0)]) (v0 : Value) (cells : Array Value) (hr : ∀ w, (Instr.build t #[(n0, v0)]).run P w = .ok (.agg cells) w)
    (h0 : a.eval x0 = v0) : YieldsIf P ops S o (.agg cells) a := by
  refine Or.inl ⟨hw, fun w _ => ?_⟩
  unfold execOp
  simp only [ho, List.map_toArray, List.map_cons, List.map_nil, h0, Sem.run_bind, hr, Result.andThen_ok]
  rfl
theorem pl_build1 (a : Int) (w : World) : (Instr.build 37 #[(0, .int .i64 a)]).run Tryz.prog w = .ok (.agg #[.int .i64 a, .int .i64 0]) w := by
  refine run_build w _ _ _ ?_
  kernel_rfl
end Go.Proofs.YtgmjlkllghlmmaaGreat

namespace Go.Proofs.YtgmjlkllghlmmaaGreat
open Go.RowKit Go.Maps

/-- A store into a new block of six cells. -/
theorem t_set1 {w W : World} {T g : Nat} {A L : Option Addr} {c d : Nat} {F0 S : Option Addr} {cS : Nat} {ds : List Dv} {ls : List Lk} {ar : List Arv} {x : Ev} {FL : List Ft} {Z j : Nat} {u : Value} {cs : Array Value} (hS : ∀ a, S = some a → a.block < w.heap.size) (h : TG w T g A L c d F0 S cS ds ls ar x FL W) (hZ : w.heap.size < Z) (hB : Bk W Z cs 43) : TG w T g A L c d F0 S cS ds ls ar x FL (W.setCell ⟨Z, j, none⟩ u) := by
  have hF : ∀ b, b ≠ Z → (W.setCell ⟨Z, j, none⟩ u).heap[b]? = W.heap[b]? := fun b h => Below.heap_setCell W ⟨Z, j, none⟩ _ b h
  have hsz : (W.setCell ⟨Z, j, none⟩ u).heap.size = W.heap.size := by simp [World.setCell]
  obtain ⟨F, cF, h, hk, hF0, hBx, hT, hl⟩ := h
  have hgT := h.lt
  refine ⟨F, cF, ⟨(hF T (by omega)).trans h.blk, h.mn.stay (fun b hb => hF b (by omega)) (fun b hb => hF b (fun e => ?_)), own_keptBut h.seen (fun b hb => hF b (fun e => ?_)), hgT⟩, ⟨hk.os, hk.tape, hk.output, by rw [hsz]; exact hk.size, fun b q1 q2 q3 q4 q5 => (hF b (by omega)).trans (hk.block b q1 q2 q3 q4 q5)⟩, hF0, (hF _ (by omega)).trans hBx, hT, fun b hb => by rw [hsz]; exact hl b hb⟩
  · obtain ⟨_, _, cur, h2⟩ := own_block h.mn.facts hb
    rw [e] at h2
    unfold Bk at hB
    rw [hB] at h2
    simp only [Option.some.injEq, Obj.cells.injEq] at h2
    exact absurd h2.2.1 (by decide)
  · obtain ⟨A7, c7, hv, hA⟩ := own_sl h.seen
    cases hv
    cases hS' : S with
    | none =>
      subst hS'
      simp [Value.ownBlock] at hb
    | some a =>
      have e1 := hA a hS'
      have e2 := hS a hS'
      rw [e1] at hb
      have := Option.some.inj hb
      omega
def TSet (w : World) (G : List Ft → World → Prop) : Prop := ∀ (u0 u1 u2 u3 u4 u5 : Value) (FL : List Ft) (W : World) (Z : Nat) (v0 v1 v2 v3 v4 v5 : Value), G FL W → w.heap.size < Z → Bk W Z #[v0, v1, v2, v3, v4, v5] 43 → G FL ((((((W.setCell ⟨Z, 0, none⟩ u0).setCell ⟨Z, 1, none⟩ u1).setCell ⟨Z, 2, none⟩ u2).setCell ⟨Z, 3, none⟩ u3).setCell ⟨Z, 4, none⟩ u4).setCell ⟨Z, 5, none⟩ u5)
theorem t_set (w : World) (T g : Nat) (A L : Option Addr) (c d : Nat) (F0 S : Option Addr) (cS : Nat) (ds : List Dv) (ls : List Lk) (ar : List Arv) (x : Ev) (hS : ∀ a, S = some a → a.block < w.heap.size) : TSet w (TG w T g A L c d F0 S cS ds ls ar x) :=
  fun u0 u1 u2 u3 u4 _ _ _ _ _ _ _ _ _ _ h hZ hB => t_set1 hS (t_set1 hS (t_set1 hS (t_set1 hS (t_set1 hS (t_set1 hS h hZ hB) hZ (hB.setS u0)) hZ ((hB.setS u0).setS u1)) hZ (((hB.setS u0).setS u1).setS u2)) hZ ((((hB.setS u0).setS u1).setS u2).setS u3)) hZ (((((hB.setS u0).setS u1).setS u2).setS u3).setS u4)
set_option maxHeartbeats 8000000 in
set_option maxRecDepth 100000 in
theorem tdo_x {T g : Nat} {A L : Option Addr} {c d : Nat} {F : Option Addr} {cF : Nat} {S : Option Addr} {cS : Nat} {ds : List Dv} {ls : List Lk} {FL : List Ft} {ar : List Arv} (xk : Int) (k1 : ¬ xk = 1) (k2 : ¬ xk = 2) (k3 : ¬ xk = 3) (xi xq s pd sp dp xc : Int) (w : World) (h : Hid (TlAt w T g A L c d F cF S cS ds ls FL ar)) {r : Int × List Ft × List Arv} (HR : Hid ((1, FL, ar) = r)) :
    Calls Tryz.prog 15 #[.pointer (some ⟨T, 0, none⟩), .agg #[.int .i64 xk, .int .i64 xi, .int .i64 xq, .int .i64 s, .int .i64 pd, .int .i64 sp, .int .i64 dp, .int .i64 xc]] w fun e w' => e = .returned (.int .i64 r.1) ∧ TOut w T g A L c d F S ds ls r.2.1 r.2.2 w' := by
  have FX := t_facts w T g A L c d F S cS ds ls ar ⟨xk, xi, xq, ⟨s, pd, sp, dp⟩, xc⟩
  have G1 := tg_start h.out ⟨xk, xi, xq, ⟨s, pd, sp, dp⟩, xc⟩
  have hS : ∀ a, S = some a → a.block < w.heap.size := fun a ha => by
    obtain ⟨A7, c7, hv, hA⟩ := own_sl h.out.seen
    cases hv
    exact (own_block h.out.seen (hA a ha)).1
  have HST : Hid (TSet w (TG w T g A L c d F S cS ds ls ar ⟨xk, xi, xq, ⟨s, pd, sp, dp⟩, xc⟩)) := t_set w T g A L c d F S cS ds ls ar _ hS
  generalize TG w T g A L c d F S cS ds ls ar ⟨xk, xi, xq, ⟨s, pd, sp, dp⟩, xc⟩ = G at FX G1 HST
  clear h hS
  try dsimp only at G1
  obtain ⟨c0, c1, c2, c3, c4, c5, c6, c7⟩ := FX.cx G1
  dsimp only at c0 c1 c2 c3 c4 c5 c6 c7
  obtain rfl := HR.out.symm
  have f1 : (xk == 1) = false := by simpa using k1
  have f2 : (xk == 2) = false := by simpa using k2
  have f3 : (xk == 3) = false := by simpa using k3
  have hf := FX.out G1
  clear k1 k2 k3 HR HST
  go_enter Tryz.func15, Tryz.ntmps15
  go_wp2_with fail
  all_goals first | exact absurd (by assumption) (by simpa using f1) | exact absurd (by assumption) (by simpa using f2) | exact absurd (by assumption) (by simpa using f3) | skip
  go_ret
  exact ⟨rfl, hf⟩
set_option maxHeartbeats 8000000 in
set_option maxRecDepth 100000 in
theorem tdo_3 {T g : Nat} {A L : Option Addr} {c d : Nat} {F : Option Addr} {cF : Nat} {S : Option Addr} {cS : Nat} {ds : List Dv} {ls : List Lk} {FL : List Ft} {ar : List Arv} (xi xq s pd sp dp xc : Int) (w : World) (h : Hid (TlAt w T g A L c d F cF S cS ds ls FL ar)) (hn : FL.length ≤ 5000) {r : Int × List Ft × List Arv} (HR : Hid (((mgoneP ds FL xi ⟨s, pd, sp, dp⟩ xc).err, (mgoneP ds FL xi ⟨s, pd, sp, dp⟩ xc).FL, ar) = r)) :
    Calls Tryz.prog 15 #[.pointer (some ⟨T, 0, none⟩), .agg #[.int .i64 3, .int .i64 xi, .int .i64 xq, .int .i64 s, .int .i64 pd, .int .i64 sp, .int .i64 dp, .int .i64 xc]] w fun e w' => e = .returned (.int .i64 r.1) ∧ TOut w T g A L c d F S ds ls r.2.1 r.2.2 w' := by
  have FX := t_facts w T g A L c d F S cS ds ls ar ⟨3, xi, xq, ⟨s, pd, sp, dp⟩, xc⟩
  have G1 := tg_start h.out ⟨3, xi, xq, ⟨s, pd, sp, dp⟩, xc⟩
  have hS : ∀ a, S = some a → a.block < w.heap.size := fun a ha => by
    obtain ⟨A7, c7, hv, hA⟩ := own_sl h.out.seen
    cases hv
    exact (own_block h.out.seen (hA a ha)).1
  have HST : Hid (TSet w (TG w T g A L c d F S cS ds ls ar ⟨3, xi, xq, ⟨s, pd, sp, dp⟩, xc⟩)) := t_set w T g A L c d F S cS ds ls ar _ hS
  generalize TG w T g A L c d F S cS ds ls ar ⟨3, xi, xq, ⟨s, pd, sp, dp⟩, xc⟩ = G at FX G1 HST
  clear h hS
  try dsimp only at G1
  obtain ⟨c0, c1, c2, c3, c4, c5, c6, c7⟩ := FX.cx G1
  dsimp only at c0 c1 c2 c3 c4 c5 c6 c7
  obtain rfl := HR.out.symm
  have G1d := FX.keep G1 (Below.refl _ _).drew
  have t0 := (FX.ct G1).1
  clear HR HST c2
  go_enter Tryz.func15, Tryz.ntmps15
  go_wp2_with fail
  go_region_held3 (fun w' => w'.cell? ⟨T, 0, none⟩ = some (.pointer (some ⟨g, 0, none⟩)) ∧ w'.cell? ⟨w.heap.size, 1, none⟩ = some (.int .i64 xi) ∧ w'.cell? ⟨w.heap.size, 3, none⟩ = some (.int .i64 s) ∧ w'.cell? ⟨w.heap.size, 4, none⟩ = some (.int .i64 pd) ∧ w'.cell? ⟨w.heap.size, 5, none⟩ = some (.int .i64 sp) ∧ w'.cell? ⟨w.heap.size, 6, none⟩ = some (.int .i64 dp) ∧ w'.cell? ⟨w.heap.size, 7, none⟩ = some (.int .i64 xc)) (go_keep) ((go_at_call 10; refine (FX.mf G1d hn xi ⟨s, pd, sp, dp⟩ xc).mono ?_; rintro e w2 ⟨rfl, G2, KB⟩; have t0' := (FX.ct G2).1; obtain ⟨b0, b1, b2, b3, b4, b5, b6, b7⟩ := FX.cx G2; dsimp only at b0 b1 b2 b3 b4 b5 b6 b7))
  go_wp2_with fail
  go_ret
  exact ⟨rfl, FX.out G2⟩
end Go.Proofs.YtgmjlkllghlmmaaGreat
