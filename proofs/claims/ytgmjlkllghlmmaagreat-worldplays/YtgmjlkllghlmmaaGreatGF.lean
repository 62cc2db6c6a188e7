/-
  StepPlays: the mind's Handle, under way: what stays, what its calls tell.
-/
import Derived.Test.YtgmjlkllghlmmaaGreatGE
import Derived.Test.YtgmjlkllghlmmaaGreatGQ
import Derived.Laws.Tables
import Derived.Deep.RegionHeld3
namespace Go.Proofs.YtgmjlkllghlmmaaGreat
open Go.RowKit Go.Maps

/-- Handle, under way: D the block of the device, Q that of the packet that goes out. -/
structure HG (w : World) (g : Nat) (A L : Option Addr) (c d : Nat) (F : Option Addr) (cF : Nat) (ds : List Dv) (ls : List Lk) (FL : List Ft) (i q : Int) (p : Pk) (ch : Int) (dv : Dv) (kd : Int) (vb vr vt : Value) (D Q : Nat) (x : Pk) (W : World) : Prop where
  mn : MnAt W g A L c d F cF ds ls FL
  ba : Bk W w.heap.size #[.int .i64 i, .int .i64 q] 37
  bp : Bk W (w.heap.size + 1) #[.int .i64 p.s, .int .i64 p.d, .int .i64 p.sp, .int .i64 p.dp] 39
  bc : Bk W (w.heap.size + 1 + 1) #[.int .i64 ch] 3
  br : Bk W (w.heap.size + 1 + 1 + 1) #[.int .i64 0, .int .i64 0, .int .i64 0, .int .i64 0, .int .i64 0, .int .i64 0] 43
  bd : Bk W D #[.string dv.name, .int .i64 kd, .int .i64 dv.addr, .int .u8 (dv.pool : Int), vb, vr, vt] 78
  bq : Bk W Q #[.int .i64 x.s, .int .i64 x.d, .int .i64 x.sp, .int .i64 x.dp] 39
  hb : SlAt g W 1 IsI vb dv.backs
  hr : SlAt g W 5 IsRule vr dv.rules
  ht : SlAt g W 3 IsRoute vt dv.routes
  bl : Below w.heap.size w W
  lt : g < w.heap.size
  dq : w.heap.size + 1 + 1 + 1 < D ∧ D < Q
/-- Handle, before the packet that goes out is laid. -/
structure HB (w : World) (g : Nat) (A L : Option Addr) (c d : Nat) (F : Option Addr) (cF : Nat) (ds : List Dv) (ls : List Lk) (FL : List Ft) (i q : Int) (p : Pk) (ch : Int) (dv : Dv) (kd : Int) (vb vr vt : Value) (D : Nat) (W : World) : Prop where
  mn : MnAt W g A L c d F cF ds ls FL
  ba : Bk W w.heap.size #[.int .i64 i, .int .i64 q] 37
  bp : Bk W (w.heap.size + 1) #[.int .i64 p.s, .int .i64 p.d, .int .i64 p.sp, .int .i64 p.dp] 39
  bc : Bk W (w.heap.size + 1 + 1) #[.int .i64 ch] 3
  br : Bk W (w.heap.size + 1 + 1 + 1) #[.int .i64 0, .int .i64 0, .int .i64 0, .int .i64 0, .int .i64 0, .int .i64 0] 43
  bd : Bk W D #[.string dv.name, .int .i64 kd, .int .i64 dv.addr, .int .u8 (dv.pool : Int), vb, vr, vt] 78
  hb : SlAt g W 1 IsI vb dv.backs
  hr : SlAt g W 5 IsRule vr dv.rules
  ht : SlAt g W 3 IsRoute vt dv.routes
  bl : Below w.heap.size w W
  lt : g < w.heap.size
  dl : w.heap.size + 1 + 1 + 1 < D
section
variable {w W W' : World} {g : Nat} {A L : Option Addr} {c d : Nat} {F : Option Addr} {cF : Nat} {ds : List Dv} {ls : List Lk} {FL : List Ft} {i q : Int} {p : Pk} {ch : Int} {dv : Dv} {kd : Int} {vb vr vt : Value} {D Q : Nat} {x : Pk}
theorem HG.keep (h : HG w g A L c d F cF ds ls FL i q p ch dv kd vb vr vt D Q x W) (hb : Below W.heap.size W W') : HG w g A L c d F cF ds ls FL i q p ch dv kd vb vr vt D Q x W' :=
  have hg : Below g W W' := hb.mono (Nat.le_of_lt h.mn.blk.lt)
  ⟨h.mn.below hb, h.ba.keep hb, h.bp.keep hb, h.bc.keep hb, h.br.keep hb, h.bd.keep hb, h.bq.keep hb, SlAt.below h.hb hg (fun _ _ _ h => h), SlAt.below h.hr hg (fun _ _ _ h => h), SlAt.below h.ht hg (fun _ _ _ h => h), chnN hb h.bl, h.lt, h.dq⟩
/-- A store into the packet that goes out. -/
theorem HG.put {x' : Pk} {j : Nat} {u : Value} (h : HG w g A L c d F cF ds ls FL i q p ch dv kd vb vr vt D Q x W) (hx : Bk (W.setCell ⟨Q, j, none⟩ u) Q #[.int .i64 x'.s, .int .i64 x'.d, .int .i64 x'.sp, .int .i64 x'.dp] 39) : HG w g A L c d F cF ds ls FL i q p ch dv kd vb vr vt D Q x' (W.setCell ⟨Q, j, none⟩ u) := by
  have hF : ∀ b, b ≠ Q → (W.setCell ⟨Q, j, none⟩ u).heap[b]? = W.heap[b]? := fun b h => Below.heap_setCell W ⟨Q, j, none⟩ _ b h
  obtain ⟨d1, d2⟩ := h.dq
  have hg := h.lt
  have hsz : (W.setCell ⟨Q, j, none⟩ u).heap.size = W.heap.size := by simp [World.setCell]
  have bg : Below g W (W.setCell ⟨Q, j, none⟩ u) := ⟨rfl, rfl, rfl, by rw [hsz]; exact Nat.le_refl _, fun b hb => hF b (by omega)⟩
  exact ⟨h.mn.set h.bq (by omega) (by decide), (hF _ (by omega)).trans h.ba, (hF _ (by omega)).trans h.bp, (hF _ (by omega)).trans h.bc, (hF _ (by omega)).trans h.br, (hF _ (by omega)).trans h.bd, hx, SlAt.below h.hb bg (fun _ _ _ h => h), SlAt.below h.hr bg (fun _ _ _ h => h), SlAt.below h.ht bg (fun _ _ _ h => h), ⟨h.bl.os, h.bl.tape, h.bl.output, by rw [hsz]; exact h.bl.size, fun b hb => (hF b (by omega)).trans (h.bl.block b hb)⟩, hg, h.dq⟩
theorem HG.s0 (h : HG w g A L c d F cF ds ls FL i q p ch dv kd vb vr vt D Q x W) (n : Int) : HG w g A L c d F cF ds ls FL i q p ch dv kd vb vr vt D Q ⟨n, x.d, x.sp, x.dp⟩ (W.setCell ⟨Q, 0, none⟩ (.int .i64 n)) := h.put (h.bq.setS (j := 0) (.int .i64 n))
theorem HG.s1 (h : HG w g A L c d F cF ds ls FL i q p ch dv kd vb vr vt D Q x W) (n : Int) : HG w g A L c d F cF ds ls FL i q p ch dv kd vb vr vt D Q ⟨x.s, n, x.sp, x.dp⟩ (W.setCell ⟨Q, 1, none⟩ (.int .i64 n)) := h.put (h.bq.setS (j := 1) (.int .i64 n))
theorem HG.s2 (h : HG w g A L c d F cF ds ls FL i q p ch dv kd vb vr vt D Q x W) (n : Int) : HG w g A L c d F cF ds ls FL i q p ch dv kd vb vr vt D Q ⟨x.s, x.d, n, x.dp⟩ (W.setCell ⟨Q, 2, none⟩ (.int .i64 n)) := h.put (h.bq.setS (j := 2) (.int .i64 n))
theorem HG.s3 (h : HG w g A L c d F cF ds ls FL i q p ch dv kd vb vr vt D Q x W) (n : Int) : HG w g A L c d F cF ds ls FL i q p ch dv kd vb vr vt D Q ⟨x.s, x.d, x.sp, n⟩ (W.setCell ⟨Q, 3, none⟩ (.int .i64 n)) := h.put (h.bq.setS (j := 3) (.int .i64 n))
theorem HG.fact (h : HG w g A L c d F cF ds ls FL i q p ch dv kd vb vr vt D Q x W) {k : Nat} {f : Ft} (hf : FL[k]? = some f) : ∃ b o, F = some ⟨b, o, none⟩ ∧ W.cell? ⟨b, o + k * 6 + 1, none⟩ = some (.int .i64 f.p.s) ∧ W.cell? ⟨b, o + k * 6 + 1 + 2, none⟩ = some (.int .i64 f.p.sp) ∧ W.cell? ⟨b, o + k * 6 + 5, none⟩ = some (.int .i64 f.n) ∧ (0 : Int) ≤ (k : Int) ∧ (k : Int) < (FL.length : Int) := by
  obtain ⟨b, o, e, _, _, c1, _, c3, _, c5⟩ := h.mn.row.ft hf
  have := (List.getElem?_eq_some_iff.1 hf).1
  exact ⟨b, o, e, c1, c3, c5, by omega, by omega⟩
theorem HB.keep (h : HB w g A L c d F cF ds ls FL i q p ch dv kd vb vr vt D W) (hb : Below W.heap.size W W') : HB w g A L c d F cF ds ls FL i q p ch dv kd vb vr vt D W' :=
  have hg : Below g W W' := hb.mono (Nat.le_of_lt h.mn.blk.lt)
  ⟨h.mn.below hb, h.ba.keep hb, h.bp.keep hb, h.bc.keep hb, h.br.keep hb, h.bd.keep hb, SlAt.below h.hb hg (fun _ _ _ h => h), SlAt.below h.hr hg (fun _ _ _ h => h), SlAt.below h.ht hg (fun _ _ _ h => h), chnN hb h.bl, h.lt, h.dl⟩
theorem HB.drewN (h : HB w g A L c d F cF ds ls FL i q p ch dv kd vb vr vt D W) (n : Nat) : HB w g A L c d F cF ds ls FL i q p ch dv kd vb vr vt D (W.drewN n) := h.keep (belowNN (Below.refl _ _) n)
theorem HB.toG (h : HB w g A L c d F cF ds ls FL i q p ch dv kd vb vr vt D W) : HG w g A L c d F cF ds ls FL i q p ch dv kd vb vr vt D W.heap.size p (W.alloc (pkC p)) :=
  have k := h.keep ((Below.refl _ _).alloc (Nat.le_refl _) (pkC p))
  ⟨k.mn, k.ba, k.bp, k.bc, k.br, k.bd, bk_new W _ _, k.hb, k.hr, k.ht, k.bl, k.lt, k.dl, h.bd.lt⟩
/-- The fact that is to be known, in memory. -/
def KN (k : Option Ft) (v : Value) (W : World) : Prop := match k with
  | none => v = .pointer none
  | some f => ∃ K, v = .pointer (some ⟨K, 0, none⟩) ∧ Bk W K #[.int .i64 f.i, .int .i64 f.p.s, .int .i64 f.p.d, .int .i64 f.p.sp, .int .i64 f.p.dp, .int .i64 f.n] 101
theorem KN.keep {k : Option Ft} {v : Value} (h : KN k v W) (hb : Below W.heap.size W W') : KN k v W' := by
  cases k with
  | none => exact h
  | some f =>
    obtain ⟨K, h1, h2⟩ := h
    exact ⟨K, h1, h2.keep hb⟩
theorem idx_any {is : Ft → Bool} {j : Int} (h : Idx is FL j) : decide (0 ≤ j) = FL.any is := by
  rcases h with ⟨rfl, h⟩ | ⟨k, f, rfl, h1, h2, _⟩
  · rw [find_no h]
    rfl
  · rw [List.any_eq_true.2 ⟨f, List.mem_of_getElem? h1, List.find?_some h2⟩]
    simp
end
/-- What Handle's calls tell, whatever G is. -/
structure HFacts (w : World) (g : Nat) (A L : Option Addr) (c d : Nat) (F : Option Addr) (cF : Nat) (ds : List Dv) (ls : List Lk) (FL : List Ft) (i q : Int) (p : Pk) (ch : Int) (dv : Dv) (kd : Int) (vb vr vt : Value) (D Q : Nat) (G : Pk → World → Prop) : Prop where
  keep : ∀ {x W W'}, G x W → Below W.heap.size W W' → G x W'
  ca : ∀ {x W}, G x W → W.cell? ⟨w.heap.size, 0, none⟩ = some (.int .i64 i) ∧ W.cell? ⟨w.heap.size, 1, none⟩ = some (.int .i64 q)
  cp : ∀ {x W}, G x W → W.cell? ⟨w.heap.size + 1, 0, none⟩ = some (.int .i64 p.s) ∧ W.cell? ⟨w.heap.size + 1, 1, none⟩ = some (.int .i64 p.d) ∧ W.cell? ⟨w.heap.size + 1, 2, none⟩ = some (.int .i64 p.sp) ∧ W.cell? ⟨w.heap.size + 1, 3, none⟩ = some (.int .i64 p.dp)
  cc : ∀ {x W}, G x W → W.cell? ⟨w.heap.size + 1 + 1, 0, none⟩ = some (.int .i64 ch)
  cd : ∀ {x W}, G x W → W.cell? ⟨D, 1, none⟩ = some (.int .i64 kd) ∧ W.cell? ⟨D, 2, none⟩ = some (.int .i64 dv.addr) ∧ W.cell? ⟨D, 3, none⟩ = some (.int .u8 (dv.pool : Int)) ∧ W.cell? ⟨D, 4, none⟩ = some vb ∧ W.cell? ⟨D, 5, none⟩ = some vr ∧ W.cell? ⟨D, 6, none⟩ = some vt
  cg : ∀ {x W}, G x W → W.cell? ⟨g, 0, none⟩ = some (.slice A ds.length c) ∧ W.cell? ⟨g, 1, none⟩ = some (.slice L ls.length d) ∧ W.cell? ⟨g, 2, none⟩ = some (.slice F FL.length cF)
  cq : ∀ {x W}, G x W → W.cell? ⟨Q, 0, none⟩ = some (.int .i64 x.s) ∧ W.cell? ⟨Q, 1, none⟩ = some (.int .i64 x.d) ∧ W.cell? ⟨Q, 2, none⟩ = some (.int .i64 x.sp) ∧ W.cell? ⟨Q, 3, none⟩ = some (.int .i64 x.dp) ∧ W.frozen? ⟨Q, 0, none⟩ = false ∧ W.frozen? ⟨Q, 1, none⟩ = false ∧ W.frozen? ⟨Q, 2, none⟩ = false ∧ W.frozen? ⟨Q, 3, none⟩ = false
  bq : ∀ {x W}, G x W → Bk W Q #[.int .i64 x.s, .int .i64 x.d, .int .i64 x.sp, .int .i64 x.dp] 39
  cr : ∀ {x W}, G x W → Bk W (w.heap.size + 1 + 1 + 1) #[.int .i64 0, .int .i64 0, .int .i64 0, .int .i64 0, .int .i64 0, .int .i64 0] 43
  s0 : ∀ {x W}, G x W → ∀ n, G ⟨n, x.d, x.sp, x.dp⟩ (W.setCell ⟨Q, 0, none⟩ (.int .i64 n))
  s1 : ∀ {x W}, G x W → ∀ n, G ⟨x.s, n, x.sp, x.dp⟩ (W.setCell ⟨Q, 1, none⟩ (.int .i64 n))
  s2 : ∀ {x W}, G x W → ∀ n, G ⟨x.s, x.d, n, x.dp⟩ (W.setCell ⟨Q, 2, none⟩ (.int .i64 n))
  s3 : ∀ {x W}, G x W → ∀ n, G ⟨x.s, x.d, x.sp, n⟩ (W.setCell ⟨Q, 3, none⟩ (.int .i64 n))
  fact : ∀ {x W}, G x W → ∀ {k : Nat} {f : Ft}, FL[k]? = some f → ∃ b o, F = some ⟨b, o, none⟩ ∧ W.cell? ⟨b, o + k * 6 + 1, none⟩ = some (.int .i64 f.p.s) ∧ W.cell? ⟨b, o + k * 6 + 1 + 2, none⟩ = some (.int .i64 f.p.sp) ∧ W.cell? ⟨b, o + k * 6 + 5, none⟩ = some (.int .i64 f.n) ∧ (0 : Int) ≤ (k : Int) ∧ (k : Int) < (FL.length : Int)
  back : ∀ {x W}, G x W → ∃ Ab cb, vb = .slice Ab dv.backs.length cb ∧ ∀ {k : Nat} {n : Int}, dv.backs[k]? = some n → ∃ b o, Ab = some ⟨b, o, none⟩ ∧ W.cell? ⟨b, o + k, none⟩ = some (.int .i64 n)
  out : ∀ {x W}, G x W → Calls Tryz.prog 32 #[vt, .int .i64 p.d] W fun e w' => e = .returned (.tuple #[.int .i64 (outN (routesOf dv) p.d), .bool (outB (routesOf dv) p.d)]) ∧ Below W.heap.size W w'
  lets : ∀ {x W}, G x W → Calls Tryz.prog 33 #[vr, .agg #[.int .i64 p.s, .int .i64 p.d, .int .i64 p.sp, .int .i64 p.dp]] W fun e w' => e = .returned (.bool (letsB (rulesOf dv) p.s p.d p.sp p.dp)) ∧ Below W.heap.size W w'
  f1 : ∀ {x W}, G x W → Calls Tryz.prog 34 #[.pointer (some ⟨g, 0, none⟩), .func (.func 35) #[] #[.pointer (some ⟨w.heap.size, 0, none⟩), .pointer (some ⟨w.heap.size + 1, 0, none⟩)]] W fun e w' => ∃ j : Int, e = .returned (.int .i64 j) ∧ Hid (Idx (ofFlow i (flipP p)) FL j) ∧ Below W.heap.size W w'
  f2 : ∀ {x W}, G x W → Calls Tryz.prog 34 #[.pointer (some ⟨g, 0, none⟩), .func (.func 37) #[] #[.pointer (some ⟨w.heap.size, 0, none⟩), .pointer (some ⟨w.heap.size + 1, 0, none⟩)]] W fun e w' => ∃ j : Int, e = .returned (.int .i64 j) ∧ Hid (Idx (ofPort i p.dp) FL j) ∧ Below W.heap.size W w'
  f3 : ∀ {x W}, G x W → ∀ (O : Nat) (o : Pk), Bk W O #[.int .i64 o.s, .int .i64 o.d, .int .i64 o.sp, .int .i64 o.dp] 39 → Calls Tryz.prog 34 #[.pointer (some ⟨g, 0, none⟩), .func (.func 38) #[] #[.pointer (some ⟨w.heap.size, 0, none⟩), .pointer (some ⟨O, 0, none⟩)]] W fun e w' => ∃ j : Int, e = .returned (.int .i64 j) ∧ Hid (Idx (ofFlow i o) FL j) ∧ Below W.heap.size W w'
  f4 : ∀ {x W}, G x W → Calls Tryz.prog 34 #[.pointer (some ⟨g, 0, none⟩), .func (.func 40) #[] #[.pointer (some ⟨w.heap.size, 0, none⟩), .pointer (some ⟨w.heap.size + 1 + 1, 0, none⟩)]] W fun e w' => ∃ j : Int, e = .returned (.int .i64 j) ∧ Hid (Idx (ofPort i ch) FL j) ∧ Below W.heap.size W w'
  f5 : ∀ {x W}, G x W → ∀ (O : Nat) (o : Pk), Bk W O #[.int .i64 o.s, .int .i64 o.d, .int .i64 o.sp, .int .i64 o.dp] 39 → Calls Tryz.prog 34 #[.pointer (some ⟨g, 0, none⟩), .func (.func 41) #[] #[.pointer (some ⟨w.heap.size, 0, none⟩), .pointer (some ⟨O, 0, none⟩), .pointer (some ⟨w.heap.size + 1, 0, none⟩)]] W fun e w' => ∃ j : Int, e = .returned (.int .i64 j) ∧ Hid (Idx (fun f => ftB f ⟨i, o, p.s⟩) FL j) ∧ Below W.heap.size W w'
  f6 : ∀ {x W}, G x W → Calls Tryz.prog 34 #[.pointer (some ⟨g, 0, none⟩), .func (.func 42) #[] #[.pointer (some ⟨w.heap.size, 0, none⟩), .pointer (some ⟨w.heap.size + 1, 0, none⟩)]] W fun e w' => ∃ j : Int, e = .returned (.int .i64 j) ∧ Hid (Idx (ofFlow i p) FL j) ∧ Below W.heap.size W w'
  peer : ∀ {x W}, G x W → ∀ port : Int, Calls Tryz.prog 43 #[.agg #[.slice A ds.length c, .slice L ls.length d], .agg #[.int .i64 i, .int .i64 port]] W fun e w' => e = .returned (.tuple #[placeV (peerF ls i port), .bool (peerF ls i port).isSome]) ∧ Below W.heap.size W w'
  cont : ∀ {x W}, G x W → ∀ f : Ft, Calls Tryz.prog 44 #[.slice F FL.length cF, .agg #[.int .i64 f.i, .int .i64 f.p.s, .int .i64 f.p.d, .int .i64 f.p.sp, .int .i64 f.p.dp, .int .i64 f.n]] W fun e w' => e = .returned (.bool (FL.any (fun x => ftB x f))) ∧ Below W.heap.size W w'
  mn : ∀ {x W}, G x W → MnAt W g A L c d F cF ds ls FL
  bl : ∀ {x W}, G x W → Below w.heap.size w W
  hb : g < w.heap.size
theorem hg_facts (w : World) (g : Nat) (A L : Option Addr) (c d : Nat) (F : Option Addr) (cF : Nat) (ds : List Dv) (ls : List Lk) (FL : List Ft) (i q : Int) (p : Pk) (ch : Int) (dv : Dv) (kd : Int) (vb vr vt : Value) (D Q : Nat) (hlt : g < w.heap.size) : HFacts w g A L c d F cF ds ls FL i q p ch dv kd vb vr vt D Q (HG w g A L c d F cF ds ls FL i q p ch dv kd vb vr vt D Q) where
  keep h hb := h.keep hb
  ca h := h.ba.two
  cp h := ⟨h.bp.at 0, h.bp.at 1, h.bp.at 2, h.bp.at 3⟩
  cc h := h.bc.at 0
  cd h := ⟨h.bd.at 1, h.bd.at 2, h.bd.at 3, h.bd.at 4, h.bd.at 5, h.bd.at 6⟩
  cg h := ⟨h.mn.blk.at 0, h.mn.blk.at 1, h.mn.blk.at 2⟩
  cq h := h.bq.four
  bq h := h.bq
  cr h := h.br
  s0 h n := h.s0 n
  s1 h n := h.s1 n
  s2 h n := h.s2 n
  s3 h n := h.s3 n
  fact h _ _ hf := h.fact hf
  back h := by
    obtain ⟨Ab, cb, e, _, _, _, h3⟩ := h.hb
    refine ⟨Ab, cb, e, fun {k n} hk => ?_⟩
    obtain ⟨b, o, ea, _, hr⟩ := h3 (fun e => by rw [e] at hk; cases hk)
    obtain ⟨cs, hl, hc, hcs⟩ := hr k n hk
    unfold IsI at hc
    subst hc
    have := hcs 0 _ rfl
    rw [Nat.mul_one, Nat.add_zero] at this
    exact ⟨b, o, ea, this⟩
  out h := rout_any p.d _ (routes_of (SlAt.mono h.ht (Nat.le_of_lt h.mn.blk.lt) (fun _ _ _ h => h)))
  lets h := rlets_any p.s p.d p.sp p.dp _ (rules_of (SlAt.mono h.hr (Nat.le_of_lt h.mn.blk.lt) (fun _ _ _ h => h)))
  f1 h := find_c1 _ _ g _ _ F cF FL _ _ _ (Nat.le_refl _) h.mn.blk h.mn.row (fun f W' hb => clo1 f i q p _ _ W' (h.keep hb).ba (h.keep hb).bp)
  f2 h := find_c2 _ _ g _ _ F cF FL _ _ _ (Nat.le_refl _) h.mn.blk h.mn.row (fun f W' hb => clo2 f i q p _ _ W' (h.keep hb).ba (h.keep hb).bp)
  f3 h O o hO := find_c3 _ _ g _ _ F cF FL _ _ _ (Nat.le_refl _) h.mn.blk h.mn.row (fun f W' hb => clo3 f i q o _ _ W' (h.keep hb).ba (hO.keep hb))
  f4 h := find_c4 _ _ g _ _ F cF FL _ _ _ (Nat.le_refl _) h.mn.blk h.mn.row (fun f W' hb => clo4 f i q ch _ _ W' (h.keep hb).ba (h.keep hb).bc)
  f5 h O o hO := find_c5 _ _ _ g _ _ F cF FL _ _ _ (Nat.le_refl _) h.mn.blk h.mn.row (fun f W' hb => clo5 f i q p o _ _ _ W' (h.keep hb).ba (hO.keep hb) (h.keep hb).bp)
  f6 h := find_c6 _ _ g _ _ F cF FL _ _ _ (Nat.le_refl _) h.mn.blk h.mn.row (fun f W' hb => clo6 f i q p _ _ W' (h.keep hb).ba (h.keep hb).bp)
  peer h port := rpeer_any _ L ls.length d ls i port _ (h.mn.links.mono (Nat.le_of_lt h.mn.blk.lt))
  cont h f := contains_ft F cF FL f _ _ (Nat.le_refl _) h.mn.row
  mn h := h.mn
  bl h := h.bl
  hb := hlt
end Go.Proofs.YtgmjlkllghlmmaaGreat

namespace Go.Proofs.YtgmjlkllghlmmaaGreat
open Go.RowKit Go.Maps

/-- A struct of three parts is built, by its run. -/
theorem wp_build3 {P : Program} {o : Oper} {a : Act} {w : World} {K : Act → World → Prop} {Q : Exit → Act → World → Prop} (t : TypeId) (x0 x1 x2 : Operand) (n0 n1 n2 : Nat) (ho : o.op = .build t #[(n0, x0), (n1, x1), (n2, x2)]) (v0 v1 v2 : Value) (cells : Array Value) (hr : (Instr.build t #[(n0, v0), (n1, v1), (n2, v2)]).run P w = .ok (.agg cells) w)
    (h0 : a.eval x0 = v0) (h1 : a.eval x1 = v1) (h2 : a.eval x2 = v2) (h : K (a.put o.dst (.agg cells)) w) : o.wp P a w K Q := by
  unfold Oper.wp execOp
  simp only [ho, List.map_toArray, List.map_cons, List.map_nil, h0, h1, h2, Sem.run_bind, hr, Result.andThen_ok]
  exact h
theorem wp_build2 {P : Program} {o : Oper} {a : Act} {w : World} {K : Act → World → Prop} {Q : Exit → Act → World → Prop} (t : TypeId) (x0 x1 : Operand) (n0 n1 : Nat) (ho : o.op = .build t #[(n0, x0), (n1, x1)]) (v0 v1 : Value) (cells : Array Value) (hr : (Instr.build t #[(n0, v0), (n1, v1)]).run P w = .ok (.agg cells) w)
    (h0 : a.eval x0 = v0) (h1 : a.eval x1 = v1) (h : K (a.put o.dst (.agg cells)) w) : o.wp P a w K Q := by
  unfold Oper.wp execOp
  simp only [ho, List.map_toArray, List.map_cons, List.map_nil, h0, h1, Sem.run_bind, hr, Result.andThen_ok]
  exact h
theorem wp_build4 {P : Program} {o : Oper} {a : Act} {w : World} {K : Act → World → Prop} {Q : Exit → Act → World → Prop} (t : TypeId) (x0 x1 x2 x3 : Operand) (n0 n1 n2 n3 : Nat) (ho : o.op = .build t #[(n0, x0), (n1, x1), (n2, x2), (n3, x3)]) (v0 v1 v2 v3 : Value) (cells : Array Value) (hr : (Instr.build t #[(n0, v0), (n1, v1), (n2, v2), (n3, v3)]).run P w = .ok (.agg cells) w)
    (h0 : a.eval x0 = v0) (h1 : a.eval x1 = v1) (h2 : a.eval x2 = v2) (h3 : a.eval x3 = v3) (h : K (a.put o.dst (.agg cells)) w) : o.wp P a w K Q := by
  unfold Oper.wp execOp
  simp only [ho, List.map_toArray, List.map_cons, List.map_nil, h0, h1, h2, h3, Sem.run_bind, hr, Result.andThen_ok]
  exact h
/-- In a region that draws: a struct of three parts, of two. -/
theorem yields_build3 {P : Program} {ops : Array Oper} {S : World → Prop} {o : Oper} {a : Act} (hw : Region.wanted o (yielded ops a.tmps) = true) (t : TypeId) (x0 x1 x2 : Operand) (n0 n1 n2 : Nat) (ho : o.op = .build t #[(n0, x0), (n1, x1), (n2, x2)]) (v0 v1 v2 : Value) (cells : Array Value) (hr : ∀ w, (Instr.build t #[(n0, v0), (n1, v1), (n2, v2)]).run P w = .ok (.agg cells) w)
    (h0 : a.eval x0 = v0) (h1 : a.eval x1 = v1) (h2 : a.eval x2 = v2) : YieldsIf P ops S o (.agg cells) a := by
  refine Or.inl ⟨hw, fun w _ => ?_⟩
  unfold execOp
  simp only [ho, List.map_toArray, List.map_cons, List.map_nil, h0, h1, h2, Sem.run_bind, hr, Result.andThen_ok]
  rfl
theorem yields_build2 {P : Program} {ops : Array Oper} {S : World → Prop} {o : Oper} {a : Act} (hw : Region.wanted o (yielded ops a.tmps) = true) (t : TypeId) (x0 x1 : Operand) (n0 n1 : Nat) (ho : o.op = .build t #[(n0, x0), (n1, x1)]) (v0 v1 : Value) (cells : Array Value) (hr : ∀ w, (Instr.build t #[(n0, v0), (n1, v1)]).run P w = .ok (.agg cells) w)
    (h0 : a.eval x0 = v0) (h1 : a.eval x1 = v1) : YieldsIf P ops S o (.agg cells) a := by
  refine Or.inl ⟨hw, fun w _ => ?_⟩
  unfold execOp
  simp only [ho, List.map_toArray, List.map_cons, List.map_nil, h0, h1, Sem.run_bind, hr, Result.andThen_ok]
  rfl
theorem pk_build2 (a c : Int) (w : World) : (Instr.build 39 #[(0, .int .i64 a), (2, .int .i64 c)]).run Tryz.prog w = .ok (.agg #[.int .i64 a, .int .i64 0, .int .i64 c, .int .i64 0]) w := by
  refine run_build w _ _ _ ?_
  kernel_rfl
theorem pk_build4 (a b c d : Int) (w : World) : (Instr.build 39 #[(0, .int .i64 a), (2, .int .i64 c), (1, .int .i64 b), (3, .int .i64 d)]).run Tryz.prog w = .ok (.agg #[.int .i64 a, .int .i64 b, .int .i64 c, .int .i64 d]) w := by
  refine run_build w _ _ _ ?_
  kernel_rfl
theorem pl_build2 (a b : Int) (w : World) : (Instr.build 37 #[(0, .int .i64 a), (1, .int .i64 b)]).run Tryz.prog w = .ok (.agg #[.int .i64 a, .int .i64 b]) w := by
  refine run_build w _ _ _ ?_
  kernel_rfl
theorem fact_build (i n : Int) (p : Pk) (w : World) : (Instr.build 101 #[(0, .int .i64 i), (1, .agg #[.int .i64 p.s, .int .i64 p.d, .int .i64 p.sp, .int .i64 p.dp]), (2, .int .i64 n)]).run Tryz.prog w = .ok (.agg #[.int .i64 i, .int .i64 p.s, .int .i64 p.d, .int .i64 p.sp, .int .i64 p.dp, .int .i64 n]) w := by
  refine run_build w _ _ _ ?_
  kernel_rfl
theorem fact_build0 (i : Int) (p : Pk) (w : World) : (Instr.build 101 #[(0, .int .i64 i), (1, .agg #[.int .i64 p.s, .int .i64 p.d, .int .i64 p.sp, .int .i64 p.dp]), (2, .int .i64 0)]).run Tryz.prog w = .ok (.agg #[.int .i64 i, .int .i64 p.s, .int .i64 p.d, .int .i64 p.sp, .int .i64 p.dp, .int .i64 0]) w := fact_build i 0 p w
theorem arrival_build (x y : Int) (p : Pk) (w : World) : (Instr.build 43 #[(0, .agg #[.int .i64 x, .int .i64 y]), (1, .agg #[.int .i64 p.s, .int .i64 p.d, .int .i64 p.sp, .int .i64 p.dp])]).run Tryz.prog w = .ok (.agg #[.int .i64 x, .int .i64 y, .int .i64 p.s, .int .i64 p.d, .int .i64 p.sp, .int .i64 p.dp]) w := by
  refine run_build w _ _ _ ?_
  kernel_rfl
end Go.Proofs.YtgmjlkllghlmmaaGreat
