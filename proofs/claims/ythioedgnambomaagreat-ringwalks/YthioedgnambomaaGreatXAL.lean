/-
  StepPlays: the mind's Handle, under way: what stays, what its calls tell.
-/
import Derived.Test.YthioedgnambomaaGreatXAK
import Derived.Test.YthioedgnambomaaGreatXAE
import Derived.Test.YthioedgnambomaaGreatXAC
import Derived.Deep.RegionHeld3
import Derived.Laws.Tables
import Derived.Deep.CutBlock
import Derived.Deep.DeepCutAuto
namespace Go.Proofs.YthioedgnambomaaGreat
open Go.RowKit Go.Maps

/-- Handle, under way: D the block of the device, Q that of the packet that goes out. -/
structure HG (w : World) (g : Nat) (A L : Option Addr) (c d : Nat) (F : Option Addr) (cF : Nat) (ds : List Dv) (ls : List Lk) (FL : List Ft) (i q : Int) (p : Pk) (ch : Int) (dv : Dv) (kd : Int) (vb vr vt : Value) (D Q : Nat) (x : Pk) (W : World) : Prop where
  mn : MnAt W g A L c d F cF ds ls FL
  ba : Bk W w.heap.size #[.int .i64 i, .int .i64 q] 27
  bp : Bk W (w.heap.size + 1) #[.int .i64 p.s, .int .i64 p.d, .int .i64 p.sp, .int .i64 p.dp] 29
  bc : Bk W (w.heap.size + 1 + 1) #[.int .i64 ch] 3
  br : Bk W (w.heap.size + 1 + 1 + 1) #[.int .i64 0, .int .i64 0, .int .i64 0, .int .i64 0, .int .i64 0, .int .i64 0] 60
  bd : Bk W D #[.string dv.name, .int .i64 kd, .int .i64 dv.addr, .int .u8 (dv.pool : Int), vb, vr, vt] 41
  bq : Bk W Q #[.int .i64 x.s, .int .i64 x.d, .int .i64 x.sp, .int .i64 x.dp] 29
  hb : SlAt g W 1 IsI vb dv.backs
  hr : SlAt g W 5 IsRule vr dv.rules
  ht : SlAt g W 3 IsRoute vt dv.routes
  bl : Below w.heap.size w W
  lt : g < w.heap.size
  dq : w.heap.size + 1 + 1 + 1 < D ∧ D < Q
/-- Handle, before the packet that goes out is laid. -/
structure HB (w : World) (g : Nat) (A L : Option Addr) (c d : Nat) (F : Option Addr) (cF : Nat) (ds : List Dv) (ls : List Lk) (FL : List Ft) (i q : Int) (p : Pk) (ch : Int) (dv : Dv) (kd : Int) (vb vr vt : Value) (D : Nat) (W : World) : Prop where
  mn : MnAt W g A L c d F cF ds ls FL
  ba : Bk W w.heap.size #[.int .i64 i, .int .i64 q] 27
  bp : Bk W (w.heap.size + 1) #[.int .i64 p.s, .int .i64 p.d, .int .i64 p.sp, .int .i64 p.dp] 29
  bc : Bk W (w.heap.size + 1 + 1) #[.int .i64 ch] 3
  br : Bk W (w.heap.size + 1 + 1 + 1) #[.int .i64 0, .int .i64 0, .int .i64 0, .int .i64 0, .int .i64 0, .int .i64 0] 60
  bd : Bk W D #[.string dv.name, .int .i64 kd, .int .i64 dv.addr, .int .u8 (dv.pool : Int), vb, vr, vt] 41
  hb : SlAt g W 1 IsI vb dv.backs
  hr : SlAt g W 5 IsRule vr dv.rules
  ht : SlAt g W 3 IsRoute vt dv.routes
  bl : Below w.heap.size w W
  lt : g < w.heap.size
  dl : w.heap.size + 1 + 1 + 1 < D
section
variable {w W W' : World} {g : Nat} {A L : Option Addr} {c d : Nat} {F : Option Addr} {cF : Nat} {ds : List Dv} {ls : List Lk} {FL : List Ft} {i q : Int} {p : Pk} {ch : Int} {dv : Dv} {kd : Int} {vb vr vt : Value} {D Q : Nat} {x : Pk}
theorem HG.keep (h : HG w g A L c d F cF ds ls FL i q p ch dv kd vb vr vt D Q x W) (hb : Below W.heap.size W W') : HG w g A L c d F cF ds ls FL i q p ch dv kd vb vr vt D Q x W' :=
  have hg : Below g W W' := hb.mono (Nat.le_of_lt h.mn.blk.lt)
  ⟨h.mn.below hb, h.ba.keep hb, h.bp.keep hb, h.bc.keep hb, h.br.keep hb, h.bd.keep hb, h.bq.keep hb, SlAt.below h.hb hg (fun _ _ _ h => h), SlAt.below h.hr hg (fun _ _ _ h => h), SlAt.below h.ht hg (fun _ _ _ h => h), chnN hb h.bl, h.lt, h.dq⟩
/-- A store into the packet that goes out. -/
theorem HG.put {x' : Pk} {j : Nat} {u : Value} (h : HG w g A L c d F cF ds ls FL i q p ch dv kd vb vr vt D Q x W) (hx : Bk (W.setCell ⟨Q, j, none⟩ u) Q #[.int .i64 x'.s, .int .i64 x'.d, .int .i64 x'.sp, .int .i64 x'.dp] 29) : HG w g A L c d F cF ds ls FL i q p ch dv kd vb vr vt D Q x' (W.setCell ⟨Q, j, none⟩ u) := by
  have hF : ∀ b, b ≠ Q → (W.setCell ⟨Q, j, none⟩ u).heap[b]? = W.heap[b]? := fun b h => Below.heap_setCell W ⟨Q, j, none⟩ _ b h
  obtain ⟨d1, d2⟩ := h.dq
  have hg := h.lt
  have hsz : (W.setCell ⟨Q, j, none⟩ u).heap.size = W.heap.size := by simp [World.setCell]
  have bg : Below g W (W.setCell ⟨Q, j, none⟩ u) := ⟨rfl, rfl, rfl, by rw [hsz]; exact Nat.le_refl _, fun b hb => hF b (by omega)⟩
  exact ⟨h.mn.set h.bq (by omega) (by decide), (hF _ (by omega)).trans h.ba, (hF _ (by omega)).trans h.bp, (hF _ (by omega)).trans h.bc, (hF _ (by omega)).trans h.br, (hF _ (by omega)).trans h.bd, hx, SlAt.below h.hb bg (fun _ _ _ h => h), SlAt.below h.hr bg (fun _ _ _ h => h), SlAt.below h.ht bg (fun _ _ _ h => h), ⟨h.bl.os, h.bl.tape, h.bl.output, by rw [hsz]; exact h.bl.size, fun b hb => (hF b (by omega)).trans (h.bl.block b hb)⟩, hg, h.dq⟩
theorem HG.s0 (h : HG w g A L c d F cF ds ls FL i q p ch dv kd vb vr vt D Q x W) (n : Int) : HG w g A L c d F cF ds ls FL i q p ch dv kd vb vr vt D Q ⟨n, x.d, x.sp, x.dp⟩ (W.setCell ⟨Q, 0, none⟩ (.int .i64 n)) := h.put (h.bq.setS (j := 0) (.int .i64 n))
theorem HG.s1 (h : HG w g A L c d F cF ds ls FL i q p ch dv kd vb vr vt D Q x W) (n : Int) : HG w g A L c d F cF ds ls FL i q p ch dv kd vb vr vt D Q ⟨x.s, n, x.sp, x.dp⟩ (W.setCell ⟨Q, 1, none⟩ (.int .i64 n)) := h.put (h.bq.setS (j := 1) (.int .i64 n))
theorem HG.s2 (h : HG w g A L c d F cF ds ls FL i q p ch dv kd vb vr vt D Q x W) (n : Int) : HG w g A L c d F cF ds ls FL i q p ch dv kd vb vr vt D Q ⟨x.s, x.d, n, x.dp⟩ (W.setCell ⟨Q, 2, none⟩ (.int .i64 n)) := h.put (h.bq.setS (j := 2) (.int .i64 n))
theorem HG.s3 (h : HG w g A L c d F cF ds ls FL i q p ch dv kd vb vr vt D Q x W) (n : Int) : HG w g A L c d F cF ds ls FL i q p ch dv kd vb vr vt D Q ⟨x.s, x.d, x.sp, n⟩ (W.setCell ⟨Q, 3, none⟩ (.int .i64 n)) := h.put (h.bq.setS (j := 3) (.int .i64 n))
theorem HG.fact (h : HG w g A L c d F cF ds ls FL i q p ch dv kd vb vr vt D Q x W) {k : Nat} {f : Ft} (hf : FL[k]? = some f) : ∃ b o, F = some ⟨b, o, none⟩ ∧ W.cell? ⟨b, o + k * 6 + 1, none⟩ = some (.int .i64 f.p.s) ∧ W.cell? ⟨b, o + k * 6 + 1 + 2, none⟩ = some (.int .i64 f.p.sp) ∧ W.cell? ⟨b, o + k * 6 + 5, none⟩ = some (.int .i64 f.n) ∧ (0 : Int) ≤ (k : Int) ∧ (k : Int) < (FL.length : Int) := by
  obtain ⟨b, o, e, _, _, c1, _, c3, _, c5⟩ := h.mn.row.ft hf
  have := (List.getElem?_eq_some_iff.1 hf).1
  exact ⟨b, o, e, c1, c3, c5, by omega, by omega⟩
theorem HB.keep (h : HB w g A L c d F cF ds ls FL i q p ch dv kd vb vr vt D W) (hb : Below W.heap.size W W') : HB w g A L c d F cF ds ls FL i q p ch dv kd vb vr vt D W' :=
  have hg : Below g W W' := hb.mono (Nat.le_of_lt h.mn.blk.lt)
  ⟨h.mn.below hb, h.ba.keep hb, h.bp.keep hb, h.bc.keep hb, h.br.keep hb, h.bd.keep hb, SlAt.below h.hb hg (fun _ _ _ h => h), SlAt.below h.hr hg (fun _ _ _ h => h), SlAt.below h.ht hg (fun _ _ _ h => h), chnN hb h.bl, h.lt, h.dl⟩
theorem HB.drewN (h : HB w g A L c d F cF ds ls FL i q p ch dv kd vb vr vt D W) (n : Nat) : HB w g A L c d F cF ds ls FL i q p ch dv kd vb vr vt D (W.drewN n) := h.keep (belowNN (Below.refl _ _) n)
theorem HB.toG (h : HB w g A L c d F cF ds ls FL i q p ch dv kd vb vr vt D W) : HG w g A L c d F cF ds ls FL i q p ch dv kd vb vr vt D W.heap.size p (W.alloc (pkC p)) :=
  have k := h.keep ((Below.refl _ _).alloc (Nat.le_refl _) (pkC p))
  ⟨k.mn, k.ba, k.bp, k.bc, k.br, k.bd, bk_new W _ _, k.hb, k.hr, k.ht, k.bl, k.lt, k.dl, h.bd.lt⟩
/-- The fact that is to be known, in memory. -/
def KN (k : Option Ft) (v : Value) (W : World) : Prop := match k with
  | none => v = .pointer none
  | some f => ∃ K, v = .pointer (some ⟨K, 0, none⟩) ∧ Bk W K #[.int .i64 f.i, .int .i64 f.p.s, .int .i64 f.p.d, .int .i64 f.p.sp, .int .i64 f.p.dp, .int .i64 f.n] 85
theorem KN.keep {k : Option Ft} {v : Value} (h : KN k v W) (hb : Below W.heap.size W W') : KN k v W' := by
  cases k with
  | none => exact h
  | some f =>
    obtain ⟨K, h1, h2⟩ := h
    exact ⟨K, h1, h2.keep hb⟩
theorem idx_any {is : Ft → Bool} {j : Int} (h : Idx is FL j) : decide (0 ≤ j) = FL.any is := by
  rcases h with ⟨rfl, h⟩ | ⟨k, f, rfl, h1, h2, _⟩
  · rw [find_no h]
    rfl
  · rw [List.any_eq_true.2 ⟨f, List.mem_of_getElem? h1, List.find?_some h2⟩]
    simp
end
/-- What Handle's calls tell, whatever G is. -/
structure HFacts (w : World) (g : Nat) (A L : Option Addr) (c d : Nat) (F : Option Addr) (cF : Nat) (ds : List Dv) (ls : List Lk) (FL : List Ft) (i q : Int) (p : Pk) (ch : Int) (dv : Dv) (kd : Int) (vb vr vt : Value) (D Q : Nat) (G : Pk → World → Prop) : Prop where
  keep : ∀ {x W W'}, G x W → Below W.heap.size W W' → G x W'
  ca : ∀ {x W}, G x W → W.cell? ⟨w.heap.size, 0, none⟩ = some (.int .i64 i) ∧ W.cell? ⟨w.heap.size, 1, none⟩ = some (.int .i64 q)
  cp : ∀ {x W}, G x W → W.cell? ⟨w.heap.size + 1, 0, none⟩ = some (.int .i64 p.s) ∧ W.cell? ⟨w.heap.size + 1, 1, none⟩ = some (.int .i64 p.d) ∧ W.cell? ⟨w.heap.size + 1, 2, none⟩ = some (.int .i64 p.sp) ∧ W.cell? ⟨w.heap.size + 1, 3, none⟩ = some (.int .i64 p.dp)
  cc : ∀ {x W}, G x W → W.cell? ⟨w.heap.size + 1 + 1, 0, none⟩ = some (.int .i64 ch)
  cd : ∀ {x W}, G x W → W.cell? ⟨D, 1, none⟩ = some (.int .i64 kd) ∧ W.cell? ⟨D, 2, none⟩ = some (.int .i64 dv.addr) ∧ W.cell? ⟨D, 3, none⟩ = some (.int .u8 (dv.pool : Int)) ∧ W.cell? ⟨D, 4, none⟩ = some vb ∧ W.cell? ⟨D, 5, none⟩ = some vr ∧ W.cell? ⟨D, 6, none⟩ = some vt
  cg : ∀ {x W}, G x W → W.cell? ⟨g, 0, none⟩ = some (.slice A ds.length c) ∧ W.cell? ⟨g, 1, none⟩ = some (.slice L ls.length d) ∧ W.cell? ⟨g, 2, none⟩ = some (.slice F FL.length cF)
  cq : ∀ {x W}, G x W → W.cell? ⟨Q, 0, none⟩ = some (.int .i64 x.s) ∧ W.cell? ⟨Q, 1, none⟩ = some (.int .i64 x.d) ∧ W.cell? ⟨Q, 2, none⟩ = some (.int .i64 x.sp) ∧ W.cell? ⟨Q, 3, none⟩ = some (.int .i64 x.dp) ∧ W.frozen? ⟨Q, 0, none⟩ = false ∧ W.frozen? ⟨Q, 1, none⟩ = false ∧ W.frozen? ⟨Q, 2, none⟩ = false ∧ W.frozen? ⟨Q, 3, none⟩ = false
  bq : ∀ {x W}, G x W → Bk W Q #[.int .i64 x.s, .int .i64 x.d, .int .i64 x.sp, .int .i64 x.dp] 29
  cr : ∀ {x W}, G x W → Bk W (w.heap.size + 1 + 1 + 1) #[.int .i64 0, .int .i64 0, .int .i64 0, .int .i64 0, .int .i64 0, .int .i64 0] 60
  s0 : ∀ {x W}, G x W → ∀ n, G ⟨n, x.d, x.sp, x.dp⟩ (W.setCell ⟨Q, 0, none⟩ (.int .i64 n))
  s1 : ∀ {x W}, G x W → ∀ n, G ⟨x.s, n, x.sp, x.dp⟩ (W.setCell ⟨Q, 1, none⟩ (.int .i64 n))
  s2 : ∀ {x W}, G x W → ∀ n, G ⟨x.s, x.d, n, x.dp⟩ (W.setCell ⟨Q, 2, none⟩ (.int .i64 n))
  s3 : ∀ {x W}, G x W → ∀ n, G ⟨x.s, x.d, x.sp, n⟩ (W.setCell ⟨Q, 3, none⟩ (.int .i64 n))
  fact : ∀ {x W}, G x W → ∀ {k : Nat} {f : Ft}, FL[k]? = some f → ∃ b o, F = some ⟨b, o, none⟩ ∧ W.cell? ⟨b, o + k * 6 + 1, none⟩ = some (.int .i64 f.p.s) ∧ W.cell? ⟨b, o + k * 6 + 1 + 2, none⟩ = some (.int .i64 f.p.sp) ∧ W.cell? ⟨b, o + k * 6 + 5, none⟩ = some (.int .i64 f.n) ∧ (0 : Int) ≤ (k : Int) ∧ (k : Int) < (FL.length : Int)
  back : ∀ {x W}, G x W → ∃ Ab cb, vb = .slice Ab dv.backs.length cb ∧ ∀ {k : Nat} {n : Int}, dv.backs[k]? = some n → ∃ b o, Ab = some ⟨b, o, none⟩ ∧ W.cell? ⟨b, o + k, none⟩ = some (.int .i64 n)
  out : ∀ {x W}, G x W → Calls Tryz.prog 32 #[vt, .int .i64 p.d] W fun e w' => e = .returned (.tuple #[.int .i64 (outN (routesOf dv) p.d), .bool (outB (routesOf dv) p.d)]) ∧ Below W.heap.size W w'
  lets : ∀ {x W}, G x W → Calls Tryz.prog 33 #[vr, .agg #[.int .i64 p.s, .int .i64 p.d, .int .i64 p.sp, .int .i64 p.dp]] W fun e w' => e = .returned (.bool (letsB (rulesOf dv) p.s p.d p.sp p.dp)) ∧ Below W.heap.size W w'
  f1 : ∀ {x W}, G x W → Calls Tryz.prog 34 #[.pointer (some ⟨g, 0, none⟩), .func (.func 35) #[] #[.pointer (some ⟨w.heap.size, 0, none⟩), .pointer (some ⟨w.heap.size + 1, 0, none⟩)]] W fun e w' => ∃ j : Int, e = .returned (.int .i64 j) ∧ Hid (Idx (ofFlow i (flipP p)) FL j) ∧ Below W.heap.size W w'
  f2 : ∀ {x W}, G x W → Calls Tryz.prog 34 #[.pointer (some ⟨g, 0, none⟩), .func (.func 37) #[] #[.pointer (some ⟨w.heap.size, 0, none⟩), .pointer (some ⟨w.heap.size + 1, 0, none⟩)]] W fun e w' => ∃ j : Int, e = .returned (.int .i64 j) ∧ Hid (Idx (ofPort i p.dp) FL j) ∧ Below W.heap.size W w'
  f3 : ∀ {x W}, G x W → ∀ (O : Nat) (o : Pk), Bk W O #[.int .i64 o.s, .int .i64 o.d, .int .i64 o.sp, .int .i64 o.dp] 29 → Calls Tryz.prog 34 #[.pointer (some ⟨g, 0, none⟩), .func (.func 38) #[] #[.pointer (some ⟨w.heap.size, 0, none⟩), .pointer (some ⟨O, 0, none⟩)]] W fun e w' => ∃ j : Int, e = .returned (.int .i64 j) ∧ Hid (Idx (ofFlow i o) FL j) ∧ Below W.heap.size W w'
  f4 : ∀ {x W}, G x W → Calls Tryz.prog 34 #[.pointer (some ⟨g, 0, none⟩), .func (.func 40) #[] #[.pointer (some ⟨w.heap.size, 0, none⟩), .pointer (some ⟨w.heap.size + 1 + 1, 0, none⟩)]] W fun e w' => ∃ j : Int, e = .returned (.int .i64 j) ∧ Hid (Idx (ofPort i ch) FL j) ∧ Below W.heap.size W w'
  f5 : ∀ {x W}, G x W → ∀ (O : Nat) (o : Pk), Bk W O #[.int .i64 o.s, .int .i64 o.d, .int .i64 o.sp, .int .i64 o.dp] 29 → Calls Tryz.prog 34 #[.pointer (some ⟨g, 0, none⟩), .func (.func 41) #[] #[.pointer (some ⟨w.heap.size, 0, none⟩), .pointer (some ⟨O, 0, none⟩), .pointer (some ⟨w.heap.size + 1, 0, none⟩)]] W fun e w' => ∃ j : Int, e = .returned (.int .i64 j) ∧ Hid (Idx (fun f => ftB f ⟨i, o, p.s⟩) FL j) ∧ Below W.heap.size W w'
  f6 : ∀ {x W}, G x W → Calls Tryz.prog 34 #[.pointer (some ⟨g, 0, none⟩), .func (.func 42) #[] #[.pointer (some ⟨w.heap.size, 0, none⟩), .pointer (some ⟨w.heap.size + 1, 0, none⟩)]] W fun e w' => ∃ j : Int, e = .returned (.int .i64 j) ∧ Hid (Idx (ofFlow i p) FL j) ∧ Below W.heap.size W w'
  peer : ∀ {x W}, G x W → ∀ port : Int, Calls Tryz.prog 43 #[.agg #[.slice A ds.length c, .slice L ls.length d], .agg #[.int .i64 i, .int .i64 port]] W fun e w' => e = .returned (.tuple #[placeV (peerF ls i port), .bool (peerF ls i port).isSome]) ∧ Below W.heap.size W w'
  cont : ∀ {x W}, G x W → ∀ f : Ft, Calls Tryz.prog 44 #[.slice F FL.length cF, .agg #[.int .i64 f.i, .int .i64 f.p.s, .int .i64 f.p.d, .int .i64 f.p.sp, .int .i64 f.p.dp, .int .i64 f.n]] W fun e w' => e = .returned (.bool (FL.any (fun x => ftB x f))) ∧ Below W.heap.size W w'
  mn : ∀ {x W}, G x W → MnAt W g A L c d F cF ds ls FL
  bl : ∀ {x W}, G x W → Below w.heap.size w W
  hb : g < w.heap.size
theorem hg_facts (w : World) (g : Nat) (A L : Option Addr) (c d : Nat) (F : Option Addr) (cF : Nat) (ds : List Dv) (ls : List Lk) (FL : List Ft) (i q : Int) (p : Pk) (ch : Int) (dv : Dv) (kd : Int) (vb vr vt : Value) (D Q : Nat) (hlt : g < w.heap.size) : HFacts w g A L c d F cF ds ls FL i q p ch dv kd vb vr vt D Q (HG w g A L c d F cF ds ls FL i q p ch dv kd vb vr vt D Q) where
  keep h hb := h.keep hb
  ca h := h.ba.two
  cp h := ⟨h.bp.at 0, h.bp.at 1, h.bp.at 2, h.bp.at 3⟩
  cc h := h.bc.at 0
  cd h := ⟨h.bd.at 1, h.bd.at 2, h.bd.at 3, h.bd.at 4, h.bd.at 5, h.bd.at 6⟩
  cg h := ⟨h.mn.blk.at 0, h.mn.blk.at 1, h.mn.blk.at 2⟩
  cq h := h.bq.four
  bq h := h.bq
  cr h := h.br
  s0 h n := h.s0 n
  s1 h n := h.s1 n
  s2 h n := h.s2 n
  s3 h n := h.s3 n
  fact h _ _ hf := h.fact hf
  back h := by
    obtain ⟨Ab, cb, e, _, _, _, h3⟩ := h.hb
    refine ⟨Ab, cb, e, fun {k n} hk => ?_⟩
    obtain ⟨b, o, ea, _, hr⟩ := h3 (fun e => by rw [e] at hk; cases hk)
    obtain ⟨cs, hl, hc, hcs⟩ := hr k n hk
    unfold IsI at hc
    subst hc
    have := hcs 0 _ rfl
    rw [Nat.mul_one, Nat.add_zero] at this
    exact ⟨b, o, ea, this⟩
  out h := rout_any p.d _ (routes_of (SlAt.mono h.ht (Nat.le_of_lt h.mn.blk.lt) (fun _ _ _ h => h)))
  lets h := rlets_any p.s p.d p.sp p.dp _ (rules_of (SlAt.mono h.hr (Nat.le_of_lt h.mn.blk.lt) (fun _ _ _ h => h)))
  f1 h := find_c1 _ _ g _ _ F cF FL _ _ _ (Nat.le_refl _) h.mn.blk h.mn.row (fun f W' hb => clo1 f i q p _ _ W' (h.keep hb).ba (h.keep hb).bp)
  f2 h := find_c2 _ _ g _ _ F cF FL _ _ _ (Nat.le_refl _) h.mn.blk h.mn.row (fun f W' hb => clo2 f i q p _ _ W' (h.keep hb).ba (h.keep hb).bp)
  f3 h O o hO := find_c3 _ _ g _ _ F cF FL _ _ _ (Nat.le_refl _) h.mn.blk h.mn.row (fun f W' hb => clo3 f i q o _ _ W' (h.keep hb).ba (hO.keep hb))
  f4 h := find_c4 _ _ g _ _ F cF FL _ _ _ (Nat.le_refl _) h.mn.blk h.mn.row (fun f W' hb => clo4 f i q ch _ _ W' (h.keep hb).ba (h.keep hb).bc)
  f5 h O o hO := find_c5 _ _ _ g _ _ F cF FL _ _ _ (Nat.le_refl _) h.mn.blk h.mn.row (fun f W' hb => clo5 f i q p o _ _ _ W' (h.keep hb).ba (hO.keep hb) (h.keep hb).bp)
  f6 h := find_c6 _ _ g _ _ F cF FL _ _ _ (Nat.le_refl _) h.mn.blk h.mn.row (fun f W' hb => clo6 f i q p _ _ W' (h.keep hb).ba (h.keep hb).bp)
  peer h port := rpeer_any _ L ls.length d ls i port _ (h.mn.links.mono (Nat.le_of_lt h.mn.blk.lt))
  cont h f := contains_ft F cF FL f _ _ (Nat.le_refl _) h.mn.row
  mn h := h.mn
  bl h := h.bl
  hb := hlt
end Go.Proofs.YthioedgnambomaaGreat



namespace Go.Proofs.YthioedgnambomaaGreat
open Go.RowKit Go.Maps

set_option maxHeartbeats 8000000 in
set_option maxRecDepth 100000 in
theorem mhandle_none {g : Nat} {A L : Option Addr} {c d : Nat} {F : Option Addr} {cF : Nat} {ds : List Dv} {ls : List Lk} {FL : List Ft} (i q : Int) (p : Pk) (ch : Int) (w : World) (h : Hid (MnAt w g A L c d F cF ds ls FL)) (hpl : isPl ds i q = false) :
    Calls Tryz.prog 20 #[.pointer (some ⟨g, 0, none⟩), plA i q, pkV p, .int .i64 ch] w fun e w' => e = .returned (.tuple #[arV (0, 0) zeroP, .int .i64 4]) ∧ MOut w g A L c d F ds ls FL w' := by
  have hln := h.out.devs.len
  have hm : ds.length ≤ maxLen := Nat.le_trans hln.2.1 hln.2.2
  unfold maxLen at hm
  have hG := h.out.blk.lt
  have M4 := (((h.out.alloc (.cells #[.int .i64 i, .int .i64 q] 27)).alloc (pkC p)).alloc (.cells #[.int .i64 ch] 3)).alloc (.cells #[.int .i64 0, .int .i64 0, .int .i64 0, .int .i64 0, .int .i64 0, .int .i64 0] 60)
  have D4 := Below.alN (Below.alN (Below.alN (Below.alN (Below.refl w.heap.size w) (.cells #[.int .i64 i, .int .i64 q] 27)) (pkC p)) (.cells #[.int .i64 ch] 3)) (.cells #[.int .i64 0, .int .i64 0, .int .i64 0, .int .i64 0, .int .i64 0, .int .i64 0] 60)
  have A4 := (((bk_new w #[.int .i64 i, .int .i64 q] 27).alloc (pkC p)).alloc (.cells #[.int .i64 ch] 3)).alloc (.cells #[.int .i64 0, .int .i64 0, .int .i64 0, .int .i64 0, .int .i64 0, .int .i64 0] 60)
  have P4 := ((bk_new' (w.alloc (.cells #[.int .i64 i, .int .i64 q] 27)) #[.int .i64 p.s, .int .i64 p.d, .int .i64 p.sp, .int .i64 p.dp] 29 (w.heap.size + 1) (by simp)).alloc (.cells #[.int .i64 ch] 3)).alloc (.cells #[.int .i64 0, .int .i64 0, .int .i64 0, .int .i64 0, .int .i64 0, .int .i64 0] 60)
  have C4 := (bk_new' ((w.alloc (.cells #[.int .i64 i, .int .i64 q] 27)).alloc (pkC p)) #[.int .i64 ch] 3 (w.heap.size + 1 + 1) (by simp)).alloc (.cells #[.int .i64 0, .int .i64 0, .int .i64 0, .int .i64 0, .int .i64 0, .int .i64 0] 60)
  have R4 := bk_new' (((w.alloc (.cells #[.int .i64 i, .int .i64 q] 27)).alloc (pkC p)).alloc (.cells #[.int .i64 ch] 3)) #[.int .i64 0, .int .i64 0, .int .i64 0, .int .i64 0, .int .i64 0, .int .i64 0] 60 (w.heap.size + 1 + 1 + 1) (by simp)
  by_cases hi : 0 ≤ i ∧ i < (ds.length : Int)
  rotate_left
  · have hw : IntKind.i64.wrap ((ds.length : Int) - 1) = (ds.length : Int) - 1 := IntWalk.i64_in _ (by omega)
    have I1 : Hid (∀ W, Calls Tryz.prog 7 #[.int .i64 i, .int .i64 0, .int .i64 ((ds.length : Int) - 1)] W fun e w' => e = .returned (.bool false) ∧ w' = W) := fun W => by
      have := finR i 0 ((ds.length : Int) - 1) W
      rw [show (decide (0 ≤ i) && decide (i ≤ (ds.length : Int) - 1)) = false by rw [Bool.and_eq_false_iff]; simp only [decide_eq_false_iff_not]; omega] at this
      exact this
    have g0 := M4.blk.at 0
    obtain ⟨a0, a1⟩ := A4.two
    obtain ⟨⟨l0, l1, l2, l3, l4, l5⟩, ⟨f0, f1, f2, f3, f4, f5⟩⟩ := R4.six
    have RR : Hid (Bk _ _ _ _) := R4
    have MM : Hid (MnAt _ _ _ _ _ _ _ _ _ _ _) := M4
    have DD : Hid (Below _ _ _) := D4
    clear hi hpl hln h M4 A4 P4 C4 R4 D4
    go_enter Tryz.func20, Tryz.ntmps20
    go_wp2_with fail
    go_quiet ((go_at_call 7; exact Calls.quiet_of_same (I1.out _)))
    go_wp2_with fail
    refine bodyPost_ret (v := .tuple #[arV (0, 0) zeroP, .int .i64 4]) (by simp [results, Tryz.results20, go_sem, l0, l1, l2, l3, l4, l5, zeroP]) rfl ⟨rfl, ?_⟩
    first
      | exact MOut.set6 (MOut.same (MM.out.drewN _) (belowNN DD.out _)) (RR.out.drewN _) hG (by omega) (by decide)
      | exact MOut.same (MM.out.drewN _) (belowNN DD.out _)
  obtain ⟨j, rfl⟩ : ∃ j : Nat, i = (j : Int) := ⟨i.toNat, by omega⟩
  have hj : j < ds.length := by omega
  obtain ⟨dv, hd⟩ : ∃ dv, ds[j]? = some dv := ⟨_, List.getElem?_eq_getElem hj⟩
  have hkd : kindAt ds (j : Int) = dv.kind := by
    unfold kindAt
    rw [Int.toNat_natCast, hd]
    rfl
  obtain ⟨b, o, vb, vr, vt, hA, hbl, s1, s2, s3, e0, e1, e2, e3, e4, e5, e6⟩ := M4.devs.at hd
  have k1 : (0 : Int) ≤ (j : Int) := by omega
  have k2 : (j : Int) < (ds.length : Int) := by omega
  have hw : IntKind.i64.wrap ((ds.length : Int) - 1) = (ds.length : Int) - 1 := IntWalk.i64_in _ (by omega)
  have hpo : 0 ≤ portsV dv.kind ∧ portsV dv.kind ≤ 4 := by unfold portsV; split <;> (try split) <;> (try split) <;> omega
  have hw2 : IntKind.i64.wrap (portsV dv.kind - 1) = portsV dv.kind - 1 := IntWalk.i64_in _ (by omega)
  have I1 : Hid (∀ W, Calls Tryz.prog 7 #[.int .i64 (j : Int), .int .i64 0, .int .i64 ((ds.length : Int) - 1)] W fun e w' => e = .returned (.bool true) ∧ w' = W) := fun W => by
    have := finR (j : Int) 0 ((ds.length : Int) - 1) W
    rw [show (decide (0 ≤ (j : Int)) && decide ((j : Int) ≤ (ds.length : Int) - 1)) = true by rw [Bool.and_eq_true]; simp only [decide_eq_true_eq]; omega] at this
    exact this
  have PO : Hid (∀ W, Calls Tryz.prog 8 #[.int .i64 dv.kind] W fun e w' => e = .returned (.int .i64 (portsV dv.kind)) ∧ Below W.heap.size W w') := fun W => rports_any dv.kind W
  have hq2 : (decide (0 ≤ q) && decide (q ≤ portsV dv.kind - 1)) = false := by
    unfold isPl at hpl
    rw [hkd] at hpl
    rw [Bool.and_eq_false_iff] at hpl ⊢
    simp only [Bool.and_eq_false_iff, decide_eq_false_iff_not] at hpl ⊢
    omega
  have hbw : b < ((((w.alloc (.cells #[.int .i64 (j : Int), .int .i64 q] 27)).alloc (pkC p)).alloc (.cells #[.int .i64 ch] 3)).alloc (.cells #[.int .i64 0, .int .i64 0, .int .i64 0, .int .i64 0, .int .i64 0, .int .i64 0] 60)).drew.heap.size := Nat.lt_trans hbl M4.blk.lt
  clear s1 s2 s3 e0 e2 e3 e4 e5 e6 hpl hkd hd hi hln h
  have I2 : Hid (∀ W, Calls Tryz.prog 7 #[.int .i64 q, .int .i64 0, .int .i64 (portsV dv.kind - 1)] W fun e w' => e = .returned (.bool false) ∧ w' = W) := fun W => by
    have := finR q 0 (portsV dv.kind - 1) W
    rw [hq2] at this
    exact this
  have g0 := M4.blk.at 0
  rw [hA] at g0
  have Q0 : ((((w.alloc (.cells #[.int .i64 (j : Int), .int .i64 q] 27)).alloc (pkC p)).alloc (.cells #[.int .i64 ch] 3)).alloc (.cells #[.int .i64 0, .int .i64 0, .int .i64 0, .int .i64 0, .int .i64 0, .int .i64 0] 60)).drew.cell? ⟨g, 0, none⟩ = some (.slice (some ⟨b, o, none⟩) ds.length c) := g0
  obtain ⟨a0, a1⟩ := A4.two
  have Q1 : ((((w.alloc (.cells #[.int .i64 (j : Int), .int .i64 q] 27)).alloc (pkC p)).alloc (.cells #[.int .i64 ch] 3)).alloc (.cells #[.int .i64 0, .int .i64 0, .int .i64 0, .int .i64 0, .int .i64 0, .int .i64 0] 60)).drew.cell? ⟨w.heap.size, 0, none⟩ = some (.int .i64 (j : Int)) := a0
  have Q2 : ((((w.alloc (.cells #[.int .i64 (j : Int), .int .i64 q] 27)).alloc (pkC p)).alloc (.cells #[.int .i64 ch] 3)).alloc (.cells #[.int .i64 0, .int .i64 0, .int .i64 0, .int .i64 0, .int .i64 0, .int .i64 0] 60)).drew.cell? ⟨w.heap.size, 1, none⟩ = some (.int .i64 q) := a1
  have Q3 : ((((w.alloc (.cells #[.int .i64 (j : Int), .int .i64 q] 27)).alloc (pkC p)).alloc (.cells #[.int .i64 ch] 3)).alloc (.cells #[.int .i64 0, .int .i64 0, .int .i64 0, .int .i64 0, .int .i64 0, .int .i64 0] 60)).drew.cell? ⟨b, o + j * 7 + 1, none⟩ = some (.int .i64 dv.kind) := e1
  go_enter Tryz.func20, Tryz.ntmps20
  go_wp2_with fail
  go_region_held3 (fun w' => w'.cell? ⟨g, 0, none⟩ = some (.slice (some ⟨b, o, none⟩) ds.length c) ∧ w'.cell? ⟨w.heap.size, 0, none⟩ = some (.int .i64 (j : Int)) ∧ w'.cell? ⟨w.heap.size, 1, none⟩ = some (.int .i64 q) ∧ w'.cell? ⟨b, o + j * 7 + 1, none⟩ = some (.int .i64 dv.kind)) (go_keep) (first | (go_at_call_of 7 (Value.int .i64 (j : Int)); refine (I1.out _).mono ?_; rintro e w' ⟨rfl, rfl⟩) | (go_at_call 8; refine (PO.out _).mono ?_; rintro e w5 ⟨rfl, hb5⟩; have D5 := chnN hb5 D4.drew; have M5 := M4.drew.below hb5; have A5 := A4.drew.keep hb5; have P5 := P4.drew.keep hb5; have C5 := C4.drew.keep hb5; have R5 := R4.drew.keep hb5; have gq0 := M5.blk.at 0; rw [hA] at gq0; obtain ⟨aq0, aq1⟩ := A5.two; have eq1 := (hb5.cell (p := ⟨b, o + j * 7 + 1, none⟩) hbw).trans Q3) | (go_at_call_of 7 (Value.int .i64 q); refine (I2.out _).mono ?_; rintro e w' ⟨rfl, hx⟩; obtain rfl := hx.symm))
  obtain ⟨⟨l0, l1, l2, l3, l4, l5⟩, ⟨f0, f1, f2, f3, f4, f5⟩⟩ := R5.six
  have z5 := R5.lt
  have MM : Hid (MnAt _ _ _ _ _ _ _ _ _ _ _) := M5
  have DD : Hid (Below _ _ _) := D5
  have RR : Hid (Bk _ _ _ _) := R5
  clear hb5 M4 A4 P4 C4 R4 D4 M5 A5 P5 C5 R5 D5 g0 a0 a1 e1 gq0 aq0 aq1 eq1 Q0 Q1 Q2 Q3
  go_wp2_with fail
  refine bodyPost_ret (v := .tuple #[arV (0, 0) zeroP, .int .i64 4]) (by simp [results, Tryz.results20, go_sem, l0, l1, l2, l3, l4, l5, zeroP]) rfl ⟨rfl, ?_⟩
  first
    | exact MOut.set6 (MOut.same MM.out DD.out) RR.out hG (by omega) (by decide)
    | exact MOut.same MM.out DD.out
set_option maxHeartbeats 8000000 in
set_option maxRecDepth 100000 in
theorem mhandle_bad {g : Nat} {A L : Option Addr} {c d : Nat} {F : Option Addr} {cF : Nat} {ds : List Dv} {ls : List Lk} {FL : List Ft} (i q : Int) (p : Pk) (ch : Int) (w : World) (h : Hid (MnAt w g A L c d F cF ds ls FL)) (hpl : isPl ds i q = true) (hpk : pkOk p = false) :
    Calls Tryz.prog 20 #[.pointer (some ⟨g, 0, none⟩), plA i q, pkV p, .int .i64 ch] w fun e w' => e = .returned (.tuple #[arV (0, 0) zeroP, .int .i64 1]) ∧ MOut w g A L c d F ds ls FL w' := by
  have hln := h.out.devs.len
  have hm : ds.length ≤ maxLen := Nat.le_trans hln.2.1 hln.2.2
  unfold maxLen at hm
  have hG := h.out.blk.lt
  have M4 := (((h.out.alloc (.cells #[.int .i64 i, .int .i64 q] 27)).alloc (pkC p)).alloc (.cells #[.int .i64 ch] 3)).alloc (.cells #[.int .i64 0, .int .i64 0, .int .i64 0, .int .i64 0, .int .i64 0, .int .i64 0] 60)
  have D4 := Below.alN (Below.alN (Below.alN (Below.alN (Below.refl w.heap.size w) (.cells #[.int .i64 i, .int .i64 q] 27)) (pkC p)) (.cells #[.int .i64 ch] 3)) (.cells #[.int .i64 0, .int .i64 0, .int .i64 0, .int .i64 0, .int .i64 0, .int .i64 0] 60)
  have A4 := (((bk_new w #[.int .i64 i, .int .i64 q] 27).alloc (pkC p)).alloc (.cells #[.int .i64 ch] 3)).alloc (.cells #[.int .i64 0, .int .i64 0, .int .i64 0, .int .i64 0, .int .i64 0, .int .i64 0] 60)
  have P4 := ((bk_new' (w.alloc (.cells #[.int .i64 i, .int .i64 q] 27)) #[.int .i64 p.s, .int .i64 p.d, .int .i64 p.sp, .int .i64 p.dp] 29 (w.heap.size + 1) (by simp)).alloc (.cells #[.int .i64 ch] 3)).alloc (.cells #[.int .i64 0, .int .i64 0, .int .i64 0, .int .i64 0, .int .i64 0, .int .i64 0] 60)
  have C4 := (bk_new' ((w.alloc (.cells #[.int .i64 i, .int .i64 q] 27)).alloc (pkC p)) #[.int .i64 ch] 3 (w.heap.size + 1 + 1) (by simp)).alloc (.cells #[.int .i64 0, .int .i64 0, .int .i64 0, .int .i64 0, .int .i64 0, .int .i64 0] 60)
  have R4 := bk_new' (((w.alloc (.cells #[.int .i64 i, .int .i64 q] 27)).alloc (pkC p)).alloc (.cells #[.int .i64 ch] 3)) #[.int .i64 0, .int .i64 0, .int .i64 0, .int .i64 0, .int .i64 0, .int .i64 0] 60 (w.heap.size + 1 + 1 + 1) (by simp)
  have hi : 0 ≤ i ∧ i < (ds.length : Int) := by
    unfold isPl at hpl
    simp only [Bool.and_eq_true, decide_eq_true_eq] at hpl
    omega
  obtain ⟨j, rfl⟩ : ∃ j : Nat, i = (j : Int) := ⟨i.toNat, by omega⟩
  have hj : j < ds.length := by omega
  obtain ⟨dv, hd⟩ : ∃ dv, ds[j]? = some dv := ⟨_, List.getElem?_eq_getElem hj⟩
  have hkd : kindAt ds (j : Int) = dv.kind := by
    unfold kindAt
    rw [Int.toNat_natCast, hd]
    rfl
  obtain ⟨b, o, vb, vr, vt, hA, hbl, s1, s2, s3, e0, e1, e2, e3, e4, e5, e6⟩ := M4.devs.at hd
  have k1 : (0 : Int) ≤ (j : Int) := by omega
  have k2 : (j : Int) < (ds.length : Int) := by omega
  have hw : IntKind.i64.wrap ((ds.length : Int) - 1) = (ds.length : Int) - 1 := IntWalk.i64_in _ (by omega)
  have hpo : 0 ≤ portsV dv.kind ∧ portsV dv.kind ≤ 4 := by unfold portsV; split <;> (try split) <;> (try split) <;> omega
  have hw2 : IntKind.i64.wrap (portsV dv.kind - 1) = portsV dv.kind - 1 := IntWalk.i64_in _ (by omega)
  have I1 : Hid (∀ W, Calls Tryz.prog 7 #[.int .i64 (j : Int), .int .i64 0, .int .i64 ((ds.length : Int) - 1)] W fun e w' => e = .returned (.bool true) ∧ w' = W) := fun W => by
    have := finR (j : Int) 0 ((ds.length : Int) - 1) W
    rw [show (decide (0 ≤ (j : Int)) && decide ((j : Int) ≤ (ds.length : Int) - 1)) = true by rw [Bool.and_eq_true]; simp only [decide_eq_true_eq]; omega] at this
    exact this
  have PO : Hid (∀ W, Calls Tryz.prog 8 #[.int .i64 dv.kind] W fun e w' => e = .returned (.int .i64 (portsV dv.kind)) ∧ Below W.heap.size W w') := fun W => rports_any dv.kind W
  have hq2 : (decide (0 ≤ q) && decide (q ≤ portsV dv.kind - 1)) = true := by
    unfold isPl at hpl
    rw [hkd] at hpl
    simp only [Bool.and_eq_true, decide_eq_true_eq] at hpl ⊢
    omega
  have hbw : b < ((((w.alloc (.cells #[.int .i64 (j : Int), .int .i64 q] 27)).alloc (pkC p)).alloc (.cells #[.int .i64 ch] 3)).alloc (.cells #[.int .i64 0, .int .i64 0, .int .i64 0, .int .i64 0, .int .i64 0, .int .i64 0] 60)).drew.heap.size := Nat.lt_trans hbl M4.blk.lt
  have RG : Hid (∀ W, Calls Tryz.prog 9 #[.agg #[.int .i64 p.s, .int .i64 p.d, .int .i64 p.sp, .int .i64 p.dp]] W fun e w' => e = .returned (.bool false) ∧ Below W.heap.size W w') := fun W => by
    have := right_M p W
    rw [hpk] at this
    exact this
  clear s1 s2 s3 e0 e2 e3 e4 e5 e6 hpl hkd hd hi hln h hpk
  have I2 : Hid (∀ W, Calls Tryz.prog 7 #[.int .i64 q, .int .i64 0, .int .i64 (portsV dv.kind - 1)] W fun e w' => e = .returned (.bool true) ∧ w' = W) := fun W => by
    have := finR q 0 (portsV dv.kind - 1) W
    rw [hq2] at this
    exact this
  have g0 := M4.blk.at 0
  rw [hA] at g0
  have Q0 : ((((w.alloc (.cells #[.int .i64 (j : Int), .int .i64 q] 27)).alloc (pkC p)).alloc (.cells #[.int .i64 ch] 3)).alloc (.cells #[.int .i64 0, .int .i64 0, .int .i64 0, .int .i64 0, .int .i64 0, .int .i64 0] 60)).drew.cell? ⟨g, 0, none⟩ = some (.slice (some ⟨b, o, none⟩) ds.length c) := g0
  obtain ⟨a0, a1⟩ := A4.two
  have Q1 : ((((w.alloc (.cells #[.int .i64 (j : Int), .int .i64 q] 27)).alloc (pkC p)).alloc (.cells #[.int .i64 ch] 3)).alloc (.cells #[.int .i64 0, .int .i64 0, .int .i64 0, .int .i64 0, .int .i64 0, .int .i64 0] 60)).drew.cell? ⟨w.heap.size, 0, none⟩ = some (.int .i64 (j : Int)) := a0
  have Q2 : ((((w.alloc (.cells #[.int .i64 (j : Int), .int .i64 q] 27)).alloc (pkC p)).alloc (.cells #[.int .i64 ch] 3)).alloc (.cells #[.int .i64 0, .int .i64 0, .int .i64 0, .int .i64 0, .int .i64 0, .int .i64 0] 60)).drew.cell? ⟨w.heap.size, 1, none⟩ = some (.int .i64 q) := a1
  have Q3 : ((((w.alloc (.cells #[.int .i64 (j : Int), .int .i64 q] 27)).alloc (pkC p)).alloc (.cells #[.int .i64 ch] 3)).alloc (.cells #[.int .i64 0, .int .i64 0, .int .i64 0, .int .i64 0, .int .i64 0, .int .i64 0] 60)).drew.cell? ⟨b, o + j * 7 + 1, none⟩ = some (.int .i64 dv.kind) := e1
  go_enter Tryz.func20, Tryz.ntmps20
  go_wp2_with fail
  go_region_held3 (fun w' => w'.cell? ⟨g, 0, none⟩ = some (.slice (some ⟨b, o, none⟩) ds.length c) ∧ w'.cell? ⟨w.heap.size, 0, none⟩ = some (.int .i64 (j : Int)) ∧ w'.cell? ⟨w.heap.size, 1, none⟩ = some (.int .i64 q) ∧ w'.cell? ⟨b, o + j * 7 + 1, none⟩ = some (.int .i64 dv.kind)) (go_keep) (first | (go_at_call_of 7 (Value.int .i64 (j : Int)); refine (I1.out _).mono ?_; rintro e w' ⟨rfl, rfl⟩) | (go_at_call 8; refine (PO.out _).mono ?_; rintro e w5 ⟨rfl, hb5⟩; have D5 := chnN hb5 D4.drew; have M5 := M4.drew.below hb5; have A5 := A4.drew.keep hb5; have P5 := P4.drew.keep hb5; have C5 := C4.drew.keep hb5; have R5 := R4.drew.keep hb5; have gq0 := M5.blk.at 0; rw [hA] at gq0; obtain ⟨aq0, aq1⟩ := A5.two; have eq1 := (hb5.cell (p := ⟨b, o + j * 7 + 1, none⟩) hbw).trans Q3) | (go_at_call_of 7 (Value.int .i64 q); refine (I2.out _).mono ?_; rintro e w' ⟨rfl, hx⟩; obtain rfl := hx.symm))
  obtain ⟨p0, p1, p2, p3, _⟩ := P5.four
  have MM : Hid (MnAt _ _ _ _ _ _ _ _ _ _ _) := M5
  have DD : Hid (Below _ _ _) := D5
  have RR : Hid (Bk _ _ _ _) := R5
  clear hb5 M4 A4 P4 C4 R4 D4 M5 A5 P5 C5 R5 D5 g0 a0 a1 e1 gq0 aq0 aq1 eq1 Q0 Q1 Q2 Q3
  go_wp2_with fail
  refine (RG.out _).mono ?_
  rintro e w6 ⟨rfl, hb6⟩
  have M6 : Hid (MnAt _ _ _ _ _ _ _ _ _ _ _) := MM.out.below hb6
  have D6 : Hid (Below _ _ _) := chnN hb6 DD.out
  have R6 := RR.out.keep hb6
  obtain ⟨⟨l0, l1, l2, l3, l4, l5⟩, ⟨f0, f1, f2, f3, f4, f5⟩⟩ := R6.six
  have z6 := R6.lt
  have RQ : Hid (Bk _ _ _ _) := R6
  clear hb6 MM DD RR R6 p0 p1 p2 p3
  go_wp2_with fail
  refine bodyPost_ret (v := .tuple #[arV (0, 0) zeroP, .int .i64 1]) (by simp [results, Tryz.results20, go_sem, l0, l1, l2, l3, l4, l5, zeroP]) rfl ⟨rfl, ?_⟩
  first
    | exact MOut.set6 (MOut.same M6.out D6.out) RQ.out hG (by omega) (by decide)
    | exact MOut.same M6.out D6.out
end Go.Proofs.YthioedgnambomaaGreat



namespace Go.Proofs.YthioedgnambomaaGreat
open Go.RowKit Go.Maps

/-- A struct of three parts is built, by its run. -/
theorem wp_build3 {P : Program} {o : Oper} {a : Act} {w : World} {K : Act → World → Prop} {Q : Exit → Act → World → Prop} (t : TypeId) (x0 x1 x2 : Operand) (n0 n1 n2 : Nat) (ho : o.op = .build t #[(n0, x0), (n1, x1), (n2, x2)]) (v0 v1 v2 : Value) (cells : Array Value) (hr : (Instr.build t #[(n0, v0), (n1, v1), (n2, v2)]).run P w = .ok (.agg cells) w)
    (h0 : a.eval x0 = v0) (h1 : a.eval x1 = v1) (h2 : a.eval x2 = v2) (h : K (a.put o.dst (.agg cells)) w) : o.wp P a w K Q := by
  unfold Oper.wp execOp
  simp only [ho, List.map_toArray, List.map_cons, List.map_nil, h0, h1, h2, Sem.run_bind, hr, Result.andThen_ok]
  exact h
theorem wp_build2 {P : Program} {o : Oper} {a : Act} {w : World} {K : Act → World → Prop} {Q : Exit → Act → World → Prop} (t : TypeId) (x0 x1 : Operand) (n0 n1 : Nat) (ho : o.op = .build t #[(n0, x0), (n1, x1)]) (v0 v1 : Value) (cells : Array Value) (hr : (Instr.build t #[(n0, v0), (n1, v1)]).run P w = .ok (.agg cells) w)
    (h0 : a.eval x0 = v0) (h1 : a.eval x1 = v1) (h : K (a.put o.dst (.agg cells)) w) : o.wp P a w K Q := by
  unfold Oper.wp execOp
  simp only [ho, List.map_toArray, List.map_cons, List.map_nil, h0, h1, Sem.run_bind, hr, Result.andThen_ok]
  exact h
theorem wp_build4 {P : Program} {o : Oper} {a : Act} {w : World} {K : Act → World → Prop} {Q : Exit → Act → World → Prop} (t : TypeId) (x0 x1 x2 x3 : Operand) (n0 n1 n2 n3 : Nat) (ho : o.op = .build t #[(n0, x0), (n1, x1), (n2, x2), (n3, x3)]) (v0 v1 v2 v3 : Value) (cells : Array Value) (hr : (Instr.build t #[(n0, v0), (n1, v1), (n2, v2), (n3, v3)]).run P w = .ok (.agg cells) w)
    (h0 : a.eval x0 = v0) (h1 : a.eval x1 = v1) (h2 : a.eval x2 = v2) (h3 : a.eval x3 = v3) (h : K (a.put o.dst (.agg cells)) w) : o.wp P a w K Q := by
  unfold Oper.wp execOp
  simp only [ho, List.map_toArray, List.map_cons, List.map_nil, h0, h1, h2, h3, Sem.run_bind, hr, Result.andThen_ok]
  exact h
/-- In a region that draws: a struct of three parts, of two. -/
theorem yields_build3 {P : Program} {ops : Array Oper} {S : World → Prop} {o : Oper} {a : Act} (hw : Region.wanted o (yielded ops a.tmps) = true) (t : TypeId) (x0 x1 x2 : Operand) (n0 n1 n2 : Nat) (ho : o.op = .build t #[(n0, x0), (n1, x1), (n2, x2)]) (v0 v1 v2 : Value) (cells : Array Value) (hr : ∀ w, (Instr.build t #[(n0, v0), (n1, v1), (n2, v2)]).run P w = .ok (.agg cells) w)
    (h0 : a.eval x0 = v0) (h1 : a.eval x1 = v1) (h2 : a.eval x2 = v2) : YieldsIf P ops S o (.agg cells) a := by
  refine Or.inl ⟨hw, fun w _ => ?_⟩
  unfold execOp
  simp only [ho, List.map_toArray, List.map_cons, List.map_nil, h0, h1, h2, Sem.run_bind, hr, Result.andThen_ok]
  rfl
theorem yields_build2 {P : Program} {ops : Array Oper} {S : World → Prop} {o : Oper} {a : Act} (hw : Region.wanted o (yielded ops a.tmps) = true) (t : TypeId) (x0 x1 : Operand) (n0 n1 : Nat) (ho : o.op = .build t #[(n0, x0), (n1, x1)]) (v0 v1 : Value) (cells : Array Value) (hr : ∀ w, (Instr.build t #[(n0, v0), (n1, v1)]).run P w = .ok (.agg cells) w)
    (h0 : a.eval x0 = v0) (h1 : a.eval x1 = v1) : YieldsIf P ops S o (.agg cells) a := by
  refine Or.inl ⟨hw, fun w _ => ?_⟩
  unfold execOp
  simp only [ho, List.map_toArray, List.map_cons, List.map_nil, h0, h1, Sem.run_bind, hr, Result.andThen_ok]
  rfl
theorem pk_build2 (a c : Int) (w : World) : (Instr.build 29 #[(0, .int .i64 a), (2, .int .i64 c)]).run Tryz.prog w = .ok (.agg #[.int .i64 a, .int .i64 0, .int .i64 c, .int .i64 0]) w := by
  refine run_build w _ _ _ ?_
  kernel_rfl
theorem pk_build4 (a b c d : Int) (w : World) : (Instr.build 29 #[(0, .int .i64 a), (2, .int .i64 c), (1, .int .i64 b), (3, .int .i64 d)]).run Tryz.prog w = .ok (.agg #[.int .i64 a, .int .i64 b, .int .i64 c, .int .i64 d]) w := by
  refine run_build w _ _ _ ?_
  kernel_rfl
theorem pl_build2 (a b : Int) (w : World) : (Instr.build 27 #[(0, .int .i64 a), (1, .int .i64 b)]).run Tryz.prog w = .ok (.agg #[.int .i64 a, .int .i64 b]) w := by
  refine run_build w _ _ _ ?_
  kernel_rfl
theorem fact_build (i n : Int) (p : Pk) (w : World) : (Instr.build 85 #[(0, .int .i64 i), (1, .agg #[.int .i64 p.s, .int .i64 p.d, .int .i64 p.sp, .int .i64 p.dp]), (2, .int .i64 n)]).run Tryz.prog w = .ok (.agg #[.int .i64 i, .int .i64 p.s, .int .i64 p.d, .int .i64 p.sp, .int .i64 p.dp, .int .i64 n]) w := by
  refine run_build w _ _ _ ?_
  kernel_rfl
theorem fact_build0 (i : Int) (p : Pk) (w : World) : (Instr.build 85 #[(0, .int .i64 i), (1, .agg #[.int .i64 p.s, .int .i64 p.d, .int .i64 p.sp, .int .i64 p.dp]), (2, .int .i64 0)]).run Tryz.prog w = .ok (.agg #[.int .i64 i, .int .i64 p.s, .int .i64 p.d, .int .i64 p.sp, .int .i64 p.dp, .int .i64 0]) w := fact_build i 0 p w
theorem arrival_build (x y : Int) (p : Pk) (w : World) : (Instr.build 60 #[(0, .agg #[.int .i64 x, .int .i64 y]), (1, .agg #[.int .i64 p.s, .int .i64 p.d, .int .i64 p.sp, .int .i64 p.dp])]).run Tryz.prog w = .ok (.agg #[.int .i64 x, .int .i64 y, .int .i64 p.s, .int .i64 p.d, .int .i64 p.sp, .int .i64 p.dp]) w := by
  refine run_build w _ _ _ ?_
  kernel_rfl
theorem arrival_zero (w : World) : (Instr.build 60 #[]).run Tryz.prog w = .ok (.agg #[.int .i64 0, .int .i64 0, .int .i64 0, .int .i64 0, .int .i64 0, .int .i64 0]) w := by
  refine run_build w _ _ _ ?_
  kernel_rfl
end Go.Proofs.YthioedgnambomaaGreat



namespace Go.Proofs.YthioedgnambomaaGreat
open Go.RowKit Go.Maps

def fBlock : Code → Option Code
  | .block n c => some (.block n c)
  | .seq a b => match fBlock a with
    | some c => some c
    | none => fBlock b
  | .cond _ a b => match fBlock a with
    | some c => some c
    | none => fBlock b
  | .scope c => fBlock c
  | _ => none
def isReg (n : Nat) : Code → Bool
  | .region m _ _ => m == n
  | _ => false
def fFrom (n : Nat) : Code → Option Code
  | .seq a b => if isReg n a then some (.seq a b) else match fFrom n a with
    | some c => some c
    | none => fFrom n b
  | .cond _ a b => match fFrom n a with
    | some c => some c
    | none => fFrom n b
  | .block _ c => fFrom n c
  | .scope c => fFrom n c
  | _ => none
noncomputable def swCode : Code := ((Tryz.f20.body.bind fBlock).getD .skip)
noncomputable def QZ (R : Ending → World → Prop) : Exit → Act → World → Prop := bodyPost Tryz.prog Tryz.f20 R
noncomputable def reCode : Code := ((Tryz.f20.body.bind (fFrom 49)).getD .skip)
set_option maxRecDepth 1000000 in
def SwR (w : World) (g D Q : Nat) (kd : Int) (c1 c2 c3 c4 c21 c22 c23 c24 c25 c26 c27 c28 c29 c30 c31 c32 c33 c34 c35 c36 c37 c38 c39 c40 c41 c42 c43 c44 c45 c46 c47 c48 c49 c50 c51 c52 c53 c54 c55 c56 c57 c58 c59 c60 c61 c62 c63 c64 c65 c66 c67 c68 c69 c70 c252 c253 c254 c255 c256 c257 c258 c259 c260 c261 c262 c263 c264 c265 c266 c267 c268 c269 c270 c271 c272 c273 c274 c275 c276 c277 c278 c279 c280 c281 c282 c283 c284 c285 c286 c287 c288 c289 c290 c291 c292 c293 c294 c295 c296 c297 c298 : Value) (rel : Value → Value → Value → World → Prop) (a' : Act) (w' : World) : Prop := ∃ u11 u12 u14 u15 u16 u17 u18 u19 u20 u72 u73 u74 u75 u76 u77 u78 u79 u80 u81 u82 u83 u84 u85 u86 u87 u88 u89 u90 u91 u92 u93 u94 u95 u96 u97 u98 u99 u100 u101 u102 u103 u104 u105 u106 u107 u108 u109 u110 u111 u112 u113 u114 u115 u116 u117 u118 u119 u120 u121 u122 u123 u124 u125 u126 u127 u128 u129 u130 u131 u132 u133 u134 u135 u136 u137 u138 u139 u140 u141 u142 u143 u144 u145 u146 u147 u148 u149 u150 u151 u152 u153 u154 u155 u156 u157 u158 u159 u160 u161 u162 u163 u164 u165 u166 u167 u168 u169 u170 u171 u172 u173 u174 u175 u176 u177 u178 u179 u180 u181 u182 u183 u184 u185 u186 u187 u188 u189 u190 u191 u192 u193 u194 u195 u196 u197 u198 u199 u200 u201 u202 u203 u204 u205 u206 u207 u208 u209 u210 u211 u212 u213 u214 u215 u216 u217 u218 u219 u220 u221 u222 u223 u224 u225 u226 u227 u228 u229 u230 u231 u232 u233 u234 u235 u236 u237 u238 u239 u240 u241 u242 u243 u244 u245 u246 u247 u248 u249 u250 u251 : Value, rel u11 u12 u14 w' ∧ a' = ⟨#[.pointer (some ⟨g, 0, none⟩), c1, c2, c3, c4, .pointer (some ⟨w.heap.size, 0, none⟩), .pointer (some ⟨w.heap.size + 1, 0, none⟩), .pointer (some ⟨w.heap.size + 1 + 1, 0, none⟩), .pointer (some ⟨w.heap.size + 1 + 1 + 1, 0, none⟩), .int .i64 0, .pointer (some ⟨D, 0, none⟩), u11, u12, .pointer (some ⟨Q, 0, none⟩), u14, u15, u16, u17, u18, u19, u20, c21, c22, c23, c24, c25, c26, c27, c28, c29, c30, c31, c32, c33, c34, c35, c36, c37, c38, c39, c40, c41, c42, c43, c44, c45, c46, c47, c48, c49, c50, c51, c52, c53, c54, c55, c56, c57, c58, c59, c60, c61, c62, c63, c64, c65, c66, c67, c68, c69, c70, .int .i64 kd, u72, u73, u74, u75, u76, u77, u78, u79, u80, u81, u82, u83, u84, u85, u86, u87, u88, u89, u90, u91, u92, u93, u94, u95, u96, u97, u98, u99, u100, u101, u102, u103, u104, u105, u106, u107, u108, u109, u110, u111, u112, u113, u114, u115, u116, u117, u118, u119, u120, u121, u122, u123, u124, u125, u126, u127, u128, u129, u130, u131, u132, u133, u134, u135, u136, u137, u138, u139, u140, u141, u142, u143, u144, u145, u146, u147, u148, u149, u150, u151, u152, u153, u154, u155, u156, u157, u158, u159, u160, u161, u162, u163, u164, u165, u166, u167, u168, u169, u170, u171, u172, u173, u174, u175, u176, u177, u178, u179, u180, u181, u182, u183, u184, u185, u186, u187, u188, u189, u190, u191, u192, u193, u194, u195, u196, u197, u198, u199, u200, u201, u202, u203, u204, u205, u206, u207, u208, u209, u210, u211, u212, u213, u214, u215, u216, u217, u218, u219, u220, u221, u222, u223, u224, u225, u226, u227, u228, u229, u230, u231, u232, u233, u234, u235, u236, u237, u238, u239, u240, u241, u242, u243, u244, u245, u246, u247, u248, u249, u250, u251, c252, c253, c254, c255, c256, c257, c258, c259, c260, c261, c262, c263, c264, c265, c266, c267, c268, c269, c270, c271, c272, c273, c274, c275, c276, c277, c278, c279, c280, c281, c282, c283, c284, c285, c286, c287, c288, c289, c290, c291, c292, c293, c294, c295, c296, c297, c298], []⟩
/-- A return with an error out of the switch. -/
def Rets (w : World) (g : Nat) (A L : Option Addr) (c d : Nat) (F : Option Addr) (ds : List Dv) (ls : List Lk) (FL : List Ft) (r : MR) (QQ : Exit → Act → World → Prop) : Prop :=
  ∀ (a : Act) (W : World), a.defers = [] → a.eval (.tmp 8) = .pointer (some ⟨w.heap.size + 1 + 1 + 1, 0, none⟩) → a.eval (.tmp 9) = .int .i64 r.err → r.err ≠ 0 → Bk W (w.heap.size + 1 + 1 + 1) #[.int .i64 0, .int .i64 0, .int .i64 0, .int .i64 0, .int .i64 0, .int .i64 0] 60 → MOut w g A L c d F ds ls FL W → QQ .ret a W
theorem Bk.zero6 {W : World} {k : Nat} {t : TypeId} (h : Bk W k #[.int .i64 0, .int .i64 0, .int .i64 0, .int .i64 0, .int .i64 0, .int .i64 0] t) : Bk ((((((W.setCell ⟨k, 0, none⟩ (.int .i64 0)).setCell ⟨k, 1, none⟩ (.int .i64 0)).setCell ⟨k, 2, none⟩ (.int .i64 0)).setCell ⟨k, 3, none⟩ (.int .i64 0)).setCell ⟨k, 4, none⟩ (.int .i64 0)).setCell ⟨k, 5, none⟩ (.int .i64 0)) k #[.int .i64 0, .int .i64 0, .int .i64 0, .int .i64 0, .int .i64 0, .int .i64 0] t := (((((h.setS _).setS _).setS _).setS _).setS _).setS _
theorem res8 {a : Act} {W : World} {k : Nat} {c0 c1 c2 c3 c4 c5 : Int} {e : Int} (e8 : a.eval (.tmp 8) = .pointer (some ⟨k, 0, none⟩)) (e9 : a.eval (.tmp 9) = .int .i64 e) (hB : Bk W k #[.int .i64 c0, .int .i64 c1, .int .i64 c2, .int .i64 c3, .int .i64 c4, .int .i64 c5] 60) : (results Tryz.f20 a.tmps).run Tryz.prog W = .ok (.tuple #[.agg #[.int .i64 c0, .int .i64 c1, .int .i64 c2, .int .i64 c3, .int .i64 c4, .int .i64 c5], .int .i64 e]) W := by
  obtain ⟨⟨l0, l1, l2, l3, l4, l5⟩, _⟩ := hB.six
  obtain ⟨tm, df⟩ := a
  have e8' : tm[8]?.getD undef = .pointer (some ⟨k, 0, none⟩) := by simpa [Act.eval] using e8
  have e9' : tm[9]?.getD undef = .int .i64 e := by simpa [Act.eval] using e9
  simp [results, Tryz.results20, go_sem, e8', e9', l0, l1, l2, l3, l4, l5]
theorem hasB_pool {dv : Dv} {ch : Int} (h : poB ch = true) : hasB dv.pool ch = poolB dv ch := by
  unfold poolB
  rw [h]
  unfold poB at h
  simp only [Bool.and_eq_true, decide_eq_true_eq] at h
  unfold hasB
  simp only [Bool.true_and]
  first
    | (rw [show decide (0 ≤ ch) = true by simp; omega]; simp; done)
    | (simp; omega)
end Go.Proofs.YthioedgnambomaaGreat



namespace Go.Proofs.YthioedgnambomaaGreat
open Go.RowKit Go.Maps

set_option maxHeartbeats 8000000 in
set_option maxRecDepth 1000000 in
theorem sw_k2 {w w8 : World} {g b o : Nat} {L : Option Addr} {c d : Nat} {F : Option Addr} {cF : Nat} {ds : List Dv} {ls : List Lk} {FL : List Ft} {j : Nat} {q : Int} {p : Pk} {ch : Int} {dv : Dv} {Ab Ar At : Option Addr} {nb cb nr cr nt ct : Nat} {D Q : Nat} {G : Pk → World → Prop} {r : MR} (HR : Hid (mSend dv FL (j : Int) q p ch = r)) (HKK : Hid (dv.kind = 2)) (FX : HFacts w g (some ⟨b, o, none⟩) L c d F cF ds ls FL (j : Int) q p ch dv 2 (.slice Ab nb cb) (.slice Ar nr cr) (.slice At nt ct) D Q G) (G8 : G p w8) (R : Ending → World → Prop) (hret : Hid (Rets w g (some ⟨b, o, none⟩) L c d F ds ls FL r (QZ R))) (c1 c2 c3 c4 c15 c16 c17 c18 c19 c20 c21 c22 c23 c24 c25 c26 c27 c28 c29 c30 c31 c32 c33 c34 c35 c36 c37 c38 c39 c40 c41 c42 c43 c44 c45 c46 c47 c48 c49 c50 c51 c52 c53 c54 c55 c56 c57 c58 c59 c60 c61 c62 c63 c64 c65 c66 c67 c68 c69 c70 c72 c73 c74 c75 c76 c77 c78 c79 c80 c81 c82 c83 c84 c85 c86 c87 c88 c89 c90 c91 c92 c93 c94 c95 c96 c97 c98 c99 c100 c101 c102 c103 c104 c105 c106 c107 c108 c109 c110 c111 c112 c113 c114 c115 c116 c117 c118 c119 c120 c121 c122 c123 c124 c125 c126 c127 c128 c129 c130 c131 c132 c133 c134 c135 c136 c137 c138 c139 c140 c141 c142 c143 c144 c145 c146 c147 c148 c149 c150 c151 c152 c153 c154 c155 c156 c157 c158 c159 c160 c161 c162 c163 c164 c165 c166 c167 c168 c169 c170 c171 c172 c173 c174 c175 c176 c177 c178 c179 c180 c181 c182 c183 c184 c185 c186 c187 c188 c189 c190 c191 c192 c193 c194 c195 c196 c197 c198 c199 c200 c201 c202 c203 c204 c205 c206 c207 c208 c209 c210 c211 c212 c213 c214 c215 c216 c217 c218 c219 c220 c221 c222 c223 c224 c225 c226 c227 c228 c229 c230 c231 c232 c233 c234 c235 c236 c237 c238 c239 c240 c241 c242 c243 c244 c245 c246 c247 c248 c249 c250 c251 c252 c253 c254 c255 c256 c257 c258 c259 c260 c261 c262 c263 c264 c265 c266 c267 c268 c269 c270 c271 c272 c273 c274 c275 c276 c277 c278 c279 c280 c281 c282 c283 c284 c285 c286 c287 c288 c289 c290 c291 c292 c293 c294 c295 c296 c297 c298 : Value) (J K' : Act → World → Prop) (h1 : ∀ a' w', SwR w g D Q 2 c1 c2 c3 c4 c21 c22 c23 c24 c25 c26 c27 c28 c29 c30 c31 c32 c33 c34 c35 c36 c37 c38 c39 c40 c41 c42 c43 c44 c45 c46 c47 c48 c49 c50 c51 c52 c53 c54 c55 c56 c57 c58 c59 c60 c61 c62 c63 c64 c65 c66 c67 c68 c69 c70 c252 c253 c254 c255 c256 c257 c258 c259 c260 c261 c262 c263 c264 c265 c266 c267 c268 c269 c270 c271 c272 c273 c274 c275 c276 c277 c278 c279 c280 c281 c282 c283 c284 c285 c286 c287 c288 c289 c290 c291 c292 c293 c294 c295 c296 c297 c298 (fun v11 v12 v14 wx => v11 = .bool r.out ∧ v12 = .int .i64 r.port ∧ KN r.k v14 wx ∧ G r.p wx ∧ r.err = 0) a' w' → J a' w') (h2 : ∀ a' w', Met J a' w' → K' a' w') : swCode.wp Tryz.prog (Exit.then K' (QZ R)) ⟨#[.pointer (some ⟨g, 0, none⟩), c1, c2, c3, c4, .pointer (some ⟨w.heap.size, 0, none⟩), .pointer (some ⟨w.heap.size + 1, 0, none⟩), .pointer (some ⟨w.heap.size + 1 + 1, 0, none⟩), .pointer (some ⟨w.heap.size + 1 + 1 + 1, 0, none⟩), .int .i64 0, .pointer (some ⟨D, 0, none⟩), .bool false, .int .i64 (1 - q), .pointer (some ⟨Q, 0, none⟩), .pointer none, c15, c16, c17, c18, c19, c20, c21, c22, c23, c24, c25, c26, c27, c28, c29, c30, c31, c32, c33, c34, c35, c36, c37, c38, c39, c40, c41, c42, c43, c44, c45, c46, c47, c48, c49, c50, c51, c52, c53, c54, c55, c56, c57, c58, c59, c60, c61, c62, c63, c64, c65, c66, c67, c68, c69, c70, .int .i64 2, c72, c73, c74, c75, c76, c77, c78, c79, c80, c81, c82, c83, c84, c85, c86, c87, c88, c89, c90, c91, c92, c93, c94, c95, c96, c97, c98, c99, c100, c101, c102, c103, c104, c105, c106, c107, c108, c109, c110, c111, c112, c113, c114, c115, c116, c117, c118, c119, c120, c121, c122, c123, c124, c125, c126, c127, c128, c129, c130, c131, c132, c133, c134, c135, c136, c137, c138, c139, c140, c141, c142, c143, c144, c145, c146, c147, c148, c149, c150, c151, c152, c153, c154, c155, c156, c157, c158, c159, c160, c161, c162, c163, c164, c165, c166, c167, c168, c169, c170, c171, c172, c173, c174, c175, c176, c177, c178, c179, c180, c181, c182, c183, c184, c185, c186, c187, c188, c189, c190, c191, c192, c193, c194, c195, c196, c197, c198, c199, c200, c201, c202, c203, c204, c205, c206, c207, c208, c209, c210, c211, c212, c213, c214, c215, c216, c217, c218, c219, c220, c221, c222, c223, c224, c225, c226, c227, c228, c229, c230, c231, c232, c233, c234, c235, c236, c237, c238, c239, c240, c241, c242, c243, c244, c245, c246, c247, c248, c249, c250, c251, c252, c253, c254, c255, c256, c257, c258, c259, c260, c261, c262, c263, c264, c265, c266, c267, c268, c269, c270, c271, c272, c273, c274, c275, c276, c277, c278, c279, c280, c281, c282, c283, c284, c285, c286, c287, c288, c289, c290, c291, c292, c293, c294, c295, c296, c297, c298], []⟩ w8 := by
  unfold SwR at h1
  conv => arg 2; whnf
  have d1 := (FX.cd G8).1
  have hv : r = ⟨0, outB (routesOf dv) p.d && letsB (rulesOf dv) p.s p.d p.sp p.dp, outN (routesOf dv) p.d, p, none⟩ := by
    rw [← HR.out]
    unfold mSend
    rw [if_pos HKK.out]
  subst hv
  clear HR hret
  have d6 := (FX.cd G8).2.2.2.2.2
  obtain ⟨p0, p1, p2, p3⟩ := FX.cp G8
  go_wp2_with fail
  refine (FX.out G8).mono ?_
  rintro e w9 ⟨rfl, hb9⟩
  dsimp only
  have G9 := FX.keep G8 hb9
  clear p0 p1 p2 p3 d1 d6 hb9
  have d5 := (FX.cd G9).2.2.2.2.1
  obtain ⟨p0, p1, p2, p3⟩ := FX.cp G9
  cases ho : outB (routesOf dv) p.d
  · go_wp2_with fail
    go_meet
    exact ⟨by simp [ho], rfl, rfl, G9, rfl⟩
  · go_wp2_with fail
    refine (FX.lets G9).mono ?_
    rintro e w10 ⟨rfl, hb10⟩
    dsimp only
    have G10 := FX.keep G9 hb10
    clear p0 p1 p2 p3 d5 hb10
    go_wp2_with fail
    go_meet
    exact ⟨by simp [ho], rfl, rfl, G10, rfl⟩
end Go.Proofs.YthioedgnambomaaGreat



namespace Go.Proofs.YthioedgnambomaaGreat
open Go.RowKit Go.Maps

set_option maxHeartbeats 8000000 in
set_option maxRecDepth 1000000 in
theorem sw_k3 {w w8 : World} {g b o : Nat} {L : Option Addr} {c d : Nat} {F : Option Addr} {cF : Nat} {ds : List Dv} {ls : List Lk} {FL : List Ft} {j : Nat} {q : Int} {p : Pk} {ch : Int} {dv : Dv} {Ab Ar At : Option Addr} {nb cb nr cr nt ct : Nat} {D Q : Nat} {G : Pk → World → Prop} {r : MR} (HR : Hid (mSend dv FL (j : Int) q p ch = r)) (HKK : Hid (dv.kind = 3)) (hq4 : 0 ≤ q) (hq5 : q < 2) (FX : HFacts w g (some ⟨b, o, none⟩) L c d F cF ds ls FL (j : Int) q p ch dv 3 (.slice Ab nb cb) (.slice Ar nr cr) (.slice At nt ct) D Q G) (G8 : G p w8) (R : Ending → World → Prop) (hret : Hid (Rets w g (some ⟨b, o, none⟩) L c d F ds ls FL r (QZ R))) (c1 c2 c3 c4 c15 c16 c17 c18 c19 c20 c21 c22 c23 c24 c25 c26 c27 c28 c29 c30 c31 c32 c33 c34 c35 c36 c37 c38 c39 c40 c41 c42 c43 c44 c45 c46 c47 c48 c49 c50 c51 c52 c53 c54 c55 c56 c57 c58 c59 c60 c61 c62 c63 c64 c65 c66 c67 c68 c69 c70 c72 c73 c74 c75 c76 c77 c78 c79 c80 c81 c82 c83 c84 c85 c86 c87 c88 c89 c90 c91 c92 c93 c94 c95 c96 c97 c98 c99 c100 c101 c102 c103 c104 c105 c106 c107 c108 c109 c110 c111 c112 c113 c114 c115 c116 c117 c118 c119 c120 c121 c122 c123 c124 c125 c126 c127 c128 c129 c130 c131 c132 c133 c134 c135 c136 c137 c138 c139 c140 c141 c142 c143 c144 c145 c146 c147 c148 c149 c150 c151 c152 c153 c154 c155 c156 c157 c158 c159 c160 c161 c162 c163 c164 c165 c166 c167 c168 c169 c170 c171 c172 c173 c174 c175 c176 c177 c178 c179 c180 c181 c182 c183 c184 c185 c186 c187 c188 c189 c190 c191 c192 c193 c194 c195 c196 c197 c198 c199 c200 c201 c202 c203 c204 c205 c206 c207 c208 c209 c210 c211 c212 c213 c214 c215 c216 c217 c218 c219 c220 c221 c222 c223 c224 c225 c226 c227 c228 c229 c230 c231 c232 c233 c234 c235 c236 c237 c238 c239 c240 c241 c242 c243 c244 c245 c246 c247 c248 c249 c250 c251 c252 c253 c254 c255 c256 c257 c258 c259 c260 c261 c262 c263 c264 c265 c266 c267 c268 c269 c270 c271 c272 c273 c274 c275 c276 c277 c278 c279 c280 c281 c282 c283 c284 c285 c286 c287 c288 c289 c290 c291 c292 c293 c294 c295 c296 c297 c298 : Value) (J K' : Act → World → Prop) (h1 : ∀ a' w', SwR w g D Q 3 c1 c2 c3 c4 c21 c22 c23 c24 c25 c26 c27 c28 c29 c30 c31 c32 c33 c34 c35 c36 c37 c38 c39 c40 c41 c42 c43 c44 c45 c46 c47 c48 c49 c50 c51 c52 c53 c54 c55 c56 c57 c58 c59 c60 c61 c62 c63 c64 c65 c66 c67 c68 c69 c70 c252 c253 c254 c255 c256 c257 c258 c259 c260 c261 c262 c263 c264 c265 c266 c267 c268 c269 c270 c271 c272 c273 c274 c275 c276 c277 c278 c279 c280 c281 c282 c283 c284 c285 c286 c287 c288 c289 c290 c291 c292 c293 c294 c295 c296 c297 c298 (fun v11 v12 v14 wx => v11 = .bool r.out ∧ v12 = .int .i64 r.port ∧ KN r.k v14 wx ∧ G r.p wx ∧ r.err = 0) a' w' → J a' w') (h2 : ∀ a' w', Met J a' w' → K' a' w') : swCode.wp Tryz.prog (Exit.then K' (QZ R)) ⟨#[.pointer (some ⟨g, 0, none⟩), c1, c2, c3, c4, .pointer (some ⟨w.heap.size, 0, none⟩), .pointer (some ⟨w.heap.size + 1, 0, none⟩), .pointer (some ⟨w.heap.size + 1 + 1, 0, none⟩), .pointer (some ⟨w.heap.size + 1 + 1 + 1, 0, none⟩), .int .i64 0, .pointer (some ⟨D, 0, none⟩), .bool false, .int .i64 (1 - q), .pointer (some ⟨Q, 0, none⟩), .pointer none, c15, c16, c17, c18, c19, c20, c21, c22, c23, c24, c25, c26, c27, c28, c29, c30, c31, c32, c33, c34, c35, c36, c37, c38, c39, c40, c41, c42, c43, c44, c45, c46, c47, c48, c49, c50, c51, c52, c53, c54, c55, c56, c57, c58, c59, c60, c61, c62, c63, c64, c65, c66, c67, c68, c69, c70, .int .i64 3, c72, c73, c74, c75, c76, c77, c78, c79, c80, c81, c82, c83, c84, c85, c86, c87, c88, c89, c90, c91, c92, c93, c94, c95, c96, c97, c98, c99, c100, c101, c102, c103, c104, c105, c106, c107, c108, c109, c110, c111, c112, c113, c114, c115, c116, c117, c118, c119, c120, c121, c122, c123, c124, c125, c126, c127, c128, c129, c130, c131, c132, c133, c134, c135, c136, c137, c138, c139, c140, c141, c142, c143, c144, c145, c146, c147, c148, c149, c150, c151, c152, c153, c154, c155, c156, c157, c158, c159, c160, c161, c162, c163, c164, c165, c166, c167, c168, c169, c170, c171, c172, c173, c174, c175, c176, c177, c178, c179, c180, c181, c182, c183, c184, c185, c186, c187, c188, c189, c190, c191, c192, c193, c194, c195, c196, c197, c198, c199, c200, c201, c202, c203, c204, c205, c206, c207, c208, c209, c210, c211, c212, c213, c214, c215, c216, c217, c218, c219, c220, c221, c222, c223, c224, c225, c226, c227, c228, c229, c230, c231, c232, c233, c234, c235, c236, c237, c238, c239, c240, c241, c242, c243, c244, c245, c246, c247, c248, c249, c250, c251, c252, c253, c254, c255, c256, c257, c258, c259, c260, c261, c262, c263, c264, c265, c266, c267, c268, c269, c270, c271, c272, c273, c274, c275, c276, c277, c278, c279, c280, c281, c282, c283, c284, c285, c286, c287, c288, c289, c290, c291, c292, c293, c294, c295, c296, c297, c298], []⟩ w8 := by
  unfold SwR at h1
  conv => arg 2; whnf
  have d1 := (FX.cd G8).1
  have n2 : ¬ dv.kind = 2 := by rw [HKK.out]; decide
  by_cases hq0 : q = 0
  · subst hq0
    have hv : r = ⟨0, letsB (rulesOf dv) p.s p.d p.sp p.dp, 1, p, some ⟨(j : Int), p, 0⟩⟩ := by
      rw [← HR.out]
      unfold mSend
      rw [if_neg n2, if_pos HKK.out, if_pos rfl]
    subst hv
    clear HR n2 hret
    obtain ⟨a0, a1⟩ := FX.ca G8
    have d5 := (FX.cd G8).2.2.2.2.1
    obtain ⟨p0, p1, p2, p3⟩ := FX.cp G8
    go_wp2_with fail
    refine (FX.lets G8).mono ?_
    rintro e w9 ⟨rfl, hb9⟩
    dsimp only
    have G9 := FX.keep G8 hb9
    have GA := FX.keep G9 ((Below.refl w9.heap.size w9).alloc (Nat.le_refl _) (.cells #[.int .i64 (j : Int), .int .i64 p.s, .int .i64 p.d, .int .i64 p.sp, .int .i64 p.dp, .int .i64 0] 85))
    clear p0 p1 p2 p3 d1 d5 hb9 a0 a1
    obtain ⟨a0, a1⟩ := FX.ca G9
    obtain ⟨p0, p1, p2, p3⟩ := FX.cp G9
    go_upto_region 16 with fail
    go_step
    go_step
    go_step
    go_step
    go_step
    go_step
    go_step
    go_step
    go_step
    go_step
    go_step
    refine wp_build3 85 _ _ _ 0 1 2 (by rfl) _ _ _ _ (fact_build0 (j : Int) p _) (by rfl) (by rfl) (by rfl) ?_
    go_wp2_with fail
    go_meet
    exact ⟨rfl, by simp, ⟨_, rfl, bk_new w9 _ _⟩, GA, rfl⟩
  · obtain rfl : q = 1 := by omega
    have hv : r = ⟨0, FL.any (ofFlow (j : Int) (flipP p)), 0, p, none⟩ := by
      rw [← HR.out]
      unfold mSend
      rw [if_neg n2, if_pos HKK.out, if_neg hq0]
    subst hv
    clear HR n2 hq0 hret
    obtain ⟨a0, a1⟩ := FX.ca G8
    go_wp2_with fail
    refine (FX.f1 G8).mono ?_
    rintro e w9 ⟨x, rfl, hx, hb9⟩
    dsimp only
    have G9 := FX.keep G8 hb9
    clear d1 a0 a1 hb9
    go_wp2_with fail
    go_meet
    refine ⟨?_, by simp, rfl, G9, rfl⟩
    rw [← idx_any hx.out]
end Go.Proofs.YthioedgnambomaaGreat



namespace Go.Proofs.YthioedgnambomaaGreat
open Go.RowKit Go.Maps

set_option maxHeartbeats 8000000 in
set_option maxRecDepth 1000000 in
theorem sw_kx {w w8 : World} {g b o : Nat} {L : Option Addr} {c d : Nat} {F : Option Addr} {cF : Nat} {ds : List Dv} {ls : List Lk} {FL : List Ft} {j : Nat} {q : Int} {p : Pk} {ch : Int} {dv : Dv} {Ab Ar At : Option Addr} {nb cb nr cr nt ct : Nat} {D Q : Nat} {G : Pk → World → Prop} {r : MR} {kd : Int} (HR : Hid (mSend dv FL (j : Int) q p ch = r)) (HKK : Hid (dv.kind = kd)) (h2' : ¬ kd = 2) (h3 : ¬ kd = 3) (h4 : ¬ kd = 4) (h5 : ¬ kd = 5) (FX : HFacts w g (some ⟨b, o, none⟩) L c d F cF ds ls FL (j : Int) q p ch dv kd (.slice Ab nb cb) (.slice Ar nr cr) (.slice At nt ct) D Q G) (G8 : G p w8) (R : Ending → World → Prop) (hret : Hid (Rets w g (some ⟨b, o, none⟩) L c d F ds ls FL r (QZ R))) (c1 c2 c3 c4 c15 c16 c17 c18 c19 c20 c21 c22 c23 c24 c25 c26 c27 c28 c29 c30 c31 c32 c33 c34 c35 c36 c37 c38 c39 c40 c41 c42 c43 c44 c45 c46 c47 c48 c49 c50 c51 c52 c53 c54 c55 c56 c57 c58 c59 c60 c61 c62 c63 c64 c65 c66 c67 c68 c69 c70 c72 c73 c74 c75 c76 c77 c78 c79 c80 c81 c82 c83 c84 c85 c86 c87 c88 c89 c90 c91 c92 c93 c94 c95 c96 c97 c98 c99 c100 c101 c102 c103 c104 c105 c106 c107 c108 c109 c110 c111 c112 c113 c114 c115 c116 c117 c118 c119 c120 c121 c122 c123 c124 c125 c126 c127 c128 c129 c130 c131 c132 c133 c134 c135 c136 c137 c138 c139 c140 c141 c142 c143 c144 c145 c146 c147 c148 c149 c150 c151 c152 c153 c154 c155 c156 c157 c158 c159 c160 c161 c162 c163 c164 c165 c166 c167 c168 c169 c170 c171 c172 c173 c174 c175 c176 c177 c178 c179 c180 c181 c182 c183 c184 c185 c186 c187 c188 c189 c190 c191 c192 c193 c194 c195 c196 c197 c198 c199 c200 c201 c202 c203 c204 c205 c206 c207 c208 c209 c210 c211 c212 c213 c214 c215 c216 c217 c218 c219 c220 c221 c222 c223 c224 c225 c226 c227 c228 c229 c230 c231 c232 c233 c234 c235 c236 c237 c238 c239 c240 c241 c242 c243 c244 c245 c246 c247 c248 c249 c250 c251 c252 c253 c254 c255 c256 c257 c258 c259 c260 c261 c262 c263 c264 c265 c266 c267 c268 c269 c270 c271 c272 c273 c274 c275 c276 c277 c278 c279 c280 c281 c282 c283 c284 c285 c286 c287 c288 c289 c290 c291 c292 c293 c294 c295 c296 c297 c298 : Value) (J K' : Act → World → Prop) (h1 : ∀ a' w', SwR w g D Q kd c1 c2 c3 c4 c21 c22 c23 c24 c25 c26 c27 c28 c29 c30 c31 c32 c33 c34 c35 c36 c37 c38 c39 c40 c41 c42 c43 c44 c45 c46 c47 c48 c49 c50 c51 c52 c53 c54 c55 c56 c57 c58 c59 c60 c61 c62 c63 c64 c65 c66 c67 c68 c69 c70 c252 c253 c254 c255 c256 c257 c258 c259 c260 c261 c262 c263 c264 c265 c266 c267 c268 c269 c270 c271 c272 c273 c274 c275 c276 c277 c278 c279 c280 c281 c282 c283 c284 c285 c286 c287 c288 c289 c290 c291 c292 c293 c294 c295 c296 c297 c298 (fun v11 v12 v14 wx => v11 = .bool r.out ∧ v12 = .int .i64 r.port ∧ KN r.k v14 wx ∧ G r.p wx ∧ r.err = 0) a' w' → J a' w') (h2 : ∀ a' w', Met J a' w' → K' a' w') : swCode.wp Tryz.prog (Exit.then K' (QZ R)) ⟨#[.pointer (some ⟨g, 0, none⟩), c1, c2, c3, c4, .pointer (some ⟨w.heap.size, 0, none⟩), .pointer (some ⟨w.heap.size + 1, 0, none⟩), .pointer (some ⟨w.heap.size + 1 + 1, 0, none⟩), .pointer (some ⟨w.heap.size + 1 + 1 + 1, 0, none⟩), .int .i64 0, .pointer (some ⟨D, 0, none⟩), .bool false, .int .i64 (1 - q), .pointer (some ⟨Q, 0, none⟩), .pointer none, c15, c16, c17, c18, c19, c20, c21, c22, c23, c24, c25, c26, c27, c28, c29, c30, c31, c32, c33, c34, c35, c36, c37, c38, c39, c40, c41, c42, c43, c44, c45, c46, c47, c48, c49, c50, c51, c52, c53, c54, c55, c56, c57, c58, c59, c60, c61, c62, c63, c64, c65, c66, c67, c68, c69, c70, .int .i64 kd, c72, c73, c74, c75, c76, c77, c78, c79, c80, c81, c82, c83, c84, c85, c86, c87, c88, c89, c90, c91, c92, c93, c94, c95, c96, c97, c98, c99, c100, c101, c102, c103, c104, c105, c106, c107, c108, c109, c110, c111, c112, c113, c114, c115, c116, c117, c118, c119, c120, c121, c122, c123, c124, c125, c126, c127, c128, c129, c130, c131, c132, c133, c134, c135, c136, c137, c138, c139, c140, c141, c142, c143, c144, c145, c146, c147, c148, c149, c150, c151, c152, c153, c154, c155, c156, c157, c158, c159, c160, c161, c162, c163, c164, c165, c166, c167, c168, c169, c170, c171, c172, c173, c174, c175, c176, c177, c178, c179, c180, c181, c182, c183, c184, c185, c186, c187, c188, c189, c190, c191, c192, c193, c194, c195, c196, c197, c198, c199, c200, c201, c202, c203, c204, c205, c206, c207, c208, c209, c210, c211, c212, c213, c214, c215, c216, c217, c218, c219, c220, c221, c222, c223, c224, c225, c226, c227, c228, c229, c230, c231, c232, c233, c234, c235, c236, c237, c238, c239, c240, c241, c242, c243, c244, c245, c246, c247, c248, c249, c250, c251, c252, c253, c254, c255, c256, c257, c258, c259, c260, c261, c262, c263, c264, c265, c266, c267, c268, c269, c270, c271, c272, c273, c274, c275, c276, c277, c278, c279, c280, c281, c282, c283, c284, c285, c286, c287, c288, c289, c290, c291, c292, c293, c294, c295, c296, c297, c298], []⟩ w8 := by
  unfold SwR at h1
  conv => arg 2; whnf
  have d1 := (FX.cd G8).1
  have hv : r = ⟨0, false, 1 - q, p, none⟩ := by
    rw [← HR.out]
    unfold mSend
    rw [if_neg (by rw [HKK.out]; exact h2'), if_neg (by rw [HKK.out]; exact h3), if_neg (by rw [HKK.out]; exact h4), if_neg (by rw [HKK.out]; exact h5)]
  subst hv
  have e2 : (kd == 2) = false := by simpa using h2'
  have e3 : (kd == 3) = false := by simpa using h3
  have e4 : (kd == 4) = false := by simpa using h4
  have e5 : (kd == 5) = false := by simpa using h5
  clear HR hret
  go_wp2_with fail
  all_goals first | exact absurd (by assumption) h2' | exact absurd (by assumption) h3 | exact absurd (by assumption) h4 | exact absurd (by assumption) h5 | skip
  go_meet
  exact ⟨rfl, rfl, rfl, G8, rfl⟩
end Go.Proofs.YthioedgnambomaaGreat



namespace Go.Proofs.YthioedgnambomaaGreat
open Go.RowKit Go.Maps

set_option maxHeartbeats 8000000 in
set_option maxRecDepth 1000000 in
theorem sw_k4a {w w8 : World} {g b o : Nat} {L : Option Addr} {c d : Nat} {F : Option Addr} {cF : Nat} {ds : List Dv} {ls : List Lk} {FL : List Ft} {j : Nat} {q : Int} {p : Pk} {ch : Int} {dv : Dv} {Ab Ar At : Option Addr} {nb cb nr cr nt ct : Nat} {D Q : Nat} {G : Pk → World → Prop} {r : MR} (HR : Hid (mSend dv FL (j : Int) q p ch = r)) (HKK : Hid (dv.kind = 4)) (hq4 : 0 ≤ q) (hq5 : q < 2) (hq0 : ¬ q = 0) (FX : HFacts w g (some ⟨b, o, none⟩) L c d F cF ds ls FL (j : Int) q p ch dv 4 (.slice Ab nb cb) (.slice Ar nr cr) (.slice At nt ct) D Q G) (G8 : G p w8) (R : Ending → World → Prop) (hret : Hid (Rets w g (some ⟨b, o, none⟩) L c d F ds ls FL r (QZ R))) (c1 c2 c3 c4 c15 c16 c17 c18 c19 c20 c21 c22 c23 c24 c25 c26 c27 c28 c29 c30 c31 c32 c33 c34 c35 c36 c37 c38 c39 c40 c41 c42 c43 c44 c45 c46 c47 c48 c49 c50 c51 c52 c53 c54 c55 c56 c57 c58 c59 c60 c61 c62 c63 c64 c65 c66 c67 c68 c69 c70 c72 c73 c74 c75 c76 c77 c78 c79 c80 c81 c82 c83 c84 c85 c86 c87 c88 c89 c90 c91 c92 c93 c94 c95 c96 c97 c98 c99 c100 c101 c102 c103 c104 c105 c106 c107 c108 c109 c110 c111 c112 c113 c114 c115 c116 c117 c118 c119 c120 c121 c122 c123 c124 c125 c126 c127 c128 c129 c130 c131 c132 c133 c134 c135 c136 c137 c138 c139 c140 c141 c142 c143 c144 c145 c146 c147 c148 c149 c150 c151 c152 c153 c154 c155 c156 c157 c158 c159 c160 c161 c162 c163 c164 c165 c166 c167 c168 c169 c170 c171 c172 c173 c174 c175 c176 c177 c178 c179 c180 c181 c182 c183 c184 c185 c186 c187 c188 c189 c190 c191 c192 c193 c194 c195 c196 c197 c198 c199 c200 c201 c202 c203 c204 c205 c206 c207 c208 c209 c210 c211 c212 c213 c214 c215 c216 c217 c218 c219 c220 c221 c222 c223 c224 c225 c226 c227 c228 c229 c230 c231 c232 c233 c234 c235 c236 c237 c238 c239 c240 c241 c242 c243 c244 c245 c246 c247 c248 c249 c250 c251 c252 c253 c254 c255 c256 c257 c258 c259 c260 c261 c262 c263 c264 c265 c266 c267 c268 c269 c270 c271 c272 c273 c274 c275 c276 c277 c278 c279 c280 c281 c282 c283 c284 c285 c286 c287 c288 c289 c290 c291 c292 c293 c294 c295 c296 c297 c298 : Value) (J K' : Act → World → Prop) (h1 : ∀ a' w', SwR w g D Q 4 c1 c2 c3 c4 c21 c22 c23 c24 c25 c26 c27 c28 c29 c30 c31 c32 c33 c34 c35 c36 c37 c38 c39 c40 c41 c42 c43 c44 c45 c46 c47 c48 c49 c50 c51 c52 c53 c54 c55 c56 c57 c58 c59 c60 c61 c62 c63 c64 c65 c66 c67 c68 c69 c70 c252 c253 c254 c255 c256 c257 c258 c259 c260 c261 c262 c263 c264 c265 c266 c267 c268 c269 c270 c271 c272 c273 c274 c275 c276 c277 c278 c279 c280 c281 c282 c283 c284 c285 c286 c287 c288 c289 c290 c291 c292 c293 c294 c295 c296 c297 c298 (fun v11 v12 v14 wx => v11 = .bool r.out ∧ v12 = .int .i64 r.port ∧ KN r.k v14 wx ∧ G r.p wx ∧ r.err = 0) a' w' → J a' w') (h2 : ∀ a' w', Met J a' w' → K' a' w') : swCode.wp Tryz.prog (Exit.then K' (QZ R)) ⟨#[.pointer (some ⟨g, 0, none⟩), c1, c2, c3, c4, .pointer (some ⟨w.heap.size, 0, none⟩), .pointer (some ⟨w.heap.size + 1, 0, none⟩), .pointer (some ⟨w.heap.size + 1 + 1, 0, none⟩), .pointer (some ⟨w.heap.size + 1 + 1 + 1, 0, none⟩), .int .i64 0, .pointer (some ⟨D, 0, none⟩), .bool false, .int .i64 (1 - q), .pointer (some ⟨Q, 0, none⟩), .pointer none, c15, c16, c17, c18, c19, c20, c21, c22, c23, c24, c25, c26, c27, c28, c29, c30, c31, c32, c33, c34, c35, c36, c37, c38, c39, c40, c41, c42, c43, c44, c45, c46, c47, c48, c49, c50, c51, c52, c53, c54, c55, c56, c57, c58, c59, c60, c61, c62, c63, c64, c65, c66, c67, c68, c69, c70, .int .i64 4, c72, c73, c74, c75, c76, c77, c78, c79, c80, c81, c82, c83, c84, c85, c86, c87, c88, c89, c90, c91, c92, c93, c94, c95, c96, c97, c98, c99, c100, c101, c102, c103, c104, c105, c106, c107, c108, c109, c110, c111, c112, c113, c114, c115, c116, c117, c118, c119, c120, c121, c122, c123, c124, c125, c126, c127, c128, c129, c130, c131, c132, c133, c134, c135, c136, c137, c138, c139, c140, c141, c142, c143, c144, c145, c146, c147, c148, c149, c150, c151, c152, c153, c154, c155, c156, c157, c158, c159, c160, c161, c162, c163, c164, c165, c166, c167, c168, c169, c170, c171, c172, c173, c174, c175, c176, c177, c178, c179, c180, c181, c182, c183, c184, c185, c186, c187, c188, c189, c190, c191, c192, c193, c194, c195, c196, c197, c198, c199, c200, c201, c202, c203, c204, c205, c206, c207, c208, c209, c210, c211, c212, c213, c214, c215, c216, c217, c218, c219, c220, c221, c222, c223, c224, c225, c226, c227, c228, c229, c230, c231, c232, c233, c234, c235, c236, c237, c238, c239, c240, c241, c242, c243, c244, c245, c246, c247, c248, c249, c250, c251, c252, c253, c254, c255, c256, c257, c258, c259, c260, c261, c262, c263, c264, c265, c266, c267, c268, c269, c270, c271, c272, c273, c274, c275, c276, c277, c278, c279, c280, c281, c282, c283, c284, c285, c286, c287, c288, c289, c290, c291, c292, c293, c294, c295, c296, c297, c298], []⟩ w8 := by
  unfold SwR at h1
  conv => arg 2; whnf
  have d1 := (FX.cd G8).1
  have n2 : ¬ dv.kind = 2 := by rw [HKK.out]; decide
  have n3 : ¬ dv.kind = 3 := by rw [HKK.out]; decide
  obtain rfl : q = 1 := by omega
  obtain ⟨a0, a1⟩ := FX.ca G8
  repeat (first | go_guarded | go_step)
  refine (FX.f2 G8).mono ?_
  rintro e w9 ⟨x, rfl, hx, hb9⟩
  dsimp only
  have G9 := FX.keep G8 hb9
  clear d1 a0 a1 hb9
  have d2 := (FX.cd G9).2.1
  have p1 := (FX.cp G9).2.1
  rcases hx.out with ⟨rfl, hno⟩ | ⟨k, f, rfl, hk, hfd, jk⟩
  · have hv : r = ⟨0, false, 0, p, none⟩ := by
      rw [← HR.out]
      unfold mSend
      rw [if_neg n2, if_neg n3, if_pos HKK.out, if_neg hq0, hno]
    subst hv
    clear HR n2 n3 hq0 hx hno hret
    cases hpa : (p.d == dv.addr)
    · as_aux_lemma =>
        repeat (first | go_guarded | go_step)
        go_meet
        exact ⟨rfl, by simp, rfl, G9, rfl⟩
    · as_aux_lemma =>
        repeat (first | go_guarded | go_step)
        go_meet
        exact ⟨rfl, by simp, rfl, G9, rfl⟩
  clear jk
  cases hpa : (p.d == dv.addr)
  · have hv : r = ⟨0, false, 0, p, none⟩ := by
      rw [← HR.out]
      unfold mSend
      rw [if_neg n2, if_neg n3, if_pos HKK.out, if_neg hq0, hfd]
      show (if (p.d == dv.addr) = true then _ else _) = _
      rw [hpa, if_neg Bool.false_ne_true]
    subst hv
    clear HR n2 n3 hq0 hx hk hfd hret
    as_aux_lemma =>
      repeat (first | go_guarded | go_step)
      go_meet
      exact ⟨rfl, by simp, rfl, G9, rfl⟩
  · have hv : r = ⟨0, true, 0, ⟨p.s, f.p.s, p.sp, f.p.sp⟩, none⟩ := by
      rw [← HR.out]
      unfold mSend
      rw [if_neg n2, if_neg n3, if_pos HKK.out, if_neg hq0, hfd]
      show (if (p.d == dv.addr) = true then _ else _) = _
      rw [hpa, if_pos rfl]
    subst hv
    obtain ⟨fb, fo, hF, y1, y3, y5, uu1, uu2⟩ := FX.fact G9 hk
    have g2 := (FX.cg G9).2.2
    obtain ⟨q0, q1, q2, q3, z0, z1, z2, z3⟩ := FX.cq G9
    have GC := FX.s3 (FX.s1 G9 f.p.s) f.p.sp
    rw [hF] at g2
    clear HR n2 n3 hq0 hx hk hfd hF y5 hret
    as_aux_lemma =>
      repeat (first | go_guarded | go_step)
      go_region
      all_goals
        repeat (first | go_guarded | go_step)
        go_meet
        exact ⟨rfl, by simp, rfl, FX.keep GC (Below.refl _ _).drew, rfl⟩
end Go.Proofs.YthioedgnambomaaGreat


