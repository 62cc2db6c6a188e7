/-
  What devices know, as functions; a memory, in memory; what is kept.
-/
import Derived.Test.YthioedgnambomaaSm
import Derived.Test.YthioedgnambomaaNE
import Derived.Test.YthioedgnambomaaNF
import Derived.Test.YthioedgnambomaaLets
import Derived.Test.YthioedgnambomaaOut
namespace Go.Proofs.Ythioedgnambomaa
open Go.RowKit Go.Maps

/-! ### plain -/
def zeroP : Pk := ⟨0, 0, 0, 0⟩
def flipP (p : Pk) : Pk := ⟨p.d, p.s, p.dp, p.sp⟩
def adB (n : Int) : Bool := decide (0 ≤ n) && decide (n < 16)
def poB (n : Int) : Bool := decide (0 ≤ n) && decide (n < 8)
def pkOk (p : Pk) : Bool := adB p.s && adB p.d && poB p.sp && poB p.dp
/-- What is to be known once a packet has gone out. -/
inductive Lrn where
  | no
  | flow (i : Int) (p : Pk)
  | own (i port : Int) (s : Int × Int)
  | back (i : Int) (p : Pk) (b : Int)
/-- What devices know. -/
structure Mnd where
  fl : Int × Pk → Option Unit
  ow : Int × Int → Option (Int × Int)
  bk : Int × Pk → Option Int
noncomputable def learnP (M : Mnd) : Lrn → Mnd
  | .no => M
  | .flow i p => { M with fl := putF M.fl (i, p) () }
  | .own i k s => { M with ow := putF M.ow (i, k) s }
  | .back i p b => { M with bk := putF M.bk (i, p) b }
structure SR where
  err : Int
  port : Int
  p : Pk
  l : Lrn
def stayR (e : Int) : SR := ⟨e, 0, zeroP, .no⟩
def passR (port : Int) (p : Pk) : SR := ⟨0, port, p, .no⟩
def rulesOf (d : Dv) : List Rl := d.rules.map fun r => ⟨r.ok, r.a, r.b, r.c, r.d, r.ha, r.hb, r.hc, r.hd⟩
def routesOf (d : Dv) : List Rt := d.routes.map rtOf
def routeP (d : Dv) (p : Pk) : SR := if outB (routesOf d) p.d && letsB (rulesOf d) p.s p.d p.sp p.dp then passR (outN (routesOf d) p.d) p else stayR 7
def askP (d : Dv) (i : Int) (p : Pk) : SR := if letsB (rulesOf d) p.s p.d p.sp p.dp then ⟨0, 1, p, .flow i p⟩ else stayR 7
def answerP (M : Mnd) (i : Int) (p : Pk) : SR := if (M.fl (i, flipP p)).isSome then passR 0 p else stayR 7
/-- The port of a device that a sender has: the first. -/
def ownFrom (M : Mnd) (i : Int) (s : Int × Int) (k : Nat) : Option Nat := if h : k < 8 then (if M.ow (i, (k : Int)) = some s then some k else ownFrom M i s (k + 1)) else none
termination_by 8 - k
def poolB (d : Dv) (c : Int) : Bool := poB c && d.pool.testBit c.toNat
def hideP (d : Dv) (M : Mnd) (i : Int) (p : Pk) (c : Int) : SR :=
  match ownFrom M i (p.s, p.sp) 0 with
  | some k => ⟨0, 1, ⟨d.addr, p.d, (k : Int), p.dp⟩, .own i (k : Int) (p.s, p.sp)⟩
  | none => if poolB d c then (if (M.ow (i, c)).isSome then stayR 6 else ⟨0, 1, ⟨d.addr, p.d, c, p.dp⟩, .own i c (p.s, p.sp)⟩) else stayR 1
def unhideP (d : Dv) (M : Mnd) (i : Int) (p : Pk) : SR :=
  match M.ow (i, p.dp) with
  | some s => if p.d == d.addr then passR 0 ⟨p.s, s.1, p.sp, s.2⟩ else stayR 7
  | none => stayR 7
def spreadP (d : Dv) (M : Mnd) (i : Int) (p : Pk) (c : Int) : SR :=
  if p.d == d.addr then
    match M.bk (i, p) with
    | some b => ⟨0, 1, ⟨p.s, b, p.sp, p.dp⟩, .back i p b⟩
    | none => if decide (0 ≤ c) && decide (c < (d.backs.length : Int)) then ⟨0, 1, ⟨p.s, d.backs.getD c.toNat 0, p.sp, p.dp⟩, .back i p (d.backs.getD c.toNat 0)⟩ else stayR 1
  else passR 1 p
def gatherP (d : Dv) (M : Mnd) (i : Int) (p : Pk) : SR :=
  passR 0 (if M.bk (i, ⟨p.d, d.addr, p.dp, p.sp⟩) = some p.s then ⟨d.addr, p.d, p.sp, p.dp⟩ else p)
def sendP (d : Dv) (M : Mnd) (i q : Int) (p : Pk) (c : Int) : SR :=
  if d.kind = 2 then routeP d p
  else if d.kind = 3 then (if q = 0 then askP d i p else answerP M i p)
  else if d.kind = 4 then (if q = 0 then hideP d M i p c else unhideP d M i p)
  else if d.kind = 5 then (if q = 0 then spreadP d M i p c else gatherP d M i p)
  else stayR 7
structure HR where
  err : Int
  tp : Int × Int
  p : Pk
  M : Mnd
def badH (e : Int) (M : Mnd) : HR := ⟨e, (0, 0), zeroP, M⟩
noncomputable def handleP (ds : List Dv) (ls : List Lk) (M : Mnd) (i q : Int) (p : Pk) (c : Int) : HR :=
  if isPl ds i q then
    (if pkOk p then
      (if (sendP (ds.getD i.toNat default) M i q p c).err = 0 then
        match peerF ls i (sendP (ds.getD i.toNat default) M i q p c).port with
        | some t => ⟨0, t, (sendP (ds.getD i.toNat default) M i q p c).p, learnP M (sendP (ds.getD i.toNat default) M i q p c).l⟩
        | none => badH 7 M
      else badH (sendP (ds.getD i.toNat default) M i q p c).err M)
    else badH 1 M)
  else badH 4 M

/-! ### in memory -/
/-- Where a memory lies. -/
structure Mp where
  z : Nat
  pre : List Value
  post : List Value
  ty : TypeId
  B : Nat
  f : Nat
  o : Nat
  k : Nat
  A : Option Addr
  cap : Nat
  L : Option Addr
  cap' : Nat
/-- A memory of a net, with what is known. -/
structure MemAt (w : World) (m : Mp) (ds : List Dv) (ls : List Lk) (n : Nat) (M : Mnd) : Prop where
  blk : w.heap[m.B]? = some (.cells (m.pre ++ ([Value.slice m.A ds.length m.cap, Value.slice m.L ls.length m.cap', Value.map (some m.f), Value.map (some m.o), Value.map (some m.k)] ++ m.post)).toArray m.ty (0, 0)) ∧ m.pre.length = m.z
  devs : Devs w.heap.size w (.slice m.A ds.length m.cap) ds
  links : Links w.heap.size w (.slice m.L ls.length m.cap') ls
  fl : MapAt pofE unitV w m.f n M.fl
  ow : MapAt prtE endV w m.o n M.ow
  bk : MapAt pofE intV w m.k n M.bk
  fo : m.f ≠ m.o
  fk : m.f ≠ m.k
  ok : m.o ≠ m.k
/-- All but the maps of m is as it was. -/
structure HK (m : Mp) (w w' : World) : Prop where
  os : w'.os = w.os
  tape : w'.tape = w.tape
  output : w'.output = w.output
  size : w.heap.size ≤ w'.heap.size
  block : ∀ b, b < w.heap.size → b ≠ m.f → b ≠ m.o → b ≠ m.k → w'.heap[b]? = w.heap[b]?
/-- All but maps is as it was. -/
structure CK (w w' : World) : Prop where
  size : w.heap.size ≤ w'.heap.size
  block : ∀ b, (∀ es c, w.heap[b]? ≠ some (.map es c)) → b < w.heap.size → w'.heap[b]? = w.heap[b]?
section
variable {w w' w'' : World} {m : Mp} {ds : List Dv} {ls : List Lk} {n : Nat} {M : Mnd}
theorem CK.of_below (h : Below w.heap.size w w') : CK w w' := ⟨h.size, fun b _ hb => h.block b hb⟩
theorem CK.cell (h : CK w w') {a : Addr} {v : Value} (hc : w.cell? a = some v) : w'.cell? a = some v := by
  have hl := World.block_lt_of_cell? w _ hc
  have hb := h.block a.block (fun es c e => by
    unfold World.cell? at hc
    rw [e] at hc
    cases hc) hl
  unfold World.cell? at hc ⊢
  rw [hb]
  exact hc
theorem SlAt.ck {α : Type} {base k : Nat} {R R' : List Value → α → Prop} {v : Value} {xs : List α} (h : SlAt base w k R v xs) (hb : CK w w') (hR : ∀ cs x, x ∈ xs → R cs x → R' cs x) : SlAt base w' k R' v xs := by
  obtain ⟨A, cap, e, h0, h1, h2, h3⟩ := h
  refine ⟨A, cap, e, h0, h1, h2, fun hn => ?_⟩
  obtain ⟨b, o, ea, hl, hr⟩ := h3 hn
  refine ⟨b, o, ea, hl, fun k x hx => ?_⟩
  obtain ⟨cs, c1, c2, c3⟩ := hr k x hx
  exact ⟨cs, c1, hR cs x (List.mem_of_getElem? hx) c2, fun j u hj => hb.cell (c3 j u hj)⟩
theorem IsDv.ck {base : Nat} {cs : List Value} {d : Dv} (h : IsDv base w cs d) (hb : CK w w') : IsDv base w' cs d := by
  obtain ⟨vb, vr, vt, e, h1, h2, h3⟩ := h
  exact ⟨vb, vr, vt, e, h1.ck hb (fun _ _ _ h => h), h2.ck hb (fun _ _ _ h => h), h3.ck hb (fun _ _ _ h => h)⟩
theorem Devs.ck {base : Nat} {v : Value} (h : Devs base w v ds) (hb : CK w w') : Devs base w' v ds := SlAt.ck h hb (fun _ _ _ h => h.ck hb)
theorem Links.ck {base : Nat} {v : Value} (h : Links base w v ls) (hb : CK w w') : Links base w' v ls := SlAt.ck h hb (fun _ _ _ h => h)
theorem HK.refl (m : Mp) (w : World) : HK m w w := ⟨rfl, rfl, rfl, Nat.le_refl _, fun _ _ _ _ _ => rfl⟩
theorem HK.trans (h : HK m w w') (g : HK m w' w'') : HK m w w'' :=
  ⟨g.os.trans h.os, g.tape.trans h.tape, g.output.trans h.output, Nat.le_trans h.size g.size, fun b hb h1 h2 h3 => (g.block b (Nat.lt_of_lt_of_le hb h.size) h1 h2 h3).trans (h.block b hb h1 h2 h3)⟩
theorem HK.of_below (h : Below w.heap.size w w') : HK m w w' := ⟨h.os, h.tape, h.output, h.size, fun b hb _ _ _ => h.block b hb⟩
theorem mapTurned_size {b : Nat} (h : w.mapTurned w' b) : w'.heap.size = w.heap.size := by
  obtain ⟨es, c, es', c', hb, rfl⟩ := h
  simp [ChangeMaps.setBlock]
theorem mapTurned_block {b x : Nat} (h : w.mapTurned w' b) (hx : x ≠ b) : w'.heap[x]? = w.heap[x]? := by
  have g := h.grown
  by_cases hl : x < w.heap.size
  · exact g.block x hl (by simpa using hx)
  · rw [Array.getElem?_eq_none (xs := w'.heap) (by rw [mapTurned_size h]; omega), Array.getElem?_eq_none (xs := w.heap) (by omega)]
theorem HK.of_turned {b : Nat} (h : w.mapTurned w' b) (hb : b = m.f ∨ b = m.o ∨ b = m.k) : HK m w w' := by
  have g := h.grown
  exact ⟨g.os, g.tape, g.output, g.size, fun x hx h1 h2 h3 => mapTurned_block h (by omega)⟩
theorem CK.of_turned {b : Nat} (h : w.mapTurned w' b) : CK w w' := by
  refine ⟨by rw [mapTurned_size h]; omega, fun x hx hl => mapTurned_block h (fun e => ?_)⟩
  obtain ⟨es, c, _, _, hb, _⟩ := h
  exact hx es c (by rw [e]; exact hb)
theorem MemAt.ck (h : MemAt w m ds ls n M) (hk : HK m w w') : CK w w' := by
  refine ⟨hk.size, fun b hb hl => hk.block b hl ?_ ?_ ?_⟩
  · rintro rfl
    obtain ⟨es, c, e⟩ := h.fl.isMap
    exact hb es c e
  · rintro rfl
    obtain ⟨es, c, e⟩ := h.ow.isMap
    exact hb es c e
  · rintro rfl
    obtain ⟨es, c, e⟩ := h.bk.isMap
    exact hb es c e
theorem MemAt.notMap (h : MemAt w m ds ls n M) : ∀ es c, w.heap[m.B]? ≠ some (.map es c) := fun es c e => by
  rw [h.blk.1] at e
  cases e
theorem MemAt.lt (h : MemAt w m ds ls n M) : m.B < w.heap.size := (Array.getElem?_eq_some_iff.1 h.blk.1).1
/-- A memory stays where all stays. -/
theorem MemAt.below (h : MemAt w m ds ls n M) (hb : Below w.heap.size w w') : MemAt w' m ds ls n M :=
  ⟨⟨(hb.block _ h.lt).trans h.blk.1, h.blk.2⟩, (h.devs.below hb).mono hb.size, (h.links.below hb).mono hb.size, h.fl.same (hb.block _ h.fl.lt), h.ow.same (hb.block _ h.ow.lt), h.bk.same (hb.block _ h.bk.lt), h.fo, h.fk, h.ok⟩
theorem MemAt.drew (h : MemAt w m ds ls n M) : MemAt w.drew m ds ls n M := ⟨h.blk, h.devs, h.links, h.fl, h.ow, h.bk, h.fo, h.fk, h.ok⟩
theorem MemAt.alloc (h : MemAt w m ds ls n M) (o : Obj) : MemAt (w.alloc o) m ds ls n M := h.below ((Below.refl _ _).alloc (Nat.le_refl _) o)
theorem MemAt.mono (h : MemAt w m ds ls n M) {n' : Nat} (hn : n ≤ n') : MemAt w m ds ls n' M := ⟨h.blk, h.devs, h.links, h.fl.mono hn, h.ow.mono hn, h.bk.mono hn, h.fo, h.fk, h.ok⟩
/-- A memory stays where its own blocks do, and the others' cells. -/
theorem MemAt.kept (h : MemAt w m ds ls n M) (hc : CK w w') (h1 : w'.heap[m.f]? = w.heap[m.f]?) (h2 : w'.heap[m.o]? = w.heap[m.o]?) (h3 : w'.heap[m.k]? = w.heap[m.k]?) : MemAt w' m ds ls n M :=
  ⟨⟨(hc.block _ h.notMap h.lt).trans h.blk.1, h.blk.2⟩, (h.devs.ck hc).mono hc.size, (h.links.ck hc).mono hc.size, h.fl.same h1, h.ow.same h2, h.bk.same h3, h.fo, h.fk, h.ok⟩
/-- A memory stays while another one learns. -/
theorem MemAt.other {m' : Mp} {ds' : List Dv} {ls' : List Lk} {n' : Nat} {M' : Mnd} (h : MemAt w m ds ls n M) (h' : MemAt w m' ds' ls' n' M') (hk : HK m' w w') (hd : ∀ x, (x = m.f ∨ x = m.o ∨ x = m.k) → x ≠ m'.f ∧ x ≠ m'.o ∧ x ≠ m'.k) : MemAt w' m ds ls n M :=
  h.kept (h'.ck hk) (hk.block _ h.fl.lt (hd _ (by simp)).1 (hd _ (by simp)).2.1 (hd _ (by simp)).2.2) (hk.block _ h.ow.lt (hd _ (by simp)).1 (hd _ (by simp)).2.1 (hd _ (by simp)).2.2) (hk.block _ h.bk.lt (hd _ (by simp)).1 (hd _ (by simp)).2.1 (hd _ (by simp)).2.2)
/-- A memory's five cells. -/
theorem MemAt.cells (h : MemAt w m ds ls n M) : w.cell? ⟨m.B, m.z, none⟩ = some (.slice m.A ds.length m.cap) ∧ w.cell? ⟨m.B, m.z + 1, none⟩ = some (.slice m.L ls.length m.cap') ∧ w.cell? ⟨m.B, m.z + 2, none⟩ = some (.map (some m.f)) ∧ w.cell? ⟨m.B, m.z + 3, none⟩ = some (.map (some m.o)) ∧ w.cell? ⟨m.B, m.z + 4, none⟩ = some (.map (some m.k)) := by
  have hz := h.blk.2
  refine ⟨?_, ?_, ?_, ?_, ?_⟩ <;> (rw [cell_of_row w m.B _ _ _ _ h.blk.1, List.getElem?_toArray, ← hz, List.getElem?_append_right (by omega)]; simp)
end
theorem uMf : Try.prog.underlying 67 = some (.map 107 108) := by kernel_rfl
theorem uMo : Try.prog.underlying 68 = some (.map 117 112) := by kernel_rfl
theorem uMk : Try.prog.underlying 69 = some (.map 107 3) := by kernel_rfl
section
variable {w : World} {m : Mp} {ds : List Dv} {ls : List Lk} {n : Nat} {M : Mnd}
/-- What a memory knows is looked up. -/
theorem MemAt.lookF (h : MemAt w m ds ls n M) {i : Int} {p : Pk} (hi : i64ok i) (hp : p.ok) : (Instr.lookup 67 (.map (some m.f)) (.agg #[.int .i64 i, .int .i64 p.s, .int .i64 p.d, .int .i64 p.sp, .int .i64 p.dp]) true).run Try.prog w = .ok (.tuple #[.agg #[], .bool (M.fl (i, p)).isSome]) w := h.fl.look uMf (x := (i, p)) ⟨hi, hp⟩
theorem MemAt.lookO (h : MemAt w m ds ls n M) {i k : Int} (hi : i64ok i) (hk : i64ok k) : (Instr.lookup 68 (.map (some m.o)) (.agg #[.int .i64 i, .int .i64 k]) true).run Try.prog w = .ok (.tuple #[.agg #[.int .i64 ((M.ow (i, k)).getD (0, 0)).1, .int .i64 ((M.ow (i, k)).getD (0, 0)).2], .bool (M.ow (i, k)).isSome]) w := h.ow.look uMo (x := (i, k)) ⟨hi, hk⟩
theorem MemAt.lookB (h : MemAt w m ds ls n M) {i : Int} {p : Pk} (hi : i64ok i) (hp : p.ok) : (Instr.lookup 69 (.map (some m.k)) (.agg #[.int .i64 i, .int .i64 p.s, .int .i64 p.d, .int .i64 p.sp, .int .i64 p.dp]) true).run Try.prog w = .ok (.tuple #[.int .i64 ((M.bk (i, p)).getD 0), .bool (M.bk (i, p)).isSome]) w := h.bk.look uMk (x := (i, p)) ⟨hi, hp⟩
end
end Go.Proofs.Ythioedgnambomaa
