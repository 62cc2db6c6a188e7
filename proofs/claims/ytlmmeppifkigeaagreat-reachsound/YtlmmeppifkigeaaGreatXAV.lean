/-
  XAV.
-/
import Derived.Test.YtlmmeppifkigeaaGreatXAU
import Derived.Deep.DeepCutAuto
set_option maxHeartbeats 8000000
set_option maxRecDepth 100000
namespace Go.Proofs.YtlmmeppifkigeaaGreat
open Go.RowKit Go.Maps
section
variable {base q a M : Nat} {w0 w : World} {ns : List Nd} {er : Int}
abbrev Bx := Nat × Array Value × TypeId
structure Qs (base q a M : Nat) (w0 T : World) (ns : List Nd) (er : Int) (g : Nat) (fs : List (Nat × (Env -> Bool))) (bx : List Bx) (W : World) : Prop where
 st : ∃ ns1 er1, Stt base q a M w0 T T ns er g W ns1 er1 ∧ ∀ x ∈ fs, Fn ns1 er1 x.1 x.2
 bz : ∀ b ∈ bx, Bz W b.1 b.2.1 b.2.2 ∧ okT b.2.2
 bT : base <= T.heap.size
variable {T W W' : World} {g g' : Nat} {fs : List (Nat × (Env -> Bool))} {bx : List Bx}
theorem Stt.next {U w1 w2 : World} {ns1 ns2 : List Nd} {er1 er2 : Int} (s : Stt base q a M w0 T U ns er g w1 ns1 er1) (b1 : Bn base q a M w0 w2 ns2 er2) (tf : TF w1 w2) (X : Ext ns1 ns2) (ho : er2 = 0 -> er1 = 0) (hg : Hid (er1 = 0 -> ns2.length <= ns1.length + g' ∧ (er2 ≠ 0 -> 40000 <= ns1.length + g'))) : Stt base q a M w0 T U ns er (g + g') w2 ns2 er2 := by
 refine ⟨b1, s.tf.trans tf, s.tt.trans tf, s.ext.trans X, s.wf, fun e => s.ok (ho e), fun e0 => ?_⟩
 have a1 := s.fit.out e0
 have a2 := b1.ar.le
 by_cases e1 : er1 = 0
 ·have a3 := hg.out e1
  refine ⟨by omega, fun e2 => ?_⟩
  have := a3.2 e2
  omega
 ·have := a1.2 e1
  exact ⟨by omega, fun _ => by omega⟩
theorem Qs.start (h : Bn base q a M w0 T ns er) (hf : ∀ x ∈ fs, Fn ns er x.1 x.2) : Qs base q a M w0 T ns er 0 fs [] T := ⟨⟨ns, er, Stt.start h (TF.refl _), hf⟩, (fun b hb => by cases hb), h.size⟩
theorem Qs.call {F : FuncId} {args : Array Value} {φ : Env -> Bool} (s : Qs base q a M w0 T ns er g fs bx W) (c : ∀ ns1 er1, Bn base q a M w0 W ns1 er1 -> (∀ x ∈ fs, Fn ns1 er1 x.1 x.2) -> Calls Tryz.prog F args W (BOut base q a M w0 W ns1 er1 g' φ)) :
  Calls Tryz.prog F args W fun e w' => ∃ f : Nat, e = .returned (.int .i64 (f : Int)) ∧ Qs base q a M w0 T ns er (g + g') ((f, φ) :: fs) bx w' := by
 obtain ⟨ns1, er1, s1, hf⟩ := s.st
 refine (c ns1 er1 s1.bn hf).mono fun e w2 B => ?_
 obtain ⟨f, ns2, er2, rfl, ⟨b1, tf⟩, X, ho, h1, hg⟩ := B
 refine ⟨f, rfl, ⟨ns2, er2, s1.next b1 tf X ho hg, fun x hx => ?_⟩, fun b hb => ?_, s.bT⟩
 ·rcases List.mem_cons.1 hx with rfl | hx
  ·exact h1
  ·exact (hf x hx).step s1.bn.ar.wf b1.ar.wf X ho
 ·obtain ⟨k1, k2⟩ := s.bz b hb
  exact ⟨tf _ _ _ k1 k2, k2⟩
theorem Qs.grow (s : Qs base q a M w0 T ns er g fs bx W) (hb : Below W.heap.size W W') : Qs base q a M w0 T ns er g fs bx W' := by
 obtain ⟨ns1, er1, s1, hf⟩ := s.st
 exact ⟨⟨ns1, er1, s1.grow hb, hf⟩, fun b hb' => ⟨(hb.block _ (s.bz b hb').1.lt).trans (s.bz b hb').1, (s.bz b hb').2⟩, s.bT⟩
theorem Qs.drew (s : Qs base q a M w0 T ns er g fs bx W) : Qs base q a M w0 T ns er g fs bx W.drew := s.grow (Below.refl _ _).drew
theorem Qs.box (s : Qs base q a M w0 T ns er g fs bx W) {k : Nat} {c : Array Value} {t : TypeId} (hk : k = W.heap.size) (ht : okT t) : Qs base q a M w0 T ns er g fs ((k, c, t) :: bx) (W.alloc (.cells c t)) := by
 have s2 := s.grow ((Below.refl _ _).alloc (Nat.le_refl _) (.cells c t))
 refine ⟨s2.st, fun b hb => ?_, s.bT⟩
 rcases List.mem_cons.1 hb with rfl | hb
 ·exact ⟨Bz.new W _ _ _ hk, ht⟩
 ·exact s2.bz b hb
theorem Qs.boxed (s : Qs base q a M w0 T ns er g fs bx W) {k : Nat} {c : Array Value} {t : TypeId} (hk : Bz W k c t) (ht : okT t) : Qs base q a M w0 T ns er g fs ((k, c, t) :: bx) W :=
 ⟨s.st, fun b hb => by
  rcases List.mem_cons.1 hb with rfl | hb
  ·exact ⟨hk, ht⟩
  ·exact s.bz b hb, s.bT⟩
theorem Qs.set {k j : Nat} {c : Array Value} {t : TypeId} (s : Qs base q a M w0 T ns er g fs ((k, c, t) :: bx) W) (hT : T.heap.size <= k) (hk : ∀ b ∈ bx, b.1 ≠ k) (u : Value) : Qs base q a M w0 T ns er g fs ((k, c.setIfInBounds j u, t) :: bx) (W.setCell ⟨k, j, none⟩ u) := by
 obtain ⟨ns1, er1, s1, hf⟩ := s.st
 obtain ⟨z, ok⟩ := s.bz (k, c, t) List.mem_cons_self
 have hF : ∀ b, b ≠ k -> (W.setCell ⟨k, j, none⟩ u).heap[b]? = W.heap[b]? := fun b hb => Below.heap_setCell W ⟨k, j, none⟩ u b hb
 have L := (s1.bn.ar.outBox z ok.1 ok.2.1).out
 have hq : q ≠ k := fun e => by
  have hz := s1.bn.blk
  unfold Bz at hz z
  dsimp only at z
  rw [e, z] at hz
  simp only [Option.some.injEq, Obj.cells.injEq] at hz
  exact ok.2.2 hz.2.1
 have tf : TF T (W.setCell ⟨k, j, none⟩ u) := fun i c' t' hb ht => (hF i (fun e => by have := hb.lt; omega)).trans (s1.tf i c' t' hb ht)
 have hbk : base <= k := Nat.le_trans s.bT hT
 refine ⟨⟨ns1, er1, ⟨⟨s1.bn.ar.same (hF _ (fun e => L.not (Or.inl e.symm))) (hF _ (fun e => L.not (Or.inr (Or.inr (Or.inl e.symm))))) (hF _ (fun e => L.ne e.symm)), (hF _ hq).trans s1.bn.blk, s1.bn.lo, s1.bn.er6, s1.bn.bel.setCell (p := ⟨k, j, none⟩) hbk _⟩, tf, tf, s1.ext, s1.wf, s1.ok, s1.fit⟩, hf⟩, fun b hb => ?_, s.bT⟩
 rcases List.mem_cons.1 hb with rfl | hb
 ·exact ⟨z.set (j := j) u, ok⟩
 ·obtain ⟨k1, k2⟩ := s.bz b (List.mem_cons_of_mem _ hb)
  exact ⟨(hF _ (hk b hb)).trans k1, k2⟩
theorem Qs.fn (s : Qs base q a M w0 T ns er g fs bx W) {f : Nat} {φ : Env -> Bool} (hf : (f, φ) ∈ fs) {U : World} (hU : TF U T) : BOut base q a M w0 U ns er g φ (.returned (.int .i64 (f : Int))) W := by
 obtain ⟨ns1, er1, s1, h1⟩ := s.st
 exact ⟨f, ns1, er1, rfl, ⟨s1.bn, hU.trans s1.tt⟩, s1.ext, s1.ok, h1 _ hf, s1.fit⟩
end
section
variable {base q a M : Nat} {w0 w : World} {ns : List Nd} {er : Int}
theorem Qs.never {T W : World} {g : Nat} {fs : List (Nat × (Env -> Bool))} {bx : List Bx} (s : Qs base q a M w0 T ns er g fs bx W) : Qs base q a M w0 T ns er g ((0, fun _ => false) :: fs) bx W := by
 obtain ⟨ns1, er1, s1, hf⟩ := s.st
 refine ⟨⟨ns1, er1, s1, fun x hx => ?_⟩, s.bz, s.bT⟩
 rcases List.mem_cons.1 hx with rfl | hx
 ·exact ⟨Nat.lt_of_lt_of_le (by omega) s1.bn.ar.wf.len, fun _ x => ev0 _ x⟩
 ·exact hf x hx
def orP (φ0 φ1 φ2 φ3 : Env -> Bool) : Nat -> Env -> Bool
 | 0 => fun _ => false
 | 1 => fun x => false || φ0 x
 | 2 => fun x => (false || φ0 x) || φ1 x
 | 3 => fun x => ((false || φ0 x) || φ1 x) || φ2 x
 | _ => fun x => (((false || φ0 x) || φ1 x) || φ2 x) || φ3 x
def RtB (base q a M : Nat) (w0 : World) (v : Value) (pt : Int) (g : Nat) (χ : Env -> Bool) : Prop :=
 ∀ w ns er, Bn base q a M w0 w ns er -> Calls Tryz.prog 142 #[.pointer (some ⟨q, 0, none⟩), v, .int .i64 pt] w (BOut base q a M w0 w ns er g χ)
theorem route_b (h : Bn base q a M w0 w ns er) {nm : ByteArray} {kd ad pl : Int} {Ab A At : Option Addr} {nb cb n cap nt ct : Nat} {f0 f1 f2 f3 : Nat} {pt : Int} {gO gT gA1 gR gA2 : Nat} {φ0 φ1 φ2 φ3 χt χ : Env -> Bool} (OB : ∀ k φ, (k = 0 ∧ φ = φ0) ∨ (k = 1 ∧ φ = φ1) ∨ (k = 2 ∧ φ = φ2) ∨ (k = 3 ∧ φ = φ3) -> OrB base q a M w0 (orP φ0 φ1 φ2 φ3 k) φ gO) (TB : RtB base q a M w0 (.slice At nt ct) pt gT χt) (A1 : AndB base q a M w0 (orP φ0 φ1 φ2 φ3 4) χt gA1) (RB : RulB base q a M w0 (.slice A n cap) gR χ) (A2 : AndB base q a M w0 (fun x => orP φ0 φ1 φ2 φ3 4 x && χt x) χ gA2) (hf0 : Fn ns er f0 φ0) (hf1 : Fn ns er f1 φ1) (hf2 : Fn ns er f2 φ2) (hf3 : Fn ns er f3 φ3) :
  Calls Tryz.prog 116 #[.pointer (some ⟨q, 0, none⟩), .agg #[.string nm, .int .i64 kd, .int .i64 ad, .int .u8 pl, .slice Ab nb cb, .slice A n cap, .slice At nt ct], .int .i64 pt, .agg #[.int .i64 (f0 : Int), .int .i64 (f1 : Int), .int .i64 (f2 : Int), .int .i64 (f3 : Int)]] w (BOut base q a M w0 w ns er (4 * gO + gT + gA1 + gR + gA2) (fun x => (fun x => orP φ0 φ1 φ2 φ3 4 x && χt x) x && χ x)) := by
 have h1 := ((h.alloc (.cells #[.string nm, .int .i64 kd, .int .i64 ad, .int .u8 pl, .slice Ab nb cb, .slice A n cap, .slice At nt ct] 62)).alloc (f4C f0 f1 f2 f3))
 have Z1 : Bz ((w.alloc (.cells #[.string nm, .int .i64 kd, .int .i64 ad, .int .u8 pl, .slice Ab nb cb, .slice A n cap, .slice At nt ct] 62)).alloc (f4C f0 f1 f2 f3)) w.heap.size #[.string nm, .int .i64 kd, .int .i64 ad, .int .u8 pl, .slice Ab nb cb, .slice A n cap, .slice At nt ct] 62 := (Bz.new w _ _ _ rfl).al _
 have Z2 : Bz ((w.alloc (.cells #[.string nm, .int .i64 kd, .int .i64 ad, .int .u8 pl, .slice Ab nb cb, .slice A n cap, .slice At nt ct] 62)).alloc (f4C f0 f1 f2 f3)) (w.heap.size + 1) #[.int .i64 (f0 : Int), .int .i64 (f1 : Int), .int .i64 (f2 : Int), .int .i64 (f3 : Int)] 98 := Bz.new (w.alloc _) _ _ _ (by show _ = (w.heap.push _).size; rw [Array.size_push])
 have tfw : TF w ((w.alloc (.cells #[.string nm, .int .i64 kd, .int .i64 ad, .int .u8 pl, .slice Ab nb cb, .slice A n cap, .slice At nt ct] 62)).alloc (f4C f0 f1 f2 f3)) := tf_two w _ _
 have Q0 : Qs base q a M w0 ((w.alloc (.cells #[.string nm, .int .i64 kd, .int .i64 ad, .int .u8 pl, .slice Ab nb cb, .slice A n cap, .slice At nt ct] 62)).alloc (f4C f0 f1 f2 f3)) ns er 0 ((0, fun _ => false) :: [(f0, φ0), (f1, φ1), (f2, φ2), (f3, φ3)]) [(w.heap.size + 1, #[.int .i64 (f0 : Int), .int .i64 (f1 : Int), .int .i64 (f2 : Int), .int .i64 (f3 : Int)], 98), (w.heap.size, #[.string nm, .int .i64 kd, .int .i64 ad, .int .u8 pl, .slice Ab nb cb, .slice A n cap, .slice At nt ct], 62)] ((w.alloc (.cells #[.string nm, .int .i64 kd, .int .i64 ad, .int .u8 pl, .slice Ab nb cb, .slice A n cap, .slice At nt ct] 62)).alloc (f4C f0 f1 f2 f3)) := (((Qs.start h1 (fs := [(f0, φ0), (f1, φ1), (f2, φ2), (f3, φ3)]) (fun x hx => by
  simp only [List.mem_cons, List.not_mem_nil, or_false] at hx
  rcases hx with rfl | rfl | rfl | rfl
  ·exact hf0
  ·exact hf1
  ·exact hf2
  ·exact hf3)).boxed Z1 (by decide)).boxed Z2 (by decide)).never
 obtain ⟨V, hV⟩ : ∃ V : Nat -> List (Nat × (Env -> Bool)) -> World -> Prop, V = fun g fs W => Qs base q a M w0 ((w.alloc (.cells #[.string nm, .int .i64 kd, .int .i64 ad, .int .u8 pl, .slice Ab nb cb, .slice A n cap, .slice At nt ct] 62)).alloc (f4C f0 f1 f2 f3)) ns er g fs [(w.heap.size + 1, #[.int .i64 (f0 : Int), .int .i64 (f1 : Int), .int .i64 (f2 : Int), .int .i64 (f3 : Int)], 98), (w.heap.size, #[.string nm, .int .i64 kd, .int .i64 ad, .int .u8 pl, .slice Ab nb cb, .slice A n cap, .slice At nt ct], 62)] W := ⟨_, rfl⟩
 have V0 : V (0 * gO) ((0, fun _ => false) :: [(f0, φ0), (f1, φ1), (f2, φ2), (f3, φ3)]) ((w.alloc (.cells #[.string nm, .int .i64 kd, .int .i64 ad, .int .u8 pl, .slice Ab nb cb, .slice A n cap, .slice At nt ct] 62)).alloc (f4C f0 f1 f2 f3)) := by rw [hV, Nat.zero_mul]; exact Q0
 have p0 := Z2.cell 0 (.int .i64 (f0 : Int)) rfl
 have p1 := Z2.cell 1 (.int .i64 (f1 : Int)) rfl
 have p2 := Z2.cell 2 (.int .i64 (f2 : Int)) rfl
 have p3 := Z2.cell 3 (.int .i64 (f3 : Int)) rfl
 have CO : Hid (∀ (k : Nat) (φ : Env -> Bool), (k = 0 ∧ φ = φ0) ∨ (k = 1 ∧ φ = φ1) ∨ (k = 2 ∧ φ = φ2) ∨ (k = 3 ∧ φ = φ3) -> ∀ {fs : List (Nat × (Env -> Bool))} {W : World} (i j : Nat), V (k * gO) fs W -> (i, orP φ0 φ1 φ2 φ3 k) ∈ fs -> (j, φ) ∈ fs -> Calls Tryz.prog 91 #[.pointer (some ⟨q, 0, none⟩), .int .i64 (i : Int), .int .i64 (j : Int)] W fun e w' => ∃ f : Nat, e = .returned (.int .i64 (f : Int)) ∧ V ((k + 1) * gO) ((f, orP φ0 φ1 φ2 φ3 (k + 1)) :: fs) w') := fun k φ hkφ {fs W} i j hq m1 m2 => by
  rw [hV] at hq ⊢
  refine (hq.call fun _ _ b hf => OB k φ hkφ _ _ _ _ _ b (hf _ m1) (hf _ m2)).mono fun e w' ⟨f, e1, e2⟩ => ⟨f, e1, ?_⟩
  have : (fun x => orP φ0 φ1 φ2 φ3 k x || φ x) = orP φ0 φ1 φ2 φ3 (k + 1) := by
   rcases hkφ with ⟨rfl, rfl⟩ | ⟨rfl, rfl⟩ | ⟨rfl, rfl⟩ | ⟨rfl, rfl⟩ <;> rfl
  rw [this] at e2
  rw [Nat.add_mul, Nat.one_mul]
  exact e2
 have HC : Hid (∀ {g : Nat} {fs : List (Nat × (Env -> Bool))} {W : World}, V g fs W -> W.cell? ⟨w.heap.size, 5, none⟩ = some (.slice A n cap) ∧ W.cell? ⟨w.heap.size, 6, none⟩ = some (.slice At nt ct)) := fun {g fs W} hq => by
  rw [hV] at hq
  have k3 := (hq.bz _ (List.mem_cons_of_mem _ List.mem_cons_self)).1
  exact ⟨k3.cell 5 _ rfl, k3.cell 6 _ rfl⟩
 have CT : Hid (∀ {g : Nat} {fs : List (Nat × (Env -> Bool))} {W : World}, V g fs W -> Calls Tryz.prog 142 #[.pointer (some ⟨q, 0, none⟩), .slice At nt ct, .int .i64 pt] W fun e w' => ∃ f : Nat, e = .returned (.int .i64 (f : Int)) ∧ V (g + gT) ((f, χt) :: fs) w') := fun {g fs W} hq => by
  rw [hV] at hq ⊢
  exact hq.call fun _ _ b _ => TB _ _ _ b
 have CR : Hid (∀ {g : Nat} {fs : List (Nat × (Env -> Bool))} {W : World}, V g fs W -> Calls Tryz.prog 143 #[.pointer (some ⟨q, 0, none⟩), .slice A n cap] W fun e w' => ∃ f : Nat, e = .returned (.int .i64 (f : Int)) ∧ V (g + gR) ((f, χ) :: fs) w') := fun {g fs W} hq => by
  rw [hV] at hq ⊢
  exact hq.call fun _ _ b _ => RB _ _ _ b
 have CA : Hid (∀ {g : Nat} {fs : List (Nat × (Env -> Bool))} {W : World} (i j : Nat), V g fs W -> (i, (orP φ0 φ1 φ2 φ3 4)) ∈ fs -> (j, χt) ∈ fs -> Calls Tryz.prog 66 #[.pointer (some ⟨q, 0, none⟩), .int .i64 (i : Int), .int .i64 (j : Int)] W fun e w' => ∃ f : Nat, e = .returned (.int .i64 (f : Int)) ∧ V (g + gA1) ((f, fun x => (orP φ0 φ1 φ2 φ3 4) x && χt x) :: fs) w') := fun {g fs W} i j hq m1 m2 => by
  rw [hV] at hq ⊢
  exact hq.call fun _ _ b hf => A1 _ _ _ _ _ b (hf _ m1) (hf _ m2)
 have CB : Hid (∀ {g : Nat} {fs : List (Nat × (Env -> Bool))} {W : World} (i j : Nat), V g fs W -> (i, (fun x => orP φ0 φ1 φ2 φ3 4 x && χt x)) ∈ fs -> (j, χ) ∈ fs -> Calls Tryz.prog 66 #[.pointer (some ⟨q, 0, none⟩), .int .i64 (i : Int), .int .i64 (j : Int)] W fun e w' => ∃ f : Nat, e = .returned (.int .i64 (f : Int)) ∧ V (g + gA2) ((f, fun x => (fun x => orP φ0 φ1 φ2 φ3 4 x && χt x) x && χ x) :: fs) w') := fun {g fs W} i j hq m1 m2 => by
  rw [hV] at hq ⊢
  exact hq.call fun _ _ b hf => A2 _ _ _ _ _ b (hf _ m1) (hf _ m2)
 have FIN : Hid (∀ {fs : List (Nat × (Env -> Bool))} {W : World} (f : Nat), V (4 * gO + gT + gA1 + gR + gA2) fs W -> (f, (fun x => (fun x => orP φ0 φ1 φ2 φ3 4 x && χt x) x && χ x)) ∈ fs -> BOut base q a M w0 w ns er (4 * gO + gT + gA1 + gR + gA2) (fun x => (fun x => orP φ0 φ1 φ2 φ3 4 x && χt x) x && χ x) (.returned (.int .i64 (f : Int))) W) := fun {fs W} f hq m => by
  rw [hV] at hq
  exact hq.fn m tfw
 have DRW : ∀ {g : Nat} {fs : List (Nat × (Env -> Bool))} {W : World}, V g fs W -> V g fs W.drew := fun {g fs W} hq => by rw [hV] at hq ⊢; exact hq.drew
 clear hV Q0 h1 Z1 Z2 h hf0 hf1 hf2 hf3 tfw OB TB A1 RB A2
 have ix0 : ∀ W : World, (Instr.index 98 (.agg #[.int .i64 (f0 : Int), .int .i64 (f1 : Int), .int .i64 (f2 : Int), .int .i64 (f3 : Int)]) (.int .i64 0)).run Tryz.prog W = .ok (.int .i64 (f0 : Int)) W := fun W => by
  first
   | rfl
   | kernel_rfl
   | (simp [go_sem, Tryz.underlying98])
 have ix1 : ∀ W : World, (Instr.index 98 (.agg #[.int .i64 (f0 : Int), .int .i64 (f1 : Int), .int .i64 (f2 : Int), .int .i64 (f3 : Int)]) (.int .i64 1)).run Tryz.prog W = .ok (.int .i64 (f1 : Int)) W := fun W => by
  first
   | rfl
   | kernel_rfl
   | (simp [go_sem, Tryz.underlying98])
 have ix2 : ∀ W : World, (Instr.index 98 (.agg #[.int .i64 (f0 : Int), .int .i64 (f1 : Int), .int .i64 (f2 : Int), .int .i64 (f3 : Int)]) (.int .i64 2)).run Tryz.prog W = .ok (.int .i64 (f2 : Int)) W := fun W => by
  first
   | rfl
   | kernel_rfl
   | (simp [go_sem, Tryz.underlying98])
 have ix3 : ∀ W : World, (Instr.index 98 (.agg #[.int .i64 (f0 : Int), .int .i64 (f1 : Int), .int .i64 (f2 : Int), .int .i64 (f3 : Int)]) (.int .i64 3)).run Tryz.prog W = .ok (.int .i64 (f3 : Int)) W := fun W => by
  first
   | rfl
   | kernel_rfl
   | (simp [go_sem, Tryz.underlying98])
 generalize hP : orP φ0 φ1 φ2 φ3 = P at *
 have hP0 : P 0 = fun _ => false := by rw [<- hP]; rfl
 rw [<- hP0] at V0
 clear hP hP0
 go_enter Tryz.func116, Tryz.ntmps116
 go_wp2_with fail
 go_loopw [9, 13] (fun v i wr => ∃ (k fa : Nat) (fs : List (Nat × (Env -> Bool))), i = .int .i64 (k : Int) ∧ v = .int .i64 (fa : Int) ∧ k <= 4 ∧ V (k * gO) ((fa, P k) :: fs) wr ∧ Hid ((f0, φ0) ∈ fs ∧ (f1, φ1) ∈ fs ∧ (f2, φ2) ∈ fs ∧ (f3, φ3) ∈ fs)) (fun _ i _ => 4 - (intOf i).toNat)
 case atStart => exact ⟨0, 0, [(f0, φ0), (f1, φ1), (f2, φ2), (f3, φ3)], rfl, rfl, by omega, V0, ⟨(List.Mem.head _), (List.Mem.tail _ (List.Mem.head _)), (List.Mem.tail _ (List.Mem.tail _ (List.Mem.head _))), (List.Mem.tail _ (List.Mem.tail _ (List.Mem.tail _ (List.Mem.head _))))⟩⟩
 case round =>
  clear V0 p0 p1 p2 p3
  obtain ⟨k, fa, fs, rfl, rfl, hk, V1, hm⟩ := hrel
  by_cases hlt : k < 4
  ·have CK : Hid (∃ (fj : Nat) (φ : Env -> Bool), ((k = 0 ∧ fj = f0) ∨ (k = 1 ∧ fj = f1) ∨ (k = 2 ∧ fj = f2) ∨ (k = 3 ∧ fj = f3)) ∧ ((k = 0 ∧ φ = φ0) ∨ (k = 1 ∧ φ = φ1) ∨ (k = 2 ∧ φ = φ2) ∨ (k = 3 ∧ φ = φ3)) ∧ (fj, φ) ∈ fs) := by
    obtain ⟨m0, m1, m2, m3⟩ := hm.out
    have : k = 0 ∨ k = 1 ∨ k = 2 ∨ k = 3 := by omega
    rcases this with rfl | rfl | rfl | rfl
    ·exact ⟨f0, φ0, by simp, by simp, m0⟩
    ·exact ⟨f1, φ1, by simp, by simp, m1⟩
    ·exact ⟨f2, φ2, by simp, by simp, m2⟩
    ·exact ⟨f3, φ3, by simp, by simp, m3⟩
   obtain ⟨fj, φ, hkf, hkφ, mj⟩ := CK.out
   have C1 : Hid (Calls Tryz.prog 91 #[.pointer (some ⟨q, 0, none⟩), .int .i64 (fa : Int), .int .i64 (fj : Int)] wr fun e w' => ∃ f : Nat, e = .returned (.int .i64 (f : Int)) ∧ V ((k + 1) * gO) ((f, P (k + 1)) :: (fa, P k) :: fs) w') := CO.out k φ hkφ fa fj V1 (List.Mem.head _) (List.Mem.tail _ mj)
   have hm' : Hid ((f0, φ0) ∈ (fa, P k) :: fs ∧ (f1, φ1) ∈ (fa, P k) :: fs ∧ (f2, φ2) ∈ (fa, P k) :: fs ∧ (f3, φ3) ∈ (fa, P k) :: fs) := ⟨List.Mem.tail _ hm.out.1, List.Mem.tail _ hm.out.2.1, List.Mem.tail _ hm.out.2.2.1, List.Mem.tail _ hm.out.2.2.2⟩
   clear CO CT CR CA CB FIN DRW HC V1 hm CK hkφ mj
   have hK : k = 0 ∨ k = 1 ∨ k = 2 ∨ k = 3 := by omega
   rcases hkf with ⟨rfl, rfl⟩ | ⟨rfl, rfl⟩ | ⟨rfl, rfl⟩ | ⟨rfl, rfl⟩
   all_goals
    clear hK
    go_wp2_with fail
    with_reducible refine C1.out.mono ?_
    rintro e w2 ⟨fx, rfl, V2⟩
    go_wp2_with fail
    go_roundw
    case rel => first | exact ⟨1, fx, _, rfl, rfl, by decide, V2, hm'⟩ | exact ⟨2, fx, _, rfl, rfl, by decide, V2, hm'⟩ | exact ⟨3, fx, _, rfl, rfl, by decide, V2, hm'⟩ | exact ⟨4, fx, _, rfl, rfl, by decide, V2, hm'⟩
    case measure => simp [intOf]
  ·obtain rfl : k = 4 := by omega
   have V2 := DRW V1
   clear CO V1 hm hlt hk
   go_wp2_with fail
   go_region_held3 (fun W => W.cell? ⟨w.heap.size, 5, none⟩ = some (.slice A n cap) ∧ W.cell? ⟨w.heap.size, 6, none⟩ = some (.slice At nt ct)) (exact HC.out (by assumption))
    ((first
      | (go_at_call 142; (with_reducible refine (CT.out V2).mono ?_); rintro e w3 ⟨fr, rfl, V3⟩; skip)
      | (go_at_call 66; (with_reducible refine (CA.out _ _ V3 (List.Mem.tail _ (List.Mem.head _)) (List.Mem.head _)).mono ?_); rintro e w4 ⟨fy, rfl, V4⟩; skip)
      | (go_at_call 143; (with_reducible refine (CR.out V4).mono ?_); rintro e w5 ⟨fu, rfl, V5⟩; skip)
      | (go_at_call 66; (with_reducible refine (CB.out _ _ V5 (List.Mem.tail _ (List.Mem.head _)) (List.Mem.head _)).mono ?_); rintro e w6 ⟨fz, rfl, V6⟩; have FF := FIN.out _ V6 (List.Mem.head _))))
   all_goals
    go_wp2_with fail
    go_ret
    exact FF
end
section
variable {base q a M : Nat} {w0 w : World} {ns : List Nd} {er : Int}
theorem send_route (h : Bn base q a M w0 w ns er) {nm : ByteArray} {ad pl : Int} {Ab A At : Option Addr} {nb cb n cap nt ct : Nat} {f0 f1 f2 f3 : Nat} {pt : Int} {g : Nat} {ψ : Env -> Bool} (C : ∀ W, Bn base q a M w0 W ns er -> Calls Tryz.prog 116 #[.pointer (some ⟨q, 0, none⟩), .agg #[.string nm, .int .i64 2, .int .i64 ad, .int .u8 pl, .slice Ab nb cb, .slice A n cap, .slice At nt ct], .int .i64 pt, .agg #[.int .i64 (f0 : Int), .int .i64 (f1 : Int), .int .i64 (f2 : Int), .int .i64 (f3 : Int)]] W (BOut base q a M w0 W ns er g ψ)) :
  Calls Tryz.prog 92 #[.pointer (some ⟨q, 0, none⟩), .agg #[.string nm, .int .i64 2, .int .i64 ad, .int .u8 pl, .slice Ab nb cb, .slice A n cap, .slice At nt ct], .int .i64 pt, .agg #[.int .i64 (f0 : Int), .int .i64 (f1 : Int), .int .i64 (f2 : Int), .int .i64 (f3 : Int)]] w (BOut base q a M w0 w ns er g ψ) := by
 have h1 := ((h.alloc (.cells #[.string nm, .int .i64 2, .int .i64 ad, .int .u8 pl, .slice Ab nb cb, .slice A n cap, .slice At nt ct] 62)).alloc (f4C f0 f1 f2 f3))
 have Z1 : Bz ((w.alloc (.cells #[.string nm, .int .i64 2, .int .i64 ad, .int .u8 pl, .slice Ab nb cb, .slice A n cap, .slice At nt ct] 62)).alloc (f4C f0 f1 f2 f3)) w.heap.size #[.string nm, .int .i64 2, .int .i64 ad, .int .u8 pl, .slice Ab nb cb, .slice A n cap, .slice At nt ct] 62 := (Bz.new w _ _ _ rfl).al _
 have Z2 : Bz ((w.alloc (.cells #[.string nm, .int .i64 2, .int .i64 ad, .int .u8 pl, .slice Ab nb cb, .slice A n cap, .slice At nt ct] 62)).alloc (f4C f0 f1 f2 f3)) (w.heap.size + 1) #[.int .i64 (f0 : Int), .int .i64 (f1 : Int), .int .i64 (f2 : Int), .int .i64 (f3 : Int)] 98 := Bz.new (w.alloc _) _ _ _ (by show _ = (w.heap.push _).size; rw [Array.size_push])
 have C1 : Hid (Calls Tryz.prog 116 #[.pointer (some ⟨q, 0, none⟩), .agg #[.string nm, .int .i64 2, .int .i64 ad, .int .u8 pl, .slice Ab nb cb, .slice A n cap, .slice At nt ct], .int .i64 pt, .agg #[.int .i64 (f0 : Int), .int .i64 (f1 : Int), .int .i64 (f2 : Int), .int .i64 (f3 : Int)]] ((w.alloc (.cells #[.string nm, .int .i64 2, .int .i64 ad, .int .u8 pl, .slice Ab nb cb, .slice A n cap, .slice At nt ct] 62)).alloc (f4C f0 f1 f2 f3)) fun e w' => ∃ f : Nat, e = .returned (.int .i64 (f : Int)) ∧ BOut base q a M w0 w ns er g ψ (.returned (.int .i64 (f : Int))) w') := (C _ h1).mono fun e w' B => by
  obtain ⟨f, ns1, er1, rfl, r⟩ := id B
  exact ⟨f, rfl, B.from (tf_two w _ _)⟩
 have d0 := Z1.cell 0 (.string nm) rfl
 have d1 := Z1.cell 1 (.int .i64 2) rfl
 have d2 := Z1.cell 2 (.int .i64 ad) rfl
 have d3 := Z1.cell 3 (.int .u8 pl) rfl
 have d4 := Z1.cell 4 (.slice Ab nb cb) rfl
 have d5 := Z1.cell 5 (.slice A n cap) rfl
 have d6 := Z1.cell 6 (.slice At nt ct) rfl
 have p0 := Z2.cell 0 (.int .i64 (f0 : Int)) rfl
 have p1 := Z2.cell 1 (.int .i64 (f1 : Int)) rfl
 have p2 := Z2.cell 2 (.int .i64 (f2 : Int)) rfl
 have p3 := Z2.cell 3 (.int .i64 (f3 : Int)) rfl
 clear h h1 Z1 Z2 C
 go_enter Tryz.func92, Tryz.ntmps92
 go_wp2_with fail
 with_reducible refine C1.out.mono ?_
 rintro e w2 ⟨fx, rfl, FF⟩
 go_wp2_with fail
 go_ret
 exact FF
theorem send_ask (h : Bn base q a M w0 w ns er) {nm : ByteArray} {ad pl : Int} {Ab A At : Option Addr} {nb cb n cap nt ct : Nat} {f0 f1 f2 f3 : Nat} {pt : Int} (hpt : pt = 1) {g : Nat} {ψ : Env -> Bool} (C : ∀ W, Bn base q a M w0 W ns er -> Calls Tryz.prog 117 #[.pointer (some ⟨q, 0, none⟩), .agg #[.string nm, .int .i64 3, .int .i64 ad, .int .u8 pl, .slice Ab nb cb, .slice A n cap, .slice At nt ct], .agg #[.int .i64 (f0 : Int), .int .i64 (f1 : Int), .int .i64 (f2 : Int), .int .i64 (f3 : Int)]] W (BOut base q a M w0 W ns er g ψ)) :
  Calls Tryz.prog 92 #[.pointer (some ⟨q, 0, none⟩), .agg #[.string nm, .int .i64 3, .int .i64 ad, .int .u8 pl, .slice Ab nb cb, .slice A n cap, .slice At nt ct], .int .i64 pt, .agg #[.int .i64 (f0 : Int), .int .i64 (f1 : Int), .int .i64 (f2 : Int), .int .i64 (f3 : Int)]] w (BOut base q a M w0 w ns er g ψ) := by
 subst hpt
 have h1 := ((h.alloc (.cells #[.string nm, .int .i64 3, .int .i64 ad, .int .u8 pl, .slice Ab nb cb, .slice A n cap, .slice At nt ct] 62)).alloc (f4C f0 f1 f2 f3))
 have Z1 : Bz ((w.alloc (.cells #[.string nm, .int .i64 3, .int .i64 ad, .int .u8 pl, .slice Ab nb cb, .slice A n cap, .slice At nt ct] 62)).alloc (f4C f0 f1 f2 f3)) w.heap.size #[.string nm, .int .i64 3, .int .i64 ad, .int .u8 pl, .slice Ab nb cb, .slice A n cap, .slice At nt ct] 62 := (Bz.new w _ _ _ rfl).al _
 have Z2 : Bz ((w.alloc (.cells #[.string nm, .int .i64 3, .int .i64 ad, .int .u8 pl, .slice Ab nb cb, .slice A n cap, .slice At nt ct] 62)).alloc (f4C f0 f1 f2 f3)) (w.heap.size + 1) #[.int .i64 (f0 : Int), .int .i64 (f1 : Int), .int .i64 (f2 : Int), .int .i64 (f3 : Int)] 98 := Bz.new (w.alloc _) _ _ _ (by show _ = (w.heap.push _).size; rw [Array.size_push])
 have C1 : Hid (Calls Tryz.prog 117 #[.pointer (some ⟨q, 0, none⟩), .agg #[.string nm, .int .i64 3, .int .i64 ad, .int .u8 pl, .slice Ab nb cb, .slice A n cap, .slice At nt ct], .agg #[.int .i64 (f0 : Int), .int .i64 (f1 : Int), .int .i64 (f2 : Int), .int .i64 (f3 : Int)]] ((w.alloc (.cells #[.string nm, .int .i64 3, .int .i64 ad, .int .u8 pl, .slice Ab nb cb, .slice A n cap, .slice At nt ct] 62)).alloc (f4C f0 f1 f2 f3)) fun e w' => ∃ f : Nat, e = .returned (.int .i64 (f : Int)) ∧ BOut base q a M w0 w ns er g ψ (.returned (.int .i64 (f : Int))) w') := (C _ h1).mono fun e w' B => by
  obtain ⟨f, ns1, er1, rfl, r⟩ := id B
  exact ⟨f, rfl, B.from (tf_two w _ _)⟩
 have d0 := Z1.cell 0 (.string nm) rfl
 have d1 := Z1.cell 1 (.int .i64 3) rfl
 have d2 := Z1.cell 2 (.int .i64 ad) rfl
 have d3 := Z1.cell 3 (.int .u8 pl) rfl
 have d4 := Z1.cell 4 (.slice Ab nb cb) rfl
 have d5 := Z1.cell 5 (.slice A n cap) rfl
 have d6 := Z1.cell 6 (.slice At nt ct) rfl
 have p0 := Z2.cell 0 (.int .i64 (f0 : Int)) rfl
 have p1 := Z2.cell 1 (.int .i64 (f1 : Int)) rfl
 have p2 := Z2.cell 2 (.int .i64 (f2 : Int)) rfl
 have p3 := Z2.cell 3 (.int .i64 (f3 : Int)) rfl
 clear h h1 Z1 Z2 C
 go_enter Tryz.func92, Tryz.ntmps92
 go_wp2_with fail
 with_reducible refine C1.out.mono ?_
 rintro e w2 ⟨fx, rfl, FF⟩
 go_wp2_with fail
 go_ret
 exact FF
theorem send_answer (h : Bn base q a M w0 w ns er) {nm : ByteArray} {ad pl : Int} {Ab A At : Option Addr} {nb cb n cap nt ct : Nat} {f0 f1 f2 f3 : Nat} {pt : Int} (hpt : ¬ pt = 1) {g : Nat} {ψ : Env -> Bool} (C : ∀ W, Bn base q a M w0 W ns er -> Calls Tryz.prog 118 #[.pointer (some ⟨q, 0, none⟩), .agg #[.string nm, .int .i64 3, .int .i64 ad, .int .u8 pl, .slice Ab nb cb, .slice A n cap, .slice At nt ct], .agg #[.int .i64 (f0 : Int), .int .i64 (f1 : Int), .int .i64 (f2 : Int), .int .i64 (f3 : Int)]] W (BOut base q a M w0 W ns er g ψ)) :
  Calls Tryz.prog 92 #[.pointer (some ⟨q, 0, none⟩), .agg #[.string nm, .int .i64 3, .int .i64 ad, .int .u8 pl, .slice Ab nb cb, .slice A n cap, .slice At nt ct], .int .i64 pt, .agg #[.int .i64 (f0 : Int), .int .i64 (f1 : Int), .int .i64 (f2 : Int), .int .i64 (f3 : Int)]] w (BOut base q a M w0 w ns er g ψ) := by
 have hp1 : (pt == 1) = false := by simpa using hpt
 have h1 := ((h.alloc (.cells #[.string nm, .int .i64 3, .int .i64 ad, .int .u8 pl, .slice Ab nb cb, .slice A n cap, .slice At nt ct] 62)).alloc (f4C f0 f1 f2 f3))
 have Z1 : Bz ((w.alloc (.cells #[.string nm, .int .i64 3, .int .i64 ad, .int .u8 pl, .slice Ab nb cb, .slice A n cap, .slice At nt ct] 62)).alloc (f4C f0 f1 f2 f3)) w.heap.size #[.string nm, .int .i64 3, .int .i64 ad, .int .u8 pl, .slice Ab nb cb, .slice A n cap, .slice At nt ct] 62 := (Bz.new w _ _ _ rfl).al _
 have Z2 : Bz ((w.alloc (.cells #[.string nm, .int .i64 3, .int .i64 ad, .int .u8 pl, .slice Ab nb cb, .slice A n cap, .slice At nt ct] 62)).alloc (f4C f0 f1 f2 f3)) (w.heap.size + 1) #[.int .i64 (f0 : Int), .int .i64 (f1 : Int), .int .i64 (f2 : Int), .int .i64 (f3 : Int)] 98 := Bz.new (w.alloc _) _ _ _ (by show _ = (w.heap.push _).size; rw [Array.size_push])
 have C1 : Hid (Calls Tryz.prog 118 #[.pointer (some ⟨q, 0, none⟩), .agg #[.string nm, .int .i64 3, .int .i64 ad, .int .u8 pl, .slice Ab nb cb, .slice A n cap, .slice At nt ct], .agg #[.int .i64 (f0 : Int), .int .i64 (f1 : Int), .int .i64 (f2 : Int), .int .i64 (f3 : Int)]] ((w.alloc (.cells #[.string nm, .int .i64 3, .int .i64 ad, .int .u8 pl, .slice Ab nb cb, .slice A n cap, .slice At nt ct] 62)).alloc (f4C f0 f1 f2 f3)) fun e w' => ∃ f : Nat, e = .returned (.int .i64 (f : Int)) ∧ BOut base q a M w0 w ns er g ψ (.returned (.int .i64 (f : Int))) w') := (C _ h1).mono fun e w' B => by
  obtain ⟨f, ns1, er1, rfl, r⟩ := id B
  exact ⟨f, rfl, B.from (tf_two w _ _)⟩
 have d0 := Z1.cell 0 (.string nm) rfl
 have d1 := Z1.cell 1 (.int .i64 3) rfl
 have d2 := Z1.cell 2 (.int .i64 ad) rfl
 have d3 := Z1.cell 3 (.int .u8 pl) rfl
 have d4 := Z1.cell 4 (.slice Ab nb cb) rfl
 have d5 := Z1.cell 5 (.slice A n cap) rfl
 have d6 := Z1.cell 6 (.slice At nt ct) rfl
 have p0 := Z2.cell 0 (.int .i64 (f0 : Int)) rfl
 have p1 := Z2.cell 1 (.int .i64 (f1 : Int)) rfl
 have p2 := Z2.cell 2 (.int .i64 (f2 : Int)) rfl
 have p3 := Z2.cell 3 (.int .i64 (f3 : Int)) rfl
 clear h h1 Z1 Z2 C
 go_enter Tryz.func92, Tryz.ntmps92
 go_wp2_with fail
 with_reducible refine C1.out.mono ?_
 rintro e w2 ⟨fx, rfl, FF⟩
 go_wp2_with fail
 go_ret
 exact FF
theorem send_hide (h : Bn base q a M w0 w ns er) {nm : ByteArray} {ad pl : Int} {Ab A At : Option Addr} {nb cb n cap nt ct : Nat} {f0 f1 f2 f3 : Nat} {pt : Int} (hpt : pt = 1) {g : Nat} {ψ : Env -> Bool} (C : ∀ W, Bn base q a M w0 W ns er -> Calls Tryz.prog 119 #[.pointer (some ⟨q, 0, none⟩), .agg #[.string nm, .int .i64 4, .int .i64 ad, .int .u8 pl, .slice Ab nb cb, .slice A n cap, .slice At nt ct], .agg #[.int .i64 (f0 : Int), .int .i64 (f1 : Int), .int .i64 (f2 : Int), .int .i64 (f3 : Int)]] W (BOut base q a M w0 W ns er g ψ)) :
  Calls Tryz.prog 92 #[.pointer (some ⟨q, 0, none⟩), .agg #[.string nm, .int .i64 4, .int .i64 ad, .int .u8 pl, .slice Ab nb cb, .slice A n cap, .slice At nt ct], .int .i64 pt, .agg #[.int .i64 (f0 : Int), .int .i64 (f1 : Int), .int .i64 (f2 : Int), .int .i64 (f3 : Int)]] w (BOut base q a M w0 w ns er g ψ) := by
 subst hpt
 have h1 := ((h.alloc (.cells #[.string nm, .int .i64 4, .int .i64 ad, .int .u8 pl, .slice Ab nb cb, .slice A n cap, .slice At nt ct] 62)).alloc (f4C f0 f1 f2 f3))
 have Z1 : Bz ((w.alloc (.cells #[.string nm, .int .i64 4, .int .i64 ad, .int .u8 pl, .slice Ab nb cb, .slice A n cap, .slice At nt ct] 62)).alloc (f4C f0 f1 f2 f3)) w.heap.size #[.string nm, .int .i64 4, .int .i64 ad, .int .u8 pl, .slice Ab nb cb, .slice A n cap, .slice At nt ct] 62 := (Bz.new w _ _ _ rfl).al _
 have Z2 : Bz ((w.alloc (.cells #[.string nm, .int .i64 4, .int .i64 ad, .int .u8 pl, .slice Ab nb cb, .slice A n cap, .slice At nt ct] 62)).alloc (f4C f0 f1 f2 f3)) (w.heap.size + 1) #[.int .i64 (f0 : Int), .int .i64 (f1 : Int), .int .i64 (f2 : Int), .int .i64 (f3 : Int)] 98 := Bz.new (w.alloc _) _ _ _ (by show _ = (w.heap.push _).size; rw [Array.size_push])
 have C1 : Hid (Calls Tryz.prog 119 #[.pointer (some ⟨q, 0, none⟩), .agg #[.string nm, .int .i64 4, .int .i64 ad, .int .u8 pl, .slice Ab nb cb, .slice A n cap, .slice At nt ct], .agg #[.int .i64 (f0 : Int), .int .i64 (f1 : Int), .int .i64 (f2 : Int), .int .i64 (f3 : Int)]] ((w.alloc (.cells #[.string nm, .int .i64 4, .int .i64 ad, .int .u8 pl, .slice Ab nb cb, .slice A n cap, .slice At nt ct] 62)).alloc (f4C f0 f1 f2 f3)) fun e w' => ∃ f : Nat, e = .returned (.int .i64 (f : Int)) ∧ BOut base q a M w0 w ns er g ψ (.returned (.int .i64 (f : Int))) w') := (C _ h1).mono fun e w' B => by
  obtain ⟨f, ns1, er1, rfl, r⟩ := id B
  exact ⟨f, rfl, B.from (tf_two w _ _)⟩
 have d0 := Z1.cell 0 (.string nm) rfl
 have d1 := Z1.cell 1 (.int .i64 4) rfl
 have d2 := Z1.cell 2 (.int .i64 ad) rfl
 have d3 := Z1.cell 3 (.int .u8 pl) rfl
 have d4 := Z1.cell 4 (.slice Ab nb cb) rfl
 have d5 := Z1.cell 5 (.slice A n cap) rfl
 have d6 := Z1.cell 6 (.slice At nt ct) rfl
 have p0 := Z2.cell 0 (.int .i64 (f0 : Int)) rfl
 have p1 := Z2.cell 1 (.int .i64 (f1 : Int)) rfl
 have p2 := Z2.cell 2 (.int .i64 (f2 : Int)) rfl
 have p3 := Z2.cell 3 (.int .i64 (f3 : Int)) rfl
 clear h h1 Z1 Z2 C
 go_enter Tryz.func92, Tryz.ntmps92
 go_wp2_with fail
 with_reducible refine C1.out.mono ?_
 rintro e w2 ⟨fx, rfl, FF⟩
 go_wp2_with fail
 go_ret
 exact FF
theorem send_unhide (h : Bn base q a M w0 w ns er) {nm : ByteArray} {ad pl : Int} {Ab A At : Option Addr} {nb cb n cap nt ct : Nat} {f0 f1 f2 f3 : Nat} {pt : Int} (hpt : ¬ pt = 1) {g : Nat} {ψ : Env -> Bool} (C : ∀ W, Bn base q a M w0 W ns er -> Calls Tryz.prog 120 #[.pointer (some ⟨q, 0, none⟩), .agg #[.string nm, .int .i64 4, .int .i64 ad, .int .u8 pl, .slice Ab nb cb, .slice A n cap, .slice At nt ct], .agg #[.int .i64 (f0 : Int), .int .i64 (f1 : Int), .int .i64 (f2 : Int), .int .i64 (f3 : Int)]] W (BOut base q a M w0 W ns er g ψ)) :
  Calls Tryz.prog 92 #[.pointer (some ⟨q, 0, none⟩), .agg #[.string nm, .int .i64 4, .int .i64 ad, .int .u8 pl, .slice Ab nb cb, .slice A n cap, .slice At nt ct], .int .i64 pt, .agg #[.int .i64 (f0 : Int), .int .i64 (f1 : Int), .int .i64 (f2 : Int), .int .i64 (f3 : Int)]] w (BOut base q a M w0 w ns er g ψ) := by
 have hp1 : (pt == 1) = false := by simpa using hpt
 have h1 := ((h.alloc (.cells #[.string nm, .int .i64 4, .int .i64 ad, .int .u8 pl, .slice Ab nb cb, .slice A n cap, .slice At nt ct] 62)).alloc (f4C f0 f1 f2 f3))
 have Z1 : Bz ((w.alloc (.cells #[.string nm, .int .i64 4, .int .i64 ad, .int .u8 pl, .slice Ab nb cb, .slice A n cap, .slice At nt ct] 62)).alloc (f4C f0 f1 f2 f3)) w.heap.size #[.string nm, .int .i64 4, .int .i64 ad, .int .u8 pl, .slice Ab nb cb, .slice A n cap, .slice At nt ct] 62 := (Bz.new w _ _ _ rfl).al _
 have Z2 : Bz ((w.alloc (.cells #[.string nm, .int .i64 4, .int .i64 ad, .int .u8 pl, .slice Ab nb cb, .slice A n cap, .slice At nt ct] 62)).alloc (f4C f0 f1 f2 f3)) (w.heap.size + 1) #[.int .i64 (f0 : Int), .int .i64 (f1 : Int), .int .i64 (f2 : Int), .int .i64 (f3 : Int)] 98 := Bz.new (w.alloc _) _ _ _ (by show _ = (w.heap.push _).size; rw [Array.size_push])
 have C1 : Hid (Calls Tryz.prog 120 #[.pointer (some ⟨q, 0, none⟩), .agg #[.string nm, .int .i64 4, .int .i64 ad, .int .u8 pl, .slice Ab nb cb, .slice A n cap, .slice At nt ct], .agg #[.int .i64 (f0 : Int), .int .i64 (f1 : Int), .int .i64 (f2 : Int), .int .i64 (f3 : Int)]] ((w.alloc (.cells #[.string nm, .int .i64 4, .int .i64 ad, .int .u8 pl, .slice Ab nb cb, .slice A n cap, .slice At nt ct] 62)).alloc (f4C f0 f1 f2 f3)) fun e w' => ∃ f : Nat, e = .returned (.int .i64 (f : Int)) ∧ BOut base q a M w0 w ns er g ψ (.returned (.int .i64 (f : Int))) w') := (C _ h1).mono fun e w' B => by
  obtain ⟨f, ns1, er1, rfl, r⟩ := id B
  exact ⟨f, rfl, B.from (tf_two w _ _)⟩
 have d0 := Z1.cell 0 (.string nm) rfl
 have d1 := Z1.cell 1 (.int .i64 4) rfl
 have d2 := Z1.cell 2 (.int .i64 ad) rfl
 have d3 := Z1.cell 3 (.int .u8 pl) rfl
 have d4 := Z1.cell 4 (.slice Ab nb cb) rfl
 have d5 := Z1.cell 5 (.slice A n cap) rfl
 have d6 := Z1.cell 6 (.slice At nt ct) rfl
 have p0 := Z2.cell 0 (.int .i64 (f0 : Int)) rfl
 have p1 := Z2.cell 1 (.int .i64 (f1 : Int)) rfl
 have p2 := Z2.cell 2 (.int .i64 (f2 : Int)) rfl
 have p3 := Z2.cell 3 (.int .i64 (f3 : Int)) rfl
 clear h h1 Z1 Z2 C
 go_enter Tryz.func92, Tryz.ntmps92
 go_wp2_with fail
 with_reducible refine C1.out.mono ?_
 rintro e w2 ⟨fx, rfl, FF⟩
 go_wp2_with fail
 go_ret
 exact FF
theorem send_spread (h : Bn base q a M w0 w ns er) {nm : ByteArray} {ad pl : Int} {Ab A At : Option Addr} {nb cb n cap nt ct : Nat} {f0 f1 f2 f3 : Nat} {pt : Int} (hpt : pt = 1) {g : Nat} {ψ : Env -> Bool} (C : ∀ W, Bn base q a M w0 W ns er -> Calls Tryz.prog 121 #[.pointer (some ⟨q, 0, none⟩), .agg #[.string nm, .int .i64 5, .int .i64 ad, .int .u8 pl, .slice Ab nb cb, .slice A n cap, .slice At nt ct], .agg #[.int .i64 (f0 : Int), .int .i64 (f1 : Int), .int .i64 (f2 : Int), .int .i64 (f3 : Int)]] W (BOut base q a M w0 W ns er g ψ)) :
  Calls Tryz.prog 92 #[.pointer (some ⟨q, 0, none⟩), .agg #[.string nm, .int .i64 5, .int .i64 ad, .int .u8 pl, .slice Ab nb cb, .slice A n cap, .slice At nt ct], .int .i64 pt, .agg #[.int .i64 (f0 : Int), .int .i64 (f1 : Int), .int .i64 (f2 : Int), .int .i64 (f3 : Int)]] w (BOut base q a M w0 w ns er g ψ) := by
 subst hpt
 have h1 := ((h.alloc (.cells #[.string nm, .int .i64 5, .int .i64 ad, .int .u8 pl, .slice Ab nb cb, .slice A n cap, .slice At nt ct] 62)).alloc (f4C f0 f1 f2 f3))
 have Z1 : Bz ((w.alloc (.cells #[.string nm, .int .i64 5, .int .i64 ad, .int .u8 pl, .slice Ab nb cb, .slice A n cap, .slice At nt ct] 62)).alloc (f4C f0 f1 f2 f3)) w.heap.size #[.string nm, .int .i64 5, .int .i64 ad, .int .u8 pl, .slice Ab nb cb, .slice A n cap, .slice At nt ct] 62 := (Bz.new w _ _ _ rfl).al _
 have Z2 : Bz ((w.alloc (.cells #[.string nm, .int .i64 5, .int .i64 ad, .int .u8 pl, .slice Ab nb cb, .slice A n cap, .slice At nt ct] 62)).alloc (f4C f0 f1 f2 f3)) (w.heap.size + 1) #[.int .i64 (f0 : Int), .int .i64 (f1 : Int), .int .i64 (f2 : Int), .int .i64 (f3 : Int)] 98 := Bz.new (w.alloc _) _ _ _ (by show _ = (w.heap.push _).size; rw [Array.size_push])
 have C1 : Hid (Calls Tryz.prog 121 #[.pointer (some ⟨q, 0, none⟩), .agg #[.string nm, .int .i64 5, .int .i64 ad, .int .u8 pl, .slice Ab nb cb, .slice A n cap, .slice At nt ct], .agg #[.int .i64 (f0 : Int), .int .i64 (f1 : Int), .int .i64 (f2 : Int), .int .i64 (f3 : Int)]] ((w.alloc (.cells #[.string nm, .int .i64 5, .int .i64 ad, .int .u8 pl, .slice Ab nb cb, .slice A n cap, .slice At nt ct] 62)).alloc (f4C f0 f1 f2 f3)) fun e w' => ∃ f : Nat, e = .returned (.int .i64 (f : Int)) ∧ BOut base q a M w0 w ns er g ψ (.returned (.int .i64 (f : Int))) w') := (C _ h1).mono fun e w' B => by
  obtain ⟨f, ns1, er1, rfl, r⟩ := id B
  exact ⟨f, rfl, B.from (tf_two w _ _)⟩
 have d0 := Z1.cell 0 (.string nm) rfl
 have d1 := Z1.cell 1 (.int .i64 5) rfl
 have d2 := Z1.cell 2 (.int .i64 ad) rfl
 have d3 := Z1.cell 3 (.int .u8 pl) rfl
 have d4 := Z1.cell 4 (.slice Ab nb cb) rfl
 have d5 := Z1.cell 5 (.slice A n cap) rfl
 have d6 := Z1.cell 6 (.slice At nt ct) rfl
 have p0 := Z2.cell 0 (.int .i64 (f0 : Int)) rfl
 have p1 := Z2.cell 1 (.int .i64 (f1 : Int)) rfl
 have p2 := Z2.cell 2 (.int .i64 (f2 : Int)) rfl
 have p3 := Z2.cell 3 (.int .i64 (f3 : Int)) rfl
 clear h h1 Z1 Z2 C
 go_enter Tryz.func92, Tryz.ntmps92
 go_wp2_with fail
 with_reducible refine C1.out.mono ?_
 rintro e w2 ⟨fx, rfl, FF⟩
 go_wp2_with fail
 go_ret
 exact FF
theorem send_gather (h : Bn base q a M w0 w ns er) {nm : ByteArray} {ad pl : Int} {Ab A At : Option Addr} {nb cb n cap nt ct : Nat} {f0 f1 f2 f3 : Nat} {pt : Int} (hpt : ¬ pt = 1) {g : Nat} {ψ : Env -> Bool} (C : ∀ W, Bn base q a M w0 W ns er -> Calls Tryz.prog 122 #[.pointer (some ⟨q, 0, none⟩), .agg #[.string nm, .int .i64 5, .int .i64 ad, .int .u8 pl, .slice Ab nb cb, .slice A n cap, .slice At nt ct], .agg #[.int .i64 (f0 : Int), .int .i64 (f1 : Int), .int .i64 (f2 : Int), .int .i64 (f3 : Int)]] W (BOut base q a M w0 W ns er g ψ)) :
  Calls Tryz.prog 92 #[.pointer (some ⟨q, 0, none⟩), .agg #[.string nm, .int .i64 5, .int .i64 ad, .int .u8 pl, .slice Ab nb cb, .slice A n cap, .slice At nt ct], .int .i64 pt, .agg #[.int .i64 (f0 : Int), .int .i64 (f1 : Int), .int .i64 (f2 : Int), .int .i64 (f3 : Int)]] w (BOut base q a M w0 w ns er g ψ) := by
 have hp1 : (pt == 1) = false := by simpa using hpt
 have h1 := ((h.alloc (.cells #[.string nm, .int .i64 5, .int .i64 ad, .int .u8 pl, .slice Ab nb cb, .slice A n cap, .slice At nt ct] 62)).alloc (f4C f0 f1 f2 f3))
 have Z1 : Bz ((w.alloc (.cells #[.string nm, .int .i64 5, .int .i64 ad, .int .u8 pl, .slice Ab nb cb, .slice A n cap, .slice At nt ct] 62)).alloc (f4C f0 f1 f2 f3)) w.heap.size #[.string nm, .int .i64 5, .int .i64 ad, .int .u8 pl, .slice Ab nb cb, .slice A n cap, .slice At nt ct] 62 := (Bz.new w _ _ _ rfl).al _
 have Z2 : Bz ((w.alloc (.cells #[.string nm, .int .i64 5, .int .i64 ad, .int .u8 pl, .slice Ab nb cb, .slice A n cap, .slice At nt ct] 62)).alloc (f4C f0 f1 f2 f3)) (w.heap.size + 1) #[.int .i64 (f0 : Int), .int .i64 (f1 : Int), .int .i64 (f2 : Int), .int .i64 (f3 : Int)] 98 := Bz.new (w.alloc _) _ _ _ (by show _ = (w.heap.push _).size; rw [Array.size_push])
 have C1 : Hid (Calls Tryz.prog 122 #[.pointer (some ⟨q, 0, none⟩), .agg #[.string nm, .int .i64 5, .int .i64 ad, .int .u8 pl, .slice Ab nb cb, .slice A n cap, .slice At nt ct], .agg #[.int .i64 (f0 : Int), .int .i64 (f1 : Int), .int .i64 (f2 : Int), .int .i64 (f3 : Int)]] ((w.alloc (.cells #[.string nm, .int .i64 5, .int .i64 ad, .int .u8 pl, .slice Ab nb cb, .slice A n cap, .slice At nt ct] 62)).alloc (f4C f0 f1 f2 f3)) fun e w' => ∃ f : Nat, e = .returned (.int .i64 (f : Int)) ∧ BOut base q a M w0 w ns er g ψ (.returned (.int .i64 (f : Int))) w') := (C _ h1).mono fun e w' B => by
  obtain ⟨f, ns1, er1, rfl, r⟩ := id B
  exact ⟨f, rfl, B.from (tf_two w _ _)⟩
 have d0 := Z1.cell 0 (.string nm) rfl
 have d1 := Z1.cell 1 (.int .i64 5) rfl
 have d2 := Z1.cell 2 (.int .i64 ad) rfl
 have d3 := Z1.cell 3 (.int .u8 pl) rfl
 have d4 := Z1.cell 4 (.slice Ab nb cb) rfl
 have d5 := Z1.cell 5 (.slice A n cap) rfl
 have d6 := Z1.cell 6 (.slice At nt ct) rfl
 have p0 := Z2.cell 0 (.int .i64 (f0 : Int)) rfl
 have p1 := Z2.cell 1 (.int .i64 (f1 : Int)) rfl
 have p2 := Z2.cell 2 (.int .i64 (f2 : Int)) rfl
 have p3 := Z2.cell 3 (.int .i64 (f3 : Int)) rfl
 clear h h1 Z1 Z2 C
 go_enter Tryz.func92, Tryz.ntmps92
 go_wp2_with fail
 with_reducible refine C1.out.mono ?_
 rintro e w2 ⟨fx, rfl, FF⟩
 go_wp2_with fail
 go_ret
 exact FF
theorem send_host (h : Bn base q a M w0 w ns er) {nm : ByteArray} {ad pl : Int} {Ab A At : Option Addr} {nb cb n cap nt ct : Nat} {f0 f1 f2 f3 : Nat} {pt : Int} :
  Calls Tryz.prog 92 #[.pointer (some ⟨q, 0, none⟩), .agg #[.string nm, .int .i64 1, .int .i64 ad, .int .u8 pl, .slice Ab nb cb, .slice A n cap, .slice At nt ct], .int .i64 pt, .agg #[.int .i64 (f0 : Int), .int .i64 (f1 : Int), .int .i64 (f2 : Int), .int .i64 (f3 : Int)]] w (BOut base q a M w0 w ns er 0 (fun _ => false)) := by
 have h1 := ((h.alloc (.cells #[.string nm, .int .i64 1, .int .i64 ad, .int .u8 pl, .slice Ab nb cb, .slice A n cap, .slice At nt ct] 62)).alloc (f4C f0 f1 f2 f3))
 have FF : Hid (BOut base q a M w0 w ns er 0 (fun _ => false) (.returned (.int .i64 0)) ((w.alloc (.cells #[.string nm, .int .i64 1, .int .i64 ad, .int .u8 pl, .slice Ab nb cb, .slice A n cap, .slice At nt ct] 62)).alloc (f4C f0 f1 f2 f3))) := ⟨0, ns, er, rfl, ⟨h1, tf_two w _ _⟩, Ext.refl _, id, ⟨Nat.lt_of_lt_of_le (by omega) h1.ar.wf.len, fun _ x => ev0 _ x⟩, fun e => ⟨by omega, fun h => absurd e h⟩⟩
 have Z1 : Bz ((w.alloc (.cells #[.string nm, .int .i64 1, .int .i64 ad, .int .u8 pl, .slice Ab nb cb, .slice A n cap, .slice At nt ct] 62)).alloc (f4C f0 f1 f2 f3)) w.heap.size #[.string nm, .int .i64 1, .int .i64 ad, .int .u8 pl, .slice Ab nb cb, .slice A n cap, .slice At nt ct] 62 := (Bz.new w _ _ _ rfl).al _
 have d1 := Z1.cell 1 (.int .i64 1) rfl
 clear h h1 Z1
 go_enter Tryz.func92, Tryz.ntmps92
 go_wp2_with fail
 go_ret
 exact FF.out
end
end Go.Proofs.YtlmmeppifkigeaaGreat
