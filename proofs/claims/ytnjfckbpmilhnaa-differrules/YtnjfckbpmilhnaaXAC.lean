/-
  acl.join: from the last rule to the first.
-/
import Derived.Test.YtnjfckbpmilhnaaLy
import Derived.Test.YtnjfckbpmilhnaaXAA
import Derived.Test.YtnjfckbpmilhnaaXAB
namespace Go.Proofs.Ytnjfckbpmilhnaa
open Go.RowKit Go.Shelf Go.Maps
attribute [local go_sem] Oper.semAt_some

/-- The function of the packets that a list of rules lets through. -/
def letsF : List Rl → Env → Bool
  | [], _ => false
  | r :: l, x => if phi r.a r.b r.c r.d x then r.ok else letsF l x
theorem came_all (xs : List Rl) : ((came xs xs.length).map Prod.snd).reverse = xs := by
  apply List.ext_getElem
  · simp [came]
  · intro i h1 h2
    simp [came]
    rw [show xs.length - 1 - (xs.length - 1 - i) = i by omega, List.getElem?_eq_getElem h2]
    rfl
theorem letsF_snoc (pre : List IR) (x : IR) (e : Env) : letsF ((pre ++ [x]).map Prod.snd).reverse e = if phi x.2.a x.2.b x.2.c x.2.d e then x.2.ok else letsF (pre.map Prod.snd).reverse e := by
  simp [letsF]

set_option maxHeartbeats 1000000 in
theorem answer_r (r : Rl) (w : World) : Calls Try.prog 30 #[rv r] w fun e w' => e = .returned (.int .i64 ((if r.ok then 1 else 0 : Nat) : Int)) ∧ Below w.heap.size w w' := by
  have D0 := Below.alloc' (Below.refl w.heap.size w) (.cells #[.bool r.ok, .int .u16 (r.a : Int), .int .u16 (r.b : Int), .int .u8 (r.c : Int), .int .u8 (r.d : Int)] 46)
  obtain ⟨ok, ra, rb, rc, rd, _, _, _, _⟩ := r
  cases ok
  · go_enter Try.func30, Try.ntmps30
    go_wp2_with fail
    go_ret
    exact ⟨rfl, D0⟩
  · go_enter Try.func30, Try.ntmps30
    go_wp2_with fail
    go_ret
    exact ⟨rfl, D0⟩

theorem answer_q (r : Rl) (w : World) : Calls Try.prog 30 #[rv r] w fun e w' => ∃ q : Nat, e = .returned (.int .i64 (q : Int)) ∧ Hid (q = if r.ok then 1 else 0) ∧ Below w.heap.size w w' :=
  (answer_r r w).mono fun _ _ ⟨h1, h2⟩ => ⟨_, h1, rfl, h2⟩

/-- A rule in a block of its own. -/
def Box5 (W : World) (B : Nat) (r : Rl) : Prop := W.heap[B]? = some (.cells #[.bool r.ok, .int .u16 (r.a : Int), .int .u16 (r.b : Int), .int .u8 (r.c : Int), .int .u8 (r.d : Int)] 46 (0, 0))
theorem Box5.cells {W : World} {B : Nat} {r : Rl} (h : Box5 W B r) : W.cell? ⟨B, 0, none⟩ = some (.bool r.ok) ∧ W.cell? ⟨B, 1, none⟩ = some (.int .u16 (r.a : Int)) ∧ W.cell? ⟨B, 2, none⟩ = some (.int .u16 (r.b : Int)) ∧ W.cell? ⟨B, 3, none⟩ = some (.int .u8 (r.c : Int)) ∧ W.cell? ⟨B, 4, none⟩ = some (.int .u8 (r.d : Int)) := by
  refine ⟨?_, ?_, ?_, ?_, ?_⟩ <;> (rw [cell_of_row W B _ _ _ _ h]; rfl)

section
variable {base a M : Nat} {W W' : World} {ns : List Nd}
/-- An arena abides what the loop's book-keeping turns. -/
theorem Ar.book {vars most B : Nat} {row : Option Nat} (h : Ar base a M vars most W ns) (hg : W.grownBy W' row) (hr : ∀ r, row = some r → B ≤ r ∧ ∃ o : Obj, W.heap[r]? = some o ∧ o.isCells = false) (hM : M < B) : Ar base a M vars most W' ns := by
  obtain ⟨cur, hrow, _, rl⟩ := h.row
  obtain ⟨g, cap, hb, _⟩ := h.blk
  refine h.same (hg.block a h.lta (fun e => ?_)) (hg.block M h.ltM (fun e => ?_)) (hg.block _ rl (fun e => ?_))
  · obtain ⟨_, o, ho, hc⟩ := hr a e.symm
    rw [hb] at ho
    cases ho
    cases hc
  · have := (hr M e.symm).1
    omega
  · obtain ⟨_, o, ho, hc⟩ := hr _ e.symm
    rw [hrow] at ho
    cases ho
    cases hc
/-- A variable of another type than the arena's blocks lies outside it. -/
theorem Ar.outBox {vars most i : Nat} {cs : Array Value} {t : TypeId} (h : Ar base a M vars most W ns) (hb : W.heap[i]? = some (.cells cs t (0, 0))) (h1 : t ≠ 63) (h2 : t ≠ 59) : Loc (ca base a M vars most) W i cs t := by
  refine ⟨⟨(Array.getElem?_eq_some_iff.1 hb).1, ?_, fun e => ?_⟩, hb⟩
  · have na : i ≠ a := fun e => by
      obtain ⟨g, cap, ha, _⟩ := h.blk
      rw [e, ha] at hb
      simp only [Option.some.injEq, Obj.cells.injEq] at hb
      exact h1 hb.2.1.symm
    rintro (e | e | e | e | e | e)
    · exact na e
    · exact na e
    · have e' : i = M := e
      obtain ⟨num, hm, _⟩ := h.map
      obtain ⟨es, clock, hM⟩ := hm.isMap
      rw [e', hM] at hb
      simp at hb
    · cases e
    · cases e
    · cases e
  · have e' : i = rowOf W a := e
    obtain ⟨cur, hrow, _⟩ := h.row
    rw [e', hrow] at hb
    simp only [Option.some.injEq, Obj.cells.injEq] at hb
    exact h2 hb.2.1.symm
/-- What no cells are stays behind the loop's beginning. -/
theorem Kp.keepsFrom {vars most B : Nat} (k : Kp (ca base a M vars most) W W') (h : Ar base a M vars most W ns) (hM : M < B) : KeepsFrom B W W' := by
  refine ⟨k.size, fun i o hB hi ho => ?_⟩
  obtain ⟨cur, hrow, _, rl⟩ := h.row
  obtain ⟨g, cap, hb, _⟩ := h.blk
  refine (k.blk i (Array.getElem?_eq_some_iff.1 hi).1 ?_ (fun e => ?_)).trans hi
  · have na : i ≠ a := fun e => by
      rw [e, hb] at hi
      cases hi
      cases ho
    rintro (e | e | e | e | e | e)
    · exact na e
    · exact na e
    · have e' : i = M := e
      omega
    · cases e
    · cases e
    · cases e
  · have e' : i = rowOf W a := e
    rw [e', hrow] at hi
    cases hi
    cases ho
end

theorem OpPost.pair {base a M vars most : Nat} {w w' : World} {ns : List Nd} {g : Nat} {φ : Env → Bool} {e : Ending} (h : OpPost base a M vars most w ns g φ e w') :
    ∃ (ns' : List Nd) (v er : Int), e = .returned (.tuple #[.int .i64 v, .int .i64 er]) ∧ Ar base a M vars most w' ns' ∧ Kp (ca base a M vars most) w w' ∧ Ext ns ns' ∧ ns'.length ≤ ns.length + g ∧
      Hid ((er = 0 ∧ ∃ f : Nat, v = (f : Int) ∧ f < ns'.length ∧ ∀ x, ev ns' f x = φ x) ∨ (er = 6 ∧ v = 0 ∧ ns'.length = most)) := by
  obtain ⟨ns', r1, r2, r3, r4, ⟨f, e1, e2⟩ | ⟨e1, e2⟩⟩ := h
  · exact ⟨ns', f, 0, e1, r1, r2, r3, r4, Or.inl ⟨rfl, f, rfl, e2⟩⟩
  · exact ⟨ns', 0, 6, e1, r1, r2, r3, r4, Or.inr ⟨rfl, rfl, e2⟩⟩
theorem Ar.notMine {base a M vars most : Nat} {w : World} {ns : List Nd} (h : Ar base a M vars most w ns) {i : Nat} (hi : i < base) : ¬ (ca base a M vars most).mine i := by
  have h1 := h.lowA
  have h2 := h.lowM
  rintro (e | e | e | e | e | e)
  · have : i = a := e
    omega
  · have : i = a := e
    omega
  · have : i = M := e
    omega
  · cases e
  · cases e
  · cases e
theorem Ar.kp_below {base a M vars most : Nat} {w w' : World} {ns : List Nd} (h : Ar base a M vars most w ns) (k : Kp (ca base a M vars most) w w') : Below base w w' := by
  obtain ⟨_, _, rb, rl⟩ := h.row
  have h1 := h.lowA
  have h2 := h.lta
  exact ⟨k.os, k.tape, k.output, k.size, fun i hi => k.blk i (by omega) (h.notMine hi) (by show i ≠ rowOf w a; omega)⟩

/-- Between two rounds. -/
def JI (base a M n0 L : Nat) (v : Value) (w : World) (pre : List IR) (W : World) : Prop :=
  ∃ (ns : List Nd) (F : Nat), Ar base a M 14 40000 W ns ∧ F < ns.length ∧ (∀ x, ev ns F x = letsF (pre.map Prod.snd).reverse x) ∧ ns.length ≤ L + pre.length * 16427 ∧
    Boxed W n0 36 (.pointer (some ⟨a, 0, none⟩)) ∧ Boxed W (n0 + 1) 3 (.int .i64 0) ∧ Boxed W (n0 + 1 + 1) 25 (.int .i64 0) ∧ Boxed W (n0 + 1 + 1 + 1) 3 (.int .i64 (F : Int)) ∧ Boxed W (n0 + 1 + 1 + 1 + 1) 22 v ∧ Below base w W
/-- Where a round has left. -/
def JX (base a M n0 L k : Nat) (w : World) (c : Code) (W : World) : Prop :=
  c = .ret ∧ 40000 ≤ L + k * 16427 ∧ ∃ ns : List Nd, Ar base a M 14 40000 W ns ∧ Boxed W (n0 + 1) 3 (.int .i64 0) ∧ Boxed W (n0 + 1 + 1) 25 (.int .i64 6) ∧ Below base w W
theorem Box5.own {B : Nat} {r : Rl} {W W' : World} {row : Option Nat} (h : Box5 W B r) (hg : W.grownBy W' row) (hr : ∀ r, row = some r → ∃ o : Obj, W.heap[r]? = some o ∧ o.isCells = false) : Box5 W' B r :=
  (grownBy_keeps_cells hg hr h rfl).trans h
theorem Ar.box {base a M vars most i : Nat} {W W' : World} {ns : List Nd} {t : TypeId} {v : Value} (h : Ar base a M vars most W ns) (k : Kp (ca base a M vars most) W W') (hb : Boxed W i t v) (h1 : t ≠ 63) (h2 : t ≠ 59) : Boxed W' i t v := ((h.outBox hb h1 h2).kp k).blk
theorem Ar.box5 {base a M vars most i : Nat} {W W' : World} {ns : List Nd} {r : Rl} (h : Ar base a M vars most W ns) (k : Kp (ca base a M vars most) W W') (hb : Box5 W i r) : Box5 W' i r := ((h.outBox hb (by decide) (by decide)).kp k).blk
theorem JI.own {base a M n0 L B : Nat} {v : Value} {w : World} (hM : M < B) (hb : base ≤ w.heap.size) (hB : base ≤ B) : OwnFrom B (JI base a M n0 L v w) := by
  rintro pre W W' row ⟨ns, F, h1, h2, h3, hL, b0, b1, b2, b3, b4, D⟩ hg hr
  have hr' : ∀ r, row = some r → ∃ o : Obj, W.heap[r]? = some o ∧ o.isCells = false := fun r e => (hr r e).2
  exact ⟨ns, F, h1.book hg hr hM, h2, h3, hL, boxed_own n0 _ (fun _ : Unit => _) () W W' row b0 hg hr', boxed_own _ _ (fun _ : Unit => _) () W W' row b1 hg hr', boxed_own _ _ (fun _ : Unit => _) () W W' row b2 hg hr', boxed_own _ _ (fun _ : Unit => _) () W W' row b3 hg hr', boxed_own _ _ (fun _ : Unit => _) () W W' row b4 hg hr', ownFrom_below hb hB () W W' row D hg hr⟩
theorem JX.own {base a M n0 L B : Nat} {w : World} (hM : M < B) (hb : base ≤ w.heap.size) (hB : base ≤ B) (c : Code) : OwnFrom B (fun (pre : List IR) W => JX base a M n0 L pre.length w c W) := by
  rintro pre W W' row ⟨e, hL, ns, h1, b1, b2, D⟩ hg hr
  have hr' : ∀ r, row = some r → ∃ o : Obj, W.heap[r]? = some o ∧ o.isCells = false := fun r e => (hr r e).2
  exact ⟨e, hL, ns, h1.book hg hr hM, boxed_own _ _ (fun _ : Unit => _) () W W' row b1 hg hr', boxed_own _ _ (fun _ : Unit => _) () W W' row b2 hg hr', ownFrom_below hb hB () W W' row D hg hr⟩

/-- In a round. -/
structure RS (base a M n0 B Bx F : Nat) (r : Rl) (v : Value) (w W1 : World) (ns : List Nd) (W : World) : Prop where
  ar : Ar base a M 14 40000 W ns
  b0 : Boxed W n0 36 (.pointer (some ⟨a, 0, none⟩))
  b1 : Boxed W (n0 + 1) 3 (.int .i64 0)
  b2 : Boxed W (n0 + 1 + 1) 25 (.int .i64 0)
  b3 : Boxed W (n0 + 1 + 1 + 1) 3 (.int .i64 (F : Int))
  b4 : Boxed W (n0 + 1 + 1 + 1 + 1) 22 v
  bx : Box5 W Bx r
  low : Below base w W
  kf : KeepsFrom B W1 W
  kb : Below base W1 W
  mB : M < B
  bn : base ≤ n0
section
variable {base a M n0 B Bx F : Nat} {r : Rl} {v : Value} {w W1 W W' : World} {ns ns' : List Nd}
theorem RS.step (h : RS base a M n0 B Bx F r v w W1 ns W) (k : Kp (ca base a M 14 40000) W W') (A : Ar base a M 14 40000 W' ns') : RS base a M n0 B Bx F r v w W1 ns' W' :=
  ⟨A, h.ar.box k h.b0 (by decide) (by decide), h.ar.box k h.b1 (by decide) (by decide), h.ar.box k h.b2 (by decide) (by decide), h.ar.box k h.b3 (by decide) (by decide), h.ar.box k h.b4 (by decide) (by decide), h.ar.box5 k h.bx,
    h.low.trans (h.ar.kp_below k), h.kf.trans (k.keepsFrom h.ar h.mB), h.kb.trans (h.ar.kp_below k), h.mB, h.bn⟩
theorem RS.below (h : RS base a M n0 B Bx F r v w W1 ns W) (hb : Below W.heap.size W W') : RS base a M n0 B Bx F r v w W1 ns W' := h.step (h.ar.kbelow hb) (h.ar.below hb)
theorem RS.drew (h : RS base a M n0 B Bx F r v w W1 ns W) : RS base a M n0 B Bx F r v w W1 ns W.drew :=
  ⟨h.ar.drew', h.b0, h.b1, h.b2, h.b3, h.b4, h.bx, h.low.drew, h.kf.trans ((KeepsOthers.drew _).from _), h.kb.drew, h.mB, h.bn⟩
theorem RS.four (h : RS base a M n0 B Bx F r v w W1 ns W) : W.cell? ⟨n0, 0, none⟩ = some (.pointer (some ⟨a, 0, none⟩)) ∧ W.cell? ⟨Bx, 0, none⟩ = some (.bool r.ok) ∧ W.cell? ⟨Bx, 1, none⟩ = some (.int .u16 (r.a : Int)) ∧ W.cell? ⟨Bx, 2, none⟩ = some (.int .u16 (r.b : Int)) ∧ W.cell? ⟨Bx, 3, none⟩ = some (.int .u8 (r.c : Int)) ∧ W.cell? ⟨Bx, 4, none⟩ = some (.int .u8 (r.d : Int)) := ⟨h.b0.cell, h.bx.cells⟩
/-- Behind the store into f. -/
structure RT (base a M n0 B Bx : Nat) (u : Int) (r : Rl) (v : Value) (w W1 : World) (ns : List Nd) (W : World) : Prop where
  ar : Ar base a M 14 40000 W ns
  b0 : Boxed W n0 36 (.pointer (some ⟨a, 0, none⟩))
  b1 : Boxed W (n0 + 1) 3 (.int .i64 0)
  b2 : Boxed W (n0 + 1 + 1) 25 (.int .i64 0)
  b3 : Boxed W (n0 + 1 + 1 + 1) 3 (.int .i64 u)
  b4 : Boxed W (n0 + 1 + 1 + 1 + 1) 22 v
  bx : Box5 W Bx r
  low : Below base w W
  kf : KeepsFrom B W1 W
  kb : Below base W1 W
theorem RT.four {u : Int} (h : RT base a M n0 B Bx u r v w W1 ns W) : W.cell? ⟨n0, 0, none⟩ = some (.pointer (some ⟨a, 0, none⟩)) ∧ W.cell? ⟨Bx, 0, none⟩ = some (.bool r.ok) ∧ W.cell? ⟨Bx, 1, none⟩ = some (.int .u16 (r.a : Int)) ∧ W.cell? ⟨Bx, 2, none⟩ = some (.int .u16 (r.b : Int)) ∧ W.cell? ⟨Bx, 3, none⟩ = some (.int .u8 (r.c : Int)) ∧ W.cell? ⟨Bx, 4, none⟩ = some (.int .u8 (r.d : Int)) := ⟨h.b0.cell, h.bx.cells⟩
theorem Ar.setBox {vars most i : Nat} {t : TypeId} {x : Value} (h : Ar base a M vars most W ns) (hb : Boxed W i t x) (h1 : t ≠ 63) (h2 : t ≠ 59) (u : Value) : Ar base a M vars most (W.setCell ⟨i, 0, none⟩ u) ns := by
  have L := h.outBox hb h1 h2
  obtain ⟨_, _, _, rl⟩ := h.row
  exact h.same (Below.heap_setCell W _ u a (fun e => L.out.not (Or.inl e.symm))) (Below.heap_setCell W _ u M (fun e => L.out.not (Or.inr (Or.inr (Or.inl e.symm))))) (Below.heap_setCell W _ u _ (fun e => L.out.ne e.symm))
theorem RS.set (h : RS base a M n0 B Bx F r v w W1 ns W) (u : Int) : RT base a M n0 B Bx u r v w W1 ns (W.setCell ⟨n0 + 1 + 1 + 1, 0, none⟩ (.int .i64 u)) := by
  have hx : n0 + 1 + 1 + 1 ≠ Bx := fun e => by
    have h1 := h.b3
    have h2 := h.bx
    unfold Boxed at h1
    unfold Box5 at h2
    rw [e, h2] at h1
    simp at h1
  have hbn := h.bn
  exact ⟨h.ar.setBox h.b3 (by decide) (by decide) _, h.b0.other (by omega) _, h.b1.other (by omega) _, h.b2.other (by omega) _, h.b3.set _, h.b4.other (by omega) _, (Below.heap_setCell W _ _ Bx (fun e => hx e.symm)).trans h.bx,
    h.low.setCell (p := ⟨n0 + 1 + 1 + 1, 0, none⟩) (by show base ≤ n0 + 1 + 1 + 1; omega) _, h.kf.trans ((KeepsOthers.setCell _ _ _).from _), h.kb.setCell (p := ⟨n0 + 1 + 1 + 1, 0, none⟩) (by show base ≤ n0 + 1 + 1 + 1; omega) _⟩
theorem RS.rt (h : RS base a M n0 B Bx F r v w W1 ns W) : RT base a M n0 B Bx (F : Int) r v w W1 ns W := ⟨h.ar, h.b0, h.b1, h.b2, h.b3, h.b4, h.bx, h.low, h.kf, h.kb⟩
/-- What the walk reads where it stores both results. -/
theorem RT.two {u : Int} (h : RT base a M n0 B Bx u r v w W1 ns W) : W.cell? ⟨n0 + 1, 0, none⟩ = some (.int .i64 0) ∧ W.frozen? ⟨n0 + 1, 0, none⟩ = false ∧ (W.setCell ⟨n0 + 1, 0, none⟩ (.int .i64 0)).cell? ⟨n0 + 1 + 1, 0, none⟩ = some (.int .i64 0) ∧ (W.setCell ⟨n0 + 1, 0, none⟩ (.int .i64 0)).frozen? ⟨n0 + 1 + 1, 0, none⟩ = false :=
  ⟨h.b1.cell, h.b1.frozen, (h.b2.other (by omega) _).cell, (h.b2.other (by omega) _).frozen⟩
theorem RT.err {u : Int} {L k : Nat} (h : RT base a M n0 B Bx u r v w W1 ns W) (bn : base ≤ n0) (hL : 40000 ≤ L + k * 16427) : KeepsFrom B W1 ((W.setCell ⟨n0 + 1, 0, none⟩ (.int .i64 0)).setCell ⟨n0 + 1 + 1, 0, none⟩ (.int .i64 6)) ∧ JX base a M n0 L k w .ret ((W.setCell ⟨n0 + 1, 0, none⟩ (.int .i64 0)).setCell ⟨n0 + 1 + 1, 0, none⟩ (.int .i64 6)) := by
  have b2' := h.b2.other (B' := n0 + 1) (by omega) (.int .i64 0)
  refine ⟨h.kf.trans (((KeepsOthers.setCell _ _ _).trans (KeepsOthers.setCell _ _ _)).from _), rfl, hL, ns, (h.ar.setBox h.b1 (by decide) (by decide) _).setBox b2' (by decide) (by decide) _, (h.b1.set _).other (by omega) _, b2'.set _, ?_⟩
  exact (h.low.setCell (p := ⟨n0 + 1, 0, none⟩) (by show base ≤ n0 + 1; omega) _).setCell (p := ⟨n0 + 1 + 1, 0, none⟩) (by show base ≤ n0 + 1 + 1; omega) _
end

/-- Behind the loop's last book-keeping. -/
theorem putD {base a M n0 D : Nat} {w W : World} {ns : List Nd} {u x : Value} {o : Obj} (A : Ar base a M 14 40000 W ns) (b1 : Boxed W (n0 + 1) 3 u) (b2 : Boxed W (n0 + 1 + 1) 25 x) (D1 : Below base w W) (hK : W.heap[D]? = some (.deferred (some []))) (hD : n0 + 5 ≤ D) (hM : M < n0) (hb : base ≤ n0) :
    Ar base a M 14 40000 (W.putObj D o) ns ∧ (W.putObj D o).cell? ⟨n0 + 1, 0, none⟩ = some u ∧ (W.putObj D o).cell? ⟨n0 + 1 + 1, 0, none⟩ = some x ∧ Below base w (W.putObj D o) := by
  have g := grownBy_putObj' W D o
  have hD' : D < W.heap.size := (Array.getElem?_eq_some_iff.1 hK).1
  exact ⟨A.book (B := n0) g (fun r e => by cases e; exact ⟨by omega, _, hK, rfl⟩) hM, (b1.kept g (fun e => by cases e; omega)).cell, (b2.kept g (fun e => by cases e; omega)).cell, D1.grown g (by omega) (fun k e => by cases e; omega)⟩

set_option maxHeartbeats 8000000 in
set_option maxRecDepth 100000 in
theorem join_ok {base a M : Nat} {w : World} {ns : List Nd} (h : Ar base a M 14 40000 w ns) (A : Option Addr) (len cap : Nat) (xs : List Rl) (hR : Rules base w (.slice A len cap) xs) (hlen : xs.length ≤ 8) :
    Calls Try.prog 21 #[.pointer (some ⟨a, 0, none⟩), .slice A len cap] w fun e w' => ∃ ns', Ar base a M 14 40000 w' ns' ∧ Below base w w' ∧
      ((∃ f : Nat, e = .returned (.tuple #[.int .i64 (f : Int), .int .i64 0]) ∧ f < ns'.length ∧ ∀ x, ev ns' f x = letsF xs x) ∨ (e = .returned (.tuple #[.int .i64 0, .int .i64 6]) ∧ 40000 ≤ ns.length + xs.length * 16427)) := by
  refine (callsIn_wide (n := 4)).1 ?_
  refine callsIn_of_wp_marks Try.func21 rfl trivial ?_ rfl
  simp only [Try.ntmps21, List.size_toArray, List.length_cons, List.length_nil, Nat.reduceAdd, Nat.reduceSub, Array.replicate_succ, Array.replicate_zero, List.push_toArray, List.append_toArray, List.nil_append, List.cons_append]
  gi_wp2_with (refine ⟨trivial, ?_⟩; gi_at_call 27; refine (back_in Fence.wide _ trivial rfl _ _ _ _).mono ?_; rintro e w' ⟨rfl, rfl⟩)
  have ltM := h.ltM
  have lta := h.lta
  have lowA := h.lowA
  have q0 := ((((Boxed.new w 36 (.pointer (some ⟨a, 0, none⟩))).alloc (.cells #[.int .i64 0] 3)).alloc (.cells #[.int .i64 0] 25)).alloc (.cells #[.int .i64 0] 3)).alloc (.cells #[.slice A len cap] 22)
  have q1 := (((Boxed.new (w.alloc (.cells #[.pointer (some ⟨a, 0, none⟩)] 36)) 3 (.int .i64 0)).alloc (.cells #[.int .i64 0] 25)).alloc (.cells #[.int .i64 0] 3)).alloc (.cells #[.slice A len cap] 22)
  have q2 := ((Boxed.new ((w.alloc (.cells #[.pointer (some ⟨a, 0, none⟩)] 36)).alloc (.cells #[.int .i64 0] 3)) 25 (.int .i64 0)).alloc (.cells #[.int .i64 0] 3)).alloc (.cells #[.slice A len cap] 22)
  have q3 := (Boxed.new (((w.alloc (.cells #[.pointer (some ⟨a, 0, none⟩)] 36)).alloc (.cells #[.int .i64 0] 3)).alloc (.cells #[.int .i64 0] 25)) 3 (.int .i64 0)).alloc (.cells #[.slice A len cap] 22)
  have q4 := Boxed.new ((((w.alloc (.cells #[.pointer (some ⟨a, 0, none⟩)] 36)).alloc (.cells #[.int .i64 0] 3)).alloc (.cells #[.int .i64 0] 25)).alloc (.cells #[.int .i64 0] 3)) 22 (.slice A len cap)
  simp only [World.size_alloc] at q1 q2 q3 q4
  have D0 : Below base w (((((w.alloc (.cells #[.pointer (some ⟨a, 0, none⟩)] 36)).alloc (.cells #[.int .i64 0] 3)).alloc (.cells #[.int .i64 0] 25)).alloc (.cells #[.int .i64 0] 3)).alloc (.cells #[.slice A len cap] 22)) :=
    (((((Below.refl _ w).alloc (by omega) _).alloc (by simp; omega) _).alloc (by simp; omega) _).alloc (by simp; omega) _).alloc (by simp; omega) _
  have A0 : Ar base a M 14 40000 (((((w.alloc (.cells #[.pointer (some ⟨a, 0, none⟩)] 36)).alloc (.cells #[.int .i64 0] 3)).alloc (.cells #[.int .i64 0] 25)).alloc (.cells #[.int .i64 0] 3)).alloc (.cells #[.slice A len cap] 22)) ns := ((((h.alloc _).alloc _).alloc _).alloc _).alloc _
  have hsz : (((((w.alloc (.cells #[.pointer (some ⟨a, 0, none⟩)] 36)).alloc (.cells #[.int .i64 0] 3)).alloc (.cells #[.int .i64 0] 25)).alloc (.cells #[.int .i64 0] 3)).alloc (.cells #[.slice A len cap] 22)).heap.size = w.heap.size + 5 := by simp
  obtain ⟨W0, hW0⟩ : ∃ W0, (((((w.alloc (.cells #[.pointer (some ⟨a, 0, none⟩)] 36)).alloc (.cells #[.int .i64 0] 3)).alloc (.cells #[.int .i64 0] 25)).alloc (.cells #[.int .i64 0] 3)).alloc (.cells #[.slice A len cap] 22)) = W0 := ⟨_, rfl⟩
  rw [hW0] at q0 q1 q2 q3 q4 D0 A0 hsz ⊢
  clear hW0
  have l2 := h.wf.len
  refine wpIn_rangeFunc_ownH rfl (by omega) (gf := 33) (lb := #[.pointer (some ⟨w.heap.size + 1 + 1 + 1 + 1, 0, none⟩)]) rfl trivial (enters_of Try.func33 (by kernel_rfl) rfl)
    (back_stops Fence.wide 3 trivial rfl (by omega) (w.heap.size + 1 + 1 + 1 + 1) base (.slice A len cap) xs (by omega) W0 (by omega) q4 (hR.below D0)) kpB_t
    (fun W l o o' hl ho hc _ => ⟨(Below.refl base W).grown (grownBy_putObj' W l o') (by have := (Array.getElem?_eq_some_iff.1 ho).1; omega) (fun k e => by cases e; omega), fun b => b.kept (grownBy_putObj' W l o') (fun e => by cases e; omega)⟩)
    (Below.refl _ _) (fun _ => rfl)
    (JI base a M w.heap.size ns.length (.slice A len cap) w) (fun c pre W => JX base a M w.heap.size ns.length pre.length w c W)
    (JI.own (by omega) (by omega) (by omega)) (fun c => JX.own (by omega) (by omega) (by omega) c)
    ⟨ns, 0, A0, by omega, (fun x => rfl), by simp, q0, q1, q2, q3, q4, D0⟩
    (fun x a' W => ∃ Bx, Box5 W Bx x.2 ∧ a' = { tmps := #[.pointer (some ⟨a, 0, none⟩), .slice A len cap, .pointer (some ⟨w.heap.size, 0, none⟩), undef, .pointer (some ⟨w.heap.size + 1, 0, none⟩), .pointer (some ⟨w.heap.size + 1 + 1, 0, none⟩), .pointer (some ⟨w.heap.size + 1 + 1 + 1, 0, none⟩), undef, .pointer (some ⟨Bx, 0, none⟩), undef, undef, .slice A len cap, .func (.func 33) #[] #[.pointer (some ⟨w.heap.size + 1 + 1 + 1 + 1, 0, none⟩)], .int .i64 (x.1 : Int), rv x.2, undef, undef, undef, undef, undef, undef, undef, undef, undef, undef, undef, undef, undef, undef, undef, undef, undef, undef, undef, undef, undef, undef, undef], defers := [] })
    (fun x a' _ X Y row hs hg hr => by obtain ⟨Bx, h1, h2⟩ := hs; exact ⟨Bx, h1.own hg (fun r e => (hr r e).2), h2⟩)
    ?assign ?body ?done ?stop
  case assign =>
    rintro l pre x W K ⟨ns1, F1, A1, lF, eF, hL, b0, b1, b2, b3, b4, D1⟩ hK
    have hsW := D1.size
    obtain ⟨i, ⟨ok, ra, rb, rc, rd, g1, g2, g3, g4⟩⟩ := x
    dsimp only [encIR]
    gi_wp2
    exact hK _ _ ((KeepsOthers.alloc _ _).from _) ⟨(Below.refl _ W).alloc (by omega) _, fun b => b.alloc _⟩ ⟨ns1, F1, A1.alloc _, lF, eF, hL, b0.alloc _, b1.alloc _, b2.alloc _, b3.alloc _, b4.alloc _, D1.alloc (by omega) _⟩ ⟨W.heap.size, Go.heap_alloc_new W _, rfl⟩
  case body =>
    rintro l pre x a' W hl ⟨r0, hr0⟩ ⟨ns1, F1, A1, lF, eF, hL, b0, b1, b2, b3, b4, D1⟩ ⟨Bx, bX, rfl⟩ hlt
    obtain ⟨xi, r⟩ := x
    have s1 : RS base a M w.heap.size W0.heap.size Bx F1 r (.slice A len cap) w W ns1 W := ⟨A1, b0, b1, b2, b3, b4, bX, D1, KeepsFrom.refl _ _, Below.refl _ _, by omega, by omega⟩
    clear A1 b0 b1 b2 b3 b4 bX
    obtain ⟨cA, x0, x1, x2, x3, x4⟩ := s1.four
    gi_wp2
    refine ⟨trivial, (CallsIn.inRound l (callsIn_wide.2 (build_match s1.ar (Nat.le_refl _) r.a r.b r.c r.d r.ha r.hb r.hc r.hd))).mono ?_⟩
    rintro e W2 hp2
    obtain ⟨ns2, g2, er2, rfl, A2, K2, X2, hL2, d2⟩ := hp2.pair
    have s2 := s1.step K2 A2
    have wf1 := s1.ar.wf
    clear hp2 A2 K2 cA x0 x1 x2 x3 x4 s1
    obtain ⟨cA, x0, x1, x2, x3, x4⟩ := s2.four
    obtain ⟨c1, f1, c2, f2⟩ := s2.rt.two
    have c3 := s2.b3.cell
    rcases d2.out with ⟨rfl, F2, rfl, lt2, _, ev2⟩ | ⟨rfl, rfl, full2⟩
    · have lF2 : F1 < ns2.length := Nat.lt_of_lt_of_le lF X2.len
      have wf2 := s2.ar.wf
      have l2' := wf2.len
      have EF : Hid (∀ x, ev ns2 F1 x = letsF (pre.map Prod.snd).reverse x) := fun x => (X2.ev wf1 wf2 _ lF x).trans (eF x)
      have EV : Hid (∀ x, ev ns2 F2 x = phi r.a r.b r.c r.d x) := ev2
      have IT : Hid (∀ w' (q : Nat), Hid (q = if r.ok then 1 else 0) → RS base a M w.heap.size W0.heap.size Bx F1 r (.slice A len cap) w W ns2 w' → Calls Try.prog 29 #[.pointer (some ⟨a, 0, none⟩), .int .i64 (F2 : Int), .int .i64 (q : Int), .int .i64 (F1 : Int)] w' fun e w'' => ∃ (ns' : List Nd) (v er : Int), e = .returned (.tuple #[.int .i64 v, .int .i64 er]) ∧ Ar base a M 14 40000 w'' ns' ∧ Kp (ca base a M 14 40000) w' w'' ∧ Ext ns2 ns' ∧ ns'.length ≤ ns2.length + (2 ^ 14 - 1) ∧
          Hid ((er = 0 ∧ ∃ f : Nat, v = (f : Int) ∧ f < ns'.length ∧ ∀ x, ev ns' f x = letsF ((pre ++ [(xi, r)]).map Prod.snd).reverse x) ∨ (er = 6 ∧ v = 0 ∧ ns'.length = 40000))) := fun w' q hq hs => by
        have hq' : q = if r.ok then 1 else 0 := hq
        refine (ite_ok hs.ar (c := (F2, q, F1)) ⟨lt2, by show q < _; rw [hq']; split <;> omega, lF2⟩).mono fun e w'' hp => (hp.of (ψ := fun x => letsF ((pre ++ [(xi, r)]).map Prod.snd).reverse x) (fun x => ?_)).pair
        rw [letsF_snoc, ← EF.out, EV.out, hq']
        cases r.ok
        · simp [ev0]
        · simp [ev1]
      have s2d := s2.drew
      clear ev2 eF d2 EF EV
      gi_wp2
      refine region_held_in (S := (fun w' => w'.cell? ⟨w.heap.size, 0, none⟩ = some (.pointer (some ⟨a, 0, none⟩)) ∧ w'.cell? ⟨Bx, 0, none⟩ = some (.bool r.ok) ∧ w'.cell? ⟨Bx, 1, none⟩ = some (.int .u16 (r.a : Int)) ∧ w'.cell? ⟨Bx, 2, none⟩ = some (.int .u16 (r.b : Int)) ∧ w'.cell? ⟨Bx, 3, none⟩ = some (.int .u8 (r.c : Int)) ∧ w'.cell? ⟨Bx, 4, none⟩ = some (.int .u8 (r.d : Int)))) (by kernel_rfl) (by kernel_rfl) (fun ⟨_, _, e⟩ => e) (RS.four (by assumption)) (fun hHeld => ?_)
      refine' tk 0 rfl (by kernel_rfl) (fun _ _ _ h => h) (by rfl) (by assumption) ?y1 ?r1
      case y1 => (intro w h; (try dsimp only at h); go_simp; (try with_reducible rfl))
      try simp only [lays]
      refine' tk 1 rfl (by kernel_rfl) (fun _ _ _ h => h) (by rfl) (by assumption) ?y2 ?r2
      case y2 => (intro w h; (try dsimp only at h); go_simp; (try with_reducible rfl))
      try simp only [lays]
      refine' tk 2 rfl (by kernel_rfl) (fun _ _ _ h => h) (by rfl) (by assumption) ?y3 ?r3
      case y3 => (intro w h; (try dsimp only at h); go_simp; (try with_reducible rfl))
      try simp only [lays]
      refine wpAnyH_ready (rs := [3, 4]) (by kernel_rfl) (by simp) ?_
      refine AllReadyH.cons rfl (fun K hK => ?_) ?_
      · go_simp
        refine (answer_q r _).mono ?_; rintro e wz ⟨q, rfl, hq, hbz⟩; have sz := RS.below (F := F1) (by assumption) hbz; clear hbz; have cz := sz.b3.cell
        try go_wp2_with fail
        clear hHeld
        refine hK.out _ _ (by first | exact RS.four (by assumption) | exact RT.four (by assumption)) (fun hHeld => ?_)
        clear hK K
        try simp only [lays]
        refine wpAnyH_ready (rs := [4]) (by kernel_rfl) (by simp) (AllReadyH.cons rfl (fun K hK => ?_) AllReadyH.nil)
        go_simp
        skip
        try go_wp2_with fail
        clear hHeld
        refine hK.out _ _ (by first | exact RS.four (by assumption) | exact RT.four (by assumption)) (fun hHeld => ?_)
        clear hK K
        try simp only [lays]
        refine wpAnyH_ready (rs := [5]) (by kernel_rfl) (by simp) (AllReadyH.cons rfl (fun K hK => ?_) AllReadyH.nil)
        go_simp
        refine (IT.out _ q hq (by assumption)).mono ?_; rintro e wy ⟨ns3, v3, er3, rfl, A3, K3, X3, hL3, d3⟩; have sy := RS.step (F := F1) (by assumption) K3 A3; have cy := sy.b3.cell; have fy := sy.b3.frozen; clear K3 A3
        try go_wp2_with fail
        clear hHeld
        refine hK.out _ _ (by first | exact RS.four (by assumption) | exact RT.four (by assumption)) (fun hHeld => ?_)
        clear hK K
        try simp only [lays]
        refine' tk 6 rfl (by kernel_rfl) (fun _ _ _ h => h) (by rfl) (by assumption) ?y7 ?r7
        case y7 => (intro w h; (try dsimp only at h); go_simp; (try with_reducible rfl))
        try simp only [lays]
        refine' tk 7 rfl (by kernel_rfl) (fun _ _ _ h => h) (by rfl) (by assumption) ?y8 ?r8
        case y8 => (intro w h; (try dsimp only at h); go_simp; (try with_reducible rfl))
        try simp only [lays]
        refine' tk 8 rfl (by kernel_rfl) (fun _ _ _ h => h) (by rfl) (by assumption) ?y9 ?r9
        case y9 => (intro w h; (try dsimp only at h); go_simp; (try with_reducible rfl))
        try simp only [lays]
        refine wpAnyH_ready (rs := [9]) (by kernel_rfl) (by simp) (AllReadyH.cons rfl (fun K hK => ?_) AllReadyH.nil)
        go_simp
        have su := RS.set (F := F1) (by assumption) v3
        try go_wp2_with fail
        clear hHeld
        refine hK.out _ _ (by first | exact RS.four (by assumption) | exact RT.four (by assumption)) (fun hHeld => ?_)
        clear hK K
        try simp only [lays]
        refine' tk 10 rfl (by kernel_rfl) (fun _ _ _ h => h) (by rfl) (by assumption) ?y11 ?r11
        case y11 => (intro w h; (try dsimp only at h); go_simp; (try with_reducible rfl))
        try simp only [lays]
        refine wpAnyH_done (by kernel_rfl) ?_ _
        obtain ⟨y1, y2, y3, y4⟩ := su.two
        have hlp : (pre ++ [(xi, r)]).length = pre.length + 1 := by simp
        have hL4 : ns3.length ≤ ns.length + (pre ++ [(xi, r)]).length * 16427 := by rw [hlp]; omega
        rcases d3.out with ⟨rfl, F3, rfl, lt3, ev3⟩ | ⟨rfl, rfl, full3⟩
        · have fin : Hid (JI base a M w.heap.size ns.length (.slice A len cap) w (pre ++ [(xi, r)]) (wy.setCell ⟨w.heap.size + 1 + 1 + 1, 0, none⟩ (.int .i64 (F3 : Int)))) := ⟨ns3, F3, su.ar, lt3, ev3, hL4, su.b0, su.b1, su.b2, su.b3, su.b4, su.low⟩
          have kf := su.kf
          have kb := su.kb
          have b4 := su.b4
          clear su d3 ev3 sy IT hL4 hlp
          gi_wp2
          exact ⟨kf, ⟨kb, fun _ => b4⟩, fin.out⟩
        · have fin : Hid _ := su.err (L := ns.length) (k := (pre ++ [(xi, r)]).length) (by omega) (by omega)
          clear d3 sy IT hL4 hlp
          gi_wp2
          exact fin.out
      refine AllReadyH.cons rfl (fun K hK => ?_) AllReadyH.nil
      go_simp
      skip
      try go_wp2_with fail
      clear hHeld
      refine hK.out _ _ (by first | exact RS.four (by assumption) | exact RT.four (by assumption)) (fun hHeld => ?_)
      clear hK K
      try simp only [lays]
      refine wpAnyH_ready (rs := [3]) (by kernel_rfl) (by simp) (AllReadyH.cons rfl (fun K hK => ?_) AllReadyH.nil)
      go_simp
      refine (answer_q r _).mono ?_; rintro e wz ⟨q, rfl, hq, hbz⟩; have sz := RS.below (F := F1) (by assumption) hbz; clear hbz; have cz := sz.b3.cell
      try go_wp2_with fail
      clear hHeld
      refine hK.out _ _ (by first | exact RS.four (by assumption) | exact RT.four (by assumption)) (fun hHeld => ?_)
      clear hK K
      try simp only [lays]
      refine wpAnyH_ready (rs := [5]) (by kernel_rfl) (by simp) (AllReadyH.cons rfl (fun K hK => ?_) AllReadyH.nil)
      go_simp
      refine (IT.out _ q hq (by assumption)).mono ?_; rintro e wy ⟨ns3, v3, er3, rfl, A3, K3, X3, hL3, d3⟩; have sy := RS.step (F := F1) (by assumption) K3 A3; have cy := sy.b3.cell; have fy := sy.b3.frozen; clear K3 A3
      try go_wp2_with fail
      clear hHeld
      refine hK.out _ _ (by first | exact RS.four (by assumption) | exact RT.four (by assumption)) (fun hHeld => ?_)
      clear hK K
      try simp only [lays]
      refine' tk 6 rfl (by kernel_rfl) (fun _ _ _ h => h) (by rfl) (by assumption) ?y15 ?r15
      case y15 => (intro w h; (try dsimp only at h); go_simp; (try with_reducible rfl))
      try simp only [lays]
      refine' tk 7 rfl (by kernel_rfl) (fun _ _ _ h => h) (by rfl) (by assumption) ?y16 ?r16
      case y16 => (intro w h; (try dsimp only at h); go_simp; (try with_reducible rfl))
      try simp only [lays]
      refine' tk 8 rfl (by kernel_rfl) (fun _ _ _ h => h) (by rfl) (by assumption) ?y17 ?r17
      case y17 => (intro w h; (try dsimp only at h); go_simp; (try with_reducible rfl))
      try simp only [lays]
      refine wpAnyH_ready (rs := [9]) (by kernel_rfl) (by simp) (AllReadyH.cons rfl (fun K hK => ?_) AllReadyH.nil)
      go_simp
      have su := RS.set (F := F1) (by assumption) v3
      try go_wp2_with fail
      clear hHeld
      refine hK.out _ _ (by first | exact RS.four (by assumption) | exact RT.four (by assumption)) (fun hHeld => ?_)
      clear hK K
      try simp only [lays]
      refine' tk 10 rfl (by kernel_rfl) (fun _ _ _ h => h) (by rfl) (by assumption) ?y19 ?r19
      case y19 => (intro w h; (try dsimp only at h); go_simp; (try with_reducible rfl))
      try simp only [lays]
      refine wpAnyH_done (by kernel_rfl) ?_ _
      obtain ⟨y1, y2, y3, y4⟩ := su.two
      have hlp : (pre ++ [(xi, r)]).length = pre.length + 1 := by simp
      have hL4 : ns3.length ≤ ns.length + (pre ++ [(xi, r)]).length * 16427 := by rw [hlp]; omega
      rcases d3.out with ⟨rfl, F3, rfl, lt3, ev3⟩ | ⟨rfl, rfl, full3⟩
      · have fin : Hid (JI base a M w.heap.size ns.length (.slice A len cap) w (pre ++ [(xi, r)]) (wy.setCell ⟨w.heap.size + 1 + 1 + 1, 0, none⟩ (.int .i64 (F3 : Int)))) := ⟨ns3, F3, su.ar, lt3, ev3, hL4, su.b0, su.b1, su.b2, su.b3, su.b4, su.low⟩
        have kf := su.kf
        have kb := su.kb
        have b4 := su.b4
        clear su d3 ev3 sy IT hL4 hlp
        gi_wp2
        exact ⟨kf, ⟨kb, fun _ => b4⟩, fin.out⟩
      · have fin : Hid _ := su.err (L := ns.length) (k := (pre ++ [(xi, r)]).length) (by omega) (by omega)
        clear d3 sy IT hL4 hlp
        gi_wp2
        exact fin.out
    · have fin := s2.rt.err (L := ns.length) (k := (pre ++ [(xi, r)]).length) (by omega) (by simp; omega)
      clear d2
      gi_wp2
      exact fin
  case done =>
    rintro D ys W hD rfl ⟨ns1, F1, A1, lF, eF, _, b0, b1, b2, b3, b4, D1⟩ hK
    have eF' : Hid (∀ x, ev ns1 F1 x = letsF xs x) := fun x => by rw [eF x, came_all]
    clear eF
    have hD' : D < W.heap.size := (Array.getElem?_eq_some_iff.1 hK).1
    have e1 := (b1.set (.int .i64 (F1 : Int))).other (B' := w.heap.size + 1 + 1) (by omega) (.int .i64 0)
    have b2' := b2.other (B' := w.heap.size + 1) (by omega) (.int .i64 (F1 : Int))
    have e2 := b2'.set (.int .i64 0)
    have A2 := (A1.setBox b1 (by decide) (by decide) (.int .i64 (F1 : Int))).setBox b2' (by decide) (by decide) (.int .i64 0)
    have D2 := (D1.setCell (p := ⟨w.heap.size + 1, 0, none⟩) (by show base ≤ w.heap.size + 1; omega) (.int .i64 (F1 : Int))).setCell (p := ⟨w.heap.size + 1 + 1, 0, none⟩) (by show base ≤ w.heap.size + 1 + 1; omega) (.int .i64 0)
    have hK' := ((KeepsOthers.setCell W ⟨w.heap.size + 1, 0, none⟩ (.int .i64 (F1 : Int))).trans (KeepsOthers.setCell _ ⟨w.heap.size + 1 + 1, 0, none⟩ (.int .i64 0))).same D _ hK rfl
    have c1 := b1.cell
    have f1 := b1.frozen
    have c2 := b2'.cell
    have f2 := b2'.frozen
    have c3 := b3.cell
    gi_wp2
    refine ⟨by simp, .inl ⟨_, _, rfl, run_takeDeferred hK', ?_⟩⟩
    obtain ⟨A3, r1, r2, D3⟩ := putD (o := .deferred none) A2 e1 e2 D2 hK' (by omega) (by omega) (by omega)
    exact ⟨.tuple #[.int .i64 (F1 : Int), .int .i64 0], by simp [results, Try.results21, go_sem, r1, r2], ns1, A3, D3, .inl ⟨F1, rfl, lF, eF'.out⟩⟩
  case stop =>
    rintro D c pre W hD ⟨k, hk, rfl⟩ ⟨rfl, hL, ns1, A1, b1, b2, D1⟩ hK
    rw [came_length] at hL
    have hL' : 40000 ≤ ns.length + xs.length * 16427 := by
      have := Nat.mul_le_mul_right 16427 hk
      omega
    gi_wp2
    refine ⟨by simp, .inl ⟨_, _, rfl, run_takeDeferred hK, ?_⟩⟩
    obtain ⟨A3, r1, r2, D3⟩ := putD (o := .deferred none) A1 b1 b2 D1 hK (by omega) (by omega) (by omega)
    exact ⟨.tuple #[.int .i64 0, .int .i64 6], by simp [results, Try.results21, go_sem, r1, r2], ns1, A3, D3, .inr ⟨rfl, hL'⟩⟩
end Go.Proofs.Ytnjfckbpmilhnaa



namespace Go.Proofs.Ytnjfckbpmilhnaa
open Go.RowKit Go.Maps

/-- g is, in ns, what f is in ns2. -/
structure IsTk (ns ns2 : List Nd) (f g : Nat) : Prop where
  ltf : f < ns2.length
  lt : g < ns.length
  ev : ∀ e, ev ns g e = ev ns2 f e
  va : nv ns2 f ≤ nv ns g
section
variable {vars v2 : Nat} {ns ns' ns2 : List Nd}
theorem IsTk.ext {f g : Nat} (h : IsTk ns ns2 f g) (X : Ext ns ns') (wf : Wf vars ns) (wf' : Wf vars ns') : IsTk ns' ns2 f g := by
  have hl := X.len
  have lt := h.lt
  refine ⟨h.ltf, by omega, fun e => ?_, ?_⟩
  · rw [X.ev wf wf' _ h.lt]; exact h.ev e
  · rw [X.va h.lt]; exact h.va
def MemoT (ns ns2 : List Nd) (m : Nat → Option Nat) : Prop := ∀ f g, m f = some g → IsTk ns ns2 f g
theorem MemoT.ext {m : Nat → Option Nat} (h : MemoT ns ns2 m) (X : Ext ns ns') (wf : Wf vars ns) (wf' : Wf vars ns') : MemoT ns' ns2 m := fun c f e => (h c f e).ext X wf wf'
theorem MemoT.upd {m : Nat → Option Nat} (h : MemoT ns ns2 m) {c f : Nat} (hf : IsTk ns ns2 c f) : MemoT ns ns2 (upd m c f) := by
  intro d g hg
  unfold Ytnjfckbpmilhnaa.upd at hg
  by_cases e : d = c
  · subst e
    rw [if_pos rfl] at hg
    cases hg
    exact hf
  · rw [if_neg e] at hg
    exact h d g hg
theorem isTk_small (wf : Wf vars ns) (wf2 : Wf v2 ns2) (hv : v2 ≤ vars) {f : Nat} (hf : f ≤ 1) : IsTk ns ns2 f f := by
  have l1 := wf.len
  have l2 := wf2.len
  match f, hf with
  | 0, _ => exact ⟨by omega, by omega, fun e => rfl, by simp [nv, wf.n0, wf2.n0]; exact hv⟩
  | 1, _ => exact ⟨by omega, by omega, fun e => by rw [ev1, ev1], by simp [nv, wf.n1, wf2.n1]; exact hv⟩
theorem isTk_join (wf2 : Wf v2 ns2) {f l u g : Nat} (f2 : 2 ≤ f) (hf : f < ns2.length) (h0 : IsTk ns ns2 (nl ns2 f) l) (h1 : IsTk ns ns2 (nh ns2 f) u) (hn : IsNode ns (nv ns2 f) l u g) : IsTk ns ns2 f g :=
  ⟨hf, hn.lt, fun e => by rw [hn.ev, h0.ev, h1.ev, ev_node wf2 f2 hf], hn.va⟩
end

/-- The other arena, apart from what the builder turns. -/
structure Fr (C : Cfg) (w : World) (base2 a2 M2 v2 most2 : Nat) (ns2 : List Nd) : Prop where
  ar : Ar base2 a2 M2 v2 most2 w ns2
  oa : Out C w a2
  oM : Out C w M2
  or : Out C w (rowOf w a2)
section
variable {C : Cfg} {w w' : World} {base2 a2 M2 v2 most2 : Nat} {ns2 : List Nd}
theorem Fr.kp (h : Fr C w base2 a2 M2 v2 most2 ns2) (k : Kp C w w') : Fr C w' base2 a2 M2 v2 most2 ns2 := by
  have e : w'.heap[a2]? = w.heap[a2]? := k.blk a2 h.oa.lt h.oa.not h.oa.ne
  refine ⟨h.ar.same e (k.blk M2 h.oM.lt h.oM.not h.oM.ne) (k.blk _ h.or.lt h.or.not h.or.ne), h.oa.kp k, h.oM.kp k, ?_⟩
  rw [rowOf_same e]
  exact h.or.kp k

/-- What take leaves. -/
def TakePost (C : Cfg) (w : World) (ns ns2 : List Nd) (full : Bool) (N : Nat) (m1 : Nd → Option Nat) (m2 : Mx → Option Nat) (f : Nat) (g : Nat) (e : Ending) (w' : World) : Prop :=
  ∃ r ns' full' N' m3', e = .returned (.int .i64 ((r : Nat) : Int)) ∧ At C w w' ns' full' N' m1 m2 m3' ∧ Ext ns ns' ∧ ns'.length ≤ ns.length + g ∧ N' ≤ N + g ∧ r < ns'.length ∧ (full = true → full' = true) ∧ (full' = false → MemoT ns' ns2 m3' ∧ IsTk ns' ns2 f r)

variable {ns : List Nd} {N : Nat} {m1 : Nd → Option Nat} {m2 : Mx → Option Nat} {m3 : Nat → Option Nat}

set_option maxHeartbeats 1000000 in
theorem take_full (h : Bu C w ns true N m1 m2 m3) (f : Nat) :
    Calls Try.prog 32 #[.pointer (some ⟨C.b, 0, none⟩), .pointer (some ⟨a2, 0, none⟩), .int .i64 (f : Int)] w fun e w' => e = .returned (.int .i64 0) ∧ w' = w := by
  obtain ⟨b0, b1, b2, b3, b4, bf⟩ := h.reads
  clear h
  go_enter Try.func32, Try.ntmps32
  go_wp2_with fail
  go_ret
  exact ⟨rfl, rfl⟩

set_option maxHeartbeats 1000000 in
theorem take_small (h : Bu C w ns false N m1 m2 m3) {f : Nat} (hf : f ≤ 1) :
    Calls Try.prog 32 #[.pointer (some ⟨C.b, 0, none⟩), .pointer (some ⟨a2, 0, none⟩), .int .i64 (f : Int)] w fun e w' => e = .returned (.int .i64 (f : Int)) ∧ w' = w := by
  obtain ⟨b0, b1, b2, b3, b4, bf⟩ := h.reads
  have t1 : decide ((f : Int) ≤ 1) = true := by simp; omega
  clear h
  go_enter Try.func32, Try.ntmps32
  go_wp2_with fail
  go_ret
  exact ⟨rfl, rfl⟩

set_option maxHeartbeats 1000000 in
theorem take_hit (h : Bu C w ns false N m1 m2 m3) {c3 : Nat} (hc3 : C.c3 = some c3) {f r : Nat} (f2 : 2 ≤ f) (hf : f < 9223372036854775808) (hr : m3 f = some r) :
    Calls Try.prog 32 #[.pointer (some ⟨C.b, 0, none⟩), .pointer (some ⟨a2, 0, none⟩), .int .i64 (f : Int)] w fun e w' => e = .returned (.int .i64 (r : Int)) ∧ w' = w := by
  obtain ⟨b0, b1, b2, b3, b4, bf⟩ := h.reads
  have t1 : decide ((f : Int) ≤ 1) = false := by simp; omega
  have hlook := (h.o3 c3 hc3).look Try.u47 (x := f) (by show f < _; omega)
  rw [hr] at hlook
  simp only [intE, Option.getD_some, Option.isSome_some] at hlook
  rw [hc3] at b4
  clear h
  go_enter Try.func32, Try.ntmps32
  go_wp2_with fail
  go_ret
  exact ⟨rfl, rfl⟩

set_option maxHeartbeats 4000000 in
theorem take_miss (h : Bu C w ns false N m1 m2 m3) (F : Fr C w base2 a2 M2 v2 most2 ns2) (hv2 : v2 ≤ C.vars) {c3 : Nat} (hc3 : C.c3 = some c3) {f k : Nat} (f2 : 2 ≤ f) (hf : f < ns2.length) (hr : m3 f = none) (hk : v2 ≤ nv ns2 f + (k + 1)) (hmt : MemoT ns ns2 m3) (hN : N + 2 ^ (k + 1) ≤ 1099511627776)
    (ih : Hq (∀ w ns full N m3 f, Bu C w ns full N m1 m2 m3 → Fr C w base2 a2 M2 v2 most2 ns2 → f < ns2.length → v2 ≤ nv ns2 f + k → (full = false → MemoT ns ns2 m3) → N + 2 ^ k ≤ 1099511627776 → Calls Try.prog 32 #[.pointer (some ⟨C.b, 0, none⟩), .pointer (some ⟨a2, 0, none⟩), .int .i64 (f : Int)] w (TakePost C w ns ns2 full N m1 m2 f (2 ^ k - 1)))) :
    Calls Try.prog 32 #[.pointer (some ⟨C.b, 0, none⟩), .pointer (some ⟨a2, 0, none⟩), .int .i64 (f : Int)] w (TakePost C w ns ns2 false N m1 m2 f (2 ^ (k + 1) - 1)) := by
  have hA := (At.refl h).alloc (.cells #[.int .i64 (nv ns2 f : Int), .int .i64 (nl ns2 f : Int), .int .i64 (nh ns2 f : Int)] 59)
  have L := h.loc #[.int .i64 (nv ns2 f : Int), .int .i64 (nl ns2 f : Int), .int .i64 (nh ns2 f : Int)] 59
  have F1 := F.kp hA.kp
  obtain ⟨b0, b1, b2, b3, b4, bf⟩ := h.reads
  obtain ⟨cap, a0, a1, ac2, a3, af, an⟩ := F.ar.reads
  obtain ⟨n0, n1, n2⟩ := an f hf
  have hl2 : ns2.length ≤ 40000 := Nat.le_trans F.ar.le F.ar.most4
  have hl : ns.length ≤ 40000 := Nat.le_trans h.ar.le h.ar.most4
  have lb := h.ltb
  have wf := h.ar.wf
  have wf2 := F.ar.wf
  have hlo := wf2.lo f f2 hf
  have hhi := wf2.hi f f2 hf
  have vlo := wf2.vlo f f2 hf
  have vhi := wf2.vhi f f2 hf
  have vva := wf2.va f f2 hf
  have hp2 : 2 ^ (k + 1) = 2 * 2 ^ k := by rw [Nat.pow_succ]; omega
  have hp1 : 1 ≤ 2 ^ k := Nat.one_le_two_pow
  have t1 : decide ((f : Int) ≤ 1) = false := by simp; omega
  have hlook := (h.o3 c3 hc3).look Try.u47 (x := f) (by show f < _; omega)
  rw [hr] at hlook
  simp only [intE, Option.getD_none, Option.isSome_none] at hlook
  rw [hc3] at b4
  clear h an F
  generalize rowOf w a2 = g at *
  go_enter Try.func32, Try.ntmps32
  go_wp2_with fail
  refine (ih.out _ ns false N m3 (nl ns2 f) hA.bu F1 (by omega) (by omega) (fun _ => hmt) (by omega)).mono ?_
  rintro e w4 ⟨f0, ns1, full1, N1, m31, rfl, hp, X1, l1, k1, lt0, _, s1⟩
  have hA4 := hA.then hp
  have L4 := L.kp hp.kp
  have F4 := F1.kp hp.kp
  clear hp hA L hlook b0 b1 b2 b3 b4 bf a0 a1 ac2 a3 af n0 n1 n2 F1
  have wf1 := hA4.bu.ar.wf
  have X1l := X1.len
  obtain ⟨⟨q0, q1, q2⟩, _⟩ := L4.reads
  go_wp2_with fail
  refine (ih.out _ ns1 full1 N1 m31 (nh ns2 f) hA4.bu F4 (by omega) (by omega) (fun e => (s1 e).1) (by omega)).mono ?_
  rintro e w6 ⟨f1, ns3, full2, N2, m32, rfl, hp, X2, l2, k2, lt1, mo2, s2⟩
  have hA6 := hA4.then hp
  have L6 := L4.kp hp.kp
  clear hp L4 hA4 q0 q1 q2 F4
  have wf3 := hA6.bu.ar.wf
  have X2l := X2.len
  have X02 := X1.trans X2
  have sem2 : full2 = false → MemoT ns3 ns2 m32 ∧ IsTk ns3 ns2 (nl ns2 f) f0 ∧ IsTk ns3 ns2 (nh ns2 f) f1 := fun e2 => by
    have e1 : full1 = false := by cases full1 <;> simp_all
    exact ⟨(s2 e2).1, (s1 e1).2.ext X2 wf1 wf3, (s2 e2).2⟩
  obtain ⟨⟨q0, q1, q2⟩, _⟩ := L6.reads
  go_wp2_with fail
  refine (numberOf_any hA6.bu (v := nv ns2 f) (l := f0) (u := f1) (by omega) (by omega) lt1 (fun e2 => ?_)).mono ?_
  · obtain ⟨_, a1, a2⟩ := sem2 e2
    have c1 := a1.va
    have c2 := a2.va
    omega
  rintro e w7 ⟨r, ns4, full3, rfl, hp, X3, l3, lt3, mo3, s3⟩
  have hA7 := hA6.then hp
  clear hp L6 hA6 q0 q1 q2
  have wf4 := hA7.bu.ar.wf
  have len3 : ns4.length ≤ 40000 := Nat.le_trans hA7.bu.ar.le hA7.bu.ar.most4
  obtain ⟨w8, hrun, hM8, hg8⟩ := (hA7.bu.o3 c3 hc3).store Try.u47 (by unfold maxLen; omega) (x := f) (by show f < _; omega) (v := r) (by omega)
  have hA8 := hA7.memo3 hc3 hM8 hg8
  obtain ⟨d0, d1, d2, d3, d4, df⟩ := hA7.bu.reads
  rw [hc3] at d4
  simp only [intE] at hrun
  have hfin : TakePost C w ns ns2 false N m1 m2 f (2 ^ (k + 1) - 1) (.returned (.int .i64 (r : Int))) w8 := by
    refine ⟨r, ns4, full3, N2 + 1, _, rfl, hA8, X02.trans X3, by omega, by omega, lt3, (fun e => by cases e), fun e3 => ?_⟩
    have e2 : full2 = false := by cases full2 <;> simp_all
    obtain ⟨a00, a1, a2⟩ := sem2 e2
    have J : IsTk ns4 ns2 f r := isTk_join wf2 f2 hf (a1.ext X3 wf3 wf4) (a2.ext X3 wf3 wf4) (s3 e3)
    exact ⟨(a00.ext X3 wf3 wf4).upd J, J⟩
  clear hA7 hM8 hg8 hA8
  go_wp2_with fail
  go_ret
  exact hfin

theorem take_any {c3 : Nat} (hc3 : C.c3 = some c3) (hv2 : v2 ≤ C.vars) : ∀ (k : Nat) (w : World) (ns : List Nd) (full : Bool) (N : Nat) (m3 : Nat → Option Nat) (f : Nat), Bu C w ns full N m1 m2 m3 → Fr C w base2 a2 M2 v2 most2 ns2 → f < ns2.length → v2 ≤ nv ns2 f + k →
    (full = false → MemoT ns ns2 m3) → N + 2 ^ k ≤ 1099511627776 → Calls Try.prog 32 #[.pointer (some ⟨C.b, 0, none⟩), .pointer (some ⟨a2, 0, none⟩), .int .i64 (f : Int)] w (TakePost C w ns ns2 full N m1 m2 f (2 ^ k - 1)) := by
  intro k
  induction k with
  | zero =>
    intro w ns full N m3 f h F hf hk hm hN
    have small : f ≤ 1 := by
      rcases Nat.lt_or_ge f 2 with h2 | h2
      · omega
      · have := F.ar.wf.va f h2 hf
        omega
    cases full
    · refine (take_small h small).mono ?_
      rintro e w' ⟨rfl, rfl⟩
      exact ⟨f, ns, false, N, m3, rfl, At.refl h, Ext.refl _, by omega, by omega, (by have := h.ar.wf.len; omega), id, fun _ => ⟨hm rfl, isTk_small h.ar.wf F.ar.wf hv2 small⟩⟩
    · refine (take_full h f).mono ?_
      rintro e w' ⟨rfl, rfl⟩
      exact ⟨0, ns, true, N, m3, rfl, At.refl h, Ext.refl _, by omega, by omega, (by have := h.ar.wf.len; omega), id, fun e => by cases e⟩
  | succ k ih =>
    intro w ns full N m3 f h F hf hk hm hN
    cases full
    · rcases Nat.lt_or_ge f 2 with h2 | h2
      · refine (take_small h (by omega)).mono ?_
        rintro e w' ⟨rfl, rfl⟩
        exact ⟨f, ns, false, N, m3, rfl, At.refl h, Ext.refl _, by omega, by omega, (by have := h.ar.wf.len; omega), id, fun _ => ⟨hm rfl, isTk_small h.ar.wf F.ar.wf hv2 (by omega)⟩⟩
      · cases hr : m3 f with
        | none => exact take_miss h F hv2 hc3 h2 hf hr hk (hm rfl) hN ⟨ih⟩
        | some r =>
          have hl2 : ns2.length ≤ 40000 := Nat.le_trans F.ar.le F.ar.most4
          refine (take_hit h hc3 h2 (by omega) hr).mono ?_
          rintro e w' ⟨rfl, rfl⟩
          have J := hm rfl _ _ hr
          exact ⟨r, ns, false, N, m3, rfl, At.refl h, Ext.refl _, by omega, by omega, J.lt, id, fun _ => ⟨hm rfl, J⟩⟩
    · refine (take_full h f).mono ?_
      rintro e w' ⟨rfl, rfl⟩
      exact ⟨0, ns, true, N, m3, rfl, At.refl h, Ext.refl _, by omega, by omega, (by have := h.ar.wf.len; omega), id, fun e => by cases e⟩
end
end Go.Proofs.Ytnjfckbpmilhnaa



namespace Go.Proofs.Ytnjfckbpmilhnaa
open Go.RowKit Go.Maps

theorem Ar.drewT {base a M vars most : Nat} {w : World} {ns : List Nd} (h : Ar base a M vars most w ns) : Ar base a M vars most w.drew ns := h.same rfl rfl rfl

set_option maxHeartbeats 4000000 in
theorem take_ok {base a M vars most base2 a2 M2 v2 most2 : Nat} {w : World} {ns ns2 : List Nd} (h : Ar base a M vars most w ns) (h2 : Ar base2 a2 M2 v2 most2 w ns2) (hv2 : v2 ≤ vars) (p1 : a < base2) (p2 : M < base2) (p3 : rowOf w a < base2) {f : Nat} (hf : f < ns2.length) :
    Calls Try.prog 22 #[.pointer (some ⟨a, 0, none⟩), .pointer (some ⟨a2, 0, none⟩), .int .i64 (f : Int)] w (OpPost base a M vars most w ns (2 ^ v2 - 1) fun q => ev ns2 f q) := by
  have hmm := @run_makeMap Try.prog
  have la := h.lta
  have lM := h.ltM
  have hA := h.lowA
  have v16 := h2.vars16
  have wf := h.wf
  have t1 : (decide ((0 : Int) ≤ (f : Int)) && decide ((f : Int) < (ns2.length : Int))) = true := by simp; omega
  have HF : Hid (∀ w', Ar base2 a2 M2 v2 most2 w' ns2 → Calls Try.prog 24 #[.pointer (some ⟨a2, 0, none⟩), .int .i64 (f : Int)] w' fun e w'' => e = .returned (.bool true) ∧ w'' = w') := fun w' h' => by
    have := hasFunction_any h' (f : Int)
    rw [t1] at this
    exact this
  have t2 : decide ((vars : Int) < (v2 : Int)) = false := by simp; omega
  have hs : ((w.drew).alloc (.map #[] 0)).heap.size = w.heap.size + 1 := by simp
  have hb := bu_new (w := (w.drew).alloc (.map #[] 0)) (C := ⟨base, a, w.heap.size + 1, M, none, none, some w.heap.size, vars, most⟩) (m1 := fun _ => none) (m2 := fun _ => none) (m3 := fun _ => none) ((h.drewT).alloc _) (by simp) (by rw [hs]; show base ≤ _; omega)
    (fun _ e => by cases e) (fun _ e => by cases e) (fun i e => by cases e; exact mapIs_made intE w.drew) (fun _ e => by cases e) (fun _ e => by cases e) (fun i e => by cases e; exact ⟨by show base ≤ _; omega, by show w.heap.size ≠ M; omega, (fun e => by cases e), (fun e => by cases e)⟩)
  obtain ⟨_, _, rb2, rl2⟩ := h2.row
  have la2 := h2.lta
  have lM2 := h2.ltM
  have lo2 := h2.lowA
  have loM2 := h2.lowM
  have hrow : rowOf (((w.drew).alloc (.map #[] 0)).alloc (.cells #[.pointer (some ⟨a, 0, none⟩), .bool false, .map none, .map none, .map (some w.heap.size)] 77)) a = rowOf w a := by
    rw [rowOf_same (Below.heap_alloc _ _ _ (by simp; omega)), rowOf_same (Below.heap_alloc w.drew _ _ la)]
    rfl
  have hrow2 : rowOf (((w.drew).alloc (.map #[] 0)).alloc (.cells #[.pointer (some ⟨a, 0, none⟩), .bool false, .map none, .map none, .map (some w.heap.size)] 77)) a2 = rowOf w a2 := by
    rw [rowOf_same (Below.heap_alloc _ _ _ (by simp; omega)), rowOf_same (Below.heap_alloc w.drew _ _ la2)]
    rfl
  have out : ∀ i, base2 ≤ i → i < w.heap.size → Out ⟨base, a, w.heap.size + 1, M, none, none, some w.heap.size, vars, most⟩ (((w.drew).alloc (.map #[] 0)).alloc (.cells #[.pointer (some ⟨a, 0, none⟩), .bool false, .map none, .map none, .map (some w.heap.size)] 77)) i := by
    intro i h1 h2
    refine ⟨by simp; omega, ?_, ?_⟩
    · rintro (e | e | e | e | e | e)
      · have e' : i = a := e; omega
      · have e' : i = w.heap.size + 1 := e; omega
      · have e' : i = M := e; omega
      · cases e
      · cases e
      · cases e; omega
    · show i ≠ rowOf _ a
      rw [hrow]
      omega
  have hFr : Fr ⟨base, a, w.heap.size + 1, M, none, none, some w.heap.size, vars, most⟩ (((w.drew).alloc (.map #[] 0)).alloc (.cells #[.pointer (some ⟨a, 0, none⟩), .bool false, .map none, .map none, .map (some w.heap.size)] 77)) base2 a2 M2 v2 most2 ns2 :=
    ⟨((h2.drewT).alloc _).alloc _, out a2 lo2 la2, out M2 loM2 lM2, by rw [hrow2]; exact out _ rb2 rl2⟩
  have hpw := Nat.pow_le_pow_right (n := 2) (by omega) v16
  have hch := take_any (C := ⟨base, a, w.heap.size + 1, M, none, none, some w.heap.size, vars, most⟩) (c3 := w.heap.size) rfl hv2 v2 _ ns false 0 _ f hb hFr hf (Nat.le_add_left _ _) (fun _ _ _ e => by cases e) (by omega)
  have hch' := Hq.mk hch
  obtain ⟨cap, a0, _⟩ := h.reads
  obtain ⟨cap2, b0, _⟩ := h2.reads
  have a0' : w.drew.cell? ⟨a, 0, none⟩ = some (.int .i64 (vars : Int)) := a0
  have b0' : w.drew.cell? ⟨a2, 0, none⟩ = some (.int .i64 (v2 : Int)) := b0
  have h2d := h2.drewT
  clear hch hb hFr out hrow hrow2 hpw
  go_enter Try.func22, Try.ntmps22
  go_wp2_with fail
  go_region_held3 (fun w' => w'.cell? ⟨a, 0, none⟩ = some (.int .i64 (vars : Int)) ∧ w'.cell? ⟨a2, 0, none⟩ = some (.int .i64 (v2 : Int))) (exact ⟨by assumption, by assumption⟩)
    (first | (go_at_call 24; refine (HF.out _ (by assumption)).mono ?_; rintro e wn ⟨rfl, rfl⟩))
  go_wp2_with fail
  refine hch'.out.mono ?_
  rintro e w2 ⟨r, ns', full', N', m3', rfl, hp, X, l1, _, lt, _, sm⟩
  have wf' := hp.bu.ar.wf
  have hK : Kp (ca base a M vars most) w w2 := hp.kp.outer rfl rfl rfl rfl (by simp; omega) (fun i hi => (Below.heap_alloc _ _ _ (by simp; omega)).trans (Below.heap_alloc _ _ _ hi)) (by
    rintro i (e | e | e | e | e | e)
    · exact Or.inl e
    · exact Or.inr (Or.inr (by rw [e]; show _ ≤ w.heap.size + 1; omega))
    · exact Or.inr (Or.inl e)
    · cases e
    · cases e
    · cases e; exact Or.inr (Or.inr (Nat.le_refl _))) la
  go_wp2_with fail
  cases full'
  · refine (answer_any hp.bu r).mono ?_
    rintro e w3 ⟨rfl, rfl⟩
    have hfin : OpPost base a M vars most w ns (2 ^ v2 - 1) (fun q => ev ns2 f q) (.returned (.tuple #[.int .i64 (r : Int), .int .i64 0])) w3 :=
      ⟨ns', hp.bu.ar, hK, X, l1, Or.inl ⟨r, rfl, lt, fun q => (sm rfl).2.ev q⟩⟩
    clear hp hK
    go_wp2_with fail
    go_ret2
    exact hfin
  · refine (answer_any hp.bu r).mono ?_
    rintro e w3 ⟨rfl, rfl⟩
    have hfin : OpPost base a M vars most w ns (2 ^ v2 - 1) (fun q => ev ns2 f q) (.returned (.tuple #[.int .i64 0, .int .i64 6])) w3 :=
      ⟨ns', hp.bu.ar, hK, X, l1, Or.inr ⟨rfl, hp.bu.full_len rfl⟩⟩
    clear hp hK
    go_wp2_with fail
    go_ret2
    exact hfin

theorem Ar.kalloc2 {base a M vars most : Nat} {w : World} {ns : List Nd} (h : Ar base a M vars most w ns) (o : Obj) : Kp (ca base a M vars most) w (w.alloc o) :=
  ⟨rfl, rfl, rfl, by simp, fun i hi _ _ => Below.heap_alloc w o i hi, Or.inl (rowOf_same (Below.heap_alloc w o _ h.lta))⟩

set_option maxHeartbeats 4000000 in
theorem take_const {base a M vars most base2 a2 M2 v2 most2 : Nat} {w : World} {ns ns2 : List Nd} (h : Ar base a M vars most w ns) (h2 : Ar base2 a2 M2 v2 most2 w ns2) (hv2 : v2 ≤ vars) {f : Nat} (hf1 : f ≤ 1) :
    Calls Try.prog 22 #[.pointer (some ⟨a, 0, none⟩), .pointer (some ⟨a2, 0, none⟩), .int .i64 (f : Int)] w fun e w' => e = .returned (.tuple #[.int .i64 (f : Int), .int .i64 0]) ∧ Ar base a M vars most w' ns ∧ Kp (ca base a M vars most) w w' := by
  have hf : f < ns2.length := by have := h2.wf.len; omega
  have hmm := @run_makeMap Try.prog
  have la := h.lta
  have lM := h.ltM
  have hA := h.lowA
  have t1 : (decide ((0 : Int) ≤ (f : Int)) && decide ((f : Int) < (ns2.length : Int))) = true := by simp; omega
  have HF : Hid (∀ w', Ar base2 a2 M2 v2 most2 w' ns2 → Calls Try.prog 24 #[.pointer (some ⟨a2, 0, none⟩), .int .i64 (f : Int)] w' fun e w'' => e = .returned (.bool true) ∧ w'' = w') := fun w' h' => by
    have := hasFunction_any h' (f : Int)
    rw [t1] at this
    exact this
  have t2 : decide ((vars : Int) < (v2 : Int)) = false := by simp; omega
  have hs : ((w.drew).alloc (.map #[] 0)).heap.size = w.heap.size + 1 := by simp
  have hb := bu_new (w := (w.drew).alloc (.map #[] 0)) (C := ⟨base, a, w.heap.size + 1, M, none, none, some w.heap.size, vars, most⟩) (m1 := fun _ => none) (m2 := fun _ => none) (m3 := fun _ => none) ((h.drewT).alloc _) (by simp) (by rw [hs]; show base ≤ _; omega)
    (fun _ e => by cases e) (fun _ e => by cases e) (fun i e => by cases e; exact mapIs_made intE w.drew) (fun _ e => by cases e) (fun _ e => by cases e) (fun i e => by cases e; exact ⟨by show base ≤ _; omega, by show w.heap.size ≠ M; omega, (fun e => by cases e), (fun e => by cases e)⟩)
  have hch := take_small (a2 := a2) hb hf1
  have hch' := Hq.mk hch
  obtain ⟨cap, a0, _⟩ := h.reads
  obtain ⟨cap2, b0, _⟩ := h2.reads
  have a0' : w.drew.cell? ⟨a, 0, none⟩ = some (.int .i64 (vars : Int)) := a0
  have b0' : w.drew.cell? ⟨a2, 0, none⟩ = some (.int .i64 (v2 : Int)) := b0
  have h2d := h2.drewT
  have hb' := Hq.mk hb
  clear hch hb
  go_enter Try.func22, Try.ntmps22
  go_wp2_with fail
  go_region_held3 (fun w' => w'.cell? ⟨a, 0, none⟩ = some (.int .i64 (vars : Int)) ∧ w'.cell? ⟨a2, 0, none⟩ = some (.int .i64 (v2 : Int))) (exact ⟨by assumption, by assumption⟩)
    (first | (go_at_call 24; refine (HF.out _ (by assumption)).mono ?_; rintro e wn ⟨rfl, rfl⟩))
  go_wp2_with fail
  refine hch'.out.mono ?_
  rintro e w2 ⟨rfl, rfl⟩
  have hK : Kp (ca base a M vars most) w (((w.drew).alloc (.map #[] 0)).alloc (.cells #[.pointer (some ⟨a, 0, none⟩), .bool false, .map none, .map none, .map (some w.heap.size)] 77)) := (Kp.refl (ca base a M vars most) w).drew.trans ((h.drewT.kalloc2 _).trans ((h.drewT.alloc _).kalloc2 _))
  have hA9 := ((h.drewT).alloc (.map #[] 0)).alloc (.cells #[.pointer (some ⟨a, 0, none⟩), .bool false, .map none, .map none, .map (some w.heap.size)] 77)
  go_wp2_with fail
  refine (answer_any hb'.out f).mono ?_
  rintro e w3 ⟨rfl, rfl⟩
  have fin := Hq.mk (And.intro hA9 hK)
  clear hA9 hK hb'
  go_wp2_with fail
  go_ret2
  exact ⟨rfl, fin.out⟩
end Go.Proofs.Ytnjfckbpmilhnaa



namespace Go.Proofs.Ytnjfckbpmilhnaa
open Go.RowKit

theorem letsB_drop {xs : List Rl} {k : Nat} {r : Rl} (h : xs[k]? = some r) (p q s t : Int) : letsB (xs.drop k) p q s t = if inR r p q s t then r.ok else letsB (xs.drop (k + 1)) p q s t := by
  obtain ⟨hk, e⟩ := List.getElem?_eq_some_iff.1 h
  rw [List.drop_eq_getElem_cons hk, e]
  rfl

end Go.Proofs.Ytnjfckbpmilhnaa



namespace Go.Proofs.Ytnjfckbpmilhnaa
open Go.RowKit Go.Maps

theorem check_ok (A : Option Addr) (n cap : Nat) (w : World) : Calls Try.prog 10 #[.slice A n cap] w fun e w' => e = .returned (.int .i64 (if 8 < n then 2 else 0)) ∧ w' = w := by
  by_cases h : 8 < n
  · have t : decide ((8 : Int) < (n : Int)) = true := by simp; omega
    rw [if_pos h]
    go_enter Try.func10, Try.ntmps10
    go_wp2_with fail
    go_ret
    exact ⟨rfl, rfl⟩
  · have t : decide ((8 : Int) < (n : Int)) = false := by simp; omega
    rw [if_neg h]
    go_enter Try.func10, Try.ntmps10
    go_wp2_with fail
    go_ret
    exact ⟨rfl, rfl⟩

/-- What Build leaves. -/
def BPost (E : Prop) (base a M : Nat) (w : World) (ns : List Nd) (xs : List Rl) (e : Ending) (w' : World) : Prop :=
  ∃ ns', Ar base a M 14 40000 w' ns' ∧ Kp (ca base a M 14 40000) w w' ∧ Ext ns ns' ∧
    ((∃ f : Nat, e = .returned (.tuple #[.int .i64 (f : Int), .int .i64 0]) ∧ f < ns'.length ∧ ∀ x, ev ns' f x = letsF xs x) ∨ (e = .returned (.tuple #[.int .i64 0, .int .i64 6]) ∧ E))

theorem BPost.pair {E : Prop} {base a M : Nat} {w w' : World} {ns : List Nd} {xs : List Rl} {e : Ending} (h : BPost E base a M w ns xs e w') :
    ∃ (ns' : List Nd) (v er : Int), e = .returned (.tuple #[.int .i64 v, .int .i64 er]) ∧ Ar base a M 14 40000 w' ns' ∧ Kp (ca base a M 14 40000) w w' ∧ Ext ns ns' ∧
      Hid ((er = 0 ∧ ∃ f : Nat, v = (f : Int) ∧ f < ns'.length ∧ ∀ x, ev ns' f x = letsF xs x) ∨ (er = 6 ∧ v = 0 ∧ E)) := by
  obtain ⟨ns', r1, r2, r3, ⟨f, e1, e2⟩ | ⟨e1, e2⟩⟩ := h
  · exact ⟨ns', f, 0, e1, r1, r2, r3, Or.inl ⟨rfl, f, rfl, e2⟩⟩
  · exact ⟨ns', 0, 6, e1, r1, r2, r3, Or.inr ⟨rfl, rfl, e2⟩⟩

set_option maxHeartbeats 1000000 in
theorem abuild_large (p : Value) (A : Option Addr) (n cap : Nat) (hn : 8 < n) (w : World) :
    Calls Try.prog 13 #[p, .slice A n cap] w fun e w' => e = .returned (.tuple #[.int .i64 0, .int .i64 2]) ∧ w' = w := by
  have CK : Hid (∀ w, Calls Try.prog 10 #[.slice A n cap] w fun e w' => e = .returned (.int .i64 2) ∧ w' = w) := fun w => by
    have := check_ok A n cap w
    rw [if_pos hn] at this
    exact this
  clear hn
  go_enter Try.func13, Try.ntmps13
  go_wp2_with (go_at_call 10; refine (CK.out _).mono ?_; rintro e w' ⟨rfl, rfl⟩)
  go_ret2
  exact ⟨rfl, rfl⟩

set_option maxHeartbeats 4000000 in
set_option maxRecDepth 100000 in
theorem abuild_ok {base a M : Nat} {w : World} {ns : List Nd} (h : Ar base a M 14 40000 w ns) (A : Option Addr) (n cap : Nat) (xs : List Rl) (hR : Rules w.heap.size w (.slice A n cap) xs) (hlen : xs.length ≤ 8) :
    Calls Try.prog 13 #[.pointer (some ⟨a, 0, none⟩), .slice A n cap] w (BPost True base a M w ns xs) := by
  have hn : n = xs.length := by
    obtain ⟨_, _, e, _⟩ := hR
    cases e
    rfl
  have CK : Hid (∀ w, Calls Try.prog 10 #[.slice A n cap] w fun e w' => e = .returned (.int .i64 0) ∧ w' = w) := fun w => by
    have := check_ok A n cap w
    rw [if_neg (by omega)] at this
    exact this
  have NW : Hid (Calls Try.prog 17 #[.int .i64 14, .int .i64 40000] w fun e w' => ∃ a2 M2, e = .returned (.tuple #[.pointer (some ⟨a2, 0, none⟩), .int .i64 0]) ∧ Ar w.heap.size a2 M2 14 40000 w' [(14, 0, 0), (14, 1, 1)] ∧ Below w.heap.size w w') := new_ok (v := 14) (m := 40000) w (by omega) (by omega) (by omega) (by omega)
  clear hn
  go_enter Try.func13, Try.ntmps13
  go_wp2_with (go_at_call 10; refine (CK.out _).mono ?_; rintro e w' ⟨rfl, rfl⟩)
  refine NW.out.mono ?_
  rintro e w2 ⟨a2, M2, rfl, A2, hb2⟩
  have JO : Hid (Calls Try.prog 21 #[.pointer (some ⟨a2, 0, none⟩), .slice A n cap] w2 fun e w' => ∃ ns', Ar _ a2 M2 14 40000 w' ns' ∧ Below _ w2 w' ∧
      ((∃ f : Nat, e = .returned (.tuple #[.int .i64 (f : Int), .int .i64 0]) ∧ f < ns'.length ∧ ∀ x, ev ns' f x = letsF xs x) ∨ (e = .returned (.tuple #[.int .i64 0, .int .i64 6]) ∧ _))) := join_ok A2 A n cap xs (hR.below hb2) hlen
  clear CK NW
  go_wp2_with fail
  refine JO.out.mono ?_
  rintro e w3 ⟨ns3, A3, hb3, hres⟩
  have D3 := hb2.trans hb3
  have H3 := h.below D3
  have K3 := h.kbelow D3
  clear JO hb2 hb3 A2
  rcases hres with ⟨f, rfl, lf, ef⟩ | ⟨rfl, _⟩
  · obtain ⟨_, _, _, rl⟩ := h.row
    have hrow := rowOf_same (D3.block a h.lta)
    have TK : Hid (Calls Try.prog 22 #[.pointer (some ⟨a, 0, none⟩), .pointer (some ⟨a2, 0, none⟩), .int .i64 (f : Int)] w3 (OpPost base a M 14 40000 w3 ns (2 ^ 14 - 1) fun q => ev ns3 f q)) := take_ok H3 A3 (Nat.le_refl _) h.lta h.ltM (by rw [hrow]; exact rl) lf
    clear hrow rl A3
    go_wp2_with fail
    refine TK.out.mono ?_
    rintro e w4 hp
    obtain ⟨ns4, v4, er4, rfl, A4, K4, X4, _, d4⟩ := hp.pair
    have KK := K3.trans K4
    clear hp TK H3 K3 K4 D3
    have fin : Hid (BPost True base a M w' ns xs (.returned (.tuple #[.int .i64 v4, .int .i64 er4])) w4) := by
      rcases d4.out with ⟨rfl, f4, rfl, l4, e4⟩ | ⟨rfl, rfl, _⟩
      · exact ⟨ns4, A4, KK, X4, .inl ⟨f4, rfl, l4, fun x => (e4 x).trans (ef x)⟩⟩
      · exact ⟨ns4, A4, KK, X4, .inr ⟨rfl, trivial⟩⟩
    clear d4 A4 KK X4 ef
    go_wp2_with fail
    go_ret2
    exact fin.out
  · have fin : Hid (BPost True base a M w' ns xs (.returned (.tuple #[.int .i64 0, .int .i64 6])) w3) := ⟨ns, H3, K3, Ext.refl _, .inr ⟨rfl, trivial⟩⟩
    clear H3 K3 D3 A3
    go_wp2_with fail
    go_ret2
    exact fin.out
set_option maxHeartbeats 4000000 in
set_option maxRecDepth 100000 in
/-- Build, of at most two rules whose function hangs on nothing: it finds room. -/
theorem abuild_const {base a M : Nat} {w : World} {ns : List Nd} (h : Ar base a M 14 40000 w ns) (A : Option Addr) (n cap : Nat) (xs : List Rl) (hR : Rules w.heap.size w (.slice A n cap) xs) (hlen : xs.length ≤ 2) (b : Bool) (hc : ∀ x, letsF xs x = b) :
    Calls Try.prog 13 #[.pointer (some ⟨a, 0, none⟩), .slice A n cap] w (BPost False base a M w ns xs) := by
  have hn : n = xs.length := by
    obtain ⟨_, _, e, _⟩ := hR
    cases e
    rfl
  have CK : Hid (∀ w, Calls Try.prog 10 #[.slice A n cap] w fun e w' => e = .returned (.int .i64 0) ∧ w' = w) := fun w => by
    have := check_ok A n cap w
    rw [if_neg (by omega)] at this
    exact this
  have NW : Hid (Calls Try.prog 17 #[.int .i64 14, .int .i64 40000] w fun e w' => ∃ a2 M2, e = .returned (.tuple #[.pointer (some ⟨a2, 0, none⟩), .int .i64 0]) ∧ Ar w.heap.size a2 M2 14 40000 w' [(14, 0, 0), (14, 1, 1)] ∧ Below w.heap.size w w') := new_ok (v := 14) (m := 40000) w (by omega) (by omega) (by omega) (by omega)
  clear hn
  go_enter Try.func13, Try.ntmps13
  go_wp2_with (go_at_call 10; refine (CK.out _).mono ?_; rintro e w' ⟨rfl, rfl⟩)
  refine NW.out.mono ?_
  rintro e w2 ⟨a2, M2, rfl, A2, hb2⟩
  have JO : Hid (Calls Try.prog 21 #[.pointer (some ⟨a2, 0, none⟩), .slice A n cap] w2 fun e w' => ∃ ns', Ar _ a2 M2 14 40000 w' ns' ∧ Below _ w2 w' ∧
      ((∃ f : Nat, e = .returned (.tuple #[.int .i64 (f : Int), .int .i64 0]) ∧ f < ns'.length ∧ ∀ x, ev ns' f x = letsF xs x) ∨ (e = .returned (.tuple #[.int .i64 0, .int .i64 6]) ∧ _))) := join_ok A2 A n cap xs (hR.below hb2) (by omega)
  clear CK NW
  go_wp2_with fail
  refine JO.out.mono ?_
  rintro e w3 ⟨ns3, A3, hb3, hres⟩
  have D3 := hb2.trans hb3
  have H3 := h.below D3
  have K3 := h.kbelow D3
  clear JO hb2 hb3 A2
  obtain ⟨f, rfl, lf, ef⟩ : ∃ f : Nat, e = .returned (.tuple #[.int .i64 (f : Int), .int .i64 0]) ∧ f < ns3.length ∧ ∀ x, ev ns3 f x = letsF xs x := by
    rcases hres with h | ⟨_, h⟩
    · exact h
    · simp only [List.length_cons, List.length_nil] at h
      omega
  have l3 := A3.wf.len
  have hf : f = if b then 1 else 0 := by
    refine canon A3.wf lf (by split <;> omega) (fun x => ?_)
    rw [ef x, hc x]
    cases b
    · rfl
    · simp [ev1]
  have TK : Hid (Calls Try.prog 22 #[.pointer (some ⟨a, 0, none⟩), .pointer (some ⟨a2, 0, none⟩), .int .i64 (f : Int)] w3 fun e w' => e = .returned (.tuple #[.int .i64 (f : Int), .int .i64 0]) ∧ Ar base a M 14 40000 w' ns ∧ Kp (ca base a M 14 40000) w3 w') := take_const H3 A3 (Nat.le_refl _) (by rw [hf]; split <;> omega)
  have h2 := h.wf.len
  have hlt : f < ns.length := by rw [hf]; split <;> omega
  have hev : ∀ x, ev ns f x = letsF xs x := fun x => by
    rw [hc x, hf]
    cases b
    · rfl
    · simp [ev1]
  have EV : Hid (∀ x, ev ns f x = letsF xs x) := hev
  clear hf hev ef A3 H3 hc hres
  go_wp2_with fail
  refine TK.out.mono ?_
  rintro e w4 ⟨rfl, A4, K4⟩
  have fin : Hid (BPost False base a M w' ns xs (.returned (.tuple #[.int .i64 (f : Int), .int .i64 0])) w4) := ⟨ns, A4, K3.trans K4, Ext.refl _, .inl ⟨f, rfl, hlt, EV.out⟩⟩
  clear A4 K4 K3 TK EV D3
  go_wp2_with fail
  go_ret2
  exact fin.out
end Go.Proofs.Ytnjfckbpmilhnaa



namespace Go.Proofs.Ytnjfckbpmilhnaa

/-- What the search for the least difference of f and g knows, when it stands at F and G with the bits b. -/
structure Dif (vars : Nat) (ns : List Nd) (f g F G b : Nat) : Prop where
  lF : F < ns.length
  lG : G < ns.length
  ne : F ≠ G
  mul : 2 ^ (vars - min (nv ns F) (nv ns G)) ∣ b
  top : b + 2 ^ (vars - min (nv ns F) (nv ns G)) ≤ 2 ^ vars
  same : ∀ c, c < b → ev ns f (envOf vars c) = ev ns g (envOf vars c)
  evF : ∀ c, b ≤ c → c < b + 2 ^ (vars - min (nv ns F) (nv ns G)) → ev ns f (envOf vars c) = ev ns F (envOf vars c)
  evG : ∀ c, b ≤ c → c < b + 2 ^ (vars - min (nv ns F) (nv ns G)) → ev ns g (envOf vars c) = ev ns G (envOf vars c)

theorem envOf_low {vars v b c : Nat} (hv : v < vars) (hm : 2 ^ (vars - v) ∣ b) (h1 : b ≤ c) (h2 : c < b + 2 ^ (vars - 1 - v)) : envOf vars c v = false := by
  obtain ⟨k, rfl⟩ := hm
  obtain ⟨d, rfl⟩ : ∃ d, c = 2 ^ (vars - v) * k + d := ⟨c - 2 ^ (vars - v) * k, by omega⟩
  have hd : d < 2 ^ (vars - 1 - v) := by omega
  unfold envOf
  rw [Nat.testBit_two_pow_mul_add _ (Nat.lt_of_lt_of_le hd (Nat.pow_le_pow_right (by omega) (by omega)))]
  rw [if_pos (by omega)]
  exact Nat.testBit_lt_two_pow hd
theorem envOf_high {vars v b c : Nat} (hv : v < vars) (hm : 2 ^ (vars - v) ∣ b) (h1 : b + 2 ^ (vars - 1 - v) ≤ c) (h2 : c < b + 2 ^ (vars - v)) : envOf vars c v = true := by
  obtain ⟨k, rfl⟩ := hm
  have hpos : 0 < 2 ^ (vars - 1 - v) := Nat.two_pow_pos _
  obtain ⟨d, rfl⟩ : ∃ d, c = 2 ^ (vars - v) * k + d := ⟨c - 2 ^ (vars - v) * k, by omega⟩
  have hd : d < 2 ^ (vars - v) := by omega
  have hd2 : 2 ^ (vars - 1 - v) ≤ d := by omega
  have e : vars - v = vars - 1 - v + 1 := by omega
  unfold envOf
  rw [Nat.testBit_two_pow_mul_add _ hd, if_pos (by omega)]
  rw [e] at hd
  rw [Nat.testBit_eq_decide_div_mod_eq]
  rw [Nat.pow_succ] at hd
  have h3 : d / 2 ^ (vars - 1 - v) = 1 := by
    have : 0 < 2 ^ (vars - 1 - v) := Nat.two_pow_pos _
    rw [Nat.div_eq_iff this]
    omega
  rw [h3]
  rfl

variable {vars : Nat} {ns : List Nd}

theorem partOf_low (h : Wf vars ns) {f v : Nat} (hf : f < ns.length) (hv : v < vars) (hle : v ≤ nv ns f) (val : Bool) {e : Env} (he : e v = val) : ev ns f e = ev ns (partOf ns f v val) e := by
  rw [partOf_ev h hf hv hle, setE_at he]
theorem partOf_le (h : Wf vars ns) {f v : Nat} (hf : f < ns.length) (hv : v < vars) (val : Bool) : partOf ns f v val ≤ f ∧ (nv ns f = v → partOf ns f v val < f) := by
  unfold partOf
  split
  · rename_i e
    have h2 := va_lt h hf (by omega)
    have := h.lo f h2 hf
    have := h.hi f h2 hf
    cases val <;> simp <;> omega
  · rename_i e
    exact ⟨Nat.le_refl _, fun x => absurd x e⟩
theorem partOf_ne (h : Wf vars ns) {F G v : Nat} (lF : F < ns.length) (lG : G < ns.length) (hv : v < vars) (hne : F ≠ G) (hm : v = min (nv ns F) (nv ns G)) (he : partOf ns F v false = partOf ns G v false) : partOf ns F v true ≠ partOf ns G v true := by
  unfold partOf at *
  by_cases h1 : nv ns F = v
  · by_cases h2 : nv ns G = v
    · simp only [h1, h2, if_true, Bool.false_eq_true, if_false] at he ⊢
      intro h3
      have a := va_lt h lF (by omega)
      have b := va_lt h lG (by omega)
      refine hne (h.uniq F G a lF b lG ?_)
      exact Prod.ext (h1.trans h2.symm) (Prod.ext he h3)
    · simp only [h1, h2, if_true, Bool.false_eq_true, if_false] at he ⊢
      have a := va_lt h lF (by omega)
      have := h.ne F a lF
      omega
  · by_cases h2 : nv ns G = v
    · simp only [h1, h2, if_true, Bool.false_eq_true, if_false] at he ⊢
      have b := va_lt h lG (by omega)
      have := h.ne G b lG
      omega
    · omega

theorem Dif.start {f g : Nat} (lf : f < ns.length) (lg : g < ns.length) (hne : f ≠ g) : Dif vars ns f g f g 0 :=
  ⟨lf, lg, hne, Nat.dvd_zero _, by rw [Nat.zero_add]; exact Nat.pow_le_pow_right (by omega) (by omega), fun c hc => by omega, fun _ _ _ => rfl, fun _ _ _ => rfl⟩
theorem Dif.low (h : Wf vars ns) {f g F G b v : Nat} (D : Dif vars ns f g F G b) (hv : v < vars) (hm : v = min (nv ns F) (nv ns G)) (hne : partOf ns F v false ≠ partOf ns G v false) :
    Dif vars ns f g (partOf ns F v false) (partOf ns G v false) b := by
  have l1 := partOf_va h D.lF hv (by omega) false
  have l2 := partOf_va h D.lG hv (by omega) false
  have hlt : vars - min (nv ns (partOf ns F v false)) (nv ns (partOf ns G v false)) ≤ vars - 1 - v := by omega
  have hpw : 2 ^ (vars - min (nv ns (partOf ns F v false)) (nv ns (partOf ns G v false))) ≤ 2 ^ (vars - 1 - v) := Nat.pow_le_pow_right (by omega) hlt
  have hpv : 2 ^ (vars - 1 - v) ≤ 2 ^ (vars - v) := Nat.pow_le_pow_right (by omega) (by omega)
  have m0 := D.mul
  have t0 := D.top
  rw [← hm] at m0 t0
  refine ⟨partOf_lt h D.lF hv false, partOf_lt h D.lG hv false, hne, Nat.dvd_trans (Nat.pow_dvd_pow 2 (by omega)) m0, by omega, D.same, fun c c1 c2 => ?_, fun c c1 c2 => ?_⟩
  · rw [← partOf_low h D.lF hv (by omega) false (envOf_low hv m0 c1 (by omega))]
    exact D.evF c c1 (by rw [← hm]; omega)
  · rw [← partOf_low h D.lG hv (by omega) false (envOf_low hv m0 c1 (by omega))]
    exact D.evG c c1 (by rw [← hm]; omega)
theorem Dif.high (h : Wf vars ns) {f g F G b v : Nat} (D : Dif vars ns f g F G b) (hv : v < vars) (hm : v = min (nv ns F) (nv ns G)) (he : partOf ns F v false = partOf ns G v false) :
    Dif vars ns f g (partOf ns F v true) (partOf ns G v true) (b + 2 ^ (vars - 1 - v)) := by
  have l1 := partOf_va h D.lF hv (by omega) true
  have l2 := partOf_va h D.lG hv (by omega) true
  have hlt : vars - min (nv ns (partOf ns F v true)) (nv ns (partOf ns G v true)) ≤ vars - 1 - v := by omega
  have hpw : 2 ^ (vars - min (nv ns (partOf ns F v true)) (nv ns (partOf ns G v true))) ≤ 2 ^ (vars - 1 - v) := Nat.pow_le_pow_right (by omega) hlt
  have hpv : 2 ^ (vars - v) = 2 ^ (vars - 1 - v) + 2 ^ (vars - 1 - v) := by
    rw [show vars - v = vars - 1 - v + 1 by omega, Nat.pow_succ]
    omega
  have m0 := D.mul
  have t0 := D.top
  rw [← hm] at m0 t0
  refine ⟨partOf_lt h D.lF hv true, partOf_lt h D.lG hv true, partOf_ne h D.lF D.lG hv D.ne hm he, Nat.dvd_trans (Nat.pow_dvd_pow 2 hlt) (Nat.dvd_add (Nat.dvd_trans (Nat.pow_dvd_pow 2 (by omega)) m0) (Nat.dvd_refl _)), by omega, fun c hc => ?_, fun c c1 c2 => ?_, fun c c1 c2 => ?_⟩
  · by_cases hb : c < b
    · exact D.same c hb
    · have lo := envOf_low hv m0 (by omega) hc
      rw [D.evF c (by omega) (by rw [← hm]; omega), D.evG c (by omega) (by rw [← hm]; omega), partOf_low h D.lF hv (by omega) false lo, partOf_low h D.lG hv (by omega) false lo, he]
  · have up := envOf_high hv m0 c1 (by omega)
    rw [← partOf_low h D.lF hv (by omega) true up]
    exact D.evF c (by omega) (by rw [← hm]; omega)
  · have up := envOf_high hv m0 c1 (by omega)
    rw [← partOf_low h D.lG hv (by omega) true up]
    exact D.evG c (by omega) (by rw [← hm]; omega)
theorem Dif.lt {f g F G b : Nat} (D : Dif vars ns f g F G b) : b < 2 ^ vars := by
  have := D.top
  have : 0 < 2 ^ (vars - min (nv ns F) (nv ns G)) := Nat.two_pow_pos _
  omega
/-- The least code of which f and g say otherwise. -/
def LeastD (n : Nat) (P Q : Nat → Bool) (c : Nat) : Prop := c < n ∧ P c ≠ Q c ∧ ∀ d, d < c → P d = Q d
theorem Dif.fin {f g F G b : Nat} (D : Dif vars ns f g F G b) (h1 : F ≤ 1) (h2 : G ≤ 1) : LeastD (2 ^ vars) (fun c => ev ns f (envOf vars c)) (fun c => ev ns g (envOf vars c)) b := by
  refine ⟨D.lt, ?_, D.same⟩
  have hp : 0 < 2 ^ (vars - min (nv ns F) (nv ns G)) := Nat.two_pow_pos _
  show ev ns f (envOf vars b) ≠ ev ns g (envOf vars b)
  rw [D.evF b (Nat.le_refl _) (by omega), D.evG b (Nat.le_refl _) (by omega)]
  have hn := D.ne
  match F, G, h1, h2 with
  | 0, 1, _, _ => rw [ev0, ev1]; decide
  | 1, 0, _, _ => rw [ev0, ev1]; decide
  | 0, 0, _, _ => exact absurd rfl hn
  | 1, 1, _, _ => exact absurd rfl hn
theorem or_add {vars v b : Nat} (hv : v < vars) (hm : 2 ^ (vars - v) ∣ b) : b ||| 2 ^ (vars - 1 - v) = b + 2 ^ (vars - 1 - v) := by
  obtain ⟨k, rfl⟩ := hm
  rw [Nat.two_pow_add_eq_or_of_lt]
  exact Nat.pow_lt_pow_right (by omega) (by omega)
end Go.Proofs.Ytnjfckbpmilhnaa



namespace Go.Proofs.Ytnjfckbpmilhnaa
open Go.RowKit Go.Maps

section
variable {base a M vars most : Nat} {w : World} {ns : List Nd}

set_option maxHeartbeats 1000000 in
theorem bit_ok (h : Ar base a M vars most w ns) {v : Nat} (hv : v < vars) : Calls Try.prog 26 #[.pointer (some ⟨a, 0, none⟩), .int .i64 (v : Int)] w fun e w' => e = .returned (.int .i64 ((2 ^ (vars - 1 - v) : Nat) : Int)) ∧ w' = w := by
  have v16 := h.vars16
  obtain ⟨cap, a0, a1, a2, a3, af, an⟩ := h.reads
  have wr1 : IntKind.i64.wrap ((vars : Int) - 1) = (vars : Int) - 1 := IntWalk.i64_in _ (by omega)
  have wr2 : IntKind.i64.wrap ((vars : Int) - 1 - (v : Int)) = (vars : Int) - 1 - (v : Int) := IntWalk.i64_in _ (by omega)
  have hp : 2 ^ (vars - 1 - v) ≤ 2 ^ 16 := Nat.pow_le_pow_right (by omega) (by omega)
  have hw : wrap64 (2 ^ (vars - 1 - v)) = ((2 ^ (vars - 1 - v) : Nat) : Int) := by
    have e : (2 : Int) ^ (vars - 1 - v) = ((2 ^ (vars - 1 - v) : Nat) : Int) := by simp
    rw [e, ← IntWalk.i64_left]
    generalize 2 ^ (vars - 1 - v) = p at *
    exact IntWalk.i64_in _ (by omega)
  have hw' := Hd.mk hw
  clear h an hw
  go_enter Try.func26, Try.ntmps26
  go_wp2_with fail
  go_ret
  refine ⟨?_, rfl⟩
  rw [← hw'.out]
  rfl

theorem bit_q (h : Ar base a M vars most w ns) {v : Nat} (hv : v < vars) : Calls Try.prog 26 #[.pointer (some ⟨a, 0, none⟩), .int .i64 (v : Int)] w fun e w' => ∃ q : Nat, e = .returned (.int .i64 (q : Int)) ∧ Hd (q = 2 ^ (vars - 1 - v)) ∧ w' = w :=
  (bit_ok h hv).mono (fun _ _ ⟨h1, h2⟩ => ⟨_, h1, ⟨rfl⟩, h2⟩)
theorem and_two (b k : Nat) : b &&& 2 ^ k = if b.testBit k then 2 ^ k else 0 := by
  apply Nat.eq_of_testBit_eq
  intro i
  rw [Nat.testBit_and, Nat.testBit_two_pow]
  by_cases h : k = i
  · subst h
    cases hb : b.testBit k
    · simp
    · simp
  · cases hb : b.testBit k
    · simp [h]
    · simp [h]
theorem test_bit (vars v b : Nat) : ((b &&& 2 ^ (vars - 1 - v)) != 0) = envOf vars b v := by
  rw [and_two, envOf]
  have : 0 < 2 ^ (vars - 1 - v) := Nat.two_pow_pos _
  cases b.testBit (vars - 1 - v)
  · simp
  · simp

set_option maxHeartbeats 2000000 in
/-- Eval. -/
theorem eval_ok (h : Ar base a M vars most w ns) {f b : Nat} (hf : f < ns.length) (hb : b < 2 ^ vars) :
    Calls Try.prog 20 #[.pointer (some ⟨a, 0, none⟩), .int .i64 (f : Int), .int .i64 (b : Int)] w fun e w' => e = .returned (.tuple #[.bool (ev ns f (envOf vars b)), .int .i64 0]) ∧ Ar base a M vars most w' ns ∧ Kp (ca base a M vars most) w w' := by
  have v16 := h.vars16
  have wf := h.wf
  have hl4 : ns.length ≤ 40000 := Nat.le_trans h.le h.most4
  have hpw : 2 ^ vars ≤ 2 ^ 16 := Nat.pow_le_pow_right (by omega) v16
  have t1 : (decide ((0 : Int) ≤ (f : Int)) && decide ((f : Int) < (ns.length : Int))) = true := by simp; omega
  have t2 : decide ((b : Int) < 0) = false := by simp
  have hw : wrap64 (2 ^ vars) = ((2 ^ vars : Nat) : Int) := by
    have e : (2 : Int) ^ vars = ((2 ^ vars : Nat) : Int) := by simp
    rw [e, ← IntWalk.i64_left]
    generalize 2 ^ vars = p at *
    exact IntWalk.i64_in _ (by omega)
  have hw2 : IntKind.i64.wrap (2 ^ vars) = ((2 ^ vars : Nat) : Int) := by rw [IntWalk.i64_left]; exact hw
  have t3 : decide (((2 ^ vars : Nat) : Int) ≤ (b : Int)) = false := by simp only [decide_eq_false_iff_not]; omega
  obtain ⟨cap0, a0, _⟩ := h.reads
  generalize hpp : (2 : Nat) ^ vars = pp at *
  have t4 : decide (pp ≤ b) = false := by simp; omega
  go_enter Try.func20, Try.ntmps20
  go_wp2_with (go_at_call 24; refine (hasFunction_any h (f : Int)).mono ?_; rintro e w' ⟨rfl, rfl⟩; rw [t1])
  go_loopw [1] (fun g wr => ∃ F : Nat, g = .int .i64 (F : Int) ∧ F < ns.length ∧ ev ns F (envOf vars b) = ev ns f (envOf vars b) ∧ Ar base a M vars most wr ns ∧ Kp (ca base a M vars most) w' wr) (fun g _ => (intOf g).toNat)
  case atStart => exact ⟨f, rfl, hf, rfl, h, Kp.refl _ _⟩
  case round =>
    obtain ⟨F, rfl, hF, hE, hA, hK⟩ := hrel
    by_cases hF2 : 2 ≤ F
    · have t5 : decide ((1 : Int) < (F : Int)) = true := by simp; omega
      obtain ⟨cap, c0, c1, c2, c3, cf, cn⟩ := hA.reads
      obtain ⟨n0, n1, n2⟩ := cn F hF
      have hlo := wf.lo F hF2 hF
      have hhi := wf.hi F hF2 hF
      have hva := wf.va F hF2 hF
      have hA1 := hA.alloc (.cells #[.int .i64 (nv ns F : Int), .int .i64 (nl ns F : Int), .int .i64 (nh ns F : Int)] 59)
      have hK1 := hK.trans (Ar.kalloc' hA (.cells #[.int .i64 (nv ns F : Int), .int .i64 (nl ns F : Int), .int .i64 (nh ns F : Int)] 59))
      have hev := ev_node wf hF2 hF (envOf vars b)
      have hb63 : b < 9223372036854775808 := by omega
      have hq63 : ∀ q : Nat, q = 2 ^ (vars - 1 - nv ns F) → (Go.bits .and .i64 (b : Int) (q : Int) != 0) = envOf vars b (nv ns F) := fun q hq => by
        have h16 : 2 ^ (vars - 1 - nv ns F) ≤ 2 ^ 16 := Nat.pow_le_pow_right (by omega) (by omega)
        rw [intBits_and b q hb63 (by omega), ← test_bit vars (nv ns F) b, hq]
        generalize b &&& 2 ^ (vars - 1 - nv ns F) = z
        cases z <;> simp <;> omega
      have hq63' := Hd.mk hq63
      generalize rowOf wr a = g at *
      clear cn hq63
      cases hcase : envOf vars b (nv ns F)
      · go_wp2_with (go_at_call 26; refine (bit_q hA1 hva).mono ?_; rintro e w2 ⟨q, rfl, hq, rfl⟩; have hbt := hq63'.out q hq.out; rw [hcase] at hbt)
        go_roundw
        case rel => exact ⟨nl ns F, rfl, by omega, by rw [← hE, hev, hcase]; simp, hA1, hK1⟩
        case measure => simp [intOf]; omega
      · go_wp2_with (go_at_call 26; refine (bit_q hA1 hva).mono ?_; rintro e w2 ⟨q, rfl, hq, rfl⟩; have hbt := hq63'.out q hq.out; rw [hcase] at hbt)
        go_roundw
        case rel => exact ⟨nh ns F, rfl, by omega, by rw [← hE, hev, hcase]; simp, hA1, hK1⟩
        case measure => simp [intOf]; omega
    · have t5 : decide ((1 : Int) < (F : Int)) = false := by simp; omega
      rcases (show F = 0 ∨ F = 1 by omega) with rfl | rfl
      · go_wp2_with fail
        go_ret2
        exact ⟨by rw [← hE, ev0]; rfl, hA, hK⟩
      · go_wp2_with fail
        go_ret2
        exact ⟨by rw [← hE, ev1]; rfl, hA, hK⟩
end
end Go.Proofs.Ytnjfckbpmilhnaa


