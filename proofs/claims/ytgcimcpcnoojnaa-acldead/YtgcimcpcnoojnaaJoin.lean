/-
  acl.join: from the last rule to the first.
-/
import Derived.Test.YtgcimcpcnoojnaaBack
import Derived.Test.YtgcimcpcnoojnaaBMatch
import Derived.Test.YtgcimcpcnoojnaaInRound
namespace Go.Proofs.Ytgcimcpcnoojnaa
open Go.RowKit Go.Shelf Go.Maps
attribute [local go_sem] Oper.semAt_some

/-- The function of the packets that a list of rules lets through. -/
def letsF : List Rl → Env → Bool
  | [], _ => false
  | r :: l, x => if phi r.a r.b r.c r.d x then r.ok else letsF l x
theorem came_all (xs : List Rl) : ((came xs xs.length).map Prod.snd).reverse = xs := by
  apply List.ext_getElem
  · simp [came]
  · intro i h1 h2
    simp [came]
    rw [show xs.length - 1 - (xs.length - 1 - i) = i by omega, List.getElem?_eq_getElem h2]
    rfl
theorem letsF_snoc (pre : List IR) (x : IR) (e : Env) : letsF ((pre ++ [x]).map Prod.snd).reverse e = if phi x.2.a x.2.b x.2.c x.2.d e then x.2.ok else letsF (pre.map Prod.snd).reverse e := by
  simp [letsF]

set_option maxHeartbeats 1000000 in
theorem answer_r (r : Rl) (w : World) : Calls Try.prog 97 #[rv r] w fun e w' => e = .returned (.int .i64 ((if r.ok then 1 else 0 : Nat) : Int)) ∧ Below w.heap.size w w' := by
  have D0 := Below.alloc' (Below.refl w.heap.size w) (.cells #[.bool r.ok, .int .u16 (r.a : Int), .int .u16 (r.b : Int), .int .u8 (r.c : Int), .int .u8 (r.d : Int)] 78)
  obtain ⟨ok, ra, rb, rc, rd, _, _, _, _⟩ := r
  cases ok
  · go_enter Try.func97, Try.ntmps97
    go_wp2_with fail
    go_ret
    exact ⟨rfl, D0⟩
  · go_enter Try.func97, Try.ntmps97
    go_wp2_with fail
    go_ret
    exact ⟨rfl, D0⟩

theorem answer_q (r : Rl) (w : World) : Calls Try.prog 97 #[rv r] w fun e w' => ∃ q : Nat, e = .returned (.int .i64 (q : Int)) ∧ Hid (q = if r.ok then 1 else 0) ∧ Below w.heap.size w w' :=
  (answer_r r w).mono fun _ _ ⟨h1, h2⟩ => ⟨_, h1, rfl, h2⟩

/-- A rule in a block of its own. -/
def Box5 (W : World) (B : Nat) (r : Rl) : Prop := W.heap[B]? = some (.cells #[.bool r.ok, .int .u16 (r.a : Int), .int .u16 (r.b : Int), .int .u8 (r.c : Int), .int .u8 (r.d : Int)] 78 (0, 0))
theorem Box5.cells {W : World} {B : Nat} {r : Rl} (h : Box5 W B r) : W.cell? ⟨B, 0, none⟩ = some (.bool r.ok) ∧ W.cell? ⟨B, 1, none⟩ = some (.int .u16 (r.a : Int)) ∧ W.cell? ⟨B, 2, none⟩ = some (.int .u16 (r.b : Int)) ∧ W.cell? ⟨B, 3, none⟩ = some (.int .u8 (r.c : Int)) ∧ W.cell? ⟨B, 4, none⟩ = some (.int .u8 (r.d : Int)) := by
  refine ⟨?_, ?_, ?_, ?_, ?_⟩ <;> (rw [cell_of_row W B _ _ _ _ h]; rfl)

section
variable {base a M : Nat} {W W' : World} {ns : List Nd}
/-- An arena abides what the loop's book-keeping turns. -/
theorem Ar.book {vars most B : Nat} {row : Option Nat} (h : Ar base a M vars most W ns) (hg : W.grownBy W' row) (hr : ∀ r, row = some r → B ≤ r ∧ ∃ o : Obj, W.heap[r]? = some o ∧ o.isCells = false) (hM : M < B) : Ar base a M vars most W' ns := by
  obtain ⟨cur, hrow, _, rl⟩ := h.row
  obtain ⟨g, cap, hb, _⟩ := h.blk
  refine h.same (hg.block a h.lta (fun e => ?_)) (hg.block M h.ltM (fun e => ?_)) (hg.block _ rl (fun e => ?_))
  · obtain ⟨_, o, ho, hc⟩ := hr a e.symm
    rw [hb] at ho
    cases ho
    cases hc
  · have := (hr M e.symm).1
    omega
  · obtain ⟨_, o, ho, hc⟩ := hr _ e.symm
    rw [hrow] at ho
    cases ho
    cases hc
/-- A variable of another type than the arena's blocks lies outside it. -/
theorem Ar.outBox {vars most i : Nat} {cs : Array Value} {t : TypeId} (h : Ar base a M vars most W ns) (hb : W.heap[i]? = some (.cells cs t (0, 0))) (h1 : t ≠ 91) (h2 : t ≠ 87) : Loc (ca base a M vars most) W i cs t := by
  refine ⟨⟨(Array.getElem?_eq_some_iff.1 hb).1, ?_, fun e => ?_⟩, hb⟩
  · have na : i ≠ a := fun e => by
      obtain ⟨g, cap, ha, _⟩ := h.blk
      rw [e, ha] at hb
      simp only [Option.some.injEq, Obj.cells.injEq] at hb
      exact h1 hb.2.1.symm
    rintro (e | e | e | e | e | e)
    · exact na e
    · exact na e
    · have e' : i = M := e
      obtain ⟨num, hm, _⟩ := h.map
      obtain ⟨es, clock, hM⟩ := hm.isMap
      rw [e', hM] at hb
      simp at hb
    · cases e
    · cases e
    · cases e
  · have e' : i = rowOf W a := e
    obtain ⟨cur, hrow, _⟩ := h.row
    rw [e', hrow] at hb
    simp only [Option.some.injEq, Obj.cells.injEq] at hb
    exact h2 hb.2.1.symm
/-- What no cells are stays behind the loop's beginning. -/
theorem Kp.keepsFrom {vars most B : Nat} (k : Kp (ca base a M vars most) W W') (h : Ar base a M vars most W ns) (hM : M < B) : KeepsFrom B W W' := by
  refine ⟨k.size, fun i o hB hi ho => ?_⟩
  obtain ⟨cur, hrow, _, rl⟩ := h.row
  obtain ⟨g, cap, hb, _⟩ := h.blk
  refine (k.blk i (Array.getElem?_eq_some_iff.1 hi).1 ?_ (fun e => ?_)).trans hi
  · have na : i ≠ a := fun e => by
      rw [e, hb] at hi
      cases hi
      cases ho
    rintro (e | e | e | e | e | e)
    · exact na e
    · exact na e
    · have e' : i = M := e
      omega
    · cases e
    · cases e
    · cases e
  · have e' : i = rowOf W a := e
    rw [e', hrow] at hi
    cases hi
    cases ho
end

theorem OpPost.pair {base a M vars most : Nat} {w w' : World} {ns : List Nd} {g : Nat} {φ : Env → Bool} {e : Ending} (h : OpPost base a M vars most w ns g φ e w') :
    ∃ (ns' : List Nd) (v er : Int), e = .returned (.tuple #[.int .i64 v, .int .i64 er]) ∧ Ar base a M vars most w' ns' ∧ Kp (ca base a M vars most) w w' ∧ Ext ns ns' ∧ ns'.length ≤ ns.length + g ∧
      Hid ((er = 0 ∧ ∃ f : Nat, v = (f : Int) ∧ f < ns'.length ∧ ∀ x, ev ns' f x = φ x) ∨ (er = 6 ∧ v = 0 ∧ ns'.length = most)) := by
  obtain ⟨ns', r1, r2, r3, r4, ⟨f, e1, e2⟩ | ⟨e1, e2⟩⟩ := h
  · exact ⟨ns', f, 0, e1, r1, r2, r3, r4, Or.inl ⟨rfl, f, rfl, e2⟩⟩
  · exact ⟨ns', 0, 6, e1, r1, r2, r3, r4, Or.inr ⟨rfl, rfl, e2⟩⟩
theorem Ar.notMine {base a M vars most : Nat} {w : World} {ns : List Nd} (h : Ar base a M vars most w ns) {i : Nat} (hi : i < base) : ¬ (ca base a M vars most).mine i := by
  have h1 := h.lowA
  have h2 := h.lowM
  rintro (e | e | e | e | e | e)
  · have : i = a := e
    omega
  · have : i = a := e
    omega
  · have : i = M := e
    omega
  · cases e
  · cases e
  · cases e
theorem Ar.kp_below {base a M vars most : Nat} {w w' : World} {ns : List Nd} (h : Ar base a M vars most w ns) (k : Kp (ca base a M vars most) w w') : Below base w w' := by
  obtain ⟨_, _, rb, rl⟩ := h.row
  have h1 := h.lowA
  have h2 := h.lta
  exact ⟨k.os, k.tape, k.output, k.size, fun i hi => k.blk i (by omega) (h.notMine hi) (by show i ≠ rowOf w a; omega)⟩

/-- Between two rounds. -/
def JI (base a M n0 L : Nat) (v : Value) (w : World) (pre : List IR) (W : World) : Prop :=
  ∃ (ns : List Nd) (F : Nat), Ar base a M 14 40000 W ns ∧ F < ns.length ∧ (∀ x, ev ns F x = letsF (pre.map Prod.snd).reverse x) ∧ ns.length ≤ L + pre.length * 16427 ∧
    Boxed W n0 23 (.pointer (some ⟨a, 0, none⟩)) ∧ Boxed W (n0 + 1) 3 (.int .i64 0) ∧ Boxed W (n0 + 1 + 1) 24 (.int .i64 0) ∧ Boxed W (n0 + 1 + 1 + 1) 3 (.int .i64 (F : Int)) ∧ Boxed W (n0 + 1 + 1 + 1 + 1) 57 v ∧ Below base w W
/-- Where a round has left. -/
def JX (base a M n0 L k : Nat) (w : World) (c : Code) (W : World) : Prop :=
  c = .ret ∧ 40000 ≤ L + k * 16427 ∧ ∃ ns : List Nd, Ar base a M 14 40000 W ns ∧ Boxed W (n0 + 1) 3 (.int .i64 0) ∧ Boxed W (n0 + 1 + 1) 24 (.int .i64 6) ∧ Below base w W
theorem Box5.own {B : Nat} {r : Rl} {W W' : World} {row : Option Nat} (h : Box5 W B r) (hg : W.grownBy W' row) (hr : ∀ r, row = some r → ∃ o : Obj, W.heap[r]? = some o ∧ o.isCells = false) : Box5 W' B r :=
  (grownBy_keeps_cells hg hr h rfl).trans h
theorem Ar.box {base a M vars most i : Nat} {W W' : World} {ns : List Nd} {t : TypeId} {v : Value} (h : Ar base a M vars most W ns) (k : Kp (ca base a M vars most) W W') (hb : Boxed W i t v) (h1 : t ≠ 91) (h2 : t ≠ 87) : Boxed W' i t v := ((h.outBox hb h1 h2).kp k).blk
theorem Ar.box5 {base a M vars most i : Nat} {W W' : World} {ns : List Nd} {r : Rl} (h : Ar base a M vars most W ns) (k : Kp (ca base a M vars most) W W') (hb : Box5 W i r) : Box5 W' i r := ((h.outBox hb (by decide) (by decide)).kp k).blk
theorem JI.own {base a M n0 L B : Nat} {v : Value} {w : World} (hM : M < B) (hb : base ≤ w.heap.size) (hB : base ≤ B) : OwnFrom B (JI base a M n0 L v w) := by
  rintro pre W W' row ⟨ns, F, h1, h2, h3, hL, b0, b1, b2, b3, b4, D⟩ hg hr
  have hr' : ∀ r, row = some r → ∃ o : Obj, W.heap[r]? = some o ∧ o.isCells = false := fun r e => (hr r e).2
  exact ⟨ns, F, h1.book hg hr hM, h2, h3, hL, boxed_own n0 _ (fun _ : Unit => _) () W W' row b0 hg hr', boxed_own _ _ (fun _ : Unit => _) () W W' row b1 hg hr', boxed_own _ _ (fun _ : Unit => _) () W W' row b2 hg hr', boxed_own _ _ (fun _ : Unit => _) () W W' row b3 hg hr', boxed_own _ _ (fun _ : Unit => _) () W W' row b4 hg hr', ownFrom_below hb hB () W W' row D hg hr⟩
theorem JX.own {base a M n0 L B : Nat} {w : World} (hM : M < B) (hb : base ≤ w.heap.size) (hB : base ≤ B) (c : Code) : OwnFrom B (fun (pre : List IR) W => JX base a M n0 L pre.length w c W) := by
  rintro pre W W' row ⟨e, hL, ns, h1, b1, b2, D⟩ hg hr
  have hr' : ∀ r, row = some r → ∃ o : Obj, W.heap[r]? = some o ∧ o.isCells = false := fun r e => (hr r e).2
  exact ⟨e, hL, ns, h1.book hg hr hM, boxed_own _ _ (fun _ : Unit => _) () W W' row b1 hg hr', boxed_own _ _ (fun _ : Unit => _) () W W' row b2 hg hr', ownFrom_below hb hB () W W' row D hg hr⟩

/-- In a round. -/
structure RS (base a M n0 B Bx F : Nat) (r : Rl) (v : Value) (w W1 : World) (ns : List Nd) (W : World) : Prop where
  ar : Ar base a M 14 40000 W ns
  b0 : Boxed W n0 23 (.pointer (some ⟨a, 0, none⟩))
  b1 : Boxed W (n0 + 1) 3 (.int .i64 0)
  b2 : Boxed W (n0 + 1 + 1) 24 (.int .i64 0)
  b3 : Boxed W (n0 + 1 + 1 + 1) 3 (.int .i64 (F : Int))
  b4 : Boxed W (n0 + 1 + 1 + 1 + 1) 57 v
  bx : Box5 W Bx r
  low : Below base w W
  kf : KeepsFrom B W1 W
  kb : Below base W1 W
  mB : M < B
  bn : base ≤ n0
section
variable {base a M n0 B Bx F : Nat} {r : Rl} {v : Value} {w W1 W W' : World} {ns ns' : List Nd}
theorem RS.step (h : RS base a M n0 B Bx F r v w W1 ns W) (k : Kp (ca base a M 14 40000) W W') (A : Ar base a M 14 40000 W' ns') : RS base a M n0 B Bx F r v w W1 ns' W' :=
  ⟨A, h.ar.box k h.b0 (by decide) (by decide), h.ar.box k h.b1 (by decide) (by decide), h.ar.box k h.b2 (by decide) (by decide), h.ar.box k h.b3 (by decide) (by decide), h.ar.box k h.b4 (by decide) (by decide), h.ar.box5 k h.bx,
    h.low.trans (h.ar.kp_below k), h.kf.trans (k.keepsFrom h.ar h.mB), h.kb.trans (h.ar.kp_below k), h.mB, h.bn⟩
theorem RS.below (h : RS base a M n0 B Bx F r v w W1 ns W) (hb : Below W.heap.size W W') : RS base a M n0 B Bx F r v w W1 ns W' := h.step (h.ar.kbelow hb) (h.ar.below hb)
theorem RS.drew (h : RS base a M n0 B Bx F r v w W1 ns W) : RS base a M n0 B Bx F r v w W1 ns W.drew :=
  ⟨h.ar.drew', h.b0, h.b1, h.b2, h.b3, h.b4, h.bx, h.low.drew, h.kf.trans ((KeepsOthers.drew _).from _), h.kb.drew, h.mB, h.bn⟩
theorem RS.four (h : RS base a M n0 B Bx F r v w W1 ns W) : W.cell? ⟨n0, 0, none⟩ = some (.pointer (some ⟨a, 0, none⟩)) ∧ W.cell? ⟨Bx, 0, none⟩ = some (.bool r.ok) ∧ W.cell? ⟨Bx, 1, none⟩ = some (.int .u16 (r.a : Int)) ∧ W.cell? ⟨Bx, 2, none⟩ = some (.int .u16 (r.b : Int)) ∧ W.cell? ⟨Bx, 3, none⟩ = some (.int .u8 (r.c : Int)) ∧ W.cell? ⟨Bx, 4, none⟩ = some (.int .u8 (r.d : Int)) := ⟨h.b0.cell, h.bx.cells⟩
/-- Behind the store into f. -/
structure RT (base a M n0 B Bx : Nat) (u : Int) (r : Rl) (v : Value) (w W1 : World) (ns : List Nd) (W : World) : Prop where
  ar : Ar base a M 14 40000 W ns
  b0 : Boxed W n0 23 (.pointer (some ⟨a, 0, none⟩))
  b1 : Boxed W (n0 + 1) 3 (.int .i64 0)
  b2 : Boxed W (n0 + 1 + 1) 24 (.int .i64 0)
  b3 : Boxed W (n0 + 1 + 1 + 1) 3 (.int .i64 u)
  b4 : Boxed W (n0 + 1 + 1 + 1 + 1) 57 v
  bx : Box5 W Bx r
  low : Below base w W
  kf : KeepsFrom B W1 W
  kb : Below base W1 W
theorem RT.four {u : Int} (h : RT base a M n0 B Bx u r v w W1 ns W) : W.cell? ⟨n0, 0, none⟩ = some (.pointer (some ⟨a, 0, none⟩)) ∧ W.cell? ⟨Bx, 0, none⟩ = some (.bool r.ok) ∧ W.cell? ⟨Bx, 1, none⟩ = some (.int .u16 (r.a : Int)) ∧ W.cell? ⟨Bx, 2, none⟩ = some (.int .u16 (r.b : Int)) ∧ W.cell? ⟨Bx, 3, none⟩ = some (.int .u8 (r.c : Int)) ∧ W.cell? ⟨Bx, 4, none⟩ = some (.int .u8 (r.d : Int)) := ⟨h.b0.cell, h.bx.cells⟩
theorem Ar.setBox {vars most i : Nat} {t : TypeId} {x : Value} (h : Ar base a M vars most W ns) (hb : Boxed W i t x) (h1 : t ≠ 91) (h2 : t ≠ 87) (u : Value) : Ar base a M vars most (W.setCell ⟨i, 0, none⟩ u) ns := by
  have L := h.outBox hb h1 h2
  obtain ⟨_, _, _, rl⟩ := h.row
  exact h.same (Below.heap_setCell W _ u a (fun e => L.out.not (Or.inl e.symm))) (Below.heap_setCell W _ u M (fun e => L.out.not (Or.inr (Or.inr (Or.inl e.symm))))) (Below.heap_setCell W _ u _ (fun e => L.out.ne e.symm))
theorem RS.set (h : RS base a M n0 B Bx F r v w W1 ns W) (u : Int) : RT base a M n0 B Bx u r v w W1 ns (W.setCell ⟨n0 + 1 + 1 + 1, 0, none⟩ (.int .i64 u)) := by
  have hx : n0 + 1 + 1 + 1 ≠ Bx := fun e => by
    have h1 := h.b3
    have h2 := h.bx
    unfold Boxed at h1
    unfold Box5 at h2
    rw [e, h2] at h1
    simp at h1
  have hbn := h.bn
  exact ⟨h.ar.setBox h.b3 (by decide) (by decide) _, h.b0.other (by omega) _, h.b1.other (by omega) _, h.b2.other (by omega) _, h.b3.set _, h.b4.other (by omega) _, (Below.heap_setCell W _ _ Bx (fun e => hx e.symm)).trans h.bx,
    h.low.setCell (p := ⟨n0 + 1 + 1 + 1, 0, none⟩) (by show base ≤ n0 + 1 + 1 + 1; omega) _, h.kf.trans ((KeepsOthers.setCell _ _ _).from _), h.kb.setCell (p := ⟨n0 + 1 + 1 + 1, 0, none⟩) (by show base ≤ n0 + 1 + 1 + 1; omega) _⟩
theorem RS.rt (h : RS base a M n0 B Bx F r v w W1 ns W) : RT base a M n0 B Bx (F : Int) r v w W1 ns W := ⟨h.ar, h.b0, h.b1, h.b2, h.b3, h.b4, h.bx, h.low, h.kf, h.kb⟩
/-- What the walk reads where it stores both results. -/
theorem RT.two {u : Int} (h : RT base a M n0 B Bx u r v w W1 ns W) : W.cell? ⟨n0 + 1, 0, none⟩ = some (.int .i64 0) ∧ W.frozen? ⟨n0 + 1, 0, none⟩ = false ∧ (W.setCell ⟨n0 + 1, 0, none⟩ (.int .i64 0)).cell? ⟨n0 + 1 + 1, 0, none⟩ = some (.int .i64 0) ∧ (W.setCell ⟨n0 + 1, 0, none⟩ (.int .i64 0)).frozen? ⟨n0 + 1 + 1, 0, none⟩ = false :=
  ⟨h.b1.cell, h.b1.frozen, (h.b2.other (by omega) _).cell, (h.b2.other (by omega) _).frozen⟩
theorem RT.err {u : Int} {L k : Nat} (h : RT base a M n0 B Bx u r v w W1 ns W) (bn : base ≤ n0) (hL : 40000 ≤ L + k * 16427) : KeepsFrom B W1 ((W.setCell ⟨n0 + 1, 0, none⟩ (.int .i64 0)).setCell ⟨n0 + 1 + 1, 0, none⟩ (.int .i64 6)) ∧ JX base a M n0 L k w .ret ((W.setCell ⟨n0 + 1, 0, none⟩ (.int .i64 0)).setCell ⟨n0 + 1 + 1, 0, none⟩ (.int .i64 6)) := by
  have b2' := h.b2.other (B' := n0 + 1) (by omega) (.int .i64 0)
  refine ⟨h.kf.trans (((KeepsOthers.setCell _ _ _).trans (KeepsOthers.setCell _ _ _)).from _), rfl, hL, ns, (h.ar.setBox h.b1 (by decide) (by decide) _).setBox b2' (by decide) (by decide) _, (h.b1.set _).other (by omega) _, b2'.set _, ?_⟩
  exact (h.low.setCell (p := ⟨n0 + 1, 0, none⟩) (by show base ≤ n0 + 1; omega) _).setCell (p := ⟨n0 + 1 + 1, 0, none⟩) (by show base ≤ n0 + 1 + 1; omega) _
end

/-- Behind the loop's last book-keeping. -/
theorem putD {base a M n0 D : Nat} {w W : World} {ns : List Nd} {u x : Value} {o : Obj} (A : Ar base a M 14 40000 W ns) (b1 : Boxed W (n0 + 1) 3 u) (b2 : Boxed W (n0 + 1 + 1) 24 x) (D1 : Below base w W) (hK : W.heap[D]? = some (.deferred (some []))) (hD : n0 + 5 ≤ D) (hM : M < n0) (hb : base ≤ n0) :
    Ar base a M 14 40000 (W.putObj D o) ns ∧ (W.putObj D o).cell? ⟨n0 + 1, 0, none⟩ = some u ∧ (W.putObj D o).cell? ⟨n0 + 1 + 1, 0, none⟩ = some x ∧ Below base w (W.putObj D o) := by
  have g := grownBy_putObj' W D o
  have hD' : D < W.heap.size := (Array.getElem?_eq_some_iff.1 hK).1
  exact ⟨A.book (B := n0) g (fun r e => by cases e; exact ⟨by omega, _, hK, rfl⟩) hM, (b1.kept g (fun e => by cases e; omega)).cell, (b2.kept g (fun e => by cases e; omega)).cell, D1.grown g (by omega) (fun k e => by cases e; omega)⟩

set_option maxHeartbeats 8000000 in
set_option maxRecDepth 100000 in
theorem join_ok {base a M : Nat} {w : World} {ns : List Nd} (h : Ar base a M 14 40000 w ns) (A : Option Addr) (len cap : Nat) (xs : List Rl) (hR : Rules base w (.slice A len cap) xs) (hlen : xs.length ≤ 8) :
    Calls Try.prog 74 #[.pointer (some ⟨a, 0, none⟩), .slice A len cap] w fun e w' => ∃ ns', Ar base a M 14 40000 w' ns' ∧ Below base w w' ∧
      ((∃ f : Nat, e = .returned (.tuple #[.int .i64 (f : Int), .int .i64 0]) ∧ f < ns'.length ∧ ∀ x, ev ns' f x = letsF xs x) ∨ (e = .returned (.tuple #[.int .i64 0, .int .i64 6]) ∧ 40000 ≤ ns.length + xs.length * 16427)) := by
  refine (callsIn_wide (n := 4)).1 ?_
  refine callsIn_of_wp_marks Try.func74 rfl trivial ?_ rfl
  simp only [Try.ntmps74, List.size_toArray, List.length_cons, List.length_nil, Nat.reduceAdd, Nat.reduceSub, Array.replicate_succ, Array.replicate_zero, List.push_toArray, List.append_toArray, List.nil_append, List.cons_append]
  gi_wp2_with (refine ⟨trivial, ?_⟩; gi_at_call 96; refine (back_in Fence.wide _ trivial rfl _ _ _ _).mono ?_; rintro e w' ⟨rfl, rfl⟩)
  have ltM := h.ltM
  have lta := h.lta
  have lowA := h.lowA
  have q0 := ((((Boxed.new w 23 (.pointer (some ⟨a, 0, none⟩))).alloc (.cells #[.int .i64 0] 3)).alloc (.cells #[.int .i64 0] 24)).alloc (.cells #[.int .i64 0] 3)).alloc (.cells #[.slice A len cap] 57)
  have q1 := (((Boxed.new (w.alloc (.cells #[.pointer (some ⟨a, 0, none⟩)] 23)) 3 (.int .i64 0)).alloc (.cells #[.int .i64 0] 24)).alloc (.cells #[.int .i64 0] 3)).alloc (.cells #[.slice A len cap] 57)
  have q2 := ((Boxed.new ((w.alloc (.cells #[.pointer (some ⟨a, 0, none⟩)] 23)).alloc (.cells #[.int .i64 0] 3)) 24 (.int .i64 0)).alloc (.cells #[.int .i64 0] 3)).alloc (.cells #[.slice A len cap] 57)
  have q3 := (Boxed.new (((w.alloc (.cells #[.pointer (some ⟨a, 0, none⟩)] 23)).alloc (.cells #[.int .i64 0] 3)).alloc (.cells #[.int .i64 0] 24)) 3 (.int .i64 0)).alloc (.cells #[.slice A len cap] 57)
  have q4 := Boxed.new ((((w.alloc (.cells #[.pointer (some ⟨a, 0, none⟩)] 23)).alloc (.cells #[.int .i64 0] 3)).alloc (.cells #[.int .i64 0] 24)).alloc (.cells #[.int .i64 0] 3)) 57 (.slice A len cap)
  simp only [World.size_alloc] at q1 q2 q3 q4
  have D0 : Below base w (((((w.alloc (.cells #[.pointer (some ⟨a, 0, none⟩)] 23)).alloc (.cells #[.int .i64 0] 3)).alloc (.cells #[.int .i64 0] 24)).alloc (.cells #[.int .i64 0] 3)).alloc (.cells #[.slice A len cap] 57)) :=
    (((((Below.refl _ w).alloc (by omega) _).alloc (by simp; omega) _).alloc (by simp; omega) _).alloc (by simp; omega) _).alloc (by simp; omega) _
  have A0 : Ar base a M 14 40000 (((((w.alloc (.cells #[.pointer (some ⟨a, 0, none⟩)] 23)).alloc (.cells #[.int .i64 0] 3)).alloc (.cells #[.int .i64 0] 24)).alloc (.cells #[.int .i64 0] 3)).alloc (.cells #[.slice A len cap] 57)) ns := ((((h.alloc _).alloc _).alloc _).alloc _).alloc _
  have hsz : (((((w.alloc (.cells #[.pointer (some ⟨a, 0, none⟩)] 23)).alloc (.cells #[.int .i64 0] 3)).alloc (.cells #[.int .i64 0] 24)).alloc (.cells #[.int .i64 0] 3)).alloc (.cells #[.slice A len cap] 57)).heap.size = w.heap.size + 5 := by simp
  obtain ⟨W0, hW0⟩ : ∃ W0, (((((w.alloc (.cells #[.pointer (some ⟨a, 0, none⟩)] 23)).alloc (.cells #[.int .i64 0] 3)).alloc (.cells #[.int .i64 0] 24)).alloc (.cells #[.int .i64 0] 3)).alloc (.cells #[.slice A len cap] 57)) = W0 := ⟨_, rfl⟩
  rw [hW0] at q0 q1 q2 q3 q4 D0 A0 hsz ⊢
  clear hW0
  have l2 := h.wf.len
  refine wpIn_rangeFunc_ownH rfl (by omega) (gf := 109) (lb := #[.pointer (some ⟨w.heap.size + 1 + 1 + 1 + 1, 0, none⟩)]) rfl trivial (enters_of Try.func109 (by kernel_rfl) rfl)
    (back_stops Fence.wide 3 trivial rfl (by omega) (w.heap.size + 1 + 1 + 1 + 1) base (.slice A len cap) xs (by omega) W0 (by omega) q4 (hR.below D0)) kpB_t
    (fun W l o o' hl ho hc _ => ⟨(Below.refl base W).grown (grownBy_putObj' W l o') (by have := (Array.getElem?_eq_some_iff.1 ho).1; omega) (fun k e => by cases e; omega), fun b => b.kept (grownBy_putObj' W l o') (fun e => by cases e; omega)⟩)
    (Below.refl _ _) (fun _ => rfl)
    (JI base a M w.heap.size ns.length (.slice A len cap) w) (fun c pre W => JX base a M w.heap.size ns.length pre.length w c W)
    (JI.own (by omega) (by omega) (by omega)) (fun c => JX.own (by omega) (by omega) (by omega) c)
    ⟨ns, 0, A0, by omega, (fun x => rfl), by simp, q0, q1, q2, q3, q4, D0⟩
    (fun x a' W => ∃ Bx, Box5 W Bx x.2 ∧ a' = { tmps := #[.pointer (some ⟨a, 0, none⟩), .slice A len cap, .pointer (some ⟨w.heap.size, 0, none⟩), undef, .pointer (some ⟨w.heap.size + 1, 0, none⟩), .pointer (some ⟨w.heap.size + 1 + 1, 0, none⟩), .pointer (some ⟨w.heap.size + 1 + 1 + 1, 0, none⟩), undef, .pointer (some ⟨Bx, 0, none⟩), undef, undef, .slice A len cap, .func (.func 109) #[] #[.pointer (some ⟨w.heap.size + 1 + 1 + 1 + 1, 0, none⟩)], .int .i64 (x.1 : Int), rv x.2, undef, undef, undef, undef, undef, undef, undef, undef, undef, undef, undef, undef, undef, undef, undef, undef, undef, undef, undef, undef, undef, undef, undef], defers := [] })
    (fun x a' _ X Y row hs hg hr => by obtain ⟨Bx, h1, h2⟩ := hs; exact ⟨Bx, h1.own hg (fun r e => (hr r e).2), h2⟩)
    ?assign ?body ?done ?stop
  case assign =>
    rintro l pre x W K ⟨ns1, F1, A1, lF, eF, hL, b0, b1, b2, b3, b4, D1⟩ hK
    have hsW := D1.size
    obtain ⟨i, ⟨ok, ra, rb, rc, rd, g1, g2, g3, g4⟩⟩ := x
    dsimp only [encIR]
    gi_wp2
    exact hK _ _ ((KeepsOthers.alloc _ _).from _) ⟨(Below.refl _ W).alloc (by omega) _, fun b => b.alloc _⟩ ⟨ns1, F1, A1.alloc _, lF, eF, hL, b0.alloc _, b1.alloc _, b2.alloc _, b3.alloc _, b4.alloc _, D1.alloc (by omega) _⟩ ⟨W.heap.size, Go.heap_alloc_new W _, rfl⟩
  case body =>
    rintro l pre x a' W hl ⟨r0, hr0⟩ ⟨ns1, F1, A1, lF, eF, hL, b0, b1, b2, b3, b4, D1⟩ ⟨Bx, bX, rfl⟩ hlt
    obtain ⟨xi, r⟩ := x
    have s1 : RS base a M w.heap.size W0.heap.size Bx F1 r (.slice A len cap) w W ns1 W := ⟨A1, b0, b1, b2, b3, b4, bX, D1, KeepsFrom.refl _ _, Below.refl _ _, by omega, by omega⟩
    clear A1 b0 b1 b2 b3 b4 bX
    obtain ⟨cA, x0, x1, x2, x3, x4⟩ := s1.four
    gi_wp2
    refine ⟨trivial, (CallsIn.inRound l (callsIn_wide.2 (build_match s1.ar (Nat.le_refl _) r.a r.b r.c r.d r.ha r.hb r.hc r.hd))).mono ?_⟩
    rintro e W2 hp2
    obtain ⟨ns2, g2, er2, rfl, A2, K2, X2, hL2, d2⟩ := hp2.pair
    have s2 := s1.step K2 A2
    have wf1 := s1.ar.wf
    clear hp2 A2 K2 cA x0 x1 x2 x3 x4 s1
    obtain ⟨cA, x0, x1, x2, x3, x4⟩ := s2.four
    obtain ⟨c1, f1, c2, f2⟩ := s2.rt.two
    have c3 := s2.b3.cell
    rcases d2.out with ⟨rfl, F2, rfl, lt2, _, ev2⟩ | ⟨rfl, rfl, full2⟩
    · have lF2 : F1 < ns2.length := Nat.lt_of_lt_of_le lF X2.len
      have wf2 := s2.ar.wf
      have l2' := wf2.len
      have EF : Hid (∀ x, ev ns2 F1 x = letsF (pre.map Prod.snd).reverse x) := fun x => (X2.ev wf1 wf2 _ lF x).trans (eF x)
      have EV : Hid (∀ x, ev ns2 F2 x = phi r.a r.b r.c r.d x) := ev2
      have IT : Hid (∀ w' (q : Nat), Hid (q = if r.ok then 1 else 0) → RS base a M w.heap.size W0.heap.size Bx F1 r (.slice A len cap) w W ns2 w' → Calls Try.prog 47 #[.pointer (some ⟨a, 0, none⟩), .int .i64 (F2 : Int), .int .i64 (q : Int), .int .i64 (F1 : Int)] w' fun e w'' => ∃ (ns' : List Nd) (v er : Int), e = .returned (.tuple #[.int .i64 v, .int .i64 er]) ∧ Ar base a M 14 40000 w'' ns' ∧ Kp (ca base a M 14 40000) w' w'' ∧ Ext ns2 ns' ∧ ns'.length ≤ ns2.length + (2 ^ 14 - 1) ∧
          Hid ((er = 0 ∧ ∃ f : Nat, v = (f : Int) ∧ f < ns'.length ∧ ∀ x, ev ns' f x = letsF ((pre ++ [(xi, r)]).map Prod.snd).reverse x) ∨ (er = 6 ∧ v = 0 ∧ ns'.length = 40000))) := fun w' q hq hs => by
        have hq' : q = if r.ok then 1 else 0 := hq
        refine (ite_ok hs.ar (c := (F2, q, F1)) ⟨lt2, by show q < _; rw [hq']; split <;> omega, lF2⟩).mono fun e w'' hp => (hp.of (ψ := fun x => letsF ((pre ++ [(xi, r)]).map Prod.snd).reverse x) (fun x => ?_)).pair
        rw [letsF_snoc, ← EF.out, EV.out, hq']
        cases r.ok
        · simp [ev0]
        · simp [ev1]
      have s2d := s2.drew
      clear ev2 eF d2 EF EV
      gi_wp2
      refine region_held_in (S := (fun w' => w'.cell? ⟨w.heap.size, 0, none⟩ = some (.pointer (some ⟨a, 0, none⟩)) ∧ w'.cell? ⟨Bx, 0, none⟩ = some (.bool r.ok) ∧ w'.cell? ⟨Bx, 1, none⟩ = some (.int .u16 (r.a : Int)) ∧ w'.cell? ⟨Bx, 2, none⟩ = some (.int .u16 (r.b : Int)) ∧ w'.cell? ⟨Bx, 3, none⟩ = some (.int .u8 (r.c : Int)) ∧ w'.cell? ⟨Bx, 4, none⟩ = some (.int .u8 (r.d : Int)))) (by kernel_rfl) (by kernel_rfl) (fun ⟨_, _, e⟩ => e) (RS.four (by assumption)) (fun hHeld => ?_)
      refine' wpAnyH_take (i := 0) (v := _) rfl (by kernel_rfl) (by kernel_rfl) (by kernel_rfl) (fun _ _ _ h => h) (Or.inl ⟨by rfl, ?gy1⟩) (by assumption) ?gr1
      case gy1 => (intro w hSw; (try dsimp only at hSw); go_simp; (try with_reducible rfl))
      try simp only [List.getElem_toArray, List.getElem_cons_zero, Act.put, List.setIfInBounds_toArray, List.set_cons_zero, List.set_cons_succ]
      refine' wpAnyH_take (i := 1) (v := _) rfl (by kernel_rfl) (by kernel_rfl) (by kernel_rfl) (fun _ _ _ h => h) (Or.inl ⟨by rfl, ?gy2⟩) (by assumption) ?gr2
      case gy2 => (intro w hSw; (try dsimp only at hSw); go_simp; (try with_reducible rfl))
      try simp only [List.getElem_toArray, List.getElem_cons_zero, List.getElem_cons_succ, Act.put, List.setIfInBounds_toArray, List.set_cons_zero, List.set_cons_succ]
      refine' wpAnyH_take (i := 2) (v := _) rfl (by kernel_rfl) (by kernel_rfl) (by kernel_rfl) (fun _ _ _ h => h) (Or.inl ⟨by rfl, ?gy3⟩) (by assumption) ?gr3
      case gy3 => (intro w hSw; (try dsimp only at hSw); go_simp; (try with_reducible rfl))
      try simp only [List.getElem_toArray, List.getElem_cons_zero, List.getElem_cons_succ, Act.put, List.setIfInBounds_toArray, List.set_cons_zero, List.set_cons_succ]
      refine wpAnyH_ready (rs := [3, 4]) (by kernel_rfl) (by simp) ?_
      refine AllReadyH.cons rfl (fun K hK => ?_) ?_
      · go_simp
        refine (answer_q r _).mono ?_; rintro e wz ⟨q, rfl, hq, hbz⟩; have sz := RS.below (F := F1) (by assumption) hbz; clear hbz; have cz := sz.b3.cell
        try go_wp2_with fail
        clear hHeld
        refine hK.out _ _ (by first | exact RS.four (by assumption) | exact RT.four (by assumption)) (fun hHeld => ?_)
        clear hK K
        try simp only [List.getElem_toArray, List.getElem_cons_zero, List.getElem_cons_succ, Act.put, List.setIfInBounds_toArray, List.set_cons_zero, List.set_cons_succ]
        refine wpAnyH_ready (rs := [4]) (by kernel_rfl) (by simp) (AllReadyH.cons rfl (fun K hK => ?_) AllReadyH.nil)
        go_simp
        skip
        try go_wp2_with fail
        clear hHeld
        refine hK.out _ _ (by first | exact RS.four (by assumption) | exact RT.four (by assumption)) (fun hHeld => ?_)
        clear hK K
        try simp only [List.getElem_toArray, List.getElem_cons_zero, List.getElem_cons_succ, Act.put, List.setIfInBounds_toArray, List.set_cons_zero, List.set_cons_succ]
        refine wpAnyH_ready (rs := [5]) (by kernel_rfl) (by simp) (AllReadyH.cons rfl (fun K hK => ?_) AllReadyH.nil)
        go_simp
        refine (IT.out _ q hq (by assumption)).mono ?_; rintro e wy ⟨ns3, v3, er3, rfl, A3, K3, X3, hL3, d3⟩; have sy := RS.step (F := F1) (by assumption) K3 A3; have cy := sy.b3.cell; have fy := sy.b3.frozen; clear K3 A3
        try go_wp2_with fail
        clear hHeld
        refine hK.out _ _ (by first | exact RS.four (by assumption) | exact RT.four (by assumption)) (fun hHeld => ?_)
        clear hK K
        try simp only [List.getElem_toArray, List.getElem_cons_zero, List.getElem_cons_succ, Act.put, List.setIfInBounds_toArray, List.set_cons_zero, List.set_cons_succ]
        refine' wpAnyH_take (i := 6) (v := _) rfl (by kernel_rfl) (by kernel_rfl) (by kernel_rfl) (fun _ _ _ h => h) (Or.inl ⟨by rfl, ?gy7⟩) (by assumption) ?gr7
        case gy7 => (intro w hSw; (try dsimp only at hSw); go_simp; (try with_reducible rfl))
        try simp only [List.getElem_toArray, List.getElem_cons_zero, List.getElem_cons_succ, Act.put, List.setIfInBounds_toArray, List.set_cons_zero, List.set_cons_succ]
        refine' wpAnyH_take (i := 7) (v := _) rfl (by kernel_rfl) (by kernel_rfl) (by kernel_rfl) (fun _ _ _ h => h) (Or.inl ⟨by rfl, ?gy8⟩) (by assumption) ?gr8
        case gy8 => (intro w hSw; (try dsimp only at hSw); go_simp; (try with_reducible rfl))
        try simp only [List.getElem_toArray, List.getElem_cons_zero, List.getElem_cons_succ, Act.put, List.setIfInBounds_toArray, List.set_cons_zero, List.set_cons_succ]
        refine' wpAnyH_take (i := 8) (v := _) rfl (by kernel_rfl) (by kernel_rfl) (by kernel_rfl) (fun _ _ _ h => h) (Or.inl ⟨by rfl, ?gy9⟩) (by assumption) ?gr9
        case gy9 => (intro w hSw; (try dsimp only at hSw); go_simp; (try with_reducible rfl))
        try simp only [List.getElem_toArray, List.getElem_cons_zero, List.getElem_cons_succ, Act.put, List.setIfInBounds_toArray, List.set_cons_zero, List.set_cons_succ]
        refine wpAnyH_ready (rs := [9]) (by kernel_rfl) (by simp) (AllReadyH.cons rfl (fun K hK => ?_) AllReadyH.nil)
        go_simp
        have su := RS.set (F := F1) (by assumption) v3
        try go_wp2_with fail
        clear hHeld
        refine hK.out _ _ (by first | exact RS.four (by assumption) | exact RT.four (by assumption)) (fun hHeld => ?_)
        clear hK K
        try simp only [List.getElem_toArray, List.getElem_cons_zero, List.getElem_cons_succ, Act.put, List.setIfInBounds_toArray, List.set_cons_zero, List.set_cons_succ]
        refine' wpAnyH_take (i := 10) (v := _) rfl (by kernel_rfl) (by kernel_rfl) (by kernel_rfl) (fun _ _ _ h => h) (Or.inl ⟨by rfl, ?gy11⟩) (by assumption) ?gr11
        case gy11 => (intro w hSw; (try dsimp only at hSw); go_simp; (try with_reducible rfl))
        try simp only [List.getElem_toArray, List.getElem_cons_zero, List.getElem_cons_succ, Act.put, List.setIfInBounds_toArray, List.set_cons_zero, List.set_cons_succ]
        refine wpAnyH_done (by kernel_rfl) ?_ _
        obtain ⟨y1, y2, y3, y4⟩ := su.two
        have hlp : (pre ++ [(xi, r)]).length = pre.length + 1 := by simp
        have hL4 : ns3.length ≤ ns.length + (pre ++ [(xi, r)]).length * 16427 := by rw [hlp]; omega
        rcases d3.out with ⟨rfl, F3, rfl, lt3, ev3⟩ | ⟨rfl, rfl, full3⟩
        · have fin : Hid (JI base a M w.heap.size ns.length (.slice A len cap) w (pre ++ [(xi, r)]) (wy.setCell ⟨w.heap.size + 1 + 1 + 1, 0, none⟩ (.int .i64 (F3 : Int)))) := ⟨ns3, F3, su.ar, lt3, ev3, hL4, su.b0, su.b1, su.b2, su.b3, su.b4, su.low⟩
          have kf := su.kf
          have kb := su.kb
          have b4 := su.b4
          clear su d3 ev3 sy IT hL4 hlp
          gi_wp2
          exact ⟨kf, ⟨kb, fun _ => b4⟩, fin.out⟩
        · have fin : Hid _ := su.err (L := ns.length) (k := (pre ++ [(xi, r)]).length) (by omega) (by omega)
          clear d3 sy IT hL4 hlp
          gi_wp2
          exact fin.out
      refine AllReadyH.cons rfl (fun K hK => ?_) AllReadyH.nil
      go_simp
      skip
      try go_wp2_with fail
      clear hHeld
      refine hK.out _ _ (by first | exact RS.four (by assumption) | exact RT.four (by assumption)) (fun hHeld => ?_)
      clear hK K
      try simp only [List.getElem_toArray, List.getElem_cons_zero, List.getElem_cons_succ, Act.put, List.setIfInBounds_toArray, List.set_cons_zero, List.set_cons_succ]
      refine wpAnyH_ready (rs := [3]) (by kernel_rfl) (by simp) (AllReadyH.cons rfl (fun K hK => ?_) AllReadyH.nil)
      go_simp
      refine (answer_q r _).mono ?_; rintro e wz ⟨q, rfl, hq, hbz⟩; have sz := RS.below (F := F1) (by assumption) hbz; clear hbz; have cz := sz.b3.cell
      try go_wp2_with fail
      clear hHeld
      refine hK.out _ _ (by first | exact RS.four (by assumption) | exact RT.four (by assumption)) (fun hHeld => ?_)
      clear hK K
      try simp only [List.getElem_toArray, List.getElem_cons_zero, List.getElem_cons_succ, Act.put, List.setIfInBounds_toArray, List.set_cons_zero, List.set_cons_succ]
      refine wpAnyH_ready (rs := [5]) (by kernel_rfl) (by simp) (AllReadyH.cons rfl (fun K hK => ?_) AllReadyH.nil)
      go_simp
      refine (IT.out _ q hq (by assumption)).mono ?_; rintro e wy ⟨ns3, v3, er3, rfl, A3, K3, X3, hL3, d3⟩; have sy := RS.step (F := F1) (by assumption) K3 A3; have cy := sy.b3.cell; have fy := sy.b3.frozen; clear K3 A3
      try go_wp2_with fail
      clear hHeld
      refine hK.out _ _ (by first | exact RS.four (by assumption) | exact RT.four (by assumption)) (fun hHeld => ?_)
      clear hK K
      try simp only [List.getElem_toArray, List.getElem_cons_zero, List.getElem_cons_succ, Act.put, List.setIfInBounds_toArray, List.set_cons_zero, List.set_cons_succ]
      refine' wpAnyH_take (i := 6) (v := _) rfl (by kernel_rfl) (by kernel_rfl) (by kernel_rfl) (fun _ _ _ h => h) (Or.inl ⟨by rfl, ?gy15⟩) (by assumption) ?gr15
      case gy15 => (intro w hSw; (try dsimp only at hSw); go_simp; (try with_reducible rfl))
      try simp only [List.getElem_toArray, List.getElem_cons_zero, List.getElem_cons_succ, Act.put, List.setIfInBounds_toArray, List.set_cons_zero, List.set_cons_succ]
      refine' wpAnyH_take (i := 7) (v := _) rfl (by kernel_rfl) (by kernel_rfl) (by kernel_rfl) (fun _ _ _ h => h) (Or.inl ⟨by rfl, ?gy16⟩) (by assumption) ?gr16
      case gy16 => (intro w hSw; (try dsimp only at hSw); go_simp; (try with_reducible rfl))
      try simp only [List.getElem_toArray, List.getElem_cons_zero, List.getElem_cons_succ, Act.put, List.setIfInBounds_toArray, List.set_cons_zero, List.set_cons_succ]
      refine' wpAnyH_take (i := 8) (v := _) rfl (by kernel_rfl) (by kernel_rfl) (by kernel_rfl) (fun _ _ _ h => h) (Or.inl ⟨by rfl, ?gy17⟩) (by assumption) ?gr17
      case gy17 => (intro w hSw; (try dsimp only at hSw); go_simp; (try with_reducible rfl))
      try simp only [List.getElem_toArray, List.getElem_cons_zero, List.getElem_cons_succ, Act.put, List.setIfInBounds_toArray, List.set_cons_zero, List.set_cons_succ]
      refine wpAnyH_ready (rs := [9]) (by kernel_rfl) (by simp) (AllReadyH.cons rfl (fun K hK => ?_) AllReadyH.nil)
      go_simp
      have su := RS.set (F := F1) (by assumption) v3
      try go_wp2_with fail
      clear hHeld
      refine hK.out _ _ (by first | exact RS.four (by assumption) | exact RT.four (by assumption)) (fun hHeld => ?_)
      clear hK K
      try simp only [List.getElem_toArray, List.getElem_cons_zero, List.getElem_cons_succ, Act.put, List.setIfInBounds_toArray, List.set_cons_zero, List.set_cons_succ]
      refine' wpAnyH_take (i := 10) (v := _) rfl (by kernel_rfl) (by kernel_rfl) (by kernel_rfl) (fun _ _ _ h => h) (Or.inl ⟨by rfl, ?gy19⟩) (by assumption) ?gr19
      case gy19 => (intro w hSw; (try dsimp only at hSw); go_simp; (try with_reducible rfl))
      try simp only [List.getElem_toArray, List.getElem_cons_zero, List.getElem_cons_succ, Act.put, List.setIfInBounds_toArray, List.set_cons_zero, List.set_cons_succ]
      refine wpAnyH_done (by kernel_rfl) ?_ _
      obtain ⟨y1, y2, y3, y4⟩ := su.two
      have hlp : (pre ++ [(xi, r)]).length = pre.length + 1 := by simp
      have hL4 : ns3.length ≤ ns.length + (pre ++ [(xi, r)]).length * 16427 := by rw [hlp]; omega
      rcases d3.out with ⟨rfl, F3, rfl, lt3, ev3⟩ | ⟨rfl, rfl, full3⟩
      · have fin : Hid (JI base a M w.heap.size ns.length (.slice A len cap) w (pre ++ [(xi, r)]) (wy.setCell ⟨w.heap.size + 1 + 1 + 1, 0, none⟩ (.int .i64 (F3 : Int)))) := ⟨ns3, F3, su.ar, lt3, ev3, hL4, su.b0, su.b1, su.b2, su.b3, su.b4, su.low⟩
        have kf := su.kf
        have kb := su.kb
        have b4 := su.b4
        clear su d3 ev3 sy IT hL4 hlp
        gi_wp2
        exact ⟨kf, ⟨kb, fun _ => b4⟩, fin.out⟩
      · have fin : Hid _ := su.err (L := ns.length) (k := (pre ++ [(xi, r)]).length) (by omega) (by omega)
        clear d3 sy IT hL4 hlp
        gi_wp2
        exact fin.out
    · have fin := s2.rt.err (L := ns.length) (k := (pre ++ [(xi, r)]).length) (by omega) (by simp; omega)
      clear d2
      gi_wp2
      exact fin
  case done =>
    rintro D ys W hD rfl ⟨ns1, F1, A1, lF, eF, _, b0, b1, b2, b3, b4, D1⟩ hK
    have eF' : Hid (∀ x, ev ns1 F1 x = letsF xs x) := fun x => by rw [eF x, came_all]
    clear eF
    have hD' : D < W.heap.size := (Array.getElem?_eq_some_iff.1 hK).1
    have e1 := (b1.set (.int .i64 (F1 : Int))).other (B' := w.heap.size + 1 + 1) (by omega) (.int .i64 0)
    have b2' := b2.other (B' := w.heap.size + 1) (by omega) (.int .i64 (F1 : Int))
    have e2 := b2'.set (.int .i64 0)
    have A2 := (A1.setBox b1 (by decide) (by decide) (.int .i64 (F1 : Int))).setBox b2' (by decide) (by decide) (.int .i64 0)
    have D2 := (D1.setCell (p := ⟨w.heap.size + 1, 0, none⟩) (by show base ≤ w.heap.size + 1; omega) (.int .i64 (F1 : Int))).setCell (p := ⟨w.heap.size + 1 + 1, 0, none⟩) (by show base ≤ w.heap.size + 1 + 1; omega) (.int .i64 0)
    have hK' := ((KeepsOthers.setCell W ⟨w.heap.size + 1, 0, none⟩ (.int .i64 (F1 : Int))).trans (KeepsOthers.setCell _ ⟨w.heap.size + 1 + 1, 0, none⟩ (.int .i64 0))).same D _ hK rfl
    have c1 := b1.cell
    have f1 := b1.frozen
    have c2 := b2'.cell
    have f2 := b2'.frozen
    have c3 := b3.cell
    gi_wp2
    refine ⟨by simp, .inl ⟨_, _, rfl, run_takeDeferred hK', ?_⟩⟩
    obtain ⟨A3, r1, r2, D3⟩ := putD (o := .deferred none) A2 e1 e2 D2 hK' (by omega) (by omega) (by omega)
    exact ⟨.tuple #[.int .i64 (F1 : Int), .int .i64 0], by simp [results, Try.results74, go_sem, r1, r2], ns1, A3, D3, .inl ⟨F1, rfl, lF, eF'.out⟩⟩
  case stop =>
    rintro D c pre W hD ⟨k, hk, rfl⟩ ⟨rfl, hL, ns1, A1, b1, b2, D1⟩ hK
    rw [came_length] at hL
    have hL' : 40000 ≤ ns.length + xs.length * 16427 := by
      have := Nat.mul_le_mul_right 16427 hk
      omega
    gi_wp2
    refine ⟨by simp, .inl ⟨_, _, rfl, run_takeDeferred hK, ?_⟩⟩
    obtain ⟨A3, r1, r2, D3⟩ := putD (o := .deferred none) A1 b1 b2 D1 hK (by omega) (by omega) (by omega)
    exact ⟨.tuple #[.int .i64 0, .int .i64 6], by simp [results, Try.results74, go_sem, r1, r2], ns1, A3, D3, .inr ⟨rfl, hL'⟩⟩
end Go.Proofs.Ytgcimcpcnoojnaa


