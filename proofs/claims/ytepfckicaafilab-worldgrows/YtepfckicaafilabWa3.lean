/-
  Package world: Has.
-/
import Derived.Test.YtepfckicaafilabWa1
namespace Go.Proofs.Ytepfckicaafilab
open Go.RowKit Go.Maps

set_option maxHeartbeats 4000000 in
set_option maxRecDepth 100000 in
theorem whas_any {p : Wp} {S : Option Addr} {cS : Nat} {ds : List Dv} {ls : List Lk} {n : Nat} {M : Mnd} {ar : List Arv} (x : Arv) (w : World) (h : Hid (WlAt w p S cS ds ls n M ar)) (hx : arvOk x) :
    Calls Try.prog 9 #[.pointer (some ⟨p.B, 0, none⟩), plA x.1.1 x.1.2, pkV x.2] w fun e w' => e = .returned (.bool (inF ar x).isSome) ∧ Below w.heap.size w w' := by
  have W2 := (h.out.alloc (.cells #[.int .i64 x.1.1, .int .i64 x.1.2] 41)).alloc (pkC x.2)
  have W2d := W2.drew
  have W2a := (W2.alloc (.cells #[] 76)).drew
  have lk := W2d.look hx
  have lk2 := W2a.look hx
  have B2 := W2.blk.at 8
  have B2a := W2a.blk.at 8
  have D2 := Below.alN (Below.alN (Below.refl w.heap.size w) (.cells #[.int .i64 x.1.1, .int .i64 x.1.2] 41)) (pkC x.2)
  have P2 := (bk_new w #[.int .i64 x.1.1, .int .i64 x.1.2] 41).alloc (pkC x.2)
  have Q2 := bk_new' (w.alloc (.cells #[.int .i64 x.1.1, .int .i64 x.1.2] 41)) #[.int .i64 x.2.s, .int .i64 x.2.d, .int .i64 x.2.sp, .int .i64 x.2.dp] 33 (w.heap.size + 1) (by simp)
  obtain ⟨⟨i, q⟩, ⟨s, d, sp, dp⟩⟩ := x
  generalize hv : (inF ar ((i, q), ⟨s, d, sp, dp⟩)).isSome = v at *
  dsimp only at *
  obtain ⟨p0, p1⟩ := P2.two
  obtain ⟨q0, q1, q2, q3, _⟩ := Q2.four
  obtain ⟨p0', p1'⟩ := (P2.alloc (.cells #[] 76)).drew.two
  obtain ⟨q0', q1', q2', q3', _⟩ := (Q2.alloc (.cells #[] 76)).drew.four
  have D3 := D2.drew
  have D4 := (Below.alN D2 (.cells #[] 76)).drew
  clear W2 W2d W2a P2 Q2 h
  go_enter Try.func9, Try.ntmps9
  go_upto_region 1 with fail
  go_region
  all_goals
    go_wp2_with fail
    go_ret
    exact ⟨rfl, by first | exact D4 | exact D3 | go_grown⟩
end Go.Proofs.Ytepfckicaafilab
