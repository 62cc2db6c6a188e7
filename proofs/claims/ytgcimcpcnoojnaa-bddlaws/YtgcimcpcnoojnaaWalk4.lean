/-
  choose.
-/
import Derived.Test.YtgcimcpcnoojnaaWalk3
import Derived.Test.YtgcimcpcnoojnaaPlain2
namespace Go.Proofs.Ytgcimcpcnoojnaa
open Go.RowKit Go.Maps

section
variable {C : Cfg} {w : World} {ns : List Nd} {full : Bool} {N : Nat} {m1 : Nd → Option Nat} {m2 : Mx → Option Nat} {m3 : Nat → Option Nat}

set_option maxHeartbeats 1000000 in
theorem choose_full (h : Bu C w ns true N m1 m2 m3) (c : Nd) :
    Calls Try.prog 92 #[.pointer (some ⟨C.b, 0, none⟩), agg3 c] w fun e w' => e = .returned (.int .i64 0) ∧ At C w w' ns true N m1 m2 m3 := by
  have hA := (At.refl h).alloc (.cells #[.int .i64 (c.1 : Int), .int .i64 (c.2.1 : Int), .int .i64 (c.2.2 : Int)] 124)
  obtain ⟨b0, b1, b2, b3, b4, bf⟩ := h.reads
  have lb := h.ltb
  clear h
  go_enter Try.func92, Try.ntmps92
  go_wp2_with fail
  go_ret
  exact ⟨rfl, hA⟩

set_option maxHeartbeats 1000000 in
theorem choose_1 (h : Bu C w ns false N m1 m2 m3) (y z : Nat) :
    Calls Try.prog 92 #[.pointer (some ⟨C.b, 0, none⟩), agg3 (1, y, z)] w fun e w' => e = .returned (.int .i64 (y : Int)) ∧ At C w w' ns false N m1 m2 m3 := by
  have hA := (At.refl h).alloc (.cells #[.int .i64 1, .int .i64 (y : Int), .int .i64 (z : Int)] 124)
  obtain ⟨b0, b1, b2, b3, b4, bf⟩ := h.reads
  have lb := h.ltb
  clear h
  go_enter Try.func92, Try.ntmps92
  go_wp2_with fail
  go_ret
  exact ⟨rfl, hA⟩

set_option maxHeartbeats 1000000 in
theorem choose_same (h : Bu C w ns false N m1 m2 m3) (x y : Nat) (hx : x ≠ 1) :
    Calls Try.prog 92 #[.pointer (some ⟨C.b, 0, none⟩), agg3 (x, y, y)] w fun e w' => e = .returned (.int .i64 (y : Int)) ∧ At C w w' ns false N m1 m2 m3 := by
  have hA := (At.refl h).alloc (.cells #[.int .i64 (x : Int), .int .i64 (y : Int), .int .i64 (y : Int)] 124)
  obtain ⟨b0, b1, b2, b3, b4, bf⟩ := h.reads
  have lb := h.ltb
  have x1 : ((x : Int) == 1) = false := by simp; omega
  clear h
  go_enter Try.func92, Try.ntmps92
  go_wp2_with fail
  go_ret
  exact ⟨rfl, hA⟩

set_option maxHeartbeats 1000000 in
theorem choose_0 (h : Bu C w ns false N m1 m2 m3) (y z : Nat) (hyz : y ≠ z) :
    Calls Try.prog 92 #[.pointer (some ⟨C.b, 0, none⟩), agg3 (0, y, z)] w fun e w' => e = .returned (.int .i64 (z : Int)) ∧ At C w w' ns false N m1 m2 m3 := by
  have hA := (At.refl h).alloc (.cells #[.int .i64 0, .int .i64 (y : Int), .int .i64 (z : Int)] 124)
  obtain ⟨b0, b1, b2, b3, b4, bf⟩ := h.reads
  have lb := h.ltb
  have hyz' : ((y : Int) == (z : Int)) = false := by simp; omega
  clear h
  go_enter Try.func92, Try.ntmps92
  go_wp2_with fail
  go_ret
  exact ⟨rfl, hA⟩

set_option maxHeartbeats 1000000 in
theorem choose_hit (h : Bu C w ns false N m1 m2 m3) {c1 : Nat} (hc1 : C.c1 = some c1) {x y z f : Nat} (ho : ok3 (x, y, z)) (hx : 2 ≤ x) (hyz : y ≠ z) (hf : m1 (x, y, z) = some f) :
    Calls Try.prog 92 #[.pointer (some ⟨C.b, 0, none⟩), agg3 (x, y, z)] w fun e w' => e = .returned (.int .i64 (f : Int)) ∧ At C w w' ns false N m1 m2 m3 := by
  have hA := ((At.refl h).alloc (.cells #[.int .i64 (x : Int), .int .i64 (y : Int), .int .i64 (z : Int)] 124)).drew
  obtain ⟨b0, b1, b2, b3, b4, bf⟩ := h.reads
  have lb := h.ltb
  have hlook := (hA.bu.o1 c1 hc1).look Try.u45 (x := (x, y, z)) ho
  rw [hf] at hlook
  simp only [choiceE, Option.getD_some, Option.isSome_some] at hlook
  rw [hc1] at b2
  have x1 : ((x : Int) == 1) = false := by simp; omega
  have x0 : ((x : Int) == 0) = false := by simp; omega
  have hyz' : ((y : Int) == (z : Int)) = false := by simp; omega
  clear h
  go_enter Try.func92, Try.ntmps92
  go_wp2_with fail
  go_region
  all_goals
    go_wp2_with fail
    go_ret
    exact ⟨rfl, hA⟩
end
end Go.Proofs.Ytgcimcpcnoojnaa


