/-
  Settings as bits.
-/
import Derived.Test.YtgcimcpcnoojnaaArn
import Derived.Test.YtgcimcpcnoojnaaHas
namespace Go.Proofs.Ytgcimcpcnoojnaa
open Go.RowKit Go.Maps

/-- A fact kept from the walk. -/
structure Hd (p : Prop) : Prop where
  out : p

/-- The setting that bits are: variable 0 is the highest one. -/
def envOf (vars b : Nat) : Env := fun i => b.testBit (vars - 1 - i)


theorem intBits_and (a b : Nat) (ha : a < 9223372036854775808) (hb : b < 9223372036854775808) : Go.bits .and .i64 (a : Int) (b : Int) = ((a &&& b : Nat) : Int) := by
  have e1 : BitVec.ofInt 64 (a : Int) = BitVec.ofNat 64 a := by simp
  have e2 : BitVec.ofInt 64 (b : Int) = BitVec.ofNat 64 b := by simp
  have hle : a &&& b ≤ a := Nat.and_le_left
  have hm : (BitVec.ofNat 64 a &&& BitVec.ofNat 64 b).toNat = a &&& b := by
    simp [BitVec.toNat_and, Nat.mod_eq_of_lt (show a < 18446744073709551616 by omega), Nat.mod_eq_of_lt (show b < 18446744073709551616 by omega)]
  show IntKind.i64.wrap ((BitVec.ofInt 64 (a : Int) &&& BitVec.ofInt 64 (b : Int)).toNat : Int) = _
  rw [e1, e2, hm, IntWalk.i64_in _ (by omega)]
section
variable {base a M vars most : Nat} {w : World} {ns : List Nd}
theorem Ar.kalloc' {base a M vars most : Nat} {w : World} {ns : List Nd} (h : Ar base a M vars most w ns) (o : Obj) : Kp (ca base a M vars most) w (w.alloc o) :=
  ⟨rfl, rfl, rfl, by simp, fun i hi _ _ => Below.heap_alloc w o i hi, Or.inl (rowOf_same (Below.heap_alloc w o _ h.lta))⟩
end
end Go.Proofs.Ytgcimcpcnoojnaa


