/-
  How a frame, a list of operations that are written out are laid anew.
-/
import Derived.Test.YtgmjlkllghlmmaaGreatProg
import Derived.WalkKit
namespace Go.Proofs.YtgmjlkllghlmmaaGreat

theorem lays : (∀ (xs : List Oper) (i : Nat) (h : i < xs.toArray.size), xs.toArray[i] = xs[i]'(by simpa using h)) ∧ (∀ (a : Oper) (ys : List Oper) (h : 0 < (a :: ys).length), (a :: ys)[0] = a) ∧ (∀ (a : Oper) (ys : List Oper) (i : Nat) (h : i + 1 < (a :: ys).length), (a :: ys)[i + 1] = ys[i]'(by simpa using h)) ∧ (∀ (a : Act) (d : Nat) (v : Value), a.put (some d) v = { a with tmps := a.tmps.setIfInBounds d v }) ∧ (∀ (a : Act) (v : Value), a.put none v = a) ∧ (∀ (xs : List Value) (i : Nat) (v : Value), xs.toArray.setIfInBounds i v = (xs.set i v).toArray) ∧ (∀ (a v : Value) (ys : List Value), (a :: ys).set 0 v = v :: ys) ∧ (∀ (a v : Value) (ys : List Value) (i : Nat), (a :: ys).set (i + 1) v = a :: ys.set i v) :=
  ⟨fun _ _ h => List.getElem_toArray h, fun _ _ _ => List.getElem_cons_zero _ _ _, fun _ _ _ h => List.getElem_cons_succ _ _ _ h, fun _ _ _ => rfl, fun _ _ => rfl, fun xs i v => List.setIfInBounds_toArray xs i v, fun _ _ _ => rfl, fun _ _ _ _ => rfl⟩
end Go.Proofs.YtgmjlkllghlmmaaGreat
