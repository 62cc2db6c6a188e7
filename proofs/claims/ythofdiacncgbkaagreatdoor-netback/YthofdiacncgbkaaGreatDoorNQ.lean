/-
  Nets: how a text is read, apart from any program.
-/
import Derived.Test.YthofdiacncgbkaaGreatDoorNT
import Derived.Test.YthofdiacncgbkaaGreatDoorNF
namespace Go.Proofs.YthofdiacncgbkaaGreatDoor
open Go.RowKit

def pnum (l : List UInt8) : Option Int := match Pk.num l with
  | some n => if n < 100 then some (n : Int) else none
  | none => none
def pnumsL : List (List UInt8) → Option (List Int)
  | [] => some []
  | x :: r => match pnum x, pnumsL r with
    | some n, some l => some (n :: l)
    | _, _ => none
def pnums (l : List UInt8) : Option (List Int) := pnumsL (Mt.spl 44 l)
def poolP : List Int → Nat → Option Nat
  | [], z => some z
  | p :: r, z => if 8 ≤ p ∨ z.testBit p.toNat = true then none else poolP r (z ||| 2 ^ p.toNat)
def ppool (l : List UInt8) : Option Nat := (pnums l).bind fun xs => poolP xs 0
def mkDv (nm : List UInt8) (k ad : Int) (pl : Nat) (bs : List Int) : Option Dv :=
  if h : pl < 256 ∧ nm.length ≤ maxLen then some ⟨⟨nm.toArray⟩, k, ad, pl, bs, [], [], h.1, by show nm.toArray.size ≤ maxLen; simpa using h.2⟩ else none
/-- A device's line. -/
def devP : List (List UInt8) → Option Dv
  | [w0, nm] => if nameOk ⟨nm.toArray⟩ then (if w0 = kwB 2 then mkDv nm 2 0 0 [] else if w0 = kwB 3 then mkDv nm 3 0 0 [] else none) else none
  | [w0, nm, a] => if nameOk ⟨nm.toArray⟩ then (if w0 = kwB 1 then (pnum a).bind fun ad => mkDv nm 1 ad 0 [] else none) else none
  | [w0, nm, a, x] => if nameOk ⟨nm.toArray⟩ then (if w0 = kwB 4 then (pnum a).bind fun ad => (ppool x).bind fun pl => mkDv nm 4 ad pl [] else if w0 = kwB 5 then (pnum a).bind fun ad => (pnums x).bind fun bs => mkDv nm 5 ad 0 bs else none) else none
  | _ => none
def mkRule (ok : Bool) (m : Nat × Nat × Nat × Nat) : NRule := if h : m.1 < 65536 ∧ m.2.1 < 65536 ∧ m.2.2.1 < 256 ∧ m.2.2.2 < 256 then ⟨ok, m.1, m.2.1, m.2.2.1, m.2.2.2, h.1, h.2.1, h.2.2.1, h.2.2.2⟩ else default
/-- The last device, with a rule more, a route more. -/
def addRule (ds : List Dv) (r : NRule) : List Dv := match ds.getLast? with
  | some d => ds.dropLast ++ [{ d with rules := d.rules ++ [r] }]
  | none => ds
def addRoute (ds : List Dv) (r : NRoute) : List Dv := match ds.getLast? with
  | some d => ds.dropLast ++ [{ d with routes := d.routes ++ [r] }]
  | none => ds
def routeP : List (List UInt8) → Option NRoute
  | [x, p] => match Pk.brk 47 x with
    | some (a, b) => (pnum a).bind fun v => (pnum b).bind fun n => (pnum p).bind fun q => some ⟨v, n, q⟩
    | none => none
  | _ => none
def linkP (ds : List Dv) : List (List UInt8) → Option Lk
  | [a, p, b, q] => if 0 ≤ findFrom ds a 0 ∧ 0 ≤ findFrom ds b 0 then (pnum p).bind fun x => (pnum q).bind fun y => some ⟨findFrom ds a 0, x, findFrom ds b 0, y⟩ else none
  | _ => none
/-- One line, by its words. -/
def lineP (ds : List Dv) (ls : List Lk) : List (List UInt8) → Option (List Dv × List Lk)
  | [] => none
  | w0 :: r =>
    if w0 = ruleW true ∨ w0 = ruleW false then (if ls = [] ∧ ds ≠ [] ∧ (Mt.matP (Lib.join r [32])).2 = 0 then some (addRule ds (mkRule (decide (w0 = ruleW true)) (Mt.matP (Lib.join r [32])).1), ls) else none)
    else if w0 = routeW then (if ls = [] ∧ ds ≠ [] then (routeP r).map fun t => (addRoute ds t, ls) else none)
    else if w0 = linkW then (linkP ds r).map fun l => (ds, ls ++ [l])
    else if ls = [] then (devP (w0 :: r)).map fun d => (ds ++ [d], ls) else none
/-- The lines of a text, from one on: where it ends. -/
def textP : Nat → Nat → List Dv → List Lk → List UInt8 → Nat ⊕ (List Dv × List Lk)
  | 0, _, ds, ls, _ => .inr (ds, ls)
  | f + 1, at', ds, ls, s =>
    if s = [] then .inr (ds, ls) else
    match Pk.brk 10 s with
    | none => .inl at'
    | some (line, rest) => match lineP ds ls (Mt.spl 32 line) with
      | none => .inl at'
      | some (ds', ls') => textP f (at' + 1) ds' ls' rest
def netP (s : List UInt8) : (List Dv × List Lk) × Nat × Int :=
  if 4096 < s.length then (([], []), 0, 2) else
  match textP (s.length + 1) 1 [] [] s with
  | .inl n => (([], []), n, 3)
  | .inr (ds, ls) => if netV ds ls = 0 then ((ds, ls), 0, 0) else (([], []), 0, netV ds ls)

/-! ### what is written is read -/
theorem num_dec100 (n : Nat) (h : n < 100) : Pk.num (Pk.dec n) = some n := by
  revert n
  decide +kernel
theorem pnum_dcB {x : Int} (h0 : 0 ≤ x) (h1 : x < 100) : pnum (dcB x) = some x := by
  obtain ⟨n, rfl⟩ : ∃ n : Nat, x = (n : Int) := ⟨x.toNat, by omega⟩
  unfold pnum dcB
  rw [Int.toNat_natCast, Pk.decDigits_dec n (by omega), num_dec100 n (by omega)]
  simp
  omega
theorem dec_byte (n : Nat) (h : n < 100) : ∀ c ∈ Pk.dec n, (48 : UInt8) ≤ c ∧ c ≤ 57 := by
  revert n
  decide +kernel
theorem dcB_byte {x : Int} (h0 : 0 ≤ x) (h1 : x < 100) : ∀ c ∈ dcB x, (48 : UInt8) ≤ c ∧ c ≤ 57 := by
  obtain ⟨n, rfl⟩ : ∃ n : Nat, x = (n : Int) := ⟨x.toNat, by omega⟩
  unfold dcB
  rw [Int.toNat_natCast, Pk.decDigits_dec n (by omega)]
  exact dec_byte n (by omega)
theorem dcB_no {x : Int} (h0 : 0 ≤ x) (h1 : x < 100) {c : UInt8} (hc : c < 48) : c ∉ dcB x := fun h => by
  have := (dcB_byte h0 h1 c h).1
  exact absurd (UInt8.lt_of_lt_of_le hc this) (UInt8.lt_irrefl _)
theorem pnumsL_back : ∀ (l : List Int), (∀ x ∈ l, 0 ≤ x ∧ x < 100) → pnumsL (l.map dcB) = some l
  | [], _ => rfl
  | x :: l, h => by
    rw [List.map_cons, pnumsL, pnum_dcB (h x (by simp)).1 (h x (by simp)).2, pnumsL_back l (fun y hy => h y (by simp [hy]))]
theorem pnums_numsT (l : List Int) (hn : l ≠ []) (h : ∀ x ∈ l, 0 ≤ x ∧ x < 100) : pnums (numsT l) = some l := by
  unfold pnums numsT
  cases l with
  | nil => exact absurd rfl hn
  | cons x r =>
    rw [List.map_cons, Mt.spl_join 44 _ _ (dcB_no (h x (by simp)).1 (h x (by simp)).2 (by decide)) (fun y hy => by
      obtain ⟨z, hz, rfl⟩ := List.mem_map.1 hy
      exact dcB_no (h z (by simp [hz])).1 (h z (by simp [hz])).2 (by decide)), ← List.map_cons]
    exact pnumsL_back (x :: r) h
theorem poolP_back : ∀ pl : Nat, pl < 256 → poolP (poolL pl) 0 = some pl := by decide +kernel
theorem poolL_ne : ∀ pl : Nat, pl < 256 → 0 < pl → poolL pl ≠ [] := by decide +kernel
theorem ppool_back (pl : Nat) (h : pl < 256) (h0 : 0 < pl) : ppool (numsT (poolL pl)) = some pl := by
  unfold ppool
  rw [pnums_numsT _ (poolL_ne pl h h0) (fun x hx => by have := poolL_mem hx; omega)]
  exact poolP_back pl h
end Go.Proofs.YthofdiacncgbkaaGreatDoor
