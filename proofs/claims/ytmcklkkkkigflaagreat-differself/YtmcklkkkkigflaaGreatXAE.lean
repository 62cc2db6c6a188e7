/-
  XAE.
-/
import Derived.Test.YtmcklkkkkigflaaGreatXAD
import Derived.Test.YtmcklkkkkigflaaGreatProg
import Derived.WalkKit
import Derived.OrdersIn
import Derived.RangeFuncCalls
import Derived.Deep.RegionHeld
import Derived.Test.YtmcklkkkkigflaaGreatLy
set_option maxHeartbeats 8000000
set_option maxRecDepth 100000
namespace Go.Proofs.YtmcklkkkkigflaaGreat
open Go.RowKit Go.Maps
def sel : Nat -> Nat -> Nat -> Env -> Bool
 | 0, bits, _, _ => bits.testBit 0
 | k + 1, bits, first, x => if x first then sel k (bits >>> 2 ^ k) (first + 1) x else sel k (bits &&& (2 ^ 2 ^ k - 1)) (first + 1) x
def val : Nat -> Nat -> Env -> Nat
 | 0, _, _ => 0
 | k + 1, first, x => (if x first then 2 ^ k else 0) + val k (first + 1) x
theorem val_lt (k first : Nat) (x : Env) : val k first x < 2 ^ k := by
 induction k generalizing first with
 | zero => simp [val]
 | succ k ih =>
   have := ih (first + 1)
   rw [val, Nat.pow_succ]
   split <;> omega
theorem sel_val (k bits first : Nat) (x : Env) : sel k bits first x = bits.testBit (val k first x) := by
 induction k generalizing bits first with
 | zero => rfl
 | succ k ih =>
   have h := val_lt k (first + 1) x
   rw [sel, val]
   split
   ·rw [ih, Nat.testBit_shiftRight]
   ·rw [ih, Nat.testBit_and, Nat.testBit_two_pow_sub_one, Nat.zero_add]
    simp [h]
section
variable {base a M vars most : Nat} {w w' : World} {ns : List Nd}
theorem Ar.below (h : Ar base a M vars most w ns) (hb : Below w.heap.size w w') : Ar base a M vars most w' ns := by
 obtain ⟨_, _, _, rl⟩ := h.row
 exact h.same (hb.block _ h.lta) (hb.block _ h.ltM) (hb.block _ rl)
theorem Ar.kbelow (h : Ar base a M vars most w ns) (hb : Below w.heap.size w w') : Kp (ca base a M vars most) w w' :=
 ⟨hb.os, hb.tape, hb.output, hb.size, fun i hi _ _ => hb.block i hi, Or.inl (rowOf_same (hb.block _ h.lta)), fun _ _ => cellB (hb.block _ h.lta)⟩
theorem Ar.loc (h : Ar base a M vars most w ns) (cs : Array Value) (t : TypeId) : Loc (ca base a M vars most) (w.alloc (.cells cs t)) w.heap.size cs t := by
 obtain ⟨_, _, _, rl⟩ := h.row
 have la := h.lta
 have lM := h.ltM
 refine ⟨⟨by simp, ?_, ?_⟩, Go.heap_alloc_new _ _⟩
 ·rintro (e | e | e | e | e | e)
  ·have : w.heap.size = a := e
   omega
  ·have : w.heap.size = a := e
   omega
  ·have : w.heap.size = M := e
   omega
  ·cases e
  ·cases e
  ·cases e
 ·have e : rowOf (w.alloc (.cells cs t)) a = rowOf w a := rowOf_same (Below.heap_alloc w _ _ la)
  show w.heap.size ≠ rowOf (w.alloc (.cells cs t)) a
  rw [e]
  omega
theorem Loc.two {C : Cfg} {w : World} {i : Nat} {x y : Value} {t : TypeId} (h : Loc C w i #[x, y] t) : w.cell? ⟨i, 0, none⟩ = some x ∧ w.cell? ⟨i, 1, none⟩ = some y :=
 ⟨by rw [cell_of_row w i 0 _ _ _ h.blk]; rfl, by rw [cell_of_row w i 1 _ _ _ h.blk]; rfl⟩
theorem Loc.below {w w' : World} {i : Nat} {cs : Array Value} {t : TypeId} (h : Loc (ca base a M vars most) w i cs t) (hA : Ar base a M vars most w ns) (hb : Below w.heap.size w w') : Loc (ca base a M vars most) w' i cs t := h.kp (hA.kbelow hb)
theorem MkPost.pair {g i : Nat} {φ : Env -> Bool} {e : Ending} (h : MkPost base a M vars most w ns g i φ e w') :
  ∃ (ns' : List Nd) (v er : Int), e = .returned (.tuple #[.int .i64 v, .int .i64 er]) ∧ Ar base a M vars most w' ns' ∧ Kp (ca base a M vars most) w w' ∧ Ext ns ns' ∧ ns'.length <= ns.length + g ∧
    Go.RowKit.Hid ((er = 0 ∧ ∃ f : Nat, v = (f : Int) ∧ f < ns'.length ∧ i <= nv ns' f ∧ ∀ x, ev ns' f x = φ x) ∨ (er = 6 ∧ v = 0 ∧ ns'.length = most)) := by
 obtain ⟨ns', r1, r2, r3, r4, ⟨f, e1, e2⟩ | ⟨e1, e2⟩⟩ := h
 ·exact ⟨ns', f, 0, e1, r1, r2, r3, r4, Or.inl ⟨rfl, f, rfl, e2⟩⟩
 ·exact ⟨ns', 0, 6, e1, r1, r2, r3, r4, Or.inr ⟨rfl, rfl, e2⟩⟩
theorem Ar.drew' (h : Ar base a M vars most w ns) : Ar base a M vars most w.drew ns := h.same rfl rfl rfl
theorem build_1 (h : Ar base a M vars most w ns) {bits first rest : Nat} (hbits : bits < 2) (hr : rest < ns.length) (hf : first <= nv ns rest) :
  Calls Tryz.prog 55 #[st (bits : Int) 1, .pointer (some ⟨a, 0, none⟩), .int .i64 (first : Int), .int .i64 (rest : Int)] w (MkPost base a M vars most w ns 0 first fun x => sel 0 bits first x && ev ns rest x) := by
 have l2 := h.wf.len
 have e0 : nv ns 0 = vars := by rw [nv, h.wf.n0]
 have hle := va_le h.wf hr
 have L0 := h.loc #[.int .i64 (bits : Int), .int .i64 1] 122
 have A0 := h.alloc (.cells #[.int .i64 (bits : Int), .int .i64 1] 122)
 have K0 := Ar.kalloc' h (.cells #[.int .i64 (bits : Int), .int .i64 1] 122)
 obtain ⟨c0, c1⟩ := L0.two
 have H0 : Go.RowKit.Hid (∀ w, Calls Tryz.prog 81 #[st (bits : Int) 1, .int .i64 0] w fun e w' => e = .returned (.bool (bits.testBit 0)) ∧ Below w.heap.size w w') := fun w => by
  have := has_any bits 0 1 w (by omega)
  rw [show hasB bits 0 = bits.testBit 0 by simp [hasB]] at this
  exact this
 cases ht : bits.testBit 0
 ·rw [ht] at H0
  go_enter Tryz.func55, Tryz.ntmps55
  go_wp2_with fail
  refine (H0.out _).mono ?_
  rintro e w1 ⟨rfl, hb⟩
  have fin : MkPost base a M vars most w ns 0 first (fun x => sel 0 bits first x && ev ns rest x) (.returned (.tuple #[.int .i64 0, .int .i64 0])) w1 :=
   ⟨ns, A0.below hb, K0.trans (A0.kbelow hb), Ext.refl _, by omega, Or.inl ⟨0, rfl, by omega, by omega, fun x => by rw [ev0]; show false = (bits.testBit 0 && _); rw [ht]; rfl⟩⟩
  clear A0 K0 L0 hb
  go_wp2_with fail
  go_ret2
  exact fin
 ·rw [ht] at H0
  go_enter Tryz.func55, Tryz.ntmps55
  go_wp2_with fail
  refine (H0.out _).mono ?_
  rintro e w1 ⟨rfl, hb⟩
  have fin : MkPost base a M vars most w ns 0 first (fun x => sel 0 bits first x && ev ns rest x) (.returned (.tuple #[.int .i64 (rest : Int), .int .i64 0])) w1 :=
   ⟨ns, A0.below hb, K0.trans (A0.kbelow hb), Ext.refl _, by omega, Or.inl ⟨rest, rfl, hr, hf, fun x => by show _ = (bits.testBit 0 && _); rw [ht]; rfl⟩⟩
  clear A0 K0 L0 hb
  go_wp2_with fail
  go_ret2
  exact fin
theorem low_2 (bits : Nat) (h : bits < 4) : Go.bits .and .i64 (bits : Int) 1 = ((bits &&& 1 : Nat) : Int) := intBits_and bits 1 (by omega) (by decide)
theorem high_2 (bits : Nat) : (bits : Int) / (2 : Int) = ((bits >>> 1 : Nat) : Int) := by rw [Nat.shiftRight_eq_div_pow]; simp
theorem build_2 (h : Ar base a M vars most w ns) {bits first rest : Nat} (hbits : bits < 4) (hv : first + 1 <= vars) (hr : rest < ns.length) (hf : first + 1 <= nv ns rest) :
  Calls Tryz.prog 55 #[st (bits : Int) 2, .pointer (some ⟨a, 0, none⟩), .int .i64 (first : Int), .int .i64 (rest : Int)] w (MkPost base a M vars most w ns 1 first fun x => sel 1 bits first x && ev ns rest x) := by
 have wf := h.wf
 have v16 := h.vars16
 have eL := low_2 bits hbits
 have eH := high_2 bits
 have hlo : bits &&& 1 < 2 := Nat.lt_of_le_of_lt Nat.and_le_right (by decide)
 have hhi : bits >>> 1 < 2 := by rw [Nat.shiftRight_eq_div_pow]; omega
 have hsel : Go.RowKit.Hid (∀ x, sel 1 bits first x = if x first then sel 0 (bits >>> 1) (first + 1) x else sel 0 (bits &&& 1) (first + 1) x) := fun x => rfl
 generalize bits &&& 1 = lo at *
 generalize bits >>> 1 = hi at *
 have L0 := h.loc #[.int .i64 (bits : Int), .int .i64 2] 122
 have A0 := h.alloc (.cells #[.int .i64 (bits : Int), .int .i64 2] 122)
 have K0 := Ar.kalloc' h (.cells #[.int .i64 (bits : Int), .int .i64 2] 122)
 obtain ⟨c0, c1⟩ := L0.two
 have hcast : ((first + 1 : Nat) : Int) = (first : Int) + 1 := by omega
 have IL : Go.RowKit.Hid (∀ (w' : World) (ns' : List Nd), Ar base a M vars most w' ns' -> rest < ns'.length -> first + 1 + 0 <= nv ns' rest -> Calls Tryz.prog 55 #[st (lo : Int) 1, .pointer (some ⟨a, 0, none⟩), .int .i64 ((first : Int) + 1), .int .i64 (rest : Int)] w' (MkPost base a M vars most w' ns' 0 (first + 1) fun x => sel 0 lo (first + 1) x && ev ns' rest x)) := fun w' ns' hA hr hn => by
  have := build_1 hA (first := first + 1) hlo hr (by omega)
  rw [hcast] at this
  exact this
 have IH : Go.RowKit.Hid (∀ (w' : World) (ns' : List Nd), Ar base a M vars most w' ns' -> rest < ns'.length -> first + 1 + 0 <= nv ns' rest -> Calls Tryz.prog 55 #[st (hi : Int) 1, .pointer (some ⟨a, 0, none⟩), .int .i64 ((first : Int) + 1), .int .i64 (rest : Int)] w' (MkPost base a M vars most w' ns' 0 (first + 1) fun x => sel 0 hi (first + 1) x && ev ns' rest x)) := fun w' ns' hA hr hn => by
  have := build_1 hA (first := first + 1) hhi hr (by omega)
  rw [hcast] at this
  exact this
 clear hcast
 have hwm : Go.RowKit.Hid (IntKind.i64.wrap (IntKind.i64.wrap 2 - 1) = 1) := by
  show _ = _
  rw [IntWalk.i64_in 2 (by omega), IntWalk.i64_in _ (by omega)]
  rfl
 have hwr : IntKind.i64.wrap ((first : Int) + 1) = (first : Int) + 1 := IntWalk.i64_in _ (by omega)
 have A0d := A0.drew'
 have L0d := L0.drew
 have K0d := K0.drew
 go_enter Tryz.func55, Tryz.ntmps55
 go_wp2_with fail
 go_region_held3 (fun w' => w'.cell? ⟨w.heap.size, 0, none⟩ = some (.int .i64 (bits : Int)) ∧ w'.cell? ⟨w.heap.size, 1, none⟩ = some (.int .i64 2))
  (exact Loc.two (by assumption))
  (first | (go_at_call 55; rw [hwm.out, eL]; refine (IL.out _ ns (by assumption) hr (by omega)).mono ?_; rintro e w2 hp2; obtain ⟨ns1, v1, er1, rfl, A1, K1, X1, l1, d1⟩ := hp2.pair; have L1 := L0d.kp K1; clear hp2))
 have wf1 := A1.wf
 have KK1 := K0d.trans K1
 obtain ⟨q0, q1⟩ := L1.two
 have hr1 : rest < ns1.length := Nat.lt_of_lt_of_le hr X1.len
 have hn1 : first + 1 + 0 <= nv ns1 rest := by rw [X1.va hr]; omega
 clear A0 K0 L0 c0 c1 A0d K0d L0d K1
 rcases d1.out with ⟨rfl, f1, rfl, lt1, va1, ev1'⟩ | ⟨rfl, rfl, full1⟩
 ·have E1 : Go.RowKit.Hid (∀ x, ev ns1 f1 x = (sel 0 lo (first + 1) x && ev ns rest x)) := ev1'
  clear ev1' d1
  go_wp2_with fail
  refine (IH.out _ ns1 A1 hr1 hn1).mono ?_
  rintro e w3 hp3
  obtain ⟨ns2, v2, er2, rfl, A2, K2, X2, l2, d2⟩ := hp3.pair
  clear hp3
  have wf2 := A2.wf
  have KK2 := KK1.trans K2
  rcases d2.out with ⟨rfl, f2, rfl, lt2, va2, ev2'⟩ | ⟨rfl, rfl, full2⟩
  ·have E2 : Go.RowKit.Hid (∀ x, ev ns2 f2 x = (sel 0 hi (first + 1) x && ev ns1 rest x)) := ev2'
   have lt1' : f1 < ns2.length := Nat.lt_of_lt_of_le lt1 X2.len
   have va1' : first < nv ns2 f1 := by rw [X2.va lt1]; omega
   have va2' : first < nv ns2 f2 := by omega
   clear ev2' d2 q0 q1 L1
   go_wp2_with fail
   refine (node_ok A2 (i := first) (lo := f1) (up := f2) (by omega) lt1' lt2 va1' va2').mono ?_
   rintro e w4 hp4
   have hp5 : MkPost base a M vars most w ns 1 first (fun x => sel 1 bits first x && ev ns rest x) e w4 := by
    obtain ⟨ns3, r1, r2, r3, r4, r5⟩ := hp4
    refine ⟨ns3, r1, KK2.trans r2, (X1.trans X2).trans r3, by omega, ?_⟩
    rcases r5 with ⟨f, e1, e2, e3, e4⟩ | r5
    ·refine Or.inl ⟨f, e1, e2, e3, fun x => ?_⟩
     rw [e4 x]
     show (if x first = true then ev ns2 f2 x else ev ns2 f1 x) = (sel 1 bits first x && ev ns rest x)
     rw [hsel.out x, E2.out x, X2.ev wf1 wf2 _ lt1, E1.out x, X1.ev wf wf1 _ hr]
     cases x first <;> rfl
    ·exact Or.inr r5
   clear hp4
   have hp6 := hp5
   obtain ⟨ns3, _, _, _, _, ⟨f', rfl, _⟩ | ⟨rfl, _⟩⟩ := hp5
   ·go_wp2_with fail
    go_ret2
    exact hp6
   ·go_wp2_with fail
    go_ret2
    exact hp6
  ·have fin : MkPost base a M vars most w ns 1 first (fun x => sel 1 bits first x && ev ns rest x) (.returned (.tuple #[.int .i64 0, .int .i64 6])) w3 :=
    ⟨ns2, A2, KK2, X1.trans X2, by omega, Or.inr ⟨rfl, full2⟩⟩
   clear d2 A2 K2 KK2
   go_wp2_with fail
   go_ret2
   exact fin
 ·have fin : MkPost base a M vars most w ns 1 first (fun x => sel 1 bits first x && ev ns rest x) (.returned (.tuple #[.int .i64 0, .int .i64 6])) w2 :=
   ⟨ns1, A1, KK1, X1, by omega, Or.inr ⟨rfl, full1⟩⟩
  clear d1 A1 KK1
  go_wp2_with fail
  go_ret2
  exact fin
theorem low_4 (bits : Nat) (h : bits < 16) : Go.bits .and .i64 (bits : Int) 3 = ((bits &&& 3 : Nat) : Int) := intBits_and bits 3 (by omega) (by decide)
theorem high_4 (bits : Nat) : (bits : Int) / (4 : Int) = ((bits >>> 2 : Nat) : Int) := by rw [Nat.shiftRight_eq_div_pow]; simp
theorem build_4 (h : Ar base a M vars most w ns) {bits first rest : Nat} (hbits : bits < 16) (hv : first + 2 <= vars) (hr : rest < ns.length) (hf : first + 2 <= nv ns rest) :
  Calls Tryz.prog 55 #[st (bits : Int) 4, .pointer (some ⟨a, 0, none⟩), .int .i64 (first : Int), .int .i64 (rest : Int)] w (MkPost base a M vars most w ns 3 first fun x => sel 2 bits first x && ev ns rest x) := by
 have wf := h.wf
 have v16 := h.vars16
 have eL := low_4 bits hbits
 have eH := high_4 bits
 have hlo : bits &&& 3 < 4 := Nat.lt_of_le_of_lt Nat.and_le_right (by decide)
 have hhi : bits >>> 2 < 4 := by rw [Nat.shiftRight_eq_div_pow]; omega
 have hsel : Go.RowKit.Hid (∀ x, sel 2 bits first x = if x first then sel 1 (bits >>> 2) (first + 1) x else sel 1 (bits &&& 3) (first + 1) x) := fun x => rfl
 generalize bits &&& 3 = lo at *
 generalize bits >>> 2 = hi at *
 have L0 := h.loc #[.int .i64 (bits : Int), .int .i64 4] 122
 have A0 := h.alloc (.cells #[.int .i64 (bits : Int), .int .i64 4] 122)
 have K0 := Ar.kalloc' h (.cells #[.int .i64 (bits : Int), .int .i64 4] 122)
 obtain ⟨c0, c1⟩ := L0.two
 have hcast : ((first + 1 : Nat) : Int) = (first : Int) + 1 := by omega
 have IL : Go.RowKit.Hid (∀ (w' : World) (ns' : List Nd), Ar base a M vars most w' ns' -> rest < ns'.length -> first + 1 + 1 <= nv ns' rest -> Calls Tryz.prog 55 #[st (lo : Int) 2, .pointer (some ⟨a, 0, none⟩), .int .i64 ((first : Int) + 1), .int .i64 (rest : Int)] w' (MkPost base a M vars most w' ns' 1 (first + 1) fun x => sel 1 lo (first + 1) x && ev ns' rest x)) := fun w' ns' hA hr hn => by
  have := build_2 hA (first := first + 1) hlo (by omega) hr (by omega)
  rw [hcast] at this
  exact this
 have IH : Go.RowKit.Hid (∀ (w' : World) (ns' : List Nd), Ar base a M vars most w' ns' -> rest < ns'.length -> first + 1 + 1 <= nv ns' rest -> Calls Tryz.prog 55 #[st (hi : Int) 2, .pointer (some ⟨a, 0, none⟩), .int .i64 ((first : Int) + 1), .int .i64 (rest : Int)] w' (MkPost base a M vars most w' ns' 1 (first + 1) fun x => sel 1 hi (first + 1) x && ev ns' rest x)) := fun w' ns' hA hr hn => by
  have := build_2 hA (first := first + 1) hhi (by omega) hr (by omega)
  rw [hcast] at this
  exact this
 clear hcast
 have hwm : Go.RowKit.Hid (IntKind.i64.wrap (IntKind.i64.wrap 4 - 1) = 3) := by
  show _ = _
  rw [IntWalk.i64_in 4 (by omega), IntWalk.i64_in _ (by omega)]
  rfl
 have hwr : IntKind.i64.wrap ((first : Int) + 1) = (first : Int) + 1 := IntWalk.i64_in _ (by omega)
 have A0d := A0.drew'
 have L0d := L0.drew
 have K0d := K0.drew
 go_enter Tryz.func55, Tryz.ntmps55
 go_wp2_with fail
 go_region_held3 (fun w' => w'.cell? ⟨w.heap.size, 0, none⟩ = some (.int .i64 (bits : Int)) ∧ w'.cell? ⟨w.heap.size, 1, none⟩ = some (.int .i64 4))
  (exact Loc.two (by assumption))
  (first | (go_at_call 55; rw [hwm.out, eL]; refine (IL.out _ ns (by assumption) hr (by omega)).mono ?_; rintro e w2 hp2; obtain ⟨ns1, v1, er1, rfl, A1, K1, X1, l1, d1⟩ := hp2.pair; have L1 := L0d.kp K1; clear hp2))
 have wf1 := A1.wf
 have KK1 := K0d.trans K1
 obtain ⟨q0, q1⟩ := L1.two
 have hr1 : rest < ns1.length := Nat.lt_of_lt_of_le hr X1.len
 have hn1 : first + 1 + 1 <= nv ns1 rest := by rw [X1.va hr]; omega
 clear A0 K0 L0 c0 c1 A0d K0d L0d K1
 rcases d1.out with ⟨rfl, f1, rfl, lt1, va1, ev1'⟩ | ⟨rfl, rfl, full1⟩
 ·have E1 : Go.RowKit.Hid (∀ x, ev ns1 f1 x = (sel 1 lo (first + 1) x && ev ns rest x)) := ev1'
  clear ev1' d1
  go_wp2_with fail
  refine (IH.out _ ns1 A1 hr1 hn1).mono ?_
  rintro e w3 hp3
  obtain ⟨ns2, v2, er2, rfl, A2, K2, X2, l2, d2⟩ := hp3.pair
  clear hp3
  have wf2 := A2.wf
  have KK2 := KK1.trans K2
  rcases d2.out with ⟨rfl, f2, rfl, lt2, va2, ev2'⟩ | ⟨rfl, rfl, full2⟩
  ·have E2 : Go.RowKit.Hid (∀ x, ev ns2 f2 x = (sel 1 hi (first + 1) x && ev ns1 rest x)) := ev2'
   have lt1' : f1 < ns2.length := Nat.lt_of_lt_of_le lt1 X2.len
   have va1' : first < nv ns2 f1 := by rw [X2.va lt1]; omega
   have va2' : first < nv ns2 f2 := by omega
   clear ev2' d2 q0 q1 L1
   go_wp2_with fail
   refine (node_ok A2 (i := first) (lo := f1) (up := f2) (by omega) lt1' lt2 va1' va2').mono ?_
   rintro e w4 hp4
   have hp5 : MkPost base a M vars most w ns 3 first (fun x => sel 2 bits first x && ev ns rest x) e w4 := by
    obtain ⟨ns3, r1, r2, r3, r4, r5⟩ := hp4
    refine ⟨ns3, r1, KK2.trans r2, (X1.trans X2).trans r3, by omega, ?_⟩
    rcases r5 with ⟨f, e1, e2, e3, e4⟩ | r5
    ·refine Or.inl ⟨f, e1, e2, e3, fun x => ?_⟩
     rw [e4 x]
     show (if x first = true then ev ns2 f2 x else ev ns2 f1 x) = (sel 2 bits first x && ev ns rest x)
     rw [hsel.out x, E2.out x, X2.ev wf1 wf2 _ lt1, E1.out x, X1.ev wf wf1 _ hr]
     cases x first <;> rfl
    ·exact Or.inr r5
   clear hp4
   have hp6 := hp5
   obtain ⟨ns3, _, _, _, _, ⟨f', rfl, _⟩ | ⟨rfl, _⟩⟩ := hp5
   ·go_wp2_with fail
    go_ret2
    exact hp6
   ·go_wp2_with fail
    go_ret2
    exact hp6
  ·have fin : MkPost base a M vars most w ns 3 first (fun x => sel 2 bits first x && ev ns rest x) (.returned (.tuple #[.int .i64 0, .int .i64 6])) w3 :=
    ⟨ns2, A2, KK2, X1.trans X2, by omega, Or.inr ⟨rfl, full2⟩⟩
   clear d2 A2 K2 KK2
   go_wp2_with fail
   go_ret2
   exact fin
 ·have fin : MkPost base a M vars most w ns 3 first (fun x => sel 2 bits first x && ev ns rest x) (.returned (.tuple #[.int .i64 0, .int .i64 6])) w2 :=
   ⟨ns1, A1, KK1, X1, by omega, Or.inr ⟨rfl, full1⟩⟩
  clear d1 A1 KK1
  go_wp2_with fail
  go_ret2
  exact fin
theorem low_8 (bits : Nat) (h : bits < 256) : Go.bits .and .i64 (bits : Int) 15 = ((bits &&& 15 : Nat) : Int) := intBits_and bits 15 (by omega) (by decide)
theorem high_8 (bits : Nat) : (bits : Int) / (16 : Int) = ((bits >>> 4 : Nat) : Int) := by rw [Nat.shiftRight_eq_div_pow]; simp
theorem build_8 (h : Ar base a M vars most w ns) {bits first rest : Nat} (hbits : bits < 256) (hv : first + 3 <= vars) (hr : rest < ns.length) (hf : first + 3 <= nv ns rest) :
  Calls Tryz.prog 55 #[st (bits : Int) 8, .pointer (some ⟨a, 0, none⟩), .int .i64 (first : Int), .int .i64 (rest : Int)] w (MkPost base a M vars most w ns 7 first fun x => sel 3 bits first x && ev ns rest x) := by
 have wf := h.wf
 have v16 := h.vars16
 have eL := low_8 bits hbits
 have eH := high_8 bits
 have hlo : bits &&& 15 < 16 := Nat.lt_of_le_of_lt Nat.and_le_right (by decide)
 have hhi : bits >>> 4 < 16 := by rw [Nat.shiftRight_eq_div_pow]; omega
 have hsel : Go.RowKit.Hid (∀ x, sel 3 bits first x = if x first then sel 2 (bits >>> 4) (first + 1) x else sel 2 (bits &&& 15) (first + 1) x) := fun x => rfl
 generalize bits &&& 15 = lo at *
 generalize bits >>> 4 = hi at *
 have L0 := h.loc #[.int .i64 (bits : Int), .int .i64 8] 122
 have A0 := h.alloc (.cells #[.int .i64 (bits : Int), .int .i64 8] 122)
 have K0 := Ar.kalloc' h (.cells #[.int .i64 (bits : Int), .int .i64 8] 122)
 obtain ⟨c0, c1⟩ := L0.two
 have hcast : ((first + 1 : Nat) : Int) = (first : Int) + 1 := by omega
 have IL : Go.RowKit.Hid (∀ (w' : World) (ns' : List Nd), Ar base a M vars most w' ns' -> rest < ns'.length -> first + 1 + 2 <= nv ns' rest -> Calls Tryz.prog 55 #[st (lo : Int) 4, .pointer (some ⟨a, 0, none⟩), .int .i64 ((first : Int) + 1), .int .i64 (rest : Int)] w' (MkPost base a M vars most w' ns' 3 (first + 1) fun x => sel 2 lo (first + 1) x && ev ns' rest x)) := fun w' ns' hA hr hn => by
  have := build_4 hA (first := first + 1) hlo (by omega) hr (by omega)
  rw [hcast] at this
  exact this
 have IH : Go.RowKit.Hid (∀ (w' : World) (ns' : List Nd), Ar base a M vars most w' ns' -> rest < ns'.length -> first + 1 + 2 <= nv ns' rest -> Calls Tryz.prog 55 #[st (hi : Int) 4, .pointer (some ⟨a, 0, none⟩), .int .i64 ((first : Int) + 1), .int .i64 (rest : Int)] w' (MkPost base a M vars most w' ns' 3 (first + 1) fun x => sel 2 hi (first + 1) x && ev ns' rest x)) := fun w' ns' hA hr hn => by
  have := build_4 hA (first := first + 1) hhi (by omega) hr (by omega)
  rw [hcast] at this
  exact this
 clear hcast
 have hwm : Go.RowKit.Hid (IntKind.i64.wrap (IntKind.i64.wrap 16 - 1) = 15) := by
  show _ = _
  rw [IntWalk.i64_in 16 (by omega), IntWalk.i64_in _ (by omega)]
  rfl
 have hwr : IntKind.i64.wrap ((first : Int) + 1) = (first : Int) + 1 := IntWalk.i64_in _ (by omega)
 have A0d := A0.drew'
 have L0d := L0.drew
 have K0d := K0.drew
 go_enter Tryz.func55, Tryz.ntmps55
 go_wp2_with fail
 go_region_held3 (fun w' => w'.cell? ⟨w.heap.size, 0, none⟩ = some (.int .i64 (bits : Int)) ∧ w'.cell? ⟨w.heap.size, 1, none⟩ = some (.int .i64 8))
  (exact Loc.two (by assumption))
  (first | (go_at_call 55; rw [hwm.out, eL]; refine (IL.out _ ns (by assumption) hr (by omega)).mono ?_; rintro e w2 hp2; obtain ⟨ns1, v1, er1, rfl, A1, K1, X1, l1, d1⟩ := hp2.pair; have L1 := L0d.kp K1; clear hp2))
 have wf1 := A1.wf
 have KK1 := K0d.trans K1
 obtain ⟨q0, q1⟩ := L1.two
 have hr1 : rest < ns1.length := Nat.lt_of_lt_of_le hr X1.len
 have hn1 : first + 1 + 2 <= nv ns1 rest := by rw [X1.va hr]; omega
 clear A0 K0 L0 c0 c1 A0d K0d L0d K1
 rcases d1.out with ⟨rfl, f1, rfl, lt1, va1, ev1'⟩ | ⟨rfl, rfl, full1⟩
 ·have E1 : Go.RowKit.Hid (∀ x, ev ns1 f1 x = (sel 2 lo (first + 1) x && ev ns rest x)) := ev1'
  clear ev1' d1
  go_wp2_with fail
  refine (IH.out _ ns1 A1 hr1 hn1).mono ?_
  rintro e w3 hp3
  obtain ⟨ns2, v2, er2, rfl, A2, K2, X2, l2, d2⟩ := hp3.pair
  clear hp3
  have wf2 := A2.wf
  have KK2 := KK1.trans K2
  rcases d2.out with ⟨rfl, f2, rfl, lt2, va2, ev2'⟩ | ⟨rfl, rfl, full2⟩
  ·have E2 : Go.RowKit.Hid (∀ x, ev ns2 f2 x = (sel 2 hi (first + 1) x && ev ns1 rest x)) := ev2'
   have lt1' : f1 < ns2.length := Nat.lt_of_lt_of_le lt1 X2.len
   have va1' : first < nv ns2 f1 := by rw [X2.va lt1]; omega
   have va2' : first < nv ns2 f2 := by omega
   clear ev2' d2 q0 q1 L1
   go_wp2_with fail
   refine (node_ok A2 (i := first) (lo := f1) (up := f2) (by omega) lt1' lt2 va1' va2').mono ?_
   rintro e w4 hp4
   have hp5 : MkPost base a M vars most w ns 7 first (fun x => sel 3 bits first x && ev ns rest x) e w4 := by
    obtain ⟨ns3, r1, r2, r3, r4, r5⟩ := hp4
    refine ⟨ns3, r1, KK2.trans r2, (X1.trans X2).trans r3, by omega, ?_⟩
    rcases r5 with ⟨f, e1, e2, e3, e4⟩ | r5
    ·refine Or.inl ⟨f, e1, e2, e3, fun x => ?_⟩
     rw [e4 x]
     show (if x first = true then ev ns2 f2 x else ev ns2 f1 x) = (sel 3 bits first x && ev ns rest x)
     rw [hsel.out x, E2.out x, X2.ev wf1 wf2 _ lt1, E1.out x, X1.ev wf wf1 _ hr]
     cases x first <;> rfl
    ·exact Or.inr r5
   clear hp4
   have hp6 := hp5
   obtain ⟨ns3, _, _, _, _, ⟨f', rfl, _⟩ | ⟨rfl, _⟩⟩ := hp5
   ·go_wp2_with fail
    go_ret2
    exact hp6
   ·go_wp2_with fail
    go_ret2
    exact hp6
  ·have fin : MkPost base a M vars most w ns 7 first (fun x => sel 3 bits first x && ev ns rest x) (.returned (.tuple #[.int .i64 0, .int .i64 6])) w3 :=
    ⟨ns2, A2, KK2, X1.trans X2, by omega, Or.inr ⟨rfl, full2⟩⟩
   clear d2 A2 K2 KK2
   go_wp2_with fail
   go_ret2
   exact fin
 ·have fin : MkPost base a M vars most w ns 7 first (fun x => sel 3 bits first x && ev ns rest x) (.returned (.tuple #[.int .i64 0, .int .i64 6])) w2 :=
   ⟨ns1, A1, KK1, X1, by omega, Or.inr ⟨rfl, full1⟩⟩
  clear d1 A1 KK1
  go_wp2_with fail
  go_ret2
  exact fin
theorem low_16 (bits : Nat) (h : bits < 65536) : Go.bits .and .i64 (bits : Int) 255 = ((bits &&& 255 : Nat) : Int) := intBits_and bits 255 (by omega) (by decide)
theorem high_16 (bits : Nat) : (bits : Int) / (256 : Int) = ((bits >>> 8 : Nat) : Int) := by rw [Nat.shiftRight_eq_div_pow]; simp
theorem build_16 (h : Ar base a M vars most w ns) {bits first rest : Nat} (hbits : bits < 65536) (hv : first + 4 <= vars) (hr : rest < ns.length) (hf : first + 4 <= nv ns rest) :
  Calls Tryz.prog 55 #[st (bits : Int) 16, .pointer (some ⟨a, 0, none⟩), .int .i64 (first : Int), .int .i64 (rest : Int)] w (MkPost base a M vars most w ns 15 first fun x => sel 4 bits first x && ev ns rest x) := by
 have wf := h.wf
 have v16 := h.vars16
 have eL := low_16 bits hbits
 have eH := high_16 bits
 have hlo : bits &&& 255 < 256 := Nat.lt_of_le_of_lt Nat.and_le_right (by decide)
 have hhi : bits >>> 8 < 256 := by rw [Nat.shiftRight_eq_div_pow]; omega
 have hsel : Go.RowKit.Hid (∀ x, sel 4 bits first x = if x first then sel 3 (bits >>> 8) (first + 1) x else sel 3 (bits &&& 255) (first + 1) x) := fun x => rfl
 generalize bits &&& 255 = lo at *
 generalize bits >>> 8 = hi at *
 have L0 := h.loc #[.int .i64 (bits : Int), .int .i64 16] 122
 have A0 := h.alloc (.cells #[.int .i64 (bits : Int), .int .i64 16] 122)
 have K0 := Ar.kalloc' h (.cells #[.int .i64 (bits : Int), .int .i64 16] 122)
 obtain ⟨c0, c1⟩ := L0.two
 have hcast : ((first + 1 : Nat) : Int) = (first : Int) + 1 := by omega
 have IL : Go.RowKit.Hid (∀ (w' : World) (ns' : List Nd), Ar base a M vars most w' ns' -> rest < ns'.length -> first + 1 + 3 <= nv ns' rest -> Calls Tryz.prog 55 #[st (lo : Int) 8, .pointer (some ⟨a, 0, none⟩), .int .i64 ((first : Int) + 1), .int .i64 (rest : Int)] w' (MkPost base a M vars most w' ns' 7 (first + 1) fun x => sel 3 lo (first + 1) x && ev ns' rest x)) := fun w' ns' hA hr hn => by
  have := build_8 hA (first := first + 1) hlo (by omega) hr (by omega)
  rw [hcast] at this
  exact this
 have IH : Go.RowKit.Hid (∀ (w' : World) (ns' : List Nd), Ar base a M vars most w' ns' -> rest < ns'.length -> first + 1 + 3 <= nv ns' rest -> Calls Tryz.prog 55 #[st (hi : Int) 8, .pointer (some ⟨a, 0, none⟩), .int .i64 ((first : Int) + 1), .int .i64 (rest : Int)] w' (MkPost base a M vars most w' ns' 7 (first + 1) fun x => sel 3 hi (first + 1) x && ev ns' rest x)) := fun w' ns' hA hr hn => by
  have := build_8 hA (first := first + 1) hhi (by omega) hr (by omega)
  rw [hcast] at this
  exact this
 clear hcast
 have hwm : Go.RowKit.Hid (IntKind.i64.wrap (IntKind.i64.wrap 256 - 1) = 255) := by
  show _ = _
  rw [IntWalk.i64_in 256 (by omega), IntWalk.i64_in _ (by omega)]
  rfl
 have hwr : IntKind.i64.wrap ((first : Int) + 1) = (first : Int) + 1 := IntWalk.i64_in _ (by omega)
 have A0d := A0.drew'
 have L0d := L0.drew
 have K0d := K0.drew
 go_enter Tryz.func55, Tryz.ntmps55
 go_wp2_with fail
 go_region_held3 (fun w' => w'.cell? ⟨w.heap.size, 0, none⟩ = some (.int .i64 (bits : Int)) ∧ w'.cell? ⟨w.heap.size, 1, none⟩ = some (.int .i64 16))
  (exact Loc.two (by assumption))
  (first | (go_at_call 55; rw [hwm.out, eL]; refine (IL.out _ ns (by assumption) hr (by omega)).mono ?_; rintro e w2 hp2; obtain ⟨ns1, v1, er1, rfl, A1, K1, X1, l1, d1⟩ := hp2.pair; have L1 := L0d.kp K1; clear hp2))
 have wf1 := A1.wf
 have KK1 := K0d.trans K1
 obtain ⟨q0, q1⟩ := L1.two
 have hr1 : rest < ns1.length := Nat.lt_of_lt_of_le hr X1.len
 have hn1 : first + 1 + 3 <= nv ns1 rest := by rw [X1.va hr]; omega
 clear A0 K0 L0 c0 c1 A0d K0d L0d K1
 rcases d1.out with ⟨rfl, f1, rfl, lt1, va1, ev1'⟩ | ⟨rfl, rfl, full1⟩
 ·have E1 : Go.RowKit.Hid (∀ x, ev ns1 f1 x = (sel 3 lo (first + 1) x && ev ns rest x)) := ev1'
  clear ev1' d1
  go_wp2_with fail
  refine (IH.out _ ns1 A1 hr1 hn1).mono ?_
  rintro e w3 hp3
  obtain ⟨ns2, v2, er2, rfl, A2, K2, X2, l2, d2⟩ := hp3.pair
  clear hp3
  have wf2 := A2.wf
  have KK2 := KK1.trans K2
  rcases d2.out with ⟨rfl, f2, rfl, lt2, va2, ev2'⟩ | ⟨rfl, rfl, full2⟩
  ·have E2 : Go.RowKit.Hid (∀ x, ev ns2 f2 x = (sel 3 hi (first + 1) x && ev ns1 rest x)) := ev2'
   have lt1' : f1 < ns2.length := Nat.lt_of_lt_of_le lt1 X2.len
   have va1' : first < nv ns2 f1 := by rw [X2.va lt1]; omega
   have va2' : first < nv ns2 f2 := by omega
   clear ev2' d2 q0 q1 L1
   go_wp2_with fail
   refine (node_ok A2 (i := first) (lo := f1) (up := f2) (by omega) lt1' lt2 va1' va2').mono ?_
   rintro e w4 hp4
   have hp5 : MkPost base a M vars most w ns 15 first (fun x => sel 4 bits first x && ev ns rest x) e w4 := by
    obtain ⟨ns3, r1, r2, r3, r4, r5⟩ := hp4
    refine ⟨ns3, r1, KK2.trans r2, (X1.trans X2).trans r3, by omega, ?_⟩
    rcases r5 with ⟨f, e1, e2, e3, e4⟩ | r5
    ·refine Or.inl ⟨f, e1, e2, e3, fun x => ?_⟩
     rw [e4 x]
     show (if x first = true then ev ns2 f2 x else ev ns2 f1 x) = (sel 4 bits first x && ev ns rest x)
     rw [hsel.out x, E2.out x, X2.ev wf1 wf2 _ lt1, E1.out x, X1.ev wf wf1 _ hr]
     cases x first <;> rfl
    ·exact Or.inr r5
   clear hp4
   have hp6 := hp5
   obtain ⟨ns3, _, _, _, _, ⟨f', rfl, _⟩ | ⟨rfl, _⟩⟩ := hp5
   ·go_wp2_with fail
    go_ret2
    exact hp6
   ·go_wp2_with fail
    go_ret2
    exact hp6
  ·have fin : MkPost base a M vars most w ns 15 first (fun x => sel 4 bits first x && ev ns rest x) (.returned (.tuple #[.int .i64 0, .int .i64 6])) w3 :=
    ⟨ns2, A2, KK2, X1.trans X2, by omega, Or.inr ⟨rfl, full2⟩⟩
   clear d2 A2 K2 KK2
   go_wp2_with fail
   go_ret2
   exact fin
 ·have fin : MkPost base a M vars most w ns 15 first (fun x => sel 4 bits first x && ev ns rest x) (.returned (.tuple #[.int .i64 0, .int .i64 6])) w2 :=
   ⟨ns1, A1, KK1, X1, by omega, Or.inr ⟨rfl, full1⟩⟩
  clear d1 A1 KK1
  go_wp2_with fail
  go_ret2
  exact fin
end
def phi (sa sb sc sd : Nat) (x : Env) : Bool := sel 4 sa 0 x && (sel 4 sb 4 x && (sel 3 sc 8 x && (sel 3 sd 11 x && true)))
theorem sel_zero (k first : Nat) (x : Env) : sel k 0 first x = false := by rw [sel_val]; simp
section
variable {base a M vars most : Nat} {w w' : World} {ns : List Nd}
theorem Loc.four {C : Cfg} {w : World} {i : Nat} {x y z u : Value} {t : TypeId} (h : Loc C w i #[x, y, z, u] t) : w.cell? ⟨i, 0, none⟩ = some x ∧ w.cell? ⟨i, 1, none⟩ = some y ∧ w.cell? ⟨i, 2, none⟩ = some z ∧ w.cell? ⟨i, 3, none⟩ = some u :=
 ⟨by rw [cell_of_row w i 0 _ _ _ h.blk]; rfl, by rw [cell_of_row w i 1 _ _ _ h.blk]; rfl, by rw [cell_of_row w i 2 _ _ _ h.blk]; rfl, by rw [cell_of_row w i 3 _ _ _ h.blk]; rfl⟩
theorem build_none (h : Ar base a M vars most w ns) (hv : 14 <= vars) (sa sb sc sd : Nat) (hz : sa = 0 ∨ sb = 0 ∨ sc = 0 ∨ sd = 0) :
  Calls Tryz.prog 37 #[.pointer (some ⟨a, 0, none⟩), mt sa sb sc sd] w (MkPost base a M vars most w ns 44 0 (phi sa sb sc sd)) := by
 have l2 := h.wf.len
 have L0 := h.loc #[.int .u16 (sa : Int), .int .u16 (sb : Int), .int .u8 (sc : Int), .int .u8 (sd : Int)] 34
 have A0 := h.alloc (.cells #[.int .u16 (sa : Int), .int .u16 (sb : Int), .int .u8 (sc : Int), .int .u8 (sd : Int)] 34)
 have K0 := Ar.kalloc' h (.cells #[.int .u16 (sa : Int), .int .u16 (sb : Int), .int .u8 (sc : Int), .int .u8 (sd : Int)] 34)
 have t1 : decide ((vars : Int) < 14) = false := by simp; omega
 have fin : MkPost base a M vars most w ns 44 0 (phi sa sb sc sd) (.returned (.tuple #[.int .i64 0, .int .i64 0])) (w.alloc (.cells #[.int .u16 (sa : Int), .int .u16 (sb : Int), .int .u8 (sc : Int), .int .u8 (sd : Int)] 34)) :=
  ⟨ns, A0, K0, Ext.refl _, by omega, Or.inl ⟨0, rfl, by omega, Nat.zero_le _, fun x => by
   rw [ev0]
   unfold phi
   rcases hz with rfl | rfl | rfl | rfl <;> simp [sel_zero]⟩⟩
 clear L0 K0
 by_cases za : sa = 0
 ·subst za
  go_enter Tryz.func37, Tryz.ntmps37
  go_wp2_with fail
  refine (vars_any A0).mono ?_
  rintro e w1 ⟨rfl, rfl⟩
  go_wp2_with fail
  go_ret2
  exact fin
 by_cases zb : sb = 0
 ·subst zb
  go_enter Tryz.func37, Tryz.ntmps37
  go_wp2_with fail
  refine (vars_any A0).mono ?_
  rintro e w1 ⟨rfl, rfl⟩
  go_wp2_with fail
  go_ret2
  exact fin
 by_cases zc : sc = 0
 ·subst zc
  go_enter Tryz.func37, Tryz.ntmps37
  go_wp2_with fail
  refine (vars_any A0).mono ?_
  rintro e w1 ⟨rfl, rfl⟩
  go_wp2_with fail
  go_ret2
  exact fin
 ·obtain rfl : sd = 0 := by omega
  go_enter Tryz.func37, Tryz.ntmps37
  go_wp2_with fail
  refine (vars_any A0).mono ?_
  rintro e w1 ⟨rfl, rfl⟩
  go_wp2_with fail
  go_ret2
  exact fin
theorem build_some (h : Ar base a M vars most w ns) (hv : 14 <= vars) (sa sb sc sd : Nat) (ha : sa < 65536) (hb : sb < 65536) (hc : sc < 256) (hd : sd < 256) (za : sa ≠ 0) (zb : sb ≠ 0) (zc : sc ≠ 0) (zd : sd ≠ 0) :
  Calls Tryz.prog 37 #[.pointer (some ⟨a, 0, none⟩), mt sa sb sc sd] w (MkPost base a M vars most w ns 44 0 (phi sa sb sc sd)) := by
 have l2 := h.wf.len
 have wf := h.wf
 have n1 : nv ns 1 = vars := by rw [nv, h.wf.n1]
 have L0 := h.loc #[.int .u16 (sa : Int), .int .u16 (sb : Int), .int .u8 (sc : Int), .int .u8 (sd : Int)] 34
 have A0 := h.alloc (.cells #[.int .u16 (sa : Int), .int .u16 (sb : Int), .int .u8 (sc : Int), .int .u8 (sd : Int)] 34)
 have K0 := Ar.kalloc' h (.cells #[.int .u16 (sa : Int), .int .u16 (sb : Int), .int .u8 (sc : Int), .int .u8 (sd : Int)] 34)
 have t1 : decide ((vars : Int) < 14) = false := by simp; omega
 have e1 : ((sa : Int) == 0) = false := by simp; omega
 have e2 : ((sb : Int) == 0) = false := by simp; omega
 have e3 : ((sc : Int) == 0) = false := by simp; omega
 have e4 : ((sd : Int) == 0) = false := by simp; omega
 have pA : Go.RowKit.Hid (∀ w, Calls Tryz.prog 56 #[.int .u16 (sa : Int)] w fun e w' => e = .returned (st sa 16) ∧ Below w.heap.size w w') := fun w => addrs_any sa w ha
 have pB : Go.RowKit.Hid (∀ w, Calls Tryz.prog 56 #[.int .u16 (sb : Int)] w fun e w' => e = .returned (st sb 16) ∧ Below w.heap.size w w') := fun w => addrs_any sb w hb
 have pC : Go.RowKit.Hid (∀ w, Calls Tryz.prog 54 #[.int .u8 (sc : Int)] w fun e w' => e = .returned (st sc 8) ∧ Below w.heap.size w w') := fun w => ports_any sc w hc
 have pD : Go.RowKit.Hid (∀ w, Calls Tryz.prog 54 #[.int .u8 (sd : Int)] w fun e w' => e = .returned (st sd 8) ∧ Below w.heap.size w w') := fun w => ports_any sd w hd
 have bD : Go.RowKit.Hid (∀ (w' : World) (ns' : List Nd) (rest : Nat), Ar base a M vars most w' ns' -> rest < ns'.length -> 11 + 3 <= nv ns' rest -> Calls Tryz.prog 55 #[st (sd : Int) 8, .pointer (some ⟨a, 0, none⟩), .int .i64 11, .int .i64 (rest : Int)] w' (MkPost base a M vars most w' ns' 7 11 fun x => sel 3 sd 11 x && ev ns' rest x)) := fun w' ns' rest hA h1 h2 => build_8 hA (first := 11) hd (by omega) h1 h2
 have bC : Go.RowKit.Hid (∀ (w' : World) (ns' : List Nd) (rest : Nat), Ar base a M vars most w' ns' -> rest < ns'.length -> 8 + 3 <= nv ns' rest -> Calls Tryz.prog 55 #[st (sc : Int) 8, .pointer (some ⟨a, 0, none⟩), .int .i64 8, .int .i64 (rest : Int)] w' (MkPost base a M vars most w' ns' 7 8 fun x => sel 3 sc 8 x && ev ns' rest x)) := fun w' ns' rest hA h1 h2 => build_8 hA (first := 8) hc (by omega) h1 h2
 have bB : Go.RowKit.Hid (∀ (w' : World) (ns' : List Nd) (rest : Nat), Ar base a M vars most w' ns' -> rest < ns'.length -> 4 + 4 <= nv ns' rest -> Calls Tryz.prog 55 #[st (sb : Int) 16, .pointer (some ⟨a, 0, none⟩), .int .i64 4, .int .i64 (rest : Int)] w' (MkPost base a M vars most w' ns' 15 4 fun x => sel 4 sb 4 x && ev ns' rest x)) := fun w' ns' rest hA h1 h2 => build_16 hA (first := 4) hb (by omega) h1 h2
 have bA : Go.RowKit.Hid (∀ (w' : World) (ns' : List Nd) (rest : Nat), Ar base a M vars most w' ns' -> rest < ns'.length -> 0 + 4 <= nv ns' rest -> Calls Tryz.prog 55 #[st (sa : Int) 16, .pointer (some ⟨a, 0, none⟩), .int .i64 0, .int .i64 (rest : Int)] w' (MkPost base a M vars most w' ns' 15 0 fun x => sel 4 sa 0 x && ev ns' rest x)) := fun w' ns' rest hA h1 h2 => build_16 hA (first := 0) ha (by omega) h1 h2
 obtain ⟨c0, c1, c2, c3⟩ := L0.four
 clear ha hb hc hd za zb zc zd
 go_enter Tryz.func37, Tryz.ntmps37
 go_wp2_with fail
 refine (vars_any A0).mono ?_
 rintro e w0 ⟨rfl, hw0⟩
 subst hw0
 go_wp2_with fail
 refine (pD.out _).mono ?_
 rintro e u1 ⟨rfl, hb1⟩
 have B1 := A0.below hb1
 have M1 := Loc.below L0 A0 hb1
 have J1 := K0.trans (A0.kbelow hb1)
 clear c0 c1 c2 c3
 clear hb1 A0 L0 K0
 go_wp2_with fail
 refine (bD.out _ ns 1 B1 (by omega) (by rw [n1]; omega)).mono ?_
 rintro e x1 hp1
 obtain ⟨ns1, v1, er1, rfl, A1, K1, X1, l1, d1⟩ := hp1.pair
 have wf1 := A1.wf
 have KK1 := J1.trans K1
 have L1 := M1.kp K1
 obtain ⟨c0, c1, c2, c3⟩ := L1.four
 have XX1 := X1
 clear hp1 B1 M1 J1 K1
 rcases d1.out with ⟨rfl, f1, rfl, lt1, va1, ev1x⟩ | ⟨rfl, rfl, full1⟩
 ·have E1 : Go.RowKit.Hid (∀ x, ev ns1 f1 x = (sel 3 sd 11 x && true)) := fun x => by rw [ev1x x, ev1]
  clear ev1x d1
  go_wp2_with fail
  refine (pC.out _).mono ?_
  rintro e u2 ⟨rfl, hb2⟩
  have B2 := A1.below hb2
  have M2 := Loc.below L1 A1 hb2
  have J2 := KK1.trans (A1.kbelow hb2)
  clear c0 c1 c2 c3
  clear hb2 A1 L1 KK1
  go_wp2_with fail
  refine (bC.out _ ns1 f1 B2 lt1 (by omega)).mono ?_
  rintro e x2 hp2
  obtain ⟨ns2, v2, er2, rfl, A2, K2, X2, l2, d2⟩ := hp2.pair
  have wf2 := A2.wf
  have KK2 := J2.trans K2
  have L2 := M2.kp K2
  obtain ⟨c0, c1, c2, c3⟩ := L2.four
  have XX2 := (XX1.trans X2)
  clear hp2 B2 M2 J2 K2
  rcases d2.out with ⟨rfl, f2, rfl, lt2, va2, ev2x⟩ | ⟨rfl, rfl, full2⟩
  ·have E2 : Go.RowKit.Hid (∀ x, ev ns2 f2 x = (sel 3 sc 8 x && (sel 3 sd 11 x && true))) := fun x => by rw [ev2x x, E1.out x]
   clear ev2x d2
   go_wp2_with fail
   refine (pB.out _).mono ?_
   rintro e u3 ⟨rfl, hb3⟩
   have B3 := A2.below hb3
   have M3 := Loc.below L2 A2 hb3
   have J3 := KK2.trans (A2.kbelow hb3)
   clear c0 c1 c2 c3
   clear hb3 A2 L2 KK2
   go_wp2_with fail
   refine (bB.out _ ns2 f2 B3 lt2 (by omega)).mono ?_
   rintro e x3 hp3
   obtain ⟨ns3, v3, er3, rfl, A3, K3, X3, l3, d3⟩ := hp3.pair
   have wf3 := A3.wf
   have KK3 := J3.trans K3
   have L3 := M3.kp K3
   obtain ⟨c0, c1, c2, c3⟩ := L3.four
   have XX3 := (XX2.trans X3)
   clear hp3 B3 M3 J3 K3
   rcases d3.out with ⟨rfl, f3, rfl, lt3, va3, ev3x⟩ | ⟨rfl, rfl, full3⟩
   ·have E3 : Go.RowKit.Hid (∀ x, ev ns3 f3 x = (sel 4 sb 4 x && (sel 3 sc 8 x && (sel 3 sd 11 x && true)))) := fun x => by rw [ev3x x, E2.out x]
    clear ev3x d3
    go_wp2_with fail
    refine (pA.out _).mono ?_
    rintro e u4 ⟨rfl, hb4⟩
    have B4 := A3.below hb4
    have M4 := Loc.below L3 A3 hb4
    have J4 := KK3.trans (A3.kbelow hb4)
    clear c0 c1 c2 c3
    clear hb4 A3 L3 KK3
    go_wp2_with fail
    refine (bA.out _ ns3 f3 B4 lt3 (by omega)).mono ?_
    rintro e x4 hp4
    obtain ⟨ns4, v4, er4, rfl, A4, K4, X4, l4, d4⟩ := hp4.pair
    have wf4 := A4.wf
    have KK4 := J4.trans K4
    have L4 := M4.kp K4
    obtain ⟨c0, c1, c2, c3⟩ := L4.four
    have XX4 := (XX3.trans X4)
    clear hp4 B4 M4 J4 K4
    rcases d4.out with ⟨rfl, f4, rfl, lt4, va4, ev4x⟩ | ⟨rfl, rfl, full4⟩
    ·have E4 : Go.RowKit.Hid (∀ x, ev ns4 f4 x = (sel 4 sa 0 x && (sel 4 sb 4 x && (sel 3 sc 8 x && (sel 3 sd 11 x && true))))) := fun x => by rw [ev4x x, E3.out x]
     clear ev4x d4
     have fin : MkPost base a M vars most w ns 44 0 (phi sa sb sc sd) (.returned (.tuple #[.int .i64 (f4 : Int), .int .i64 0])) x4 :=
      ⟨ns4, A4, KK4, XX4, by omega, Or.inl ⟨f4, rfl, lt4, Nat.zero_le _, E4.out⟩⟩
     clear A4 KK4 L4 c0 c1 c2 c3
     go_wp2_with fail
     go_ret2
     exact fin
    ·have fin : MkPost base a M vars most w ns 44 0 (phi sa sb sc sd) (.returned (.tuple #[.int .i64 0, .int .i64 6])) x4 :=
      ⟨ns4, A4, KK4, XX4, by omega, Or.inr ⟨rfl, full4⟩⟩
     clear d4 A4 KK4 L4 c0 c1 c2 c3
     go_wp2_with fail
     go_ret2
     exact fin
   ·have fin : MkPost base a M vars most w ns 44 0 (phi sa sb sc sd) (.returned (.tuple #[.int .i64 0, .int .i64 6])) x3 :=
     ⟨ns3, A3, KK3, XX3, by omega, Or.inr ⟨rfl, full3⟩⟩
    clear d3 A3 KK3 L3 c0 c1 c2 c3
    go_wp2_with fail
    go_ret2
    exact fin
  ·have fin : MkPost base a M vars most w ns 44 0 (phi sa sb sc sd) (.returned (.tuple #[.int .i64 0, .int .i64 6])) x2 :=
    ⟨ns2, A2, KK2, XX2, by omega, Or.inr ⟨rfl, full2⟩⟩
   clear d2 A2 KK2 L2 c0 c1 c2 c3
   go_wp2_with fail
   go_ret2
   exact fin
 ·have fin : MkPost base a M vars most w ns 44 0 (phi sa sb sc sd) (.returned (.tuple #[.int .i64 0, .int .i64 6])) x1 :=
   ⟨ns1, A1, KK1, XX1, by omega, Or.inr ⟨rfl, full1⟩⟩
  clear d1 A1 KK1 L1 c0 c1 c2 c3
  go_wp2_with fail
  go_ret2
  exact fin
theorem build_match (h : Ar base a M vars most w ns) (hv : 14 <= vars) (sa sb sc sd : Nat) (ha : sa < 65536) (hb : sb < 65536) (hc : sc < 256) (hd : sd < 256) :
  Calls Tryz.prog 37 #[.pointer (some ⟨a, 0, none⟩), mt sa sb sc sd] w (MkPost base a M vars most w ns 44 0 (phi sa sb sc sd)) := by
 by_cases hz : sa = 0 ∨ sb = 0 ∨ sc = 0 ∨ sd = 0
 ·exact build_none h hv sa sb sc sd hz
 ·exact build_some h hv sa sb sc sd ha hb hc hd (by omega) (by omega) (by omega) (by omega)
end
end Go.Proofs.YtmcklkkkkigflaaGreat
namespace Go.Proofs.YtmcklkkkkigflaaGreat
open Go
theorem wpIn_of_wp {P : Program} {o : Oper} {a : Act} {w : World} {K : Act -> World -> Prop} {Q : Exit -> Act -> World -> Prop} (l n : Nat) (hd : ∀ c, o.op ≠ .defer c) (h : o.wp P a w K Q) : o.wpIn (Fence.wide.inRound l) n P a w K Q := by
 refine ⟨fun _ _ => trivial, ?_⟩
 rw [Oper.semAt_eq _ _ _ hd]
 unfold Oper.wp at h
 generalize (execOp a.eval o).run P w = r at h ⊢
 cases r with
 | ok x w' =>
   cases x with
   | value v => exact h
   | skip => exact h
   | defer d => exact h
   | enter f args => exact ⟨(fun e => by cases e), CallsIn.inRound l (callsIn_wide.2 h)⟩
   | row row args => exact ⟨(fun e => by cases e), fun c cs _ => let ⟨v, w'', r, s⟩ := h c cs; ⟨v, w'', r, stepsIn_wide.2 s⟩⟩
   | _ => exact h.elim
 | halt x w' => cases x <;> exact h
theorem wpAnyIn_of {P : Program} {md : Region.Mode} {ops : Array Oper} {Q : Exit -> Act -> World -> Prop} (l n : Nat) (hd : ∀ (i : Nat) (o : Oper), ops[i]? = some o -> ∀ c, o.op ≠ .defer c) (hQ : ¬ LetsOut Q) : ∀ (fuel : Nat) (listed : Array Bool) (a : Act) (w : World), wpAny P md ops Q fuel listed a w -> wpAnyIn (Fence.wide.inRound l) n P md ops Q fuel listed a w := by
 intro fuel
 induction fuel with
 | zero => exact fun _ _ _ h => h
 | succ fuel ih =>
   intro listed a w h
   refine ⟨h.1, fun i hi => ?_⟩
   have hh := h.2 i hi
   unfold wpOp at hh
   unfold wpOpIn
   cases ho : ops[i]? with
   | none => rw [ho] at hh; exact ih _ _ _ hh
   | some o =>
     rw [ho] at hh
     simp only at hh ⊢
     split
     ·rename_i hw
      rw [if_pos hw] at hh
      rcases hh with hh | ⟨_, hh⟩
      ·exact Oper.wpIn_mono (fun a w hk => ih _ _ _ hk) (wpIn_of_wp l n (hd i o ho) hh)
      ·exact absurd hh hQ
     ·rename_i hw
      rw [if_neg hw] at hh
      exact ⟨fun _ _ => trivial, ih _ _ _ hh⟩
def noDefer (ops : Array Oper) : Bool := ops.all fun o => match o.op with | .defer _ => false | _ => true
theorem noDefer_spec {ops : Array Oper} (h : noDefer ops = true) (i : Nat) (o : Oper) (ho : ops[i]? = some o) : ∀ c, o.op ≠ .defer c := by
 intro c e
 obtain ⟨hi, rfl⟩ := Array.getElem?_eq_some_iff.1 ho
 have := (Array.all_eq_true.1 h) i hi
 rw [e] at this
 cases this
theorem region_held_in {P : Program} {ops : Array Oper} {Q : Exit -> Act -> World -> Prop} {S : World -> Prop} {id l n : Nat} {a : Act} {w : World} (hm : P.follows .mixedOrders = true) (hd : noDefer ops = true) (hQ : ¬ LetsOut Q) (hS : S w.drew)
  (h : S w.drew -> wpAnyH P .any ops Q S ops.size (Array.replicate ops.size false) a w.drew) : (Code.region id ops true).wpIn (Fence.wide.inRound l) n P Q a w :=
 wpIn_region_any hm (wpAnyIn_of l n (noDefer_spec hd) hQ _ _ _ _ (wpAny_of_held _ _ _ _ (h hS)))
end Go.Proofs.YtmcklkkkkigflaaGreat
namespace Go.Proofs.YtmcklkkkkigflaaGreat
open Go.RowKit Go.Shelf Go.Maps
attribute [local go_sem] Oper.semAt_some
def letsF : List Rl -> Env -> Bool
 | [], _ => false
 | r :: l, x => if phi r.a r.b r.c r.d x then r.ok else letsF l x
theorem came_all (xs : List Rl) : ((came xs xs.length).map Prod.snd).reverse = xs := by
 apply List.ext_getElem
 ·simp [came]
 ·intro i h1 h2
  simp [came]
  rw [show xs.length - 1 - (xs.length - 1 - i) = i by omega, List.getElem?_eq_getElem h2]
  rfl
theorem letsF_snoc (pre : List IR) (x : IR) (e : Env) : letsF ((pre ++ [x]).map Prod.snd).reverse e = if phi x.2.a x.2.b x.2.c x.2.d e then x.2.ok else letsF (pre.map Prod.snd).reverse e := by
 simp [letsF]
theorem answer_r (r : Rl) (w : World) : Calls Tryz.prog 39 #[rv r] w fun e w' => e = .returned (.int .i64 ((if r.ok then 1 else 0 : Nat) : Int)) ∧ Below w.heap.size w w' := by
 have D0 := Below.alloc' (Below.refl w.heap.size w) (.cells #[.bool r.ok, .int .u16 (r.a : Int), .int .u16 (r.b : Int), .int .u8 (r.c : Int), .int .u8 (r.d : Int)] 36)
 obtain ⟨ok, ra, rb, rc, rd, _, _, _, _⟩ := r
 cases ok
 ·go_enter Tryz.func39, Tryz.ntmps39
  go_wp2_with fail
  go_ret
  exact ⟨rfl, D0⟩
 ·go_enter Tryz.func39, Tryz.ntmps39
  go_wp2_with fail
  go_ret
  exact ⟨rfl, D0⟩
theorem answer_q (r : Rl) (w : World) : Calls Tryz.prog 39 #[rv r] w fun e w' => ∃ q : Nat, e = .returned (.int .i64 (q : Int)) ∧ Hid (q = if r.ok then 1 else 0) ∧ Below w.heap.size w w' :=
 (answer_r r w).mono fun _ _ ⟨h1, h2⟩ => ⟨_, h1, rfl, h2⟩
def Box5 (W : World) (B : Nat) (r : Rl) : Prop := W.heap[B]? = some (.cells #[.bool r.ok, .int .u16 (r.a : Int), .int .u16 (r.b : Int), .int .u8 (r.c : Int), .int .u8 (r.d : Int)] 36 (0, 0))
theorem Box5.cells {W : World} {B : Nat} {r : Rl} (h : Box5 W B r) : W.cell? ⟨B, 0, none⟩ = some (.bool r.ok) ∧ W.cell? ⟨B, 1, none⟩ = some (.int .u16 (r.a : Int)) ∧ W.cell? ⟨B, 2, none⟩ = some (.int .u16 (r.b : Int)) ∧ W.cell? ⟨B, 3, none⟩ = some (.int .u8 (r.c : Int)) ∧ W.cell? ⟨B, 4, none⟩ = some (.int .u8 (r.d : Int)) := by
 refine ⟨?_, ?_, ?_, ?_, ?_⟩ <;> (rw [cell_of_row W B _ _ _ _ h]; rfl)
section
variable {base a M : Nat} {W W' : World} {ns : List Nd}
theorem Ar.book {vars most B : Nat} {row : Option Nat} (h : Ar base a M vars most W ns) (hg : W.grownBy W' row) (hr : ∀ r, row = some r -> B <= r ∧ ∃ o : Obj, W.heap[r]? = some o ∧ o.isCells = false) (hM : M < B) : Ar base a M vars most W' ns := by
 obtain ⟨cur, hrow, _, rl⟩ := h.row
 obtain ⟨g, cap, cs, t, hb, _⟩ := h.blk
 refine h.same (hg.block a h.lta (fun e => ?_)) (hg.block M h.ltM (fun e => ?_)) (hg.block _ rl (fun e => ?_))
 ·obtain ⟨_, o, ho, hc⟩ := hr a e.symm
  rw [hb] at ho
  cases ho
  cases hc
 ·have := (hr M e.symm).1
  omega
 ·obtain ⟨_, o, ho, hc⟩ := hr _ e.symm
  rw [hrow] at ho
  cases ho
  cases hc
theorem Ar.outBox {vars most i : Nat} {cs : Array Value} {t : TypeId} (h : Ar base a M vars most W ns) (hb : W.heap[i]? = some (.cells cs t (0, 0))) (h1 : t ≠ 75 ∧ t ≠ 78) (h2 : t ≠ 94) : Loc (ca base a M vars most) W i cs t := by
 refine ⟨⟨(Array.getElem?_eq_some_iff.1 hb).1, ?_, fun e => ?_⟩, hb⟩
 ·have na : i ≠ a := fun e => by
   obtain ⟨g, cap, cs, t, ha, hc, _⟩ := h.blk
   rw [e, ha] at hb
   simp only [Option.some.injEq, Obj.cells.injEq] at hb
   rcases hc.ty with e1 | e1
   ·exact h1.1 (hb.2.1.symm.trans e1)
   ·exact h1.2 (hb.2.1.symm.trans e1)
  rintro (e | e | e | e | e | e)
  ·exact na e
  ·exact na e
  ·have e' : i = M := e
   obtain ⟨num, hm, _⟩ := h.map
   obtain ⟨es, clock, hM⟩ := hm.isMap
   rw [e', hM] at hb
   simp at hb
  ·cases e
  ·cases e
  ·cases e
 ·have e' : i = rowOf W a := e
  obtain ⟨cur, hrow, _⟩ := h.row
  rw [e', hrow] at hb
  simp only [Option.some.injEq, Obj.cells.injEq] at hb
  exact h2 hb.2.1.symm
theorem Kp.keepsFrom {vars most B : Nat} (k : Kp (ca base a M vars most) W W') (h : Ar base a M vars most W ns) (hM : M < B) : KeepsFrom B W W' := by
 refine ⟨k.size, fun i o hB hi ho => ?_⟩
 obtain ⟨cur, hrow, _, rl⟩ := h.row
 obtain ⟨g, cap, cs, t, hb, _⟩ := h.blk
 refine (k.blk i (Array.getElem?_eq_some_iff.1 hi).1 ?_ (fun e => ?_)).trans hi
 ·have na : i ≠ a := fun e => by
   rw [e, hb] at hi
   cases hi
   cases ho
  rintro (e | e | e | e | e | e)
  ·exact na e
  ·exact na e
  ·have e' : i = M := e
   omega
  ·cases e
  ·cases e
  ·cases e
 ·have e' : i = rowOf W a := e
  rw [e', hrow] at hi
  cases hi
  cases ho
end
theorem OpPost.pair {base a M vars most : Nat} {w w' : World} {ns : List Nd} {g : Nat} {φ : Env -> Bool} {e : Ending} (h : OpPost base a M vars most w ns g φ e w') :
  ∃ (ns' : List Nd) (v er : Int), e = .returned (.tuple #[.int .i64 v, .int .i64 er]) ∧ Ar base a M vars most w' ns' ∧ Kp (ca base a M vars most) w w' ∧ Ext ns ns' ∧ ns'.length <= ns.length + g ∧
    Hid ((er = 0 ∧ ∃ f : Nat, v = (f : Int) ∧ f < ns'.length ∧ ∀ x, ev ns' f x = φ x) ∨ (er = 6 ∧ v = 0 ∧ ns'.length = most)) := by
 obtain ⟨ns', r1, r2, r3, r4, ⟨f, e1, e2⟩ | ⟨e1, e2⟩⟩ := h
 ·exact ⟨ns', f, 0, e1, r1, r2, r3, r4, Or.inl ⟨rfl, f, rfl, e2⟩⟩
 ·exact ⟨ns', 0, 6, e1, r1, r2, r3, r4, Or.inr ⟨rfl, rfl, e2⟩⟩
theorem Ar.notMine {base a M vars most : Nat} {w : World} {ns : List Nd} (h : Ar base a M vars most w ns) {i : Nat} (hi : i < base) : ¬ (ca base a M vars most).mine i := by
 have h1 := h.lowA
 have h2 := h.lowM
 rintro (e | e | e | e | e | e)
 ·have : i = a := e
  omega
 ·have : i = a := e
  omega
 ·have : i = M := e
  omega
 ·cases e
 ·cases e
 ·cases e
theorem Ar.kp_below {base a M vars most : Nat} {w w' : World} {ns : List Nd} (h : Ar base a M vars most w ns) (k : Kp (ca base a M vars most) w w') : Below base w w' := by
 obtain ⟨_, _, rb, rl⟩ := h.row
 have h1 := h.lowA
 have h2 := h.lta
 exact ⟨k.os, k.tape, k.output, k.size, fun i hi => k.blk i (by omega) (h.notMine hi) (by show i ≠ rowOf w a; omega)⟩
def JI (base a M n0 L : Nat) (v : Value) (w : World) (pre : List IR) (W : World) : Prop :=
 ∃ (ns : List Nd) (F : Nat), Ar base a M 14 40000 W ns ∧ F < ns.length ∧ (∀ x, ev ns F x = letsF (pre.map Prod.snd).reverse x) ∧ ns.length <= L + pre.length * 16427 ∧
   Boxed W n0 42 (.pointer (some ⟨a, 0, none⟩)) ∧ Boxed W (n0 + 1) 3 (.int .i64 0) ∧ Boxed W (n0 + 1 + 1) 29 (.int .i64 0) ∧ Boxed W (n0 + 1 + 1 + 1) 3 (.int .i64 (F : Int)) ∧ Boxed W (n0 + 1 + 1 + 1 + 1) 26 v ∧ Below base w W
def JX (base a M n0 L k : Nat) (w : World) (c : Code) (W : World) : Prop :=
 c = .ret ∧ 40000 <= L + k * 16427 ∧ ∃ ns : List Nd, Ar base a M 14 40000 W ns ∧ Boxed W (n0 + 1) 3 (.int .i64 0) ∧ Boxed W (n0 + 1 + 1) 29 (.int .i64 6) ∧ Below base w W
theorem Box5.own {B : Nat} {r : Rl} {W W' : World} {row : Option Nat} (h : Box5 W B r) (hg : W.grownBy W' row) (hr : ∀ r, row = some r -> ∃ o : Obj, W.heap[r]? = some o ∧ o.isCells = false) : Box5 W' B r :=
 (grownBy_keeps_cells hg hr h rfl).trans h
theorem Ar.box {base a M vars most i : Nat} {W W' : World} {ns : List Nd} {t : TypeId} {v : Value} (h : Ar base a M vars most W ns) (k : Kp (ca base a M vars most) W W') (hb : Boxed W i t v) (h1 : t ≠ 75 ∧ t ≠ 78) (h2 : t ≠ 94) : Boxed W' i t v := ((h.outBox hb h1 h2).kp k).blk
theorem Ar.box5 {base a M vars most i : Nat} {W W' : World} {ns : List Nd} {r : Rl} (h : Ar base a M vars most W ns) (k : Kp (ca base a M vars most) W W') (hb : Box5 W i r) : Box5 W' i r := ((h.outBox hb (by decide) (by decide)).kp k).blk
theorem JI.own {base a M n0 L B : Nat} {v : Value} {w : World} (hM : M < B) (hb : base <= w.heap.size) (hB : base <= B) : OwnFrom B (JI base a M n0 L v w) := by
 rintro pre W W' row ⟨ns, F, h1, h2, h3, hL, b0, b1, b2, b3, b4, D⟩ hg hr
 have hr' : ∀ r, row = some r -> ∃ o : Obj, W.heap[r]? = some o ∧ o.isCells = false := fun r e => (hr r e).2
 exact ⟨ns, F, h1.book hg hr hM, h2, h3, hL, boxed_own n0 _ (fun _ : Unit => _) () W W' row b0 hg hr', boxed_own _ _ (fun _ : Unit => _) () W W' row b1 hg hr', boxed_own _ _ (fun _ : Unit => _) () W W' row b2 hg hr', boxed_own _ _ (fun _ : Unit => _) () W W' row b3 hg hr', boxed_own _ _ (fun _ : Unit => _) () W W' row b4 hg hr', ownFrom_below hb hB () W W' row D hg hr⟩
theorem JX.own {base a M n0 L B : Nat} {w : World} (hM : M < B) (hb : base <= w.heap.size) (hB : base <= B) (c : Code) : OwnFrom B (fun (pre : List IR) W => JX base a M n0 L pre.length w c W) := by
 rintro pre W W' row ⟨e, hL, ns, h1, b1, b2, D⟩ hg hr
 have hr' : ∀ r, row = some r -> ∃ o : Obj, W.heap[r]? = some o ∧ o.isCells = false := fun r e => (hr r e).2
 exact ⟨e, hL, ns, h1.book hg hr hM, boxed_own _ _ (fun _ : Unit => _) () W W' row b1 hg hr', boxed_own _ _ (fun _ : Unit => _) () W W' row b2 hg hr', ownFrom_below hb hB () W W' row D hg hr⟩
structure RS (base a M n0 B Bx F : Nat) (r : Rl) (v : Value) (w W1 : World) (ns : List Nd) (W : World) : Prop where
 ar : Ar base a M 14 40000 W ns
 b0 : Boxed W n0 42 (.pointer (some ⟨a, 0, none⟩))
 b1 : Boxed W (n0 + 1) 3 (.int .i64 0)
 b2 : Boxed W (n0 + 1 + 1) 29 (.int .i64 0)
 b3 : Boxed W (n0 + 1 + 1 + 1) 3 (.int .i64 (F : Int))
 b4 : Boxed W (n0 + 1 + 1 + 1 + 1) 26 v
 bx : Box5 W Bx r
 low : Below base w W
 kf : KeepsFrom B W1 W
 kb : Below base W1 W
 mB : M < B
 bn : base <= n0
section
variable {base a M n0 B Bx F : Nat} {r : Rl} {v : Value} {w W1 W W' : World} {ns ns' : List Nd}
theorem RS.step (h : RS base a M n0 B Bx F r v w W1 ns W) (k : Kp (ca base a M 14 40000) W W') (A : Ar base a M 14 40000 W' ns') : RS base a M n0 B Bx F r v w W1 ns' W' :=
 ⟨A, h.ar.box k h.b0 (by decide) (by decide), h.ar.box k h.b1 (by decide) (by decide), h.ar.box k h.b2 (by decide) (by decide), h.ar.box k h.b3 (by decide) (by decide), h.ar.box k h.b4 (by decide) (by decide), h.ar.box5 k h.bx,
  h.low.trans (h.ar.kp_below k), h.kf.trans (k.keepsFrom h.ar h.mB), h.kb.trans (h.ar.kp_below k), h.mB, h.bn⟩
theorem RS.below (h : RS base a M n0 B Bx F r v w W1 ns W) (hb : Below W.heap.size W W') : RS base a M n0 B Bx F r v w W1 ns W' := h.step (h.ar.kbelow hb) (h.ar.below hb)
theorem RS.drew (h : RS base a M n0 B Bx F r v w W1 ns W) : RS base a M n0 B Bx F r v w W1 ns W.drew :=
 ⟨h.ar.drew', h.b0, h.b1, h.b2, h.b3, h.b4, h.bx, h.low.drew, h.kf.trans ((KeepsOthers.drew _).from _), h.kb.drew, h.mB, h.bn⟩
theorem RS.four (h : RS base a M n0 B Bx F r v w W1 ns W) : W.cell? ⟨n0, 0, none⟩ = some (.pointer (some ⟨a, 0, none⟩)) ∧ W.cell? ⟨Bx, 0, none⟩ = some (.bool r.ok) ∧ W.cell? ⟨Bx, 1, none⟩ = some (.int .u16 (r.a : Int)) ∧ W.cell? ⟨Bx, 2, none⟩ = some (.int .u16 (r.b : Int)) ∧ W.cell? ⟨Bx, 3, none⟩ = some (.int .u8 (r.c : Int)) ∧ W.cell? ⟨Bx, 4, none⟩ = some (.int .u8 (r.d : Int)) := ⟨h.b0.cell, h.bx.cells⟩
structure RT (base a M n0 B Bx : Nat) (u : Int) (r : Rl) (v : Value) (w W1 : World) (ns : List Nd) (W : World) : Prop where
 ar : Ar base a M 14 40000 W ns
 b0 : Boxed W n0 42 (.pointer (some ⟨a, 0, none⟩))
 b1 : Boxed W (n0 + 1) 3 (.int .i64 0)
 b2 : Boxed W (n0 + 1 + 1) 29 (.int .i64 0)
 b3 : Boxed W (n0 + 1 + 1 + 1) 3 (.int .i64 u)
 b4 : Boxed W (n0 + 1 + 1 + 1 + 1) 26 v
 bx : Box5 W Bx r
 low : Below base w W
 kf : KeepsFrom B W1 W
 kb : Below base W1 W
theorem RT.four {u : Int} (h : RT base a M n0 B Bx u r v w W1 ns W) : W.cell? ⟨n0, 0, none⟩ = some (.pointer (some ⟨a, 0, none⟩)) ∧ W.cell? ⟨Bx, 0, none⟩ = some (.bool r.ok) ∧ W.cell? ⟨Bx, 1, none⟩ = some (.int .u16 (r.a : Int)) ∧ W.cell? ⟨Bx, 2, none⟩ = some (.int .u16 (r.b : Int)) ∧ W.cell? ⟨Bx, 3, none⟩ = some (.int .u8 (r.c : Int)) ∧ W.cell? ⟨Bx, 4, none⟩ = some (.int .u8 (r.d : Int)) := ⟨h.b0.cell, h.bx.cells⟩
theorem Ar.setBox {vars most i : Nat} {t : TypeId} {x : Value} (h : Ar base a M vars most W ns) (hb : Boxed W i t x) (h1 : t ≠ 75 ∧ t ≠ 78) (h2 : t ≠ 94) (u : Value) : Ar base a M vars most (W.setCell ⟨i, 0, none⟩ u) ns := by
 have L := h.outBox hb h1 h2
 obtain ⟨_, _, _, rl⟩ := h.row
 exact h.same (Below.heap_setCell W _ u a (fun e => L.out.not (Or.inl e.symm))) (Below.heap_setCell W _ u M (fun e => L.out.not (Or.inr (Or.inr (Or.inl e.symm))))) (Below.heap_setCell W _ u _ (fun e => L.out.ne e.symm))
theorem RS.set (h : RS base a M n0 B Bx F r v w W1 ns W) (u : Int) : RT base a M n0 B Bx u r v w W1 ns (W.setCell ⟨n0 + 1 + 1 + 1, 0, none⟩ (.int .i64 u)) := by
 have hx : n0 + 1 + 1 + 1 ≠ Bx := fun e => by
  have h1 := h.b3
  have h2 := h.bx
  unfold Boxed at h1
  unfold Box5 at h2
  rw [e, h2] at h1
  simp at h1
 have hbn := h.bn
 exact ⟨h.ar.setBox h.b3 (by decide) (by decide) _, h.b0.other (by omega) _, h.b1.other (by omega) _, h.b2.other (by omega) _, h.b3.set _, h.b4.other (by omega) _, (Below.heap_setCell W _ _ Bx (fun e => hx e.symm)).trans h.bx,
  h.low.setCell (p := ⟨n0 + 1 + 1 + 1, 0, none⟩) (by show base <= n0 + 1 + 1 + 1; omega) _, h.kf.trans ((KeepsOthers.setCell _ _ _).from _), h.kb.setCell (p := ⟨n0 + 1 + 1 + 1, 0, none⟩) (by show base <= n0 + 1 + 1 + 1; omega) _⟩
theorem RS.rt (h : RS base a M n0 B Bx F r v w W1 ns W) : RT base a M n0 B Bx (F : Int) r v w W1 ns W := ⟨h.ar, h.b0, h.b1, h.b2, h.b3, h.b4, h.bx, h.low, h.kf, h.kb⟩
theorem RT.two {u : Int} (h : RT base a M n0 B Bx u r v w W1 ns W) : W.cell? ⟨n0 + 1, 0, none⟩ = some (.int .i64 0) ∧ W.frozen? ⟨n0 + 1, 0, none⟩ = false ∧ (W.setCell ⟨n0 + 1, 0, none⟩ (.int .i64 0)).cell? ⟨n0 + 1 + 1, 0, none⟩ = some (.int .i64 0) ∧ (W.setCell ⟨n0 + 1, 0, none⟩ (.int .i64 0)).frozen? ⟨n0 + 1 + 1, 0, none⟩ = false :=
 ⟨h.b1.cell, h.b1.frozen, (h.b2.other (by omega) _).cell, (h.b2.other (by omega) _).frozen⟩
theorem RT.err {u : Int} {L k : Nat} (h : RT base a M n0 B Bx u r v w W1 ns W) (bn : base <= n0) (hL : 40000 <= L + k * 16427) : KeepsFrom B W1 ((W.setCell ⟨n0 + 1, 0, none⟩ (.int .i64 0)).setCell ⟨n0 + 1 + 1, 0, none⟩ (.int .i64 6)) ∧ JX base a M n0 L k w .ret ((W.setCell ⟨n0 + 1, 0, none⟩ (.int .i64 0)).setCell ⟨n0 + 1 + 1, 0, none⟩ (.int .i64 6)) := by
 have b2' := h.b2.other (B' := n0 + 1) (by omega) (.int .i64 0)
 refine ⟨h.kf.trans (((KeepsOthers.setCell _ _ _).trans (KeepsOthers.setCell _ _ _)).from _), rfl, hL, ns, (h.ar.setBox h.b1 (by decide) (by decide) _).setBox b2' (by decide) (by decide) _, (h.b1.set _).other (by omega) _, b2'.set _, ?_⟩
 exact (h.low.setCell (p := ⟨n0 + 1, 0, none⟩) (by show base <= n0 + 1; omega) _).setCell (p := ⟨n0 + 1 + 1, 0, none⟩) (by show base <= n0 + 1 + 1; omega) _
end
theorem putD {base a M n0 D : Nat} {w W : World} {ns : List Nd} {u x : Value} {o : Obj} (A : Ar base a M 14 40000 W ns) (b1 : Boxed W (n0 + 1) 3 u) (b2 : Boxed W (n0 + 1 + 1) 29 x) (D1 : Below base w W) (hK : W.heap[D]? = some (.deferred (some []))) (hD : n0 + 5 <= D) (hM : M < n0) (hb : base <= n0) :
  Ar base a M 14 40000 (W.putObj D o) ns ∧ (W.putObj D o).cell? ⟨n0 + 1, 0, none⟩ = some u ∧ (W.putObj D o).cell? ⟨n0 + 1 + 1, 0, none⟩ = some x ∧ Below base w (W.putObj D o) := by
 have g := grownBy_putObj' W D o
 have hD' : D < W.heap.size := (Array.getElem?_eq_some_iff.1 hK).1
 exact ⟨A.book (B := n0) g (fun r e => by cases e; exact ⟨by omega, _, hK, rfl⟩) hM, (b1.kept g (fun e => by cases e; omega)).cell, (b2.kept g (fun e => by cases e; omega)).cell, D1.grown g (by omega) (fun k e => by cases e; omega)⟩
theorem join_ok {base a M : Nat} {w : World} {ns : List Nd} (h : Ar base a M 14 40000 w ns) (A : Option Addr) (len cap : Nat) (xs : List Rl) (hR : Rules base w (.slice A len cap) xs) (hlen : xs.length <= 8) :
  Calls Tryz.prog 23 #[.pointer (some ⟨a, 0, none⟩), .slice A len cap] w fun e w' => ∃ ns', Ar base a M 14 40000 w' ns' ∧ Below base w w' ∧
   ((∃ f : Nat, e = .returned (.tuple #[.int .i64 (f : Int), .int .i64 0]) ∧ f < ns'.length ∧ ∀ x, ev ns' f x = letsF xs x) ∨ (e = .returned (.tuple #[.int .i64 0, .int .i64 6]) ∧ 40000 <= ns.length + xs.length * 16427)) := by
 refine (callsIn_wide (n := 4)).1 ?_
 refine callsIn_of_wp_marks Tryz.func23 rfl trivial ?_ rfl
 simp only [Tryz.ntmps23, List.size_toArray, List.length_cons, List.length_nil, Nat.reduceAdd, Nat.reduceSub, Array.replicate_succ, Array.replicate_zero, List.push_toArray, List.append_toArray, List.nil_append, List.cons_append]
 gi_wp2_with (refine ⟨trivial, ?_⟩; gi_at_call 36; refine (back_in Fence.wide _ trivial rfl _ _ _ _).mono ?_; rintro e w' ⟨rfl, rfl⟩)
 have ltM := h.ltM
 have lta := h.lta
 have lowA := h.lowA
 have q0 := ((((Boxed.new w 42 (.pointer (some ⟨a, 0, none⟩))).alloc (.cells #[.int .i64 0] 3)).alloc (.cells #[.int .i64 0] 29)).alloc (.cells #[.int .i64 0] 3)).alloc (.cells #[.slice A len cap] 26)
 have q1 := (((Boxed.new (w.alloc (.cells #[.pointer (some ⟨a, 0, none⟩)] 42)) 3 (.int .i64 0)).alloc (.cells #[.int .i64 0] 29)).alloc (.cells #[.int .i64 0] 3)).alloc (.cells #[.slice A len cap] 26)
 have q2 := ((Boxed.new ((w.alloc (.cells #[.pointer (some ⟨a, 0, none⟩)] 42)).alloc (.cells #[.int .i64 0] 3)) 29 (.int .i64 0)).alloc (.cells #[.int .i64 0] 3)).alloc (.cells #[.slice A len cap] 26)
 have q3 := (Boxed.new (((w.alloc (.cells #[.pointer (some ⟨a, 0, none⟩)] 42)).alloc (.cells #[.int .i64 0] 3)).alloc (.cells #[.int .i64 0] 29)) 3 (.int .i64 0)).alloc (.cells #[.slice A len cap] 26)
 have q4 := Boxed.new ((((w.alloc (.cells #[.pointer (some ⟨a, 0, none⟩)] 42)).alloc (.cells #[.int .i64 0] 3)).alloc (.cells #[.int .i64 0] 29)).alloc (.cells #[.int .i64 0] 3)) 26 (.slice A len cap)
 simp only [World.size_alloc] at q1 q2 q3 q4
 have D0 : Below base w (((((w.alloc (.cells #[.pointer (some ⟨a, 0, none⟩)] 42)).alloc (.cells #[.int .i64 0] 3)).alloc (.cells #[.int .i64 0] 29)).alloc (.cells #[.int .i64 0] 3)).alloc (.cells #[.slice A len cap] 26)) :=
  (((((Below.refl _ w).alloc (by omega) _).alloc (by simp; omega) _).alloc (by simp; omega) _).alloc (by simp; omega) _).alloc (by simp; omega) _
 have A0 : Ar base a M 14 40000 (((((w.alloc (.cells #[.pointer (some ⟨a, 0, none⟩)] 42)).alloc (.cells #[.int .i64 0] 3)).alloc (.cells #[.int .i64 0] 29)).alloc (.cells #[.int .i64 0] 3)).alloc (.cells #[.slice A len cap] 26)) ns := ((((h.alloc _).alloc _).alloc _).alloc _).alloc _
 have hsz : (((((w.alloc (.cells #[.pointer (some ⟨a, 0, none⟩)] 42)).alloc (.cells #[.int .i64 0] 3)).alloc (.cells #[.int .i64 0] 29)).alloc (.cells #[.int .i64 0] 3)).alloc (.cells #[.slice A len cap] 26)).heap.size = w.heap.size + 5 := by simp
 obtain ⟨W0, hW0⟩ : ∃ W0, (((((w.alloc (.cells #[.pointer (some ⟨a, 0, none⟩)] 42)).alloc (.cells #[.int .i64 0] 3)).alloc (.cells #[.int .i64 0] 29)).alloc (.cells #[.int .i64 0] 3)).alloc (.cells #[.slice A len cap] 26)) = W0 := ⟨_, rfl⟩
 rw [hW0] at q0 q1 q2 q3 q4 D0 A0 hsz ⊢
 clear hW0
 have l2 := h.wf.len
 refine wpIn_rangeFunc_ownH rfl (by omega) (gf := 52) (lb := #[.pointer (some ⟨w.heap.size + 1 + 1 + 1 + 1, 0, none⟩)]) rfl trivial (enters_of Tryz.func52 (by kernel_rfl) rfl)
  (back_stops Fence.wide 3 trivial rfl (by omega) (w.heap.size + 1 + 1 + 1 + 1) base (.slice A len cap) xs (by omega) W0 (by omega) q4 (hR.below D0)) kpB_t
  (fun W l o o' hl ho hc _ => ⟨(Below.refl base W).grown (grownBy_putObj' W l o') (by have := (Array.getElem?_eq_some_iff.1 ho).1; omega) (fun k e => by cases e; omega), fun b => b.kept (grownBy_putObj' W l o') (fun e => by cases e; omega)⟩)
  (Below.refl _ _) (fun _ => rfl)
  (JI base a M w.heap.size ns.length (.slice A len cap) w) (fun c pre W => JX base a M w.heap.size ns.length pre.length w c W)
  (JI.own (by omega) (by omega) (by omega)) (fun c => JX.own (by omega) (by omega) (by omega) c)
  ⟨ns, 0, A0, by omega, (fun x => rfl), by simp, q0, q1, q2, q3, q4, D0⟩
  (fun x a' W => ∃ Bx, Box5 W Bx x.2 ∧ a' = { tmps := #[.pointer (some ⟨a, 0, none⟩), .slice A len cap, .pointer (some ⟨w.heap.size, 0, none⟩), undef, .pointer (some ⟨w.heap.size + 1, 0, none⟩), .pointer (some ⟨w.heap.size + 1 + 1, 0, none⟩), .pointer (some ⟨w.heap.size + 1 + 1 + 1, 0, none⟩), undef, .pointer (some ⟨Bx, 0, none⟩), undef, undef, .slice A len cap, .func (.func 52) #[] #[.pointer (some ⟨w.heap.size + 1 + 1 + 1 + 1, 0, none⟩)], .int .i64 (x.1 : Int), rv x.2, undef, undef, undef, undef, undef, undef, undef, undef, undef, undef, undef, undef, undef, undef, undef, undef, undef, undef, undef, undef, undef, undef, undef], defers := [] })
  (fun x a' _ X Y row hs hg hr => by obtain ⟨Bx, h1, h2⟩ := hs; exact ⟨Bx, h1.own hg (fun r e => (hr r e).2), h2⟩)
  ?assign ?body ?done ?stop
 case assign =>
  rintro l pre x W K ⟨ns1, F1, A1, lF, eF, hL, b0, b1, b2, b3, b4, D1⟩ hK
  have hsW := D1.size
  obtain ⟨i, ⟨ok, ra, rb, rc, rd, g1, g2, g3, g4⟩⟩ := x
  dsimp only [encIR]
  gi_wp2
  exact hK _ _ ((KeepsOthers.alloc _ _).from _) ⟨(Below.refl _ W).alloc (by omega) _, fun b => b.alloc _⟩ ⟨ns1, F1, A1.alloc _, lF, eF, hL, b0.alloc _, b1.alloc _, b2.alloc _, b3.alloc _, b4.alloc _, D1.alloc (by omega) _⟩ ⟨W.heap.size, Go.heap_alloc_new W _, rfl⟩
 case body =>
  rintro l pre x a' W hl ⟨r0, hr0⟩ ⟨ns1, F1, A1, lF, eF, hL, b0, b1, b2, b3, b4, D1⟩ ⟨Bx, bX, rfl⟩ hlt
  obtain ⟨xi, r⟩ := x
  have s1 : RS base a M w.heap.size W0.heap.size Bx F1 r (.slice A len cap) w W ns1 W := ⟨A1, b0, b1, b2, b3, b4, bX, D1, KeepsFrom.refl _ _, Below.refl _ _, by omega, by omega⟩
  clear A1 b0 b1 b2 b3 b4 bX
  obtain ⟨cA, x0, x1, x2, x3, x4⟩ := s1.four
  gi_wp2
  refine ⟨trivial, (CallsIn.inRound l (callsIn_wide.2 (build_match s1.ar (Nat.le_refl _) r.a r.b r.c r.d r.ha r.hb r.hc r.hd))).mono ?_⟩
  rintro e W2 hp2
  obtain ⟨ns2, g2, er2, rfl, A2, K2, X2, hL2, d2⟩ := hp2.pair
  have s2 := s1.step K2 A2
  have wf1 := s1.ar.wf
  clear hp2 A2 K2 cA x0 x1 x2 x3 x4 s1
  obtain ⟨cA, x0, x1, x2, x3, x4⟩ := s2.four
  obtain ⟨c1, f1, c2, f2⟩ := s2.rt.two
  have c3 := s2.b3.cell
  rcases d2.out with ⟨rfl, F2, rfl, lt2, _, ev2⟩ | ⟨rfl, rfl, full2⟩
  ·have lF2 : F1 < ns2.length := Nat.lt_of_lt_of_le lF X2.len
   have wf2 := s2.ar.wf
   have l2' := wf2.len
   have EF : Hid (∀ x, ev ns2 F1 x = letsF (pre.map Prod.snd).reverse x) := fun x => (X2.ev wf1 wf2 _ lF x).trans (eF x)
   have EV : Hid (∀ x, ev ns2 F2 x = phi r.a r.b r.c r.d x) := ev2
   have IT : Hid (∀ w' (q : Nat), Hid (q = if r.ok then 1 else 0) -> RS base a M w.heap.size W0.heap.size Bx F1 r (.slice A len cap) w W ns2 w' -> Calls Tryz.prog 38 #[.pointer (some ⟨a, 0, none⟩), .int .i64 (F2 : Int), .int .i64 (q : Int), .int .i64 (F1 : Int)] w' fun e w'' => ∃ (ns' : List Nd) (v er : Int), e = .returned (.tuple #[.int .i64 v, .int .i64 er]) ∧ Ar base a M 14 40000 w'' ns' ∧ Kp (ca base a M 14 40000) w' w'' ∧ Ext ns2 ns' ∧ ns'.length <= ns2.length + (2 ^ 14 - 1) ∧
     Hid ((er = 0 ∧ ∃ f : Nat, v = (f : Int) ∧ f < ns'.length ∧ ∀ x, ev ns' f x = letsF ((pre ++ [(xi, r)]).map Prod.snd).reverse x) ∨ (er = 6 ∧ v = 0 ∧ ns'.length = 40000))) := fun w' q hq hs => by
    have hq' : q = if r.ok then 1 else 0 := hq
    refine (ite_ok hs.ar (c := (F2, q, F1)) ⟨lt2, by show q < _; rw [hq']; split <;> omega, lF2⟩).mono fun e w'' hp => (hp.of (ψ := fun x => letsF ((pre ++ [(xi, r)]).map Prod.snd).reverse x) (fun x => ?_)).pair
    rw [letsF_snoc, <- EF.out, EV.out, hq']
    cases r.ok
    ·simp [ev0]
    ·simp [ev1]
   have s2d := s2.drew
   clear ev2 eF d2 EF EV
   gi_wp2
   refine region_held_in (S := (fun w' => w'.cell? ⟨w.heap.size, 0, none⟩ = some (.pointer (some ⟨a, 0, none⟩)) ∧ w'.cell? ⟨Bx, 0, none⟩ = some (.bool r.ok) ∧ w'.cell? ⟨Bx, 1, none⟩ = some (.int .u16 (r.a : Int)) ∧ w'.cell? ⟨Bx, 2, none⟩ = some (.int .u16 (r.b : Int)) ∧ w'.cell? ⟨Bx, 3, none⟩ = some (.int .u8 (r.c : Int)) ∧ w'.cell? ⟨Bx, 4, none⟩ = some (.int .u8 (r.d : Int)))) (by kernel_rfl) (by kernel_rfl) (fun ⟨_, _, e⟩ => e) (RS.four (by assumption)) (fun hHeld => ?_)
   refine tk 0 ?_; try simp only [ly]
   refine tk 1 ?_; try simp only [ly]
   refine tk 2 ?_; try simp only [ly]
   refine wpAnyH_ready (rs := [3, 4]) (by kernel_rfl) (by simp) ?_
   refine AllReadyH.cons rfl (fun K hK => ?_) ?_
   ·go_simp
    refine (answer_q r _).mono ?_; rintro e wz ⟨q, rfl, hq, hbz⟩; have sz := RS.below (F := F1) (by assumption) hbz; clear hbz; have cz := sz.b3.cell
    try go_wp2_with fail
    clear hHeld
    refine hK.out _ _ (by first | exact RS.four (by assumption) | exact RT.four (by assumption)) (fun hHeld => ?_)
    clear hK K
    try simp only [ly]
    refine rd 4 (fun K hK => ?_)
    go_simp
    skip
    try go_wp2_with fail
    clear hHeld
    refine hK.out _ _ (by first | exact RS.four (by assumption) | exact RT.four (by assumption)) (fun hHeld => ?_)
    clear hK K
    try simp only [ly]
    refine rd 5 (fun K hK => ?_)
    go_simp
    refine (IT.out _ q hq (by assumption)).mono ?_; rintro e wy ⟨ns3, v3, er3, rfl, A3, K3, X3, hL3, d3⟩; have sy := RS.step (F := F1) (by assumption) K3 A3; have cy := sy.b3.cell; have fy := sy.b3.frozen; clear K3 A3
    try go_wp2_with fail
    clear hHeld
    refine hK.out _ _ (by first | exact RS.four (by assumption) | exact RT.four (by assumption)) (fun hHeld => ?_)
    clear hK K
    try simp only [ly]
    refine tk 6 ?_; try simp only [ly]
    refine tk 7 ?_; try simp only [ly]
    refine tk 8 ?_; try simp only [ly]
    refine rd 9 (fun K hK => ?_)
    go_simp
    have su := RS.set (F := F1) (by assumption) v3
    try go_wp2_with fail
    clear hHeld
    refine hK.out _ _ (by first | exact RS.four (by assumption) | exact RT.four (by assumption)) (fun hHeld => ?_)
    clear hK K
    try simp only [ly]
    refine tk 10 ?_; try simp only [ly]
    refine wpAnyH_done (by kernel_rfl) ?_ _
    obtain ⟨y1, y2, y3, y4⟩ := su.two
    have hlp : (pre ++ [(xi, r)]).length = pre.length + 1 := by simp
    have hL4 : ns3.length <= ns.length + (pre ++ [(xi, r)]).length * 16427 := by rw [hlp]; omega
    rcases d3.out with ⟨rfl, F3, rfl, lt3, ev3⟩ | ⟨rfl, rfl, full3⟩
    ·have fin : Hid (JI base a M w.heap.size ns.length (.slice A len cap) w (pre ++ [(xi, r)]) (wy.setCell ⟨w.heap.size + 1 + 1 + 1, 0, none⟩ (.int .i64 (F3 : Int)))) := ⟨ns3, F3, su.ar, lt3, ev3, hL4, su.b0, su.b1, su.b2, su.b3, su.b4, su.low⟩
     have kf := su.kf
     have kb := su.kb
     have b4 := su.b4
     clear su d3 ev3 sy IT hL4 hlp
     gi_wp2
     exact ⟨kf, ⟨kb, fun _ => b4⟩, fin.out⟩
    ·have fin : Hid _ := su.err (L := ns.length) (k := (pre ++ [(xi, r)]).length) (by omega) (by omega)
     clear d3 sy IT hL4 hlp
     gi_wp2
     exact fin.out
   refine AllReadyH.cons rfl (fun K hK => ?_) AllReadyH.nil
   go_simp
   skip
   try go_wp2_with fail
   clear hHeld
   refine hK.out _ _ (by first | exact RS.four (by assumption) | exact RT.four (by assumption)) (fun hHeld => ?_)
   clear hK K
   try simp only [ly]
   refine rd 3 (fun K hK => ?_)
   go_simp
   refine (answer_q r _).mono ?_; rintro e wz ⟨q, rfl, hq, hbz⟩; have sz := RS.below (F := F1) (by assumption) hbz; clear hbz; have cz := sz.b3.cell
   try go_wp2_with fail
   clear hHeld
   refine hK.out _ _ (by first | exact RS.four (by assumption) | exact RT.four (by assumption)) (fun hHeld => ?_)
   clear hK K
   try simp only [ly]
   refine rd 5 (fun K hK => ?_)
   go_simp
   refine (IT.out _ q hq (by assumption)).mono ?_; rintro e wy ⟨ns3, v3, er3, rfl, A3, K3, X3, hL3, d3⟩; have sy := RS.step (F := F1) (by assumption) K3 A3; have cy := sy.b3.cell; have fy := sy.b3.frozen; clear K3 A3
   try go_wp2_with fail
   clear hHeld
   refine hK.out _ _ (by first | exact RS.four (by assumption) | exact RT.four (by assumption)) (fun hHeld => ?_)
   clear hK K
   try simp only [ly]
   refine tk 6 ?_; try simp only [ly]
   refine tk 7 ?_; try simp only [ly]
   refine tk 8 ?_; try simp only [ly]
   refine rd 9 (fun K hK => ?_)
   go_simp
   have su := RS.set (F := F1) (by assumption) v3
   try go_wp2_with fail
   clear hHeld
   refine hK.out _ _ (by first | exact RS.four (by assumption) | exact RT.four (by assumption)) (fun hHeld => ?_)
   clear hK K
   try simp only [ly]
   refine tk 10 ?_; try simp only [ly]
   refine wpAnyH_done (by kernel_rfl) ?_ _
   obtain ⟨y1, y2, y3, y4⟩ := su.two
   have hlp : (pre ++ [(xi, r)]).length = pre.length + 1 := by simp
   have hL4 : ns3.length <= ns.length + (pre ++ [(xi, r)]).length * 16427 := by rw [hlp]; omega
   rcases d3.out with ⟨rfl, F3, rfl, lt3, ev3⟩ | ⟨rfl, rfl, full3⟩
   ·have fin : Hid (JI base a M w.heap.size ns.length (.slice A len cap) w (pre ++ [(xi, r)]) (wy.setCell ⟨w.heap.size + 1 + 1 + 1, 0, none⟩ (.int .i64 (F3 : Int)))) := ⟨ns3, F3, su.ar, lt3, ev3, hL4, su.b0, su.b1, su.b2, su.b3, su.b4, su.low⟩
    have kf := su.kf
    have kb := su.kb
    have b4 := su.b4
    clear su d3 ev3 sy IT hL4 hlp
    gi_wp2
    exact ⟨kf, ⟨kb, fun _ => b4⟩, fin.out⟩
   ·have fin : Hid _ := su.err (L := ns.length) (k := (pre ++ [(xi, r)]).length) (by omega) (by omega)
    clear d3 sy IT hL4 hlp
    gi_wp2
    exact fin.out
  ·have fin := s2.rt.err (L := ns.length) (k := (pre ++ [(xi, r)]).length) (by omega) (by simp; omega)
   clear d2
   gi_wp2
   exact fin
 case done =>
  rintro D ys W hD rfl ⟨ns1, F1, A1, lF, eF, _, b0, b1, b2, b3, b4, D1⟩ hK
  have eF' : Hid (∀ x, ev ns1 F1 x = letsF xs x) := fun x => by rw [eF x, came_all]
  clear eF
  have hD' : D < W.heap.size := (Array.getElem?_eq_some_iff.1 hK).1
  have e1 := (b1.set (.int .i64 (F1 : Int))).other (B' := w.heap.size + 1 + 1) (by omega) (.int .i64 0)
  have b2' := b2.other (B' := w.heap.size + 1) (by omega) (.int .i64 (F1 : Int))
  have e2 := b2'.set (.int .i64 0)
  have A2 := (A1.setBox b1 (by decide) (by decide) (.int .i64 (F1 : Int))).setBox b2' (by decide) (by decide) (.int .i64 0)
  have D2 := (D1.setCell (p := ⟨w.heap.size + 1, 0, none⟩) (by show base <= w.heap.size + 1; omega) (.int .i64 (F1 : Int))).setCell (p := ⟨w.heap.size + 1 + 1, 0, none⟩) (by show base <= w.heap.size + 1 + 1; omega) (.int .i64 0)
  have hK' := ((KeepsOthers.setCell W ⟨w.heap.size + 1, 0, none⟩ (.int .i64 (F1 : Int))).trans (KeepsOthers.setCell _ ⟨w.heap.size + 1 + 1, 0, none⟩ (.int .i64 0))).same D _ hK rfl
  have c1 := b1.cell
  have f1 := b1.frozen
  have c2 := b2'.cell
  have f2 := b2'.frozen
  have c3 := b3.cell
  gi_wp2
  refine ⟨by simp, .inl ⟨_, _, rfl, run_takeDeferred hK', ?_⟩⟩
  obtain ⟨A3, r1, r2, D3⟩ := putD (o := .deferred none) A2 e1 e2 D2 hK' (by omega) (by omega) (by omega)
  exact ⟨.tuple #[.int .i64 (F1 : Int), .int .i64 0], by simp [results, Tryz.results23, go_sem, r1, r2], ns1, A3, D3, .inl ⟨F1, rfl, lF, eF'.out⟩⟩
 case stop =>
  rintro D c pre W hD ⟨k, hk, rfl⟩ ⟨rfl, hL, ns1, A1, b1, b2, D1⟩ hK
  rw [came_length] at hL
  have hL' : 40000 <= ns.length + xs.length * 16427 := by
   have := Nat.mul_le_mul_right 16427 hk
   omega
  gi_wp2
  refine ⟨by simp, .inl ⟨_, _, rfl, run_takeDeferred hK, ?_⟩⟩
  obtain ⟨A3, r1, r2, D3⟩ := putD (o := .deferred none) A1 b1 b2 D1 hK (by omega) (by omega) (by omega)
  exact ⟨.tuple #[.int .i64 0, .int .i64 6], by simp [results, Tryz.results23, go_sem, r1, r2], ns1, A3, D3, .inr ⟨rfl, hL'⟩⟩
end Go.Proofs.YtmcklkkkkigflaaGreat
namespace Go.Proofs.YtmcklkkkkigflaaGreat
open Go.RowKit
end Go.Proofs.YtmcklkkkkigflaaGreat
namespace Go.Proofs.YtmcklkkkkigflaaGreat
open Go.RowKit Go.Maps
theorem check_ok (A : Option Addr) (n cap : Nat) (w : World) : Calls Tryz.prog 7 #[.slice A n cap] w fun e w' => e = .returned (.int .i64 (if 8 < n then 2 else 0)) ∧ w' = w := by
 by_cases h : 8 < n
 ·have t : decide ((8 : Int) < (n : Int)) = true := by simp; omega
  rw [if_pos h]
  go_enter Tryz.func7, Tryz.ntmps7
  go_wp2_with fail
  go_ret
  exact ⟨rfl, rfl⟩
 ·have t : decide ((8 : Int) < (n : Int)) = false := by simp; omega
  rw [if_neg h]
  go_enter Tryz.func7, Tryz.ntmps7
  go_wp2_with fail
  go_ret
  exact ⟨rfl, rfl⟩
def BPost (E : Prop) (base a M : Nat) (w : World) (ns : List Nd) (xs : List Rl) (e : Ending) (w' : World) : Prop :=
 ∃ ns', Ar base a M 14 40000 w' ns' ∧ Kp (ca base a M 14 40000) w w' ∧ Ext ns ns' ∧
   ((∃ f : Nat, e = .returned (.tuple #[.int .i64 (f : Int), .int .i64 0]) ∧ f < ns'.length ∧ ∀ x, ev ns' f x = letsF xs x) ∨ (e = .returned (.tuple #[.int .i64 0, .int .i64 6]) ∧ E))
theorem abuild_ok {base a M : Nat} {w : World} {ns : List Nd} (h : Ar base a M 14 40000 w ns) (A : Option Addr) (n cap : Nat) (xs : List Rl) (hR : Rules w.heap.size w (.slice A n cap) xs) (hlen : xs.length <= 8) :
  Calls Tryz.prog 10 #[.pointer (some ⟨a, 0, none⟩), .slice A n cap] w (BPost True base a M w ns xs) := by
 have hn : n = xs.length := by
  obtain ⟨_, _, e, _⟩ := hR
  cases e
  rfl
 have CK : Hid (∀ w, Calls Tryz.prog 7 #[.slice A n cap] w fun e w' => e = .returned (.int .i64 0) ∧ w' = w) := fun w => by
  have := check_ok A n cap w
  rw [if_neg (by omega)] at this
  exact this
 have NW : Hid (Calls Tryz.prog 19 #[.int .i64 14, .int .i64 40000] w fun e w' => ∃ a2 M2, e = .returned (.tuple #[.pointer (some ⟨a2, 0, none⟩), .int .i64 0]) ∧ Ar w.heap.size a2 M2 14 40000 w' [(14, 0, 0), (14, 1, 1)] ∧ Below w.heap.size w w') := new_ok (v := 14) (m := 40000) w (by omega) (by omega) (by omega) (by omega)
 clear hn
 go_enter Tryz.func10, Tryz.ntmps10
 go_wp2_with (go_at_call 7; refine (CK.out _).mono ?_; rintro e w' ⟨rfl, rfl⟩)
 refine NW.out.mono ?_
 rintro e w2 ⟨a2, M2, rfl, A2, hb2⟩
 have JO : Hid (Calls Tryz.prog 23 #[.pointer (some ⟨a2, 0, none⟩), .slice A n cap] w2 fun e w' => ∃ ns', Ar _ a2 M2 14 40000 w' ns' ∧ Below _ w2 w' ∧
   ((∃ f : Nat, e = .returned (.tuple #[.int .i64 (f : Int), .int .i64 0]) ∧ f < ns'.length ∧ ∀ x, ev ns' f x = letsF xs x) ∨ (e = .returned (.tuple #[.int .i64 0, .int .i64 6]) ∧ _))) := join_ok A2 A n cap xs (hR.below hb2) hlen
 clear CK NW
 go_wp2_with fail
 refine JO.out.mono ?_
 rintro e w3 ⟨ns3, A3, hb3, hres⟩
 have D3 := hb2.trans hb3
 have H3 := h.below D3
 have K3 := h.kbelow D3
 clear JO hb2 hb3 A2
 rcases hres with ⟨f, rfl, lf, ef⟩ | ⟨rfl, _⟩
 ·obtain ⟨_, _, _, rl⟩ := h.row
  have hrow := rowOf_same (D3.block a h.lta)
  have TK : Hid (Calls Tryz.prog 24 #[.pointer (some ⟨a, 0, none⟩), .pointer (some ⟨a2, 0, none⟩), .int .i64 (f : Int)] w3 (OpPost base a M 14 40000 w3 ns (2 ^ 14 - 1) fun q => ev ns3 f q)) := take_ok H3 A3 (Nat.le_refl _) h.lta h.ltM (by rw [hrow]; exact rl) lf
  clear hrow rl A3
  go_wp2_with fail
  refine TK.out.mono ?_
  rintro e w4 hp
  obtain ⟨ns4, v4, er4, rfl, A4, K4, X4, _, d4⟩ := hp.pair
  have KK := K3.trans K4
  clear hp TK H3 K3 K4 D3
  have fin : Hid (BPost True base a M w' ns xs (.returned (.tuple #[.int .i64 v4, .int .i64 er4])) w4) := by
   rcases d4.out with ⟨rfl, f4, rfl, l4, e4⟩ | ⟨rfl, rfl, _⟩
   ·exact ⟨ns4, A4, KK, X4, .inl ⟨f4, rfl, l4, fun x => (e4 x).trans (ef x)⟩⟩
   ·exact ⟨ns4, A4, KK, X4, .inr ⟨rfl, trivial⟩⟩
  clear d4 A4 KK X4 ef
  go_wp2_with fail
  go_ret2
  exact fin.out
 ·have fin : Hid (BPost True base a M w' ns xs (.returned (.tuple #[.int .i64 0, .int .i64 6])) w3) := ⟨ns, H3, K3, Ext.refl _, .inr ⟨rfl, trivial⟩⟩
  clear H3 K3 D3 A3
  go_wp2_with fail
  go_ret2
  exact fin.out
theorem abuild_const {base a M : Nat} {w : World} {ns : List Nd} (h : Ar base a M 14 40000 w ns) (A : Option Addr) (n cap : Nat) (xs : List Rl) (hR : Rules w.heap.size w (.slice A n cap) xs) (hlen : xs.length <= 2) (b : Bool) (hc : ∀ x, letsF xs x = b) :
  Calls Tryz.prog 10 #[.pointer (some ⟨a, 0, none⟩), .slice A n cap] w (BPost False base a M w ns xs) := by
 have hn : n = xs.length := by
  obtain ⟨_, _, e, _⟩ := hR
  cases e
  rfl
 have CK : Hid (∀ w, Calls Tryz.prog 7 #[.slice A n cap] w fun e w' => e = .returned (.int .i64 0) ∧ w' = w) := fun w => by
  have := check_ok A n cap w
  rw [if_neg (by omega)] at this
  exact this
 have NW : Hid (Calls Tryz.prog 19 #[.int .i64 14, .int .i64 40000] w fun e w' => ∃ a2 M2, e = .returned (.tuple #[.pointer (some ⟨a2, 0, none⟩), .int .i64 0]) ∧ Ar w.heap.size a2 M2 14 40000 w' [(14, 0, 0), (14, 1, 1)] ∧ Below w.heap.size w w') := new_ok (v := 14) (m := 40000) w (by omega) (by omega) (by omega) (by omega)
 clear hn
 go_enter Tryz.func10, Tryz.ntmps10
 go_wp2_with (go_at_call 7; refine (CK.out _).mono ?_; rintro e w' ⟨rfl, rfl⟩)
 refine NW.out.mono ?_
 rintro e w2 ⟨a2, M2, rfl, A2, hb2⟩
 have JO : Hid (Calls Tryz.prog 23 #[.pointer (some ⟨a2, 0, none⟩), .slice A n cap] w2 fun e w' => ∃ ns', Ar _ a2 M2 14 40000 w' ns' ∧ Below _ w2 w' ∧
   ((∃ f : Nat, e = .returned (.tuple #[.int .i64 (f : Int), .int .i64 0]) ∧ f < ns'.length ∧ ∀ x, ev ns' f x = letsF xs x) ∨ (e = .returned (.tuple #[.int .i64 0, .int .i64 6]) ∧ _))) := join_ok A2 A n cap xs (hR.below hb2) (by omega)
 clear CK NW
 go_wp2_with fail
 refine JO.out.mono ?_
 rintro e w3 ⟨ns3, A3, hb3, hres⟩
 have D3 := hb2.trans hb3
 have H3 := h.below D3
 have K3 := h.kbelow D3
 clear JO hb2 hb3 A2
 obtain ⟨f, rfl, lf, ef⟩ : ∃ f : Nat, e = .returned (.tuple #[.int .i64 (f : Int), .int .i64 0]) ∧ f < ns3.length ∧ ∀ x, ev ns3 f x = letsF xs x := by
  rcases hres with h | ⟨_, h⟩
  ·exact h
  ·simp only [List.length_cons, List.length_nil] at h
   omega
 have l3 := A3.wf.len
 have hf : f = if b then 1 else 0 := by
  refine canon A3.wf lf (by split <;> omega) (fun x => ?_)
  rw [ef x, hc x]
  cases b
  ·rfl
  ·simp [ev1]
 have TK : Hid (Calls Tryz.prog 24 #[.pointer (some ⟨a, 0, none⟩), .pointer (some ⟨a2, 0, none⟩), .int .i64 (f : Int)] w3 fun e w' => e = .returned (.tuple #[.int .i64 (f : Int), .int .i64 0]) ∧ Ar base a M 14 40000 w' ns ∧ Kp (ca base a M 14 40000) w3 w') := take_const H3 A3 (Nat.le_refl _) (by rw [hf]; split <;> omega)
 have h2 := h.wf.len
 have hlt : f < ns.length := by rw [hf]; split <;> omega
 have hev : ∀ x, ev ns f x = letsF xs x := fun x => by
  rw [hc x, hf]
  cases b
  ·rfl
  ·simp [ev1]
 have EV : Hid (∀ x, ev ns f x = letsF xs x) := hev
 clear hf hev ef A3 H3 hc hres
 go_wp2_with fail
 refine TK.out.mono ?_
 rintro e w4 ⟨rfl, A4, K4⟩
 have fin : Hid (BPost False base a M w' ns xs (.returned (.tuple #[.int .i64 (f : Int), .int .i64 0])) w4) := ⟨ns, A4, K3.trans K4, Ext.refl _, .inl ⟨f, rfl, hlt, EV.out⟩⟩
 clear A4 K4 K3 TK EV D3
 go_wp2_with fail
 go_ret2
 exact fin.out
end Go.Proofs.YtmcklkkkkigflaaGreat
