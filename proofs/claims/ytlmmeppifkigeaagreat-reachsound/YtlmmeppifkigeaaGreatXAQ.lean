/-
  XAQ.
-/
import Derived.Test.YtlmmeppifkigeaaGreatXAP
import Derived.Test.YtlmmeppifkigeaaGreatProg
import Derived.WalkKit
import Derived.OrdersIn
import Derived.RangeFuncCalls
import Derived.Deep.RegionHeld
set_option maxHeartbeats 8000000
set_option maxRecDepth 100000
namespace Go.Proofs.YtlmmeppifkigeaaGreat
open Go.RowKit Go.Maps
def sel : Nat -> Nat -> Nat -> Env -> Bool
 | 0, bits, _, _ => bits.testBit 0
 | k + 1, bits, first, x => if x first then sel k (bits >>> 2 ^ k) (first + 1) x else sel k (bits &&& (2 ^ 2 ^ k - 1)) (first + 1) x
def val : Nat -> Nat -> Env -> Nat
 | 0, _, _ => 0
 | k + 1, first, x => (if x first then 2 ^ k else 0) + val k (first + 1) x
theorem val_lt (k first : Nat) (x : Env) : val k first x < 2 ^ k := by
 induction k generalizing first with
 | zero => simp [val]
 | succ k ih =>
   have := ih (first + 1)
   rw [val, Nat.pow_succ]
   split <;> omega
theorem sel_val (k bits first : Nat) (x : Env) : sel k bits first x = bits.testBit (val k first x) := by
 induction k generalizing bits first with
 | zero => rfl
 | succ k ih =>
   have h := val_lt k (first + 1) x
   rw [sel, val]
   split
   ·rw [ih, Nat.testBit_shiftRight]
   ·rw [ih, Nat.testBit_and, Nat.testBit_two_pow_sub_one, Nat.zero_add]
    simp [h]
section
variable {base a M vars most : Nat} {w w' : World} {ns : List Nd}
theorem Ar.below (h : Ar base a M vars most w ns) (hb : Below w.heap.size w w') : Ar base a M vars most w' ns := by
 obtain ⟨_, _, _, rl⟩ := h.row
 exact h.same (hb.block _ h.lta) (hb.block _ h.ltM) (hb.block _ rl)
theorem Ar.kbelow (h : Ar base a M vars most w ns) (hb : Below w.heap.size w w') : Kp (ca base a M vars most) w w' :=
 ⟨hb.os, hb.tape, hb.output, hb.size, fun i hi _ _ => hb.block i hi, Or.inl (rowOf_same (hb.block _ h.lta)), fun _ _ => cellB (hb.block _ h.lta)⟩
theorem Ar.loc (h : Ar base a M vars most w ns) (cs : Array Value) (t : TypeId) : Loc (ca base a M vars most) (w.alloc (.cells cs t)) w.heap.size cs t := by
 obtain ⟨_, _, _, rl⟩ := h.row
 have la := h.lta
 have lM := h.ltM
 refine ⟨⟨by simp, ?_, ?_⟩, Go.heap_alloc_new _ _⟩
 ·rintro (e | e | e | e | e | e)
  ·have : w.heap.size = a := e
   omega
  ·have : w.heap.size = a := e
   omega
  ·have : w.heap.size = M := e
   omega
  ·cases e
  ·cases e
  ·cases e
 ·have e : rowOf (w.alloc (.cells cs t)) a = rowOf w a := rowOf_same (Below.heap_alloc w _ _ la)
  show w.heap.size ≠ rowOf (w.alloc (.cells cs t)) a
  rw [e]
  omega
theorem Loc.two {C : Cfg} {w : World} {i : Nat} {x y : Value} {t : TypeId} (h : Loc C w i #[x, y] t) : w.cell? ⟨i, 0, none⟩ = some x ∧ w.cell? ⟨i, 1, none⟩ = some y :=
 ⟨by rw [cell_of_row w i 0 _ _ _ h.blk]; rfl, by rw [cell_of_row w i 1 _ _ _ h.blk]; rfl⟩
theorem Loc.below {w w' : World} {i : Nat} {cs : Array Value} {t : TypeId} (h : Loc (ca base a M vars most) w i cs t) (hA : Ar base a M vars most w ns) (hb : Below w.heap.size w w') : Loc (ca base a M vars most) w' i cs t := h.kp (hA.kbelow hb)
theorem MkPost.pair {g i : Nat} {φ : Env -> Bool} {e : Ending} (h : MkPost base a M vars most w ns g i φ e w') :
  ∃ (ns' : List Nd) (v er : Int), e = .returned (.tuple #[.int .i64 v, .int .i64 er]) ∧ Ar base a M vars most w' ns' ∧ Kp (ca base a M vars most) w w' ∧ Ext ns ns' ∧ ns'.length <= ns.length + g ∧
    Go.RowKit.Hid ((er = 0 ∧ ∃ f : Nat, v = (f : Int) ∧ f < ns'.length ∧ i <= nv ns' f ∧ ∀ x, ev ns' f x = φ x) ∨ (er = 6 ∧ v = 0 ∧ ns'.length = most)) := by
 obtain ⟨ns', r1, r2, r3, r4, ⟨f, e1, e2⟩ | ⟨e1, e2⟩⟩ := h
 ·exact ⟨ns', f, 0, e1, r1, r2, r3, r4, Or.inl ⟨rfl, f, rfl, e2⟩⟩
 ·exact ⟨ns', 0, 6, e1, r1, r2, r3, r4, Or.inr ⟨rfl, rfl, e2⟩⟩
theorem Ar.drew' (h : Ar base a M vars most w ns) : Ar base a M vars most w.drew ns := h.same rfl rfl rfl
theorem build_1 (h : Ar base a M vars most w ns) {bits first rest : Nat} (hbits : bits < 2) (hr : rest < ns.length) (hf : first <= nv ns rest) :
  Calls Tryz.prog 88 #[st (bits : Int) 1, .pointer (some ⟨a, 0, none⟩), .int .i64 (first : Int), .int .i64 (rest : Int)] w (MkPost base a M vars most w ns 0 first fun x => sel 0 bits first x && ev ns rest x) := by
 have l2 := h.wf.len
 have e0 : nv ns 0 = vars := by rw [nv, h.wf.n0]
 have hle := va_le h.wf hr
 have L0 := h.loc #[.int .i64 (bits : Int), .int .i64 1] 182
 have A0 := h.alloc (.cells #[.int .i64 (bits : Int), .int .i64 1] 182)
 have K0 := Ar.kalloc' h (.cells #[.int .i64 (bits : Int), .int .i64 1] 182)
 obtain ⟨c0, c1⟩ := L0.two
 have H0 : Go.RowKit.Hid (∀ w, Calls Tryz.prog 113 #[st (bits : Int) 1, .int .i64 0] w fun e w' => e = .returned (.bool (bits.testBit 0)) ∧ Below w.heap.size w w') := fun w => by
  have := has_any bits 0 1 w (by omega)
  rw [show hasB bits 0 = bits.testBit 0 by simp [hasB]] at this
  exact this
 cases ht : bits.testBit 0
 ·rw [ht] at H0
  go_enter Tryz.func88, Tryz.ntmps88
  go_wp2_with fail
  refine (H0.out _).mono ?_
  rintro e w1 ⟨rfl, hb⟩
  have fin : MkPost base a M vars most w ns 0 first (fun x => sel 0 bits first x && ev ns rest x) (.returned (.tuple #[.int .i64 0, .int .i64 0])) w1 :=
   ⟨ns, A0.below hb, K0.trans (A0.kbelow hb), Ext.refl _, by omega, Or.inl ⟨0, rfl, by omega, by omega, fun x => by rw [ev0]; show false = (bits.testBit 0 && _); rw [ht]; rfl⟩⟩
  clear A0 K0 L0 hb
  go_wp2_with fail
  go_ret2
  exact fin
 ·rw [ht] at H0
  go_enter Tryz.func88, Tryz.ntmps88
  go_wp2_with fail
  refine (H0.out _).mono ?_
  rintro e w1 ⟨rfl, hb⟩
  have fin : MkPost base a M vars most w ns 0 first (fun x => sel 0 bits first x && ev ns rest x) (.returned (.tuple #[.int .i64 (rest : Int), .int .i64 0])) w1 :=
   ⟨ns, A0.below hb, K0.trans (A0.kbelow hb), Ext.refl _, by omega, Or.inl ⟨rest, rfl, hr, hf, fun x => by show _ = (bits.testBit 0 && _); rw [ht]; rfl⟩⟩
  clear A0 K0 L0 hb
  go_wp2_with fail
  go_ret2
  exact fin
theorem low_2 (bits : Nat) (h : bits < 4) : Go.bits .and .i64 (bits : Int) 1 = ((bits &&& 1 : Nat) : Int) := intBits_and bits 1 (by omega) (by decide)
theorem high_2 (bits : Nat) : (bits : Int) / (2 : Int) = ((bits >>> 1 : Nat) : Int) := by rw [Nat.shiftRight_eq_div_pow]; simp
theorem build_2 (h : Ar base a M vars most w ns) {bits first rest : Nat} (hbits : bits < 4) (hv : first + 1 <= vars) (hr : rest < ns.length) (hf : first + 1 <= nv ns rest) :
  Calls Tryz.prog 88 #[st (bits : Int) 2, .pointer (some ⟨a, 0, none⟩), .int .i64 (first : Int), .int .i64 (rest : Int)] w (MkPost base a M vars most w ns 1 first fun x => sel 1 bits first x && ev ns rest x) := by
 have wf := h.wf
 have v16 := h.vars16
 have eL := low_2 bits hbits
 have eH := high_2 bits
 have hlo : bits &&& 1 < 2 := Nat.lt_of_le_of_lt Nat.and_le_right (by decide)
 have hhi : bits >>> 1 < 2 := by rw [Nat.shiftRight_eq_div_pow]; omega
 have hsel : Go.RowKit.Hid (∀ x, sel 1 bits first x = if x first then sel 0 (bits >>> 1) (first + 1) x else sel 0 (bits &&& 1) (first + 1) x) := fun x => rfl
 generalize bits &&& 1 = lo at *
 generalize bits >>> 1 = hi at *
 have L0 := h.loc #[.int .i64 (bits : Int), .int .i64 2] 182
 have A0 := h.alloc (.cells #[.int .i64 (bits : Int), .int .i64 2] 182)
 have K0 := Ar.kalloc' h (.cells #[.int .i64 (bits : Int), .int .i64 2] 182)
 obtain ⟨c0, c1⟩ := L0.two
 have hcast : ((first + 1 : Nat) : Int) = (first : Int) + 1 := by omega
 have IL : Go.RowKit.Hid (∀ (w' : World) (ns' : List Nd), Ar base a M vars most w' ns' -> rest < ns'.length -> first + 1 + 0 <= nv ns' rest -> Calls Tryz.prog 88 #[st (lo : Int) 1, .pointer (some ⟨a, 0, none⟩), .int .i64 ((first : Int) + 1), .int .i64 (rest : Int)] w' (MkPost base a M vars most w' ns' 0 (first + 1) fun x => sel 0 lo (first + 1) x && ev ns' rest x)) := fun w' ns' hA hr hn => by
  have := build_1 hA (first := first + 1) hlo hr (by omega)
  rw [hcast] at this
  exact this
 have IH : Go.RowKit.Hid (∀ (w' : World) (ns' : List Nd), Ar base a M vars most w' ns' -> rest < ns'.length -> first + 1 + 0 <= nv ns' rest -> Calls Tryz.prog 88 #[st (hi : Int) 1, .pointer (some ⟨a, 0, none⟩), .int .i64 ((first : Int) + 1), .int .i64 (rest : Int)] w' (MkPost base a M vars most w' ns' 0 (first + 1) fun x => sel 0 hi (first + 1) x && ev ns' rest x)) := fun w' ns' hA hr hn => by
  have := build_1 hA (first := first + 1) hhi hr (by omega)
  rw [hcast] at this
  exact this
 clear hcast
 have hwm : Go.RowKit.Hid (IntKind.i64.wrap (IntKind.i64.wrap 2 - 1) = 1) := by
  show _ = _
  rw [IntWalk.i64_in 2 (by omega), IntWalk.i64_in _ (by omega)]
  rfl
 have hwr : IntKind.i64.wrap ((first : Int) + 1) = (first : Int) + 1 := IntWalk.i64_in _ (by omega)
 have A0d := A0.drew'
 have L0d := L0.drew
 have K0d := K0.drew
 go_enter Tryz.func88, Tryz.ntmps88
 go_wp2_with fail
 go_region_held3 (fun w' => w'.cell? ⟨w.heap.size, 0, none⟩ = some (.int .i64 (bits : Int)) ∧ w'.cell? ⟨w.heap.size, 1, none⟩ = some (.int .i64 2))
  (exact Loc.two (by assumption))
  (first | (go_at_call 88; rw [hwm.out, eL]; refine (IL.out _ ns (by assumption) hr (by omega)).mono ?_; rintro e w2 hp2; obtain ⟨ns1, v1, er1, rfl, A1, K1, X1, l1, d1⟩ := hp2.pair; have L1 := L0d.kp K1; clear hp2))
 have wf1 := A1.wf
 have KK1 := K0d.trans K1
 obtain ⟨q0, q1⟩ := L1.two
 have hr1 : rest < ns1.length := Nat.lt_of_lt_of_le hr X1.len
 have hn1 : first + 1 + 0 <= nv ns1 rest := by rw [X1.va hr]; omega
 clear A0 K0 L0 c0 c1 A0d K0d L0d K1
 rcases d1.out with ⟨rfl, f1, rfl, lt1, va1, ev1'⟩ | ⟨rfl, rfl, full1⟩
 ·have E1 : Go.RowKit.Hid (∀ x, ev ns1 f1 x = (sel 0 lo (first + 1) x && ev ns rest x)) := ev1'
  clear ev1' d1
  go_wp2_with fail
  refine (IH.out _ ns1 A1 hr1 hn1).mono ?_
  rintro e w3 hp3
  obtain ⟨ns2, v2, er2, rfl, A2, K2, X2, l2, d2⟩ := hp3.pair
  clear hp3
  have wf2 := A2.wf
  have KK2 := KK1.trans K2
  rcases d2.out with ⟨rfl, f2, rfl, lt2, va2, ev2'⟩ | ⟨rfl, rfl, full2⟩
  ·have E2 : Go.RowKit.Hid (∀ x, ev ns2 f2 x = (sel 0 hi (first + 1) x && ev ns1 rest x)) := ev2'
   have lt1' : f1 < ns2.length := Nat.lt_of_lt_of_le lt1 X2.len
   have va1' : first < nv ns2 f1 := by rw [X2.va lt1]; omega
   have va2' : first < nv ns2 f2 := by omega
   clear ev2' d2 q0 q1 L1
   go_wp2_with fail
   refine (node_ok A2 (i := first) (lo := f1) (up := f2) (by omega) lt1' lt2 va1' va2').mono ?_
   rintro e w4 hp4
   have hp5 : MkPost base a M vars most w ns 1 first (fun x => sel 1 bits first x && ev ns rest x) e w4 := by
    obtain ⟨ns3, r1, r2, r3, r4, r5⟩ := hp4
    refine ⟨ns3, r1, KK2.trans r2, (X1.trans X2).trans r3, by omega, ?_⟩
    rcases r5 with ⟨f, e1, e2, e3, e4⟩ | r5
    ·refine Or.inl ⟨f, e1, e2, e3, fun x => ?_⟩
     rw [e4 x]
     show (if x first = true then ev ns2 f2 x else ev ns2 f1 x) = (sel 1 bits first x && ev ns rest x)
     rw [hsel.out x, E2.out x, X2.ev wf1 wf2 _ lt1, E1.out x, X1.ev wf wf1 _ hr]
     cases x first <;> rfl
    ·exact Or.inr r5
   clear hp4
   have hp6 := hp5
   obtain ⟨ns3, _, _, _, _, ⟨f', rfl, _⟩ | ⟨rfl, _⟩⟩ := hp5
   ·go_wp2_with fail
    go_ret2
    exact hp6
   ·go_wp2_with fail
    go_ret2
    exact hp6
  ·have fin : MkPost base a M vars most w ns 1 first (fun x => sel 1 bits first x && ev ns rest x) (.returned (.tuple #[.int .i64 0, .int .i64 6])) w3 :=
    ⟨ns2, A2, KK2, X1.trans X2, by omega, Or.inr ⟨rfl, full2⟩⟩
   clear d2 A2 K2 KK2
   go_wp2_with fail
   go_ret2
   exact fin
 ·have fin : MkPost base a M vars most w ns 1 first (fun x => sel 1 bits first x && ev ns rest x) (.returned (.tuple #[.int .i64 0, .int .i64 6])) w2 :=
   ⟨ns1, A1, KK1, X1, by omega, Or.inr ⟨rfl, full1⟩⟩
  clear d1 A1 KK1
  go_wp2_with fail
  go_ret2
  exact fin
theorem low_4 (bits : Nat) (h : bits < 16) : Go.bits .and .i64 (bits : Int) 3 = ((bits &&& 3 : Nat) : Int) := intBits_and bits 3 (by omega) (by decide)
theorem high_4 (bits : Nat) : (bits : Int) / (4 : Int) = ((bits >>> 2 : Nat) : Int) := by rw [Nat.shiftRight_eq_div_pow]; simp
theorem build_4 (h : Ar base a M vars most w ns) {bits first rest : Nat} (hbits : bits < 16) (hv : first + 2 <= vars) (hr : rest < ns.length) (hf : first + 2 <= nv ns rest) :
  Calls Tryz.prog 88 #[st (bits : Int) 4, .pointer (some ⟨a, 0, none⟩), .int .i64 (first : Int), .int .i64 (rest : Int)] w (MkPost base a M vars most w ns 3 first fun x => sel 2 bits first x && ev ns rest x) := by
 have wf := h.wf
 have v16 := h.vars16
 have eL := low_4 bits hbits
 have eH := high_4 bits
 have hlo : bits &&& 3 < 4 := Nat.lt_of_le_of_lt Nat.and_le_right (by decide)
 have hhi : bits >>> 2 < 4 := by rw [Nat.shiftRight_eq_div_pow]; omega
 have hsel : Go.RowKit.Hid (∀ x, sel 2 bits first x = if x first then sel 1 (bits >>> 2) (first + 1) x else sel 1 (bits &&& 3) (first + 1) x) := fun x => rfl
 generalize bits &&& 3 = lo at *
 generalize bits >>> 2 = hi at *
 have L0 := h.loc #[.int .i64 (bits : Int), .int .i64 4] 182
 have A0 := h.alloc (.cells #[.int .i64 (bits : Int), .int .i64 4] 182)
 have K0 := Ar.kalloc' h (.cells #[.int .i64 (bits : Int), .int .i64 4] 182)
 obtain ⟨c0, c1⟩ := L0.two
 have hcast : ((first + 1 : Nat) : Int) = (first : Int) + 1 := by omega
 have IL : Go.RowKit.Hid (∀ (w' : World) (ns' : List Nd), Ar base a M vars most w' ns' -> rest < ns'.length -> first + 1 + 1 <= nv ns' rest -> Calls Tryz.prog 88 #[st (lo : Int) 2, .pointer (some ⟨a, 0, none⟩), .int .i64 ((first : Int) + 1), .int .i64 (rest : Int)] w' (MkPost base a M vars most w' ns' 1 (first + 1) fun x => sel 1 lo (first + 1) x && ev ns' rest x)) := fun w' ns' hA hr hn => by
  have := build_2 hA (first := first + 1) hlo (by omega) hr (by omega)
  rw [hcast] at this
  exact this
 have IH : Go.RowKit.Hid (∀ (w' : World) (ns' : List Nd), Ar base a M vars most w' ns' -> rest < ns'.length -> first + 1 + 1 <= nv ns' rest -> Calls Tryz.prog 88 #[st (hi : Int) 2, .pointer (some ⟨a, 0, none⟩), .int .i64 ((first : Int) + 1), .int .i64 (rest : Int)] w' (MkPost base a M vars most w' ns' 1 (first + 1) fun x => sel 1 hi (first + 1) x && ev ns' rest x)) := fun w' ns' hA hr hn => by
  have := build_2 hA (first := first + 1) hhi (by omega) hr (by omega)
  rw [hcast] at this
  exact this
 clear hcast
 have hwm : Go.RowKit.Hid (IntKind.i64.wrap (IntKind.i64.wrap 4 - 1) = 3) := by
  show _ = _
  rw [IntWalk.i64_in 4 (by omega), IntWalk.i64_in _ (by omega)]
  rfl
 have hwr : IntKind.i64.wrap ((first : Int) + 1) = (first : Int) + 1 := IntWalk.i64_in _ (by omega)
 have A0d := A0.drew'
 have L0d := L0.drew
 have K0d := K0.drew
 go_enter Tryz.func88, Tryz.ntmps88
 go_wp2_with fail
 go_region_held3 (fun w' => w'.cell? ⟨w.heap.size, 0, none⟩ = some (.int .i64 (bits : Int)) ∧ w'.cell? ⟨w.heap.size, 1, none⟩ = some (.int .i64 4))
  (exact Loc.two (by assumption))
  (first | (go_at_call 88; rw [hwm.out, eL]; refine (IL.out _ ns (by assumption) hr (by omega)).mono ?_; rintro e w2 hp2; obtain ⟨ns1, v1, er1, rfl, A1, K1, X1, l1, d1⟩ := hp2.pair; have L1 := L0d.kp K1; clear hp2))
 have wf1 := A1.wf
 have KK1 := K0d.trans K1
 obtain ⟨q0, q1⟩ := L1.two
 have hr1 : rest < ns1.length := Nat.lt_of_lt_of_le hr X1.len
 have hn1 : first + 1 + 1 <= nv ns1 rest := by rw [X1.va hr]; omega
 clear A0 K0 L0 c0 c1 A0d K0d L0d K1
 rcases d1.out with ⟨rfl, f1, rfl, lt1, va1, ev1'⟩ | ⟨rfl, rfl, full1⟩
 ·have E1 : Go.RowKit.Hid (∀ x, ev ns1 f1 x = (sel 1 lo (first + 1) x && ev ns rest x)) := ev1'
  clear ev1' d1
  go_wp2_with fail
  refine (IH.out _ ns1 A1 hr1 hn1).mono ?_
  rintro e w3 hp3
  obtain ⟨ns2, v2, er2, rfl, A2, K2, X2, l2, d2⟩ := hp3.pair
  clear hp3
  have wf2 := A2.wf
  have KK2 := KK1.trans K2
  rcases d2.out with ⟨rfl, f2, rfl, lt2, va2, ev2'⟩ | ⟨rfl, rfl, full2⟩
  ·have E2 : Go.RowKit.Hid (∀ x, ev ns2 f2 x = (sel 1 hi (first + 1) x && ev ns1 rest x)) := ev2'
   have lt1' : f1 < ns2.length := Nat.lt_of_lt_of_le lt1 X2.len
   have va1' : first < nv ns2 f1 := by rw [X2.va lt1]; omega
   have va2' : first < nv ns2 f2 := by omega
   clear ev2' d2 q0 q1 L1
   go_wp2_with fail
   refine (node_ok A2 (i := first) (lo := f1) (up := f2) (by omega) lt1' lt2 va1' va2').mono ?_
   rintro e w4 hp4
   have hp5 : MkPost base a M vars most w ns 3 first (fun x => sel 2 bits first x && ev ns rest x) e w4 := by
    obtain ⟨ns3, r1, r2, r3, r4, r5⟩ := hp4
    refine ⟨ns3, r1, KK2.trans r2, (X1.trans X2).trans r3, by omega, ?_⟩
    rcases r5 with ⟨f, e1, e2, e3, e4⟩ | r5
    ·refine Or.inl ⟨f, e1, e2, e3, fun x => ?_⟩
     rw [e4 x]
     show (if x first = true then ev ns2 f2 x else ev ns2 f1 x) = (sel 2 bits first x && ev ns rest x)
     rw [hsel.out x, E2.out x, X2.ev wf1 wf2 _ lt1, E1.out x, X1.ev wf wf1 _ hr]
     cases x first <;> rfl
    ·exact Or.inr r5
   clear hp4
   have hp6 := hp5
   obtain ⟨ns3, _, _, _, _, ⟨f', rfl, _⟩ | ⟨rfl, _⟩⟩ := hp5
   ·go_wp2_with fail
    go_ret2
    exact hp6
   ·go_wp2_with fail
    go_ret2
    exact hp6
  ·have fin : MkPost base a M vars most w ns 3 first (fun x => sel 2 bits first x && ev ns rest x) (.returned (.tuple #[.int .i64 0, .int .i64 6])) w3 :=
    ⟨ns2, A2, KK2, X1.trans X2, by omega, Or.inr ⟨rfl, full2⟩⟩
   clear d2 A2 K2 KK2
   go_wp2_with fail
   go_ret2
   exact fin
 ·have fin : MkPost base a M vars most w ns 3 first (fun x => sel 2 bits first x && ev ns rest x) (.returned (.tuple #[.int .i64 0, .int .i64 6])) w2 :=
   ⟨ns1, A1, KK1, X1, by omega, Or.inr ⟨rfl, full1⟩⟩
  clear d1 A1 KK1
  go_wp2_with fail
  go_ret2
  exact fin
theorem low_8 (bits : Nat) (h : bits < 256) : Go.bits .and .i64 (bits : Int) 15 = ((bits &&& 15 : Nat) : Int) := intBits_and bits 15 (by omega) (by decide)
theorem high_8 (bits : Nat) : (bits : Int) / (16 : Int) = ((bits >>> 4 : Nat) : Int) := by rw [Nat.shiftRight_eq_div_pow]; simp
theorem build_8 (h : Ar base a M vars most w ns) {bits first rest : Nat} (hbits : bits < 256) (hv : first + 3 <= vars) (hr : rest < ns.length) (hf : first + 3 <= nv ns rest) :
  Calls Tryz.prog 88 #[st (bits : Int) 8, .pointer (some ⟨a, 0, none⟩), .int .i64 (first : Int), .int .i64 (rest : Int)] w (MkPost base a M vars most w ns 7 first fun x => sel 3 bits first x && ev ns rest x) := by
 have wf := h.wf
 have v16 := h.vars16
 have eL := low_8 bits hbits
 have eH := high_8 bits
 have hlo : bits &&& 15 < 16 := Nat.lt_of_le_of_lt Nat.and_le_right (by decide)
 have hhi : bits >>> 4 < 16 := by rw [Nat.shiftRight_eq_div_pow]; omega
 have hsel : Go.RowKit.Hid (∀ x, sel 3 bits first x = if x first then sel 2 (bits >>> 4) (first + 1) x else sel 2 (bits &&& 15) (first + 1) x) := fun x => rfl
 generalize bits &&& 15 = lo at *
 generalize bits >>> 4 = hi at *
 have L0 := h.loc #[.int .i64 (bits : Int), .int .i64 8] 182
 have A0 := h.alloc (.cells #[.int .i64 (bits : Int), .int .i64 8] 182)
 have K0 := Ar.kalloc' h (.cells #[.int .i64 (bits : Int), .int .i64 8] 182)
 obtain ⟨c0, c1⟩ := L0.two
 have hcast : ((first + 1 : Nat) : Int) = (first : Int) + 1 := by omega
 have IL : Go.RowKit.Hid (∀ (w' : World) (ns' : List Nd), Ar base a M vars most w' ns' -> rest < ns'.length -> first + 1 + 2 <= nv ns' rest -> Calls Tryz.prog 88 #[st (lo : Int) 4, .pointer (some ⟨a, 0, none⟩), .int .i64 ((first : Int) + 1), .int .i64 (rest : Int)] w' (MkPost base a M vars most w' ns' 3 (first + 1) fun x => sel 2 lo (first + 1) x && ev ns' rest x)) := fun w' ns' hA hr hn => by
  have := build_4 hA (first := first + 1) hlo (by omega) hr (by omega)
  rw [hcast] at this
  exact this
 have IH : Go.RowKit.Hid (∀ (w' : World) (ns' : List Nd), Ar base a M vars most w' ns' -> rest < ns'.length -> first + 1 + 2 <= nv ns' rest -> Calls Tryz.prog 88 #[st (hi : Int) 4, .pointer (some ⟨a, 0, none⟩), .int .i64 ((first : Int) + 1), .int .i64 (rest : Int)] w' (MkPost base a M vars most w' ns' 3 (first + 1) fun x => sel 2 hi (first + 1) x && ev ns' rest x)) := fun w' ns' hA hr hn => by
  have := build_4 hA (first := first + 1) hhi (by omega) hr (by omega)
  rw [hcast] at this
  exact this
 clear hcast
 have hwm : Go.RowKit.Hid (IntKind.i64.wrap (IntKind.i64.wrap 16 - 1) = 15) := by
  show _ = _
  rw [IntWalk.i64_in 16 (by omega), IntWalk.i64_in _ (by omega)]
  rfl
 have hwr : IntKind.i64.wrap ((first : Int) + 1) = (first : Int) + 1 := IntWalk.i64_in _ (by omega)
 have A0d := A0.drew'
 have L0d := L0.drew
 have K0d := K0.drew
 go_enter Tryz.func88, Tryz.ntmps88
 go_wp2_with fail
 go_region_held3 (fun w' => w'.cell? ⟨w.heap.size, 0, none⟩ = some (.int .i64 (bits : Int)) ∧ w'.cell? ⟨w.heap.size, 1, none⟩ = some (.int .i64 8))
  (exact Loc.two (by assumption))
  (first | (go_at_call 88; rw [hwm.out, eL]; refine (IL.out _ ns (by assumption) hr (by omega)).mono ?_; rintro e w2 hp2; obtain ⟨ns1, v1, er1, rfl, A1, K1, X1, l1, d1⟩ := hp2.pair; have L1 := L0d.kp K1; clear hp2))
 have wf1 := A1.wf
 have KK1 := K0d.trans K1
 obtain ⟨q0, q1⟩ := L1.two
 have hr1 : rest < ns1.length := Nat.lt_of_lt_of_le hr X1.len
 have hn1 : first + 1 + 2 <= nv ns1 rest := by rw [X1.va hr]; omega
 clear A0 K0 L0 c0 c1 A0d K0d L0d K1
 rcases d1.out with ⟨rfl, f1, rfl, lt1, va1, ev1'⟩ | ⟨rfl, rfl, full1⟩
 ·have E1 : Go.RowKit.Hid (∀ x, ev ns1 f1 x = (sel 2 lo (first + 1) x && ev ns rest x)) := ev1'
  clear ev1' d1
  go_wp2_with fail
  refine (IH.out _ ns1 A1 hr1 hn1).mono ?_
  rintro e w3 hp3
  obtain ⟨ns2, v2, er2, rfl, A2, K2, X2, l2, d2⟩ := hp3.pair
  clear hp3
  have wf2 := A2.wf
  have KK2 := KK1.trans K2
  rcases d2.out with ⟨rfl, f2, rfl, lt2, va2, ev2'⟩ | ⟨rfl, rfl, full2⟩
  ·have E2 : Go.RowKit.Hid (∀ x, ev ns2 f2 x = (sel 2 hi (first + 1) x && ev ns1 rest x)) := ev2'
   have lt1' : f1 < ns2.length := Nat.lt_of_lt_of_le lt1 X2.len
   have va1' : first < nv ns2 f1 := by rw [X2.va lt1]; omega
   have va2' : first < nv ns2 f2 := by omega
   clear ev2' d2 q0 q1 L1
   go_wp2_with fail
   refine (node_ok A2 (i := first) (lo := f1) (up := f2) (by omega) lt1' lt2 va1' va2').mono ?_
   rintro e w4 hp4
   have hp5 : MkPost base a M vars most w ns 7 first (fun x => sel 3 bits first x && ev ns rest x) e w4 := by
    obtain ⟨ns3, r1, r2, r3, r4, r5⟩ := hp4
    refine ⟨ns3, r1, KK2.trans r2, (X1.trans X2).trans r3, by omega, ?_⟩
    rcases r5 with ⟨f, e1, e2, e3, e4⟩ | r5
    ·refine Or.inl ⟨f, e1, e2, e3, fun x => ?_⟩
     rw [e4 x]
     show (if x first = true then ev ns2 f2 x else ev ns2 f1 x) = (sel 3 bits first x && ev ns rest x)
     rw [hsel.out x, E2.out x, X2.ev wf1 wf2 _ lt1, E1.out x, X1.ev wf wf1 _ hr]
     cases x first <;> rfl
    ·exact Or.inr r5
   clear hp4
   have hp6 := hp5
   obtain ⟨ns3, _, _, _, _, ⟨f', rfl, _⟩ | ⟨rfl, _⟩⟩ := hp5
   ·go_wp2_with fail
    go_ret2
    exact hp6
   ·go_wp2_with fail
    go_ret2
    exact hp6
  ·have fin : MkPost base a M vars most w ns 7 first (fun x => sel 3 bits first x && ev ns rest x) (.returned (.tuple #[.int .i64 0, .int .i64 6])) w3 :=
    ⟨ns2, A2, KK2, X1.trans X2, by omega, Or.inr ⟨rfl, full2⟩⟩
   clear d2 A2 K2 KK2
   go_wp2_with fail
   go_ret2
   exact fin
 ·have fin : MkPost base a M vars most w ns 7 first (fun x => sel 3 bits first x && ev ns rest x) (.returned (.tuple #[.int .i64 0, .int .i64 6])) w2 :=
   ⟨ns1, A1, KK1, X1, by omega, Or.inr ⟨rfl, full1⟩⟩
  clear d1 A1 KK1
  go_wp2_with fail
  go_ret2
  exact fin
theorem low_16 (bits : Nat) (h : bits < 65536) : Go.bits .and .i64 (bits : Int) 255 = ((bits &&& 255 : Nat) : Int) := intBits_and bits 255 (by omega) (by decide)
theorem high_16 (bits : Nat) : (bits : Int) / (256 : Int) = ((bits >>> 8 : Nat) : Int) := by rw [Nat.shiftRight_eq_div_pow]; simp
theorem build_16 (h : Ar base a M vars most w ns) {bits first rest : Nat} (hbits : bits < 65536) (hv : first + 4 <= vars) (hr : rest < ns.length) (hf : first + 4 <= nv ns rest) :
  Calls Tryz.prog 88 #[st (bits : Int) 16, .pointer (some ⟨a, 0, none⟩), .int .i64 (first : Int), .int .i64 (rest : Int)] w (MkPost base a M vars most w ns 15 first fun x => sel 4 bits first x && ev ns rest x) := by
 have wf := h.wf
 have v16 := h.vars16
 have eL := low_16 bits hbits
 have eH := high_16 bits
 have hlo : bits &&& 255 < 256 := Nat.lt_of_le_of_lt Nat.and_le_right (by decide)
 have hhi : bits >>> 8 < 256 := by rw [Nat.shiftRight_eq_div_pow]; omega
 have hsel : Go.RowKit.Hid (∀ x, sel 4 bits first x = if x first then sel 3 (bits >>> 8) (first + 1) x else sel 3 (bits &&& 255) (first + 1) x) := fun x => rfl
 generalize bits &&& 255 = lo at *
 generalize bits >>> 8 = hi at *
 have L0 := h.loc #[.int .i64 (bits : Int), .int .i64 16] 182
 have A0 := h.alloc (.cells #[.int .i64 (bits : Int), .int .i64 16] 182)
 have K0 := Ar.kalloc' h (.cells #[.int .i64 (bits : Int), .int .i64 16] 182)
 obtain ⟨c0, c1⟩ := L0.two
 have hcast : ((first + 1 : Nat) : Int) = (first : Int) + 1 := by omega
 have IL : Go.RowKit.Hid (∀ (w' : World) (ns' : List Nd), Ar base a M vars most w' ns' -> rest < ns'.length -> first + 1 + 3 <= nv ns' rest -> Calls Tryz.prog 88 #[st (lo : Int) 8, .pointer (some ⟨a, 0, none⟩), .int .i64 ((first : Int) + 1), .int .i64 (rest : Int)] w' (MkPost base a M vars most w' ns' 7 (first + 1) fun x => sel 3 lo (first + 1) x && ev ns' rest x)) := fun w' ns' hA hr hn => by
  have := build_8 hA (first := first + 1) hlo (by omega) hr (by omega)
  rw [hcast] at this
  exact this
 have IH : Go.RowKit.Hid (∀ (w' : World) (ns' : List Nd), Ar base a M vars most w' ns' -> rest < ns'.length -> first + 1 + 3 <= nv ns' rest -> Calls Tryz.prog 88 #[st (hi : Int) 8, .pointer (some ⟨a, 0, none⟩), .int .i64 ((first : Int) + 1), .int .i64 (rest : Int)] w' (MkPost base a M vars most w' ns' 7 (first + 1) fun x => sel 3 hi (first + 1) x && ev ns' rest x)) := fun w' ns' hA hr hn => by
  have := build_8 hA (first := first + 1) hhi (by omega) hr (by omega)
  rw [hcast] at this
  exact this
 clear hcast
 have hwm : Go.RowKit.Hid (IntKind.i64.wrap (IntKind.i64.wrap 256 - 1) = 255) := by
  show _ = _
  rw [IntWalk.i64_in 256 (by omega), IntWalk.i64_in _ (by omega)]
  rfl
 have hwr : IntKind.i64.wrap ((first : Int) + 1) = (first : Int) + 1 := IntWalk.i64_in _ (by omega)
 have A0d := A0.drew'
 have L0d := L0.drew
 have K0d := K0.drew
 go_enter Tryz.func88, Tryz.ntmps88
 go_wp2_with fail
 go_region_held3 (fun w' => w'.cell? ⟨w.heap.size, 0, none⟩ = some (.int .i64 (bits : Int)) ∧ w'.cell? ⟨w.heap.size, 1, none⟩ = some (.int .i64 16))
  (exact Loc.two (by assumption))
  (first | (go_at_call 88; rw [hwm.out, eL]; refine (IL.out _ ns (by assumption) hr (by omega)).mono ?_; rintro e w2 hp2; obtain ⟨ns1, v1, er1, rfl, A1, K1, X1, l1, d1⟩ := hp2.pair; have L1 := L0d.kp K1; clear hp2))
 have wf1 := A1.wf
 have KK1 := K0d.trans K1
 obtain ⟨q0, q1⟩ := L1.two
 have hr1 : rest < ns1.length := Nat.lt_of_lt_of_le hr X1.len
 have hn1 : first + 1 + 3 <= nv ns1 rest := by rw [X1.va hr]; omega
 clear A0 K0 L0 c0 c1 A0d K0d L0d K1
 rcases d1.out with ⟨rfl, f1, rfl, lt1, va1, ev1'⟩ | ⟨rfl, rfl, full1⟩
 ·have E1 : Go.RowKit.Hid (∀ x, ev ns1 f1 x = (sel 3 lo (first + 1) x && ev ns rest x)) := ev1'
  clear ev1' d1
  go_wp2_with fail
  refine (IH.out _ ns1 A1 hr1 hn1).mono ?_
  rintro e w3 hp3
  obtain ⟨ns2, v2, er2, rfl, A2, K2, X2, l2, d2⟩ := hp3.pair
  clear hp3
  have wf2 := A2.wf
  have KK2 := KK1.trans K2
  rcases d2.out with ⟨rfl, f2, rfl, lt2, va2, ev2'⟩ | ⟨rfl, rfl, full2⟩
  ·have E2 : Go.RowKit.Hid (∀ x, ev ns2 f2 x = (sel 3 hi (first + 1) x && ev ns1 rest x)) := ev2'
   have lt1' : f1 < ns2.length := Nat.lt_of_lt_of_le lt1 X2.len
   have va1' : first < nv ns2 f1 := by rw [X2.va lt1]; omega
   have va2' : first < nv ns2 f2 := by omega
   clear ev2' d2 q0 q1 L1
   go_wp2_with fail
   refine (node_ok A2 (i := first) (lo := f1) (up := f2) (by omega) lt1' lt2 va1' va2').mono ?_
   rintro e w4 hp4
   have hp5 : MkPost base a M vars most w ns 15 first (fun x => sel 4 bits first x && ev ns rest x) e w4 := by
    obtain ⟨ns3, r1, r2, r3, r4, r5⟩ := hp4
    refine ⟨ns3, r1, KK2.trans r2, (X1.trans X2).trans r3, by omega, ?_⟩
    rcases r5 with ⟨f, e1, e2, e3, e4⟩ | r5
    ·refine Or.inl ⟨f, e1, e2, e3, fun x => ?_⟩
     rw [e4 x]
     show (if x first = true then ev ns2 f2 x else ev ns2 f1 x) = (sel 4 bits first x && ev ns rest x)
     rw [hsel.out x, E2.out x, X2.ev wf1 wf2 _ lt1, E1.out x, X1.ev wf wf1 _ hr]
     cases x first <;> rfl
    ·exact Or.inr r5
   clear hp4
   have hp6 := hp5
   obtain ⟨ns3, _, _, _, _, ⟨f', rfl, _⟩ | ⟨rfl, _⟩⟩ := hp5
   ·go_wp2_with fail
    go_ret2
    exact hp6
   ·go_wp2_with fail
    go_ret2
    exact hp6
  ·have fin : MkPost base a M vars most w ns 15 first (fun x => sel 4 bits first x && ev ns rest x) (.returned (.tuple #[.int .i64 0, .int .i64 6])) w3 :=
    ⟨ns2, A2, KK2, X1.trans X2, by omega, Or.inr ⟨rfl, full2⟩⟩
   clear d2 A2 K2 KK2
   go_wp2_with fail
   go_ret2
   exact fin
 ·have fin : MkPost base a M vars most w ns 15 first (fun x => sel 4 bits first x && ev ns rest x) (.returned (.tuple #[.int .i64 0, .int .i64 6])) w2 :=
   ⟨ns1, A1, KK1, X1, by omega, Or.inr ⟨rfl, full1⟩⟩
  clear d1 A1 KK1
  go_wp2_with fail
  go_ret2
  exact fin
end
def phi (sa sb sc sd : Nat) (x : Env) : Bool := sel 4 sa 0 x && (sel 4 sb 4 x && (sel 3 sc 8 x && (sel 3 sd 11 x && true)))
theorem sel_zero (k first : Nat) (x : Env) : sel k 0 first x = false := by rw [sel_val]; simp
section
variable {base a M vars most : Nat} {w w' : World} {ns : List Nd}
theorem Loc.four {C : Cfg} {w : World} {i : Nat} {x y z u : Value} {t : TypeId} (h : Loc C w i #[x, y, z, u] t) : w.cell? ⟨i, 0, none⟩ = some x ∧ w.cell? ⟨i, 1, none⟩ = some y ∧ w.cell? ⟨i, 2, none⟩ = some z ∧ w.cell? ⟨i, 3, none⟩ = some u :=
 ⟨by rw [cell_of_row w i 0 _ _ _ h.blk]; rfl, by rw [cell_of_row w i 1 _ _ _ h.blk]; rfl, by rw [cell_of_row w i 2 _ _ _ h.blk]; rfl, by rw [cell_of_row w i 3 _ _ _ h.blk]; rfl⟩
theorem build_none (h : Ar base a M vars most w ns) (hv : 14 <= vars) (sa sb sc sd : Nat) (hz : sa = 0 ∨ sb = 0 ∨ sc = 0 ∨ sd = 0) :
  Calls Tryz.prog 52 #[.pointer (some ⟨a, 0, none⟩), mt sa sb sc sd] w (MkPost base a M vars most w ns 44 0 (phi sa sb sc sd)) := by
 have l2 := h.wf.len
 have L0 := h.loc #[.int .u16 (sa : Int), .int .u16 (sb : Int), .int .u8 (sc : Int), .int .u8 (sd : Int)] 50
 have A0 := h.alloc (.cells #[.int .u16 (sa : Int), .int .u16 (sb : Int), .int .u8 (sc : Int), .int .u8 (sd : Int)] 50)
 have K0 := Ar.kalloc' h (.cells #[.int .u16 (sa : Int), .int .u16 (sb : Int), .int .u8 (sc : Int), .int .u8 (sd : Int)] 50)
 have t1 : decide ((vars : Int) < 14) = false := by simp; omega
 have fin : MkPost base a M vars most w ns 44 0 (phi sa sb sc sd) (.returned (.tuple #[.int .i64 0, .int .i64 0])) (w.alloc (.cells #[.int .u16 (sa : Int), .int .u16 (sb : Int), .int .u8 (sc : Int), .int .u8 (sd : Int)] 50)) :=
  ⟨ns, A0, K0, Ext.refl _, by omega, Or.inl ⟨0, rfl, by omega, Nat.zero_le _, fun x => by
   rw [ev0]
   unfold phi
   rcases hz with rfl | rfl | rfl | rfl <;> simp [sel_zero]⟩⟩
 clear L0 K0
 by_cases za : sa = 0
 ·subst za
  go_enter Tryz.func52, Tryz.ntmps52
  go_wp2_with fail
  refine (vars_any A0).mono ?_
  rintro e w1 ⟨rfl, rfl⟩
  go_wp2_with fail
  go_ret2
  exact fin
 by_cases zb : sb = 0
 ·subst zb
  go_enter Tryz.func52, Tryz.ntmps52
  go_wp2_with fail
  refine (vars_any A0).mono ?_
  rintro e w1 ⟨rfl, rfl⟩
  go_wp2_with fail
  go_ret2
  exact fin
 by_cases zc : sc = 0
 ·subst zc
  go_enter Tryz.func52, Tryz.ntmps52
  go_wp2_with fail
  refine (vars_any A0).mono ?_
  rintro e w1 ⟨rfl, rfl⟩
  go_wp2_with fail
  go_ret2
  exact fin
 ·obtain rfl : sd = 0 := by omega
  go_enter Tryz.func52, Tryz.ntmps52
  go_wp2_with fail
  refine (vars_any A0).mono ?_
  rintro e w1 ⟨rfl, rfl⟩
  go_wp2_with fail
  go_ret2
  exact fin
theorem build_some (h : Ar base a M vars most w ns) (hv : 14 <= vars) (sa sb sc sd : Nat) (ha : sa < 65536) (hb : sb < 65536) (hc : sc < 256) (hd : sd < 256) (za : sa ≠ 0) (zb : sb ≠ 0) (zc : sc ≠ 0) (zd : sd ≠ 0) :
  Calls Tryz.prog 52 #[.pointer (some ⟨a, 0, none⟩), mt sa sb sc sd] w (MkPost base a M vars most w ns 44 0 (phi sa sb sc sd)) := by
 have l2 := h.wf.len
 have wf := h.wf
 have n1 : nv ns 1 = vars := by rw [nv, h.wf.n1]
 have L0 := h.loc #[.int .u16 (sa : Int), .int .u16 (sb : Int), .int .u8 (sc : Int), .int .u8 (sd : Int)] 50
 have A0 := h.alloc (.cells #[.int .u16 (sa : Int), .int .u16 (sb : Int), .int .u8 (sc : Int), .int .u8 (sd : Int)] 50)
 have K0 := Ar.kalloc' h (.cells #[.int .u16 (sa : Int), .int .u16 (sb : Int), .int .u8 (sc : Int), .int .u8 (sd : Int)] 50)
 have t1 : decide ((vars : Int) < 14) = false := by simp; omega
 have e1 : ((sa : Int) == 0) = false := by simp; omega
 have e2 : ((sb : Int) == 0) = false := by simp; omega
 have e3 : ((sc : Int) == 0) = false := by simp; omega
 have e4 : ((sd : Int) == 0) = false := by simp; omega
 have pA : Go.RowKit.Hid (∀ w, Calls Tryz.prog 89 #[.int .u16 (sa : Int)] w fun e w' => e = .returned (st sa 16) ∧ Below w.heap.size w w') := fun w => addrs_any sa w ha
 have pB : Go.RowKit.Hid (∀ w, Calls Tryz.prog 89 #[.int .u16 (sb : Int)] w fun e w' => e = .returned (st sb 16) ∧ Below w.heap.size w w') := fun w => addrs_any sb w hb
 have pC : Go.RowKit.Hid (∀ w, Calls Tryz.prog 87 #[.int .u8 (sc : Int)] w fun e w' => e = .returned (st sc 8) ∧ Below w.heap.size w w') := fun w => ports_any sc w hc
 have pD : Go.RowKit.Hid (∀ w, Calls Tryz.prog 87 #[.int .u8 (sd : Int)] w fun e w' => e = .returned (st sd 8) ∧ Below w.heap.size w w') := fun w => ports_any sd w hd
 have bD : Go.RowKit.Hid (∀ (w' : World) (ns' : List Nd) (rest : Nat), Ar base a M vars most w' ns' -> rest < ns'.length -> 11 + 3 <= nv ns' rest -> Calls Tryz.prog 88 #[st (sd : Int) 8, .pointer (some ⟨a, 0, none⟩), .int .i64 11, .int .i64 (rest : Int)] w' (MkPost base a M vars most w' ns' 7 11 fun x => sel 3 sd 11 x && ev ns' rest x)) := fun w' ns' rest hA h1 h2 => build_8 hA (first := 11) hd (by omega) h1 h2
 have bC : Go.RowKit.Hid (∀ (w' : World) (ns' : List Nd) (rest : Nat), Ar base a M vars most w' ns' -> rest < ns'.length -> 8 + 3 <= nv ns' rest -> Calls Tryz.prog 88 #[st (sc : Int) 8, .pointer (some ⟨a, 0, none⟩), .int .i64 8, .int .i64 (rest : Int)] w' (MkPost base a M vars most w' ns' 7 8 fun x => sel 3 sc 8 x && ev ns' rest x)) := fun w' ns' rest hA h1 h2 => build_8 hA (first := 8) hc (by omega) h1 h2
 have bB : Go.RowKit.Hid (∀ (w' : World) (ns' : List Nd) (rest : Nat), Ar base a M vars most w' ns' -> rest < ns'.length -> 4 + 4 <= nv ns' rest -> Calls Tryz.prog 88 #[st (sb : Int) 16, .pointer (some ⟨a, 0, none⟩), .int .i64 4, .int .i64 (rest : Int)] w' (MkPost base a M vars most w' ns' 15 4 fun x => sel 4 sb 4 x && ev ns' rest x)) := fun w' ns' rest hA h1 h2 => build_16 hA (first := 4) hb (by omega) h1 h2
 have bA : Go.RowKit.Hid (∀ (w' : World) (ns' : List Nd) (rest : Nat), Ar base a M vars most w' ns' -> rest < ns'.length -> 0 + 4 <= nv ns' rest -> Calls Tryz.prog 88 #[st (sa : Int) 16, .pointer (some ⟨a, 0, none⟩), .int .i64 0, .int .i64 (rest : Int)] w' (MkPost base a M vars most w' ns' 15 0 fun x => sel 4 sa 0 x && ev ns' rest x)) := fun w' ns' rest hA h1 h2 => build_16 hA (first := 0) ha (by omega) h1 h2
 obtain ⟨c0, c1, c2, c3⟩ := L0.four
 clear ha hb hc hd za zb zc zd
 go_enter Tryz.func52, Tryz.ntmps52
 go_wp2_with fail
 refine (vars_any A0).mono ?_
 rintro e w0 ⟨rfl, hw0⟩
 subst hw0
 go_wp2_with fail
 refine (pD.out _).mono ?_
 rintro e u1 ⟨rfl, hb1⟩
 have B1 := A0.below hb1
 have M1 := Loc.below L0 A0 hb1
 have J1 := K0.trans (A0.kbelow hb1)
 clear c0 c1 c2 c3
 clear hb1 A0 L0 K0
 go_wp2_with fail
 refine (bD.out _ ns 1 B1 (by omega) (by rw [n1]; omega)).mono ?_
 rintro e x1 hp1
 obtain ⟨ns1, v1, er1, rfl, A1, K1, X1, l1, d1⟩ := hp1.pair
 have wf1 := A1.wf
 have KK1 := J1.trans K1
 have L1 := M1.kp K1
 obtain ⟨c0, c1, c2, c3⟩ := L1.four
 have XX1 := X1
 clear hp1 B1 M1 J1 K1
 rcases d1.out with ⟨rfl, f1, rfl, lt1, va1, ev1x⟩ | ⟨rfl, rfl, full1⟩
 ·have E1 : Go.RowKit.Hid (∀ x, ev ns1 f1 x = (sel 3 sd 11 x && true)) := fun x => by rw [ev1x x, ev1]
  clear ev1x d1
  go_wp2_with fail
  refine (pC.out _).mono ?_
  rintro e u2 ⟨rfl, hb2⟩
  have B2 := A1.below hb2
  have M2 := Loc.below L1 A1 hb2
  have J2 := KK1.trans (A1.kbelow hb2)
  clear c0 c1 c2 c3
  clear hb2 A1 L1 KK1
  go_wp2_with fail
  refine (bC.out _ ns1 f1 B2 lt1 (by omega)).mono ?_
  rintro e x2 hp2
  obtain ⟨ns2, v2, er2, rfl, A2, K2, X2, l2, d2⟩ := hp2.pair
  have wf2 := A2.wf
  have KK2 := J2.trans K2
  have L2 := M2.kp K2
  obtain ⟨c0, c1, c2, c3⟩ := L2.four
  have XX2 := (XX1.trans X2)
  clear hp2 B2 M2 J2 K2
  rcases d2.out with ⟨rfl, f2, rfl, lt2, va2, ev2x⟩ | ⟨rfl, rfl, full2⟩
  ·have E2 : Go.RowKit.Hid (∀ x, ev ns2 f2 x = (sel 3 sc 8 x && (sel 3 sd 11 x && true))) := fun x => by rw [ev2x x, E1.out x]
   clear ev2x d2
   go_wp2_with fail
   refine (pB.out _).mono ?_
   rintro e u3 ⟨rfl, hb3⟩
   have B3 := A2.below hb3
   have M3 := Loc.below L2 A2 hb3
   have J3 := KK2.trans (A2.kbelow hb3)
   clear c0 c1 c2 c3
   clear hb3 A2 L2 KK2
   go_wp2_with fail
   refine (bB.out _ ns2 f2 B3 lt2 (by omega)).mono ?_
   rintro e x3 hp3
   obtain ⟨ns3, v3, er3, rfl, A3, K3, X3, l3, d3⟩ := hp3.pair
   have wf3 := A3.wf
   have KK3 := J3.trans K3
   have L3 := M3.kp K3
   obtain ⟨c0, c1, c2, c3⟩ := L3.four
   have XX3 := (XX2.trans X3)
   clear hp3 B3 M3 J3 K3
   rcases d3.out with ⟨rfl, f3, rfl, lt3, va3, ev3x⟩ | ⟨rfl, rfl, full3⟩
   ·have E3 : Go.RowKit.Hid (∀ x, ev ns3 f3 x = (sel 4 sb 4 x && (sel 3 sc 8 x && (sel 3 sd 11 x && true)))) := fun x => by rw [ev3x x, E2.out x]
    clear ev3x d3
    go_wp2_with fail
    refine (pA.out _).mono ?_
    rintro e u4 ⟨rfl, hb4⟩
    have B4 := A3.below hb4
    have M4 := Loc.below L3 A3 hb4
    have J4 := KK3.trans (A3.kbelow hb4)
    clear c0 c1 c2 c3
    clear hb4 A3 L3 KK3
    go_wp2_with fail
    refine (bA.out _ ns3 f3 B4 lt3 (by omega)).mono ?_
    rintro e x4 hp4
    obtain ⟨ns4, v4, er4, rfl, A4, K4, X4, l4, d4⟩ := hp4.pair
    have wf4 := A4.wf
    have KK4 := J4.trans K4
    have L4 := M4.kp K4
    obtain ⟨c0, c1, c2, c3⟩ := L4.four
    have XX4 := (XX3.trans X4)
    clear hp4 B4 M4 J4 K4
    rcases d4.out with ⟨rfl, f4, rfl, lt4, va4, ev4x⟩ | ⟨rfl, rfl, full4⟩
    ·have E4 : Go.RowKit.Hid (∀ x, ev ns4 f4 x = (sel 4 sa 0 x && (sel 4 sb 4 x && (sel 3 sc 8 x && (sel 3 sd 11 x && true))))) := fun x => by rw [ev4x x, E3.out x]
     clear ev4x d4
     have fin : MkPost base a M vars most w ns 44 0 (phi sa sb sc sd) (.returned (.tuple #[.int .i64 (f4 : Int), .int .i64 0])) x4 :=
      ⟨ns4, A4, KK4, XX4, by omega, Or.inl ⟨f4, rfl, lt4, Nat.zero_le _, E4.out⟩⟩
     clear A4 KK4 L4 c0 c1 c2 c3
     go_wp2_with fail
     go_ret2
     exact fin
    ·have fin : MkPost base a M vars most w ns 44 0 (phi sa sb sc sd) (.returned (.tuple #[.int .i64 0, .int .i64 6])) x4 :=
      ⟨ns4, A4, KK4, XX4, by omega, Or.inr ⟨rfl, full4⟩⟩
     clear d4 A4 KK4 L4 c0 c1 c2 c3
     go_wp2_with fail
     go_ret2
     exact fin
   ·have fin : MkPost base a M vars most w ns 44 0 (phi sa sb sc sd) (.returned (.tuple #[.int .i64 0, .int .i64 6])) x3 :=
     ⟨ns3, A3, KK3, XX3, by omega, Or.inr ⟨rfl, full3⟩⟩
    clear d3 A3 KK3 L3 c0 c1 c2 c3
    go_wp2_with fail
    go_ret2
    exact fin
  ·have fin : MkPost base a M vars most w ns 44 0 (phi sa sb sc sd) (.returned (.tuple #[.int .i64 0, .int .i64 6])) x2 :=
    ⟨ns2, A2, KK2, XX2, by omega, Or.inr ⟨rfl, full2⟩⟩
   clear d2 A2 KK2 L2 c0 c1 c2 c3
   go_wp2_with fail
   go_ret2
   exact fin
 ·have fin : MkPost base a M vars most w ns 44 0 (phi sa sb sc sd) (.returned (.tuple #[.int .i64 0, .int .i64 6])) x1 :=
   ⟨ns1, A1, KK1, XX1, by omega, Or.inr ⟨rfl, full1⟩⟩
  clear d1 A1 KK1 L1 c0 c1 c2 c3
  go_wp2_with fail
  go_ret2
  exact fin
theorem build_match (h : Ar base a M vars most w ns) (hv : 14 <= vars) (sa sb sc sd : Nat) (ha : sa < 65536) (hb : sb < 65536) (hc : sc < 256) (hd : sd < 256) :
  Calls Tryz.prog 52 #[.pointer (some ⟨a, 0, none⟩), mt sa sb sc sd] w (MkPost base a M vars most w ns 44 0 (phi sa sb sc sd)) := by
 by_cases hz : sa = 0 ∨ sb = 0 ∨ sc = 0 ∨ sd = 0
 ·exact build_none h hv sa sb sc sd hz
 ·exact build_some h hv sa sb sc sd ha hb hc hd (by omega) (by omega) (by omega) (by omega)
end
end Go.Proofs.YtlmmeppifkigeaaGreat
namespace Go.Proofs.YtlmmeppifkigeaaGreat
open Go
theorem wpIn_of_wp {P : Program} {o : Oper} {a : Act} {w : World} {K : Act -> World -> Prop} {Q : Exit -> Act -> World -> Prop} (l n : Nat) (hd : ∀ c, o.op ≠ .defer c) (h : o.wp P a w K Q) : o.wpIn (Fence.wide.inRound l) n P a w K Q := by
 refine ⟨fun _ _ => trivial, ?_⟩
 rw [Oper.semAt_eq _ _ _ hd]
 unfold Oper.wp at h
 generalize (execOp a.eval o).run P w = r at h ⊢
 cases r with
 | ok x w' =>
   cases x with
   | value v => exact h
   | skip => exact h
   | defer d => exact h
   | enter f args => exact ⟨(fun e => by cases e), CallsIn.inRound l (callsIn_wide.2 h)⟩
   | row row args => exact ⟨(fun e => by cases e), fun c cs _ => let ⟨v, w'', r, s⟩ := h c cs; ⟨v, w'', r, stepsIn_wide.2 s⟩⟩
   | _ => exact h.elim
 | halt x w' => cases x <;> exact h
theorem wpAnyIn_of {P : Program} {md : Region.Mode} {ops : Array Oper} {Q : Exit -> Act -> World -> Prop} (l n : Nat) (hd : ∀ (i : Nat) (o : Oper), ops[i]? = some o -> ∀ c, o.op ≠ .defer c) (hQ : ¬ LetsOut Q) : ∀ (fuel : Nat) (listed : Array Bool) (a : Act) (w : World), wpAny P md ops Q fuel listed a w -> wpAnyIn (Fence.wide.inRound l) n P md ops Q fuel listed a w := by
 intro fuel
 induction fuel with
 | zero => exact fun _ _ _ h => h
 | succ fuel ih =>
   intro listed a w h
   refine ⟨h.1, fun i hi => ?_⟩
   have hh := h.2 i hi
   unfold wpOp at hh
   unfold wpOpIn
   cases ho : ops[i]? with
   | none => rw [ho] at hh; exact ih _ _ _ hh
   | some o =>
     rw [ho] at hh
     simp only at hh ⊢
     split
     ·rename_i hw
      rw [if_pos hw] at hh
      rcases hh with hh | ⟨_, hh⟩
      ·exact Oper.wpIn_mono (fun a w hk => ih _ _ _ hk) (wpIn_of_wp l n (hd i o ho) hh)
      ·exact absurd hh hQ
     ·rename_i hw
      rw [if_neg hw] at hh
      exact ⟨fun _ _ => trivial, ih _ _ _ hh⟩
def noDefer (ops : Array Oper) : Bool := ops.all fun o => match o.op with | .defer _ => false | _ => true
theorem noDefer_spec {ops : Array Oper} (h : noDefer ops = true) (i : Nat) (o : Oper) (ho : ops[i]? = some o) : ∀ c, o.op ≠ .defer c := by
 intro c e
 obtain ⟨hi, rfl⟩ := Array.getElem?_eq_some_iff.1 ho
 have := (Array.all_eq_true.1 h) i hi
 rw [e] at this
 cases this
theorem region_held_in {P : Program} {ops : Array Oper} {Q : Exit -> Act -> World -> Prop} {S : World -> Prop} {id l n : Nat} {a : Act} {w : World} (hm : P.follows .mixedOrders = true) (hd : noDefer ops = true) (hQ : ¬ LetsOut Q) (hS : S w.drew)
  (h : S w.drew -> wpAnyH P .any ops Q S ops.size (Array.replicate ops.size false) a w.drew) : (Code.region id ops true).wpIn (Fence.wide.inRound l) n P Q a w :=
 wpIn_region_any hm (wpAnyIn_of l n (noDefer_spec hd) hQ _ _ _ _ (wpAny_of_held _ _ _ _ (h hS)))
end Go.Proofs.YtlmmeppifkigeaaGreat
