/-
  set.build: the function of a set's numbers, made from below.
-/
import Derived.Test.YtgcimcpcnoojnaaEv0
namespace Go.Proofs.Ytgcimcpcnoojnaa
open Go.RowKit Go.Maps

/-- Is the number that the variables from first on are in the set? -/
def sel : Nat → Nat → Nat → Env → Bool
  | 0, bits, _, _ => bits.testBit 0
  | k + 1, bits, first, x => if x first then sel k (bits >>> 2 ^ k) (first + 1) x else sel k (bits &&& (2 ^ 2 ^ k - 1)) (first + 1) x
/-- That number. -/
def val : Nat → Nat → Env → Nat
  | 0, _, _ => 0
  | k + 1, first, x => (if x first then 2 ^ k else 0) + val k (first + 1) x
theorem val_lt (k first : Nat) (x : Env) : val k first x < 2 ^ k := by
  induction k generalizing first with
  | zero => simp [val]
  | succ k ih =>
    have := ih (first + 1)
    rw [val, Nat.pow_succ]
    split <;> omega
theorem sel_val (k bits first : Nat) (x : Env) : sel k bits first x = bits.testBit (val k first x) := by
  induction k generalizing bits first with
  | zero => rfl
  | succ k ih =>
    have h := val_lt k (first + 1) x
    rw [sel, val]
    split
    · rw [ih, Nat.testBit_shiftRight]
    · rw [ih, Nat.testBit_and, Nat.testBit_two_pow_sub_one, Nat.zero_add]
      simp [h]

section
variable {base a M vars most : Nat} {w w' : World} {ns : List Nd}
theorem Ar.below (h : Ar base a M vars most w ns) (hb : Below w.heap.size w w') : Ar base a M vars most w' ns := by
  obtain ⟨_, _, _, rl⟩ := h.row
  exact h.same (hb.block _ h.lta) (hb.block _ h.ltM) (hb.block _ rl)
theorem Ar.kbelow (h : Ar base a M vars most w ns) (hb : Below w.heap.size w w') : Kp (ca base a M vars most) w w' :=
  ⟨hb.os, hb.tape, hb.output, hb.size, fun i hi _ _ => hb.block i hi, Or.inl (rowOf_same (hb.block _ h.lta))⟩
theorem Ar.loc (h : Ar base a M vars most w ns) (cs : Array Value) (t : TypeId) : Loc (ca base a M vars most) (w.alloc (.cells cs t)) w.heap.size cs t := by
  obtain ⟨_, _, _, rl⟩ := h.row
  have la := h.lta
  have lM := h.ltM
  refine ⟨⟨by simp, ?_, ?_⟩, Go.heap_alloc_new _ _⟩
  · rintro (e | e | e | e | e | e)
    · have : w.heap.size = a := e
      omega
    · have : w.heap.size = a := e
      omega
    · have : w.heap.size = M := e
      omega
    · cases e
    · cases e
    · cases e
  · have e : rowOf (w.alloc (.cells cs t)) a = rowOf w a := rowOf_same (Below.heap_alloc w _ _ la)
    show w.heap.size ≠ rowOf (w.alloc (.cells cs t)) a
    rw [e]
    omega
theorem Loc.two {C : Cfg} {w : World} {i : Nat} {x y : Value} {t : TypeId} (h : Loc C w i #[x, y] t) : w.cell? ⟨i, 0, none⟩ = some x ∧ w.cell? ⟨i, 1, none⟩ = some y :=
  ⟨by rw [cell_of_row w i 0 _ _ _ h.blk]; rfl, by rw [cell_of_row w i 1 _ _ _ h.blk]; rfl⟩
theorem Loc.below {w w' : World} {i : Nat} {cs : Array Value} {t : TypeId} (h : Loc (ca base a M vars most) w i cs t) (hA : Ar base a M vars most w ns) (hb : Below w.heap.size w w') : Loc (ca base a M vars most) w' i cs t := h.kp (hA.kbelow hb)

/-- The same with a function alike. -/
theorem MkPost.of {g i : Nat} {φ ψ : Env → Bool} {e : Ending} (h : MkPost base a M vars most w ns g i φ e w') (hq : ∀ q, φ q = ψ q) : MkPost base a M vars most w ns g i ψ e w' := by
  obtain ⟨ns', r1, r2, r3, r4, r5⟩ := h
  refine ⟨ns', r1, r2, r3, r4, ?_⟩
  rcases r5 with ⟨f, e1, e2, e3, e4⟩ | r5
  · exact Or.inl ⟨f, e1, e2, e3, fun q => (e4 q).trans (hq q)⟩
  · exact Or.inr r5

/-- The same, its answer as two numbers. -/
theorem MkPost.pair {g i : Nat} {φ : Env → Bool} {e : Ending} (h : MkPost base a M vars most w ns g i φ e w') :
    ∃ (ns' : List Nd) (v er : Int), e = .returned (.tuple #[.int .i64 v, .int .i64 er]) ∧ Ar base a M vars most w' ns' ∧ Kp (ca base a M vars most) w w' ∧ Ext ns ns' ∧ ns'.length ≤ ns.length + g ∧
      Go.RowKit.Hid ((er = 0 ∧ ∃ f : Nat, v = (f : Int) ∧ f < ns'.length ∧ i ≤ nv ns' f ∧ ∀ x, ev ns' f x = φ x) ∨ (er = 6 ∧ v = 0 ∧ ns'.length = most)) := by
  obtain ⟨ns', r1, r2, r3, r4, ⟨f, e1, e2⟩ | ⟨e1, e2⟩⟩ := h
  · exact ⟨ns', f, 0, e1, r1, r2, r3, r4, Or.inl ⟨rfl, f, rfl, e2⟩⟩
  · exact ⟨ns', 0, 6, e1, r1, r2, r3, r4, Or.inr ⟨rfl, rfl, e2⟩⟩
theorem Ar.drew' (h : Ar base a M vars most w ns) : Ar base a M vars most w.drew ns := h.same rfl rfl rfl

set_option maxHeartbeats 1000000 in
theorem build_1 (h : Ar base a M vars most w ns) {bits first rest : Nat} (hbits : bits < 2) (hr : rest < ns.length) (hf : first ≤ nv ns rest) :
    Calls Try.prog 69 #[st (bits : Int) 1, .pointer (some ⟨a, 0, none⟩), .int .i64 (first : Int), .int .i64 (rest : Int)] w (MkPost base a M vars most w ns 0 first fun x => sel 0 bits first x && ev ns rest x) := by
  have l2 := h.wf.len
  have e0 : nv ns 0 = vars := by rw [nv, h.wf.n0]
  have hle := va_le h.wf hr
  have L0 := h.loc #[.int .i64 (bits : Int), .int .i64 1] 99
  have A0 := h.alloc (.cells #[.int .i64 (bits : Int), .int .i64 1] 99)
  have K0 := Ar.kalloc' h (.cells #[.int .i64 (bits : Int), .int .i64 1] 99)
  obtain ⟨c0, c1⟩ := L0.two
  have H0 : Go.RowKit.Hid (∀ w, Calls Try.prog 95 #[st (bits : Int) 1, .int .i64 0] w fun e w' => e = .returned (.bool (bits.testBit 0)) ∧ Below w.heap.size w w') := fun w => by
    have := has_any bits 0 1 w (by omega)
    rw [show hasB bits 0 = bits.testBit 0 by simp [hasB]] at this
    exact this
  cases ht : bits.testBit 0
  · rw [ht] at H0
    go_enter Try.func69, Try.ntmps69
    go_wp2_with fail
    refine (H0.out _).mono ?_
    rintro e w1 ⟨rfl, hb⟩
    have fin : MkPost base a M vars most w ns 0 first (fun x => sel 0 bits first x && ev ns rest x) (.returned (.tuple #[.int .i64 0, .int .i64 0])) w1 :=
      ⟨ns, A0.below hb, K0.trans (A0.kbelow hb), Ext.refl _, by omega, Or.inl ⟨0, rfl, by omega, by omega, fun x => by rw [ev0]; show false = (bits.testBit 0 && _); rw [ht]; rfl⟩⟩
    clear A0 K0 L0 hb
    go_wp2_with fail
    go_ret2
    exact fin
  · rw [ht] at H0
    go_enter Try.func69, Try.ntmps69
    go_wp2_with fail
    refine (H0.out _).mono ?_
    rintro e w1 ⟨rfl, hb⟩
    have fin : MkPost base a M vars most w ns 0 first (fun x => sel 0 bits first x && ev ns rest x) (.returned (.tuple #[.int .i64 (rest : Int), .int .i64 0])) w1 :=
      ⟨ns, A0.below hb, K0.trans (A0.kbelow hb), Ext.refl _, by omega, Or.inl ⟨rest, rfl, hr, hf, fun x => by show _ = (bits.testBit 0 && _); rw [ht]; rfl⟩⟩
    clear A0 K0 L0 hb
    go_wp2_with fail
    go_ret2
    exact fin

theorem low_2 (bits : Nat) (h : bits < 4) : Go.bits .and .i64 (bits : Int) 1 = ((bits &&& 1 : Nat) : Int) := intBits_and bits 1 (by omega) (by decide)
theorem high_2 (bits : Nat) : (bits : Int) / (2 : Int) = ((bits >>> 1 : Nat) : Int) := by rw [Nat.shiftRight_eq_div_pow]; simp

set_option maxHeartbeats 4000000 in
set_option maxRecDepth 100000 in
theorem build_2 (h : Ar base a M vars most w ns) {bits first rest : Nat} (hbits : bits < 4) (hv : first + 1 ≤ vars) (hr : rest < ns.length) (hf : first + 1 ≤ nv ns rest) :
    Calls Try.prog 69 #[st (bits : Int) 2, .pointer (some ⟨a, 0, none⟩), .int .i64 (first : Int), .int .i64 (rest : Int)] w (MkPost base a M vars most w ns 1 first fun x => sel 1 bits first x && ev ns rest x) := by
  have wf := h.wf
  have v16 := h.vars16
  have eL := low_2 bits hbits
  have eH := high_2 bits
  have hlo : bits &&& 1 < 2 := Nat.lt_of_le_of_lt Nat.and_le_right (by decide)
  have hhi : bits >>> 1 < 2 := by rw [Nat.shiftRight_eq_div_pow]; omega
  have hsel : Go.RowKit.Hid (∀ x, sel 1 bits first x = if x first then sel 0 (bits >>> 1) (first + 1) x else sel 0 (bits &&& 1) (first + 1) x) := fun x => rfl
  generalize bits &&& 1 = lo at *
  generalize bits >>> 1 = hi at *
  have L0 := h.loc #[.int .i64 (bits : Int), .int .i64 2] 99
  have A0 := h.alloc (.cells #[.int .i64 (bits : Int), .int .i64 2] 99)
  have K0 := Ar.kalloc' h (.cells #[.int .i64 (bits : Int), .int .i64 2] 99)
  obtain ⟨c0, c1⟩ := L0.two
  have hcast : ((first + 1 : Nat) : Int) = (first : Int) + 1 := by omega
  have IL : Go.RowKit.Hid (∀ (w' : World) (ns' : List Nd), Ar base a M vars most w' ns' → rest < ns'.length → first + 1 + 0 ≤ nv ns' rest → Calls Try.prog 69 #[st (lo : Int) 1, .pointer (some ⟨a, 0, none⟩), .int .i64 ((first : Int) + 1), .int .i64 (rest : Int)] w' (MkPost base a M vars most w' ns' 0 (first + 1) fun x => sel 0 lo (first + 1) x && ev ns' rest x)) := fun w' ns' hA hr hn => by
    have := build_1 hA (first := first + 1) hlo hr (by omega)
    rw [hcast] at this
    exact this
  have IH : Go.RowKit.Hid (∀ (w' : World) (ns' : List Nd), Ar base a M vars most w' ns' → rest < ns'.length → first + 1 + 0 ≤ nv ns' rest → Calls Try.prog 69 #[st (hi : Int) 1, .pointer (some ⟨a, 0, none⟩), .int .i64 ((first : Int) + 1), .int .i64 (rest : Int)] w' (MkPost base a M vars most w' ns' 0 (first + 1) fun x => sel 0 hi (first + 1) x && ev ns' rest x)) := fun w' ns' hA hr hn => by
    have := build_1 hA (first := first + 1) hhi hr (by omega)
    rw [hcast] at this
    exact this
  clear hcast
  have hwm : Go.RowKit.Hid (IntKind.i64.wrap (IntKind.i64.wrap 2 - 1) = 1) := by
    show _ = _
    rw [IntWalk.i64_in 2 (by omega), IntWalk.i64_in _ (by omega)]
    rfl
  have hwr : IntKind.i64.wrap ((first : Int) + 1) = (first : Int) + 1 := IntWalk.i64_in _ (by omega)
  have A0d := A0.drew'
  have L0d := L0.drew
  have K0d := K0.drew
  go_enter Try.func69, Try.ntmps69
  go_wp2_with fail
  go_region_held3 (fun w' => w'.cell? ⟨w.heap.size, 0, none⟩ = some (.int .i64 (bits : Int)) ∧ w'.cell? ⟨w.heap.size, 1, none⟩ = some (.int .i64 2))
    (exact Loc.two (by assumption))
    (first | (go_at_call 69; rw [hwm.out, eL]; refine (IL.out _ ns (by assumption) hr (by omega)).mono ?_; rintro e w2 hp2; obtain ⟨ns1, v1, er1, rfl, A1, K1, X1, l1, d1⟩ := hp2.pair; have L1 := L0d.kp K1; clear hp2))
  have wf1 := A1.wf
  have KK1 := K0d.trans K1
  obtain ⟨q0, q1⟩ := L1.two
  have hr1 : rest < ns1.length := Nat.lt_of_lt_of_le hr X1.len
  have hn1 : first + 1 + 0 ≤ nv ns1 rest := by rw [X1.va hr]; omega
  clear A0 K0 L0 c0 c1 A0d K0d L0d K1
  rcases d1.out with ⟨rfl, f1, rfl, lt1, va1, ev1'⟩ | ⟨rfl, rfl, full1⟩
  · have E1 : Go.RowKit.Hid (∀ x, ev ns1 f1 x = (sel 0 lo (first + 1) x && ev ns rest x)) := ev1'
    clear ev1' d1
    go_wp2_with fail
    refine (IH.out _ ns1 A1 hr1 hn1).mono ?_
    rintro e w3 hp3
    obtain ⟨ns2, v2, er2, rfl, A2, K2, X2, l2, d2⟩ := hp3.pair
    clear hp3
    have wf2 := A2.wf
    have KK2 := KK1.trans K2
    rcases d2.out with ⟨rfl, f2, rfl, lt2, va2, ev2'⟩ | ⟨rfl, rfl, full2⟩
    · have E2 : Go.RowKit.Hid (∀ x, ev ns2 f2 x = (sel 0 hi (first + 1) x && ev ns1 rest x)) := ev2'
      have lt1' : f1 < ns2.length := Nat.lt_of_lt_of_le lt1 X2.len
      have va1' : first < nv ns2 f1 := by rw [X2.va lt1]; omega
      have va2' : first < nv ns2 f2 := by omega
      clear ev2' d2 q0 q1 L1
      go_wp2_with fail
      refine (node_ok A2 (i := first) (lo := f1) (up := f2) (by omega) lt1' lt2 va1' va2').mono ?_
      rintro e w4 hp4
      have hp5 : MkPost base a M vars most w ns 1 first (fun x => sel 1 bits first x && ev ns rest x) e w4 := by
        obtain ⟨ns3, r1, r2, r3, r4, r5⟩ := hp4
        refine ⟨ns3, r1, KK2.trans r2, (X1.trans X2).trans r3, by omega, ?_⟩
        rcases r5 with ⟨f, e1, e2, e3, e4⟩ | r5
        · refine Or.inl ⟨f, e1, e2, e3, fun x => ?_⟩
          rw [e4 x]
          show (if x first = true then ev ns2 f2 x else ev ns2 f1 x) = (sel 1 bits first x && ev ns rest x)
          rw [hsel.out x, E2.out x, X2.ev wf1 wf2 _ lt1, E1.out x, X1.ev wf wf1 _ hr]
          cases x first <;> rfl
        · exact Or.inr r5
      clear hp4
      have hp6 := hp5
      obtain ⟨ns3, _, _, _, _, ⟨f', rfl, _⟩ | ⟨rfl, _⟩⟩ := hp5
      · go_wp2_with fail
        go_ret2
        exact hp6
      · go_wp2_with fail
        go_ret2
        exact hp6
    · have fin : MkPost base a M vars most w ns 1 first (fun x => sel 1 bits first x && ev ns rest x) (.returned (.tuple #[.int .i64 0, .int .i64 6])) w3 :=
        ⟨ns2, A2, KK2, X1.trans X2, by omega, Or.inr ⟨rfl, full2⟩⟩
      clear d2 A2 K2 KK2
      go_wp2_with fail
      go_ret2
      exact fin
  · have fin : MkPost base a M vars most w ns 1 first (fun x => sel 1 bits first x && ev ns rest x) (.returned (.tuple #[.int .i64 0, .int .i64 6])) w2 :=
      ⟨ns1, A1, KK1, X1, by omega, Or.inr ⟨rfl, full1⟩⟩
    clear d1 A1 KK1
    go_wp2_with fail
    go_ret2
    exact fin

theorem low_4 (bits : Nat) (h : bits < 16) : Go.bits .and .i64 (bits : Int) 3 = ((bits &&& 3 : Nat) : Int) := intBits_and bits 3 (by omega) (by decide)
theorem high_4 (bits : Nat) : (bits : Int) / (4 : Int) = ((bits >>> 2 : Nat) : Int) := by rw [Nat.shiftRight_eq_div_pow]; simp

set_option maxHeartbeats 4000000 in
set_option maxRecDepth 100000 in
theorem build_4 (h : Ar base a M vars most w ns) {bits first rest : Nat} (hbits : bits < 16) (hv : first + 2 ≤ vars) (hr : rest < ns.length) (hf : first + 2 ≤ nv ns rest) :
    Calls Try.prog 69 #[st (bits : Int) 4, .pointer (some ⟨a, 0, none⟩), .int .i64 (first : Int), .int .i64 (rest : Int)] w (MkPost base a M vars most w ns 3 first fun x => sel 2 bits first x && ev ns rest x) := by
  have wf := h.wf
  have v16 := h.vars16
  have eL := low_4 bits hbits
  have eH := high_4 bits
  have hlo : bits &&& 3 < 4 := Nat.lt_of_le_of_lt Nat.and_le_right (by decide)
  have hhi : bits >>> 2 < 4 := by rw [Nat.shiftRight_eq_div_pow]; omega
  have hsel : Go.RowKit.Hid (∀ x, sel 2 bits first x = if x first then sel 1 (bits >>> 2) (first + 1) x else sel 1 (bits &&& 3) (first + 1) x) := fun x => rfl
  generalize bits &&& 3 = lo at *
  generalize bits >>> 2 = hi at *
  have L0 := h.loc #[.int .i64 (bits : Int), .int .i64 4] 99
  have A0 := h.alloc (.cells #[.int .i64 (bits : Int), .int .i64 4] 99)
  have K0 := Ar.kalloc' h (.cells #[.int .i64 (bits : Int), .int .i64 4] 99)
  obtain ⟨c0, c1⟩ := L0.two
  have hcast : ((first + 1 : Nat) : Int) = (first : Int) + 1 := by omega
  have IL : Go.RowKit.Hid (∀ (w' : World) (ns' : List Nd), Ar base a M vars most w' ns' → rest < ns'.length → first + 1 + 1 ≤ nv ns' rest → Calls Try.prog 69 #[st (lo : Int) 2, .pointer (some ⟨a, 0, none⟩), .int .i64 ((first : Int) + 1), .int .i64 (rest : Int)] w' (MkPost base a M vars most w' ns' 1 (first + 1) fun x => sel 1 lo (first + 1) x && ev ns' rest x)) := fun w' ns' hA hr hn => by
    have := build_2 hA (first := first + 1) hlo (by omega) hr (by omega)
    rw [hcast] at this
    exact this
  have IH : Go.RowKit.Hid (∀ (w' : World) (ns' : List Nd), Ar base a M vars most w' ns' → rest < ns'.length → first + 1 + 1 ≤ nv ns' rest → Calls Try.prog 69 #[st (hi : Int) 2, .pointer (some ⟨a, 0, none⟩), .int .i64 ((first : Int) + 1), .int .i64 (rest : Int)] w' (MkPost base a M vars most w' ns' 1 (first + 1) fun x => sel 1 hi (first + 1) x && ev ns' rest x)) := fun w' ns' hA hr hn => by
    have := build_2 hA (first := first + 1) hhi (by omega) hr (by omega)
    rw [hcast] at this
    exact this
  clear hcast
  have hwm : Go.RowKit.Hid (IntKind.i64.wrap (IntKind.i64.wrap 4 - 1) = 3) := by
    show _ = _
    rw [IntWalk.i64_in 4 (by omega), IntWalk.i64_in _ (by omega)]
    rfl
  have hwr : IntKind.i64.wrap ((first : Int) + 1) = (first : Int) + 1 := IntWalk.i64_in _ (by omega)
  have A0d := A0.drew'
  have L0d := L0.drew
  have K0d := K0.drew
  go_enter Try.func69, Try.ntmps69
  go_wp2_with fail
  go_region_held3 (fun w' => w'.cell? ⟨w.heap.size, 0, none⟩ = some (.int .i64 (bits : Int)) ∧ w'.cell? ⟨w.heap.size, 1, none⟩ = some (.int .i64 4))
    (exact Loc.two (by assumption))
    (first | (go_at_call 69; rw [hwm.out, eL]; refine (IL.out _ ns (by assumption) hr (by omega)).mono ?_; rintro e w2 hp2; obtain ⟨ns1, v1, er1, rfl, A1, K1, X1, l1, d1⟩ := hp2.pair; have L1 := L0d.kp K1; clear hp2))
  have wf1 := A1.wf
  have KK1 := K0d.trans K1
  obtain ⟨q0, q1⟩ := L1.two
  have hr1 : rest < ns1.length := Nat.lt_of_lt_of_le hr X1.len
  have hn1 : first + 1 + 1 ≤ nv ns1 rest := by rw [X1.va hr]; omega
  clear A0 K0 L0 c0 c1 A0d K0d L0d K1
  rcases d1.out with ⟨rfl, f1, rfl, lt1, va1, ev1'⟩ | ⟨rfl, rfl, full1⟩
  · have E1 : Go.RowKit.Hid (∀ x, ev ns1 f1 x = (sel 1 lo (first + 1) x && ev ns rest x)) := ev1'
    clear ev1' d1
    go_wp2_with fail
    refine (IH.out _ ns1 A1 hr1 hn1).mono ?_
    rintro e w3 hp3
    obtain ⟨ns2, v2, er2, rfl, A2, K2, X2, l2, d2⟩ := hp3.pair
    clear hp3
    have wf2 := A2.wf
    have KK2 := KK1.trans K2
    rcases d2.out with ⟨rfl, f2, rfl, lt2, va2, ev2'⟩ | ⟨rfl, rfl, full2⟩
    · have E2 : Go.RowKit.Hid (∀ x, ev ns2 f2 x = (sel 1 hi (first + 1) x && ev ns1 rest x)) := ev2'
      have lt1' : f1 < ns2.length := Nat.lt_of_lt_of_le lt1 X2.len
      have va1' : first < nv ns2 f1 := by rw [X2.va lt1]; omega
      have va2' : first < nv ns2 f2 := by omega
      clear ev2' d2 q0 q1 L1
      go_wp2_with fail
      refine (node_ok A2 (i := first) (lo := f1) (up := f2) (by omega) lt1' lt2 va1' va2').mono ?_
      rintro e w4 hp4
      have hp5 : MkPost base a M vars most w ns 3 first (fun x => sel 2 bits first x && ev ns rest x) e w4 := by
        obtain ⟨ns3, r1, r2, r3, r4, r5⟩ := hp4
        refine ⟨ns3, r1, KK2.trans r2, (X1.trans X2).trans r3, by omega, ?_⟩
        rcases r5 with ⟨f, e1, e2, e3, e4⟩ | r5
        · refine Or.inl ⟨f, e1, e2, e3, fun x => ?_⟩
          rw [e4 x]
          show (if x first = true then ev ns2 f2 x else ev ns2 f1 x) = (sel 2 bits first x && ev ns rest x)
          rw [hsel.out x, E2.out x, X2.ev wf1 wf2 _ lt1, E1.out x, X1.ev wf wf1 _ hr]
          cases x first <;> rfl
        · exact Or.inr r5
      clear hp4
      have hp6 := hp5
      obtain ⟨ns3, _, _, _, _, ⟨f', rfl, _⟩ | ⟨rfl, _⟩⟩ := hp5
      · go_wp2_with fail
        go_ret2
        exact hp6
      · go_wp2_with fail
        go_ret2
        exact hp6
    · have fin : MkPost base a M vars most w ns 3 first (fun x => sel 2 bits first x && ev ns rest x) (.returned (.tuple #[.int .i64 0, .int .i64 6])) w3 :=
        ⟨ns2, A2, KK2, X1.trans X2, by omega, Or.inr ⟨rfl, full2⟩⟩
      clear d2 A2 K2 KK2
      go_wp2_with fail
      go_ret2
      exact fin
  · have fin : MkPost base a M vars most w ns 3 first (fun x => sel 2 bits first x && ev ns rest x) (.returned (.tuple #[.int .i64 0, .int .i64 6])) w2 :=
      ⟨ns1, A1, KK1, X1, by omega, Or.inr ⟨rfl, full1⟩⟩
    clear d1 A1 KK1
    go_wp2_with fail
    go_ret2
    exact fin

theorem low_8 (bits : Nat) (h : bits < 256) : Go.bits .and .i64 (bits : Int) 15 = ((bits &&& 15 : Nat) : Int) := intBits_and bits 15 (by omega) (by decide)
theorem high_8 (bits : Nat) : (bits : Int) / (16 : Int) = ((bits >>> 4 : Nat) : Int) := by rw [Nat.shiftRight_eq_div_pow]; simp

set_option maxHeartbeats 4000000 in
set_option maxRecDepth 100000 in
theorem build_8 (h : Ar base a M vars most w ns) {bits first rest : Nat} (hbits : bits < 256) (hv : first + 3 ≤ vars) (hr : rest < ns.length) (hf : first + 3 ≤ nv ns rest) :
    Calls Try.prog 69 #[st (bits : Int) 8, .pointer (some ⟨a, 0, none⟩), .int .i64 (first : Int), .int .i64 (rest : Int)] w (MkPost base a M vars most w ns 7 first fun x => sel 3 bits first x && ev ns rest x) := by
  have wf := h.wf
  have v16 := h.vars16
  have eL := low_8 bits hbits
  have eH := high_8 bits
  have hlo : bits &&& 15 < 16 := Nat.lt_of_le_of_lt Nat.and_le_right (by decide)
  have hhi : bits >>> 4 < 16 := by rw [Nat.shiftRight_eq_div_pow]; omega
  have hsel : Go.RowKit.Hid (∀ x, sel 3 bits first x = if x first then sel 2 (bits >>> 4) (first + 1) x else sel 2 (bits &&& 15) (first + 1) x) := fun x => rfl
  generalize bits &&& 15 = lo at *
  generalize bits >>> 4 = hi at *
  have L0 := h.loc #[.int .i64 (bits : Int), .int .i64 8] 99
  have A0 := h.alloc (.cells #[.int .i64 (bits : Int), .int .i64 8] 99)
  have K0 := Ar.kalloc' h (.cells #[.int .i64 (bits : Int), .int .i64 8] 99)
  obtain ⟨c0, c1⟩ := L0.two
  have hcast : ((first + 1 : Nat) : Int) = (first : Int) + 1 := by omega
  have IL : Go.RowKit.Hid (∀ (w' : World) (ns' : List Nd), Ar base a M vars most w' ns' → rest < ns'.length → first + 1 + 2 ≤ nv ns' rest → Calls Try.prog 69 #[st (lo : Int) 4, .pointer (some ⟨a, 0, none⟩), .int .i64 ((first : Int) + 1), .int .i64 (rest : Int)] w' (MkPost base a M vars most w' ns' 3 (first + 1) fun x => sel 2 lo (first + 1) x && ev ns' rest x)) := fun w' ns' hA hr hn => by
    have := build_4 hA (first := first + 1) hlo (by omega) hr (by omega)
    rw [hcast] at this
    exact this
  have IH : Go.RowKit.Hid (∀ (w' : World) (ns' : List Nd), Ar base a M vars most w' ns' → rest < ns'.length → first + 1 + 2 ≤ nv ns' rest → Calls Try.prog 69 #[st (hi : Int) 4, .pointer (some ⟨a, 0, none⟩), .int .i64 ((first : Int) + 1), .int .i64 (rest : Int)] w' (MkPost base a M vars most w' ns' 3 (first + 1) fun x => sel 2 hi (first + 1) x && ev ns' rest x)) := fun w' ns' hA hr hn => by
    have := build_4 hA (first := first + 1) hhi (by omega) hr (by omega)
    rw [hcast] at this
    exact this
  clear hcast
  have hwm : Go.RowKit.Hid (IntKind.i64.wrap (IntKind.i64.wrap 16 - 1) = 15) := by
    show _ = _
    rw [IntWalk.i64_in 16 (by omega), IntWalk.i64_in _ (by omega)]
    rfl
  have hwr : IntKind.i64.wrap ((first : Int) + 1) = (first : Int) + 1 := IntWalk.i64_in _ (by omega)
  have A0d := A0.drew'
  have L0d := L0.drew
  have K0d := K0.drew
  go_enter Try.func69, Try.ntmps69
  go_wp2_with fail
  go_region_held3 (fun w' => w'.cell? ⟨w.heap.size, 0, none⟩ = some (.int .i64 (bits : Int)) ∧ w'.cell? ⟨w.heap.size, 1, none⟩ = some (.int .i64 8))
    (exact Loc.two (by assumption))
    (first | (go_at_call 69; rw [hwm.out, eL]; refine (IL.out _ ns (by assumption) hr (by omega)).mono ?_; rintro e w2 hp2; obtain ⟨ns1, v1, er1, rfl, A1, K1, X1, l1, d1⟩ := hp2.pair; have L1 := L0d.kp K1; clear hp2))
  have wf1 := A1.wf
  have KK1 := K0d.trans K1
  obtain ⟨q0, q1⟩ := L1.two
  have hr1 : rest < ns1.length := Nat.lt_of_lt_of_le hr X1.len
  have hn1 : first + 1 + 2 ≤ nv ns1 rest := by rw [X1.va hr]; omega
  clear A0 K0 L0 c0 c1 A0d K0d L0d K1
  rcases d1.out with ⟨rfl, f1, rfl, lt1, va1, ev1'⟩ | ⟨rfl, rfl, full1⟩
  · have E1 : Go.RowKit.Hid (∀ x, ev ns1 f1 x = (sel 2 lo (first + 1) x && ev ns rest x)) := ev1'
    clear ev1' d1
    go_wp2_with fail
    refine (IH.out _ ns1 A1 hr1 hn1).mono ?_
    rintro e w3 hp3
    obtain ⟨ns2, v2, er2, rfl, A2, K2, X2, l2, d2⟩ := hp3.pair
    clear hp3
    have wf2 := A2.wf
    have KK2 := KK1.trans K2
    rcases d2.out with ⟨rfl, f2, rfl, lt2, va2, ev2'⟩ | ⟨rfl, rfl, full2⟩
    · have E2 : Go.RowKit.Hid (∀ x, ev ns2 f2 x = (sel 2 hi (first + 1) x && ev ns1 rest x)) := ev2'
      have lt1' : f1 < ns2.length := Nat.lt_of_lt_of_le lt1 X2.len
      have va1' : first < nv ns2 f1 := by rw [X2.va lt1]; omega
      have va2' : first < nv ns2 f2 := by omega
      clear ev2' d2 q0 q1 L1
      go_wp2_with fail
      refine (node_ok A2 (i := first) (lo := f1) (up := f2) (by omega) lt1' lt2 va1' va2').mono ?_
      rintro e w4 hp4
      have hp5 : MkPost base a M vars most w ns 7 first (fun x => sel 3 bits first x && ev ns rest x) e w4 := by
        obtain ⟨ns3, r1, r2, r3, r4, r5⟩ := hp4
        refine ⟨ns3, r1, KK2.trans r2, (X1.trans X2).trans r3, by omega, ?_⟩
        rcases r5 with ⟨f, e1, e2, e3, e4⟩ | r5
        · refine Or.inl ⟨f, e1, e2, e3, fun x => ?_⟩
          rw [e4 x]
          show (if x first = true then ev ns2 f2 x else ev ns2 f1 x) = (sel 3 bits first x && ev ns rest x)
          rw [hsel.out x, E2.out x, X2.ev wf1 wf2 _ lt1, E1.out x, X1.ev wf wf1 _ hr]
          cases x first <;> rfl
        · exact Or.inr r5
      clear hp4
      have hp6 := hp5
      obtain ⟨ns3, _, _, _, _, ⟨f', rfl, _⟩ | ⟨rfl, _⟩⟩ := hp5
      · go_wp2_with fail
        go_ret2
        exact hp6
      · go_wp2_with fail
        go_ret2
        exact hp6
    · have fin : MkPost base a M vars most w ns 7 first (fun x => sel 3 bits first x && ev ns rest x) (.returned (.tuple #[.int .i64 0, .int .i64 6])) w3 :=
        ⟨ns2, A2, KK2, X1.trans X2, by omega, Or.inr ⟨rfl, full2⟩⟩
      clear d2 A2 K2 KK2
      go_wp2_with fail
      go_ret2
      exact fin
  · have fin : MkPost base a M vars most w ns 7 first (fun x => sel 3 bits first x && ev ns rest x) (.returned (.tuple #[.int .i64 0, .int .i64 6])) w2 :=
      ⟨ns1, A1, KK1, X1, by omega, Or.inr ⟨rfl, full1⟩⟩
    clear d1 A1 KK1
    go_wp2_with fail
    go_ret2
    exact fin

theorem low_16 (bits : Nat) (h : bits < 65536) : Go.bits .and .i64 (bits : Int) 255 = ((bits &&& 255 : Nat) : Int) := intBits_and bits 255 (by omega) (by decide)
theorem high_16 (bits : Nat) : (bits : Int) / (256 : Int) = ((bits >>> 8 : Nat) : Int) := by rw [Nat.shiftRight_eq_div_pow]; simp

set_option maxHeartbeats 4000000 in
set_option maxRecDepth 100000 in
theorem build_16 (h : Ar base a M vars most w ns) {bits first rest : Nat} (hbits : bits < 65536) (hv : first + 4 ≤ vars) (hr : rest < ns.length) (hf : first + 4 ≤ nv ns rest) :
    Calls Try.prog 69 #[st (bits : Int) 16, .pointer (some ⟨a, 0, none⟩), .int .i64 (first : Int), .int .i64 (rest : Int)] w (MkPost base a M vars most w ns 15 first fun x => sel 4 bits first x && ev ns rest x) := by
  have wf := h.wf
  have v16 := h.vars16
  have eL := low_16 bits hbits
  have eH := high_16 bits
  have hlo : bits &&& 255 < 256 := Nat.lt_of_le_of_lt Nat.and_le_right (by decide)
  have hhi : bits >>> 8 < 256 := by rw [Nat.shiftRight_eq_div_pow]; omega
  have hsel : Go.RowKit.Hid (∀ x, sel 4 bits first x = if x first then sel 3 (bits >>> 8) (first + 1) x else sel 3 (bits &&& 255) (first + 1) x) := fun x => rfl
  generalize bits &&& 255 = lo at *
  generalize bits >>> 8 = hi at *
  have L0 := h.loc #[.int .i64 (bits : Int), .int .i64 16] 99
  have A0 := h.alloc (.cells #[.int .i64 (bits : Int), .int .i64 16] 99)
  have K0 := Ar.kalloc' h (.cells #[.int .i64 (bits : Int), .int .i64 16] 99)
  obtain ⟨c0, c1⟩ := L0.two
  have hcast : ((first + 1 : Nat) : Int) = (first : Int) + 1 := by omega
  have IL : Go.RowKit.Hid (∀ (w' : World) (ns' : List Nd), Ar base a M vars most w' ns' → rest < ns'.length → first + 1 + 3 ≤ nv ns' rest → Calls Try.prog 69 #[st (lo : Int) 8, .pointer (some ⟨a, 0, none⟩), .int .i64 ((first : Int) + 1), .int .i64 (rest : Int)] w' (MkPost base a M vars most w' ns' 7 (first + 1) fun x => sel 3 lo (first + 1) x && ev ns' rest x)) := fun w' ns' hA hr hn => by
    have := build_8 hA (first := first + 1) hlo (by omega) hr (by omega)
    rw [hcast] at this
    exact this
  have IH : Go.RowKit.Hid (∀ (w' : World) (ns' : List Nd), Ar base a M vars most w' ns' → rest < ns'.length → first + 1 + 3 ≤ nv ns' rest → Calls Try.prog 69 #[st (hi : Int) 8, .pointer (some ⟨a, 0, none⟩), .int .i64 ((first : Int) + 1), .int .i64 (rest : Int)] w' (MkPost base a M vars most w' ns' 7 (first + 1) fun x => sel 3 hi (first + 1) x && ev ns' rest x)) := fun w' ns' hA hr hn => by
    have := build_8 hA (first := first + 1) hhi (by omega) hr (by omega)
    rw [hcast] at this
    exact this
  clear hcast
  have hwm : Go.RowKit.Hid (IntKind.i64.wrap (IntKind.i64.wrap 256 - 1) = 255) := by
    show _ = _
    rw [IntWalk.i64_in 256 (by omega), IntWalk.i64_in _ (by omega)]
    rfl
  have hwr : IntKind.i64.wrap ((first : Int) + 1) = (first : Int) + 1 := IntWalk.i64_in _ (by omega)
  have A0d := A0.drew'
  have L0d := L0.drew
  have K0d := K0.drew
  go_enter Try.func69, Try.ntmps69
  go_wp2_with fail
  go_region_held3 (fun w' => w'.cell? ⟨w.heap.size, 0, none⟩ = some (.int .i64 (bits : Int)) ∧ w'.cell? ⟨w.heap.size, 1, none⟩ = some (.int .i64 16))
    (exact Loc.two (by assumption))
    (first | (go_at_call 69; rw [hwm.out, eL]; refine (IL.out _ ns (by assumption) hr (by omega)).mono ?_; rintro e w2 hp2; obtain ⟨ns1, v1, er1, rfl, A1, K1, X1, l1, d1⟩ := hp2.pair; have L1 := L0d.kp K1; clear hp2))
  have wf1 := A1.wf
  have KK1 := K0d.trans K1
  obtain ⟨q0, q1⟩ := L1.two
  have hr1 : rest < ns1.length := Nat.lt_of_lt_of_le hr X1.len
  have hn1 : first + 1 + 3 ≤ nv ns1 rest := by rw [X1.va hr]; omega
  clear A0 K0 L0 c0 c1 A0d K0d L0d K1
  rcases d1.out with ⟨rfl, f1, rfl, lt1, va1, ev1'⟩ | ⟨rfl, rfl, full1⟩
  · have E1 : Go.RowKit.Hid (∀ x, ev ns1 f1 x = (sel 3 lo (first + 1) x && ev ns rest x)) := ev1'
    clear ev1' d1
    go_wp2_with fail
    refine (IH.out _ ns1 A1 hr1 hn1).mono ?_
    rintro e w3 hp3
    obtain ⟨ns2, v2, er2, rfl, A2, K2, X2, l2, d2⟩ := hp3.pair
    clear hp3
    have wf2 := A2.wf
    have KK2 := KK1.trans K2
    rcases d2.out with ⟨rfl, f2, rfl, lt2, va2, ev2'⟩ | ⟨rfl, rfl, full2⟩
    · have E2 : Go.RowKit.Hid (∀ x, ev ns2 f2 x = (sel 3 hi (first + 1) x && ev ns1 rest x)) := ev2'
      have lt1' : f1 < ns2.length := Nat.lt_of_lt_of_le lt1 X2.len
      have va1' : first < nv ns2 f1 := by rw [X2.va lt1]; omega
      have va2' : first < nv ns2 f2 := by omega
      clear ev2' d2 q0 q1 L1
      go_wp2_with fail
      refine (node_ok A2 (i := first) (lo := f1) (up := f2) (by omega) lt1' lt2 va1' va2').mono ?_
      rintro e w4 hp4
      have hp5 : MkPost base a M vars most w ns 15 first (fun x => sel 4 bits first x && ev ns rest x) e w4 := by
        obtain ⟨ns3, r1, r2, r3, r4, r5⟩ := hp4
        refine ⟨ns3, r1, KK2.trans r2, (X1.trans X2).trans r3, by omega, ?_⟩
        rcases r5 with ⟨f, e1, e2, e3, e4⟩ | r5
        · refine Or.inl ⟨f, e1, e2, e3, fun x => ?_⟩
          rw [e4 x]
          show (if x first = true then ev ns2 f2 x else ev ns2 f1 x) = (sel 4 bits first x && ev ns rest x)
          rw [hsel.out x, E2.out x, X2.ev wf1 wf2 _ lt1, E1.out x, X1.ev wf wf1 _ hr]
          cases x first <;> rfl
        · exact Or.inr r5
      clear hp4
      have hp6 := hp5
      obtain ⟨ns3, _, _, _, _, ⟨f', rfl, _⟩ | ⟨rfl, _⟩⟩ := hp5
      · go_wp2_with fail
        go_ret2
        exact hp6
      · go_wp2_with fail
        go_ret2
        exact hp6
    · have fin : MkPost base a M vars most w ns 15 first (fun x => sel 4 bits first x && ev ns rest x) (.returned (.tuple #[.int .i64 0, .int .i64 6])) w3 :=
        ⟨ns2, A2, KK2, X1.trans X2, by omega, Or.inr ⟨rfl, full2⟩⟩
      clear d2 A2 K2 KK2
      go_wp2_with fail
      go_ret2
      exact fin
  · have fin : MkPost base a M vars most w ns 15 first (fun x => sel 4 bits first x && ev ns rest x) (.returned (.tuple #[.int .i64 0, .int .i64 6])) w2 :=
      ⟨ns1, A1, KK1, X1, by omega, Or.inr ⟨rfl, full1⟩⟩
    clear d1 A1 KK1
    go_wp2_with fail
    go_ret2
    exact fin

end
end Go.Proofs.Ytgcimcpcnoojnaa


