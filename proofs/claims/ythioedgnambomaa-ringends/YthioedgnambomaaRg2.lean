/-
  Lists of places: slices.Contains, slices.Equal.
-/
import Derived.Test.YthioedgnambomaaRg0
namespace Go.Proofs.Ythioedgnambomaa
open Go.RowKit Go.Maps

abbrev Plc := Int × Int
abbrev plC (x : Plc) : List Value := [.int .i64 x.1, .int .i64 x.2]
def IsPlc (cs : List Value) (x : Plc) : Prop := cs = plC x
theorem plC_one (x : Plc) : ∀ u ∈ plC x, u.oneCell' = true := by
  intro u hu
  simp only [plC, List.mem_cons, List.not_mem_nil, or_false] at hu
  rcases hu with rfl | rfl <;> rfl
theorem flatP_at : ∀ (ar : List Plc) (k : Nat) (x : Plc), ar[k]? = some x → (((ar.flatMap plC).drop (k * 2)).take 2) = plC x
  | [], k, x, h => by simp at h
  | y :: ys, 0, x, h => by
    obtain rfl := Option.some.inj h
    rfl
  | y :: ys, k + 1, x, h => by
    have e : ((y :: ys).flatMap plC).drop ((k + 1) * 2) = (ys.flatMap plC).drop (k * 2) := by
      rw [List.flatMap_cons, show (k + 1) * 2 = (plC y).length + k * 2 by show (k + 1) * 2 = 2 + k * 2; omega, List.drop_append]
      simp
    rw [e]
    exact flatP_at ys k x (by simpa using h)
theorem uPls : Try.prog.underlying 45 = some (.slice 27) := by kernel_rfl
theorem infoPl : (Try.prog.info? 27).map (fun i => (i.zero, i.size, i.bytes)) = some (some (.agg #[.int .i64 0, .int .i64 0]), 2, 16) := by kernel_rfl
theorem SlAt.plc {base : Nat} {w : World} {A : Option Addr} {c : Nat} {xs : List Plc} (h : SlAt base w 2 IsPlc (.slice A xs.length c) xs) {k : Nat} {x : Plc} (hx : xs[k]? = some x) : ∃ b o, A = some ⟨b, o, none⟩ ∧ w.cell? ⟨b, o + k * 2, none⟩ = some (.int .i64 x.1) ∧ w.cell? ⟨b, o + k * 2 + 1, none⟩ = some (.int .i64 x.2) := by
  obtain ⟨A', c', e, h0, h1, h2, h3⟩ := h
  cases e
  obtain ⟨b, o, ea, hl, hr⟩ := h3 (fun e => by rw [e] at hx; cases hx)
  obtain ⟨cs, _, hc, c3⟩ := hr k x hx
  unfold IsPlc at hc
  subst hc
  exact ⟨b, o, ea, c3 0 _ rfl, c3 1 _ rfl⟩
def plB (a b : Plc) : Bool := (a.1 == b.1) && (a.2 == b.2)
theorem plB_iff {a b : Plc} : plB a b = true ↔ a = b := by
  obtain ⟨i, q⟩ := a
  obtain ⟨i', q'⟩ := b
  unfold plB
  simp
theorem plB_comm (a b : Plc) : plB a b = plB b a := by
  rw [Bool.eq_iff_iff, plB_iff, plB_iff]
  exact eq_comm
theorem any_plB (ar : List Plc) (f : Plc) : ar.any (fun x => plB x f) = decide (f ∈ ar) := by
  rw [Bool.eq_iff_iff, List.any_eq_true, decide_eq_true_iff]
  constructor
  · rintro ⟨x, hx, h⟩
    rw [← plB_iff.1 h]
    exact hx
  · intro h
    exact ⟨f, h, plB_iff.2 rfl⟩
theorem any_takeP {ar : List Plc} {k : Nat} {x : Plc} {p : Plc → Bool} (h : ar[k]? = some x) : (ar.take (k + 1)).any p = ((ar.take k).any p || p x) := by
  rw [List.take_add_one, h]
  simp
theorem pl_eq (a b : Plc) (w : World) : (binOp .eql 27 (.agg #[.int .i64 a.1, .int .i64 a.2]) (.agg #[.int .i64 b.1, .int .i64 b.2])).run Try.prog w = .ok (.bool (plB a b)) w := by
  obtain ⟨i, s⟩ := a
  obtain ⟨i', s'⟩ := b
  unfold plB
  cases h0 : (i == i') <;> cases h1 : (s == s')
  all_goals simp [go_sem, Try.underlying27, Try.underlying3, h0, h1]
theorem pl_ne_same (x y : Int) (w : World) : (binOp .neq 27 (.agg #[.int .i64 x, .int .i64 y]) (.agg #[.int .i64 x, .int .i64 y])).run Try.prog w = .ok (.bool false) w := by
  simp [go_sem, Try.underlying27, Try.underlying3]
set_option maxHeartbeats 4000000 in
set_option maxRecDepth 100000 in
theorem index_pl (A : Option Addr) (cap : Nat) (FL : List Plc) (f : Plc) (base : Nat) (w : World) (hb0 : base ≤ w.heap.size) (hL : Hid (SlAt base w 2 IsPlc (.slice A FL.length cap) FL)) :
    Calls Try.prog 20 #[.slice A FL.length cap, .agg #[.int .i64 f.1, .int .i64 f.2]] w fun e w' => ∃ j : Int, e = .returned (.int .i64 j) ∧ Hid (decide (0 ≤ j) = FL.any (fun x => plB f x)) ∧ Below w.heap.size w w' := by
  have hm : FL.length ≤ maxLen := by obtain ⟨_, _, e, _, a, b, _⟩ := hL.out; cases e; omega
  unfold maxLen at hm
  have X1 := bk_new w #[.int .i64 f.1, .int .i64 f.2] 27
  have D0 := Below.alN (Below.refl w.heap.size w) (.cells #[.int .i64 f.1, .int .i64 f.2] 27)
  go_enter Try.func20, Try.ntmps20
  go_wp2_with fail
  have X1' : Hid (Bk (w.alloc (.cells #[.int .i64 f.1, .int .i64 f.2] 27)) w.heap.size #[.int .i64 f.1, .int .i64 f.2] 27) := X1
  clear X1
  go_loopw [8] (fun i wr => ∃ k : Nat, i = .int .i64 (k : Int) ∧ k ≤ FL.length ∧ Below w.heap.size w wr ∧ Bk wr w.heap.size #[.int .i64 f.1, .int .i64 f.2] 27 ∧ Hid ((FL.take k).any (fun x => plB f x) = false)) (fun i _ => FL.length - (intOf i).toNat)
  case atStart => exact ⟨0, rfl, by omega, D0, X1'.out, rfl⟩
  case round =>
    clear D0 X1'
    obtain ⟨k, rfl, hk, D1, Y1, hno⟩ := hrel
    by_cases hlt : k < FL.length
    · obtain ⟨x, hxk⟩ : ∃ x, FL[k]? = some x := ⟨_, List.getElem?_eq_getElem hlt⟩
      obtain ⟨b, o, rfl, c0, d1⟩ := (SlAt.below hL.out (D1.mono hb0) (fun _ _ _ h => h)).plc hxk
      obtain ⟨y0, y1⟩ := Y1.two
      have FE := fun w => pl_eq f x w
      have HX : Hid (FL[k]? = some x) := hxk
      have k1 : (0 : Int) ≤ (k : Int) := by omega
      have k2 : (k : Int) < (FL.length : Int) := by omega
      have D2 := D1.drew
      have Y2 := Y1.drew
      clear hL hxk
      cases hv : plB f x
      · rw [hv] at FE
        have HV : Hid ((FL.take (k + 1)).any (fun x => plB f x) = false) := by show _ = _; rw [any_takeP HX.out, hno.out, hv]; rfl
        clear hv hno HX
        obtain ⟨fi, fs⟩ := f
        obtain ⟨xi, xs⟩ := x
        dsimp only at *
        go_wp2_with fail
        go_region
        all_goals
          go_wp2_with fail
          go_roundw
          case rel => exact ⟨k + 1, by go_num, by omega, by first | exact D2 | exact D1, by first | exact Y2 | exact Y1, HV⟩
          case measure => simp [intOf]; omega
      · rw [hv] at FE
        have fin : Hid (FL.any (fun x => plB f x) = true) := List.any_eq_true.2 ⟨x, List.mem_of_getElem? HX.out, hv⟩
        clear hv hno HX
        obtain ⟨fi, fs⟩ := f
        obtain ⟨xi, xs⟩ := x
        dsimp only at *
        go_wp2_with fail
        go_region
        all_goals
          go_wp2_with fail
          go_ret
          exact ⟨_, rfl, (by show _ = _; rw [fin.out]; simp), by first | exact D2 | exact D1⟩
    · have fin : Hid (FL.any (fun x => plB f x) = false) := by
        have := hno.out
        rw [show k = FL.length by omega, List.take_length] at this
        exact this
      go_wp2_with fail
      go_ret
      exact ⟨_, rfl, (by show _ = _; rw [fin.out]; simp), D1⟩
set_option maxHeartbeats 2000000 in
set_option maxRecDepth 100000 in
theorem contains_pl (A : Option Addr) (cap : Nat) (FL : List Plc) (f : Plc) (base : Nat) (w : World) (hb0 : base ≤ w.heap.size) (hL : Hid (SlAt base w 2 IsPlc (.slice A FL.length cap) FL)) :
    Calls Try.prog 10 #[.slice A FL.length cap, .agg #[.int .i64 f.1, .int .i64 f.2]] w fun e w' => e = .returned (.bool (decide (f ∈ FL))) ∧ Below w.heap.size w w' := by
  have X1 := bk_new w #[.int .i64 f.1, .int .i64 f.2] 27
  have D1 := Below.alN (Below.refl w.heap.size w) (.cells #[.int .i64 f.1, .int .i64 f.2] 27)
  have IX : Hid (∀ W, Below w.heap.size w W → Calls Try.prog 20 #[.slice A FL.length cap, .agg #[.int .i64 f.1, .int .i64 f.2]] W fun e w' => ∃ j : Int, e = .returned (.int .i64 j) ∧ Hid (decide (0 ≤ j) = decide (f ∈ FL)) ∧ Below W.heap.size W w') := fun W h => (index_pl A cap FL f base W (Nat.le_trans hb0 h.size) (SlAt.below hL.out (h.mono hb0) (fun _ _ _ h => h))).mono fun e w' ⟨j, h1, h2, h3⟩ => ⟨j, h1, by
    show _ = _
    rw [h2.out, ← any_plB]
    congr 1
    funext x
    exact plB_comm f x, h3⟩
  obtain ⟨x0, x1⟩ := X1.two
  obtain ⟨fi, fs⟩ := f
  generalize decide ((fi, fs) ∈ FL) = r at *
  dsimp only at *
  clear hL X1
  go_enter Try.func10, Try.ntmps10
  go_wp2_with fail
  with_reducible refine (IX.out _ D1).mono ?_
  rintro e w2 ⟨j, rfl, hj, hb2⟩
  have D2 := chnN hb2 D1
  go_wp2_with fail
  go_ret
  exact ⟨by rw [← hj.out]; first | rfl | simp, D2⟩
set_option maxHeartbeats 4000000 in
set_option maxRecDepth 100000 in
theorem equal_pls (A1 A2 : Option Addr) (c1 c2 : Nat) (xs : List Plc) (base : Nat) (w : World) (h1 : Hid (SlAt base w 2 IsPlc (.slice A1 xs.length c1) xs)) (h2 : Hid (SlAt base w 2 IsPlc (.slice A2 xs.length c2) xs)) :
    Calls Try.prog 7 #[.slice A1 xs.length c1, .slice A2 xs.length c2] w fun e w' => e = .returned (.bool true) ∧ Below w.heap.size w w' := by
  have l1 : xs.length ≤ maxLen := by obtain ⟨_, _, e, _, a, b, _⟩ := h1.out; cases e; omega
  unfold maxLen at l1
  have D0 := Below.refl w.heap.size w
  go_enter Try.func7, Try.ntmps7
  go_wp2_with fail
  go_loopw [13] (fun i wr => ∃ k : Nat, i = .int .i64 (k : Int) ∧ k ≤ xs.length ∧ wr.heap = w.heap ∧ Below w.heap.size w wr) (fun i _ => xs.length - (intOf i).toNat)
  case atStart => exact ⟨0, rfl, by omega, rfl, D0⟩
  case round =>
    obtain ⟨k, rfl, hk, hw, D1⟩ := hrel
    by_cases hlt : k < xs.length
    · obtain ⟨x, hx⟩ : ∃ x, xs[k]? = some x := ⟨_, List.getElem?_eq_getElem hlt⟩
      have hc : ∀ a, wr.cell? a = w.cell? a := fun a => by unfold World.cell?; rw [hw]
      obtain ⟨b, o, rfl, a0, a1⟩ := h1.out.plc hx
      obtain ⟨b', o', rfl, e0, e1⟩ := h2.out.plc hx
      rw [← hc] at a0 a1 e0 e1
      have ANE := fun w => pl_ne_same x.1 x.2 w
      have k1 : (0 : Int) ≤ (k : Int) := by omega
      have k2 : (k : Int) < (xs.length : Int) := by omega
      obtain ⟨i, q⟩ := x
      dsimp only at *
      clear hc hx
      have D2 := D1.drew
      have hw2 : wr.drew.heap = w.heap := hw
      go_wp2_with fail
      go_region
      all_goals
        go_wp2_with fail
        go_roundw
        case rel => exact ⟨k + 1, by go_num, by omega, by first | exact hw2 | exact hw, by first | exact D2 | exact D1⟩
        case measure => simp [intOf]; omega
    · go_wp2_with fail
      go_ret
      exact ⟨rfl, D1⟩
end Go.Proofs.Ythioedgnambomaa
