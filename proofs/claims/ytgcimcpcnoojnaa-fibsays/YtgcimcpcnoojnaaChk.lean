/-
  fib.Check.
-/
import Derived.Test.YtgcimcpcnoojnaaOut
namespace Go.Proofs.Ytgcimcpcnoojnaa
open Go.RowKit

set_option maxHeartbeats 1000000 in
theorem same_any (r s : Rt) (w : World) : Calls Try.prog 83 #[rtw r.v r.b r.p, rtw s.v s.b s.p] w fun e w' => e = .returned (.bool (sameA r s)) ∧ Below w.heap.size w w' := by
  obtain ⟨v, b, p⟩ := r
  obtain ⟨v', b', p'⟩ := s
  unfold sameA
  simp only
  cases h : (v == v')
  · go_enter Try.func83, Try.ntmps83
    go_wp2_with fail
    go_ret
    exact ⟨by simp, by go_grown⟩
  · go_enter Try.func83, Try.ntmps83
    go_wp2_with fail
    go_ret
    exact ⟨by simp, by go_grown⟩

set_option maxHeartbeats 1000000 in
theorem pred_any (a r : Rt) (n0 : Nat) (w : World) (hT : Three w n0 (.int .i64 r.v) (.int .i64 r.b) (.int .i64 r.p)) :
    Calls Try.prog 82 #[rtw a.v a.b a.p, .pointer (some ⟨n0, 0, none⟩)] w fun e w' => e = .returned (.bool (sameA a r)) ∧ Below w.heap.size w w' := by
  have D0 := Below.al (Below.refl w.heap.size w) (.cells #[.int .i64 a.v, .int .i64 a.b, .int .i64 a.p] 109)
  have T1 := allocThree hT (.cells #[.int .i64 a.v, .int .i64 a.b, .int .i64 a.p] 109)
  obtain ⟨l0, g0, g1, g2⟩ := T1
  obtain ⟨_, q0, q1, q2⟩ := id hT
  have SM : Hid (∀ w, Calls Try.prog 83 #[rtw a.v a.b a.p, rtw r.v r.b r.p] w fun e w' => e = .returned (.bool (sameA a r)) ∧ Below w.heap.size w w') := fun w => same_any a r w
  have hn := hT.1
  clear hT
  generalize sameA a r = x at *
  generalize a.v = av at *
  generalize a.b = ab at *
  generalize a.p = ap at *
  generalize r.v = rv at *
  generalize r.b = rb at *
  generalize r.p = rp at *
  go_enter Try.func82, Try.ntmps82
  go_wp2_with fail
  refine (SM.out _).mono ?_
  rintro e w1 ⟨rfl, hb1⟩
  have D1 := chn hb1 D0
  clear D0 hb1 g0 g1 g2 q0 q1 q2 SM
  go_wp2_with fail
  go_ret
  exact ⟨rfl, D1⟩

theorem any_take {xs : List Rt} {k : Nat} {a r : Rt} (h : xs[k]? = some a) : (xs.take (k + 1)).any (fun a => sameA a r) = ((xs.take k).any (fun a => sameA a r) || sameA a r) := by
  obtain ⟨hk, e⟩ := List.getElem?_eq_some_iff.1 h
  rw [List.take_succ_eq_append_getElem hk, e]
  simp
theorem any_here {xs : List Rt} {k : Nat} {a r : Rt} (h : xs[k]? = some a) (hs : sameA a r = true) : xs.any (fun a => sameA a r) = true :=
  List.any_eq_true.2 ⟨a, List.mem_of_getElem? h, hs⟩

set_option maxHeartbeats 4000000 in
set_option maxRecDepth 100000 in
theorem indexFunc_row (b o cap n0 : Nat) (xs : List Rt) (r : Rt) (w : World) (hb : b < w.heap.size) (hn : xs.length ≤ cap) (hcap : cap ≤ maxLen) (hr : Hid (TAt w b o xs)) (hT : Hid (Three w n0 (.int .i64 r.v) (.int .i64 r.b) (.int .i64 r.p))) :
    Calls Try.prog 101 #[.slice (some ⟨b, o, none⟩) xs.length cap, .func (.func 82) #[] #[.pointer (some ⟨n0, 0, none⟩)]] w fun e w' => ∃ j : Int, e = .returned (.int .i64 j) ∧ Hid (decide (0 ≤ j) = xs.any (fun a => sameA a r)) ∧ Below w.heap.size w w' := by
  unfold maxLen at hcap
  go_enter Try.func101, Try.ntmps101
  go_wp2_with fail
  go_loopw [8] (fun i wr => ∃ k : Nat, i = .int .i64 (k : Int) ∧ k ≤ xs.length ∧ Below w.heap.size w wr ∧ Hid ((xs.take k).any (fun a => sameA a r) = false)) (fun i _ => xs.length - (intOf i).toNat)
  case atStart => exact ⟨0, rfl, by omega, Below.refl _ _, rfl⟩
  case round =>
    obtain ⟨k, rfl, hk, D1, hno⟩ := hrel
    by_cases hlt : k < xs.length
    · obtain ⟨a, hxk⟩ : ∃ a, xs[k]? = some a := ⟨_, List.getElem?_eq_getElem hlt⟩
      obtain ⟨c0, c1, c2⟩ := (hr.out.below D1 hb).at hxk
      have PR : Hid (Calls Try.prog 82 #[rtw a.v a.b a.p, .pointer (some ⟨n0, 0, none⟩)] wr fun e w' => e = .returned (.bool (sameA a r)) ∧ Below wr.heap.size wr w') := pred_any a r n0 wr (keepThree D1 hT.out.1 hT.out)
      have HX : Hid (xs[k]? = some a) := hxk
      clear hr hxk
      cases hv : sameA a r
      · rw [hv] at PR
        have HV : Hid ((xs.take (k + 1)).any (fun a => sameA a r) = false) := by show _ = _; rw [any_take HX.out, hno.out, hv]; rfl
        clear hv hno HX hT
        generalize a.v = av at *
        generalize a.b = ab at *
        generalize a.p = ap at *
        go_wp2_with fail
        refine PR.out.mono ?_
        rintro e w2 ⟨rfl, hb2⟩
        have D2 := chn hb2 D1
        clear hb2 D1 c0 c1 c2 PR
        go_wp2_with fail
        go_roundw
        case rel => exact ⟨k + 1, by go_num, by omega, D2, HV⟩
        case measure => simp [intOf]; omega
      · rw [hv] at PR
        have fin : Hid (xs.any (fun a => sameA a r) = true) := any_here HX.out hv
        clear hv hno HX hT
        generalize a.v = av at *
        generalize a.b = ab at *
        generalize a.p = ap at *
        go_wp2_with fail
        refine PR.out.mono ?_
        rintro e w2 ⟨rfl, hb2⟩
        have D2 := chn hb2 D1
        clear hb2 D1 c0 c1 c2 PR
        go_wp2_with fail
        go_ret
        exact ⟨_, rfl, (by show _ = _; rw [fin.out]; simp), D2⟩
    · obtain rfl : k = xs.length := by omega
      have fin : Hid (xs.any (fun a => sameA a r) = false) := by
        have := hno.out
        rw [List.take_length] at this
        exact this
      go_wp2_with fail
      go_ret
      exact ⟨_, rfl, (by show _ = _; rw [fin.out]; simp), D1⟩
set_option maxHeartbeats 1000000 in
theorem indexFunc_none (A : Option Addr) (cap : Nat) (f : Value) (w : World) :
    Calls Try.prog 101 #[.slice A 0 cap, f] w fun e w' => ∃ j : Int, e = .returned (.int .i64 j) ∧ Hid (decide (0 ≤ j) = false) ∧ Below w.heap.size w w' := by
  go_enter Try.func101, Try.ntmps101
  go_wp2_with fail
  go_loopw [8] (fun i wr => i = .int .i64 0 ∧ Below w.heap.size w wr) (fun i _ => 0)
  case atStart => exact ⟨rfl, Below.refl _ _⟩
  case round =>
    obtain ⟨rfl, D1⟩ := hrel
    go_wp2_with fail
    go_ret
    exact ⟨_, rfl, (by show _ = _; decide), D1⟩
set_option maxHeartbeats 1000000 in
/-- Is there one alike? -/
theorem contains_any (b o cap n0 : Nat) (xs : List Rt) (r : Rt) (w : World) (hb : b < w.heap.size) (hn : xs.length ≤ cap) (hcap : cap ≤ maxLen) (hr : Hid (TAt w b o xs)) (hT : Hid (Three w n0 (.int .i64 r.v) (.int .i64 r.b) (.int .i64 r.p))) :
    Calls Try.prog 81 #[.slice (some ⟨b, o, none⟩) xs.length cap, .func (.func 82) #[] #[.pointer (some ⟨n0, 0, none⟩)]] w fun e w' => e = .returned (.bool (xs.any (fun a => sameA a r))) ∧ Below w.heap.size w w' := by
  have IX : Hid (Calls Try.prog 101 #[.slice (some ⟨b, o, none⟩) xs.length cap, .func (.func 82) #[] #[.pointer (some ⟨n0, 0, none⟩)]] w fun e w' => ∃ j : Int, e = .returned (.int .i64 j) ∧ Hid (decide (0 ≤ j) = xs.any (fun a => sameA a r)) ∧ Below w.heap.size w w') := indexFunc_row b o cap n0 xs r w hb hn hcap hr hT
  clear hr hT hn hcap hb
  generalize xs.any (fun a => sameA a r) = x at *
  generalize xs.length = n at *
  go_enter Try.func81, Try.ntmps81
  go_wp2_with fail
  refine IX.out.mono ?_
  rintro e w2 ⟨j, rfl, hj, hb2⟩
  clear IX
  go_wp2_with fail
  go_ret
  exact ⟨by rw [hj.out]; rfl, hb2⟩

set_option maxHeartbeats 4000000 in
set_option maxRecDepth 100000 in
theorem check_row (b o cap : Nat) (xs : List Rt) (w : World) (hb : b < w.heap.size) (hn : xs.length ≤ cap) (hcap : cap ≤ maxLen) (hr : Hid (TAt w b o xs)) (h8 : xs.length ≤ 8) :
    Calls Try.prog 35 #[.slice (some ⟨b, o, none⟩) xs.length cap] w fun e w' => e = .returned (.int .i64 (checkFrom xs 0)) ∧ Below w.heap.size w w' := by
  have hcap' := hcap
  unfold maxLen at hcap
  have t8 : decide ((8 : Int) < (xs.length : Int)) = false := by simp; omega
  go_enter Try.func35, Try.ntmps35
  go_wp2_with fail
  go_loopw [10] (fun i wr => ∃ k : Nat, i = .int .i64 (k : Int) ∧ k ≤ xs.length ∧ Below w.heap.size w wr ∧ Hid (checkFrom xs 0 = checkFrom xs k)) (fun i _ => xs.length - (intOf i).toNat)
  case atStart => exact ⟨0, rfl, by omega, Below.refl _ _, rfl⟩
  case round =>
    obtain ⟨k, rfl, hk, D1, hl⟩ := hrel
    by_cases hlt : k < xs.length
    · obtain ⟨r, hxk⟩ : ∃ r, xs[k]? = some r := ⟨_, List.getElem?_eq_getElem hlt⟩
      obtain ⟨c0, c1, c2⟩ := (hr.out.below D1 hb).at hxk
      have hlen : (xs.take k).length = k := by rw [List.length_take]; omega
      have Hd : Hid (checkFrom xs k = if (if isR r then (if (xs.take k).any (fun a => sameA a r) then 5 else 0) else 1 : Int) = 0 then checkFrom xs (k + 1) else (if isR r then (if (xs.take k).any (fun a => sameA a r) then 5 else 0) else 1 : Int)) := checkFrom_at hxk
      have IS : Hid (∀ w, Calls Try.prog 78 #[rtw r.v r.b r.p] w fun e w' => e = .returned (.bool (isR r)) ∧ Below w.heap.size w w') := fun w => isRoute_any r w
      have CO : Hid (∀ w', Below w.heap.size w w' → Three w' wr.heap.size (.int .i64 r.v) (.int .i64 r.b) (.int .i64 r.p) → Calls Try.prog 81 #[.slice (some ⟨b, o, none⟩) k cap, .func (.func 82) #[] #[.pointer (some ⟨wr.heap.size, 0, none⟩)]] w' fun e w'' => e = .returned (.bool ((xs.take k).any (fun a => sameA a r))) ∧ Below w'.heap.size w' w'') := fun w' hw hT => by
        have := contains_any b o cap wr.heap.size (xs.take k) r w' (Nat.lt_of_lt_of_le hb hw.size) (by omega) hcap' ((hr.out.below hw hb).take k) hT
        rw [hlen] at this
        exact this
      have D2 := Below.al D1 (.cells #[.int .i64 r.v, .int .i64 r.b, .int .i64 r.p] 109)
      have T2 := three_new wr (.int .i64 r.v) (.int .i64 r.b) (.int .i64 r.p) 109
      have lw := D1.size
      clear hxk D1 hr hlen hcap'
      generalize isR r = x at *
      generalize (xs.take k).any (fun a => sameA a r) = y at *
      generalize r.v = rv0 at *
      generalize r.b = rb0 at *
      generalize r.p = rp0 at *
      go_wp2_with fail
      refine (IS.out _).mono ?_
      rintro e w3 ⟨rfl, hb3⟩
      have D3 := chn hb3 D2
      have T3 := keepThree hb3 (by simp) T2
      clear hb3 D2 T2 c0 c1 c2 IS
      cases x
      · go_wp2_with fail
        go_ret
        exact ⟨by rw [hl.out, Hd.out]; simp, D3⟩
      · go_wp2_with fail
        refine (CO.out _ D3 T3).mono ?_
        rintro e w4 ⟨rfl, hb4⟩
        have D4 := chn hb4 D3
        clear hb4 D3 T3 CO
        cases y
        · go_wp2_with fail
          go_roundw
          case rel => exact ⟨k + 1, by go_num, by omega, D4, by show _ = _; rw [hl.out, Hd.out]; simp⟩
          case measure => simp [intOf]; omega
        · go_wp2_with fail
          go_ret
          exact ⟨by rw [hl.out, Hd.out]; simp, D4⟩
    · have fin : Hid (checkFrom xs 0 = 0) := by show _ = _; rw [hl.out, checkFrom_end (by omega)]
      go_wp2_with fail
      go_ret
      exact ⟨by rw [fin.out]; rfl, D1⟩
set_option maxHeartbeats 1000000 in
theorem check_none (A : Option Addr) (cap : Nat) (w : World) :
    Calls Try.prog 35 #[.slice A 0 cap] w fun e w' => e = .returned (.int .i64 0) ∧ Below w.heap.size w w' := by
  go_enter Try.func35, Try.ntmps35
  go_wp2_with fail
  go_loopw [10] (fun i wr => i = .int .i64 0 ∧ Below w.heap.size w wr) (fun i _ => 0)
  case atStart => exact ⟨rfl, Below.refl _ _⟩
  case round =>
    obtain ⟨rfl, D1⟩ := hrel
    go_wp2_with fail
    go_ret
    exact ⟨rfl, D1⟩
theorem check_large (A : Option Addr) (n cap : Nat) (w : World) (h : 8 < n) :
    Calls Try.prog 35 #[.slice A n cap] w fun e w' => e = .returned (.int .i64 2) ∧ Below w.heap.size w w' := by
  have t8 : decide ((8 : Int) < (n : Int)) = true := by simp; omega
  go_enter Try.func35, Try.ntmps35
  go_wp2_with fail
  go_ret
  exact ⟨rfl, Below.refl _ _⟩

/-- Check. -/
theorem check_any {v : Value} {xs : List Rt} (w : World) (h : Routes w.heap.size w v xs) :
    Calls Try.prog 35 #[v] w fun e w' => e = .returned (.int .i64 (checkV xs)) ∧ Below w.heap.size w w' := by
  obtain ⟨A, cap, rfl, _, h1, h2, h3⟩ := h
  unfold checkV
  by_cases h8 : 8 < xs.length
  · rw [if_pos h8]
    exact check_large A xs.length cap w h8
  · rw [if_neg h8]
    by_cases hx : xs = []
    · subst hx
      rw [checkFrom_end (by simp)]
      exact check_none A cap w
    · obtain ⟨b, o, rfl, hb, hr⟩ := h3 hx
      exact check_row b o cap xs w hb h1 h2 hr (by omega)
theorem checkV_len {xs : List Rt} (h : checkV xs = 0) : xs.length ≤ 8 := by
  unfold checkV at h
  split at h
  · simp at h
  · omega
end Go.Proofs.Ytgcimcpcnoojnaa


