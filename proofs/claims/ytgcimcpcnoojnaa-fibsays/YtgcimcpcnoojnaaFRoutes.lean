/-
  The document's answer on routes: Out of any list, Routes.
-/
import Derived.Test.YtgcimcpcnoojnaaFRef
namespace Go.Proofs.Ytgcimcpcnoojnaa
open Go.RowKit

set_option maxHeartbeats 2000000 in
theorem rout_nil (A : Option Addr) (cap : Nat) (d : Int) (w : World) (h0 : 0 ≤ d) (h1 : d < 16) :
    Calls Try.prog 34 #[.slice A 0 cap, .int .i64 d] w fun e w' => e = .returned (.tuple #[.int .i64 0, .bool false]) ∧ Below w.heap.size w w' := by
  have IN : Hid (∀ w, Calls Try.prog 10 #[.int .i64 d, .int .i64 0, .int .i64 15] w fun e w' => e = .returned (.bool true) ∧ w' = w) := fun w => by
    have := finR d 0 15 w
    rw [show (decide (0 ≤ d) && decide (d ≤ 15)) = true by simp; omega] at this
    exact this
  clear h0 h1
  go_enter Try.func34, Try.ntmps34
  go_wp2_with fail
  go_loopw [6] (fun i wr => ∃ j : Int, i = .int .i64 j ∧ -1 ≤ j ∧ j ≤ 4 ∧ Below w.heap.size w wr) (fun i _ => (intOf i + 1).toNat)
  case atStart => exact ⟨4, rfl, by omega, by omega, Below.refl _ _⟩
  case round =>
    obtain ⟨j, rfl, hj1, hj2, D1⟩ := hrel
    by_cases hj : j = -1
    · subst hj
      go_wp2_with fail
      go_ret2
      exact ⟨rfl, D1⟩
    · obtain ⟨m, rfl⟩ : ∃ m : Nat, j = m := ⟨j.toNat, by omega⟩
      have tm : decide ((0 : Int) ≤ (m : Int)) = true := by simp
      clear hj hj1
      go_wp2_with fail
      refine (IN.out _).mono ?_
      rintro e w1 ⟨rfl, rfl⟩
      go_wp2_with fail
      go_loopw [7] (fun i wr => i = .int .i64 0 ∧ Below w.heap.size w wr) (fun i _ => 0)
      case atStart => exact ⟨rfl, D1⟩
      case round =>
        clear D1
        obtain ⟨rfl, D1⟩ := hrel
        go_wp2_with fail
        go_roundw
        case rel => exact ⟨(m : Int) - 1, by go_num, by omega, by omega, D1⟩
        case measure => simp [intOf]

set_option maxHeartbeats 1000000 in
theorem rout_wide (v : Value) (d : Int) (w : World) (h : d < 0 ∨ 16 ≤ d) :
    Calls Try.prog 34 #[v, .int .i64 d] w fun e w' => e = .returned (.tuple #[.int .i64 0, .bool false]) ∧ Below w.heap.size w w' := by
  have IN : Hid (∀ w, Calls Try.prog 10 #[.int .i64 d, .int .i64 0, .int .i64 15] w fun e w' => e = .returned (.bool false) ∧ w' = w) := fun w => by
    have := finR d 0 15 w
    rw [show (decide (0 ≤ d) && decide (d ≤ 15)) = false by
      rcases h with h | h
      · simp; omega
      · simp; omega] at this
    exact this
  clear h
  go_enter Try.func34, Try.ntmps34
  go_wp2_with fail
  go_loopw [6] (fun i wr => i = .int .i64 4 ∧ wr = w) (fun i _ => 0)
  case atStart => exact ⟨rfl, rfl⟩
  case round =>
    obtain ⟨rfl, rfl⟩ := hrel
    go_wp2_with fail
    refine (IN.out _).mono ?_
    rintro e w1 ⟨rfl, rfl⟩
    go_wp2_with fail
    go_ret2
    exact ⟨rfl, Below.refl _ _⟩

/-- The document's Out. -/
theorem rout_any {v : Value} {xs : List Rt} (d : Int) (w : World) (h : Routes w.heap.size w v xs) :
    Calls Try.prog 34 #[v, .int .i64 d] w fun e w' => e = .returned (.tuple #[.int .i64 (outN xs d), .bool (outB xs d)]) ∧ Below w.heap.size w w' := by
  by_cases hd : 0 ≤ d ∧ d < 16
  · obtain ⟨e1, e2⟩ := rout_out xs hd
    rw [← e1, ← e2]
    obtain ⟨A, cap, rfl, _, h1, h2, h3⟩ := h
    by_cases hx : xs = []
    · subst hx
      exact rout_nil A cap d w hd.1 hd.2
    · obtain ⟨b, o, rfl, hb, hr⟩ := h3 hx
      exact rout_row b o cap xs d w hb h1 h2 hr hd.1 hd.2
  · have e1 : outN xs d = 0 := by unfold outN; rw [if_neg hd]
    have e2 : outB xs d = false := by
      unfold outB
      by_cases h0 : 0 ≤ d
      · have : ¬ d < 16 := fun h1 => hd ⟨h0, h1⟩
        simp [this]
      · simp [h0]
    rw [e1, e2]
    exact rout_wide v d w (by omega)

set_option maxHeartbeats 8000000 in
set_option maxRecDepth 100000 in
theorem routes_row (b o cap : Nat) (xs : List Rt) (w : World) (hb : b < w.heap.size) (hr : Hid (TAt w b o xs)) (h8 : xs.length ≤ 8) :
    Calls Try.prog 32 #[.slice (some ⟨b, o, none⟩) xs.length cap] w fun e w' => e = .returned (.int .i64 (checkFrom xs 0)) ∧ Below w.heap.size w w' := by
  have t8 : decide ((8 : Int) < (xs.length : Int)) = false := by simp; omega
  go_enter Try.func32, Try.ntmps32
  go_wp2_with fail
  go_loopw [3] (fun i wr => ∃ k : Nat, i = .int .i64 (k : Int) ∧ k ≤ xs.length ∧ Below w.heap.size w wr ∧ Hid (checkFrom xs 0 = checkFrom xs k)) (fun i _ => xs.length - (intOf i).toNat)
  case atStart => exact ⟨0, rfl, by omega, Below.refl _ _, rfl⟩
  case round =>
    obtain ⟨k, rfl, hk, D1, hl⟩ := hrel
    by_cases hlt : k < xs.length
    · obtain ⟨r, hxk⟩ : ∃ r, xs[k]? = some r := ⟨_, List.getElem?_eq_getElem hlt⟩
      obtain ⟨c0, c1, c2⟩ := (hr.out.below D1 hb).at hxk
      have Hd : Hid (checkFrom xs k = if (if isR r then (if (xs.take k).any (fun a => sameA a r) then 5 else 0) else 1 : Int) = 0 then checkFrom xs (k + 1) else (if isR r then (if (xs.take k).any (fun a => sameA a r) then 5 else 0) else 1 : Int)) := checkFrom_at hxk
      have IS : Hid (∀ w, Calls Try.prog 77 #[rtw r.v r.b r.p] w fun e w' => e = .returned (.bool (isR r)) ∧ Below w.heap.size w w') := fun w => rright_any r w
      have HX : Hid (xs[k]? = some r) := hxk
      have k1 : (0 : Int) ≤ (k : Int) := by omega
      have k2 : (k : Int) < (xs.length : Int) := by omega
      clear hxk
      cases hx : isR r
      · rw [hx] at IS Hd
        have fin : Hid (checkFrom xs 0 = 1) := by show _ = _; rw [hl.out, Hd.out]; simp
        clear hl Hd HX hx
        generalize r.v = rv0 at *
        generalize r.b = rb0 at *
        generalize r.p = rp0 at *
        go_wp2_with fail
        refine (IS.out _).mono ?_
        rintro e w3 ⟨rfl, hb3⟩
        have D3 := chn hb3 D1
        clear hb3 D1 c0 c1 c2 IS
        go_wp2_with fail
        go_ret
        exact ⟨by rw [fin.out]; rfl, D3⟩
      · rw [hx] at IS Hd
        clear hx
        go_wp2_with fail
        refine (IS.out _).mono ?_
        rintro e w3 ⟨rfl, hb3⟩
        have D3 := chn hb3 D1
        clear hb3 D1 c0 c1 c2 IS
        go_wp2_with fail
        go_loopw [4] (fun i wr => ∃ j : Nat, i = .int .i64 (j : Int) ∧ j ≤ k ∧ Below w.heap.size w wr ∧ Hid ((xs.take j).any (fun a => sameA a r) = false)) (fun i _ => k - (intOf i).toNat)
        case atStart => exact ⟨0, rfl, by omega, D3, rfl⟩
        case round =>
          clear D3
          obtain ⟨j, rfl, hj, D1, hno⟩ := hrel
          by_cases hjk : j < k
          · obtain ⟨a, hxj⟩ : ∃ a, xs[j]? = some a := ⟨_, List.getElem?_eq_getElem (by omega)⟩
            obtain ⟨c0, c1, c2⟩ := (hr.out.below D1 hb).at HX.out
            obtain ⟨g0, g1, g2⟩ := (hr.out.below D1 hb).at hxj
            have j1 : (0 : Int) ≤ (j : Int) := by omega
            have j2 : (j : Int) < (xs.length : Int) := by omega
            have NX : Hid (((a.v == r.v) && (a.b == r.b)) = false → Hid ((xs.take (j + 1)).any (fun a => sameA a r) = false)) := fun h => by
              show _ = _
              rw [any_take hxj, hno.out]
              exact h
            have HT : Hid (((a.v == r.v) && (a.b == r.b)) = true → checkFrom xs 0 = 5) := fun h => by
              have : (xs.take k).any (fun a => sameA a r) = true := any_here (k := j) (by rw [List.getElem?_take]; simp [hjk]; rw [← hxj]) h
              rw [hl.out, Hd.out, this]
              simp
            clear hxj hno
            generalize a.v = av0 at *
            generalize a.b = ab0 at *
            generalize a.p = ap0 at *
            generalize r.v = rv0 at *
            generalize r.b = rb0 at *
            generalize r.p = rp0 at *
            cases hv : (av0 == rv0)
            · have NX' : Hid (Hid ((xs.take (j + 1)).any (fun a => sameA a r) = false)) := NX.out (by rw [hv]; rfl)
              clear NX HT
              go_wp2_with fail
              go_quiet (fail)
              go_wp2_with fail
              go_roundw
              case rel => exact ⟨j + 1, by go_num, by omega, belowN D1 _, NX'.out⟩
              case measure => simp [intOf]; omega
            · cases hv2 : (ab0 == rb0)
              · have NX' : Hid (Hid ((xs.take (j + 1)).any (fun a => sameA a r) = false)) := NX.out (by rw [hv, hv2]; rfl)
                clear NX HT
                go_wp2_with fail
                go_quiet (fail)
                go_wp2_with fail
                go_roundw
                case rel => exact ⟨j + 1, by go_num, by omega, belowN D1 _, NX'.out⟩
                case measure => simp [intOf]; omega
              · have fin : Hid (checkFrom xs 0 = 5) := HT.out (by rw [hv, hv2]; rfl)
                clear NX HT
                go_wp2_with fail
                go_quiet (fail)
                go_wp2_with fail
                go_ret
                exact ⟨by rw [fin.out]; rfl, belowN D1 _⟩
          · obtain rfl : j = k := by omega
            have HN : Hid (checkFrom xs 0 = checkFrom xs (j + 1)) := by
              show _ = _
              rw [hl.out, Hd.out, hno.out]
              simp
            go_wp2_with fail
            go_roundw
            case rel => exact ⟨j + 1, by go_num, by omega, D1, HN⟩
            case measure => simp [intOf]; omega
    · have fin : Hid (checkFrom xs 0 = 0) := by show _ = _; rw [hl.out, checkFrom_end (by omega)]
      go_wp2_with fail
      go_ret
      exact ⟨by rw [fin.out]; rfl, D1⟩
set_option maxHeartbeats 1000000 in
theorem routes_nil (A : Option Addr) (cap : Nat) (w : World) :
    Calls Try.prog 32 #[.slice A 0 cap] w fun e w' => e = .returned (.int .i64 0) ∧ Below w.heap.size w w' := by
  go_enter Try.func32, Try.ntmps32
  go_wp2_with fail
  go_loopw [3] (fun i wr => i = .int .i64 0 ∧ Below w.heap.size w wr) (fun i _ => 0)
  case atStart => exact ⟨rfl, Below.refl _ _⟩
  case round =>
    obtain ⟨rfl, D1⟩ := hrel
    go_wp2_with fail
    go_ret
    exact ⟨rfl, D1⟩
theorem routes_large (A : Option Addr) (n cap : Nat) (w : World) (h : 8 < n) :
    Calls Try.prog 32 #[.slice A n cap] w fun e w' => e = .returned (.int .i64 2) ∧ Below w.heap.size w w' := by
  have t8 : decide ((8 : Int) < (n : Int)) = true := by simp; omega
  go_enter Try.func32, Try.ntmps32
  go_wp2_with fail
  go_ret
  exact ⟨rfl, Below.refl _ _⟩
/-- The document's Check. -/
theorem routes_any {v : Value} {xs : List Rt} (w : World) (h : Routes w.heap.size w v xs) :
    Calls Try.prog 32 #[v] w fun e w' => e = .returned (.int .i64 (checkV xs)) ∧ Below w.heap.size w w' := by
  obtain ⟨A, cap, rfl, _, _, _, h3⟩ := h
  unfold checkV
  by_cases h8 : 8 < xs.length
  · rw [if_pos h8]
    exact routes_large A xs.length cap w h8
  · rw [if_neg h8]
    by_cases hx : xs = []
    · subst hx
      rw [checkFrom_end (by simp)]
      exact routes_nil A cap w
    · obtain ⟨b, o, rfl, hb, hr⟩ := h3 hx
      exact routes_row b o cap xs w hb hr (by omega)
end Go.Proofs.Ytgcimcpcnoojnaa


