/-
  The document's answer on routes: Out of any list, Routes.
-/
import Derived.Test.YtkckgoeemfjkkaaDoorFG
namespace Go.Proofs.YtkckgoeemfjkkaaDoor
open Go.RowKit

set_option maxHeartbeats 8000000 in
set_option maxRecDepth 100000 in
theorem routes_row (b o cap : Nat) (xs : List Rt) (w : World) (hb : b < w.heap.size) (hr : Hid (TAt w b o xs)) (h8 : xs.length ≤ 8) :
    Calls Tryd.prog 28 #[.slice (some ⟨b, o, none⟩) xs.length cap] w fun e w' => e = .returned (.int .i64 (checkFrom xs 0)) ∧ Below w.heap.size w w' := by
  have t8 : decide ((8 : Int) < (xs.length : Int)) = false := by simp; omega
  go_enter Tryd.func28, Tryd.ntmps28
  go_wp2_with fail
  go_loopw [3] (fun i wr => ∃ k : Nat, i = .int .i64 (k : Int) ∧ k ≤ xs.length ∧ Below w.heap.size w wr ∧ Hid (checkFrom xs 0 = checkFrom xs k)) (fun i _ => xs.length - (intOf i).toNat)
  case atStart => exact ⟨0, rfl, by omega, Below.refl _ _, rfl⟩
  case round =>
    obtain ⟨k, rfl, hk, D1, hl⟩ := hrel
    by_cases hlt : k < xs.length
    · obtain ⟨r, hxk⟩ : ∃ r, xs[k]? = some r := ⟨_, List.getElem?_eq_getElem hlt⟩
      obtain ⟨c0, c1, c2⟩ := (hr.out.below D1 hb).at hxk
      have Hd : Hid (checkFrom xs k = if (if isR r then (if (xs.take k).any (fun a => sameA a r) then 5 else 0) else 1 : Int) = 0 then checkFrom xs (k + 1) else (if isR r then (if (xs.take k).any (fun a => sameA a r) then 5 else 0) else 1 : Int)) := checkFrom_at hxk
      have IS : Hid (∀ w, Calls Tryd.prog 54 #[rtw r.v r.b r.p] w fun e w' => e = .returned (.bool (isR r)) ∧ Below w.heap.size w w') := fun w => rright_any r w
      have HX : Hid (xs[k]? = some r) := hxk
      have k1 : (0 : Int) ≤ (k : Int) := by omega
      have k2 : (k : Int) < (xs.length : Int) := by omega
      clear hxk
      cases hx : isR r
      · rw [hx] at IS Hd
        have fin : Hid (checkFrom xs 0 = 1) := by show _ = _; rw [hl.out, Hd.out]; simp
        clear hl Hd HX hx
        generalize r.v = rv0 at *
        generalize r.b = rb0 at *
        generalize r.p = rp0 at *
        go_wp2_with fail
        refine (IS.out _).mono ?_
        rintro e w3 ⟨rfl, hb3⟩
        have D3 := chn hb3 D1
        clear hb3 D1 c0 c1 c2 IS
        go_wp2_with fail
        go_ret
        exact ⟨by rw [fin.out]; rfl, D3⟩
      · rw [hx] at IS Hd
        clear hx
        go_wp2_with fail
        refine (IS.out _).mono ?_
        rintro e w3 ⟨rfl, hb3⟩
        have D3 := chn hb3 D1
        clear hb3 D1 c0 c1 c2 IS
        go_wp2_with fail
        go_loopw [4] (fun i wr => ∃ j : Nat, i = .int .i64 (j : Int) ∧ j ≤ k ∧ Below w.heap.size w wr ∧ Hid ((xs.take j).any (fun a => sameA a r) = false)) (fun i _ => k - (intOf i).toNat)
        case atStart => exact ⟨0, rfl, by omega, D3, rfl⟩
        case round =>
          clear D3
          obtain ⟨j, rfl, hj, D1, hno⟩ := hrel
          by_cases hjk : j < k
          · obtain ⟨a, hxj⟩ : ∃ a, xs[j]? = some a := ⟨_, List.getElem?_eq_getElem (by omega)⟩
            obtain ⟨c0, c1, c2⟩ := (hr.out.below D1 hb).at HX.out
            obtain ⟨g0, g1, g2⟩ := (hr.out.below D1 hb).at hxj
            have j1 : (0 : Int) ≤ (j : Int) := by omega
            have j2 : (j : Int) < (xs.length : Int) := by omega
            have NX : Hid (((a.v == r.v) && (a.b == r.b)) = false → Hid ((xs.take (j + 1)).any (fun a => sameA a r) = false)) := fun h => by
              show _ = _
              rw [any_take hxj, hno.out]
              exact h
            have HT : Hid (((a.v == r.v) && (a.b == r.b)) = true → checkFrom xs 0 = 5) := fun h => by
              have : (xs.take k).any (fun a => sameA a r) = true := any_here (k := j) (by rw [List.getElem?_take]; simp [hjk]; rw [← hxj]) h
              rw [hl.out, Hd.out, this]
              simp
            clear hxj hno
            generalize a.v = av0 at *
            generalize a.b = ab0 at *
            generalize a.p = ap0 at *
            generalize r.v = rv0 at *
            generalize r.b = rb0 at *
            generalize r.p = rp0 at *
            cases hv : (av0 == rv0)
            · have NX' : Hid (Hid ((xs.take (j + 1)).any (fun a => sameA a r) = false)) := NX.out (by rw [hv]; rfl)
              clear NX HT
              go_wp2_with fail
              go_quiet (fail)
              go_wp2_with fail
              go_roundw
              case rel => exact ⟨j + 1, by go_num, by omega, belowNN D1 _, NX'.out⟩
              case measure => simp [intOf]; omega
            · cases hv2 : (ab0 == rb0)
              · have NX' : Hid (Hid ((xs.take (j + 1)).any (fun a => sameA a r) = false)) := NX.out (by rw [hv, hv2]; rfl)
                clear NX HT
                go_wp2_with fail
                go_quiet (fail)
                go_wp2_with fail
                go_roundw
                case rel => exact ⟨j + 1, by go_num, by omega, belowNN D1 _, NX'.out⟩
                case measure => simp [intOf]; omega
              · have fin : Hid (checkFrom xs 0 = 5) := HT.out (by rw [hv, hv2]; rfl)
                clear NX HT
                go_wp2_with fail
                go_quiet (fail)
                go_wp2_with fail
                go_ret
                exact ⟨by rw [fin.out]; rfl, belowNN D1 _⟩
          · obtain rfl : j = k := by omega
            have HN : Hid (checkFrom xs 0 = checkFrom xs (j + 1)) := by
              show _ = _
              rw [hl.out, Hd.out, hno.out]
              simp
            go_wp2_with fail
            go_roundw
            case rel => exact ⟨j + 1, by go_num, by omega, D1, HN⟩
            case measure => simp [intOf]; omega
    · have fin : Hid (checkFrom xs 0 = 0) := by show _ = _; rw [hl.out, checkFrom_end (by omega)]
      go_wp2_with fail
      go_ret
      exact ⟨by rw [fin.out]; rfl, D1⟩
set_option maxHeartbeats 1000000 in
theorem routes_nil (A : Option Addr) (cap : Nat) (w : World) :
    Calls Tryd.prog 28 #[.slice A 0 cap] w fun e w' => e = .returned (.int .i64 0) ∧ Below w.heap.size w w' := by
  go_enter Tryd.func28, Tryd.ntmps28
  go_wp2_with fail
  go_loopw [3] (fun i wr => i = .int .i64 0 ∧ Below w.heap.size w wr) (fun i _ => 0)
  case atStart => exact ⟨rfl, Below.refl _ _⟩
  case round =>
    obtain ⟨rfl, D1⟩ := hrel
    go_wp2_with fail
    go_ret
    exact ⟨rfl, D1⟩
theorem routes_large (A : Option Addr) (n cap : Nat) (w : World) (h : 8 < n) :
    Calls Tryd.prog 28 #[.slice A n cap] w fun e w' => e = .returned (.int .i64 2) ∧ Below w.heap.size w w' := by
  have t8 : decide ((8 : Int) < (n : Int)) = true := by simp; omega
  go_enter Tryd.func28, Tryd.ntmps28
  go_wp2_with fail
  go_ret
  exact ⟨rfl, Below.refl _ _⟩
/-- The document's Check. -/
theorem routes_any {v : Value} {xs : List Rt} (w : World) (h : Routes w.heap.size w v xs) :
    Calls Tryd.prog 28 #[v] w fun e w' => e = .returned (.int .i64 (checkV xs)) ∧ Below w.heap.size w w' := by
  obtain ⟨A, cap, rfl, _, _, _, h3⟩ := h
  unfold checkV
  by_cases h8 : 8 < xs.length
  · rw [if_pos h8]
    exact routes_large A xs.length cap w h8
  · rw [if_neg h8]
    by_cases hx : xs = []
    · subst hx
      rw [checkFrom_end (by simp)]
      exact routes_nil A cap w
    · obtain ⟨b, o, rfl, hb, hr⟩ := h3 hx
      exact routes_row b o cap xs w hb hr (by omega)
end Go.Proofs.YtkckgoeemfjkkaaDoor

