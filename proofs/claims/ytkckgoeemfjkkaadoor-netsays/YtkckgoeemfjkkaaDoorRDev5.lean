/-
  The document's answer on nets: a device that is a balancer, or none; any device.
-/
import Derived.Test.YtkckgoeemfjkkaaDoorRDev
namespace Go.Proofs.YtkckgoeemfjkkaaDoor
open Go.RowKit

set_option maxHeartbeats 8000000 in
set_option maxRecDepth 100000 in
theorem rdev_5 (nm : ByteArray) (ad : Int) (pl : Nat) (Ab Ar At : Option Addr) (bs : List Int) (cb nr cr nt ct : Nat) (c : Int) (w : World) (hcap : bs.length ≤ cb) (hmax : cb ≤ maxLen) (hB : Hid (SlAt w.heap.size w 1 IsI (.slice Ab bs.length cb) bs))
    (RT : Hid (∀ W, Below w.heap.size w W → Calls Tryd.prog 28 #[.slice At nt ct] W fun e w' => e = .returned (.int .i64 c) ∧ Below W.heap.size W w')) :
    Calls Tryd.prog 13 #[.agg #[.string nm, .int .i64 5, .int .i64 ad, .int .u8 (pl : Int), .slice Ab bs.length cb, .slice Ar nr cr, .slice At nt ct]] w fun e w' => e = .returned (.int .i64 (if (!(decide (0 ≤ ad) && decide (ad ≤ 15))) || (decide (0 < pl) != false) then 1 else if 3 < bs.length then 2 else if bs.length = 0 then 1 else if backsFrom bs ad 0 = 1 then 1 else if (decide (0 < nr)) || (decide (0 < nt)) then 1 else c)) ∧ Below w.heap.size w w' := by
  unfold maxLen at hmax
  have D0 := Below.alN (Below.refl w.heap.size w) (.cells #[.string nm, .int .i64 5, .int .i64 ad, .int .u8 (pl : Int), .slice Ab bs.length cb, .slice Ar nr cr, .slice At nt ct] 41)
  have I0 : Hid (∀ w, Calls Tryd.prog 12 #[.int .i64 5, .int .i64 1, .int .i64 5] w fun e w' => e = .returned (.bool true) ∧ w' = w) := fun w => inN 5 1 5 w
  have V0 := seven_new w (.string nm) (.int .i64 5) (.int .i64 ad) (.int .u8 (pl : Int)) (.slice Ab bs.length cb) (.slice Ar nr cr) (.slice At nt ct) 41
  have I1 : Hid (∀ w, Calls Tryd.prog 12 #[.int .i64 ad, .int .i64 0, .int .i64 15] w fun e w' => e = .returned (.bool (decide (0 ≤ ad) && decide (ad ≤ 15))) ∧ w' = w) := fun w => inN ad 0 15 w
  obtain ⟨_, q0, q1, q2, q3, q4, q5, q6⟩ := id V0
  generalize (decide (0 ≤ ad) && decide (ad ≤ 15)) = x0 at *
  cases x0
  · go_enter Tryd.func13, Tryd.ntmps13
    go_wp2_with (first | (go_at_call_of 12 (Value.int .i64 5); refine (I0.out _).mono ?_; rintro e w' ⟨rfl, rfl⟩) | (go_at_call_of 12 (Value.int .i64 ad); refine (I1.out _).mono ?_; rintro e w' ⟨rfl, rfl⟩))
    go_ret
    first | exact ⟨rfl, D0⟩ | exact ⟨by simp, D0⟩
  cases p0 : decide (0 < pl)
  · have p1 : decide ((0 : Int) < (pl : Int)) = false := by rw [← p0]; simp
    by_cases n3 : 3 < bs.length
    · have u3 : decide ((3 : Int) < (bs.length : Int)) = true := by simp; omega
      go_enter Tryd.func13, Tryd.ntmps13
      go_wp2_with (first | (go_at_call_of 12 (Value.int .i64 5); refine (I0.out _).mono ?_; rintro e w' ⟨rfl, rfl⟩) | (go_at_call_of 12 (Value.int .i64 ad); refine (I1.out _).mono ?_; rintro e w' ⟨rfl, rfl⟩))
      go_ret
      first | exact ⟨rfl, D0⟩ | exact ⟨by simp, D0⟩
    have u3 : decide ((3 : Int) < (bs.length : Int)) = false := by simp; omega
    by_cases n0 : bs.length = 0
    · have e := List.length_eq_zero_iff.1 n0
      subst e
      clear n0 n3 u3
      go_enter Tryd.func13, Tryd.ntmps13
      go_wp2_with (first | (go_at_call_of 12 (Value.int .i64 5); refine (I0.out _).mono ?_; rintro e w' ⟨rfl, rfl⟩) | (go_at_call_of 12 (Value.int .i64 ad); refine (I1.out _).mono ?_; rintro e w' ⟨rfl, rfl⟩))
      go_ret
      first | exact ⟨rfl, D0⟩ | exact ⟨by simp, D0⟩
    have u0 : ((bs.length : Int) == 0) = false := by simp; exact fun e => n0 (by rw [e]; rfl)
    have FIN : Hid ((if (!true) || (false != false) then (1 : Int) else if 3 < bs.length then 2 else if bs.length = 0 then 1 else if backsFrom bs ad 0 = 1 then 1 else if (decide (0 < nr)) || (decide (0 < nt)) then 1 else c) = if backsFrom bs ad 0 = 1 then 1 else if (decide (0 < nr)) || (decide (0 < nt)) then 1 else c) := by
      show _ = _
      rw [if_neg (by simp), if_neg n3, if_neg n0]
    rw [FIN.out]
    clear FIN n3 n0
    generalize hres : (if backsFrom bs ad 0 = 1 then (1 : Int) else if (decide (0 < nr)) || (decide (0 < nt)) then 1 else c) = res
    have HR : Hid (res = if backsFrom bs ad 0 = 1 then (1 : Int) else if (decide (0 < nr)) || (decide (0 < nt)) then 1 else c) := hres.symm
    clear hres
    go_enter Tryd.func13, Tryd.ntmps13
    go_wp2_with (first | (go_at_call_of 12 (Value.int .i64 5); refine (I0.out _).mono ?_; rintro e w' ⟨rfl, rfl⟩) | (go_at_call_of 12 (Value.int .i64 ad); refine (I1.out _).mono ?_; rintro e w' ⟨rfl, rfl⟩))
    clear I0 I1
    go_loopw [4] (fun i wr => ∃ k : Nat, i = .int .i64 (k : Int) ∧ k ≤ bs.length ∧ Below w.heap.size w wr ∧ Seven wr w.heap.size (.string nm) (.int .i64 5) (.int .i64 ad) (.int .u8 (pl : Int)) (.slice Ab bs.length cb) (.slice Ar nr cr) (.slice At nt ct) ∧ Hid (backsFrom bs ad 0 = backsFrom bs ad k)) (fun i _ => bs.length - (intOf i).toNat)
    case atStart => exact ⟨0, rfl, by omega, D0, V0, rfl⟩
    case round =>
      clear D0 V0 q0 q1 q2 q3 q4 q5 q6
      obtain ⟨k, rfl, hk, D1, V1, hl⟩ := hrel
      obtain ⟨lV, q0, q1, q2, q3, q4, q5, q6⟩ := id V1
      by_cases hlt : k < bs.length
      · obtain ⟨x, hxk⟩ : ∃ x, bs[k]? = some x := ⟨_, List.getElem?_eq_getElem hlt⟩
        obtain ⟨b, o, rfl, hb, hcell⟩ := Ints.at (SlAt.below hB.out D1 (fun _ _ _ h => h)) hxk
        have cx := hcell k x hxk
        have IX : Hid (∀ w, Calls Tryd.prog 12 #[.int .i64 x, .int .i64 0, .int .i64 15] w fun e w' => e = .returned (.bool (decide (0 ≤ x) && decide (x ≤ 15))) ∧ w' = w) := fun w => inN x 0 15 w
        have Hd : Hid (backsFrom bs ad k = if (decide (0 ≤ x) && decide (x ≤ 15)) && !(x == ad) && !((bs.take k).any (fun y => y == x)) then backsFrom bs ad (k + 1) else 1) := backsFrom_at hxk
        have k1 : (0 : Int) ≤ (k : Int) := by omega
        have k2 : (k : Int) < (bs.length : Int) := by omega
        have HC : Hid (∀ j y, bs[j]? = some y → wr.cell? ⟨b, o + j, none⟩ = some (.int .i64 y)) := hcell
        have HX : Hid (bs[k]? = some x) := hxk
        clear hcell hxk
        generalize (decide (0 ≤ x) && decide (x ≤ 15)) = y0 at *
        cases y0
        · have hb1 : Hid (res = 1) := by show _ = _; rw [HR.out, hl.out, Hd.out]; simp
          clear HR Hd hl
          go_wp2_with fail
          go_quiet ((go_at_call 12; exact Calls.quiet_of_same (IX.out _)))
          go_wp2_with fail
          go_ret
          exact ⟨by rw [hb1.out]; rfl, belowNN D1 _⟩
        cases y1 : (x == ad)
        · go_wp2_with fail
          go_quiet ((go_at_call 12; exact Calls.quiet_of_same (IX.out _)))
          go_wp2_with fail
          go_loopw [5] (fun i wr => ∃ j : Nat, i = .int .i64 (j : Int) ∧ j ≤ k ∧ Below w.heap.size w wr ∧ Seven wr w.heap.size (.string nm) (.int .i64 5) (.int .i64 ad) (.int .u8 (pl : Int)) (.slice (some ⟨b, o, none⟩) bs.length cb) (.slice Ar nr cr) (.slice At nt ct) ∧ Hid ((bs.take j).any (fun y => y == x) = false)) (fun i _ => k - (intOf i).toNat)
          case atStart => exact ⟨0, rfl, by omega, belowNN D1 _, V1.below (belowNN (Below.refl wr.heap.size wr) _) lV, rfl⟩
          case round =>
            clear D1 V1 q0 q1 q2 q3 q4 q5 q6 cx HC lV
            obtain ⟨j, rfl, hj, D1, V1, hno⟩ := hrel
            obtain ⟨lV, q0, q1, q2, q3, q4, q5, q6⟩ := id V1
            by_cases hjk : j < k
            · obtain ⟨y, hyj⟩ : ∃ y, bs[j]? = some y := ⟨_, List.getElem?_eq_getElem (by omega)⟩
              obtain ⟨b', o', e', _, hcell⟩ := Ints.at (SlAt.below hB.out D1 (fun _ _ _ h => h)) hyj
              cases e'
              have cx := hcell k x HX.out
              have cy := hcell j y hyj
              have j1 : (0 : Int) ≤ (j : Int) := by omega
              have j2 : (j : Int) < (bs.length : Int) := by omega
              cases z0 : (y == x)
              · have Hn : Hid ((bs.take (j + 1)).any (fun z => z == x) = false) := by show _ = _; rw [any_takeI hyj, hno.out, z0]; rfl
                clear hcell hyj hno
                go_wp2_with fail
                go_quiet (fail)
                go_wp2_with fail
                go_roundw
                case rel => exact ⟨j + 1, by go_num, by omega, belowNN D1 _, V1.below (belowNN (Below.refl wr.heap.size wr) _) lV, Hn⟩
                case measure => simp [intOf]; omega
              · have hany : (bs.take k).any (fun z => z == x) = true := List.any_eq_true.2 ⟨y, List.mem_of_getElem? (i := j) (by rw [List.getElem?_take, if_pos hjk]; exact hyj), z0⟩
                have hb1 : Hid (res = 1) := by show _ = _; rw [HR.out, hl.out, Hd.out, y1, hany]; simp
                clear HR Hd hl hcell hyj hno hany
                go_wp2_with fail
                go_quiet (fail)
                go_wp2_with fail
                go_ret
                exact ⟨by rw [hb1.out]; rfl, belowNN D1 _⟩
            · obtain rfl : j = k := by omega
              have Hn : Hid (backsFrom bs ad 0 = backsFrom bs ad (j + 1)) := by show _ = _; rw [hl.out, Hd.out, y1, hno.out]; simp
              clear hl Hd hno
              go_wp2_with fail
              go_roundw
              case rel => exact ⟨j + 1, by go_num, by omega, D1, V1, Hn⟩
              case measure => simp [intOf]; omega
        · have hb1 : Hid (res = 1) := by show _ = _; rw [HR.out, hl.out, Hd.out, y1]; simp
          clear HR Hd hl
          go_wp2_with fail
          go_quiet ((go_at_call 12; exact Calls.quiet_of_same (IX.out _)))
          go_wp2_with fail
          go_ret
          exact ⟨by rw [hb1.out]; rfl, belowNN D1 _⟩
      · have h0 : backsFrom bs ad 0 = 0 := by rw [hl.out, backsFrom_end (by omega)]
        clear hl
        by_cases r0 : 0 < nr
        · have v0 : decide ((0 : Int) < (nr : Int)) = true := by simp; omega
          have hb1 : Hid (res = 1) := by show _ = _; rw [HR.out, h0]; simp [r0]
          clear HR h0
          go_wp2_with fail
          go_ret
          exact ⟨by rw [hb1.out]; rfl, D1⟩
        have v0 : decide ((0 : Int) < (nr : Int)) = false := by simp; omega
        by_cases t0 : 0 < nt
        · have z0 : decide ((0 : Int) < (nt : Int)) = true := by simp; omega
          have hb1 : Hid (res = 1) := by show _ = _; rw [HR.out, h0]; simp [t0]
          clear HR h0
          go_wp2_with fail
          go_ret
          exact ⟨by rw [hb1.out]; rfl, D1⟩
        have z0 : decide ((0 : Int) < (nt : Int)) = false := by simp; omega
        have r8 : ¬ 8 < nr := by omega
        have v8 : decide ((8 : Int) < (nr : Int)) = false := by simp; omega
        have hb1 : Hid (res = c) := by show _ = _; rw [HR.out, h0]; simp [r0, t0]
        clear HR h0
        go_wp2_with fail
        refine (RT.out _ D1).mono ?_
        rintro e w2 ⟨rfl, hb2⟩
        have D2 := chnN hb2 D1
        go_wp2_with fail
        go_ret
        exact ⟨by rw [hb1.out]; rfl, D2⟩
  · have p1 : decide ((0 : Int) < (pl : Int)) = true := by rw [← p0]; simp
    go_enter Tryd.func13, Tryd.ntmps13
    go_wp2_with (first | (go_at_call_of 12 (Value.int .i64 5); refine (I0.out _).mono ?_; rintro e w' ⟨rfl, rfl⟩) | (go_at_call_of 12 (Value.int .i64 ad); refine (I1.out _).mono ?_; rintro e w' ⟨rfl, rfl⟩))
    go_ret
    first | exact ⟨rfl, D0⟩ | exact ⟨by simp, D0⟩
end Go.Proofs.YtkckgoeemfjkkaaDoor
