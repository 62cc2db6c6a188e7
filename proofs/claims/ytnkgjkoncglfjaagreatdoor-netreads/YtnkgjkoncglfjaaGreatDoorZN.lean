/-
  The document's answer on nets: a device that is a balancer, or none; any device.
-/
import Derived.Test.YtnkgjkoncglfjaaGreatDoorRDev
import Derived.Test.YtnkgjkoncglfjaaGreatDoorFC
import Derived.Test.YtnkgjkoncglfjaaGreatDoorZC
namespace Go.Proofs.YtnkgjkoncglfjaaGreatDoor
open Go.RowKit

set_option maxHeartbeats 8000000 in
set_option maxRecDepth 100000 in
theorem rdev_5 (nm : ByteArray) (ad : Int) (pl : Nat) (Ab Ar At : Option Addr) (bs : List Int) (cb nr cr nt ct : Nat) (c : Int) (w : World) (hcap : bs.length ≤ cb) (hmax : cb ≤ maxLen) (hB : Hid (SlAt w.heap.size w 1 IsI (.slice Ab bs.length cb) bs))
    (RT : Hid (∀ W, Below w.heap.size w W → Calls Tryz.prog 62 #[.slice At nt ct] W fun e w' => e = .returned (.int .i64 c) ∧ Below W.heap.size W w')) :
    Calls Tryz.prog 35 #[.agg #[.string nm, .int .i64 5, .int .i64 ad, .int .u8 (pl : Int), .slice Ab bs.length cb, .slice Ar nr cr, .slice At nt ct]] w fun e w' => e = .returned (.int .i64 (if (!(decide (0 ≤ ad) && decide (ad ≤ 15))) || (decide (0 < pl) != false) then 1 else if 3 < bs.length then 2 else if bs.length = 0 then 1 else if backsFrom bs ad 0 = 1 then 1 else if (decide (0 < nr)) || (decide (0 < nt)) then 1 else c)) ∧ Below w.heap.size w w' := by
  unfold maxLen at hmax
  have D0 := Below.alN (Below.refl w.heap.size w) (.cells #[.string nm, .int .i64 5, .int .i64 ad, .int .u8 (pl : Int), .slice Ab bs.length cb, .slice Ar nr cr, .slice At nt ct] 50)
  have I0 : Hid (∀ w, Calls Tryz.prog 34 #[.int .i64 5, .int .i64 1, .int .i64 5] w fun e w' => e = .returned (.bool true) ∧ w' = w) := fun w => inN 5 1 5 w
  have V0 := seven_new w (.string nm) (.int .i64 5) (.int .i64 ad) (.int .u8 (pl : Int)) (.slice Ab bs.length cb) (.slice Ar nr cr) (.slice At nt ct) 50
  have I1 : Hid (∀ w, Calls Tryz.prog 34 #[.int .i64 ad, .int .i64 0, .int .i64 15] w fun e w' => e = .returned (.bool (decide (0 ≤ ad) && decide (ad ≤ 15))) ∧ w' = w) := fun w => inN ad 0 15 w
  obtain ⟨_, q0, q1, q2, q3, q4, q5, q6⟩ := id V0
  generalize (decide (0 ≤ ad) && decide (ad ≤ 15)) = x0 at *
  cases x0
  · go_enter Tryz.func35, Tryz.ntmps35
    go_wp2_with (first | (go_at_call_of 34 (Value.int .i64 5); refine (I0.out _).mono ?_; rintro e w' ⟨rfl, rfl⟩) | (go_at_call_of 34 (Value.int .i64 ad); refine (I1.out _).mono ?_; rintro e w' ⟨rfl, rfl⟩))
    go_ret
    first | exact ⟨rfl, D0⟩ | exact ⟨by simp, D0⟩
  cases p0 : decide (0 < pl)
  · have p1 : decide ((0 : Int) < (pl : Int)) = false := by rw [← p0]; simp
    by_cases n3 : 3 < bs.length
    · have u3 : decide ((3 : Int) < (bs.length : Int)) = true := by simp; omega
      go_enter Tryz.func35, Tryz.ntmps35
      go_wp2_with (first | (go_at_call_of 34 (Value.int .i64 5); refine (I0.out _).mono ?_; rintro e w' ⟨rfl, rfl⟩) | (go_at_call_of 34 (Value.int .i64 ad); refine (I1.out _).mono ?_; rintro e w' ⟨rfl, rfl⟩))
      go_ret
      first | exact ⟨rfl, D0⟩ | exact ⟨by simp, D0⟩
    have u3 : decide ((3 : Int) < (bs.length : Int)) = false := by simp; omega
    by_cases n0 : bs.length = 0
    · have e := List.length_eq_zero_iff.1 n0
      subst e
      clear n0 n3 u3
      go_enter Tryz.func35, Tryz.ntmps35
      go_wp2_with (first | (go_at_call_of 34 (Value.int .i64 5); refine (I0.out _).mono ?_; rintro e w' ⟨rfl, rfl⟩) | (go_at_call_of 34 (Value.int .i64 ad); refine (I1.out _).mono ?_; rintro e w' ⟨rfl, rfl⟩))
      go_ret
      first | exact ⟨rfl, D0⟩ | exact ⟨by simp, D0⟩
    have u0 : ((bs.length : Int) == 0) = false := by simp; exact fun e => n0 (by rw [e]; rfl)
    have FIN : Hid ((if (!true) || (false != false) then (1 : Int) else if 3 < bs.length then 2 else if bs.length = 0 then 1 else if backsFrom bs ad 0 = 1 then 1 else if (decide (0 < nr)) || (decide (0 < nt)) then 1 else c) = if backsFrom bs ad 0 = 1 then 1 else if (decide (0 < nr)) || (decide (0 < nt)) then 1 else c) := by
      show _ = _
      rw [if_neg (by simp), if_neg n3, if_neg n0]
    rw [FIN.out]
    clear FIN n3 n0
    generalize hres : (if backsFrom bs ad 0 = 1 then (1 : Int) else if (decide (0 < nr)) || (decide (0 < nt)) then 1 else c) = res
    have HR : Hid (res = if backsFrom bs ad 0 = 1 then (1 : Int) else if (decide (0 < nr)) || (decide (0 < nt)) then 1 else c) := hres.symm
    clear hres
    go_enter Tryz.func35, Tryz.ntmps35
    go_wp2_with (first | (go_at_call_of 34 (Value.int .i64 5); refine (I0.out _).mono ?_; rintro e w' ⟨rfl, rfl⟩) | (go_at_call_of 34 (Value.int .i64 ad); refine (I1.out _).mono ?_; rintro e w' ⟨rfl, rfl⟩))
    clear I0 I1
    go_loopw [4] (fun i wr => ∃ k : Nat, i = .int .i64 (k : Int) ∧ k ≤ bs.length ∧ Below w.heap.size w wr ∧ Seven wr w.heap.size (.string nm) (.int .i64 5) (.int .i64 ad) (.int .u8 (pl : Int)) (.slice Ab bs.length cb) (.slice Ar nr cr) (.slice At nt ct) ∧ Hid (backsFrom bs ad 0 = backsFrom bs ad k)) (fun i _ => bs.length - (intOf i).toNat)
    case atStart => exact ⟨0, rfl, by omega, D0, V0, rfl⟩
    case round =>
      clear D0 V0 q0 q1 q2 q3 q4 q5 q6
      obtain ⟨k, rfl, hk, D1, V1, hl⟩ := hrel
      obtain ⟨lV, q0, q1, q2, q3, q4, q5, q6⟩ := id V1
      by_cases hlt : k < bs.length
      · obtain ⟨x, hxk⟩ : ∃ x, bs[k]? = some x := ⟨_, List.getElem?_eq_getElem hlt⟩
        obtain ⟨b, o, rfl, hb, hcell⟩ := Ints.at (SlAt.below hB.out D1 (fun _ _ _ h => h)) hxk
        have cx := hcell k x hxk
        have IX : Hid (∀ w, Calls Tryz.prog 34 #[.int .i64 x, .int .i64 0, .int .i64 15] w fun e w' => e = .returned (.bool (decide (0 ≤ x) && decide (x ≤ 15))) ∧ w' = w) := fun w => inN x 0 15 w
        have Hd : Hid (backsFrom bs ad k = if (decide (0 ≤ x) && decide (x ≤ 15)) && !(x == ad) && !((bs.take k).any (fun y => y == x)) then backsFrom bs ad (k + 1) else 1) := backsFrom_at hxk
        have k1 : (0 : Int) ≤ (k : Int) := by omega
        have k2 : (k : Int) < (bs.length : Int) := by omega
        have HC : Hid (∀ j y, bs[j]? = some y → wr.cell? ⟨b, o + j, none⟩ = some (.int .i64 y)) := hcell
        have HX : Hid (bs[k]? = some x) := hxk
        clear hcell hxk
        generalize (decide (0 ≤ x) && decide (x ≤ 15)) = y0 at *
        cases y0
        · have hb1 : Hid (res = 1) := by show _ = _; rw [HR.out, hl.out, Hd.out]; simp
          clear HR Hd hl
          go_wp2_with fail
          go_quiet ((go_at_call 34; exact Calls.quiet_of_same (IX.out _)))
          go_wp2_with fail
          go_ret
          exact ⟨by rw [hb1.out]; rfl, belowNN D1 _⟩
        cases y1 : (x == ad)
        · go_wp2_with fail
          go_quiet ((go_at_call 34; exact Calls.quiet_of_same (IX.out _)))
          go_wp2_with fail
          go_loopw [5] (fun i wr => ∃ j : Nat, i = .int .i64 (j : Int) ∧ j ≤ k ∧ Below w.heap.size w wr ∧ Seven wr w.heap.size (.string nm) (.int .i64 5) (.int .i64 ad) (.int .u8 (pl : Int)) (.slice (some ⟨b, o, none⟩) bs.length cb) (.slice Ar nr cr) (.slice At nt ct) ∧ Hid ((bs.take j).any (fun y => y == x) = false)) (fun i _ => k - (intOf i).toNat)
          case atStart => exact ⟨0, rfl, by omega, belowNN D1 _, V1.below (belowNN (Below.refl wr.heap.size wr) _) lV, rfl⟩
          case round =>
            clear D1 V1 q0 q1 q2 q3 q4 q5 q6 cx HC lV
            obtain ⟨j, rfl, hj, D1, V1, hno⟩ := hrel
            obtain ⟨lV, q0, q1, q2, q3, q4, q5, q6⟩ := id V1
            by_cases hjk : j < k
            · obtain ⟨y, hyj⟩ : ∃ y, bs[j]? = some y := ⟨_, List.getElem?_eq_getElem (by omega)⟩
              obtain ⟨b', o', e', _, hcell⟩ := Ints.at (SlAt.below hB.out D1 (fun _ _ _ h => h)) hyj
              cases e'
              have cx := hcell k x HX.out
              have cy := hcell j y hyj
              have j1 : (0 : Int) ≤ (j : Int) := by omega
              have j2 : (j : Int) < (bs.length : Int) := by omega
              cases z0 : (y == x)
              · have Hn : Hid ((bs.take (j + 1)).any (fun z => z == x) = false) := by show _ = _; rw [any_takeI hyj, hno.out, z0]; rfl
                clear hcell hyj hno
                go_wp2_with fail
                go_quiet (fail)
                go_wp2_with fail
                go_roundw
                case rel => exact ⟨j + 1, by go_num, by omega, belowNN D1 _, V1.below (belowNN (Below.refl wr.heap.size wr) _) lV, Hn⟩
                case measure => simp [intOf]; omega
              · have hany : (bs.take k).any (fun z => z == x) = true := List.any_eq_true.2 ⟨y, List.mem_of_getElem? (i := j) (by rw [List.getElem?_take, if_pos hjk]; exact hyj), z0⟩
                have hb1 : Hid (res = 1) := by show _ = _; rw [HR.out, hl.out, Hd.out, y1, hany]; simp
                clear HR Hd hl hcell hyj hno hany
                go_wp2_with fail
                go_quiet (fail)
                go_wp2_with fail
                go_ret
                exact ⟨by rw [hb1.out]; rfl, belowNN D1 _⟩
            · obtain rfl : j = k := by omega
              have Hn : Hid (backsFrom bs ad 0 = backsFrom bs ad (j + 1)) := by show _ = _; rw [hl.out, Hd.out, y1, hno.out]; simp
              clear hl Hd hno
              go_wp2_with fail
              go_roundw
              case rel => exact ⟨j + 1, by go_num, by omega, D1, V1, Hn⟩
              case measure => simp [intOf]; omega
        · have hb1 : Hid (res = 1) := by show _ = _; rw [HR.out, hl.out, Hd.out, y1]; simp
          clear HR Hd hl
          go_wp2_with fail
          go_quiet ((go_at_call 34; exact Calls.quiet_of_same (IX.out _)))
          go_wp2_with fail
          go_ret
          exact ⟨by rw [hb1.out]; rfl, belowNN D1 _⟩
      · have h0 : backsFrom bs ad 0 = 0 := by rw [hl.out, backsFrom_end (by omega)]
        clear hl
        by_cases r0 : 0 < nr
        · have v0 : decide ((0 : Int) < (nr : Int)) = true := by simp; omega
          have hb1 : Hid (res = 1) := by show _ = _; rw [HR.out, h0]; simp [r0]
          clear HR h0
          go_wp2_with fail
          go_ret
          exact ⟨by rw [hb1.out]; rfl, D1⟩
        have v0 : decide ((0 : Int) < (nr : Int)) = false := by simp; omega
        by_cases t0 : 0 < nt
        · have z0 : decide ((0 : Int) < (nt : Int)) = true := by simp; omega
          have hb1 : Hid (res = 1) := by show _ = _; rw [HR.out, h0]; simp [t0]
          clear HR h0
          go_wp2_with fail
          go_ret
          exact ⟨by rw [hb1.out]; rfl, D1⟩
        have z0 : decide ((0 : Int) < (nt : Int)) = false := by simp; omega
        have r8 : ¬ 8 < nr := by omega
        have v8 : decide ((8 : Int) < (nr : Int)) = false := by simp; omega
        have hb1 : Hid (res = c) := by show _ = _; rw [HR.out, h0]; simp [r0, t0]
        clear HR h0
        go_wp2_with fail
        refine (RT.out _ D1).mono ?_
        rintro e w2 ⟨rfl, hb2⟩
        have D2 := chnN hb2 D1
        go_wp2_with fail
        go_ret
        exact ⟨by rw [hb1.out]; rfl, D2⟩
  · have p1 : decide ((0 : Int) < (pl : Int)) = true := by rw [← p0]; simp
    go_enter Tryz.func35, Tryz.ntmps35
    go_wp2_with (first | (go_at_call_of 34 (Value.int .i64 5); refine (I0.out _).mono ?_; rintro e w' ⟨rfl, rfl⟩) | (go_at_call_of 34 (Value.int .i64 ad); refine (I1.out _).mono ?_; rintro e w' ⟨rfl, rfl⟩))
    go_ret
    first | exact ⟨rfl, D0⟩ | exact ⟨by simp, D0⟩
end Go.Proofs.YtnkgjkoncglfjaaGreatDoor



namespace Go.Proofs.YtnkgjkoncglfjaaGreatDoor
open Go.RowKit

set_option maxHeartbeats 1000000 in
set_option maxRecDepth 100000 in
theorem rdev_none (nm : ByteArray) (k ad : Int) (pl : Nat) (vb vr vt : Value) (w : World) (h : ¬ (1 ≤ k ∧ k ≤ 5)) :
    Calls Tryz.prog 35 #[.agg #[.string nm, .int .i64 k, .int .i64 ad, .int .u8 (pl : Int), vb, vr, vt]] w fun e w' => e = .returned (.int .i64 1) ∧ Below w.heap.size w w' := by
  have D0 := Below.alN (Below.refl w.heap.size w) (.cells #[.string nm, .int .i64 k, .int .i64 ad, .int .u8 (pl : Int), vb, vr, vt] 50)
  have I0 : Hid (∀ w, Calls Tryz.prog 34 #[.int .i64 k, .int .i64 1, .int .i64 5] w fun e w' => e = .returned (.bool false) ∧ w' = w) := fun w => by
    have := inN k 1 5 w
    rw [show (decide (1 ≤ k) && decide (k ≤ 5)) = false by
      rw [Bool.eq_false_iff]
      simp only [ne_eq, Bool.and_eq_true, decide_eq_true_eq]
      exact h] at this
    exact this
  clear h
  go_enter Tryz.func35, Tryz.ntmps35
  go_wp2_with (go_at_call 34; refine (I0.out _).mono ?_; rintro e w' ⟨rfl, rfl⟩)
  go_ret
  exact ⟨rfl, D0⟩
/-- The document's check of a device. -/
theorem rdevice_any (d : Dv) (vb vr vt : Value) (c : Int) (w : World) (hb : SlAt w.heap.size w 1 IsI vb d.backs) (hr : SlAt w.heap.size w 5 IsRule vr d.rules) (ht : SlAt w.heap.size w 3 IsRoute vt d.routes)
    (RT : Hid (∀ W, Below w.heap.size w W → Calls Tryz.prog 62 #[vt] W fun e w' => e = .returned (.int .i64 c) ∧ Below W.heap.size W w')) :
    Calls Tryz.prog 35 #[.agg #[.string d.name, .int .i64 d.kind, .int .i64 d.addr, .int .u8 (d.pool : Int), vb, vr, vt]] w fun e w' => e = .returned (.int .i64 (devV d.kind d.addr d.pool d.backs d.rules.length d.routes.length c)) ∧ Below w.heap.size w w' := by
  obtain ⟨nm, k, ad, pl, bs, rs, ts, _, _⟩ := d
  simp only at hb hr ht ⊢
  have hb0 := hb
  obtain ⟨Ab, cb, rfl, _, b1, b2, _⟩ := hb
  obtain ⟨Ar, cr, rfl, _, _, _, _⟩ := hr
  obtain ⟨At, ct, rfl, _, _, _, _⟩ := ht
  by_cases hk : 1 ≤ k ∧ k ≤ 5
  · have e0 : (decide (1 ≤ k) && decide (k ≤ 5)) = true := by simp [hk]
    have hkk : k = 1 ∨ k = 2 ∨ k = 3 ∨ k = 4 ∨ k = 5 := by omega
    have nil : bs.length = 0 → backsFrom bs ad 0 = 0 := fun h => backsFrom_end (by omega)
    rcases hkk with rfl | rfl | rfl | rfl | rfl
    · refine (rdev_1 nm ad pl Ab Ar At bs.length cb rs.length cr ts.length ct c w RT).mono fun e w' ⟨e1, e2⟩ => ⟨?_, e2⟩
      rw [e1]
      congr 2
      unfold devV hasAddr
      by_cases n0 : bs.length = 0
      · simp [n0, nil n0]
      · simp [n0, Nat.pos_of_ne_zero n0]
    · refine (rdev_2 nm ad pl Ab Ar At bs.length cb rs.length cr ts.length ct c w RT).mono fun e w' ⟨e1, e2⟩ => ⟨?_, e2⟩
      rw [e1]
      congr 2
      unfold devV hasAddr
      by_cases n0 : bs.length = 0
      · simp [n0, nil n0]
      · simp [n0, Nat.pos_of_ne_zero n0]
    · refine (rdev_3 nm ad pl Ab Ar At bs.length cb rs.length cr ts.length ct c w RT).mono fun e w' ⟨e1, e2⟩ => ⟨?_, e2⟩
      rw [e1]
      congr 2
      unfold devV hasAddr
      by_cases n0 : bs.length = 0
      · simp [n0, nil n0]
      · simp [n0, Nat.pos_of_ne_zero n0]
    · refine (rdev_4 nm ad pl Ab Ar At bs.length cb rs.length cr ts.length ct c w RT).mono fun e w' ⟨e1, e2⟩ => ⟨?_, e2⟩
      rw [e1]
      congr 2
      unfold devV hasAddr
      by_cases n0 : bs.length = 0
      · simp [n0, nil n0]
      · simp [n0, Nat.pos_of_ne_zero n0]
    · refine (rdev_5 nm ad pl Ab Ar At bs cb rs.length cr ts.length ct c w b1 b2 hb0 RT).mono fun e w' ⟨e1, e2⟩ => ⟨?_, e2⟩
      rw [e1]
      congr 2
      unfold devV hasAddr
      by_cases r8 : 8 < rs.length
      · simp [Nat.lt_trans (show 0 < 8 by omega) r8]
      · simp [r8]
  · refine (rdev_none nm k ad pl _ _ _ w hk).mono fun e w' ⟨e1, e2⟩ => ⟨?_, e2⟩
    rw [e1]
    unfold devV
    rw [if_pos]
    rw [Bool.not_eq_true', Bool.eq_false_iff]
    simp only [ne_eq, Bool.and_eq_true, decide_eq_true_eq]
    exact hk
end Go.Proofs.YtnkgjkoncglfjaaGreatDoor



namespace Go.Proofs.YtnkgjkoncglfjaaGreatDoor
open Go.RowKit

theorem finR (n lo hi : Int) (w : World) : Calls Tryz.prog 34 #[.int .i64 n, .int .i64 lo, .int .i64 hi] w fun e w' => e = .returned (.bool (decide (lo ≤ n) && decide (n ≤ hi))) ∧ w' = w := by
  by_cases h : lo ≤ n
  · go_enter Tryz.func34, Tryz.ntmps34
    go_wp2_with fail
    go_ret
    exact ⟨by simp [h], rfl⟩
  · have h' : decide (lo ≤ n) = false := by simp; omega
    go_enter Tryz.func34, Tryz.ntmps34
    go_wp2_with fail
    go_ret
    exact ⟨by simp, rfl⟩
/-- The first bits of an address. -/
def topV (n : Int) (b : Int) : Int := n / 2 ^ bh b * 2 ^ bh b
theorem top_0 (n : Int) (w : World) (h0 : 0 ≤ n) (h1 : n < 16) : Calls Tryz.prog 103 #[.int .i64 n, .int .i64 4] w fun e w' => e = .returned (.int .i64 (topV n 4)) ∧ w' = w := by
  have hw2 : IntKind.i64.wrap n = n := IntWalk.i64_in _ (by omega)
  have hw : wrap64 n = n := by rw [← IntWalk.i64_left]; exact hw2
  have E : Hid (topV n 4 = n) := by show n / 1 * 1 = n; omega
  clear h0 h1
  go_enter Tryz.func103, Tryz.ntmps103
  go_wp2_with fail
  go_ret
  refine ⟨?_, rfl⟩
  rw [E.out]
  first | rfl | (simp; done) | (simp; rw [hw]) | (simp; rw [hw2])
theorem top_1 (n : Int) (w : World) (h0 : 0 ≤ n) (h1 : n < 16) : Calls Tryz.prog 103 #[.int .i64 n, .int .i64 3] w fun e w' => e = .returned (.int .i64 (topV n 3)) ∧ w' = w := by
  have hw : wrap64 (n / 2 * 2) = n / 2 * 2 := by rw [← IntWalk.i64_left]; exact IntWalk.i64_in _ (by omega)
  have hw2 : IntKind.i64.wrap (n / 2 * 2) = n / 2 * 2 := IntWalk.i64_in _ (by omega)
  have E : Hid (topV n 3 = n / 2 * 2) := rfl
  have F : Hid (0 ≤ n ∧ n < 16) := ⟨h0, h1⟩
  clear h0 h1
  go_enter Tryz.func103, Tryz.ntmps103
  go_wp2_with fail
  go_ret
  refine ⟨?_, rfl⟩
  rw [E.out]
  first | rfl | (simp; done) | (simp; rw [hw]) | (simp; have := F.out; rw [← IntWalk.i64_left]; exact (IntWalk.i64_in _ (by omega)).symm)
theorem top_2 (n : Int) (w : World) (h0 : 0 ≤ n) (h1 : n < 16) : Calls Tryz.prog 103 #[.int .i64 n, .int .i64 2] w fun e w' => e = .returned (.int .i64 (topV n 2)) ∧ w' = w := by
  have hw : wrap64 (n / 4 * 4) = n / 4 * 4 := by rw [← IntWalk.i64_left]; exact IntWalk.i64_in _ (by omega)
  have hw2 : IntKind.i64.wrap (n / 4 * 4) = n / 4 * 4 := IntWalk.i64_in _ (by omega)
  have E : Hid (topV n 2 = n / 4 * 4) := rfl
  have F : Hid (0 ≤ n ∧ n < 16) := ⟨h0, h1⟩
  clear h0 h1
  go_enter Tryz.func103, Tryz.ntmps103
  go_wp2_with fail
  go_ret
  refine ⟨?_, rfl⟩
  rw [E.out]
  first | rfl | (simp; done) | (simp; rw [hw]) | (simp; have := F.out; rw [← IntWalk.i64_left]; exact (IntWalk.i64_in _ (by omega)).symm)
theorem top_3 (n : Int) (w : World) (h0 : 0 ≤ n) (h1 : n < 16) : Calls Tryz.prog 103 #[.int .i64 n, .int .i64 1] w fun e w' => e = .returned (.int .i64 (topV n 1)) ∧ w' = w := by
  have hw : wrap64 (n / 8 * 8) = n / 8 * 8 := by rw [← IntWalk.i64_left]; exact IntWalk.i64_in _ (by omega)
  have hw2 : IntKind.i64.wrap (n / 8 * 8) = n / 8 * 8 := IntWalk.i64_in _ (by omega)
  have E : Hid (topV n 1 = n / 8 * 8) := rfl
  have F : Hid (0 ≤ n ∧ n < 16) := ⟨h0, h1⟩
  clear h0 h1
  go_enter Tryz.func103, Tryz.ntmps103
  go_wp2_with fail
  go_ret
  refine ⟨?_, rfl⟩
  rw [E.out]
  first | rfl | (simp; done) | (simp; rw [hw]) | (simp; have := F.out; rw [← IntWalk.i64_left]; exact (IntWalk.i64_in _ (by omega)).symm)
theorem top_4 (n : Int) (w : World) (h0 : 0 ≤ n) (h1 : n < 16) : Calls Tryz.prog 103 #[.int .i64 n, .int .i64 0] w fun e w' => e = .returned (.int .i64 (topV n 0)) ∧ w' = w := by
  have hw : wrap64 (n / 16 * 16) = n / 16 * 16 := by rw [← IntWalk.i64_left]; exact IntWalk.i64_in _ (by omega)
  have hw2 : IntKind.i64.wrap (n / 16 * 16) = n / 16 * 16 := IntWalk.i64_in _ (by omega)
  have E : Hid (topV n 0 = n / 16 * 16) := rfl
  have F : Hid (0 ≤ n ∧ n < 16) := ⟨h0, h1⟩
  clear h0 h1
  go_enter Tryz.func103, Tryz.ntmps103
  go_wp2_with fail
  go_ret
  refine ⟨?_, rfl⟩
  rw [E.out]
  first | rfl | (simp; done) | (simp; rw [hw]) | (simp; have := F.out; rw [← IntWalk.i64_left]; exact (IntWalk.i64_in _ (by omega)).symm)
theorem top_any (n b : Int) (w : World) (h0 : 0 ≤ n) (h1 : n < 16) (h2 : 0 ≤ b) (h3 : b ≤ 4) : Calls Tryz.prog 103 #[.int .i64 n, .int .i64 b] w fun e w' => e = .returned (.int .i64 (topV n b)) ∧ w' = w := by
  have hb : b = 0 ∨ b = 1 ∨ b = 2 ∨ b = 3 ∨ b = 4 := by omega
  rcases hb with rfl | rfl | rfl | rfl | rfl
  · exact top_4 n w h0 h1
  · exact top_3 n w h0 h1
  · exact top_2 n w h0 h1
  · exact top_1 n w h0 h1
  · exact top_0 n w h0 h1
theorem top_same (v b : Int) : (topV v b == v) = decide (v % 2 ^ bh b = 0) := by
  have h := Int.mul_ediv_add_emod v (2 ^ bh b)
  unfold topV
  rw [Bool.eq_iff_iff, Int.mul_comm]
  generalize (2 : Int) ^ bh b = m at *
  simp
  omega
theorem top_takes {r : Rt} {d : Int} (hr : isR r = true) : (topV d r.b == r.v) = takesB r d := by
  have h := Int.mul_ediv_add_emod r.v (2 ^ bh r.b)
  have h2 := (isR_val hr).2.2
  have hp : (0 : Int) < 2 ^ bh r.b := Int.pow_pos (by omega)
  unfold topV takesB
  rw [Bool.eq_iff_iff, Int.mul_comm]
  generalize (2 : Int) ^ bh r.b = m at *
  simp
  rw [h2, Int.add_zero] at h
  constructor
  · intro e
    rw [← h] at e
    exact Int.eq_of_mul_eq_mul_left (by omega) e
  · intro e
    rw [e, h]

set_option maxHeartbeats 2000000 in
theorem right_case (v b p t : Int) (w : World) (x0 x1 x3 : Bool)
    (h0 : Hid (∀ w, Calls Tryz.prog 34 #[.int .i64 b, .int .i64 0, .int .i64 4] w fun e w' => e = .returned (.bool x0) ∧ w' = w))
    (h1 : Hid (∀ w, Calls Tryz.prog 34 #[.int .i64 v, .int .i64 0, .int .i64 15] w fun e w' => e = .returned (.bool x1) ∧ w' = w))
    (h2 : Hid ((x0 && x1) = true → ∀ w, Calls Tryz.prog 103 #[.int .i64 v, .int .i64 b] w fun e w' => e = .returned (.int .i64 t) ∧ w' = w))
    (h3 : Hid (∀ w, Calls Tryz.prog 34 #[.int .i64 p, .int .i64 0, .int .i64 3] w fun e w' => e = .returned (.bool x3) ∧ w' = w)) :
    Calls Tryz.prog 90 #[rtw v b p] w fun e w' => e = .returned (.bool (x0 && x1 && (t == v) && x3)) ∧ Below w.heap.size w w' := by
  have D0 := Below.al (Below.refl w.heap.size w) (.cells #[.int .i64 v, .int .i64 b, .int .i64 p] 60)
  cases x0
  · go_enter Tryz.func90, Tryz.ntmps90
    go_wp2_with fail
    go_quiet ((go_at_call_of 34 (Value.int .i64 b); exact Calls.quiet_of_same (h0.out _)))
    go_wp2_with fail
    go_ret
    exact ⟨by simp, belowNN D0 _⟩
  cases x1
  · go_enter Tryz.func90, Tryz.ntmps90
    go_wp2_with fail
    go_quiet ((first | (go_at_call_of 34 (Value.int .i64 b); exact Calls.quiet_of_same (h0.out _)) | (go_at_call_of 34 (Value.int .i64 v); exact Calls.quiet_of_same (h1.out _))))
    go_wp2_with fail
    go_ret
    exact ⟨by simp, belowNN D0 _⟩
  have H2 : Hid (∀ w, Calls Tryz.prog 103 #[.int .i64 v, .int .i64 b] w fun e w' => e = .returned (.int .i64 t) ∧ w' = w) := h2.out rfl
  clear h2
  cases ht : (t == v)
  · go_enter Tryz.func90, Tryz.ntmps90
    go_wp2_with fail
    go_quiet ((first | (go_at_call_of 34 (Value.int .i64 b); exact Calls.quiet_of_same (h0.out _)) | (go_at_call_of 34 (Value.int .i64 v); exact Calls.quiet_of_same (h1.out _)) | (go_at_call 103; exact Calls.quiet_of_same (H2.out _))))
    go_wp2_with fail
    go_ret
    exact ⟨by simp, belowNN D0 _⟩
  · go_enter Tryz.func90, Tryz.ntmps90
    go_wp2_with fail
    go_quiet ((first | (go_at_call_of 34 (Value.int .i64 b); exact Calls.quiet_of_same (h0.out _)) | (go_at_call_of 34 (Value.int .i64 v); exact Calls.quiet_of_same (h1.out _)) | (go_at_call_of 34 (Value.int .i64 p); exact Calls.quiet_of_same (h3.out _)) | (go_at_call 103; exact Calls.quiet_of_same (H2.out _))))
    go_wp2_with fail
    go_ret
    exact ⟨by simp, belowNN D0 _⟩
/-- rightRoute. -/
theorem rright_any (r : Rt) (w : World) : Calls Tryz.prog 90 #[rtw r.v r.b r.p] w fun e w' => e = .returned (.bool (isR r)) ∧ Below w.heap.size w w' := by
  obtain ⟨v, b, p⟩ := r
  have e : isR ⟨v, b, p⟩ = ((decide (0 ≤ b) && decide (b ≤ 4)) && (decide (0 ≤ v) && decide (v ≤ 15)) && (topV v b == v) && (decide (0 ≤ p) && decide (p ≤ 3))) := by
    rw [top_same, show decide (v ≤ 15) = decide (v < 16) by rw [decide_eq_decide]; omega, show decide (p ≤ 3) = decide (p < 4) by rw [decide_eq_decide]; omega]
    simp only [isR, Bool.and_assoc]
  rw [e]
  refine right_case v b p (topV v b) w _ _ _ (fun w => finR b 0 4 w) (fun w => finR v 0 15 w) (fun h w => ?_) (fun w => finR p 0 3 w)
  simp only [Bool.and_eq_true, decide_eq_true_eq] at h
  exact top_any v b w h.2.1 (by omega) h.1.1 h.1.2

/-! ### Out -/
def pB (d : Int) (n : Nat) (r : Rt) : Bool := isR r && (r.b == (n : Int)) && takesB r d
/-- The document's route: the most bits first. -/
def rout (l : List Rt) (d : Int) : Nat → Option Rt
  | 0 => none
  | n + 1 => (l.find? (pB d n)).or (rout l d n)
def rp : Option Rt → Int
  | some r => r.p
  | none => 0
theorem find_take {xs : List Rt} {k : Nat} {r : Rt} {q : Rt → Bool} (h : xs[k]? = some r) : (xs.take (k + 1)).find? q = ((xs.take k).find? q).or (if q r then some r else none) := by
  obtain ⟨hk, e⟩ := List.getElem?_eq_some_iff.1 h
  rw [List.take_succ_eq_append_getElem hk, e, List.find?_append]
  congr 1
  simp only [List.find?_cons, List.find?_nil]
  cases q r <;> simp
theorem find_here {xs : List Rt} {k : Nat} {r : Rt} {q : Rt → Bool} (h : xs[k]? = some r) (h0 : (xs.take k).find? q = none) (hq : q r = true) : xs.find? q = some r := by
  have e := find_take (q := q) h
  rw [h0, hq] at e
  simp only [if_true, Option.none_or] at e
  rw [← List.take_append_drop (k + 1) xs, List.find?_append, e]
  rfl
theorem best_spec (d : Int) (l : List Rt) : ((bestOf l d).1 = -1 ∧ ∀ r ∈ l, (isR r && takesB r d) = false) ∨ (∃ n : Nat, n ≤ 4 ∧ (bestOf l d).1 = (n : Int) ∧ (∃ r, l.find? (pB d n) = some r ∧ r.p = (bestOf l d).2) ∧ ∀ r ∈ l, (isR r && takesB r d) = true → r.b ≤ (n : Int)) := by
  suffices H : ∀ m : List Rt, ((bestOf m.reverse d).1 = -1 ∧ ∀ r ∈ m.reverse, (isR r && takesB r d) = false) ∨ (∃ n : Nat, n ≤ 4 ∧ (bestOf m.reverse d).1 = (n : Int) ∧ (∃ r, m.reverse.find? (pB d n) = some r ∧ r.p = (bestOf m.reverse d).2) ∧ ∀ r ∈ m.reverse, (isR r && takesB r d) = true → r.b ≤ (n : Int)) by
    have := H l.reverse
    rw [List.reverse_reverse] at this
    exact this
  intro m
  induction m with
  | nil => exact Or.inl ⟨rfl, fun r h => by cases h⟩
  | cons x m ih =>
    rw [List.reverse_cons, bestOf_snoc]
    generalize m.reverse = l at *
    by_cases hq : (isR x && takesB x d) = true
    · have hb := isR_bits (by simp only [Bool.and_eq_true] at hq; exact hq.1)
      obtain ⟨n', hn'⟩ : ∃ n' : Nat, x.b = (n' : Int) := ⟨x.b.toNat, by omega⟩
      by_cases hm : (bestOf l d).1 < x.b
      · have e : better d (bestOf l d) x = (x.b, x.p) := by
          unfold better
          rw [hq, Bool.true_and, if_pos (decide_eq_true hm)]
        rw [e]
        refine Or.inr ⟨n', by omega, hn', ⟨x, ?_, rfl⟩, ?_⟩
        · have h0 : l.find? (pB d n') = none := by
            rw [List.find?_eq_none]
            intro r hr hp
            simp only [pB, Bool.and_eq_true, beq_iff_eq] at hp
            rcases ih with ⟨_, h⟩ | ⟨n, _, e1, _, h⟩
            · have := h r hr
              rw [hp.1.1, hp.2] at this
              cases this
            · have := h r hr (by rw [hp.1.1, hp.2]; rfl)
              omega
          rw [List.find?_append, h0, Option.none_or]
          simp only [List.find?_cons]
          have : pB d n' x = true := by
            simp only [Bool.and_eq_true] at hq
            simp only [pB, hq.1, hq.2, hn', beq_self_eq_true, Bool.and_self]
          rw [this]
        · intro r hr hqr
          rcases List.mem_append.1 hr with hr | hr
          · rcases ih with ⟨_, h⟩ | ⟨n, _, e1, _, h⟩
            · have := h r hr
              rw [hqr] at this
              cases this
            · have := h r hr hqr
              omega
          · simp only [List.mem_cons, List.not_mem_nil, or_false] at hr
            subst hr
            omega
      · have e : better d (bestOf l d) x = bestOf l d := by
          unfold better
          rw [hq, Bool.true_and, if_neg (by simp only [decide_eq_true_eq]; exact hm)]
        rw [e]
        rcases ih with ⟨e1, _⟩ | ⟨n, hn, e1, ⟨r0, hf, hp⟩, h⟩
        · omega
        · refine Or.inr ⟨n, hn, e1, ⟨r0, by rw [List.find?_append, hf]; rfl, hp⟩, ?_⟩
          intro r hr hqr
          rcases List.mem_append.1 hr with hr | hr
          · exact h r hr hqr
          · simp only [List.mem_cons, List.not_mem_nil, or_false] at hr
            subst hr
            omega
    · have e : better d (bestOf l d) x = bestOf l d := by
        unfold better
        rw [if_neg (by simp only [Bool.and_eq_true] at hq ⊢; exact fun h => hq h.1)]
      rw [e]
      have hq' : (isR x && takesB x d) = false := by simpa using hq
      rcases ih with ⟨e1, h⟩ | ⟨n, hn, e1, ⟨r0, hf, hp⟩, h⟩
      · refine Or.inl ⟨e1, fun r hr => ?_⟩
        rcases List.mem_append.1 hr with hr | hr
        · exact h r hr
        · simp only [List.mem_cons, List.not_mem_nil, or_false] at hr
          subst hr
          exact hq'
      · refine Or.inr ⟨n, hn, e1, ⟨r0, by rw [List.find?_append, hf]; rfl, hp⟩, ?_⟩
        intro r hr hqr
        rcases List.mem_append.1 hr with hr | hr
        · exact h r hr hqr
        · simp only [List.mem_cons, List.not_mem_nil, or_false] at hr
          subst hr
          rw [hq'] at hqr
          cases hqr
theorem rout_none {l : List Rt} {d : Int} (h : ∀ r ∈ l, (isR r && takesB r d) = false) : ∀ n, rout l d n = none
  | 0 => rfl
  | n + 1 => by
    have : l.find? (pB d n) = none := by
      rw [List.find?_eq_none]
      intro r hr hp
      simp only [pB, Bool.and_eq_true] at hp
      have := h r hr
      rw [hp.1.1, hp.2] at this
      cases this
    rw [rout, this, Option.none_or]
    exact rout_none h n
theorem rout_hit {l : List Rt} {d : Int} {n : Nat} {r : Rt} (hf : l.find? (pB d n) = some r) (h : ∀ r ∈ l, (isR r && takesB r d) = true → r.b ≤ (n : Int)) : ∀ N, n < N → rout l d N = some r
  | 0, hN => by omega
  | N + 1, hN => by
    by_cases he : n = N
    · subst he
      rw [rout, hf]
      rfl
    · have : l.find? (pB d N) = none := by
        rw [List.find?_eq_none]
        intro r hr hp
        simp only [pB, Bool.and_eq_true, beq_iff_eq] at hp
        have := h r hr (by rw [hp.1.1, hp.2]; rfl)
        omega
      rw [rout, this, Option.none_or]
      exact rout_hit hf h N (by omega)
/-- The document's route is the best one. -/
theorem rout_out (l : List Rt) {d : Int} (hd : 0 ≤ d ∧ d < 16) : rp (rout l d 5) = outN l d ∧ (rout l d 5).isSome = outB l d := by
  unfold outN outB
  rw [if_pos hd, decide_eq_true hd.1, decide_eq_true hd.2]
  rcases best_spec d l with ⟨e, h⟩ | ⟨n, hn, e, ⟨r, hf, hp⟩, h⟩
  · rw [rout_none h 5, (bestOf_low l d).2 e, e]
    exact ⟨rfl, rfl⟩
  · rw [rout_hit hf h 5 (by omega), e, ← hp]
    refine ⟨rfl, ?_⟩
    have : ((n : Int) == -1) = false := by simp
    rw [this]
    rfl

end Go.Proofs.YtnkgjkoncglfjaaGreatDoor




namespace Go.Proofs.YtnkgjkoncglfjaaGreatDoor
open Go.RowKit

set_option maxHeartbeats 8000000 in
set_option maxRecDepth 100000 in
theorem routes_row (b o cap : Nat) (xs : List Rt) (w : World) (hb : b < w.heap.size) (hr : Hid (TAt w b o xs)) (h8 : xs.length ≤ 8) :
    Calls Tryz.prog 62 #[.slice (some ⟨b, o, none⟩) xs.length cap] w fun e w' => e = .returned (.int .i64 (checkFrom xs 0)) ∧ Below w.heap.size w w' := by
  have t8 : decide ((8 : Int) < (xs.length : Int)) = false := by simp; omega
  go_enter Tryz.func62, Tryz.ntmps62
  go_wp2_with fail
  go_loopw [3] (fun i wr => ∃ k : Nat, i = .int .i64 (k : Int) ∧ k ≤ xs.length ∧ Below w.heap.size w wr ∧ Hid (checkFrom xs 0 = checkFrom xs k)) (fun i _ => xs.length - (intOf i).toNat)
  case atStart => exact ⟨0, rfl, by omega, Below.refl _ _, rfl⟩
  case round =>
    obtain ⟨k, rfl, hk, D1, hl⟩ := hrel
    by_cases hlt : k < xs.length
    · obtain ⟨r, hxk⟩ : ∃ r, xs[k]? = some r := ⟨_, List.getElem?_eq_getElem hlt⟩
      obtain ⟨c0, c1, c2⟩ := (hr.out.below D1 hb).at hxk
      have Hd : Hid (checkFrom xs k = if (if isR r then (if (xs.take k).any (fun a => sameA a r) then 5 else 0) else 1 : Int) = 0 then checkFrom xs (k + 1) else (if isR r then (if (xs.take k).any (fun a => sameA a r) then 5 else 0) else 1 : Int)) := checkFrom_at hxk
      have IS : Hid (∀ w, Calls Tryz.prog 90 #[rtw r.v r.b r.p] w fun e w' => e = .returned (.bool (isR r)) ∧ Below w.heap.size w w') := fun w => rright_any r w
      have HX : Hid (xs[k]? = some r) := hxk
      have k1 : (0 : Int) ≤ (k : Int) := by omega
      have k2 : (k : Int) < (xs.length : Int) := by omega
      clear hxk
      cases hx : isR r
      · rw [hx] at IS Hd
        have fin : Hid (checkFrom xs 0 = 1) := by show _ = _; rw [hl.out, Hd.out]; simp
        clear hl Hd HX hx
        generalize r.v = rv0 at *
        generalize r.b = rb0 at *
        generalize r.p = rp0 at *
        go_wp2_with fail
        refine (IS.out _).mono ?_
        rintro e w3 ⟨rfl, hb3⟩
        have D3 := chn hb3 D1
        clear hb3 D1 c0 c1 c2 IS
        go_wp2_with fail
        go_ret
        exact ⟨by rw [fin.out]; rfl, D3⟩
      · rw [hx] at IS Hd
        clear hx
        go_wp2_with fail
        refine (IS.out _).mono ?_
        rintro e w3 ⟨rfl, hb3⟩
        have D3 := chn hb3 D1
        clear hb3 D1 c0 c1 c2 IS
        go_wp2_with fail
        go_loopw [4] (fun i wr => ∃ j : Nat, i = .int .i64 (j : Int) ∧ j ≤ k ∧ Below w.heap.size w wr ∧ Hid ((xs.take j).any (fun a => sameA a r) = false)) (fun i _ => k - (intOf i).toNat)
        case atStart => exact ⟨0, rfl, by omega, D3, rfl⟩
        case round =>
          clear D3
          obtain ⟨j, rfl, hj, D1, hno⟩ := hrel
          by_cases hjk : j < k
          · obtain ⟨a, hxj⟩ : ∃ a, xs[j]? = some a := ⟨_, List.getElem?_eq_getElem (by omega)⟩
            obtain ⟨c0, c1, c2⟩ := (hr.out.below D1 hb).at HX.out
            obtain ⟨g0, g1, g2⟩ := (hr.out.below D1 hb).at hxj
            have j1 : (0 : Int) ≤ (j : Int) := by omega
            have j2 : (j : Int) < (xs.length : Int) := by omega
            have NX : Hid (((a.v == r.v) && (a.b == r.b)) = false → Hid ((xs.take (j + 1)).any (fun a => sameA a r) = false)) := fun h => by
              show _ = _
              rw [any_take hxj, hno.out]
              exact h
            have HT : Hid (((a.v == r.v) && (a.b == r.b)) = true → checkFrom xs 0 = 5) := fun h => by
              have : (xs.take k).any (fun a => sameA a r) = true := any_here (k := j) (by rw [List.getElem?_take]; simp [hjk]; rw [← hxj]) h
              rw [hl.out, Hd.out, this]
              simp
            clear hxj hno
            generalize a.v = av0 at *
            generalize a.b = ab0 at *
            generalize a.p = ap0 at *
            generalize r.v = rv0 at *
            generalize r.b = rb0 at *
            generalize r.p = rp0 at *
            cases hv : (av0 == rv0)
            · have NX' : Hid (Hid ((xs.take (j + 1)).any (fun a => sameA a r) = false)) := NX.out (by rw [hv]; rfl)
              clear NX HT
              go_wp2_with fail
              go_quiet (fail)
              go_wp2_with fail
              go_roundw
              case rel => exact ⟨j + 1, by go_num, by omega, belowNN D1 _, NX'.out⟩
              case measure => simp [intOf]; omega
            · cases hv2 : (ab0 == rb0)
              · have NX' : Hid (Hid ((xs.take (j + 1)).any (fun a => sameA a r) = false)) := NX.out (by rw [hv, hv2]; rfl)
                clear NX HT
                go_wp2_with fail
                go_quiet (fail)
                go_wp2_with fail
                go_roundw
                case rel => exact ⟨j + 1, by go_num, by omega, belowNN D1 _, NX'.out⟩
                case measure => simp [intOf]; omega
              · have fin : Hid (checkFrom xs 0 = 5) := HT.out (by rw [hv, hv2]; rfl)
                clear NX HT
                go_wp2_with fail
                go_quiet (fail)
                go_wp2_with fail
                go_ret
                exact ⟨by rw [fin.out]; rfl, belowNN D1 _⟩
          · obtain rfl : j = k := by omega
            have HN : Hid (checkFrom xs 0 = checkFrom xs (j + 1)) := by
              show _ = _
              rw [hl.out, Hd.out, hno.out]
              simp
            go_wp2_with fail
            go_roundw
            case rel => exact ⟨j + 1, by go_num, by omega, D1, HN⟩
            case measure => simp [intOf]; omega
    · have fin : Hid (checkFrom xs 0 = 0) := by show _ = _; rw [hl.out, checkFrom_end (by omega)]
      go_wp2_with fail
      go_ret
      exact ⟨by rw [fin.out]; rfl, D1⟩
set_option maxHeartbeats 1000000 in
theorem routes_nil (A : Option Addr) (cap : Nat) (w : World) :
    Calls Tryz.prog 62 #[.slice A 0 cap] w fun e w' => e = .returned (.int .i64 0) ∧ Below w.heap.size w w' := by
  go_enter Tryz.func62, Tryz.ntmps62
  go_wp2_with fail
  go_loopw [3] (fun i wr => i = .int .i64 0 ∧ Below w.heap.size w wr) (fun i _ => 0)
  case atStart => exact ⟨rfl, Below.refl _ _⟩
  case round =>
    obtain ⟨rfl, D1⟩ := hrel
    go_wp2_with fail
    go_ret
    exact ⟨rfl, D1⟩
theorem routes_large (A : Option Addr) (n cap : Nat) (w : World) (h : 8 < n) :
    Calls Tryz.prog 62 #[.slice A n cap] w fun e w' => e = .returned (.int .i64 2) ∧ Below w.heap.size w w' := by
  have t8 : decide ((8 : Int) < (n : Int)) = true := by simp; omega
  go_enter Tryz.func62, Tryz.ntmps62
  go_wp2_with fail
  go_ret
  exact ⟨rfl, Below.refl _ _⟩
/-- The document's Check. -/
theorem routes_any {v : Value} {xs : List Rt} (w : World) (h : Routes w.heap.size w v xs) :
    Calls Tryz.prog 62 #[v] w fun e w' => e = .returned (.int .i64 (checkV xs)) ∧ Below w.heap.size w w' := by
  obtain ⟨A, cap, rfl, _, _, _, h3⟩ := h
  unfold checkV
  by_cases h8 : 8 < xs.length
  · rw [if_pos h8]
    exact routes_large A xs.length cap w h8
  · rw [if_neg h8]
    by_cases hx : xs = []
    · subst hx
      rw [checkFrom_end (by simp)]
      exact routes_nil A cap w
    · obtain ⟨b, o, rfl, hb, hr⟩ := h3 hx
      exact routes_row b o cap xs w hb hr (by omega)
end Go.Proofs.YtnkgjkoncglfjaaGreatDoor



