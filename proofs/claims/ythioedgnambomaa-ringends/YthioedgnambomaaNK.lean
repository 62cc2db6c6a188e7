/-
  Package net: Check.
-/
import Derived.Test.YthioedgnambomaaNCk
import Derived.Test.YthioedgnambomaaND
namespace Go.Proofs.Ythioedgnambomaa
open Go.RowKit

theorem Seven.drew {w : World} {n : Nat} {a b c d e f g : Value} (h : Seven w n a b c d e f g) : Seven w.drew n a b c d e f g := h
set_option maxHeartbeats 8000000 in
set_option maxRecDepth 100000 in
theorem net_row (A B : Option Addr) (cap cap' : Nat) (ds : List Dv) (ls : List Lk) (res : Int) (w : World) (hD : Hid (Devs w.heap.size w (.slice A ds.length cap) ds)) (hL : Hid (Links w.heap.size w (.slice B ls.length cap') ls)) (h10 : ds.length ≤ 10) (h15 : ls.length ≤ 15) (HR : Hid (res = if devsFrom ds 0 = 0 then linksFrom ds ls 0 else devsFrom ds 0)) :
    Calls Try.prog 16 #[.agg #[.slice A ds.length cap, .slice B ls.length cap']] w fun e w' => e = .returned (.int .i64 res) ∧ Below w.heap.size w w' := by
  obtain ⟨_, hc, hm⟩ := hD.out.len
  obtain ⟨_, hc', hm'⟩ := hL.out.len
  unfold maxLen at hm hm'
  have t10 : decide ((10 : Int) < (ds.length : Int)) = false := by simp; omega
  have t15 : decide ((15 : Int) < (ls.length : Int)) = false := by simp; omega
  have D0 := Below.alN (Below.refl w.heap.size w) (.cells #[.slice A ds.length cap, .slice B ls.length cap'] 25)
  have B0 := box2_new w (.slice A ds.length cap) (.slice B ls.length cap') 25
  go_enter Try.func16, Try.ntmps16
  go_wp2_with fail
  go_loopw [21] (fun i wr => ∃ k : Nat, i = .int .i64 (k : Int) ∧ k ≤ ds.length ∧ Below w.heap.size w wr ∧ Box2 wr w.heap.size (.slice A ds.length cap) (.slice B ls.length cap') ∧ Hid (devsFrom ds 0 = devsFrom ds k)) (fun i _ => ds.length - (intOf i).toNat)
  case atStart => exact ⟨0, rfl, by omega, D0, B0, rfl⟩
  case round =>
    clear D0 B0
    obtain ⟨k, rfl, hk, D1, B1, hl⟩ := hrel
    by_cases hlt : k < ds.length
    · obtain ⟨d, hxk⟩ : ∃ d, ds[k]? = some d := ⟨_, List.getElem?_eq_getElem hlt⟩
      obtain ⟨b, o, vb, vr, vt, rfl, hb, z1, z2, z3, c0, c1, c2, c3, c4, c5, c6⟩ := (hD.out.below D1).at hxk
      obtain ⟨Ab, cb, rfl, _, _, _, _⟩ := z1
      obtain ⟨Ar, cr, rfl, _, _, _, _⟩ := z2
      obtain ⟨At, ct, rfl, _, _, _, _⟩ := z3
      have HF : Hid (devsFrom ds k = if devTold (ds.take k) d = 0 then devsFrom ds (k + 1) else devTold (ds.take k) d) := devsFrom_at hxk
      have CD : Hid (∀ W, Below w.heap.size w W → Calls Try.prog 26 #[devA d.name d.kind d.addr d.pool (.slice Ab d.backs.length cb) (.slice Ar d.rules.length cr) (.slice At d.routes.length ct), .slice (some ⟨b, o, none⟩) k cap] W fun e w' => e = .returned (.int .i64 (devTold (ds.take k) d)) ∧ Below W.heap.size W w') := fun W h => by
        have hd := hD.out.below h
        obtain ⟨b', o', vb', vr', vt', e1, _, s1, s2, s3, q0, q1, q2, q3, q4, q5, q6⟩ := hd.at hxk
        cases e1
        have g4 := (D1.cell (p := ⟨b, o + k * 7 + 4, none⟩) hb).symm.trans c4
        have g5 := (D1.cell (p := ⟨b, o + k * 7 + 5, none⟩) hb).symm.trans c5
        have g6 := (D1.cell (p := ⟨b, o + k * 7 + 6, none⟩) hb).symm.trans c6
        have f4 := (h.cell (p := ⟨b, o + k * 7 + 4, none⟩) hb).symm.trans q4
        have f5 := (h.cell (p := ⟨b, o + k * 7 + 5, none⟩) hb).symm.trans q5
        have f6 := (h.cell (p := ⟨b, o + k * 7 + 6, none⟩) hb).symm.trans q6
        obtain rfl := Option.some.inj (g4.symm.trans f4)
        obtain rfl := Option.some.inj (g5.symm.trans f5)
        obtain rfl := Option.some.inj (g6.symm.trans f6)
        exact checkDevice_any d _ _ _ _ k cap (ds.take k) W (Devs.mono (SlAt.take hd k (by omega)) h.size) (SlAt.mono s1 h.size (fun _ _ _ h => h)) (SlAt.mono s2 h.size (fun _ _ _ h => h)) (SlAt.mono s3 h.size (fun _ _ _ h => h))
      have k1 : (0 : Int) ≤ (k : Int) := by omega
      have k2 : (k : Int) < (ds.length : Int) := by omega
      have k3 : (k : Int) ≤ (cap : Int) := by omega
      have lw := D1.size
      clear hxk
      generalize devTold (ds.take k) d = dv at *
      generalize d.backs.length = nb at *
      generalize d.rules.length = nr at *
      generalize d.routes.length = nt at *
      generalize d.name = nm at *
      generalize d.kind = kd at *
      generalize d.addr = ad at *
      generalize d.pool = pl at *
      have D2 := Below.alN D1 (.cells #[.string nm, .int .i64 kd, .int .i64 ad, .int .u8 (pl : Int), .slice Ab nb cb, .slice Ar nr cr, .slice At nt ct] 42)
      have B2 := B1.alloc (.cells #[.string nm, .int .i64 kd, .int .i64 ad, .int .u8 (pl : Int), .slice Ab nb cb, .slice Ar nr cr, .slice At nt ct] 42)
      have V2 := seven_new wr (.string nm) (.int .i64 kd) (.int .i64 ad) (.int .u8 (pl : Int)) (.slice Ab nb cb) (.slice Ar nr cr) (.slice At nt ct) 42
      have D3 := D2.drew
      obtain ⟨_, f0, f1, _⟩ := id B2
      obtain ⟨_, v0, v1, v2, v3, v4, v5, v6⟩ := id V2
      clear hD hL
      go_wp2_with fail
      go_region_held3 (fun w' => w'.cell? ⟨w.heap.size, 0, none⟩ = some (.slice (some ⟨b, o, none⟩) ds.length cap) ∧ w'.cell? ⟨wr.heap.size, 0, none⟩ = some (.string nm) ∧ w'.cell? ⟨wr.heap.size, 1, none⟩ = some (.int .i64 kd) ∧ w'.cell? ⟨wr.heap.size, 2, none⟩ = some (.int .i64 ad) ∧ w'.cell? ⟨wr.heap.size, 3, none⟩ = some (.int .u8 (pl : Int)) ∧ w'.cell? ⟨wr.heap.size, 4, none⟩ = some (.slice Ab nb cb) ∧ w'.cell? ⟨wr.heap.size, 5, none⟩ = some (.slice Ar nr cr) ∧ w'.cell? ⟨wr.heap.size, 6, none⟩ = some (.slice At nt ct)) (go_keep) ((go_at_call 26; refine (CD.out _ D3).mono ?_; rintro e w2 ⟨rfl, hb2⟩; have D4 := chnN hb2 D3; have B4 := B2.drew.below hb2 B2.1; have V4 := V2.drew.below hb2 V2.1; obtain ⟨_, p0, p1, _⟩ := id B4; obtain ⟨_, r0, r1, r2, r3, r4, r5, r6⟩ := id V4))
      clear c0 c1 c2 c3 c4 c5 c6 f0 f1 v0 v1 v2 v3 v4 v5 v6 D1 D2 D3 B1 B2 V2 hb2 CD
      cases h0 : (dv == 0)
      · have HV : Hid (res = dv) := by
          have hne : ¬ dv = 0 := by simpa using h0
          show _ = _
          rw [HR.out, hl.out, HF.out, if_neg hne, if_neg hne]
        go_wp2_with fail
        go_ret
        exact ⟨by rw [HV.out]; rfl, D4⟩
      · have HV : Hid (devsFrom ds 0 = devsFrom ds (k + 1)) := by
          have he : dv = 0 := by simpa using h0
          show _ = _
          rw [hl.out, HF.out, if_pos he]
        go_wp2_with fail
        go_roundw
        case rel => exact ⟨k + 1, by go_num, by omega, D4, B4, HV⟩
        case measure => simp [intOf]; omega
    · have HZ : Hid (res = linksFrom ds ls 0) := by
        show _ = _
        rw [HR.out, hl.out, devsFrom_end (by omega), if_pos rfl]
      clear hl HR
      obtain ⟨_, g0, g1, _⟩ := id B1
      go_wp2_with fail
      go_loopw [39] (fun i wr => ∃ k : Nat, i = .int .i64 (k : Int) ∧ k ≤ ls.length ∧ Below w.heap.size w wr ∧ Box2 wr w.heap.size (.slice A ds.length cap) (.slice B ls.length cap') ∧ Hid (res = linksFrom ds ls k)) (fun i _ => ls.length - (intOf i).toNat)
      case atStart => exact ⟨0, rfl, by omega, D1, B1, HZ⟩
      case round =>
        clear D1 B1 HZ g0 g1
        obtain ⟨j, rfl, hj, D1, B1, hl⟩ := hrel
        by_cases hjl : j < ls.length
        · obtain ⟨l, hxk⟩ : ∃ l, ls[j]? = some l := ⟨_, List.getElem?_eq_getElem hjl⟩
          have HF : Hid (linksFrom ds ls j = if linkTold ds (ls.take j) l = 0 then linksFrom ds ls (j + 1) else linkTold ds (ls.take j) l) := linksFrom_at hxk
          have HX : Hid (ls[j]? = some l) := hxk
          have CD : Hid (∀ W, Below w.heap.size w W → Calls Try.prog 27 #[.agg #[.slice A ds.length cap, .slice B ls.length cap'], .int .i64 (j : Int)] W fun e w' => e = .returned (.int .i64 (linkTold ds (ls.take j) l)) ∧ Below W.heap.size W w') := fun W h => checkLink_any A B cap cap' ds ls j l W HX ((hD.out.below h).mono h.size) ((hL.out.below h).mono h.size)
          have lw := D1.size
          obtain ⟨_, g0, g1, _⟩ := id B1
          clear hxk HX hD hL
          generalize linkTold ds (ls.take j) l = dv at *
          go_wp2_with fail
          refine (CD.out _ D1).mono ?_
          rintro e w2 ⟨rfl, hb2⟩
          have D4 := chnN hb2 D1
          have B4 := B1.below hb2 B1.1
          clear D1 B1 hb2 CD g0 g1
          cases h0 : (dv == 0)
          · have HV : Hid (res = dv) := by
              have hne : ¬ dv = 0 := by simpa using h0
              show _ = _
              rw [hl.out, HF.out, if_neg hne]
            go_wp2_with fail
            go_ret
            exact ⟨by rw [HV.out]; rfl, D4⟩
          · have HV : Hid (res = linksFrom ds ls (j + 1)) := by
              have he : dv = 0 := by simpa using h0
              show _ = _
              rw [hl.out, HF.out, if_pos he]
            go_wp2_with fail
            go_roundw
            case rel => exact ⟨j + 1, by go_num, by omega, D4, B4, HV⟩
            case measure => simp [intOf]; omega
        · have HV : Hid (res = 0) := by
            show _ = _
            rw [hl.out, linksFrom_end (by omega)]
          go_wp2_with fail
          go_ret
          exact ⟨by rw [HV.out]; rfl, D1⟩
set_option maxHeartbeats 1000000 in
/-- Check. -/
theorem net_any (vd vl : Value) (ds : List Dv) (ls : List Lk) (w : World) (hD : Devs w.heap.size w vd ds) (hL : Links w.heap.size w vl ls) :
    Calls Try.prog 16 #[.agg #[vd, vl]] w fun e w' => e = .returned (.int .i64 (netV ds ls)) ∧ Below w.heap.size w w' := by
  have hD0 := hD
  have hL0 := hL
  obtain ⟨A, cap, rfl, _, _, _, _⟩ := hD
  obtain ⟨B, cap', rfl, _, _, _, _⟩ := hL
  unfold netV
  by_cases h : 10 < ds.length ∨ 15 < ls.length
  · rw [if_pos h]
    have D0 := Below.alN (Below.refl w.heap.size w) (.cells #[.slice A ds.length cap, .slice B ls.length cap'] 25)
    clear hD0 hL0
    by_cases h10 : 10 < ds.length
    · have t10 : decide ((10 : Int) < (ds.length : Int)) = true := by simp; omega
      clear h
      go_enter Try.func16, Try.ntmps16
      go_wp2_with fail
      go_ret
      exact ⟨rfl, D0⟩
    · have t10 : decide ((10 : Int) < (ds.length : Int)) = false := by simp; omega
      have t15 : decide ((15 : Int) < (ls.length : Int)) = true := by simp; omega
      clear h
      go_enter Try.func16, Try.ntmps16
      go_wp2_with fail
      go_ret
      exact ⟨rfl, D0⟩
  · rw [if_neg h]
    exact net_row A B cap cap' ds ls _ w hD0 hL0 (by omega) (by omega) rfl
end Go.Proofs.Ythioedgnambomaa
