/-
  Package net: a device.
-/
import Derived.Test.YtnkgjkoncglfjaaGreatDoorZH
import Derived.Test.YtnkgjkoncglfjaaGreatDoorFC
import Derived.Test.YtnkgjkoncglfjaaGreatDoorZG
namespace Go.Proofs.YtnkgjkoncglfjaaGreatDoor
open Go.RowKit

/-- What checkDevice tells, by its own tests. -/
def progDev (k ad : Int) (pl : Nat) (bs : List Int) (nr nt : Nat) (c : Int) : Int :=
  if (portsV k == 0) || !addrF k ad || !poolF k pl then 1 else if 3 < bs.length then 2 else if !backsF k ad bs || !listsF k nr nt then 1 else if 8 < nr then 2 else c
theorem progDev_eq (k ad : Int) (pl : Nat) (bs : List Int) (nr nt : Nat) (c : Int) : progDev k ad pl bs nr nt c = devV k ad pl bs nr nt c := by
  have ea : addrB ad = (decide (0 ≤ ad) && decide (ad ≤ 15)) := by
    unfold addrB
    congr 1
    rw [decide_eq_decide]
    omega
  have eb : decide (backsFrom bs ad 0 = 0) = !decide (backsFrom bs ad 0 = 1) := by
    rcases backsFrom_vals bs ad bs.length 0 (by omega) with h | h <;> rw [h] <;> rfl
  have ep : (!((pl : Int) == 0)) = decide (0 < pl) := by
    rw [Bool.eq_iff_iff]
    simp
    omega
  have el : decide (0 < bs.length) = !decide (bs.length = 0) := by
    rw [Bool.eq_iff_iff]
    simp only [decide_eq_true_eq, Bool.not_eq_true', decide_eq_false_iff_not]
    omega
  have er : decide (nr = 0) = !decide (0 < nr) := by
    rw [Bool.eq_iff_iff]
    simp
  have et : decide (nt = 0) = !decide (0 < nt) := by
    rw [Bool.eq_iff_iff]
    simp
  unfold progDev devV addrF poolF backsF listsF
  rw [ea, eb, ep, el, er, et]
  have ek : (portsV k == 0) = !(decide (1 ≤ k) && decide (k ≤ 5)) := by
    unfold portsV
    rw [Bool.eq_iff_iff]
    simp only [beq_iff_eq, Bool.not_eq_true', Bool.and_eq_false_iff, decide_eq_false_iff_not]
    split
    · omega
    · split
      · omega
      · split <;> omega
  rw [ek]
  cases hk : (decide (1 ≤ k) && decide (k ≤ 5))
  · simp
  · have hk' : 1 ≤ k ∧ k ≤ 5 := by simpa using hk
    generalize (decide (0 ≤ ad) && decide (ad ≤ 15)) = x1
    generalize decide (0 < pl) = x2
    generalize decide (bs.length = 0) = x3
    generalize decide (0 < nr) = x5
    generalize decide (0 < nt) = x6
    generalize (ad == 0) = x7
    by_cases h4 : backsFrom bs ad 0 = 1
    all_goals
      simp only [h4, decide_true, decide_false, if_true, if_false]
      have hkk : k = 1 ∨ k = 2 ∨ k = 3 ∨ k = 4 ∨ k = 5 := by omega
      rcases hkk with rfl | rfl | rfl | rfl | rfl <;> simp only [hasAddr] <;> cases x1 <;> cases x2 <;> cases x3 <;> cases x5 <;> cases x6 <;> cases x7 <;> simp
/-- What checkDevice tells. -/
def devTold (ahead : List Dv) (d : Dv) : Int := if nameOk d.name then (if ahead.any (fun x => x.name.toList == d.name.toList) then 5 else devC d) else 3
set_option maxHeartbeats 8000000 in
set_option maxRecDepth 100000 in
theorem checkDevice_any (d : Dv) (vb vr vt : Value) (A : Option Addr) (n cap : Nat) (ahead : List Dv) (w : World) (hA : Devs w.heap.size w (.slice A n cap) ahead) (hb : SlAt w.heap.size w 1 IsI vb d.backs) (hr : SlAt w.heap.size w 5 IsRule vr d.rules) (ht : SlAt w.heap.size w 3 IsRoute vt d.routes) :
    Calls Tryz.prog 26 #[devA d.name d.kind d.addr d.pool vb vr vt, .slice A n cap] w fun e w' => e = .returned (.int .i64 (devTold ahead d)) ∧ Below w.heap.size w w' := by
  have FC : Hid (∀ W, Below w.heap.size w W → Calls Tryz.prog 54 #[vt] W fun e w' => e = .returned (.int .i64 (checkV (d.routes.map rtOf))) ∧ Below W.heap.size W w') := fun W h => check_any W (routes_of (SlAt.mono (SlAt.below ht h (fun _ _ _ h => h)) h.size (fun _ _ _ h => h)))
  have FI : Hid (∀ W, Below w.heap.size w W → Calls Tryz.prog 44 #[.slice A n cap, .string d.name] W fun e w' => e = .returned (.tuple #[.int .i64 (if 0 ≤ findFrom ahead d.name.toList 0 then findFrom ahead d.name.toList 0 else 0), .bool (ahead.any (fun x => x.name.toList == d.name.toList))]) ∧ Below W.heap.size W w') := fun W h => by
    have := find_any A n cap ahead d.name W ((hA.below h).mono h.size)
    rw [findFrom_some] at this
    exact this
  have hb0 := hb
  obtain ⟨Ab, cb, rfl, _, b1, b2, _⟩ := hb
  obtain ⟨Ar, cr, rfl, _, r1, r2, _⟩ := hr
  obtain ⟨At, ct, rfl, _, t1, t2, _⟩ := ht
  have BF : Hid (∀ W, Below w.heap.size w W → Calls Tryz.prog 51 #[devA d.name d.kind d.addr d.pool (.slice Ab d.backs.length cb) (.slice Ar d.rules.length cr) (.slice At d.routes.length ct)] W fun e w' => e = .returned (.bool (backsF d.kind d.addr d.backs)) ∧ Below W.heap.size W w') := fun W h => backsFit_any _ _ _ _ _ _ _ _ _ W (SlAt.mono (SlAt.below hb0 h (fun _ _ _ h => h)) h.size (fun _ _ _ h => h)) b1 b2
  have NM : Hid (∀ w, Calls Tryz.prog 47 #[.string d.name] w fun e w' => e = .returned (.bool (nameOk d.name)) ∧ w' = w) := fun w => isName_any d.name w
  have PO : Hid (∀ w, Calls Tryz.prog 48 #[.int .i64 d.kind] w fun e w' => e = .returned (.int .i64 (portsV d.kind)) ∧ w' = w) := fun w => nports_any d.kind w
  have AF : Hid (∀ W, Calls Tryz.prog 49 #[devA d.name d.kind d.addr d.pool (.slice Ab d.backs.length cb) (.slice Ar d.rules.length cr) (.slice At d.routes.length ct)] W fun e w' => e = .returned (.bool (addrF d.kind d.addr)) ∧ Below W.heap.size W w') := fun W => addrFits_any _ _ _ _ _ _ _ W
  have PF : Hid (∀ W, Calls Tryz.prog 50 #[devA d.name d.kind d.addr d.pool (.slice Ab d.backs.length cb) (.slice Ar d.rules.length cr) (.slice At d.routes.length ct)] W fun e w' => e = .returned (.bool (poolF d.kind d.pool)) ∧ Below W.heap.size W w') := fun W => poolFits_any _ _ _ _ _ _ _ W
  have LF : Hid (∀ W, Calls Tryz.prog 52 #[devA d.name d.kind d.addr d.pool (.slice Ab d.backs.length cb) (.slice Ar d.rules.length cr) (.slice At d.routes.length ct)] W fun e w' => e = .returned (.bool (listsF d.kind d.rules.length d.routes.length)) ∧ Below W.heap.size W w') := fun W => listsFit_any _ _ _ _ _ _ _ _ _ _ _ W
  have AC : Hid (∀ w, Calls Tryz.prog 53 #[.slice Ar d.rules.length cr] w fun e w' => e = .returned (.int .i64 (if 8 < d.rules.length then 2 else 0)) ∧ w' = w) := fun w => aclCheck_any _ _ _ w
  generalize hres : devTold ahead d = res
  have HR : Hid (res = if nameOk d.name then (if ahead.any (fun x => x.name.toList == d.name.toList) then 5 else if (portsV d.kind == 0) || !addrF d.kind d.addr || !poolF d.kind d.pool then 1 else if 3 < d.backs.length then 2 else if !backsF d.kind d.addr d.backs || !listsF d.kind d.rules.length d.routes.length then 1 else if 8 < d.rules.length then 2 else checkV (d.routes.map rtOf)) else 3) := by
    show _ = _
    rw [← hres]
    unfold devTold devC
    rw [← progDev_eq]
    rfl
  clear hres hA hb0
  have D0 := Below.alN (Below.refl w.heap.size w) (.cells #[.string d.name, .int .i64 d.kind, .int .i64 d.addr, .int .u8 (d.pool : Int), .slice Ab d.backs.length cb, .slice Ar d.rules.length cr, .slice At d.routes.length ct] 50)
  have V0 := seven_new w (.string d.name) (.int .i64 d.kind) (.int .i64 d.addr) (.int .u8 (d.pool : Int)) (.slice Ab d.backs.length cb) (.slice Ar d.rules.length cr) (.slice At d.routes.length ct) 50
  generalize nameOk d.name = x0 at *
  generalize ahead.any (fun x => x.name.toList == d.name.toList) = x1 at *
  generalize (if 0 ≤ findFrom ahead d.name.toList 0 then findFrom ahead d.name.toList 0 else 0) = fi at *
  generalize portsV d.kind = pk at *
  generalize addrF d.kind d.addr = x3 at *
  generalize poolF d.kind d.pool = x4 at *
  generalize backsF d.kind d.addr d.backs = x5 at *
  generalize listsF d.kind d.rules.length d.routes.length = x6 at *
  generalize checkV (d.routes.map rtOf) = cv at *
  generalize d.backs.length = nb at *
  generalize d.rules.length = nr at *
  generalize d.routes.length = nt at *
  generalize d.name = nm at *
  generalize d.kind = kd at *
  generalize d.addr = ad at *
  generalize d.pool = pl at *
  go_enter Tryz.func26, Tryz.ntmps26
  go_wp2_with fail
  refine (NM.out _).mono ?_
  rintro e w' ⟨rfl, rfl⟩
  cases x0
  · go_wp2_with fail
    go_ret
    exact ⟨by rw [HR.out]; rfl, D0⟩
  go_wp2_with fail
  refine (FI.out _ D0).mono ?_
  rintro e w1 ⟨rfl, hb1⟩
  have D1 := chnN hb1 D0
  have V1 := V0.below hb1 V0.1
  clear hb1 D0 V0 FI NM
  obtain ⟨l1, q0, q1, q2, q3, q4, q5, q6⟩ := id V1
  cases x1
  · go_wp2_with fail
    refine (PO.out _).mono ?_
    rintro e w2 ⟨rfl, rfl⟩
    cases hpk : (pk == 0)
    · go_wp2_with fail
      refine (AF.out _).mono ?_
      rintro e w3 ⟨rfl, hb3⟩
      have D3 := chnN hb3 D1
      have V3 := V1.below hb3 V1.1
      clear hb3 D1 V1 AF PO q0 q1 q2 q3 q4 q5 q6
      obtain ⟨l3, q0, q1, q2, q3, q4, q5, q6⟩ := id V3
      cases x3
      · go_wp2_with fail
        go_ret
        exact ⟨by rw [HR.out, hpk]; rfl, D3⟩
      go_wp2_with fail
      refine (PF.out _).mono ?_
      rintro e w4 ⟨rfl, hb4⟩
      have D4 := chnN hb4 D3
      have V4 := V3.below hb4 V3.1
      clear hb4 D3 V3 PF q0 q1 q2 q3 q4 q5 q6
      obtain ⟨l4, q0, q1, q2, q3, q4, q5, q6⟩ := id V4
      cases x4
      · go_wp2_with fail
        go_ret
        exact ⟨by rw [HR.out, hpk]; rfl, D4⟩
      by_cases n3 : 3 < nb
      · have u3 : decide ((3 : Int) < (nb : Int)) = true := by simp; omega
        have HV : Hid (res = 2) := by show _ = _; rw [HR.out, hpk]; simp [n3]
        go_wp2_with fail
        go_ret
        exact ⟨by rw [HV.out]; rfl, D4⟩
      have u3 : decide ((3 : Int) < (nb : Int)) = false := by simp; omega
      have HR2 : Hid (res = if !x5 || !x6 then 1 else if 8 < nr then 2 else cv) := by show _ = _; rw [HR.out, hpk]; simp [n3]
      clear HR hpk
      go_wp2_with fail
      refine (BF.out _ D4).mono ?_
      rintro e w5 ⟨rfl, hb5⟩
      have D5 := chnN hb5 D4
      have V5 := V4.below hb5 V4.1
      clear hb5 D4 V4 BF q0 q1 q2 q3 q4 q5 q6
      obtain ⟨l5, q0, q1, q2, q3, q4, q5, q6⟩ := id V5
      cases x5
      · go_wp2_with fail
        go_ret
        exact ⟨by rw [HR2.out]; rfl, D5⟩
      go_wp2_with fail
      refine (LF.out _).mono ?_
      rintro e w6 ⟨rfl, hb6⟩
      have D6 := chnN hb6 D5
      have V6 := V5.below hb6 V5.1
      clear hb6 D5 V5 LF q0 q1 q2 q3 q4 q5 q6
      obtain ⟨l6, q0, q1, q2, q3, q4, q5, q6⟩ := id V6
      cases x6
      · go_wp2_with fail
        go_ret
        exact ⟨by rw [HR2.out]; rfl, D6⟩
      by_cases h8 : 8 < nr
      · have HV : Hid (res = 2) := by show _ = _; rw [HR2.out]; simp [h8]
        rw [if_pos h8] at AC
        go_wp2_with fail
        refine (AC.out _).mono ?_
        rintro e w7 ⟨rfl, rfl⟩
        go_wp2_with fail
        go_ret
        exact ⟨by rw [HV.out]; rfl, D6⟩
      · have HV : Hid (res = cv) := by show _ = _; rw [HR2.out]; simp [h8]
        rw [if_neg h8] at AC
        go_wp2_with fail
        refine (AC.out _).mono ?_
        rintro e w7 ⟨rfl, rfl⟩
        go_wp2_with fail
        refine (FC.out _ D6).mono ?_
        rintro e w8 ⟨rfl, hb8⟩
        have D8 := chnN hb8 D6
        go_wp2_with fail
        go_ret
        exact ⟨by rw [HV.out]; rfl, D8⟩
    · go_wp2_with fail
      go_ret
      exact ⟨by rw [HR.out, hpk]; rfl, D1⟩
  · go_wp2_with fail
    go_ret
    exact ⟨by rw [HR.out]; rfl, D1⟩
end Go.Proofs.YtnkgjkoncglfjaaGreatDoor



namespace Go.Proofs.YtnkgjkoncglfjaaGreatDoor
open Go.RowKit

theorem Seven.drew {w : World} {n : Nat} {a b c d e f g : Value} (h : Seven w n a b c d e f g) : Seven w.drew n a b c d e f g := h
set_option maxHeartbeats 8000000 in
set_option maxRecDepth 100000 in
theorem net_row (A B : Option Addr) (cap cap' : Nat) (ds : List Dv) (ls : List Lk) (res : Int) (w : World) (hD : Hid (Devs w.heap.size w (.slice A ds.length cap) ds)) (hL : Hid (Links w.heap.size w (.slice B ls.length cap') ls)) (h10 : ds.length ≤ 10) (h15 : ls.length ≤ 15) (HR : Hid (res = if devsFrom ds 0 = 0 then linksFrom ds ls 0 else devsFrom ds 0)) :
    Calls Tryz.prog 9 #[.agg #[.slice A ds.length cap, .slice B ls.length cap']] w fun e w' => e = .returned (.int .i64 res) ∧ Below w.heap.size w w' := by
  obtain ⟨_, hc, hm⟩ := hD.out.len
  obtain ⟨_, hc', hm'⟩ := hL.out.len
  unfold maxLen at hm hm'
  have t10 : decide ((10 : Int) < (ds.length : Int)) = false := by simp; omega
  have t15 : decide ((15 : Int) < (ls.length : Int)) = false := by simp; omega
  have D0 := Below.alN (Below.refl w.heap.size w) (.cells #[.slice A ds.length cap, .slice B ls.length cap'] 25)
  have B0 := box2_new w (.slice A ds.length cap) (.slice B ls.length cap') 25
  go_enter Tryz.func9, Tryz.ntmps9
  go_wp2_with fail
  go_loopw [21] (fun i wr => ∃ k : Nat, i = .int .i64 (k : Int) ∧ k ≤ ds.length ∧ Below w.heap.size w wr ∧ Box2 wr w.heap.size (.slice A ds.length cap) (.slice B ls.length cap') ∧ Hid (devsFrom ds 0 = devsFrom ds k)) (fun i _ => ds.length - (intOf i).toNat)
  case atStart => exact ⟨0, rfl, by omega, D0, B0, rfl⟩
  case round =>
    clear D0 B0
    obtain ⟨k, rfl, hk, D1, B1, hl⟩ := hrel
    by_cases hlt : k < ds.length
    · obtain ⟨d, hxk⟩ : ∃ d, ds[k]? = some d := ⟨_, List.getElem?_eq_getElem hlt⟩
      obtain ⟨b, o, vb, vr, vt, rfl, hb, z1, z2, z3, c0, c1, c2, c3, c4, c5, c6⟩ := (hD.out.below D1).at hxk
      obtain ⟨Ab, cb, rfl, _, _, _, _⟩ := z1
      obtain ⟨Ar, cr, rfl, _, _, _, _⟩ := z2
      obtain ⟨At, ct, rfl, _, _, _, _⟩ := z3
      have HF : Hid (devsFrom ds k = if devTold (ds.take k) d = 0 then devsFrom ds (k + 1) else devTold (ds.take k) d) := devsFrom_at hxk
      have CD : Hid (∀ W, Below w.heap.size w W → Calls Tryz.prog 26 #[devA d.name d.kind d.addr d.pool (.slice Ab d.backs.length cb) (.slice Ar d.rules.length cr) (.slice At d.routes.length ct), .slice (some ⟨b, o, none⟩) k cap] W fun e w' => e = .returned (.int .i64 (devTold (ds.take k) d)) ∧ Below W.heap.size W w') := fun W h => by
        have hd := hD.out.below h
        obtain ⟨b', o', vb', vr', vt', e1, _, s1, s2, s3, q0, q1, q2, q3, q4, q5, q6⟩ := hd.at hxk
        cases e1
        have g4 := (D1.cell (p := ⟨b, o + k * 7 + 4, none⟩) hb).symm.trans c4
        have g5 := (D1.cell (p := ⟨b, o + k * 7 + 5, none⟩) hb).symm.trans c5
        have g6 := (D1.cell (p := ⟨b, o + k * 7 + 6, none⟩) hb).symm.trans c6
        have f4 := (h.cell (p := ⟨b, o + k * 7 + 4, none⟩) hb).symm.trans q4
        have f5 := (h.cell (p := ⟨b, o + k * 7 + 5, none⟩) hb).symm.trans q5
        have f6 := (h.cell (p := ⟨b, o + k * 7 + 6, none⟩) hb).symm.trans q6
        obtain rfl := Option.some.inj (g4.symm.trans f4)
        obtain rfl := Option.some.inj (g5.symm.trans f5)
        obtain rfl := Option.some.inj (g6.symm.trans f6)
        exact checkDevice_any d _ _ _ _ k cap (ds.take k) W (Devs.mono (SlAt.take hd k (by omega)) h.size) (SlAt.mono s1 h.size (fun _ _ _ h => h)) (SlAt.mono s2 h.size (fun _ _ _ h => h)) (SlAt.mono s3 h.size (fun _ _ _ h => h))
      have k1 : (0 : Int) ≤ (k : Int) := by omega
      have k2 : (k : Int) < (ds.length : Int) := by omega
      have k3 : (k : Int) ≤ (cap : Int) := by omega
      have lw := D1.size
      clear hxk
      generalize devTold (ds.take k) d = dv at *
      generalize d.backs.length = nb at *
      generalize d.rules.length = nr at *
      generalize d.routes.length = nt at *
      generalize d.name = nm at *
      generalize d.kind = kd at *
      generalize d.addr = ad at *
      generalize d.pool = pl at *
      have D2 := Below.alN D1 (.cells #[.string nm, .int .i64 kd, .int .i64 ad, .int .u8 (pl : Int), .slice Ab nb cb, .slice Ar nr cr, .slice At nt ct] 50)
      have B2 := B1.alloc (.cells #[.string nm, .int .i64 kd, .int .i64 ad, .int .u8 (pl : Int), .slice Ab nb cb, .slice Ar nr cr, .slice At nt ct] 50)
      have V2 := seven_new wr (.string nm) (.int .i64 kd) (.int .i64 ad) (.int .u8 (pl : Int)) (.slice Ab nb cb) (.slice Ar nr cr) (.slice At nt ct) 50
      have D3 := D2.drew
      obtain ⟨_, f0, f1, _⟩ := id B2
      obtain ⟨_, v0, v1, v2, v3, v4, v5, v6⟩ := id V2
      clear hD hL
      go_wp2_with fail
      go_region_held3 (fun w' => w'.cell? ⟨w.heap.size, 0, none⟩ = some (.slice (some ⟨b, o, none⟩) ds.length cap) ∧ w'.cell? ⟨wr.heap.size, 0, none⟩ = some (.string nm) ∧ w'.cell? ⟨wr.heap.size, 1, none⟩ = some (.int .i64 kd) ∧ w'.cell? ⟨wr.heap.size, 2, none⟩ = some (.int .i64 ad) ∧ w'.cell? ⟨wr.heap.size, 3, none⟩ = some (.int .u8 (pl : Int)) ∧ w'.cell? ⟨wr.heap.size, 4, none⟩ = some (.slice Ab nb cb) ∧ w'.cell? ⟨wr.heap.size, 5, none⟩ = some (.slice Ar nr cr) ∧ w'.cell? ⟨wr.heap.size, 6, none⟩ = some (.slice At nt ct)) (go_keep) ((go_at_call 26; refine (CD.out _ D3).mono ?_; rintro e w2 ⟨rfl, hb2⟩; have D4 := chnN hb2 D3; have B4 := B2.drew.below hb2 B2.1; have V4 := V2.drew.below hb2 V2.1; obtain ⟨_, p0, p1, _⟩ := id B4; obtain ⟨_, r0, r1, r2, r3, r4, r5, r6⟩ := id V4))
      clear c0 c1 c2 c3 c4 c5 c6 f0 f1 v0 v1 v2 v3 v4 v5 v6 D1 D2 D3 B1 B2 V2 hb2 CD
      cases h0 : (dv == 0)
      · have HV : Hid (res = dv) := by
          have hne : ¬ dv = 0 := by simpa using h0
          show _ = _
          rw [HR.out, hl.out, HF.out, if_neg hne, if_neg hne]
        go_wp2_with fail
        go_ret
        exact ⟨by rw [HV.out]; rfl, D4⟩
      · have HV : Hid (devsFrom ds 0 = devsFrom ds (k + 1)) := by
          have he : dv = 0 := by simpa using h0
          show _ = _
          rw [hl.out, HF.out, if_pos he]
        go_wp2_with fail
        go_roundw
        case rel => exact ⟨k + 1, by go_num, by omega, D4, B4, HV⟩
        case measure => simp [intOf]; omega
    · have HZ : Hid (res = linksFrom ds ls 0) := by
        show _ = _
        rw [HR.out, hl.out, devsFrom_end (by omega), if_pos rfl]
      clear hl HR
      obtain ⟨_, g0, g1, _⟩ := id B1
      go_wp2_with fail
      go_loopw [39] (fun i wr => ∃ k : Nat, i = .int .i64 (k : Int) ∧ k ≤ ls.length ∧ Below w.heap.size w wr ∧ Box2 wr w.heap.size (.slice A ds.length cap) (.slice B ls.length cap') ∧ Hid (res = linksFrom ds ls k)) (fun i _ => ls.length - (intOf i).toNat)
      case atStart => exact ⟨0, rfl, by omega, D1, B1, HZ⟩
      case round =>
        clear D1 B1 HZ g0 g1
        obtain ⟨j, rfl, hj, D1, B1, hl⟩ := hrel
        by_cases hjl : j < ls.length
        · obtain ⟨l, hxk⟩ : ∃ l, ls[j]? = some l := ⟨_, List.getElem?_eq_getElem hjl⟩
          have HF : Hid (linksFrom ds ls j = if linkTold ds (ls.take j) l = 0 then linksFrom ds ls (j + 1) else linkTold ds (ls.take j) l) := linksFrom_at hxk
          have HX : Hid (ls[j]? = some l) := hxk
          have CD : Hid (∀ W, Below w.heap.size w W → Calls Tryz.prog 27 #[.agg #[.slice A ds.length cap, .slice B ls.length cap'], .int .i64 (j : Int)] W fun e w' => e = .returned (.int .i64 (linkTold ds (ls.take j) l)) ∧ Below W.heap.size W w') := fun W h => checkLink_any A B cap cap' ds ls j l W HX ((hD.out.below h).mono h.size) ((hL.out.below h).mono h.size)
          have lw := D1.size
          obtain ⟨_, g0, g1, _⟩ := id B1
          clear hxk HX hD hL
          generalize linkTold ds (ls.take j) l = dv at *
          go_wp2_with fail
          refine (CD.out _ D1).mono ?_
          rintro e w2 ⟨rfl, hb2⟩
          have D4 := chnN hb2 D1
          have B4 := B1.below hb2 B1.1
          clear D1 B1 hb2 CD g0 g1
          cases h0 : (dv == 0)
          · have HV : Hid (res = dv) := by
              have hne : ¬ dv = 0 := by simpa using h0
              show _ = _
              rw [hl.out, HF.out, if_neg hne]
            go_wp2_with fail
            go_ret
            exact ⟨by rw [HV.out]; rfl, D4⟩
          · have HV : Hid (res = linksFrom ds ls (j + 1)) := by
              have he : dv = 0 := by simpa using h0
              show _ = _
              rw [hl.out, HF.out, if_pos he]
            go_wp2_with fail
            go_roundw
            case rel => exact ⟨j + 1, by go_num, by omega, D4, B4, HV⟩
            case measure => simp [intOf]; omega
        · have HV : Hid (res = 0) := by
            show _ = _
            rw [hl.out, linksFrom_end (by omega)]
          go_wp2_with fail
          go_ret
          exact ⟨by rw [HV.out]; rfl, D1⟩
set_option maxHeartbeats 1000000 in
/-- Check. -/
theorem net_any (vd vl : Value) (ds : List Dv) (ls : List Lk) (w : World) (hD : Devs w.heap.size w vd ds) (hL : Links w.heap.size w vl ls) :
    Calls Tryz.prog 9 #[.agg #[vd, vl]] w fun e w' => e = .returned (.int .i64 (netV ds ls)) ∧ Below w.heap.size w w' := by
  have hD0 := hD
  have hL0 := hL
  obtain ⟨A, cap, rfl, _, _, _, _⟩ := hD
  obtain ⟨B, cap', rfl, _, _, _, _⟩ := hL
  unfold netV
  by_cases h : 10 < ds.length ∨ 15 < ls.length
  · rw [if_pos h]
    have D0 := Below.alN (Below.refl w.heap.size w) (.cells #[.slice A ds.length cap, .slice B ls.length cap'] 25)
    clear hD0 hL0
    by_cases h10 : 10 < ds.length
    · have t10 : decide ((10 : Int) < (ds.length : Int)) = true := by simp; omega
      clear h
      go_enter Tryz.func9, Tryz.ntmps9
      go_wp2_with fail
      go_ret
      exact ⟨rfl, D0⟩
    · have t10 : decide ((10 : Int) < (ds.length : Int)) = false := by simp; omega
      have t15 : decide ((15 : Int) < (ls.length : Int)) = true := by simp; omega
      clear h
      go_enter Tryz.func9, Tryz.ntmps9
      go_wp2_with fail
      go_ret
      exact ⟨rfl, D0⟩
  · rw [if_neg h]
    exact net_row A B cap cap' ds ls _ w hD0 hL0 (by omega) (by omega) rfl
end Go.Proofs.YtnkgjkoncglfjaaGreatDoor



namespace Go.Proofs.YtnkgjkoncglfjaaGreatDoor
open Go.RowKit

def ParseOut (w : World) (o : (List Dv × List Lk) × Nat × Int) (e : Ending) (w' : World) : Prop :=
  Below w.heap.size w w' ∧ ∃ vd vl, e = .returned (.tuple #[.agg #[vd, vl], .int .i64 (o.2.1 : Int), .int .i64 o.2.2]) ∧ Devs w'.heap.size w' vd o.1.1 ∧ Links w'.heap.size w' vl o.1.2
theorem nil_slAt {α : Type} (base : Nat) (w : World) (n : Nat) (R : List Value → α → Prop) : SlAt base w n R (.slice none 0 0) [] := ⟨none, 0, rfl, fun _ => rfl, Nat.le_refl _, Nat.zero_le _, fun h => absurd rfl h⟩
theorem pairB {B : Nat} {W w' : World} {n : Nat} {a b : Value} (hb : Below B W w') (hn : n < B) (h : Pair W n a b) : Pair w' n a b := by
  obtain ⟨h0, ⟨h1, h2⟩, k1, k2⟩ := h
  exact ⟨Nat.lt_of_lt_of_le h0 hb.size, ⟨(hb.cell (p := ⟨n, 0, none⟩) hn).trans h1, (hb.cell (p := ⟨n, 1, none⟩) hn).trans h2⟩, (hb.frozen (p := ⟨n, 0, none⟩) hn).trans k1, (hb.frozen (p := ⟨n, 1, none⟩) hn).trans k2⟩
theorem textP_stop {f k : Nat} {ds : List Dv} {ls : List Lk} {l : List UInt8} (h0 : l ≠ []) (h : Pk.brk 10 l = none) : textP (f + 1) k ds ls l = .inl k := by
  rw [textP, if_neg h0, h]
theorem textP_bad {f k : Nat} {ds : List Dv} {ls : List Lk} {l a b : List UInt8} (h0 : l ≠ []) (h : Pk.brk 10 l = some (a, b)) (h2 : lineP ds ls (Mt.spl 32 a) = none) : textP (f + 1) k ds ls l = .inl k := by
  rw [textP, if_neg h0, h]
  simp only [h2]
theorem textP_next {f k : Nat} {ds ds' : List Dv} {ls ls' : List Lk} {l a b : List UInt8} (h0 : l ≠ []) (h : Pk.brk 10 l = some (a, b)) (h2 : lineP ds ls (Mt.spl 32 a) = some (ds', ls')) : textP (f + 1) k ds ls l = textP f (k + 1) ds' ls' b := by
  rw [textP, if_neg h0, h]
  simp only [h2]
set_option maxHeartbeats 1000000 in
theorem parse_big (s : ByteArray) (w : World) (h : 4096 < s.size) : Calls Tryz.prog 4 #[.string s] w fun e w' => ParseOut w (([], []), 0, 2) e w' := by
  have hb1 : (4096 : Int) < (s.size : Int) := by omega

  have P0 := pair_new w (.slice none 0 0) (.slice none 0 0) 25
  have D0 := Below.alloc' (Below.refl w.heap.size w) (.cells #[.slice none 0 0, .slice none 0 0] 25)
  go_enter Tryz.func4, Tryz.ntmps4
  generalize hW : w.alloc (.cells #[.slice none 0 0, .slice none 0 0] 25) = w1 at *
  obtain ⟨l0, ⟨k0, k1⟩, f0, f1⟩ := P0
  go_wp2_with fail
  exact bodyPost_ret (v := .tuple #[.agg #[.slice none 0 0, .slice none 0 0], .int .i64 0, .int .i64 2]) (by simp [results, Tryz.results4, go_sem, k0, k1]) rfl ⟨below_set2 D0 (Nat.le_refl _) _ _, _, _, rfl, nil_slAt _ _ _ _, nil_slAt _ _ _ _⟩
end Go.Proofs.YtnkgjkoncglfjaaGreatDoor



namespace Go.Proofs.YtnkgjkoncglfjaaGreatDoor
open Go.RowKit

def netO : Nat ⊕ (List Dv × List Lk) → (List Dv × List Lk) × Nat × Int
  | .inl n => (([], []), n, 3)
  | .inr (ds, ls) => if netV ds ls = 0 then ((ds, ls), 0, 0) else (([], []), 0, netV ds ls)
theorem netP_eq (l : List UInt8) (h : l.length ≤ 4096) : netP l = netO (textP (l.length + 1) 1 [] [] l) := by
  unfold netP
  rw [if_neg (by omega)]
  cases textP (l.length + 1) 1 [] [] l <;> rfl
theorem RdOk.net {B n : Nat} {w : World} {xs : List (Dv × Sub)} {ls : List Lk} {vd vl : Value} {c : Array Value} (R : RdOk B w xs ls vd vl) (K : Blk w n c 25) (j : Nat) (u : Value) : RdOk B (w.setCell ⟨n, j, none⟩ u) xs ls vd vl := R.kept (kept_set w n j u) (fun e cur g' he hc h' => by
  obtain rfl := Option.some.inj h'
  unfold Blk at K
  rw [K] at hc
  simp only [Option.some.injEq, Obj.cells.injEq] at hc
  have := hc.2.1
  subst this
  revert he
  decide)
theorem Rd.drewN {B rb : Nat} {w : World} {ds : List Dv} {ls : List Lk} (h : Rd B rb w ds ls) (n : Nat) : Rd B rb (w.drewN n) ds ls := h.below (below_drewN (Below.refl _ _) n)
set_option maxHeartbeats 4000000 in
set_option maxRecDepth 100000 in
theorem parse_lines (s : ByteArray) (w : World) (h : s.size ≤ 4096) (hD : DLn 1 w) : Calls Tryz.prog 4 #[.string s] w fun e w' => ParseOut w (netP s.data.toList) e w' := by
  have hb1 : ¬ (4096 : Int) < (s.size : Int) := by omega
  have P0 := allocPair (pair_new w (.slice none 0 0) (.slice none 0 0) 25) (.cells #[.slice none 0 0, .slice none 0 0] 32)
  have D0 := Below.alloc' (Below.alloc' (Below.refl w.heap.size w) (.cells #[.slice none 0 0, .slice none 0 0] 25)) (.cells #[.slice none 0 0, .slice none 0 0] 32)
  have N0 := (blk_new w #[.slice none 0 0, .slice none 0 0] 25).alloc (.cells #[.slice none 0 0, .slice none 0 0] 32)
  have hsz1 : (w.alloc (.cells #[.slice none 0 0, .slice none 0 0] 25)).heap.size = w.heap.size + 1 := by simp
  have X0 := blk_new (w.alloc (.cells #[.slice none 0 0, .slice none 0 0] 25)) #[.slice none 0 0, .slice none 0 0] 32
  rw [hsz1] at X0
  have R0 : Rd (w.heap.size + 1) (w.heap.size + 1) _ [] [] := ⟨[], _, _, rfl, Nat.le_refl _, X0, RdOk.start _ _⟩
  have DL := hD.below D0 hD.lt
  have hglt := hD.lt
  have HN : Hid (netP s.data.toList = netO (textP (s.size + 1) 1 [] [] s.data.toList)) := by
    show _ = _
    rw [Lib.size_eq]
    exact netP_eq _ (by rw [← Lib.size_eq]; exact h)
  clear hD X0 hsz1
  go_enter Tryz.func4, Tryz.ntmps4
  go_wp2_with fail
  generalize (w.alloc (.cells #[.slice none 0 0, .slice none 0 0] 25)).alloc (.cells #[.slice none 0 0, .slice none 0 0] 32) = w2 at *
  have hB2 : w.heap.size + 1 ≤ w2.heap.size := by
    obtain ⟨_, _, _, _, _, K, _⟩ := R0
    have := K.lt
    omega
  go_loopw [0, 6] (fun x i wr => ∃ (rest : ByteArray) (k f : Nat) (ds : List Dv) (ls : List Lk), x = .string rest ∧ i = .int .i64 (k : Int) ∧ 1 ≤ k ∧ k + rest.size ≤ 4097 ∧ rest.size ≤ f ∧ Few (k - 1) ds ls ∧ Hid (textP (s.size + 1) 1 [] [] s.data.toList = textP (f + 1) k ds ls rest.data.toList) ∧ Hid (Rd (w.heap.size + 1) (w.heap.size + 1) wr ds ls) ∧ Below (w.heap.size + 1) w2 wr) (fun x _ _ => match x with | .string r => r.size | _ => 0)
  case atStart => exact ⟨s, 1, s.size, [], [], rfl, rfl, Nat.le_refl _, by omega, Nat.le_refl _, ⟨by simp, by simp, by simp, by simp⟩, rfl, R0, Below.refl _ _⟩
  case round =>
    obtain ⟨rest, k, f, ds, ls, rfl, rfl, hk1, hk, hf, Fw, HT, Rr, hbw⟩ := hrel
    have P1 := pairB hbw (Nat.lt_succ_self _) P0
    have N1 : Blk wr w.heap.size #[.slice none 0 0, .slice none 0 0] 25 := (hbw.block _ (Nat.lt_succ_self _)).trans N0
    have DLr := DL.below hbw (by omega)
    have D2 : Below w.heap.size w wr := D0.trans (hbw.mono (Nat.le_succ _))
    by_cases h0 : rest.size = 0
    · obtain rfl : rest = ⟨#[]⟩ := by
        apply ByteArray.ext
        exact Array.eq_empty_of_size_eq_zero h0
      have HV : Hid (netP s.data.toList = if netV ds ls = 0 then ((ds, ls), 0, 0) else (([], []), 0, netV ds ls)) := by
        show _ = _
        rw [HN.out, HT.out]
        rfl
      obtain ⟨xs, vd, vl, rfl, hrb, K, Ro⟩ := Rr.out
      have dv := Ro.devs
      have lk := Ro.links
      obtain ⟨A, cap, rfl⟩ := own_slice Ro.dev
      obtain ⟨C, cap', rfl⟩ := own_slice Ro.lnk
      have c0 := K.cell 0 _ rfl
      have c1 := K.cell 1 _ rfl
      generalize hds : xs.map Prod.fst = ds at *
      have CK : Hid (Calls Tryz.prog 9 #[.agg #[.slice A xs.length cap, .slice C ls.length cap']] wr fun e w' => e = .returned (.int .i64 (netV ds ls)) ∧ Below wr.heap.size wr w') := net_any _ _ ds ls wr dv lk
      clear HN HT Rr dv lk
      go_wp2_with fail
      refine CK.out.mono ?_
      rintro e w5 ⟨rfl, hb5⟩
      have P5 := keepPair hb5 P1
      have N5 := N1.keep hb5
      have K5 := K.keep hb5
      have Ro5 := Ro.below hb5
      have d0 := K5.cell 0 _ rfl
      have d1 := K5.cell 1 _ rfl
      have D5 := D2.trans (hb5.mono D2.size)
      clear P1 K c0 c1 CK N1
      obtain ⟨l0, ⟨k0, k1⟩, f0, f1⟩ := P5
      by_cases hv : netV ds ls = 0
      · have HW : Hid (netP s.data.toList = ((ds, ls), 0, 0)) := HV.out.trans (if_pos hv)
        have Ro6 := (Ro5.net N5 0 (.slice A xs.length cap))
        have N6 := N5.set (j := 0) (.slice A xs.length cap)
        have Ro7 := Ro6.net N6 1 (.slice C ls.length cap')
        have dv7 := Ro7.devs
        have lk7 := Ro7.links
        rw [hds] at dv7
        rw [hv]
        clear HV hv Ro5 Ro6 Ro7 N5 N6 Ro hb5
        go_wp2_with fail
        refine bodyPost_ret (v := .tuple #[.agg #[.slice A xs.length cap, .slice C ls.length cap'], .int .i64 0, .int .i64 0]) (by simp [results, Tryz.results4, go_sem, k0, k1]) rfl ⟨below_set2 D5 (Nat.le_refl _) _ _, ?_⟩
        rw [HW.out]
        exact ⟨_, _, rfl, dv7, lk7⟩
      · have HW : Hid (netP s.data.toList = (([], []), 0, netV ds ls)) := HV.out.trans (if_neg hv)
        have q : (netV ds ls == 0) = false := by simpa using hv
        generalize netV ds ls = nv at *
        clear HV hv Ro5 N5 Ro hb5
        go_wp2_with fail
        refine bodyPost_ret (v := .tuple #[.agg #[.slice none 0 0, .slice none 0 0], .int .i64 0, .int .i64 nv]) (by simp [results, Tryz.results4, go_sem, k0, k1]) rfl ⟨below_set2 D5 (Nat.le_refl _) _ _, ?_⟩
        rw [HW.out]
        exact ⟨_, _, rfl, nil_slAt _ _ _ _, nil_slAt _ _ _ _⟩
    · have hne : ¬ rest.toList = [] := not_empty rest (by omega)
      have hne2 : rest.toList.isEmpty = false := by rw [List.isEmpty_eq_false_iff]; exact hne
      have hl0 : rest.data.toList ≠ [] := by rw [← bytes_list]; exact hne
      obtain ⟨f', rfl⟩ : ∃ f', f = f' + 1 := ⟨f - 1, by omega⟩
      rcases hq : Pk.brk 10 rest.data.toList with _ | ⟨a, b⟩
      · have CT : Hid (∀ w, Calls Tryz.prog 7 #[.string rest, .string ⟨#[10]⟩] w fun e w' => e = .returned (.tuple #[.string rest, .string ⟨#[]⟩, .bool false]) ∧ ∃ n, w' = w.drewN n) := fun w => cut_none rest 10 w hq
        have HW : Hid (netP s.data.toList = (([], []), k, 3)) := by show _ = _; rw [HN.out, HT.out, textP_stop hl0 hq]; rfl
        clear HN HT hq hl0 Rr Fw DLr N1
        go_wp2_with fail
        refine (CT.out _).mono ?_
        rintro e w3 ⟨rfl, n, rfl⟩
        have D3 := below_drewN D2 n
        have P3 : Pair (wr.drewN n) w.heap.size (.slice none 0 0) (.slice none 0 0) := P1
        clear P1 D2 hbw
        generalize wr.drewN n = w3 at *
        obtain ⟨l0, ⟨k0, k1⟩, f0, f1⟩ := P3
        go_wp2_with fail
        refine bodyPost_ret (v := .tuple #[.agg #[.slice none 0 0, .slice none 0 0], .int .i64 (k : Int), .int .i64 3]) (by simp [results, Tryz.results4, go_sem, k0, k1]) rfl ⟨below_set2 D3 (Nat.le_refl _) _ _, ?_⟩
        rw [HW.out]
        exact ⟨_, _, rfl, nil_slAt _ _ _ _, nil_slAt _ _ _ _⟩
      · have hll := (Pk.brk_some 10 _ a b hq).1
        have hlen : rest.size = a.length + (b.length + 1) := by rw [Lib.size_eq, hll]; simp
        have sz : Hid (∀ l : List UInt8, (⟨l.toArray⟩ : ByteArray).size = l.length) := fun l => by rw [Lib.size_eq]
        have CT : Hid (∀ w, Calls Tryz.prog 7 #[.string rest, .string ⟨#[10]⟩] w fun e w' => e = .returned (.tuple #[.string ⟨a.toArray⟩, .string ⟨b.toArray⟩, .bool true]) ∧ ∃ n, w' = w.drewN n) := fun w => cut_some rest 10 a b w (by unfold maxLen; omega) hq
        have RL : Hid (∀ n, Calls Tryz.prog 8 #[.pointer (some ⟨w.heap.size + 1, 0, none⟩), .string ⟨a.toArray⟩] (wr.drewN n) fun e w' => ∃ bo, e = .returned (.bool bo) ∧ Hid (LineOut (w.heap.size + 1) (w.heap.size + 1) (wr.drewN n) (lineP ds ls (Mt.spl 32 a)) (.returned (.bool bo)) w')) := fun n => (line_calls (readLine_any (w.heap.size + 1) (w.heap.size + 1) ds ls ⟨a.toArray⟩ (wr.drewN n) (Nat.le_trans hB2 hbw.size) (Rr.out.drewN n) (by have := Fw.devs; omega) (by have := Fw.links; omega) (fun d hd => by have := Fw.rules d hd; omega) (fun d hd => by have := Fw.routes d hd; omega) (by rw [sz.out]; omega) DLr)).out
        rcases ho : lineP ds ls (Mt.spl 32 a) with _ | ⟨ds', ls'⟩
        · have HW : Hid (netP s.data.toList = (([], []), k, 3)) := by show _ = _; rw [HN.out, HT.out, textP_bad hl0 hq ho]; rfl
          rw [ho] at RL
          clear HN HT hq hl0 Rr Fw DLr N1 hll
          go_wp2_with fail
          refine (CT.out _).mono ?_
          rintro e w3 ⟨rfl, n, rfl⟩
          have D3 := below_drewN D2 n
          have P3 : Pair (wr.drewN n) w.heap.size (.slice none 0 0) (.slice none 0 0) := P1
          have RM : Hid (Calls Tryz.prog 8 #[.pointer (some ⟨w.heap.size + 1, 0, none⟩), .string ⟨a.toArray⟩] (wr.drewN n) fun e w' => ∃ bo, e = .returned (.bool bo) ∧ Hid (LineOut (w.heap.size + 1) (w.heap.size + 1) (wr.drewN n) none (.returned (.bool bo)) w')) := RL.out n
          clear P1 D2 hbw RL
          generalize wr.drewN n = w3 at *
          go_wp2_with fail
          refine Calls.mono RM.out ?_
          rintro e w4 ⟨bo, rfl, h4⟩
          obtain ⟨hb4, h5⟩ := h4.out
          have h6 : Value.bool bo = Value.bool false := by simpa using h5
          obtain rfl : bo = false := by simpa using h6
          have D4 := D3.trans (hb4.mono (Nat.le_succ _))
          have P4 := pairB hb4 (Nat.lt_succ_self _) P3
          clear P3 D3 h4 h5 h6 hb4 RM
          obtain ⟨l0, ⟨k0, k1⟩, f0, f1⟩ := P4
          go_wp2_with fail
          refine bodyPost_ret (v := .tuple #[.agg #[.slice none 0 0, .slice none 0 0], .int .i64 (k : Int), .int .i64 3]) (by simp [results, Tryz.results4, go_sem, k0, k1]) rfl ⟨below_set2 D4 (Nat.le_refl _) _ _, ?_⟩
          rw [HW.out]
          exact ⟨_, _, rfl, nil_slAt _ _ _ _, nil_slAt _ _ _ _⟩
        · have HW : Hid (textP (s.size + 1) 1 [] [] s.data.toList = textP (f' + 1) (k + 1) ds' ls' b) := HT.out.trans (textP_next hl0 hq ho)
          have Fw' : Few (k + 1 - 1) ds' ls' := by
            have := Fw.line ho
            rw [show k - 1 + 1 = k + 1 - 1 by omega] at this
            exact this
          rw [ho] at RL
          clear HT hq hl0 Rr Fw DLr N1 hll ho
          go_wp2_with fail
          refine (CT.out _).mono ?_
          rintro e w3 ⟨rfl, n, rfl⟩
          have B3 := below_drewN hbw n
          have RM : Hid (Calls Tryz.prog 8 #[.pointer (some ⟨w.heap.size + 1, 0, none⟩), .string ⟨a.toArray⟩] (wr.drewN n) fun e w' => ∃ bo, e = .returned (.bool bo) ∧ Hid (LineOut (w.heap.size + 1) (w.heap.size + 1) (wr.drewN n) (some (ds', ls')) (.returned (.bool bo)) w')) := RL.out n
          clear P1 D2 hbw RL
          generalize wr.drewN n = w3 at *
          go_wp2_with fail
          refine Calls.mono RM.out ?_
          rintro e w4 ⟨bo, rfl, h4⟩
          obtain ⟨hb4, h5, h7⟩ := h4.out
          have h6 : Value.bool bo = Value.bool true := by simpa using h5
          obtain rfl : bo = true := by simpa using h6
          have B4 := B3.trans hb4
          have HR : Hid (Rd (w.heap.size + 1) (w.heap.size + 1) w4 ds' ls') := h7
          clear B3 h4 h5 h6 h7 hb4 RM
          go_wp2_with fail
          go_roundw
          case rel => exact ⟨⟨b.toArray⟩, k + 1, f', ds', ls', rfl, by go_num, by omega, by rw [sz.out]; omega, by rw [sz.out]; omega, Fw', by simpa using HW, HR, B4⟩
          case measure =>
            show (⟨b.toArray⟩ : ByteArray).size < rest.size
            have := sz.out b
            omega
end Go.Proofs.YtnkgjkoncglfjaaGreatDoor



namespace Go.Proofs.YtnkgjkoncglfjaaGreatDoor
open Go.RowKit

theorem pnum_dg (l : List UInt8) : (∃ n : Nat, pnum l = some (n : Int) ∧ Pk.dg 99 l = (n : Int) ∧ n < 100) ∨ (pnum l = none ∧ Pk.dg 99 l = -1) := by
  unfold pnum Pk.dg
  cases Pk.num l with
  | none => exact .inr ⟨rfl, rfl⟩
  | some n =>
    by_cases h : n < 100
    · exact .inl ⟨n, by simp [h], if_pos (by omega), h⟩
    · exact .inr ⟨by simp [h], if_neg (by omega)⟩
theorem pnum_some {l : List UInt8} {n : Int} (h : pnum l = some n) : Pk.dg 99 l = n ∧ 0 ≤ n ∧ n < 100 := by
  rcases pnum_dg l with ⟨m, h1, h2, h3⟩ | ⟨h1, _⟩
  · rw [h1] at h
    obtain rfl := Option.some.inj h
    exact ⟨h2, by omega, by omega⟩
  · rw [h1] at h
    cases h
theorem pnum_none {l : List UInt8} (h : pnum l = none) : Pk.dg 99 l = -1 := by
  rcases pnum_dg l with ⟨m, h1, _, _⟩ | ⟨_, h2⟩
  · rw [h1] at h
    cases h
  · exact h2
/-- The lines of a text, as pieces at line ends: what is behind the last end is one more, without anything. -/
def linesP : Nat → List Dv → List Lk → List (List UInt8) → Nat ⊕ (List Dv × List Lk)
  | _, ds, ls, [] => .inr (ds, ls)
  | k, ds, ls, [x] => if x = [] then .inr (ds, ls) else .inl k
  | k, ds, ls, x :: y :: r => match lineP ds ls (Mt.spl 32 x) with
    | none => .inl k
    | some (ds', ls') => linesP (k + 1) ds' ls' (y :: r)
theorem linesP_bad {k : Nat} {ds : List Dv} {ls : List Lk} {x : List UInt8} {t : List (List UInt8)} (ht : t ≠ []) (h : lineP ds ls (Mt.spl 32 x) = none) : linesP k ds ls (x :: t) = .inl k := by
  cases t with
  | nil => exact absurd rfl ht
  | cons y r => rw [linesP, h]
theorem linesP_next {k : Nat} {ds ds' : List Dv} {ls ls' : List Lk} {x : List UInt8} {t : List (List UInt8)} (ht : t ≠ []) (h : lineP ds ls (Mt.spl 32 x) = some (ds', ls')) : linesP k ds ls (x :: t) = linesP (k + 1) ds' ls' t := by
  cases t with
  | nil => exact absurd rfl ht
  | cons y r => rw [linesP, h]
theorem textP_lines : ∀ (f : Nat) (s : List UInt8) (k : Nat) (ds : List Dv) (ls : List Lk), s.length < f → textP f k ds ls s = linesP k ds ls (Mt.spl 10 s)
  | 0, _, _, _, _, h => absurd h (Nat.not_lt_zero _)
  | f + 1, s, k, ds, ls, h => by
    by_cases h0 : s = []
    · subst h0
      rw [textP, if_pos rfl]
      rfl
    · rcases hq : Pk.brk 10 s with _ | ⟨a, b⟩
      · rw [textP_stop h0 hq, Mt.spl_no 10 s (Pk.brk_none 10 s hq), linesP, if_neg h0]
      · obtain ⟨e, ha⟩ := Pk.brk_some 10 s a b hq
        have hs : Mt.spl 10 s = a :: Mt.spl 10 b := by rw [e]; exact Mt.spl_cons 10 a b ha
        obtain ⟨x, t, hx⟩ := Mt.spl_ne 10 b
        have hne : Mt.spl 10 b ≠ [] := by rw [hx]; simp
        have hb : b.length < f := by rw [e] at h; simp at h; omega
        rw [hs]
        rcases ho : lineP ds ls (Mt.spl 32 a) with _ | ⟨ds', ls'⟩
        · rw [textP_bad h0 hq ho, linesP_bad hne ho]
        · rw [textP_next h0 hq ho, linesP_next hne ho]
          exact textP_lines f b (k + 1) ds' ls' hb
/-- What was read by the document's answer, and the net that it is held in. -/
def RdN (B rb : Nat) (w : World) (ds : List Dv) (ls : List Lk) : Prop :=
  ∃ xs vd vl, xs.map Prod.fst = ds ∧ B ≤ rb ∧ Blk w rb #[vd, vl] 25 ∧ RdOk B w xs ls vd vl
theorem RdN.below {B rb : Nat} {w w' : World} {ds : List Dv} {ls : List Lk} (h : RdN B rb w ds ls) (hb : Below w.heap.size w w') : RdN B rb w' ds ls := by
  obtain ⟨xs, vd, vl, e, h1, h2, h3⟩ := h
  exact ⟨xs, vd, vl, e, h1, h2.keep hb, h3.below hb⟩
def LineN (B rb : Nat) (w : World) (o : Option (List Dv × List Lk)) (e : Ending) (w' : World) : Prop :=
  Below B w w' ∧ match o with
    | none => e = .returned (.bool false)
    | some (ds, ls) => e = .returned (.bool true) ∧ RdN B rb w' ds ls
/-- Words in memory: a block of texts. -/
def Wds (w : World) (g : Nat) (cs : Array Value) (ws : List ByteArray) : Prop := Blk w g cs 9 ∧ ∀ (j : Nat) x, ws[j]? = some x → cs[j]? = some (.string x)
theorem Wds.cell {w : World} {g : Nat} {cs : Array Value} {ws : List ByteArray} (h : Wds w g cs ws) (j : Nat) (x : ByteArray) (hj : ws[j]? = some x) : w.cell? ⟨g, j, none⟩ = some (.string x) := h.1.cell j _ (h.2 j x hj)
theorem Wds.below {w w' : World} {g : Nat} {cs : Array Value} {ws : List ByteArray} (h : Wds w g cs ws) (hb : Below w.heap.size w w') : Wds w' g cs ws := ⟨h.1.keep hb, h.2⟩
end Go.Proofs.YtnkgjkoncglfjaaGreatDoor
