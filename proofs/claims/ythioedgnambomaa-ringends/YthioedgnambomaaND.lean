/-
  Package net: a device.
-/
import Derived.Test.YthioedgnambomaaNB
import Derived.Test.YthioedgnambomaaChk
namespace Go.Proofs.Ythioedgnambomaa
open Go.RowKit

/-- What checkDevice tells, by its own tests. -/
def progDev (k ad : Int) (pl : Nat) (bs : List Int) (nr nt : Nat) (c : Int) : Int :=
  if (portsV k == 0) || !addrF k ad || !poolF k pl then 1 else if 3 < bs.length then 2 else if !backsF k ad bs || !listsF k nr nt then 1 else if 8 < nr then 2 else c
theorem progDev_eq (k ad : Int) (pl : Nat) (bs : List Int) (nr nt : Nat) (c : Int) : progDev k ad pl bs nr nt c = devV k ad pl bs nr nt c := by
  have ea : addrB ad = (decide (0 ≤ ad) && decide (ad ≤ 15)) := by
    unfold addrB
    congr 1
    rw [decide_eq_decide]
    omega
  have eb : decide (backsFrom bs ad 0 = 0) = !decide (backsFrom bs ad 0 = 1) := by
    rcases backsFrom_vals bs ad bs.length 0 (by omega) with h | h <;> rw [h] <;> rfl
  have ep : (!((pl : Int) == 0)) = decide (0 < pl) := by
    rw [Bool.eq_iff_iff]
    simp
    omega
  have el : decide (0 < bs.length) = !decide (bs.length = 0) := by
    rw [Bool.eq_iff_iff]
    simp only [decide_eq_true_eq, Bool.not_eq_true', decide_eq_false_iff_not]
    omega
  have er : decide (nr = 0) = !decide (0 < nr) := by
    rw [Bool.eq_iff_iff]
    simp
  have et : decide (nt = 0) = !decide (0 < nt) := by
    rw [Bool.eq_iff_iff]
    simp
  unfold progDev devV addrF poolF backsF listsF
  rw [ea, eb, ep, el, er, et]
  have ek : (portsV k == 0) = !(decide (1 ≤ k) && decide (k ≤ 5)) := by
    unfold portsV
    rw [Bool.eq_iff_iff]
    simp only [beq_iff_eq, Bool.not_eq_true', Bool.and_eq_false_iff, decide_eq_false_iff_not]
    split
    · omega
    · split
      · omega
      · split <;> omega
  rw [ek]
  cases hk : (decide (1 ≤ k) && decide (k ≤ 5))
  · simp
  · have hk' : 1 ≤ k ∧ k ≤ 5 := by simpa using hk
    generalize (decide (0 ≤ ad) && decide (ad ≤ 15)) = x1
    generalize decide (0 < pl) = x2
    generalize decide (bs.length = 0) = x3
    generalize decide (0 < nr) = x5
    generalize decide (0 < nt) = x6
    generalize (ad == 0) = x7
    by_cases h4 : backsFrom bs ad 0 = 1
    all_goals
      simp only [h4, decide_true, decide_false, if_true, if_false]
      have hkk : k = 1 ∨ k = 2 ∨ k = 3 ∨ k = 4 ∨ k = 5 := by omega
      rcases hkk with rfl | rfl | rfl | rfl | rfl <;> simp only [hasAddr] <;> cases x1 <;> cases x2 <;> cases x3 <;> cases x5 <;> cases x6 <;> cases x7 <;> simp
/-- What checkDevice tells. -/
def devTold (ahead : List Dv) (d : Dv) : Int := if nameOk d.name then (if ahead.any (fun x => x.name.toList == d.name.toList) then 5 else devC d) else 3
set_option maxHeartbeats 8000000 in
set_option maxRecDepth 100000 in
theorem checkDevice_any (d : Dv) (vb vr vt : Value) (A : Option Addr) (n cap : Nat) (ahead : List Dv) (w : World) (hA : Devs w.heap.size w (.slice A n cap) ahead) (hb : SlAt w.heap.size w 1 IsI vb d.backs) (hr : SlAt w.heap.size w 5 IsRule vr d.rules) (ht : SlAt w.heap.size w 3 IsRoute vt d.routes) :
    Calls Try.prog 26 #[devA d.name d.kind d.addr d.pool vb vr vt, .slice A n cap] w fun e w' => e = .returned (.int .i64 (devTold ahead d)) ∧ Below w.heap.size w w' := by
  have FC : Hid (∀ W, Below w.heap.size w W → Calls Try.prog 51 #[vt] W fun e w' => e = .returned (.int .i64 (checkV (d.routes.map rtOf))) ∧ Below W.heap.size W w') := fun W h => check_any W (routes_of (SlAt.mono (SlAt.below ht h (fun _ _ _ h => h)) h.size (fun _ _ _ h => h)))
  have FI : Hid (∀ W, Below w.heap.size w W → Calls Try.prog 45 #[.slice A n cap, .string d.name] W fun e w' => e = .returned (.tuple #[.int .i64 (if 0 ≤ findFrom ahead d.name.toList 0 then findFrom ahead d.name.toList 0 else 0), .bool (ahead.any (fun x => x.name.toList == d.name.toList))]) ∧ Below W.heap.size W w') := fun W h => by
    have := find_any A n cap ahead d.name W ((hA.below h).mono h.size)
    rw [findFrom_some] at this
    exact this
  have hb0 := hb
  obtain ⟨Ab, cb, rfl, _, b1, b2, _⟩ := hb
  obtain ⟨Ar, cr, rfl, _, r1, r2, _⟩ := hr
  obtain ⟨At, ct, rfl, _, t1, t2, _⟩ := ht
  have BF : Hid (∀ W, Below w.heap.size w W → Calls Try.prog 48 #[devA d.name d.kind d.addr d.pool (.slice Ab d.backs.length cb) (.slice Ar d.rules.length cr) (.slice At d.routes.length ct)] W fun e w' => e = .returned (.bool (backsF d.kind d.addr d.backs)) ∧ Below W.heap.size W w') := fun W h => backsFit_any _ _ _ _ _ _ _ _ _ W (SlAt.mono (SlAt.below hb0 h (fun _ _ _ h => h)) h.size (fun _ _ _ h => h)) b1 b2
  have NM : Hid (∀ w, Calls Try.prog 44 #[.string d.name] w fun e w' => e = .returned (.bool (nameOk d.name)) ∧ w' = w) := fun w => isName_any d.name w
  have PO : Hid (∀ w, Calls Try.prog 23 #[.int .i64 d.kind] w fun e w' => e = .returned (.int .i64 (portsV d.kind)) ∧ w' = w) := fun w => nports_any d.kind w
  have AF : Hid (∀ W, Calls Try.prog 46 #[devA d.name d.kind d.addr d.pool (.slice Ab d.backs.length cb) (.slice Ar d.rules.length cr) (.slice At d.routes.length ct)] W fun e w' => e = .returned (.bool (addrF d.kind d.addr)) ∧ Below W.heap.size W w') := fun W => addrFits_any _ _ _ _ _ _ _ W
  have PF : Hid (∀ W, Calls Try.prog 47 #[devA d.name d.kind d.addr d.pool (.slice Ab d.backs.length cb) (.slice Ar d.rules.length cr) (.slice At d.routes.length ct)] W fun e w' => e = .returned (.bool (poolF d.kind d.pool)) ∧ Below W.heap.size W w') := fun W => poolFits_any _ _ _ _ _ _ _ W
  have LF : Hid (∀ W, Calls Try.prog 49 #[devA d.name d.kind d.addr d.pool (.slice Ab d.backs.length cb) (.slice Ar d.rules.length cr) (.slice At d.routes.length ct)] W fun e w' => e = .returned (.bool (listsF d.kind d.rules.length d.routes.length)) ∧ Below W.heap.size W w') := fun W => listsFit_any _ _ _ _ _ _ _ _ _ _ _ W
  have AC : Hid (∀ w, Calls Try.prog 50 #[.slice Ar d.rules.length cr] w fun e w' => e = .returned (.int .i64 (if 8 < d.rules.length then 2 else 0)) ∧ w' = w) := fun w => aclCheck_any _ _ _ w
  generalize hres : devTold ahead d = res
  have HR : Hid (res = if nameOk d.name then (if ahead.any (fun x => x.name.toList == d.name.toList) then 5 else if (portsV d.kind == 0) || !addrF d.kind d.addr || !poolF d.kind d.pool then 1 else if 3 < d.backs.length then 2 else if !backsF d.kind d.addr d.backs || !listsF d.kind d.rules.length d.routes.length then 1 else if 8 < d.rules.length then 2 else checkV (d.routes.map rtOf)) else 3) := by
    show _ = _
    rw [← hres]
    unfold devTold devC
    rw [← progDev_eq]
    rfl
  clear hres hA hb0
  have D0 := Below.alN (Below.refl w.heap.size w) (.cells #[.string d.name, .int .i64 d.kind, .int .i64 d.addr, .int .u8 (d.pool : Int), .slice Ab d.backs.length cb, .slice Ar d.rules.length cr, .slice At d.routes.length ct] 42)
  have V0 := seven_new w (.string d.name) (.int .i64 d.kind) (.int .i64 d.addr) (.int .u8 (d.pool : Int)) (.slice Ab d.backs.length cb) (.slice Ar d.rules.length cr) (.slice At d.routes.length ct) 42
  generalize nameOk d.name = x0 at *
  generalize ahead.any (fun x => x.name.toList == d.name.toList) = x1 at *
  generalize (if 0 ≤ findFrom ahead d.name.toList 0 then findFrom ahead d.name.toList 0 else 0) = fi at *
  generalize portsV d.kind = pk at *
  generalize addrF d.kind d.addr = x3 at *
  generalize poolF d.kind d.pool = x4 at *
  generalize backsF d.kind d.addr d.backs = x5 at *
  generalize listsF d.kind d.rules.length d.routes.length = x6 at *
  generalize checkV (d.routes.map rtOf) = cv at *
  generalize d.backs.length = nb at *
  generalize d.rules.length = nr at *
  generalize d.routes.length = nt at *
  generalize d.name = nm at *
  generalize d.kind = kd at *
  generalize d.addr = ad at *
  generalize d.pool = pl at *
  go_enter Try.func26, Try.ntmps26
  go_wp2_with fail
  refine (NM.out _).mono ?_
  rintro e w' ⟨rfl, rfl⟩
  cases x0
  · go_wp2_with fail
    go_ret
    exact ⟨by rw [HR.out]; rfl, D0⟩
  go_wp2_with fail
  refine (FI.out _ D0).mono ?_
  rintro e w1 ⟨rfl, hb1⟩
  have D1 := chnN hb1 D0
  have V1 := V0.below hb1 V0.1
  clear hb1 D0 V0 FI NM
  obtain ⟨l1, q0, q1, q2, q3, q4, q5, q6⟩ := id V1
  cases x1
  · go_wp2_with fail
    refine (PO.out _).mono ?_
    rintro e w2 ⟨rfl, rfl⟩
    cases hpk : (pk == 0)
    · go_wp2_with fail
      refine (AF.out _).mono ?_
      rintro e w3 ⟨rfl, hb3⟩
      have D3 := chnN hb3 D1
      have V3 := V1.below hb3 V1.1
      clear hb3 D1 V1 AF PO q0 q1 q2 q3 q4 q5 q6
      obtain ⟨l3, q0, q1, q2, q3, q4, q5, q6⟩ := id V3
      cases x3
      · go_wp2_with fail
        go_ret
        exact ⟨by rw [HR.out, hpk]; rfl, D3⟩
      go_wp2_with fail
      refine (PF.out _).mono ?_
      rintro e w4 ⟨rfl, hb4⟩
      have D4 := chnN hb4 D3
      have V4 := V3.below hb4 V3.1
      clear hb4 D3 V3 PF q0 q1 q2 q3 q4 q5 q6
      obtain ⟨l4, q0, q1, q2, q3, q4, q5, q6⟩ := id V4
      cases x4
      · go_wp2_with fail
        go_ret
        exact ⟨by rw [HR.out, hpk]; rfl, D4⟩
      by_cases n3 : 3 < nb
      · have u3 : decide ((3 : Int) < (nb : Int)) = true := by simp; omega
        have HV : Hid (res = 2) := by show _ = _; rw [HR.out, hpk]; simp [n3]
        go_wp2_with fail
        go_ret
        exact ⟨by rw [HV.out]; rfl, D4⟩
      have u3 : decide ((3 : Int) < (nb : Int)) = false := by simp; omega
      have HR2 : Hid (res = if !x5 || !x6 then 1 else if 8 < nr then 2 else cv) := by show _ = _; rw [HR.out, hpk]; simp [n3]
      clear HR hpk
      go_wp2_with fail
      refine (BF.out _ D4).mono ?_
      rintro e w5 ⟨rfl, hb5⟩
      have D5 := chnN hb5 D4
      have V5 := V4.below hb5 V4.1
      clear hb5 D4 V4 BF q0 q1 q2 q3 q4 q5 q6
      obtain ⟨l5, q0, q1, q2, q3, q4, q5, q6⟩ := id V5
      cases x5
      · go_wp2_with fail
        go_ret
        exact ⟨by rw [HR2.out]; rfl, D5⟩
      go_wp2_with fail
      refine (LF.out _).mono ?_
      rintro e w6 ⟨rfl, hb6⟩
      have D6 := chnN hb6 D5
      have V6 := V5.below hb6 V5.1
      clear hb6 D5 V5 LF q0 q1 q2 q3 q4 q5 q6
      obtain ⟨l6, q0, q1, q2, q3, q4, q5, q6⟩ := id V6
      cases x6
      · go_wp2_with fail
        go_ret
        exact ⟨by rw [HR2.out]; rfl, D6⟩
      by_cases h8 : 8 < nr
      · have HV : Hid (res = 2) := by show _ = _; rw [HR2.out]; simp [h8]
        rw [if_pos h8] at AC
        go_wp2_with fail
        refine (AC.out _).mono ?_
        rintro e w7 ⟨rfl, rfl⟩
        go_wp2_with fail
        go_ret
        exact ⟨by rw [HV.out]; rfl, D6⟩
      · have HV : Hid (res = cv) := by show _ = _; rw [HR2.out]; simp [h8]
        rw [if_neg h8] at AC
        go_wp2_with fail
        refine (AC.out _).mono ?_
        rintro e w7 ⟨rfl, rfl⟩
        go_wp2_with fail
        refine (FC.out _ D6).mono ?_
        rintro e w8 ⟨rfl, hb8⟩
        have D8 := chnN hb8 D6
        go_wp2_with fail
        go_ret
        exact ⟨by rw [HV.out]; rfl, D8⟩
    · go_wp2_with fail
      go_ret
      exact ⟨by rw [HR.out, hpk]; rfl, D1⟩
  · go_wp2_with fail
    go_ret
    exact ⟨by rw [HR.out]; rfl, D1⟩
end Go.Proofs.Ythioedgnambomaa
