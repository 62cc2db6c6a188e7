/-
  NetBack: it returns true.
-/
import Derived.Test.YthofdiacncgbkaaGreatDoorPC8
import Derived.Test.YthofdiacncgbkaaGreatDoorSN
import Derived.Test.YthofdiacncgbkaaGreatDoorNQ3
namespace Go.Proofs.YthofdiacncgbkaaGreatDoor
open Go.RowKit

set_option maxHeartbeats 1000000 in
theorem print_badB (A B : Option Addr) (n cap m cap' : Nat) (nv : Int) (w : World) (hz : (nv == 0) = false)
    (CK : Hid (∀ W, Below w.heap.size w W → Calls Tryz.prog 11 #[.agg #[.slice A n cap, .slice B m cap']] W fun e w' => e = .returned (.int .i64 nv) ∧ Below W.heap.size W w')) :
    Calls Tryz.prog 8 #[.agg #[.slice A n cap, .slice B m cap']] w fun e w' => e = .returned (.tuple #[.string ⟨#[]⟩, .int .i64 nv]) ∧ Below w.heap.size w w' := by
  have D0 := Below.alN (Below.refl w.heap.size w) (.cells #[.slice A n cap, .slice B m cap'] 25)
  go_enter Tryz.func8, Tryz.ntmps8
  go_wp2_with fail
  refine (CK.out _ D0).mono ?_
  rintro e w1 ⟨rfl, hb1⟩
  have D1 := chnN hb1 D0
  go_wp2_with fail
  go_ret2
  exact ⟨rfl, D1⟩
/-- What Print tells. -/
def printB (ds : List Dv) (ls : List Lk) : ByteArray := if netV ds ls = 0 then ⟨(netT ds ls).toArray⟩ else ⟨#[]⟩
theorem printed (vd vl : Value) (ds : List Dv) (ls : List Lk) (w : World) (hD : Devs w.heap.size w vd ds) (hL : Links w.heap.size w vl ls) (hDL : DLn 0 w) :
    Calls Tryz.prog 8 #[.agg #[vd, vl]] w fun e w' => e = .returned (.tuple #[.string (printB ds ls), .int .i64 (netV ds ls)]) ∧ Below w.heap.size w w' := by
  have hD0 := hD
  have hL0 := hL
  obtain ⟨A, cap, rfl, _, _, _, _⟩ := hD
  obtain ⟨B, cap', rfl, _, _, _, _⟩ := hL
  have ck : ∀ W, Below w.heap.size w W → Calls Tryz.prog 11 #[.agg #[.slice A ds.length cap, .slice B ls.length cap']] W fun e w' => e = .returned (.int .i64 (netV ds ls)) ∧ Below W.heap.size W w' := fun W h => net_any _ _ ds ls W ((hD0.below h).mono h.size) ((hL0.below h).mono h.size)
  unfold printB
  by_cases hz : netV ds ls = 0
  · obtain ⟨l10, l15, _, hp⟩ := netV_links hz
    have hr := netV_right hz
    rw [if_pos hz, hz]
    rw [hz] at ck
    exact print_row A B cap cap' ds ls w hD0 hL0 hDL l10 l15 hr hp ck
  · rw [if_neg hz]
    exact print_badB A B ds.length cap ls.length cap' (netV ds ls) w (by simpa using hz) ck
/-- What Parse tells. -/
def parseO (s : ByteArray) : (List Dv × List Lk) × Nat × Int := netP s.data.toList
theorem parsed (s : ByteArray) (w : World) (hDL : DLn 0 w) : Calls Tryz.prog 5 #[.string s] w fun e w' => ParseOut w (parseO s) e w' := by
  unfold parseO
  by_cases h : 4096 < s.size
  · have e : netP s.data.toList = (([], []), 0, 2) := by
      unfold netP
      rw [if_pos (by simpa using h)]
    rw [e]
    exact parse_big s w h
  · exact parse_lines s w (by omega) hDL
theorem parseO_bad {s : ByteArray} (h : (parseO s).2.2 ≠ 0) : (parseO s).1.1 = [] := by
  unfold parseO netP at *
  split
  · rfl
  · rename_i h0
    rw [if_neg h0] at h
    split
    · rfl
    · rename_i ds ls he
      rw [he] at h
      simp only at h
      split
      · rename_i hz
        rw [if_pos hz] at h
        exact absurd rfl h
      · rfl
theorem parseO_ok {s : ByteArray} (h : (parseO s).2.2 = 0) : netV (parseO s).1.1 (parseO s).1.2 = 0 := by
  unfold parseO netP at *
  split
  · rename_i h0
    rw [if_pos h0] at h
    simp at h
  · rename_i h0
    rw [if_neg h0] at h
    split
    · rename_i n he
      rw [he] at h
      simp at h
    · rename_i ds ls he
      rw [he] at h
      simp only at h
      split
      · assumption
      · rename_i hz
        rw [if_neg hz] at h
        exact absurd h hz
theorem printB_size {ds : List Dv} {ls : List Lk} (h : netV ds ls = 0) : (printB ds ls).size = (netT ds ls).length := by
  unfold printB
  rw [if_pos h]
  simp [ByteArray.size]
theorem parse_print {ds : List Dv} {ls : List Lk} (h : netV ds ls = 0) (hl : (printB ds ls).size ≤ 4096) : parseO (printB ds ls) = ((ds, ls), 0, 0) := by
  rw [printB_size h] at hl
  unfold parseO printB
  rw [if_pos h]
  exact netP_netT h (netV_right h) hl
theorem parse_lg {s : ByteArray} (hl : 4096 < s.size) : (parseO s).2.2 = 2 := by
  unfold parseO netP
  rw [if_pos (by simpa using hl)]
def exD : Dv := ⟨⟨#[97]⟩, 4, 3, 6, [], [], [], by omega, by decide⟩
theorem exV : netV [exD] [] = 0 := by
  unfold netV
  have h1 : devWrong [exD] 0 exD = 0 := by
    have hn : nameOk exD.name = true := by decide
    have hc : checkV [] = 0 := by
      unfold checkV
      rw [if_neg (by simp), checkFrom_end (by simp)]
    have hb : backsFrom [] 3 0 = 0 := by
      unfold backsFrom
      simp
    unfold devWrong
    rw [if_pos hn]
    simp [exD, devC, devV, hasAddr, hc, hb]
  rw [if_neg (by simp), devsFrom_at (d := exD) rfl, if_pos h1, devsFrom_end (by simp), if_pos rfl, linksFrom_end (by simp)]
theorem exT : printB [exD] [] = ⟨#[110, 97, 116, 32, 97, 32, 51, 32, 49, 44, 50, 10]⟩ := by
  unfold printB
  rw [if_pos exV]
  exact congrArg ByteArray.mk (by kernel_rfl)
theorem ex_devs (W : World) (b : Nat) (hb : b < W.heap.size) (c0 : W.cell? ⟨b, 0, none⟩ = some (.string ⟨#[97]⟩)) (c1 : W.cell? ⟨b, 1, none⟩ = some (.int .i64 4)) (c2 : W.cell? ⟨b, 2, none⟩ = some (.int .i64 3)) (c3 : W.cell? ⟨b, 3, none⟩ = some (.int .u8 6)) (c4 : W.cell? ⟨b, 4, none⟩ = some (.slice none 0 0)) (c5 : W.cell? ⟨b, 5, none⟩ = some (.slice none 0 0)) (c6 : W.cell? ⟨b, 6, none⟩ = some (.slice none 0 0)) : Devs W.heap.size W (.slice (some ⟨b, 0, none⟩) 1 1) [exD] := by
  refine ⟨some ⟨b, 0, none⟩, 1, rfl, (fun e => by cases e), by simp, by decide, fun _ => ⟨b, 0, rfl, hb, fun k x hx => ?_⟩⟩
  match k, hx with
  | 0, hx =>
    obtain rfl := Option.some.inj hx
    refine ⟨[.string ⟨#[97]⟩, .int .i64 4, .int .i64 3, .int .u8 6, .slice none 0 0, .slice none 0 0, .slice none 0 0], rfl, ⟨_, _, _, rfl, nil_slAt _ _ _ _, nil_slAt _ _ _ _, nil_slAt _ _ _ _⟩, fun j u hj => ?_⟩
    match j, hj with
    | 0, hj => obtain rfl := Option.some.inj hj; exact c0
    | 1, hj => obtain rfl := Option.some.inj hj; exact c1
    | 2, hj => obtain rfl := Option.some.inj hj; exact c2
    | 3, hj => obtain rfl := Option.some.inj hj; exact c3
    | 4, hj => obtain rfl := Option.some.inj hj; exact c4
    | 5, hj => obtain rfl := Option.some.inj hj; exact c5
    | 6, hj => obtain rfl := Option.some.inj hj; exact c6
set_option maxHeartbeats 8000000 in
set_option maxRecDepth 100000 in
theorem netBack_any (A B : Option Addr) (cap cap' : Nat) (ds : List Dv) (ls : List Lk) (s : ByteArray) (w : World) (hD : Hid (Devs w.heap.size w (.slice A ds.length cap) ds)) (hL : Hid (Links w.heap.size w (.slice B ls.length cap') ls)) (hDL : Hid (DLn 0 w)) :
    Calls Tryz.prog 4 #[.agg #[.slice A ds.length cap, .slice B ls.length cap'], .string s] w fun e w' => e = .returned (.bool true) ∧ Below w.heap.size w w' := by
  have DL : Hid (∀ W, Below w.heap.size w W → DLn 0 W) := fun W h => hDL.out.below h hDL.out.lt
  have PX : Hid (∀ (W : World) (b : Nat), Below w.heap.size w W → b < W.heap.size → W.cell? ⟨b, 0, none⟩ = some (.string ⟨#[97]⟩) → W.cell? ⟨b, 1, none⟩ = some (.int .i64 4) → W.cell? ⟨b, 2, none⟩ = some (.int .i64 3) → W.cell? ⟨b, 3, none⟩ = some (.int .u8 6) → W.cell? ⟨b, 4, none⟩ = some (.slice none 0 0) → W.cell? ⟨b, 5, none⟩ = some (.slice none 0 0) → W.cell? ⟨b, 6, none⟩ = some (.slice none 0 0) → Calls Tryz.prog 8 #[.agg #[.slice (some ⟨b, 0, none⟩) 1 1, .slice none 0 0]] W fun e w' => e = .returned (.tuple #[.string ⟨#[110, 97, 116, 32, 97, 32, 51, 32, 49, 44, 50, 10]⟩, .int .i64 0]) ∧ Below W.heap.size W w') := fun W b h hb c0 c1 c2 c3 c4 c5 c6 => by
    have := printed _ _ [exD] [] W (ex_devs W b hb c0 c1 c2 c3 c4 c5 c6) (nil_slAt _ _ _ _) (DL.out W h)
    rw [exT, exV] at this
    exact this
  have PR : Hid (∀ W, Below w.heap.size w W → Calls Tryz.prog 8 #[.agg #[.slice A ds.length cap, .slice B ls.length cap']] W fun e w' => e = .returned (.tuple #[.string (printB ds ls), .int .i64 (netV ds ls)]) ∧ Below W.heap.size W w') := fun W h => printed _ _ ds ls W ((hD.out.below h).mono h.size) ((hL.out.below h).mono h.size) (DL.out W h)
  have PA : Hid (∀ (u : ByteArray) W, Below w.heap.size w W → Calls Tryz.prog 5 #[.string u] W fun e w' => ParseOut W (parseO u) e w') := fun u W h => parsed u W (DL.out W h)
  have PRx : Hid (∀ (u : ByteArray) (A B : Option Addr) (n m cap cap' : Nat) (W : World), Below w.heap.size w W → Devs W.heap.size W (.slice A n cap) (parseO u).1.1 → Links W.heap.size W (.slice B m cap') (parseO u).1.2 → (parseO u).2.2 = 0 → Calls Tryz.prog 8 #[.agg #[.slice A n cap, .slice B m cap']] W fun e w' => e = .returned (.tuple #[.string (printB (parseO u).1.1 (parseO u).1.2), .int .i64 0]) ∧ Below W.heap.size W w') := fun u A B n m cap cap' W h h1 h2 h3 => by
    have := printed _ _ _ _ W h1 h2 (DL.out W h)
    rw [parseO_ok h3] at this
    exact this
  have D0 := Below.alN (Below.refl w.heap.size w) (.cells #[.slice A ds.length cap, .slice B ls.length cap'] 25)
  have B0 := box2_new w (.slice A ds.length cap) (.slice B ls.length cap') 25
  clear DL hDL
  go_enter Tryz.func4, Tryz.ntmps4
  go_wp2_with fail
  refine (PX.out _ _ (Below.alN D0 _) (by simp) (by simp [go_sem]) (by simp [go_sem]) (by simp [go_sem]) (by simp [go_sem]) (by simp [go_sem]) (by simp [go_sem]) (by simp [go_sem])).mono ?_
  rintro e w1 ⟨rfl, hb1⟩
  have D1 := chnN hb1 (Below.alN D0 _)
  have B1 := (B0.alloc _).below hb1 (by simp; omega)
  clear hb1 D0 B0 PX
  obtain ⟨_, b0, b1, _⟩ := id B1
  go_wp2_with fail
  refine (PR.out _ D1).mono ?_
  rintro e w2 ⟨rfl, hb2⟩
  have D2 := chnN hb2 D1
  have B2 := B1.below hb2 B1.1
  clear hb2 D1 B1 b0 b1 PR
  by_cases hz : netV ds ls = 0
  rotate_left
  · have hz1 : (netV ds ls == 0) = false := by simpa using hz
    clear hD hL B2
    generalize netV ds ls = nv at *
    generalize printB ds ls = tx at *
    go_wp2_with fail
    refine (PA.out _ _ D2).mono ?_
    rintro e wa ⟨hba, ud, ul, rfl, hDa, hLa⟩
    have Da := chnN hba D2
    clear hba D2
    obtain ⟨Aa, ca, rfl, _, _⟩ := SlAt.slice hDa
    obtain ⟨Ba, cb, rfl, _, _⟩ := SlAt.slice hLa
    by_cases he : (parseO s).2.2 = 0
    rotate_left
    · have he1 : ((parseO s).2.2 == 0) = false := by simpa using he
      have h0 := parseO_bad he
      rw [h0]
      have hat : decide ((0 : Int) ≤ ((parseO s).2.1 : Int)) = true := by simp
      clear hDa hLa h0 he PA PRx
      generalize (parseO s).2.2 = er at *
      generalize (parseO s).2.1 = at2 at *
      generalize (parseO s).1.2.length = n3 at *
      have Db := Below.alN Da (.cells #[.slice Aa 0 ca, .slice Ba n3 cb] 25)
      simp only [List.length_nil] at *
      go_wp2_with fail
      go_ret
      exact ⟨by simp, Db⟩
    have PRy : Hid (∀ W, Below w.heap.size w W → Below wa.heap.size wa W → Calls Tryz.prog 8 #[.agg #[.slice Aa (parseO s).1.1.length ca, .slice Ba (parseO s).1.2.length cb]] W fun e w' => e = .returned (.tuple #[.string (printB (parseO s).1.1 (parseO s).1.2), .int .i64 0]) ∧ Below W.heap.size W w') := fun W h h' => PRx.out s _ _ _ _ _ _ W h ((hDa.below h').mono h'.size) ((hLa.below h').mono h'.size) he
    have HV : Hid (netV (parseO s).1.1 (parseO s).1.2 = 0) := parseO_ok he
    have HDa : Hid (Devs wa.heap.size wa (.slice Aa (parseO s).1.1.length ca) (parseO s).1.1) := hDa
    have HLa : Hid (Links wa.heap.size wa (.slice Ba (parseO s).1.2.length cb) (parseO s).1.2) := hLa
    rw [he]
    clear he hDa hLa PRx
    generalize (parseO s).1.1 = xs at *
    generalize (parseO s).1.2 = ys at *
    generalize (parseO s).2.1 = at2 at *
    have Db := Below.alN Da (.cells #[.slice Aa xs.length ca, .slice Ba ys.length cb] 25)
    have Eb := Below.alN (Below.refl wa.heap.size wa) (.cells #[.slice Aa xs.length ca, .slice Ba ys.length cb] 25)
    have Xb := box2_new wa (.slice Aa xs.length ca) (.slice Ba ys.length cb) 25
    clear Da
    go_wp2_with fail
    refine (PRy.out _ Db Eb).mono ?_
    rintro e wc ⟨rfl, hbc⟩
    have Dc := chnN hbc Db
    have Ec := chnN hbc Eb
    have Xc := Xb.below hbc Xb.1
    clear hbc Db Eb Xb PRy
    go_wp2_with fail
    refine (PA.out _ _ Dc).mono ?_
    rintro e wd ⟨hbd, gd, gl, rfl, hDd, hLd⟩
    have Dd := chnN hbd Dc
    have Ed := chnN hbd Ec
    have Xd := Xc.below hbd Xc.1
    clear hbd Dc Ec Xc PA
    by_cases hq : 4096 < (printB xs ys).size
    · have e4 := parse_lg hq
      rw [e4]
      obtain ⟨Ay, cy1, rfl, _, _⟩ := SlAt.slice hDd
      obtain ⟨By, cy2, rfl, _, _⟩ := SlAt.slice hLd
      have t3 : decide ((4096 : Int) < ((printB xs ys).size : Int)) = true := by simp; omega
      clear hDd hLd e4 hq HV HDa HLa Ed
      generalize (parseO (printB xs ys)).1.1.length = n5 at *
      generalize (parseO (printB xs ys)).1.2.length = n6 at *
      generalize (parseO (printB xs ys)).2.1 = at3 at *
      generalize printB xs ys = ty at *
      have De := Below.alN Dd (.cells #[.slice Ay n5 cy1, .slice By n6 cy2] 25)
      go_wp2_with fail
      go_ret
      exact ⟨rfl, De⟩
    have e5 := parse_print HV.out (by omega)
    rw [e5] at hDd hLd ⊢
    simp only at hDd hLd ⊢
    obtain ⟨Ay, cy1, rfl, _, _⟩ := SlAt.slice hDd
    obtain ⟨By, cy2, rfl, _, _⟩ := SlAt.slice hLd
    have SM : Hid (∀ W, Below wd.heap.size wd W → Calls Tryz.prog 7 #[.agg #[.slice Aa xs.length ca, .slice Ba ys.length cb], .agg #[.slice Ay xs.length cy1, .slice By ys.length cy2]] W fun e w' => e = .returned (.bool true) ∧ Below W.heap.size W w') := fun W h' => by
      have h2 := chnN h' Ed
      exact same_net W ((HDa.out.below h2).mono h2.size) ((HLa.out.below h2).mono h2.size) ((hDd.below h').mono h'.size) ((hLd.below h').mono h'.size)
    have t3 : decide ((4096 : Int) < ((printB xs ys).size : Int)) = false := by simp; omega
    clear hDd hLd e5 hq HV HDa HLa Ed
    generalize printB xs ys = ty at *
    have De := Below.alN Dd (.cells #[.slice Ay xs.length cy1, .slice By ys.length cy2] 25)
    have Ee := Below.alN (Below.refl wd.heap.size wd) (.cells #[.slice Ay xs.length cy1, .slice By ys.length cy2] 25)
    have Xe := Xd.alloc (.cells #[.slice Ay xs.length cy1, .slice By ys.length cy2] 25)
    obtain ⟨_, x0, x1, _⟩ := id Xe
    go_wp2_with fail
    refine (SM.out _ Ee).mono ?_
    rintro e wf ⟨rfl, hbf⟩
    have Df := chnN hbf De
    clear hbf De Ee Xe Xd x0 x1
    go_wp2_with fail
    go_ret
    exact ⟨rfl, Df⟩
  have HZ : Hid (netV ds ls = 0) := hz
  rw [hz]
  clear hz
  go_wp2_with fail
  refine (PA.out _ _ D2).mono ?_
  rintro e w3 ⟨hb3, vd, vl, rfl, hX, hY⟩
  have D3 := chnN hb3 D2
  have B3 := B2.below hb3 B2.1
  clear hb3 D2 B2
  by_cases hl : 4096 < (printB ds ls).size
  · have e2 := parse_lg hl
    rw [e2]
    obtain ⟨Ax, cx, rfl, _, _⟩ := SlAt.slice hX
    obtain ⟨Bx, cy, rfl, _, _⟩ := SlAt.slice hY
    have t1 : decide ((4096 : Int) < ((printB ds ls).size : Int)) = true := by simp; omega
    have t2 : decide (((printB ds ls).size : Int) ≤ (4096 : Int)) = false := by simp; omega
    clear hX hY e2 HZ hD hL hl B3
    generalize (parseO (printB ds ls)).1.1.length = n1 at *
    generalize (parseO (printB ds ls)).1.2.length = n2 at *
    generalize (parseO (printB ds ls)).2.1 = at1 at *
    generalize printB ds ls = tx at *
    have D4 := Below.alN D3 (.cells #[.slice Ax n1 cx, .slice Bx n2 cy] 25)
    go_wp2_with fail
    refine (PA.out _ _ D4).mono ?_
    rintro e wa ⟨hba, ud, ul, rfl, hDa, hLa⟩
    have Da := chnN hba D4
    clear hba D4
    obtain ⟨Aa, ca, rfl, _, _⟩ := SlAt.slice hDa
    obtain ⟨Ba, cb, rfl, _, _⟩ := SlAt.slice hLa
    by_cases he : (parseO s).2.2 = 0
    rotate_left
    · have he1 : ((parseO s).2.2 == 0) = false := by simpa using he
      have h0 := parseO_bad he
      rw [h0]
      have hat : decide ((0 : Int) ≤ ((parseO s).2.1 : Int)) = true := by simp
      clear hDa hLa h0 he PA PRx
      generalize (parseO s).2.2 = er at *
      generalize (parseO s).2.1 = at2 at *
      generalize (parseO s).1.2.length = n3 at *
      have Db := Below.alN Da (.cells #[.slice Aa 0 ca, .slice Ba n3 cb] 25)
      simp only [List.length_nil] at *
      go_wp2_with fail
      go_ret
      exact ⟨by simp, Db⟩
    have PRy : Hid (∀ W, Below w.heap.size w W → Below wa.heap.size wa W → Calls Tryz.prog 8 #[.agg #[.slice Aa (parseO s).1.1.length ca, .slice Ba (parseO s).1.2.length cb]] W fun e w' => e = .returned (.tuple #[.string (printB (parseO s).1.1 (parseO s).1.2), .int .i64 0]) ∧ Below W.heap.size W w') := fun W h h' => PRx.out s _ _ _ _ _ _ W h ((hDa.below h').mono h'.size) ((hLa.below h').mono h'.size) he
    have HV : Hid (netV (parseO s).1.1 (parseO s).1.2 = 0) := parseO_ok he
    have HDa : Hid (Devs wa.heap.size wa (.slice Aa (parseO s).1.1.length ca) (parseO s).1.1) := hDa
    have HLa : Hid (Links wa.heap.size wa (.slice Ba (parseO s).1.2.length cb) (parseO s).1.2) := hLa
    rw [he]
    clear he hDa hLa PRx
    generalize (parseO s).1.1 = xs at *
    generalize (parseO s).1.2 = ys at *
    generalize (parseO s).2.1 = at2 at *
    have Db := Below.alN Da (.cells #[.slice Aa xs.length ca, .slice Ba ys.length cb] 25)
    have Eb := Below.alN (Below.refl wa.heap.size wa) (.cells #[.slice Aa xs.length ca, .slice Ba ys.length cb] 25)
    have Xb := box2_new wa (.slice Aa xs.length ca) (.slice Ba ys.length cb) 25
    clear Da
    go_wp2_with fail
    refine (PRy.out _ Db Eb).mono ?_
    rintro e wc ⟨rfl, hbc⟩
    have Dc := chnN hbc Db
    have Ec := chnN hbc Eb
    have Xc := Xb.below hbc Xb.1
    clear hbc Db Eb Xb PRy
    go_wp2_with fail
    refine (PA.out _ _ Dc).mono ?_
    rintro e wd ⟨hbd, gd, gl, rfl, hDd, hLd⟩
    have Dd := chnN hbd Dc
    have Ed := chnN hbd Ec
    have Xd := Xc.below hbd Xc.1
    clear hbd Dc Ec Xc PA
    by_cases hq : 4096 < (printB xs ys).size
    · have e4 := parse_lg hq
      rw [e4]
      obtain ⟨Ay, cy1, rfl, _, _⟩ := SlAt.slice hDd
      obtain ⟨By, cy2, rfl, _, _⟩ := SlAt.slice hLd
      have t3 : decide ((4096 : Int) < ((printB xs ys).size : Int)) = true := by simp; omega
      clear hDd hLd e4 hq HV HDa HLa Ed
      generalize (parseO (printB xs ys)).1.1.length = n5 at *
      generalize (parseO (printB xs ys)).1.2.length = n6 at *
      generalize (parseO (printB xs ys)).2.1 = at3 at *
      generalize printB xs ys = ty at *
      have De := Below.alN Dd (.cells #[.slice Ay n5 cy1, .slice By n6 cy2] 25)
      go_wp2_with fail
      go_ret
      exact ⟨rfl, De⟩
    have e5 := parse_print HV.out (by omega)
    rw [e5] at hDd hLd ⊢
    simp only at hDd hLd ⊢
    obtain ⟨Ay, cy1, rfl, _, _⟩ := SlAt.slice hDd
    obtain ⟨By, cy2, rfl, _, _⟩ := SlAt.slice hLd
    have SM : Hid (∀ W, Below wd.heap.size wd W → Calls Tryz.prog 7 #[.agg #[.slice Aa xs.length ca, .slice Ba ys.length cb], .agg #[.slice Ay xs.length cy1, .slice By ys.length cy2]] W fun e w' => e = .returned (.bool true) ∧ Below W.heap.size W w') := fun W h' => by
      have h2 := chnN h' Ed
      exact same_net W ((HDa.out.below h2).mono h2.size) ((HLa.out.below h2).mono h2.size) ((hDd.below h').mono h'.size) ((hLd.below h').mono h'.size)
    have t3 : decide ((4096 : Int) < ((printB xs ys).size : Int)) = false := by simp; omega
    clear hDd hLd e5 hq HV HDa HLa Ed
    generalize printB xs ys = ty at *
    have De := Below.alN Dd (.cells #[.slice Ay xs.length cy1, .slice By ys.length cy2] 25)
    have Ee := Below.alN (Below.refl wd.heap.size wd) (.cells #[.slice Ay xs.length cy1, .slice By ys.length cy2] 25)
    have Xe := Xd.alloc (.cells #[.slice Ay xs.length cy1, .slice By ys.length cy2] 25)
    obtain ⟨_, x0, x1, _⟩ := id Xe
    go_wp2_with fail
    refine (SM.out _ Ee).mono ?_
    rintro e wf ⟨rfl, hbf⟩
    have Df := chnN hbf De
    clear hbf De Ee Xe Xd x0 x1
    go_wp2_with fail
    go_ret
    exact ⟨rfl, Df⟩
  have e3 := parse_print HZ.out (by omega)
  rw [e3] at hX hY ⊢
  simp only at hX hY ⊢
  obtain ⟨Ax, cx, rfl, _, _⟩ := SlAt.slice hX
  obtain ⟨Bx, cy, rfl, _, _⟩ := SlAt.slice hY
  have SM : Hid (∀ W, Below w.heap.size w W → Below w3.heap.size w3 W → Calls Tryz.prog 7 #[.agg #[.slice Ax ds.length cx, .slice Bx ls.length cy], .agg #[.slice A ds.length cap, .slice B ls.length cap']] W fun e w' => e = .returned (.bool true) ∧ Below W.heap.size W w') := fun W h h' => same_net W ((hX.below h').mono h'.size) ((hY.below h').mono h'.size) ((hD.out.below h).mono h.size) ((hL.out.below h).mono h.size)
  have t1 : decide ((4096 : Int) < ((printB ds ls).size : Int)) = false := by simp; omega
  have t2 : decide (((printB ds ls).size : Int) ≤ (4096 : Int)) = true := by simp; omega
  clear hX hY e3 HZ hD hL hl
  have D4 := Below.alN D3 (.cells #[.slice Ax ds.length cx, .slice Bx ls.length cy] 25)
  have E4 := Below.alN (Below.refl w3.heap.size w3) (.cells #[.slice Ax ds.length cx, .slice Bx ls.length cy] 25)
  have B4 := B3.alloc (.cells #[.slice Ax ds.length cx, .slice Bx ls.length cy] 25)
  clear D3 B3
  obtain ⟨_, b0, b1, _⟩ := id B4
  generalize printB ds ls = tx at *
  go_wp2_with fail
  refine (SM.out _ D4 E4).mono ?_
  rintro e w5 ⟨rfl, hb5⟩
  have D5 := chnN hb5 D4
  clear hb5 D4 E4 B4 SM b0 b1 t1 t2
  go_wp2_with fail
  refine (PA.out _ _ D5).mono ?_
  rintro e wa ⟨hba, ud, ul, rfl, hDa, hLa⟩
  have Da := chnN hba D5
  clear hba D5
  obtain ⟨Aa, ca, rfl, _, _⟩ := SlAt.slice hDa
  obtain ⟨Ba, cb, rfl, _, _⟩ := SlAt.slice hLa
  by_cases he : (parseO s).2.2 = 0
  rotate_left
  · have he1 : ((parseO s).2.2 == 0) = false := by simpa using he
    have h0 := parseO_bad he
    rw [h0]
    have hat : decide ((0 : Int) ≤ ((parseO s).2.1 : Int)) = true := by simp
    clear hDa hLa h0 he PA PRx
    generalize (parseO s).2.2 = er at *
    generalize (parseO s).2.1 = at2 at *
    generalize (parseO s).1.2.length = n3 at *
    have Db := Below.alN Da (.cells #[.slice Aa 0 ca, .slice Ba n3 cb] 25)
    simp only [List.length_nil] at *
    go_wp2_with fail
    go_ret
    exact ⟨by simp, Db⟩
  have PRy : Hid (∀ W, Below w.heap.size w W → Below wa.heap.size wa W → Calls Tryz.prog 8 #[.agg #[.slice Aa (parseO s).1.1.length ca, .slice Ba (parseO s).1.2.length cb]] W fun e w' => e = .returned (.tuple #[.string (printB (parseO s).1.1 (parseO s).1.2), .int .i64 0]) ∧ Below W.heap.size W w') := fun W h h' => PRx.out s _ _ _ _ _ _ W h ((hDa.below h').mono h'.size) ((hLa.below h').mono h'.size) he
  have HV : Hid (netV (parseO s).1.1 (parseO s).1.2 = 0) := parseO_ok he
  have HDa : Hid (Devs wa.heap.size wa (.slice Aa (parseO s).1.1.length ca) (parseO s).1.1) := hDa
  have HLa : Hid (Links wa.heap.size wa (.slice Ba (parseO s).1.2.length cb) (parseO s).1.2) := hLa
  rw [he]
  clear he hDa hLa PRx
  generalize (parseO s).1.1 = xs at *
  generalize (parseO s).1.2 = ys at *
  generalize (parseO s).2.1 = at2 at *
  have Db := Below.alN Da (.cells #[.slice Aa xs.length ca, .slice Ba ys.length cb] 25)
  have Eb := Below.alN (Below.refl wa.heap.size wa) (.cells #[.slice Aa xs.length ca, .slice Ba ys.length cb] 25)
  have Xb := box2_new wa (.slice Aa xs.length ca) (.slice Ba ys.length cb) 25
  clear Da
  go_wp2_with fail
  refine (PRy.out _ Db Eb).mono ?_
  rintro e wc ⟨rfl, hbc⟩
  have Dc := chnN hbc Db
  have Ec := chnN hbc Eb
  have Xc := Xb.below hbc Xb.1
  clear hbc Db Eb Xb PRy
  go_wp2_with fail
  refine (PA.out _ _ Dc).mono ?_
  rintro e wd ⟨hbd, gd, gl, rfl, hDd, hLd⟩
  have Dd := chnN hbd Dc
  have Ed := chnN hbd Ec
  have Xd := Xc.below hbd Xc.1
  clear hbd Dc Ec Xc PA
  by_cases hq : 4096 < (printB xs ys).size
  · have e4 := parse_lg hq
    rw [e4]
    obtain ⟨Ay, cy1, rfl, _, _⟩ := SlAt.slice hDd
    obtain ⟨By, cy2, rfl, _, _⟩ := SlAt.slice hLd
    have t3 : decide ((4096 : Int) < ((printB xs ys).size : Int)) = true := by simp; omega
    clear hDd hLd e4 hq HV HDa HLa Ed
    generalize (parseO (printB xs ys)).1.1.length = n5 at *
    generalize (parseO (printB xs ys)).1.2.length = n6 at *
    generalize (parseO (printB xs ys)).2.1 = at3 at *
    generalize printB xs ys = ty at *
    have De := Below.alN Dd (.cells #[.slice Ay n5 cy1, .slice By n6 cy2] 25)
    go_wp2_with fail
    go_ret
    exact ⟨rfl, De⟩
  have e5 := parse_print HV.out (by omega)
  rw [e5] at hDd hLd ⊢
  simp only at hDd hLd ⊢
  obtain ⟨Ay, cy1, rfl, _, _⟩ := SlAt.slice hDd
  obtain ⟨By, cy2, rfl, _, _⟩ := SlAt.slice hLd
  have SM : Hid (∀ W, Below wd.heap.size wd W → Calls Tryz.prog 7 #[.agg #[.slice Aa xs.length ca, .slice Ba ys.length cb], .agg #[.slice Ay xs.length cy1, .slice By ys.length cy2]] W fun e w' => e = .returned (.bool true) ∧ Below W.heap.size W w') := fun W h' => by
    have h2 := chnN h' Ed
    exact same_net W ((HDa.out.below h2).mono h2.size) ((HLa.out.below h2).mono h2.size) ((hDd.below h').mono h'.size) ((hLd.below h').mono h'.size)
  have t3 : decide ((4096 : Int) < ((printB xs ys).size : Int)) = false := by simp; omega
  clear hDd hLd e5 hq HV HDa HLa Ed
  generalize printB xs ys = ty at *
  have De := Below.alN Dd (.cells #[.slice Ay xs.length cy1, .slice By ys.length cy2] 25)
  have Ee := Below.alN (Below.refl wd.heap.size wd) (.cells #[.slice Ay xs.length cy1, .slice By ys.length cy2] 25)
  have Xe := Xd.alloc (.cells #[.slice Ay xs.length cy1, .slice By ys.length cy2] 25)
  obtain ⟨_, x0, x1, _⟩ := id Xe
  go_wp2_with fail
  refine (SM.out _ Ee).mono ?_
  rintro e wf ⟨rfl, hbf⟩
  have Df := chnN hbf De
  clear hbf De Ee Xe Xd x0 x1
  go_wp2_with fail
  go_ret
  exact ⟨rfl, Df⟩
end Go.Proofs.YthofdiacncgbkaaGreatDoor
