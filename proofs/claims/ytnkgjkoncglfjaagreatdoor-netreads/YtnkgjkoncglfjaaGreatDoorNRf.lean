/-
  NetReads: the document's answer: a link's line.
-/
import Derived.Test.YtnkgjkoncglfjaaGreatDoorNRd
import Derived.Deep.RegionHeldLaw
namespace Go.Proofs.YtnkgjkoncglfjaaGreatDoor
open Go.RowKit

/-- How a net that is being read stands: three cases. -/
theorem stands (n m : Nat) (A : Option Addr) (hA : 0 < n → ∃ gd, A = some ⟨gd, 0, none⟩) : n = 0 ∨ (¬ n = 0 ∧ (0 : Int) < (n : Int) ∧ ((m : Int) == 0) = false) ∨ ((∃ gd k, n = k + 1 ∧ A = some ⟨gd, 0, none⟩) ∧ m = 0) := by
  by_cases h0 : n = 0
  · exact .inl h0
  · by_cases hm : m = 0
    · obtain ⟨gd, hg⟩ := hA (by omega)
      exact .inr (.inr ⟨⟨gd, n - 1, by omega, hg⟩, hm⟩)
    · exact .inr (.inl ⟨h0, by omega, by simp; omega⟩)
set_option maxHeartbeats 8000000 in
set_option maxRecDepth 1000000 in
theorem nl_link_few (B rb g nw cw n m c1 c2 : Nat) (A C : Option Addr) (s0 : ByteArray) (w : World)
    (k0 : w.cell? ⟨rb, 0, none⟩ = some (.slice A n c1)) (k1 : w.cell? ⟨rb, 1, none⟩ = some (.slice C m c2)) (hn : n ≤ 5000) (hm : m ≤ 5000) (g0 : w.cell? ⟨g, 0, none⟩ = some (.string s0)) (hnw : 0 < nw) (hw : nw ≤ 5000) (h5 : nw ≠ 5) (hA : 0 < n → ∃ gd, A = some ⟨gd, 0, none⟩)
    (q1 : (s0.toList == [112, 101, 114, 109, 105, 116]) = false) (q2 : (s0.toList == [100, 101, 110, 121]) = false) (q3 : (s0.toList == [114, 111, 117, 116, 101]) = false) (q4 : (s0.toList == [108, 105, 110, 107]) = true) :
    Calls Tryz.prog 11 #[.pointer (some ⟨rb, 0, none⟩), .slice (some ⟨g, 0, none⟩) nw cw] w fun e w' => LineN B rb w none e w' := by
  have cases3 := stands n m A hA
  clear hA
  have hn5 : ((nw : Int) == 5) = false := by simp; omega
  have hnw' : (0 : Int) < (nw : Int) := by omega
  have D0 : LineN B rb w none (.returned (.bool false)) w := ⟨Below.refl _ _, rfl⟩
  have D1 : LineN B rb w none (.returned (.bool false)) w.drew := ⟨(Below.refl _ _).drew, rfl⟩
  rcases cases3 with rfl | ⟨_, hn1, hm1⟩ | ⟨⟨gd, k, rfl, rfl⟩, rfl⟩
  all_goals
    go_enter Tryz.func11, Tryz.ntmps11
    repeat (first | go_guarded | go_step)
    try (have e1 : (((k + 1 : Nat) : Int) - 1) = (k : Int) := (by omega); have hk1 : ¬ ((k : Int) < 0) := (by omega); go_region; repeat (first | go_guarded | go_step))
    go_ret
    first | exact D0 | exact D1
/-- The last one found from k on, as the document's loop tells it, from the end. -/
theorem findFrom_step {ds : List Dv} {s : List UInt8} {k : Nat} {d : Dv} (h : ds[k]? = some d) : findFrom ds s k = if d.name.toList == s then (k : Int) else findFrom ds s (k + 1) := findFrom_at h
set_option maxHeartbeats 8000000 in
set_option maxRecDepth 1000000 in
theorem nl_link_go (B rb g : Nat) (xs : List (Dv × Sub)) (ls : List Lk) (A C : Option Addr) (cap cap' : Nat) (s0 a p b q : ByteArray) (cw : Nat) (np nq ia ib : Int) (cs : Array Value) (w : World)
    (hB : B ≤ w.heap.size) (hrb : B ≤ rb) (K0 : Blk w rb #[.slice A xs.length cap, .slice C ls.length cap'] 25) (R : RdOk B w xs ls (.slice A xs.length cap) (.slice C ls.length cap')) (hn : xs.length ≤ 5000) (hm : ls.length ≤ 5000)
    (G : Blk w g cs 9) (hg0 : cs[0]? = some (.string s0)) (hg1 : cs[1]? = some (.string a)) (hg2 : cs[2]? = some (.string p)) (hg3 : cs[3]? = some (.string b)) (hg4 : cs[4]? = some (.string q))
    (q1 : (s0.toList == [112, 101, 114, 109, 105, 116]) = false) (q2 : (s0.toList == [100, 101, 110, 121]) = false) (q3 : (s0.toList == [114, 111, 117, 116, 101]) = false) (q4 : (s0.toList == [108, 105, 110, 107]) = true)
    (HIA : Hid (findFrom (xs.map Prod.fst) a.toList 0 = ia)) (HIB : Hid (findFrom (xs.map Prod.fst) b.toList 0 = ib))
    (A1 : Hid (∀ W, Calls Tryz.prog 30 #[.string p, .int .i64 99] W fun e w' => e = .returned (.int .i64 np) ∧ w' = W))
    (A2 : Hid (∀ W, Calls Tryz.prog 30 #[.string q, .int .i64 99] W fun e w' => e = .returned (.int .i64 nq) ∧ w' = W)) :
    Calls Tryz.prog 11 #[.pointer (some ⟨rb, 0, none⟩), .slice (some ⟨g, 0, none⟩) 5 cw] w fun e w' => LineN B rb w (if 0 ≤ ia ∧ 0 ≤ ib ∧ 0 ≤ np ∧ 0 ≤ nq then some (xs.map Prod.fst, ls ++ [⟨ia, np, ib, nq⟩]) else none) e w' := by
  have cases3 := stands xs.length ls.length A (fun h => own_head R.dev (by omega))
  have k0 : w.cell? ⟨rb, 0, none⟩ = some (.slice A xs.length cap) := K0.cell 0 _ rfl
  have k1 : w.cell? ⟨rb, 1, none⟩ = some (.slice C ls.length cap') := K0.cell 1 _ rfl
  have g0 := G.cell 0 _ hg0
  have g2 := G.cell 2 _ hg2
  have g4 := G.cell 4 _ hg4
  have hglt := G.lt
  have Ka : Blk w.drew rb #[.slice A xs.length cap, .slice C ls.length cap'] 25 := K0
  go_enter Tryz.func11, Tryz.ntmps11
  go_upto_region 2 with fail
  go_cut [30] from 17 to 29 (fun v30 wx => v30 = .bool (decide (0 < xs.length ∧ ls.length = 0)) ∧ wx = w)
  case first =>
    rcases cases3 with hz | ⟨_, hn1, hm1⟩ | ⟨⟨gd, k, hk, rfl⟩, hz⟩
    · have k0' : w.cell? ⟨rb, 0, none⟩ = some (.slice A 0 cap) := k0.trans (by rw [hz])
      clear k0
      repeat (first | go_guarded | go_step)
      go_meet
      exact ⟨by simp [hz], rfl⟩
    · repeat (first | go_guarded | go_step)
      go_meet
      exact ⟨by rw [decide_eq_false]; intro h; rw [h.2] at hm1; simp at hm1, rfl⟩
    · have k0' : w.cell? ⟨rb, 0, none⟩ = some (.slice (some ⟨gd, 0, none⟩) (k + 1) cap) := k0.trans (by rw [hk])
      have k1' : w.cell? ⟨rb, 1, none⟩ = some (.slice C 0 cap') := k1.trans (by rw [hz])
      clear k0 k1
      repeat (first | go_guarded | go_step)
      go_meet
      exact ⟨by simp [hz, hk], rfl⟩
  case rest =>
    obtain ⟨rfl, hx⟩ := hcut
    obtain rfl := hx.symm
    generalize hbo : decide (0 < xs.length ∧ ls.length = 0) = bo at *
    go_step
    go_cut [5] from 31 to 41 (fun _ wx => wx = w ∨ wx = w.drew)
    case first =>
      cases bo with
      | true =>
        have hop : 0 < xs.length ∧ ls.length = 0 := of_decide_eq_true hbo
        obtain ⟨gd, hgd⟩ := own_head R.dev (by omega)
        obtain ⟨k, hk⟩ : ∃ k, xs.length = k + 1 := ⟨xs.length - 1, by omega⟩
        have k0' : w.cell? ⟨rb, 0, none⟩ = some (.slice (some ⟨gd, 0, none⟩) (k + 1) cap) := k0.trans (by rw [hk, hgd])
        have hk5 : k ≤ 5000 := by omega
        have e1 : (((k + 1 : Nat) : Int) - 1) = (k : Int) := by omega
        have hk1 : ¬ ((k : Int) < 0) := by omega
        clear k0 k1 cases3 hbo hop hk hgd
        repeat (first | go_guarded | go_step)
        go_region
        repeat (first | go_guarded | go_step)
        go_meet
        exact .inr rfl
      | false =>
        clear k0 k1 cases3 hbo
        repeat (first | go_guarded | go_step)
        go_meet
        exact .inl rfl
    case rest =>
      have D1 : Below w.heap.size w wc := by
        rcases hcut with rfl | rfl
        · exact Below.refl _ _
        · exact (Below.refl _ _).drew
      clear hcut cases3 k0 k1 g0 g2 g4 hbo
      generalize wc = w1 at *
      have G1 := G.keep D1
      have g0 := G1.cell 0 _ hg0
      have g2 := G1.cell 2 _ hg2
      have g4 := G1.cell 4 _ hg4
      repeat (first | go_guarded | go_step)
      go_cut [10] from 133 to 141 (fun v10 wx => v10 = .pointer (some ⟨w1.heap.size, 0, none⟩) ∧ wx = (w1.alloc (.cells #[.int .i64 (-1), .int .i64 np, .int .i64 (-1), .int .i64 nq] 44)).drew)
      case first =>
        go_region_held3 (fun w' => w'.cell? ⟨g, 2, none⟩ = some (.string p) ∧ w'.cell? ⟨g, 4, none⟩ = some (.string q)) (go_keep) ((first | (go_at_call_of 30 (Value.string p); refine (A1.out _).mono ?_; rintro e w3 ⟨rfl, rfl⟩) | (go_at_call_of 30 (Value.string q); refine (A2.out _).mono ?_; rintro e w4 ⟨rfl, rfl⟩)))
        all_goals
          repeat (first | go_guarded | go_step)
          go_meet
          exact ⟨rfl, rfl⟩
      case rest =>
        obtain ⟨rfl, rfl⟩ := hcut
        have L2 := (blk_new w1 #[.int .i64 (-1), .int .i64 np, .int .i64 (-1), .int .i64 nq] 44).drew
        have D2 : Below w.heap.size w (w1.alloc (.cells #[.int .i64 (-1), .int .i64 np, .int .i64 (-1), .int .i64 nq] 44)).drew := (D1.alloc D1.size _).drew
        have hbx := D1.size
        clear A1 A2 g0 g2 g4 G1 D1
        generalize (w1.alloc (.cells #[.int .i64 (-1), .int .i64 np, .int .i64 (-1), .int .i64 nq] 44)).drew = w2 at *
        generalize w1.heap.size = bx at *
        have K2 := K0.keep D2
        have k0 := K2.cell 0 _ rfl
        have hds : ∀ (j : Nat) x, xs[j]? = some x → (xs.map Prod.fst)[j]? = some x.1 := fun j x h => by rw [List.getElem?_map, h]; rfl
        have HDS : Hid (∀ (j : Nat) x, xs[j]? = some x → (xs.map Prod.fst)[j]? = some x.1) := hds
        have HDL : Hid ((xs.map Prod.fst).length = xs.length) := by show _ = _; simp
        clear hds
        generalize xs.map Prod.fst = ds at *
        have L2' : Blk w2 bx #[.int .i64 (findFrom ds a.toList xs.length), .int .i64 np, .int .i64 (findFrom ds b.toList xs.length), .int .i64 nq] 44 := by
          rw [findFrom_end (by rw [HDL.out]; exact Nat.le_refl _), findFrom_end (by rw [HDL.out]; exact Nat.le_refl _)]
          exact L2
        clear L2
        repeat (first | go_guarded | go_step)
        go_loopw [11] (fun i wr => ∃ k : Nat, i = .int .i64 ((k : Int) - 1) ∧ k ≤ xs.length ∧ Blk wr bx #[.int .i64 (findFrom ds a.toList k), .int .i64 np, .int .i64 (findFrom ds b.toList k), .int .i64 nq] 44 ∧ Below w.heap.size w wr) (fun i _ => (intOf i + 1).toNat)
        case atStart => exact ⟨xs.length, rfl, Nat.le_refl _, L2', D2⟩
        case round =>
          obtain ⟨k, rfl, hk, LB, DW⟩ := hrel
          clear L2' D2 K2 k0
          have KW := K0.keep DW
          have GW := G.keep DW
          have RW := R.below DW
          cases k with
          | zero =>
            rw [HIA.out, HIB.out] at LB
            clear HIA HIB HDS HDL
            have hz1 : (((0 : Nat) : Int) - 1) = -1 := rfl
            rw [hz1]
            have hB6 : B ≤ wr.drew.heap.size := Nat.le_trans hB DW.size
            obtain ⟨v7, w7, r7, R7, D7, Kp7⟩ := (RW.below (Below.refl _ wr).drew).addLink ⟨ia, np, ib, nq⟩ hm hB6 23
            have r7' : (Builtin.append_ #[23, 23] 23 #[.slice C ls.length cap', .slice (some ⟨wr.heap.size, 0, none⟩) 1 1]).run Tryz.prog (wr.alloc (.cells #[.int .i64 ia, .int .i64 np, .int .i64 ib, .int .i64 nq] 44)).drew = .ok v7 w7 := r7
            have K7 := Blk.keptB (w := wr.drew) KW Kp7 (fun e => KW.apart (w := wr) RW.lnk (by decide) e.symm)
            have X7 := Blk.keptB (w := wr.drew) LB Kp7 (fun e => by
              have := own_block R.lnk (g := bx) e.symm
              omega)
            have hrx : bx ≠ rb := by have := K0.lt; omega
            have R8 := R7.net K7 1 v7
            have K8 : Blk (w7.setCell ⟨rb, 1, none⟩ v7) rb #[.slice A xs.length cap, v7] 25 := K7.set v7
            have X8 := X7.setOther (g := rb) (j := 1) hrx v7
            have D8 := ((DW.mono hB).drew.trans D7).setCell (p := ⟨rb, 1, none⟩) hrb v7
            have f1 := K7.free 1
            have c7 := K7.cell 1 _ rfl
            have c1 : wr.cell? ⟨rb, 1, none⟩ = some (.slice C ls.length cap') := KW.cell 1 _ rfl
            have c1a := cell_alN c1 (.cells #[.int .i64 ia, .int .i64 np, .int .i64 ib, .int .i64 nq] 44)
            have x0 := LB.cell 0 _ rfl
            have x1 := LB.cell 1 _ rfl
            have x2 := LB.cell 2 _ rfl
            have x3 := LB.cell 3 _ rfl
            have y0 := X8.cell 0 _ rfl
            have y1 := X8.cell 1 _ rfl
            have y2 := X8.cell 2 _ rfl
            have y3 := X8.cell 3 _ rfl
            obtain ⟨A7, cap7, hv7⟩ := own_slice R7.lnk
            rw [List.length_append, List.length_singleton] at hv7
            subst hv7
            have FIN : Hid (LineN B rb w (some (xs.map Prod.fst, ls ++ [⟨ia, np, ib, nq⟩])) (.returned (.bool true)) (w7.setCell ⟨rb, 1, none⟩ (.slice A7 (ls.length + 1) cap7))) := ⟨D8, rfl, xs, _, _, rfl, hrb, K8, R8⟩
            have FINN : Hid (LineN B rb w none (.returned (.bool false)) (w7.setCell ⟨rb, 1, none⟩ (.slice A7 (ls.length + 1) cap7))) := ⟨D8, rfl⟩
            clear K0 R G KW GW RW LB DW r7 R7 D7 Kp7 K7 X7 R8 K8 X8 D8 hrx hB6
            repeat (first | go_guarded | go_step)
            go_region_law (refine step_append_run (by rfl) _ _ 23 (by rfl) _ _ _ w7 (by rfl) (by rfl) r7' ?_)
            all_goals
              by_cases h0 : 0 ≤ ia
              · by_cases h1 : 0 ≤ ib
                · by_cases h2 : 0 ≤ np
                  · by_cases h3 : 0 ≤ nq
                    · repeat (first | go_guarded | go_step)
                      go_ret
                      rw [if_pos ⟨h0, h1, h2, h3⟩]
                      exact FIN.out
                    · repeat (first | go_guarded | go_step)
                      go_ret
                      rw [if_neg (fun h => h3 h.2.2.2)]
                      exact FINN.out
                  · repeat (first | go_guarded | go_step)
                    go_ret
                    rw [if_neg (fun h => h2 h.2.2.1)]
                    exact FINN.out
                · repeat (first | go_guarded | go_step)
                  go_ret
                  rw [if_neg (fun h => h1 h.2.1)]
                  exact FINN.out
              · repeat (first | go_guarded | go_step)
                go_ret
                rw [if_neg (fun h => h0 h.1)]
                exact FINN.out
          | succ j =>
            have hj : (((j + 1 : Nat) : Int) - 1) = (j : Int) := by omega
            rw [hj]
            obtain ⟨x, hx⟩ : ∃ x, xs[j]? = some x := ⟨xs[j], List.getElem?_eq_getElem (by omega)⟩
            obtain ⟨gd, rfl⟩ := own_head R.dev (by omega)
            have hgd := (own_block R.dev (g := gd) rfl).1
            have hfa := findFrom_at (s := a.toList) (HDS.out j x hx)
            have hfb := findFrom_at (s := b.toList) (HDS.out j x hx)
            have nm : wr.cell? ⟨gd, j * 7, none⟩ = some (.string x.1.name) := (own_cell RW.dev rfl (by have := flat_at subC 7 xs (fun _ _ => rfl) j x hx 0 _ rfl; simpa [devsC] using this)).1
            have k0 : wr.cell? ⟨rb, 0, none⟩ = some (.slice (some ⟨gd, 0, none⟩) xs.length cap) := KW.cell 0 _ rfl
            have g1 := GW.cell 1 _ hg1
            have g3 := GW.cell 3 _ hg3
            have l0 := LB.cell 0 _ rfl
            have l2 := LB.cell 2 _ rfl
            have lf0 := LB.free 0
            have lf2 := LB.free 2
            have hrx := K0.lt
            have M0 := LB.set (j := 0) (.int .i64 (j : Int))
            have nm' := (World.cell?_setCell_far wr ⟨bx, 0, none⟩ ⟨gd, j * 7, none⟩ (.int .i64 (j : Int)) (show bx ≠ gd by omega)).trans nm
            have k0' := (World.cell?_setCell_far wr ⟨bx, 0, none⟩ ⟨rb, 0, none⟩ (.int .i64 (j : Int)) (show bx ≠ rb by omega)).trans k0
            have g3' := (World.cell?_setCell_far wr ⟨bx, 0, none⟩ ⟨g, 3, none⟩ (.int .i64 (j : Int)) (show bx ≠ g by omega)).trans g3
            have m2 := M0.cell 2 _ rfl
            have mf2 := M0.free 2
            have E0 := DW.setCell (p := ⟨bx, 0, none⟩) hbx (.int .i64 (j : Int))
            have N2 := LB.set (j := 2) (.int .i64 (j : Int))
            have E2 := DW.setCell (p := ⟨bx, 2, none⟩) hbx (.int .i64 (j : Int))
            have M2 := M0.set (j := 2) (.int .i64 (j : Int))
            have E02 := E0.setCell (p := ⟨bx, 2, none⟩) hbx (.int .i64 (j : Int))
            have hj0 : (0 : Int) ≤ (j : Int) := by omega
            have hjl : (j : Int) < (xs.length : Int) := by omega
            clear KW GW RW HDS HIA HIB K0 R G hj hx
            cases ca : (x.1.name.toList == a.toList) <;> cases cb : (x.1.name.toList == b.toList)
            all_goals
              rw [ca] at hfa
              rw [cb] at hfb
              have HFA : Hid (findFrom ds a.toList j = _) := hfa
              have HFB : Hid (findFrom ds b.toList j = _) := hfb
              clear hfa hfb
              repeat (first | go_guarded | go_step)
              go_region
              repeat (first | go_guarded | go_step)
              go_region
              repeat (first | go_guarded | go_step)
              go_roundw
              case rel => exact ⟨j, rfl, by omega, (by rw [HFA.out, HFB.out]; first | exact LB | exact M0 | exact N2 | exact M2), (by first | exact DW.drew.drew | exact (DW.drew.setCell (p := ⟨bx, 0, none⟩) hbx _).drew | exact (DW.drew.drew.setCell (p := ⟨bx, 2, none⟩) hbx _) | exact ((DW.drew.setCell (p := ⟨bx, 0, none⟩) hbx _).drew.setCell (p := ⟨bx, 2, none⟩) hbx _))⟩
              case measure => (simp [intOf])
end Go.Proofs.YtnkgjkoncglfjaaGreatDoor
