/-
  NetReads: the document's answer: a route's line.
-/
import Derived.Test.YtnkgjkoncglfjaaGreatDoorNRd
import Derived.Deep.RegionHeldLaw
namespace Go.Proofs.YtnkgjkoncglfjaaGreatDoor
open Go.RowKit

set_option maxHeartbeats 8000000 in
set_option maxRecDepth 1000000 in
theorem nl_route_nil (B rb g nw cw n m c1 c2 : Nat) (A C : Option Addr) (s0 : ByteArray) (w : World)
    (k0 : w.cell? ⟨rb, 0, none⟩ = some (.slice A n c1)) (k1 : w.cell? ⟨rb, 1, none⟩ = some (.slice C m c2)) (hn : n ≤ 5000) (hm : m ≤ 5000) (g0 : w.cell? ⟨g, 0, none⟩ = some (.string s0)) (hnw : 0 < nw) (hw : nw ≤ 5000) (_hcw : nw ≤ cw) (_hcm : cw ≤ 9223372036854775807)
    (hP : NoD n m ∨ ((∃ gd k, n = k + 1 ∧ A = some ⟨gd, 0, none⟩) ∧ m = 0 ∧ nw ≠ 3))
    (q1 : (s0.toList == [112, 101, 114, 109, 105, 116]) = false) (q2 : (s0.toList == [100, 101, 110, 121]) = false) (q3 : (s0.toList == [114, 111, 117, 116, 101]) = true) :
    Calls Tryz.prog 11 #[.pointer (some ⟨rb, 0, none⟩), .slice (some ⟨g, 0, none⟩) nw cw] w fun e w' => LineN B rb w none e w' := by
  have cases3 : n = 0 ∨ (¬ n = 0 ∧ (0 : Int) < (n : Int) ∧ ((m : Int) == 0) = false) ∨ ((∃ gd k, n = k + 1 ∧ A = some ⟨gd, 0, none⟩) ∧ m = 0 ∧ ((nw : Int) == 3) = false) := by
    rcases hP with (h | ⟨h1, h2⟩) | ⟨h1, h2, h3⟩
    · exact .inl h
    · exact .inr (.inl ⟨by omega, by omega, by simp; omega⟩)
    · exact .inr (.inr ⟨h1, h2, by simp; omega⟩)
  clear hP
  have hnw' : (0 : Int) < (nw : Int) := by omega
  have D0 : LineN B rb w none (.returned (.bool false)) w := ⟨Below.refl _ _, rfl⟩
  have D1 : LineN B rb w none (.returned (.bool false)) w.drew := ⟨(Below.refl _ _).drew, rfl⟩
  rcases cases3 with rfl | ⟨_, hn1, hm1⟩ | ⟨⟨gd, k, rfl, rfl⟩, rfl, he⟩
  all_goals
    go_enter Tryz.func11, Tryz.ntmps11
    repeat (first | go_guarded | go_step)
    try (have e1 : (((k + 1 : Nat) : Int) - 1) = (k : Int) := (by omega); have hk1 : ¬ ((k : Int) < 0) := (by omega); go_region; repeat (first | go_guarded | go_step))
    go_ret
    first | exact D0 | exact D1
set_option maxHeartbeats 8000000 in
set_option maxRecDepth 1000000 in
theorem nl_route_few (B rb g cw k c1 c2 gd np : Nat) (C : Option Addr) (s0 s1 : ByteArray) (w : World) (hB : B ≤ w.heap.size)
    (k0 : w.cell? ⟨rb, 0, none⟩ = some (.slice (some ⟨gd, 0, none⟩) (k + 1) c1)) (k1 : w.cell? ⟨rb, 1, none⟩ = some (.slice C 0 c2)) (hk : k ≤ 5000) (g0 : w.cell? ⟨g, 0, none⟩ = some (.string s0)) (g1 : w.cell? ⟨g, 1, none⟩ = some (.string s1)) (_hcw : 3 ≤ cw) (_hcm : cw ≤ 9223372036854775807) (hnp : np ≠ 2)
    (q1 : (s0.toList == [112, 101, 114, 109, 105, 116]) = false) (q2 : (s0.toList == [100, 101, 110, 121]) = false) (q3 : (s0.toList == [114, 111, 117, 116, 101]) = true)
    (PC : Hid (∀ W, Calls Tryz.prog 12 #[.string s1, .int .u8 47] W fun e w' => ∃ h ch, e = .returned (.slice (some ⟨h, 0, none⟩) np ch) ∧ Below W.heap.size W w')) :
    Calls Tryz.prog 11 #[.pointer (some ⟨rb, 0, none⟩), .slice (some ⟨g, 0, none⟩) 3 cw] w fun e w' => LineN B rb w none e w' := by
  have e1 : (((k + 1 : Nat) : Int) - 1) = (k : Int) := by omega
  have hk1 : ¬ ((k : Int) < 0) := by omega
  have h2 : ((np : Int) == 2) = false := by simp; omega
  go_enter Tryz.func11, Tryz.ntmps11
  repeat (first | go_guarded | go_step)
  go_region
  repeat (first | go_guarded | go_step)
  refine (PC.out _).mono ?_
  rintro e w2 ⟨h, ch, rfl, hb2⟩
  dsimp only
  have D2 : Below B w w2 := ((Below.refl _ w).drew.trans hb2).mono hB
  clear k0 k1 g0 g1 hb2 PC
  repeat (first | go_guarded | go_step)
  go_ret
  exact ⟨D2, rfl⟩
set_option maxHeartbeats 8000000 in
set_option maxRecDepth 1000000 in
theorem nl_route_go (B rb g gd : Nat) (ys : List (Dv × Sub)) (C : Option Addr) (cap cap' : Nat) (d : Dv) (vb vr : Value) (At : Option Addr) (ct : Nat) (s0 s1 s2 x y : ByteArray) (cw : Nat) (v b p : Int) (cs : Array Value) (w : World)
    (hB : B ≤ w.heap.size) (hrb : B ≤ rb) (K0 : Blk w rb #[.slice (some ⟨gd, 0, none⟩) (ys.length + 1) cap, .slice C 0 cap'] 25) (R : RdOk B w (ys ++ [(d, vb, vr, .slice At d.routes.length ct)]) [] (.slice (some ⟨gd, 0, none⟩) (ys.length + 1) cap) (.slice C 0 cap')) (hn : d.routes.length ≤ 5000) (hy : ys.length ≤ 5000) (_hcw : 3 ≤ cw) (_hcm : cw ≤ 9223372036854775807)
    (G : Blk w g cs 9) (hg0 : cs[0]? = some (.string s0)) (hg1 : cs[1]? = some (.string s1)) (hg2 : cs[2]? = some (.string s2))
    (q1 : (s0.toList == [112, 101, 114, 109, 105, 116]) = false) (q2 : (s0.toList == [100, 101, 110, 121]) = false) (q3 : (s0.toList == [114, 111, 117, 116, 101]) = true)
    (PC : Hid (∀ W, Calls Tryz.prog 12 #[.string s1, .int .u8 47] W fun e w' => ∃ h ch, e = .returned (.slice (some ⟨h, 0, none⟩) 2 ch) ∧ 2 ≤ ch ∧ ch ≤ 9223372036854775807 ∧ h < w'.heap.size ∧ w'.cell? ⟨h, 0, none⟩ = some (.string x) ∧ w'.cell? ⟨h, 1, none⟩ = some (.string y) ∧ Below W.heap.size W w'))
    (A1 : Hid (∀ W, Calls Tryz.prog 30 #[.string x, .int .i64 99] W fun e w' => e = .returned (.int .i64 v) ∧ w' = W))
    (A2 : Hid (∀ W, Calls Tryz.prog 30 #[.string y, .int .i64 99] W fun e w' => e = .returned (.int .i64 b) ∧ w' = W))
    (A3 : Hid (∀ W, Calls Tryz.prog 30 #[.string s2, .int .i64 99] W fun e w' => e = .returned (.int .i64 p) ∧ w' = W)) :
    Calls Tryz.prog 11 #[.pointer (some ⟨rb, 0, none⟩), .slice (some ⟨g, 0, none⟩) 3 cw] w fun e w' => LineN B rb w (if 0 ≤ v ∧ 0 ≤ b ∧ 0 ≤ p then some (ys.map Prod.fst ++ [{ d with routes := d.routes ++ [⟨v, b, p⟩] }], []) else none) e w' := by
  have e1 : (((ys.length + 1 : Nat) : Int) - 1) = (ys.length : Int) := by omega
  have hn1 : ¬ ((ys.length : Int) < 0) := by omega
  have hm7 : 7 * ys.length = ys.length * 7 := Nat.mul_comm _ _
  have k0 := K0.cell 0 _ rfl
  have k1 := K0.cell 1 _ rfl
  have g0 := G.cell 0 _ hg0
  have g1 := G.cell 1 _ hg1
  have g2 := G.cell 2 _ hg2
  have hg := G.lt
  go_enter Tryz.func11, Tryz.ntmps11
  repeat (first | go_guarded | go_step)
  go_region
  repeat (first | go_guarded | go_step)
  refine (PC.out _).mono ?_
  rintro e w2 ⟨h, ch, rfl, hc1, hc2, hh, x0, x1, hb2⟩
  dsimp only
  have D2 : Below w.heap.size w w2 := (Below.refl _ w).drew.trans hb2
  have z2 := (D2.cell (p := ⟨g, 2, none⟩) hg).trans g2
  clear hb2 k0 k1 g0 g1 g2 PC G hg0 hg1 hg2 hg
  repeat (first | go_guarded | go_step)
  go_cut [9] from 92 to 104 (fun v9 wx => v9 = .pointer (some ⟨w2.heap.size, 0, none⟩) ∧ wx = (w2.alloc (.cells #[.int .i64 v, .int .i64 b, .int .i64 p] 60)).drew)
  case first =>
    go_region_held3 (fun w' => w'.cell? ⟨h, 0, none⟩ = some (.string x) ∧ w'.cell? ⟨h, 1, none⟩ = some (.string y) ∧ w'.cell? ⟨g, 2, none⟩ = some (.string s2)) (go_keep) ((first | (go_at_call_of 30 (Value.string x); refine (A1.out _).mono ?_; rintro e w3 ⟨rfl, rfl⟩) | (go_at_call_of 30 (Value.string y); refine (A2.out _).mono ?_; rintro e w4 ⟨rfl, rfl⟩) | (go_at_call_of 30 (Value.string s2); refine (A3.out _).mono ?_; rintro e w5 ⟨rfl, rfl⟩)))
    all_goals
      repeat (first | go_guarded | go_step)
      go_meet
      exact ⟨rfl, rfl⟩
  case rest =>
    obtain ⟨rfl, rfl⟩ := hcut
    clear A1 A2 A3 x0 x1 z2 hc1 hc2 hh
    have K5 := K0.keep D2
    have R5 := R.below D2
    have Al := (Below.refl w2.heap.size w2).alloc (Nat.le_refl _) (.cells #[.int .i64 v, .int .i64 b, .int .i64 p] 60)
    have K6 := K5.keep Al.drew
    have R6 := R5.below Al.drew.drew
    have X6 := (blk_new w2 #[.int .i64 v, .int .i64 b, .int .i64 p] 60).drew
    have D6 : Below w.heap.size w (w2.alloc (.cells #[.int .i64 v, .int .i64 b, .int .i64 p] 60)).drew := D2.trans (Al.drew.mono D2.size)
    have hne6 : w2.heap.size ≠ gd := fun e => by
      have := own_block R5.dev (g := gd) rfl
      omega
    have hnr6 : ∀ u, (Value.slice At d.routes.length ct).ownBlock = some u → w2.heap.size ≠ u := fun u hu e => by
      have := own_block (R5.rout (d, vb, vr, .slice At d.routes.length ct) (by simp)) hu
      omega
    clear K0 R K5 R5 Al D2
    repeat (first | go_guarded | go_step)
    generalize (w2.alloc (.cells #[.int .i64 v, .int .i64 b, .int .i64 p] 60)).drew = w6 at *
    generalize w2.heap.size = bx at *
    have DB : Below B w w6 := D6.mono hB
    have hB6 : B ≤ w6.drew.heap.size := Nat.le_trans hB D6.size
    obtain ⟨gd', v7, w7, e7, r7, R8, D8, dv7, Kp7⟩ := R6.addRoute ⟨v, b, p⟩ hn hB6 48
    obtain rfl : gd = gd' := by simpa [Value.ownBlock] using e7
    have r7' : (Builtin.append_ #[48, 48] 48 #[.slice At d.routes.length ct, .slice (some ⟨w6.heap.size, 0, none⟩) 1 1]).run Tryz.prog (w6.alloc (.cells #[.int .i64 v, .int .i64 b, .int .i64 p] 60)).drew = .ok v7 w7 := r7
    have K7 := Blk.keptB (w := w6.drew) K6 Kp7 (fun e => K6.apart (w := w6) (R6.rout (d, vb, vr, .slice At d.routes.length ct) (by simp)) (by decide) e.symm)
    have X7 := Blk.keptB (w := w6.drew) X6 Kp7 (fun e => hnr6 bx e.symm rfl)
    have hne : rb ≠ gd := fun e => K6.apart (w := w6) R6.dev (by decide) (by rw [e]; rfl)
    have K8 := K7.setOther (j := 7 * ys.length + 6) hne v7
    have X8 := X7.setOther (j := 7 * ys.length + 6) hne6 v7
    have c0 := (last_cells (w := w6) R6.dev rfl (j := 6) rfl).1
    obtain ⟨c7, f7⟩ := last_cells dv7 rfl (j := 6) rfl
    have x0 := X6.cell 0 _ rfl
    have x1 := X6.cell 1 _ rfl
    have x2 := X6.cell 2 _ rfl
    have y0 := X8.cell 0 _ rfl
    have y1 := X8.cell 1 _ rfl
    have y2 := X8.cell 2 _ rfl
    have DB8 := DB.drew.trans D8
    have hv := own_slice (R8.rout _ (List.mem_append_right _ (List.mem_singleton.2 rfl)))
    obtain ⟨A7, cap7, hv7⟩ := hv
    simp only [List.length_append, List.length_singleton] at hv7
    subst hv7
    rw [hm7] at R8 DB8 K8 c0 c7 f7 y0 y1 y2
    have c0a := cell_alN c0 (.cells #[.int .i64 v, .int .i64 b, .int .i64 p] 60)
    have FIN : Hid (LineN B rb w (some (ys.map Prod.fst ++ [{ d with routes := d.routes ++ [⟨v, b, p⟩] }], [])) (.returned (.bool true)) (w7.setCell ⟨gd, ys.length * 7 + 6, none⟩ (.slice A7 (d.routes.length + 1) cap7))) := ⟨DB8, rfl, _, _, _, by simp, hrb, K8, R8⟩
    have FINN : Hid (LineN B rb w none (.returned (.bool false)) (w7.setCell ⟨gd, ys.length * 7 + 6, none⟩ (.slice A7 (d.routes.length + 1) cap7))) := ⟨DB8, rfl⟩
    clear R6 r7 Kp7 D8 DB D6 K6 X6 dv7 e7 K7 X7 X8 hm7 R8 DB8 K8 hnr6
    have hv0 : 0 ≤ v ∨ ¬ 0 ≤ v := by omega
    have hb0 : 0 ≤ b ∨ ¬ 0 ≤ b := by omega
    have hp0 : 0 ≤ p ∨ ¬ 0 ≤ p := by omega
    go_region_law (refine step_append_run (by rfl) _ _ 48 (by rfl) _ _ _ w7 (by rfl) (by rfl) r7' ?_)
    all_goals
      rcases hv0 with hv0 | hv0
      · rcases hb0 with hb0 | hb0
        · rcases hp0 with hp0 | hp0
          · repeat (first | go_guarded | go_step)
            go_ret
            rw [if_pos ⟨hv0, hb0, hp0⟩]
            exact FIN.out
          · repeat (first | go_guarded | go_step)
            go_ret
            rw [if_neg (fun h => hp0 h.2.2)]
            exact FINN.out
        · repeat (first | go_guarded | go_step)
          go_ret
          rw [if_neg (fun h => hb0 h.2.1)]
          exact FINN.out
      · repeat (first | go_guarded | go_step)
        go_ret
        rw [if_neg (fun h => hv0 h.1)]
        exact FINN.out
end Go.Proofs.YtnkgjkoncglfjaaGreatDoor
