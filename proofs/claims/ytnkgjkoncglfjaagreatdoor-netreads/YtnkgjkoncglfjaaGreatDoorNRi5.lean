/-
  NetReads: the document's answer: a device's line: kind 5.
-/
import Derived.Test.YtnkgjkoncglfjaaGreatDoorNRg
import Derived.Deep.RegionHeldLaw
namespace Go.Proofs.YtnkgjkoncglfjaaGreatDoor
open Go.RowKit

set_option maxHeartbeats 8000000 in
set_option maxRecDepth 1000000 in
theorem nl_dev_go5 (B rb g : Nat) (xs : List (Dv × Sub)) (ls : List Lk) (A C : Option Addr) (cap cap' : Nat) (s0 s1 s2 s3 : ByteArray) (cw : Nat) (cs : Array Value) (w : World)
    (hB : B ≤ w.heap.size) (hrb : B ≤ rb) (K0 : Blk w rb #[.slice A xs.length cap, .slice C ls.length cap'] 25) (R : RdOk B w xs ls (.slice A xs.length cap) (.slice C ls.length cap')) (hn : xs.length ≤ 5000) (_hm : ls.length ≤ 5000)
    (G : Blk w g cs 9) (hg0 : cs[0]? = some (.string s0)) (hg1 : cs[1]? = some (.string s1)) (hg2 : cs[2]? = some (.string s2)) (hg3 : cs[3]? = some (.string s3))
    (q1 : (s0.toList == [112, 101, 114, 109, 105, 116]) = false) (q2 : (s0.toList == [100, 101, 110, 121]) = false) (q3 : (s0.toList == [114, 111, 117, 116, 101]) = false) (q4 : (s0.toList == [108, 105, 110, 107]) = false)
    (hls : Hid (ls = [])) (ad : Int) (had : 0 ≤ ad) (l : List Int) (hs1 : s1.size ≤ maxLen) (IX : Hid (∀ W z, Blk W z kwA 9 → Calls Tryz.prog 31 #[.slice (some ⟨z, 0, none⟩) 6 6, .string s0] W fun e w' => e = .returned (.int .i64 5) ∧ Below W.heap.size W w'))
    (NV : Hid (∀ W z, Blk W z #[.string s1, .int .i64 2, .int .i64 0, .int .u8 0, .slice none 0 0, .slice none 0 0, .slice none 0 0] 50 → Calls Tryz.prog 13 #[.agg #[.slice (some ⟨z, 0, none⟩) 1 1, .slice none 0 0]] W fun e w' => e = .returned (.int .i64 0) ∧ Below W.heap.size W w'))
    (DG : Hid (∀ W, Calls Tryz.prog 30 #[.string s2, .int .i64 99] W fun e w' => e = .returned (.int .i64 ad) ∧ w' = W))
    (RC : Hid (∀ W, Calls Tryz.prog 32 #[.string s3] W fun e w' => NumsR W (some l) e w')) :
    Calls Tryz.prog 11 #[.pointer (some ⟨rb, 0, none⟩), .slice (some ⟨g, 0, none⟩) 4 cw] w fun e w' => LineN B rb w (some (xs.map Prod.fst ++ [⟨s1, 5, ad, 0, l, [], [], (by omega), hs1⟩], [])) e w' := by
  have cases3 := stands xs.length ls.length A (fun h => own_head R.dev (by omega))
  have k0 : w.cell? ⟨rb, 0, none⟩ = some (.slice A xs.length cap) := K0.cell 0 _ rfl
  have k1 : w.cell? ⟨rb, 1, none⟩ = some (.slice C ls.length cap') := K0.cell 1 _ rfl
  go_enter Tryz.func11, Tryz.ntmps11
  go_upto_region 2 with fail
  go_cut [30] from 17 to 29 (fun v30 wx => v30 = .bool (decide (0 < xs.length ∧ ls.length = 0)) ∧ wx = w)
  case first =>
    rcases cases3 with hz | ⟨_, hn1, hm1⟩ | ⟨⟨gd, k, hk, rfl⟩, hz⟩
    · have k0' : w.cell? ⟨rb, 0, none⟩ = some (.slice A 0 cap) := k0.trans (by rw [hz])
      clear k0
      repeat (first | go_guarded | go_step)
      go_meet
      exact ⟨by simp [hz], rfl⟩
    · repeat (first | go_guarded | go_step)
      go_meet
      exact ⟨by rw [decide_eq_false]; intro h; rw [h.2] at hm1; simp at hm1, rfl⟩
    · have k0' : w.cell? ⟨rb, 0, none⟩ = some (.slice (some ⟨gd, 0, none⟩) (k + 1) cap) := k0.trans (by rw [hk])
      have k1' : w.cell? ⟨rb, 1, none⟩ = some (.slice C 0 cap') := k1.trans (by rw [hz])
      clear k0 k1
      repeat (first | go_guarded | go_step)
      go_meet
      exact ⟨by simp [hz, hk], rfl⟩
  case rest =>
    obtain ⟨rfl, hx⟩ := hcut
    obtain rfl := hx.symm
    generalize hbo : decide (0 < xs.length ∧ ls.length = 0) = bo at *
    go_step
    go_cut [5] from 31 to 41 (fun _ wx => wx = w ∨ wx = w.drew)
    case first =>
      cases bo with
      | true =>
        have hop : 0 < xs.length ∧ ls.length = 0 := of_decide_eq_true hbo
        obtain ⟨gd, hgd⟩ := own_head R.dev (by omega)
        obtain ⟨k, hk⟩ : ∃ k, xs.length = k + 1 := ⟨xs.length - 1, by omega⟩
        have k0' : w.cell? ⟨rb, 0, none⟩ = some (.slice (some ⟨gd, 0, none⟩) (k + 1) cap) := k0.trans (by rw [hk, hgd])
        have hk5 : k ≤ 5000 := by omega
        have e1 : (((k + 1 : Nat) : Int) - 1) = (k : Int) := by omega
        have hk1 : ¬ ((k : Int) < 0) := by omega
        clear k0 k1 cases3 hbo hop hk hgd
        repeat (first | go_guarded | go_step)
        go_region
        repeat (first | go_guarded | go_step)
        go_meet
        exact .inr rfl
      | false =>
        clear k0 k1 cases3 hbo
        repeat (first | go_guarded | go_step)
        go_meet
        exact .inl rfl
    case rest =>
      have D1 : Below w.heap.size w wc := by
        rcases hcut with rfl | rfl
        · exact Below.refl _ _
        · exact (Below.refl _ _).drew
      clear hcut cases3 k0 k1 hbo
      generalize wc = w1 at *
      have g0 := (G.keep D1).cell 0 _ hg0
      have g0a := cell_alN g0 (.cells #[.string ⟨#[]⟩, .string ⟨#[104, 111, 115, 116]⟩, .string ⟨#[114, 111, 117, 116, 101, 114]⟩, .string ⟨#[102, 105, 114, 101]⟩, .string ⟨#[110, 97, 116]⟩, .string ⟨#[108, 98]⟩] 9)
      repeat (first | go_guarded | go_step)
      refine (IX.out _ _ (blk_at w1 kwA 9 _ rfl)).mono ?_
      rintro e w2 ⟨rfl, hb2⟩
      dsimp only
      have D2 : Below w.heap.size w w2 := D1.trans (((Below.refl w1.heap.size w1).alloc (Nat.le_refl _) _).trans (hb2.mono (Below.alloc (Below.refl w1.heap.size w1) (Nat.le_refl _) (.cells kwA 9)).size) |>.mono D1.size)
      clear hb2 D1 g0 g0a IX
      have hls2 := hls.out
      clear hls
      subst hls2
      have c1 : w2.cell? ⟨rb, 1, none⟩ = some (.slice C 0 cap') := (K0.keep D2).cell 1 _ rfl
      have g1 := (G.keep D2).cell 1 _ hg1
      have g1a := cell_alN g1 (.cells #[.int .i64 0, .int .i64 3, .int .i64 2, .int .i64 2, .int .i64 4, .int .i64 4] 3)
      have g1b := cell_alN g1a (.cells #[.string s1, .int .i64 5, .int .i64 0, .int .u8 0, .slice none 0 0, .slice none 0 0, .slice none 0 0] 50)
      have hbx := D2.size
      repeat (first | go_guarded | go_step)
      refine (NV.out _ _ ((blk_at _ _ _ _ (by simp)).alloc _)).mono ?_
      rintro e w4 ⟨rfl, hb4⟩
      dsimp only
      have X4 := (((blk_at (w2.alloc (.cells #[.int .i64 0, .int .i64 3, .int .i64 2, .int .i64 2, .int .i64 4, .int .i64 4] 3)) #[.string s1, .int .i64 5, .int .i64 0, .int .u8 0, .slice none 0 0, .slice none 0 0, .slice none 0 0] 50 (w2.heap.size + 1) (by simp)).alloc (.cells #[.string s1, .int .i64 2, .int .i64 0, .int .u8 0, .slice none 0 0, .slice none 0 0, .slice none 0 0] 50)).alloc (.cells #[.slice (some ⟨w2.heap.size + 1 + 1, 0, none⟩) 1 1, .slice none 0 0] 25)).keep hb4
      have D4 : Below w.heap.size w w4 := (((((D2.alloc D2.size (.cells #[.int .i64 0, .int .i64 3, .int .i64 2, .int .i64 2, .int .i64 4, .int .i64 4] 3)).alloc (by simp; omega) (.cells #[.string s1, .int .i64 5, .int .i64 0, .int .u8 0, .slice none 0 0, .slice none 0 0, .slice none 0 0] 50)).alloc (by simp; omega) (.cells #[.string s1, .int .i64 2, .int .i64 0, .int .u8 0, .slice none 0 0, .slice none 0 0, .slice none 0 0] 50)).alloc (by simp; omega) (.cells #[.slice (some ⟨w2.heap.size + 1 + 1, 0, none⟩) 1 1, .slice none 0 0] 25))).trans (hb4.mono (by simp; omega))
      clear hb4 c1 g1 g1a g1b NV D2
      obtain ⟨bx, hbxe⟩ : ∃ bx, bx = w2.heap.size + 1 := ⟨_, rfl⟩
      rw [← hbxe] at X4
      rw [← hbxe]
      have hbx1 : w.heap.size ≤ bx := by omega
      clear hbx hbxe
      have g2 := (G.keep D4).cell 2 _ hg2
      have X5 : Blk (w4.setCell ⟨bx, 2, none⟩ (.int .i64 ad)) bx #[.string s1, .int .i64 5, .int .i64 ad, .int .u8 0, .slice none 0 0, .slice none 0 0, .slice none 0 0] 50 := X4.set (j := 2) _
      have D5 : Below w.heap.size w (w4.setCell ⟨bx, 2, none⟩ (.int .i64 ad)) := D4.setCell (p := ⟨bx, 2, none⟩) hbx1 _
      have xc := X4.cell 2 _ rfl
      have xf := X4.free 2
      have y2 : (w4.setCell ⟨bx, 2, none⟩ (.int .i64 ad)).cell? ⟨bx, 2, none⟩ = some (.int .i64 ad) := X5.cell 2 _ rfl
      repeat (first | go_guarded | go_step)
      refine (DG.out _).mono ?_
      rintro e wz ⟨rfl, hwz⟩
      obtain rfl := hwz.symm
      dsimp only
      have g3 := (G.keep D4).cell 3 _ hg3
      clear X4 D4 DG g2
      repeat (first | go_guarded | go_step)
      clear xc xf y2 g3
      generalize w4.setCell ⟨bx, 2, none⟩ (.int .i64 ad) = w5 at *
      refine (RC.out _).mono ?_
      rintro e w6 ⟨hb6, hl, hlne, hrg, v, rfl, O6⟩
      dsimp only
      obtain ⟨Al, cl, rfl⟩ := own_slice O6
      obtain ⟨gl, rfl⟩ := own_head O6 (by intro e; exact hlne (List.length_eq_zero_iff.1 e))
      have hl0 : 0 < l.length := List.length_pos_iff.2 hlne
      have hl0' : (0 : Int) < (l.length : Int) := by omega
      have NL := nil_no gl l.length cl w6
      have X6 := X5.keep hb6
      have D6 := D5.trans (hb6.mono D5.size)
      have hglx : gl ≠ bx := fun e => by
        have := own_block O6 (g := gl) rfl
        have := X5.lt
        omega
      have O7 := own_mono O6 (Nat.le_trans hB D5.size)
      have X7 : Blk (w6.setCell ⟨bx, 4, none⟩ (.slice (some ⟨gl, 0, none⟩) l.length cl)) bx #[.string s1, .int .i64 5, .int .i64 ad, .int .u8 0, .slice (some ⟨gl, 0, none⟩) l.length cl, .slice none 0 0, .slice none 0 0] 50 := X6.set (j := 4) _
      have D7 : Below w.heap.size w (w6.setCell ⟨bx, 4, none⟩ (.slice (some ⟨gl, 0, none⟩) l.length cl)) := D6.setCell (p := ⟨bx, 4, none⟩) hbx1 _
      have O8 := ownsRow_setCell_other (a := ⟨bx, 4, none⟩) O7 (fun e => hglx (by simpa [Value.ownBlock] using e)) (.slice (some ⟨gl, 0, none⟩) l.length cl)
      have xc := X6.cell 4 _ rfl
      have xf := X6.free 4
      clear X5 D5 hb6 RC O6 O7 X6 hlne hrg hglx
      repeat (first | go_guarded | go_step)
      go_loopw [16] (fun i wr => i = .int .i64 0 ∧ wr = w6) (fun _ _ => 0)
      case atStart => exact ⟨rfl, rfl⟩
      case round =>
        obtain ⟨rfl, hwr⟩ := hrel
        obtain rfl := hwr.symm
        repeat (first | go_guarded | go_step)
        clear xc xf D6
        generalize w6.setCell ⟨bx, 4, none⟩ (.slice (some ⟨gl, 0, none⟩) l.length cl) = w5 at *
        have X5 := X7
        have D5 := D7
        clear X7 D7
        have K5 := K0.keep D5
        have R5 := R.below D5
        have c1 : w5.cell? ⟨rb, 0, none⟩ = some (.slice A xs.length cap) := K5.cell 0 _ rfl
        have hB6 : B ≤ w5.drew.heap.size := Nat.le_trans hB D5.size
        have O6 : w5.drew.ownsRow B 3 1 (.slice (some ⟨gl, 0, none⟩) l.length cl) (l).length (intsC (l)) := own_kept O8 (KeptB.of_below (Below.refl _ _).drew) (fun g _ => by simp)
        obtain ⟨v7, w7, r7, R7, D7, Kp7⟩ := (R5.below (Below.refl _ w5).drew).addDev ⟨s1, 5, ad, 0, l, [], [], by omega, hs1⟩ (.slice (some ⟨gl, 0, none⟩) l.length cl) rfl rfl O6 hn hB6 22
        have r7' : (Builtin.append_ #[22, 22] 22 #[.slice A xs.length cap, .slice (some ⟨w5.heap.size, 0, none⟩) 1 1]).run Tryz.prog (w5.alloc (.cells #[.string s1, .int .i64 5, .int .i64 ad, .int .u8 0, .slice (some ⟨gl, 0, none⟩) l.length cl, .slice none 0 0, .slice none 0 0] 50)).drew = .ok v7 w7 := r7
        have K7 := Blk.keptB (w := w5.drew) K5 Kp7 (fun e => K5.apart (w := w5) R5.dev (by decide) e.symm)
        have R8 := R7.net K7 0 v7
        have K8 : Blk (w7.setCell ⟨rb, 0, none⟩ v7) rb #[v7, .slice C 0 cap'] 25 := K7.set v7
        have D8 := ((D5.mono hB).drew.trans D7).setCell (p := ⟨rb, 0, none⟩) hrb v7
        have f0 := K7.free 0
        have c7 := K7.cell 0 _ rfl
        have c1a := cell_alN c1 (.cells #[.string s1, .int .i64 5, .int .i64 ad, .int .u8 0, .slice (some ⟨gl, 0, none⟩) l.length cl, .slice none 0 0, .slice none 0 0] 50)
        have x0 := X5.cell 0 _ rfl
        have x1 := X5.cell 1 _ rfl
        have x2 := X5.cell 2 _ rfl
        have x3 := X5.cell 3 _ rfl
        have x4 := X5.cell 4 _ rfl
        have x5 := X5.cell 5 _ rfl
        have x6 := X5.cell 6 _ rfl
        obtain ⟨A7, cap7, hv7⟩ := own_slice R7.dev
        rw [List.length_append, List.length_singleton] at hv7
        subst hv7
        clear K0 R G K5 R5 O6 X5 D5 r7 R7 D7 Kp7 K7 hB6
        repeat (first | go_guarded | go_step)
        go_region_law (refine step_append_run (by rfl) _ _ 22 (by rfl) _ _ _ w7 (by rfl) (by rfl) r7' ?_)
        all_goals
          repeat (first | go_guarded | go_step)
          go_ret
          exact ⟨D8, rfl, _, _, _, by simp, hrb, K8, R8⟩
end Go.Proofs.YtnkgjkoncglfjaaGreatDoor
