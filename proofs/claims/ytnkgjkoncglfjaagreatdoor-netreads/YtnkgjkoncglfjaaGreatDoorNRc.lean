/-
  NetReads: the document's answer: a rule's line, read.
-/
import Derived.Test.YtnkgjkoncglfjaaGreatDoorZJ
import Derived.Deep.RegionHeldLaw
namespace Go.Proofs.YtnkgjkoncglfjaaGreatDoor
open Go.RowKit

set_option maxHeartbeats 8000000 in
set_option maxRecDepth 1000000 in
theorem nl_rule_true (B rb g gd : Nat) (ys : List (Dv × Sub)) (C : Option Addr) (cap cap' : Nat) (d : Dv) (vb vt : Value) (Ar : Option Addr) (cr : Nat) (s0 : ByteArray) (nr cw : Nat) (J : ByteArray) (a b c e4 : Nat) (ha : a < 65536) (hb : b < 65536) (hc : c < 256) (he : e4 < 256) (cs : Array Value) (w : World)
    (hB : B ≤ w.heap.size) (hrb : B ≤ rb) (K0 : Blk w rb #[.slice (some ⟨gd, 0, none⟩) (ys.length + 1) cap, .slice C 0 cap'] 25) (R : RdOk B w (ys ++ [(d, vb, .slice Ar d.rules.length cr, vt)]) [] (.slice (some ⟨gd, 0, none⟩) (ys.length + 1) cap) (.slice C 0 cap')) (hn : d.rules.length ≤ 5000) (hy : ys.length ≤ 5000) (h0 : ¬ cw = 0) (_hcw : nr ≤ cw) (hw : nr ≤ 5000) (_hcm : cw ≤ 9223372036854775807)
    (G : Blk w g cs 9) (hg0 : cs[0]? = some (.string s0)) (q1 : (s0.toList == [112, 101, 114, 109, 105, 116]) = true)
    (JO : Hid (∀ W, Below w.heap.size w W → Calls Tryz.prog 29 #[.slice (some ⟨g, 1, none⟩) nr cw, .string ⟨#[32]⟩] W fun e w' => e = .returned (.string J) ∧ w' = W))
    (MP : Hid (∀ w, Calls Tryz.prog 28 #[.string J] w fun e w' => e = .returned (matV ((a, b, c, e4), 0)) ∧ Below w.heap.size w w')) :
    Calls Tryz.prog 11 #[.pointer (some ⟨rb, 0, none⟩), .slice (some ⟨g, 0, none⟩) (nr + 1) (cw + 1)] w fun e w' => LineN B rb w (some (ys.map Prod.fst ++ [{ d with rules := d.rules ++ [⟨true, a, b, c, e4, ha, hb, hc, he⟩] }], [])) e w' := by
  have e1 : (((ys.length + 1 : Nat) : Int) - 1) = (ys.length : Int) := by omega
  have hn1 : ¬ ((ys.length : Int) < 0) := by omega
  have hm7 : 7 * ys.length = ys.length * 7 := Nat.mul_comm _ _
  have k0 := K0.cell 0 _ rfl
  have k1 := K0.cell 1 _ rfl
  have g0 := G.cell 0 _ hg0
  go_enter Tryz.func11, Tryz.ntmps11
  repeat (first | go_guarded | go_step)
  go_region
  repeat (first | go_guarded | go_step)
  refine (JO.out _ (Below.refl _ _).drew).mono ?_
  rintro e w2 ⟨rfl, rfl⟩
  dsimp only
  repeat (first | go_guarded | go_step)
  refine (MP.out _).mono ?_
  rintro e w5 ⟨rfl, hb5'⟩
  dsimp only
  have hb5 : Below w.heap.size w w5 := (Below.refl _ w).drew.trans hb5'
  clear hb5' JO MP k0 k1 g0
  unfold matV mt
  have K5 := K0.keep hb5
  have G5 := G.keep hb5
  have R5 := R.below hb5
  have Al := (Below.refl w5.heap.size w5).alloc (Nat.le_refl _) (.cells #[.int .u16 (a : Int), .int .u16 (b : Int), .int .u8 (c : Int), .int .u8 (e4 : Int)] 55)
  have K6 := K5.keep Al
  have G6 := G5.keep Al
  have R6 := R5.below Al.drew
  have X6 := blk_new w5 #[.int .u16 (a : Int), .int .u16 (b : Int), .int .u8 (c : Int), .int .u8 (e4 : Int)] 55
  have D6 : Below w.heap.size w (w5.alloc (.cells #[.int .u16 (a : Int), .int .u16 (b : Int), .int .u8 (c : Int), .int .u8 (e4 : Int)] 55)) := hb5.trans (Al.mono hb5.size)
  clear K0 R K5 R5 hb5 Al G G5
  repeat (first | go_guarded | go_step)
  generalize w5.alloc (.cells #[.int .u16 (a : Int), .int .u16 (b : Int), .int .u8 (c : Int), .int .u8 (e4 : Int)] 55) = w6 at *
  generalize w5.heap.size = bx at *
  have DB : Below B w w6 := D6.mono hB
  have hB6 : B ≤ w6.drew.heap.size := Nat.le_trans hB D6.size
  obtain ⟨gd', v7, w7, e7, r7, R8, D8, dv7, Kp7⟩ := R6.addRule ⟨true, a, b, c, e4, ha, hb, hc, he⟩ hn hB6 47
  obtain rfl : gd = gd' := by simpa [Value.ownBlock] using e7
  have r7' : (Builtin.append_ #[47, 47] 47 #[.slice Ar d.rules.length cr, .slice (some ⟨w6.heap.size, 0, none⟩) 1 1]).run Tryz.prog (w6.alloc (.cells #[.bool true, .int .u16 (a : Int), .int .u16 (b : Int), .int .u8 (c : Int), .int .u8 (e4 : Int)] 57)).drew = .ok v7 w7 := r7
  have K7 := Blk.keptB (w := w6.drew) K6 Kp7 (fun e => K6.apart (w := w6) (R6.rule (d, vb, .slice Ar d.rules.length cr, vt) (by simp)) (by decide) e.symm)
  have G7 := Blk.keptB (w := w6.drew) G6 Kp7 (fun e => G6.apart (w := w6) (R6.rule (d, vb, .slice Ar d.rules.length cr, vt) (by simp)) (by decide) e.symm)
  have X7 := Blk.keptB (w := w6.drew) X6 Kp7 (fun e => X6.apart (w := w6) (R6.rule (d, vb, .slice Ar d.rules.length cr, vt) (by simp)) (by decide) e.symm)
  have hne : rb ≠ gd := fun e => K6.apart (w := w6) R6.dev (by decide) (by rw [e]; rfl)
  have hneg : g ≠ gd := fun e => G6.apart (w := w6) R6.dev (by decide) (by rw [e]; rfl)
  have hnex : bx ≠ gd := fun e => X6.apart (w := w6) R6.dev (by decide) (by rw [e]; rfl)
  have K8 := K7.setOther (j := 7 * ys.length + 5) hne v7
  have c0 := (last_cells (w := w6) R6.dev rfl (j := 5) rfl).1
  obtain ⟨c7, f7⟩ := last_cells dv7 rfl (j := 5) rfl
  have x0 := X6.cell 0 _ rfl
  have x1 := X6.cell 1 _ rfl
  have x2 := X6.cell 2 _ rfl
  have x3 := X6.cell 3 _ rfl
  have z0 := X7.cell 0 _ rfl
  have z1 := X7.cell 1 _ rfl
  have z2 := X7.cell 2 _ rfl
  have z3 := X7.cell 3 _ rfl
  have g0 := G6.cell 0 _ hg0
  have g7 := G7.cell 0 _ hg0
  have y0 := (World.cell?_setCell_far w7 ⟨gd, 7 * ys.length + 5, none⟩ ⟨g, 0, none⟩ v7 (Ne.symm hneg)).trans g7
  have y1 := (World.cell?_setCell_far w7 ⟨gd, 7 * ys.length + 5, none⟩ ⟨bx, 0, none⟩ v7 (Ne.symm hnex)).trans z0
  have y2 := (World.cell?_setCell_far w7 ⟨gd, 7 * ys.length + 5, none⟩ ⟨bx, 1, none⟩ v7 (Ne.symm hnex)).trans z1
  have y3 := (World.cell?_setCell_far w7 ⟨gd, 7 * ys.length + 5, none⟩ ⟨bx, 2, none⟩ v7 (Ne.symm hnex)).trans z2
  have y4 := (World.cell?_setCell_far w7 ⟨gd, 7 * ys.length + 5, none⟩ ⟨bx, 3, none⟩ v7 (Ne.symm hnex)).trans z3
  have DB8 := DB.drew.trans D8
  have hv := own_slice (R8.rule _ (List.mem_append_right _ (List.mem_singleton.2 rfl)))
  obtain ⟨A7, cap7, hv7⟩ := hv
  simp only [List.length_append, List.length_singleton] at hv7
  subst hv7
  rw [hm7] at R8 DB8 K8 c0 c7 f7 y0 y1 y2 y3 y4
  have c0a := cell_alN c0 (.cells #[.bool true, .int .u16 (a : Int), .int .u16 (b : Int), .int .u8 (c : Int), .int .u8 (e4 : Int)] 57)
  have n1 := World.new_ne w6 ⟨gd, ys.length * 7 + 5, none⟩ c0
  have n2 := World.new_ne w6 ⟨g, 0, none⟩ g0
  have n3 := World.new_ne w6 ⟨bx, 0, none⟩ x0
  clear R6 r7 Kp7 D8 DB D6 K6 X6 dv7 e7 K7 G6 G7 X7 hm7
  go_region_law (refine step_append_run (by rfl) _ _ 47 (by rfl) _ _ _ w7 (by rfl) (by rfl) r7' ?_)
  all_goals
    repeat (first | go_guarded | go_step)
    go_ret
    exact ⟨DB8, rfl, _, _, _, by simp, hrb, K8, R8⟩
set_option maxHeartbeats 8000000 in
set_option maxRecDepth 1000000 in
theorem nl_rule_false (B rb g gd : Nat) (ys : List (Dv × Sub)) (C : Option Addr) (cap cap' : Nat) (d : Dv) (vb vt : Value) (Ar : Option Addr) (cr : Nat) (s0 : ByteArray) (nr cw : Nat) (J : ByteArray) (a b c e4 : Nat) (ha : a < 65536) (hb : b < 65536) (hc : c < 256) (he : e4 < 256) (cs : Array Value) (w : World)
    (hB : B ≤ w.heap.size) (hrb : B ≤ rb) (K0 : Blk w rb #[.slice (some ⟨gd, 0, none⟩) (ys.length + 1) cap, .slice C 0 cap'] 25) (R : RdOk B w (ys ++ [(d, vb, .slice Ar d.rules.length cr, vt)]) [] (.slice (some ⟨gd, 0, none⟩) (ys.length + 1) cap) (.slice C 0 cap')) (hn : d.rules.length ≤ 5000) (hy : ys.length ≤ 5000) (h0 : ¬ cw = 0) (_hcw : nr ≤ cw) (hw : nr ≤ 5000) (_hcm : cw ≤ 9223372036854775807)
    (G : Blk w g cs 9) (hg0 : cs[0]? = some (.string s0)) (q1 : (s0.toList == [112, 101, 114, 109, 105, 116]) = false) (q2 : (s0.toList == [100, 101, 110, 121]) = true)
    (JO : Hid (∀ W, Below w.heap.size w W → Calls Tryz.prog 29 #[.slice (some ⟨g, 1, none⟩) nr cw, .string ⟨#[32]⟩] W fun e w' => e = .returned (.string J) ∧ w' = W))
    (MP : Hid (∀ w, Calls Tryz.prog 28 #[.string J] w fun e w' => e = .returned (matV ((a, b, c, e4), 0)) ∧ Below w.heap.size w w')) :
    Calls Tryz.prog 11 #[.pointer (some ⟨rb, 0, none⟩), .slice (some ⟨g, 0, none⟩) (nr + 1) (cw + 1)] w fun e w' => LineN B rb w (some (ys.map Prod.fst ++ [{ d with rules := d.rules ++ [⟨false, a, b, c, e4, ha, hb, hc, he⟩] }], [])) e w' := by
  have e1 : (((ys.length + 1 : Nat) : Int) - 1) = (ys.length : Int) := by omega
  have hn1 : ¬ ((ys.length : Int) < 0) := by omega
  have hm7 : 7 * ys.length = ys.length * 7 := Nat.mul_comm _ _
  have k0 := K0.cell 0 _ rfl
  have k1 := K0.cell 1 _ rfl
  have g0 := G.cell 0 _ hg0
  go_enter Tryz.func11, Tryz.ntmps11
  repeat (first | go_guarded | go_step)
  go_region
  repeat (first | go_guarded | go_step)
  refine (JO.out _ (Below.refl _ _).drew).mono ?_
  rintro e w2 ⟨rfl, rfl⟩
  dsimp only
  repeat (first | go_guarded | go_step)
  refine (MP.out _).mono ?_
  rintro e w5 ⟨rfl, hb5'⟩
  dsimp only
  have hb5 : Below w.heap.size w w5 := (Below.refl _ w).drew.trans hb5'
  clear hb5' JO MP k0 k1 g0
  unfold matV mt
  have K5 := K0.keep hb5
  have G5 := G.keep hb5
  have R5 := R.below hb5
  have Al := (Below.refl w5.heap.size w5).alloc (Nat.le_refl _) (.cells #[.int .u16 (a : Int), .int .u16 (b : Int), .int .u8 (c : Int), .int .u8 (e4 : Int)] 55)
  have K6 := K5.keep Al
  have G6 := G5.keep Al
  have R6 := R5.below Al.drew
  have X6 := blk_new w5 #[.int .u16 (a : Int), .int .u16 (b : Int), .int .u8 (c : Int), .int .u8 (e4 : Int)] 55
  have D6 : Below w.heap.size w (w5.alloc (.cells #[.int .u16 (a : Int), .int .u16 (b : Int), .int .u8 (c : Int), .int .u8 (e4 : Int)] 55)) := hb5.trans (Al.mono hb5.size)
  clear K0 R K5 R5 hb5 Al G G5
  repeat (first | go_guarded | go_step)
  generalize w5.alloc (.cells #[.int .u16 (a : Int), .int .u16 (b : Int), .int .u8 (c : Int), .int .u8 (e4 : Int)] 55) = w6 at *
  generalize w5.heap.size = bx at *
  have DB : Below B w w6 := D6.mono hB
  have hB6 : B ≤ w6.drew.heap.size := Nat.le_trans hB D6.size
  obtain ⟨gd', v7, w7, e7, r7, R8, D8, dv7, Kp7⟩ := R6.addRule ⟨false, a, b, c, e4, ha, hb, hc, he⟩ hn hB6 47
  obtain rfl : gd = gd' := by simpa [Value.ownBlock] using e7
  have r7' : (Builtin.append_ #[47, 47] 47 #[.slice Ar d.rules.length cr, .slice (some ⟨w6.heap.size, 0, none⟩) 1 1]).run Tryz.prog (w6.alloc (.cells #[.bool false, .int .u16 (a : Int), .int .u16 (b : Int), .int .u8 (c : Int), .int .u8 (e4 : Int)] 57)).drew = .ok v7 w7 := r7
  have K7 := Blk.keptB (w := w6.drew) K6 Kp7 (fun e => K6.apart (w := w6) (R6.rule (d, vb, .slice Ar d.rules.length cr, vt) (by simp)) (by decide) e.symm)
  have G7 := Blk.keptB (w := w6.drew) G6 Kp7 (fun e => G6.apart (w := w6) (R6.rule (d, vb, .slice Ar d.rules.length cr, vt) (by simp)) (by decide) e.symm)
  have X7 := Blk.keptB (w := w6.drew) X6 Kp7 (fun e => X6.apart (w := w6) (R6.rule (d, vb, .slice Ar d.rules.length cr, vt) (by simp)) (by decide) e.symm)
  have hne : rb ≠ gd := fun e => K6.apart (w := w6) R6.dev (by decide) (by rw [e]; rfl)
  have hneg : g ≠ gd := fun e => G6.apart (w := w6) R6.dev (by decide) (by rw [e]; rfl)
  have hnex : bx ≠ gd := fun e => X6.apart (w := w6) R6.dev (by decide) (by rw [e]; rfl)
  have K8 := K7.setOther (j := 7 * ys.length + 5) hne v7
  have c0 := (last_cells (w := w6) R6.dev rfl (j := 5) rfl).1
  obtain ⟨c7, f7⟩ := last_cells dv7 rfl (j := 5) rfl
  have x0 := X6.cell 0 _ rfl
  have x1 := X6.cell 1 _ rfl
  have x2 := X6.cell 2 _ rfl
  have x3 := X6.cell 3 _ rfl
  have z0 := X7.cell 0 _ rfl
  have z1 := X7.cell 1 _ rfl
  have z2 := X7.cell 2 _ rfl
  have z3 := X7.cell 3 _ rfl
  have g0 := G6.cell 0 _ hg0
  have g7 := G7.cell 0 _ hg0
  have y0 := (World.cell?_setCell_far w7 ⟨gd, 7 * ys.length + 5, none⟩ ⟨g, 0, none⟩ v7 (Ne.symm hneg)).trans g7
  have y1 := (World.cell?_setCell_far w7 ⟨gd, 7 * ys.length + 5, none⟩ ⟨bx, 0, none⟩ v7 (Ne.symm hnex)).trans z0
  have y2 := (World.cell?_setCell_far w7 ⟨gd, 7 * ys.length + 5, none⟩ ⟨bx, 1, none⟩ v7 (Ne.symm hnex)).trans z1
  have y3 := (World.cell?_setCell_far w7 ⟨gd, 7 * ys.length + 5, none⟩ ⟨bx, 2, none⟩ v7 (Ne.symm hnex)).trans z2
  have y4 := (World.cell?_setCell_far w7 ⟨gd, 7 * ys.length + 5, none⟩ ⟨bx, 3, none⟩ v7 (Ne.symm hnex)).trans z3
  have DB8 := DB.drew.trans D8
  have hv := own_slice (R8.rule _ (List.mem_append_right _ (List.mem_singleton.2 rfl)))
  obtain ⟨A7, cap7, hv7⟩ := hv
  simp only [List.length_append, List.length_singleton] at hv7
  subst hv7
  rw [hm7] at R8 DB8 K8 c0 c7 f7 y0 y1 y2 y3 y4
  have c0a := cell_alN c0 (.cells #[.bool false, .int .u16 (a : Int), .int .u16 (b : Int), .int .u8 (c : Int), .int .u8 (e4 : Int)] 57)
  have n1 := World.new_ne w6 ⟨gd, ys.length * 7 + 5, none⟩ c0
  have n2 := World.new_ne w6 ⟨g, 0, none⟩ g0
  have n3 := World.new_ne w6 ⟨bx, 0, none⟩ x0
  clear R6 r7 Kp7 D8 DB D6 K6 X6 dv7 e7 K7 G6 G7 X7 hm7
  go_region_law (refine step_append_run (by rfl) _ _ 47 (by rfl) _ _ _ w7 (by rfl) (by rfl) r7' ?_)
  all_goals
    repeat (first | go_guarded | go_step)
    go_ret
    exact ⟨DB8, rfl, _, _, _, by simp, hrb, K8, R8⟩
end Go.Proofs.YtnkgjkoncglfjaaGreatDoor
