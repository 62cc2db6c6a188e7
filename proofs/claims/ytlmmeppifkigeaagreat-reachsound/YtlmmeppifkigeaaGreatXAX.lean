/-
  XAX.
-/
import Derived.Test.YtlmmeppifkigeaaGreatXAV
import Derived.Deep.DeepCutAuto
import Derived.Deep.RegionLaw
import Derived.Test.YtlmmeppifkigeaaGreatXAK
import Derived.Test.YtlmmeppifkigeaaGreatXAU
set_option maxHeartbeats 8000000
set_option maxRecDepth 100000
namespace Go.Proofs.YtlmmeppifkigeaaGreat
open Go.RowKit Go.Maps
section
variable {base q a M : Nat} {w0 w : World} {ns : List Nd} {er : Int}
theorem spread_b (h : Bn base q a M w0 w ns er) {nm : ByteArray} {kd ad pl : Int} {Ab A At : Option Addr} {nb cb n cap nt ct : Nat} {f0 f1 f2 f3 : Nat} {bs : List Int} {gO gA1 g1 gA2 gO1 zc : Nat} {φ0 φa : Env -> Bool} (h0 : 0 <= ad) (h16 : ad < 16) (hzc : zc < 65536 ∧ Go.bits .andNot .u16 65535 ((setL [ad] 0 : Nat) : Int) = (zc : Int)) (hB : SlAt base w0 1 IsI (.slice Ab nb cb) bs) (hbs : ∀ x ∈ bs, 0 <= x ∧ x < 16) (AO : AndB base q a M w0 φ0 (phi 65535 (setL [ad] 0) 255 255) gO) (N1 : AnB 148 base q a M w0 (fun x => φ0 x && (phi 65535 (setL [ad] 0) 255 255) x) φa g1) (A1 : AndB base q a M w0 φa (phi 65535 (setL bs 0) 255 255) gA1) (A2 : AndB base q a M w0 φ0 (phi 65535 zc 255 255) gA2) (O1 : OrB base q a M w0 (fun x => φ0 x && phi 65535 zc 255 255 x) (fun x => φa x && (phi 65535 (setL bs 0) 255 255) x) gO1) (hf0 : Fn ns er f0 φ0) :
  Calls Tryz.prog 121 #[.pointer (some ⟨q, 0, none⟩), .agg #[.string nm, .int .i64 kd, .int .i64 ad, .int .u8 pl, .slice Ab nb cb, .slice A n cap, .slice At nt ct], .agg #[.int .i64 (f0 : Int), .int .i64 (f1 : Int), .int .i64 (f2 : Int), .int .i64 (f3 : Int)]] w (BOut base q a M w0 w ns er (0 + (0 + 44 + gO) + g1 + 44 + gA1 + 44 + gA2 + gO1) (fun x => (fun x => φ0 x && phi 65535 zc 255 255 x) x || (fun x => φa x && (phi 65535 (setL bs 0) 255 255) x) x)) := by
 have h1 := ((h.alloc (.cells #[.string nm, .int .i64 kd, .int .i64 ad, .int .u8 pl, .slice Ab nb cb, .slice A n cap, .slice At nt ct] 62)).alloc (f4C f0 f1 f2 f3))
 have Z1 : Bz ((w.alloc (.cells #[.string nm, .int .i64 kd, .int .i64 ad, .int .u8 pl, .slice Ab nb cb, .slice A n cap, .slice At nt ct] 62)).alloc (f4C f0 f1 f2 f3)) w.heap.size #[.string nm, .int .i64 kd, .int .i64 ad, .int .u8 pl, .slice Ab nb cb, .slice A n cap, .slice At nt ct] 62 := (Bz.new w _ _ _ rfl).al _
 have Z2 : Bz ((w.alloc (.cells #[.string nm, .int .i64 kd, .int .i64 ad, .int .u8 pl, .slice Ab nb cb, .slice A n cap, .slice At nt ct] 62)).alloc (f4C f0 f1 f2 f3)) (w.heap.size + 1) #[.int .i64 (f0 : Int), .int .i64 (f1 : Int), .int .i64 (f2 : Int), .int .i64 (f3 : Int)] 98 := Bz.new (w.alloc _) _ _ _ (by show _ = (w.heap.push _).size; rw [Array.size_push])
 have hz := set_one h0 h16
 have hzb : setL bs 0 < 65536 := setL_lt _ _ hbs (by omega)
 obtain ⟨hzc1, hzc2⟩ := hzc
 have AL : Hid (∀ W, Calls Tryz.prog 43 #[] W fun e w' => e = .returned (.agg #[.int .u16 65535, .int .u16 65535, .int .u8 255, .int .u8 255]) ∧ Below W.heap.size W w') := fun W => all_any W
 have DI : Hid (∀ (k : Nat) W, Bz W k #[.int .i64 ad] 3 -> Calls Tryz.prog 147 #[.slice (some ⟨k, 0, none⟩) 1 1] W fun e w' => e = .returned (.agg #[.int .u16 65535, .int .u16 (setL [ad] 0 : Nat), .int .u8 255, .int .u8 255]) ∧ Below W.heap.size W w') := fun k W hk => dstIn_any _ [ad] W (sl_one hk) (fun y hy => by simp at hy; omega)
 have DB : Hid (∀ W, base <= W.heap.size -> Below base w0 W -> Calls Tryz.prog 147 #[.slice Ab nb cb] W fun e w' => e = .returned (.agg #[.int .u16 65535, .int .u16 (setL bs 0 : Nat), .int .u8 255, .int .u8 255]) ∧ Below W.heap.size W w') := fun W hs hb => dstIn_any _ bs W (SlAt.mono (SlAt.below hB hb (fun _ _ _ h => h)) hs (fun _ _ _ h => h)) hbs
 have OW : Hid (∀ ns1 er1 W, Bn base q a M w0 W ns1 er1 -> Fn ns1 er1 f0 φ0 -> Calls Tryz.prog 150 #[.pointer (some ⟨q, 0, none⟩), .agg #[.string nm, .int .i64 kd, .int .i64 ad, .int .u8 pl, .slice Ab nb cb, .slice A n cap, .slice At nt ct], .agg #[.int .i64 (f0 : Int), .int .i64 (f1 : Int), .int .i64 (f2 : Int), .int .i64 (f3 : Int)]] W (BOut base q a M w0 W ns1 er1 (0 + 44 + gO) (fun x => φ0 x && (phi 65535 (setL [ad] 0) 255 255) x))) := fun ns1 er1 W b hf => own_b b h0 h16 AO hf
 generalize setL [ad] 0 = z at *
 generalize setL bs 0 = zb at *
 have Q0 : Qs base q a M w0 ((w.alloc (.cells #[.string nm, .int .i64 kd, .int .i64 ad, .int .u8 pl, .slice Ab nb cb, .slice A n cap, .slice At nt ct] 62)).alloc (f4C f0 f1 f2 f3)) ns er 0 [(f0, φ0)] [(w.heap.size + 1, #[.int .i64 (f0 : Int), .int .i64 (f1 : Int), .int .i64 (f2 : Int), .int .i64 (f3 : Int)], 98), (w.heap.size, #[.string nm, .int .i64 kd, .int .i64 ad, .int .u8 pl, .slice Ab nb cb, .slice A n cap, .slice At nt ct], 62)] ((w.alloc (.cells #[.string nm, .int .i64 kd, .int .i64 ad, .int .u8 pl, .slice Ab nb cb, .slice A n cap, .slice At nt ct] 62)).alloc (f4C f0 f1 f2 f3)) := ((Qs.start h1 (fs := [(f0, φ0)]) (fun x hx => by
  rw [List.mem_singleton.1 hx]; exact hf0)).boxed Z1 (by decide)).boxed Z2 (by decide)
 have tfw : TF w ((w.alloc (.cells #[.string nm, .int .i64 kd, .int .i64 ad, .int .u8 pl, .slice Ab nb cb, .slice A n cap, .slice At nt ct] 62)).alloc (f4C f0 f1 f2 f3)) := tf_two w _ _
 have QW : Hid (∀ w2, Below ((w.alloc (.cells #[.string nm, .int .i64 kd, .int .i64 ad, .int .u8 pl, .slice Ab nb cb, .slice A n cap, .slice At nt ct] 62)).alloc (f4C f0 f1 f2 f3)).heap.size ((w.alloc (.cells #[.string nm, .int .i64 kd, .int .i64 ad, .int .u8 pl, .slice Ab nb cb, .slice A n cap, .slice At nt ct] 62)).alloc (f4C f0 f1 f2 f3)) w2 -> w.heap.size + 1 < w2.heap.size ∧ ((w.alloc (.cells #[.string nm, .int .i64 kd, .int .i64 ad, .int .u8 pl, .slice Ab nb cb, .slice A n cap, .slice At nt ct] 62)).alloc (f4C f0 f1 f2 f3)).heap.size <= w2.heap.size ∧ Qs base q a M w0 ((w.alloc (.cells #[.string nm, .int .i64 kd, .int .i64 ad, .int .u8 pl, .slice Ab nb cb, .slice A n cap, .slice At nt ct] 62)).alloc (f4C f0 f1 f2 f3)) ns er 0 [(f0, φ0)] ((w2.heap.size, #[.int .u16 65535, .int .u16 65535, .int .u8 255, .int .u8 255], 50) :: [(w.heap.size + 1, #[.int .i64 (f0 : Int), .int .i64 (f1 : Int), .int .i64 (f2 : Int), .int .i64 (f3 : Int)], 98), (w.heap.size, #[.string nm, .int .i64 kd, .int .i64 ad, .int .u8 pl, .slice Ab nb cb, .slice A n cap, .slice At nt ct], 62)]) (w2.alloc (.cells #[.int .u16 65535, .int .u16 65535, .int .u8 255, .int .u8 255] 50))) := fun w2 hb => by
  have Q1 := Q0.grow hb
  refine ⟨(Q1.bz _ List.mem_cons_self).1.lt, hb.size, Q1.box rfl (by decide)⟩
 clear Q0 h1 Z1 Z2 h hf0 AO hB
 go_enter Tryz.func121, Tryz.ntmps121
 go_wp2_with fail
 with_reducible refine (AL.out _).mono ?_
 rintro e w2 ⟨rfl, hb2⟩
 obtain ⟨lt2, ltT, Q2⟩ := QW.out w2 hb2
 have lt1 : w.heap.size < w2.heap.size := by omega
 have ne1 : ¬ w.heap.size = w2.heap.size := by omega
 have ne2 : ¬ w.heap.size + 1 = w2.heap.size := by omega
 go_wp2_with fail
 go_cut [7] (fun v wx => v = .pointer (some ⟨w2.heap.size, 0, none⟩) ∧ Qs base q a M w0 ((w.alloc (.cells #[.string nm, .int .i64 kd, .int .i64 ad, .int .u8 pl, .slice Ab nb cb, .slice A n cap, .slice At nt ct] 62)).alloc (f4C f0 f1 f2 f3)) ns er 0 [(f0, φ0)] ((w2.heap.size, #[.int .u16 65535, .int .u16 (zc : Int), .int .u8 255, .int .u8 255], 50) :: [(w.heap.size + 1, #[.int .i64 (f0 : Int), .int .i64 (f1 : Int), .int .i64 (f2 : Int), .int .i64 (f3 : Int)], 98), (w.heap.size, #[.string nm, .int .i64 kd, .int .i64 ad, .int .u8 pl, .slice Ab nb cb, .slice A n cap, .slice At nt ct], 62)]) wx)
 case first =>
  have Q3 := Q2.drew
  have k1 := (Q3.bz _ List.mem_cons_self).1
  have k3 := (Q3.bz _ (List.mem_cons_of_mem _ (List.mem_cons_of_mem _ List.mem_cons_self))).1
  have a1 := k1.cell 1 (.int .u16 65535) rfl
  have a2 := k3.cell 2 (.int .i64 ad) rfl
  have Q4 := Q3.grow ((Below.refl _ _).alloc (Nat.le_refl _) (.cells #[.int .i64 ad] 3))
  have BI : Bz ((w2.alloc (.cells #[.int .u16 65535, .int .u16 65535, .int .u8 255, .int .u8 255] 50)).drew.alloc (.cells #[.int .i64 ad] 3)) (w2.heap.size + 1) #[.int .i64 ad] 3 := Bz.new _ _ _ _ (by show _ = (w2.heap.push _).size; rw [Array.size_push])
  have BI' : Bz ((w2.alloc (.cells #[.int .u16 65535, .int .u16 65535, .int .u8 255, .int .u8 255] 50)).alloc (.cells #[.int .i64 ad] 3)).drew (w2.heap.size + 1) #[.int .i64 ad] 3 := BI
  have SETQ : Hid (∀ wx, Below ((w2.alloc (.cells #[.int .u16 65535, .int .u16 65535, .int .u8 255, .int .u8 255] 50)).drew.alloc (.cells #[.int .i64 ad] 3)).heap.size ((w2.alloc (.cells #[.int .u16 65535, .int .u16 65535, .int .u8 255, .int .u8 255] 50)).drew.alloc (.cells #[.int .i64 ad] 3)) wx -> wx.cell? ⟨w2.heap.size, 1, none⟩ = some (.int .u16 65535) ∧ wx.frozen? ⟨w2.heap.size, 1, none⟩ = false ∧ wx.cell? ⟨w.heap.size, 2, none⟩ = some (.int .i64 ad) ∧ Qs base q a M w0 ((w.alloc (.cells #[.string nm, .int .i64 kd, .int .i64 ad, .int .u8 pl, .slice Ab nb cb, .slice A n cap, .slice At nt ct] 62)).alloc (f4C f0 f1 f2 f3)) ns er 0 [(f0, φ0)] ((w2.heap.size, #[.int .u16 65535, .int .u16 (zc : Int), .int .u8 255, .int .u8 255], 50) :: [(w.heap.size + 1, #[.int .i64 (f0 : Int), .int .i64 (f1 : Int), .int .i64 (f2 : Int), .int .i64 (f3 : Int)], 98), (w.heap.size, #[.string nm, .int .i64 kd, .int .i64 ad, .int .u8 pl, .slice Ab nb cb, .slice A n cap, .slice At nt ct], 62)]) (wx.setCell ⟨w2.heap.size, 1, none⟩ (.int .u16 (zc : Int)))) := fun wx hb => by
   have Q5 := Q4.grow hb
   have z1 := (Q5.bz _ List.mem_cons_self).1
   refine ⟨z1.cell 1 _ rfl, z1.free 1, (Q5.bz _ (List.mem_cons_of_mem _ (List.mem_cons_of_mem _ List.mem_cons_self))).1.cell 2 _ rfl, ?_⟩
   have := Q5.set (j := 1) ltT (fun b hb => by
    simp only [List.mem_cons, List.not_mem_nil, or_false] at hb
    rcases hb with rfl | rfl
    ·exact ne2
    ·exact ne1) (.int .u16 (zc : Int))
   simpa using this
  clear Q2 Q3 Q4 QW k1 k3 A1 A2 O1 N1
  have FLD : ∀ W : World, (Instr.field 50 (.agg #[.int .u16 65535, .int .u16 (z : Int), .int .u8 255, .int .u8 255]) 1).run Tryz.prog W = .ok (.int .u16 (z : Int)) W := fun W => by
   first
    | rfl
    | kernel_rfl
    | (simp [go_sem, Tryz.underlying50])
  go_region_with (first | (go_at_call 147; (with_reducible refine (DI.out _ _ BI).mono ?_); rintro e wx ⟨rfl, hbx⟩; obtain ⟨x1, x2, x3, x4⟩ := SETQ.out wx hbx) | (go_at_call 147; (with_reducible refine (DI.out _ _ BI').mono ?_); rintro e wx ⟨rfl, hbx⟩; obtain ⟨x1, x2, x3, x4⟩ := SETQ.out wx hbx))
  all_goals
   go_wp2_with fail
   go_meet
   exact ⟨rfl, x4⟩
 case rest =>
  obtain ⟨rfl, Q5⟩ := hcut
  clear Q2 QW AL DI hb2 hzc2
  obtain ⟨V, hV⟩ : ∃ V : Nat -> List (Nat × (Env -> Bool)) -> World -> Prop, V = fun g fs W => Qs base q a M w0 ((w.alloc (.cells #[.string nm, .int .i64 kd, .int .i64 ad, .int .u8 pl, .slice Ab nb cb, .slice A n cap, .slice At nt ct] 62)).alloc (f4C f0 f1 f2 f3)) ns er g fs ((w2.heap.size, #[.int .u16 65535, .int .u16 (zc : Int), .int .u8 255, .int .u8 255], 50) :: [(w.heap.size + 1, #[.int .i64 (f0 : Int), .int .i64 (f1 : Int), .int .i64 (f2 : Int), .int .i64 (f3 : Int)], 98), (w.heap.size, #[.string nm, .int .i64 kd, .int .i64 ad, .int .u8 pl, .slice Ab nb cb, .slice A n cap, .slice At nt ct], 62)]) W := ⟨_, rfl⟩
  have V5 : V 0 [(f0, φ0)] wc.drew := by rw [hV]; exact Q5.drew
  have HC : Hid (∀ {g : Nat} {fs : List (Nat × (Env -> Bool))} {W : World}, V g fs W -> (W.cell? ⟨w.heap.size, 0, none⟩ = some (.string nm) ∧ W.cell? ⟨w.heap.size, 1, none⟩ = some (.int .i64 kd) ∧ W.cell? ⟨w.heap.size, 2, none⟩ = some (.int .i64 ad) ∧ W.cell? ⟨w.heap.size, 3, none⟩ = some (.int .u8 pl) ∧ W.cell? ⟨w.heap.size, 4, none⟩ = some (.slice Ab nb cb) ∧ W.cell? ⟨w.heap.size, 5, none⟩ = some (.slice A n cap) ∧ W.cell? ⟨w.heap.size, 6, none⟩ = some (.slice At nt ct)) ∧ (W.cell? ⟨w.heap.size + 1, 0, none⟩ = some (.int .i64 (f0 : Int)) ∧ W.cell? ⟨w.heap.size + 1, 1, none⟩ = some (.int .i64 (f1 : Int)) ∧ W.cell? ⟨w.heap.size + 1, 2, none⟩ = some (.int .i64 (f2 : Int)) ∧ W.cell? ⟨w.heap.size + 1, 3, none⟩ = some (.int .i64 (f3 : Int))) ∧ W.cell? ⟨w2.heap.size, 0, none⟩ = some (.int .u16 65535) ∧ W.cell? ⟨w2.heap.size, 1, none⟩ = some (.int .u16 (zc : Int)) ∧ W.cell? ⟨w2.heap.size, 2, none⟩ = some (.int .u8 255) ∧ W.cell? ⟨w2.heap.size, 3, none⟩ = some (.int .u8 255)) := fun {g fs W} hq => by
   rw [hV] at hq
   have k1 := (hq.bz _ List.mem_cons_self).1
   have k2 := (hq.bz _ (List.mem_cons_of_mem _ List.mem_cons_self)).1
   have k3 := (hq.bz _ (List.mem_cons_of_mem _ (List.mem_cons_of_mem _ List.mem_cons_self))).1
   exact ⟨⟨k3.cell 0 _ rfl, k3.cell 1 _ rfl, k3.cell 2 _ rfl, k3.cell 3 _ rfl, k3.cell 4 _ rfl, k3.cell 5 _ rfl, k3.cell 6 _ rfl⟩, ⟨k2.cell 0 _ rfl, k2.cell 1 _ rfl, k2.cell 2 _ rfl, k2.cell 3 _ rfl⟩, k1.cell 0 _ rfl, k1.cell 1 _ rfl, k1.cell 2 _ rfl, k1.cell 3 _ rfl⟩
  have CO : Hid (∀ {g : Nat} {fs : List (Nat × (Env -> Bool))} {W : World}, V g fs W -> (f0, φ0) ∈ fs -> Calls Tryz.prog 150 #[.pointer (some ⟨q, 0, none⟩), .agg #[.string nm, .int .i64 kd, .int .i64 ad, .int .u8 pl, .slice Ab nb cb, .slice A n cap, .slice At nt ct], .agg #[.int .i64 (f0 : Int), .int .i64 (f1 : Int), .int .i64 (f2 : Int), .int .i64 (f3 : Int)]] W fun e w' => ∃ f : Nat, e = .returned (.int .i64 (f : Int)) ∧ V (g + (0 + 44 + gO)) ((f, (fun x => φ0 x && phi 65535 z 255 255 x)) :: fs) w') := fun {g fs W} hq m1 => by
   rw [hV] at hq ⊢
   exact hq.call fun _ _ b hf => OW.out _ _ _ b (hf _ m1)
  have C1 : Hid (∀ {g : Nat} {fs : List (Nat × (Env -> Bool))} {W : World} (i : Nat), V g fs W -> (i, (fun x => φ0 x && phi 65535 z 255 255 x)) ∈ fs -> Calls Tryz.prog 148 #[.pointer (some ⟨q, 0, none⟩), .int .i64 (i : Int)] W fun e w' => ∃ f : Nat, e = .returned (.int .i64 (f : Int)) ∧ V (g + g1) ((f, φa) :: fs) w') := fun {g fs W} i hq m1 => by
   rw [hV] at hq ⊢
   exact hq.call fun _ _ b hf => N1 _ _ _ _ b (hf _ m1)
  have CD : Hid (∀ {g : Nat} {fs : List (Nat × (Env -> Bool))} {W : World}, V g fs W -> Calls Tryz.prog 147 #[.slice Ab nb cb] W fun e w' => e = .returned (.agg #[.int .u16 65535, .int .u16 (zb : Int), .int .u8 255, .int .u8 255]) ∧ V g fs w' ∧ Below W.heap.size W w') := fun {g fs W} hq => by
   rw [hV] at hq ⊢
   obtain ⟨ns1, er1, s1, hf⟩ := hq.st
   exact (DB.out W s1.bn.size s1.bn.bel).mono fun e w' ⟨h1, h2⟩ => ⟨h1, hq.grow h2, h2⟩
  have CM : Hid (∀ {g : Nat} {fs : List (Nat × (Env -> Bool))} {W : World}, V g fs W -> Calls Tryz.prog 68 #[.pointer (some ⟨q, 0, none⟩), .agg #[.int .u16 65535, .int .u16 (zb : Int), .int .u8 255, .int .u8 255]] W fun e w' => ∃ f : Nat, e = .returned (.int .i64 (f : Int)) ∧ V (g + 44) ((f, phi 65535 zb 255 255) :: fs) w') := fun {g fs W} hq => by
   rw [hV] at hq ⊢
   exact hq.call fun _ _ b _ => match_b b 65535 zb 255 255 (by omega) hzb (by omega) (by omega)
  have CA : Hid (∀ {g : Nat} {fs : List (Nat × (Env -> Bool))} {W : World} (i j : Nat), V g fs W -> (i, φa) ∈ fs -> (j, (phi 65535 zb 255 255)) ∈ fs -> Calls Tryz.prog 66 #[.pointer (some ⟨q, 0, none⟩), .int .i64 (i : Int), .int .i64 (j : Int)] W fun e w' => ∃ f : Nat, e = .returned (.int .i64 (f : Int)) ∧ V (g + gA1) ((f, fun x => φa x && (phi 65535 zb 255 255) x) :: fs) w') := fun {g fs W} i j hq m1 m2 => by
   rw [hV] at hq ⊢
   exact hq.call fun _ _ b hf => A1 _ _ _ _ _ b (hf _ m1) (hf _ m2)
  have CN : Hid (∀ {g : Nat} {fs : List (Nat × (Env -> Bool))} {W : World}, V g fs W -> Calls Tryz.prog 68 #[.pointer (some ⟨q, 0, none⟩), .agg #[.int .u16 65535, .int .u16 (zc : Int), .int .u8 255, .int .u8 255]] W fun e w' => ∃ f : Nat, e = .returned (.int .i64 (f : Int)) ∧ V (g + 44) ((f, phi 65535 zc 255 255) :: fs) w') := fun {g fs W} hq => by
   rw [hV] at hq ⊢
   exact hq.call fun _ _ b _ => match_b b 65535 zc 255 255 (by omega) hzc1 (by omega) (by omega)
  have CB : Hid (∀ {g : Nat} {fs : List (Nat × (Env -> Bool))} {W : World} (i j : Nat), V g fs W -> (i, φ0) ∈ fs -> (j, (phi 65535 zc 255 255)) ∈ fs -> Calls Tryz.prog 66 #[.pointer (some ⟨q, 0, none⟩), .int .i64 (i : Int), .int .i64 (j : Int)] W fun e w' => ∃ f : Nat, e = .returned (.int .i64 (f : Int)) ∧ V (g + gA2) ((f, fun x => φ0 x && (phi 65535 zc 255 255) x) :: fs) w') := fun {g fs W} i j hq m1 m2 => by
   rw [hV] at hq ⊢
   exact hq.call fun _ _ b hf => A2 _ _ _ _ _ b (hf _ m1) (hf _ m2)
  have CR : Hid (∀ {g : Nat} {fs : List (Nat × (Env -> Bool))} {W : World} (i j : Nat), V g fs W -> (i, (fun x => φ0 x && phi 65535 zc 255 255 x)) ∈ fs -> (j, (fun x => φa x && (phi 65535 zb 255 255) x)) ∈ fs -> Calls Tryz.prog 91 #[.pointer (some ⟨q, 0, none⟩), .int .i64 (i : Int), .int .i64 (j : Int)] W fun e w' => ∃ f : Nat, e = .returned (.int .i64 (f : Int)) ∧ V (g + gO1) ((f, fun x => (fun x => φ0 x && phi 65535 zc 255 255 x) x || (fun x => φa x && (phi 65535 zb 255 255) x) x) :: fs) w') := fun {g fs W} i j hq m1 m2 => by
   rw [hV] at hq ⊢
   exact hq.call fun _ _ b hf => O1 _ _ _ _ _ b (hf _ m1) (hf _ m2)
  have FIN : Hid (∀ {fs : List (Nat × (Env -> Bool))} {W : World} (f : Nat), V (0 + (0 + 44 + gO) + g1 + 44 + gA1 + 44 + gA2 + gO1) fs W -> (f, (fun x => (fun x => φ0 x && phi 65535 zc 255 255 x) x || (fun x => φa x && (phi 65535 zb 255 255) x) x)) ∈ fs -> BOut base q a M w0 w ns er (0 + (0 + 44 + gO) + g1 + 44 + gA1 + 44 + gA2 + gO1) (fun x => (fun x => φ0 x && phi 65535 zc 255 255 x) x || (fun x => φa x && (phi 65535 zb 255 255) x) x) (.returned (.int .i64 (f : Int))) W) := fun {fs W} f hq m => by
   rw [hV] at hq
   exact hq.fn m tfw
  have DRW : ∀ {g : Nat} {fs : List (Nat × (Env -> Bool))} {W : World}, V g fs W -> V g fs W.drew := fun {g fs W} hq => by rw [hV] at hq ⊢; exact hq.drew
  clear hV Q5 OW DB A1 A2 O1 N1 hzb tfw
  go_wp2_with fail
  go_cut [8] (fun v wx => ∃ fo fa fm fx : Nat, v = .int .i64 (fx : Int) ∧ V (0 + (0 + 44 + gO) + g1 + 44 + gA1) [(fx, fun x => φa x && (phi 65535 zb 255 255) x), (fm, (phi 65535 zb 255 255)), (fa, φa), (fo, (fun x => φ0 x && phi 65535 z 255 255 x)), (f0, φ0)] wx)
  case first =>
   go_region_held3 (fun W => (W.cell? ⟨w.heap.size, 0, none⟩ = some (.string nm) ∧ W.cell? ⟨w.heap.size, 1, none⟩ = some (.int .i64 kd) ∧ W.cell? ⟨w.heap.size, 2, none⟩ = some (.int .i64 ad) ∧ W.cell? ⟨w.heap.size, 3, none⟩ = some (.int .u8 pl) ∧ W.cell? ⟨w.heap.size, 4, none⟩ = some (.slice Ab nb cb) ∧ W.cell? ⟨w.heap.size, 5, none⟩ = some (.slice A n cap) ∧ W.cell? ⟨w.heap.size, 6, none⟩ = some (.slice At nt ct)) ∧ (W.cell? ⟨w.heap.size + 1, 0, none⟩ = some (.int .i64 (f0 : Int)) ∧ W.cell? ⟨w.heap.size + 1, 1, none⟩ = some (.int .i64 (f1 : Int)) ∧ W.cell? ⟨w.heap.size + 1, 2, none⟩ = some (.int .i64 (f2 : Int)) ∧ W.cell? ⟨w.heap.size + 1, 3, none⟩ = some (.int .i64 (f3 : Int))) ∧ W.cell? ⟨w2.heap.size, 0, none⟩ = some (.int .u16 65535) ∧ W.cell? ⟨w2.heap.size, 1, none⟩ = some (.int .u16 (zc : Int)) ∧ W.cell? ⟨w2.heap.size, 2, none⟩ = some (.int .u8 255) ∧ W.cell? ⟨w2.heap.size, 3, none⟩ = some (.int .u8 255)) (exact HC.out (by assumption))
    ((first
      | (go_at_call 150; (with_reducible refine (CO.out V5 (List.Mem.head _)).mono ?_); rintro e w6 ⟨fo, rfl, V6⟩; skip)
      | (go_at_call 148; (with_reducible refine (C1.out _ V6 (List.Mem.head _)).mono ?_); rintro e w7 ⟨fa, rfl, V7⟩; skip)
      | (go_at_call 147; (with_reducible refine (CD.out V7).mono ?_); rintro e w8 ⟨rfl, V8, _⟩; skip)
      | (go_at_call 68; (with_reducible refine (CM.out V8).mono ?_); rintro e w9 ⟨fm, rfl, V9⟩; skip)
      | (go_at_call 66; (with_reducible refine (CA.out _ _ V9 (List.Mem.tail _ (List.Mem.head _)) (List.Mem.head _)).mono ?_); rintro e wa ⟨fx, rfl, VA⟩; skip)))
   all_goals
    go_wp2_with fail
    go_meet
    exact ⟨fo, fa, fm, fx, rfl, VA⟩
  case rest =>
   clear V5 CO C1 CD CM CA
   obtain ⟨fo, fa, fm, fx, rfl, V5⟩ := hcut
   have V6 := DRW V5
   clear V5
   go_wp2_with fail
   go_region_held3 (fun W => (W.cell? ⟨w.heap.size, 0, none⟩ = some (.string nm) ∧ W.cell? ⟨w.heap.size, 1, none⟩ = some (.int .i64 kd) ∧ W.cell? ⟨w.heap.size, 2, none⟩ = some (.int .i64 ad) ∧ W.cell? ⟨w.heap.size, 3, none⟩ = some (.int .u8 pl) ∧ W.cell? ⟨w.heap.size, 4, none⟩ = some (.slice Ab nb cb) ∧ W.cell? ⟨w.heap.size, 5, none⟩ = some (.slice A n cap) ∧ W.cell? ⟨w.heap.size, 6, none⟩ = some (.slice At nt ct)) ∧ (W.cell? ⟨w.heap.size + 1, 0, none⟩ = some (.int .i64 (f0 : Int)) ∧ W.cell? ⟨w.heap.size + 1, 1, none⟩ = some (.int .i64 (f1 : Int)) ∧ W.cell? ⟨w.heap.size + 1, 2, none⟩ = some (.int .i64 (f2 : Int)) ∧ W.cell? ⟨w.heap.size + 1, 3, none⟩ = some (.int .i64 (f3 : Int))) ∧ W.cell? ⟨w2.heap.size, 0, none⟩ = some (.int .u16 65535) ∧ W.cell? ⟨w2.heap.size, 1, none⟩ = some (.int .u16 (zc : Int)) ∧ W.cell? ⟨w2.heap.size, 2, none⟩ = some (.int .u8 255) ∧ W.cell? ⟨w2.heap.size, 3, none⟩ = some (.int .u8 255)) (exact HC.out (by assumption))
    ((first
      | (go_at_call 68; (with_reducible refine (CN.out V6).mono ?_); rintro e w7 ⟨fn, rfl, V7⟩; skip)
      | (go_at_call 66; (with_reducible refine (CB.out _ _ V7 (List.Mem.tail _ (List.Mem.tail _ (List.Mem.tail _ (List.Mem.tail _ (List.Mem.tail _ (List.Mem.head _)))))) (List.Mem.head _)).mono ?_); rintro e w8 ⟨fy, rfl, V8⟩; skip)
      | (go_at_call 91; (with_reducible refine (CR.out _ _ V8 (List.Mem.head _) (List.Mem.tail _ (List.Mem.tail _ (List.Mem.head _)))).mono ?_); rintro e w9 ⟨fz, rfl, V9⟩; have FF := FIN.out _ V9 (List.Mem.head _))))
   all_goals
    go_wp2_with fail
    go_ret
    exact FF
end
section
variable {base q a M : Nat} {w0 w : World} {ns : List Nd} {er : Int}
theorem gather_b (h : Bn base q a M w0 w ns er) {nm : ByteArray} {kd ad pl : Int} {Ab A At : Option Addr} {nb cb n cap nt ct : Nat} {f0 f1 f2 f3 : Nat} {bs : List Int} {gO g1 gF gA1 gA2 g2 gA3 gO1 : Nat} {φ0 φ1 φa φc : Env -> Bool} (h0 : 0 <= ad) (h16 : ad < 16) (hB : SlAt base w0 1 IsI (.slice Ab nb cb) bs) (hbs : ∀ x ∈ bs, 0 <= x ∧ x < 16) (AO : AndB base q a M w0 φ0 (phi 65535 (setL [ad] 0) 255 255) gO) (N1 : AnB 148 base q a M w0 (fun x => φ0 x && (phi 65535 (setL [ad] 0) 255 255) x) φa g1) (FB : FlB base q a M w0 φa gF) (A1 : AndB base q a M w0 (phi (setL bs 0) 65535 255 255) (flF φa) gA1) (A2 : AndB base q a M w0 φ1 (fun x => (phi (setL bs 0) 65535 255 255) x && flF φa x) gA2) (N2 : AnB 145 base q a M w0 (fun x => φ1 x && (fun x => (phi (setL bs 0) 65535 255 255) x && flF φa x) x) φc g2) (A3 : AndB base q a M w0 φc (phi (setL [ad] 0) 65535 255 255) gA3) (O1 : OrB base q a M w0 φ1 (fun x => φc x && (phi (setL [ad] 0) 65535 255 255) x) gO1) (hf0 : Fn ns er f0 φ0) (hf1 : Fn ns er f1 φ1) :
  Calls Tryz.prog 122 #[.pointer (some ⟨q, 0, none⟩), .agg #[.string nm, .int .i64 kd, .int .i64 ad, .int .u8 pl, .slice Ab nb cb, .slice A n cap, .slice At nt ct], .agg #[.int .i64 (f0 : Int), .int .i64 (f1 : Int), .int .i64 (f2 : Int), .int .i64 (f3 : Int)]] w (BOut base q a M w0 w ns er (0 + 44 + (0 + 44 + gO) + g1 + gF + gA1 + gA2 + g2 + 44 + gA3 + gO1) (fun x => φ1 x || (fun x => φc x && (phi (setL [ad] 0) 65535 255 255) x) x)) := by
 have h1 := ((h.alloc (.cells #[.string nm, .int .i64 kd, .int .i64 ad, .int .u8 pl, .slice Ab nb cb, .slice A n cap, .slice At nt ct] 62)).alloc (f4C f0 f1 f2 f3))
 have Z1 : Bz ((w.alloc (.cells #[.string nm, .int .i64 kd, .int .i64 ad, .int .u8 pl, .slice Ab nb cb, .slice A n cap, .slice At nt ct] 62)).alloc (f4C f0 f1 f2 f3)) w.heap.size #[.string nm, .int .i64 kd, .int .i64 ad, .int .u8 pl, .slice Ab nb cb, .slice A n cap, .slice At nt ct] 62 := (Bz.new w _ _ _ rfl).al _
 have Z2 : Bz ((w.alloc (.cells #[.string nm, .int .i64 kd, .int .i64 ad, .int .u8 pl, .slice Ab nb cb, .slice A n cap, .slice At nt ct] 62)).alloc (f4C f0 f1 f2 f3)) (w.heap.size + 1) #[.int .i64 (f0 : Int), .int .i64 (f1 : Int), .int .i64 (f2 : Int), .int .i64 (f3 : Int)] 98 := Bz.new (w.alloc _) _ _ _ (by show _ = (w.heap.push _).size; rw [Array.size_push])
 have hz := set_one h0 h16
 have hzb : setL bs 0 < 65536 := setL_lt _ _ hbs (by omega)
 have SI : Hid (∀ (k : Nat) W, Bz W k #[.int .i64 ad] 3 -> Calls Tryz.prog 53 #[.slice (some ⟨k, 0, none⟩) 1 1] W fun e w' => e = .returned (.agg #[.int .u16 (setL [ad] 0 : Nat), .int .u16 65535, .int .u8 255, .int .u8 255]) ∧ Below W.heap.size W w') := fun k W hk => srcIn_any _ [ad] W (sl_one hk) (fun y hy => by simp at hy; omega)
 have SB : Hid (∀ W, base <= W.heap.size -> Below base w0 W -> Calls Tryz.prog 53 #[.slice Ab nb cb] W fun e w' => e = .returned (.agg #[.int .u16 (setL bs 0 : Nat), .int .u16 65535, .int .u8 255, .int .u8 255]) ∧ Below W.heap.size W w') := fun W hs hb => srcIn_any _ bs W (SlAt.mono (SlAt.below hB hb (fun _ _ _ h => h)) hs (fun _ _ _ h => h)) hbs
 have OW : Hid (∀ ns1 er1 W, Bn base q a M w0 W ns1 er1 -> Fn ns1 er1 f0 φ0 -> Calls Tryz.prog 150 #[.pointer (some ⟨q, 0, none⟩), .agg #[.string nm, .int .i64 kd, .int .i64 ad, .int .u8 pl, .slice Ab nb cb, .slice A n cap, .slice At nt ct], .agg #[.int .i64 (f0 : Int), .int .i64 (f1 : Int), .int .i64 (f2 : Int), .int .i64 (f3 : Int)]] W (BOut base q a M w0 W ns1 er1 (0 + 44 + gO) (fun x => φ0 x && (phi 65535 (setL [ad] 0) 255 255) x))) := fun ns1 er1 W b hf => own_b b h0 h16 AO hf
 generalize setL [ad] 0 = z at *
 generalize setL bs 0 = zb at *
 have Q0 : Qs base q a M w0 ((w.alloc (.cells #[.string nm, .int .i64 kd, .int .i64 ad, .int .u8 pl, .slice Ab nb cb, .slice A n cap, .slice At nt ct] 62)).alloc (f4C f0 f1 f2 f3)) ns er 0 [(f0, φ0), (f1, φ1)] [(w.heap.size + 1, #[.int .i64 (f0 : Int), .int .i64 (f1 : Int), .int .i64 (f2 : Int), .int .i64 (f3 : Int)], 98), (w.heap.size, #[.string nm, .int .i64 kd, .int .i64 ad, .int .u8 pl, .slice Ab nb cb, .slice A n cap, .slice At nt ct], 62)] ((w.alloc (.cells #[.string nm, .int .i64 kd, .int .i64 ad, .int .u8 pl, .slice Ab nb cb, .slice A n cap, .slice At nt ct] 62)).alloc (f4C f0 f1 f2 f3)) := ((Qs.start h1 (fs := [(f0, φ0), (f1, φ1)]) (fun x hx => by
  rcases List.mem_cons.1 hx with rfl | hx
  ·exact hf0
  ·rw [List.mem_singleton.1 hx]; exact hf1)).boxed Z1 (by decide)).boxed Z2 (by decide)
 have tfw : TF w ((w.alloc (.cells #[.string nm, .int .i64 kd, .int .i64 ad, .int .u8 pl, .slice Ab nb cb, .slice A n cap, .slice At nt ct] 62)).alloc (f4C f0 f1 f2 f3)) := tf_two w _ _
 obtain ⟨V0, hV0⟩ : ∃ V : Nat -> List (Nat × (Env -> Bool)) -> List Bx -> World -> Prop, V = fun g fs bx W => Qs base q a M w0 ((w.alloc (.cells #[.string nm, .int .i64 kd, .int .i64 ad, .int .u8 pl, .slice Ab nb cb, .slice A n cap, .slice At nt ct] 62)).alloc (f4C f0 f1 f2 f3)) ns er g fs (bx ++ [(w.heap.size + 1, #[.int .i64 (f0 : Int), .int .i64 (f1 : Int), .int .i64 (f2 : Int), .int .i64 (f3 : Int)], 98), (w.heap.size, #[.string nm, .int .i64 kd, .int .i64 ad, .int .u8 pl, .slice Ab nb cb, .slice A n cap, .slice At nt ct], 62)]) W := ⟨_, rfl⟩
 have V5 : V0 0 [(f0, φ0), (f1, φ1)] [] ((w.alloc (.cells #[.string nm, .int .i64 kd, .int .i64 ad, .int .u8 pl, .slice Ab nb cb, .slice A n cap, .slice At nt ct] 62)).alloc (f4C f0 f1 f2 f3)).drew := by rw [hV0]; exact Q0.drew
 have HC : Hid (∀ {g : Nat} {fs : List (Nat × (Env -> Bool))} {bx : List Bx} {W : World}, V0 g fs bx W -> (W.cell? ⟨w.heap.size, 0, none⟩ = some (.string nm) ∧ W.cell? ⟨w.heap.size, 1, none⟩ = some (.int .i64 kd) ∧ W.cell? ⟨w.heap.size, 2, none⟩ = some (.int .i64 ad) ∧ W.cell? ⟨w.heap.size, 3, none⟩ = some (.int .u8 pl) ∧ W.cell? ⟨w.heap.size, 4, none⟩ = some (.slice Ab nb cb) ∧ W.cell? ⟨w.heap.size, 5, none⟩ = some (.slice A n cap) ∧ W.cell? ⟨w.heap.size, 6, none⟩ = some (.slice At nt ct)) ∧ (W.cell? ⟨w.heap.size + 1, 0, none⟩ = some (.int .i64 (f0 : Int)) ∧ W.cell? ⟨w.heap.size + 1, 1, none⟩ = some (.int .i64 (f1 : Int)) ∧ W.cell? ⟨w.heap.size + 1, 2, none⟩ = some (.int .i64 (f2 : Int)) ∧ W.cell? ⟨w.heap.size + 1, 3, none⟩ = some (.int .i64 (f3 : Int)))) := fun {g fs bx W} hq => by
  rw [hV0] at hq
  have k2 := (hq.bz _ (List.mem_append_right _ List.mem_cons_self)).1
  have k3 := (hq.bz _ (List.mem_append_right _ (List.mem_cons_of_mem _ List.mem_cons_self))).1
  exact ⟨⟨k3.cell 0 _ rfl, k3.cell 1 _ rfl, k3.cell 2 _ rfl, k3.cell 3 _ rfl, k3.cell 4 _ rfl, k3.cell 5 _ rfl, k3.cell 6 _ rfl⟩, k2.cell 0 _ rfl, k2.cell 1 _ rfl, k2.cell 2 _ rfl, k2.cell 3 _ rfl⟩
 have ALB : ∀ {g : Nat} {fs : List (Nat × (Env -> Bool))} {W : World}, V0 g fs [] W -> V0 g fs [(W.heap.size, #[.int .i64 ad], 3)] (W.alloc (.cells #[.int .i64 ad] 3)) := fun {g fs W} hq => by rw [hV0] at hq ⊢; exact hq.box rfl (by decide)
 have NB : ∀ {g : Nat} {fs : List (Nat × (Env -> Bool))} {bx : List Bx} {W : World}, V0 g fs bx W -> V0 g fs [] W := fun {g fs bx W} hq => by
  rw [hV0] at hq ⊢
  exact ⟨hq.st, fun b hb => hq.bz b (List.mem_append_right _ hb), hq.bT⟩
 have DRW : ∀ {g : Nat} {fs : List (Nat × (Env -> Bool))} {bx : List Bx} {W : World}, V0 g fs bx W -> V0 g fs bx W.drew := fun {g fs bx W} hq => by rw [hV0] at hq ⊢; exact hq.drew
 have CI : Hid (∀ {g : Nat} {fs : List (Nat × (Env -> Bool))} {k : Nat} {W : World}, V0 g fs [(k, #[.int .i64 ad], 3)] W -> Calls Tryz.prog 53 #[.slice (some ⟨k, 0, none⟩) 1 1] W fun e w' => e = .returned (.agg #[.int .u16 (z : Int), .int .u16 65535, .int .u8 255, .int .u8 255]) ∧ V0 g fs [(k, #[.int .i64 ad], 3)] w') := fun {g fs k W} hq => by
  rw [hV0] at hq ⊢
  exact (SI.out k W (hq.bz _ List.mem_cons_self).1).mono fun e w' ⟨h1, h2⟩ => ⟨h1, hq.grow h2⟩
 have CS : Hid (∀ {g : Nat} {fs : List (Nat × (Env -> Bool))} {bx : List Bx} {W : World}, V0 g fs bx W -> Calls Tryz.prog 53 #[.slice Ab nb cb] W fun e w' => e = .returned (.agg #[.int .u16 (zb : Int), .int .u16 65535, .int .u8 255, .int .u8 255]) ∧ V0 g fs bx w' ∧ Below W.heap.size W w') := fun {g fs bx W} hq => by
  rw [hV0] at hq ⊢
  obtain ⟨ns1, er1, s1, hf⟩ := hq.st
  exact (SB.out W s1.bn.size s1.bn.bel).mono fun e w' ⟨h1, h2⟩ => ⟨h1, hq.grow h2, h2⟩
 have CM : Hid (∀ {g : Nat} {fs : List (Nat × (Env -> Bool))} {bx : List Bx} {W : World}, V0 g fs bx W -> Calls Tryz.prog 68 #[.pointer (some ⟨q, 0, none⟩), .agg #[.int .u16 (zb : Int), .int .u16 65535, .int .u8 255, .int .u8 255]] W fun e w' => ∃ f : Nat, e = .returned (.int .i64 (f : Int)) ∧ V0 (g + 44) ((f, phi zb 65535 255 255) :: fs) bx w') := fun {g fs bx W} hq => by
  rw [hV0] at hq ⊢
  exact hq.call fun _ _ b _ => match_b b zb 65535 255 255 hzb (by omega) (by omega) (by omega)
 have CO : Hid (∀ {g : Nat} {fs : List (Nat × (Env -> Bool))} {bx : List Bx} {W : World}, V0 g fs bx W -> (f0, φ0) ∈ fs -> Calls Tryz.prog 150 #[.pointer (some ⟨q, 0, none⟩), .agg #[.string nm, .int .i64 kd, .int .i64 ad, .int .u8 pl, .slice Ab nb cb, .slice A n cap, .slice At nt ct], .agg #[.int .i64 (f0 : Int), .int .i64 (f1 : Int), .int .i64 (f2 : Int), .int .i64 (f3 : Int)]] W fun e w' => ∃ f : Nat, e = .returned (.int .i64 (f : Int)) ∧ V0 (g + (0 + 44 + gO)) ((f, (fun x => φ0 x && phi 65535 z 255 255 x)) :: fs) bx w') := fun {g fs bx W} hq m1 => by
  rw [hV0] at hq ⊢
  exact hq.call fun _ _ b hf => OW.out _ _ _ b (hf _ m1)
 have C1 : Hid (∀ {g : Nat} {fs : List (Nat × (Env -> Bool))} {bx : List Bx} {W : World} (i : Nat), V0 g fs bx W -> (i, (fun x => φ0 x && phi 65535 z 255 255 x)) ∈ fs -> Calls Tryz.prog 148 #[.pointer (some ⟨q, 0, none⟩), .int .i64 (i : Int)] W fun e w' => ∃ f : Nat, e = .returned (.int .i64 (f : Int)) ∧ V0 (g + g1) ((f, φa) :: fs) bx w') := fun {g fs bx W} i hq m1 => by
  rw [hV0] at hq ⊢
  exact hq.call fun _ _ b hf => N1 _ _ _ _ b (hf _ m1)
 have CF : Hid (∀ {g : Nat} {fs : List (Nat × (Env -> Bool))} {bx : List Bx} {W : World} (i : Nat), V0 g fs bx W -> (i, φa) ∈ fs -> Calls Tryz.prog 144 #[.pointer (some ⟨q, 0, none⟩), .int .i64 (i : Int)] W fun e w' => ∃ f : Nat, e = .returned (.int .i64 (f : Int)) ∧ V0 (g + gF) ((f, flF φa) :: fs) bx w') := fun {g fs bx W} i hq m1 => by
  rw [hV0] at hq ⊢
  exact hq.call fun _ _ b hf => FB _ _ _ _ b (hf _ m1)
 have CA : Hid (∀ {g : Nat} {fs : List (Nat × (Env -> Bool))} {bx : List Bx} {W : World} (i j : Nat), V0 g fs bx W -> (i, (phi zb 65535 255 255)) ∈ fs -> (j, (flF φa)) ∈ fs -> Calls Tryz.prog 66 #[.pointer (some ⟨q, 0, none⟩), .int .i64 (i : Int), .int .i64 (j : Int)] W fun e w' => ∃ f : Nat, e = .returned (.int .i64 (f : Int)) ∧ V0 (g + gA1) ((f, fun x => (phi zb 65535 255 255) x && (flF φa) x) :: fs) bx w') := fun {g fs bx W} i j hq m1 m2 => by
  rw [hV0] at hq ⊢
  exact hq.call fun _ _ b hf => A1 _ _ _ _ _ b (hf _ m1) (hf _ m2)
 have CB : Hid (∀ {g : Nat} {fs : List (Nat × (Env -> Bool))} {bx : List Bx} {W : World} (i j : Nat), V0 g fs bx W -> (i, φ1) ∈ fs -> (j, (fun x => (phi zb 65535 255 255) x && flF φa x)) ∈ fs -> Calls Tryz.prog 66 #[.pointer (some ⟨q, 0, none⟩), .int .i64 (i : Int), .int .i64 (j : Int)] W fun e w' => ∃ f : Nat, e = .returned (.int .i64 (f : Int)) ∧ V0 (g + gA2) ((f, fun x => φ1 x && (fun x => (phi zb 65535 255 255) x && flF φa x) x) :: fs) bx w') := fun {g fs bx W} i j hq m1 m2 => by
  rw [hV0] at hq ⊢
  exact hq.call fun _ _ b hf => A2 _ _ _ _ _ b (hf _ m1) (hf _ m2)
 have C2 : Hid (∀ {g : Nat} {fs : List (Nat × (Env -> Bool))} {bx : List Bx} {W : World} (i : Nat), V0 g fs bx W -> (i, (fun x => φ1 x && (fun x => (phi zb 65535 255 255) x && flF φa x) x)) ∈ fs -> Calls Tryz.prog 145 #[.pointer (some ⟨q, 0, none⟩), .int .i64 (i : Int)] W fun e w' => ∃ f : Nat, e = .returned (.int .i64 (f : Int)) ∧ V0 (g + g2) ((f, φc) :: fs) bx w') := fun {g fs bx W} i hq m1 => by
  rw [hV0] at hq ⊢
  exact hq.call fun _ _ b hf => N2 _ _ _ _ b (hf _ m1)
 have CN : Hid (∀ {g : Nat} {fs : List (Nat × (Env -> Bool))} {bx : List Bx} {W : World}, V0 g fs bx W -> Calls Tryz.prog 68 #[.pointer (some ⟨q, 0, none⟩), .agg #[.int .u16 (z : Int), .int .u16 65535, .int .u8 255, .int .u8 255]] W fun e w' => ∃ f : Nat, e = .returned (.int .i64 (f : Int)) ∧ V0 (g + 44) ((f, phi z 65535 255 255) :: fs) bx w') := fun {g fs bx W} hq => by
  rw [hV0] at hq ⊢
  exact hq.call fun _ _ b _ => match_b b z 65535 255 255 hz (by omega) (by omega) (by omega)
 have CE : Hid (∀ {g : Nat} {fs : List (Nat × (Env -> Bool))} {bx : List Bx} {W : World} (i j : Nat), V0 g fs bx W -> (i, φc) ∈ fs -> (j, (phi z 65535 255 255)) ∈ fs -> Calls Tryz.prog 66 #[.pointer (some ⟨q, 0, none⟩), .int .i64 (i : Int), .int .i64 (j : Int)] W fun e w' => ∃ f : Nat, e = .returned (.int .i64 (f : Int)) ∧ V0 (g + gA3) ((f, fun x => φc x && (phi z 65535 255 255) x) :: fs) bx w') := fun {g fs bx W} i j hq m1 m2 => by
  rw [hV0] at hq ⊢
  exact hq.call fun _ _ b hf => A3 _ _ _ _ _ b (hf _ m1) (hf _ m2)
 have CR : Hid (∀ {g : Nat} {fs : List (Nat × (Env -> Bool))} {bx : List Bx} {W : World} (i j : Nat), V0 g fs bx W -> (i, φ1) ∈ fs -> (j, (fun x => φc x && (phi z 65535 255 255) x)) ∈ fs -> Calls Tryz.prog 91 #[.pointer (some ⟨q, 0, none⟩), .int .i64 (i : Int), .int .i64 (j : Int)] W fun e w' => ∃ f : Nat, e = .returned (.int .i64 (f : Int)) ∧ V0 (g + gO1) ((f, fun x => φ1 x || (fun x => φc x && (phi z 65535 255 255) x) x) :: fs) bx w') := fun {g fs bx W} i j hq m1 m2 => by
  rw [hV0] at hq ⊢
  exact hq.call fun _ _ b hf => O1 _ _ _ _ _ b (hf _ m1) (hf _ m2)
 have FIN : Hid (∀ {fs : List (Nat × (Env -> Bool))} {W : World} (f : Nat), V0 (0 + 44 + (0 + 44 + gO) + g1 + gF + gA1 + gA2 + g2 + 44 + gA3 + gO1) fs [] W -> (f, (fun x => φ1 x || (fun x => φc x && (phi z 65535 255 255) x) x)) ∈ fs -> BOut base q a M w0 w ns er (0 + 44 + (0 + 44 + gO) + g1 + gF + gA1 + gA2 + g2 + 44 + gA3 + gO1) (fun x => φ1 x || (fun x => φc x && (phi z 65535 255 255) x) x) (.returned (.int .i64 (f : Int))) W) := fun {fs W} f hq m => by
  rw [hV0] at hq
  exact hq.fn m tfw
 clear Q0 h1 Z1 Z2 h hf0 hf1 AO hB OW SI SB A1 A2 A3 O1 N1 N2 FB hz hzb tfw hV0
 go_enter Tryz.func122, Tryz.ntmps122
 go_wp2_with fail
 go_cut [7] (fun v wx => ∃ fm fo fa fl fx : Nat, v = .int .i64 (fx : Int) ∧ V0 (0 + 44 + (0 + 44 + gO) + g1 + gF + gA1) [(fx, (fun x => (phi zb 65535 255 255) x && flF φa x)), (fl, flF φa), (fa, φa), (fo, (fun x => φ0 x && phi 65535 z 255 255 x)), (fm, (phi zb 65535 255 255)), (f0, φ0), (f1, φ1)] [] wx)
 case first =>
  go_region_held3 (fun W => (W.cell? ⟨w.heap.size, 0, none⟩ = some (.string nm) ∧ W.cell? ⟨w.heap.size, 1, none⟩ = some (.int .i64 kd) ∧ W.cell? ⟨w.heap.size, 2, none⟩ = some (.int .i64 ad) ∧ W.cell? ⟨w.heap.size, 3, none⟩ = some (.int .u8 pl) ∧ W.cell? ⟨w.heap.size, 4, none⟩ = some (.slice Ab nb cb) ∧ W.cell? ⟨w.heap.size, 5, none⟩ = some (.slice A n cap) ∧ W.cell? ⟨w.heap.size, 6, none⟩ = some (.slice At nt ct)) ∧ (W.cell? ⟨w.heap.size + 1, 0, none⟩ = some (.int .i64 (f0 : Int)) ∧ W.cell? ⟨w.heap.size + 1, 1, none⟩ = some (.int .i64 (f1 : Int)) ∧ W.cell? ⟨w.heap.size + 1, 2, none⟩ = some (.int .i64 (f2 : Int)) ∧ W.cell? ⟨w.heap.size + 1, 3, none⟩ = some (.int .i64 (f3 : Int)))) (exact HC.out (by assumption))
   ((first
     | (go_at_call 53; (with_reducible refine (CS.out V5).mono ?_); rintro e w6 ⟨rfl, V6, _⟩; skip)
     | (go_at_call 68; (with_reducible refine (CM.out V6).mono ?_); rintro e w7 ⟨fm, rfl, V7⟩; skip)
     | (go_at_call 150; (with_reducible refine (CO.out V7 (List.Mem.tail _ (List.Mem.head _))).mono ?_); rintro e w8 ⟨fo, rfl, V8⟩; skip)
     | (go_at_call 148; (with_reducible refine (C1.out _ V8 (List.Mem.head _)).mono ?_); rintro e w9 ⟨fa, rfl, V9⟩; skip)
     | (go_at_call 144; (with_reducible refine (CF.out _ V9 (List.Mem.head _)).mono ?_); rintro e wa ⟨fl, rfl, VA⟩; skip)
     | (go_at_call 66; (with_reducible refine (CA.out _ _ VA (List.Mem.tail _ (List.Mem.tail _ (List.Mem.tail _ (List.Mem.head _)))) (List.Mem.head _)).mono ?_); rintro e wb ⟨fx, rfl, VB⟩; skip)))
  all_goals
   go_wp2_with fail
   go_meet
   exact ⟨fm, fo, fa, fl, fx, rfl, VB⟩
 case rest =>
  clear V5 CS CM CO C1 CF CA
  obtain ⟨fm, fo, fa, fl, fx, rfl, V5⟩ := hcut
  have V6 := DRW V5
  clear V5
  go_wp2_with fail
  go_cut [8] (fun v wx => ∃ (fy : Nat) (fs : List (Nat × (Env -> Bool))), v = .int .i64 (fy : Int) ∧ V0 (0 + 44 + (0 + 44 + gO) + g1 + gF + gA1 + gA2 + g2 + 44 + gA3) ((fy, (fun x => φc x && (phi z 65535 255 255) x)) :: fs) [] wx ∧ (f1, φ1) ∈ fs)
  case first =>
   have V6a : V0 (0 + 44 + (0 + 44 + gO) + g1 + gF + gA1) [(fx, (fun x => (phi zb 65535 255 255) x && flF φa x)), (fl, flF φa), (fa, φa), (fo, (fun x => φ0 x && phi 65535 z 255 255 x)), (fm, (phi zb 65535 255 255)), (f0, φ0), (f1, φ1)] [(wc.heap.size, #[.int .i64 ad], 3)] (wc.alloc (.cells #[.int .i64 ad] 3)).drew := ALB V6
   go_region_held3 (fun W => (W.cell? ⟨w.heap.size, 0, none⟩ = some (.string nm) ∧ W.cell? ⟨w.heap.size, 1, none⟩ = some (.int .i64 kd) ∧ W.cell? ⟨w.heap.size, 2, none⟩ = some (.int .i64 ad) ∧ W.cell? ⟨w.heap.size, 3, none⟩ = some (.int .u8 pl) ∧ W.cell? ⟨w.heap.size, 4, none⟩ = some (.slice Ab nb cb) ∧ W.cell? ⟨w.heap.size, 5, none⟩ = some (.slice A n cap) ∧ W.cell? ⟨w.heap.size, 6, none⟩ = some (.slice At nt ct)) ∧ (W.cell? ⟨w.heap.size + 1, 0, none⟩ = some (.int .i64 (f0 : Int)) ∧ W.cell? ⟨w.heap.size + 1, 1, none⟩ = some (.int .i64 (f1 : Int)) ∧ W.cell? ⟨w.heap.size + 1, 2, none⟩ = some (.int .i64 (f2 : Int)) ∧ W.cell? ⟨w.heap.size + 1, 3, none⟩ = some (.int .i64 (f3 : Int)))) (first | exact HC.out (by assumption) | exact HC.out (ALB (by assumption)))
    ((first
      | (go_at_call 66; (with_reducible refine (CB.out _ _ V6 (List.Mem.tail _ (List.Mem.tail _ (List.Mem.tail _ (List.Mem.tail _ (List.Mem.tail _ (List.Mem.tail _ (List.Mem.head _))))))) (List.Mem.head _)).mono ?_); rintro e w7 ⟨fc, rfl, V7⟩; skip)
      | (go_at_call 66; (with_reducible refine (CB.out _ _ V6a (List.Mem.tail _ (List.Mem.tail _ (List.Mem.tail _ (List.Mem.tail _ (List.Mem.tail _ (List.Mem.tail _ (List.Mem.head _))))))) (List.Mem.head _)).mono ?_); rintro e w7 ⟨fc, rfl, V7a⟩; skip)
      | (go_at_call 145; (with_reducible refine (C2.out _ V7a (List.Mem.head _)).mono ?_); rintro e w8 ⟨fd, rfl, V8a⟩; skip)
      | (go_at_call 145; (with_reducible refine (C2.out _ (ALB V7) (List.Mem.head _)).mono ?_); rintro e w8 ⟨fd, rfl, V8a⟩; skip)
      | (go_at_call 145; (with_reducible refine (C2.out _ V7 (List.Mem.head _)).mono ?_); rintro e w8 ⟨fd, rfl, V8⟩; skip)
      | (go_at_call 53; (with_reducible refine (CI.out V8a).mono ?_); rintro e w9 ⟨rfl, V9⟩; skip)
      | (go_at_call 53; (with_reducible refine (CI.out (ALB V8)).mono ?_); rintro e w9 ⟨rfl, V9⟩; skip)
      | (go_at_call 68; (with_reducible refine (CN.out V9).mono ?_); rintro e wa ⟨fe, rfl, VA⟩; skip)
      | (go_at_call 66; (with_reducible refine (CE.out _ _ VA (List.Mem.tail _ (List.Mem.head _)) (List.Mem.head _)).mono ?_); rintro e wb ⟨fg, rfl, VB⟩; skip)))
   all_goals
    go_wp2_with fail
    go_meet
    exact ⟨fg, _, rfl, NB VB, (List.Mem.tail _ (List.Mem.tail _ (List.Mem.tail _ (List.Mem.tail _ (List.Mem.tail _ (List.Mem.tail _ (List.Mem.tail _ (List.Mem.tail _ (List.Mem.tail _ (List.Mem.head _))))))))))⟩
  case rest =>
   clear V6 CB C2 CN CE CI
   obtain ⟨fy, fs, rfl, V7, m7⟩ := hcut
   obtain ⟨⟨d0, d1, d2, d3, d4, d5, d6⟩, e0, e1, e2, e3⟩ := HC.out V7
   go_wp2_with fail
   with_reducible refine (CR.out _ _ V7 (List.Mem.tail _ m7) (List.Mem.head _)).mono ?_
   rintro e w8 ⟨fz, rfl, V8⟩
   have FF := FIN.out _ V8 (List.Mem.head _)
   clear HC CR FIN V8 V7 d0 d1 d2 d3 d4 d5 d6 e0 e1 e2 e3
   go_wp2_with fail
   go_ret
   exact FF
end
def sentB (xs : List Rt) (q : Int) (i : Nat) : Bool := outB xs (i : Int) && (outN xs (i : Int) == q)
theorem or_u16 (z c : Nat) (hz : z < 65536) (hc : c < 16) : Go.bits .or .u16 (z : Int) (IntKind.u16.wrap (2 ^ c)) = ((z ||| 2 ^ c : Nat) : Int) ∧ z ||| 2 ^ c < 65536 := by
 have hp : 2 ^ c < 65536 := Nat.pow_lt_pow_right (a := 2) (by omega) (show c < 16 by omega)
 have hlt : z ||| 2 ^ c < 65536 := Nat.or_lt_two_pow (n := 16) hz hp
 have e0 : IntKind.u16.wrap (2 ^ c) = ((2 ^ c : Nat) : Int) := by
  have e : (2 : Int) ^ c = ((2 ^ c : Nat) : Int) := by simp
  rw [e]
  exact IntWalk.u16_in _ ⟨Int.natCast_nonneg _, by have := Int.ofNat_lt.2 hp; omega⟩
 refine ⟨?_, hlt⟩
 rw [e0]
 generalize 2 ^ c = p at *
 have e1 : BitVec.ofInt 16 (z : Int) = BitVec.ofNat 16 z := by simp
 have e2 : BitVec.ofInt 16 (p : Int) = BitVec.ofNat 16 p := by simp
 have hm : (BitVec.ofNat 16 z ||| BitVec.ofNat 16 p).toNat = z ||| p := by
  simp [BitVec.toNat_or, Nat.mod_eq_of_lt hz, Nat.mod_eq_of_lt hp]
 show IntKind.u16.wrap ((BitVec.ofInt 16 (z : Int) ||| BitVec.ofInt 16 (p : Int)).toNat : Int) = _
 rw [e1, e2, hm]
 exact IntWalk.u16_in _ (by omega)
theorem sent_any {v : Value} {xs : List Rt} (q : Int) (w : World) (h : Hid (Routes w.heap.size w v xs)) :
  Calls Tryz.prog 179 #[v, .int .i64 q] w fun e w' => ∃ s : Nat, e = .returned (.int .u16 (s : Int)) ∧ s < 65536 ∧ Hid (∀ i, i < 16 -> s.testBit i = sentB xs q i) ∧ Below w.heap.size w w' := by
 go_enter Tryz.func179, Tryz.ntmps179
 go_wp2_with fail
 go_loopw [5, 9] (fun s i wr => ∃ c z : Nat, i = .int .i64 (c : Int) ∧ s = .int .u16 (z : Int) ∧ c <= 16 ∧ z < 65536 ∧ Below w.heap.size w wr ∧ Hid (∀ i, z.testBit i = (decide (i < c) && sentB xs q i))) (fun _ i _ => 16 - (intOf i).toNat)
 case atStart => exact ⟨0, 0, rfl, rfl, by omega, by omega, Below.refl _ _, fun i => by simp⟩
 case round =>
  obtain ⟨c, z, rfl, rfl, hc, hz, D1, hb⟩ := hrel
  by_cases hlt : c < 16
  ·have OU : Hid (Calls Tryz.prog 151 #[v, .int .i64 (c : Int)] wr fun e w'' => e = .returned (.tuple #[.int .i64 (outN xs (c : Int)), .bool (outB xs (c : Int))]) ∧ Below wr.heap.size wr w'') := out_any (c : Int) wr ((h.out.below D1).mono D1.size)
   have HS : Hid (sentB xs q c = (outB xs (c : Int) && (outN xs (c : Int) == q))) := rfl
   obtain ⟨o1, o2⟩ := or_u16 z c hz hlt
   have NO : Hid (sentB xs q c = false -> ∀ i, z.testBit i = (decide (i < c + 1) && sentB xs q i)) := fun hn i => by
    rw [hb.out i]
    by_cases hi : i = c
    ·subst hi
     rw [hn]
     simp
    ·congr 1
     rw [decide_eq_decide]
     omega
   have YES : Hid (sentB xs q c = true -> ∀ i, (z ||| 2 ^ c).testBit i = (decide (i < c + 1) && sentB xs q i)) := fun hy i => by
    rw [Nat.testBit_or, hb.out i, Nat.testBit_two_pow]
    by_cases hi : i = c
    ·subst hi
     rw [hy]
     simp
    ·have e1 : decide (i < c + 1) = decide (i < c) := by rw [decide_eq_decide]; omega
     have e2 : decide (c = i) = false := by simp; omega
     rw [e1, e2, Bool.or_false]
   clear hb
   generalize outN xs (c : Int) = n0 at *
   generalize outB xs (c : Int) = k0 at *
   go_wp2_with fail
   refine OU.out.mono ?_
   rintro e w2 ⟨rfl, hb2⟩
   have D2 := chn hb2 D1
   clear OU hb2 D1
   cases k0
   ·have NO' : Hid (∀ i, z.testBit i = (decide (i < c + 1) && sentB xs q i)) := NO.out (by rw [HS.out]; rfl)
    clear NO YES HS o1 o2
    go_wp2_with fail
    go_roundw
    case rel => exact ⟨c + 1, z, by go_num, rfl, by omega, hz, D2, NO'⟩
    case measure => simp [intOf]; omega
   ·cases hq : (n0 == q)
    ·have NO' : Hid (∀ i, z.testBit i = (decide (i < c + 1) && sentB xs q i)) := NO.out (by rw [HS.out, hq]; rfl)
     clear NO YES HS o1 o2
     go_wp2_with fail
     go_roundw
     case rel => exact ⟨c + 1, z, by go_num, rfl, by omega, hz, D2, NO'⟩
     case measure => simp [intOf]; omega
    ·have YES' : Hid (∀ i, (z ||| 2 ^ c).testBit i = (decide (i < c + 1) && sentB xs q i)) := YES.out (by rw [HS.out, hq]; rfl)
     have O1 : Hid (Go.bits .or .u16 (z : Int) (IntKind.u16.wrap (2 ^ c)) = ((z ||| 2 ^ c : Nat) : Int)) := o1
     clear NO YES HS o1
     go_wp2_with fail
     go_roundw
     case rel => exact ⟨c + 1, z ||| 2 ^ c, by go_num, congrArg (Value.int .u16) O1.out, by omega, o2, D2, YES'⟩
     case measure => simp [intOf]; omega
  ·obtain rfl : c = 16 := by omega
   have fin : Hid (∀ i, i < 16 -> z.testBit i = sentB xs q i) := fun i hi => by
    rw [hb.out i, decide_eq_true hi]
    rfl
   clear hb
   go_wp2_with fail
   go_ret
   exact ⟨z, rfl, hz, fin, D1⟩
theorem four_set (w : World) (n : Nat) (x : Value) (a b c d : Value) (h : Four w n a b c d) : (w.setCell ⟨n, 1, none⟩ x).cell? ⟨n, 0, none⟩ = some a ∧ (w.setCell ⟨n, 1, none⟩ x).cell? ⟨n, 1, none⟩ = some x ∧ (w.setCell ⟨n, 1, none⟩ x).cell? ⟨n, 2, none⟩ = some c ∧ (w.setCell ⟨n, 1, none⟩ x).cell? ⟨n, 3, none⟩ = some d := by
 obtain ⟨h0, h1, h2, h3, h4⟩ := h
 refine ⟨?_, ?_, ?_, ?_⟩ <;> simp [go_sem, h1, h2, h3, h4]
section
variable {base a M : Nat} {w : World} {ns : List Nd}
theorem fbuild_ok (h : Ar base a M 14 40000 w ns) {v : Value} {xs : List Rt} (q : Int) (hR : Hid (Routes w.heap.size w v xs)) (hc : checkV xs = 0) :
  Calls Tryz.prog 167 #[.pointer (some ⟨a, 0, none⟩), v, .int .i64 q] w fun e w' => ∃ s : Nat, (s < 65536 ∧ Hid (∀ i, i < 16 -> s.testBit i = sentB xs q i)) ∧ MkPost base a M 14 40000 w ns 44 0 (phi 65535 s 255 255) e w' := by
 have CK : Hid (Calls Tryz.prog 79 #[v] w fun e w'' => e = .returned (.int .i64 0) ∧ Below w.heap.size w w'') := by
  have := check_any w hR.out
  rw [hc] at this
  exact this
 clear hc
 go_enter Tryz.func167, Tryz.ntmps167
 go_wp2_with fail
 refine CK.out.mono ?_
 rintro e w1 ⟨rfl, D1⟩
 clear CK
 go_wp2_with fail
 refine (all_any _).mono ?_
 rintro e w2 ⟨rfl, hb2⟩
 have D2 := chn hb2 D1
 have D3 := Below.al D2 (.cells #[.int .u16 65535, .int .u16 65535, .int .u8 255, .int .u8 255] 50)
 have F3 := four_new w2 (.int .u16 65535) (.int .u16 65535) (.int .u8 255) (.int .u8 255) 50
 have fz3 : (w2.alloc (.cells #[.int .u16 65535, .int .u16 65535, .int .u8 255, .int .u8 255] 50)).frozen? ⟨w2.heap.size, 1, none⟩ = false := by simp [go_sem]
 have z2 := D2.size
 have SE : Hid (Calls Tryz.prog 179 #[v, .int .i64 q] (w2.alloc (.cells #[.int .u16 65535, .int .u16 65535, .int .u8 255, .int .u8 255] 50)) fun e w' => ∃ s : Nat, e = .returned (.int .u16 (s : Int)) ∧ s < 65536 ∧ Hid (∀ i, i < 16 -> s.testBit i = sentB xs q i) ∧ Below (w2.alloc (.cells #[.int .u16 65535, .int .u16 65535, .int .u8 255, .int .u8 255] 50)).heap.size (w2.alloc (.cells #[.int .u16 65535, .int .u16 65535, .int .u8 255, .int .u8 255] 50)) w') := sent_any q _ ((hR.out.below D3).mono D3.size)
 clear hb2 D1 D2 hR
 go_wp2_with fail
 refine SE.out.mono ?_
 rintro e w4 ⟨s, rfl, hs, hbits, hb4⟩
 have D4 := chn hb4 D3
 have F4 := keepFour hb4 F3
 have fz4 : w4.frozen? ⟨w2.heap.size, 1, none⟩ = false := (hb4.frozen (p := ⟨w2.heap.size, 1, none⟩) (by simp)).trans fz3
 have F5 := four_set w4 w2.heap.size (.int .u16 (s : Int)) _ _ _ _ F4
 have D5 := D4.setCell (p := ⟨w2.heap.size, 1, none⟩) z2 (.int .u16 (s : Int))
 have A5 := h.below D5
 have K5 := h.kbelow D5
 obtain ⟨_, x0, x1, x2, x3⟩ := id F4
 obtain ⟨y0, y1, y2, y3⟩ := F5
 have BM : Hid (Calls Tryz.prog 52 #[.pointer (some ⟨a, 0, none⟩), mt 65535 s 255 255] (w4.setCell ⟨w2.heap.size, 1, none⟩ (.int .u16 (s : Int))) (MkPost base a M 14 40000 (w4.setCell ⟨w2.heap.size, 1, none⟩ (.int .u16 (s : Int))) ns 44 0 (phi 65535 s 255 255))) := build_match A5 (Nat.le_refl _) 65535 s 255 255 (by omega) hs (by omega) (by omega)
 clear SE F3 fz3 D3 hb4 D4 A5 D5
 go_wp2_with fail
 refine BM.out.mono ?_
 rintro e w6 hp
 obtain ⟨ns6, v6, er6, rfl, A6, K6, X6, l6, d6⟩ := hp.pair
 have fin : Hid (MkPost base a M 14 40000 w ns 44 0 (phi 65535 s 255 255) (.returned (.tuple #[.int .i64 v6, .int .i64 er6])) w6) := by
  refine ⟨ns6, A6, K5.trans K6, X6, l6, ?_⟩
  rcases d6.out with ⟨rfl, f, rfl, r⟩ | ⟨rfl, rfl, r⟩
  ·exact Or.inl ⟨f, rfl, r⟩
  ·exact Or.inr ⟨rfl, r⟩
 clear BM hp d6 A6 K6 K5 X6 y0 y1 y2 y3 x0 x1 x2 x3 F4 h
 go_wp2_with fail
 go_ret2
 exact ⟨s, ⟨hs, hbits⟩, fin.out⟩
end
def sentN (xs : List Rt) (q : Int) : Nat -> Nat
 | 0 => 0
 | c + 1 => if sentB xs q c then sentN xs q c ||| 2 ^ c else sentN xs q c
theorem sentN_bit (xs : List Rt) (q : Int) : ∀ (c i : Nat), (sentN xs q c).testBit i = (decide (i < c) && sentB xs q i)
 | 0, i => by simp [sentN]
 | c + 1, i => by
   unfold sentN
   cases hs : sentB xs q c
   ·rw [if_neg (by simp), sentN_bit xs q c i]
    by_cases hi : i = c
    ·subst hi
     rw [hs]
     simp
    ·congr 1
     rw [decide_eq_decide]
     omega
   ·rw [if_pos rfl, Nat.testBit_or, sentN_bit xs q c i, Nat.testBit_two_pow]
    by_cases hi : i = c
    ·subst hi
     rw [hs]
     simp
    ·have e1 : decide (i < c + 1) = decide (i < c) := by rw [decide_eq_decide]; omega
     have e2 : decide (c = i) = false := by simp; omega
     rw [e1, e2, Bool.or_false]
theorem sent_eq {xs : List Rt} {q : Int} {s : Nat} (hs : s < 65536) (hb : ∀ i, i < 16 -> s.testBit i = sentB xs q i) : s = sentN xs q 16 := Nat.eq_of_testBit_eq fun i => by
 rw [sentN_bit]
 by_cases hi : i < 16
 ·rw [hb i hi, decide_eq_true hi]
  rfl
 ·rw [decide_eq_false hi, Nat.testBit_lt_two_pow (Nat.lt_of_lt_of_le hs (Nat.pow_le_pow_right (n := 2) (by omega) (show 16 <= i by omega)))]
  rfl
section
variable {base q a M : Nat} {w0 w : World} {ns : List Nd} {er : Int}
theorem routes_w (h : Bn base q a M w0 w ns er) {A : Option Addr} {n cap : Nat} {pt : Int} {g0 : Nat} {χ : Env -> Bool} (OP : Hid (Calls Tryz.prog 167 #[.pointer (some ⟨a, 0, none⟩), .slice A n cap, .int .i64 pt] w (OPost base a M w ns g0 χ))) :
  Calls Tryz.prog 142 #[.pointer (some ⟨q, 0, none⟩), .slice A n cap, .int .i64 pt] w (BOut base q a M w0 w ns er g0 χ) := by
 have c0 := h.blk.cell 0 _ rfl
 go_enter Tryz.func142, Tryz.ntmps142
 go_wp2_with fail
 refine OP.out.mono ?_
 rintro e w1 ⟨ns1, v, e2, rfl, A1, k1, X1, l1, hv⟩
 have KP := Hq.mk (keep_b (h.keep k1) v e2)
 have FN : Hq (∀ w2, w2 = (if er = 0 then w1.setCell ⟨q, 1, none⟩ (.int .i64 e2) else w1) -> BOut base q a M w0 w ns er g0 χ (.returned (.int .i64 v)) w2) := ⟨fun w2 hw => h.fin A1 k1 X1 l1 hv hw⟩
 clear c0 OP A1 k1 X1 l1 hv h
 go_wp2_with fail
 refine KP.out.mono ?_
 rintro e w2 ⟨rfl, hw⟩
 have F2 := FN.out w2 hw
 clear hw FN KP
 go_wp2_with fail
 go_ret
 exact F2
theorem routes_b (h : Bn base q a M w0 w ns er) (A : Option Addr) (n cap : Nat) (xs : List Rt) (pt : Int) (hR : Routes w.heap.size w (.slice A n cap) xs) (hc : checkV xs = 0) :
  Calls Tryz.prog 142 #[.pointer (some ⟨q, 0, none⟩), .slice A n cap, .int .i64 pt] w (BOut base q a M w0 w ns er 44 (phi 65535 (sentN xs pt 16) 255 255)) :=
 routes_w h (OP := (fbuild_ok h.ar pt hR hc).mono fun _ _ ⟨s, ⟨h1, h2⟩, hp⟩ => by
  rw [sent_eq h1 h2.out] at hp
  exact hp.o)
end
end Go.Proofs.YtlmmeppifkigeaaGreat
