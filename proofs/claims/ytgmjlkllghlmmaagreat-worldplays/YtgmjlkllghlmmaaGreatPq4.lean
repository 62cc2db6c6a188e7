/-
  StepPlays: the mind's Handle, where there is no such place, or the packet is none.
-/
import Derived.Test.YtgmjlkllghlmmaaGreatGF
import Derived.Deep.RegionHeld3
namespace Go.Proofs.YtgmjlkllghlmmaaGreat
open Go.RowKit Go.Maps

set_option maxHeartbeats 8000000 in
set_option maxRecDepth 100000 in
theorem mhandle_none {g : Nat} {A L : Option Addr} {c d : Nat} {F : Option Addr} {cF : Nat} {ds : List Dv} {ls : List Lk} {FL : List Ft} (i q : Int) (p : Pk) (ch : Int) (w : World) (h : Hid (MnAt w g A L c d F cF ds ls FL)) (hpl : isPl ds i q = false) :
    Calls Tryz.prog 8 #[.pointer (some ⟨g, 0, none⟩), plA i q, pkV p, .int .i64 ch] w fun e w' => e = .returned (.tuple #[arV (0, 0) zeroP, .int .i64 4]) ∧ MOut w g A L c d F ds ls FL w' := by
  have hln := h.out.devs.len
  have hm : ds.length ≤ maxLen := Nat.le_trans hln.2.1 hln.2.2
  unfold maxLen at hm
  have hG := h.out.blk.lt
  have M4 := (((h.out.alloc (.cells #[.int .i64 i, .int .i64 q] 37)).alloc (pkC p)).alloc (.cells #[.int .i64 ch] 3)).alloc (.cells #[.int .i64 0, .int .i64 0, .int .i64 0, .int .i64 0, .int .i64 0, .int .i64 0] 43)
  have D4 := Below.alN (Below.alN (Below.alN (Below.alN (Below.refl w.heap.size w) (.cells #[.int .i64 i, .int .i64 q] 37)) (pkC p)) (.cells #[.int .i64 ch] 3)) (.cells #[.int .i64 0, .int .i64 0, .int .i64 0, .int .i64 0, .int .i64 0, .int .i64 0] 43)
  have A4 := (((bk_new w #[.int .i64 i, .int .i64 q] 37).alloc (pkC p)).alloc (.cells #[.int .i64 ch] 3)).alloc (.cells #[.int .i64 0, .int .i64 0, .int .i64 0, .int .i64 0, .int .i64 0, .int .i64 0] 43)
  have P4 := ((bk_new' (w.alloc (.cells #[.int .i64 i, .int .i64 q] 37)) #[.int .i64 p.s, .int .i64 p.d, .int .i64 p.sp, .int .i64 p.dp] 39 (w.heap.size + 1) (by simp)).alloc (.cells #[.int .i64 ch] 3)).alloc (.cells #[.int .i64 0, .int .i64 0, .int .i64 0, .int .i64 0, .int .i64 0, .int .i64 0] 43)
  have C4 := (bk_new' ((w.alloc (.cells #[.int .i64 i, .int .i64 q] 37)).alloc (pkC p)) #[.int .i64 ch] 3 (w.heap.size + 1 + 1) (by simp)).alloc (.cells #[.int .i64 0, .int .i64 0, .int .i64 0, .int .i64 0, .int .i64 0, .int .i64 0] 43)
  have R4 := bk_new' (((w.alloc (.cells #[.int .i64 i, .int .i64 q] 37)).alloc (pkC p)).alloc (.cells #[.int .i64 ch] 3)) #[.int .i64 0, .int .i64 0, .int .i64 0, .int .i64 0, .int .i64 0, .int .i64 0] 43 (w.heap.size + 1 + 1 + 1) (by simp)
  by_cases hi : 0 ≤ i ∧ i < (ds.length : Int)
  rotate_left
  · have hw : IntKind.i64.wrap ((ds.length : Int) - 1) = (ds.length : Int) - 1 := IntWalk.i64_in _ (by omega)
    have I1 : Hid (∀ W, Calls Tryz.prog 23 #[.int .i64 i, .int .i64 0, .int .i64 ((ds.length : Int) - 1)] W fun e w' => e = .returned (.bool false) ∧ w' = W) := fun W => by
      have := finR i 0 ((ds.length : Int) - 1) W
      rw [show (decide (0 ≤ i) && decide (i ≤ (ds.length : Int) - 1)) = false by rw [Bool.and_eq_false_iff]; simp only [decide_eq_false_iff_not]; omega] at this
      exact this
    have g0 := M4.blk.at 0
    obtain ⟨a0, a1⟩ := A4.two
    obtain ⟨⟨l0, l1, l2, l3, l4, l5⟩, ⟨f0, f1, f2, f3, f4, f5⟩⟩ := R4.six
    have RR : Hid (Bk _ _ _ _) := R4
    have MM : Hid (MnAt _ _ _ _ _ _ _ _ _ _ _) := M4
    have DD : Hid (Below _ _ _) := D4
    clear hi hpl hln h M4 A4 P4 C4 R4 D4
    go_enter Tryz.func8, Tryz.ntmps8
    go_wp2_with fail
    go_quiet ((go_at_call 23; exact Calls.quiet_of_same (I1.out _)))
    go_wp2_with fail
    refine bodyPost_ret (v := .tuple #[arV (0, 0) zeroP, .int .i64 4]) (by simp [results, Tryz.results8, go_sem, l0, l1, l2, l3, l4, l5, zeroP]) rfl ⟨rfl, ?_⟩
    first
      | exact MOut.set6 (MOut.same (MM.out.drewN _) (belowNN DD.out _)) (RR.out.drewN _) hG (by omega) (by decide)
      | exact MOut.same (MM.out.drewN _) (belowNN DD.out _)
  obtain ⟨j, rfl⟩ : ∃ j : Nat, i = (j : Int) := ⟨i.toNat, by omega⟩
  have hj : j < ds.length := by omega
  obtain ⟨dv, hd⟩ : ∃ dv, ds[j]? = some dv := ⟨_, List.getElem?_eq_getElem hj⟩
  have hkd : kindAt ds (j : Int) = dv.kind := by
    unfold kindAt
    rw [Int.toNat_natCast, hd]
    rfl
  obtain ⟨b, o, vb, vr, vt, hA, hbl, s1, s2, s3, e0, e1, e2, e3, e4, e5, e6⟩ := M4.devs.at hd
  have k1 : (0 : Int) ≤ (j : Int) := by omega
  have k2 : (j : Int) < (ds.length : Int) := by omega
  have hw : IntKind.i64.wrap ((ds.length : Int) - 1) = (ds.length : Int) - 1 := IntWalk.i64_in _ (by omega)
  have hpo : 0 ≤ portsV dv.kind ∧ portsV dv.kind ≤ 4 := by unfold portsV; split <;> (try split) <;> (try split) <;> omega
  have hw2 : IntKind.i64.wrap (portsV dv.kind - 1) = portsV dv.kind - 1 := IntWalk.i64_in _ (by omega)
  have I1 : Hid (∀ W, Calls Tryz.prog 23 #[.int .i64 (j : Int), .int .i64 0, .int .i64 ((ds.length : Int) - 1)] W fun e w' => e = .returned (.bool true) ∧ w' = W) := fun W => by
    have := finR (j : Int) 0 ((ds.length : Int) - 1) W
    rw [show (decide (0 ≤ (j : Int)) && decide ((j : Int) ≤ (ds.length : Int) - 1)) = true by rw [Bool.and_eq_true]; simp only [decide_eq_true_eq]; omega] at this
    exact this
  have PO : Hid (∀ W, Calls Tryz.prog 25 #[.int .i64 dv.kind] W fun e w' => e = .returned (.int .i64 (portsV dv.kind)) ∧ Below W.heap.size W w') := fun W => rports_any dv.kind W
  have hq2 : (decide (0 ≤ q) && decide (q ≤ portsV dv.kind - 1)) = false := by
    unfold isPl at hpl
    rw [hkd] at hpl
    rw [Bool.and_eq_false_iff] at hpl ⊢
    simp only [Bool.and_eq_false_iff, decide_eq_false_iff_not] at hpl ⊢
    omega
  have hbw : b < ((((w.alloc (.cells #[.int .i64 (j : Int), .int .i64 q] 37)).alloc (pkC p)).alloc (.cells #[.int .i64 ch] 3)).alloc (.cells #[.int .i64 0, .int .i64 0, .int .i64 0, .int .i64 0, .int .i64 0, .int .i64 0] 43)).drew.heap.size := Nat.lt_trans hbl M4.blk.lt
  clear s1 s2 s3 e0 e2 e3 e4 e5 e6 hpl hkd hd hi hln h
  have I2 : Hid (∀ W, Calls Tryz.prog 23 #[.int .i64 q, .int .i64 0, .int .i64 (portsV dv.kind - 1)] W fun e w' => e = .returned (.bool false) ∧ w' = W) := fun W => by
    have := finR q 0 (portsV dv.kind - 1) W
    rw [hq2] at this
    exact this
  have g0 := M4.blk.at 0
  rw [hA] at g0
  have Q0 : ((((w.alloc (.cells #[.int .i64 (j : Int), .int .i64 q] 37)).alloc (pkC p)).alloc (.cells #[.int .i64 ch] 3)).alloc (.cells #[.int .i64 0, .int .i64 0, .int .i64 0, .int .i64 0, .int .i64 0, .int .i64 0] 43)).drew.cell? ⟨g, 0, none⟩ = some (.slice (some ⟨b, o, none⟩) ds.length c) := g0
  obtain ⟨a0, a1⟩ := A4.two
  have Q1 : ((((w.alloc (.cells #[.int .i64 (j : Int), .int .i64 q] 37)).alloc (pkC p)).alloc (.cells #[.int .i64 ch] 3)).alloc (.cells #[.int .i64 0, .int .i64 0, .int .i64 0, .int .i64 0, .int .i64 0, .int .i64 0] 43)).drew.cell? ⟨w.heap.size, 0, none⟩ = some (.int .i64 (j : Int)) := a0
  have Q2 : ((((w.alloc (.cells #[.int .i64 (j : Int), .int .i64 q] 37)).alloc (pkC p)).alloc (.cells #[.int .i64 ch] 3)).alloc (.cells #[.int .i64 0, .int .i64 0, .int .i64 0, .int .i64 0, .int .i64 0, .int .i64 0] 43)).drew.cell? ⟨w.heap.size, 1, none⟩ = some (.int .i64 q) := a1
  have Q3 : ((((w.alloc (.cells #[.int .i64 (j : Int), .int .i64 q] 37)).alloc (pkC p)).alloc (.cells #[.int .i64 ch] 3)).alloc (.cells #[.int .i64 0, .int .i64 0, .int .i64 0, .int .i64 0, .int .i64 0, .int .i64 0] 43)).drew.cell? ⟨b, o + j * 7 + 1, none⟩ = some (.int .i64 dv.kind) := e1
  go_enter Tryz.func8, Tryz.ntmps8
  go_wp2_with fail
  go_region_held3 (fun w' => w'.cell? ⟨g, 0, none⟩ = some (.slice (some ⟨b, o, none⟩) ds.length c) ∧ w'.cell? ⟨w.heap.size, 0, none⟩ = some (.int .i64 (j : Int)) ∧ w'.cell? ⟨w.heap.size, 1, none⟩ = some (.int .i64 q) ∧ w'.cell? ⟨b, o + j * 7 + 1, none⟩ = some (.int .i64 dv.kind)) (go_keep) (first | (go_at_call_of 23 (Value.int .i64 (j : Int)); refine (I1.out _).mono ?_; rintro e w' ⟨rfl, rfl⟩) | (go_at_call 25; refine (PO.out _).mono ?_; rintro e w5 ⟨rfl, hb5⟩; have D5 := chnN hb5 D4.drew; have M5 := M4.drew.below hb5; have A5 := A4.drew.keep hb5; have P5 := P4.drew.keep hb5; have C5 := C4.drew.keep hb5; have R5 := R4.drew.keep hb5; have gq0 := M5.blk.at 0; rw [hA] at gq0; obtain ⟨aq0, aq1⟩ := A5.two; have eq1 := (hb5.cell (p := ⟨b, o + j * 7 + 1, none⟩) hbw).trans Q3) | (go_at_call_of 23 (Value.int .i64 q); refine (I2.out _).mono ?_; rintro e w' ⟨rfl, hx⟩; obtain rfl := hx.symm))
  obtain ⟨⟨l0, l1, l2, l3, l4, l5⟩, ⟨f0, f1, f2, f3, f4, f5⟩⟩ := R5.six
  have z5 := R5.lt
  have MM : Hid (MnAt _ _ _ _ _ _ _ _ _ _ _) := M5
  have DD : Hid (Below _ _ _) := D5
  have RR : Hid (Bk _ _ _ _) := R5
  clear hb5 M4 A4 P4 C4 R4 D4 M5 A5 P5 C5 R5 D5 g0 a0 a1 e1 gq0 aq0 aq1 eq1 Q0 Q1 Q2 Q3
  go_wp2_with fail
  refine bodyPost_ret (v := .tuple #[arV (0, 0) zeroP, .int .i64 4]) (by simp [results, Tryz.results8, go_sem, l0, l1, l2, l3, l4, l5, zeroP]) rfl ⟨rfl, ?_⟩
  first
    | exact MOut.set6 (MOut.same MM.out DD.out) RR.out hG (by omega) (by decide)
    | exact MOut.same MM.out DD.out
set_option maxHeartbeats 8000000 in
set_option maxRecDepth 100000 in
theorem mhandle_bad {g : Nat} {A L : Option Addr} {c d : Nat} {F : Option Addr} {cF : Nat} {ds : List Dv} {ls : List Lk} {FL : List Ft} (i q : Int) (p : Pk) (ch : Int) (w : World) (h : Hid (MnAt w g A L c d F cF ds ls FL)) (hpl : isPl ds i q = true) (hpk : pkOk p = false) :
    Calls Tryz.prog 8 #[.pointer (some ⟨g, 0, none⟩), plA i q, pkV p, .int .i64 ch] w fun e w' => e = .returned (.tuple #[arV (0, 0) zeroP, .int .i64 1]) ∧ MOut w g A L c d F ds ls FL w' := by
  have hln := h.out.devs.len
  have hm : ds.length ≤ maxLen := Nat.le_trans hln.2.1 hln.2.2
  unfold maxLen at hm
  have hG := h.out.blk.lt
  have M4 := (((h.out.alloc (.cells #[.int .i64 i, .int .i64 q] 37)).alloc (pkC p)).alloc (.cells #[.int .i64 ch] 3)).alloc (.cells #[.int .i64 0, .int .i64 0, .int .i64 0, .int .i64 0, .int .i64 0, .int .i64 0] 43)
  have D4 := Below.alN (Below.alN (Below.alN (Below.alN (Below.refl w.heap.size w) (.cells #[.int .i64 i, .int .i64 q] 37)) (pkC p)) (.cells #[.int .i64 ch] 3)) (.cells #[.int .i64 0, .int .i64 0, .int .i64 0, .int .i64 0, .int .i64 0, .int .i64 0] 43)
  have A4 := (((bk_new w #[.int .i64 i, .int .i64 q] 37).alloc (pkC p)).alloc (.cells #[.int .i64 ch] 3)).alloc (.cells #[.int .i64 0, .int .i64 0, .int .i64 0, .int .i64 0, .int .i64 0, .int .i64 0] 43)
  have P4 := ((bk_new' (w.alloc (.cells #[.int .i64 i, .int .i64 q] 37)) #[.int .i64 p.s, .int .i64 p.d, .int .i64 p.sp, .int .i64 p.dp] 39 (w.heap.size + 1) (by simp)).alloc (.cells #[.int .i64 ch] 3)).alloc (.cells #[.int .i64 0, .int .i64 0, .int .i64 0, .int .i64 0, .int .i64 0, .int .i64 0] 43)
  have C4 := (bk_new' ((w.alloc (.cells #[.int .i64 i, .int .i64 q] 37)).alloc (pkC p)) #[.int .i64 ch] 3 (w.heap.size + 1 + 1) (by simp)).alloc (.cells #[.int .i64 0, .int .i64 0, .int .i64 0, .int .i64 0, .int .i64 0, .int .i64 0] 43)
  have R4 := bk_new' (((w.alloc (.cells #[.int .i64 i, .int .i64 q] 37)).alloc (pkC p)).alloc (.cells #[.int .i64 ch] 3)) #[.int .i64 0, .int .i64 0, .int .i64 0, .int .i64 0, .int .i64 0, .int .i64 0] 43 (w.heap.size + 1 + 1 + 1) (by simp)
  have hi : 0 ≤ i ∧ i < (ds.length : Int) := by
    unfold isPl at hpl
    simp only [Bool.and_eq_true, decide_eq_true_eq] at hpl
    omega
  obtain ⟨j, rfl⟩ : ∃ j : Nat, i = (j : Int) := ⟨i.toNat, by omega⟩
  have hj : j < ds.length := by omega
  obtain ⟨dv, hd⟩ : ∃ dv, ds[j]? = some dv := ⟨_, List.getElem?_eq_getElem hj⟩
  have hkd : kindAt ds (j : Int) = dv.kind := by
    unfold kindAt
    rw [Int.toNat_natCast, hd]
    rfl
  obtain ⟨b, o, vb, vr, vt, hA, hbl, s1, s2, s3, e0, e1, e2, e3, e4, e5, e6⟩ := M4.devs.at hd
  have k1 : (0 : Int) ≤ (j : Int) := by omega
  have k2 : (j : Int) < (ds.length : Int) := by omega
  have hw : IntKind.i64.wrap ((ds.length : Int) - 1) = (ds.length : Int) - 1 := IntWalk.i64_in _ (by omega)
  have hpo : 0 ≤ portsV dv.kind ∧ portsV dv.kind ≤ 4 := by unfold portsV; split <;> (try split) <;> (try split) <;> omega
  have hw2 : IntKind.i64.wrap (portsV dv.kind - 1) = portsV dv.kind - 1 := IntWalk.i64_in _ (by omega)
  have I1 : Hid (∀ W, Calls Tryz.prog 23 #[.int .i64 (j : Int), .int .i64 0, .int .i64 ((ds.length : Int) - 1)] W fun e w' => e = .returned (.bool true) ∧ w' = W) := fun W => by
    have := finR (j : Int) 0 ((ds.length : Int) - 1) W
    rw [show (decide (0 ≤ (j : Int)) && decide ((j : Int) ≤ (ds.length : Int) - 1)) = true by rw [Bool.and_eq_true]; simp only [decide_eq_true_eq]; omega] at this
    exact this
  have PO : Hid (∀ W, Calls Tryz.prog 25 #[.int .i64 dv.kind] W fun e w' => e = .returned (.int .i64 (portsV dv.kind)) ∧ Below W.heap.size W w') := fun W => rports_any dv.kind W
  have hq2 : (decide (0 ≤ q) && decide (q ≤ portsV dv.kind - 1)) = true := by
    unfold isPl at hpl
    rw [hkd] at hpl
    simp only [Bool.and_eq_true, decide_eq_true_eq] at hpl ⊢
    omega
  have hbw : b < ((((w.alloc (.cells #[.int .i64 (j : Int), .int .i64 q] 37)).alloc (pkC p)).alloc (.cells #[.int .i64 ch] 3)).alloc (.cells #[.int .i64 0, .int .i64 0, .int .i64 0, .int .i64 0, .int .i64 0, .int .i64 0] 43)).drew.heap.size := Nat.lt_trans hbl M4.blk.lt
  have RG : Hid (∀ W, Calls Tryz.prog 31 #[.agg #[.int .i64 p.s, .int .i64 p.d, .int .i64 p.sp, .int .i64 p.dp]] W fun e w' => e = .returned (.bool false) ∧ Below W.heap.size W w') := fun W => by
    have := right_M p W
    rw [hpk] at this
    exact this
  clear s1 s2 s3 e0 e2 e3 e4 e5 e6 hpl hkd hd hi hln h hpk
  have I2 : Hid (∀ W, Calls Tryz.prog 23 #[.int .i64 q, .int .i64 0, .int .i64 (portsV dv.kind - 1)] W fun e w' => e = .returned (.bool true) ∧ w' = W) := fun W => by
    have := finR q 0 (portsV dv.kind - 1) W
    rw [hq2] at this
    exact this
  have g0 := M4.blk.at 0
  rw [hA] at g0
  have Q0 : ((((w.alloc (.cells #[.int .i64 (j : Int), .int .i64 q] 37)).alloc (pkC p)).alloc (.cells #[.int .i64 ch] 3)).alloc (.cells #[.int .i64 0, .int .i64 0, .int .i64 0, .int .i64 0, .int .i64 0, .int .i64 0] 43)).drew.cell? ⟨g, 0, none⟩ = some (.slice (some ⟨b, o, none⟩) ds.length c) := g0
  obtain ⟨a0, a1⟩ := A4.two
  have Q1 : ((((w.alloc (.cells #[.int .i64 (j : Int), .int .i64 q] 37)).alloc (pkC p)).alloc (.cells #[.int .i64 ch] 3)).alloc (.cells #[.int .i64 0, .int .i64 0, .int .i64 0, .int .i64 0, .int .i64 0, .int .i64 0] 43)).drew.cell? ⟨w.heap.size, 0, none⟩ = some (.int .i64 (j : Int)) := a0
  have Q2 : ((((w.alloc (.cells #[.int .i64 (j : Int), .int .i64 q] 37)).alloc (pkC p)).alloc (.cells #[.int .i64 ch] 3)).alloc (.cells #[.int .i64 0, .int .i64 0, .int .i64 0, .int .i64 0, .int .i64 0, .int .i64 0] 43)).drew.cell? ⟨w.heap.size, 1, none⟩ = some (.int .i64 q) := a1
  have Q3 : ((((w.alloc (.cells #[.int .i64 (j : Int), .int .i64 q] 37)).alloc (pkC p)).alloc (.cells #[.int .i64 ch] 3)).alloc (.cells #[.int .i64 0, .int .i64 0, .int .i64 0, .int .i64 0, .int .i64 0, .int .i64 0] 43)).drew.cell? ⟨b, o + j * 7 + 1, none⟩ = some (.int .i64 dv.kind) := e1
  go_enter Tryz.func8, Tryz.ntmps8
  go_wp2_with fail
  go_region_held3 (fun w' => w'.cell? ⟨g, 0, none⟩ = some (.slice (some ⟨b, o, none⟩) ds.length c) ∧ w'.cell? ⟨w.heap.size, 0, none⟩ = some (.int .i64 (j : Int)) ∧ w'.cell? ⟨w.heap.size, 1, none⟩ = some (.int .i64 q) ∧ w'.cell? ⟨b, o + j * 7 + 1, none⟩ = some (.int .i64 dv.kind)) (go_keep) (first | (go_at_call_of 23 (Value.int .i64 (j : Int)); refine (I1.out _).mono ?_; rintro e w' ⟨rfl, rfl⟩) | (go_at_call 25; refine (PO.out _).mono ?_; rintro e w5 ⟨rfl, hb5⟩; have D5 := chnN hb5 D4.drew; have M5 := M4.drew.below hb5; have A5 := A4.drew.keep hb5; have P5 := P4.drew.keep hb5; have C5 := C4.drew.keep hb5; have R5 := R4.drew.keep hb5; have gq0 := M5.blk.at 0; rw [hA] at gq0; obtain ⟨aq0, aq1⟩ := A5.two; have eq1 := (hb5.cell (p := ⟨b, o + j * 7 + 1, none⟩) hbw).trans Q3) | (go_at_call_of 23 (Value.int .i64 q); refine (I2.out _).mono ?_; rintro e w' ⟨rfl, hx⟩; obtain rfl := hx.symm))
  obtain ⟨p0, p1, p2, p3, _⟩ := P5.four
  have MM : Hid (MnAt _ _ _ _ _ _ _ _ _ _ _) := M5
  have DD : Hid (Below _ _ _) := D5
  have RR : Hid (Bk _ _ _ _) := R5
  clear hb5 M4 A4 P4 C4 R4 D4 M5 A5 P5 C5 R5 D5 g0 a0 a1 e1 gq0 aq0 aq1 eq1 Q0 Q1 Q2 Q3
  go_wp2_with fail
  refine (RG.out _).mono ?_
  rintro e w6 ⟨rfl, hb6⟩
  have M6 : Hid (MnAt _ _ _ _ _ _ _ _ _ _ _) := MM.out.below hb6
  have D6 : Hid (Below _ _ _) := chnN hb6 DD.out
  have R6 := RR.out.keep hb6
  obtain ⟨⟨l0, l1, l2, l3, l4, l5⟩, ⟨f0, f1, f2, f3, f4, f5⟩⟩ := R6.six
  have z6 := R6.lt
  have RQ : Hid (Bk _ _ _ _) := R6
  clear hb6 MM DD RR R6 p0 p1 p2 p3
  go_wp2_with fail
  refine bodyPost_ret (v := .tuple #[arV (0, 0) zeroP, .int .i64 1]) (by simp [results, Tryz.results8, go_sem, l0, l1, l2, l3, l4, l5, zeroP]) rfl ⟨rfl, ?_⟩
  first
    | exact MOut.set6 (MOut.same M6.out D6.out) RQ.out hG (by omega) (by decide)
    | exact MOut.same M6.out D6.out
end Go.Proofs.YtgmjlkllghlmmaaGreat
