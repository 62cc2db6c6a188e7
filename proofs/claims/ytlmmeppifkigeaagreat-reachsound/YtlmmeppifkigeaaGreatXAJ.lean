/-
  XAJ.
-/
import Derived.Test.YtlmmeppifkigeaaGreatXAI
set_option maxHeartbeats 8000000
set_option maxRecDepth 100000
namespace Go.Proofs.YtlmmeppifkigeaaGreat
open Go.RowKit Go.Maps
theorem MemAt.final {w w9 wF : World} {m : Mp} {ds : List Dv} {ls : List Lk} {n n' : Nat} {M M' : Mnd} (hM : MemAt w m ds ls n M) (h9 : MemAt w9 m ds ls n' M') (hk : HK m w wF) (e1 : wF.heap[m.f]? = w9.heap[m.f]?) (e2 : wF.heap[m.o]? = w9.heap[m.o]?) (e3 : wF.heap[m.k]? = w9.heap[m.k]?) : MemAt wF m ds ls n' M' :=
 ⟨⟨((hM.ck hk).block _ hM.notMap hM.lt).trans hM.blk.1, hM.blk.2⟩, (hM.devs.ck (hM.ck hk)).mono hk.size, (hM.links.ck (hM.ck hk)).mono hk.size, h9.fl.same e1, h9.ow.same e2, h9.bk.same e3, hM.fo, hM.fk, hM.ok⟩
theorem HK.final {w w8 w9 wF : World} {m : Mp} {k : Nat} (h8 : Below w.heap.size w w8) (h9 : HK m w8 w9) (hk : w.heap.size <= k) (hF : ∀ b, b ≠ k -> wF.heap[b]? = w9.heap[b]?) (os : wF.os = w9.os) (tp : wF.tape = w9.tape) (ou : wF.output = w9.output) (sz : wF.heap.size = w9.heap.size) : HK m w wF :=
 ⟨os.trans (h9.os.trans h8.os), tp.trans (h9.tape.trans h8.tape), ou.trans (h9.output.trans h8.output), by rw [sz]; exact Nat.le_trans h8.size h9.size, fun b hb n1 n2 n3 => (hF b (by omega)).trans ((h9.block b (Nat.lt_of_lt_of_le hb h8.size) n1 n2 n3).trans (h8.block b hb))⟩
theorem hpost_bad {m : Mp} {ds : List Dv} {ls : List Lk} {n : Nat} {w w' : World} {M : Mnd} {h : HR} {er : Int} (hr : h = badH er M) (hM : MemAt w m ds ls n M) (hb : Below w.heap.size w w') : HPost m ds ls n w h (.returned (.tuple #[arV (0, 0) zeroP, .int .i64 er])) w' := by
 subst hr
 exact ⟨rfl, (hM.below hb).mono (Nat.le_succ _), HK.of_below hb⟩
theorem hpost_ok {m : Mp} {ds : List Dv} {ls : List Lk} {n : Nat} {w w8 w9 : World} {M M' : Mnd} {h : HR} {tp : Int × Int} {p : Pk} {k : Nat} (hr : h = ⟨0, tp, p, M'⟩) (hM : MemAt w m ds ls n M) (h8 : Below w.heap.size w w8) (hk9 : HK m w8 w9) (h9 : MemAt w9 m ds ls (n + 1) M') (hk : w.heap.size <= k) (u0 u1 u2 u3 u4 u5 : Value) :
  HPost m ds ls n w h (.returned (.tuple #[arV tp p, .int .i64 0])) ((((((w9.setCell ⟨k, 0, none⟩ u0).setCell ⟨k, 1, none⟩ u1).setCell ⟨k, 2, none⟩ u2).setCell ⟨k, 3, none⟩ u3).setCell ⟨k, 4, none⟩ u4).setCell ⟨k, 5, none⟩ u5) := by
 subst hr
 have hF := fun b hb => set6_block (w := w9) (k := k) (b := b) hb u0 u1 u2 u3 u4 u5
 have H := HK.final (wF := (((((w9.setCell ⟨k, 0, none⟩ u0).setCell ⟨k, 1, none⟩ u1).setCell ⟨k, 2, none⟩ u2).setCell ⟨k, 3, none⟩ u3).setCell ⟨k, 4, none⟩ u4).setCell ⟨k, 5, none⟩ u5) h8 hk9 hk hF (by simp only [World.setCell]) (by simp only [World.setCell]) (by simp only [World.setCell]) (by simp only [World.setCell, Array.size_modify])
 have l1 := hM.fl.lt
 have l2 := hM.ow.lt
 have l3 := hM.bk.lt
 exact ⟨rfl, hM.final h9 H (hF _ (by omega)) (hF _ (by omega)) (hF _ (by omega)), H⟩
theorem handle_none (m : Mp) (ds : List Dv) (ls : List Lk) (n : Nat) (M : Mnd) (i q : Int) (p : Pk) (c : Int) (h : HR) (w : World) (hM : Hid (MemAt w m ds ls n M)) (hpl : isPl ds i q = false) (HV : Hid (h = badH 4 M)) :
  Calls Tryz.prog 57 #[.pointer (some ⟨m.B, m.z, none⟩), plA i q, pkV p, .int .i64 c] w (HPost m ds ls n w h) := by
 have M2 := ((hM.out.alloc (.cells #[.int .i64 i, .int .i64 q] 43)).alloc (pkC p)).alloc (.cells #[.int .i64 0, .int .i64 0, .int .i64 0, .int .i64 0, .int .i64 0, .int .i64 0] 45)
 have D2 := Below.alN (Below.alN (Below.alN (Below.refl w.heap.size w) (.cells #[.int .i64 i, .int .i64 q] 43)) (pkC p)) (.cells #[.int .i64 0, .int .i64 0, .int .i64 0, .int .i64 0, .int .i64 0, .int .i64 0] 45)
 have A2 := ((bk_new w #[.int .i64 i, .int .i64 q] 43).alloc (pkC p)).alloc (.cells #[.int .i64 0, .int .i64 0, .int .i64 0, .int .i64 0, .int .i64 0, .int .i64 0] 45)
 have P2 := (bk_new' (w.alloc (.cells #[.int .i64 i, .int .i64 q] 43)) #[.int .i64 p.s, .int .i64 p.d, .int .i64 p.sp, .int .i64 p.dp] 36 (w.heap.size + 1) (by simp)).alloc (.cells #[.int .i64 0, .int .i64 0, .int .i64 0, .int .i64 0, .int .i64 0, .int .i64 0] 45)
 have R2 := bk_new' ((w.alloc (.cells #[.int .i64 i, .int .i64 q] 43)).alloc (pkC p)) #[.int .i64 0, .int .i64 0, .int .i64 0, .int .i64 0, .int .i64 0, .int .i64 0] 45 (w.heap.size + 1 + 1) (by simp)
 obtain ⟨q0, q1, _, _, _⟩ := M2.cells
 have Q0 : (((w.alloc (.cells #[.int .i64 i, .int .i64 q] 43)).alloc (pkC p)).alloc (.cells #[.int .i64 0, .int .i64 0, .int .i64 0, .int .i64 0, .int .i64 0, .int .i64 0] 45)).drew.cell? ⟨m.B, m.z, none⟩ = some (.slice m.A ds.length m.cap) := q0
 have Q1 : (((w.alloc (.cells #[.int .i64 i, .int .i64 q] 43)).alloc (pkC p)).alloc (.cells #[.int .i64 0, .int .i64 0, .int .i64 0, .int .i64 0, .int .i64 0, .int .i64 0] 45)).drew.cell? ⟨m.B, m.z + 1, none⟩ = some (.slice m.L ls.length m.cap') := q1
 obtain ⟨a0, a1⟩ := A2.two
 have HP : Hid (∀ W, MemAt W m ds ls n M -> Calls Tryz.prog 80 #[.agg #[.slice m.A ds.length m.cap, .slice m.L ls.length m.cap'], plA i q] W fun e w' => e = .returned (.bool (isPl ds i q)) ∧ Below W.heap.size W w') := fun W h => hasPlace_any _ _ _ _ _ _ _ W h.devs
 rw [hpl] at HP
 obtain ⟨s, dd, sp, dp⟩ := p
 simp only at *
 go_enter Tryz.func57, Tryz.ntmps57
 go_wp2_with fail
 go_region_held3 (fun w' => w'.cell? ⟨m.B, m.z, none⟩ = some (.slice m.A ds.length m.cap) ∧ w'.cell? ⟨m.B, m.z + 1, none⟩ = some (.slice m.L ls.length m.cap') ∧ w'.cell? ⟨w.heap.size, 0, none⟩ = some (.int .i64 i) ∧ w'.cell? ⟨w.heap.size, 1, none⟩ = some (.int .i64 q)) (go_keep) ((go_at_call 80; refine (HP.out _ M2.drew).mono ?_; rintro e w5 ⟨rfl, hb5⟩; have D5 := chnN hb5 D2.drew; have A5 := A2.drew.keep hb5; have P5 := P2.drew.keep hb5; have R5 := R2.drew.keep hb5; have M5 := M2.drew.below hb5; have g0 := (CK.of_below hb5).cell Q0; have g1 := (CK.of_below hb5).cell Q1; obtain ⟨g2, g3⟩ := A5.two))
 clear hb5 D2 A2 P2 R2 M2 q0 q1 Q0 Q1 a0 a1 HP g0 g1 g2 g3
 obtain ⟨⟨l0, l1, l2, l3, l4, l5⟩, ⟨f0, f1, f2, f3, f4, f5⟩⟩ := R5.six
 have z5 : w.heap.size + 1 + 1 < w5.heap.size := R5.lt
 go_wp2_with fail
 refine bodyPost_ret (v := .tuple #[arV (0, 0) zeroP, .int .i64 4]) (by simp [results, Tryz.results57, go_sem, l0, l1, l2, l3, l4, l5, zeroP]) rfl (hpost_bad HV.out hM.out (by go_grown))
theorem handle_bad (m : Mp) (ds : List Dv) (ls : List Lk) (n : Nat) (M : Mnd) (i q : Int) (p : Pk) (c : Int) (h : HR) (w : World) (hM : Hid (MemAt w m ds ls n M)) (hpl : isPl ds i q = true) (hpk : pkOk p = false) (HV : Hid (h = badH 1 M)) :
  Calls Tryz.prog 57 #[.pointer (some ⟨m.B, m.z, none⟩), plA i q, pkV p, .int .i64 c] w (HPost m ds ls n w h) := by
 have M2 := ((hM.out.alloc (.cells #[.int .i64 i, .int .i64 q] 43)).alloc (pkC p)).alloc (.cells #[.int .i64 0, .int .i64 0, .int .i64 0, .int .i64 0, .int .i64 0, .int .i64 0] 45)
 have D2 := Below.alN (Below.alN (Below.alN (Below.refl w.heap.size w) (.cells #[.int .i64 i, .int .i64 q] 43)) (pkC p)) (.cells #[.int .i64 0, .int .i64 0, .int .i64 0, .int .i64 0, .int .i64 0, .int .i64 0] 45)
 have A2 := ((bk_new w #[.int .i64 i, .int .i64 q] 43).alloc (pkC p)).alloc (.cells #[.int .i64 0, .int .i64 0, .int .i64 0, .int .i64 0, .int .i64 0, .int .i64 0] 45)
 have P2 := (bk_new' (w.alloc (.cells #[.int .i64 i, .int .i64 q] 43)) #[.int .i64 p.s, .int .i64 p.d, .int .i64 p.sp, .int .i64 p.dp] 36 (w.heap.size + 1) (by simp)).alloc (.cells #[.int .i64 0, .int .i64 0, .int .i64 0, .int .i64 0, .int .i64 0, .int .i64 0] 45)
 have R2 := bk_new' ((w.alloc (.cells #[.int .i64 i, .int .i64 q] 43)).alloc (pkC p)) #[.int .i64 0, .int .i64 0, .int .i64 0, .int .i64 0, .int .i64 0, .int .i64 0] 45 (w.heap.size + 1 + 1) (by simp)
 obtain ⟨q0, q1, _, _, _⟩ := M2.cells
 have Q0 : (((w.alloc (.cells #[.int .i64 i, .int .i64 q] 43)).alloc (pkC p)).alloc (.cells #[.int .i64 0, .int .i64 0, .int .i64 0, .int .i64 0, .int .i64 0, .int .i64 0] 45)).drew.cell? ⟨m.B, m.z, none⟩ = some (.slice m.A ds.length m.cap) := q0
 have Q1 : (((w.alloc (.cells #[.int .i64 i, .int .i64 q] 43)).alloc (pkC p)).alloc (.cells #[.int .i64 0, .int .i64 0, .int .i64 0, .int .i64 0, .int .i64 0, .int .i64 0] 45)).drew.cell? ⟨m.B, m.z + 1, none⟩ = some (.slice m.L ls.length m.cap') := q1
 obtain ⟨a0, a1⟩ := A2.two
 have HP : Hid (∀ W, MemAt W m ds ls n M -> Calls Tryz.prog 80 #[.agg #[.slice m.A ds.length m.cap, .slice m.L ls.length m.cap'], plA i q] W fun e w' => e = .returned (.bool (isPl ds i q)) ∧ Below W.heap.size W w') := fun W h => hasPlace_any _ _ _ _ _ _ _ W h.devs
 have PC : Hid (∀ W, Calls Tryz.prog 55 #[pkV p] W fun e w' => e = .returned (.int .i64 (if pkOk p then 0 else 1)) ∧ Below W.heap.size W w') := fun W => pcheck_any p W
 rw [hpl] at HP
 rw [hpk] at PC
 simp only [Bool.false_eq_true, if_false] at PC
 obtain ⟨s, dd, sp, dp⟩ := p
 simp only at *
 go_enter Tryz.func57, Tryz.ntmps57
 go_wp2_with fail
 go_region_held3 (fun w' => w'.cell? ⟨m.B, m.z, none⟩ = some (.slice m.A ds.length m.cap) ∧ w'.cell? ⟨m.B, m.z + 1, none⟩ = some (.slice m.L ls.length m.cap') ∧ w'.cell? ⟨w.heap.size, 0, none⟩ = some (.int .i64 i) ∧ w'.cell? ⟨w.heap.size, 1, none⟩ = some (.int .i64 q)) (go_keep) ((go_at_call 80; refine (HP.out _ M2.drew).mono ?_; rintro e w5 ⟨rfl, hb5⟩; have D5 := chnN hb5 D2.drew; have A5 := A2.drew.keep hb5; have P5 := P2.drew.keep hb5; have R5 := R2.drew.keep hb5; have M5 := M2.drew.below hb5; have g0 := (CK.of_below hb5).cell Q0; have g1 := (CK.of_below hb5).cell Q1; obtain ⟨g2, g3⟩ := A5.two))
 clear hb5 D2 A2 P2 R2 M2 q0 q1 Q0 Q1 a0 a1 HP g0 g1 g2 g3
 obtain ⟨⟨l0, l1, l2, l3, l4, l5⟩, ⟨f0, f1, f2, f3, f4, f5⟩⟩ := R5.six
 have z5 : w.heap.size + 1 + 1 < w5.heap.size := R5.lt
 obtain ⟨p0, p1, p2, p3, _⟩ := P5.four
 go_wp2_with fail
 refine (PC.out _).mono ?_
 rintro e w6 ⟨rfl, hb6⟩
 have D6 := chnN hb6 D5
 have A6 := A5.keep hb6
 have P6 := P5.keep hb6
 have R6 := R5.keep hb6
 have M6 := M5.below hb6
 clear hb6 D5 A5 P5 R5 M5 p0 p1 p2 p3 l0 l1 l2 l3 l4 l5 f0 f1 f2 f3 f4 f5 PC z5
 obtain ⟨⟨l0, l1, l2, l3, l4, l5⟩, ⟨f0, f1, f2, f3, f4, f5⟩⟩ := R6.six
 go_wp2_with fail
 refine bodyPost_ret (v := .tuple #[arV (0, 0) zeroP, .int .i64 1]) (by simp [results, Tryz.results57, go_sem, l0, l1, l2, l3, l4, l5, zeroP]) rfl (hpost_bad HV.out hM.out (by go_grown))
theorem handle_err (m : Mp) (ds : List Dv) (ls : List Lk) (n : Nat) (M : Mnd) (i q : Int) (p : Pk) (c : Int) (h : HR) (r : SR) (w : World) (hM : Hid (MemAt w m ds ls n M)) (hpl : isPl ds i q = true) (hpk : pkOk p = true) (hne : (r.err == 0) = false) (HV : Hid (h = badH r.err M))
  (SD : Hid (∀ W, MemAt W m ds ls n M -> Calls Tryz.prog 96 #[.pointer (some ⟨m.B, m.z, none⟩), plA i q, pkV p, .int .i64 c] W (SPost m W r))) :
  Calls Tryz.prog 57 #[.pointer (some ⟨m.B, m.z, none⟩), plA i q, pkV p, .int .i64 c] w (HPost m ds ls n w h) := by
 have M2 := ((hM.out.alloc (.cells #[.int .i64 i, .int .i64 q] 43)).alloc (pkC p)).alloc (.cells #[.int .i64 0, .int .i64 0, .int .i64 0, .int .i64 0, .int .i64 0, .int .i64 0] 45)
 have D2 := Below.alN (Below.alN (Below.alN (Below.refl w.heap.size w) (.cells #[.int .i64 i, .int .i64 q] 43)) (pkC p)) (.cells #[.int .i64 0, .int .i64 0, .int .i64 0, .int .i64 0, .int .i64 0, .int .i64 0] 45)
 have A2 := ((bk_new w #[.int .i64 i, .int .i64 q] 43).alloc (pkC p)).alloc (.cells #[.int .i64 0, .int .i64 0, .int .i64 0, .int .i64 0, .int .i64 0, .int .i64 0] 45)
 have P2 := (bk_new' (w.alloc (.cells #[.int .i64 i, .int .i64 q] 43)) #[.int .i64 p.s, .int .i64 p.d, .int .i64 p.sp, .int .i64 p.dp] 36 (w.heap.size + 1) (by simp)).alloc (.cells #[.int .i64 0, .int .i64 0, .int .i64 0, .int .i64 0, .int .i64 0, .int .i64 0] 45)
 have R2 := bk_new' ((w.alloc (.cells #[.int .i64 i, .int .i64 q] 43)).alloc (pkC p)) #[.int .i64 0, .int .i64 0, .int .i64 0, .int .i64 0, .int .i64 0, .int .i64 0] 45 (w.heap.size + 1 + 1) (by simp)
 obtain ⟨q0, q1, _, _, _⟩ := M2.cells
 have Q0 : (((w.alloc (.cells #[.int .i64 i, .int .i64 q] 43)).alloc (pkC p)).alloc (.cells #[.int .i64 0, .int .i64 0, .int .i64 0, .int .i64 0, .int .i64 0, .int .i64 0] 45)).drew.cell? ⟨m.B, m.z, none⟩ = some (.slice m.A ds.length m.cap) := q0
 have Q1 : (((w.alloc (.cells #[.int .i64 i, .int .i64 q] 43)).alloc (pkC p)).alloc (.cells #[.int .i64 0, .int .i64 0, .int .i64 0, .int .i64 0, .int .i64 0, .int .i64 0] 45)).drew.cell? ⟨m.B, m.z + 1, none⟩ = some (.slice m.L ls.length m.cap') := q1
 obtain ⟨a0, a1⟩ := A2.two
 have HP : Hid (∀ W, MemAt W m ds ls n M -> Calls Tryz.prog 80 #[.agg #[.slice m.A ds.length m.cap, .slice m.L ls.length m.cap'], plA i q] W fun e w' => e = .returned (.bool (isPl ds i q)) ∧ Below W.heap.size W w') := fun W h => hasPlace_any _ _ _ _ _ _ _ W h.devs
 have PC : Hid (∀ W, Calls Tryz.prog 55 #[pkV p] W fun e w' => e = .returned (.int .i64 (if pkOk p then 0 else 1)) ∧ Below W.heap.size W w') := fun W => pcheck_any p W
 rw [hpl] at HP
 rw [hpk] at PC
 simp only [if_true] at PC
 obtain ⟨s, dd, sp, dp⟩ := p
 simp only at *
 go_enter Tryz.func57, Tryz.ntmps57
 go_wp2_with fail
 go_region_held3 (fun w' => w'.cell? ⟨m.B, m.z, none⟩ = some (.slice m.A ds.length m.cap) ∧ w'.cell? ⟨m.B, m.z + 1, none⟩ = some (.slice m.L ls.length m.cap') ∧ w'.cell? ⟨w.heap.size, 0, none⟩ = some (.int .i64 i) ∧ w'.cell? ⟨w.heap.size, 1, none⟩ = some (.int .i64 q)) (go_keep) ((go_at_call 80; refine (HP.out _ M2.drew).mono ?_; rintro e w5 ⟨rfl, hb5⟩; have D5 := chnN hb5 D2.drew; have A5 := A2.drew.keep hb5; have P5 := P2.drew.keep hb5; have R5 := R2.drew.keep hb5; have M5 := M2.drew.below hb5; have g0 := (CK.of_below hb5).cell Q0; have g1 := (CK.of_below hb5).cell Q1; obtain ⟨g2, g3⟩ := A5.two))
 clear hb5 D2 A2 P2 R2 M2 q0 q1 Q0 Q1 a0 a1 HP g0 g1 g2 g3
 obtain ⟨⟨l0, l1, l2, l3, l4, l5⟩, ⟨f0, f1, f2, f3, f4, f5⟩⟩ := R5.six
 have z5 : w.heap.size + 1 + 1 < w5.heap.size := R5.lt
 obtain ⟨p0, p1, p2, p3, _⟩ := P5.four
 go_wp2_with fail
 refine (PC.out _).mono ?_
 rintro e w6 ⟨rfl, hb6⟩
 have D6 := chnN hb6 D5
 have A6 := A5.keep hb6
 have P6 := P5.keep hb6
 have R6 := R5.keep hb6
 have M6 := M5.below hb6
 clear hb6 D5 A5 P5 R5 M5 p0 p1 p2 p3 l0 l1 l2 l3 l4 l5 f0 f1 f2 f3 f4 f5 PC z5
 obtain ⟨⟨l0, l1, l2, l3, l4, l5⟩, ⟨f0, f1, f2, f3, f4, f5⟩⟩ := R6.six
 obtain ⟨p0, p1, p2, p3, _⟩ := P6.four
 obtain ⟨a0, a1⟩ := A6.two
 go_wp2_with fail
 refine (SD.out _ M6).mono ?_
 rintro e w7 ⟨q2, p9, fv, er, rfl, HQ, hb7⟩
 obtain ⟨he, hfv, _⟩ := HQ.out
 subst he
 have D7 := chnN hb7 D6
 have R7 := R6.keep hb7
 clear hb7 D6 A6 P6 R6 M6 p0 p1 p2 p3 a0 a1 l0 l1 l2 l3 l4 l5 f0 f1 f2 f3 f4 f5 SD HQ
 obtain ⟨ps, pd, psp, pdp⟩ := p9
 have z7 : w.heap.size + 1 + 1 < w7.heap.size := R7.lt
 generalize r.err = er at *
 rcases hfv with rfl | ⟨fn, cp, rfl⟩
 ·have D8 := Below.alN D7 (.cells #[.int .i64 q2, .int .i64 ps, .int .i64 pd, .int .i64 psp, .int .i64 pdp, .nilFunc] 190)
  have R8 := R7.alloc (.cells #[.int .i64 q2, .int .i64 ps, .int .i64 pd, .int .i64 psp, .int .i64 pdp, .nilFunc] 190)
  obtain ⟨⟨l0, l1, l2, l3, l4, l5⟩, ⟨f0, f1, f2, f3, f4, f5⟩⟩ := R8.six
  go_upto_region 8 with fail
  generalize hW : w7.alloc (.cells #[.int .i64 q2, .int .i64 ps, .int .i64 pd, .int .i64 psp, .int .i64 pdp, .nilFunc] 190) = w8 at *
  go_wp2_with fail
  refine bodyPost_ret (v := .tuple #[arV (0, 0) zeroP, .int .i64 er]) (by simp [results, Tryz.results57, go_sem, l0, l1, l2, l3, l4, l5, zeroP]) rfl (hpost_bad HV.out hM.out (by go_grown))
 ·have D8 := Below.alN D7 (.cells #[.int .i64 q2, .int .i64 ps, .int .i64 pd, .int .i64 psp, .int .i64 pdp, .func fn #[] cp] 190)
  have R8 := R7.alloc (.cells #[.int .i64 q2, .int .i64 ps, .int .i64 pd, .int .i64 psp, .int .i64 pdp, .func fn #[] cp] 190)
  obtain ⟨⟨l0, l1, l2, l3, l4, l5⟩, ⟨f0, f1, f2, f3, f4, f5⟩⟩ := R8.six
  go_upto_region 8 with fail
  generalize hW : w7.alloc (.cells #[.int .i64 q2, .int .i64 ps, .int .i64 pd, .int .i64 psp, .int .i64 pdp, .func fn #[] cp] 190) = w8 at *
  go_wp2_with fail
  refine bodyPost_ret (v := .tuple #[arV (0, 0) zeroP, .int .i64 er]) (by simp [results, Tryz.results57, go_sem, l0, l1, l2, l3, l4, l5, zeroP]) rfl (hpost_bad HV.out hM.out (by go_grown))
theorem peS {w' : World} {m : Mp} {ds : List Dv} {ls : List Lk} {n N O : Nat} {M : Mnd} {i q q2 : Int} {a b c d e : Value} (hM : MemAt w' m ds ls n M) (hA : Bk w' N #[.int .i64 i, .int .i64 q] 43) (hO : Bk w' O #[.int .i64 q2, a, b, c, d, e] 190) :
  w'.cell? ⟨m.B, m.z, none⟩ = some (.slice m.A ds.length m.cap) ∧ w'.cell? ⟨m.B, m.z + 1, none⟩ = some (.slice m.L ls.length m.cap') ∧ w'.cell? ⟨N, 0, none⟩ = some (.int .i64 i) ∧ w'.cell? ⟨O, 0, none⟩ = some (.int .i64 q2) := ⟨hM.cells.1, hM.cells.2.1, hA.at 0, hO.at 0⟩
theorem handle_no (m : Mp) (ds : List Dv) (ls : List Lk) (n : Nat) (M : Mnd) (i q : Int) (p : Pk) (c : Int) (h : HR) (q2 ps pd psp pdp : Int) (pv : Option (Int × Int)) (w : World) (hM : Hid (MemAt w m ds ls n M)) (_hn : n < maxLen) (hpl : isPl ds i q = true) (hpk : pkOk p = true)
  (SD : Hid (∀ W, MemAt W m ds ls n M -> Calls Tryz.prog 96 #[.pointer (some ⟨m.B, m.z, none⟩), plA i q, pkV p, .int .i64 c] W (SPost m W ⟨0, q2, ⟨ps, pd, psp, pdp⟩, .no⟩)))
  (PE : Hid (∀ W, MemAt W m ds ls n M -> Calls Tryz.prog 51 #[.agg #[.slice m.A ds.length m.cap, .slice m.L ls.length m.cap'], plA i q2] W fun e w' => e = .returned (.tuple #[placeV pv, .bool pv.isSome]) ∧ Below W.heap.size W w'))
  (HN : Hid (pv = none -> h = badH 7 M)) (HS : Hid (∀ t, pv = some t -> h = ⟨0, t, ⟨ps, pd, psp, pdp⟩, learnP M (.no)⟩)) :
  Calls Tryz.prog 57 #[.pointer (some ⟨m.B, m.z, none⟩), plA i q, pkV p, .int .i64 c] w (HPost m ds ls n w h) := by
 have M2 := ((hM.out.alloc (.cells #[.int .i64 i, .int .i64 q] 43)).alloc (pkC p)).alloc (.cells #[.int .i64 0, .int .i64 0, .int .i64 0, .int .i64 0, .int .i64 0, .int .i64 0] 45)
 have D2 := Below.alN (Below.alN (Below.alN (Below.refl w.heap.size w) (.cells #[.int .i64 i, .int .i64 q] 43)) (pkC p)) (.cells #[.int .i64 0, .int .i64 0, .int .i64 0, .int .i64 0, .int .i64 0, .int .i64 0] 45)
 have A2 := ((bk_new w #[.int .i64 i, .int .i64 q] 43).alloc (pkC p)).alloc (.cells #[.int .i64 0, .int .i64 0, .int .i64 0, .int .i64 0, .int .i64 0, .int .i64 0] 45)
 have P2 := (bk_new' (w.alloc (.cells #[.int .i64 i, .int .i64 q] 43)) #[.int .i64 p.s, .int .i64 p.d, .int .i64 p.sp, .int .i64 p.dp] 36 (w.heap.size + 1) (by simp)).alloc (.cells #[.int .i64 0, .int .i64 0, .int .i64 0, .int .i64 0, .int .i64 0, .int .i64 0] 45)
 have R2 := bk_new' ((w.alloc (.cells #[.int .i64 i, .int .i64 q] 43)).alloc (pkC p)) #[.int .i64 0, .int .i64 0, .int .i64 0, .int .i64 0, .int .i64 0, .int .i64 0] 45 (w.heap.size + 1 + 1) (by simp)
 obtain ⟨q0, q1, _, _, _⟩ := M2.cells
 have Q0 : (((w.alloc (.cells #[.int .i64 i, .int .i64 q] 43)).alloc (pkC p)).alloc (.cells #[.int .i64 0, .int .i64 0, .int .i64 0, .int .i64 0, .int .i64 0, .int .i64 0] 45)).drew.cell? ⟨m.B, m.z, none⟩ = some (.slice m.A ds.length m.cap) := q0
 have Q1 : (((w.alloc (.cells #[.int .i64 i, .int .i64 q] 43)).alloc (pkC p)).alloc (.cells #[.int .i64 0, .int .i64 0, .int .i64 0, .int .i64 0, .int .i64 0, .int .i64 0] 45)).drew.cell? ⟨m.B, m.z + 1, none⟩ = some (.slice m.L ls.length m.cap') := q1
 obtain ⟨a0, a1⟩ := A2.two
 have HP : Hid (∀ W, MemAt W m ds ls n M -> Calls Tryz.prog 80 #[.agg #[.slice m.A ds.length m.cap, .slice m.L ls.length m.cap'], plA i q] W fun e w' => e = .returned (.bool (isPl ds i q)) ∧ Below W.heap.size W w') := fun W h => hasPlace_any _ _ _ _ _ _ _ W h.devs
 have PC : Hid (∀ W, Calls Tryz.prog 55 #[pkV p] W fun e w' => e = .returned (.int .i64 (if pkOk p then 0 else 1)) ∧ Below W.heap.size W w') := fun W => pcheck_any p W
 rw [hpl] at HP
 rw [hpk] at PC
 simp only [if_true] at PC
 obtain ⟨tx, ty, ok, hpv, hok, HT, HF⟩ : ∃ (tx ty : Int) (ok : Bool), placeV pv = plA tx ty ∧ pv.isSome = ok ∧ Hid (ok = true -> h = ⟨0, (tx, ty), ⟨ps, pd, psp, pdp⟩, learnP M (.no)⟩) ∧ Hid (ok = false -> h = badH 7 M) := by
  cases pv with
  | none => exact ⟨0, 0, _, rfl, rfl, (fun e => by cases e), fun _ => HN.out rfl⟩
  | some z => exact ⟨z.1, z.2, _, rfl, rfl, fun _ => HS.out z rfl, (fun e => by cases e)⟩
 rw [hpv, hok] at PE
 clear hpv hok HN HS
 obtain ⟨s, dd, sp, dp⟩ := p
 simp only at *
 go_enter Tryz.func57, Tryz.ntmps57
 go_wp2_with fail
 go_region_held3 (fun w' => w'.cell? ⟨m.B, m.z, none⟩ = some (.slice m.A ds.length m.cap) ∧ w'.cell? ⟨m.B, m.z + 1, none⟩ = some (.slice m.L ls.length m.cap') ∧ w'.cell? ⟨w.heap.size, 0, none⟩ = some (.int .i64 i) ∧ w'.cell? ⟨w.heap.size, 1, none⟩ = some (.int .i64 q)) (go_keep) ((go_at_call 80; refine (HP.out _ M2.drew).mono ?_; rintro e w5 ⟨rfl, hb5⟩; have D5 := chnN hb5 D2.drew; have A5 := A2.drew.keep hb5; have P5 := P2.drew.keep hb5; have R5 := R2.drew.keep hb5; have M5 := M2.drew.below hb5; have g0 := (CK.of_below hb5).cell Q0; have g1 := (CK.of_below hb5).cell Q1; obtain ⟨g2, g3⟩ := A5.two))
 clear hb5 D2 A2 P2 R2 M2 q0 q1 Q0 Q1 a0 a1 HP g0 g1 g2 g3
 obtain ⟨⟨l0, l1, l2, l3, l4, l5⟩, ⟨f0, f1, f2, f3, f4, f5⟩⟩ := R5.six
 have z5 : w.heap.size + 1 + 1 < w5.heap.size := R5.lt
 obtain ⟨p0, p1, p2, p3, _⟩ := P5.four
 go_wp2_with fail
 refine (PC.out _).mono ?_
 rintro e w6 ⟨rfl, hb6⟩
 have D6 := chnN hb6 D5
 have A6 := A5.keep hb6
 have P6 := P5.keep hb6
 have R6 := R5.keep hb6
 have M6 := M5.below hb6
 clear hb6 D5 A5 P5 R5 M5 p0 p1 p2 p3 l0 l1 l2 l3 l4 l5 f0 f1 f2 f3 f4 f5 PC z5
 obtain ⟨⟨l0, l1, l2, l3, l4, l5⟩, ⟨f0, f1, f2, f3, f4, f5⟩⟩ := R6.six
 obtain ⟨p0, p1, p2, p3', _⟩ := P6.four
 obtain ⟨a0, a1⟩ := A6.two
 go_wp2_with fail
 refine (SD.out _ M6).mono ?_
 rintro e w7 ⟨q9, p9, fv, er, rfl, HQ, hb7⟩
 obtain ⟨he, _, hz⟩ := HQ.out
 obtain ⟨hq9, hp9, HL⟩ := hz rfl
 simp only at he hq9 hp9 HL
 have hq9' := hq9.symm
 subst he hq9' hp9
 have D7 := chnN hb7 D6
 have R7 := R6.keep hb7
 have A7 := A6.keep hb7
 have M7 := M6.below hb7
 clear hb7 D6 A6 P6 R6 M6 p0 p1 p2 p3' a0 a1 l0 l1 l2 l3 l4 l5 f0 f1 f2 f3 f4 f5 SD HQ hz
 have hfv : fv = .func (.func 173) #[] #[] := HL
 subst hfv
 have z7 : w.heap.size + 1 + 1 < w7.heap.size := R7.lt
 have D8 := Below.alN D7 (.cells #[.int .i64 q2, .int .i64 ps, .int .i64 pd, .int .i64 psp, .int .i64 pdp, .func (.func 173) #[] #[]] 190)
 have R8 := R7.alloc (.cells #[.int .i64 q2, .int .i64 ps, .int .i64 pd, .int .i64 psp, .int .i64 pdp, .func (.func 173) #[] #[]] 190)
 have A8 := A7.alloc (.cells #[.int .i64 q2, .int .i64 ps, .int .i64 pd, .int .i64 psp, .int .i64 pdp, .func (.func 173) #[] #[]] 190)
 have M8 := M7.alloc (.cells #[.int .i64 q2, .int .i64 ps, .int .i64 pd, .int .i64 psp, .int .i64 pdp, .func (.func 173) #[] #[]] 190)
 have HL8 := HL.below ((Below.refl _ w7).alloc (Nat.le_refl _) (.cells #[.int .i64 q2, .int .i64 ps, .int .i64 pd, .int .i64 psp, .int .i64 pdp, .func (.func 173) #[] #[]] 190))
 have O8 := bk_new w7 #[.int .i64 q2, .int .i64 ps, .int .i64 pd, .int .i64 psp, .int .i64 pdp, .func (.func 173) #[] #[]] 190
 clear D7 R7 A7 M7 HL
 go_upto_region 9 with fail
 generalize hON : w7.heap.size = on at *
 generalize hW : w7.alloc (.cells #[.int .i64 q2, .int .i64 ps, .int .i64 pd, .int .i64 psp, .int .i64 pdp, .func (.func 173) #[] #[]] 190) = w8 at *
 clear hON hW
 obtain ⟨g0, g1, g2, g3⟩ := peS M8 A8 O8
 have D8a := (Below.alN D8 (.cells #[.int .i64 0, .int .i64 0] 43)).drew
 have M8a := (M8.alloc (.cells #[.int .i64 0, .int .i64 0] 43)).drew
 have A8a := (A8.alloc (.cells #[.int .i64 0, .int .i64 0] 43)).drew
 have O8a := (O8.alloc (.cells #[.int .i64 0, .int .i64 0] 43)).drew
 have R8a := (R8.alloc (.cells #[.int .i64 0, .int .i64 0] 43)).drew
 have H8a := HL8.below ((Below.refl _ w8).alloc (Nat.le_refl _) (.cells #[.int .i64 0, .int .i64 0] 43)).drew
 have H8d := HL8.below (Below.refl _ w8).drew
 have M8d := M8.drew
 have A8d := A8.drew
 have O8d := O8.drew
 go_cut [13, 14] (fun v13 v14 wx => ∃ g, v13 = .pointer (some ⟨g, 0, none⟩) ∧ v14 = .bool ok ∧ Bk wx g #[.int .i64 tx, .int .i64 ty] 43 ∧ w.heap.size + 1 + 1 < g ∧ Bk wx on #[.int .i64 q2, .int .i64 ps, .int .i64 pd, .int .i64 psp, .int .i64 pdp, .func (.func 173) #[] #[]] 190 ∧ Bk wx (w.heap.size + 1 + 1) #[.int .i64 0, .int .i64 0, .int .i64 0, .int .i64 0, .int .i64 0, .int .i64 0] 45 ∧ MemAt wx m ds ls n M ∧ LrnAt w6.heap.size wx m (.func (.func 173) #[] #[]) (.no) ∧ Below w.heap.size w wx)
 case first =>
  have zz8 : w.heap.size + 1 + 1 < w8.heap.size := R8.lt
  go_region_held3 (fun w' => w'.cell? ⟨m.B, m.z, none⟩ = some (.slice m.A ds.length m.cap) ∧ w'.cell? ⟨m.B, m.z + 1, none⟩ = some (.slice m.L ls.length m.cap') ∧ w'.cell? ⟨w.heap.size, 0, none⟩ = some (.int .i64 i) ∧ w'.cell? ⟨on, 0, none⟩ = some (.int .i64 q2)) (first | exact peS (by first | assumption | exact MemAt.alloc (by assumption) _) (by first | assumption | exact Bk.alloc (by assumption) _) (by first | assumption | exact Bk.alloc (by assumption) _) | exact peS (M8.below ((E9.setCell (p := ⟨w8.heap.size, 0, none⟩) (Nat.le_refl _) _).setCell (p := ⟨w8.heap.size, 1, none⟩) (Nat.le_refl _) _)) (A8.keep ((E9.setCell (p := ⟨w8.heap.size, 0, none⟩) (Nat.le_refl _) _).setCell (p := ⟨w8.heap.size, 1, none⟩) (Nat.le_refl _) _)) (O8.keep ((E9.setCell (p := ⟨w8.heap.size, 0, none⟩) (Nat.le_refl _) _).setCell (p := ⟨w8.heap.size, 1, none⟩) (Nat.le_refl _) _))) (first | (go_at_call 51; refine (PE.out _ M8d).mono ?_; rintro e w9 ⟨rfl, hb9⟩; have D9 := chnN hb9 D8.drew; have M9 := M8d.below hb9; have A9 := A8d.keep hb9; have O9 := O8d.keep hb9; have R9 := R8.drew.keep hb9; have H9 := H8d.below hb9; have G9 := bk_new w9 #[.int .i64 tx, .int .i64 ty] 43) | (go_at_call 51; refine (PE.out _ M8a).mono ?_; rintro e w9 ⟨rfl, hb9⟩; have D9 := chnN hb9 D8a; have M9 := M8a.below hb9; have A9 := A8a.keep hb9; have O9 := O8a.keep hb9; have R9 := R8a.keep hb9; have H9 := H8a.below hb9; have G9 := (bk_new w8 #[.int .i64 0, .int .i64 0] 43).drew.keep hb9; have E9 := chnN hb9 ((Below.refl _ w8).alloc (Nat.le_refl _) (.cells #[.int .i64 0, .int .i64 0] 43)).drew; have gf0 := G9.fz 0; have gf1 := G9.fz 1; obtain ⟨gg0, gg1⟩ := G9.two))
  all_goals
   go_wp2_with fail
   go_meet
   first
    | exact ⟨_, rfl, rfl, G9, (by have := R9.lt; omega), O9.alloc _, R9.alloc _, M9.alloc _, H9.below ((Below.refl _ _).alloc (Nat.le_refl _) _), Below.alN D9 _⟩
    | exact ⟨_, rfl, rfl, (by have := (G9.setS (j := 0) (.int .i64 tx)).setS (j := 1) (.int .i64 ty); simpa using this), zz8, O8.keep ((E9.setCell (p := ⟨w8.heap.size, 0, none⟩) (Nat.le_refl _) _).setCell (p := ⟨w8.heap.size, 1, none⟩) (Nat.le_refl _) _), R8.keep ((E9.setCell (p := ⟨w8.heap.size, 0, none⟩) (Nat.le_refl _) _).setCell (p := ⟨w8.heap.size, 1, none⟩) (Nat.le_refl _) _), M8.below ((E9.setCell (p := ⟨w8.heap.size, 0, none⟩) (Nat.le_refl _) _).setCell (p := ⟨w8.heap.size, 1, none⟩) (Nat.le_refl _) _), HL8.below ((E9.setCell (p := ⟨w8.heap.size, 0, none⟩) (Nat.le_refl _) _).setCell (p := ⟨w8.heap.size, 1, none⟩) (Nat.le_refl _) _), chnN ((E9.setCell (p := ⟨w8.heap.size, 0, none⟩) (Nat.le_refl _) _).setCell (p := ⟨w8.heap.size, 1, none⟩) (Nat.le_refl _) _) D8⟩
 case rest =>
  clear D8 R8 A8 M8 HL8 O8 g0 g1 g2 g3 D8a M8a A8a O8a R8a H8a H8d M8d A8d O8d PE
  obtain ⟨g, rfl, rfl, G8, zg, O8, R8, M8, HL8, D8⟩ := hcut
  obtain ⟨⟨l0, l1, l2, l3, l4, l5⟩, ⟨f0, f1, f2, f3, f4, f5⟩⟩ := R8.six
  cases ok
  ·have HV : Hid (h = badH 7 M) := HF.out rfl
   go_wp2_with fail
   refine bodyPost_ret (v := .tuple #[arV (0, 0) zeroP, .int .i64 7]) (by simp [results, Tryz.results57, go_sem, l0, l1, l2, l3, l4, l5, zeroP]) rfl (hpost_bad HV.out hM.out (by go_grown))
  have HV := HT.out rfl
  obtain ⟨⟨o0, o1, o2, o3, o4, o5⟩, _⟩ := O8.six
  clear l0 l1 l2 l3 l4 l5 f0 f1 f2 f3 f4 f5
  go_wp2_with fail
  refine (pass1_any _).mono ?_
  rintro e w9 ⟨rfl, rfl⟩
  have M9 : MemAt w9 m ds ls (n + 1) (learnP M .no) := M8.mono (Nat.le_succ _)
  have K9 : HK m w9 w9 := HK.refl m w9
  have G9 := G8
  have O9 := O8
  have R9 := R8
  clear o0 o1 o2 o3 o4 o5
  obtain ⟨⟨o0, o1, o2, o3, o4, o5⟩, _⟩ := O9.six
  obtain ⟨⟨l0, l1, l2, l3, l4, l5⟩, ⟨f0, f1, f2, f3, f4, f5⟩⟩ := R9.six
  obtain ⟨gx, gy⟩ := G9.two
  go_wp2_with fail
  refine bodyPost_ret (v := .tuple #[arV (tx, ty) ⟨ps, pd, psp, pdp⟩, .int .i64 0]) (by simp [results, Tryz.results57, go_sem, l0, l1, l2, l3, l4, l5]) rfl (hpost_ok HV hM.out D8 K9 M9 (by omega) _ _ _ _ _ _)
theorem handle_flow (m : Mp) (ds : List Dv) (ls : List Lk) (n : Nat) (M : Mnd) (i q : Int) (p : Pk) (c : Int) (j : Int) (p3 : Pk) (h : HR) (q2 ps pd psp pdp : Int) (pv : Option (Int × Int)) (w : World) (hM : Hid (MemAt w m ds ls n M)) (hn : n < maxLen) (hpl : isPl ds i q = true) (hpk : pkOk p = true)
  (SD : Hid (∀ W, MemAt W m ds ls n M -> Calls Tryz.prog 96 #[.pointer (some ⟨m.B, m.z, none⟩), plA i q, pkV p, .int .i64 c] W (SPost m W ⟨0, q2, ⟨ps, pd, psp, pdp⟩, .flow j p3⟩)))
  (PE : Hid (∀ W, MemAt W m ds ls n M -> Calls Tryz.prog 51 #[.agg #[.slice m.A ds.length m.cap, .slice m.L ls.length m.cap'], plA i q2] W fun e w' => e = .returned (.tuple #[placeV pv, .bool pv.isSome]) ∧ Below W.heap.size W w'))
  (HN : Hid (pv = none -> h = badH 7 M)) (HS : Hid (∀ t, pv = some t -> h = ⟨0, t, ⟨ps, pd, psp, pdp⟩, learnP M (.flow j p3)⟩)) :
  Calls Tryz.prog 57 #[.pointer (some ⟨m.B, m.z, none⟩), plA i q, pkV p, .int .i64 c] w (HPost m ds ls n w h) := by
 have M2 := ((hM.out.alloc (.cells #[.int .i64 i, .int .i64 q] 43)).alloc (pkC p)).alloc (.cells #[.int .i64 0, .int .i64 0, .int .i64 0, .int .i64 0, .int .i64 0, .int .i64 0] 45)
 have D2 := Below.alN (Below.alN (Below.alN (Below.refl w.heap.size w) (.cells #[.int .i64 i, .int .i64 q] 43)) (pkC p)) (.cells #[.int .i64 0, .int .i64 0, .int .i64 0, .int .i64 0, .int .i64 0, .int .i64 0] 45)
 have A2 := ((bk_new w #[.int .i64 i, .int .i64 q] 43).alloc (pkC p)).alloc (.cells #[.int .i64 0, .int .i64 0, .int .i64 0, .int .i64 0, .int .i64 0, .int .i64 0] 45)
 have P2 := (bk_new' (w.alloc (.cells #[.int .i64 i, .int .i64 q] 43)) #[.int .i64 p.s, .int .i64 p.d, .int .i64 p.sp, .int .i64 p.dp] 36 (w.heap.size + 1) (by simp)).alloc (.cells #[.int .i64 0, .int .i64 0, .int .i64 0, .int .i64 0, .int .i64 0, .int .i64 0] 45)
 have R2 := bk_new' ((w.alloc (.cells #[.int .i64 i, .int .i64 q] 43)).alloc (pkC p)) #[.int .i64 0, .int .i64 0, .int .i64 0, .int .i64 0, .int .i64 0, .int .i64 0] 45 (w.heap.size + 1 + 1) (by simp)
 obtain ⟨q0, q1, _, _, _⟩ := M2.cells
 have Q0 : (((w.alloc (.cells #[.int .i64 i, .int .i64 q] 43)).alloc (pkC p)).alloc (.cells #[.int .i64 0, .int .i64 0, .int .i64 0, .int .i64 0, .int .i64 0, .int .i64 0] 45)).drew.cell? ⟨m.B, m.z, none⟩ = some (.slice m.A ds.length m.cap) := q0
 have Q1 : (((w.alloc (.cells #[.int .i64 i, .int .i64 q] 43)).alloc (pkC p)).alloc (.cells #[.int .i64 0, .int .i64 0, .int .i64 0, .int .i64 0, .int .i64 0, .int .i64 0] 45)).drew.cell? ⟨m.B, m.z + 1, none⟩ = some (.slice m.L ls.length m.cap') := q1
 obtain ⟨a0, a1⟩ := A2.two
 have HP : Hid (∀ W, MemAt W m ds ls n M -> Calls Tryz.prog 80 #[.agg #[.slice m.A ds.length m.cap, .slice m.L ls.length m.cap'], plA i q] W fun e w' => e = .returned (.bool (isPl ds i q)) ∧ Below W.heap.size W w') := fun W h => hasPlace_any _ _ _ _ _ _ _ W h.devs
 have PC : Hid (∀ W, Calls Tryz.prog 55 #[pkV p] W fun e w' => e = .returned (.int .i64 (if pkOk p then 0 else 1)) ∧ Below W.heap.size W w') := fun W => pcheck_any p W
 rw [hpl] at HP
 rw [hpk] at PC
 simp only [if_true] at PC
 obtain ⟨tx, ty, ok, hpv, hok, HT, HF⟩ : ∃ (tx ty : Int) (ok : Bool), placeV pv = plA tx ty ∧ pv.isSome = ok ∧ Hid (ok = true -> h = ⟨0, (tx, ty), ⟨ps, pd, psp, pdp⟩, learnP M (.flow j p3)⟩) ∧ Hid (ok = false -> h = badH 7 M) := by
  cases pv with
  | none => exact ⟨0, 0, _, rfl, rfl, (fun e => by cases e), fun _ => HN.out rfl⟩
  | some z => exact ⟨z.1, z.2, _, rfl, rfl, fun _ => HS.out z rfl, (fun e => by cases e)⟩
 rw [hpv, hok] at PE
 clear hpv hok HN HS
 obtain ⟨s, dd, sp, dp⟩ := p
 simp only at *
 go_enter Tryz.func57, Tryz.ntmps57
 go_wp2_with fail
 go_region_held3 (fun w' => w'.cell? ⟨m.B, m.z, none⟩ = some (.slice m.A ds.length m.cap) ∧ w'.cell? ⟨m.B, m.z + 1, none⟩ = some (.slice m.L ls.length m.cap') ∧ w'.cell? ⟨w.heap.size, 0, none⟩ = some (.int .i64 i) ∧ w'.cell? ⟨w.heap.size, 1, none⟩ = some (.int .i64 q)) (go_keep) ((go_at_call 80; refine (HP.out _ M2.drew).mono ?_; rintro e w5 ⟨rfl, hb5⟩; have D5 := chnN hb5 D2.drew; have A5 := A2.drew.keep hb5; have P5 := P2.drew.keep hb5; have R5 := R2.drew.keep hb5; have M5 := M2.drew.below hb5; have g0 := (CK.of_below hb5).cell Q0; have g1 := (CK.of_below hb5).cell Q1; obtain ⟨g2, g3⟩ := A5.two))
 clear hb5 D2 A2 P2 R2 M2 q0 q1 Q0 Q1 a0 a1 HP g0 g1 g2 g3
 obtain ⟨⟨l0, l1, l2, l3, l4, l5⟩, ⟨f0, f1, f2, f3, f4, f5⟩⟩ := R5.six
 have z5 : w.heap.size + 1 + 1 < w5.heap.size := R5.lt
 obtain ⟨p0, p1, p2, p3, _⟩ := P5.four
 go_wp2_with fail
 refine (PC.out _).mono ?_
 rintro e w6 ⟨rfl, hb6⟩
 have D6 := chnN hb6 D5
 have A6 := A5.keep hb6
 have P6 := P5.keep hb6
 have R6 := R5.keep hb6
 have M6 := M5.below hb6
 clear hb6 D5 A5 P5 R5 M5 p0 p1 p2 p3 l0 l1 l2 l3 l4 l5 f0 f1 f2 f3 f4 f5 PC z5
 obtain ⟨⟨l0, l1, l2, l3, l4, l5⟩, ⟨f0, f1, f2, f3, f4, f5⟩⟩ := R6.six
 obtain ⟨p0, p1, p2, p3', _⟩ := P6.four
 obtain ⟨a0, a1⟩ := A6.two
 go_wp2_with fail
 refine (SD.out _ M6).mono ?_
 rintro e w7 ⟨q9, p9, fv, er, rfl, HQ, hb7⟩
 obtain ⟨he, _, hz⟩ := HQ.out
 obtain ⟨hq9, hp9, HL⟩ := hz rfl
 simp only at he hq9 hp9 HL
 have hq9' := hq9.symm
 subst he hq9' hp9
 have D7 := chnN hb7 D6
 have R7 := R6.keep hb7
 have A7 := A6.keep hb7
 have M7 := M6.below hb7
 clear hb7 D6 A6 P6 R6 M6 p0 p1 p2 p3' a0 a1 l0 l1 l2 l3 l4 l5 f0 f1 f2 f3 f4 f5 SD HQ hz
 obtain ⟨_, _, ca, cb, rfl, _⟩ := id HL
 have z7 : w.heap.size + 1 + 1 < w7.heap.size := R7.lt
 have D8 := Below.alN D7 (.cells #[.int .i64 q2, .int .i64 ps, .int .i64 pd, .int .i64 psp, .int .i64 pdp, .func (.func 154) #[] #[.pointer (some ⟨ca, 0, none⟩), .pointer (some ⟨cb, 0, none⟩)]] 190)
 have R8 := R7.alloc (.cells #[.int .i64 q2, .int .i64 ps, .int .i64 pd, .int .i64 psp, .int .i64 pdp, .func (.func 154) #[] #[.pointer (some ⟨ca, 0, none⟩), .pointer (some ⟨cb, 0, none⟩)]] 190)
 have A8 := A7.alloc (.cells #[.int .i64 q2, .int .i64 ps, .int .i64 pd, .int .i64 psp, .int .i64 pdp, .func (.func 154) #[] #[.pointer (some ⟨ca, 0, none⟩), .pointer (some ⟨cb, 0, none⟩)]] 190)
 have M8 := M7.alloc (.cells #[.int .i64 q2, .int .i64 ps, .int .i64 pd, .int .i64 psp, .int .i64 pdp, .func (.func 154) #[] #[.pointer (some ⟨ca, 0, none⟩), .pointer (some ⟨cb, 0, none⟩)]] 190)
 have HL8 := HL.below ((Below.refl _ w7).alloc (Nat.le_refl _) (.cells #[.int .i64 q2, .int .i64 ps, .int .i64 pd, .int .i64 psp, .int .i64 pdp, .func (.func 154) #[] #[.pointer (some ⟨ca, 0, none⟩), .pointer (some ⟨cb, 0, none⟩)]] 190))
 have O8 := bk_new w7 #[.int .i64 q2, .int .i64 ps, .int .i64 pd, .int .i64 psp, .int .i64 pdp, .func (.func 154) #[] #[.pointer (some ⟨ca, 0, none⟩), .pointer (some ⟨cb, 0, none⟩)]] 190
 clear D7 R7 A7 M7 HL
 go_upto_region 9 with fail
 generalize hON : w7.heap.size = on at *
 generalize hW : w7.alloc (.cells #[.int .i64 q2, .int .i64 ps, .int .i64 pd, .int .i64 psp, .int .i64 pdp, .func (.func 154) #[] #[.pointer (some ⟨ca, 0, none⟩), .pointer (some ⟨cb, 0, none⟩)]] 190) = w8 at *
 clear hON hW
 obtain ⟨g0, g1, g2, g3⟩ := peS M8 A8 O8
 have D8a := (Below.alN D8 (.cells #[.int .i64 0, .int .i64 0] 43)).drew
 have M8a := (M8.alloc (.cells #[.int .i64 0, .int .i64 0] 43)).drew
 have A8a := (A8.alloc (.cells #[.int .i64 0, .int .i64 0] 43)).drew
 have O8a := (O8.alloc (.cells #[.int .i64 0, .int .i64 0] 43)).drew
 have R8a := (R8.alloc (.cells #[.int .i64 0, .int .i64 0] 43)).drew
 have H8a := HL8.below ((Below.refl _ w8).alloc (Nat.le_refl _) (.cells #[.int .i64 0, .int .i64 0] 43)).drew
 have H8d := HL8.below (Below.refl _ w8).drew
 have M8d := M8.drew
 have A8d := A8.drew
 have O8d := O8.drew
 go_cut [13, 14] (fun v13 v14 wx => ∃ g, v13 = .pointer (some ⟨g, 0, none⟩) ∧ v14 = .bool ok ∧ Bk wx g #[.int .i64 tx, .int .i64 ty] 43 ∧ w.heap.size + 1 + 1 < g ∧ Bk wx on #[.int .i64 q2, .int .i64 ps, .int .i64 pd, .int .i64 psp, .int .i64 pdp, .func (.func 154) #[] #[.pointer (some ⟨ca, 0, none⟩), .pointer (some ⟨cb, 0, none⟩)]] 190 ∧ Bk wx (w.heap.size + 1 + 1) #[.int .i64 0, .int .i64 0, .int .i64 0, .int .i64 0, .int .i64 0, .int .i64 0] 45 ∧ MemAt wx m ds ls n M ∧ LrnAt w6.heap.size wx m (.func (.func 154) #[] #[.pointer (some ⟨ca, 0, none⟩), .pointer (some ⟨cb, 0, none⟩)]) (.flow j p3) ∧ Below w.heap.size w wx)
 case first =>
  have zz8 : w.heap.size + 1 + 1 < w8.heap.size := R8.lt
  go_region_held3 (fun w' => w'.cell? ⟨m.B, m.z, none⟩ = some (.slice m.A ds.length m.cap) ∧ w'.cell? ⟨m.B, m.z + 1, none⟩ = some (.slice m.L ls.length m.cap') ∧ w'.cell? ⟨w.heap.size, 0, none⟩ = some (.int .i64 i) ∧ w'.cell? ⟨on, 0, none⟩ = some (.int .i64 q2)) (first | exact peS (by first | assumption | exact MemAt.alloc (by assumption) _) (by first | assumption | exact Bk.alloc (by assumption) _) (by first | assumption | exact Bk.alloc (by assumption) _) | exact peS (M8.below ((E9.setCell (p := ⟨w8.heap.size, 0, none⟩) (Nat.le_refl _) _).setCell (p := ⟨w8.heap.size, 1, none⟩) (Nat.le_refl _) _)) (A8.keep ((E9.setCell (p := ⟨w8.heap.size, 0, none⟩) (Nat.le_refl _) _).setCell (p := ⟨w8.heap.size, 1, none⟩) (Nat.le_refl _) _)) (O8.keep ((E9.setCell (p := ⟨w8.heap.size, 0, none⟩) (Nat.le_refl _) _).setCell (p := ⟨w8.heap.size, 1, none⟩) (Nat.le_refl _) _))) (first | (go_at_call 51; refine (PE.out _ M8d).mono ?_; rintro e w9 ⟨rfl, hb9⟩; have D9 := chnN hb9 D8.drew; have M9 := M8d.below hb9; have A9 := A8d.keep hb9; have O9 := O8d.keep hb9; have R9 := R8.drew.keep hb9; have H9 := H8d.below hb9; have G9 := bk_new w9 #[.int .i64 tx, .int .i64 ty] 43) | (go_at_call 51; refine (PE.out _ M8a).mono ?_; rintro e w9 ⟨rfl, hb9⟩; have D9 := chnN hb9 D8a; have M9 := M8a.below hb9; have A9 := A8a.keep hb9; have O9 := O8a.keep hb9; have R9 := R8a.keep hb9; have H9 := H8a.below hb9; have G9 := (bk_new w8 #[.int .i64 0, .int .i64 0] 43).drew.keep hb9; have E9 := chnN hb9 ((Below.refl _ w8).alloc (Nat.le_refl _) (.cells #[.int .i64 0, .int .i64 0] 43)).drew; have gf0 := G9.fz 0; have gf1 := G9.fz 1; obtain ⟨gg0, gg1⟩ := G9.two))
  all_goals
   go_wp2_with fail
   go_meet
   first
    | exact ⟨_, rfl, rfl, G9, (by have := R9.lt; omega), O9.alloc _, R9.alloc _, M9.alloc _, H9.below ((Below.refl _ _).alloc (Nat.le_refl _) _), Below.alN D9 _⟩
    | exact ⟨_, rfl, rfl, (by have := (G9.setS (j := 0) (.int .i64 tx)).setS (j := 1) (.int .i64 ty); simpa using this), zz8, O8.keep ((E9.setCell (p := ⟨w8.heap.size, 0, none⟩) (Nat.le_refl _) _).setCell (p := ⟨w8.heap.size, 1, none⟩) (Nat.le_refl _) _), R8.keep ((E9.setCell (p := ⟨w8.heap.size, 0, none⟩) (Nat.le_refl _) _).setCell (p := ⟨w8.heap.size, 1, none⟩) (Nat.le_refl _) _), M8.below ((E9.setCell (p := ⟨w8.heap.size, 0, none⟩) (Nat.le_refl _) _).setCell (p := ⟨w8.heap.size, 1, none⟩) (Nat.le_refl _) _), HL8.below ((E9.setCell (p := ⟨w8.heap.size, 0, none⟩) (Nat.le_refl _) _).setCell (p := ⟨w8.heap.size, 1, none⟩) (Nat.le_refl _) _), chnN ((E9.setCell (p := ⟨w8.heap.size, 0, none⟩) (Nat.le_refl _) _).setCell (p := ⟨w8.heap.size, 1, none⟩) (Nat.le_refl _) _) D8⟩
 case rest =>
  clear D8 R8 A8 M8 HL8 O8 g0 g1 g2 g3 D8a M8a A8a O8a R8a H8a H8d M8d A8d O8d PE
  obtain ⟨g, rfl, rfl, G8, zg, O8, R8, M8, HL8, D8⟩ := hcut
  obtain ⟨⟨l0, l1, l2, l3, l4, l5⟩, ⟨f0, f1, f2, f3, f4, f5⟩⟩ := R8.six
  cases ok
  ·have HV : Hid (h = badH 7 M) := HF.out rfl
   go_wp2_with fail
   refine bodyPost_ret (v := .tuple #[arV (0, 0) zeroP, .int .i64 7]) (by simp [results, Tryz.results57, go_sem, l0, l1, l2, l3, l4, l5, zeroP]) rfl (hpost_bad HV.out hM.out (by go_grown))
  have HV := HT.out rfl
  obtain ⟨⟨o0, o1, o2, o3, o4, o5⟩, _⟩ := O8.six
  clear l0 l1 l2 l3 l4 l5 f0 f1 f2 f3 f4 f5
  go_wp2_with fail
  obtain ⟨hj, hp3, ca', cb', ee, _, _, d0, d1, d2, d3, d4, d5⟩ := HL8
  cases ee
  refine (ask1_any _ _ m ds ls n M j p3 _ M8 hn hj hp3 d0 d1 d2 d3 d4 d5).mono ?_
  rintro e w9 ⟨rfl, M9, K9⟩
  have G9 := G8.ck (M8.ck K9)
  have O9 := O8.ck (M8.ck K9)
  have R9 := R8.ck (M8.ck K9)
  clear d0 d1 d2 d3 d4 d5 hj hp3
  clear o0 o1 o2 o3 o4 o5
  obtain ⟨⟨o0, o1, o2, o3, o4, o5⟩, _⟩ := O9.six
  obtain ⟨⟨l0, l1, l2, l3, l4, l5⟩, ⟨f0, f1, f2, f3, f4, f5⟩⟩ := R9.six
  obtain ⟨gx, gy⟩ := G9.two
  go_wp2_with fail
  refine bodyPost_ret (v := .tuple #[arV (tx, ty) ⟨ps, pd, psp, pdp⟩, .int .i64 0]) (by simp [results, Tryz.results57, go_sem, l0, l1, l2, l3, l4, l5]) rfl (hpost_ok HV hM.out D8 K9 M9 (by omega) _ _ _ _ _ _)
theorem handle_own (m : Mp) (ds : List Dv) (ls : List Lk) (n : Nat) (M : Mnd) (i q : Int) (p : Pk) (c : Int) (j k3 : Int) (s3 : Int × Int) (h : HR) (q2 ps pd psp pdp : Int) (pv : Option (Int × Int)) (w : World) (hM : Hid (MemAt w m ds ls n M)) (hn : n < maxLen) (hpl : isPl ds i q = true) (hpk : pkOk p = true)
  (SD : Hid (∀ W, MemAt W m ds ls n M -> Calls Tryz.prog 96 #[.pointer (some ⟨m.B, m.z, none⟩), plA i q, pkV p, .int .i64 c] W (SPost m W ⟨0, q2, ⟨ps, pd, psp, pdp⟩, .own j k3 s3⟩)))
  (PE : Hid (∀ W, MemAt W m ds ls n M -> Calls Tryz.prog 51 #[.agg #[.slice m.A ds.length m.cap, .slice m.L ls.length m.cap'], plA i q2] W fun e w' => e = .returned (.tuple #[placeV pv, .bool pv.isSome]) ∧ Below W.heap.size W w'))
  (HN : Hid (pv = none -> h = badH 7 M)) (HS : Hid (∀ t, pv = some t -> h = ⟨0, t, ⟨ps, pd, psp, pdp⟩, learnP M (.own j k3 s3)⟩)) :
  Calls Tryz.prog 57 #[.pointer (some ⟨m.B, m.z, none⟩), plA i q, pkV p, .int .i64 c] w (HPost m ds ls n w h) := by
 have M2 := ((hM.out.alloc (.cells #[.int .i64 i, .int .i64 q] 43)).alloc (pkC p)).alloc (.cells #[.int .i64 0, .int .i64 0, .int .i64 0, .int .i64 0, .int .i64 0, .int .i64 0] 45)
 have D2 := Below.alN (Below.alN (Below.alN (Below.refl w.heap.size w) (.cells #[.int .i64 i, .int .i64 q] 43)) (pkC p)) (.cells #[.int .i64 0, .int .i64 0, .int .i64 0, .int .i64 0, .int .i64 0, .int .i64 0] 45)
 have A2 := ((bk_new w #[.int .i64 i, .int .i64 q] 43).alloc (pkC p)).alloc (.cells #[.int .i64 0, .int .i64 0, .int .i64 0, .int .i64 0, .int .i64 0, .int .i64 0] 45)
 have P2 := (bk_new' (w.alloc (.cells #[.int .i64 i, .int .i64 q] 43)) #[.int .i64 p.s, .int .i64 p.d, .int .i64 p.sp, .int .i64 p.dp] 36 (w.heap.size + 1) (by simp)).alloc (.cells #[.int .i64 0, .int .i64 0, .int .i64 0, .int .i64 0, .int .i64 0, .int .i64 0] 45)
 have R2 := bk_new' ((w.alloc (.cells #[.int .i64 i, .int .i64 q] 43)).alloc (pkC p)) #[.int .i64 0, .int .i64 0, .int .i64 0, .int .i64 0, .int .i64 0, .int .i64 0] 45 (w.heap.size + 1 + 1) (by simp)
 obtain ⟨q0, q1, _, _, _⟩ := M2.cells
 have Q0 : (((w.alloc (.cells #[.int .i64 i, .int .i64 q] 43)).alloc (pkC p)).alloc (.cells #[.int .i64 0, .int .i64 0, .int .i64 0, .int .i64 0, .int .i64 0, .int .i64 0] 45)).drew.cell? ⟨m.B, m.z, none⟩ = some (.slice m.A ds.length m.cap) := q0
 have Q1 : (((w.alloc (.cells #[.int .i64 i, .int .i64 q] 43)).alloc (pkC p)).alloc (.cells #[.int .i64 0, .int .i64 0, .int .i64 0, .int .i64 0, .int .i64 0, .int .i64 0] 45)).drew.cell? ⟨m.B, m.z + 1, none⟩ = some (.slice m.L ls.length m.cap') := q1
 obtain ⟨a0, a1⟩ := A2.two
 have HP : Hid (∀ W, MemAt W m ds ls n M -> Calls Tryz.prog 80 #[.agg #[.slice m.A ds.length m.cap, .slice m.L ls.length m.cap'], plA i q] W fun e w' => e = .returned (.bool (isPl ds i q)) ∧ Below W.heap.size W w') := fun W h => hasPlace_any _ _ _ _ _ _ _ W h.devs
 have PC : Hid (∀ W, Calls Tryz.prog 55 #[pkV p] W fun e w' => e = .returned (.int .i64 (if pkOk p then 0 else 1)) ∧ Below W.heap.size W w') := fun W => pcheck_any p W
 rw [hpl] at HP
 rw [hpk] at PC
 simp only [if_true] at PC
 obtain ⟨tx, ty, ok, hpv, hok, HT, HF⟩ : ∃ (tx ty : Int) (ok : Bool), placeV pv = plA tx ty ∧ pv.isSome = ok ∧ Hid (ok = true -> h = ⟨0, (tx, ty), ⟨ps, pd, psp, pdp⟩, learnP M (.own j k3 s3)⟩) ∧ Hid (ok = false -> h = badH 7 M) := by
  cases pv with
  | none => exact ⟨0, 0, _, rfl, rfl, (fun e => by cases e), fun _ => HN.out rfl⟩
  | some z => exact ⟨z.1, z.2, _, rfl, rfl, fun _ => HS.out z rfl, (fun e => by cases e)⟩
 rw [hpv, hok] at PE
 clear hpv hok HN HS
 obtain ⟨s, dd, sp, dp⟩ := p
 simp only at *
 go_enter Tryz.func57, Tryz.ntmps57
 go_wp2_with fail
 go_region_held3 (fun w' => w'.cell? ⟨m.B, m.z, none⟩ = some (.slice m.A ds.length m.cap) ∧ w'.cell? ⟨m.B, m.z + 1, none⟩ = some (.slice m.L ls.length m.cap') ∧ w'.cell? ⟨w.heap.size, 0, none⟩ = some (.int .i64 i) ∧ w'.cell? ⟨w.heap.size, 1, none⟩ = some (.int .i64 q)) (go_keep) ((go_at_call 80; refine (HP.out _ M2.drew).mono ?_; rintro e w5 ⟨rfl, hb5⟩; have D5 := chnN hb5 D2.drew; have A5 := A2.drew.keep hb5; have P5 := P2.drew.keep hb5; have R5 := R2.drew.keep hb5; have M5 := M2.drew.below hb5; have g0 := (CK.of_below hb5).cell Q0; have g1 := (CK.of_below hb5).cell Q1; obtain ⟨g2, g3⟩ := A5.two))
 clear hb5 D2 A2 P2 R2 M2 q0 q1 Q0 Q1 a0 a1 HP g0 g1 g2 g3
 obtain ⟨⟨l0, l1, l2, l3, l4, l5⟩, ⟨f0, f1, f2, f3, f4, f5⟩⟩ := R5.six
 have z5 : w.heap.size + 1 + 1 < w5.heap.size := R5.lt
 obtain ⟨p0, p1, p2, p3, _⟩ := P5.four
 go_wp2_with fail
 refine (PC.out _).mono ?_
 rintro e w6 ⟨rfl, hb6⟩
 have D6 := chnN hb6 D5
 have A6 := A5.keep hb6
 have P6 := P5.keep hb6
 have R6 := R5.keep hb6
 have M6 := M5.below hb6
 clear hb6 D5 A5 P5 R5 M5 p0 p1 p2 p3 l0 l1 l2 l3 l4 l5 f0 f1 f2 f3 f4 f5 PC z5
 obtain ⟨⟨l0, l1, l2, l3, l4, l5⟩, ⟨f0, f1, f2, f3, f4, f5⟩⟩ := R6.six
 obtain ⟨p0, p1, p2, p3', _⟩ := P6.four
 obtain ⟨a0, a1⟩ := A6.two
 go_wp2_with fail
 refine (SD.out _ M6).mono ?_
 rintro e w7 ⟨q9, p9, fv, er, rfl, HQ, hb7⟩
 obtain ⟨he, _, hz⟩ := HQ.out
 obtain ⟨hq9, hp9, HL⟩ := hz rfl
 simp only at he hq9 hp9 HL
 have hq9' := hq9.symm
 subst he hq9' hp9
 have D7 := chnN hb7 D6
 have R7 := R6.keep hb7
 have A7 := A6.keep hb7
 have M7 := M6.below hb7
 clear hb7 D6 A6 P6 R6 M6 p0 p1 p2 p3' a0 a1 l0 l1 l2 l3 l4 l5 f0 f1 f2 f3 f4 f5 SD HQ hz
 obtain ⟨_, _, ca, cb, cc, cd, rfl, _⟩ := id HL
 have z7 : w.heap.size + 1 + 1 < w7.heap.size := R7.lt
 have D8 := Below.alN D7 (.cells #[.int .i64 q2, .int .i64 ps, .int .i64 pd, .int .i64 psp, .int .i64 pdp, .func (.func 158) #[] #[.pointer (some ⟨ca, 0, none⟩), .pointer (some ⟨cb, 0, none⟩), .pointer (some ⟨cc, 0, none⟩), .pointer (some ⟨cd, 0, none⟩)]] 190)
 have R8 := R7.alloc (.cells #[.int .i64 q2, .int .i64 ps, .int .i64 pd, .int .i64 psp, .int .i64 pdp, .func (.func 158) #[] #[.pointer (some ⟨ca, 0, none⟩), .pointer (some ⟨cb, 0, none⟩), .pointer (some ⟨cc, 0, none⟩), .pointer (some ⟨cd, 0, none⟩)]] 190)
 have A8 := A7.alloc (.cells #[.int .i64 q2, .int .i64 ps, .int .i64 pd, .int .i64 psp, .int .i64 pdp, .func (.func 158) #[] #[.pointer (some ⟨ca, 0, none⟩), .pointer (some ⟨cb, 0, none⟩), .pointer (some ⟨cc, 0, none⟩), .pointer (some ⟨cd, 0, none⟩)]] 190)
 have M8 := M7.alloc (.cells #[.int .i64 q2, .int .i64 ps, .int .i64 pd, .int .i64 psp, .int .i64 pdp, .func (.func 158) #[] #[.pointer (some ⟨ca, 0, none⟩), .pointer (some ⟨cb, 0, none⟩), .pointer (some ⟨cc, 0, none⟩), .pointer (some ⟨cd, 0, none⟩)]] 190)
 have HL8 := HL.below ((Below.refl _ w7).alloc (Nat.le_refl _) (.cells #[.int .i64 q2, .int .i64 ps, .int .i64 pd, .int .i64 psp, .int .i64 pdp, .func (.func 158) #[] #[.pointer (some ⟨ca, 0, none⟩), .pointer (some ⟨cb, 0, none⟩), .pointer (some ⟨cc, 0, none⟩), .pointer (some ⟨cd, 0, none⟩)]] 190))
 have O8 := bk_new w7 #[.int .i64 q2, .int .i64 ps, .int .i64 pd, .int .i64 psp, .int .i64 pdp, .func (.func 158) #[] #[.pointer (some ⟨ca, 0, none⟩), .pointer (some ⟨cb, 0, none⟩), .pointer (some ⟨cc, 0, none⟩), .pointer (some ⟨cd, 0, none⟩)]] 190
 clear D7 R7 A7 M7 HL
 go_upto_region 9 with fail
 generalize hON : w7.heap.size = on at *
 generalize hW : w7.alloc (.cells #[.int .i64 q2, .int .i64 ps, .int .i64 pd, .int .i64 psp, .int .i64 pdp, .func (.func 158) #[] #[.pointer (some ⟨ca, 0, none⟩), .pointer (some ⟨cb, 0, none⟩), .pointer (some ⟨cc, 0, none⟩), .pointer (some ⟨cd, 0, none⟩)]] 190) = w8 at *
 clear hON hW
 obtain ⟨g0, g1, g2, g3⟩ := peS M8 A8 O8
 have D8a := (Below.alN D8 (.cells #[.int .i64 0, .int .i64 0] 43)).drew
 have M8a := (M8.alloc (.cells #[.int .i64 0, .int .i64 0] 43)).drew
 have A8a := (A8.alloc (.cells #[.int .i64 0, .int .i64 0] 43)).drew
 have O8a := (O8.alloc (.cells #[.int .i64 0, .int .i64 0] 43)).drew
 have R8a := (R8.alloc (.cells #[.int .i64 0, .int .i64 0] 43)).drew
 have H8a := HL8.below ((Below.refl _ w8).alloc (Nat.le_refl _) (.cells #[.int .i64 0, .int .i64 0] 43)).drew
 have H8d := HL8.below (Below.refl _ w8).drew
 have M8d := M8.drew
 have A8d := A8.drew
 have O8d := O8.drew
 go_cut [13, 14] (fun v13 v14 wx => ∃ g, v13 = .pointer (some ⟨g, 0, none⟩) ∧ v14 = .bool ok ∧ Bk wx g #[.int .i64 tx, .int .i64 ty] 43 ∧ w.heap.size + 1 + 1 < g ∧ Bk wx on #[.int .i64 q2, .int .i64 ps, .int .i64 pd, .int .i64 psp, .int .i64 pdp, .func (.func 158) #[] #[.pointer (some ⟨ca, 0, none⟩), .pointer (some ⟨cb, 0, none⟩), .pointer (some ⟨cc, 0, none⟩), .pointer (some ⟨cd, 0, none⟩)]] 190 ∧ Bk wx (w.heap.size + 1 + 1) #[.int .i64 0, .int .i64 0, .int .i64 0, .int .i64 0, .int .i64 0, .int .i64 0] 45 ∧ MemAt wx m ds ls n M ∧ LrnAt w6.heap.size wx m (.func (.func 158) #[] #[.pointer (some ⟨ca, 0, none⟩), .pointer (some ⟨cb, 0, none⟩), .pointer (some ⟨cc, 0, none⟩), .pointer (some ⟨cd, 0, none⟩)]) (.own j k3 s3) ∧ Below w.heap.size w wx)
 case first =>
  have zz8 : w.heap.size + 1 + 1 < w8.heap.size := R8.lt
  go_region_held3 (fun w' => w'.cell? ⟨m.B, m.z, none⟩ = some (.slice m.A ds.length m.cap) ∧ w'.cell? ⟨m.B, m.z + 1, none⟩ = some (.slice m.L ls.length m.cap') ∧ w'.cell? ⟨w.heap.size, 0, none⟩ = some (.int .i64 i) ∧ w'.cell? ⟨on, 0, none⟩ = some (.int .i64 q2)) (first | exact peS (by first | assumption | exact MemAt.alloc (by assumption) _) (by first | assumption | exact Bk.alloc (by assumption) _) (by first | assumption | exact Bk.alloc (by assumption) _) | exact peS (M8.below ((E9.setCell (p := ⟨w8.heap.size, 0, none⟩) (Nat.le_refl _) _).setCell (p := ⟨w8.heap.size, 1, none⟩) (Nat.le_refl _) _)) (A8.keep ((E9.setCell (p := ⟨w8.heap.size, 0, none⟩) (Nat.le_refl _) _).setCell (p := ⟨w8.heap.size, 1, none⟩) (Nat.le_refl _) _)) (O8.keep ((E9.setCell (p := ⟨w8.heap.size, 0, none⟩) (Nat.le_refl _) _).setCell (p := ⟨w8.heap.size, 1, none⟩) (Nat.le_refl _) _))) (first | (go_at_call 51; refine (PE.out _ M8d).mono ?_; rintro e w9 ⟨rfl, hb9⟩; have D9 := chnN hb9 D8.drew; have M9 := M8d.below hb9; have A9 := A8d.keep hb9; have O9 := O8d.keep hb9; have R9 := R8.drew.keep hb9; have H9 := H8d.below hb9; have G9 := bk_new w9 #[.int .i64 tx, .int .i64 ty] 43) | (go_at_call 51; refine (PE.out _ M8a).mono ?_; rintro e w9 ⟨rfl, hb9⟩; have D9 := chnN hb9 D8a; have M9 := M8a.below hb9; have A9 := A8a.keep hb9; have O9 := O8a.keep hb9; have R9 := R8a.keep hb9; have H9 := H8a.below hb9; have G9 := (bk_new w8 #[.int .i64 0, .int .i64 0] 43).drew.keep hb9; have E9 := chnN hb9 ((Below.refl _ w8).alloc (Nat.le_refl _) (.cells #[.int .i64 0, .int .i64 0] 43)).drew; have gf0 := G9.fz 0; have gf1 := G9.fz 1; obtain ⟨gg0, gg1⟩ := G9.two))
  all_goals
   go_wp2_with fail
   go_meet
   first
    | exact ⟨_, rfl, rfl, G9, (by have := R9.lt; omega), O9.alloc _, R9.alloc _, M9.alloc _, H9.below ((Below.refl _ _).alloc (Nat.le_refl _) _), Below.alN D9 _⟩
    | exact ⟨_, rfl, rfl, (by have := (G9.setS (j := 0) (.int .i64 tx)).setS (j := 1) (.int .i64 ty); simpa using this), zz8, O8.keep ((E9.setCell (p := ⟨w8.heap.size, 0, none⟩) (Nat.le_refl _) _).setCell (p := ⟨w8.heap.size, 1, none⟩) (Nat.le_refl _) _), R8.keep ((E9.setCell (p := ⟨w8.heap.size, 0, none⟩) (Nat.le_refl _) _).setCell (p := ⟨w8.heap.size, 1, none⟩) (Nat.le_refl _) _), M8.below ((E9.setCell (p := ⟨w8.heap.size, 0, none⟩) (Nat.le_refl _) _).setCell (p := ⟨w8.heap.size, 1, none⟩) (Nat.le_refl _) _), HL8.below ((E9.setCell (p := ⟨w8.heap.size, 0, none⟩) (Nat.le_refl _) _).setCell (p := ⟨w8.heap.size, 1, none⟩) (Nat.le_refl _) _), chnN ((E9.setCell (p := ⟨w8.heap.size, 0, none⟩) (Nat.le_refl _) _).setCell (p := ⟨w8.heap.size, 1, none⟩) (Nat.le_refl _) _) D8⟩
 case rest =>
  clear D8 R8 A8 M8 HL8 O8 g0 g1 g2 g3 D8a M8a A8a O8a R8a H8a H8d M8d A8d O8d PE
  obtain ⟨g, rfl, rfl, G8, zg, O8, R8, M8, HL8, D8⟩ := hcut
  obtain ⟨⟨l0, l1, l2, l3, l4, l5⟩, ⟨f0, f1, f2, f3, f4, f5⟩⟩ := R8.six
  cases ok
  ·have HV : Hid (h = badH 7 M) := HF.out rfl
   go_wp2_with fail
   refine bodyPost_ret (v := .tuple #[arV (0, 0) zeroP, .int .i64 7]) (by simp [results, Tryz.results57, go_sem, l0, l1, l2, l3, l4, l5, zeroP]) rfl (hpost_bad HV.out hM.out (by go_grown))
  have HV := HT.out rfl
  obtain ⟨⟨o0, o1, o2, o3, o4, o5⟩, _⟩ := O8.six
  clear l0 l1 l2 l3 l4 l5 f0 f1 f2 f3 f4 f5
  go_wp2_with fail
  obtain ⟨hj, hk3, ca', cb', cc', cd', ee, _, _, _, _, d0, d1, d2, d3, d4⟩ := HL8
  cases ee
  refine (hide1_any _ _ _ _ m ds ls n M j k3 s3 _ M8 hn hj hk3 d0 d1 d2 d3 d4).mono ?_
  rintro e w9 ⟨rfl, M9, K9⟩
  have G9 := G8.ck (M8.ck K9)
  have O9 := O8.ck (M8.ck K9)
  have R9 := R8.ck (M8.ck K9)
  clear d0 d1 d2 d3 d4 hj hk3
  clear o0 o1 o2 o3 o4 o5
  obtain ⟨⟨o0, o1, o2, o3, o4, o5⟩, _⟩ := O9.six
  obtain ⟨⟨l0, l1, l2, l3, l4, l5⟩, ⟨f0, f1, f2, f3, f4, f5⟩⟩ := R9.six
  obtain ⟨gx, gy⟩ := G9.two
  go_wp2_with fail
  refine bodyPost_ret (v := .tuple #[arV (tx, ty) ⟨ps, pd, psp, pdp⟩, .int .i64 0]) (by simp [results, Tryz.results57, go_sem, l0, l1, l2, l3, l4, l5]) rfl (hpost_ok HV hM.out D8 K9 M9 (by omega) _ _ _ _ _ _)
end Go.Proofs.YtlmmeppifkigeaaGreat
