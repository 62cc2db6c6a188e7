/-
  Package step: Handle.
-/
import Derived.Test.YthioedgnambomaaSv
namespace Go.Proofs.Ythioedgnambomaa
open Go.RowKit Go.Maps

theorem MemAt.final {w w9 wF : World} {m : Mp} {ds : List Dv} {ls : List Lk} {n n' : Nat} {M M' : Mnd} (hM : MemAt w m ds ls n M) (h9 : MemAt w9 m ds ls n' M') (hk : HK m w wF) (e1 : wF.heap[m.f]? = w9.heap[m.f]?) (e2 : wF.heap[m.o]? = w9.heap[m.o]?) (e3 : wF.heap[m.k]? = w9.heap[m.k]?) : MemAt wF m ds ls n' M' :=
  ⟨⟨((hM.ck hk).block _ hM.notMap hM.lt).trans hM.blk.1, hM.blk.2⟩, (hM.devs.ck (hM.ck hk)).mono hk.size, (hM.links.ck (hM.ck hk)).mono hk.size, h9.fl.same e1, h9.ow.same e2, h9.bk.same e3, hM.fo, hM.fk, hM.ok⟩
/-- A store of six cells into block k, which the call made. -/
theorem HK.final {w w8 w9 wF : World} {m : Mp} {k : Nat} (h8 : Below w.heap.size w w8) (h9 : HK m w8 w9) (hk : w.heap.size ≤ k) (hF : ∀ b, b ≠ k → wF.heap[b]? = w9.heap[b]?) (os : wF.os = w9.os) (tp : wF.tape = w9.tape) (ou : wF.output = w9.output) (sz : wF.heap.size = w9.heap.size) : HK m w wF :=
  ⟨os.trans (h9.os.trans h8.os), tp.trans (h9.tape.trans h8.tape), ou.trans (h9.output.trans h8.output), by rw [sz]; exact Nat.le_trans h8.size h9.size, fun b hb n1 n2 n3 => (hF b (by omega)).trans ((h9.block b (Nat.lt_of_lt_of_le hb h8.size) n1 n2 n3).trans (h8.block b hb))⟩
theorem hpost_bad {m : Mp} {ds : List Dv} {ls : List Lk} {n : Nat} {w w' : World} {M : Mnd} {h : HR} {er : Int} (hr : h = badH er M) (hM : MemAt w m ds ls n M) (hb : Below w.heap.size w w') : HPost m ds ls n w h (.returned (.tuple #[arV (0, 0) zeroP, .int .i64 er])) w' := by
  subst hr
  exact ⟨rfl, (hM.below hb).mono (Nat.le_succ _), HK.of_below hb⟩
theorem hpost_ok {m : Mp} {ds : List Dv} {ls : List Lk} {n : Nat} {w w8 w9 : World} {M M' : Mnd} {h : HR} {tp : Int × Int} {p : Pk} {k : Nat} (hr : h = ⟨0, tp, p, M'⟩) (hM : MemAt w m ds ls n M) (h8 : Below w.heap.size w w8) (hk9 : HK m w8 w9) (h9 : MemAt w9 m ds ls (n + 1) M') (hk : w.heap.size ≤ k) (u0 u1 u2 u3 u4 u5 : Value) :
    HPost m ds ls n w h (.returned (.tuple #[arV tp p, .int .i64 0])) ((((((w9.setCell ⟨k, 0, none⟩ u0).setCell ⟨k, 1, none⟩ u1).setCell ⟨k, 2, none⟩ u2).setCell ⟨k, 3, none⟩ u3).setCell ⟨k, 4, none⟩ u4).setCell ⟨k, 5, none⟩ u5) := by
  subst hr
  have hF := fun b hb => set6_block (w := w9) (k := k) (b := b) hb u0 u1 u2 u3 u4 u5
  have H := HK.final (wF := (((((w9.setCell ⟨k, 0, none⟩ u0).setCell ⟨k, 1, none⟩ u1).setCell ⟨k, 2, none⟩ u2).setCell ⟨k, 3, none⟩ u3).setCell ⟨k, 4, none⟩ u4).setCell ⟨k, 5, none⟩ u5) h8 hk9 hk hF (by simp only [World.setCell]) (by simp only [World.setCell]) (by simp only [World.setCell]) (by simp only [World.setCell, Array.size_modify])
  have l1 := hM.fl.lt
  have l2 := hM.ow.lt
  have l3 := hM.bk.lt
  exact ⟨rfl, hM.final h9 H (hF _ (by omega)) (hF _ (by omega)) (hF _ (by omega)), H⟩
set_option maxHeartbeats 4000000 in
set_option maxRecDepth 100000 in
theorem handle_none (m : Mp) (ds : List Dv) (ls : List Lk) (n : Nat) (M : Mnd) (i q : Int) (p : Pk) (c : Int) (h : HR) (w : World) (hM : Hid (MemAt w m ds ls n M)) (hpl : isPl ds i q = false) (HV : Hid (h = badH 4 M)) :
    Calls Try.prog 9 #[.pointer (some ⟨m.B, m.z, none⟩), plA i q, pkV p, .int .i64 c] w (HPost m ds ls n w h) := by
  have M2 := ((hM.out.alloc (.cells #[.int .i64 i, .int .i64 q] 27)).alloc (pkC p)).alloc (.cells #[.int .i64 0, .int .i64 0, .int .i64 0, .int .i64 0, .int .i64 0, .int .i64 0] 55)
  have D2 := Below.alN (Below.alN (Below.alN (Below.refl w.heap.size w) (.cells #[.int .i64 i, .int .i64 q] 27)) (pkC p)) (.cells #[.int .i64 0, .int .i64 0, .int .i64 0, .int .i64 0, .int .i64 0, .int .i64 0] 55)
  have A2 := ((bk_new w #[.int .i64 i, .int .i64 q] 27).alloc (pkC p)).alloc (.cells #[.int .i64 0, .int .i64 0, .int .i64 0, .int .i64 0, .int .i64 0, .int .i64 0] 55)
  have P2 := (bk_new' (w.alloc (.cells #[.int .i64 i, .int .i64 q] 27)) #[.int .i64 p.s, .int .i64 p.d, .int .i64 p.sp, .int .i64 p.dp] 29 (w.heap.size + 1) (by simp)).alloc (.cells #[.int .i64 0, .int .i64 0, .int .i64 0, .int .i64 0, .int .i64 0, .int .i64 0] 55)
  have R2 := bk_new' ((w.alloc (.cells #[.int .i64 i, .int .i64 q] 27)).alloc (pkC p)) #[.int .i64 0, .int .i64 0, .int .i64 0, .int .i64 0, .int .i64 0, .int .i64 0] 55 (w.heap.size + 1 + 1) (by simp)
  obtain ⟨q0, q1, _, _, _⟩ := M2.cells
  have Q0 : (((w.alloc (.cells #[.int .i64 i, .int .i64 q] 27)).alloc (pkC p)).alloc (.cells #[.int .i64 0, .int .i64 0, .int .i64 0, .int .i64 0, .int .i64 0, .int .i64 0] 55)).drew.cell? ⟨m.B, m.z, none⟩ = some (.slice m.A ds.length m.cap) := q0
  have Q1 : (((w.alloc (.cells #[.int .i64 i, .int .i64 q] 27)).alloc (pkC p)).alloc (.cells #[.int .i64 0, .int .i64 0, .int .i64 0, .int .i64 0, .int .i64 0, .int .i64 0] 55)).drew.cell? ⟨m.B, m.z + 1, none⟩ = some (.slice m.L ls.length m.cap') := q1
  obtain ⟨a0, a1⟩ := A2.two
  have HP : Hid (∀ W, MemAt W m ds ls n M → Calls Try.prog 13 #[.agg #[.slice m.A ds.length m.cap, .slice m.L ls.length m.cap'], plA i q] W fun e w' => e = .returned (.bool (isPl ds i q)) ∧ Below W.heap.size W w') := fun W h => hasPlace_any _ _ _ _ _ _ _ W h.devs
  rw [hpl] at HP
  obtain ⟨s, dd, sp, dp⟩ := p
  simp only at *
  go_enter Try.func9, Try.ntmps9
  go_wp2_with fail
  go_region_held3 (fun w' => w'.cell? ⟨m.B, m.z, none⟩ = some (.slice m.A ds.length m.cap) ∧ w'.cell? ⟨m.B, m.z + 1, none⟩ = some (.slice m.L ls.length m.cap') ∧ w'.cell? ⟨w.heap.size, 0, none⟩ = some (.int .i64 i) ∧ w'.cell? ⟨w.heap.size, 1, none⟩ = some (.int .i64 q)) (go_keep) ((go_at_call 13; refine (HP.out _ M2.drew).mono ?_; rintro e w5 ⟨rfl, hb5⟩; have D5 := chnN hb5 D2.drew; have A5 := A2.drew.keep hb5; have P5 := P2.drew.keep hb5; have R5 := R2.drew.keep hb5; have M5 := M2.drew.below hb5; have g0 := (CK.of_below hb5).cell Q0; have g1 := (CK.of_below hb5).cell Q1; obtain ⟨g2, g3⟩ := A5.two))
  clear hb5 D2 A2 P2 R2 M2 q0 q1 Q0 Q1 a0 a1 HP g0 g1 g2 g3
  obtain ⟨⟨l0, l1, l2, l3, l4, l5⟩, ⟨f0, f1, f2, f3, f4, f5⟩⟩ := R5.six
  have z5 : w.heap.size + 1 + 1 < w5.heap.size := R5.lt
  go_wp2_with fail
  refine bodyPost_ret (v := .tuple #[arV (0, 0) zeroP, .int .i64 4]) (by simp [results, Try.results9, go_sem, l0, l1, l2, l3, l4, l5, zeroP]) rfl (hpost_bad HV.out hM.out (by go_grown))
set_option maxHeartbeats 4000000 in
set_option maxRecDepth 100000 in
theorem handle_bad (m : Mp) (ds : List Dv) (ls : List Lk) (n : Nat) (M : Mnd) (i q : Int) (p : Pk) (c : Int) (h : HR) (w : World) (hM : Hid (MemAt w m ds ls n M)) (hpl : isPl ds i q = true) (hpk : pkOk p = false) (HV : Hid (h = badH 1 M)) :
    Calls Try.prog 9 #[.pointer (some ⟨m.B, m.z, none⟩), plA i q, pkV p, .int .i64 c] w (HPost m ds ls n w h) := by
  have M2 := ((hM.out.alloc (.cells #[.int .i64 i, .int .i64 q] 27)).alloc (pkC p)).alloc (.cells #[.int .i64 0, .int .i64 0, .int .i64 0, .int .i64 0, .int .i64 0, .int .i64 0] 55)
  have D2 := Below.alN (Below.alN (Below.alN (Below.refl w.heap.size w) (.cells #[.int .i64 i, .int .i64 q] 27)) (pkC p)) (.cells #[.int .i64 0, .int .i64 0, .int .i64 0, .int .i64 0, .int .i64 0, .int .i64 0] 55)
  have A2 := ((bk_new w #[.int .i64 i, .int .i64 q] 27).alloc (pkC p)).alloc (.cells #[.int .i64 0, .int .i64 0, .int .i64 0, .int .i64 0, .int .i64 0, .int .i64 0] 55)
  have P2 := (bk_new' (w.alloc (.cells #[.int .i64 i, .int .i64 q] 27)) #[.int .i64 p.s, .int .i64 p.d, .int .i64 p.sp, .int .i64 p.dp] 29 (w.heap.size + 1) (by simp)).alloc (.cells #[.int .i64 0, .int .i64 0, .int .i64 0, .int .i64 0, .int .i64 0, .int .i64 0] 55)
  have R2 := bk_new' ((w.alloc (.cells #[.int .i64 i, .int .i64 q] 27)).alloc (pkC p)) #[.int .i64 0, .int .i64 0, .int .i64 0, .int .i64 0, .int .i64 0, .int .i64 0] 55 (w.heap.size + 1 + 1) (by simp)
  obtain ⟨q0, q1, _, _, _⟩ := M2.cells
  have Q0 : (((w.alloc (.cells #[.int .i64 i, .int .i64 q] 27)).alloc (pkC p)).alloc (.cells #[.int .i64 0, .int .i64 0, .int .i64 0, .int .i64 0, .int .i64 0, .int .i64 0] 55)).drew.cell? ⟨m.B, m.z, none⟩ = some (.slice m.A ds.length m.cap) := q0
  have Q1 : (((w.alloc (.cells #[.int .i64 i, .int .i64 q] 27)).alloc (pkC p)).alloc (.cells #[.int .i64 0, .int .i64 0, .int .i64 0, .int .i64 0, .int .i64 0, .int .i64 0] 55)).drew.cell? ⟨m.B, m.z + 1, none⟩ = some (.slice m.L ls.length m.cap') := q1
  obtain ⟨a0, a1⟩ := A2.two
  have HP : Hid (∀ W, MemAt W m ds ls n M → Calls Try.prog 13 #[.agg #[.slice m.A ds.length m.cap, .slice m.L ls.length m.cap'], plA i q] W fun e w' => e = .returned (.bool (isPl ds i q)) ∧ Below W.heap.size W w') := fun W h => hasPlace_any _ _ _ _ _ _ _ W h.devs
  have PC : Hid (∀ W, Calls Try.prog 14 #[pkV p] W fun e w' => e = .returned (.int .i64 (if pkOk p then 0 else 1)) ∧ Below W.heap.size W w') := fun W => pcheck_any p W
  rw [hpl] at HP
  rw [hpk] at PC
  simp only [Bool.false_eq_true, if_false] at PC
  obtain ⟨s, dd, sp, dp⟩ := p
  simp only at *
  go_enter Try.func9, Try.ntmps9
  go_wp2_with fail
  go_region_held3 (fun w' => w'.cell? ⟨m.B, m.z, none⟩ = some (.slice m.A ds.length m.cap) ∧ w'.cell? ⟨m.B, m.z + 1, none⟩ = some (.slice m.L ls.length m.cap') ∧ w'.cell? ⟨w.heap.size, 0, none⟩ = some (.int .i64 i) ∧ w'.cell? ⟨w.heap.size, 1, none⟩ = some (.int .i64 q)) (go_keep) ((go_at_call 13; refine (HP.out _ M2.drew).mono ?_; rintro e w5 ⟨rfl, hb5⟩; have D5 := chnN hb5 D2.drew; have A5 := A2.drew.keep hb5; have P5 := P2.drew.keep hb5; have R5 := R2.drew.keep hb5; have M5 := M2.drew.below hb5; have g0 := (CK.of_below hb5).cell Q0; have g1 := (CK.of_below hb5).cell Q1; obtain ⟨g2, g3⟩ := A5.two))
  clear hb5 D2 A2 P2 R2 M2 q0 q1 Q0 Q1 a0 a1 HP g0 g1 g2 g3
  obtain ⟨⟨l0, l1, l2, l3, l4, l5⟩, ⟨f0, f1, f2, f3, f4, f5⟩⟩ := R5.six
  have z5 : w.heap.size + 1 + 1 < w5.heap.size := R5.lt
  obtain ⟨p0, p1, p2, p3, _⟩ := P5.four
  go_wp2_with fail
  refine (PC.out _).mono ?_
  rintro e w6 ⟨rfl, hb6⟩
  have D6 := chnN hb6 D5
  have A6 := A5.keep hb6
  have P6 := P5.keep hb6
  have R6 := R5.keep hb6
  have M6 := M5.below hb6
  clear hb6 D5 A5 P5 R5 M5 p0 p1 p2 p3 l0 l1 l2 l3 l4 l5 f0 f1 f2 f3 f4 f5 PC z5
  obtain ⟨⟨l0, l1, l2, l3, l4, l5⟩, ⟨f0, f1, f2, f3, f4, f5⟩⟩ := R6.six
  go_wp2_with fail
  refine bodyPost_ret (v := .tuple #[arV (0, 0) zeroP, .int .i64 1]) (by simp [results, Try.results9, go_sem, l0, l1, l2, l3, l4, l5, zeroP]) rfl (hpost_bad HV.out hM.out (by go_grown))
set_option maxHeartbeats 4000000 in
set_option maxRecDepth 100000 in
theorem handle_err (m : Mp) (ds : List Dv) (ls : List Lk) (n : Nat) (M : Mnd) (i q : Int) (p : Pk) (c : Int) (h : HR) (r : SR) (w : World) (hM : Hid (MemAt w m ds ls n M)) (hpl : isPl ds i q = true) (hpk : pkOk p = true) (hne : (r.err == 0) = false) (HV : Hid (h = badH r.err M))
    (SD : Hid (∀ W, MemAt W m ds ls n M → Calls Try.prog 18 #[.pointer (some ⟨m.B, m.z, none⟩), plA i q, pkV p, .int .i64 c] W (SPost m W r))) :
    Calls Try.prog 9 #[.pointer (some ⟨m.B, m.z, none⟩), plA i q, pkV p, .int .i64 c] w (HPost m ds ls n w h) := by
  have M2 := ((hM.out.alloc (.cells #[.int .i64 i, .int .i64 q] 27)).alloc (pkC p)).alloc (.cells #[.int .i64 0, .int .i64 0, .int .i64 0, .int .i64 0, .int .i64 0, .int .i64 0] 55)
  have D2 := Below.alN (Below.alN (Below.alN (Below.refl w.heap.size w) (.cells #[.int .i64 i, .int .i64 q] 27)) (pkC p)) (.cells #[.int .i64 0, .int .i64 0, .int .i64 0, .int .i64 0, .int .i64 0, .int .i64 0] 55)
  have A2 := ((bk_new w #[.int .i64 i, .int .i64 q] 27).alloc (pkC p)).alloc (.cells #[.int .i64 0, .int .i64 0, .int .i64 0, .int .i64 0, .int .i64 0, .int .i64 0] 55)
  have P2 := (bk_new' (w.alloc (.cells #[.int .i64 i, .int .i64 q] 27)) #[.int .i64 p.s, .int .i64 p.d, .int .i64 p.sp, .int .i64 p.dp] 29 (w.heap.size + 1) (by simp)).alloc (.cells #[.int .i64 0, .int .i64 0, .int .i64 0, .int .i64 0, .int .i64 0, .int .i64 0] 55)
  have R2 := bk_new' ((w.alloc (.cells #[.int .i64 i, .int .i64 q] 27)).alloc (pkC p)) #[.int .i64 0, .int .i64 0, .int .i64 0, .int .i64 0, .int .i64 0, .int .i64 0] 55 (w.heap.size + 1 + 1) (by simp)
  obtain ⟨q0, q1, _, _, _⟩ := M2.cells
  have Q0 : (((w.alloc (.cells #[.int .i64 i, .int .i64 q] 27)).alloc (pkC p)).alloc (.cells #[.int .i64 0, .int .i64 0, .int .i64 0, .int .i64 0, .int .i64 0, .int .i64 0] 55)).drew.cell? ⟨m.B, m.z, none⟩ = some (.slice m.A ds.length m.cap) := q0
  have Q1 : (((w.alloc (.cells #[.int .i64 i, .int .i64 q] 27)).alloc (pkC p)).alloc (.cells #[.int .i64 0, .int .i64 0, .int .i64 0, .int .i64 0, .int .i64 0, .int .i64 0] 55)).drew.cell? ⟨m.B, m.z + 1, none⟩ = some (.slice m.L ls.length m.cap') := q1
  obtain ⟨a0, a1⟩ := A2.two
  have HP : Hid (∀ W, MemAt W m ds ls n M → Calls Try.prog 13 #[.agg #[.slice m.A ds.length m.cap, .slice m.L ls.length m.cap'], plA i q] W fun e w' => e = .returned (.bool (isPl ds i q)) ∧ Below W.heap.size W w') := fun W h => hasPlace_any _ _ _ _ _ _ _ W h.devs
  have PC : Hid (∀ W, Calls Try.prog 14 #[pkV p] W fun e w' => e = .returned (.int .i64 (if pkOk p then 0 else 1)) ∧ Below W.heap.size W w') := fun W => pcheck_any p W
  rw [hpl] at HP
  rw [hpk] at PC
  simp only [if_true] at PC
  obtain ⟨s, dd, sp, dp⟩ := p
  simp only at *
  go_enter Try.func9, Try.ntmps9
  go_wp2_with fail
  go_region_held3 (fun w' => w'.cell? ⟨m.B, m.z, none⟩ = some (.slice m.A ds.length m.cap) ∧ w'.cell? ⟨m.B, m.z + 1, none⟩ = some (.slice m.L ls.length m.cap') ∧ w'.cell? ⟨w.heap.size, 0, none⟩ = some (.int .i64 i) ∧ w'.cell? ⟨w.heap.size, 1, none⟩ = some (.int .i64 q)) (go_keep) ((go_at_call 13; refine (HP.out _ M2.drew).mono ?_; rintro e w5 ⟨rfl, hb5⟩; have D5 := chnN hb5 D2.drew; have A5 := A2.drew.keep hb5; have P5 := P2.drew.keep hb5; have R5 := R2.drew.keep hb5; have M5 := M2.drew.below hb5; have g0 := (CK.of_below hb5).cell Q0; have g1 := (CK.of_below hb5).cell Q1; obtain ⟨g2, g3⟩ := A5.two))
  clear hb5 D2 A2 P2 R2 M2 q0 q1 Q0 Q1 a0 a1 HP g0 g1 g2 g3
  obtain ⟨⟨l0, l1, l2, l3, l4, l5⟩, ⟨f0, f1, f2, f3, f4, f5⟩⟩ := R5.six
  have z5 : w.heap.size + 1 + 1 < w5.heap.size := R5.lt
  obtain ⟨p0, p1, p2, p3, _⟩ := P5.four
  go_wp2_with fail
  refine (PC.out _).mono ?_
  rintro e w6 ⟨rfl, hb6⟩
  have D6 := chnN hb6 D5
  have A6 := A5.keep hb6
  have P6 := P5.keep hb6
  have R6 := R5.keep hb6
  have M6 := M5.below hb6
  clear hb6 D5 A5 P5 R5 M5 p0 p1 p2 p3 l0 l1 l2 l3 l4 l5 f0 f1 f2 f3 f4 f5 PC z5
  obtain ⟨⟨l0, l1, l2, l3, l4, l5⟩, ⟨f0, f1, f2, f3, f4, f5⟩⟩ := R6.six
  obtain ⟨p0, p1, p2, p3, _⟩ := P6.four
  obtain ⟨a0, a1⟩ := A6.two
  go_wp2_with fail
  refine (SD.out _ M6).mono ?_
  rintro e w7 ⟨q2, p9, fv, er, rfl, HQ, hb7⟩
  obtain ⟨he, hfv, _⟩ := HQ.out
  subst he
  have D7 := chnN hb7 D6
  have R7 := R6.keep hb7
  clear hb7 D6 A6 P6 R6 M6 p0 p1 p2 p3 a0 a1 l0 l1 l2 l3 l4 l5 f0 f1 f2 f3 f4 f5 SD HQ
  obtain ⟨ps, pd, psp, pdp⟩ := p9
  have z7 : w.heap.size + 1 + 1 < w7.heap.size := R7.lt
  generalize r.err = er at *
  rcases hfv with rfl | ⟨fn, cp, rfl⟩
  · have D8 := Below.alN D7 (.cells #[.int .i64 q2, .int .i64 ps, .int .i64 pd, .int .i64 psp, .int .i64 pdp, .nilFunc] 73)
    have R8 := R7.alloc (.cells #[.int .i64 q2, .int .i64 ps, .int .i64 pd, .int .i64 psp, .int .i64 pdp, .nilFunc] 73)
    obtain ⟨⟨l0, l1, l2, l3, l4, l5⟩, ⟨f0, f1, f2, f3, f4, f5⟩⟩ := R8.six
    go_upto_region 8 with fail
    generalize hW : w7.alloc (.cells #[.int .i64 q2, .int .i64 ps, .int .i64 pd, .int .i64 psp, .int .i64 pdp, .nilFunc] 73) = w8 at *
    go_wp2_with fail
    refine bodyPost_ret (v := .tuple #[arV (0, 0) zeroP, .int .i64 er]) (by simp [results, Try.results9, go_sem, l0, l1, l2, l3, l4, l5, zeroP]) rfl (hpost_bad HV.out hM.out (by go_grown))
  · have D8 := Below.alN D7 (.cells #[.int .i64 q2, .int .i64 ps, .int .i64 pd, .int .i64 psp, .int .i64 pdp, .func fn #[] cp] 73)
    have R8 := R7.alloc (.cells #[.int .i64 q2, .int .i64 ps, .int .i64 pd, .int .i64 psp, .int .i64 pdp, .func fn #[] cp] 73)
    obtain ⟨⟨l0, l1, l2, l3, l4, l5⟩, ⟨f0, f1, f2, f3, f4, f5⟩⟩ := R8.six
    go_upto_region 8 with fail
    generalize hW : w7.alloc (.cells #[.int .i64 q2, .int .i64 ps, .int .i64 pd, .int .i64 psp, .int .i64 pdp, .func fn #[] cp] 73) = w8 at *
    go_wp2_with fail
    refine bodyPost_ret (v := .tuple #[arV (0, 0) zeroP, .int .i64 er]) (by simp [results, Try.results9, go_sem, l0, l1, l2, l3, l4, l5, zeroP]) rfl (hpost_bad HV.out hM.out (by go_grown))
end Go.Proofs.Ythioedgnambomaa
