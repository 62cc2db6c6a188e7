/-
  Package ring: Walk.
-/
import Derived.Test.YthioedgnambomaaRg1
import Derived.Test.YthioedgnambomaaRg4
namespace Go.Proofs.Ythioedgnambomaa
open Go.RowKit Go.Maps

theorem below_hkR {w W W' : World} {m : Mp} (hb : Below w.heap.size w W) (hk : HK m W W') (l1 : w.heap.size ≤ m.f) (l2 : w.heap.size ≤ m.o) (l3 : w.heap.size ≤ m.k) : Below w.heap.size w W' :=
  hb.trans ⟨hk.os, hk.tape, hk.output, hk.size, fun b h => hk.block b (Nat.lt_of_lt_of_le h hb.size) (by omega) (by omega) (by omega)⟩
/-- The error that Walk tells. -/
def rwErr (ds : List Dv) (ls : List Lk) (t : Plc) (p : Pk) : Int := if ringV ds ls = 0 then (if isPl ds t.1 t.2 then (if pkOk p then 0 else 1) else 4) else ringV ds ls
theorem rwErr_zero {ds : List Dv} {ls : List Lk} {t : Plc} {p : Pk} (h : rwErr ds ls t p = 0) : ringV ds ls = 0 ∧ isPl ds t.1 t.2 = true ∧ pkOk p = true := by
  unfold rwErr at h
  by_cases h1 : ringV ds ls = 0
  · rw [if_pos h1] at h
    cases h2 : isPl ds t.1 t.2
    · rw [h2] at h
      cases h
    · cases h3 : pkOk p
      · rw [h2, h3] at h
        cases h
      · exact ⟨h1, rfl, rfl⟩
  · rw [if_neg h1] at h
    exact absurd h h1
/-- What Walk tells. -/
def RWOut (w : World) (ds : List Dv) (ls : List Lk) (t : Plc) (p : Pk) (e : Ending) (w' : World) : Prop :=
  Below w.heap.size w w' ∧ ((rwErr ds ls t p ≠ 0 ∧ e = .returned (.tuple #[.slice none 0 0, .bool false, .int .i64 (rwErr ds ls t p)])) ∨
    (rwErr ds ls t p = 0 ∧ ∃ A c, e = .returned (.tuple #[.slice A (wayP ds ls p t).1.length c, .bool (wayP ds ls p t).2, .int .i64 0]) ∧ SlAt w'.heap.size w' 2 IsPlc (.slice A (wayP ds ls p t).1.length c) (wayP ds ls p t).1 ∧ (∀ a, A = some a → w.heap.size ≤ a.block ∧ a.block < w'.heap.size)))
abbrev netO (A B : Option Addr) (n cap n' cap' : Nat) : Obj := .cells #[.slice A n cap, .slice B n' cap'] 25
abbrev plO (x y : Int) : Obj := .cells #[.int .i64 x, .int .i64 y] 27
set_option maxHeartbeats 8000000 in
set_option maxRecDepth 100000 in
theorem ringWalk_any (A B : Option Addr) (cap cap' : Nat) (ds : List Dv) (ls : List Lk) (t : Plc) (p : Pk) (w : World) (hD : Hid (Devs w.heap.size w (.slice A ds.length cap) ds)) (hL : Hid (Links w.heap.size w (.slice B ls.length cap') ls)) :
    Calls Try.prog 5 #[.agg #[.slice A ds.length cap, .slice B ls.length cap'], plA t.1 t.2, pkV p] w (RWOut w ds ls t p) := by
  have D0 := Below.alN (Below.alN (Below.alN (Below.refl w.heap.size w) (.cells #[.slice A ds.length cap, .slice B ls.length cap'] 25)) (.cells #[.int .i64 t.1, .int .i64 t.2] 27)) (.cells #[.int .i64 p.s, .int .i64 p.d, .int .i64 p.sp, .int .i64 p.dp] 29)
  have N0 := ((bk_new w #[.slice A ds.length cap, .slice B ls.length cap'] 25).alloc (.cells #[.int .i64 t.1, .int .i64 t.2] 27)).alloc (.cells #[.int .i64 p.s, .int .i64 p.d, .int .i64 p.sp, .int .i64 p.dp] 29)
  have T0 := (bk_new' (w.alloc (.cells #[.slice A ds.length cap, .slice B ls.length cap'] 25)) #[.int .i64 t.1, .int .i64 t.2] 27 (w.heap.size + 1) (by simp)).alloc (.cells #[.int .i64 p.s, .int .i64 p.d, .int .i64 p.sp, .int .i64 p.dp] 29)
  have P0 := bk_new' ((w.alloc (.cells #[.slice A ds.length cap, .slice B ls.length cap'] 25)).alloc (.cells #[.int .i64 t.1, .int .i64 t.2] 27)) #[.int .i64 p.s, .int .i64 p.d, .int .i64 p.sp, .int .i64 p.dp] 29 (w.heap.size + 1 + 1) (by simp)
  have CKR : Hid (∀ W, Below w.heap.size w W → Calls Try.prog 12 #[.agg #[.slice A ds.length cap, .slice B ls.length cap']] W fun e w' => e = .returned (.int .i64 (ringV ds ls)) ∧ Below W.heap.size W w') := fun W h => ringCheck_any A B cap cap' ds ls W ((hD.out.below h).mono h.size) ((hL.out.below h).mono h.size)
  have HPL : Hid (∀ W, Below w.heap.size w W → Calls Try.prog 13 #[.agg #[.slice A ds.length cap, .slice B ls.length cap'], plA t.1 t.2] W fun e w' => e = .returned (.bool (isPl ds t.1 t.2)) ∧ Below W.heap.size W w') := fun W h => hasPlace_any t.1 t.2 A _ cap _ ds W ((hD.out.below h).mono h.size)
  have PC : Hid (∀ W, Calls Try.prog 14 #[pkV p] W fun e w' => e = .returned (.int .i64 (if pkOk p then 0 else 1)) ∧ Below W.heap.size W w') := fun W => pcheck_any p W
  have NW : Hid (∀ W, Below w.heap.size w W → Calls Try.prog 8 #[.agg #[.slice A ds.length cap, .slice B ls.length cap']] W (NewOut W ds ls)) := fun W h => new_any A B cap cap' ds ls W ((hD.out.below h).mono h.size) ((hL.out.below h).mono h.size)
  have WK : Hid (ringV ds ls = 0 → isPl ds t.1 t.2 = true → ∀ (m : Mp) W, MemAt W m ds ls 0 noM → Calls Try.prog 15 #[.pointer (some ⟨m.B, m.z, none⟩), plA t.1 t.2, pkV p] W (WkOut W m ds ls 0 (wayP ds ls p t))) := fun h1 h2 m W h => rwalk_any m ds ls 0 t p W h (by omega) (ringV_zero h1).1 (ringV_zero h1).2 h2
  have HNV : Hid (ringV ds ls = 0 → netV ds ls = 0) := fun h => (ringV_zero h).1
  have OUT0 : Hid (∀ w', Below w.heap.size w w' → ∀ er, rwErr ds ls t p = er → er ≠ 0 → RWOut w ds ls t p (.returned (.tuple #[.slice none 0 0, .bool false, .int .i64 er])) w') := fun w' hb er h1 h2 => ⟨hb, Or.inl ⟨by rw [h1]; exact h2, by rw [h1]⟩⟩
  have OUT1 : Hid (∀ w', Below w.heap.size w w' → rwErr ds ls t p = 0 → ∀ A c, SlAt w'.heap.size w' 2 IsPlc (.slice A (wayP ds ls p t).1.length c) (wayP ds ls p t).1 → (∀ a, A = some a → w.heap.size ≤ a.block ∧ a.block < w'.heap.size) → RWOut w ds ls t p (.returned (.tuple #[.slice A (wayP ds ls p t).1.length c, .bool (wayP ds ls p t).2, .int .i64 0])) w') := fun w' hb h0 A c h1 h2 => ⟨hb, Or.inr ⟨h0, A, c, rfl, h1, h2⟩⟩
  have ERR : Hid (rwErr ds ls t p = if ringV ds ls = 0 then (if isPl ds t.1 t.2 then (if pkOk p then 0 else 1) else 4) else ringV ds ls) := rfl
  generalize hrv : ringV ds ls = rv at *
  generalize rwErr ds ls t p = er at *
  generalize hres : wayP ds ls p t = res at *
  clear hres hrv
  obtain ⟨rl, rb⟩ := res
  have hpk : ∀ (a b c d : Int), pkV ⟨a, b, c, d⟩ = .agg #[.int .i64 a, .int .i64 b, .int .i64 c, .int .i64 d] := fun _ _ _ _ => rfl
  generalize hPK : pkOk p = pk at *
  generalize hPL : isPl ds t.1 t.2 = pl at *
  clear hPK hPL hpk
  obtain ⟨s, d, sp, dp⟩ := p
  obtain ⟨i, q⟩ := t
  dsimp only at *
  clear hD hL
  obtain ⟨n0, n1⟩ := N0.two
  by_cases h1 : rv = 0
  rotate_left
  · have hz1 : (rv == 0) = false := by simpa using h1
    have EX : Hid (er = rv) := by
      have := ERR.out
      rw [if_neg h1] at this
      exact this
    have HNZ : Hid (¬ rv = 0) := h1
    clear ERR h1 WK NW PC HPL OUT1 HNV
    go_enter Try.func5, Try.ntmps5
    go_wp2_with fail
    with_reducible refine (CKR.out _ D0).mono ?_
    rintro e w1 ⟨rfl, hb1⟩
    have D1 := chnN hb1 D0
    clear hb1 N0 T0 P0 D0 n0 n1 CKR
    go_wp2_with fail
    all_goals first | exact absurd (by assumption) HNZ.out | skip
    all_goals
      go_ret3
      exact OUT0.out _ D1 _ EX.out HNZ.out
  subst h1
  have E1 : Hid (er = if pl then (if pk then 0 else 1) else 4) := by
    have := ERR.out
    rw [if_pos rfl] at this
    exact this
  have hnv : Hid (netV ds ls = 0) := HNV.out rfl
  clear ERR HNV
  cases pl
  · have EX : Hid (er = 4) := E1.out
    clear E1 WK NW PC OUT1
    go_enter Try.func5, Try.ntmps5
    go_wp2_with fail
    with_reducible refine (CKR.out _ D0).mono ?_
    rintro e w1 ⟨rfl, hb1⟩
    have D1 := chnN hb1 D0
    have N1 := N0.keep hb1
    have T1 := T0.keep hb1
    clear hb1 N0 T0 P0 D0 n0 n1 CKR
    obtain ⟨n0, n1⟩ := N1.two
    obtain ⟨t0, t1⟩ := T1.two
    go_wp2_with fail
    with_reducible refine (HPL.out _ D1).mono ?_
    rintro e w2 ⟨rfl, hb2⟩
    have D2 := chnN hb2 D1
    clear hb2 N1 T1 D1 n0 n1 t0 t1 HPL
    go_wp2_with fail
    go_ret3
    exact OUT0.out _ D2 _ EX.out (by decide)
  cases pk
  · have EX : Hid (er = 1) := E1.out
    have PC' : Hid (∀ W, Calls Try.prog 14 #[.agg #[.int .i64 s, .int .i64 d, .int .i64 sp, .int .i64 dp]] W fun e w' => e = .returned (.int .i64 1) ∧ Below W.heap.size W w') := PC.out
    clear E1 WK NW PC OUT1
    go_enter Try.func5, Try.ntmps5
    go_wp2_with fail
    with_reducible refine (CKR.out _ D0).mono ?_
    rintro e w1 ⟨rfl, hb1⟩
    have D1 := chnN hb1 D0
    have N1 := N0.keep hb1
    have T1 := T0.keep hb1
    have P1 := P0.keep hb1
    clear hb1 N0 T0 P0 D0 n0 n1 CKR
    obtain ⟨n0, n1⟩ := N1.two
    obtain ⟨t0, t1⟩ := T1.two
    go_wp2_with fail
    with_reducible refine (HPL.out _ D1).mono ?_
    rintro e w2 ⟨rfl, hb2⟩
    have D2 := chnN hb2 D1
    have P2 := P1.keep hb2
    clear hb2 N1 T1 P1 D1 n0 n1 t0 t1 HPL
    obtain ⟨p0, p1, p2, p3, _⟩ := P2.four
    go_wp2_with fail
    with_reducible refine (PC'.out _).mono ?_
    rintro e w3 ⟨rfl, hb3⟩
    have D3 := chnN hb3 D2
    clear hb3 P2 D2 p0 p1 p2 p3 PC'
    go_wp2_with fail
    go_ret3
    exact OUT0.out _ D3 _ EX.out (by decide)
  · have EX : Hid (er = 0) := E1.out
    have PC' : Hid (∀ W, Calls Try.prog 14 #[.agg #[.int .i64 s, .int .i64 d, .int .i64 sp, .int .i64 dp]] W fun e w' => e = .returned (.int .i64 0) ∧ Below W.heap.size W w') := PC.out
    have WK' : Hid (∀ (m : Mp) W, MemAt W m ds ls 0 noM → Calls Try.prog 15 #[.pointer (some ⟨m.B, m.z, none⟩), .agg #[.int .i64 i, .int .i64 q], .agg #[.int .i64 s, .int .i64 d, .int .i64 sp, .int .i64 dp]] W fun e w' => ∃ A c, e = .returned (.tuple #[.slice A rl.length c, .bool rb]) ∧ Hid (SlAt w'.heap.size w' 2 IsPlc (.slice A rl.length c) rl ∧ (∀ a, A = some a → W.heap.size ≤ a.block ∧ a.block < w'.heap.size) ∧ HK m W w')) := fun m W h => (WK.out rfl rfl m W h).mono fun e w' ⟨A, c, h1, h2, h3, h4, h5⟩ => ⟨A, c, h1, h2, h3, h5⟩
    clear E1 WK PC OUT0
    go_enter Try.func5, Try.ntmps5
    go_wp2_with fail
    with_reducible refine (CKR.out _ D0).mono ?_
    rintro e w1 ⟨rfl, hb1⟩
    have D1 := chnN hb1 D0
    have N1 := N0.keep hb1
    have T1 := T0.keep hb1
    have P1 := P0.keep hb1
    clear hb1 N0 T0 P0 D0 n0 n1 CKR
    obtain ⟨n0, n1⟩ := N1.two
    obtain ⟨t0, t1⟩ := T1.two
    go_wp2_with fail
    with_reducible refine (HPL.out _ D1).mono ?_
    rintro e w2 ⟨rfl, hb2⟩
    have D2 := chnN hb2 D1
    have N2 := N1.keep hb2
    have T2 := T1.keep hb2
    have P2 := P1.keep hb2
    clear hb2 N1 T1 P1 D1 n0 n1 t0 t1 HPL
    obtain ⟨p0, p1, p2, p3, _⟩ := P2.four
    go_wp2_with fail
    with_reducible refine (PC'.out _).mono ?_
    rintro e w3 ⟨rfl, hb3⟩
    have D3 := chnN hb3 D2
    have N3 := N2.keep hb3
    have T3 := T2.keep hb3
    have P3 := P2.keep hb3
    clear hb3 P2 N2 T2 D2 p0 p1 p2 p3 PC'
    obtain ⟨n0, n1⟩ := N3.two
    go_wp2_with fail
    with_reducible refine (NW.out _ D3).mono ?_
    rintro e w4 ⟨hb4, hN⟩
    have D4 := chnN hb4 D3
    have T4 := T3.keep hb4
    have P4 := P3.keep hb4
    have z3 := D3.size
    have z4 := hb4.size
    clear hb4 P3 N3 T3 D3 n0 n1 NW
    rcases hN with ⟨hne, _⟩ | ⟨_, m, rfl, hM, l1, l2, l3, l4, l5, _⟩
    · exact absurd hnv.out hne
    have LO : Hid (w.heap.size ≤ m.f ∧ w.heap.size ≤ m.o ∧ w.heap.size ≤ m.k) := ⟨by omega, by omega, by omega⟩
    clear l1 l2 l3 l4 l5
    obtain ⟨t0, t1⟩ := T4.two
    obtain ⟨p0, p1, p2, p3, _⟩ := P4.four
    go_wp2_with fail
    with_reducible refine (WK'.out m _ hM).mono ?_
    rintro e w5 ⟨A5, c5, rfl, h5⟩
    have F5 : Hid (RWOut w ds ls (i, q) ⟨s, d, sp, dp⟩ (.returned (.tuple #[.slice A5 rl.length c5, .bool rb, .int .i64 0])) w5) := OUT1.out w5 (below_hkR D4 h5.out.2.2 LO.out.1 LO.out.2.1 LO.out.2.2) EX.out A5 c5 h5.out.1 (fun a ha => by
      have := h5.out.2.1 a ha
      exact ⟨by omega, this.2⟩)
    clear OUT1 T4 P4 D4 t0 t1 p0 p1 p2 p3 WK' h5 hM LO
    go_wp2_with fail
    go_ret3
    exact F5.out
end Go.Proofs.Ythioedgnambomaa
