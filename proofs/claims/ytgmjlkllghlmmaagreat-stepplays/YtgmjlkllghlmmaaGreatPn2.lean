/-
  StepPlays: the closures of the mind.
-/
import Derived.Test.YtgmjlkllghlmmaaGreatPn1
import Derived.Deep.RegionHeld3
namespace Go.Proofs.YtgmjlkllghlmmaaGreat
open Go.RowKit Go.Maps

theorem packet_eqM (a b : Pk) (w : World) : (binOp .eql 39 (.agg #[.int .i64 a.s, .int .i64 a.d, .int .i64 a.sp, .int .i64 a.dp]) (.agg #[.int .i64 b.s, .int .i64 b.d, .int .i64 b.sp, .int .i64 b.dp])).run Tryz.prog w = .ok (.bool (pkB a b)) w := by
  obtain ⟨s, d, sp, dp⟩ := a
  obtain ⟨s', d', sp', dp'⟩ := b
  unfold pkB
  cases h1 : (s == s') <;> cases h2 : (d == d') <;> cases h3 : (sp == sp') <;> cases h4 : (dp == dp')
  all_goals simp [go_sem, Tryz.underlying39, Tryz.underlying3, h1, h2, h3, h4]
set_option maxHeartbeats 1000000 in
theorem back_any (p : Pk) (w : World) : Calls Tryz.prog 36 #[pkV p] w fun e w' => e = .returned (pkV (flipP p)) ∧ Below w.heap.size w w' := by
  have D2 := Below.alN (Below.alN (Below.refl w.heap.size w) (pkC p)) (.cells #[.int .i64 0, .int .i64 0, .int .i64 0, .int .i64 0] 39)
  have P2 := (bk_new w #[.int .i64 p.s, .int .i64 p.d, .int .i64 p.sp, .int .i64 p.dp] 39).alloc (.cells #[.int .i64 0, .int .i64 0, .int .i64 0, .int .i64 0] 39)
  have R2 := bk_new' (w.alloc (pkC p)) #[.int .i64 0, .int .i64 0, .int .i64 0, .int .i64 0] 39 (w.heap.size + 1) (by simp)
  obtain ⟨p0, p1, p2, p3, _⟩ := P2.four
  obtain ⟨r0, r1, r2, r3, f0, f1, f2, f3⟩ := R2.four
  obtain ⟨s, d, sp, dp⟩ := p
  dsimp only at *
  go_enter Tryz.func36, Tryz.ntmps36
  go_wp2_with fail
  refine bodyPost_ret (v := .agg #[.int .i64 d, .int .i64 s, .int .i64 dp, .int .i64 sp]) (by simp [results, Tryz.results36, go_sem]) rfl ⟨rfl, ?_⟩
  go_grown
set_option maxHeartbeats 2000000 in
set_option maxRecDepth 100000 in
theorem clo2 (f : Ft) (i q : Int) (p : Pk) (b1 b2 : Nat) (w : World) (hA : Hid (Bk w b1 #[.int .i64 i, .int .i64 q] 37)) (hP : Hid (Bk w b2 #[.int .i64 p.s, .int .i64 p.d, .int .i64 p.sp, .int .i64 p.dp] 39)) :
    Calls Tryz.prog 37 #[.agg #[.int .i64 f.i, .int .i64 f.p.s, .int .i64 f.p.d, .int .i64 f.p.sp, .int .i64 f.p.dp, .int .i64 f.n], .pointer (some ⟨b1, 0, none⟩), .pointer (some ⟨b2, 0, none⟩)] w fun e w' => e = .returned (.bool (ofPort i p.dp f)) ∧ Below w.heap.size w w' := by
  obtain ⟨fi, ⟨fs, fd, fsp, fdp⟩, fn⟩ := f
  dsimp only
  have X1 := bk_new w #[.int .i64 fi, .int .i64 fs, .int .i64 fd, .int .i64 fsp, .int .i64 fdp, .int .i64 fn] 101
  have D1 := Below.alN (Below.refl w.heap.size w) (.cells #[.int .i64 fi, .int .i64 fs, .int .i64 fd, .int .i64 fsp, .int .i64 fdp, .int .i64 fn] 101)
  obtain ⟨⟨x0, x1, x2, x3, x4, x5⟩, _⟩ := X1.six
  have Yb1 := hA.out.alloc (.cells #[.int .i64 fi, .int .i64 fs, .int .i64 fd, .int .i64 fsp, .int .i64 fdp, .int .i64 fn] 101)
  have Yb2 := hP.out.alloc (.cells #[.int .i64 fi, .int .i64 fs, .int .i64 fd, .int .i64 fsp, .int .i64 fdp, .int .i64 fn] 101)
  obtain ⟨a0, a1⟩ := Yb1.two
  obtain ⟨p0, p1, p2, p3, _⟩ := Yb2.four
  unfold ofPort
  dsimp only
  clear X1 hA hP
  cases h1 : (fi == i)
  · have h1p : ¬ fi = i := by simpa using h1
    go_enter Tryz.func37, Tryz.ntmps37
    go_wp2_with fail
    all_goals first | exact absurd (by assumption) h1p | skip
    go_ret
    exact ⟨by simp, D1⟩
  · obtain rfl : fi = i := by simpa using h1
    skip
    go_enter Tryz.func37, Tryz.ntmps37
    go_wp2_with fail
    go_ret
    exact ⟨by simp, D1⟩
set_option maxHeartbeats 2000000 in
set_option maxRecDepth 100000 in
theorem clo4 (f : Ft) (i q c : Int) (b1 b2 : Nat) (w : World) (hA : Hid (Bk w b1 #[.int .i64 i, .int .i64 q] 37)) (hC : Hid (Bk w b2 #[.int .i64 c] 3)) :
    Calls Tryz.prog 40 #[.agg #[.int .i64 f.i, .int .i64 f.p.s, .int .i64 f.p.d, .int .i64 f.p.sp, .int .i64 f.p.dp, .int .i64 f.n], .pointer (some ⟨b1, 0, none⟩), .pointer (some ⟨b2, 0, none⟩)] w fun e w' => e = .returned (.bool (ofPort i c f)) ∧ Below w.heap.size w w' := by
  obtain ⟨fi, ⟨fs, fd, fsp, fdp⟩, fn⟩ := f
  dsimp only
  have X1 := bk_new w #[.int .i64 fi, .int .i64 fs, .int .i64 fd, .int .i64 fsp, .int .i64 fdp, .int .i64 fn] 101
  have D1 := Below.alN (Below.refl w.heap.size w) (.cells #[.int .i64 fi, .int .i64 fs, .int .i64 fd, .int .i64 fsp, .int .i64 fdp, .int .i64 fn] 101)
  obtain ⟨⟨x0, x1, x2, x3, x4, x5⟩, _⟩ := X1.six
  have Yb1 := hA.out.alloc (.cells #[.int .i64 fi, .int .i64 fs, .int .i64 fd, .int .i64 fsp, .int .i64 fdp, .int .i64 fn] 101)
  have Yb2 := hC.out.alloc (.cells #[.int .i64 fi, .int .i64 fs, .int .i64 fd, .int .i64 fsp, .int .i64 fdp, .int .i64 fn] 101)
  obtain ⟨a0, a1⟩ := Yb1.two
  have y0 := Yb2.at 0
  unfold ofPort
  dsimp only
  clear X1 hA hC
  cases h1 : (fi == i)
  · have h1p : ¬ fi = i := by simpa using h1
    go_enter Tryz.func40, Tryz.ntmps40
    go_wp2_with fail
    all_goals first | exact absurd (by assumption) h1p | skip
    go_ret
    exact ⟨by simp, D1⟩
  · obtain rfl : fi = i := by simpa using h1
    skip
    go_enter Tryz.func40, Tryz.ntmps40
    go_wp2_with fail
    go_ret
    exact ⟨by simp, D1⟩
set_option maxHeartbeats 2000000 in
set_option maxRecDepth 100000 in
theorem clo3 (f : Ft) (i q : Int) (p : Pk) (b1 b2 : Nat) (w : World) (hA : Hid (Bk w b1 #[.int .i64 i, .int .i64 q] 37)) (hP : Hid (Bk w b2 #[.int .i64 p.s, .int .i64 p.d, .int .i64 p.sp, .int .i64 p.dp] 39)) :
    Calls Tryz.prog 38 #[.agg #[.int .i64 f.i, .int .i64 f.p.s, .int .i64 f.p.d, .int .i64 f.p.sp, .int .i64 f.p.dp, .int .i64 f.n], .pointer (some ⟨b1, 0, none⟩), .pointer (some ⟨b2, 0, none⟩)] w fun e w' => e = .returned (.bool (ofFlow i p f)) ∧ Below w.heap.size w w' := by
  obtain ⟨fi, ⟨fs, fd, fsp, fdp⟩, fn⟩ := f
  dsimp only
  have X1 := bk_new w #[.int .i64 fi, .int .i64 fs, .int .i64 fd, .int .i64 fsp, .int .i64 fdp, .int .i64 fn] 101
  have D1 := Below.alN (Below.refl w.heap.size w) (.cells #[.int .i64 fi, .int .i64 fs, .int .i64 fd, .int .i64 fsp, .int .i64 fdp, .int .i64 fn] 101)
  obtain ⟨⟨x0, x1, x2, x3, x4, x5⟩, _⟩ := X1.six
  have Yb1 := hA.out.alloc (.cells #[.int .i64 fi, .int .i64 fs, .int .i64 fd, .int .i64 fsp, .int .i64 fdp, .int .i64 fn] 101)
  have Yb2 := hP.out.alloc (.cells #[.int .i64 fi, .int .i64 fs, .int .i64 fd, .int .i64 fsp, .int .i64 fdp, .int .i64 fn] 101)
  obtain ⟨a0, a1⟩ := Yb1.two
  obtain ⟨p0, p1, p2, p3, _⟩ := Yb2.four
  have PE := fun w => packet_eqM ⟨fs, fd, fsp, fdp⟩ p w
  unfold ofFlow
  dsimp only at *
  generalize pkB ⟨fs, fd, fsp, fdp⟩ p = pb at *
  clear X1 hA hP
  cases h1 : (fi == i)
  · have h1p : ¬ fi = i := by simpa using h1
    go_enter Tryz.func38, Tryz.ntmps38
    go_wp2_with fail
    all_goals first | exact absurd (by assumption) h1p | skip
    go_ret
    exact ⟨by simp, D1⟩
  · obtain rfl : fi = i := by simpa using h1
    skip
    go_enter Tryz.func38, Tryz.ntmps38
    go_wp2_with fail
    go_ret
    exact ⟨by simp, D1⟩
set_option maxHeartbeats 2000000 in
set_option maxRecDepth 100000 in
theorem clo6 (f : Ft) (i q : Int) (p : Pk) (b1 b2 : Nat) (w : World) (hA : Hid (Bk w b1 #[.int .i64 i, .int .i64 q] 37)) (hP : Hid (Bk w b2 #[.int .i64 p.s, .int .i64 p.d, .int .i64 p.sp, .int .i64 p.dp] 39)) :
    Calls Tryz.prog 42 #[.agg #[.int .i64 f.i, .int .i64 f.p.s, .int .i64 f.p.d, .int .i64 f.p.sp, .int .i64 f.p.dp, .int .i64 f.n], .pointer (some ⟨b1, 0, none⟩), .pointer (some ⟨b2, 0, none⟩)] w fun e w' => e = .returned (.bool (ofFlow i p f)) ∧ Below w.heap.size w w' := by
  obtain ⟨fi, ⟨fs, fd, fsp, fdp⟩, fn⟩ := f
  dsimp only
  have X1 := bk_new w #[.int .i64 fi, .int .i64 fs, .int .i64 fd, .int .i64 fsp, .int .i64 fdp, .int .i64 fn] 101
  have D1 := Below.alN (Below.refl w.heap.size w) (.cells #[.int .i64 fi, .int .i64 fs, .int .i64 fd, .int .i64 fsp, .int .i64 fdp, .int .i64 fn] 101)
  obtain ⟨⟨x0, x1, x2, x3, x4, x5⟩, _⟩ := X1.six
  have Yb1 := hA.out.alloc (.cells #[.int .i64 fi, .int .i64 fs, .int .i64 fd, .int .i64 fsp, .int .i64 fdp, .int .i64 fn] 101)
  have Yb2 := hP.out.alloc (.cells #[.int .i64 fi, .int .i64 fs, .int .i64 fd, .int .i64 fsp, .int .i64 fdp, .int .i64 fn] 101)
  obtain ⟨a0, a1⟩ := Yb1.two
  obtain ⟨p0, p1, p2, p3, _⟩ := Yb2.four
  have PE := fun w => packet_eqM ⟨fs, fd, fsp, fdp⟩ p w
  unfold ofFlow
  dsimp only at *
  generalize pkB ⟨fs, fd, fsp, fdp⟩ p = pb at *
  clear X1 hA hP
  cases h1 : (fi == i)
  · have h1p : ¬ fi = i := by simpa using h1
    go_enter Tryz.func42, Tryz.ntmps42
    go_wp2_with fail
    all_goals first | exact absurd (by assumption) h1p | skip
    go_ret
    exact ⟨by simp, D1⟩
  · obtain rfl : fi = i := by simpa using h1
    skip
    go_enter Tryz.func42, Tryz.ntmps42
    go_wp2_with fail
    go_ret
    exact ⟨by simp, D1⟩
set_option maxHeartbeats 2000000 in
set_option maxRecDepth 100000 in
theorem clo5 (f : Ft) (i q : Int) (p o : Pk) (b1 b2 b3 : Nat) (w : World) (hA : Hid (Bk w b1 #[.int .i64 i, .int .i64 q] 37)) (hO : Hid (Bk w b3 #[.int .i64 o.s, .int .i64 o.d, .int .i64 o.sp, .int .i64 o.dp] 39)) (hP : Hid (Bk w b2 #[.int .i64 p.s, .int .i64 p.d, .int .i64 p.sp, .int .i64 p.dp] 39)) :
    Calls Tryz.prog 41 #[.agg #[.int .i64 f.i, .int .i64 f.p.s, .int .i64 f.p.d, .int .i64 f.p.sp, .int .i64 f.p.dp, .int .i64 f.n], .pointer (some ⟨b1, 0, none⟩), .pointer (some ⟨b3, 0, none⟩), .pointer (some ⟨b2, 0, none⟩)] w fun e w' => e = .returned (.bool (ftB f ⟨i, o, p.s⟩)) ∧ Below w.heap.size w w' := by
  obtain ⟨fi, ⟨fs, fd, fsp, fdp⟩, fn⟩ := f
  dsimp only
  have X1 := bk_new w #[.int .i64 fi, .int .i64 fs, .int .i64 fd, .int .i64 fsp, .int .i64 fdp, .int .i64 fn] 101
  have D1 := Below.alN (Below.refl w.heap.size w) (.cells #[.int .i64 fi, .int .i64 fs, .int .i64 fd, .int .i64 fsp, .int .i64 fdp, .int .i64 fn] 101)
  obtain ⟨⟨x0, x1, x2, x3, x4, x5⟩, _⟩ := X1.six
  have Yb1 := hA.out.alloc (.cells #[.int .i64 fi, .int .i64 fs, .int .i64 fd, .int .i64 fsp, .int .i64 fdp, .int .i64 fn] 101)
  have Yb3 := hO.out.alloc (.cells #[.int .i64 fi, .int .i64 fs, .int .i64 fd, .int .i64 fsp, .int .i64 fdp, .int .i64 fn] 101)
  have Yb2 := hP.out.alloc (.cells #[.int .i64 fi, .int .i64 fs, .int .i64 fd, .int .i64 fsp, .int .i64 fdp, .int .i64 fn] 101)
  obtain ⟨a0, a1⟩ := Yb1.two
  obtain ⟨o0, o1, o2, o3, _⟩ := Yb3.four
  obtain ⟨p0, p1, p2, p3, _⟩ := Yb2.four
  have PE := fun w => packet_eqM ⟨fs, fd, fsp, fdp⟩ o w
  unfold ftB
  dsimp only at *
  generalize pkB ⟨fs, fd, fsp, fdp⟩ o = pb at *
  clear X1 hA hO hP
  cases h1 : (fi == i)
  · have h1p : ¬ fi = i := by simpa using h1
    go_enter Tryz.func41, Tryz.ntmps41
    go_wp2_with fail
    all_goals first | exact absurd (by assumption) h1p | skip
    go_ret
    exact ⟨by simp, D1⟩
  · obtain rfl : fi = i := by simpa using h1
    cases pb
    · go_enter Tryz.func41, Tryz.ntmps41
      go_wp2_with fail
      go_ret
      exact ⟨by simp, D1⟩
    · go_enter Tryz.func41, Tryz.ntmps41
      go_wp2_with fail
      go_ret
      exact ⟨by simp, D1⟩
set_option maxHeartbeats 2000000 in
set_option maxRecDepth 100000 in
theorem clo7 (f : Ft) (i kd port : Int) (p : Pk) (b1 b2 b3 b4 : Nat) (w : World) (hI : Hid (Bk w b1 #[.int .i64 i] 3)) (hK : Hid (Bk w b3 #[.int .i64 kd] 3)) (hQ : Hid (Bk w b4 #[.int .i64 port] 3)) (hP : Hid (Bk w b2 #[.int .i64 p.s, .int .i64 p.d, .int .i64 p.sp, .int .i64 p.dp] 39)) :
    Calls Tryz.prog 48 #[.agg #[.int .i64 f.i, .int .i64 f.p.s, .int .i64 f.p.d, .int .i64 f.p.sp, .int .i64 f.p.dp, .int .i64 f.n], .pointer (some ⟨b1, 0, none⟩), .pointer (some ⟨b3, 0, none⟩), .pointer (some ⟨b4, 0, none⟩), .pointer (some ⟨b2, 0, none⟩)] w fun e w' => e = .returned (.bool (ofGone kd i p port f)) ∧ Below w.heap.size w w' := by
  obtain ⟨fi, ⟨fs, fd, fsp, fdp⟩, fn⟩ := f
  dsimp only
  have X1 := bk_new w #[.int .i64 fi, .int .i64 fs, .int .i64 fd, .int .i64 fsp, .int .i64 fdp, .int .i64 fn] 101
  have D1 := Below.alN (Below.refl w.heap.size w) (.cells #[.int .i64 fi, .int .i64 fs, .int .i64 fd, .int .i64 fsp, .int .i64 fdp, .int .i64 fn] 101)
  obtain ⟨⟨x0, x1, x2, x3, x4, x5⟩, _⟩ := X1.six
  have Yb1 := hI.out.alloc (.cells #[.int .i64 fi, .int .i64 fs, .int .i64 fd, .int .i64 fsp, .int .i64 fdp, .int .i64 fn] 101)
  have Yb3 := hK.out.alloc (.cells #[.int .i64 fi, .int .i64 fs, .int .i64 fd, .int .i64 fsp, .int .i64 fdp, .int .i64 fn] 101)
  have Yb4 := hQ.out.alloc (.cells #[.int .i64 fi, .int .i64 fs, .int .i64 fd, .int .i64 fsp, .int .i64 fdp, .int .i64 fn] 101)
  have Yb2 := hP.out.alloc (.cells #[.int .i64 fi, .int .i64 fs, .int .i64 fd, .int .i64 fsp, .int .i64 fdp, .int .i64 fn] 101)
  have a0 := Yb1.at 0
  have a1 := Yb3.at 0
  have a2 := Yb4.at 0
  obtain ⟨p0, p1, p2, p3, _⟩ := Yb2.four
  have PE := fun w => packet_eqM ⟨fs, fd, fsp, fdp⟩ p w
  unfold ofGone
  dsimp only at *
  generalize pkB ⟨fs, fd, fsp, fdp⟩ p = pb at *
  clear X1 hI hK hQ hP
  cases h1 : (fi == i)
  · have h1p : ¬ fi = i := by simpa using h1
    go_enter Tryz.func48, Tryz.ntmps48
    go_wp2_with fail
    all_goals first | exact absurd (by assumption) h1p | skip
    go_ret
    exact ⟨by simp, D1⟩
  · obtain rfl : fi = i := by simpa using h1
    cases h4 : (kd == 4)
    · have h4p : ¬ kd = 4 := by simpa using h4
      go_enter Tryz.func48, Tryz.ntmps48
      go_wp2_with fail
      all_goals first | exact absurd (by assumption) h4p | skip
      go_ret
      exact ⟨by first | (simp; done) | (simp [h4p]; done) | (simp_all; done), D1⟩
    · obtain rfl : kd = 4 := by simpa using h4
      cases h5 : (fn == port)
      · have h5p : ¬ fn = port := by simpa using h5
        go_enter Tryz.func48, Tryz.ntmps48
        go_wp2_with fail
        all_goals first | exact absurd (by assumption) h5p | skip
        go_ret
        exact ⟨by simp, D1⟩
      · obtain rfl : fn = port := by simpa using h5
        go_enter Tryz.func48, Tryz.ntmps48
        go_wp2_with fail
        go_ret
        exact ⟨by simp, D1⟩
set_option maxHeartbeats 2000000 in
set_option maxRecDepth 100000 in
theorem clo1 (f : Ft) (i q : Int) (p : Pk) (b1 b2 : Nat) (w : World) (hA : Hid (Bk w b1 #[.int .i64 i, .int .i64 q] 37)) (hP : Hid (Bk w b2 #[.int .i64 p.s, .int .i64 p.d, .int .i64 p.sp, .int .i64 p.dp] 39)) :
    Calls Tryz.prog 35 #[.agg #[.int .i64 f.i, .int .i64 f.p.s, .int .i64 f.p.d, .int .i64 f.p.sp, .int .i64 f.p.dp, .int .i64 f.n], .pointer (some ⟨b1, 0, none⟩), .pointer (some ⟨b2, 0, none⟩)] w fun e w' => e = .returned (.bool (ofFlow i (flipP p) f)) ∧ Below w.heap.size w w' := by
  obtain ⟨fi, ⟨fs, fd, fsp, fdp⟩, fn⟩ := f
  dsimp only
  have X1 := bk_new w #[.int .i64 fi, .int .i64 fs, .int .i64 fd, .int .i64 fsp, .int .i64 fdp, .int .i64 fn] 101
  have D1 := Below.alN (Below.refl w.heap.size w) (.cells #[.int .i64 fi, .int .i64 fs, .int .i64 fd, .int .i64 fsp, .int .i64 fdp, .int .i64 fn] 101)
  obtain ⟨⟨x0, x1, x2, x3, x4, x5⟩, _⟩ := X1.six
  have Yb1 := hA.out.alloc (.cells #[.int .i64 fi, .int .i64 fs, .int .i64 fd, .int .i64 fsp, .int .i64 fdp, .int .i64 fn] 101)
  have Yb2 := hP.out.alloc (.cells #[.int .i64 fi, .int .i64 fs, .int .i64 fd, .int .i64 fsp, .int .i64 fdp, .int .i64 fn] 101)
  obtain ⟨a0, a1⟩ := Yb1.two
  obtain ⟨p0, p1, p2, p3, _⟩ := Yb2.four
  have PE := fun w => packet_eqM ⟨fs, fd, fsp, fdp⟩ (flipP p) w
  have BK1 : Hid (∀ W, Calls Tryz.prog 36 #[.agg #[.int .i64 p.s, .int .i64 p.d, .int .i64 p.sp, .int .i64 p.dp]] W fun e w' => e = .returned (.agg #[.int .i64 p.d, .int .i64 p.s, .int .i64 p.dp, .int .i64 p.sp]) ∧ Below W.heap.size W w') := fun W => back_any p W
  have B0 : Below (w.alloc (.cells #[.int .i64 fi, .int .i64 fs, .int .i64 fd, .int .i64 fsp, .int .i64 fdp, .int .i64 fn] 101)).heap.size (w.alloc (.cells #[.int .i64 fi, .int .i64 fs, .int .i64 fd, .int .i64 fsp, .int .i64 fdp, .int .i64 fn] 101)) (w.alloc (.cells #[.int .i64 fi, .int .i64 fs, .int .i64 fd, .int .i64 fsp, .int .i64 fdp, .int .i64 fn] 101)).drew := (Below.refl _ _).drew
  have KE : ∀ {w' : World}, Below (w.alloc (.cells #[.int .i64 fi, .int .i64 fs, .int .i64 fd, .int .i64 fsp, .int .i64 fdp, .int .i64 fn] 101)).heap.size (w.alloc (.cells #[.int .i64 fi, .int .i64 fs, .int .i64 fd, .int .i64 fsp, .int .i64 fdp, .int .i64 fn] 101)) w' → w'.cell? ⟨w.heap.size, 0, none⟩ = some (.int .i64 fi) ∧ w'.cell? ⟨w.heap.size, 1, none⟩ = some (.int .i64 fs) ∧ w'.cell? ⟨w.heap.size, 2, none⟩ = some (.int .i64 fd) ∧ w'.cell? ⟨w.heap.size, 3, none⟩ = some (.int .i64 fsp) ∧ w'.cell? ⟨w.heap.size, 4, none⟩ = some (.int .i64 fdp) ∧ w'.cell? ⟨b1, 0, none⟩ = some (.int .i64 i) ∧ w'.cell? ⟨b2, 0, none⟩ = some (.int .i64 p.s) ∧ w'.cell? ⟨b2, 1, none⟩ = some (.int .i64 p.d) ∧ w'.cell? ⟨b2, 2, none⟩ = some (.int .i64 p.sp) ∧ w'.cell? ⟨b2, 3, none⟩ = some (.int .i64 p.dp) := fun hb => by
    have X := X1.keep hb
    have Y := Yb1.keep hb
    have Z := Yb2.keep hb
    exact ⟨X.at 0, X.at 1, X.at 2, X.at 3, X.at 4, Y.at 0, Z.at 0, Z.at 1, Z.at 2, Z.at 3⟩
  unfold ofFlow flipP at *
  dsimp only at *
  generalize pkB ⟨fs, fd, fsp, fdp⟩ ⟨p.d, p.s, p.dp, p.sp⟩ = pb at *
  clear X1 hA hP
  cases h1 : (fi == i)
  · have h1p : ¬ fi = i := by simpa using h1
    go_enter Tryz.func35, Tryz.ntmps35
    go_upto_region 1 with fail
    go_region
    all_goals
      go_wp2_with fail
      all_goals first | exact absurd (by assumption) h1p | skip
      go_ret
      exact ⟨by simp, D1.drew⟩
  · have h1p : fi = i := by simpa using h1
    subst h1p
    go_enter Tryz.func35, Tryz.ntmps35
    go_upto_region 1 with fail
    go_region_held3 (fun w' => w'.cell? ⟨w.heap.size, 0, none⟩ = some (.int .i64 fi) ∧ w'.cell? ⟨w.heap.size, 1, none⟩ = some (.int .i64 fs) ∧ w'.cell? ⟨w.heap.size, 2, none⟩ = some (.int .i64 fd) ∧ w'.cell? ⟨w.heap.size, 3, none⟩ = some (.int .i64 fsp) ∧ w'.cell? ⟨w.heap.size, 4, none⟩ = some (.int .i64 fdp) ∧ w'.cell? ⟨b1, 0, none⟩ = some (.int .i64 fi) ∧ w'.cell? ⟨b2, 0, none⟩ = some (.int .i64 p.s) ∧ w'.cell? ⟨b2, 1, none⟩ = some (.int .i64 p.d) ∧ w'.cell? ⟨b2, 2, none⟩ = some (.int .i64 p.sp) ∧ w'.cell? ⟨b2, 3, none⟩ = some (.int .i64 p.dp)) (exact KE (by first | exact Bf | exact B0)) (first | (go_at_call 36; (with_reducible refine (BK1.out _).mono ?_); rintro e wf ⟨rfl, hbf⟩; have Bf := chnN hbf B0))
    all_goals
      go_wp2_with fail
      first
        | (go_ret; exact ⟨by simp, chnN Bf D1⟩)
        | exact ⟨by simp, chnN Bf D1⟩
end Go.Proofs.YtgmjlkllghlmmaaGreat
