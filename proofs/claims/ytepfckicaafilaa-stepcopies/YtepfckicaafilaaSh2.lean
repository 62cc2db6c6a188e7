/-
  StepCopies: acts; two memories side by side.
-/
import Derived.Test.YtepfckicaafilaaSh1
import Derived.Test.YtepfckicaafilaaSe1
namespace Go.Proofs.Ytepfckicaafilaa
open Go.RowKit Go.Maps

/-- An act of a law. -/
structure Ac where
  k : Int
  i : Int
  q : Int
  p : Pk
  c : Int
structure Ac.ok (x : Ac) : Prop where
  i : i64ok x.i
  p : x.p.ok
  c : i64ok x.c
abbrev acV (x : Ac) : Value := .agg #[.int .i64 x.k, .int .i64 x.i, .int .i64 x.q, .int .i64 x.p.s, .int .i64 x.p.d, .int .i64 x.p.sp, .int .i64 x.p.dp, .int .i64 x.c]
abbrev acC (x : Ac) : Array Value := #[.int .i64 x.k, .int .i64 x.i, .int .i64 x.q, .int .i64 x.p.s, .int .i64 x.p.d, .int .i64 x.p.sp, .int .i64 x.p.dp, .int .i64 x.c]
noncomputable def actP (ds : List Dv) (ls : List Lk) (M : Mnd) (x : Ac) : Mnd := if x.k = 1 then (forgetP ds M x.i x.p x.c).M else (handleP ds ls M x.i x.q x.p x.c).M
def IsAc (cs : List Value) (x : Ac) : Prop := cs = [.int .i64 x.k, .int .i64 x.i, .int .i64 x.q, .int .i64 x.p.s, .int .i64 x.p.d, .int .i64 x.p.sp, .int .i64 x.p.dp, .int .i64 x.c] ∧ x.ok

theorem below_hk {w W W' : World} {m : Mp} (hb : Below w.heap.size w W) (hk : HK m W W') (lo : w.heap.size ≤ m.f ∧ w.heap.size ≤ m.o ∧ w.heap.size ≤ m.k) : Below w.heap.size w W' :=
  hb.trans ⟨hk.os, hk.tape, hk.output, hk.size, fun b h => by
    obtain ⟨l1, l2, l3⟩ := lo
    exact hk.block b (Nat.lt_of_lt_of_le h hb.size) (by omega) (by omega) (by omega)⟩
set_option maxHeartbeats 4000000 in
set_option maxRecDepth 100000 in
/-- An act on a memory. -/
theorem act_any (m : Mp) (ds : List Dv) (ls : List Lk) (n : Nat) (M : Mnd) (x : Ac) (W : World) (hM : MemAt W m ds ls n M) (hn : n < maxLen) (ha : AddrsOk ds) (hx : x.ok) :
    Calls Try.prog 19 #[.pointer (some ⟨m.B, 0, none⟩), acV x] W fun e w' => (∃ v, e = .returned v) ∧ MemAt w' m ds ls (n + 1) (actP ds ls M x) ∧ HK m W w' := by
  have X1 := bk_new W (acC x) 66
  have M1 := hM.alloc (.cells (acC x) 66)
  have K1 : HK m W (W.alloc (.cells (acC x) 66)) := HK.of_below ((Below.refl _ _).alloc (Nat.le_refl _) _)
  have FG : Hid (∀ W', MemAt W' m ds ls n M → Calls Try.prog 15 #[.pointer (some ⟨m.B, 0, none⟩), .int .i64 x.i, pkV x.p, .int .i64 x.c] W' fun e w' => e = .returned (.int .i64 (forgetP ds M x.i x.p x.c).err) ∧ MemAt w' m ds ls n (forgetP ds M x.i x.p x.c).M ∧ HK m W' w') := fun W' h => forget_any m ds ls n M x.i x.p x.c W' h hx.i hx.p hx.c
  have HD : Hid (∀ W', MemAt W' m ds ls n M → Calls Try.prog 10 #[.pointer (some ⟨m.B, 0, none⟩), plA x.i x.q, pkV x.p, .int .i64 x.c] W' fun e w' => e = .returned (.tuple #[arV (handleP ds ls M x.i x.q x.p x.c).tp (handleP ds ls M x.i x.q x.p x.c).p, .int .i64 (handleP ds ls M x.i x.q x.p x.c).err]) ∧ MemAt w' m ds ls (n + 1) (handleP ds ls M x.i x.q x.p x.c).M ∧ HK m W' w') := fun W' h => handle_any m ds ls n M x.i x.q x.p x.c W' h hn ha hx.i hx.c
  have fin1 : Hid (x.k = 1 → ∀ w', MemAt w' m ds ls n (forgetP ds M x.i x.p x.c).M → MemAt w' m ds ls (n + 1) (actP ds ls M x)) := fun h w' hm => by
    unfold actP
    rw [if_pos h]
    exact hm.mono (by omega)
  have fin2 : Hid (¬ x.k = 1 → ∀ w', MemAt w' m ds ls (n + 1) (handleP ds ls M x.i x.q x.p x.c).M → MemAt w' m ds ls (n + 1) (actP ds ls M x)) := fun h w' hm => by
    unfold actP
    rw [if_neg h]
    exact hm
  obtain ⟨k, i, q, ⟨s, d, sp, dp⟩, c⟩ := x
  have x0 := X1.at 0
  have x1 := X1.at 1
  have x2 := X1.at 2
  have x3 := X1.at 3
  have x4 := X1.at 4
  have x5 := X1.at 5
  have x6 := X1.at 6
  have x7 := X1.at 7
  clear hM hn ha hx X1
  dsimp only at *
  generalize forgetP ds M i ⟨s, d, sp, dp⟩ c = rf at *
  generalize handleP ds ls M i q ⟨s, d, sp, dp⟩ c = rh at *
  generalize actP ds ls M ⟨k, i, q, ⟨s, d, sp, dp⟩, c⟩ = MA at *
  generalize hQ : (fun W n M => MemAt W m ds ls n M) = Q at *
  by_cases hk : k = 1
  · subst hk
    go_enter Try.func19, Try.ntmps19
    go_wp2_with fail
    refine (FG.out _ M1).mono ?_
    rintro e w2 ⟨rfl, M2, K2⟩
    have M3 := fin1.out (by first | rfl | trivial) _ M2
    have K3 := K1.trans K2
    go_wp2_with fail
    go_end0
    exact ⟨⟨_, rfl⟩, M3, K3⟩
  · have hk1 : (k == 1) = false := by simpa using hk
    have HK1 : Hid (¬ k = 1) := hk
    clear hk
    go_enter Try.func19, Try.ntmps19
    go_wp2_with fail
    all_goals first | exact absurd (by assumption) HK1.out | skip
    refine (HD.out _ M1).mono ?_
    rintro e w2 ⟨rfl, M2, K2⟩
    have M3 := fin2.out HK1.out _ M2
    have K3 := K1.trans K2
    go_wp2_with fail
    go_end0
    exact ⟨⟨_, rfl⟩, M3, K3⟩
/-- Two memories of one net, apart. -/
structure PSt (w : World) (a b : Mp) (ds : List Dv) (ls : List Lk) (n : Nat) (M : Mnd) (n' : Nat) (M' : Mnd) (W : World) : Prop where
  a : MemAt W a ds ls n M
  b : MemAt W b ds ls n' M'
  below : Below w.heap.size w W
def Dj (a b : Mp) : Prop := ∀ x, (x = a.f ∨ x = a.o ∨ x = a.k) → x ≠ b.f ∧ x ≠ b.o ∧ x ≠ b.k
theorem Dj.symm {a b : Mp} (h : Dj a b) : Dj b a := fun x hx => by
  have h1 := h a.f (by simp)
  have h2 := h a.o (by simp)
  have h3 := h a.k (by simp)
  rcases hx with rfl | rfl | rfl
  · exact ⟨h1.1.symm, h2.1.symm, h3.1.symm⟩
  · exact ⟨h1.2.1.symm, h2.2.1.symm, h3.2.1.symm⟩
  · exact ⟨h1.2.2.symm, h2.2.2.symm, h3.2.2.symm⟩
def LoM (w : World) (m : Mp) : Prop := w.heap.size ≤ m.f ∧ w.heap.size ≤ m.o ∧ w.heap.size ≤ m.k
theorem Dj.of_lt {a b : Mp} {N : Nat} (h : a.f < N ∧ a.o < N ∧ a.k < N) (h' : N ≤ b.f ∧ N ≤ b.o ∧ N ≤ b.k) : Dj a b := fun x hx => by omega
section
variable {w W W' : World} {a b : Mp} {ds : List Dv} {ls : List Lk} {n n' : Nat} {M M' : Mnd}
theorem PSt.keep (h : PSt w a b ds ls n M n' M' W) (hb : Below W.heap.size W W') : PSt w a b ds ls n M n' M' W' := ⟨h.a.below hb, h.b.below hb, chnN hb h.below⟩
theorem PSt.alloc (h : PSt w a b ds ls n M n' M' W) (o : Obj) : PSt w a b ds ls n M n' M' (W.alloc o) := h.keep ((Below.refl _ _).alloc (Nat.le_refl _) o)
theorem PSt.actA (hd : Dj a b) (la : LoM w a) (ha : AddrsOk ds) (x : Ac) (hx : x.ok) (h : PSt w a b ds ls n M n' M' W) (hn : n < maxLen) : Calls Try.prog 19 #[.pointer (some ⟨a.B, 0, none⟩), acV x] W fun e w' => (∃ v, e = .returned v) ∧ PSt w a b ds ls (n + 1) (actP ds ls M x) n' M' w' ∧ CK W w' :=
  (act_any a ds ls n M x W h.a hn ha hx).mono fun _ _ ⟨h1, h2, h3⟩ => ⟨h1, ⟨h2, h.b.other h.a h3 hd.symm, below_hk h.below h3 la⟩, h.a.ck h3⟩
theorem PSt.actB (hd : Dj a b) (lb : LoM w b) (ha : AddrsOk ds) (x : Ac) (hx : x.ok) (h : PSt w a b ds ls n M n' M' W) (hn : n' < maxLen) : Calls Try.prog 19 #[.pointer (some ⟨b.B, 0, none⟩), acV x] W fun e w' => (∃ v, e = .returned v) ∧ PSt w a b ds ls n M (n' + 1) (actP ds ls M' x) w' ∧ CK W w' :=
  (act_any b ds ls n' M' x W h.b hn ha hx).mono fun _ _ ⟨h1, h2, h3⟩ => ⟨h1, ⟨h.a.other h.b h3 hd, h2, below_hk h.below h3 lb⟩, h.b.ck h3⟩
theorem PSt.hA (hd : Dj a b) (la : LoM w a) (ha : AddrsOk ds) (i q : Int) (p : Pk) (c : Int) (hi : i64ok i) (hc : i64ok c) (h : PSt w a b ds ls n M n' M' W) (hn : n < maxLen) : Calls Try.prog 10 #[.pointer (some ⟨a.B, 0, none⟩), plA i q, pkV p, .int .i64 c] W fun e w' => e = .returned (.tuple #[arV (handleP ds ls M i q p c).tp (handleP ds ls M i q p c).p, .int .i64 (handleP ds ls M i q p c).err]) ∧ PSt w a b ds ls (n + 1) (handleP ds ls M i q p c).M n' M' w' ∧ CK W w' :=
  (handle_any a ds ls n M i q p c W h.a hn ha hi hc).mono fun _ _ ⟨h1, h2, h3⟩ => ⟨h1, ⟨h2, h.b.other h.a h3 hd.symm, below_hk h.below h3 la⟩, h.a.ck h3⟩
theorem PSt.hB (hd : Dj a b) (lb : LoM w b) (ha : AddrsOk ds) (i q : Int) (p : Pk) (c : Int) (hi : i64ok i) (hc : i64ok c) (h : PSt w a b ds ls n M n' M' W) (hn : n' < maxLen) : Calls Try.prog 10 #[.pointer (some ⟨b.B, 0, none⟩), plA i q, pkV p, .int .i64 c] W fun e w' => e = .returned (.tuple #[arV (handleP ds ls M' i q p c).tp (handleP ds ls M' i q p c).p, .int .i64 (handleP ds ls M' i q p c).err]) ∧ PSt w a b ds ls n M (n' + 1) (handleP ds ls M' i q p c).M w' ∧ CK W w' :=
  (handle_any b ds ls n' M' i q p c W h.b hn ha hi hc).mono fun _ _ ⟨h1, h2, h3⟩ => ⟨h1, ⟨h.a.other h.b h3 hd, h2, below_hk h.below h3 lb⟩, h.b.ck h3⟩
/-- An act on a third one. -/
theorem PSt.actC {m : Mp} {n2 : Nat} {M2 : Mnd} (ha : Dj a m) (hb : Dj b m) (lm : LoM w m) (hA : AddrsOk ds) (x : Ac) (hx : x.ok) (h : PSt w a b ds ls n M n' M' W ∧ MemAt W m ds ls n2 M2) (hn : n2 < maxLen) : Calls Try.prog 19 #[.pointer (some ⟨m.B, 0, none⟩), acV x] W fun e w' => (∃ v, e = .returned v) ∧ (PSt w a b ds ls n M n' M' w' ∧ MemAt w' m ds ls (n2 + 1) (actP ds ls M2 x)) ∧ CK W w' :=
  (act_any m ds ls n2 M2 x W h.2 hn hA hx).mono fun _ _ ⟨h1, h2, h3⟩ => ⟨h1, ⟨⟨h.1.a.other h.2 h3 ha, h.1.b.other h.2 h3 hb, below_hk h.1.below h3 lm⟩, h2⟩, h.2.ck h3⟩
end
end Go.Proofs.Ytepfckicaafilaa
