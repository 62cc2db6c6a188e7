/-
  Package world: Do.
-/
import Derived.Test.YtepfckicaafilabWa8
namespace Go.Proofs.Ytepfckicaafilab
open Go.RowKit Go.Maps

/-- An event. -/
structure Ev where
  k : Int
  i : Int
  q : Int
  p : Pk
  c : Int
structure Ev.ok (x : Ev) : Prop where
  i : i64ok x.i
  q : i64ok x.q
  p : x.p.ok
  c : i64ok x.c
noncomputable def doP (ds : List Dv) (ls : List Lk) (M : Mnd) (ar : List Arv) (x : Ev) : Int × Mnd × List Arv :=
  if x.k = 1 then ((injP ds ls ar x.i x.p).1, M, (injP ds ls ar x.i x.p).2)
  else if x.k = 2 then hopP ds ls M ar x.i x.q x.p x.c
  else if x.k = 3 then ((forgetP ds M x.i x.p x.c).err, (forgetP ds M x.i x.p x.c).M, ar)
  else (1, M, ar)
theorem AOut.mono {w w' : World} {p : Wp} {S : Option Addr} {ds : List Dv} {ls : List Lk} {n n' : Nat} {M : Mnd} {ar : List Arv} (h : AOut w p S ds ls n M ar w') (hn : n ≤ n') : AOut w p S ds ls n' M ar w' := by
  obtain ⟨S', cS', h1, h2, h3⟩ := h
  exact ⟨S', cS', h1.mono hn, h2, h3⟩
set_option maxHeartbeats 8000000 in
set_option maxRecDepth 100000 in
theorem do_any {p : Wp} {S : Option Addr} {cS : Nat} {ds : List Dv} {ls : List Lk} {n : Nat} {M : Mnd} {ar : List Arv} (x : Ev) (w : World) (h : Hid (WlAt w p S cS ds ls n M ar)) (hx : Hid x.ok) (hz : Hid (netV ds ls = 0)) (hO : Hid ((handleP ds ls M x.i x.q x.p x.c).err = 0 → arvOk ((handleP ds ls M x.i x.q x.p x.c).tp, (handleP ds ls M x.i x.q x.p x.c).p))) (hn : n + 1 < maxLen) (ha : ar.length ≤ 5000) :
    Calls Try.prog 7 #[.pointer (some ⟨p.B, 0, none⟩), .agg #[.int .i64 x.k, .int .i64 x.i, .int .i64 x.q, .int .i64 x.p.s, .int .i64 x.p.d, .int .i64 x.p.sp, .int .i64 x.p.dp, .int .i64 x.c]] w fun e w' => e = .returned (.int .i64 (doP ds ls M ar x).1) ∧ AOut w p S ds ls (n + 1 + 1) (doP ds ls M ar x).2.1 (doP ds ls M ar x).2.2 w' := by
  have h1 := h.out.alloc (.cells #[.int .i64 x.k, .int .i64 x.i, .int .i64 x.q, .int .i64 x.p.s, .int .i64 x.p.d, .int .i64 x.p.sp, .int .i64 x.p.dp, .int .i64 x.c] 35)
  have D1 := Below.alN (Below.refl w.heap.size w) (.cells #[.int .i64 x.k, .int .i64 x.i, .int .i64 x.q, .int .i64 x.p.s, .int .i64 x.p.d, .int .i64 x.p.sp, .int .i64 x.p.dp, .int .i64 x.c] 35)
  have X1 := bk_new w #[.int .i64 x.k, .int .i64 x.i, .int .i64 x.q, .int .i64 x.p.s, .int .i64 x.p.d, .int .i64 x.p.sp, .int .i64 x.p.dp, .int .i64 x.c] 35
  have INJ : Hid (∀ W, WlAt W p S cS ds ls n M ar → Calls Try.prog 17 #[.pointer (some ⟨p.B, 0, none⟩), .int .i64 x.i, pkV x.p] W fun e w' => e = .returned (.int .i64 (injP ds ls ar x.i x.p).1) ∧ AOut W p S ds ls (n + 1) M (injP ds ls ar x.i x.p).2 w') := fun W hw => inject_any x.i x.p W hw hz (by omega) ha
  have HOP : Hid (∀ W, WlAt W p S cS ds ls n M ar → Calls Try.prog 18 #[.pointer (some ⟨p.B, 0, none⟩), plA x.i x.q, pkV x.p, .int .i64 x.c] W fun e w' => e = .returned (.int .i64 (hopP ds ls M ar x.i x.q x.p x.c).1) ∧ AOut W p S ds ls (n + 1 + 1) (hopP ds ls M ar x.i x.q x.p x.c).2.1 (hopP ds ls M ar x.i x.q x.p x.c).2.2 w') := fun W hw => hop_any x.i x.q x.p x.c W hw ⟨hx.out.i, hx.out.q, hx.out.p⟩ hx.out.c (addrs_of hz.out) hO hn ha
  have FGT : Hid (∀ W, WlAt W p S cS ds ls n M ar → Calls Try.prog 19 #[.pointer (some ⟨p.B, 2, none⟩), .int .i64 x.i, pkV x.p, .int .i64 x.c] W fun e w' => e = .returned (.int .i64 (forgetP ds M x.i x.p x.c).err) ∧ AOut W p S ds ls (n + 1 + 1) (forgetP ds M x.i x.p x.c).M ar w' ∧ CK W w') := fun W hw => (forget_any (p.m ds.length ls.length S cS ar.length) ds ls n M x.i x.p x.c W hw.mem hx.out.i hx.out.p hx.out.c).mono fun e w' ⟨h1, h2, h3⟩ => ⟨h1, ⟨S, cS, hw.hk (n' := n + 1 + 1) (by omega) (h2.mono (by omega)) h3, WF.of_hk h3, SG.refl _ _⟩, hw.mem.ck h3⟩
  obtain ⟨res, hres⟩ : ∃ res, doP ds ls M ar x = res := ⟨_, rfl⟩
  rw [hres]
  have e1 : Hid (x.k = 1 → res = ((injP ds ls ar x.i x.p).1, M, (injP ds ls ar x.i x.p).2)) := fun hk => by
    rw [← hres]; unfold doP; rw [if_pos hk]
  have e2 : Hid (x.k = 2 → res = hopP ds ls M ar x.i x.q x.p x.c) := fun hk => by
    rw [← hres]; unfold doP; rw [if_neg (by omega), if_pos hk]
  have e3 : Hid (x.k = 3 → res = ((forgetP ds M x.i x.p x.c).err, (forgetP ds M x.i x.p x.c).M, ar)) := fun hk => by
    rw [← hres]; unfold doP; rw [if_neg (by omega), if_neg (by omega), if_pos hk]
  have e4 : Hid (¬ x.k = 1 → ¬ x.k = 2 → ¬ x.k = 3 → res = (1, M, ar)) := fun a b c => by
    rw [← hres]; unfold doP; rw [if_neg a, if_neg b, if_neg c]
  have hf0 : AOut w p S ds ls (n + 1 + 1) M ar (w.alloc (.cells #[.int .i64 x.k, .int .i64 x.i, .int .i64 x.q, .int .i64 x.p.s, .int .i64 x.p.d, .int .i64 x.p.sp, .int .i64 x.p.dp, .int .i64 x.c] 35)) := (AOut.same h1 D1).mono (by omega)
  obtain ⟨k, i, q, ⟨s, d, sp, dp⟩, c⟩ := x
  dsimp only at *
  generalize injP ds ls ar i ⟨s, d, sp, dp⟩ = ri at *
  generalize hopP ds ls M ar i q ⟨s, d, sp, dp⟩ c = rh at *
  generalize forgetP ds M i ⟨s, d, sp, dp⟩ c = rf at *
  have x0 := X1.at 0
  have x1 := X1.at 1
  have x2 := X1.at 2
  have x3 := X1.at 3
  have x4 := X1.at 4
  have x5 := X1.at 5
  have x6 := X1.at 6
  have x7 := X1.at 7
  clear h hx hz hO hres
  by_cases h1' : k = 1
  · subst h1'
    have hv := e1.out rfl
    subst hv
    clear e1 e2 e3 e4 hf0 HOP FGT
    go_enter Try.func7, Try.ntmps7
    go_wp2_with fail
    with_reducible refine (INJ.out _ h1).mono ?_
    rintro e w2 ⟨rfl, hA⟩
    have hf := (AOut.from D1 hA).mono (Nat.le_succ (n + 1))
    go_wp2_with fail
    go_ret
    exact ⟨rfl, hf⟩
  have k1 : (k == 1) = false := by simpa using h1'
  by_cases h2' : k = 2
  · subst h2'
    have hv := e2.out rfl
    subst hv
    clear e1 e2 e3 e4 hf0 INJ FGT h1' k1
    go_enter Try.func7, Try.ntmps7
    go_wp2_with fail
    with_reducible refine (HOP.out _ h1).mono ?_
    rintro e w2 ⟨rfl, hA⟩
    have hf := AOut.from D1 hA
    go_wp2_with fail
    go_ret
    exact ⟨rfl, hf⟩
  have k2 : (k == 2) = false := by simpa using h2'
  by_cases h3' : k = 3
  rotate_left
  · have k3 : (k == 3) = false := by simpa using h3'
    have hv := e4.out h1' h2' h3'
    subst hv
    have N1 : Hid (¬ k = 1) := h1'
    have N2 : Hid (¬ k = 2) := h2'
    have N3 : Hid (¬ k = 3) := h3'
    clear e1 e2 e3 e4 INJ FGT HOP h1' h2' h3'
    go_enter Try.func7, Try.ntmps7
    go_wp2_with fail
    all_goals first | exact absurd (by assumption) N1.out | exact absurd (by assumption) N2.out | exact absurd (by assumption) N3.out | skip
    go_ret
    exact ⟨rfl, hf0⟩
  subst h3'
  have hv := e3.out rfl
  subst hv
  clear e1 e2 e3 e4 INJ HOP h1' h2' k1 k2 hf0
  have h1d := h1.drew
  have D1d := D1.drew
  have KE : ∀ {w' : World}, CK (w.alloc (.cells #[.int .i64 3, .int .i64 i, .int .i64 q, .int .i64 s, .int .i64 d, .int .i64 sp, .int .i64 dp, .int .i64 c] 35)).drew w' → w'.cell? ⟨w.heap.size, 1, none⟩ = some (.int .i64 i) ∧ w'.cell? ⟨w.heap.size, 3, none⟩ = some (.int .i64 s) ∧ w'.cell? ⟨w.heap.size, 4, none⟩ = some (.int .i64 d) ∧ w'.cell? ⟨w.heap.size, 5, none⟩ = some (.int .i64 sp) ∧ w'.cell? ⟨w.heap.size, 6, none⟩ = some (.int .i64 dp) ∧ w'.cell? ⟨w.heap.size, 7, none⟩ = some (.int .i64 c) := fun hc => by
    have X := X1.drew.ck hc
    exact ⟨X.at 1, X.at 3, X.at 4, X.at 5, X.at 6, X.at 7⟩
  have C0 : CK (w.alloc (.cells #[.int .i64 3, .int .i64 i, .int .i64 q, .int .i64 s, .int .i64 d, .int .i64 sp, .int .i64 dp, .int .i64 c] 35)).drew (w.alloc (.cells #[.int .i64 3, .int .i64 i, .int .i64 q, .int .i64 s, .int .i64 d, .int .i64 sp, .int .i64 dp, .int .i64 c] 35)).drew := ⟨Nat.le_refl _, fun _ _ _ => rfl⟩
  go_enter Try.func7, Try.ntmps7
  go_wp2_with fail
  go_region_held3 (fun w' => w'.cell? ⟨w.heap.size, 1, none⟩ = some (.int .i64 i) ∧ w'.cell? ⟨w.heap.size, 3, none⟩ = some (.int .i64 s) ∧ w'.cell? ⟨w.heap.size, 4, none⟩ = some (.int .i64 d) ∧ w'.cell? ⟨w.heap.size, 5, none⟩ = some (.int .i64 sp) ∧ w'.cell? ⟨w.heap.size, 6, none⟩ = some (.int .i64 dp) ∧ w'.cell? ⟨w.heap.size, 7, none⟩ = some (.int .i64 c)) (exact KE (by first | exact C2 | exact C0)) (first | (go_at_call 19; (with_reducible refine (FGT.out _ h1d).mono ?_); rintro e w2 ⟨rfl, hA, C2⟩))
  all_goals
    have hf := AOut.from D1d hA
    go_wp2_with fail
    first
      | exact ⟨rfl, hf⟩
      | (go_ret; exact ⟨rfl, hf⟩)
end Go.Proofs.Ytepfckicaafilab
