/-
  Package world: arrive, walked.
-/
import Derived.Test.YtepfckicaafilabWa4
import Derived.Deep.RegionLaw
namespace Go.Proofs.Ytepfckicaafilab
open Go.RowKit Go.Maps

set_option maxHeartbeats 8000000 in
set_option maxRecDepth 100000 in
theorem arrive_any {p : Wp} {S : Option Addr} {cS : Nat} {ds : List Dv} {ls : List Lk} {n : Nat} {M : Mnd} {ar : List Arv} (x : Arv) (w : World) (h : Hid (WlAt w p S cS ds ls n M ar)) (hx : Hid (arvOk x)) (hn : n < maxLen) (ha : ar.length ≤ 5000) :
    Calls Try.prog 30 #[.pointer (some ⟨p.B, 0, none⟩), arV x.1 x.2] w fun e w' => (∃ v, e = .returned v) ∧ AOut w p S ds ls (n + 1) M (addA ar x) w' := by
  have h1 := h.out.alloc (.cells #[.int .i64 x.1.1, .int .i64 x.1.2, .int .i64 x.2.s, .int .i64 x.2.d, .int .i64 x.2.sp, .int .i64 x.2.dp] 43)
  have D1 := Below.alN (Below.refl w.heap.size w) (.cells #[.int .i64 x.1.1, .int .i64 x.1.2, .int .i64 x.2.s, .int .i64 x.2.d, .int .i64 x.2.sp, .int .i64 x.2.dp] 43)
  have X1 := bk_new w #[.int .i64 x.1.1, .int .i64 x.1.2, .int .i64 x.2.s, .int .i64 x.2.d, .int .i64 x.2.sp, .int .i64 x.2.dp] 43
  have HS : Hid (∀ W, WlAt W p S cS ds ls n M ar → Calls Try.prog 9 #[.pointer (some ⟨p.B, 0, none⟩), plA x.1.1 x.1.2, pkV x.2] W fun e w' => e = .returned (.bool (inF ar x).isSome) ∧ Below W.heap.size W w') := fun W hw => whas_any x W hw hx.out
  have fin0 : Hid ((inF ar x).isSome = true → ∀ w', WlAt w' p S cS ds ls n M ar → Below w.heap.size w w' → AOut w p S ds ls (n + 1) M (addA ar x) w') := fun hi w' hw hb => by
    unfold addA
    rw [if_pos (inF_in.1 hi)]
    exact ⟨S, cS, hw.mono (by omega), WF.of_below hb, SG.refl _ _⟩
  have fin1 : Hid ((inF ar x).isSome = false → addA ar x = ar ++ [x]) := fun hi => by
    unfold addA
    rw [if_neg (fun e => by rw [inF_in.2 e] at hi; cases hi)]
  have fin2 : Hid (∀ w2 w3 w7 v7, WlAt w2 p S cS ds ls n M ar → Below w.heap.size w w2 → MapAt arvE unitV w3 p.G (n + 1) (putF (inF ar) x ()) → w2.drew.mapTurned w3 p.G → w7.ownsRow (p.B + 1) 43 6 v7 (ar.length + 1) (ar.flatMap arC ++ arC x) → Below (p.B + 1) w3.drew w7 → KeptB w3.drew w7 (Value.slice S ar.length cS).ownBlock → (v7.ownBlock = (Value.slice S ar.length cS).ownBlock ∨ ∃ g, v7.ownBlock = some g ∧ w3.drew.heap.size ≤ g) → AOut w p S ds ls (n + 1) M (ar ++ [x]) (w7.setCell ⟨p.B, 7, none⟩ v7)) := fun w2 w3 w7 v7 q1 q2 q3 q4 q5 q6 q7 q8 => aout_new hx.out q2 q1 q3 q4 q5 q6 q7 q8
  have ST : Hid (∀ W, WlAt W p S cS ds ls n M ar → ∃ w3, (Instr.mapUpdate 69 (.map (some p.G)) (.agg #[.int .i64 x.1.1, .int .i64 x.1.2, .int .i64 x.2.s, .int .i64 x.2.d, .int .i64 x.2.sp, .int .i64 x.2.dp]) (.agg #[])).run Try.prog W = .ok () w3 ∧ MapAt arvE unitV w3 p.G (n + 1) (putF (inF ar) x ()) ∧ W.mapTurned w3 p.G) := fun W hw => hw.was.store uMw hn (x := x) hx.out ()
  obtain ⟨⟨i, q⟩, ⟨s, d, sp, dp⟩⟩ := x
  dsimp only at *
  obtain ⟨⟨x0, x1, x2, x3, x4, x5⟩, _⟩ := X1.six
  have h1' := h1.blk.at 8
  clear h
  go_enter Try.func30, Try.ntmps30
  go_wp2_with fail
  refine (HS.out _ h1).mono ?_
  rintro e w2 ⟨rfl, hb2⟩
  have h2 := h1.below hb2
  have D2 := chnN hb2 D1
  have X2 := X1.keep hb2
  clear hb2 h1 D1 X1 x0 x1 x2 x3 x4 x5 HS h1'
  cases hv : (inF ar ((i, q), ⟨s, d, sp, dp⟩)).isSome
  rotate_left
  · have hf := fin0.out hv _ h2 D2
    clear fin0 fin1 fin2 ST
    go_wp2_with fail
    first
      | (go_end0; exact ⟨⟨_, rfl⟩, hf⟩)
      | (refine bodyPost_ret (results_none rfl _ _ _) rfl ⟨⟨_, rfl⟩, hf⟩)
  obtain ⟨w3, hup, G3, T3⟩ := ST.out _ h2.drew
  have hc := CK.of_turned T3
  have X3 : Bk w3 _ _ _ := X2.drew.ck hc
  have B3 : Bk w3 _ _ _ := h2.drew.blk.ck hc
  have O3 := own_ck h2.drew.seen hc
  have z3 := B3.lt
  obtain ⟨v7, w7, r7, O7, D7, K7, g7⟩ := app_el (w := w3.drew) uArs infoAr rfl (by omega) (by omega) 36 O3 (us := arC ((i, q), ⟨s, d, sp, dp⟩)) rfl (arC_one _) ha (by show p.B + 1 ≤ w3.heap.size; omega)
  have r7' : (Builtin.append_ #[36, 36] 36 #[.slice S ar.length cS, .slice (some ⟨w3.heap.size, 0, none⟩) 1 1]).run Try.prog (w3.alloc (.cells #[.int .i64 i, .int .i64 q, .int .i64 s, .int .i64 d, .int .i64 sp, .int .i64 dp] 43)).drew = .ok v7 w7 := r7
  have hf := fin2.out w2 w3 w7 v7 h2 D2 G3 T3 O7 D7 K7 g7
  rw [← fin1.out hv] at hf
  have B7 : Bk w7 _ _ _ := (D7.block p.B (by omega)).trans B3
  obtain ⟨⟨y0, y1, y2, y3, y4, y5⟩, _⟩ := X2.drew.six
  obtain ⟨⟨x0, x1, x2, x3, x4, x5⟩, _⟩ := X3.six
  have b8 := h2.drew.blk.at 8
  have c7 := B3.at 7
  have c7a := (B3.alloc (.cells #[.int .i64 i, .int .i64 q, .int .i64 s, .int .i64 d, .int .i64 sp, .int .i64 dp] 43)).drew.at 7
  have d7 := B7.at 7
  have f7 := B7.fz 7
  obtain ⟨A7, q7, hv7, _⟩ := own_sl O7
  subst hv7
  clear fin0 fin1 fin2 ST h2 D2 G3 T3 O7 D7 K7 g7 r7 O3 hc B3 B7 X2 X3
  go_wp2_with fail
  go_cut [10] (fun _ wx => wx = w3)
  case first =>
    go_region
    all_goals
      go_wp2_with fail
      go_meet
      rfl
  case rest =>
    subst hcut
    go_wp2_with fail
    go_region_law (refine step_append_run (by rfl) _ _ 36 (by rfl) _ _ _ w7 (by rfl) (by rfl) r7' ?_)
    all_goals
      go_wp2_with fail
      go_end0
      exact ⟨⟨_, rfl⟩, hf⟩
end Go.Proofs.Ytepfckicaafilab
