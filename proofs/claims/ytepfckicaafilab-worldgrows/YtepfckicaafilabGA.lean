/-
  Package world: Has.
-/
import Derived.Test.YtepfckicaafilabWa1
import Derived.Deep.RegionLaw
namespace Go.Proofs.Ytepfckicaafilab
open Go.RowKit Go.Maps

set_option maxHeartbeats 4000000 in
set_option maxRecDepth 100000 in
theorem whas_any {p : Wp} {S : Option Addr} {cS : Nat} {ds : List Dv} {ls : List Lk} {n : Nat} {M : Mnd} {ar : List Arv} (x : Arv) (w : World) (h : Hid (WlAt w p S cS ds ls n M ar)) (hx : arvOk x) :
    Calls Try.prog 9 #[.pointer (some ⟨p.B, 0, none⟩), plA x.1.1 x.1.2, pkV x.2] w fun e w' => e = .returned (.bool (inF ar x).isSome) ∧ Below w.heap.size w w' := by
  have W2 := (h.out.alloc (.cells #[.int .i64 x.1.1, .int .i64 x.1.2] 41)).alloc (pkC x.2)
  have W2d := W2.drew
  have W2a := (W2.alloc (.cells #[] 76)).drew
  have lk := W2d.look hx
  have lk2 := W2a.look hx
  have B2 := W2.blk.at 8
  have B2a := W2a.blk.at 8
  have D2 := Below.alN (Below.alN (Below.refl w.heap.size w) (.cells #[.int .i64 x.1.1, .int .i64 x.1.2] 41)) (pkC x.2)
  have P2 := (bk_new w #[.int .i64 x.1.1, .int .i64 x.1.2] 41).alloc (pkC x.2)
  have Q2 := bk_new' (w.alloc (.cells #[.int .i64 x.1.1, .int .i64 x.1.2] 41)) #[.int .i64 x.2.s, .int .i64 x.2.d, .int .i64 x.2.sp, .int .i64 x.2.dp] 33 (w.heap.size + 1) (by simp)
  obtain ⟨⟨i, q⟩, ⟨s, d, sp, dp⟩⟩ := x
  generalize hv : (inF ar ((i, q), ⟨s, d, sp, dp⟩)).isSome = v at *
  dsimp only at *
  obtain ⟨p0, p1⟩ := P2.two
  obtain ⟨q0, q1, q2, q3, _⟩ := Q2.four
  obtain ⟨p0', p1'⟩ := (P2.alloc (.cells #[] 76)).drew.two
  obtain ⟨q0', q1', q2', q3', _⟩ := (Q2.alloc (.cells #[] 76)).drew.four
  have D3 := D2.drew
  have D4 := (Below.alN D2 (.cells #[] 76)).drew
  clear W2 W2d W2a P2 Q2 h
  go_enter Try.func9, Try.ntmps9
  go_upto_region 1 with fail
  go_region
  all_goals
    go_wp2_with fail
    go_ret
    exact ⟨rfl, by first | exact D4 | exact D3 | go_grown⟩
end Go.Proofs.Ytepfckicaafilab

namespace Go.Proofs.Ytepfckicaafilab
open Go.RowKit Go.Maps

open Classical in
noncomputable def addA (ar : List Arv) (x : Arv) : List Arv := if x ∈ ar then ar else ar ++ [x]
/-- Where the row of arrivals may lie behind a call. -/
def SG (S S' : Option Addr) (N : Nat) : Prop := ∀ a', S' = some a' → (∃ a, S = some a ∧ a.block = a'.block) ∨ N ≤ a'.block
theorem SG.refl (S : Option Addr) (N : Nat) : SG S S N := fun a h => Or.inl ⟨a, h, rfl⟩
theorem own_sl {w : World} {B e size n : Nat} {v : Value} {xs : List Value} (h : w.ownsRow B e size v n xs) : ∃ A cap, v = .slice A n cap ∧ ∀ a, A = some a → v.ownBlock = some a.block := by
  rcases h.2 with ⟨rfl, h0⟩ | ⟨g, cap, cur, rfl, _⟩
  · refine ⟨none, 0, ?_, fun a e => by cases e⟩
    first
      | rfl
      | (rw [h0])
      | simp_all
  · exact ⟨some ⟨g, 0, none⟩, cap, rfl, fun a e => by cases e; rfl⟩
theorem arC_one (x : Arv) : ∀ u ∈ arC x, u.oneCell' = true := by
  intro u hu
  simp only [arC, List.mem_cons, List.not_mem_nil, or_false] at hu
  rcases hu with rfl | rfl | rfl | rfl | rfl | rfl <;> rfl
/-- What arrive leaves. -/
def AOut (w : World) (p : Wp) (S : Option Addr) (ds : List Dv) (ls : List Lk) (n : Nat) (M : Mnd) (ar : List Arv) (w' : World) : Prop :=
  ∃ S' cS', WlAt w' p S' cS' ds ls n M ar ∧ WF p S w w' ∧ SG S S' w.heap.size
theorem aout_new {w w2 w3 w7 : World} {p : Wp} {S : Option Addr} {cS : Nat} {ds : List Dv} {ls : List Lk} {n : Nat} {M : Mnd} {ar : List Arv} {x : Arv} {v7 : Value} (hx : arvOk x) (hb : Below w.heap.size w w2) (h2 : WlAt w2 p S cS ds ls n M ar) (hG : MapAt arvE unitV w3 p.G (n + 1) (putF (inF ar) x ())) (ht : w2.drew.mapTurned w3 p.G) (O7 : w7.ownsRow (p.B + 1) 43 6 v7 (ar.length + 1) (ar.flatMap arC ++ arC x)) (D7 : Below (p.B + 1) w3.drew w7) (K7 : KeptB w3.drew w7 (Value.slice S ar.length cS).ownBlock) (g7 : v7.ownBlock = (Value.slice S ar.length cS).ownBlock ∨ ∃ g, v7.ownBlock = some g ∧ w3.drew.heap.size ≤ g) :
    AOut w p S ds ls (n + 1) M (ar ++ [x]) (w7.setCell ⟨p.B, 7, none⟩ v7) := by
  have hc := CK.of_turned ht
  have B3 : Bk w3 p.B _ _ := h2.drew.blk.ck hc
  have sz3 := mapTurned_size ht
  have zB : p.B < w3.heap.size := B3.lt
  have B7 : Bk w7 p.B _ _ := (D7.block p.B (by omega)).trans B3
  obtain ⟨A7, c7, rfl, hA7⟩ := own_sl O7
  have hF : ∀ b, b ≠ p.B → (w7.setCell ⟨p.B, 7, none⟩ (.slice A7 (ar.length + 1) c7)).heap[b]? = w7.heap[b]? := fun b h => Below.heap_setCell w7 ⟨p.B, 7, none⟩ _ b h
  have hlow : ∀ b, b < p.B → (w7.setCell ⟨p.B, 7, none⟩ (.slice A7 (ar.length + 1) c7)).heap[b]? = w3.heap[b]? := fun b h => (hF b (by omega)).trans (D7.block b (by omega))
  obtain ⟨l1, l2, l3, l4⟩ := h2.lo
  have kt : KT p.B w2 (w7.setCell ⟨p.B, 7, none⟩ (.slice A7 (ar.length + 1) c7)) := fun b hb' hn => (hlow b hb').trans (hc.block b hn (Nat.lt_trans hb' h2.blk.lt))
  have mp : ∀ b, b < p.B → b ≠ p.G → (w7.setCell ⟨p.B, 7, none⟩ (.slice A7 (ar.length + 1) c7)).heap[b]? = w2.heap[b]? := fun b h1 h3 => (hlow b h1).trans (mapTurned_block (w := w2.drew) ht h3)
  have hsz : (w7.setCell ⟨p.B, 7, none⟩ (.slice A7 (ar.length + 1) c7)).heap.size = w7.heap.size := by simp [World.setCell]
  refine ⟨A7, c7, ⟨?_, h2.devs.kt kt, h2.links.kt kt, h2.mdevs.kt kt, h2.mlinks.kt kt, (h2.fl.same (mp _ l1 (fun e => h2.gf e.symm))).mono (by omega), (h2.ow.same (mp _ l2 (fun e => h2.go e.symm))).mono (by omega), (h2.bk.same (mp _ l3 (fun e => h2.gk e.symm))).mono (by omega), h2.fo, h2.fk, h2.ok, ?_, ?_, h2.gf, h2.go, h2.gk, h2.lo, ?_⟩, ⟨?_, ?_, ?_, ?_, ?_⟩, ?_⟩
  · have := B7.setS (j := 7) (.slice A7 (ar.length + 1) c7)
    simpa using this
  · have ho := own_keptBut (w' := w7.setCell ⟨p.B, 7, none⟩ (.slice A7 (ar.length + 1) c7)) O7 (fun g hg => hF g (by have := (own_block O7 hg).2.1; omega))
    simpa using ho
  · rw [← inF_add]
    exact hG.same (hlow _ l4)
  · intro y hy
    rcases List.mem_append.1 hy with h | h
    · exact h2.all y h
    · rw [List.mem_singleton.1 h]
      exact hx
  · have e1 : w7.os = w3.drew.os := D7.os
    have e2 : w3.os = w2.os := ht.grown.os
    exact e1.trans (e2.trans hb.os)
  · exact (D7.tape.trans ht.grown.tape).trans hb.tape
  · exact (D7.output.trans ht.grown.output).trans hb.output
  · rw [hsz]
    have z7 := K7.size
    have : w3.drew.heap.size = w3.heap.size := rfl
    have : w2.drew.heap.size = w2.heap.size := rfl
    have := hb.size
    omega
  · intro b hb' q1 q2 q3 q4 q5 q6
    rw [hF b q1]
    have z2 := hb.size
    have e3 : w2.drew.heap.size = w2.heap.size := rfl
    have e4 : w3.drew.heap.size = w3.heap.size := rfl
    have hS : some b ≠ (Value.slice S ar.length cS).ownBlock := fun e => by
      cases S with
      | none => cases e
      | some a =>
        have : a.block = b := by
          simp only [Value.ownBlock] at e
          first
            | exact (Option.some.inj e).symm
            | (split at e <;> simp_all)
        exact q6 a rfl this.symm
    exact (K7.block b (by omega) hS).trans ((mapTurned_block ht q5).trans (hb.block b hb'))
  · intro a' ha'
    have hb7 := hA7 a' ha'
    rcases g7 with g7 | ⟨g, g7, hg⟩
    · rw [hb7] at g7
      left
      cases S with
      | none => cases g7
      | some a =>
        refine ⟨a, rfl, ?_⟩
        simp only [Value.ownBlock] at g7
        first
          | exact (Option.some.inj g7).symm
          | (split at g7 <;> simp_all)
    · right
      rw [hb7] at g7
      have e5 := Option.some.inj g7
      have e4 : w3.drew.heap.size = w3.heap.size := rfl
      have e3 : w2.drew.heap.size = w2.heap.size := rfl
      have := hb.size
      omega
end Go.Proofs.Ytepfckicaafilab

namespace Go.Proofs.Ytepfckicaafilab
open Go.RowKit Go.Maps

set_option maxHeartbeats 8000000 in
set_option maxRecDepth 100000 in
theorem arrive_any {p : Wp} {S : Option Addr} {cS : Nat} {ds : List Dv} {ls : List Lk} {n : Nat} {M : Mnd} {ar : List Arv} (x : Arv) (w : World) (h : Hid (WlAt w p S cS ds ls n M ar)) (hx : Hid (arvOk x)) (hn : n < maxLen) (ha : ar.length ≤ 5000) :
    Calls Try.prog 30 #[.pointer (some ⟨p.B, 0, none⟩), arV x.1 x.2] w fun e w' => (∃ v, e = .returned v) ∧ AOut w p S ds ls (n + 1) M (addA ar x) w' := by
  have h1 := h.out.alloc (.cells #[.int .i64 x.1.1, .int .i64 x.1.2, .int .i64 x.2.s, .int .i64 x.2.d, .int .i64 x.2.sp, .int .i64 x.2.dp] 43)
  have D1 := Below.alN (Below.refl w.heap.size w) (.cells #[.int .i64 x.1.1, .int .i64 x.1.2, .int .i64 x.2.s, .int .i64 x.2.d, .int .i64 x.2.sp, .int .i64 x.2.dp] 43)
  have X1 := bk_new w #[.int .i64 x.1.1, .int .i64 x.1.2, .int .i64 x.2.s, .int .i64 x.2.d, .int .i64 x.2.sp, .int .i64 x.2.dp] 43
  have HS : Hid (∀ W, WlAt W p S cS ds ls n M ar → Calls Try.prog 9 #[.pointer (some ⟨p.B, 0, none⟩), plA x.1.1 x.1.2, pkV x.2] W fun e w' => e = .returned (.bool (inF ar x).isSome) ∧ Below W.heap.size W w') := fun W hw => whas_any x W hw hx.out
  have fin0 : Hid ((inF ar x).isSome = true → ∀ w', WlAt w' p S cS ds ls n M ar → Below w.heap.size w w' → AOut w p S ds ls (n + 1) M (addA ar x) w') := fun hi w' hw hb => by
    unfold addA
    rw [if_pos (inF_in.1 hi)]
    exact ⟨S, cS, hw.mono (by omega), WF.of_below hb, SG.refl _ _⟩
  have fin1 : Hid ((inF ar x).isSome = false → addA ar x = ar ++ [x]) := fun hi => by
    unfold addA
    rw [if_neg (fun e => by rw [inF_in.2 e] at hi; cases hi)]
  have fin2 : Hid (∀ w2 w3 w7 v7, WlAt w2 p S cS ds ls n M ar → Below w.heap.size w w2 → MapAt arvE unitV w3 p.G (n + 1) (putF (inF ar) x ()) → w2.drew.mapTurned w3 p.G → w7.ownsRow (p.B + 1) 43 6 v7 (ar.length + 1) (ar.flatMap arC ++ arC x) → Below (p.B + 1) w3.drew w7 → KeptB w3.drew w7 (Value.slice S ar.length cS).ownBlock → (v7.ownBlock = (Value.slice S ar.length cS).ownBlock ∨ ∃ g, v7.ownBlock = some g ∧ w3.drew.heap.size ≤ g) → AOut w p S ds ls (n + 1) M (ar ++ [x]) (w7.setCell ⟨p.B, 7, none⟩ v7)) := fun w2 w3 w7 v7 q1 q2 q3 q4 q5 q6 q7 q8 => aout_new hx.out q2 q1 q3 q4 q5 q6 q7 q8
  have ST : Hid (∀ W, WlAt W p S cS ds ls n M ar → ∃ w3, (Instr.mapUpdate 69 (.map (some p.G)) (.agg #[.int .i64 x.1.1, .int .i64 x.1.2, .int .i64 x.2.s, .int .i64 x.2.d, .int .i64 x.2.sp, .int .i64 x.2.dp]) (.agg #[])).run Try.prog W = .ok () w3 ∧ MapAt arvE unitV w3 p.G (n + 1) (putF (inF ar) x ()) ∧ W.mapTurned w3 p.G) := fun W hw => hw.was.store uMw hn (x := x) hx.out ()
  obtain ⟨⟨i, q⟩, ⟨s, d, sp, dp⟩⟩ := x
  dsimp only at *
  obtain ⟨⟨x0, x1, x2, x3, x4, x5⟩, _⟩ := X1.six
  have h1' := h1.blk.at 8
  clear h
  go_enter Try.func30, Try.ntmps30
  go_wp2_with fail
  refine (HS.out _ h1).mono ?_
  rintro e w2 ⟨rfl, hb2⟩
  have h2 := h1.below hb2
  have D2 := chnN hb2 D1
  have X2 := X1.keep hb2
  clear hb2 h1 D1 X1 x0 x1 x2 x3 x4 x5 HS h1'
  cases hv : (inF ar ((i, q), ⟨s, d, sp, dp⟩)).isSome
  rotate_left
  · have hf := fin0.out hv _ h2 D2
    clear fin0 fin1 fin2 ST
    go_wp2_with fail
    first
      | (go_end0; exact ⟨⟨_, rfl⟩, hf⟩)
      | (refine bodyPost_ret (results_none rfl _ _ _) rfl ⟨⟨_, rfl⟩, hf⟩)
  obtain ⟨w3, hup, G3, T3⟩ := ST.out _ h2.drew
  have hc := CK.of_turned T3
  have X3 : Bk w3 _ _ _ := X2.drew.ck hc
  have B3 : Bk w3 _ _ _ := h2.drew.blk.ck hc
  have O3 := own_ck h2.drew.seen hc
  have z3 := B3.lt
  obtain ⟨v7, w7, r7, O7, D7, K7, g7⟩ := app_el (w := w3.drew) uArs infoAr rfl (by omega) (by omega) 36 O3 (us := arC ((i, q), ⟨s, d, sp, dp⟩)) rfl (arC_one _) ha (by show p.B + 1 ≤ w3.heap.size; omega)
  have r7' : (Builtin.append_ #[36, 36] 36 #[.slice S ar.length cS, .slice (some ⟨w3.heap.size, 0, none⟩) 1 1]).run Try.prog (w3.alloc (.cells #[.int .i64 i, .int .i64 q, .int .i64 s, .int .i64 d, .int .i64 sp, .int .i64 dp] 43)).drew = .ok v7 w7 := r7
  have hf := fin2.out w2 w3 w7 v7 h2 D2 G3 T3 O7 D7 K7 g7
  rw [← fin1.out hv] at hf
  have B7 : Bk w7 _ _ _ := (D7.block p.B (by omega)).trans B3
  obtain ⟨⟨y0, y1, y2, y3, y4, y5⟩, _⟩ := X2.drew.six
  obtain ⟨⟨x0, x1, x2, x3, x4, x5⟩, _⟩ := X3.six
  have b8 := h2.drew.blk.at 8
  have c7 := B3.at 7
  have c7a := (B3.alloc (.cells #[.int .i64 i, .int .i64 q, .int .i64 s, .int .i64 d, .int .i64 sp, .int .i64 dp] 43)).drew.at 7
  have d7 := B7.at 7
  have f7 := B7.fz 7
  obtain ⟨A7, q7, hv7, _⟩ := own_sl O7
  subst hv7
  clear fin0 fin1 fin2 ST h2 D2 G3 T3 O7 D7 K7 g7 r7 O3 hc B3 B7 X2 X3
  go_wp2_with fail
  go_cut [10] (fun _ wx => wx = w3)
  case first =>
    go_region
    all_goals
      go_wp2_with fail
      go_meet
      rfl
  case rest =>
    subst hcut
    go_wp2_with fail
    go_region_law (refine step_append_run (by rfl) _ _ 36 (by rfl) _ _ _ w7 (by rfl) (by rfl) r7' ?_)
    all_goals
      go_wp2_with fail
      go_end0
      exact ⟨⟨_, rfl⟩, hf⟩
end Go.Proofs.Ytepfckicaafilab

namespace Go.Proofs.Ytepfckicaafilab
open Go.RowKit Go.Maps

/-- The other end is a place of the net. -/
theorem endOf_place {l : Lk} {ds : List Dv} {d p : Int} {t : Int × Int} (h : endOf l d p = some t) (h1 : isPl ds l.a l.p = true) (h2 : isPl ds l.b l.q = true) : isPl ds t.1 t.2 = true := by
  unfold endOf at h
  split at h
  · cases h; exact h2
  · split at h
    · cases h; exact h1
    · cases h
theorem peerF_place {ds : List Dv} : ∀ (ls : List Lk) (d p : Int) (t : Int × Int), (∀ l ∈ ls, isPl ds l.a l.p = true ∧ isPl ds l.b l.q = true) → peerF ls d p = some t → isPl ds t.1 t.2 = true
  | [], d, p, t, _, h => by cases h
  | l :: ls, d, p, t, hl, h => by
    have h' : (endOf l d p).or (peerF ls d p) = some t := h
    cases he : endOf l d p with
    | some t' =>
      rw [he] at h'
      cases h'
      exact endOf_place he (hl l (by simp)).1 (hl l (by simp)).2
    | none =>
      rw [he] at h'
      exact peerF_place ls d p t (fun m hm => hl m (by simp [hm])) h'
theorem isPl_ok {ds : List Dv} (hd : ds.length ≤ 10) {x y : Int} (h : isPl ds x y = true) : i64ok x ∧ i64ok y := by
  unfold isPl at h
  simp only [Bool.and_eq_true, decide_eq_true_eq] at h
  have : portsV (kindAt ds x) ≤ 4 := by
    unfold portsV
    split
    all_goals first | omega | (split <;> omega) | skip
  exact ⟨i64ok_of (by omega) (by omega), i64ok_of (by omega) (by omega)⟩
theorem peer_ok {ds : List Dv} {ls : List Lk} (hz : netV ds ls = 0) {d p : Int} {t : Int × Int} (h : peerF ls d p = some t) : i64ok t.1 ∧ i64ok t.2 :=
  isPl_ok (netV_links hz).1 (peerF_place ls d p t (netV_links hz).2.2.2 h)
def inj2 (AD : Arv → List Arv) (ar : List Arv) (q : Pk) : Option (Int × Int) → Int × List Arv
  | some t => (0, AD (t, q))
  | none => (7, ar)
/-- What inject tells, and what came in then. -/
noncomputable def injP (ds : List Dv) (ls : List Lk) (ar : List Arv) (i : Int) (p : Pk) : Int × List Arv :=
  if 0 ≤ i ∧ i < (ds.length : Int) then
    (if (ds.getD i.toNat default).kind = 1 then
      (if pkOk p then
        (if p.s = (ds.getD i.toNat default).addr then
          inj2 (addA ar) ar p (peerF ls i 0)
        else (1, ar))
      else (1, ar))
    else (1, ar))
  else (4, ar)
end Go.Proofs.Ytepfckicaafilab

namespace Go.Proofs.Ytepfckicaafilab
open Go.RowKit Go.Maps

theorem AOut.from {w W w' : World} {p : Wp} {S : Option Addr} {ds : List Dv} {ls : List Lk} {n : Nat} {M : Mnd} {ar : List Arv} (hb : Below w.heap.size w W) (h : AOut W p S ds ls n M ar w') : AOut w p S ds ls n M ar w' := by
  obtain ⟨S', cS', h1, h2, h3⟩ := h
  refine ⟨S', cS', h1, (WF.of_below hb).trans h2, fun a ha => ?_⟩
  rcases h3 a ha with h | h
  · exact Or.inl h
  · exact Or.inr (Nat.le_trans hb.size h)
theorem AOut.same {w w' : World} {p : Wp} {S : Option Addr} {cS : Nat} {ds : List Dv} {ls : List Lk} {n : Nat} {M : Mnd} {ar : List Arv} (h : WlAt w' p S cS ds ls n M ar) (hb : Below w.heap.size w w') : AOut w p S ds ls (n + 1) M ar w' := ⟨S, cS, h.mono (by omega), WF.of_below hb, SG.refl _ _⟩
set_option maxHeartbeats 8000000 in
set_option maxRecDepth 100000 in
theorem inject_any {p : Wp} {S : Option Addr} {cS : Nat} {ds : List Dv} {ls : List Lk} {n : Nat} {M : Mnd} {ar : List Arv} (i : Int) (q : Pk) (w : World) (h : Hid (WlAt w p S cS ds ls n M ar)) (hz : Hid (netV ds ls = 0)) (hn : n < maxLen) (ha : ar.length ≤ 5000) :
    Calls Try.prog 17 #[.pointer (some ⟨p.B, 0, none⟩), .int .i64 i, pkV q] w fun e w' => e = .returned (.int .i64 (injP ds ls ar i q).1) ∧ AOut w p S ds ls (n + 1) M (injP ds ls ar i q).2 w' := by
  have h1 := h.out.alloc (pkC q)
  have D1 := Below.alN (Below.refl w.heap.size w) (pkC q)
  have X1 := bk_new w #[.int .i64 q.s, .int .i64 q.d, .int .i64 q.sp, .int .i64 q.dp] 33
  have b0 := h1.blk.at 0
  obtain ⟨r, hr⟩ : ∃ r, injP ds ls ar i q = r := ⟨_, rfl⟩
  rw [hr]
  have HR : Hid (injP ds ls ar i q = r) := hr
  clear hr
  by_cases hi : 0 ≤ i ∧ i < (ds.length : Int)
  rotate_left
  · have hv : r = (4, ar) := by
      rw [← HR.out]
      unfold injP
      rw [if_neg hi]
    subst hv
    have hf := AOut.same h1 D1
    clear HR
    by_cases h0 : i < 0
    · have u0 : decide (i < 0) = true := by simpa using h0
      clear hi h0
      go_enter Try.func17, Try.ntmps17
      go_wp2_with fail
      go_ret
      exact ⟨rfl, hf⟩
    · have u0 : decide (i < 0) = false := by simpa using h0
      have u1' : decide ((ds.length : Int) ≤ i) = true := by simp; omega
      clear hi h0
      go_enter Try.func17, Try.ntmps17
      go_wp2_with fail
      go_ret
      exact ⟨rfl, hf⟩
  obtain ⟨j, rfl⟩ : ∃ j : Nat, i = (j : Int) := ⟨i.toNat, by omega⟩
  have hj : j < ds.length := by omega
  obtain ⟨d, hd⟩ : ∃ d, ds[j]? = some d := ⟨_, List.getElem?_eq_getElem hj⟩
  have hgd : ds.getD j default = d := by rw [List.getD_eq_getElem?_getD, hd]; rfl
  obtain ⟨b, o, vb, vr, vt, hA, hbl, s1, s2, s3, c0, c1, c2, c3, c4, c5, c6⟩ := h1.devs.at hd
  obtain ⟨Ab, cb, rfl, _⟩ := s1
  obtain ⟨Ar, cr, rfl, _⟩ := s2
  obtain ⟨At, ct, rfl, _⟩ := s3
  have HV : Hid (r = ((if d.kind = 1 then (if pkOk q then (if q.s = d.addr then inj2 (addA ar) ar q (peerF ls (j : Int) 0) else (1, ar)) else (1, ar)) else (1, ar)) : Int × List Arv)) := by
    show _ = _
    rw [← HR.out]
    unfold injP
    rw [if_pos hi, Int.toNat_natCast, hgd]
  have k1 : (0 : Int) ≤ (j : Int) := by omega
  have k2 : (j : Int) < (ds.length : Int) := hi.2
  have u0 : decide ((j : Int) < 0) = false := by simp
  have u1' : decide ((ds.length : Int) ≤ (j : Int)) = false := by simp; omega
  have h2 := h1.alloc (.cells #[.string d.name, .int .i64 d.kind, .int .i64 d.addr, .int .u8 (d.pool : Int), .slice Ab d.backs.length cb, .slice Ar d.rules.length cr, .slice At d.routes.length ct] 58)
  have D2 := Below.alN D1 (.cells #[.string d.name, .int .i64 d.kind, .int .i64 d.addr, .int .u8 (d.pool : Int), .slice Ab d.backs.length cb, .slice Ar d.rules.length cr, .slice At d.routes.length ct] 58)
  have X2 := X1.alloc (.cells #[.string d.name, .int .i64 d.kind, .int .i64 d.addr, .int .u8 (d.pool : Int), .slice Ab d.backs.length cb, .slice Ar d.rules.length cr, .slice At d.routes.length ct] 58)
  have V2 := bk_new' (w.alloc (pkC q)) #[.string d.name, .int .i64 d.kind, .int .i64 d.addr, .int .u8 (d.pool : Int), .slice Ab d.backs.length cb, .slice Ar d.rules.length cr, .slice At d.routes.length ct] 58 (w.heap.size + 1) (by simp)
  have PCp : Hid (∀ W, Calls Try.prog 10 #[pkV q] W fun e w' => e = .returned (.int .i64 (if pkOk q then 0 else 1)) ∧ Below W.heap.size W w') := fun W => pcheck_any q W
  have PEE : Hid (∀ W, WlAt W p S cS ds ls n M ar → Calls Try.prog 29 #[.agg #[.slice p.A ds.length p.c, .slice p.L ls.length p.d], plA (j : Int) 0] W fun e w' => e = .returned (.tuple #[placeV (peerF ls (j : Int) 0), .bool (peerF ls (j : Int) 0).isSome]) ∧ Below W.heap.size W w') := fun W hw => peer_any _ p.L ls.length p.d ls (j : Int) 0 W (hw.links.mono (Nat.le_of_lt hw.blk.lt))
  have ARR : Hid (∀ (t : Int × Int) W, WlAt W p S cS ds ls n M ar → i64ok t.1 ∧ i64ok t.2 → pkOk q = true → Calls Try.prog 30 #[.pointer (some ⟨p.B, 0, none⟩), arV t q] W fun e w' => (∃ v, e = .returned v) ∧ AOut W p S ds ls (n + 1) M (addA ar (t, q)) w') := fun t W hw ht hq => arrive_any (t, q) W hw ⟨ht.1, ht.2, pkOk_ok hq⟩ hn ha
  have TOK : Hid (∀ t, peerF ls (j : Int) 0 = some t → i64ok t.1 ∧ i64ok t.2) := fun t ht => peer_ok hz.out ht
  have v1 := V2.at 1
  have v2 := V2.at 2
  rw [hA] at b0
  clear hA HR hi hgd hd hbl h X1 D1 h1 hz
  generalize hpf : peerF ls (j : Int) 0 = pf at *
  generalize addA ar = AD at *
  obtain ⟨s, dd, sp, dp⟩ := q
  by_cases hk : d.kind = 1
  rotate_left
  · have hv : r = (1, ar) := HV.out.trans (if_neg hk)
    subst hv
    have hf := AOut.same h2 D2
    have uk : (d.kind == 1) = false := by simpa using hk
    have HK1 : Hid (¬ d.kind = 1) := hk
    clear HV hk
    go_enter Try.func17, Try.ntmps17
    go_wp2_with fail
    all_goals first | exact absurd (by assumption) HK1.out | skip
    go_ret
    exact ⟨rfl, hf⟩
  have HV2 : Hid (r = ((if pkOk ⟨s, dd, sp, dp⟩ then (if s = d.addr then inj2 AD ar ⟨s, dd, sp, dp⟩ pf else (1, ar)) else (1, ar)) : Int × List Arv)) := by
    exact HV.out.trans (if_pos hk)
  clear HV
  generalize d.kind = kd at *
  subst hk
  generalize d.addr = ad at *
  obtain ⟨x0, x1, x2, x3, _⟩ := X2.four
  cases hpo : pkOk ⟨s, dd, sp, dp⟩
  · rw [hpo] at PCp
    simp only [Bool.false_eq_true, if_false] at PCp
    have hv : r = (1, ar) := HV2.out.trans (if_neg (by rw [hpo]; exact Bool.false_ne_true))
    subst hv
    clear HV2 ARR TOK PEE
    go_enter Try.func17, Try.ntmps17
    go_wp2_with fail
    refine (PCp.out _).mono ?_
    rintro e w3 ⟨rfl, hb3⟩
    have hf := AOut.same (h2.below hb3) (chnN hb3 D2)
    go_wp2_with fail
    go_ret
    exact ⟨rfl, hf⟩
  rw [hpo] at PCp
  simp only [if_true] at PCp
  have HP : Hid (pkOk ⟨s, dd, sp, dp⟩ = true) := hpo
  have HV3 : Hid (r = ((if s = ad then inj2 AD ar ⟨s, dd, sp, dp⟩ pf else (1, ar)) : Int × List Arv)) := by
    exact HV2.out.trans (if_pos hpo)
  clear hpo HV2
  by_cases hs : s = ad
  rotate_left
  · have hv : r = (1, ar) := HV3.out.trans (if_neg hs)
    subst hv
    have us : (s == ad) = false := by simpa using hs
    have HSA : Hid (¬ s = ad) := hs
    clear HV3 ARR TOK PEE hs
    go_enter Try.func17, Try.ntmps17
    go_wp2_with fail
    refine (PCp.out _).mono ?_
    rintro e w3 ⟨rfl, hb3⟩
    have hf := AOut.same (h2.below hb3) (chnN hb3 D2)
    obtain ⟨y0, y1, y2, y3, _⟩ := (X2.keep hb3).four
    have z2 := (V2.keep hb3).at 2
    go_wp2_with fail
    all_goals first | exact absurd (by assumption) HSA.out | skip
    go_ret
    exact ⟨rfl, hf⟩
  subst hs
  have HV4 : Hid (r = (inj2 AD ar ⟨s, dd, sp, dp⟩ pf : Int × List Arv)) := by
    exact HV3.out.trans (if_pos rfl)
  clear HV3
  go_enter Try.func17, Try.ntmps17
  go_wp2_with fail
  refine (PCp.out _).mono ?_
  rintro e w3 ⟨rfl, hb3⟩
  have h3 := h2.below hb3
  have D3 := chnN hb3 D2
  have X3 := X2.keep hb3
  obtain ⟨y0, y1, y2, y3, _⟩ := X3.four
  have z2 := (V2.keep hb3).at 2
  have c0' := h3.blk.at 0
  have c1' := h3.blk.at 1
  clear hb3 h2 D2 X2 V2 x0 x1 x2 x3 v1 v2 b0 c0 c1 c2 c3 c4 c5 c6
  go_wp2_with fail
  with_reducible refine (PEE.out _ h3).mono ?_
  rintro e w4 ⟨rfl, hb4⟩
  have h4 := h3.below hb4
  have D4 := chnN hb4 D3
  have X4 := X3.keep hb4
  clear hb4 h3 D3 X3 y0 y1 y2 y3 z2 c0' c1'
  cases pf with
  | none =>
    have hv : r = (7, ar) := HV4.out
    subst hv
    have hf := AOut.same (h4.alloc (.cells #[.int .i64 0, .int .i64 0] 41)) (Below.alN D4 (.cells #[.int .i64 0, .int .i64 0] 41))
    clear HV4 ARR TOK PEE
    go_wp2_with fail
    go_ret
    exact ⟨rfl, hf⟩
  | some t =>
    have hv : r = (0, AD (t, ⟨s, dd, sp, dp⟩)) := HV4.out
    subst hv
    have ht := TOK.out t rfl
    obtain ⟨t1, t2⟩ := t
    have h5 := h4.alloc (.cells #[.int .i64 t1, .int .i64 t2] 41)
    have D5 := Below.alN D4 (.cells #[.int .i64 t1, .int .i64 t2] 41)
    have A6 : Hid (Calls Try.prog 30 #[.pointer (some ⟨p.B, 0, none⟩), .agg #[.int .i64 t1, .int .i64 t2, .int .i64 s, .int .i64 dd, .int .i64 sp, .int .i64 dp]] (w4.alloc (.cells #[.int .i64 t1, .int .i64 t2] 41)) _) := ARR.out (t1, t2) _ h5 ht HP.out
    obtain ⟨y0, y1, y2, y3, _⟩ := (X4.alloc (.cells #[.int .i64 t1, .int .i64 t2] 41)).four
    clear HV4 ARR TOK PEE ht
    go_wp2_with fail
    with_reducible refine A6.out.mono ?_
    rintro e w6 ⟨⟨v, rfl⟩, hA6⟩
    have hf := AOut.from D5 hA6
    go_wp2_with fail
    go_ret
    exact ⟨rfl, hf⟩
end Go.Proofs.Ytepfckicaafilab
