/-
  Package world: Has.
-/
import Derived.Test.YtgmjlkllghlmmaaGreatWa1
import Derived.Deep.RegionLaw
import Derived.Deep.RegionHeld3
namespace Go.Proofs.YtgmjlkllghlmmaaGreat
open Go.RowKit Go.Maps

set_option maxHeartbeats 4000000 in
set_option maxRecDepth 100000 in
theorem whas_any {p : Wp} {S : Option Addr} {cS : Nat} {ds : List Dv} {ls : List Lk} {n : Nat} {M : Mnd} {ar : List Arv} (x : Arv) (w : World) (h : Hid (WlAt w p S cS ds ls n M ar)) (hx : arvOk x) :
    Calls Tryz.prog 18 #[.pointer (some ⟨p.B, 0, none⟩), plA x.1.1 x.1.2, pkV x.2] w fun e w' => e = .returned (.bool (inF ar x).isSome) ∧ Below w.heap.size w w' := by
  have W2 := (h.out.alloc (.cells #[.int .i64 x.1.1, .int .i64 x.1.2] 37)).alloc (pkC x.2)
  have W2d := W2.drew
  have W2a := (W2.alloc (.cells #[] 110)).drew
  have lk := W2d.look hx
  have lk2 := W2a.look hx
  have B2 := W2.blk.at 8
  have B2a := W2a.blk.at 8
  have D2 := Below.alN (Below.alN (Below.refl w.heap.size w) (.cells #[.int .i64 x.1.1, .int .i64 x.1.2] 37)) (pkC x.2)
  have P2 := (bk_new w #[.int .i64 x.1.1, .int .i64 x.1.2] 37).alloc (pkC x.2)
  have Q2 := bk_new' (w.alloc (.cells #[.int .i64 x.1.1, .int .i64 x.1.2] 37)) #[.int .i64 x.2.s, .int .i64 x.2.d, .int .i64 x.2.sp, .int .i64 x.2.dp] 39 (w.heap.size + 1) (by simp)
  obtain ⟨⟨i, q⟩, ⟨s, d, sp, dp⟩⟩ := x
  generalize hv : (inF ar ((i, q), ⟨s, d, sp, dp⟩)).isSome = v at *
  dsimp only at *
  obtain ⟨p0, p1⟩ := P2.two
  obtain ⟨q0, q1, q2, q3, _⟩ := Q2.four
  obtain ⟨p0', p1'⟩ := (P2.alloc (.cells #[] 110)).drew.two
  obtain ⟨q0', q1', q2', q3', _⟩ := (Q2.alloc (.cells #[] 110)).drew.four
  have D3 := D2.drew
  have D4 := (Below.alN D2 (.cells #[] 110)).drew
  clear W2 W2d W2a P2 Q2 h
  go_enter Tryz.func18, Tryz.ntmps18
  go_upto_region 1 with fail
  go_region
  all_goals
    go_wp2_with fail
    go_ret
    exact ⟨rfl, by first | exact D4 | exact D3 | go_grown⟩
end Go.Proofs.YtgmjlkllghlmmaaGreat

namespace Go.Proofs.YtgmjlkllghlmmaaGreat
open Go.RowKit Go.Maps

open Classical in
noncomputable def addA (ar : List Arv) (x : Arv) : List Arv := if x ∈ ar then ar else ar ++ [x]
/-- Where the row of arrivals may lie behind a call. -/
def SG (S S' : Option Addr) (N : Nat) : Prop := ∀ a', S' = some a' → (∃ a, S = some a ∧ a.block = a'.block) ∨ N ≤ a'.block
theorem SG.refl (S : Option Addr) (N : Nat) : SG S S N := fun a h => Or.inl ⟨a, h, rfl⟩
theorem own_sl {w : World} {B e size n : Nat} {v : Value} {xs : List Value} (h : w.ownsRow B e size v n xs) : ∃ A cap, v = .slice A n cap ∧ ∀ a, A = some a → v.ownBlock = some a.block := by
  rcases h.2 with ⟨rfl, h0⟩ | ⟨g, cap, cur, rfl, _⟩
  · refine ⟨none, 0, ?_, fun a e => by cases e⟩
    first
      | rfl
      | (rw [h0])
      | simp_all
  · exact ⟨some ⟨g, 0, none⟩, cap, rfl, fun a e => by cases e; rfl⟩
theorem arC_one (x : Arv) : ∀ u ∈ arC x, u.oneCell' = true := by
  intro u hu
  simp only [arC, List.mem_cons, List.not_mem_nil, or_false] at hu
  rcases hu with rfl | rfl | rfl | rfl | rfl | rfl <;> rfl
/-- What arrive leaves. -/
def AOut (w : World) (p : Wp) (S : Option Addr) (ds : List Dv) (ls : List Lk) (n : Nat) (M : Mnd) (ar : List Arv) (w' : World) : Prop :=
  ∃ S' cS', WlAt w' p S' cS' ds ls n M ar ∧ WF p S w w' ∧ SG S S' w.heap.size
theorem aout_new {w w2 w3 w7 : World} {p : Wp} {S : Option Addr} {cS : Nat} {ds : List Dv} {ls : List Lk} {n : Nat} {M : Mnd} {ar : List Arv} {x : Arv} {v7 : Value} (hx : arvOk x) (hb : Below w.heap.size w w2) (h2 : WlAt w2 p S cS ds ls n M ar) (hG : MapAt arvE unitV w3 p.G (n + 1) (putF (inF ar) x ())) (ht : w2.drew.mapTurned w3 p.G) (O7 : w7.ownsRow (p.B + 1) 43 6 v7 (ar.length + 1) (ar.flatMap arC ++ arC x)) (D7 : Below (p.B + 1) w3.drew w7) (K7 : KeptB w3.drew w7 (Value.slice S ar.length cS).ownBlock) (g7 : v7.ownBlock = (Value.slice S ar.length cS).ownBlock ∨ ∃ g, v7.ownBlock = some g ∧ w3.drew.heap.size ≤ g) :
    AOut w p S ds ls (n + 1) M (ar ++ [x]) (w7.setCell ⟨p.B, 7, none⟩ v7) := by
  have hc := CK.of_turned ht
  have B3 : Bk w3 p.B _ _ := h2.drew.blk.ck hc
  have sz3 := mapTurned_size ht
  have zB : p.B < w3.heap.size := B3.lt
  have B7 : Bk w7 p.B _ _ := (D7.block p.B (by omega)).trans B3
  obtain ⟨A7, c7, rfl, hA7⟩ := own_sl O7
  have hF : ∀ b, b ≠ p.B → (w7.setCell ⟨p.B, 7, none⟩ (.slice A7 (ar.length + 1) c7)).heap[b]? = w7.heap[b]? := fun b h => Below.heap_setCell w7 ⟨p.B, 7, none⟩ _ b h
  have hlow : ∀ b, b < p.B → (w7.setCell ⟨p.B, 7, none⟩ (.slice A7 (ar.length + 1) c7)).heap[b]? = w3.heap[b]? := fun b h => (hF b (by omega)).trans (D7.block b (by omega))
  obtain ⟨l1, l2, l3, l4⟩ := h2.lo
  have kt : KT p.B w2 (w7.setCell ⟨p.B, 7, none⟩ (.slice A7 (ar.length + 1) c7)) := fun b hb' hn => (hlow b hb').trans (hc.block b hn (Nat.lt_trans hb' h2.blk.lt))
  have mp : ∀ b, b < p.B → b ≠ p.G → (w7.setCell ⟨p.B, 7, none⟩ (.slice A7 (ar.length + 1) c7)).heap[b]? = w2.heap[b]? := fun b h1 h3 => (hlow b h1).trans (mapTurned_block (w := w2.drew) ht h3)
  have hsz : (w7.setCell ⟨p.B, 7, none⟩ (.slice A7 (ar.length + 1) c7)).heap.size = w7.heap.size := by simp [World.setCell]
  refine ⟨A7, c7, ⟨?_, h2.devs.kt kt, h2.links.kt kt, h2.mdevs.kt kt, h2.mlinks.kt kt, (h2.fl.same (mp _ l1 (fun e => h2.gf e.symm))).mono (by omega), (h2.ow.same (mp _ l2 (fun e => h2.go e.symm))).mono (by omega), (h2.bk.same (mp _ l3 (fun e => h2.gk e.symm))).mono (by omega), h2.fo, h2.fk, h2.ok, ?_, ?_, h2.gf, h2.go, h2.gk, h2.lo, ?_⟩, ⟨?_, ?_, ?_, ?_, ?_⟩, ?_⟩
  · have := B7.setS (j := 7) (.slice A7 (ar.length + 1) c7)
    simpa using this
  · have ho := own_keptBut (w' := w7.setCell ⟨p.B, 7, none⟩ (.slice A7 (ar.length + 1) c7)) O7 (fun g hg => hF g (by have := (own_block O7 hg).2.1; omega))
    simpa using ho
  · rw [← inF_add]
    exact hG.same (hlow _ l4)
  · intro y hy
    rcases List.mem_append.1 hy with h | h
    · exact h2.all y h
    · rw [List.mem_singleton.1 h]
      exact hx
  · have e1 : w7.os = w3.drew.os := D7.os
    have e2 : w3.os = w2.os := ht.grown.os
    exact e1.trans (e2.trans hb.os)
  · exact (D7.tape.trans ht.grown.tape).trans hb.tape
  · exact (D7.output.trans ht.grown.output).trans hb.output
  · rw [hsz]
    have z7 := K7.size
    have : w3.drew.heap.size = w3.heap.size := rfl
    have : w2.drew.heap.size = w2.heap.size := rfl
    have := hb.size
    omega
  · intro b hb' q1 q2 q3 q4 q5 q6
    rw [hF b q1]
    have z2 := hb.size
    have e3 : w2.drew.heap.size = w2.heap.size := rfl
    have e4 : w3.drew.heap.size = w3.heap.size := rfl
    have hS : some b ≠ (Value.slice S ar.length cS).ownBlock := fun e => by
      cases S with
      | none => cases e
      | some a =>
        have : a.block = b := by
          simp only [Value.ownBlock] at e
          first
            | exact (Option.some.inj e).symm
            | (split at e <;> simp_all)
        exact q6 a rfl this.symm
    exact (K7.block b (by omega) hS).trans ((mapTurned_block ht q5).trans (hb.block b hb'))
  · intro a' ha'
    have hb7 := hA7 a' ha'
    rcases g7 with g7 | ⟨g, g7, hg⟩
    · rw [hb7] at g7
      left
      cases S with
      | none => cases g7
      | some a =>
        refine ⟨a, rfl, ?_⟩
        simp only [Value.ownBlock] at g7
        first
          | exact (Option.some.inj g7).symm
          | (split at g7 <;> simp_all)
    · right
      rw [hb7] at g7
      have e5 := Option.some.inj g7
      have e4 : w3.drew.heap.size = w3.heap.size := rfl
      have e3 : w2.drew.heap.size = w2.heap.size := rfl
      have := hb.size
      omega
end Go.Proofs.YtgmjlkllghlmmaaGreat

namespace Go.Proofs.YtgmjlkllghlmmaaGreat
open Go.RowKit Go.Maps

set_option maxHeartbeats 8000000 in
set_option maxRecDepth 100000 in
theorem arrive_any {p : Wp} {S : Option Addr} {cS : Nat} {ds : List Dv} {ls : List Lk} {n : Nat} {M : Mnd} {ar : List Arv} (x : Arv) (w : World) (h : Hid (WlAt w p S cS ds ls n M ar)) (hx : Hid (arvOk x)) (hn : n < maxLen) (ha : ar.length ≤ 5000) :
    Calls Tryz.prog 85 #[.pointer (some ⟨p.B, 0, none⟩), arV x.1 x.2] w fun e w' => (∃ v, e = .returned v) ∧ AOut w p S ds ls (n + 1) M (addA ar x) w' := by
  have h1 := h.out.alloc (.cells #[.int .i64 x.1.1, .int .i64 x.1.2, .int .i64 x.2.s, .int .i64 x.2.d, .int .i64 x.2.sp, .int .i64 x.2.dp] 43)
  have D1 := Below.alN (Below.refl w.heap.size w) (.cells #[.int .i64 x.1.1, .int .i64 x.1.2, .int .i64 x.2.s, .int .i64 x.2.d, .int .i64 x.2.sp, .int .i64 x.2.dp] 43)
  have X1 := bk_new w #[.int .i64 x.1.1, .int .i64 x.1.2, .int .i64 x.2.s, .int .i64 x.2.d, .int .i64 x.2.sp, .int .i64 x.2.dp] 43
  have HS : Hid (∀ W, WlAt W p S cS ds ls n M ar → Calls Tryz.prog 18 #[.pointer (some ⟨p.B, 0, none⟩), plA x.1.1 x.1.2, pkV x.2] W fun e w' => e = .returned (.bool (inF ar x).isSome) ∧ Below W.heap.size W w') := fun W hw => whas_any x W hw hx.out
  have fin0 : Hid ((inF ar x).isSome = true → ∀ w', WlAt w' p S cS ds ls n M ar → Below w.heap.size w w' → AOut w p S ds ls (n + 1) M (addA ar x) w') := fun hi w' hw hb => by
    unfold addA
    rw [if_pos (inF_in.1 hi)]
    exact ⟨S, cS, hw.mono (by omega), WF.of_below hb, SG.refl _ _⟩
  have fin1 : Hid ((inF ar x).isSome = false → addA ar x = ar ++ [x]) := fun hi => by
    unfold addA
    rw [if_neg (fun e => by rw [inF_in.2 e] at hi; cases hi)]
  have fin2 : Hid (∀ w2 w3 w7 v7, WlAt w2 p S cS ds ls n M ar → Below w.heap.size w w2 → MapAt arvE unitV w3 p.G (n + 1) (putF (inF ar) x ()) → w2.drew.mapTurned w3 p.G → w7.ownsRow (p.B + 1) 43 6 v7 (ar.length + 1) (ar.flatMap arC ++ arC x) → Below (p.B + 1) w3.drew w7 → KeptB w3.drew w7 (Value.slice S ar.length cS).ownBlock → (v7.ownBlock = (Value.slice S ar.length cS).ownBlock ∨ ∃ g, v7.ownBlock = some g ∧ w3.drew.heap.size ≤ g) → AOut w p S ds ls (n + 1) M (ar ++ [x]) (w7.setCell ⟨p.B, 7, none⟩ v7)) := fun w2 w3 w7 v7 q1 q2 q3 q4 q5 q6 q7 q8 => aout_new hx.out q2 q1 q3 q4 q5 q6 q7 q8
  have ST : Hid (∀ W, WlAt W p S cS ds ls n M ar → ∃ w3, (Instr.mapUpdate 120 (.map (some p.G)) (.agg #[.int .i64 x.1.1, .int .i64 x.1.2, .int .i64 x.2.s, .int .i64 x.2.d, .int .i64 x.2.sp, .int .i64 x.2.dp]) (.agg #[])).run Tryz.prog W = .ok () w3 ∧ MapAt arvE unitV w3 p.G (n + 1) (putF (inF ar) x ()) ∧ W.mapTurned w3 p.G) := fun W hw => hw.was.store uMw hn (x := x) hx.out ()
  obtain ⟨⟨i, q⟩, ⟨s, d, sp, dp⟩⟩ := x
  dsimp only at *
  obtain ⟨⟨x0, x1, x2, x3, x4, x5⟩, _⟩ := X1.six
  have h1' := h1.blk.at 8
  clear h
  go_enter Tryz.func85, Tryz.ntmps85
  go_wp2_with fail
  refine (HS.out _ h1).mono ?_
  rintro e w2 ⟨rfl, hb2⟩
  have h2 := h1.below hb2
  have D2 := chnN hb2 D1
  have X2 := X1.keep hb2
  clear hb2 h1 D1 X1 x0 x1 x2 x3 x4 x5 HS h1'
  cases hv : (inF ar ((i, q), ⟨s, d, sp, dp⟩)).isSome
  rotate_left
  · have hf := fin0.out hv _ h2 D2
    clear fin0 fin1 fin2 ST
    go_wp2_with fail
    first
      | (go_end0; exact ⟨⟨_, rfl⟩, hf⟩)
      | (refine bodyPost_ret (results_none rfl _ _ _) rfl ⟨⟨_, rfl⟩, hf⟩)
  obtain ⟨w3, hup, G3, T3⟩ := ST.out _ h2.drew
  have hc := CK.of_turned T3
  have X3 : Bk w3 _ _ _ := X2.drew.ck hc
  have B3 : Bk w3 _ _ _ := h2.drew.blk.ck hc
  have O3 := own_ck h2.drew.seen hc
  have z3 := B3.lt
  obtain ⟨v7, w7, r7, O7, D7, K7, g7⟩ := app_el (w := w3.drew) uArs infoAr rfl (by omega) (by omega) 59 O3 (us := arC ((i, q), ⟨s, d, sp, dp⟩)) rfl (arC_one _) ha (by show p.B + 1 ≤ w3.heap.size; omega)
  have r7' : (Builtin.append_ #[59, 59] 59 #[.slice S ar.length cS, .slice (some ⟨w3.heap.size, 0, none⟩) 1 1]).run Tryz.prog (w3.alloc (.cells #[.int .i64 i, .int .i64 q, .int .i64 s, .int .i64 d, .int .i64 sp, .int .i64 dp] 43)).drew = .ok v7 w7 := r7
  have hf := fin2.out w2 w3 w7 v7 h2 D2 G3 T3 O7 D7 K7 g7
  rw [← fin1.out hv] at hf
  have B7 : Bk w7 _ _ _ := (D7.block p.B (by omega)).trans B3
  obtain ⟨⟨y0, y1, y2, y3, y4, y5⟩, _⟩ := X2.drew.six
  obtain ⟨⟨x0, x1, x2, x3, x4, x5⟩, _⟩ := X3.six
  have b8 := h2.drew.blk.at 8
  have c7 := B3.at 7
  have c7a := (B3.alloc (.cells #[.int .i64 i, .int .i64 q, .int .i64 s, .int .i64 d, .int .i64 sp, .int .i64 dp] 43)).drew.at 7
  have d7 := B7.at 7
  have f7 := B7.fz 7
  obtain ⟨A7, q7, hv7, _⟩ := own_sl O7
  subst hv7
  clear fin0 fin1 fin2 ST h2 D2 G3 T3 O7 D7 K7 g7 r7 O3 hc B3 B7 X2 X3
  go_wp2_with fail
  go_cut [10] (fun _ wx => wx = w3)
  case first =>
    go_region
    all_goals
      go_wp2_with fail
      go_meet
      rfl
  case rest =>
    subst hcut
    go_wp2_with fail
    go_region_law (refine step_append_run (by rfl) _ _ 59 (by rfl) _ _ _ w7 (by rfl) (by rfl) r7' ?_)
    all_goals
      go_wp2_with fail
      go_end0
      exact ⟨⟨_, rfl⟩, hf⟩
end Go.Proofs.YtgmjlkllghlmmaaGreat

namespace Go.Proofs.YtgmjlkllghlmmaaGreat
open Go.RowKit Go.Maps

/-- The other end is a place of the net. -/
theorem endOf_place {l : Lk} {ds : List Dv} {d p : Int} {t : Int × Int} (h : endOf l d p = some t) (h1 : isPl ds l.a l.p = true) (h2 : isPl ds l.b l.q = true) : isPl ds t.1 t.2 = true := by
  unfold endOf at h
  split at h
  · cases h; exact h2
  · split at h
    · cases h; exact h1
    · cases h
theorem peerF_place {ds : List Dv} : ∀ (ls : List Lk) (d p : Int) (t : Int × Int), (∀ l ∈ ls, isPl ds l.a l.p = true ∧ isPl ds l.b l.q = true) → peerF ls d p = some t → isPl ds t.1 t.2 = true
  | [], d, p, t, _, h => by cases h
  | l :: ls, d, p, t, hl, h => by
    have h' : (endOf l d p).or (peerF ls d p) = some t := h
    cases he : endOf l d p with
    | some t' =>
      rw [he] at h'
      cases h'
      exact endOf_place he (hl l (by simp)).1 (hl l (by simp)).2
    | none =>
      rw [he] at h'
      exact peerF_place ls d p t (fun m hm => hl m (by simp [hm])) h'
theorem isPl_ok {ds : List Dv} (hd : ds.length ≤ 10) {x y : Int} (h : isPl ds x y = true) : i64ok x ∧ i64ok y := by
  unfold isPl at h
  simp only [Bool.and_eq_true, decide_eq_true_eq] at h
  have : portsV (kindAt ds x) ≤ 4 := by
    unfold portsV
    split
    all_goals first | omega | (split <;> omega) | skip
  exact ⟨i64ok_of (by omega) (by omega), i64ok_of (by omega) (by omega)⟩
theorem peer_ok {ds : List Dv} {ls : List Lk} (hz : netV ds ls = 0) {d p : Int} {t : Int × Int} (h : peerF ls d p = some t) : i64ok t.1 ∧ i64ok t.2 :=
  isPl_ok (netV_links hz).1 (peerF_place ls d p t (netV_links hz).2.2.2 h)
def inj2 (AD : Arv → List Arv) (ar : List Arv) (q : Pk) : Option (Int × Int) → Int × List Arv
  | some t => (0, AD (t, q))
  | none => (7, ar)
/-- What inject tells, and what came in then. -/
noncomputable def injP (ds : List Dv) (ls : List Lk) (ar : List Arv) (i : Int) (p : Pk) : Int × List Arv :=
  if 0 ≤ i ∧ i < (ds.length : Int) then
    (if (ds.getD i.toNat default).kind = 1 then
      (if pkOk p then
        (if p.s = (ds.getD i.toNat default).addr then
          inj2 (addA ar) ar p (peerF ls i 0)
        else (1, ar))
      else (1, ar))
    else (1, ar))
  else (4, ar)
end Go.Proofs.YtgmjlkllghlmmaaGreat

namespace Go.Proofs.YtgmjlkllghlmmaaGreat
open Go.RowKit Go.Maps

theorem AOut.from {w W w' : World} {p : Wp} {S : Option Addr} {ds : List Dv} {ls : List Lk} {n : Nat} {M : Mnd} {ar : List Arv} (hb : Below w.heap.size w W) (h : AOut W p S ds ls n M ar w') : AOut w p S ds ls n M ar w' := by
  obtain ⟨S', cS', h1, h2, h3⟩ := h
  refine ⟨S', cS', h1, (WF.of_below hb).trans h2, fun a ha => ?_⟩
  rcases h3 a ha with h | h
  · exact Or.inl h
  · exact Or.inr (Nat.le_trans hb.size h)
theorem AOut.same {w w' : World} {p : Wp} {S : Option Addr} {cS : Nat} {ds : List Dv} {ls : List Lk} {n : Nat} {M : Mnd} {ar : List Arv} (h : WlAt w' p S cS ds ls n M ar) (hb : Below w.heap.size w w') : AOut w p S ds ls (n + 1) M ar w' := ⟨S, cS, h.mono (by omega), WF.of_below hb, SG.refl _ _⟩
set_option maxHeartbeats 8000000 in
set_option maxRecDepth 100000 in
theorem inject_any {p : Wp} {S : Option Addr} {cS : Nat} {ds : List Dv} {ls : List Lk} {n : Nat} {M : Mnd} {ar : List Arv} (i : Int) (q : Pk) (w : World) (h : Hid (WlAt w p S cS ds ls n M ar)) (hz : Hid (netV ds ls = 0)) (hn : n < maxLen) (ha : ar.length ≤ 5000) :
    Calls Tryz.prog 52 #[.pointer (some ⟨p.B, 0, none⟩), .int .i64 i, pkV q] w fun e w' => e = .returned (.int .i64 (injP ds ls ar i q).1) ∧ AOut w p S ds ls (n + 1) M (injP ds ls ar i q).2 w' := by
  have h1 := h.out.alloc (pkC q)
  have D1 := Below.alN (Below.refl w.heap.size w) (pkC q)
  have X1 := bk_new w #[.int .i64 q.s, .int .i64 q.d, .int .i64 q.sp, .int .i64 q.dp] 39
  have b0 := h1.blk.at 0
  obtain ⟨r, hr⟩ : ∃ r, injP ds ls ar i q = r := ⟨_, rfl⟩
  rw [hr]
  have HR : Hid (injP ds ls ar i q = r) := hr
  clear hr
  by_cases hi : 0 ≤ i ∧ i < (ds.length : Int)
  rotate_left
  · have hv : r = (4, ar) := by
      rw [← HR.out]
      unfold injP
      rw [if_neg hi]
    subst hv
    have hf := AOut.same h1 D1
    clear HR
    by_cases h0 : i < 0
    · have u0 : decide (i < 0) = true := by simpa using h0
      clear hi h0
      go_enter Tryz.func52, Tryz.ntmps52
      go_wp2_with fail
      go_ret
      exact ⟨rfl, hf⟩
    · have u0 : decide (i < 0) = false := by simpa using h0
      have u1' : decide ((ds.length : Int) ≤ i) = true := by simp; omega
      clear hi h0
      go_enter Tryz.func52, Tryz.ntmps52
      go_wp2_with fail
      go_ret
      exact ⟨rfl, hf⟩
  obtain ⟨j, rfl⟩ : ∃ j : Nat, i = (j : Int) := ⟨i.toNat, by omega⟩
  have hj : j < ds.length := by omega
  obtain ⟨d, hd⟩ : ∃ d, ds[j]? = some d := ⟨_, List.getElem?_eq_getElem hj⟩
  have hgd : ds.getD j default = d := by rw [List.getD_eq_getElem?_getD, hd]; rfl
  obtain ⟨b, o, vb, vr, vt, hA, hbl, s1, s2, s3, c0, c1, c2, c3, c4, c5, c6⟩ := h1.devs.at hd
  obtain ⟨Ab, cb, rfl, _⟩ := s1
  obtain ⟨Ar, cr, rfl, _⟩ := s2
  obtain ⟨At, ct, rfl, _⟩ := s3
  have HV : Hid (r = ((if d.kind = 1 then (if pkOk q then (if q.s = d.addr then inj2 (addA ar) ar q (peerF ls (j : Int) 0) else (1, ar)) else (1, ar)) else (1, ar)) : Int × List Arv)) := by
    show _ = _
    rw [← HR.out]
    unfold injP
    rw [if_pos hi, Int.toNat_natCast, hgd]
  have k1 : (0 : Int) ≤ (j : Int) := by omega
  have k2 : (j : Int) < (ds.length : Int) := hi.2
  have u0 : decide ((j : Int) < 0) = false := by simp
  have u1' : decide ((ds.length : Int) ≤ (j : Int)) = false := by simp; omega
  have h2 := h1.alloc (.cells #[.string d.name, .int .i64 d.kind, .int .i64 d.addr, .int .u8 (d.pool : Int), .slice Ab d.backs.length cb, .slice Ar d.rules.length cr, .slice At d.routes.length ct] 78)
  have D2 := Below.alN D1 (.cells #[.string d.name, .int .i64 d.kind, .int .i64 d.addr, .int .u8 (d.pool : Int), .slice Ab d.backs.length cb, .slice Ar d.rules.length cr, .slice At d.routes.length ct] 78)
  have X2 := X1.alloc (.cells #[.string d.name, .int .i64 d.kind, .int .i64 d.addr, .int .u8 (d.pool : Int), .slice Ab d.backs.length cb, .slice Ar d.rules.length cr, .slice At d.routes.length ct] 78)
  have V2 := bk_new' (w.alloc (pkC q)) #[.string d.name, .int .i64 d.kind, .int .i64 d.addr, .int .u8 (d.pool : Int), .slice Ab d.backs.length cb, .slice Ar d.rules.length cr, .slice At d.routes.length ct] 78 (w.heap.size + 1) (by simp)
  have PCp : Hid (∀ W, Calls Tryz.prog 28 #[pkV q] W fun e w' => e = .returned (.int .i64 (if pkOk q then 0 else 1)) ∧ Below W.heap.size W w') := fun W => pcheck_any q W
  have PEE : Hid (∀ W, WlAt W p S cS ds ls n M ar → Calls Tryz.prog 30 #[.agg #[.slice p.A ds.length p.c, .slice p.L ls.length p.d], plA (j : Int) 0] W fun e w' => e = .returned (.tuple #[placeV (peerF ls (j : Int) 0), .bool (peerF ls (j : Int) 0).isSome]) ∧ Below W.heap.size W w') := fun W hw => peer_any _ p.L ls.length p.d ls (j : Int) 0 W (hw.links.mono (Nat.le_of_lt hw.blk.lt))
  have ARR : Hid (∀ (t : Int × Int) W, WlAt W p S cS ds ls n M ar → i64ok t.1 ∧ i64ok t.2 → pkOk q = true → Calls Tryz.prog 85 #[.pointer (some ⟨p.B, 0, none⟩), arV t q] W fun e w' => (∃ v, e = .returned v) ∧ AOut W p S ds ls (n + 1) M (addA ar (t, q)) w') := fun t W hw ht hq => arrive_any (t, q) W hw ⟨ht.1, ht.2, pkOk_ok hq⟩ hn ha
  have TOK : Hid (∀ t, peerF ls (j : Int) 0 = some t → i64ok t.1 ∧ i64ok t.2) := fun t ht => peer_ok hz.out ht
  have v1 := V2.at 1
  have v2 := V2.at 2
  rw [hA] at b0
  clear hA HR hi hgd hd hbl h X1 D1 h1 hz
  generalize hpf : peerF ls (j : Int) 0 = pf at *
  generalize addA ar = AD at *
  obtain ⟨s, dd, sp, dp⟩ := q
  by_cases hk : d.kind = 1
  rotate_left
  · have hv : r = (1, ar) := HV.out.trans (if_neg hk)
    subst hv
    have hf := AOut.same h2 D2
    have uk : (d.kind == 1) = false := by simpa using hk
    have HK1 : Hid (¬ d.kind = 1) := hk
    clear HV hk
    go_enter Tryz.func52, Tryz.ntmps52
    go_wp2_with fail
    all_goals first | exact absurd (by assumption) HK1.out | skip
    go_ret
    exact ⟨rfl, hf⟩
  have HV2 : Hid (r = ((if pkOk ⟨s, dd, sp, dp⟩ then (if s = d.addr then inj2 AD ar ⟨s, dd, sp, dp⟩ pf else (1, ar)) else (1, ar)) : Int × List Arv)) := by
    exact HV.out.trans (if_pos hk)
  clear HV
  generalize d.kind = kd at *
  subst hk
  generalize d.addr = ad at *
  obtain ⟨x0, x1, x2, x3, _⟩ := X2.four
  cases hpo : pkOk ⟨s, dd, sp, dp⟩
  · rw [hpo] at PCp
    simp only [Bool.false_eq_true, if_false] at PCp
    have hv : r = (1, ar) := HV2.out.trans (if_neg (by rw [hpo]; exact Bool.false_ne_true))
    subst hv
    clear HV2 ARR TOK PEE
    go_enter Tryz.func52, Tryz.ntmps52
    go_wp2_with fail
    refine (PCp.out _).mono ?_
    rintro e w3 ⟨rfl, hb3⟩
    have hf := AOut.same (h2.below hb3) (chnN hb3 D2)
    go_wp2_with fail
    go_ret
    exact ⟨rfl, hf⟩
  rw [hpo] at PCp
  simp only [if_true] at PCp
  have HP : Hid (pkOk ⟨s, dd, sp, dp⟩ = true) := hpo
  have HV3 : Hid (r = ((if s = ad then inj2 AD ar ⟨s, dd, sp, dp⟩ pf else (1, ar)) : Int × List Arv)) := by
    exact HV2.out.trans (if_pos hpo)
  clear hpo HV2
  by_cases hs : s = ad
  rotate_left
  · have hv : r = (1, ar) := HV3.out.trans (if_neg hs)
    subst hv
    have us : (s == ad) = false := by simpa using hs
    have HSA : Hid (¬ s = ad) := hs
    clear HV3 ARR TOK PEE hs
    go_enter Tryz.func52, Tryz.ntmps52
    go_wp2_with fail
    refine (PCp.out _).mono ?_
    rintro e w3 ⟨rfl, hb3⟩
    have hf := AOut.same (h2.below hb3) (chnN hb3 D2)
    obtain ⟨y0, y1, y2, y3, _⟩ := (X2.keep hb3).four
    have z2 := (V2.keep hb3).at 2
    go_wp2_with fail
    all_goals first | exact absurd (by assumption) HSA.out | skip
    go_ret
    exact ⟨rfl, hf⟩
  subst hs
  have HV4 : Hid (r = (inj2 AD ar ⟨s, dd, sp, dp⟩ pf : Int × List Arv)) := by
    exact HV3.out.trans (if_pos rfl)
  clear HV3
  go_enter Tryz.func52, Tryz.ntmps52
  go_wp2_with fail
  refine (PCp.out _).mono ?_
  rintro e w3 ⟨rfl, hb3⟩
  have h3 := h2.below hb3
  have D3 := chnN hb3 D2
  have X3 := X2.keep hb3
  obtain ⟨y0, y1, y2, y3, _⟩ := X3.four
  have z2 := (V2.keep hb3).at 2
  have c0' := h3.blk.at 0
  have c1' := h3.blk.at 1
  clear hb3 h2 D2 X2 V2 x0 x1 x2 x3 v1 v2 b0 c0 c1 c2 c3 c4 c5 c6
  go_wp2_with fail
  with_reducible refine (PEE.out _ h3).mono ?_
  rintro e w4 ⟨rfl, hb4⟩
  have h4 := h3.below hb4
  have D4 := chnN hb4 D3
  have X4 := X3.keep hb4
  clear hb4 h3 D3 X3 y0 y1 y2 y3 z2 c0' c1'
  cases pf with
  | none =>
    have hv : r = (7, ar) := HV4.out
    subst hv
    have hf := AOut.same (h4.alloc (.cells #[.int .i64 0, .int .i64 0] 37)) (Below.alN D4 (.cells #[.int .i64 0, .int .i64 0] 37))
    clear HV4 ARR TOK PEE
    go_wp2_with fail
    go_ret
    exact ⟨rfl, hf⟩
  | some t =>
    have hv : r = (0, AD (t, ⟨s, dd, sp, dp⟩)) := HV4.out
    subst hv
    have ht := TOK.out t rfl
    obtain ⟨t1, t2⟩ := t
    have h5 := h4.alloc (.cells #[.int .i64 t1, .int .i64 t2] 37)
    have D5 := Below.alN D4 (.cells #[.int .i64 t1, .int .i64 t2] 37)
    have A6 : Hid (Calls Tryz.prog 85 #[.pointer (some ⟨p.B, 0, none⟩), .agg #[.int .i64 t1, .int .i64 t2, .int .i64 s, .int .i64 dd, .int .i64 sp, .int .i64 dp]] (w4.alloc (.cells #[.int .i64 t1, .int .i64 t2] 37)) _) := ARR.out (t1, t2) _ h5 ht HP.out
    obtain ⟨y0, y1, y2, y3, _⟩ := (X4.alloc (.cells #[.int .i64 t1, .int .i64 t2] 37)).four
    clear HV4 ARR TOK PEE ht
    go_wp2_with fail
    with_reducible refine A6.out.mono ?_
    rintro e w6 ⟨⟨v, rfl⟩, hA6⟩
    have hf := AOut.from D5 hA6
    go_wp2_with fail
    go_ret
    exact ⟨rfl, hf⟩
end Go.Proofs.YtgmjlkllghlmmaaGreat

namespace Go.Proofs.YtgmjlkllghlmmaaGreat
open Go.RowKit Go.Maps

abbrev arZ : Obj := .cells #[.int .i64 0, .int .i64 0, .int .i64 0, .int .i64 0, .int .i64 0, .int .i64 0] 43
/-- A variable for an arrival, new. -/
def ZB (T k : Nat) (W : World) : Prop := Bk W k #[.int .i64 0, .int .i64 0, .int .i64 0, .int .i64 0, .int .i64 0, .int .i64 0] 43 ∧ T ≤ k
theorem zb_new {T : Nat} {W : World} (h : T ≤ W.heap.size) : ZB T W.heap.size (W.alloc arZ) := ⟨bk_new W _ _, h⟩
theorem ZB.drew {T k : Nat} {W : World} (h : ZB T k W) : ZB T k W.drew := h
theorem ZB.ck {T k : Nat} {W W' : World} (h : ZB T k W) (hc : CK W W') : ZB T k W' := ⟨h.1.ck hc, h.2⟩
/-- A store into a block that is none of a world's own. -/
theorem WlAt.put {W W' : World} {p : Wp} {S : Option Addr} {cS : Nat} {ds : List Dv} {ls : List Lk} {n : Nat} {M : Mnd} {ar : List Arv} (h : WlAt W p S cS ds ls n M ar) {k : Nat} (hk : p.B < k) (hs : ∀ g, (Value.slice S ar.length cS).ownBlock = some g → g ≠ k) (hF : ∀ b, b ≠ k → W'.heap[b]? = W.heap[b]?) : WlAt W' p S cS ds ls n M ar := by
  obtain ⟨l1, l2, l3, l4⟩ := h.lo
  have kt : KT p.B W W' := fun b hb _ => hF b (by omega)
  exact ⟨(hF _ (by omega)).trans h.blk, h.devs.kt kt, h.links.kt kt, h.mdevs.kt kt, h.mlinks.kt kt, h.fl.same (hF _ (by omega)), h.ow.same (hF _ (by omega)), h.bk.same (hF _ (by omega)), h.fo, h.fk, h.ok, own_keptBut h.seen (fun g hg => hF g (hs g hg)), h.was.same (hF _ (by omega)), h.gf, h.go, h.gk, h.lo, h.all⟩
theorem WF.set6 {w W : World} {p : Wp} {S : Option Addr} (h : WF p S w W) {k : Nat} (hk : w.heap.size ≤ k) (u0 u1 u2 u3 u4 u5 : Value) : WF p S w ((((((W.setCell ⟨k, 0, none⟩ u0).setCell ⟨k, 1, none⟩ u1).setCell ⟨k, 2, none⟩ u2).setCell ⟨k, 3, none⟩ u3).setCell ⟨k, 4, none⟩ u4).setCell ⟨k, 5, none⟩ u5) := by
  have hb := ((((((Below.refl w.heap.size W).setCell (p := ⟨k, 0, none⟩) hk u0).setCell (p := ⟨k, 1, none⟩) hk u1).setCell (p := ⟨k, 2, none⟩) hk u2).setCell (p := ⟨k, 3, none⟩) hk u3).setCell (p := ⟨k, 4, none⟩) hk u4).setCell (p := ⟨k, 5, none⟩) hk u5
  exact ⟨hb.os.trans h.os, hb.tape.trans h.tape, hb.output.trans h.output, Nat.le_trans h.size hb.size, fun b hb' q1 q2 q3 q4 q5 q6 => (hb.block b hb').trans (h.block b hb' q1 q2 q3 q4 q5 q6)⟩
theorem set6_size (W : World) (k : Nat) (u0 u1 u2 u3 u4 u5 : Value) : ((((((W.setCell ⟨k, 0, none⟩ u0).setCell ⟨k, 1, none⟩ u1).setCell ⟨k, 2, none⟩ u2).setCell ⟨k, 3, none⟩ u3).setCell ⟨k, 4, none⟩ u4).setCell ⟨k, 5, none⟩ u5).heap.size = W.heap.size := by simp only [World.setCell, Array.size_modify]
theorem WlAt.set6 {W : World} {p : Wp} {S : Option Addr} {cS : Nat} {ds : List Dv} {ls : List Lk} {n : Nat} {M : Mnd} {ar : List Arv} (h : WlAt W p S cS ds ls n M ar) {k : Nat} (hk : p.B < k) (hs : ∀ g, (Value.slice S ar.length cS).ownBlock = some g → g ≠ k) (u0 u1 u2 u3 u4 u5 : Value) : WlAt ((((((W.setCell ⟨k, 0, none⟩ u0).setCell ⟨k, 1, none⟩ u1).setCell ⟨k, 2, none⟩ u2).setCell ⟨k, 3, none⟩ u3).setCell ⟨k, 4, none⟩ u4).setCell ⟨k, 5, none⟩ u5) p S cS ds ls n M ar := h.put hk hs (fun _ hb => set6_block hb u0 u1 u2 u3 u4 u5)
theorem Bk.set6 {W : World} {b k : Nat} {c : Array Value} {t : TypeId} (h : Bk W b c t) (hk : b ≠ k) (u0 u1 u2 u3 u4 u5 : Value) : Bk ((((((W.setCell ⟨k, 0, none⟩ u0).setCell ⟨k, 1, none⟩ u1).setCell ⟨k, 2, none⟩ u2).setCell ⟨k, 3, none⟩ u3).setCell ⟨k, 4, none⟩ u4).setCell ⟨k, 5, none⟩ u5) b c t := (set6_block hk u0 u1 u2 u3 u4 u5).trans h
theorem AOut.after {w W w' : World} {p : Wp} {S : Option Addr} {ds : List Dv} {ls : List Lk} {n : Nat} {M : Mnd} {ar : List Arv} (hb : WF p S w W) (h : AOut W p S ds ls n M ar w') : AOut w p S ds ls n M ar w' := by
  obtain ⟨S', cS', h1, h2, h3⟩ := h
  refine ⟨S', cS', h1, hb.trans h2, fun a ha => ?_⟩
  rcases h3 a ha with h | h
  · exact Or.inl h
  · exact Or.inr (Nat.le_trans hb.size h)
/-- What hop tells, and what is known and came in then. -/
noncomputable def hopP (ds : List Dv) (ls : List Lk) (M : Mnd) (ar : List Arv) (i q : Int) (p : Pk) (c : Int) : Int × Mnd × List Arv :=
  if (inF ar ((i, q), p)).isSome = true then
    ((handleP ds ls M i q p c).err, (handleP ds ls M i q p c).M, if (handleP ds ls M i q p c).err = 0 then addA ar ((handleP ds ls M i q p c).tp, (handleP ds ls M i q p c).p) else ar)
  else (7, M, ar)
set_option maxHeartbeats 8000000 in
set_option maxRecDepth 100000 in
theorem hop_any {p : Wp} {S : Option Addr} {cS : Nat} {ds : List Dv} {ls : List Lk} {n : Nat} {M : Mnd} {ar : List Arv} (i q : Int) (x : Pk) (c : Int) (w : World) (h : Hid (WlAt w p S cS ds ls n M ar)) (hx : Hid (arvOk ((i, q), x))) (hc : Hid (i64ok c)) (hA : Hid (AddrsOk ds)) (hO : Hid ((handleP ds ls M i q x c).err = 0 → arvOk ((handleP ds ls M i q x c).tp, (handleP ds ls M i q x c).p))) (hn : n + 1 < maxLen) (ha : ar.length ≤ 5000) :
    Calls Tryz.prog 53 #[.pointer (some ⟨p.B, 0, none⟩), plA i q, pkV x, .int .i64 c] w fun e w' => e = .returned (.int .i64 (hopP ds ls M ar i q x c).1) ∧ AOut w p S ds ls (n + 1 + 1) (hopP ds ls M ar i q x c).2.1 (hopP ds ls M ar i q x c).2.2 w' := by
  have h2 := (h.out.alloc (.cells #[.int .i64 i, .int .i64 q] 37)).alloc (pkC x)
  have D2 := Below.alN (Below.alN (Below.refl w.heap.size w) (.cells #[.int .i64 i, .int .i64 q] 37)) (pkC x)
  have P2 := (bk_new w #[.int .i64 i, .int .i64 q] 37).alloc (pkC x)
  have X2 := bk_new' (w.alloc (.cells #[.int .i64 i, .int .i64 q] 37)) #[.int .i64 x.s, .int .i64 x.d, .int .i64 x.sp, .int .i64 x.dp] 39 (w.heap.size + 1) (by simp)
  have HS : Hid (∀ W, WlAt W p S cS ds ls n M ar → Calls Tryz.prog 18 #[.pointer (some ⟨p.B, 0, none⟩), plA i q, pkV x] W fun e w' => e = .returned (.bool (inF ar ((i, q), x)).isSome) ∧ Below W.heap.size W w') := fun W hw => whas_any ((i, q), x) W hw hx.out
  have zB := h.out.blk.lt
  have seenLt : ∀ g, (Value.slice S ar.length cS).ownBlock = some g → g < w.heap.size := fun g hg => (own_block h.out.seen hg).1
  obtain ⟨v, hv⟩ : ∃ v, (inF ar ((i, q), x)).isSome = v := ⟨_, rfl⟩
  obtain ⟨r, hr⟩ : ∃ r, handleP ds ls M i q x c = r := ⟨_, rfl⟩
  have HP : Hid (hopP ds ls M ar i q x c = if v = true then (r.err, r.M, if r.err = 0 then addA ar (r.tp, r.p) else ar) else (7, M, ar)) := by
    show _ = _
    unfold hopP
    rw [hv, hr]
  rw [hv] at HS
  generalize hopP ds ls M ar i q x c = res at *
  have HD0 : Hid (∀ W, WlAt W p S cS ds ls n M ar → Calls Tryz.prog 7 #[.pointer (some ⟨p.B, 2, none⟩), plA i q, pkV x, .int .i64 c] W fun e w' => e = .returned (.tuple #[arV r.tp r.p, .int .i64 r.err]) ∧ (WlAt w' p S cS ds ls (n + 1) r.M ar ∧ WF p S W w') ∧ CK W w') := fun W hw => (handle_any (p.m ds.length ls.length S cS ar.length) ds ls n M i q x c W hw.mem (by omega) hA.out hx.out.1 hc.out).mono fun e w' ⟨h1, h2, h3⟩ => by
    rw [hr] at h1 h2
    exact ⟨h1, ⟨hw.hk (by omega) h2 h3, WF.of_hk h3⟩, hw.mem.ck h3⟩
  rw [hr] at hO
  have ARR : Hid (r.err = 0 → ∀ W, WlAt W p S cS ds ls (n + 1) r.M ar → Calls Tryz.prog 85 #[.pointer (some ⟨p.B, 0, none⟩), arV r.tp r.p] W fun e w' => (∃ v, e = .returned v) ∧ AOut W p S ds ls (n + 1 + 1) r.M (addA ar (r.tp, r.p)) w') := fun he W hw => arrive_any (r.tp, r.p) W hw (hO.out he) hn ha
  obtain ⟨er, ⟨t1, t2⟩, ⟨r1, r2, r3, r4⟩, Mr⟩ := r
  obtain ⟨s, d, sp, dp⟩ := x
  dsimp only at *
  generalize hb1 : w.heap.size = b1 at *
  generalize hb2' : b1 + 1 = b2 at *
  obtain ⟨p0, p1⟩ := P2.two
  obtain ⟨q0, q1, q2, q3, _⟩ := X2.four
  clear h hx hc hA hO hv hr
  go_enter Tryz.func53, Tryz.ntmps53
  go_wp2_with fail
  with_reducible refine (HS.out _ h2).mono ?_
  rintro e w3 ⟨rfl, hb3⟩
  have h3 := h2.below hb3
  have D3 : Below w.heap.size w w3 := chnN hb3 (by rw [hb1]; exact D2)
  have P3 := P2.keep hb3
  have X3 := X2.keep hb3
  clear hb3 h2 D2 P2 X2 p0 p1 q0 q1 q2 q3 HS
  cases v
  · have hv := HP.out.trans (if_neg Bool.false_ne_true)
    subst hv
    have hf : AOut w p S ds ls (n + 1 + 1) M ar w3 := AOut.same (h3.mono (Nat.le_succ n)) D3
    clear HP ARR HD0
    go_wp2_with fail
    go_ret
    exact ⟨rfl, hf⟩
  have HV : Hid (res = (er, Mr, if er = 0 then addA ar ((t1, t2), ⟨r1, r2, r3, r4⟩) else ar)) := HP.out.trans (if_pos rfl)
  clear HP
  obtain ⟨Q, hQ⟩ : ∃ Q : Nat → Mnd → World → Prop, Q = fun n M W => WlAt W p S cS ds ls n M ar ∧ WF p S w W ∧ Bk W b1 #[.int .i64 i, .int .i64 q] 37 ∧ Bk W b2 #[.int .i64 s, .int .i64 d, .int .i64 sp, .int .i64 dp] 39 ∧ b2 < W.heap.size := ⟨_, rfl⟩
  have Q3 : Q n M w3 := by
    rw [hQ]
    exact ⟨h3, WF.of_below D3, P3, X3, X3.lt⟩
  have FS : ∀ {n : Nat} {M : Mnd} {w' : World}, Q n M w' → (w'.cell? ⟨b1, 0, none⟩ = some (.int .i64 i) ∧ w'.cell? ⟨b1, 1, none⟩ = some (.int .i64 q) ∧ w'.cell? ⟨b2, 0, none⟩ = some (.int .i64 s) ∧ w'.cell? ⟨b2, 1, none⟩ = some (.int .i64 d) ∧ w'.cell? ⟨b2, 2, none⟩ = some (.int .i64 sp) ∧ w'.cell? ⟨b2, 3, none⟩ = some (.int .i64 dp)) := fun {n M w'} h => by
    rw [hQ] at h
    exact ⟨h.2.2.1.at 0, h.2.2.1.at 1, h.2.2.2.1.at 0, h.2.2.2.1.at 1, h.2.2.2.1.at 2, h.2.2.2.1.at 3⟩
  have AL : ∀ {n : Nat} {M : Mnd} {W : World} (o : Obj), Q n M W → Q n M (W.alloc o) := fun {n M W} o h => by
    rw [hQ] at h ⊢
    have hb : Below W.heap.size W (W.alloc o) := (Below.refl _ _).alloc (Nat.le_refl _) o
    exact ⟨h.1.alloc o, h.2.1.trans (WF.of_below hb), h.2.2.1.alloc o, h.2.2.2.1.alloc o, Nat.lt_of_lt_of_le h.2.2.2.2 hb.size⟩
  have DR : ∀ {n : Nat} {M : Mnd} {W : World}, Q n M W → Q n M W.drew := fun {n M W} h => by
    rw [hQ] at h ⊢
    exact ⟨h.1.drew, h.2.1.trans (WF.of_below (Below.refl _ _).drew), h.2.2.1.drew, h.2.2.2.1.drew, h.2.2.2.2⟩
  have S6 : ∀ {n : Nat} {M : Mnd} {W : World} {k : Nat}, Q n M W → ZB (b2 + 1) k W → ∀ u0 u1 u2 u3 u4 u5 : Value, Q n M ((((((W.setCell ⟨k, 0, none⟩ u0).setCell ⟨k, 1, none⟩ u1).setCell ⟨k, 2, none⟩ u2).setCell ⟨k, 3, none⟩ u3).setCell ⟨k, 4, none⟩ u4).setCell ⟨k, 5, none⟩ u5) := fun {n M W k} h z u0 u1 u2 u3 u4 u5 => by
    rw [hQ] at h ⊢
    have hz := z.2
    exact ⟨h.1.set6 (by omega) (fun g hg e => by have := seenLt g hg; omega) u0 u1 u2 u3 u4 u5, h.2.1.set6 (by omega) u0 u1 u2 u3 u4 u5, h.2.2.1.set6 (by omega) u0 u1 u2 u3 u4 u5, h.2.2.2.1.set6 (by omega) u0 u1 u2 u3 u4 u5, by rw [set6_size]; exact h.2.2.2.2⟩
  have UN : Hid (∀ {n : Nat} {M : Mnd} {W : World}, Q n M W → WlAt W p S cS ds ls n M ar ∧ WF p S w W) := fun {n M W} h => by
    rw [hQ] at h
    exact ⟨h.1, h.2.1⟩
  have TW : ∀ {n : Nat} {M : Mnd} {W : World}, Q n M W → b2 + 1 ≤ W.heap.size := fun {n M W} h => by
    rw [hQ] at h
    exact h.2.2.2.2
  have HD : Hid (∀ W, Q n M W → Calls Tryz.prog 7 #[.pointer (some ⟨p.B, 2, none⟩), .agg #[.int .i64 i, .int .i64 q], .agg #[.int .i64 s, .int .i64 d, .int .i64 sp, .int .i64 dp], .int .i64 c] W fun e w' => e = .returned (.tuple #[.agg #[.int .i64 t1, .int .i64 t2, .int .i64 r1, .int .i64 r2, .int .i64 r3, .int .i64 r4], .int .i64 er]) ∧ Q (n + 1) Mr w' ∧ CK W w') := fun W h => by
    rw [hQ] at h
    refine (HD0.out W h.1).mono fun e w' ⟨h1, ⟨h2, h3⟩, h4⟩ => ⟨h1, ?_, h4⟩
    rw [hQ]
    exact ⟨h2, h.2.1.trans h3, h.2.2.1.ck h4, h.2.2.2.1.ck h4, Nat.lt_of_lt_of_le h.2.2.2.2 h4.size⟩
  have Q0d := DR Q3
  have Q0a := DR (AL arZ Q3)
  have Z0a := ZB.drew (zb_new (TW Q3))
  obtain ⟨c0, c1, c2, c3, c4, c5⟩ := FS Q3
  clear hQ h3 D3 P3 X3 HD0
  go_upto_region 3 with fail
  go_cut [9, 10] (fun v1 v2 wx => ∃ g, v1 = .pointer (some ⟨g, 0, none⟩) ∧ v2 = .int .i64 er ∧ Bk wx g #[.int .i64 t1, .int .i64 t2, .int .i64 r1, .int .i64 r2, .int .i64 r3, .int .i64 r4] 43 ∧ Q (n + 1) Mr wx)
  case first =>
    go_region_held3 (fun w' => w'.cell? ⟨b1, 0, none⟩ = some (.int .i64 i) ∧ w'.cell? ⟨b1, 1, none⟩ = some (.int .i64 q) ∧ w'.cell? ⟨b2, 0, none⟩ = some (.int .i64 s) ∧ w'.cell? ⟨b2, 1, none⟩ = some (.int .i64 d) ∧ w'.cell? ⟨b2, 2, none⟩ = some (.int .i64 sp) ∧ w'.cell? ⟨b2, 3, none⟩ = some (.int .i64 dp)) (exact FS (by first | with_reducible exact Sh | with_reducible exact AL _ Sh | with_reducible exact S6 Sh Zh _ _ _ _ _ _ | with_reducible exact Q0a | with_reducible exact Q0d)) (first | (go_at_call 7; (with_reducible refine (HD.out _ Q0a).mono ?_); rintro e wh ⟨rfl, Sh, Ch⟩; have Zh := ZB.ck Z0a Ch; obtain ⟨⟨zz0, zz1, zz2, zz3, zz4, zz5⟩, ⟨zf0, zf1, zf2, zf3, zf4, zf5⟩⟩ := Zh.1.six) | (go_at_call 7; (with_reducible refine (HD.out _ Q0d).mono ?_); rintro e wh ⟨rfl, Sh, Ch⟩; skip))
    all_goals
      go_wp2_with fail
      go_meet
      first
        | exact ⟨_, rfl, rfl, (by have := (((((Zh.1.setS (j := 0) (.int .i64 t1)).setS (j := 1) (.int .i64 t2)).setS (j := 2) (.int .i64 r1)).setS (j := 3) (.int .i64 r2)).setS (j := 4) (.int .i64 r3)).setS (j := 5) (.int .i64 r4); simpa using this), S6 Sh Zh _ _ _ _ _ _⟩
        | exact ⟨_, rfl, rfl, bk_new _ _ _, AL _ Sh⟩
  case rest =>
    clear Q0d Q0a Z0a c0 c1 c2 c3 c4 c5 Q3 HD FS AL DR S6 TW
    obtain ⟨g, rfl, rfl, G0, Q4⟩ := hcut
    obtain ⟨h4, F4⟩ := UN.out Q4
    clear Q4 UN
    by_cases he : er = 0
    · subst he
      have A5 := ARR.out rfl _ h4
      obtain ⟨⟨g0, g1, g2, g3, g4, g5⟩, _⟩ := G0.six
      have hv : res = (0, Mr, addA ar ((t1, t2), ⟨r1, r2, r3, r4⟩)) := HV.out
      subst hv
      clear ARR HV
      go_wp2_with fail
      with_reducible refine A5.mono ?_
      rintro e w6 ⟨⟨v, rfl⟩, hA6⟩
      have hf := AOut.after F4 hA6
      go_wp2_with fail
      go_ret
      exact ⟨rfl, hf⟩
    · have he1 : (er == 0) = false := by simpa using he
      have HE : Hid (¬ er = 0) := he
      have hf : AOut w p S ds ls (n + 1 + 1) Mr ar wc := ⟨S, cS, h4.mono (Nat.le_succ _), F4, SG.refl _ _⟩
      have hv : res = (er, Mr, ar) := HV.out.trans (by rw [if_neg he])
      subst hv
      clear ARR he HV
      go_wp2_with fail
      all_goals first | exact absurd (by assumption) HE.out | skip
      go_ret
      exact ⟨rfl, hf⟩
end Go.Proofs.YtgmjlkllghlmmaaGreat

namespace Go.Proofs.YtgmjlkllghlmmaaGreat
open Go.RowKit Go.Maps

/-- An event. -/
structure Ev where
  k : Int
  i : Int
  q : Int
  p : Pk
  c : Int
structure Ev.ok (x : Ev) : Prop where
  i : i64ok x.i
  q : i64ok x.q
  p : x.p.ok
  c : i64ok x.c
noncomputable def doP (ds : List Dv) (ls : List Lk) (M : Mnd) (ar : List Arv) (x : Ev) : Int × Mnd × List Arv :=
  if x.k = 1 then ((injP ds ls ar x.i x.p).1, M, (injP ds ls ar x.i x.p).2)
  else if x.k = 2 then hopP ds ls M ar x.i x.q x.p x.c
  else if x.k = 3 then ((forgetP ds M x.i x.p x.c).err, (forgetP ds M x.i x.p x.c).M, ar)
  else (1, M, ar)
theorem AOut.mono {w w' : World} {p : Wp} {S : Option Addr} {ds : List Dv} {ls : List Lk} {n n' : Nat} {M : Mnd} {ar : List Arv} (h : AOut w p S ds ls n M ar w') (hn : n ≤ n') : AOut w p S ds ls n' M ar w' := by
  obtain ⟨S', cS', h1, h2, h3⟩ := h
  exact ⟨S', cS', h1.mono hn, h2, h3⟩
set_option maxHeartbeats 8000000 in
set_option maxRecDepth 100000 in
theorem do_any {p : Wp} {S : Option Addr} {cS : Nat} {ds : List Dv} {ls : List Lk} {n : Nat} {M : Mnd} {ar : List Arv} (x : Ev) (w : World) (h : Hid (WlAt w p S cS ds ls n M ar)) (hx : Hid x.ok) (hz : Hid (netV ds ls = 0)) (hO : Hid ((handleP ds ls M x.i x.q x.p x.c).err = 0 → arvOk ((handleP ds ls M x.i x.q x.p x.c).tp, (handleP ds ls M x.i x.q x.p x.c).p))) (hn : n + 1 < maxLen) (ha : ar.length ≤ 5000) :
    Calls Tryz.prog 14 #[.pointer (some ⟨p.B, 0, none⟩), .agg #[.int .i64 x.k, .int .i64 x.i, .int .i64 x.q, .int .i64 x.p.s, .int .i64 x.p.d, .int .i64 x.p.sp, .int .i64 x.p.dp, .int .i64 x.c]] w fun e w' => e = .returned (.int .i64 (doP ds ls M ar x).1) ∧ AOut w p S ds ls (n + 1 + 1) (doP ds ls M ar x).2.1 (doP ds ls M ar x).2.2 w' := by
  have h1 := h.out.alloc (.cells #[.int .i64 x.k, .int .i64 x.i, .int .i64 x.q, .int .i64 x.p.s, .int .i64 x.p.d, .int .i64 x.p.sp, .int .i64 x.p.dp, .int .i64 x.c] 56)
  have D1 := Below.alN (Below.refl w.heap.size w) (.cells #[.int .i64 x.k, .int .i64 x.i, .int .i64 x.q, .int .i64 x.p.s, .int .i64 x.p.d, .int .i64 x.p.sp, .int .i64 x.p.dp, .int .i64 x.c] 56)
  have X1 := bk_new w #[.int .i64 x.k, .int .i64 x.i, .int .i64 x.q, .int .i64 x.p.s, .int .i64 x.p.d, .int .i64 x.p.sp, .int .i64 x.p.dp, .int .i64 x.c] 56
  have INJ : Hid (∀ W, WlAt W p S cS ds ls n M ar → Calls Tryz.prog 52 #[.pointer (some ⟨p.B, 0, none⟩), .int .i64 x.i, pkV x.p] W fun e w' => e = .returned (.int .i64 (injP ds ls ar x.i x.p).1) ∧ AOut W p S ds ls (n + 1) M (injP ds ls ar x.i x.p).2 w') := fun W hw => inject_any x.i x.p W hw hz (by omega) ha
  have HOP : Hid (∀ W, WlAt W p S cS ds ls n M ar → Calls Tryz.prog 53 #[.pointer (some ⟨p.B, 0, none⟩), plA x.i x.q, pkV x.p, .int .i64 x.c] W fun e w' => e = .returned (.int .i64 (hopP ds ls M ar x.i x.q x.p x.c).1) ∧ AOut W p S ds ls (n + 1 + 1) (hopP ds ls M ar x.i x.q x.p x.c).2.1 (hopP ds ls M ar x.i x.q x.p x.c).2.2 w') := fun W hw => hop_any x.i x.q x.p x.c W hw ⟨hx.out.i, hx.out.q, hx.out.p⟩ hx.out.c (addrs_of hz.out) hO hn ha
  have FGT : Hid (∀ W, WlAt W p S cS ds ls n M ar → Calls Tryz.prog 9 #[.pointer (some ⟨p.B, 2, none⟩), .int .i64 x.i, pkV x.p, .int .i64 x.c] W fun e w' => e = .returned (.int .i64 (forgetP ds M x.i x.p x.c).err) ∧ AOut W p S ds ls (n + 1 + 1) (forgetP ds M x.i x.p x.c).M ar w' ∧ CK W w') := fun W hw => (forget_any (p.m ds.length ls.length S cS ar.length) ds ls n M x.i x.p x.c W hw.mem hx.out.i hx.out.p hx.out.c).mono fun e w' ⟨h1, h2, h3⟩ => ⟨h1, ⟨S, cS, hw.hk (n' := n + 1 + 1) (by omega) (h2.mono (by omega)) h3, WF.of_hk h3, SG.refl _ _⟩, hw.mem.ck h3⟩
  obtain ⟨res, hres⟩ : ∃ res, doP ds ls M ar x = res := ⟨_, rfl⟩
  rw [hres]
  have e1 : Hid (x.k = 1 → res = ((injP ds ls ar x.i x.p).1, M, (injP ds ls ar x.i x.p).2)) := fun hk => by
    rw [← hres]; unfold doP; rw [if_pos hk]
  have e2 : Hid (x.k = 2 → res = hopP ds ls M ar x.i x.q x.p x.c) := fun hk => by
    rw [← hres]; unfold doP; rw [if_neg (by omega), if_pos hk]
  have e3 : Hid (x.k = 3 → res = ((forgetP ds M x.i x.p x.c).err, (forgetP ds M x.i x.p x.c).M, ar)) := fun hk => by
    rw [← hres]; unfold doP; rw [if_neg (by omega), if_neg (by omega), if_pos hk]
  have e4 : Hid (¬ x.k = 1 → ¬ x.k = 2 → ¬ x.k = 3 → res = (1, M, ar)) := fun a b c => by
    rw [← hres]; unfold doP; rw [if_neg a, if_neg b, if_neg c]
  have hf0 : AOut w p S ds ls (n + 1 + 1) M ar (w.alloc (.cells #[.int .i64 x.k, .int .i64 x.i, .int .i64 x.q, .int .i64 x.p.s, .int .i64 x.p.d, .int .i64 x.p.sp, .int .i64 x.p.dp, .int .i64 x.c] 56)) := (AOut.same h1 D1).mono (by omega)
  obtain ⟨k, i, q, ⟨s, d, sp, dp⟩, c⟩ := x
  dsimp only at *
  generalize injP ds ls ar i ⟨s, d, sp, dp⟩ = ri at *
  generalize hopP ds ls M ar i q ⟨s, d, sp, dp⟩ c = rh at *
  generalize forgetP ds M i ⟨s, d, sp, dp⟩ c = rf at *
  have x0 := X1.at 0
  have x1 := X1.at 1
  have x2 := X1.at 2
  have x3 := X1.at 3
  have x4 := X1.at 4
  have x5 := X1.at 5
  have x6 := X1.at 6
  have x7 := X1.at 7
  clear h hx hz hO hres
  by_cases h1' : k = 1
  · subst h1'
    have hv := e1.out rfl
    subst hv
    clear e1 e2 e3 e4 hf0 HOP FGT
    go_enter Tryz.func14, Tryz.ntmps14
    go_wp2_with fail
    with_reducible refine (INJ.out _ h1).mono ?_
    rintro e w2 ⟨rfl, hA⟩
    have hf := (AOut.from D1 hA).mono (Nat.le_succ (n + 1))
    go_wp2_with fail
    go_ret
    exact ⟨rfl, hf⟩
  have k1 : (k == 1) = false := by simpa using h1'
  by_cases h2' : k = 2
  · subst h2'
    have hv := e2.out rfl
    subst hv
    clear e1 e2 e3 e4 hf0 INJ FGT h1' k1
    go_enter Tryz.func14, Tryz.ntmps14
    go_wp2_with fail
    with_reducible refine (HOP.out _ h1).mono ?_
    rintro e w2 ⟨rfl, hA⟩
    have hf := AOut.from D1 hA
    go_wp2_with fail
    go_ret
    exact ⟨rfl, hf⟩
  have k2 : (k == 2) = false := by simpa using h2'
  by_cases h3' : k = 3
  rotate_left
  · have k3 : (k == 3) = false := by simpa using h3'
    have hv := e4.out h1' h2' h3'
    subst hv
    have N1 : Hid (¬ k = 1) := h1'
    have N2 : Hid (¬ k = 2) := h2'
    have N3 : Hid (¬ k = 3) := h3'
    clear e1 e2 e3 e4 INJ FGT HOP h1' h2' h3'
    go_enter Tryz.func14, Tryz.ntmps14
    go_wp2_with fail
    all_goals first | exact absurd (by assumption) N1.out | exact absurd (by assumption) N2.out | exact absurd (by assumption) N3.out | skip
    go_ret
    exact ⟨rfl, hf0⟩
  subst h3'
  have hv := e3.out rfl
  subst hv
  clear e1 e2 e3 e4 INJ HOP h1' h2' k1 k2 hf0
  have h1d := h1.drew
  have D1d := D1.drew
  have KE : ∀ {w' : World}, CK (w.alloc (.cells #[.int .i64 3, .int .i64 i, .int .i64 q, .int .i64 s, .int .i64 d, .int .i64 sp, .int .i64 dp, .int .i64 c] 56)).drew w' → w'.cell? ⟨w.heap.size, 1, none⟩ = some (.int .i64 i) ∧ w'.cell? ⟨w.heap.size, 3, none⟩ = some (.int .i64 s) ∧ w'.cell? ⟨w.heap.size, 4, none⟩ = some (.int .i64 d) ∧ w'.cell? ⟨w.heap.size, 5, none⟩ = some (.int .i64 sp) ∧ w'.cell? ⟨w.heap.size, 6, none⟩ = some (.int .i64 dp) ∧ w'.cell? ⟨w.heap.size, 7, none⟩ = some (.int .i64 c) := fun hc => by
    have X := X1.drew.ck hc
    exact ⟨X.at 1, X.at 3, X.at 4, X.at 5, X.at 6, X.at 7⟩
  have C0 : CK (w.alloc (.cells #[.int .i64 3, .int .i64 i, .int .i64 q, .int .i64 s, .int .i64 d, .int .i64 sp, .int .i64 dp, .int .i64 c] 56)).drew (w.alloc (.cells #[.int .i64 3, .int .i64 i, .int .i64 q, .int .i64 s, .int .i64 d, .int .i64 sp, .int .i64 dp, .int .i64 c] 56)).drew := ⟨Nat.le_refl _, fun _ _ _ => rfl⟩
  go_enter Tryz.func14, Tryz.ntmps14
  go_wp2_with fail
  go_region_held3 (fun w' => w'.cell? ⟨w.heap.size, 1, none⟩ = some (.int .i64 i) ∧ w'.cell? ⟨w.heap.size, 3, none⟩ = some (.int .i64 s) ∧ w'.cell? ⟨w.heap.size, 4, none⟩ = some (.int .i64 d) ∧ w'.cell? ⟨w.heap.size, 5, none⟩ = some (.int .i64 sp) ∧ w'.cell? ⟨w.heap.size, 6, none⟩ = some (.int .i64 dp) ∧ w'.cell? ⟨w.heap.size, 7, none⟩ = some (.int .i64 c)) (exact KE (by first | exact C2 | exact C0)) (first | (go_at_call 9; (with_reducible refine (FGT.out _ h1d).mono ?_); rintro e w2 ⟨rfl, hA, C2⟩))
  all_goals
    have hf := AOut.from D1d hA
    go_wp2_with fail
    first
      | exact ⟨rfl, hf⟩
      | (go_ret; exact ⟨rfl, hf⟩)
end Go.Proofs.YtgmjlkllghlmmaaGreat

namespace Go.Proofs.YtgmjlkllghlmmaaGreat
open Go.RowKit Go.Maps

set_option maxHeartbeats 1000000 in
set_option maxRecDepth 100000 in
theorem clone_arrs {v : Value} {N : Nat} {cs : List Value} (w : World) (h : RowAt w.heap.size w v N 6 cs) (hs : N ≤ 1048576) :
    Calls Tryz.prog 55 #[v] w fun e w' => ∃ v', e = .returned v' ∧ w'.ownsRow w.heap.size 43 6 v' N cs ∧ Below w.heap.size w w' := by
  have q : ∀ (w : World) (a : Option Addr) (n c n' c' : Nat), (binOp .eql 59 (.slice a n c) (.slice none n' c')).run Tryz.prog w = .ok (.bool a.isNone) w := fun w a n c n' c' => Lib.run_eql_slice_nil w _ _ a n c n' c' uArs
  obtain ⟨i0, hi, hz0, hz1, hz2⟩ := info_parts infoAr
  have D0 := Below.alN (Below.refl w.heap.size w) (.cells #[] 43)
  have o0 : (w.alloc (.cells #[] 43)).ownsRow w.heap.size 43 6 (.slice (some ⟨w.heap.size, 0, none⟩) 0 0) 0 [] := World.ownsRow_made w #[] 0 (Nat.le_refl _) (Nat.zero_le _) (by simp)
  obtain ⟨A, cap, rfl, h0, h1, h2, hl, ho, h3⟩ := h
  cases A with
  | none =>
    have hN : N = 0 := by
      by_cases hn : N = 0
      · exact hn
      · obtain ⟨_, _, e, _⟩ := h3 hn
        cases e
    subst hN
    have hcs : cs = [] := List.length_eq_zero_iff.1 (by simpa using hl)
    subst hcs
    clear h3 ho hl hs o0
    go_enter Tryz.func55, Tryz.ntmps55
    go_wp2_with fail
    go_ret
    exact ⟨_, rfl, World.ownsRow_nil _ _ _ _, Below.refl _ _⟩
  | some ad =>
    obtain ⟨v', w', hr, h4, h5, _⟩ := run_append_own (P := Tryz.prog) (w.alloc (.cells #[] 43)) w.heap.size 59 59 43 i0 _ 6 48 uArs hi hz0 hz1 hz2 rfl (by decide) _ 0 [] o0 ad N cap cs hl (fun j u hj => by
      have hn : N ≠ 0 := fun e => by
        subst e
        have : cs = [] := List.length_eq_zero_iff.1 (by simpa using hl)
        subst this
        simp at hj
      obtain ⟨b, o, e, hb, hr⟩ := h3 hn
      cases e
      rw [Addr.add_lit]
      exact (D0.cell (p := ⟨b, o + j, none⟩) hb).trans (hr j u hj)) ho (by unfold maxLen; omega) (by omega) (by simp)
    have D1 := Below.appC D0 o0 h5 (Nat.le_refl _) (by simp)
    simp only [List.nil_append, Nat.zero_add] at h4
    have fin : Hid (w'.ownsRow w.heap.size 43 6 v' N cs ∧ Below w.heap.size w w') := ⟨h4, D1⟩
    clear h0 h1 h2 h3 h5 hs o0 D0 h4 D1 hl ho
    go_enter Tryz.func55, Tryz.ntmps55
    go_wp2_with (at_builtin; refine append_runC rfl _ _ 59 rfl rfl rfl hr ?_)
    go_ret
    exact ⟨_, rfl, fin.out⟩
def IsArv (cs : List Value) (x : Arv) : Prop := cs = arC x
theorem oneArv (cs : List Value) (x : Arv) (h : IsArv cs x) : ∀ u ∈ cs, u.oneCell' = true := by
  unfold IsArv at h
  subst h
  exact arC_one x
theorem flat_at : ∀ (ar : List Arv) (k : Nat) (x : Arv), ar[k]? = some x → (((ar.flatMap arC).drop (k * 6)).take 6) = arC x
  | [], k, x, h => by simp at h
  | y :: ys, 0, x, h => by
    obtain rfl := Option.some.inj h
    rfl
  | y :: ys, k + 1, x, h => by
    have e : ((y :: ys).flatMap arC).drop ((k + 1) * 6) = (ys.flatMap arC).drop (k * 6) := by
      rw [List.flatMap_cons, show (k + 1) * 6 = (arC y).length + k * 6 by show (k + 1) * 6 = 6 + k * 6; omega, List.drop_append]
      simp
    rw [e]
    exact flat_at ys k x (by simpa using h)
theorem WlAt.seenS {W : World} {p : Wp} {S : Option Addr} {cS : Nat} {ds : List Dv} {ls : List Lk} {n : Nat} {M : Mnd} {ar : List Arv} (h : WlAt W p S cS ds ls n M ar) : SlAt W.heap.size W 6 IsArv (.slice S ar.length cS) ar := SlAt.own h.seen (fun k x hx => flat_at ar k x hx)
/-- A slice stays where its block does. -/
theorem SlAt.blkS {α : Type} {base base' n : Nat} {w w' : World} {R : List Value → α → Prop} {A : Option Addr} {c : Nat} {xs : List α} (h : SlAt base w n R (.slice A xs.length c) xs) (hb : ∀ a, A = some a → w'.heap[a.block]? = w.heap[a.block]? ∧ a.block < base') : SlAt base' w' n R (.slice A xs.length c) xs := by
  obtain ⟨A', c', e, h0, h1, h2, h3⟩ := h
  cases e
  refine ⟨A, c, rfl, h0, h1, h2, fun hn => ?_⟩
  obtain ⟨b, o, ea, hl, hr⟩ := h3 hn
  obtain ⟨e1, e2⟩ := hb _ ea
  refine ⟨b, o, ea, e2, fun k x hx => ?_⟩
  obtain ⟨cs, c1, c2, c3⟩ := hr k x hx
  exact ⟨cs, c1, c2, fun j u hj => (cell_of_blockC e1).trans (c3 j u hj)⟩
set_option maxHeartbeats 4000000 in
set_option maxRecDepth 100000 in
theorem seen_any {p : Wp} {S : Option Addr} {cS : Nat} {ds : List Dv} {ls : List Lk} {n : Nat} {M : Mnd} {ar : List Arv} (w : World) (h : Hid (WlAt w p S cS ds ls n M ar)) (ha : ar.length ≤ 5000) :
    Calls Tryz.prog 17 #[.pointer (some ⟨p.B, 0, none⟩)] w fun e w' => ∃ A c, e = .returned (.slice A ar.length c) ∧ SlAt w'.heap.size w' 6 IsArv (.slice A ar.length c) ar ∧ (∀ a, A = some a → w.heap.size ≤ a.block ∧ a.block < w'.heap.size) ∧ Below w.heap.size w w' := by
  obtain ⟨cs, hR, hr⟩ := h.out.seenS.row oneArv
  have CL : Hid (Calls Tryz.prog 55 #[.slice S ar.length cS] w fun e w' => ∃ A c, e = .returned (.slice A ar.length c) ∧ SlAt w'.heap.size w' 6 IsArv (.slice A ar.length c) ar ∧ (∀ a, A = some a → w.heap.size ≤ a.block ∧ a.block < w'.heap.size) ∧ Below w.heap.size w w') := (clone_arrs w hR (by omega)).mono fun e w' ⟨v', h1, h2, h3⟩ => by
    obtain ⟨A, c, rfl, hA⟩ := own_sl h2
    exact ⟨A, c, h1, SlAt.own h2 hr, fun a ea => ⟨(own_block h2 (hA a ea)).2.1, (own_block h2 (hA a ea)).1⟩, h3⟩
  have b7 := h.out.blk.at 7
  clear h hR hr
  go_enter Tryz.func17, Tryz.ntmps17
  go_wp2_with fail
  with_reducible refine CL.out.mono ?_
  rintro e w2 ⟨A, c, rfl, h2⟩
  go_wp2_with fail
  go_ret
  exact ⟨A, c, rfl, h2⟩
theorem SlAt.arv {base : Nat} {w : World} {A : Option Addr} {c : Nat} {xs : List Arv} (h : SlAt base w 6 IsArv (.slice A xs.length c) xs) {k : Nat} {x : Arv} (hx : xs[k]? = some x) : ∃ b o, A = some ⟨b, o, none⟩ ∧ w.cell? ⟨b, o + k * 6, none⟩ = some (.int .i64 x.1.1) ∧ w.cell? ⟨b, o + k * 6 + 1, none⟩ = some (.int .i64 x.1.2) ∧ w.cell? ⟨b, o + k * 6 + 2, none⟩ = some (.int .i64 x.2.s) ∧ w.cell? ⟨b, o + k * 6 + 3, none⟩ = some (.int .i64 x.2.d) ∧ w.cell? ⟨b, o + k * 6 + 4, none⟩ = some (.int .i64 x.2.sp) ∧ w.cell? ⟨b, o + k * 6 + 5, none⟩ = some (.int .i64 x.2.dp) := by
  obtain ⟨A', c', e, h0, h1, h2, h3⟩ := h
  cases e
  obtain ⟨b, o, ea, hl, hr⟩ := h3 (fun e => by rw [e] at hx; cases hx)
  obtain ⟨cs, _, hc, c3⟩ := hr k x hx
  unfold IsArv at hc
  subst hc
  exact ⟨b, o, ea, c3 0 _ rfl, c3 1 _ rfl, c3 2 _ rfl, c3 3 _ rfl, c3 4 _ rfl, c3 5 _ rfl⟩
theorem arr_ne_sameW (x y : Int) (a : Pk) (w : World) : (binOp .neq 43 (.agg #[.int .i64 x, .int .i64 y, .int .i64 a.s, .int .i64 a.d, .int .i64 a.sp, .int .i64 a.dp]) (.agg #[.int .i64 x, .int .i64 y, .int .i64 a.s, .int .i64 a.d, .int .i64 a.sp, .int .i64 a.dp])).run Tryz.prog w = .ok (.bool false) w := by
  obtain ⟨s, d, sp, dp⟩ := a
  simp [go_sem, Tryz.underlying43, Tryz.underlying37, Tryz.underlying39, Tryz.underlying3]
set_option maxHeartbeats 4000000 in
set_option maxRecDepth 100000 in
theorem equal_arrs (A1 A2 : Option Addr) (c1 c2 : Nat) (xs : List Arv) (base : Nat) (w : World) (h1 : Hid (SlAt base w 6 IsArv (.slice A1 xs.length c1) xs)) (h2 : Hid (SlAt base w 6 IsArv (.slice A2 xs.length c2) xs)) :
    Calls Tryz.prog 16 #[.slice A1 xs.length c1, .slice A2 xs.length c2] w fun e w' => e = .returned (.bool true) ∧ Below w.heap.size w w' := by
  have l1 : xs.length ≤ maxLen := by obtain ⟨_, _, e, _, a, b, _⟩ := h1.out; cases e; omega
  unfold maxLen at l1
  have D0 := Below.refl w.heap.size w
  go_enter Tryz.func16, Tryz.ntmps16
  go_wp2_with fail
  go_loopw [13] (fun i wr => ∃ k : Nat, i = .int .i64 (k : Int) ∧ k ≤ xs.length ∧ wr.heap = w.heap ∧ Below w.heap.size w wr) (fun i _ => xs.length - (intOf i).toNat)
  case atStart => exact ⟨0, rfl, by omega, rfl, D0⟩
  case round =>
    obtain ⟨k, rfl, hk, hw, D1⟩ := hrel
    by_cases hlt : k < xs.length
    · obtain ⟨x, hx⟩ : ∃ x, xs[k]? = some x := ⟨_, List.getElem?_eq_getElem hlt⟩
      have hc : ∀ a, wr.cell? a = w.cell? a := fun a => by unfold World.cell?; rw [hw]
      obtain ⟨b, o, rfl, a0, a1, a2, a3, a4, a5⟩ := h1.out.arv hx
      obtain ⟨b', o', rfl, e0, e1, e2, e3, e4, e5⟩ := h2.out.arv hx
      rw [← hc] at a0 a1 a2 a3 a4 a5 e0 e1 e2 e3 e4 e5
      have ANE := fun w => arr_ne_sameW x.1.1 x.1.2 x.2 w
      have k1 : (0 : Int) ≤ (k : Int) := by omega
      have k2 : (k : Int) < (xs.length : Int) := by omega
      obtain ⟨⟨i, q⟩, s, d, sp, dp⟩ := x
      dsimp only at *
      clear hc hx
      have D2 := D1.drew
      have hw2 : wr.drew.heap = w.heap := hw
      go_wp2_with fail
      go_region
      all_goals
        go_wp2_with fail
        go_roundw
        case rel => exact ⟨k + 1, by go_num, by omega, by first | exact hw2 | exact hw, by first | exact D2 | exact D1⟩
        case measure => simp [intOf]; omega
    · go_wp2_with fail
      go_ret
      exact ⟨rfl, D1⟩
end Go.Proofs.YtgmjlkllghlmmaaGreat
