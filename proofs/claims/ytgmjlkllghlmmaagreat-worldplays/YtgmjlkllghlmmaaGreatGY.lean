/-
  WorldPlays: the mind's Handle, whole; the document's Net.
-/
import Derived.Test.YtgmjlkllghlmmaaGreatGN
import Derived.Test.YtgmjlkllghlmmaaGreatRNet
import Derived.Test.YtgmjlkllghlmmaaGreatPw1
import Derived.Deep.RegionHeld3
import Derived.Deep.RegionLaw
namespace Go.Proofs.YtgmjlkllghlmmaaGreat
open Go.RowKit Go.Maps

theorem mhandle_any {g : Nat} {A L : Option Addr} {c d : Nat} {F : Option Addr} {cF : Nat} {ds : List Dv} {ls : List Lk} {FL : List Ft} (i q : Int) (p : Pk) (ch : Int) (w : World) (h : Hid (MnAt w g A L c d F cF ds ls FL)) (hn : FL.length ≤ 5000) :
    Calls Tryz.prog 8 #[.pointer (some ⟨g, 0, none⟩), plA i q, pkV p, .int .i64 ch] w fun e w' => e = .returned (.tuple #[arV (mindP ds ls FL i q p ch).tp (mindP ds ls FL i q p ch).p, .int .i64 (mindP ds ls FL i q p ch).err]) ∧ MOut w g A L c d F ds ls (mindP ds ls FL i q p ch).FL w' := by
  cases hpl : isPl ds i q
  · have e : mindP ds ls FL i q p ch = badM 4 FL := by
      unfold mindP
      rw [if_neg (by rw [hpl]; exact Bool.false_ne_true)]
    rw [e]
    exact mhandle_none i q p ch w h hpl
  cases hpk : pkOk p
  · have e : mindP ds ls FL i q p ch = badM 1 FL := by
      unfold mindP
      rw [if_pos hpl, if_neg (by rw [hpk]; exact Bool.false_ne_true)]
    rw [e]
    exact mhandle_bad i q p ch w h hpl hpk
  · exact mhandle_ok i q p ch w h hpl hpk hn rfl
theorem addF_len (FL : List Ft) (k : Option Ft) : (addF FL k).length ≤ FL.length + 1 := by
  cases k with
  | none => show FL.length ≤ _; omega
  | some f =>
    unfold addF
    dsimp only
    split
    · omega
    · simp
theorem mindP_len (ds : List Dv) (ls : List Lk) (FL : List Ft) (i q : Int) (p : Pk) (ch : Int) : (mindP ds ls FL i q p ch).FL.length ≤ FL.length + 1 := by
  unfold mindP
  split
  · split
    · split
      · split
        · split
          · exact addF_len _ _
          · show FL.length ≤ _; omega
        · show FL.length ≤ _; omega
      · show FL.length ≤ _; omega
    · show FL.length ≤ _; omega
  · show FL.length ≤ _; omega
theorem mgoneP_len (ds : List Dv) (FL : List Ft) (i : Int) (p : Pk) (port : Int) : (mgoneP ds FL i p port).FL.length ≤ FL.length := by
  unfold mgoneP
  split
  · split
    · split
      · exact List.length_eraseP_le
      · exact Nat.le_refl _
    · exact Nat.le_refl _
  · exact Nat.le_refl _
set_option maxHeartbeats 1000000 in
set_option maxRecDepth 100000 in
theorem rnet_any (vd vl : Value) (ds : List Dv) (ls : List Lk) (w : World) (hD : Devs w.heap.size w vd ds) (hL : Links w.heap.size w vl ls) :
    Calls Tryz.prog 6 #[.agg #[vd, vl]] w fun e w' => e = .returned (.int .i64 (netV ds ls)) ∧ Below w.heap.size w w' := by
  have hD0 := hD
  have hL0 := hL
  obtain ⟨A, cap, rfl, _, _, _, _⟩ := hD
  obtain ⟨B, cap', rfl, _, _, _, _⟩ := hL
  unfold netV
  by_cases h : 10 < ds.length ∨ 15 < ls.length
  · rw [if_pos h]
    have D0 := Below.alN (Below.refl w.heap.size w) (.cells #[.slice A ds.length cap, .slice B ls.length cap'] 25)
    clear hD0 hL0
    by_cases h10 : 10 < ds.length
    · have t10 : decide ((10 : Int) < (ds.length : Int)) = true := by simp; omega
      clear h
      go_enter Tryz.func6, Tryz.ntmps6
      go_wp2_with fail
      go_ret
      exact ⟨rfl, D0⟩
    · have t10 : decide ((10 : Int) < (ds.length : Int)) = false := by simp; omega
      have t15 : decide ((15 : Int) < (ls.length : Int)) = true := by simp; omega
      clear h
      go_enter Tryz.func6, Tryz.ntmps6
      go_wp2_with fail
      go_ret
      exact ⟨rfl, D0⟩
  · rw [if_neg h]
    exact rnet_row A B cap cap' ds ls _ w hD0 hL0 (by omega) (by omega) rfl
theorem MOut.bk {W w' : World} {g : Nat} {A L : Option Addr} {c d : Nat} {F : Option Addr} {cF : Nat} {ds : List Dv} {ls : List Lk} {FL FL' : List Ft} (h : MnAt W g A L c d F cF ds ls FL) (hM : MOut W g A L c d F ds ls FL' w') (b : Nat) (cs : Array Value) (ty : TypeId) (hB : Bk W b cs ty) (h1 : ty ≠ 101) (h2 : ty ≠ 35) : Bk w' b cs ty := by
  obtain ⟨F', cF', _, k2, _⟩ := hM
  refine (k2.block b hB.lt (fun e => ?_) (fun a ha e => ?_)).trans hB
  · have hg := h.blk
    rw [← e] at hg
    unfold Bk at hg hB
    rw [hB] at hg
    simp only [Option.some.injEq, Obj.cells.injEq] at hg
    exact h2 hg.2.1
  · obtain ⟨A7, c7, hv, hA⟩ := own_sl h.facts
    cases hv
    obtain ⟨_, _, cur, hh⟩ := own_block h.facts (hA a ha)
    rw [← e] at hh
    unfold Bk at hB
    rw [hB] at hh
    simp only [Option.some.injEq, Obj.cells.injEq] at hh
    exact h1 hh.2.1
end Go.Proofs.YtgmjlkllghlmmaaGreat

namespace Go.Proofs.YtgmjlkllghlmmaaGreat
open Go.RowKit Go.Maps

/-- A tale in memory. -/
structure TlAt (W : World) (T g : Nat) (A L : Option Addr) (c d : Nat) (F : Option Addr) (cF : Nat) (S : Option Addr) (cS : Nat) (ds : List Dv) (ls : List Lk) (FL : List Ft) (ar : List Arv) : Prop where
  blk : Bk W T #[.pointer (some ⟨g, 0, none⟩), .slice S ar.length cS] 62
  mn : MnAt W g A L c d F cF ds ls FL
  seen : W.ownsRow (T + 1) 43 6 (.slice S ar.length cS) ar.length (ar.flatMap arC)
  lt : g < T
/-- What a call of a tale leaves alone. -/
structure TKp (T g : Nat) (F S : Option Addr) (W W' : World) : Prop where
  os : W'.os = W.os
  tape : W'.tape = W.tape
  output : W'.output = W.output
  size : W.heap.size ≤ W'.heap.size
  block : ∀ b, b < W.heap.size → b ≠ T → b ≠ g → (∀ a, F = some a → b ≠ a.block) → (∀ a, S = some a → b ≠ a.block) → W'.heap[b]? = W.heap[b]?
def TOut (w : World) (T g : Nat) (A L : Option Addr) (c d : Nat) (F S : Option Addr) (ds : List Dv) (ls : List Lk) (FL : List Ft) (ar : List Arv) (w' : World) : Prop :=
  ∃ F' cF' S' cS', TlAt w' T g A L c d F' cF' S' cS' ds ls FL ar ∧ TKp T g F S w w' ∧ SG F F' w.heap.size ∧ SG S S' w.heap.size
section
variable {w W W' : World} {T g : Nat} {A L : Option Addr} {c d : Nat} {F : Option Addr} {cF : Nat} {S : Option Addr} {cS : Nat} {ds : List Dv} {ls : List Lk} {FL FL' : List Ft} {ar : List Arv}
theorem TKp.of_below (hb : Below W.heap.size W W') : TKp T g F S W W' := ⟨hb.os, hb.tape, hb.output, hb.size, fun b h _ _ _ _ => hb.block b h⟩
theorem TKp.from (hb : Below w.heap.size w W) (h : TKp T g F S W W') : TKp T g F S w W' :=
  ⟨h.os.trans hb.os, h.tape.trans hb.tape, h.output.trans hb.output, Nat.le_trans hb.size h.size, fun b h1 h2 h3 h4 h5 => (h.block b (Nat.lt_of_lt_of_le h1 hb.size) h2 h3 h4 h5).trans (hb.block b h1)⟩
theorem TlAt.below (h : TlAt W T g A L c d F cF S cS ds ls FL ar) (hb : Below W.heap.size W W') : TlAt W' T g A L c d F cF S cS ds ls FL ar := ⟨h.blk.keep hb, h.mn.below hb, own_below h.seen hb, h.lt⟩
theorem TlAt.ck (h : TlAt W T g A L c d F cF S cS ds ls FL ar) (hc : CK W W') : TlAt W' T g A L c d F cF S cS ds ls FL ar := ⟨h.blk.ck hc, h.mn.ck hc, own_ck h.seen hc, h.lt⟩
theorem TlAt.alloc (h : TlAt W T g A L c d F cF S cS ds ls FL ar) (o : Obj) : TlAt (W.alloc o) T g A L c d F cF S cS ds ls FL ar := h.below ((Below.refl _ _).alloc (Nat.le_refl _) o)
theorem TlAt.drew (h : TlAt W T g A L c d F cF S cS ds ls FL ar) : TlAt W.drew T g A L c d F cF S cS ds ls FL ar := h.below (Below.refl _ _).drew
theorem TlAt.row (h : TlAt W T g A L c d F cF S cS ds ls FL ar) : SlAt W.heap.size W 6 IsArv (.slice S ar.length cS) ar := SlAt.own h.seen (fun k x hx => flat_at ar k x hx)
theorem TOut.same (h : TlAt W T g A L c d F cF S cS ds ls FL ar) (hb : Below w.heap.size w W) : TOut w T g A L c d F S ds ls FL ar W := ⟨F, cF, S, cS, h, TKp.of_below hb, SG.refl _ _, SG.refl _ _⟩
theorem SG.from {S S' : Option Addr} {n m : Nat} (h : SG S S' m) (hn : n ≤ m) : SG S S' n := fun a ha => (h a ha).imp id (Nat.le_trans hn)
theorem TOut.from (hb : Below w.heap.size w W) (h : TOut W T g A L c d F S ds ls FL ar W') : TOut w T g A L c d F S ds ls FL ar W' := by
  obtain ⟨F', cF', S', cS', h1, h2, h3, h4⟩ := h
  exact ⟨F', cF', S', cS', h1, h2.from hb, h3.from hb.size, h4.from hb.size⟩
/-- A mind stays where its own blocks do. -/
theorem MnAt.stay (h : MnAt W g A L c d F cF ds ls FL) (h1 : ∀ b, b ≤ g → W'.heap[b]? = W.heap[b]?) (h2 : ∀ b, (Value.slice F FL.length cF).ownBlock = some b → W'.heap[b]? = W.heap[b]?) : MnAt W' g A L c d F cF ds ls FL :=
  have kt : KT g W W' := fun b hb _ => h1 b (Nat.le_of_lt hb)
  ⟨(h1 g (Nat.le_refl _)).trans h.blk, h.devs.kt kt, h.links.kt kt, own_keptBut h.facts h2⟩
theorem own_types {w : World} {B B' e e' size size' n n' : Nat} {v v' : Value} {xs xs' : List Value} (h : w.ownsRow B e size v n xs) (h' : w.ownsRow B' e' size' v' n' xs') (hne : e ≠ e') {b : Nat} (hb : v.ownBlock = some b) (hb' : v'.ownBlock = some b) : False := by
  obtain ⟨_, _, cur, h2⟩ := own_block h hb
  obtain ⟨_, _, cur', h2'⟩ := own_block h' hb'
  rw [h2] at h2'
  simp only [Option.some.injEq, Obj.cells.injEq] at h2'
  exact hne h2'.2.1
/-- A new arrival is laid behind the others. -/
theorem tout_new {w7 : World} {v7 : Value} {x : Arv} (h : TlAt W T g A L c d F cF S cS ds ls FL ar) (hb : Below w.heap.size w W) (O7 : w7.ownsRow (T + 1) 43 6 v7 (ar.length + 1) (ar.flatMap arC ++ arC x)) (D7 : Below (T + 1) W w7) (K7 : KeptB W w7 (Value.slice S ar.length cS).ownBlock) (g7 : v7.ownBlock = (Value.slice S ar.length cS).ownBlock ∨ ∃ k, v7.ownBlock = some k ∧ W.heap.size ≤ k) : TOut w T g A L c d F S ds ls FL (ar ++ [x]) (w7.setCell ⟨T, 1, none⟩ v7) := by
  have hT := h.blk.lt
  have hgT := h.lt
  have e1 : (ar ++ [x]).length = ar.length + 1 := by simp
  have e2 : (ar ++ [x]).flatMap arC = ar.flatMap arC ++ arC x := by simp
  rw [← e1, ← e2] at O7
  obtain ⟨A7, c7, rfl, hA7⟩ := own_sl O7
  have hF : ∀ b, b ≠ T → (w7.setCell ⟨T, 1, none⟩ (.slice A7 (ar ++ [x]).length c7)).heap[b]? = w7.heap[b]? := fun b h => Below.heap_setCell w7 ⟨T, 1, none⟩ _ b h
  have hsz : (w7.setCell ⟨T, 1, none⟩ (.slice A7 (ar ++ [x]).length c7)).heap.size = w7.heap.size := by simp [World.setCell]
  have hFb : ∀ b, some b = (Value.slice S ar.length cS).ownBlock → ∃ a, S = some a ∧ a.block = b := fun b e => by
    cases S with
    | none => cases e
    | some a =>
      refine ⟨a, rfl, ?_⟩
      simp only [Value.ownBlock] at e
      first
        | exact (Option.some.inj e).symm
        | (split at e <;> simp_all)
  have B7 : Bk w7 T #[.pointer (some ⟨g, 0, none⟩), .slice S ar.length cS] 62 := (D7.block T (by omega)).trans h.blk
  have hbl : ∀ b, b < W.heap.size → b ≠ T → (∀ a, S = some a → b ≠ a.block) → (w7.setCell ⟨T, 1, none⟩ (.slice A7 (ar ++ [x]).length c7)).heap[b]? = W.heap[b]? := fun b h1 h2 h3 => (hF b h2).trans (K7.block b h1 (fun e => by
    obtain ⟨a, ha, hab⟩ := hFb b e
    exact h3 a ha hab.symm))
  refine ⟨F, cF, A7, c7, ⟨B7.setS (j := 1) (.slice A7 (ar ++ [x]).length c7), h.mn.stay (fun b hb' => (hF b (by omega)).trans (D7.block b (by omega))) (fun b hb' => ?_), own_keptBut O7 (fun b hb' => hF b (by have := (own_block O7 hb').2.1; omega)), hgT⟩, ⟨D7.os.trans hb.os, D7.tape.trans hb.tape, D7.output.trans hb.output, ?_, fun b h1 h2 _ _ h5 => (hbl b (Nat.lt_of_lt_of_le h1 hb.size) h2 h5).trans (hb.block b h1)⟩, SG.refl _ _, fun a ha => ?_⟩
  · have hlt := (own_block h.mn.facts hb').1
    refine (hF b (fun e => ?_)).trans (K7.block b hlt (fun e => own_types h.mn.facts h.seen (by decide) hb' e.symm))
    subst e
    obtain ⟨_, _, cur, h2⟩ := own_block h.mn.facts hb'
    have hB := h.blk
    unfold Bk at hB
    rw [hB] at h2
    simp only [Option.some.injEq, Obj.cells.injEq] at h2
    exact absurd h2.2.1 (by decide)
  · rw [hsz]
    exact Nat.le_trans hb.size K7.size
  · have hb7 := hA7 a ha
    rcases g7 with g7 | ⟨k, g7, hk⟩
    · rw [hb7] at g7
      exact Or.inl (hFb _ g7)
    · rw [hb7] at g7
      have := Option.some.inj g7
      exact Or.inr (by have := hb.size; omega)
end
set_option maxHeartbeats 4000000 in
set_option maxRecDepth 100000 in
theorem comes_any {T g : Nat} {A L : Option Addr} {c d : Nat} {F : Option Addr} {cF : Nat} {S : Option Addr} {cS : Nat} {ds : List Dv} {ls : List Lk} {FL : List Ft} {ar : List Arv} (x : Arv) (w : World) (h : Hid (TlAt w T g A L c d F cF S cS ds ls FL ar)) (ha : ar.length ≤ 5000) :
    Calls Tryz.prog 54 #[.pointer (some ⟨T, 0, none⟩), arV x.1 x.2] w fun e w' => (∃ v, e = .returned v) ∧ TOut w T g A L c d F S ds ls FL (addA ar x) w' := by
  have h1 := (h.out.alloc (.cells #[.int .i64 x.1.1, .int .i64 x.1.2, .int .i64 x.2.s, .int .i64 x.2.d, .int .i64 x.2.sp, .int .i64 x.2.dp] 43)).drew
  have D1 := (Below.alN (Below.refl w.heap.size w) (.cells #[.int .i64 x.1.1, .int .i64 x.1.2, .int .i64 x.2.s, .int .i64 x.2.d, .int .i64 x.2.sp, .int .i64 x.2.dp] 43)).drew
  have X1 := (bk_new w #[.int .i64 x.1.1, .int .i64 x.1.2, .int .i64 x.2.s, .int .i64 x.2.d, .int .i64 x.2.sp, .int .i64 x.2.dp] 43).drew
  have CT : Hid (∀ W, TlAt W T g A L c d F cF S cS ds ls FL ar → Calls Tryz.prog 19 #[.slice S ar.length cS, .agg #[.int .i64 x.1.1, .int .i64 x.1.2, .int .i64 x.2.s, .int .i64 x.2.d, .int .i64 x.2.sp, .int .i64 x.2.dp]] W fun e w' => e = .returned (.bool (inF ar x).isSome) ∧ Below W.heap.size W w') := fun W hw => by
    have := contains_ar S cS ar x W.heap.size W (Nat.le_refl _) hw.row
    rw [any_inF] at this
    exact this
  have fin0 : Hid ((inF ar x).isSome = true → addA ar x = ar) := fun hi => by
    unfold addA
    rw [if_pos (inF_in.1 hi)]
  have fin1 : Hid ((inF ar x).isSome = false → addA ar x = ar ++ [x]) := fun hi => by
    unfold addA
    rw [if_neg (fun e => by rw [inF_in.2 e] at hi; cases hi)]
  have AP : Hid (∀ W, TlAt W T g A L c d F cF S cS ds ls FL ar → Below w.heap.size w W → ∃ A7 q7 w7, (Builtin.append_ #[59, 59] 59 #[.slice S ar.length cS, .slice (some ⟨W.heap.size, 0, none⟩) 1 1]).run Tryz.prog (W.alloc (.cells #[.int .i64 x.1.1, .int .i64 x.1.2, .int .i64 x.2.s, .int .i64 x.2.d, .int .i64 x.2.sp, .int .i64 x.2.dp] 43)) = .ok (.slice A7 (ar.length + 1) q7) w7 ∧ Bk w7 T #[.pointer (some ⟨g, 0, none⟩), .slice S ar.length cS] 62 ∧ TOut w T g A L c d F S ds ls FL (ar ++ [x]) (w7.setCell ⟨T, 1, none⟩ (.slice A7 (ar.length + 1) q7))) := fun W hw hb => by
    have hT := hw.blk.lt
    obtain ⟨v7, w7, r7, O7, D7, K7, g7⟩ := app_el (w := W) uArs infoAr rfl (by omega) (by omega) 59 hw.seen (us := arC x) rfl (arC_one _) ha (by omega)
    have ht := tout_new hw hb O7 D7 K7 g7
    obtain ⟨A7, q7, rfl, _⟩ := own_sl O7
    exact ⟨A7, q7, w7, r7, (D7.block T (by omega)).trans hw.blk, ht⟩
  obtain ⟨⟨i, q⟩, ⟨s, e, sp, dp⟩⟩ := x
  dsimp only at *
  obtain ⟨⟨x0, x1, x2, x3, x4, x5⟩, _⟩ := X1.six
  have t1 := h1.blk.at 1
  have t2 := h.out.blk.at 1
  clear h
  generalize (inF ar ((i, q), ⟨s, e, sp, dp⟩)).isSome = bb at *
  go_enter Tryz.func54, Tryz.ntmps54
  go_wp2_with fail
  go_cut [10] from 4 to 10 (fun v10 wx => v10 = .bool (!bb) ∧ TlAt wx T g A L c d F cF S cS ds ls FL ar ∧ Below w.heap.size w wx ∧ Bk wx w.heap.size #[.int .i64 i, .int .i64 q, .int .i64 s, .int .i64 e, .int .i64 sp, .int .i64 dp] 43)
  case first =>
    go_region_held3 (fun w' => w'.cell? ⟨T, 1, none⟩ = some (.slice S ar.length cS) ∧ w'.cell? ⟨w.heap.size, 0, none⟩ = some (.int .i64 i) ∧ w'.cell? ⟨w.heap.size, 1, none⟩ = some (.int .i64 q) ∧ w'.cell? ⟨w.heap.size, 2, none⟩ = some (.int .i64 s) ∧ w'.cell? ⟨w.heap.size, 3, none⟩ = some (.int .i64 e) ∧ w'.cell? ⟨w.heap.size, 4, none⟩ = some (.int .i64 sp) ∧ w'.cell? ⟨w.heap.size, 5, none⟩ = some (.int .i64 dp)) (go_keep) ((go_at_call 19; refine (CT.out _ h1).mono ?_; rintro e w2 ⟨rfl, hb2⟩; have h2 := h1.below hb2; have D2 := chnN hb2 D1; have X2 := X1.keep hb2; obtain ⟨⟨z0, z1, z2, z3, z4, z5⟩, zz⟩ := X2.six; have z6 := h2.blk.at 1))
    go_wp2_with fail
    go_meet
    exact ⟨rfl, h2, D2, X2⟩
  case rest =>
    clear h1 D1 X1 x0 x1 x2 x3 x4 x5 t1 t2 CT
    obtain ⟨rfl, h2, D2, X2⟩ := hcut
    cases bb
    rotate_left
    · have hf := TOut.same h2 D2
      rw [← fin0.out rfl] at hf
      clear fin0 fin1 AP
      go_wp2_with fail
      first
        | (go_end0; exact ⟨⟨_, rfl⟩, hf⟩)
        | (refine bodyPost_ret (results_none rfl _ _ _) rfl ⟨⟨_, rfl⟩, hf⟩)
    obtain ⟨A7, q7, w7, r7, B7, hf⟩ := AP.out wc.drew h2.drew D2.drew
    have r7' : (Builtin.append_ #[59, 59] 59 #[.slice S ar.length cS, .slice (some ⟨wc.heap.size, 0, none⟩) 1 1]).run Tryz.prog (wc.alloc (.cells #[.int .i64 i, .int .i64 q, .int .i64 s, .int .i64 e, .int .i64 sp, .int .i64 dp] 43)).drew = .ok (.slice A7 (ar.length + 1) q7) w7 := r7
    rw [← fin1.out rfl] at hf
    obtain ⟨⟨z0, z1, z2, z3, z4, z5⟩, zz⟩ := X2.six
    have z6 := h2.blk.at 1
    have z7 := (h2.alloc (.cells #[.int .i64 i, .int .i64 q, .int .i64 s, .int .i64 e, .int .i64 sp, .int .i64 dp] 43)).blk.at 1
    have d7 := B7.at 1
    have f7 := B7.fz 1
    clear fin0 fin1 AP h2 D2 r7 B7 X2 zz
    go_wp2_with fail
    go_region_law (refine step_append_run (by rfl) _ _ 59 (by rfl) _ _ _ w7 (by rfl) (by rfl) r7' ?_)
    all_goals
      go_wp2_with fail
      first
        | (go_end0; exact ⟨⟨_, rfl⟩, hf⟩)
        | (refine bodyPost_ret (results_none rfl _ _ _) rfl ⟨⟨_, rfl⟩, hf⟩)
end Go.Proofs.YtgmjlkllghlmmaaGreat
