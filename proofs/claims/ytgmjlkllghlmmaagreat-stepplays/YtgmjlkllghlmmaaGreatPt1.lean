/-
  StepPlays: a memory and the document's mind side by side.
-/
import Derived.Test.YtgmjlkllghlmmaaGreatGN
import Derived.Test.YtgmjlkllghlmmaaGreatGO
import Derived.Test.YtgmjlkllghlmmaaGreatRNet
namespace Go.Proofs.YtgmjlkllghlmmaaGreat
open Go.RowKit Go.Maps

theorem mhandle_any {g : Nat} {A L : Option Addr} {c d : Nat} {F : Option Addr} {cF : Nat} {ds : List Dv} {ls : List Lk} {FL : List Ft} (i q : Int) (p : Pk) (ch : Int) (w : World) (h : Hid (MnAt w g A L c d F cF ds ls FL)) (hn : FL.length ≤ 5000) :
    Calls Tryz.prog 8 #[.pointer (some ⟨g, 0, none⟩), plA i q, pkV p, .int .i64 ch] w fun e w' => e = .returned (.tuple #[arV (mindP ds ls FL i q p ch).tp (mindP ds ls FL i q p ch).p, .int .i64 (mindP ds ls FL i q p ch).err]) ∧ MOut w g A L c d F ds ls (mindP ds ls FL i q p ch).FL w' := by
  cases hpl : isPl ds i q
  · have e : mindP ds ls FL i q p ch = badM 4 FL := by
      unfold mindP
      rw [if_neg (by rw [hpl]; exact Bool.false_ne_true)]
    rw [e]
    exact mhandle_none i q p ch w h hpl
  cases hpk : pkOk p
  · have e : mindP ds ls FL i q p ch = badM 1 FL := by
      unfold mindP
      rw [if_pos hpl, if_neg (by rw [hpk]; exact Bool.false_ne_true)]
    rw [e]
    exact mhandle_bad i q p ch w h hpl hpk
  · exact mhandle_ok i q p ch w h hpl hpk hn rfl
theorem addF_len (FL : List Ft) (k : Option Ft) : (addF FL k).length ≤ FL.length + 1 := by
  cases k with
  | none => show FL.length ≤ _; omega
  | some f =>
    unfold addF
    dsimp only
    split
    · omega
    · simp
theorem mindP_len (ds : List Dv) (ls : List Lk) (FL : List Ft) (i q : Int) (p : Pk) (ch : Int) : (mindP ds ls FL i q p ch).FL.length ≤ FL.length + 1 := by
  unfold mindP
  split
  · split
    · split
      · split
        · split
          · exact addF_len _ _
          · show FL.length ≤ _; omega
        · show FL.length ≤ _; omega
      · show FL.length ≤ _; omega
    · show FL.length ≤ _; omega
  · show FL.length ≤ _; omega
theorem mgoneP_len (ds : List Dv) (FL : List Ft) (i : Int) (p : Pk) (port : Int) : (mgoneP ds FL i p port).FL.length ≤ FL.length := by
  unfold mgoneP
  split
  · split
    · split
      · exact List.length_eraseP_le
      · exact Nat.le_refl _
    · exact Nat.le_refl _
  · exact Nat.le_refl _
set_option maxHeartbeats 1000000 in
set_option maxRecDepth 100000 in
theorem rnet_any (vd vl : Value) (ds : List Dv) (ls : List Lk) (w : World) (hD : Devs w.heap.size w vd ds) (hL : Links w.heap.size w vl ls) :
    Calls Tryz.prog 6 #[.agg #[vd, vl]] w fun e w' => e = .returned (.int .i64 (netV ds ls)) ∧ Below w.heap.size w w' := by
  have hD0 := hD
  have hL0 := hL
  obtain ⟨A, cap, rfl, _, _, _, _⟩ := hD
  obtain ⟨B, cap', rfl, _, _, _, _⟩ := hL
  unfold netV
  by_cases h : 10 < ds.length ∨ 15 < ls.length
  · rw [if_pos h]
    have D0 := Below.alN (Below.refl w.heap.size w) (.cells #[.slice A ds.length cap, .slice B ls.length cap'] 25)
    clear hD0 hL0
    by_cases h10 : 10 < ds.length
    · have t10 : decide ((10 : Int) < (ds.length : Int)) = true := by simp; omega
      clear h
      go_enter Tryz.func6, Tryz.ntmps6
      go_wp2_with fail
      go_ret
      exact ⟨rfl, D0⟩
    · have t10 : decide ((10 : Int) < (ds.length : Int)) = false := by simp; omega
      have t15 : decide ((15 : Int) < (ls.length : Int)) = true := by simp; omega
      clear h
      go_enter Tryz.func6, Tryz.ntmps6
      go_wp2_with fail
      go_ret
      exact ⟨rfl, D0⟩
  · rw [if_neg h]
    exact rnet_row A B cap cap' ds ls _ w hD0 hL0 (by omega) (by omega) rfl

/-- A memory and a mind in memory, apart. -/
structure PSt (w : World) (ds : List Dv) (ls : List Lk) (k : Nat) (FL : List Ft) (M : Mnd) (m : Mp) (g lo hi c d cF n : Nat) (A L F : Option Addr) (W : World) : Prop where
  mem : MemAt W m ds ls n M
  mi : MIn lo hi m ds ls W
  mz : m.z = 0
  mn : MnAt W g A L c d F cF ds ls FL
  nk : n ≤ k
  fk : FL.length ≤ k
  gl : g < lo ∨ hi ≤ g
  fl : ∀ a, F = some a → a.block < lo ∨ hi ≤ a.block
  bl : Below w.heap.size w W
  gw : w.heap.size ≤ g
  fw : ∀ a, F = some a → w.heap.size ≤ a.block
  mw : w.heap.size ≤ m.f ∧ w.heap.size ≤ m.o ∧ w.heap.size ≤ m.k
def PS (w : World) (ds : List Dv) (ls : List Lk) (k : Nat) (FL : List Ft) (M : Mnd) (vm vg : Value) (W : World) : Prop :=
  ∃ (m : Mp) (g lo hi c d cF n : Nat) (A L F : Option Addr), vm = .pointer (some ⟨m.B, m.z, none⟩) ∧ vg = .pointer (some ⟨g, 0, none⟩) ∧ PSt w ds ls k FL M m g lo hi c d cF n A L F W
section
variable {w W W' : World} {ds : List Dv} {ls : List Lk} {k : Nat} {FL : List Ft} {M : Mnd} {vm vg : Value}
theorem PS.keep (h : PS w ds ls k FL M vm vg W) (hb : Below W.heap.size W W') : PS w ds ls k FL M vm vg W' := by
  obtain ⟨m, g, lo, hi, c, d, cF, n, A, L, F, e1, e2, h⟩ := h
  refine ⟨m, g, lo, hi, c, d, cF, n, A, L, F, e1, e2, ⟨h.mem.below hb, h.mi.km (fun b _ h2 _ => hb.block b (Nat.lt_of_lt_of_le h2 h.mi.sz)) hb.size, h.mz, h.mn.below hb, h.nk, h.fk, h.gl, h.fl, chnN hb h.bl, h.gw, h.fw, h.mw⟩⟩
theorem PS.below (h : PS w ds ls k FL M vm vg W) : Below w.heap.size w W := by
  obtain ⟨m, g, lo, hi, c, d, cF, n, A, L, F, e1, e2, h⟩ := h
  exact h.bl
theorem PS.up (h : PS w ds ls k FL M vm vg W) {k' : Nat} (hk : k ≤ k') : PS w ds ls k' FL M vm vg W := by
  obtain ⟨m, g, lo, hi, c, d, cF, n, A, L, F, e1, e2, h⟩ := h
  exact ⟨m, g, lo, hi, c, d, cF, n, A, L, F, e1, e2, ⟨h.mem, h.mi, h.mz, h.mn, Nat.le_trans h.nk hk, Nat.le_trans h.fk hk, h.gl, h.fl, h.bl, h.gw, h.fw, h.mw⟩⟩
theorem PSt.memory {m : Mp} {g lo hi c d cF n n' : Nat} {A L F : Option Addr} {M' : Mnd} (h : PSt w ds ls k FL M m g lo hi c d cF n A L F W) (hM : MemAt W' m ds ls n' M') (hk : HK m W W') (hn : n' ≤ k + 1) : PSt w ds ls (k + 1) FL M' m g lo hi c d cF n' A L F W' := by
  have hc := h.mem.ck hk
  obtain ⟨m1, m2, m3⟩ := h.mw
  refine ⟨hM, h.mi.km (fun b _ h2 h3 => hc.block b h3 (Nat.lt_of_lt_of_le h2 h.mi.sz)) hk.size, h.mz, h.mn.ck hc, hn, Nat.le_succ_of_le h.fk, h.gl, h.fl, ?_, h.gw, h.fw, h.mw⟩
  exact h.bl.trans ⟨hk.os, hk.tape, hk.output, hk.size, fun b hb => hk.block b (Nat.lt_of_lt_of_le hb h.bl.size) (by omega) (by omega) (by omega)⟩
theorem PSt.mind {m : Mp} {g lo hi c d cF n : Nat} {A L F : Option Addr} {FL' : List Ft} (h : PSt w ds ls k FL M m g lo hi c d cF n A L F W) (hM : MOut W g A L c d F ds ls FL' W') (hn : FL'.length ≤ k + 1) : ∃ F' cF', PSt w ds ls (k + 1) FL' M m g lo hi c d cF' n A L F' W' := by
  obtain ⟨F', cF', h1, h2, h3⟩ := hM
  have hsz := h.mi.sz
  have hbz := h.bl.size
  obtain ⟨q1, q2⟩ := h.mem.mid h.mi (fun b l1 l2 => h2.block b (Nat.lt_of_lt_of_le l2 hsz) (by have := h.gl; omega) (fun a ha => by have := h.fl a ha; omega)) h2.size
  refine ⟨F', cF', q1, q2, h.mz, h1, Nat.le_succ_of_le h.nk, hn, h.gl, fun a ha => ?_, ?_, h.gw, fun a ha => ?_, h.mw⟩
  · rcases h3 a ha with ⟨a', ha', e⟩ | e
    · rw [← e]
      exact h.fl a' ha'
    · exact Or.inr (Nat.le_trans hsz e)
  · exact h.bl.trans ⟨h2.os, h2.tape, h2.output, h2.size, fun b hb => h2.block b (Nat.lt_of_lt_of_le hb hbz) (by have := h.gw; omega) (fun a ha => by have := h.fw a ha; omega)⟩
  · rcases h3 a ha with ⟨a', ha', e⟩ | e
    · rw [← e]
      exact h.fw a' ha'
    · exact Nat.le_trans hbz e
end
/-- The law's state between two acts, and within one. -/
def L1 (w : World) (ds : List Dv) (ls : List Lk) (vg : Value) (k : Nat) (vm : Value) (W : World) : Prop := ∃ FL M, PS w ds ls (2 * k) FL M vm vg W ∧ RelM ds FL M
def L2 (w : World) (ds : List Dv) (ls : List Lk) (vg : Value) (k : Nat) (i q : Int) (p : Pk) (ch : Int) (t : Int × Int) (x : Pk) (err : Int) (vm : Value) (W : World) : Prop := ∃ FL M, PS w ds ls (2 * k + 1) FL (handleP ds ls M i q p ch).M vm vg W ∧ RelM ds FL M ∧ t = (handleP ds ls M i q p ch).tp ∧ x = (handleP ds ls M i q p ch).p ∧ err = (handleP ds ls M i q p ch).err
def L3 (w : World) (ds : List Dv) (ls : List Lk) (vg : Value) (k : Nat) (i : Int) (p : Pk) (ch : Int) (err : Int) (vm : Value) (W : World) : Prop := ∃ FL M, PS w ds ls (2 * k + 1) FL (forgetP ds M i p ch).M vm vg W ∧ RelM ds FL M ∧ err = (forgetP ds M i p ch).err
structure LFacts (w : World) (vg : Value) (P1 : Nat → Value → World → Prop) (P2 : Nat → Int → Int → Pk → Int → Int × Int → Pk → Int → Value → World → Prop) (P3 : Nat → Int → Pk → Int → Int → Value → World → Prop) : Prop where
  k1 : ∀ {k vm W W'}, P1 k vm W → Below W.heap.size W W' → P1 k vm W'
  k2 : ∀ {k i q p ch t x err vm W W'}, P2 k i q p ch t x err vm W → Below W.heap.size W W' → P2 k i q p ch t x err vm W'
  k3 : ∀ {k i p ch err vm W W'}, P3 k i p ch err vm W → Below W.heap.size W W' → P3 k i p ch err vm W'
  b1 : ∀ {k vm W}, P1 k vm W → Below w.heap.size w W
  b2 : ∀ {k i q p ch t x err vm W}, P2 k i q p ch t x err vm W → Below w.heap.size w W
  u1 : ∀ {k vm W}, P1 k vm W → P1 (k + 1) vm W
  h1 : ∀ {k vm W} (i q : Int) (p : Pk) (ch : Int), P1 k vm W → i64ok i → i64ok ch → k ≤ 100 → Calls Tryz.prog 7 #[vm, plA i q, pkV p, .int .i64 ch] W fun e w' => ∃ t x err, e = .returned (.tuple #[arV t x, .int .i64 err]) ∧ P2 k i q p ch t x err vm w' ∧ CK W w'
  h2 : ∀ {k vm W i q p ch t x err}, P2 k i q p ch t x err vm W → k ≤ 100 → Calls Tryz.prog 8 #[vg, plA i q, pkV p, .int .i64 ch] W fun e w' => e = .returned (.tuple #[arV t x, .int .i64 err]) ∧ P1 (k + 1) vm w' ∧ ∀ b cs ty, Bk W b cs ty → ty ≠ 101 → ty ≠ 35 → Bk w' b cs ty
  f1 : ∀ {k vm W} (i : Int) (p : Pk) (ch : Int), P1 k vm W → i64ok i → p.ok → i64ok ch → k ≤ 100 → Calls Tryz.prog 9 #[vm, .int .i64 i, pkV p, .int .i64 ch] W fun e w' => ∃ err, e = .returned (.int .i64 err) ∧ P3 k i p ch err vm w' ∧ CK W w'
  f2 : ∀ {k vm W i p ch err}, P3 k i p ch err vm W → k ≤ 100 → Calls Tryz.prog 10 #[vg, .int .i64 i, pkV p, .int .i64 ch] W fun e w' => e = .returned (.int .i64 err) ∧ P1 (k + 1) vm w' ∧ ∀ b cs ty, Bk W b cs ty → ty ≠ 101 → ty ≠ 35 → Bk w' b cs ty
  c1 : ∀ {k vm W}, P1 k vm W → Calls Tryz.prog 11 #[vm] W fun e w' => ∃ v, e = .returned v ∧ P1 k v w' ∧ Below W.heap.size W w'
theorem MOut.bk {W w' : World} {g : Nat} {A L : Option Addr} {c d : Nat} {F : Option Addr} {cF : Nat} {ds : List Dv} {ls : List Lk} {FL FL' : List Ft} (h : MnAt W g A L c d F cF ds ls FL) (hM : MOut W g A L c d F ds ls FL' w') (b : Nat) (cs : Array Value) (ty : TypeId) (hB : Bk W b cs ty) (h1 : ty ≠ 101) (h2 : ty ≠ 35) : Bk w' b cs ty := by
  obtain ⟨F', cF', _, k2, _⟩ := hM
  refine (k2.block b hB.lt (fun e => ?_) (fun a ha e => ?_)).trans hB
  · have hg := h.blk
    rw [← e] at hg
    unfold Bk at hg hB
    rw [hB] at hg
    simp only [Option.some.injEq, Obj.cells.injEq] at hg
    exact h2 hg.2.1
  · obtain ⟨A7, c7, hv, hA⟩ := own_sl h.facts
    cases hv
    obtain ⟨_, _, cur, hh⟩ := own_block h.facts (hA a ha)
    rw [← e] at hh
    unfold Bk at hB
    rw [hB] at hh
    simp only [Option.some.injEq, Obj.cells.injEq] at hh
    exact h1 hh.2.1
theorem l_facts (w : World) (ds : List Dv) (ls : List Lk) (vg : Value) (ha : AddrsOk ds) (hs : Small ds ls) : LFacts w vg (L1 w ds ls vg) (L2 w ds ls vg) (L3 w ds ls vg) where
  k1 h hb := by
    obtain ⟨FL, M, h, r⟩ := h
    exact ⟨FL, M, h.keep hb, r⟩
  k2 h hb := by
    obtain ⟨FL, M, h, r⟩ := h
    exact ⟨FL, M, h.keep hb, r⟩
  k3 h hb := by
    obtain ⟨FL, M, h, r⟩ := h
    exact ⟨FL, M, h.keep hb, r⟩
  b1 h := by
    obtain ⟨FL, M, h, r⟩ := h
    exact h.below
  b2 h := by
    obtain ⟨FL, M, h, r⟩ := h
    exact h.below
  u1 h := by
    obtain ⟨FL, M, h, r⟩ := h
    exact ⟨FL, M, h.up (by omega), r⟩
  h1 {k vm W} i q p ch h hi hc hk := by
    obtain ⟨FL, M, ⟨m, g, lo, hi', c, d, cF, n, A, L, F, rfl, e2, h⟩, r⟩ := h
    refine (handle_any m ds ls n M i q p ch W h.mem (by have := h.nk; unfold maxLen; omega) ha hi hc).mono fun e w' ⟨he, hM, hK⟩ => ?_
    exact ⟨_, _, _, he, ⟨FL, M, ⟨m, g, lo, hi', c, d, cF, n + 1, A, L, F, rfl, e2, h.memory hM hK (by have := h.nk; omega)⟩, r, rfl, rfl, rfl⟩, h.mem.ck hK⟩
  h2 {k vm W i q p ch t x err} h hk := by
    obtain ⟨FL, M, ⟨m, g, lo, hi', c, d, cF, n, A, L, F, e1, rfl, h⟩, r, rfl, rfl, rfl⟩ := h
    obtain ⟨r1, r2, r3, r4⟩ := mind_rel r (ls := ls) i q p ch
    refine (mhandle_any i q p ch W h.mn (by have := h.fk; omega)).mono fun e w' ⟨he, hM⟩ => ?_
    rw [r1, r2, r3] at he
    have hl := mindP_len ds ls FL i q p ch
    obtain ⟨F', cF', hp⟩ := h.mind hM (by have := h.fk; omega)
    exact ⟨he, ⟨_, _, ⟨m, g, lo, hi', c, d, cF', n, A, L, F', e1, rfl, hp⟩, r4⟩, fun b cs ty hB h1 h2 => MOut.bk h.mn hM b cs ty hB h1 h2⟩
  f1 {k vm W} i p ch h hi hp hc hk := by
    obtain ⟨FL, M, ⟨m, g, lo, hi', c, d, cF, n, A, L, F, rfl, e2, h⟩, r⟩ := h
    refine (forget_any m ds ls n M i p ch W h.mem hi hp hc).mono fun e w' ⟨he, hM, hK⟩ => ?_
    exact ⟨_, he, ⟨FL, M, ⟨m, g, lo, hi', c, d, cF, n, A, L, F, rfl, e2, h.memory hM hK (by have := h.nk; omega)⟩, r, rfl⟩, h.mem.ck hK⟩
  f2 {k vm W i p ch err} h hk := by
    obtain ⟨FL, M, ⟨m, g, lo, hi', c, d, cF, n, A, L, F, e1, rfl, h⟩, r, rfl⟩ := h
    obtain ⟨r1, r4⟩ := gone_rel r i p ch
    refine (mforget_any i p ch W h.mn (by have := h.fk; omega)).mono fun e w' ⟨he, hM⟩ => ?_
    rw [r1] at he
    have hl := mgoneP_len ds FL i p ch
    obtain ⟨F', cF', hp⟩ := h.mind hM (by have := h.fk; omega)
    exact ⟨he, ⟨_, _, ⟨m, g, lo, hi', c, d, cF', n, A, L, F', e1, rfl, hp⟩, r4⟩, fun b cs ty hB h1 h2 => MOut.bk h.mn hM b cs ty hB h1 h2⟩
  c1 {k vm W} h := by
    obtain ⟨FL, M, ⟨m, g, lo, hi', c, d, cF, n, A, L, F, rfl, e2, h⟩, r⟩ := h
    refine (mcopy_any m ds ls n M W h.mem h.mz hs).mono fun e w' ⟨m', he, hM, hb, hI, hz⟩ => ?_
    have hbz := h.bl.size
    refine ⟨_, he, ⟨FL, M, ⟨m', g, W.heap.size, w'.heap.size, c, d, cF, n, A, L, F, rfl, e2, ⟨hM, hI, hz, h.mn.below hb, h.nk, h.fk, Or.inl h.mn.blk.lt, fun a ha => ?_, chnN hb h.bl, h.gw, h.fw, ⟨by have := hI.f; omega, by have := hI.o; omega, by have := hI.k; omega⟩⟩⟩, r⟩, hb⟩
    obtain ⟨A7, c7, hv, hA⟩ := own_sl h.mn.facts
    cases hv
    exact Or.inl (own_block h.mn.facts (hA a ha)).1
theorem ps_start {w w1 W : World} {ds : List Dv} {ls : List Lk} {A L : Option Addr} {c d : Nat} {m : Mp} (hD : Devs w.heap.size w (.slice A ds.length c) ds) (hL : Links w.heap.size w (.slice L ls.length d) ls) (b1 : Below w.heap.size w w1) (hM : MemAt w1 m ds ls 0 noM) (l1 : w.heap.size ≤ m.f) (l2 : w.heap.size ≤ m.o) (l3 : w.heap.size ≤ m.k) (hz : m.z = 0) (b2 : Below w1.heap.size w1 W) :
    L1 w ds ls (.pointer (some ⟨W.heap.size, 0, none⟩)) 0 (.pointer (some ⟨m.B, m.z, none⟩)) (W.alloc (.cells #[.slice A ds.length c, .slice L ls.length d, .slice none 0 0] 35)) := by
  have bW : Below w.heap.size w W := b1.trans (b2.mono b1.size)
  have b3 : Below w1.heap.size w1 (W.alloc (.cells #[.slice A ds.length c, .slice L ls.length d, .slice none 0 0] 35)) := b2.alloc b2.size _
  have b4 : Below w.heap.size w (W.alloc (.cells #[.slice A ds.length c, .slice L ls.length d, .slice none 0 0] 35)) := bW.alloc bW.size _
  have hI : MIn 0 w1.heap.size m ds ls w1 := ⟨hM.devs, hM.links, Or.inl rfl, ⟨Nat.zero_le _, hM.fl.lt⟩, ⟨Nat.zero_le _, hM.ow.lt⟩, ⟨Nat.zero_le _, hM.bk.lt⟩, ⟨Nat.zero_le _, hM.lt⟩, Nat.le_refl _⟩
  refine ⟨[], noM, ⟨m, W.heap.size, 0, w1.heap.size, c, d, 0, 0, A, L, none, rfl, rfl, ⟨hM.below b3, hI.km (fun b _ h2 _ => b3.block b h2) b3.size, hz, ⟨bk_new W _ _, (hD.below b4).mono bW.size, (hL.below b4).mono bW.size, own_nil _ _ _ _⟩, Nat.zero_le _, Nat.zero_le _, Or.inr b2.size, (fun a h => by cases h), b4, bW.size, (fun a h => by cases h), ⟨l1, l2, l3⟩⟩⟩, rel_no ds⟩
end Go.Proofs.YtgmjlkllghlmmaaGreat
