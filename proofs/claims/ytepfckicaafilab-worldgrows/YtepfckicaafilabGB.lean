/-
  Package world: hop.
-/
import Derived.Test.YtepfckicaafilabGA
import Derived.Deep.RegionHeld3
namespace Go.Proofs.Ytepfckicaafilab
open Go.RowKit Go.Maps

abbrev arZ : Obj := .cells #[.int .i64 0, .int .i64 0, .int .i64 0, .int .i64 0, .int .i64 0, .int .i64 0] 43
/-- A variable for an arrival, new. -/
def ZB (T k : Nat) (W : World) : Prop := Bk W k #[.int .i64 0, .int .i64 0, .int .i64 0, .int .i64 0, .int .i64 0, .int .i64 0] 43 ∧ T ≤ k
theorem zb_new {T : Nat} {W : World} (h : T ≤ W.heap.size) : ZB T W.heap.size (W.alloc arZ) := ⟨bk_new W _ _, h⟩
theorem ZB.drew {T k : Nat} {W : World} (h : ZB T k W) : ZB T k W.drew := h
theorem ZB.ck {T k : Nat} {W W' : World} (h : ZB T k W) (hc : CK W W') : ZB T k W' := ⟨h.1.ck hc, h.2⟩
/-- A store into a block that is none of a world's own. -/
theorem WlAt.put {W W' : World} {p : Wp} {S : Option Addr} {cS : Nat} {ds : List Dv} {ls : List Lk} {n : Nat} {M : Mnd} {ar : List Arv} (h : WlAt W p S cS ds ls n M ar) {k : Nat} (hk : p.B < k) (hs : ∀ g, (Value.slice S ar.length cS).ownBlock = some g → g ≠ k) (hF : ∀ b, b ≠ k → W'.heap[b]? = W.heap[b]?) : WlAt W' p S cS ds ls n M ar := by
  obtain ⟨l1, l2, l3, l4⟩ := h.lo
  have kt : KT p.B W W' := fun b hb _ => hF b (by omega)
  exact ⟨(hF _ (by omega)).trans h.blk, h.devs.kt kt, h.links.kt kt, h.mdevs.kt kt, h.mlinks.kt kt, h.fl.same (hF _ (by omega)), h.ow.same (hF _ (by omega)), h.bk.same (hF _ (by omega)), h.fo, h.fk, h.ok, own_keptBut h.seen (fun g hg => hF g (hs g hg)), h.was.same (hF _ (by omega)), h.gf, h.go, h.gk, h.lo, h.all⟩
theorem WF.set6 {w W : World} {p : Wp} {S : Option Addr} (h : WF p S w W) {k : Nat} (hk : w.heap.size ≤ k) (u0 u1 u2 u3 u4 u5 : Value) : WF p S w ((((((W.setCell ⟨k, 0, none⟩ u0).setCell ⟨k, 1, none⟩ u1).setCell ⟨k, 2, none⟩ u2).setCell ⟨k, 3, none⟩ u3).setCell ⟨k, 4, none⟩ u4).setCell ⟨k, 5, none⟩ u5) := by
  have hb := ((((((Below.refl w.heap.size W).setCell (p := ⟨k, 0, none⟩) hk u0).setCell (p := ⟨k, 1, none⟩) hk u1).setCell (p := ⟨k, 2, none⟩) hk u2).setCell (p := ⟨k, 3, none⟩) hk u3).setCell (p := ⟨k, 4, none⟩) hk u4).setCell (p := ⟨k, 5, none⟩) hk u5
  exact ⟨hb.os.trans h.os, hb.tape.trans h.tape, hb.output.trans h.output, Nat.le_trans h.size hb.size, fun b hb' q1 q2 q3 q4 q5 q6 => (hb.block b hb').trans (h.block b hb' q1 q2 q3 q4 q5 q6)⟩
theorem set6_size (W : World) (k : Nat) (u0 u1 u2 u3 u4 u5 : Value) : ((((((W.setCell ⟨k, 0, none⟩ u0).setCell ⟨k, 1, none⟩ u1).setCell ⟨k, 2, none⟩ u2).setCell ⟨k, 3, none⟩ u3).setCell ⟨k, 4, none⟩ u4).setCell ⟨k, 5, none⟩ u5).heap.size = W.heap.size := by simp only [World.setCell, Array.size_modify]
theorem WlAt.set6 {W : World} {p : Wp} {S : Option Addr} {cS : Nat} {ds : List Dv} {ls : List Lk} {n : Nat} {M : Mnd} {ar : List Arv} (h : WlAt W p S cS ds ls n M ar) {k : Nat} (hk : p.B < k) (hs : ∀ g, (Value.slice S ar.length cS).ownBlock = some g → g ≠ k) (u0 u1 u2 u3 u4 u5 : Value) : WlAt ((((((W.setCell ⟨k, 0, none⟩ u0).setCell ⟨k, 1, none⟩ u1).setCell ⟨k, 2, none⟩ u2).setCell ⟨k, 3, none⟩ u3).setCell ⟨k, 4, none⟩ u4).setCell ⟨k, 5, none⟩ u5) p S cS ds ls n M ar := h.put hk hs (fun _ hb => set6_block hb u0 u1 u2 u3 u4 u5)
theorem Bk.set6 {W : World} {b k : Nat} {c : Array Value} {t : TypeId} (h : Bk W b c t) (hk : b ≠ k) (u0 u1 u2 u3 u4 u5 : Value) : Bk ((((((W.setCell ⟨k, 0, none⟩ u0).setCell ⟨k, 1, none⟩ u1).setCell ⟨k, 2, none⟩ u2).setCell ⟨k, 3, none⟩ u3).setCell ⟨k, 4, none⟩ u4).setCell ⟨k, 5, none⟩ u5) b c t := (set6_block hk u0 u1 u2 u3 u4 u5).trans h
theorem AOut.after {w W w' : World} {p : Wp} {S : Option Addr} {ds : List Dv} {ls : List Lk} {n : Nat} {M : Mnd} {ar : List Arv} (hb : WF p S w W) (h : AOut W p S ds ls n M ar w') : AOut w p S ds ls n M ar w' := by
  obtain ⟨S', cS', h1, h2, h3⟩ := h
  refine ⟨S', cS', h1, hb.trans h2, fun a ha => ?_⟩
  rcases h3 a ha with h | h
  · exact Or.inl h
  · exact Or.inr (Nat.le_trans hb.size h)
/-- What hop tells, and what is known and came in then. -/
noncomputable def hopP (ds : List Dv) (ls : List Lk) (M : Mnd) (ar : List Arv) (i q : Int) (p : Pk) (c : Int) : Int × Mnd × List Arv :=
  if (inF ar ((i, q), p)).isSome = true then
    ((handleP ds ls M i q p c).err, (handleP ds ls M i q p c).M, if (handleP ds ls M i q p c).err = 0 then addA ar ((handleP ds ls M i q p c).tp, (handleP ds ls M i q p c).p) else ar)
  else (7, M, ar)
set_option maxHeartbeats 8000000 in
set_option maxRecDepth 100000 in
theorem hop_any {p : Wp} {S : Option Addr} {cS : Nat} {ds : List Dv} {ls : List Lk} {n : Nat} {M : Mnd} {ar : List Arv} (i q : Int) (x : Pk) (c : Int) (w : World) (h : Hid (WlAt w p S cS ds ls n M ar)) (hx : Hid (arvOk ((i, q), x))) (hc : Hid (i64ok c)) (hA : Hid (AddrsOk ds)) (hO : Hid ((handleP ds ls M i q x c).err = 0 → arvOk ((handleP ds ls M i q x c).tp, (handleP ds ls M i q x c).p))) (hn : n + 1 < maxLen) (ha : ar.length ≤ 5000) :
    Calls Try.prog 18 #[.pointer (some ⟨p.B, 0, none⟩), plA i q, pkV x, .int .i64 c] w fun e w' => e = .returned (.int .i64 (hopP ds ls M ar i q x c).1) ∧ AOut w p S ds ls (n + 1 + 1) (hopP ds ls M ar i q x c).2.1 (hopP ds ls M ar i q x c).2.2 w' := by
  have h2 := (h.out.alloc (.cells #[.int .i64 i, .int .i64 q] 41)).alloc (pkC x)
  have D2 := Below.alN (Below.alN (Below.refl w.heap.size w) (.cells #[.int .i64 i, .int .i64 q] 41)) (pkC x)
  have P2 := (bk_new w #[.int .i64 i, .int .i64 q] 41).alloc (pkC x)
  have X2 := bk_new' (w.alloc (.cells #[.int .i64 i, .int .i64 q] 41)) #[.int .i64 x.s, .int .i64 x.d, .int .i64 x.sp, .int .i64 x.dp] 33 (w.heap.size + 1) (by simp)
  have HS : Hid (∀ W, WlAt W p S cS ds ls n M ar → Calls Try.prog 9 #[.pointer (some ⟨p.B, 0, none⟩), plA i q, pkV x] W fun e w' => e = .returned (.bool (inF ar ((i, q), x)).isSome) ∧ Below W.heap.size W w') := fun W hw => whas_any ((i, q), x) W hw hx.out
  have zB := h.out.blk.lt
  have seenLt : ∀ g, (Value.slice S ar.length cS).ownBlock = some g → g < w.heap.size := fun g hg => (own_block h.out.seen hg).1
  obtain ⟨v, hv⟩ : ∃ v, (inF ar ((i, q), x)).isSome = v := ⟨_, rfl⟩
  obtain ⟨r, hr⟩ : ∃ r, handleP ds ls M i q x c = r := ⟨_, rfl⟩
  have HP : Hid (hopP ds ls M ar i q x c = if v = true then (r.err, r.M, if r.err = 0 then addA ar (r.tp, r.p) else ar) else (7, M, ar)) := by
    show _ = _
    unfold hopP
    rw [hv, hr]
  rw [hv] at HS
  generalize hopP ds ls M ar i q x c = res at *
  have HD0 : Hid (∀ W, WlAt W p S cS ds ls n M ar → Calls Try.prog 31 #[.pointer (some ⟨p.B, 2, none⟩), plA i q, pkV x, .int .i64 c] W fun e w' => e = .returned (.tuple #[arV r.tp r.p, .int .i64 r.err]) ∧ (WlAt w' p S cS ds ls (n + 1) r.M ar ∧ WF p S W w') ∧ CK W w') := fun W hw => (handle_any (p.m ds.length ls.length S cS ar.length) ds ls n M i q x c W hw.mem (by omega) hA.out hx.out.1 hc.out).mono fun e w' ⟨h1, h2, h3⟩ => by
    rw [hr] at h1 h2
    exact ⟨h1, ⟨hw.hk (by omega) h2 h3, WF.of_hk h3⟩, hw.mem.ck h3⟩
  rw [hr] at hO
  have ARR : Hid (r.err = 0 → ∀ W, WlAt W p S cS ds ls (n + 1) r.M ar → Calls Try.prog 30 #[.pointer (some ⟨p.B, 0, none⟩), arV r.tp r.p] W fun e w' => (∃ v, e = .returned v) ∧ AOut W p S ds ls (n + 1 + 1) r.M (addA ar (r.tp, r.p)) w') := fun he W hw => arrive_any (r.tp, r.p) W hw (hO.out he) hn ha
  obtain ⟨er, ⟨t1, t2⟩, ⟨r1, r2, r3, r4⟩, Mr⟩ := r
  obtain ⟨s, d, sp, dp⟩ := x
  dsimp only at *
  generalize hb1 : w.heap.size = b1 at *
  generalize hb2' : b1 + 1 = b2 at *
  obtain ⟨p0, p1⟩ := P2.two
  obtain ⟨q0, q1, q2, q3, _⟩ := X2.four
  clear h hx hc hA hO hv hr
  go_enter Try.func18, Try.ntmps18
  go_wp2_with fail
  with_reducible refine (HS.out _ h2).mono ?_
  rintro e w3 ⟨rfl, hb3⟩
  have h3 := h2.below hb3
  have D3 : Below w.heap.size w w3 := chnN hb3 (by rw [hb1]; exact D2)
  have P3 := P2.keep hb3
  have X3 := X2.keep hb3
  clear hb3 h2 D2 P2 X2 p0 p1 q0 q1 q2 q3 HS
  cases v
  · have hv := HP.out.trans (if_neg Bool.false_ne_true)
    subst hv
    have hf : AOut w p S ds ls (n + 1 + 1) M ar w3 := AOut.same (h3.mono (Nat.le_succ n)) D3
    clear HP ARR HD0
    go_wp2_with fail
    go_ret
    exact ⟨rfl, hf⟩
  have HV : Hid (res = (er, Mr, if er = 0 then addA ar ((t1, t2), ⟨r1, r2, r3, r4⟩) else ar)) := HP.out.trans (if_pos rfl)
  clear HP
  obtain ⟨Q, hQ⟩ : ∃ Q : Nat → Mnd → World → Prop, Q = fun n M W => WlAt W p S cS ds ls n M ar ∧ WF p S w W ∧ Bk W b1 #[.int .i64 i, .int .i64 q] 41 ∧ Bk W b2 #[.int .i64 s, .int .i64 d, .int .i64 sp, .int .i64 dp] 33 ∧ b2 < W.heap.size := ⟨_, rfl⟩
  have Q3 : Q n M w3 := by
    rw [hQ]
    exact ⟨h3, WF.of_below D3, P3, X3, X3.lt⟩
  have FS : ∀ {n : Nat} {M : Mnd} {w' : World}, Q n M w' → (w'.cell? ⟨b1, 0, none⟩ = some (.int .i64 i) ∧ w'.cell? ⟨b1, 1, none⟩ = some (.int .i64 q) ∧ w'.cell? ⟨b2, 0, none⟩ = some (.int .i64 s) ∧ w'.cell? ⟨b2, 1, none⟩ = some (.int .i64 d) ∧ w'.cell? ⟨b2, 2, none⟩ = some (.int .i64 sp) ∧ w'.cell? ⟨b2, 3, none⟩ = some (.int .i64 dp)) := fun {n M w'} h => by
    rw [hQ] at h
    exact ⟨h.2.2.1.at 0, h.2.2.1.at 1, h.2.2.2.1.at 0, h.2.2.2.1.at 1, h.2.2.2.1.at 2, h.2.2.2.1.at 3⟩
  have AL : ∀ {n : Nat} {M : Mnd} {W : World} (o : Obj), Q n M W → Q n M (W.alloc o) := fun {n M W} o h => by
    rw [hQ] at h ⊢
    have hb : Below W.heap.size W (W.alloc o) := (Below.refl _ _).alloc (Nat.le_refl _) o
    exact ⟨h.1.alloc o, h.2.1.trans (WF.of_below hb), h.2.2.1.alloc o, h.2.2.2.1.alloc o, Nat.lt_of_lt_of_le h.2.2.2.2 hb.size⟩
  have DR : ∀ {n : Nat} {M : Mnd} {W : World}, Q n M W → Q n M W.drew := fun {n M W} h => by
    rw [hQ] at h ⊢
    exact ⟨h.1.drew, h.2.1.trans (WF.of_below (Below.refl _ _).drew), h.2.2.1.drew, h.2.2.2.1.drew, h.2.2.2.2⟩
  have S6 : ∀ {n : Nat} {M : Mnd} {W : World} {k : Nat}, Q n M W → ZB (b2 + 1) k W → ∀ u0 u1 u2 u3 u4 u5 : Value, Q n M ((((((W.setCell ⟨k, 0, none⟩ u0).setCell ⟨k, 1, none⟩ u1).setCell ⟨k, 2, none⟩ u2).setCell ⟨k, 3, none⟩ u3).setCell ⟨k, 4, none⟩ u4).setCell ⟨k, 5, none⟩ u5) := fun {n M W k} h z u0 u1 u2 u3 u4 u5 => by
    rw [hQ] at h ⊢
    have hz := z.2
    exact ⟨h.1.set6 (by omega) (fun g hg e => by have := seenLt g hg; omega) u0 u1 u2 u3 u4 u5, h.2.1.set6 (by omega) u0 u1 u2 u3 u4 u5, h.2.2.1.set6 (by omega) u0 u1 u2 u3 u4 u5, h.2.2.2.1.set6 (by omega) u0 u1 u2 u3 u4 u5, by rw [set6_size]; exact h.2.2.2.2⟩
  have UN : Hid (∀ {n : Nat} {M : Mnd} {W : World}, Q n M W → WlAt W p S cS ds ls n M ar ∧ WF p S w W) := fun {n M W} h => by
    rw [hQ] at h
    exact ⟨h.1, h.2.1⟩
  have TW : ∀ {n : Nat} {M : Mnd} {W : World}, Q n M W → b2 + 1 ≤ W.heap.size := fun {n M W} h => by
    rw [hQ] at h
    exact h.2.2.2.2
  have HD : Hid (∀ W, Q n M W → Calls Try.prog 31 #[.pointer (some ⟨p.B, 2, none⟩), .agg #[.int .i64 i, .int .i64 q], .agg #[.int .i64 s, .int .i64 d, .int .i64 sp, .int .i64 dp], .int .i64 c] W fun e w' => e = .returned (.tuple #[.agg #[.int .i64 t1, .int .i64 t2, .int .i64 r1, .int .i64 r2, .int .i64 r3, .int .i64 r4], .int .i64 er]) ∧ Q (n + 1) Mr w' ∧ CK W w') := fun W h => by
    rw [hQ] at h
    refine (HD0.out W h.1).mono fun e w' ⟨h1, ⟨h2, h3⟩, h4⟩ => ⟨h1, ?_, h4⟩
    rw [hQ]
    exact ⟨h2, h.2.1.trans h3, h.2.2.1.ck h4, h.2.2.2.1.ck h4, Nat.lt_of_lt_of_le h.2.2.2.2 h4.size⟩
  have Q0d := DR Q3
  have Q0a := DR (AL arZ Q3)
  have Z0a := ZB.drew (zb_new (TW Q3))
  obtain ⟨c0, c1, c2, c3, c4, c5⟩ := FS Q3
  clear hQ h3 D3 P3 X3 HD0
  go_upto_region 3 with fail
  go_cut [9, 10] (fun v1 v2 wx => ∃ g, v1 = .pointer (some ⟨g, 0, none⟩) ∧ v2 = .int .i64 er ∧ Bk wx g #[.int .i64 t1, .int .i64 t2, .int .i64 r1, .int .i64 r2, .int .i64 r3, .int .i64 r4] 43 ∧ Q (n + 1) Mr wx)
  case first =>
    go_region_held3 (fun w' => w'.cell? ⟨b1, 0, none⟩ = some (.int .i64 i) ∧ w'.cell? ⟨b1, 1, none⟩ = some (.int .i64 q) ∧ w'.cell? ⟨b2, 0, none⟩ = some (.int .i64 s) ∧ w'.cell? ⟨b2, 1, none⟩ = some (.int .i64 d) ∧ w'.cell? ⟨b2, 2, none⟩ = some (.int .i64 sp) ∧ w'.cell? ⟨b2, 3, none⟩ = some (.int .i64 dp)) (exact FS (by first | with_reducible exact Sh | with_reducible exact AL _ Sh | with_reducible exact S6 Sh Zh _ _ _ _ _ _ | with_reducible exact Q0a | with_reducible exact Q0d)) (first | (go_at_call 31; (with_reducible refine (HD.out _ Q0a).mono ?_); rintro e wh ⟨rfl, Sh, Ch⟩; have Zh := ZB.ck Z0a Ch; obtain ⟨⟨zz0, zz1, zz2, zz3, zz4, zz5⟩, ⟨zf0, zf1, zf2, zf3, zf4, zf5⟩⟩ := Zh.1.six) | (go_at_call 31; (with_reducible refine (HD.out _ Q0d).mono ?_); rintro e wh ⟨rfl, Sh, Ch⟩; skip))
    all_goals
      go_wp2_with fail
      go_meet
      first
        | exact ⟨_, rfl, rfl, (by have := (((((Zh.1.setS (j := 0) (.int .i64 t1)).setS (j := 1) (.int .i64 t2)).setS (j := 2) (.int .i64 r1)).setS (j := 3) (.int .i64 r2)).setS (j := 4) (.int .i64 r3)).setS (j := 5) (.int .i64 r4); simpa using this), S6 Sh Zh _ _ _ _ _ _⟩
        | exact ⟨_, rfl, rfl, bk_new _ _ _, AL _ Sh⟩
  case rest =>
    clear Q0d Q0a Z0a c0 c1 c2 c3 c4 c5 Q3 HD FS AL DR S6 TW
    obtain ⟨g, rfl, rfl, G0, Q4⟩ := hcut
    obtain ⟨h4, F4⟩ := UN.out Q4
    clear Q4 UN
    by_cases he : er = 0
    · subst he
      have A5 := ARR.out rfl _ h4
      obtain ⟨⟨g0, g1, g2, g3, g4, g5⟩, _⟩ := G0.six
      have hv : res = (0, Mr, addA ar ((t1, t2), ⟨r1, r2, r3, r4⟩)) := HV.out
      subst hv
      clear ARR HV
      go_wp2_with fail
      with_reducible refine A5.mono ?_
      rintro e w6 ⟨⟨v, rfl⟩, hA6⟩
      have hf := AOut.after F4 hA6
      go_wp2_with fail
      go_ret
      exact ⟨rfl, hf⟩
    · have he1 : (er == 0) = false := by simpa using he
      have HE : Hid (¬ er = 0) := he
      have hf : AOut w p S ds ls (n + 1 + 1) Mr ar wc := ⟨S, cS, h4.mono (Nat.le_succ _), F4, SG.refl _ _⟩
      have hv : res = (er, Mr, ar) := HV.out.trans (by rw [if_neg he])
      subst hv
      clear ARR he HV
      go_wp2_with fail
      all_goals first | exact absurd (by assumption) HE.out | skip
      go_ret
      exact ⟨rfl, hf⟩
end Go.Proofs.Ytepfckicaafilab

namespace Go.Proofs.Ytepfckicaafilab
open Go.RowKit Go.Maps

/-- An event. -/
structure Ev where
  k : Int
  i : Int
  q : Int
  p : Pk
  c : Int
structure Ev.ok (x : Ev) : Prop where
  i : i64ok x.i
  q : i64ok x.q
  p : x.p.ok
  c : i64ok x.c
noncomputable def doP (ds : List Dv) (ls : List Lk) (M : Mnd) (ar : List Arv) (x : Ev) : Int × Mnd × List Arv :=
  if x.k = 1 then ((injP ds ls ar x.i x.p).1, M, (injP ds ls ar x.i x.p).2)
  else if x.k = 2 then hopP ds ls M ar x.i x.q x.p x.c
  else if x.k = 3 then ((forgetP ds M x.i x.p x.c).err, (forgetP ds M x.i x.p x.c).M, ar)
  else (1, M, ar)
theorem AOut.mono {w w' : World} {p : Wp} {S : Option Addr} {ds : List Dv} {ls : List Lk} {n n' : Nat} {M : Mnd} {ar : List Arv} (h : AOut w p S ds ls n M ar w') (hn : n ≤ n') : AOut w p S ds ls n' M ar w' := by
  obtain ⟨S', cS', h1, h2, h3⟩ := h
  exact ⟨S', cS', h1.mono hn, h2, h3⟩
set_option maxHeartbeats 8000000 in
set_option maxRecDepth 100000 in
theorem do_any {p : Wp} {S : Option Addr} {cS : Nat} {ds : List Dv} {ls : List Lk} {n : Nat} {M : Mnd} {ar : List Arv} (x : Ev) (w : World) (h : Hid (WlAt w p S cS ds ls n M ar)) (hx : Hid x.ok) (hz : Hid (netV ds ls = 0)) (hO : Hid ((handleP ds ls M x.i x.q x.p x.c).err = 0 → arvOk ((handleP ds ls M x.i x.q x.p x.c).tp, (handleP ds ls M x.i x.q x.p x.c).p))) (hn : n + 1 < maxLen) (ha : ar.length ≤ 5000) :
    Calls Try.prog 7 #[.pointer (some ⟨p.B, 0, none⟩), .agg #[.int .i64 x.k, .int .i64 x.i, .int .i64 x.q, .int .i64 x.p.s, .int .i64 x.p.d, .int .i64 x.p.sp, .int .i64 x.p.dp, .int .i64 x.c]] w fun e w' => e = .returned (.int .i64 (doP ds ls M ar x).1) ∧ AOut w p S ds ls (n + 1 + 1) (doP ds ls M ar x).2.1 (doP ds ls M ar x).2.2 w' := by
  have h1 := h.out.alloc (.cells #[.int .i64 x.k, .int .i64 x.i, .int .i64 x.q, .int .i64 x.p.s, .int .i64 x.p.d, .int .i64 x.p.sp, .int .i64 x.p.dp, .int .i64 x.c] 35)
  have D1 := Below.alN (Below.refl w.heap.size w) (.cells #[.int .i64 x.k, .int .i64 x.i, .int .i64 x.q, .int .i64 x.p.s, .int .i64 x.p.d, .int .i64 x.p.sp, .int .i64 x.p.dp, .int .i64 x.c] 35)
  have X1 := bk_new w #[.int .i64 x.k, .int .i64 x.i, .int .i64 x.q, .int .i64 x.p.s, .int .i64 x.p.d, .int .i64 x.p.sp, .int .i64 x.p.dp, .int .i64 x.c] 35
  have INJ : Hid (∀ W, WlAt W p S cS ds ls n M ar → Calls Try.prog 17 #[.pointer (some ⟨p.B, 0, none⟩), .int .i64 x.i, pkV x.p] W fun e w' => e = .returned (.int .i64 (injP ds ls ar x.i x.p).1) ∧ AOut W p S ds ls (n + 1) M (injP ds ls ar x.i x.p).2 w') := fun W hw => inject_any x.i x.p W hw hz (by omega) ha
  have HOP : Hid (∀ W, WlAt W p S cS ds ls n M ar → Calls Try.prog 18 #[.pointer (some ⟨p.B, 0, none⟩), plA x.i x.q, pkV x.p, .int .i64 x.c] W fun e w' => e = .returned (.int .i64 (hopP ds ls M ar x.i x.q x.p x.c).1) ∧ AOut W p S ds ls (n + 1 + 1) (hopP ds ls M ar x.i x.q x.p x.c).2.1 (hopP ds ls M ar x.i x.q x.p x.c).2.2 w') := fun W hw => hop_any x.i x.q x.p x.c W hw ⟨hx.out.i, hx.out.q, hx.out.p⟩ hx.out.c (addrs_of hz.out) hO hn ha
  have FGT : Hid (∀ W, WlAt W p S cS ds ls n M ar → Calls Try.prog 19 #[.pointer (some ⟨p.B, 2, none⟩), .int .i64 x.i, pkV x.p, .int .i64 x.c] W fun e w' => e = .returned (.int .i64 (forgetP ds M x.i x.p x.c).err) ∧ AOut W p S ds ls (n + 1 + 1) (forgetP ds M x.i x.p x.c).M ar w' ∧ CK W w') := fun W hw => (forget_any (p.m ds.length ls.length S cS ar.length) ds ls n M x.i x.p x.c W hw.mem hx.out.i hx.out.p hx.out.c).mono fun e w' ⟨h1, h2, h3⟩ => ⟨h1, ⟨S, cS, hw.hk (n' := n + 1 + 1) (by omega) (h2.mono (by omega)) h3, WF.of_hk h3, SG.refl _ _⟩, hw.mem.ck h3⟩
  obtain ⟨res, hres⟩ : ∃ res, doP ds ls M ar x = res := ⟨_, rfl⟩
  rw [hres]
  have e1 : Hid (x.k = 1 → res = ((injP ds ls ar x.i x.p).1, M, (injP ds ls ar x.i x.p).2)) := fun hk => by
    rw [← hres]; unfold doP; rw [if_pos hk]
  have e2 : Hid (x.k = 2 → res = hopP ds ls M ar x.i x.q x.p x.c) := fun hk => by
    rw [← hres]; unfold doP; rw [if_neg (by omega), if_pos hk]
  have e3 : Hid (x.k = 3 → res = ((forgetP ds M x.i x.p x.c).err, (forgetP ds M x.i x.p x.c).M, ar)) := fun hk => by
    rw [← hres]; unfold doP; rw [if_neg (by omega), if_neg (by omega), if_pos hk]
  have e4 : Hid (¬ x.k = 1 → ¬ x.k = 2 → ¬ x.k = 3 → res = (1, M, ar)) := fun a b c => by
    rw [← hres]; unfold doP; rw [if_neg a, if_neg b, if_neg c]
  have hf0 : AOut w p S ds ls (n + 1 + 1) M ar (w.alloc (.cells #[.int .i64 x.k, .int .i64 x.i, .int .i64 x.q, .int .i64 x.p.s, .int .i64 x.p.d, .int .i64 x.p.sp, .int .i64 x.p.dp, .int .i64 x.c] 35)) := (AOut.same h1 D1).mono (by omega)
  obtain ⟨k, i, q, ⟨s, d, sp, dp⟩, c⟩ := x
  dsimp only at *
  generalize injP ds ls ar i ⟨s, d, sp, dp⟩ = ri at *
  generalize hopP ds ls M ar i q ⟨s, d, sp, dp⟩ c = rh at *
  generalize forgetP ds M i ⟨s, d, sp, dp⟩ c = rf at *
  have x0 := X1.at 0
  have x1 := X1.at 1
  have x2 := X1.at 2
  have x3 := X1.at 3
  have x4 := X1.at 4
  have x5 := X1.at 5
  have x6 := X1.at 6
  have x7 := X1.at 7
  clear h hx hz hO hres
  by_cases h1' : k = 1
  · subst h1'
    have hv := e1.out rfl
    subst hv
    clear e1 e2 e3 e4 hf0 HOP FGT
    go_enter Try.func7, Try.ntmps7
    go_wp2_with fail
    with_reducible refine (INJ.out _ h1).mono ?_
    rintro e w2 ⟨rfl, hA⟩
    have hf := (AOut.from D1 hA).mono (Nat.le_succ (n + 1))
    go_wp2_with fail
    go_ret
    exact ⟨rfl, hf⟩
  have k1 : (k == 1) = false := by simpa using h1'
  by_cases h2' : k = 2
  · subst h2'
    have hv := e2.out rfl
    subst hv
    clear e1 e2 e3 e4 hf0 INJ FGT h1' k1
    go_enter Try.func7, Try.ntmps7
    go_wp2_with fail
    with_reducible refine (HOP.out _ h1).mono ?_
    rintro e w2 ⟨rfl, hA⟩
    have hf := AOut.from D1 hA
    go_wp2_with fail
    go_ret
    exact ⟨rfl, hf⟩
  have k2 : (k == 2) = false := by simpa using h2'
  by_cases h3' : k = 3
  rotate_left
  · have k3 : (k == 3) = false := by simpa using h3'
    have hv := e4.out h1' h2' h3'
    subst hv
    have N1 : Hid (¬ k = 1) := h1'
    have N2 : Hid (¬ k = 2) := h2'
    have N3 : Hid (¬ k = 3) := h3'
    clear e1 e2 e3 e4 INJ FGT HOP h1' h2' h3'
    go_enter Try.func7, Try.ntmps7
    go_wp2_with fail
    all_goals first | exact absurd (by assumption) N1.out | exact absurd (by assumption) N2.out | exact absurd (by assumption) N3.out | skip
    go_ret
    exact ⟨rfl, hf0⟩
  subst h3'
  have hv := e3.out rfl
  subst hv
  clear e1 e2 e3 e4 INJ HOP h1' h2' k1 k2 hf0
  have h1d := h1.drew
  have D1d := D1.drew
  have KE : ∀ {w' : World}, CK (w.alloc (.cells #[.int .i64 3, .int .i64 i, .int .i64 q, .int .i64 s, .int .i64 d, .int .i64 sp, .int .i64 dp, .int .i64 c] 35)).drew w' → w'.cell? ⟨w.heap.size, 1, none⟩ = some (.int .i64 i) ∧ w'.cell? ⟨w.heap.size, 3, none⟩ = some (.int .i64 s) ∧ w'.cell? ⟨w.heap.size, 4, none⟩ = some (.int .i64 d) ∧ w'.cell? ⟨w.heap.size, 5, none⟩ = some (.int .i64 sp) ∧ w'.cell? ⟨w.heap.size, 6, none⟩ = some (.int .i64 dp) ∧ w'.cell? ⟨w.heap.size, 7, none⟩ = some (.int .i64 c) := fun hc => by
    have X := X1.drew.ck hc
    exact ⟨X.at 1, X.at 3, X.at 4, X.at 5, X.at 6, X.at 7⟩
  have C0 : CK (w.alloc (.cells #[.int .i64 3, .int .i64 i, .int .i64 q, .int .i64 s, .int .i64 d, .int .i64 sp, .int .i64 dp, .int .i64 c] 35)).drew (w.alloc (.cells #[.int .i64 3, .int .i64 i, .int .i64 q, .int .i64 s, .int .i64 d, .int .i64 sp, .int .i64 dp, .int .i64 c] 35)).drew := ⟨Nat.le_refl _, fun _ _ _ => rfl⟩
  go_enter Try.func7, Try.ntmps7
  go_wp2_with fail
  go_region_held3 (fun w' => w'.cell? ⟨w.heap.size, 1, none⟩ = some (.int .i64 i) ∧ w'.cell? ⟨w.heap.size, 3, none⟩ = some (.int .i64 s) ∧ w'.cell? ⟨w.heap.size, 4, none⟩ = some (.int .i64 d) ∧ w'.cell? ⟨w.heap.size, 5, none⟩ = some (.int .i64 sp) ∧ w'.cell? ⟨w.heap.size, 6, none⟩ = some (.int .i64 dp) ∧ w'.cell? ⟨w.heap.size, 7, none⟩ = some (.int .i64 c)) (exact KE (by first | exact C2 | exact C0)) (first | (go_at_call 19; (with_reducible refine (FGT.out _ h1d).mono ?_); rintro e w2 ⟨rfl, hA, C2⟩))
  all_goals
    have hf := AOut.from D1d hA
    go_wp2_with fail
    first
      | exact ⟨rfl, hf⟩
      | (go_ret; exact ⟨rfl, hf⟩)
end Go.Proofs.Ytepfckicaafilab
