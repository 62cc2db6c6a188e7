/-
  XAJ.
-/
import Derived.Test.YtmcklkkkkigflaaGreatXAH
import Derived.Test.YtmcklkkkkigflaaGreatXAI
import Derived.Test.YtmcklkkkkigflaaGreatXAG
import Derived.Deep.WholeRow
import Derived.Lib.Bytealg
import Derived.Deep.MidRow
import Derived.Deep.DeepCutAuto
import Derived.BigQuiet
import Derived.ChangeKeysEq
set_option maxHeartbeats 8000000
set_option maxRecDepth 100000
namespace Go.Proofs.YtmcklkkkkigflaaGreat
open Go.RowKit Go.Maps
theorem rules_ofD {base : Nat} {w : World} {v : Value} {xs : List NRule} (h : SlAt base w 5 IsRule v xs) : Rules base w v (xs.map fun r => ⟨r.ok, r.a, r.b, r.c, r.d, r.ha, r.hb, r.hc, r.hd⟩) := by
 obtain ⟨A, cap, rfl, h0, h1, h2, h3⟩ := h
 refine ⟨A, cap, by rw [List.length_map], h0, by rw [List.length_map]; exact h1, h2, fun hn => ?_⟩
 obtain ⟨b, o, ea, hl, hr⟩ := h3 (fun e => hn (by rw [e]; rfl))
 refine ⟨b, o, ea, hl, fun j u hj => ?_⟩
 have hjl := (List.getElem?_eq_some_iff.1 hj).1
 rw [cellsR_length, List.length_map] at hjl
 have hk : j / 5 < xs.length := by omega
 have hx : xs[j / 5]? = some xs[j / 5] := List.getElem?_eq_getElem hk
 obtain ⟨cs, _, rfl, hc⟩ := hr _ _ hx
 obtain ⟨c0, c1, c2, c3, c4⟩ := cellsR_at (xs.map fun r : NRule => (⟨r.ok, r.a, r.b, r.c, r.d, r.ha, r.hb, r.hc, r.hd⟩ : Rl)) (j / 5) _ (by rw [List.getElem?_map, hx]; rfl)
 have hm : j % 5 = 0 ∨ j % 5 = 1 ∨ j % 5 = 2 ∨ j % 5 = 3 ∨ j % 5 = 4 := by omega
 have eo : o + j = o + j / 5 * 5 + j % 5 := by omega
 rw [eo]
 rcases hm with hm | hm | hm | hm | hm
 ·rw [show j = j / 5 * 5 by omega, c0] at hj
  rw [hm, <- Option.some.inj hj]
  exact hc 0 _ rfl
 ·rw [show j = j / 5 * 5 + 1 by omega, c1] at hj
  rw [hm, <- Option.some.inj hj]
  exact hc 1 _ rfl
 ·rw [show j = j / 5 * 5 + 2 by omega, c2] at hj
  rw [hm, <- Option.some.inj hj]
  exact hc 2 _ rfl
 ·rw [show j = j / 5 * 5 + 3 by omega, c3] at hj
  rw [hm, <- Option.some.inj hj]
  exact hc 3 _ rfl
 ·rw [show j = j / 5 * 5 + 4 by omega, c4] at hj
  rw [hm, <- Option.some.inj hj]
  exact hc 4 _ rfl
def rulesD (d : Dv) : List Rl := d.rules.map fun r => ⟨r.ok, r.a, r.b, r.c, r.d, r.ha, r.hb, r.hc, r.hd⟩
def routesD (d : Dv) : List Rt := d.routes.map rtOf
theorem backs_in {bs : List Int} {ad : Int} : ∀ (m k : Nat), bs.length - k <= m -> backsFrom bs ad k ≠ 1 -> ∀ j x, k <= j -> bs[j]? = some x -> 0 <= x ∧ x < 16
 | 0, k, h, _, j, x, hj, hx => by
   have := (List.getElem?_eq_some_iff.1 hx).1
   omega
 | m + 1, k, h, h0, j, x, hj, hx => by
   have hjl := (List.getElem?_eq_some_iff.1 hx).1
   have hk : k < bs.length := by omega
   rw [backsFrom_at (List.getElem?_eq_getElem hk)] at h0
   split at h0
   ·rename_i hc
    by_cases e : j = k
    ·subst e
     rw [List.getElem?_eq_getElem hk] at hx
     obtain rfl := Option.some.inj hx
     simp only [Bool.and_eq_true, decide_eq_true_eq] at hc
     omega
    ·exact backs_in m (k + 1) (by omega) h0 j x (by omega) hx
   ·exact absurd rfl h0
theorem dev_right {d : Dv} (h : devC d = 0) : (1 <= d.kind ∧ d.kind <= 5) ∧ (0 <= d.addr ∧ d.addr < 16) ∧ (∀ x ∈ d.backs, 0 <= x ∧ x < 16) ∧ d.rules.length <= 8 ∧ checkV (routesD d) = 0 := by
 unfold devC devV at h
 split at h
 ·simp at h
 rename_i h1
 split at h
 ·simp at h
 rename_i h2
 split at h
 ·simp at h
 split at h
 ·simp at h
 split at h
 ·simp at h
 rename_i h5
 split at h
 ·simp at h
 split at h
 ·simp at h
 rename_i h8
 refine ⟨?_, ?_, fun x hx => ?_, by omega, h⟩
 ·simp at h1
  omega
 ·cases hk : hasAddr d.kind
  ·rw [hk] at h2
   simp at h2
   omega
  ·rw [hk] at h2
   simp at h2
   omega
 ·obtain ⟨j, hj, e⟩ := List.mem_iff_getElem.1 hx
  exact backs_in d.backs.length 0 (by omega) h5 j x (Nat.zero_le _) (by rw [List.getElem?_eq_getElem hj, e])
theorem andNot_u16 (z : Nat) : ∃ zc : Nat, zc < 65536 ∧ Go.bits .andNot .u16 65535 (z : Int) = (zc : Int) ∧ ∀ i, i < 16 -> zc.testBit i = !z.testBit i := by
 have e1 : BitVec.ofInt 16 (z : Int) = BitVec.ofNat 16 z := by simp
 refine ⟨(BitVec.ofNat 16 65535 &&& ~~~ BitVec.ofNat 16 z).toNat, BitVec.isLt _, ?_, fun i hi => ?_⟩
 ·show IntKind.u16.wrap (((BitVec.ofInt 16 65535 &&& ~~~ BitVec.ofInt 16 (z : Int)).toNat : Nat) : Int) = _
  have hlt := (BitVec.ofInt 16 65535 &&& ~~~ BitVec.ofInt 16 (z : Int)).isLt
  rw [IntWalk.u16_in _ ⟨by omega, by omega⟩, e1]
  rfl
 ·rw [BitVec.testBit_toNat, BitVec.getLsbD_and, BitVec.getLsbD_not, show BitVec.ofNat 16 65535 = BitVec.allOnes 16 by decide, BitVec.getLsbD_allOnes, BitVec.getLsbD_ofNat]
  simp [hi]
noncomputable def notN (z : Nat) : Nat := (andNot_u16 z).choose
theorem notN_spec (z : Nat) : notN z < 65536 ∧ Go.bits .andNot .u16 65535 (z : Int) = (notN z : Int) ∧ ∀ i, i < 16 -> (notN z).testBit i = !z.testBit i := (andNot_u16 z).choose_spec
noncomputable def sendF (d : Dv) (pt : Int) (φ0 φ1 φ2 φ3 : Env -> Bool) : Env -> Bool :=
 if d.kind = 2 then (fun x => (fun x => orP φ0 φ1 φ2 φ3 4 x && phi 65535 (sentN (routesD d) pt 16) 255 255 x) x && letsF (rulesD d) x)
 else if d.kind = 3 then (if pt = 1 then (fun x => φ0 x && letsF (rulesD d) x) else (fun x => φ1 x && flF (fun x => φ0 x && letsF (rulesD d) x) x))
 else if d.kind = 4 then (if pt = 1 then (fun x => anF (anF φ0 8 3) 0 4 x && (phi (setL [d.addr] 0) 65535 d.pool 255) x) else (fun x => anF (anF (fun x => φ1 x && (phi 65535 (setL [d.addr] 0) 255 d.pool) x) 11 3) 4 4 x && flF (anF (anF φ0 11 3) 4 4) x))
 else if d.kind = 5 then (if pt = 1 then (fun x => (fun x => φ0 x && phi 65535 (notN (setL [d.addr] 0)) 255 255 x) x || (fun x => anF (fun x => φ0 x && (phi 65535 (setL [d.addr] 0) 255 255) x) 4 4 x && (phi 65535 (setL d.backs 0) 255 255) x) x)
  else (fun x => φ1 x || (fun x => anF (fun x => φ1 x && (fun x => (phi (setL d.backs 0) 65535 255 255) x && flF (anF (fun x => φ0 x && (phi 65535 (setL [d.addr] 0) 255 255) x) 4 4) x) x) 0 4 x && (phi (setL [d.addr] 0) 65535 255 255) x) x))
 else (fun _ => false)
section
variable {base q a M : Nat} {w0 w : World} {ns : List Nd} {er : Int}
theorem all_le : 2 ^ cnS (fun _ => true) 14 0 - 1 <= 16383 := by
 have := cnS_le (S := fun _ => true) (vars := 14) 0
 have := Nat.pow_le_pow_right (n := 2) (by omega) this
 omega
theorem andB_all {φ ψ : Env -> Bool} : AndB base q a M w0 φ ψ 16383 := fun _ _ _ _ _ h hf hg => (and_b (fun _ => true) h hf hg (fun _ => ⟨DepS.all _, DepS.all _⟩)).mono fun _ _ B => B.more all_le
theorem orB_all {φ ψ : Env -> Bool} : OrB base q a M w0 φ ψ 16383 := fun _ _ _ _ _ h hf hg => (or_b (fun _ => true) h hf hg (fun _ => ⟨DepS.all _, DepS.all _⟩)).mono fun _ _ B => B.more all_le
theorem anSrc_all {φ : Env -> Bool} : AnB 131 base q a M w0 φ (anF φ 0 4) (4 * 16383) := fun _ _ _ _ h hf => anySrc_b h hf
theorem anDst_all {φ : Env -> Bool} : AnB 135 base q a M w0 φ (anF φ 4 4) (4 * 16383) := fun _ _ _ _ h hf => anyDst_b h hf
theorem anSport_all {φ : Env -> Bool} : AnB 132 base q a M w0 φ (anF φ 8 3) (3 * 16383) := fun _ _ _ _ h hf => anySport_b h hf
theorem anDport_all {φ : Env -> Bool} : AnB 136 base q a M w0 φ (anF φ 11 3) (3 * 16383) := fun _ _ _ _ h hf => anyDport_b h hf
theorem send_any (h : Bn base q a M w0 w ns er) (d : Dv) (hd : devC d = 0) {Ab A At : Option Addr} {nb cb n cap nt ct : Nat} (hb : SlAt base w0 1 IsI (.slice Ab nb cb) d.backs) (hr : SlAt base w0 5 IsRule (.slice A n cap) d.rules) (ht : SlAt base w0 3 IsRoute (.slice At nt ct) d.routes) (pt : Int) {f0 f1 f2 f3 : Nat} {φ0 φ1 φ2 φ3 : Env -> Bool} (hf0 : Fn ns er f0 φ0) (hf1 : Fn ns er f1 φ1) (hf2 : Fn ns er f2 φ2) (hf3 : Fn ns er f3 φ3) :
  Calls Tryz.prog 80 #[.pointer (some ⟨q, 0, none⟩), .agg #[.string d.name, .int .i64 d.kind, .int .i64 d.addr, .int .u8 (d.pool : Int), .slice Ab nb cb, .slice A n cap, .slice At nt ct], .int .i64 pt, .agg #[.int .i64 (f0 : Int), .int .i64 (f1 : Int), .int .i64 (f2 : Int), .int .i64 (f3 : Int)]] w (BOut base q a M w0 w ns er 1000000 (sendF d pt φ0 φ1 φ2 φ3)) := by
 obtain ⟨⟨k1, k5⟩, ⟨a0, a16⟩, hbs, r8, hck⟩ := dev_right hd
 have RB : RulB base q a M w0 (.slice A n cap) 40000 (letsF (rulesD d)) := rulB_any (rules_ofD hr) (by unfold rulesD; rw [List.length_map]; exact r8)
 have TB : RtB base q a M w0 (.slice At nt ct) pt 44 (phi 65535 (sentN (routesD d) pt 16) 255 255) := fun w ns er b => routes_b b At nt ct (routesD d) pt (((routes_of ht).below b.bel).mono b.size) hck
 have hkd : d.kind = 1 ∨ d.kind = 2 ∨ d.kind = 3 ∨ d.kind = 4 ∨ d.kind = 5 := by omega
 unfold sendF
 rcases hkd with hk | hk | hk | hk | hk
 ·rw [hk, if_neg (by omega), if_neg (by omega), if_neg (by omega), if_neg (by omega)]
  exact (send_host h).mono fun _ _ B => B.more (by omega)
 ·rw [hk, if_pos rfl]
  refine (send_route h (g := 4 * 16383 + 44 + 16383 + 40000 + 16383) fun W b => ?_).mono fun _ _ B => B.more (by omega)
  exact route_b b (fun k φ _ => orB_all) TB andB_all RB andB_all hf0 hf1 hf2 hf3
 ·rw [hk, if_neg (by omega), if_pos rfl]
  by_cases hp : pt = 1
  ·rw [if_pos hp]
   exact (send_ask h hp fun W b => ask_b b RB andB_all hf0).mono fun _ _ B => B.more (by omega)
  ·rw [if_neg hp]
   exact (send_answer h hp fun W b => answer_b b RB andB_all flB_any andB_all hf0 hf1).mono fun _ _ B => B.more (by omega)
 ·rw [hk, if_neg (by omega), if_neg (by omega), if_pos rfl]
  by_cases hp : pt = 1
  ·rw [if_pos hp]
   exact (send_hide h hp fun W b => hide_b b a0 a16 rfl d.hp anSport_all anSrc_all andB_all hf0).mono fun _ _ B => B.more (by omega)
  ·rw [if_neg hp]
   exact (send_unhide h hp fun W b => unhide_b b a0 a16 rfl d.hp andB_all anDport_all anDst_all flB_any anDport_all anDst_all andB_all hf0 hf1).mono fun _ _ B => B.more (by omega)
 ·rw [hk, if_neg (by omega), if_neg (by omega), if_neg (by omega), if_pos rfl]
  by_cases hp : pt = 1
  ·rw [if_pos hp]
   exact (send_spread h hp fun W b => spread_b b a0 a16 ⟨(notN_spec _).1, (notN_spec _).2.1⟩ hb hbs andB_all anDst_all andB_all andB_all orB_all hf0).mono fun _ _ B => B.more (by omega)
  ·rw [if_neg hp]
   exact (send_gather h hp fun W b => gather_b b a0 a16 hb hbs andB_all anDst_all flB_any andB_all andB_all anSrc_all andB_all orB_all hf0 hf1).mono fun _ _ B => B.more (by omega)
end
theorem uSets : Tryz.prog.underlying 82 = some (.array 10 80) := by kernel_rfl
theorem iSets : (Tryz.prog.info? 82).map (·.size) = some 40 := by kernel_rfl
theorem iSets' {c : Array Value} (h : c.size = 40) : (Tryz.prog.info? 82).map (·.size) = some c.size := by rw [h]; exact iSets
abbrev zeros40 : Array Value := #[.int .i64 0, .int .i64 0, .int .i64 0, .int .i64 0, .int .i64 0, .int .i64 0, .int .i64 0, .int .i64 0, .int .i64 0, .int .i64 0, .int .i64 0, .int .i64 0, .int .i64 0, .int .i64 0, .int .i64 0, .int .i64 0, .int .i64 0, .int .i64 0, .int .i64 0, .int .i64 0, .int .i64 0, .int .i64 0, .int .i64 0, .int .i64 0, .int .i64 0, .int .i64 0, .int .i64 0, .int .i64 0, .int .i64 0, .int .i64 0, .int .i64 0, .int .i64 0, .int .i64 0, .int .i64 0, .int .i64 0, .int .i64 0, .int .i64 0, .int .i64 0, .int .i64 0, .int .i64 0]
section
variable {bR R MR most : Nat} {nsR : List Nd} {w : World}
theorem widen_any (hR : Ar bR R MR 14 most w nsR) (d : Dv) (hd : devC d = 0) {Ab A At : Option Addr} {nb cb n cap nt ct : Nat} (hb : SlAt w.heap.size w 1 IsI (.slice Ab nb cb) d.backs) (hr : SlAt w.heap.size w 5 IsRule (.slice A n cap) d.rules) (ht : SlAt w.heap.size w 3 IsRoute (.slice At nt ct) d.routes) (pt : Int) {set f0 f1 f2 f3 : Nat} (hs : set < nsR.length) (l0 : f0 < nsR.length) (l1 : f1 < nsR.length) (l2 : f2 < nsR.length) (l3 : f3 < nsR.length) :
  Calls Tryz.prog 51 #[.pointer (some ⟨R, 0, none⟩), .int .i64 (set : Int), .agg #[.string d.name, .int .i64 d.kind, .int .i64 d.addr, .int .u8 (d.pool : Int), .slice Ab nb cb, .slice A n cap, .slice At nt ct], .int .i64 pt, .agg #[.int .i64 (f0 : Int), .int .i64 (f1 : Int), .int .i64 (f2 : Int), .int .i64 (f3 : Int)]] w fun e w' => ∃ (ns' : List Nd) (v er : Int), e = .returned (.tuple #[.int .i64 v, .int .i64 er]) ∧ Ar bR R MR 14 most w' ns' ∧ Kp (ca bR R MR 14 most) w w' ∧ Ext nsR ns' ∧ Hid ((er = 0 ∧ ∃ f : Nat, v = (f : Int) ∧ f < ns'.length ∧ ∀ x, ev ns' f x = (ev nsR set x || sendF d pt (ev nsR f0) (ev nsR f1) (ev nsR f2) (ev nsR f3) x)) ∨ (er = 6 ∧ v = 0)) := by
 refine (widen_w hR (fun _ => true) (fun _ => true) hs l0 l1 l2 l3 (DepS.all _) (DepS.all _) (DepS.all _) (DepS.all _) (DepS.all _) (DepS.all _) (gS := 1000000) (gO := 16383) (ψ := sendF d pt (ev nsR f0) (ev nsR f1) (ev nsR f2) (ev nsR f3)) (fun base q a M w0 W ns er i0 i1 i2 i3 hbl hle b m0 m1 m2 m3 => ?_) (fun _ _ _ _ _ => orB_all)).mono fun e w' ⟨ns', v, er, h1, h2, h3, h4, _, h6⟩ => ⟨ns', v, er, h1, h2, h3, h4, ?_⟩
 ·exact send_any b d hd (SlAt.mono (SlAt.below hb hbl (fun _ _ _ h => h)) hle (fun _ _ _ h => h)) (SlAt.mono (SlAt.below hr hbl (fun _ _ _ h => h)) hle (fun _ _ _ h => h)) (SlAt.mono (SlAt.below ht hbl (fun _ _ _ h => h)) hle (fun _ _ _ h => h)) pt m0 m1 m2 m3
 ·rcases h6.out with h | ⟨a, b, _⟩
  ·exact Or.inl h
  ·exact Or.inr ⟨a, b⟩
end
def WidB (gW : Nat) (E : Prop) (d : Dv) (pt : Int) (χ φ0 φ1 φ2 φ3 : Env -> Bool) : Prop :=
 ∀ (bR R MR most : Nat) (nsR : List Nd) (w : World), Ar bR R MR 14 most w nsR -> ∀ (Ab A At : Option Addr) (nb cb n cap nt ct : Nat), SlAt w.heap.size w 1 IsI (.slice Ab nb cb) d.backs -> SlAt w.heap.size w 5 IsRule (.slice A n cap) d.rules -> SlAt w.heap.size w 3 IsRoute (.slice At nt ct) d.routes -> ∀ (set f0 f1 f2 f3 : Nat), set < nsR.length -> f0 < nsR.length -> f1 < nsR.length -> f2 < nsR.length -> f3 < nsR.length ->
   ev nsR set = χ -> ev nsR f0 = φ0 -> ev nsR f1 = φ1 -> ev nsR f2 = φ2 -> ev nsR f3 = φ3 ->
   Calls Tryz.prog 51 #[.pointer (some ⟨R, 0, none⟩), .int .i64 (set : Int), .agg #[.string d.name, .int .i64 d.kind, .int .i64 d.addr, .int .u8 (d.pool : Int), .slice Ab nb cb, .slice A n cap, .slice At nt ct], .int .i64 pt, .agg #[.int .i64 (f0 : Int), .int .i64 (f1 : Int), .int .i64 (f2 : Int), .int .i64 (f3 : Int)]] w fun e w' => ∃ (ns' : List Nd) (v er : Int), e = .returned (.tuple #[.int .i64 v, .int .i64 er]) ∧ Ar bR R MR 14 most w' ns' ∧ Kp (ca bR R MR 14 most) w w' ∧ Ext nsR ns' ∧ ns'.length <= nsR.length + gW ∧ Hid ((er = 0 ∧ ∃ f : Nat, v = (f : Int) ∧ f < ns'.length ∧ ∀ x, ev ns' f x = (χ x || sendF d pt φ0 φ1 φ2 φ3 x)) ∨ (er = 6 ∧ v = 0 ∧ (E ∨ most <= nsR.length + gW)))
theorem widB_any {d : Dv} (hd : devC d = 0) (pt : Int) (χ φ0 φ1 φ2 φ3 : Env -> Bool) : WidB 40000 True d pt χ φ0 φ1 φ2 φ3 := by
 intro bR R MR most nsR w hR Ab A At nb cb n cap nt ct hb hr ht set f0 f1 f2 f3 hs l0 l1 l2 l3 e0 e1 e2 e3 e4
 subst e0 e1 e2 e3 e4
 refine (widen_any hR d hd hb hr ht pt hs l0 l1 l2 l3).mono fun e w' ⟨ns', v, er, h1, h2, h3, h4, h5⟩ => ⟨ns', v, er, h1, h2, h3, h4, ?_, ?_⟩
 ·have := h2.le
  have := h2.most4
  omega
 ·rcases h5.out with h | ⟨h, h'⟩
  ·exact Or.inl h
  ·exact Or.inr ⟨h, h', Or.inl trivial⟩
theorem mul_step {a a' b g n : Nat} (h : a <= b + g * n) (h' : a' <= a + g) : a' <= b + g * (n + 1) := by rw [Nat.mul_succ]; omega
theorem mul_mono {a b g n m : Nat} (h : a <= b + g * n) (hn : n <= m) : a <= b + g * m := by
 have := Nat.mul_le_mul_left g hn
 omega
structure Gs (bR R MR most : Nat) (nsR : List Nd) (w : World) (u0 u1 : Value) (cw cn nx : Array Value) (ns : List Nd) (W : World) : Prop where
 ar : Ar bR R MR 14 most W ns
 ext : Ext nsR ns
 kp : Kp (ca bR R MR 14 most) w W
 bN : Bz W w.heap.size #[u0, u1] 25
 bw : Bz W (w.heap.size + 1) cw 82
 bo : Bz W (w.heap.size + 1 + 1) cn 82
 bz : Bz W (w.heap.size + 1 + 1 + 1) zeros40 82
 bx : Bz W (w.heap.size + 1 + 1 + 1 + 1) nx 82
section
variable {bR R MR most : Nat} {nsR ns ns' : List Nd} {w W W' : World} {u0 u1 : Value} {cw cn nx : Array Value}
theorem Gs.below (h : Gs bR R MR most nsR w u0 u1 cw cn nx ns W) (hb : Below W.heap.size W W') : Gs bR R MR most nsR w u0 u1 cw cn nx ns W' :=
 ⟨h.ar.below hb, h.ext, h.kp.trans (h.ar.kbelow hb), (hb.block _ h.bN.lt).trans h.bN, (hb.block _ h.bw.lt).trans h.bw, (hb.block _ h.bo.lt).trans h.bo, (hb.block _ h.bz.lt).trans h.bz, (hb.block _ h.bx.lt).trans h.bx⟩
theorem Gs.tf (h : Gs bR R MR most nsR w u0 u1 cw cn nx ns W) (k : Kp (ca bR R MR 14 most) W W') {i : Nat} {c : Array Value} {t : TypeId} (hb : Bz W i c t) (ht : okT t) : Bz W' i c t := ((h.ar.outBox hb ht.1 ht.2.1).kp k).blk
theorem Gs.step (h : Gs bR R MR most nsR w u0 u1 cw cn nx ns W) (A' : Ar bR R MR 14 most W' ns') (k : Kp (ca bR R MR 14 most) W W') (X : Ext ns ns') : Gs bR R MR most nsR w u0 u1 cw cn nx ns' W' :=
 ⟨A', h.ext.trans X, h.kp.trans k, h.tf k h.bN (by decide), h.tf k h.bw (by decide), h.tf k h.bo (by decide), h.tf k h.bz (by decide), h.tf k h.bx (by decide)⟩
theorem Gs.setx (h : Gs bR R MR most nsR w u0 u1 cw cn nx ns W) (j : Nat) (u : Value) : Gs bR R MR most nsR w u0 u1 cw cn (nx.setIfInBounds j u) ns (W.setCell ⟨w.heap.size + 1 + 1 + 1 + 1, j, none⟩ u) := by
 have hF : ∀ i, i ≠ w.heap.size + 1 + 1 + 1 + 1 -> (W.setCell ⟨w.heap.size + 1 + 1 + 1 + 1, j, none⟩ u).heap[i]? = W.heap[i]? := fun i hi => Below.heap_setCell W ⟨w.heap.size + 1 + 1 + 1 + 1, j, none⟩ u i hi
 have L := (h.ar.outBox h.bx (by decide) (by decide)).out
 have n1 : R ≠ w.heap.size + 1 + 1 + 1 + 1 := fun e => L.not (Or.inl e.symm)
 have n2 : MR ≠ w.heap.size + 1 + 1 + 1 + 1 := fun e => L.not (Or.inr (Or.inr (Or.inl e.symm)))
 have n3 : rowOf W R ≠ w.heap.size + 1 + 1 + 1 + 1 := fun e => L.ne e.symm
 have er : rowOf (W.setCell ⟨w.heap.size + 1 + 1 + 1 + 1, j, none⟩ u) R = rowOf W R := rowOf_same (hF R n1)
 refine ⟨h.ar.same (hF _ n1) (hF _ n2) (hF _ n3), h.ext, ⟨h.kp.os, h.kp.tape, h.kp.output, by simp [World.setCell]; exact h.kp.size, fun i hi hm hr => (hF i (by omega)).trans (h.kp.blk i hi hm hr), ?_, fun k hk => ?_⟩, (hF _ (by omega)).trans h.bN, (hF _ (by omega)).trans h.bw, (hF _ (by omega)).trans h.bo, (hF _ (by omega)).trans h.bz, h.bx.set (j := j) u⟩
 ·rw [show rowOf (W.setCell ⟨w.heap.size + 1 + 1 + 1 + 1, j, none⟩ u) (ca bR R MR 14 most).a = rowOf W (ca bR R MR 14 most).a from er]
  exact h.kp.row
 ·rw [<- h.kp.post k hk]
  exact cellB (hF R n1)
end
def SentBy (ds : List Dv) (ls : List Lk) (skip : Nat -> Prop) (F : Nat -> Nat -> Env -> Bool) (i q : Nat) (t : Int × Int) (x : Env) : Prop :=
 ∃ (i' q' : Nat) (d : Dv), (i' < i ∨ (i' = i ∧ q' < q)) ∧ ¬ skip i' ∧ ds[i']? = some d ∧ (q' : Int) < portsV d.kind ∧ peerF ls i' q' = some t ∧ sendF d q' (F i' 0) (F i' 1) (F i' 2) (F i' 3) x = true
structure GInv (ds : List Dv) (ls : List Lk) (skip : Nat -> Prop) (F : Nat -> Nat -> Env -> Bool) (i q : Nat) (ns : List Nd) (sx : Nat -> Nat -> Nat) : Prop where
 lt : ∀ a b, a < 10 -> b < 4 -> sx a b < ns.length
 fn : ∀ a b, a < 10 -> b < 4 -> ∀ x, (ev ns (sx a b) x = true ↔ F a b x = true ∨ SentBy ds ls skip F i q ((a : Int), (b : Int)) x)
section
variable {ds : List Dv} {ls : List Lk} {skip : Nat -> Prop} {F : Nat -> Nat -> Env -> Bool} {i q : Nat} {ns ns' : List Nd} {sx : Nat -> Nat -> Nat}
theorem ginv_same {i' q' : Nat} (h : GInv ds ls skip F i q ns sx) (hs : ∀ t x, SentBy ds ls skip F i q t x ↔ SentBy ds ls skip F i' q' t x) : GInv ds ls skip F i' q' ns sx := ⟨h.lt, fun a b ha hb x => (h.fn a b ha hb x).trans (or_congr Iff.rfl (hs _ x))⟩
theorem ginv_start (hl : ∀ a b, a < 10 -> b < 4 -> sx a b < ns.length) (hF : ∀ a b, a < 10 -> b < 4 -> ev ns (sx a b) = F a b) : GInv ds ls skip F 0 0 ns sx := ⟨hl, fun a b ha hb x => by
 rw [hF a b ha hb]
 refine ⟨Or.inl, fun h => h.resolve_right fun ⟨i', q', d, h1, _⟩ => by omega⟩⟩
theorem ginv_skip (h : GInv ds ls skip F i 0 ns sx) (hs : skip i) : GInv ds ls skip F (i + 1) 0 ns sx := ginv_same h fun t x => by
 constructor
 ·rintro ⟨i', q', d, h1, h2⟩
  exact ⟨i', q', d, by omega, h2⟩
 ·rintro ⟨i', q', d, h1, h2, h3⟩
  have hne : i' ≠ i := fun e => h2 (e ▸ hs)
  exact ⟨i', q', d, by omega, h2, h3⟩
theorem ginv_done (h : GInv ds ls skip F i q ns sx) {d : Dv} (hd : ds[i]? = some d) (hq : portsV d.kind <= (q : Int)) : GInv ds ls skip F (i + 1) 0 ns sx := ginv_same h fun t x => by
 constructor
 ·rintro ⟨i', q', d, h1, h2⟩
  exact ⟨i', q', d, by omega, h2⟩
 ·rintro ⟨i', q', d', h1, h2, h3, h4, h5⟩
  refine ⟨i', q', d', ?_, h2, h3, h4, h5⟩
  by_cases e : i' = i
  ·subst e
   rw [hd] at h3
   obtain rfl := Option.some.inj h3
   omega
  ·omega
theorem ginv_none (h : GInv ds ls skip F i q ns sx) (hp : peerF ls i q = none) : GInv ds ls skip F i (q + 1) ns sx := ginv_same h fun t x => by
 constructor
 ·rintro ⟨i', q', d, h1, h2⟩
  exact ⟨i', q', d, by omega, h2⟩
 ·rintro ⟨i', q', d', h1, h2, h3, h4, h5, h6⟩
  refine ⟨i', q', d', ?_, h2, h3, h4, h5, h6⟩
  by_cases e : i' = i ∧ q' = q
  ·obtain ⟨rfl, rfl⟩ := e
   rw [hp] at h5
   cases h5
  ·omega
def updS (sx : Nat -> Nat -> Nat) (a b f : Nat) : Nat -> Nat -> Nat := fun x y => if x = a ∧ y = b then f else sx x y
theorem ginv_put (h : GInv ds ls skip F i q ns sx) (hA : Apart ls) (hW : Wf 14 ns) (hW' : Wf 14 ns') (X : Ext ns ns') {d : Dv} (hd : ds[i]? = some d) (hq : (q : Int) < portsV d.kind) (hs : ¬ skip i) {a b f : Nat} (hp : peerF ls i q = some ((a : Int), (b : Int))) (hf : f < ns'.length) (hv : ∀ x, ev ns' f x = (F a b x || sendF d q (F i 0) (F i 1) (F i 2) (F i 3) x)) : GInv ds ls skip F i (q + 1) ns' (updS sx a b f) := by
 have hlen := X.len
 refine ⟨fun x y hx hy => ?_, fun x y hx hy e => ?_⟩
 ·unfold updS
  split
  ·exact hf
  ·have := h.lt x y hx hy
   omega
 ·unfold updS
  split
  ·rename_i hxy
   obtain ⟨rfl, rfl⟩ := hxy
   rw [hv e, Bool.or_eq_true]
   refine or_congr Iff.rfl ⟨fun hse => ⟨i, q, d, by omega, hs, hd, hq, hp, hse⟩, ?_⟩
   rintro ⟨i', q', d', _, _, h3, _, h5, h6⟩
   have e1 := peerF_back hA hp
   have e2 := peerF_back hA h5
   rw [e1] at e2
   simp only [Option.some.injEq, Prod.mk.injEq] at e2
   obtain ⟨e3, e4⟩ := e2
   obtain rfl : i = i' := by omega
   obtain rfl : q = q' := by omega
   rw [hd] at h3
   obtain rfl := Option.some.inj h3
   exact h6
  ·rename_i hxy
   rw [X.ev hW hW' _ (h.lt x y hx hy), h.fn x y hx hy e]
   refine or_congr Iff.rfl ⟨?_, ?_⟩
   ·rintro ⟨i', q', d, h1, h2⟩
    exact ⟨i', q', d, by omega, h2⟩
   ·rintro ⟨i', q', d', h1, h2, h3, h4, h5, h6⟩
    refine ⟨i', q', d', ?_, h2, h3, h4, h5, h6⟩
    by_cases e : i' = i ∧ q' = q
    ·obtain ⟨rfl, rfl⟩ := e
     rw [hp] at h5
     simp only [Option.some.injEq, Prod.mk.injEq] at h5
     exact absurd ⟨by omega, by omega⟩ hxy
    ·omega
theorem SetsV.upd {c : Array Value} (h : SetsV c sx) {a b f : Nat} (ha : a < 10) (hb : b < 4) : SetsV (c.setIfInBounds (a * 4 + b) (.int .i64 (f : Int))) (updS sx a b f) := by
 refine ⟨by rw [Array.size_setIfInBounds]; exact h.1, fun x y hx hy => ?_⟩
 rw [Array.getElem?_setIfInBounds]
 unfold updS
 by_cases e : x = a ∧ y = b
 ·obtain ⟨rfl, rfl⟩ := e
  rw [if_pos rfl, if_pos (by have := h.1; omega), if_pos ⟨rfl, rfl⟩]
 ·rw [if_neg (by omega), if_neg e]
  exact h.2 x y hx hy
end
end Go.Proofs.YtmcklkkkkigflaaGreat
namespace Go.Proofs.YtmcklkkkkigflaaGreat
open Go.RowKit
abbrev devA (nm : ByteArray) (k ad : Int) (pl : Nat) (vb vr vt : Value) : Value := .agg #[.string nm, .int .i64 k, .int .i64 ad, .int .u8 (pl : Int), vb, vr, vt]
abbrev lkA (a p b q : Int) : Value := .agg #[.int .i64 a, .int .i64 p, .int .i64 b, .int .i64 q]
abbrev plA (d p : Int) : Value := .agg #[.int .i64 d, .int .i64 p]
theorem nports_any (k : Int) (w : World) : Calls Tryz.prog 50 #[.int .i64 k] w fun e w' => e = .returned (.int .i64 (portsV k)) ∧ w' = w := by
 by_cases h1 : k = 1
 ·subst h1
  go_enter Tryz.func50, Tryz.ntmps50
  go_wp2_with fail
  go_ret
  exact ⟨rfl, rfl⟩
 by_cases h2 : k = 2
 ·subst h2
  go_enter Tryz.func50, Tryz.ntmps50
  go_wp2_with fail
  go_ret
  exact ⟨rfl, rfl⟩
 by_cases h3 : k = 3
 ·subst h3
  go_enter Tryz.func50, Tryz.ntmps50
  go_wp2_with fail
  go_ret
  exact ⟨rfl, rfl⟩
 by_cases h4 : k = 4
 ·subst h4
  go_enter Tryz.func50, Tryz.ntmps50
  go_wp2_with fail
  go_ret
  exact ⟨rfl, rfl⟩
 by_cases h5 : k = 5
 ·subst h5
  go_enter Tryz.func50, Tryz.ntmps50
  go_wp2_with fail
  go_ret
  exact ⟨rfl, rfl⟩
 have e : portsV k = 0 := by
  unfold portsV
  rw [if_neg h1, if_neg h2, if_neg (by omega)]
 rw [e]
 have g1 : (k == 1) = false := beq_eq_false_iff_ne.2 h1
 have g2 : (k == 2) = false := beq_eq_false_iff_ne.2 h2
 have g3 : (k == 3) = false := beq_eq_false_iff_ne.2 h3
 have g4 : (k == 4) = false := beq_eq_false_iff_ne.2 h4
 have g5 : (k == 5) = false := beq_eq_false_iff_ne.2 h5
 clear h1 h2 h3 h4 h5 e
 go_enter Tryz.func50, Tryz.ntmps50
 go_wp2_with fail
 go_ret
 exact ⟨rfl, rfl⟩
theorem from_any (a p b q : Int) (w : World) : Calls Tryz.prog 71 #[lkA a p b q] w fun e w' => e = .returned (plA a p) ∧ Below w.heap.size w w' := by
 go_enter Tryz.func71, Tryz.ntmps71
 go_wp2_with fail
 refine bodyPost_ret (v := plA a p) (by simp [results, Tryz.results71, go_sem]) rfl ⟨rfl, ?_⟩
 exact Below.alN (Below.alN (Below.refl _ _) _) _
theorem to_any (a p b q : Int) (w : World) : Calls Tryz.prog 72 #[lkA a p b q] w fun e w' => e = .returned (plA b q) ∧ Below w.heap.size w w' := by
 go_enter Tryz.func72, Tryz.ntmps72
 go_wp2_with fail
 refine bodyPost_ret (v := plA b q) (by simp [results, Tryz.results72, go_sem]) rfl ⟨rfl, ?_⟩
 exact Below.alN (Below.alN (Below.refl _ _) _) _
theorem hasAddr_any (k : Int) (w : World) : Calls Tryz.prog 95 #[.int .i64 k] w fun e w' => e = .returned (.bool (hasAddr k)) ∧ w' = w := by
 unfold hasAddr
 cases h1 : (k == 1)
 ·cases h4 : (k == 4)
  ·go_enter Tryz.func95, Tryz.ntmps95
   go_wp2_with fail
   go_ret
   exact ⟨by simp, rfl⟩
  ·go_enter Tryz.func95, Tryz.ntmps95
   go_wp2_with fail
   go_ret
   exact ⟨by simp, rfl⟩
 ·go_enter Tryz.func95, Tryz.ntmps95
  go_wp2_with fail
  go_ret
  exact ⟨by simp, rfl⟩
def addrB (n : Int) : Bool := decide (0 <= n) && decide (n < 16)
theorem isAddr_any (n : Int) (w : World) : Calls Tryz.prog 96 #[.int .i64 n] w fun e w' => e = .returned (.bool (addrB n)) ∧ w' = w := by
 unfold addrB
 cases h1 : decide (0 <= n)
 ·go_enter Tryz.func96, Tryz.ntmps96
  go_wp2_with fail
  go_ret
  exact ⟨by simp, rfl⟩
 ·go_enter Tryz.func96, Tryz.ntmps96
  go_wp2_with fail
  go_ret
  exact ⟨by simp, rfl⟩
def addrF (k ad : Int) : Bool := if hasAddr k then addrB ad else ad == 0
theorem addrFits_any (nm : ByteArray) (k ad : Int) (pl : Nat) (vb vr vt : Value) (w : World) : Calls Tryz.prog 65 #[devA nm k ad pl vb vr vt] w fun e w' => e = .returned (.bool (addrF k ad)) ∧ Below w.heap.size w w' := by
 have D0 := Below.alN (Below.refl w.heap.size w) (.cells #[.string nm, .int .i64 k, .int .i64 ad, .int .u8 (pl : Int), vb, vr, vt] 91)
 have HA : Hid (∀ w, Calls Tryz.prog 95 #[.int .i64 k] w fun e w' => e = .returned (.bool (hasAddr k)) ∧ w' = w) := fun w => hasAddr_any k w
 have IA : Hid (∀ w, Calls Tryz.prog 96 #[.int .i64 ad] w fun e w' => e = .returned (.bool (addrB ad)) ∧ w' = w) := fun w => isAddr_any ad w
 unfold addrF
 generalize hasAddr k = x at *
 generalize addrB ad = y at *
 cases x
 ·go_enter Tryz.func65, Tryz.ntmps65
  go_wp2_with fail
  refine (HA.out _).mono ?_
  rintro e w1 ⟨rfl, rfl⟩
  go_wp2_with fail
  go_ret
  exact ⟨rfl, D0⟩
 ·go_enter Tryz.func65, Tryz.ntmps65
  go_wp2_with fail
  refine (HA.out _).mono ?_
  rintro e w1 ⟨rfl, rfl⟩
  go_wp2_with fail
  refine (IA.out _).mono ?_
  rintro e w1 ⟨rfl, rfl⟩
  go_wp2_with fail
  go_ret
  exact ⟨rfl, D0⟩
def poolF (k : Int) (pl : Nat) : Bool := (!((pl : Int) == 0)) == (k == 4)
theorem poolFits_any (nm : ByteArray) (k ad : Int) (pl : Nat) (vb vr vt : Value) (w : World) : Calls Tryz.prog 66 #[devA nm k ad pl vb vr vt] w fun e w' => e = .returned (.bool (poolF k pl)) ∧ Below w.heap.size w w' := by
 have D0 := Below.alN (Below.refl w.heap.size w) (.cells #[.string nm, .int .i64 k, .int .i64 ad, .int .u8 (pl : Int), vb, vr, vt] 91)
 unfold poolF
 cases h1 : ((pl : Int) == 0) <;> cases h2 : (k == 4)
 all_goals
  go_enter Tryz.func66, Tryz.ntmps66
  go_wp2_with fail
  go_ret
  exact ⟨by first | rfl | (simp; simpa using h1) | simp, D0⟩
def listsF (k : Int) (nr nt : Nat) : Bool := ((k == 2) || (k == 3) || decide (nr = 0)) && ((k == 2) || decide (nt = 0))
theorem listsFit_any (nm : ByteArray) (k ad : Int) (pl : Nat) (vb : Value) (Ar At : Option Addr) (nr cr nt ct : Nat) (w : World) : Calls Tryz.prog 68 #[devA nm k ad pl vb (.slice Ar nr cr) (.slice At nt ct)] w fun e w' => e = .returned (.bool (listsF k nr nt)) ∧ Below w.heap.size w w' := by
 have D0 := Below.alN (Below.refl w.heap.size w) (.cells #[.string nm, .int .i64 k, .int .i64 ad, .int .u8 (pl : Int), vb, .slice Ar nr cr, .slice At nt ct] 91)
 unfold listsF
 have er : decide (nr = 0) = ((nr : Int) == 0) := by rw [Bool.eq_iff_iff]; simp
 have et : decide (nt = 0) = ((nt : Int) == 0) := by rw [Bool.eq_iff_iff]; simp
 rw [er, et]
 clear er et
 cases h2 : (k == 2) <;> cases h3 : (k == 3) <;> cases hr : ((nr : Int) == 0) <;> cases ht : ((nt : Int) == 0)
 all_goals
  go_enter Tryz.func68, Tryz.ntmps68
  go_wp2_with fail
  go_ret
  exact ⟨by first | rfl | simp, D0⟩
theorem aclCheck_any (A : Option Addr) (n cap : Nat) (w : World) : Calls Tryz.prog 7 #[.slice A n cap] w fun e w' => e = .returned (.int .i64 (if 8 < n then 2 else 0)) ∧ w' = w := by
 by_cases h : 8 < n
 ·have t : decide ((8 : Int) < (n : Int)) = true := by simp; omega
  rw [if_pos h]
  go_enter Tryz.func7, Tryz.ntmps7
  go_wp2_with fail
  go_ret
  exact ⟨rfl, rfl⟩
 ·have t : decide ((8 : Int) < (n : Int)) = false := by simp; omega
  rw [if_neg h]
  go_enter Tryz.func7, Tryz.ntmps7
  go_wp2_with fail
  go_ret
  exact ⟨rfl, rfl⟩
theorem place_eq (a b c d : Int) (w : World) : (binOp .eql 54 (plA a b) (plA c d)).run Tryz.prog w = .ok (.bool ((a == c) && (b == d))) w := by
 cases h1 : (a == c) <;> cases h2 : (b == d)
 all_goals simp [go_sem, Tryz.underlying54, Tryz.underlying3, h1, h2]
theorem Box2.drew {w : World} {n : Nat} {x y : Value} (h : Box2 w n x y) : Box2 w.drew n x y := h
def Lk4 (w : World) (n : Nat) (a b c d : Value) : Prop := n < w.heap.size ∧ w.cell? ⟨n, 0, none⟩ = some a ∧ w.cell? ⟨n, 1, none⟩ = some b ∧ w.cell? ⟨n, 2, none⟩ = some c ∧ w.cell? ⟨n, 3, none⟩ = some d
theorem lk4_new (w : World) (a b c d : Value) (t : TypeId) : Lk4 (w.alloc (.cells #[a, b, c, d] t)) w.heap.size a b c d := ⟨by simp, by simp [go_sem], by simp [go_sem], by simp [go_sem], by simp [go_sem]⟩
theorem Lk4.below {B : Nat} {W w' : World} {n : Nat} {a b c d : Value} (h : Lk4 W n a b c d) (hb : Below B W w') (hB : n < B) : Lk4 w' n a b c d := by
 obtain ⟨h0, h1, h2, h3, h4⟩ := h
 exact ⟨Nat.lt_of_lt_of_le h0 hb.size, (hb.cell (p := ⟨n, 0, none⟩) hB).trans h1, (hb.cell (p := ⟨n, 1, none⟩) hB).trans h2, (hb.cell (p := ⟨n, 2, none⟩) hB).trans h3, (hb.cell (p := ⟨n, 3, none⟩) hB).trans h4⟩
theorem Lk4.alloc {w : World} {n : Nat} {a b c d : Value} (h : Lk4 w n a b c d) (o : Obj) : Lk4 (w.alloc o) n a b c d := h.below ((Below.refl _ _).alloc (Nat.le_refl _) o) h.1
theorem Lk4.drew {w : World} {n : Nat} {a b c d : Value} (h : Lk4 w n a b c d) : Lk4 w.drew n a b c d := h
theorem peer_any (vd : Value) (A : Option Addr) (n cap : Nat) (ls : List Lk) (d p : Int) (w : World) (hL : Hid (Links w.heap.size w (.slice A n cap) ls)) :
  Calls Tryz.prog 48 #[.agg #[vd, .slice A n cap], plA d p] w fun e w' => e = .returned (.tuple #[placeV (peerF ls d p), .bool (peerF ls d p).isSome]) ∧ Below w.heap.size w w' := by
 obtain ⟨rfl, hc, hm⟩ := hL.out.len
 unfold maxLen at hm
 have D1 := Below.alN (Below.refl w.heap.size w) (.cells #[vd, .slice A ls.length cap] 25)
 have D2 := Below.alN D1 (.cells #[.int .i64 d, .int .i64 p] 54)
 have D3 := Below.alN D2 (.cells #[.int .i64 0, .int .i64 0] 54)
 have B1 := ((box2_new w vd (.slice A ls.length cap) 25).alloc (.cells #[.int .i64 d, .int .i64 p] 54)).alloc (.cells #[.int .i64 0, .int .i64 0] 54)
 have B2 := (box2_new (w.alloc (.cells #[vd, .slice A ls.length cap] 25)) (.int .i64 d) (.int .i64 p) 54).alloc (.cells #[.int .i64 0, .int .i64 0] 54)
 have B3 := box2_new ((w.alloc (.cells #[vd, .slice A ls.length cap] 25)).alloc (.cells #[.int .i64 d, .int .i64 p] 54)) (.int .i64 0) (.int .i64 0) 54
 simp only [World.size_alloc] at B2 B3
 go_enter Tryz.func48, Tryz.ntmps48
 go_wp2_with fail
 go_loopw [11] (fun i wr => ∃ k : Nat, i = .int .i64 (k : Int) ∧ k <= ls.length ∧ Below w.heap.size w wr ∧ Box2 wr w.heap.size vd (.slice A ls.length cap) ∧ Box2 wr (w.heap.size + 1) (.int .i64 d) (.int .i64 p) ∧ Box2 wr (w.heap.size + 1 + 1) (.int .i64 0) (.int .i64 0) ∧ Hid (peerF ls d p = peerF (ls.drop k) d p)) (fun i _ => ls.length - (intOf i).toNat)
 case atStart => exact ⟨0, rfl, by omega, D3, B1, B2, B3, rfl⟩
 case round =>
  clear B1 B2 B3 D1 D2 D3
  obtain ⟨k, rfl, hk, D1, B1, B2, B3, hl⟩ := hrel
  obtain ⟨n1, e0, e1, _⟩ := id B1
  by_cases hlt : k < ls.length
  ·obtain ⟨l, hlk⟩ : ∃ l, ls[k]? = some l := ⟨_, List.getElem?_eq_getElem hlt⟩
   obtain ⟨b, o, rfl, hb, c0, c1, c2, c3⟩ := (hL.out.below D1).at hlk
   have Hd : Hid (peerF (ls.drop k) d p = (endOf l d p).or (peerF (ls.drop (k + 1)) d p)) := peerF_drop hlk d p
   have D2 := Below.alN D1 (.cells #[.int .i64 l.a, .int .i64 l.p, .int .i64 l.b, .int .i64 l.q] 135)
   have E1 := B1.alloc (.cells #[.int .i64 l.a, .int .i64 l.p, .int .i64 l.b, .int .i64 l.q] 135)
   have E2 := B2.alloc (.cells #[.int .i64 l.a, .int .i64 l.p, .int .i64 l.b, .int .i64 l.q] 135)
   have E3 := B3.alloc (.cells #[.int .i64 l.a, .int .i64 l.p, .int .i64 l.b, .int .i64 l.q] 135)
   have k1 : (0 : Int) <= (k : Int) := by omega
   have k2 : (k : Int) < (ls.length : Int) := by omega
   have lw := D1.size
   have FR : Hid (∀ w, Calls Tryz.prog 71 #[lkA l.a l.p l.b l.q] w fun e w' => e = .returned (plA l.a l.p) ∧ Below w.heap.size w w') := fun w => from_any _ _ _ _ w
   have TO : Hid (∀ w, Calls Tryz.prog 72 #[lkA l.a l.p l.b l.q] w fun e w' => e = .returned (plA l.b l.q) ∧ Below w.heap.size w w') := fun w => to_any _ _ _ _ w
   unfold endOf at Hd
   clear hlk hL
   generalize l.a = la at *
   generalize l.p = lp at *
   generalize l.b = lb at *
   generalize l.q = lq at *
   have L0 := lk4_new wr (.int .i64 la) (.int .i64 lp) (.int .i64 lb) (.int .i64 lq) 135
   obtain ⟨n2, f0, f1, f2, f3⟩ := id E2
   have P1 := fun w => place_eq la lp d p w
   have P2 := fun w => place_eq lb lq d p w
   generalize ((la == d) && (lp == p)) = x0 at *
   generalize ((lb == d) && (lq == p)) = x1 at *
   go_wp2_with fail
   go_region_held3 (fun w' => w'.cell? ⟨wr.heap.size, 0, none⟩ = some (.int .i64 la) ∧ w'.cell? ⟨wr.heap.size, 1, none⟩ = some (.int .i64 lp) ∧ w'.cell? ⟨wr.heap.size, 2, none⟩ = some (.int .i64 lb) ∧ w'.cell? ⟨wr.heap.size, 3, none⟩ = some (.int .i64 lq) ∧ w'.cell? ⟨w.heap.size + 1, 0, none⟩ = some (.int .i64 d) ∧ w'.cell? ⟨w.heap.size + 1, 1, none⟩ = some (.int .i64 p)) (go_keep) ((go_at_call 71; refine (FR.out _).mono ?_; rintro e w2 ⟨rfl, hb2⟩; have D3 := chnN hb2 D2.drew; have G1 := E1.drew.below hb2 E1.1; have G2 := E2.drew.below hb2 E2.1; have G3 := E3.drew.below hb2 E3.1; have G4 := L0.drew.below hb2 L0.1; obtain ⟨_, g0, g1, _⟩ := id G2; obtain ⟨_, g2, g3, g4, g5⟩ := id G4))
   clear E1 E2 E3 L0 f0 f1 f2 f3 c0 c1 c2 c3 e0 e1
   cases x0
   ·go_wp2_with fail
    go_region_held3 (fun w' => w'.cell? ⟨wr.heap.size, 0, none⟩ = some (.int .i64 la) ∧ w'.cell? ⟨wr.heap.size, 1, none⟩ = some (.int .i64 lp) ∧ w'.cell? ⟨wr.heap.size, 2, none⟩ = some (.int .i64 lb) ∧ w'.cell? ⟨wr.heap.size, 3, none⟩ = some (.int .i64 lq) ∧ w'.cell? ⟨w.heap.size + 1, 0, none⟩ = some (.int .i64 d) ∧ w'.cell? ⟨w.heap.size + 1, 1, none⟩ = some (.int .i64 p)) (go_keep) ((go_at_call 72; refine (TO.out _).mono ?_; rintro e w3 ⟨rfl, hb3⟩; have D4 := chnN hb3 D3.drew; have J1 := G1.drew.below hb3 G1.1; have J2 := G2.drew.below hb3 G2.1; have J3 := G3.drew.below hb3 G3.1; have J4 := G4.drew.below hb3 G4.1; obtain ⟨_, j0, j1, _⟩ := id J2; obtain ⟨_, j2, j3, j4, j5⟩ := id J4))
    clear g0 g1 g2 g3 g4 g5 G1 G2 G3 G4
    cases x1
    ·have Hn : Hid (peerF ls d p = peerF (ls.drop (k + 1)) d p) := by show _ = _; rw [hl.out, Hd.out]; rfl
     go_wp2_with fail
     go_roundw
     case rel => exact ⟨k + 1, by go_num, by omega, D4, J1, J2, J3, Hn⟩
     case measure => simp [intOf]; omega
    ·have Hn : Hid (peerF ls d p = some (la, lp)) := by show _ = _; rw [hl.out, Hd.out]; rfl
     clear hl Hd
     go_wp2_with fail
     refine (FR.out _).mono ?_
     rintro e w4 ⟨rfl, hb4⟩
     have D5 := chnN hb4 D4
     have K3 := J3.below hb4 J3.1
     obtain ⟨n3, g0, g1, g2, g3⟩ := id K3
     clear J1 J2 J3 J4 hb4
     go_wp2_with fail
     refine bodyPost_ret (v := .tuple #[.agg #[.int .i64 la, .int .i64 lp], .bool true]) (by simp [results, Tryz.results48, go_sem, g0, g1]) rfl ⟨by rw [Hn.out]; rfl, ?_⟩
     exact (D5.setCell (by simp; omega) _).setCell (by simp; omega) _
   ·have Hn : Hid (peerF ls d p = some (lb, lq)) := by show _ = _; rw [hl.out, Hd.out]; rfl
    clear hl Hd
    go_wp2_with fail
    refine (TO.out _).mono ?_
    rintro e w4 ⟨rfl, hb4⟩
    have D5 := chnN hb4 D3
    have K3 := G3.below hb4 G3.1
    clear g0 g1 g2 g3 g4 g5 G1 G2 G3 G4 hb4
    obtain ⟨n3, g0, g1, g2, g3⟩ := id K3
    go_wp2_with fail
    refine bodyPost_ret (v := .tuple #[.agg #[.int .i64 lb, .int .i64 lq], .bool true]) (by simp [results, Tryz.results48, go_sem, g0, g1]) rfl ⟨by rw [Hn.out]; rfl, ?_⟩
    exact (D5.setCell (by simp; omega) _).setCell (by simp; omega) _
  ·have Hn : Hid (peerF ls d p = none) := by show _ = _; rw [hl.out, List.drop_eq_nil_of_le (by omega)]; rfl
   obtain ⟨n3, g0, g1, g2, g3⟩ := id B3
   go_wp2_with fail
   refine bodyPost_ret (v := .tuple #[.agg #[.int .i64 0, .int .i64 0], .bool false]) (by simp [results, Tryz.results48, go_sem, g0, g1]) rfl ⟨by rw [Hn.out]; rfl, ?_⟩
   exact (D1.setCell (by simp; omega) _).setCell (by simp; omega) _
theorem all_dropN (s : ByteArray) (k : Nat) (h : k < s.size) : (s.data.toList.drop k).all nameB = (nameB s[k] && (s.data.toList.drop (k + 1)).all nameB) := by
 rw [List.drop_eq_getElem_cons (by rw [<- Lib.size_eq]; exact h), List.all_cons]
 rfl
theorem isName_loop (s : ByteArray) (w : World) (h1 : 1 <= s.size) (h8 : s.size <= 8) (res : Bool) (hres : Hid (s.data.toList.all nameB = res)) :
  Calls Tryz.prog 63 #[.string s] w fun e w' => e = .returned (.bool res) ∧ w' = w := by
 have t1 : decide ((s.size : Int) < 1) = false := by simp; omega
 have t8 : decide ((8 : Int) < (s.size : Int)) = false := by simp; omega
 go_enter Tryz.func63, Tryz.ntmps63
 go_wp2_with fail
 go_loop [16] (fun i => ∃ k : Nat, k <= s.size ∧ i = .int .i64 k ∧ Hid ((s.data.toList.drop k).all nameB = res)) (fun i => s.size - (intOf i).toNat)
 case atStart => exact ⟨0, by omega, rfl, hres⟩
 case round =>
  obtain ⟨k, hk, rfl, HD⟩ := hrel
  by_cases hlt : k < s.size
  ·have HS : Hid ((s.data.toList.drop k).all nameB = (nameB s[k] && (s.data.toList.drop (k + 1)).all nameB)) := all_dropN s k hlt
   have HN : Hid (nameB s[k] = ((decide (97 <= (s[k].toNat : Int)) && decide ((s[k].toNat : Int) <= 122)) || (decide (48 <= (s[k].toNat : Int)) && decide ((s[k].toNat : Int) <= 57)))) := rfl
   cases a1 : decide (97 <= (s[k].toNat : Int)) <;> cases a2 : decide ((s[k].toNat : Int) <= 122) <;> cases a3 : decide (48 <= (s[k].toNat : Int)) <;> cases a4 : decide ((s[k].toNat : Int) <= 57)
   all_goals
    rw [a1, a2, a3, a4] at HN
    first
     | (have HV : Hid ((s.data.toList.drop (k + 1)).all nameB = res) := by
         show _ = _
         rw [<- HD.out, HS.out, HN.out]
         rfl
        clear HN HS HD
        go_wp2_with fail
        go_round
        case rel => exact ⟨k + 1, by omega, congrArg (Value.int .i64) (by omega), HV⟩
        case measure => simp [intOf]; omega)
     | (have HV : Hid (res = false) := by
         show _ = _
         rw [<- HD.out, HS.out, HN.out]
         rfl
        clear HN HS HD
        go_wp2_with fail
        go_ret
        exact ⟨by rw [HV.out]; rfl, rfl⟩)
  ·have HV : Hid (res = true) := by
    show _ = _
    rw [<- HD.out, List.drop_eq_nil_of_le (by rw [<- Lib.size_eq]; omega)]
    rfl
   go_wp2_with fail
   go_ret
   exact ⟨by rw [HV.out]; rfl, rfl⟩
theorem isName_any (s : ByteArray) (w : World) : Calls Tryz.prog 63 #[.string s] w fun e w' => e = .returned (.bool (nameOk s)) ∧ w' = w := by
 unfold nameOk
 by_cases h1 : 1 <= s.size
 ·by_cases h8 : s.size <= 8
  ·simp only [h1, h8, decide_true, Bool.true_and]
   exact isName_loop s w h1 h8 _ rfl
  ·simp only [h1, h8, decide_true, decide_false, Bool.and_false, Bool.false_and]
   have t1 : decide ((s.size : Int) < 1) = false := by simp; omega
   have t8 : decide ((8 : Int) < (s.size : Int)) = true := by simp; omega
   go_enter Tryz.func63, Tryz.ntmps63
   go_wp2_with fail
   go_ret
   exact ⟨rfl, rfl⟩
 ·simp only [h1, decide_false, Bool.false_and]
  have t1 : decide ((s.size : Int) < 1) = true := by simp; omega
  go_enter Tryz.func63, Tryz.ntmps63
  go_wp2_with fail
  go_ret
  exact ⟨rfl, rfl⟩
def findFrom (ds : List Dv) (s : List UInt8) (k : Nat) : Int :=
 if h : k < ds.length then (if ds[k].name.toList == s then (k : Int) else findFrom ds s (k + 1)) else -1
termination_by ds.length - k
theorem findFrom_at {ds : List Dv} {s : List UInt8} {k : Nat} {d : Dv} (h : ds[k]? = some d) : findFrom ds s k = if d.name.toList == s then (k : Int) else findFrom ds s (k + 1) := by
 obtain ⟨hk, e⟩ := List.getElem?_eq_some_iff.1 h
 rw [findFrom, dif_pos hk, e]
theorem findFrom_end {ds : List Dv} {s : List UInt8} {k : Nat} (h : ds.length <= k) : findFrom ds s k = -1 := by rw [findFrom, dif_neg (by omega)]
theorem findFrom_any (ds : List Dv) (s : List UInt8) : ∀ (m k : Nat), ds.length - k <= m -> decide (0 <= findFrom ds s k) = (ds.drop k).any (fun x => x.name.toList == s)
 | 0, k, h => by rw [findFrom_end (by omega), List.drop_eq_nil_of_le (by omega)]; rfl
 | m + 1, k, h => by
   by_cases hk : k < ds.length
   ·rw [findFrom_at (List.getElem?_eq_getElem hk), List.drop_eq_getElem_cons hk, List.any_cons, <- findFrom_any ds s m (k + 1) (by omega)]
    cases e : (ds[k].name.toList == s)
    ·simp
    ·simp
   ·rw [findFrom_end (by omega), List.drop_eq_nil_of_le (by omega)]; rfl
theorem findFrom_some (ds : List Dv) (s : List UInt8) : decide (0 <= findFrom ds s 0) = ds.any (fun x => x.name.toList == s) := findFrom_any ds s ds.length 0 (by omega)
theorem Devs.at {base : Nat} {w : World} {A : Option Addr} {n cap : Nat} {ds : List Dv} (h : Devs base w (.slice A n cap) ds) {k : Nat} {d : Dv} (hk : ds[k]? = some d) :
  ∃ b o vb vr vt, A = some ⟨b, o, none⟩ ∧ b < base ∧ SlAt base w 1 IsI vb d.backs ∧ SlAt base w 5 IsRule vr d.rules ∧ SlAt base w 3 IsRoute vt d.routes ∧
    w.cell? ⟨b, o + k * 7, none⟩ = some (.string d.name) ∧ w.cell? ⟨b, o + k * 7 + 1, none⟩ = some (.int .i64 d.kind) ∧ w.cell? ⟨b, o + k * 7 + 2, none⟩ = some (.int .i64 d.addr) ∧ w.cell? ⟨b, o + k * 7 + 3, none⟩ = some (.int .u8 (d.pool : Int)) ∧ w.cell? ⟨b, o + k * 7 + 4, none⟩ = some vb ∧ w.cell? ⟨b, o + k * 7 + 5, none⟩ = some vr ∧ w.cell? ⟨b, o + k * 7 + 6, none⟩ = some vt := by
 obtain ⟨A', cap', e, _, _, _, h3⟩ := h
 cases e
 obtain ⟨b, o, ea, hl, hr⟩ := h3 (fun e => by subst e; simp at hk)
 obtain ⟨cs, _, ⟨vb, vr, vt, rfl, s1, s2, s3⟩, hc⟩ := hr k d hk
 exact ⟨b, o, vb, vr, vt, ea, hl, s1, s2, s3, hc 0 _ rfl, hc 1 _ rfl, hc 2 _ rfl, hc 3 _ rfl, hc 4 _ rfl, hc 5 _ rfl, hc 6 _ rfl⟩
theorem Devs.len {base : Nat} {w : World} {A : Option Addr} {n cap : Nat} {ds : List Dv} (h : Devs base w (.slice A n cap) ds) : n = ds.length ∧ n <= cap ∧ cap <= maxLen := by
 obtain ⟨A', cap', e, _, h1, h2, _⟩ := h
 cases e
 exact ⟨rfl, h1, h2⟩
theorem SlAt.take {α : Type} {base : Nat} {w : World} {n : Nat} {R : List Value -> α -> Prop} {A : Option Addr} {m cap : Nat} {xs : List α} (h : SlAt base w n R (.slice A m cap) xs) (k : Nat) (hk : k <= xs.length) : SlAt base w n R (.slice A k cap) (xs.take k) := by
 obtain ⟨A', cap', e, h0, h1, h2, h3⟩ := h
 cases e
 refine ⟨A, cap, by rw [List.length_take, Nat.min_eq_left hk], h0, by rw [List.length_take]; omega, h2, fun hn => ?_⟩
 obtain ⟨b, o, ea, hl, hr⟩ := h3 (fun e => hn (by rw [e, List.take_nil]))
 refine ⟨b, o, ea, hl, fun j x hx => hr j x ?_⟩
 rw [List.getElem?_take] at hx
 split at hx
 ·exact hx
 ·cases hx
theorem find1_any (nm s : ByteArray) (k ad : Int) (pl : Nat) (vb vr vt : Value) (n0 : Nat) (w : World) (hn : n0 < w.heap.size) (hc : w.cell? ⟨n0, 0, none⟩ = some (.string s)) :
  Calls Tryz.prog 94 #[devA nm k ad pl vb vr vt, .pointer (some ⟨n0, 0, none⟩)] w fun e w' => e = .returned (.bool (nm.toList == s.toList)) ∧ Below w.heap.size w w' := by
 have D0 := Below.alN (Below.refl w.heap.size w) (.cells #[.string nm, .int .i64 k, .int .i64 ad, .int .u8 (pl : Int), vb, vr, vt] 91)
 have c1 : (w.alloc (.cells #[.string nm, .int .i64 k, .int .i64 ad, .int .u8 (pl : Int), vb, vr, vt] 91)).cell? ⟨n0, 0, none⟩ = some (.string s) := (D0.cell (p := ⟨n0, 0, none⟩) hn).trans hc
 go_enter Tryz.func94, Tryz.ntmps94
 go_wp2_with fail
 go_ret
 exact ⟨rfl, D0⟩
theorem findIdx_any (A : Option Addr) (n cap : Nat) (ds : List Dv) (s : ByteArray) (n0 : Nat) (w : World) (hD : Hid (Devs w.heap.size w (.slice A n cap) ds)) (hn0 : n0 < w.heap.size) (hc0 : Hid (w.cell? ⟨n0, 0, none⟩ = some (.string s))) :
  Calls Tryz.prog 31 #[.slice A n cap, .func (.func 94) #[] #[.pointer (some ⟨n0, 0, none⟩)]] w fun e w' => e = .returned (.int .i64 (findFrom ds s.toList 0)) ∧ Below w.heap.size w w' := by
 obtain ⟨rfl, hc, hm⟩ := hD.out.len
 unfold maxLen at hm
 generalize hres : findFrom ds s.toList 0 = res
 have HR : Hid (findFrom ds s.toList 0 = res) := hres
 clear hres
 go_enter Tryz.func31, Tryz.ntmps31
 go_wp2_with fail
 go_loopw [8] (fun i wr => ∃ k : Nat, i = .int .i64 (k : Int) ∧ k <= ds.length ∧ Below w.heap.size w wr ∧ Hid (findFrom ds s.toList k = res)) (fun i _ => ds.length - (intOf i).toNat)
 case atStart => exact ⟨0, rfl, by omega, Below.refl _ _, HR⟩
 case round =>
  obtain ⟨k, rfl, hk, D1, hno⟩ := hrel
  by_cases hlt : k < ds.length
  ·obtain ⟨d, hxk⟩ : ∃ d, ds[k]? = some d := ⟨_, List.getElem?_eq_getElem hlt⟩
   obtain ⟨b, o, vb, vr, vt, rfl, hb, _, _, _, c0, c1, c2, c3, c4, c5, c6⟩ := (hD.out.below D1).at hxk
   have PR : Hid (Calls Tryz.prog 94 #[devA d.name d.kind d.addr d.pool vb vr vt, .pointer (some ⟨n0, 0, none⟩)] wr fun e w' => e = .returned (.bool (d.name.toList == s.toList)) ∧ Below wr.heap.size wr w') := find1_any d.name s d.kind d.addr d.pool vb vr vt n0 wr (Nat.lt_of_lt_of_le hn0 D1.size) ((D1.cell (p := ⟨n0, 0, none⟩) hn0).trans hc0.out)
   have HF : Hid (findFrom ds s.toList k = if d.name.toList == s.toList then (k : Int) else findFrom ds s.toList (k + 1)) := findFrom_at hxk
   have k1 : (0 : Int) <= (k : Int) := by omega
   have k2 : (k : Int) < (ds.length : Int) := by omega
   clear hxk hD HR hc0
   generalize (d.name.toList == s.toList) = x at *
   generalize d.name = nm at *
   generalize d.kind = kd at *
   generalize d.addr = ad at *
   generalize d.pool = pl at *
   cases x
   ·have HV : Hid (findFrom ds s.toList (k + 1) = res) := by
     show _ = _
     rw [<- hno.out, HF.out]
     simp
    clear HF hno
    go_wp2_with fail
    refine PR.out.mono ?_
    rintro e w2 ⟨rfl, hb2⟩
    have D2 := chnN hb2 D1
    clear hb2 D1 c0 c1 c2 c3 c4 c5 c6 PR
    go_wp2_with fail
    go_roundw
    case rel => exact ⟨k + 1, by go_num, by omega, D2, HV⟩
    case measure => simp [intOf]; omega
   ·have HV : Hid (res = (k : Int)) := by
     show _ = _
     rw [<- hno.out, HF.out]
     simp
    clear HF hno
    go_wp2_with fail
    refine PR.out.mono ?_
    rintro e w2 ⟨rfl, hb2⟩
    have D2 := chnN hb2 D1
    clear hb2 D1 c0 c1 c2 c3 c4 c5 c6 PR
    go_wp2_with fail
    go_ret
    exact ⟨by rw [HV.out]; rfl, D2⟩
  ·have HV : Hid (res = -1) := by
    show _ = _
    rw [<- hno.out, findFrom_end (by omega)]
   go_wp2_with fail
   go_ret
   exact ⟨by rw [HV.out]; rfl, D1⟩
theorem find_any (A : Option Addr) (n cap : Nat) (ds : List Dv) (s : ByteArray) (w : World) (hD : Devs w.heap.size w (.slice A n cap) ds) :
  Calls Tryz.prog 64 #[.slice A n cap, .string s] w fun e w' => e = .returned (.tuple #[.int .i64 (if 0 <= findFrom ds s.toList 0 then findFrom ds s.toList 0 else 0), .bool (decide (0 <= findFrom ds s.toList 0))]) ∧ Below w.heap.size w w' := by
 have D0 := Below.alN (Below.refl w.heap.size w) (.cells #[.string s] 9)
 have FI : Hid (Calls Tryz.prog 31 #[.slice A n cap, .func (.func 94) #[] #[.pointer (some ⟨w.heap.size, 0, none⟩)]] (w.alloc (.cells #[.string s] 9)) fun e w' => e = .returned (.int .i64 (findFrom ds s.toList 0)) ∧ Below (w.alloc (.cells #[.string s] 9)).heap.size (w.alloc (.cells #[.string s] 9)) w') := findIdx_any A n cap ds s w.heap.size _ ((hD.below D0).mono D0.size) (by simp) (by show _ = _; simp [go_sem])
 clear hD
 generalize findFrom ds s.toList 0 = j at *
 cases h : decide (0 <= j)
 ·have h1 : ¬ 0 <= j := by simpa using h
  have h2 : j < 0 := by omega
  rw [if_neg h1]
  go_enter Tryz.func64, Tryz.ntmps64
  go_wp2_with fail
  refine FI.out.mono ?_
  rintro e w1 ⟨rfl, hb1⟩
  have D1 := chnN hb1 D0
  go_wp2_with fail
  go_ret2
  exact ⟨by simp, D1⟩
 ·have h1 : 0 <= j := by simpa using h
  rw [if_pos h1]
  go_enter Tryz.func64, Tryz.ntmps64
  go_wp2_with fail
  refine FI.out.mono ?_
  rintro e w1 ⟨rfl, hb1⟩
  have D1 := chnN hb1 D0
  go_wp2_with fail
  go_ret2
  exact ⟨by simp, D1⟩
end Go.Proofs.YtmcklkkkkigflaaGreat
namespace Go.Proofs.YtmcklkkkkigflaaGreat
open Go.RowKit Go.Maps
section
variable {bR R MR most : Nat} {nsR : List Nd} {w : World}
def GOut (gW : Nat) (E : Prop) (w : World) (bR R MR most : Nat) (nsR : List Nd) (ds : List Dv) (ls : List Lk) (skip : Nat -> Prop) (F : Nat -> Nat -> Env -> Bool) (e : Ending) (w' : World) : Prop :=
 ∃ (cx : Array Value) (er : Int) (ns : List Nd), e = .returned (.tuple #[.agg cx, .int .i64 er]) ∧ cx.size = 40 ∧ Ar bR R MR 14 most w' ns ∧ Kp (ca bR R MR 14 most) w w' ∧ Ext nsR ns ∧ (∀ i c t, Bz w i c t -> okT t -> Bz w' i c t) ∧ ns.length <= nsR.length + gW * (4 * ds.length) ∧
   Hid ((er = 0 ∧ ∃ sx, SetsV cx sx ∧ GInv ds ls skip F ds.length 0 ns sx) ∨ (er = 6 ∧ cx = zeros40 ∧ (E ∨ most <= nsR.length + gW * (4 * ds.length))))
theorem peer_pl {ds : List Dv} {ls : List Lk} (hz : netV ds ls = 0) {i q : Int} {t : Int × Int} (h : peerF ls i q = some t) : ∃ a b : Nat, t = ((a : Int), (b : Int)) ∧ a < 10 ∧ b < 4 := by
 obtain ⟨l, hl, he⟩ := peerF_of h
 obtain ⟨h10, _, _, hp⟩ := netV_links hz
 have hpl : isPl ds t.1 t.2 = true := by
  rcases endOf_ends he with ⟨_, rfl⟩ | ⟨_, rfl⟩
  ·exact (hp l hl).2
  ·exact (hp l hl).1
 unfold isPl at hpl
 simp only [Bool.and_eq_true, decide_eq_true_eq] at hpl
 have hb : portsV (kindAt ds t.1) <= 4 := by
  unfold portsV
  split
  ·omega
  split
  ·omega
  split <;> omega
 exact ⟨t.1.toNat, t.2.toNat, Prod.ext (by simp; omega) (by simp; omega), by omega, by omega⟩
theorem all_set {c : Array Value} {p : Value -> Bool} (h : c.all p = true) (j : Nat) {u : Value} (hu : p u = true) : (c.setIfInBounds j u).all p = true := by
 rw [Array.all_eq_true_iff_forall_mem] at h ⊢
 intro x hx
 rcases Array.mem_or_eq_of_mem_setIfInBounds hx with h' | h'
 ·exact h x h'
 ·rw [h']; exact hu
theorem zeros_one : zeros40.all (·.oneCell') = true := by
 first
  | decide
  | kernel_rfl
  | simp [zeros40, Value.oneCell']
theorem setRow_heap' (W : World) (g : Nat) (c c' : Array Value) (t : TypeId) (h : Bz W g c t) (i : Nat) : (W.setRow g c').heap[i]? = if g = i then some (.cells c' t (0, 0)) else W.heap[i]? := by
 simp only [World.setRow]
 rw [Array.getElem?_modify]
 by_cases e : g = i
 ·subst e
  unfold Bz at h
  rw [if_pos rfl, if_pos rfl, h]
  rfl
 ·rw [if_neg e, if_neg e]
theorem setRow_self {W : World} {g : Nat} {c : Array Value} {t : TypeId} (h : Bz W g c t) : W.setRow g c = W := by
 have e : (W.setRow g c).heap = W.heap := by
  apply Array.ext_getElem?
  intro i
  rw [setRow_heap' W g c c t h i]
  split
  ·rename_i e
   subst e
   exact h.symm
  ·rfl
 simp only [World.setRow] at e ⊢
 rw [e]
theorem ports_eq (a0 a1 a2 a3 b0 b1 b2 b3 : Int) (w : World) : (binOp .eql 80 (.agg #[.int .i64 a0, .int .i64 a1, .int .i64 a2, .int .i64 a3]) (.agg #[.int .i64 b0, .int .i64 b1, .int .i64 b2, .int .i64 b3])).run Tryz.prog w = .ok (.bool ((a0 == b0) && ((a1 == b1) && ((a2 == b2) && (a3 == b3))))) w := by
 obtain ⟨i, hi⟩ : ∃ i, Tryz.prog.info? 3 = some i := by
  have h : (Tryz.prog.info? 3).isSome = true := by kernel_rfl
  exact Option.isSome_iff_exists.1 h
 have nI : Tryz.prog.cellsOf 3 = 1 := by kernel_rfl
 rw [run_eql_struct, show (10000 : Nat) = 9998 + 1 + 1 from rfl, run_equalIn_array w (9998 + 1) _ _ Tryz.underlying80 hi, nI, show List.range 4 = [0, 1, 2, 3] from rfl]
 have p0 : ∀ (x0 x1 x2 x3 : Int) (w : World), (part 3 #[.int .i64 x0, .int .i64 x1, .int .i64 x2, .int .i64 x3] (0 * 1)).run Tryz.prog w = .ok (.int .i64 x0) w := fun _ _ _ _ _ => by kernel_rfl
 have p1 : ∀ (x0 x1 x2 x3 : Int) (w : World), (part 3 #[.int .i64 x0, .int .i64 x1, .int .i64 x2, .int .i64 x3] 1).run Tryz.prog w = .ok (.int .i64 x1) w := fun _ _ _ _ _ => by kernel_rfl
 have p2 : ∀ (x0 x1 x2 x3 : Int) (w : World), (part 3 #[.int .i64 x0, .int .i64 x1, .int .i64 x2, .int .i64 x3] 2).run Tryz.prog w = .ok (.int .i64 x2) w := fun _ _ _ _ _ => by kernel_rfl
 have p3 : ∀ (x0 x1 x2 x3 : Int) (w : World), (part 3 #[.int .i64 x0, .int .i64 x1, .int .i64 x2, .int .i64 x3] 3).run Tryz.prog w = .ok (.int .i64 x3) w := fun _ _ _ _ _ => by kernel_rfl
 have q : ∀ (x y : Int) (w : World), (Op.equalIn 9999 3 (.int .i64 x) (.int .i64 y)).run Tryz.prog w = .ok (x == y) w := fun x y w => run_equalIn_int w 9998 3 .i64 .i64 x y Tryz.underlying3
 simp only [Op.eqItems, Sem.run_bind, p0, Result.andThen_ok, q]
 cases h1 : (a0 == b0) <;> cases h2 : (a1 == b1) <;> cases h3 : (a2 == b2) <;> cases h4 : (a3 == b3) <;> simp [p1, p2, p3, q, h2, h3, h4]
end
end Go.Proofs.YtmcklkkkkigflaaGreat
