/-
  XAY.
-/
import Derived.Test.YtlmmeppifkigeaaGreatXAW
import Derived.Test.YtlmmeppifkigeaaGreatXAX
import Derived.Test.YtlmmeppifkigeaaGreatXAV
import Derived.Test.YtlmmeppifkigeaaGreatXAA
import Derived.Deep.WholeRow
import Derived.Test.YtlmmeppifkigeaaGreatXAB
import Derived.Deep.MidRow
import Derived.Deep.DeepCutAuto
import Derived.BigQuiet
import Derived.ChangeKeysEq
set_option maxHeartbeats 8000000
set_option maxRecDepth 100000
namespace Go.Proofs.YtlmmeppifkigeaaGreat
open Go.RowKit Go.Maps
theorem rules_ofD {base : Nat} {w : World} {v : Value} {xs : List NRule} (h : SlAt base w 5 IsRule v xs) : Rules base w v (xs.map fun r => ⟨r.ok, r.a, r.b, r.c, r.d, r.ha, r.hb, r.hc, r.hd⟩) := by
 obtain ⟨A, cap, rfl, h0, h1, h2, h3⟩ := h
 refine ⟨A, cap, by rw [List.length_map], h0, by rw [List.length_map]; exact h1, h2, fun hn => ?_⟩
 obtain ⟨b, o, ea, hl, hr⟩ := h3 (fun e => hn (by rw [e]; rfl))
 refine ⟨b, o, ea, hl, fun j u hj => ?_⟩
 have hjl := (List.getElem?_eq_some_iff.1 hj).1
 rw [cellsR_length, List.length_map] at hjl
 have hk : j / 5 < xs.length := by omega
 have hx : xs[j / 5]? = some xs[j / 5] := List.getElem?_eq_getElem hk
 obtain ⟨cs, _, rfl, hc⟩ := hr _ _ hx
 obtain ⟨c0, c1, c2, c3, c4⟩ := cellsR_at (xs.map fun r : NRule => (⟨r.ok, r.a, r.b, r.c, r.d, r.ha, r.hb, r.hc, r.hd⟩ : Rl)) (j / 5) _ (by rw [List.getElem?_map, hx]; rfl)
 have hm : j % 5 = 0 ∨ j % 5 = 1 ∨ j % 5 = 2 ∨ j % 5 = 3 ∨ j % 5 = 4 := by omega
 have eo : o + j = o + j / 5 * 5 + j % 5 := by omega
 rw [eo]
 rcases hm with hm | hm | hm | hm | hm
 ·rw [show j = j / 5 * 5 by omega, c0] at hj
  rw [hm, <- Option.some.inj hj]
  exact hc 0 _ rfl
 ·rw [show j = j / 5 * 5 + 1 by omega, c1] at hj
  rw [hm, <- Option.some.inj hj]
  exact hc 1 _ rfl
 ·rw [show j = j / 5 * 5 + 2 by omega, c2] at hj
  rw [hm, <- Option.some.inj hj]
  exact hc 2 _ rfl
 ·rw [show j = j / 5 * 5 + 3 by omega, c3] at hj
  rw [hm, <- Option.some.inj hj]
  exact hc 3 _ rfl
 ·rw [show j = j / 5 * 5 + 4 by omega, c4] at hj
  rw [hm, <- Option.some.inj hj]
  exact hc 4 _ rfl
def rulesD (d : Dv) : List Rl := d.rules.map fun r => ⟨r.ok, r.a, r.b, r.c, r.d, r.ha, r.hb, r.hc, r.hd⟩
def routesD (d : Dv) : List Rt := d.routes.map rtOf
theorem backs_in {bs : List Int} {ad : Int} : ∀ (m k : Nat), bs.length - k <= m -> backsFrom bs ad k ≠ 1 -> ∀ j x, k <= j -> bs[j]? = some x -> 0 <= x ∧ x < 16
 | 0, k, h, _, j, x, hj, hx => by
   have := (List.getElem?_eq_some_iff.1 hx).1
   omega
 | m + 1, k, h, h0, j, x, hj, hx => by
   have hjl := (List.getElem?_eq_some_iff.1 hx).1
   have hk : k < bs.length := by omega
   rw [backsFrom_at (List.getElem?_eq_getElem hk)] at h0
   split at h0
   ·rename_i hc
    by_cases e : j = k
    ·subst e
     rw [List.getElem?_eq_getElem hk] at hx
     obtain rfl := Option.some.inj hx
     simp only [Bool.and_eq_true, decide_eq_true_eq] at hc
     omega
    ·exact backs_in m (k + 1) (by omega) h0 j x (by omega) hx
   ·exact absurd rfl h0
theorem dev_right {d : Dv} (h : devC d = 0) : (1 <= d.kind ∧ d.kind <= 5) ∧ (0 <= d.addr ∧ d.addr < 16) ∧ (∀ x ∈ d.backs, 0 <= x ∧ x < 16) ∧ d.rules.length <= 8 ∧ checkV (routesD d) = 0 := by
 unfold devC devV at h
 split at h
 ·simp at h
 rename_i h1
 split at h
 ·simp at h
 rename_i h2
 split at h
 ·simp at h
 split at h
 ·simp at h
 split at h
 ·simp at h
 rename_i h5
 split at h
 ·simp at h
 split at h
 ·simp at h
 rename_i h8
 refine ⟨?_, ?_, fun x hx => ?_, by omega, h⟩
 ·simp at h1
  omega
 ·cases hk : hasAddr d.kind
  ·rw [hk] at h2
   simp at h2
   omega
  ·rw [hk] at h2
   simp at h2
   omega
 ·obtain ⟨j, hj, e⟩ := List.mem_iff_getElem.1 hx
  exact backs_in d.backs.length 0 (by omega) h5 j x (Nat.zero_le _) (by rw [List.getElem?_eq_getElem hj, e])
theorem andNot_u16 (z : Nat) : ∃ zc : Nat, zc < 65536 ∧ Go.bits .andNot .u16 65535 (z : Int) = (zc : Int) ∧ ∀ i, i < 16 -> zc.testBit i = !z.testBit i := by
 have e1 : BitVec.ofInt 16 (z : Int) = BitVec.ofNat 16 z := by simp
 refine ⟨(BitVec.ofNat 16 65535 &&& ~~~ BitVec.ofNat 16 z).toNat, BitVec.isLt _, ?_, fun i hi => ?_⟩
 ·show IntKind.u16.wrap (((BitVec.ofInt 16 65535 &&& ~~~ BitVec.ofInt 16 (z : Int)).toNat : Nat) : Int) = _
  have hlt := (BitVec.ofInt 16 65535 &&& ~~~ BitVec.ofInt 16 (z : Int)).isLt
  rw [IntWalk.u16_in _ ⟨by omega, by omega⟩, e1]
  rfl
 ·rw [BitVec.testBit_toNat, BitVec.getLsbD_and, BitVec.getLsbD_not, show BitVec.ofNat 16 65535 = BitVec.allOnes 16 by decide, BitVec.getLsbD_allOnes, BitVec.getLsbD_ofNat]
  simp [hi]
noncomputable def notN (z : Nat) : Nat := (andNot_u16 z).choose
theorem notN_spec (z : Nat) : notN z < 65536 ∧ Go.bits .andNot .u16 65535 (z : Int) = (notN z : Int) ∧ ∀ i, i < 16 -> (notN z).testBit i = !z.testBit i := (andNot_u16 z).choose_spec
noncomputable def sendF (d : Dv) (pt : Int) (φ0 φ1 φ2 φ3 : Env -> Bool) : Env -> Bool :=
 if d.kind = 2 then (fun x => (fun x => orP φ0 φ1 φ2 φ3 4 x && phi 65535 (sentN (routesD d) pt 16) 255 255 x) x && letsF (rulesD d) x)
 else if d.kind = 3 then (if pt = 1 then (fun x => φ0 x && letsF (rulesD d) x) else (fun x => φ1 x && flF (fun x => φ0 x && letsF (rulesD d) x) x))
 else if d.kind = 4 then (if pt = 1 then (fun x => anF (anF φ0 8 3) 0 4 x && (phi (setL [d.addr] 0) 65535 d.pool 255) x) else (fun x => anF (anF (fun x => φ1 x && (phi 65535 (setL [d.addr] 0) 255 d.pool) x) 11 3) 4 4 x && flF (anF (anF φ0 11 3) 4 4) x))
 else if d.kind = 5 then (if pt = 1 then (fun x => (fun x => φ0 x && phi 65535 (notN (setL [d.addr] 0)) 255 255 x) x || (fun x => anF (fun x => φ0 x && (phi 65535 (setL [d.addr] 0) 255 255) x) 4 4 x && (phi 65535 (setL d.backs 0) 255 255) x) x)
  else (fun x => φ1 x || (fun x => anF (fun x => φ1 x && (fun x => (phi (setL d.backs 0) 65535 255 255) x && flF (anF (fun x => φ0 x && (phi 65535 (setL [d.addr] 0) 255 255) x) 4 4) x) x) 0 4 x && (phi (setL [d.addr] 0) 65535 255 255) x) x))
 else (fun _ => false)
section
variable {base q a M : Nat} {w0 w : World} {ns : List Nd} {er : Int}
theorem all_le : 2 ^ cnS (fun _ => true) 14 0 - 1 <= 16383 := by
 have := cnS_le (S := fun _ => true) (vars := 14) 0
 have := Nat.pow_le_pow_right (n := 2) (by omega) this
 omega
theorem andB_all {φ ψ : Env -> Bool} : AndB base q a M w0 φ ψ 16383 := fun _ _ _ _ _ h hf hg => (and_b (fun _ => true) h hf hg (fun _ => ⟨DepS.all _, DepS.all _⟩)).mono fun _ _ B => B.more all_le
theorem orB_all {φ ψ : Env -> Bool} : OrB base q a M w0 φ ψ 16383 := fun _ _ _ _ _ h hf hg => (or_b (fun _ => true) h hf hg (fun _ => ⟨DepS.all _, DepS.all _⟩)).mono fun _ _ B => B.more all_le
theorem anSrc_all {φ : Env -> Bool} : AnB 145 base q a M w0 φ (anF φ 0 4) (4 * 16383) := fun _ _ _ _ h hf => anySrc_b h hf
theorem anDst_all {φ : Env -> Bool} : AnB 148 base q a M w0 φ (anF φ 4 4) (4 * 16383) := fun _ _ _ _ h hf => anyDst_b h hf
theorem anSport_all {φ : Env -> Bool} : AnB 146 base q a M w0 φ (anF φ 8 3) (3 * 16383) := fun _ _ _ _ h hf => anySport_b h hf
theorem anDport_all {φ : Env -> Bool} : AnB 149 base q a M w0 φ (anF φ 11 3) (3 * 16383) := fun _ _ _ _ h hf => anyDport_b h hf
theorem send_any (h : Bn base q a M w0 w ns er) (d : Dv) (hd : devC d = 0) {Ab A At : Option Addr} {nb cb n cap nt ct : Nat} (hb : SlAt base w0 1 IsI (.slice Ab nb cb) d.backs) (hr : SlAt base w0 5 IsRule (.slice A n cap) d.rules) (ht : SlAt base w0 3 IsRoute (.slice At nt ct) d.routes) (pt : Int) {f0 f1 f2 f3 : Nat} {φ0 φ1 φ2 φ3 : Env -> Bool} (hf0 : Fn ns er f0 φ0) (hf1 : Fn ns er f1 φ1) (hf2 : Fn ns er f2 φ2) (hf3 : Fn ns er f3 φ3) :
  Calls Tryz.prog 92 #[.pointer (some ⟨q, 0, none⟩), .agg #[.string d.name, .int .i64 d.kind, .int .i64 d.addr, .int .u8 (d.pool : Int), .slice Ab nb cb, .slice A n cap, .slice At nt ct], .int .i64 pt, .agg #[.int .i64 (f0 : Int), .int .i64 (f1 : Int), .int .i64 (f2 : Int), .int .i64 (f3 : Int)]] w (BOut base q a M w0 w ns er 1000000 (sendF d pt φ0 φ1 φ2 φ3)) := by
 obtain ⟨⟨k1, k5⟩, ⟨a0, a16⟩, hbs, r8, hck⟩ := dev_right hd
 have RB : RulB base q a M w0 (.slice A n cap) 40000 (letsF (rulesD d)) := rulB_any (rules_ofD hr) (by unfold rulesD; rw [List.length_map]; exact r8)
 have TB : RtB base q a M w0 (.slice At nt ct) pt 44 (phi 65535 (sentN (routesD d) pt 16) 255 255) := fun w ns er b => routes_b b At nt ct (routesD d) pt (((routes_of ht).below b.bel).mono b.size) hck
 have hkd : d.kind = 1 ∨ d.kind = 2 ∨ d.kind = 3 ∨ d.kind = 4 ∨ d.kind = 5 := by omega
 unfold sendF
 rcases hkd with hk | hk | hk | hk | hk
 ·rw [hk, if_neg (by omega), if_neg (by omega), if_neg (by omega), if_neg (by omega)]
  exact (send_host h).mono fun _ _ B => B.more (by omega)
 ·rw [hk, if_pos rfl]
  refine (send_route h (g := 4 * 16383 + 44 + 16383 + 40000 + 16383) fun W b => ?_).mono fun _ _ B => B.more (by omega)
  exact route_b b (fun k φ _ => orB_all) TB andB_all RB andB_all hf0 hf1 hf2 hf3
 ·rw [hk, if_neg (by omega), if_pos rfl]
  by_cases hp : pt = 1
  ·rw [if_pos hp]
   exact (send_ask h hp fun W b => ask_b b RB andB_all hf0).mono fun _ _ B => B.more (by omega)
  ·rw [if_neg hp]
   exact (send_answer h hp fun W b => answer_b b RB andB_all flB_any andB_all hf0 hf1).mono fun _ _ B => B.more (by omega)
 ·rw [hk, if_neg (by omega), if_neg (by omega), if_pos rfl]
  by_cases hp : pt = 1
  ·rw [if_pos hp]
   exact (send_hide h hp fun W b => hide_b b a0 a16 rfl d.hp anSport_all anSrc_all andB_all hf0).mono fun _ _ B => B.more (by omega)
  ·rw [if_neg hp]
   exact (send_unhide h hp fun W b => unhide_b b a0 a16 rfl d.hp andB_all anDport_all anDst_all flB_any anDport_all anDst_all andB_all hf0 hf1).mono fun _ _ B => B.more (by omega)
 ·rw [hk, if_neg (by omega), if_neg (by omega), if_neg (by omega), if_pos rfl]
  by_cases hp : pt = 1
  ·rw [if_pos hp]
   exact (send_spread h hp fun W b => spread_b b a0 a16 ⟨(notN_spec _).1, (notN_spec _).2.1⟩ hb hbs andB_all anDst_all andB_all andB_all orB_all hf0).mono fun _ _ B => B.more (by omega)
  ·rw [if_neg hp]
   exact (send_gather h hp fun W b => gather_b b a0 a16 hb hbs andB_all anDst_all flB_any andB_all andB_all anSrc_all andB_all orB_all hf0 hf1).mono fun _ _ B => B.more (by omega)
end
theorem uSets : Tryz.prog.underlying 100 = some (.array 10 98) := by kernel_rfl
theorem iSets : (Tryz.prog.info? 100).map (·.size) = some 40 := by kernel_rfl
theorem iSets' {c : Array Value} (h : c.size = 40) : (Tryz.prog.info? 100).map (·.size) = some c.size := by rw [h]; exact iSets
abbrev zeros40 : Array Value := #[.int .i64 0, .int .i64 0, .int .i64 0, .int .i64 0, .int .i64 0, .int .i64 0, .int .i64 0, .int .i64 0, .int .i64 0, .int .i64 0, .int .i64 0, .int .i64 0, .int .i64 0, .int .i64 0, .int .i64 0, .int .i64 0, .int .i64 0, .int .i64 0, .int .i64 0, .int .i64 0, .int .i64 0, .int .i64 0, .int .i64 0, .int .i64 0, .int .i64 0, .int .i64 0, .int .i64 0, .int .i64 0, .int .i64 0, .int .i64 0, .int .i64 0, .int .i64 0, .int .i64 0, .int .i64 0, .int .i64 0, .int .i64 0, .int .i64 0, .int .i64 0, .int .i64 0, .int .i64 0]
section
variable {bR R MR most : Nat} {nsR : List Nd} {w : World}
theorem widen_any (hR : Ar bR R MR 14 most w nsR) (d : Dv) (hd : devC d = 0) {Ab A At : Option Addr} {nb cb n cap nt ct : Nat} (hb : SlAt w.heap.size w 1 IsI (.slice Ab nb cb) d.backs) (hr : SlAt w.heap.size w 5 IsRule (.slice A n cap) d.rules) (ht : SlAt w.heap.size w 3 IsRoute (.slice At nt ct) d.routes) (pt : Int) {set f0 f1 f2 f3 : Nat} (hs : set < nsR.length) (l0 : f0 < nsR.length) (l1 : f1 < nsR.length) (l2 : f2 < nsR.length) (l3 : f3 < nsR.length) :
  Calls Tryz.prog 54 #[.pointer (some ⟨R, 0, none⟩), .int .i64 (set : Int), .agg #[.string d.name, .int .i64 d.kind, .int .i64 d.addr, .int .u8 (d.pool : Int), .slice Ab nb cb, .slice A n cap, .slice At nt ct], .int .i64 pt, .agg #[.int .i64 (f0 : Int), .int .i64 (f1 : Int), .int .i64 (f2 : Int), .int .i64 (f3 : Int)]] w fun e w' => ∃ (ns' : List Nd) (v er : Int), e = .returned (.tuple #[.int .i64 v, .int .i64 er]) ∧ Ar bR R MR 14 most w' ns' ∧ Kp (ca bR R MR 14 most) w w' ∧ Ext nsR ns' ∧ Hid ((er = 0 ∧ ∃ f : Nat, v = (f : Int) ∧ f < ns'.length ∧ ∀ x, ev ns' f x = (ev nsR set x || sendF d pt (ev nsR f0) (ev nsR f1) (ev nsR f2) (ev nsR f3) x)) ∨ (er = 6 ∧ v = 0)) := by
 refine (widen_w hR (fun _ => true) (fun _ => true) hs l0 l1 l2 l3 (DepS.all _) (DepS.all _) (DepS.all _) (DepS.all _) (DepS.all _) (DepS.all _) (gS := 1000000) (gO := 16383) (ψ := sendF d pt (ev nsR f0) (ev nsR f1) (ev nsR f2) (ev nsR f3)) (fun base q a M w0 W ns er i0 i1 i2 i3 hbl hle b m0 m1 m2 m3 => ?_) (fun _ _ _ _ _ => orB_all)).mono fun e w' ⟨ns', v, er, h1, h2, h3, h4, _, h6⟩ => ⟨ns', v, er, h1, h2, h3, h4, ?_⟩
 ·exact send_any b d hd (SlAt.mono (SlAt.below hb hbl (fun _ _ _ h => h)) hle (fun _ _ _ h => h)) (SlAt.mono (SlAt.below hr hbl (fun _ _ _ h => h)) hle (fun _ _ _ h => h)) (SlAt.mono (SlAt.below ht hbl (fun _ _ _ h => h)) hle (fun _ _ _ h => h)) pt m0 m1 m2 m3
 ·rcases h6.out with h | ⟨a, b, _⟩
  ·exact Or.inl h
  ·exact Or.inr ⟨a, b⟩
end
def WidB (gW : Nat) (E : Prop) (d : Dv) (pt : Int) (χ φ0 φ1 φ2 φ3 : Env -> Bool) : Prop :=
 ∀ (bR R MR most : Nat) (nsR : List Nd) (w : World), Ar bR R MR 14 most w nsR -> ∀ (Ab A At : Option Addr) (nb cb n cap nt ct : Nat), SlAt w.heap.size w 1 IsI (.slice Ab nb cb) d.backs -> SlAt w.heap.size w 5 IsRule (.slice A n cap) d.rules -> SlAt w.heap.size w 3 IsRoute (.slice At nt ct) d.routes -> ∀ (set f0 f1 f2 f3 : Nat), set < nsR.length -> f0 < nsR.length -> f1 < nsR.length -> f2 < nsR.length -> f3 < nsR.length ->
   ev nsR set = χ -> ev nsR f0 = φ0 -> ev nsR f1 = φ1 -> ev nsR f2 = φ2 -> ev nsR f3 = φ3 ->
   Calls Tryz.prog 54 #[.pointer (some ⟨R, 0, none⟩), .int .i64 (set : Int), .agg #[.string d.name, .int .i64 d.kind, .int .i64 d.addr, .int .u8 (d.pool : Int), .slice Ab nb cb, .slice A n cap, .slice At nt ct], .int .i64 pt, .agg #[.int .i64 (f0 : Int), .int .i64 (f1 : Int), .int .i64 (f2 : Int), .int .i64 (f3 : Int)]] w fun e w' => ∃ (ns' : List Nd) (v er : Int), e = .returned (.tuple #[.int .i64 v, .int .i64 er]) ∧ Ar bR R MR 14 most w' ns' ∧ Kp (ca bR R MR 14 most) w w' ∧ Ext nsR ns' ∧ ns'.length <= nsR.length + gW ∧ Hid ((er = 0 ∧ ∃ f : Nat, v = (f : Int) ∧ f < ns'.length ∧ ∀ x, ev ns' f x = (χ x || sendF d pt φ0 φ1 φ2 φ3 x)) ∨ (er = 6 ∧ v = 0 ∧ (E ∨ most <= nsR.length + gW)))
theorem widB_any {d : Dv} (hd : devC d = 0) (pt : Int) (χ φ0 φ1 φ2 φ3 : Env -> Bool) : WidB 40000 True d pt χ φ0 φ1 φ2 φ3 := by
 intro bR R MR most nsR w hR Ab A At nb cb n cap nt ct hb hr ht set f0 f1 f2 f3 hs l0 l1 l2 l3 e0 e1 e2 e3 e4
 subst e0 e1 e2 e3 e4
 refine (widen_any hR d hd hb hr ht pt hs l0 l1 l2 l3).mono fun e w' ⟨ns', v, er, h1, h2, h3, h4, h5⟩ => ⟨ns', v, er, h1, h2, h3, h4, ?_, ?_⟩
 ·have := h2.le
  have := h2.most4
  omega
 ·rcases h5.out with h | ⟨h, h'⟩
  ·exact Or.inl h
  ·exact Or.inr ⟨h, h', Or.inl trivial⟩
theorem mul_step {a a' b g n : Nat} (h : a <= b + g * n) (h' : a' <= a + g) : a' <= b + g * (n + 1) := by rw [Nat.mul_succ]; omega
theorem mul_mono {a b g n m : Nat} (h : a <= b + g * n) (hn : n <= m) : a <= b + g * m := by
 have := Nat.mul_le_mul_left g hn
 omega
structure Gs (bR R MR most : Nat) (nsR : List Nd) (w : World) (u0 u1 : Value) (cw cn nx : Array Value) (ns : List Nd) (W : World) : Prop where
 ar : Ar bR R MR 14 most W ns
 ext : Ext nsR ns
 kp : Kp (ca bR R MR 14 most) w W
 bN : Bz W w.heap.size #[u0, u1] 25
 bw : Bz W (w.heap.size + 1) cw 100
 bo : Bz W (w.heap.size + 1 + 1) cn 100
 bz : Bz W (w.heap.size + 1 + 1 + 1) zeros40 100
 bx : Bz W (w.heap.size + 1 + 1 + 1 + 1) nx 100
section
variable {bR R MR most : Nat} {nsR ns ns' : List Nd} {w W W' : World} {u0 u1 : Value} {cw cn nx : Array Value}
theorem Gs.below (h : Gs bR R MR most nsR w u0 u1 cw cn nx ns W) (hb : Below W.heap.size W W') : Gs bR R MR most nsR w u0 u1 cw cn nx ns W' :=
 ⟨h.ar.below hb, h.ext, h.kp.trans (h.ar.kbelow hb), (hb.block _ h.bN.lt).trans h.bN, (hb.block _ h.bw.lt).trans h.bw, (hb.block _ h.bo.lt).trans h.bo, (hb.block _ h.bz.lt).trans h.bz, (hb.block _ h.bx.lt).trans h.bx⟩
theorem Gs.tf (h : Gs bR R MR most nsR w u0 u1 cw cn nx ns W) (k : Kp (ca bR R MR 14 most) W W') {i : Nat} {c : Array Value} {t : TypeId} (hb : Bz W i c t) (ht : okT t) : Bz W' i c t := ((h.ar.outBox hb ht.1 ht.2.1).kp k).blk
theorem Gs.step (h : Gs bR R MR most nsR w u0 u1 cw cn nx ns W) (A' : Ar bR R MR 14 most W' ns') (k : Kp (ca bR R MR 14 most) W W') (X : Ext ns ns') : Gs bR R MR most nsR w u0 u1 cw cn nx ns' W' :=
 ⟨A', h.ext.trans X, h.kp.trans k, h.tf k h.bN (by decide), h.tf k h.bw (by decide), h.tf k h.bo (by decide), h.tf k h.bz (by decide), h.tf k h.bx (by decide)⟩
theorem Gs.setx (h : Gs bR R MR most nsR w u0 u1 cw cn nx ns W) (j : Nat) (u : Value) : Gs bR R MR most nsR w u0 u1 cw cn (nx.setIfInBounds j u) ns (W.setCell ⟨w.heap.size + 1 + 1 + 1 + 1, j, none⟩ u) := by
 have hF : ∀ i, i ≠ w.heap.size + 1 + 1 + 1 + 1 -> (W.setCell ⟨w.heap.size + 1 + 1 + 1 + 1, j, none⟩ u).heap[i]? = W.heap[i]? := fun i hi => Below.heap_setCell W ⟨w.heap.size + 1 + 1 + 1 + 1, j, none⟩ u i hi
 have L := (h.ar.outBox h.bx (by decide) (by decide)).out
 have n1 : R ≠ w.heap.size + 1 + 1 + 1 + 1 := fun e => L.not (Or.inl e.symm)
 have n2 : MR ≠ w.heap.size + 1 + 1 + 1 + 1 := fun e => L.not (Or.inr (Or.inr (Or.inl e.symm)))
 have n3 : rowOf W R ≠ w.heap.size + 1 + 1 + 1 + 1 := fun e => L.ne e.symm
 have er : rowOf (W.setCell ⟨w.heap.size + 1 + 1 + 1 + 1, j, none⟩ u) R = rowOf W R := rowOf_same (hF R n1)
 refine ⟨h.ar.same (hF _ n1) (hF _ n2) (hF _ n3), h.ext, ⟨h.kp.os, h.kp.tape, h.kp.output, by simp [World.setCell]; exact h.kp.size, fun i hi hm hr => (hF i (by omega)).trans (h.kp.blk i hi hm hr), ?_, fun k hk => ?_⟩, (hF _ (by omega)).trans h.bN, (hF _ (by omega)).trans h.bw, (hF _ (by omega)).trans h.bo, (hF _ (by omega)).trans h.bz, h.bx.set (j := j) u⟩
 ·rw [show rowOf (W.setCell ⟨w.heap.size + 1 + 1 + 1 + 1, j, none⟩ u) (ca bR R MR 14 most).a = rowOf W (ca bR R MR 14 most).a from er]
  exact h.kp.row
 ·rw [<- h.kp.post k hk]
  exact cellB (hF R n1)
end
def SentBy (ds : List Dv) (ls : List Lk) (skip : Nat -> Prop) (F : Nat -> Nat -> Env -> Bool) (i q : Nat) (t : Int × Int) (x : Env) : Prop :=
 ∃ (i' q' : Nat) (d : Dv), (i' < i ∨ (i' = i ∧ q' < q)) ∧ ¬ skip i' ∧ ds[i']? = some d ∧ (q' : Int) < portsV d.kind ∧ peerF ls i' q' = some t ∧ sendF d q' (F i' 0) (F i' 1) (F i' 2) (F i' 3) x = true
structure GInv (ds : List Dv) (ls : List Lk) (skip : Nat -> Prop) (F : Nat -> Nat -> Env -> Bool) (i q : Nat) (ns : List Nd) (sx : Nat -> Nat -> Nat) : Prop where
 lt : ∀ a b, a < 10 -> b < 4 -> sx a b < ns.length
 fn : ∀ a b, a < 10 -> b < 4 -> ∀ x, (ev ns (sx a b) x = true ↔ F a b x = true ∨ SentBy ds ls skip F i q ((a : Int), (b : Int)) x)
section
variable {ds : List Dv} {ls : List Lk} {skip : Nat -> Prop} {F : Nat -> Nat -> Env -> Bool} {i q : Nat} {ns ns' : List Nd} {sx : Nat -> Nat -> Nat}
theorem ginv_same {i' q' : Nat} (h : GInv ds ls skip F i q ns sx) (hs : ∀ t x, SentBy ds ls skip F i q t x ↔ SentBy ds ls skip F i' q' t x) : GInv ds ls skip F i' q' ns sx := ⟨h.lt, fun a b ha hb x => (h.fn a b ha hb x).trans (or_congr Iff.rfl (hs _ x))⟩
theorem ginv_start (hl : ∀ a b, a < 10 -> b < 4 -> sx a b < ns.length) (hF : ∀ a b, a < 10 -> b < 4 -> ev ns (sx a b) = F a b) : GInv ds ls skip F 0 0 ns sx := ⟨hl, fun a b ha hb x => by
 rw [hF a b ha hb]
 refine ⟨Or.inl, fun h => h.resolve_right fun ⟨i', q', d, h1, _⟩ => by omega⟩⟩
theorem ginv_skip (h : GInv ds ls skip F i 0 ns sx) (hs : skip i) : GInv ds ls skip F (i + 1) 0 ns sx := ginv_same h fun t x => by
 constructor
 ·rintro ⟨i', q', d, h1, h2⟩
  exact ⟨i', q', d, by omega, h2⟩
 ·rintro ⟨i', q', d, h1, h2, h3⟩
  have hne : i' ≠ i := fun e => h2 (e ▸ hs)
  exact ⟨i', q', d, by omega, h2, h3⟩
theorem ginv_done (h : GInv ds ls skip F i q ns sx) {d : Dv} (hd : ds[i]? = some d) (hq : portsV d.kind <= (q : Int)) : GInv ds ls skip F (i + 1) 0 ns sx := ginv_same h fun t x => by
 constructor
 ·rintro ⟨i', q', d, h1, h2⟩
  exact ⟨i', q', d, by omega, h2⟩
 ·rintro ⟨i', q', d', h1, h2, h3, h4, h5⟩
  refine ⟨i', q', d', ?_, h2, h3, h4, h5⟩
  by_cases e : i' = i
  ·subst e
   rw [hd] at h3
   obtain rfl := Option.some.inj h3
   omega
  ·omega
theorem ginv_none (h : GInv ds ls skip F i q ns sx) (hp : peerF ls i q = none) : GInv ds ls skip F i (q + 1) ns sx := ginv_same h fun t x => by
 constructor
 ·rintro ⟨i', q', d, h1, h2⟩
  exact ⟨i', q', d, by omega, h2⟩
 ·rintro ⟨i', q', d', h1, h2, h3, h4, h5, h6⟩
  refine ⟨i', q', d', ?_, h2, h3, h4, h5, h6⟩
  by_cases e : i' = i ∧ q' = q
  ·obtain ⟨rfl, rfl⟩ := e
   rw [hp] at h5
   cases h5
  ·omega
def updS (sx : Nat -> Nat -> Nat) (a b f : Nat) : Nat -> Nat -> Nat := fun x y => if x = a ∧ y = b then f else sx x y
theorem ginv_put (h : GInv ds ls skip F i q ns sx) (hA : Apart ls) (hW : Wf 14 ns) (hW' : Wf 14 ns') (X : Ext ns ns') {d : Dv} (hd : ds[i]? = some d) (hq : (q : Int) < portsV d.kind) (hs : ¬ skip i) {a b f : Nat} (hp : peerF ls i q = some ((a : Int), (b : Int))) (hf : f < ns'.length) (hv : ∀ x, ev ns' f x = (F a b x || sendF d q (F i 0) (F i 1) (F i 2) (F i 3) x)) : GInv ds ls skip F i (q + 1) ns' (updS sx a b f) := by
 have hlen := X.len
 refine ⟨fun x y hx hy => ?_, fun x y hx hy e => ?_⟩
 ·unfold updS
  split
  ·exact hf
  ·have := h.lt x y hx hy
   omega
 ·unfold updS
  split
  ·rename_i hxy
   obtain ⟨rfl, rfl⟩ := hxy
   rw [hv e, Bool.or_eq_true]
   refine or_congr Iff.rfl ⟨fun hse => ⟨i, q, d, by omega, hs, hd, hq, hp, hse⟩, ?_⟩
   rintro ⟨i', q', d', _, _, h3, _, h5, h6⟩
   have e1 := peerF_back hA hp
   have e2 := peerF_back hA h5
   rw [e1] at e2
   simp only [Option.some.injEq, Prod.mk.injEq] at e2
   obtain ⟨e3, e4⟩ := e2
   obtain rfl : i = i' := by omega
   obtain rfl : q = q' := by omega
   rw [hd] at h3
   obtain rfl := Option.some.inj h3
   exact h6
  ·rename_i hxy
   rw [X.ev hW hW' _ (h.lt x y hx hy), h.fn x y hx hy e]
   refine or_congr Iff.rfl ⟨?_, ?_⟩
   ·rintro ⟨i', q', d, h1, h2⟩
    exact ⟨i', q', d, by omega, h2⟩
   ·rintro ⟨i', q', d', h1, h2, h3, h4, h5, h6⟩
    refine ⟨i', q', d', ?_, h2, h3, h4, h5, h6⟩
    by_cases e : i' = i ∧ q' = q
    ·obtain ⟨rfl, rfl⟩ := e
     rw [hp] at h5
     simp only [Option.some.injEq, Prod.mk.injEq] at h5
     exact absurd ⟨by omega, by omega⟩ hxy
    ·omega
theorem SetsV.upd {c : Array Value} (h : SetsV c sx) {a b f : Nat} (ha : a < 10) (hb : b < 4) : SetsV (c.setIfInBounds (a * 4 + b) (.int .i64 (f : Int))) (updS sx a b f) := by
 refine ⟨by rw [Array.size_setIfInBounds]; exact h.1, fun x y hx hy => ?_⟩
 rw [Array.getElem?_setIfInBounds]
 unfold updS
 by_cases e : x = a ∧ y = b
 ·obtain ⟨rfl, rfl⟩ := e
  rw [if_pos rfl, if_pos (by have := h.1; omega), if_pos ⟨rfl, rfl⟩]
 ·rw [if_neg (by omega), if_neg e]
  exact h.2 x y hx hy
end
section
variable {bR R MR most : Nat} {nsR : List Nd} {w : World}
def GOut (gW : Nat) (E : Prop) (w : World) (bR R MR most : Nat) (nsR : List Nd) (ds : List Dv) (ls : List Lk) (skip : Nat -> Prop) (F : Nat -> Nat -> Env -> Bool) (e : Ending) (w' : World) : Prop :=
 ∃ (cx : Array Value) (er : Int) (ns : List Nd), e = .returned (.tuple #[.agg cx, .int .i64 er]) ∧ cx.size = 40 ∧ Ar bR R MR 14 most w' ns ∧ Kp (ca bR R MR 14 most) w w' ∧ Ext nsR ns ∧ (∀ i c t, Bz w i c t -> okT t -> Bz w' i c t) ∧ ns.length <= nsR.length + gW * (4 * ds.length) ∧
   Hid ((er = 0 ∧ ∃ sx, SetsV cx sx ∧ GInv ds ls skip F ds.length 0 ns sx) ∨ (er = 6 ∧ cx = zeros40 ∧ (E ∨ most <= nsR.length + gW * (4 * ds.length))))
theorem peer_pl {ds : List Dv} {ls : List Lk} (hz : netV ds ls = 0) {i q : Int} {t : Int × Int} (h : peerF ls i q = some t) : ∃ a b : Nat, t = ((a : Int), (b : Int)) ∧ a < 10 ∧ b < 4 := by
 obtain ⟨l, hl, he⟩ := peerF_of h
 obtain ⟨h10, _, _, hp⟩ := netV_links hz
 have hpl : isPl ds t.1 t.2 = true := by
  rcases endOf_ends he with ⟨_, rfl⟩ | ⟨_, rfl⟩
  ·exact (hp l hl).2
  ·exact (hp l hl).1
 unfold isPl at hpl
 simp only [Bool.and_eq_true, decide_eq_true_eq] at hpl
 have hb : portsV (kindAt ds t.1) <= 4 := by
  unfold portsV
  split
  ·omega
  split
  ·omega
  split <;> omega
 exact ⟨t.1.toNat, t.2.toNat, Prod.ext (by simp; omega) (by simp; omega), by omega, by omega⟩
theorem all_set {c : Array Value} {p : Value -> Bool} (h : c.all p = true) (j : Nat) {u : Value} (hu : p u = true) : (c.setIfInBounds j u).all p = true := by
 rw [Array.all_eq_true_iff_forall_mem] at h ⊢
 intro x hx
 rcases Array.mem_or_eq_of_mem_setIfInBounds hx with h' | h'
 ·exact h x h'
 ·rw [h']; exact hu
theorem zeros_one : zeros40.all (·.oneCell') = true := by
 first
  | decide
  | kernel_rfl
  | simp [zeros40, Value.oneCell']
theorem setRow_heap' (W : World) (g : Nat) (c c' : Array Value) (t : TypeId) (h : Bz W g c t) (i : Nat) : (W.setRow g c').heap[i]? = if g = i then some (.cells c' t (0, 0)) else W.heap[i]? := by
 simp only [World.setRow]
 rw [Array.getElem?_modify]
 by_cases e : g = i
 ·subst e
  unfold Bz at h
  rw [if_pos rfl, if_pos rfl, h]
  rfl
 ·rw [if_neg e, if_neg e]
theorem setRow_self {W : World} {g : Nat} {c : Array Value} {t : TypeId} (h : Bz W g c t) : W.setRow g c = W := by
 have e : (W.setRow g c).heap = W.heap := by
  apply Array.ext_getElem?
  intro i
  rw [setRow_heap' W g c c t h i]
  split
  ·rename_i e
   subst e
   exact h.symm
  ·rfl
 simp only [World.setRow] at e ⊢
 rw [e]
theorem ports_eq (a0 a1 a2 a3 b0 b1 b2 b3 : Int) (w : World) : (binOp .eql 98 (.agg #[.int .i64 a0, .int .i64 a1, .int .i64 a2, .int .i64 a3]) (.agg #[.int .i64 b0, .int .i64 b1, .int .i64 b2, .int .i64 b3])).run Tryz.prog w = .ok (.bool ((a0 == b0) && ((a1 == b1) && ((a2 == b2) && (a3 == b3))))) w := by
 obtain ⟨i, hi⟩ : ∃ i, Tryz.prog.info? 3 = some i := by
  have h : (Tryz.prog.info? 3).isSome = true := by kernel_rfl
  exact Option.isSome_iff_exists.1 h
 have nI : Tryz.prog.cellsOf 3 = 1 := by kernel_rfl
 rw [run_eql_struct, show (10000 : Nat) = 9998 + 1 + 1 from rfl, run_equalIn_array w (9998 + 1) _ _ Tryz.underlying98 hi, nI, show List.range 4 = [0, 1, 2, 3] from rfl]
 have p0 : ∀ (x0 x1 x2 x3 : Int) (w : World), (part 3 #[.int .i64 x0, .int .i64 x1, .int .i64 x2, .int .i64 x3] (0 * 1)).run Tryz.prog w = .ok (.int .i64 x0) w := fun _ _ _ _ _ => by kernel_rfl
 have p1 : ∀ (x0 x1 x2 x3 : Int) (w : World), (part 3 #[.int .i64 x0, .int .i64 x1, .int .i64 x2, .int .i64 x3] 1).run Tryz.prog w = .ok (.int .i64 x1) w := fun _ _ _ _ _ => by kernel_rfl
 have p2 : ∀ (x0 x1 x2 x3 : Int) (w : World), (part 3 #[.int .i64 x0, .int .i64 x1, .int .i64 x2, .int .i64 x3] 2).run Tryz.prog w = .ok (.int .i64 x2) w := fun _ _ _ _ _ => by kernel_rfl
 have p3 : ∀ (x0 x1 x2 x3 : Int) (w : World), (part 3 #[.int .i64 x0, .int .i64 x1, .int .i64 x2, .int .i64 x3] 3).run Tryz.prog w = .ok (.int .i64 x3) w := fun _ _ _ _ _ => by kernel_rfl
 have q : ∀ (x y : Int) (w : World), (Op.equalIn 9999 3 (.int .i64 x) (.int .i64 y)).run Tryz.prog w = .ok (x == y) w := fun x y w => run_equalIn_int w 9998 3 .i64 .i64 x y Tryz.underlying3
 simp only [Op.eqItems, Sem.run_bind, p0, Result.andThen_ok, q]
 cases h1 : (a0 == b0) <;> cases h2 : (a1 == b1) <;> cases h3 : (a2 == b2) <;> cases h4 : (a3 == b3) <;> simp [p1, p2, p3, q, h2, h3, h4]
end
end Go.Proofs.YtlmmeppifkigeaaGreat
