/-
  XBC.
-/
import Derived.Test.YtlmmeppifkigeaaGreatLy
import Derived.Test.YtlmmeppifkigeaaGreatXBB
import Derived.Test.YtlmmeppifkigeaaGreatXAT
set_option maxHeartbeats 8000000
set_option maxRecDepth 100000
namespace Go.Proofs.YtlmmeppifkigeaaGreat
open Go.RowKit Go.Maps
theorem earliest_round {bR R MR most n : Nat} {sl : Value} {xs : List Value} {ns : List Nd} {p q : Int} {x0 x1 : Value} {s : Nat -> Nat -> Nat -> Nat} {w : World} (hRc : Rc bR R MR most sl (n + 1) xs ns w) (hs : Hd (HistN s (n + 1) xs ns)) (hn : n < 1000000)
  (Q : Nat -> Bool) (SO : Hd (∀ (f : Nat) W, f < ns.length -> Below w.heap.size w W -> Calls Tryz.prog 35 #[.int .i64 (f : Int), x0, x1] W fun e w' => e = .returned (.bool (Q f)) ∧ Below W.heap.size W w'))
  (MO : Hd (∀ a b, a <= b -> b < n + 1 -> Q (atN (s a) p q) = true -> Q (atN (s b) p q) = true)) :
  Calls Tryz.prog 34 #[.pointer (some ⟨R, 0, none⟩), .agg #[.int .i64 p, .int .i64 q], .func (.func 35) #[] #[x0, x1]] w fun e w' => ∃ k : Nat, e = .returned (.tuple #[.int .i64 (k : Int), .bool (decide (k < n + 1))]) ∧ Hd (Found1 (n + 1) (fun i => Q (atN (s i) p q)) k) ∧ Below w.heap.size w w' := by
 have D3 : Below w.heap.size w (((w.alloc (.cells #[.pointer (some ⟨R, 0, none⟩)] 32)).alloc (.cells #[.int .i64 p, .int .i64 q] 43)).alloc (.cells #[.func (.func 35) #[] #[x0, x1]] 114)) := Below.alloc' (Below.alloc' (Below.alloc' (Below.refl _ w) _) _) _
 have R3 := hRc.below D3
 have b0 : Bz (((w.alloc (.cells #[.pointer (some ⟨R, 0, none⟩)] 32)).alloc (.cells #[.int .i64 p, .int .i64 q] 43)).alloc (.cells #[.func (.func 35) #[] #[x0, x1]] 114)) w.heap.size #[.pointer (some ⟨R, 0, none⟩)] 32 := ((Bz.new w _ _ _ rfl).al _).al _
 have b1 : Bz (((w.alloc (.cells #[.pointer (some ⟨R, 0, none⟩)] 32)).alloc (.cells #[.int .i64 p, .int .i64 q] 43)).alloc (.cells #[.func (.func 35) #[] #[x0, x1]] 114)) (w.heap.size + 1) #[.int .i64 p, .int .i64 q] 43 := (Bz.new _ _ _ _ (by simp)).al _
 have b2 : Bz (((w.alloc (.cells #[.pointer (some ⟨R, 0, none⟩)] 32)).alloc (.cells #[.int .i64 p, .int .i64 q] 43)).alloc (.cells #[.func (.func 35) #[] #[x0, x1]] 114)) (w.heap.size + 1 + 1) #[.func (.func 35) #[] #[x0, x1]] 114 := Bz.new _ _ _ _ (by simp)
 have SC : Hd (Calls Tryz.prog 61 #[.int .i64 ((n + 1 : Nat) : Int), .func (.func 62) #[] #[.pointer (some ⟨w.heap.size + 1 + 1, 0, none⟩), .pointer (some ⟨w.heap.size, 0, none⟩), .pointer (some ⟨w.heap.size + 1, 0, none⟩)]] (((w.alloc (.cells #[.pointer (some ⟨R, 0, none⟩)] 32)).alloc (.cells #[.int .i64 p, .int .i64 q] 43)).alloc (.cells #[.func (.func 35) #[] #[x0, x1]] 114)) fun e w' => ∃ k : Nat, e = .returned (.int .i64 (k : Int)) ∧ Hd (Found1 (n + 1) (fun i => Q (atN (s i) p q)) k) ∧ Below (((w.alloc (.cells #[.pointer (some ⟨R, 0, none⟩)] 32)).alloc (.cells #[.int .i64 p, .int .i64 q] 43)).alloc (.cells #[.func (.func 35) #[] #[x0, x1]] 114)).heap.size (((w.alloc (.cells #[.pointer (some ⟨R, 0, none⟩)] 32)).alloc (.cells #[.int .i64 p, .int .i64 q] 43)).alloc (.cells #[.func (.func 35) #[] #[x0, x1]] 114)) w') :=
  ⟨search_any _ _ _ (n + 1) (fun i => Q (atN (s i) p q)) _ (by omega) (early1_round R3 hs b0 b1 b2 Q ⟨fun f W hf hW => SO.out f W hf (chain hW D3)⟩) MO⟩
 have hsl := hRc.sl
 obtain ⟨g, cap, rfl, _⟩ := hsl
 have c4 : (((w.alloc (.cells #[.pointer (some ⟨R, 0, none⟩)] 32)).alloc (.cells #[.int .i64 p, .int .i64 q] 43)).alloc (.cells #[.func (.func 35) #[] #[x0, x1]] 114)).cell? ⟨R, 4, none⟩ = some (.slice (some ⟨g, 0, none⟩) (n + 1) cap) := R3.c4
 have KE : Hd (∀ w4, Below (((w.alloc (.cells #[.pointer (some ⟨R, 0, none⟩)] 32)).alloc (.cells #[.int .i64 p, .int .i64 q] 43)).alloc (.cells #[.func (.func 35) #[] #[x0, x1]] 114)).heap.size (((w.alloc (.cells #[.pointer (some ⟨R, 0, none⟩)] 32)).alloc (.cells #[.int .i64 p, .int .i64 q] 43)).alloc (.cells #[.func (.func 35) #[] #[x0, x1]] 114)) w4 -> Below w.heap.size w w4 ∧ w4.cell? ⟨w.heap.size, 0, none⟩ = some (.pointer (some ⟨R, 0, none⟩)) ∧ w4.cell? ⟨R, 4, none⟩ = some (.slice (some ⟨g, 0, none⟩) (n + 1) cap)) := ⟨fun w4 k => ⟨chain k D3, below_cell k (b0.cell 0 _ rfl), below_cell k R3.c4⟩⟩
 have hR : R < w.heap.size := hRc.lt
 generalize Found1 (n + 1) (fun i => Q (atN (s i) p q)) = FF at *
 clear hRc R3 b0 b1 b2 SO MO hs D3
 go_enter Tryz.func34, Tryz.ntmps34
 go_wp2_with fail
 refine SC.out.mono ?_
 rintro e w4 ⟨k, rfl, F4, hb4⟩
 obtain ⟨D4, e0, e1⟩ := KE.out w4 hb4
 have e0d : w4.drew.cell? ⟨w.heap.size, 0, none⟩ = some (.pointer (some ⟨R, 0, none⟩)) := e0
 have e1d : w4.drew.cell? ⟨R, 4, none⟩ = some (.slice (some ⟨g, 0, none⟩) (n + 1) cap) := e1
 have D5 := D4.drew
 clear SC KE hb4 c4
 go_wp2_with fail
 go_region
 all_goals
  go_wp2_with fail
  go_ret2
  exact ⟨k, by first | rfl | (simp; omega), F4, by first | exact D4 | exact D5⟩
theorem round1_any {bR R MR most rb cb f c : Nat} {ns : List Nd} {W : World} (hA : Ar bR R MR 14 most W ns) (b0 : Bz W rb #[.pointer (some ⟨R, 0, none⟩)] 32) (b1 : Bz W cb #[.int .i64 (c : Int)] 3) (hf : f < ns.length) (hc : c < 16384) :
  Calls Tryz.prog 35 #[.int .i64 (f : Int), .pointer (some ⟨rb, 0, none⟩), .pointer (some ⟨cb, 0, none⟩)] W fun e w' => e = .returned (.bool (ev ns f (envOf 14 c))) ∧ Below W.heap.size W w' := by
 have EV : Hd (Calls Tryz.prog 36 #[.pointer (some ⟨R, 0, none⟩), .int .i64 (f : Int), .int .i64 (c : Int)] W.drew fun e w' => e = .returned (.tuple #[.bool (ev ns f (envOf 14 c)), .int .i64 0]) ∧ Below W.drew.heap.size W.drew w') := ⟨eval_b (hA.below (Below.refl _ _).drew) hf hc⟩
 have S0 : W.drew.cell? ⟨rb, 0, none⟩ = some (.pointer (some ⟨R, 0, none⟩)) ∧ W.drew.cell? ⟨cb, 0, none⟩ = some (.int .i64 (c : Int)) ∧ True := ⟨b0.cell 0 _ rfl, b1.cell 0 _ rfl, trivial⟩
 have KS : Hd (∀ V', Below W.drew.heap.size W.drew V' -> (V'.cell? ⟨rb, 0, none⟩ = some (.pointer (some ⟨R, 0, none⟩)) ∧ V'.cell? ⟨cb, 0, none⟩ = some (.int .i64 (c : Int)) ∧ True)) := ⟨fun V' k => ⟨below_cell k S0.1, below_cell k S0.2.1, trivial⟩⟩
 have KC : Hd (∀ V', Below W.drew.heap.size W.drew V' -> Below W.heap.size W V') := ⟨fun V' k => (Below.refl W.heap.size W).drew.trans k⟩
 generalize ev ns f (envOf 14 c) = r at *
 clear hA b0 b1
 go_enter Tryz.func35, Tryz.ntmps35
 go_upto_region 1 with fail
 refine wp_region_held_drew (S := fun V => V.cell? ⟨rb, 0, none⟩ = some (.pointer (some ⟨R, 0, none⟩)) ∧ V.cell? ⟨cb, 0, none⟩ = some (.int .i64 (c : Int)) ∧ True) (by kernel_rfl) S0 (fun hHeld => ?_)
 refine tk 0 ?_ (hy := by (intro w hSw; obtain ⟨s0, s1, _⟩ := hSw; go_simp; (try with_reducible rfl))); try simp only [ly]
 refine tk 1 ?_ (hy := by (intro w hSw; obtain ⟨s0, s1, _⟩ := hSw; go_simp; (try with_reducible rfl))); try simp only [ly]
 refine tk 2 ?_ (hy := by (intro w hSw; obtain ⟨s0, s1, _⟩ := hSw; go_simp; (try with_reducible rfl))); try simp only [ly]
 refine tk 3 ?_ (hy := by (intro w hSw; obtain ⟨s0, s1, _⟩ := hSw; go_simp; (try with_reducible rfl))); try simp only [ly]
 refine tk 4 ?_ (hy := by (intro w hSw; obtain ⟨s0, s1, _⟩ := hSw; go_simp; (try with_reducible rfl))); try simp only [ly]
 refine rd 5 (fun K hK => ?_)
 go_simp
 (with_reducible refine EV.out.mono ?_)
 rintro e w2 ⟨rfl, hb2⟩
 have S2 := KS.out _ hb2
 have D2 := KC.out _ hb2
 dsimp only
 clear hHeld
 refine hK.out _ _ (S2) (fun hHeld => ?_)
 clear hK K
 try simp only [ly]
 refine tk 6 ?_ (hy := by (intro w hSw; go_simp; (try with_reducible rfl))); try simp only [ly]
 refine tk 7 ?_ (hy := by (intro w hSw; go_simp; (try with_reducible rfl))); try simp only [ly]
 refine tk 8 ?_ (hy := by (intro w hSw; go_simp; (try with_reducible rfl))); try simp only [ly]
 refine tk 9 ?_ (hy := by (intro w hSw; go_simp; (try with_reducible rfl))); try simp only [ly]
 refine tk 10 ?_ (hy := by (intro w hSw; go_simp; (try with_reducible rfl))); try simp only [ly]
 refine wpAnyH_done (by kernel_rfl) ?_ _
 go_wp2_with fail
 go_ret
 exact ⟨rfl, D2⟩
def RoundV (n : Nat) (P : Nat -> Bool) (v : Int) : Prop := ∃ k : Nat, Found1 (n + 1) P k ∧ v = if k < n + 1 then (k : Int) else -1
theorem round_ok {bR R MR most n : Nat} {sl : Value} {xs : List Value} {ns : List Nd} {p q a b c d : Int} {s : Nat -> Nat -> Nat -> Nat} {w : World} (hRc : Rc bR R MR most sl (n + 1) xs ns w) (hs : Hd (HistN s (n + 1) xs ns)) (hn : n < 1000000) (hp : pkR a b c d = true)
  (MO : Hd (∀ i j, i <= j -> j < n + 1 -> ev ns (atN (s i) p q) (envOf 14 (codeR a b c d)) = true -> ev ns (atN (s j) p q) (envOf 14 (codeR a b c d)) = true)) :
  Calls Tryz.prog 12 #[.pointer (some ⟨R, 0, none⟩), .agg #[.int .i64 p, .int .i64 q], pk a b c d] w fun e w' => ∃ v : Int, e = .returned (.int .i64 v) ∧ Hd (RoundV n (fun i => ev ns (atN (s i) p q) (envOf 14 (codeR a b c d))) v) ∧ Below w.heap.size w w' := by
 have hlt := codeR_lt hp
 have D3 : Below w.heap.size w (((w.alloc (.cells #[.pointer (some ⟨R, 0, none⟩)] 32)).alloc (.cells #[.int .i64 p, .int .i64 q] 43)).alloc (.cells #[.int .i64 a, .int .i64 b, .int .i64 c, .int .i64 d] 36)) := Below.alloc' (Below.alloc' (Below.alloc' (Below.refl _ w) _) _) _
 have b0 : Bz (((w.alloc (.cells #[.pointer (some ⟨R, 0, none⟩)] 32)).alloc (.cells #[.int .i64 p, .int .i64 q] 43)).alloc (.cells #[.int .i64 a, .int .i64 b, .int .i64 c, .int .i64 d] 36)) w.heap.size #[.pointer (some ⟨R, 0, none⟩)] 32 := ((Bz.new w _ _ _ rfl).al _).al _
 have b1 : Bz (((w.alloc (.cells #[.pointer (some ⟨R, 0, none⟩)] 32)).alloc (.cells #[.int .i64 p, .int .i64 q] 43)).alloc (.cells #[.int .i64 a, .int .i64 b, .int .i64 c, .int .i64 d] 36)) (w.heap.size + 1) #[.int .i64 p, .int .i64 q] 43 := (Bz.new _ _ _ _ (by simp)).al _
 have CO : Hd (∀ W, Calls Tryz.prog 33 #[pk a b c d] W fun e w' => e = .returned (.tuple #[.int .i64 (codeR a b c d : Int), .int .i64 0]) ∧ Below W.heap.size W w') := ⟨fun W => code_ok a b c d W hp⟩
 have EA : Hd (∀ w2, Below (((w.alloc (.cells #[.pointer (some ⟨R, 0, none⟩)] 32)).alloc (.cells #[.int .i64 p, .int .i64 q] 43)).alloc (.cells #[.int .i64 a, .int .i64 b, .int .i64 c, .int .i64 d] 36)).heap.size (((w.alloc (.cells #[.pointer (some ⟨R, 0, none⟩)] 32)).alloc (.cells #[.int .i64 p, .int .i64 q] 43)).alloc (.cells #[.int .i64 a, .int .i64 b, .int .i64 c, .int .i64 d] 36)) w2 -> Calls Tryz.prog 34 #[.pointer (some ⟨R, 0, none⟩), .agg #[.int .i64 p, .int .i64 q], .func (.func 35) #[] #[.pointer (some ⟨w.heap.size, 0, none⟩), .pointer (some ⟨w2.heap.size, 0, none⟩)]] (w2.alloc (.cells #[.int .i64 (codeR a b c d : Int)] 3)) fun e w' => ∃ k : Nat, e = .returned (.tuple #[.int .i64 (k : Int), .bool (decide (k < n + 1))]) ∧ Hd (Found1 (n + 1) (fun i => ev ns (atN (s i) p q) (envOf 14 (codeR a b c d))) k) ∧ Below w.heap.size w w') := ⟨fun w2 hb2 => by
  have D2 := chain hb2 D3
  have D5 := Below.alloc' D2 (.cells #[.int .i64 (codeR a b c d : Int)] 3)
  have bb0 : Bz (w2.alloc (.cells #[.int .i64 (codeR a b c d : Int)] 3)) w.heap.size #[.pointer (some ⟨R, 0, none⟩)] 32 := Bz.al ((hb2.block _ b0.lt).trans b0) _
  have bb1 : Bz (w2.alloc (.cells #[.int .i64 (codeR a b c d : Int)] 3)) w2.heap.size #[.int .i64 (codeR a b c d : Int)] 3 := Bz.new _ _ _ _ rfl
  refine (earliest_round (hRc.below D5) hs hn (fun f => ev ns f (envOf 14 (codeR a b c d))) ⟨fun f W hf hW => round1_any (hRc.below (chain hW D5)).ar ((hW.block _ bb0.lt).trans bb0) ((hW.block _ bb1.lt).trans bb1) hf hlt⟩ MO).mono fun e w' ⟨k, h1, h2, h3⟩ => ⟨k, h1, h2, chain h3 D5⟩⟩
 have FIN : Hd (∀ k : Nat, Found1 (n + 1) (fun i => ev ns (atN (s i) p q) (envOf 14 (codeR a b c d))) k -> RoundV n (fun i => ev ns (atN (s i) p q) (envOf 14 (codeR a b c d))) (if k < n + 1 then (k : Int) else -1)) := ⟨fun k h => ⟨k, h, rfl⟩⟩
 have KE : Hd (∀ w2, Below (((w.alloc (.cells #[.pointer (some ⟨R, 0, none⟩)] 32)).alloc (.cells #[.int .i64 p, .int .i64 q] 43)).alloc (.cells #[.int .i64 a, .int .i64 b, .int .i64 c, .int .i64 d] 36)).heap.size (((w.alloc (.cells #[.pointer (some ⟨R, 0, none⟩)] 32)).alloc (.cells #[.int .i64 p, .int .i64 q] 43)).alloc (.cells #[.int .i64 a, .int .i64 b, .int .i64 c, .int .i64 d] 36)) w2 -> w.heap.size < w2.heap.size ∧ w.heap.size + 1 < w2.heap.size ∧ w2.cell? ⟨w.heap.size, 0, none⟩ = some (.pointer (some ⟨R, 0, none⟩)) ∧ w2.cell? ⟨w.heap.size + 1, 0, none⟩ = some (.int .i64 p) ∧ w2.cell? ⟨w.heap.size + 1, 1, none⟩ = some (.int .i64 q)) := ⟨fun w2 k => ⟨Nat.lt_of_lt_of_le b0.lt k.size, Nat.lt_of_lt_of_le b1.lt k.size, below_cell k (b0.cell 0 _ rfl), below_cell k (b1.cell 0 _ rfl), below_cell k (b1.cell 1 _ rfl)⟩⟩
 generalize Found1 (n + 1) (fun i => ev ns (atN (s i) p q) (envOf 14 (codeR a b c d))) = FF at *
 generalize RoundV n (fun i => ev ns (atN (s i) p q) (envOf 14 (codeR a b c d))) = RR at *
 generalize codeR a b c d = co at *
 clear hRc b0 b1 hs MO D3 hp
 go_enter Tryz.func12, Tryz.ntmps12
 go_wp2_with fail
 refine (CO.out _).mono ?_
 rintro e w2 ⟨rfl, hb2⟩
 obtain ⟨l0, l1, e0, e1, e2⟩ := KE.out w2 hb2
 have E2 := Hd.mk (EA.out w2 hb2)
 clear EA KE CO hb2
 go_wp2_with fail
 refine E2.out.mono ?_
 rintro e w5 ⟨k, rfl, F5, D5⟩
 have FF5 := Hd.mk (FIN.out k F5.out)
 clear E2 FIN F5 e0 e1 e2
 by_cases hk : k < n + 1
 ·have t1 : decide (k < n + 1) = true := by simp [hk]
  rw [if_pos hk] at FF5
  rw [t1]
  clear hk t1
  go_wp2_with fail
  go_ret
  exact ⟨_, rfl, FF5, D5⟩
 ·have t1 : decide (k < n + 1) = false := by simp [hk]
  rw [if_neg hk] at FF5
  rw [t1]
  clear hk t1
  go_wp2_with fail
  go_ret
  exact ⟨_, rfl, FF5, D5⟩
theorem round_bad (R : Nat) (p q a b c d : Int) (w : World) (hp : pkR a b c d = false) :
  Calls Tryz.prog 12 #[.pointer (some ⟨R, 0, none⟩), .agg #[.int .i64 p, .int .i64 q], pk a b c d] w fun e w' => e = .returned (.int .i64 (-1)) ∧ Below w.heap.size w w' := by
 have D3 : Below w.heap.size w (((w.alloc (.cells #[.pointer (some ⟨R, 0, none⟩)] 32)).alloc (.cells #[.int .i64 p, .int .i64 q] 43)).alloc (.cells #[.int .i64 a, .int .i64 b, .int .i64 c, .int .i64 d] 36)) := Below.alloc' (Below.alloc' (Below.alloc' (Below.refl _ w) _) _) _
 have CO : Hd (∀ W, Calls Tryz.prog 33 #[pk a b c d] W fun e w' => e = .returned (.tuple #[.int .i64 0, .int .i64 1]) ∧ Below W.heap.size W w') := ⟨fun W => code_bad a b c d W hp⟩
 clear hp
 go_enter Tryz.func12, Tryz.ntmps12
 go_wp2_with fail
 refine (CO.out _).mono ?_
 rintro e w2 ⟨rfl, hb2⟩
 have D2 := Below.alloc' (chain hb2 D3) (.cells #[.int .i64 0] 3)
 clear CO hb2 D3
 go_wp2_with fail
 go_ret
 exact ⟨rfl, D2⟩
end Go.Proofs.YtlmmeppifkigeaaGreat
namespace Go.Proofs.YtlmmeppifkigeaaGreat
def T : Nat -> Nat -> (Env -> Bool) -> Env -> Nat
 | 0, _, g, e => if g e then 1 else 0
 | k + 1, i, g, e => T k (i + 1) g (setE e i false) + T k (i + 1) g (setE e i true)
def Dep (l vars : Nat) (g : Env -> Bool) : Prop := ∀ e e' : Env, (∀ x, l <= x -> x < vars -> e x = e' x) -> g e = g e'
theorem T_congr {l vars : Nat} {g : Env -> Bool} (hd : Dep l vars g) : ∀ (k i : Nat) (e e' : Env), (∀ x, l <= x -> x < vars -> (x < i ∨ i + k <= x) -> e x = e' x) -> T k i g e = T k i g e'
 | 0, i, e, e', h => by
   rw [T, T, hd e e' (fun x h1 h2 => h x h1 h2 (by omega))]
 | k + 1, i, e, e', h => by
   rw [T, T]
   have step : ∀ b, T k (i + 1) g (setE e i b) = T k (i + 1) g (setE e' i b) := fun b => by
    refine T_congr hd k (i + 1) _ _ (fun x h1 h2 h3 => ?_)
    by_cases hx : x = i
    ·subst hx; rw [setE_same, setE_same]
    ·rw [setE_ne _ _ hx, setE_ne _ _ hx]; exact h x h1 h2 (by omega)
   rw [step, step]
theorem T_eq {g g' : Env -> Bool} {v : Nat} {b : Bool} (hg : ∀ e : Env, e v = b -> g e = g' e) : ∀ (k i : Nat) (e : Env), v < i -> e v = b -> T k i g e = T k i g' e
 | 0, i, e, _, he => by rw [T, T, hg e he]
 | k + 1, i, e, hi, he => by
   rw [T, T, T_eq hg k (i + 1) _ (by omega) (by rw [setE_ne _ _ (by omega)]; exact he), T_eq hg k (i + 1) _ (by omega) (by rw [setE_ne _ _ (by omega)]; exact he)]
theorem T_le (g : Env -> Bool) : ∀ (k i : Nat) (e : Env), T k i g e <= 2 ^ k
 | 0, i, e => by rw [T]; split <;> simp
 | k + 1, i, e => by
   rw [T, Nat.pow_succ]
   have := T_le g k (i + 1) (setE e i false)
   have := T_le g k (i + 1) (setE e i true)
   omega
def e00 : Env := fun _ => false
section
variable {vars : Nat} {ns ns' : List Nd}
theorem dep_ev (wf : Wf vars ns) {f : Nat} (hf : f < ns.length) : Dep (nv ns f) vars (ev ns f) := fun e e' h => ev_dep wf f hf e e' h
def cn (vars : Nat) (ns : List Nd) (f : Nat) : Nat := T (vars - nv ns f) (nv ns f) (ev ns f) e00
theorem cn_skip (wf : Wf vars ns) {f : Nat} (hf : f < ns.length) : ∀ (d i : Nat) (e : Env), i + d = nv ns f -> T (vars - i) i (ev ns f) e = cn vars ns f * 2 ^ d
 | 0, i, e, h => by
   have hi : i = nv ns f := by omega
   have := va_le wf hf
   rw [cn, <- hi, Nat.pow_zero, Nat.mul_one]
   exact T_congr (dep_ev wf hf) _ _ _ _ (fun x h1 h2 h3 => by omega)
 | d + 1, i, e, h => by
   have := va_le wf hf
   rw [show vars - i = (vars - (i + 1)) + 1 by omega, T, cn_skip wf hf d (i + 1) _ (by omega), cn_skip wf hf d (i + 1) _ (by omega), Nat.pow_succ, <- Nat.mul_assoc]
   omega
theorem cn_0 (wf : Wf vars ns) : cn vars ns 0 = 0 := by
 rw [cn, show nv ns 0 = vars by rw [nv, wf.n0], Nat.sub_self, T, ev0]
 rfl
theorem cn_1 (wf : Wf vars ns) : cn vars ns 1 = 1 := by
 rw [cn, show nv ns 1 = vars by rw [nv, wf.n1], Nat.sub_self, T, ev1]
 rfl
theorem cn_node (wf : Wf vars ns) {f : Nat} (f2 : 2 <= f) (hf : f < ns.length) : cn vars ns f = cn vars ns (nl ns f) * 2 ^ (nv ns (nl ns f) - nv ns f - 1) + cn vars ns (nh ns f) * 2 ^ (nv ns (nh ns f) - nv ns f - 1) := by
 have hv := wf.va f f2 hf
 have l1 := wf.lo f f2 hf
 have l2 := wf.hi f f2 hf
 have v1 := wf.vlo f f2 hf
 have v2 := wf.vhi f f2 hf
 have w1 := va_le wf (f := nl ns f) (by omega)
 have w2 := va_le wf (f := nh ns f) (by omega)
 rw [cn, show vars - nv ns f = (vars - (nv ns f + 1)) + 1 by omega, T]
 rw [T_eq (g' := ev ns (nl ns f)) (v := nv ns f) (b := false) (fun e he => by rw [ev_node wf f2 hf, he]; simp) _ _ _ (by omega) (setE_same _ _ _)]
 rw [T_eq (g' := ev ns (nh ns f)) (v := nv ns f) (b := true) (fun e he => by rw [ev_node wf f2 hf, he]; simp) _ _ _ (by omega) (setE_same _ _ _)]
 rw [cn_skip wf (by omega) (nv ns (nl ns f) - nv ns f - 1) _ _ (by omega), cn_skip wf (by omega) (nv ns (nh ns f) - nv ns f - 1) _ _ (by omega)]
theorem cn_le (f : Nat) : cn vars ns f <= 2 ^ (vars - nv ns f) := T_le _ _ _ _
theorem cn_all (wf : Wf vars ns) {f : Nat} (hf : f < ns.length) (e : Env) : cn vars ns f * 2 ^ nv ns f = T vars 0 (ev ns f) e := by
 have := cn_skip wf hf (nv ns f) 0 e (by omega)
 rw [Nat.sub_zero] at this
 exact this.symm
end
def S : List Nat -> (Env -> Bool) -> Env -> Nat
 | [], g, e => if g e then 1 else 0
 | i :: l, g, e => S l g (setE e i false) + S l g (setE e i true)
end Go.Proofs.YtlmmeppifkigeaaGreat
namespace Go.Proofs.YtlmmeppifkigeaaGreat
open Go.RowKit Go.Maps
def MemoN (vars : Nat) (ns : List Nd) (m : Nat -> Option Nat) : Prop := ∀ f c, m f = some c -> c = cn vars ns f
theorem MemoN.upd {vars : Nat} {ns : List Nd} {m : Nat -> Option Nat} (h : MemoN vars ns m) (f : Nat) : MemoN vars ns (upd m f (cn vars ns f)) := by
 intro d c hc
 unfold YtlmmeppifkigeaaGreat.upd at hc
 by_cases e : d = f
 ·subst e
  rw [if_pos rfl] at hc
  cases hc
  rfl
 ·rw [if_neg e] at hc
  exact h d c hc
def CountPost (vars : Nat) (w : World) (ns : List Nd) (K n g r : Nat) (e : Ending) (w' : World) : Prop :=
 ∃ n' mk', e = .returned (.int .i64 (r : Int)) ∧ w.grownBy w' (some K) ∧ MapIs intE w' K n' mk' ∧ MemoN vars ns mk' ∧ n' <= n + g
section
variable {base a M vars most : Nat} {w w' : World} {ns : List Nd} {K n : Nat} {mk : Nat -> Option Nat}
theorem Ar.grownK (h : Ar base a M vars most w ns) (hm : MapIs intE w K n mk) (hKM : K ≠ M) (hg : w.grownBy w' (some K)) : Ar base a M vars most w' ns ∧ rowOf w' a = rowOf w a := by
 obtain ⟨es, clock, hb⟩ := hm.isMap
 obtain ⟨g, cap, cs, t, hba, _⟩ := h.blk
 obtain ⟨cur, hr, _, rl⟩ := h.row
 have k1 : a ≠ K := fun e => by rw [<- e, hba] at hb; simp at hb
 have k2 : rowOf w a ≠ K := fun e => by rw [<- e, hr] at hb; simp at hb
 have b1 := hg.block a h.lta (by simpa using k1)
 exact ⟨h.same b1 (hg.block M h.ltM (by simpa using hKM.symm)) (hg.block _ rl (by simpa using k2)), rowOf_same b1⟩
theorem countBelow_of (h : Ar base a M vars most w ns) (hm : MapIs intE w K n mk) (hmn : MemoN vars ns mk) {f v k : Nat} (hf : f < ns.length) (hv : v < nv ns f) (hN : n + 2 ^ k <= 1099511627776)
  (hc : Hq (∀ w n mk, Ar base a M vars most w ns -> MapIs intE w K n mk -> MemoN vars ns mk -> n + 2 ^ k <= 1099511627776 -> Calls Tryz.prog 71 #[.pointer (some ⟨a, 0, none⟩), .int .i64 (f : Int), .map (some K)] w (CountPost vars w ns K n (2 ^ k - 1) (cn vars ns f)))) :
  Calls Tryz.prog 102 #[.pointer (some ⟨a, 0, none⟩), .int .i64 (f : Int), .int .i64 (v : Int), .map (some K)] w (CountPost vars w ns K n (2 ^ k - 1) (cn vars ns f * 2 ^ (nv ns f - v - 1))) := by
 have hA : Ar base a M vars most w.drew ns := h.same rfl rfl rfl
 have hmd : MapIs intE w.drew K n mk := hm.same rfl
 have v16 := h.vars16
 have wf := h.wf
 have hva := va_le wf hf
 have hcl := cn_le (vars := vars) (ns := ns) f
 have hl : ns.length <= 40000 := Nat.le_trans h.le h.most4
 have hwr : IntKind.i64.wrap ((cn vars ns f : Int) * 2 ^ (nv ns f - v - 1)) = ((cn vars ns f * 2 ^ (nv ns f - v - 1) : Nat) : Int) := by
  have p1 : cn vars ns f * 2 ^ (nv ns f - v - 1) <= 2 ^ (vars - nv ns f) * 2 ^ (nv ns f - v - 1) := Nat.mul_le_mul_right _ hcl
  rw [<- Nat.pow_add] at p1
  have p2 : 2 ^ (vars - nv ns f + (nv ns f - v - 1)) <= 2 ^ 16 := Nat.pow_le_pow_right (by omega) (by omega)
  have e : (cn vars ns f : Int) * 2 ^ (nv ns f - v - 1) = ((cn vars ns f * 2 ^ (nv ns f - v - 1) : Nat) : Int) := by simp
  rw [e, IntWalk.i64_in _ (by omega)]
 have wr1 : IntKind.i64.wrap ((nv ns f : Int) - (v : Int)) = (nv ns f : Int) - (v : Int) := IntWalk.i64_in _ (by omega)
 have wr2 : IntKind.i64.wrap ((nv ns f : Int) - (v : Int) - 1) = (nv ns f : Int) - (v : Int) - 1 := IntWalk.i64_in _ (by omega)
 obtain ⟨cap, a0, a1, a2, a3, af, an⟩ := h.reads
 obtain ⟨n0, n1, n2⟩ := an f hf
 have hkeep : ∀ n1 mk1 w1, w.drew.grownBy w1 (some K) -> MapIs intE w1 K n1 mk1 -> w1.cell? ⟨a, 2, none⟩ = some (.slice (some ⟨rowOf w a, 0, none⟩) ns.length cap) ∧ w1.cell? ⟨rowOf w a, f * 3, none⟩ = some (.int .i64 (nv ns f : Int)) := fun n1 mk1 w1 hg hm1 => by
  obtain ⟨es, clock, hb⟩ := hm.isMap
  obtain ⟨g, cap', cs, t, hba, _⟩ := h.blk
  obtain ⟨cur, hr, _, rl⟩ := h.row
  have k1 : a ≠ K := fun e => by rw [<- e, hba] at hb; simp at hb
  have k2 : rowOf w a ≠ K := fun e => by rw [<- e, hr] at hb; simp at hb
  exact ⟨(hg.cell_far ⟨a, 2, none⟩ h.lta (by simpa using k1)).trans a2, (hg.cell_far ⟨rowOf w a, f * 3, none⟩ rl (by simpa using k2)).trans n0⟩
 have hwr' := Hq.mk hwr
 clear h an hm hwr
 generalize rowOf w a = g at *
 go_enter Tryz.func102, Tryz.ntmps102
 go_wp2_with fail
 go_region_held3 (fun w' => w'.cell? ⟨a, 2, none⟩ = some (.slice (some ⟨g, 0, none⟩) ns.length cap) ∧ w'.cell? ⟨g, f * 3, none⟩ = some (.int .i64 (nv ns f : Int))) (go_keep)
  (first | (go_at_call 71; refine (hc.out _ n mk hA hmd hmn hN).mono ?_; rintro e w1 ⟨n', mk', rfl, hg, hM, hmm, hn⟩; obtain ⟨q1, q2⟩ := hkeep _ _ _ hg hM))
 have hfin : CountPost vars w ns K n (2 ^ k - 1) (cn vars ns f * 2 ^ (nv ns f - v - 1)) (.returned (.int .i64 (IntKind.i64.wrap ((cn vars ns f : Int) * 2 ^ (nv ns f - v - 1))))) w1 := ⟨n', mk', by rw [hwr'.out], ⟨hg.os, hg.tape, hg.output, hg.size, hg.block⟩, hM, hmm, hn⟩
 go_wp2_with fail
 go_ret
 exact hfin
theorem count_small (w : World) (K : Nat) {f : Nat} (hf : f <= 1) : Calls Tryz.prog 71 #[.pointer (some ⟨a, 0, none⟩), .int .i64 (f : Int), .map (some K)] w fun e w' => e = .returned (.int .i64 (f : Int)) ∧ w' = w := by
 have t1 : decide ((f : Int) <= 1) = true := by simp; omega
 go_enter Tryz.func71, Tryz.ntmps71
 go_wp2_with fail
 go_ret
 exact ⟨rfl, rfl⟩
theorem count_hit (hm : MapIs intE w K n mk) {f c : Nat} (f2 : 2 <= f) (hf : f < 9223372036854775808) (hc : mk f = some c) :
  Calls Tryz.prog 71 #[.pointer (some ⟨a, 0, none⟩), .int .i64 (f : Int), .map (some K)] w fun e w' => e = .returned (.int .i64 (c : Int)) ∧ w' = w := by
 have t1 : decide ((f : Int) <= 1) = false := by simp; omega
 have hlook := hm.look Tryz.u47 (x := f) hf
 rw [hc] at hlook
 simp only [intE, Option.getD_some, Option.isSome_some] at hlook
 clear hm
 go_enter Tryz.func71, Tryz.ntmps71
 go_wp2_with fail
 go_ret
 exact ⟨rfl, rfl⟩
theorem count_miss (h : Ar base a M vars most w ns) (hm : MapIs intE w K n mk) (hKM : K ≠ M) (hmn : MemoN vars ns mk) {f k : Nat} (f2 : 2 <= f) (hf : f < ns.length) (hr : mk f = none) (hk : vars <= nv ns f + (k + 1)) (hN : n + 2 ^ (k + 1) <= 1099511627776)
  (ih : Hq (∀ w n mk f, Ar base a M vars most w ns -> MapIs intE w K n mk -> MemoN vars ns mk -> f < ns.length -> vars <= nv ns f + k -> n + 2 ^ k <= 1099511627776 -> Calls Tryz.prog 71 #[.pointer (some ⟨a, 0, none⟩), .int .i64 (f : Int), .map (some K)] w (CountPost vars w ns K n (2 ^ k - 1) (cn vars ns f)))) :
  Calls Tryz.prog 71 #[.pointer (some ⟨a, 0, none⟩), .int .i64 (f : Int), .map (some K)] w (CountPost vars w ns K n (2 ^ (k + 1) - 1) (cn vars ns f)) := by
 have wf := h.wf
 have v16 := h.vars16
 have hv := wf.va f f2 hf
 have l1 := wf.lo f f2 hf
 have l2 := wf.hi f f2 hf
 have v1 := wf.vlo f f2 hf
 have v2 := wf.vhi f f2 hf
 have hl : ns.length <= 40000 := Nat.le_trans h.le h.most4
 have hp2 : 2 ^ (k + 1) = 2 * 2 ^ k := by rw [Nat.pow_succ]; omega
 have hp1 : 1 <= 2 ^ k := Nat.one_le_two_pow
 have t1 : decide ((f : Int) <= 1) = false := by simp; omega
 have hlook := hm.look Tryz.u47 (x := f) (by show f < _; omega)
 rw [hr] at hlook
 simp only [intE, Option.getD_none, Option.isSome_none] at hlook
 obtain ⟨cap, a0, a1, a2, a3, af, an⟩ := h.reads
 obtain ⟨n0, n1, n2⟩ := an f hf
 have lK := hm.lt
 have hcn := cn_node wf f2 hf
 have hle := cn_le (vars := vars) (ns := ns) f
 have hle2 : cn vars ns f <= 65536 := Nat.le_trans hle (by have : 2 ^ (vars - nv ns f) <= 2 ^ 16 := Nat.pow_le_pow_right (by omega) (by omega); omega)
 -- the two halves, and what they leave
 have hA0 : Ar base a M vars most (w.alloc (.cells #[.int .i64 (nv ns f : Int), .int .i64 (nl ns f : Int), .int .i64 (nh ns f : Int)] 134)).drew ns := (h.alloc _).same rfl rfl rfl
 have hm0 : MapIs intE (w.alloc (.cells #[.int .i64 (nv ns f : Int), .int .i64 (nl ns f : Int), .int .i64 (nh ns f : Int)] 134)).drew K n mk := hm.same (Below.heap_alloc w _ K lK)
 have low : Hq (Calls Tryz.prog 102 #[.pointer (some ⟨a, 0, none⟩), .int .i64 (nl ns f : Int), .int .i64 (nv ns f : Int), .map (some K)] (w.alloc (.cells #[.int .i64 (nv ns f : Int), .int .i64 (nl ns f : Int), .int .i64 (nh ns f : Int)] 134)).drew
   (CountPost vars (w.alloc (.cells #[.int .i64 (nv ns f : Int), .int .i64 (nl ns f : Int), .int .i64 (nh ns f : Int)] 134)).drew ns K n (2 ^ k - 1) (cn vars ns (nl ns f) * 2 ^ (nv ns (nl ns f) - nv ns f - 1)))) :=
  ⟨countBelow_of hA0 hm0 hmn (by omega) v1 (by omega) ⟨fun w n mk q1 q2 q3 q4 => ih.out w n mk _ q1 q2 q3 (by omega) (by omega) q4⟩⟩
 have high : Hq (∀ (n' : Nat) (mk' : Nat -> Option Nat) (w1 : World), (w.alloc (.cells #[.int .i64 (nv ns f : Int), .int .i64 (nl ns f : Int), .int .i64 (nh ns f : Int)] 134)).drew.grownBy w1 (some K) -> MapIs intE w1 K n' mk' -> MemoN vars ns mk' -> n' <= n + (2 ^ k - 1) ->
   (w1.cell? ⟨w.heap.size, 0, none⟩ = some (.int .i64 (nv ns f : Int)) ∧ w1.cell? ⟨w.heap.size, 1, none⟩ = some (.int .i64 (nl ns f : Int)) ∧ w1.cell? ⟨w.heap.size, 2, none⟩ = some (.int .i64 (nh ns f : Int))) ∧
   Calls Tryz.prog 102 #[.pointer (some ⟨a, 0, none⟩), .int .i64 (nh ns f : Int), .int .i64 (nv ns f : Int), .map (some K)] w1 (CountPost vars w1 ns K n' (2 ^ k - 1) (cn vars ns (nh ns f) * 2 ^ (nv ns (nh ns f) - nv ns f - 1)))) :=
  ⟨fun n' mk' w1 hg hm1 hmm hn => by
   have hne : some w.heap.size ≠ some K := by simp; omega
   refine ⟨⟨?_, ?_, ?_⟩, countBelow_of (hA0.grownK hm0 hKM hg).1 hm1 hmm (by omega) v2 (by omega) ⟨fun w n mk q1 q2 q3 q4 => ih.out w n mk _ q1 q2 q3 (by omega) (by omega) q4⟩⟩
   ·rw [hg.cell_far ⟨w.heap.size, 0, none⟩ (by simp) hne]; simp
   ·rw [hg.cell_far ⟨w.heap.size, 1, none⟩ (by simp) hne]; simp
   ·rw [hg.cell_far ⟨w.heap.size, 2, none⟩ (by simp) hne]; simp⟩
 have keep2 : Hq (∀ w1 w2 : World, w1.grownBy w2 (some K) -> w.heap.size < w1.heap.size -> (w1.cell? ⟨w.heap.size, 0, none⟩ = some (.int .i64 (nv ns f : Int)) ∧ w1.cell? ⟨w.heap.size, 1, none⟩ = some (.int .i64 (nl ns f : Int)) ∧ w1.cell? ⟨w.heap.size, 2, none⟩ = some (.int .i64 (nh ns f : Int))) ->
   (w2.cell? ⟨w.heap.size, 0, none⟩ = some (.int .i64 (nv ns f : Int)) ∧ w2.cell? ⟨w.heap.size, 1, none⟩ = some (.int .i64 (nl ns f : Int)) ∧ w2.cell? ⟨w.heap.size, 2, none⟩ = some (.int .i64 (nh ns f : Int)))) :=
  ⟨fun w1 w2 hg hs ⟨c0, c1, c2⟩ => by
   have hne : some w.heap.size ≠ some K := by simp; omega
   exact ⟨(hg.cell_far ⟨w.heap.size, 0, none⟩ hs hne).trans c0, (hg.cell_far ⟨w.heap.size, 1, none⟩ hs hne).trans c1, (hg.cell_far ⟨w.heap.size, 2, none⟩ hs hne).trans c2⟩⟩
 generalize hcl : cn vars ns (nl ns f) * 2 ^ (nv ns (nl ns f) - nv ns f - 1) = xl at *
 generalize hch : cn vars ns (nh ns f) * 2 ^ (nv ns (nh ns f) - nv ns f - 1) = xh at *
 have wr : IntKind.i64.wrap ((xl : Int) + (xh : Int)) = (xl : Int) + (xh : Int) := IntWalk.i64_in _ (by omega)
 have hcn' := Hq.mk hcn
 clear h an hm hcn
 generalize rowOf w a = g at *
 go_enter Tryz.func71, Tryz.ntmps71
 go_wp2_with fail
 go_cut [10] (fun v wx => v = .int .i64 ((cn vars ns f : Nat) : Int) ∧ ∃ n2 mk2, w.grownBy wx (some K) ∧ MapIs intE wx K n2 mk2 ∧ MemoN vars ns mk2 ∧ n2 <= n + (2 ^ k - 1) + (2 ^ k - 1))
 case first =>
  go_region_held3 (fun w' => w'.cell? ⟨w.heap.size, 0, none⟩ = some (.int .i64 (nv ns f : Int)) ∧ w'.cell? ⟨w.heap.size, 1, none⟩ = some (.int .i64 (nl ns f : Int)) ∧ w'.cell? ⟨w.heap.size, 2, none⟩ = some (.int .i64 (nh ns f : Int))) (first | go_keep | exact ⟨by assumption, by assumption, by assumption⟩)
   (first
     | (go_at_call_of 102 (Value.int .i64 (nl ns f : Int)); refine low.out.mono ?_; rintro e w1 ⟨n', mk', rfl, hg1, hM1, hmm1, hn1⟩; obtain ⟨⟨c0, c1, c2⟩, hcall⟩ := high.out _ _ _ hg1 hM1 hmm1 hn1; have hcall' := Hq.mk hcall; clear hcall)
     | (go_at_call_of 102 (Value.int .i64 (nh ns f : Int)); refine hcall'.out.mono ?_; rintro e w2 ⟨n'', mk'', rfl, hg2, hM2, hmm2, hn2⟩; obtain ⟨d0, d1, d2⟩ := keep2.out _ _ hg2 (Nat.lt_of_lt_of_le (by simp) hg1.size) ⟨c0, c1, c2⟩))
  go_wp2_with fail
  go_meet
  exact ⟨by rw [show ((cn vars ns f : Nat) : Int) = (xl : Int) + (xh : Int) by have := hcn'.out; omega], n'', mk'', (World.grownBy_alloc w _ (some K)).trans (World.grownBy.trans ⟨hg1.os, hg1.tape, hg1.output, hg1.size, hg1.block⟩ hg2), hM2, hmm2, by omega⟩
 case rest =>
  obtain ⟨rfl, n2, mk2, hg, hM, hmm, hn⟩ := hcut
  obtain ⟨w8, hrun, hM8, hg8⟩ := hM.store Tryz.u47 (by unfold maxLen; omega) (x := f) (by show f < _; omega) (v := cn vars ns f) (by omega)
  simp only [intE] at hrun
  have hfin : CountPost vars w ns K n (2 ^ (k + 1) - 1) (cn vars ns f) (.returned (.int .i64 ((cn vars ns f : Nat) : Int))) w8 := ⟨n2 + 1, _, rfl, hg.trans hg8, hM8, hmm.upd f, by omega⟩
  clear hM hM8
  go_wp2_with fail
  go_ret
  exact hfin
theorem count_any (hKM : K ≠ M) : ∀ (k : Nat) (w : World) (n : Nat) (mk : Nat -> Option Nat) (f : Nat), Ar base a M vars most w ns -> MapIs intE w K n mk -> MemoN vars ns mk -> f < ns.length -> vars <= nv ns f + k -> n + 2 ^ k <= 1099511627776 ->
  Calls Tryz.prog 71 #[.pointer (some ⟨a, 0, none⟩), .int .i64 (f : Int), .map (some K)] w (CountPost vars w ns K n (2 ^ k - 1) (cn vars ns f)) := by
 intro k
 have small : ∀ (w : World) (n g : Nat) (mk : Nat -> Option Nat) (f : Nat), Ar base a M vars most w ns -> MapIs intE w K n mk -> MemoN vars ns mk -> f <= 1 -> Calls Tryz.prog 71 #[.pointer (some ⟨a, 0, none⟩), .int .i64 (f : Int), .map (some K)] w (CountPost vars w ns K n g (cn vars ns f)) := by
  intro w n g mk f h hm hmn h1
  refine (count_small w K h1).mono ?_
  rintro e w' ⟨rfl, rfl⟩
  refine ⟨n, mk, ?_, ⟨rfl, rfl, rfl, Nat.le_refl _, fun _ _ _ => rfl⟩, hm, hmn, by omega⟩
  match f, h1 with
  | 0, _ => rw [cn_0 h.wf]
  | 1, _ => rw [cn_1 h.wf]
  | f + 2, h1 => omega
 induction k with
 | zero =>
   intro w n mk f h hm hmn hf hk hN
   refine small w n _ mk f h hm hmn ?_
   by_cases f2 : 2 <= f
   ·have := h.wf.va f f2 hf; omega
   ·omega
 | succ k ih =>
   intro w n mk f h hm hmn hf hk hN
   by_cases f2 : 2 <= f
   ·cases hr : mk f with
    | none => exact count_miss h hm hKM hmn f2 hf hr hk hN ⟨ih⟩
    | some c =>
      have hl : ns.length <= 40000 := Nat.le_trans h.le h.most4
      refine (count_hit hm f2 (by omega) hr).mono ?_
      rintro e w' ⟨rfl, rfl⟩
      exact ⟨n, mk, by rw [hmn f c hr], ⟨rfl, rfl, rfl, Nat.le_refl _, fun _ _ _ => rfl⟩, hm, hmn, by omega⟩
   ·exact small w n _ mk f h hm hmn (by omega)
end
section
variable {base a M vars most : Nat} {w : World} {ns : List Nd}
end
section
variable {base a M vars most : Nat} {w : World} {ns : List Nd}
theorem count_b (h : Ar base a M vars most w ns) {f : Nat} (hf : f < ns.length) :
  Calls Tryz.prog 42 #[.pointer (some ⟨a, 0, none⟩), .int .i64 (f : Int)] w fun e w' => e = .returned (.tuple #[.int .i64 ((cn vars ns f * 2 ^ nv ns f : Nat) : Int), .int .i64 0]) ∧ Below w.heap.size w w' := by
 have hmm := @run_makeMap Tryz.prog
 have la := h.lta
 have lM := h.ltM
 have v16 := h.vars16
 have wf := h.wf
 have hva := va_le wf hf
 have hcl := cn_le (vars := vars) (ns := ns) f
 have hl : ns.length <= 40000 := Nat.le_trans h.le h.most4
 have hA : Ar base a M vars most (w.alloc (.map #[] 0)).drew ns := (h.alloc _).same rfl rfl rfl
 have hm : MapIs intE (w.alloc (.map #[] 0)).drew w.heap.size 0 (fun _ => none) := (mapIs_made intE w).same rfl
 have hpw : 2 ^ vars <= 2 ^ 16 := Nat.pow_le_pow_right (by omega) v16
 have hc := Hq.mk (count_any (base := base) (a := a) (most := most) (ns := ns) (M := M) (K := w.heap.size) (by omega) vars _ 0 _ f hA hm (fun _ _ e => by cases e) hf (Nat.le_add_left _ _) (by omega))
 have hwr : IntKind.i64.wrap ((cn vars ns f : Int) * 2 ^ nv ns f) = ((cn vars ns f * 2 ^ nv ns f : Nat) : Int) := by
  have p1 : cn vars ns f * 2 ^ nv ns f <= 2 ^ (vars - nv ns f) * 2 ^ nv ns f := Nat.mul_le_mul_right _ hcl
  rw [<- Nat.pow_add, show vars - nv ns f + nv ns f = vars by omega] at p1
  have e : (cn vars ns f : Int) * 2 ^ nv ns f = ((cn vars ns f * 2 ^ nv ns f : Nat) : Int) := by simp
  rw [e, IntWalk.i64_in _ (by omega)]
 have hwr' := Hq.mk hwr
 have t1 : (decide ((0 : Int) <= (f : Int)) && decide ((f : Int) < (ns.length : Int))) = true := by simp; omega
 have hkeep : ∀ w1 : World, (w.alloc (.map #[] 0)).drew.grownBy w1 (some w.heap.size) -> Below w.heap.size w w1 := fun w1 hg => by
  refine ⟨hg.os, hg.tape, hg.output, ?_, fun i hi => ?_⟩
  ·have := hg.size; simp only [heap_drew, World.size_alloc] at this; omega
  ·rw [hg.block i (by simp; omega) (by simp; omega), heap_drew, Below.heap_alloc _ _ _ hi]
 obtain ⟨cap, a0, a1, a2, a3, af, an⟩ := h.reads
 obtain ⟨n0, n1, n2⟩ := an f hf
 have hcell : ∀ w1 : World, (w.alloc (.map #[] 0)).drew.grownBy w1 (some w.heap.size) -> w1.cell? ⟨a, 2, none⟩ = some (.slice (some ⟨rowOf w a, 0, none⟩) ns.length cap) ∧ w1.cell? ⟨rowOf w a, f * 3, none⟩ = some (.int .i64 (nv ns f : Int)) := fun w1 hg => by
  obtain ⟨_, _, _, rl⟩ := h.row
  refine ⟨?_, ?_⟩
  ·rw [hg.cell_far ⟨a, 2, none⟩ (by simp; omega) (by simp; omega)]
   simp [*, World.cell?_alloc_some]
  ·rw [hg.cell_far ⟨rowOf w a, f * 3, none⟩ (by simp; omega) (by simp; omega)]
   simp [*, World.cell?_alloc_some]
 have hch := Hq.mk hkeep
 have rl : rowOf w a < w.heap.size := by obtain ⟨_, _, _, rl⟩ := h.row; exact rl
 clear an hm hwr hA hkeep
 generalize rowOf w a = g at *
 go_enter Tryz.func42, Tryz.ntmps42
 go_wp2_with (go_at_call 63; refine (hasFunction_any h (f : Int)).mono ?_; rintro e w' ⟨rfl, rfl⟩; rw [t1])
 go_region_held3 (fun w1 => w1.cell? ⟨a, 2, none⟩ = some (.slice (some ⟨g, 0, none⟩) ns.length cap) ∧ w1.cell? ⟨g, f * 3, none⟩ = some (.int .i64 (nv ns f : Int))) (go_keep)
  (first | (go_at_call 71; refine hc.out.mono ?_; rintro e w1 ⟨n', mk', rfl, hg, hM, hmm, hn⟩; obtain ⟨q1, q2⟩ := hcell _ hg))
 have r2 := hch.out _ hg
 go_wp2_with fail
 go_ret2
 refine ⟨?_, r2⟩
 rw [<- hwr'.out]
 rfl
end
theorem four_last {a b c f : Prop} (h : a ∧ b ∧ c ∧ Hd f) : f := h.2.2.2.out
def cntE (φ : Env -> Bool) : Nat := T 14 0 φ e00
theorem rcount_any {bR R MR most n : Nat} {sl : Value} {xs : List Value} {ns : List Nd} {p q : Int} {s : Nat -> Nat -> Nat -> Nat} {w : World} (hRc : Rc bR R MR most sl (n + 1) xs ns w) (hs : Hd (HistN s (n + 1) xs ns)) (hn : n < 1000000) :
  Calls Tryz.prog 19 #[.pointer (some ⟨R, 0, none⟩), .agg #[.int .i64 p, .int .i64 q]] w fun e w' => e = .returned (.int .i64 (cntE (ev ns (atN (s n) p q)) : Int)) ∧ Below w.heap.size w w' := by
 have D1 : Below w.heap.size w (w.alloc (.cells #[.int .i64 p, .int .i64 q] 43)) := Below.alloc' (Below.refl _ w) _
 have b0 : Bz (w.alloc (.cells #[.int .i64 p, .int .i64 q] 43)) w.heap.size #[.int .i64 p, .int .i64 q] 43 := Bz.new w _ _ _ rfl
 have h1 := hRc.below D1
 obtain ⟨g, cap, rfl, lg, hcap, hcm, hlen, hcell⟩ := h1.sl
 unfold maxLen at hcm
 have HSV : Hd (SetsV (((xs.drop (n * 40)).take 40).toArray) (s n)) := ⟨hs.out.sets (by omega) hlen⟩
 obtain ⟨cs, hcs⟩ : ∃ cs : Array Value, cs = ((xs.drop (n * 40)).take 40).toArray := ⟨_, rfl⟩
 rw [<- hcs] at HSV
 have h40 : Hd (cs.size = 40) := ⟨HSV.out.1⟩
 have RG : Hd ((w.alloc (.cells #[.int .i64 p, .int .i64 q] 43)).rangeAt g (n * 40) cs.toList) := ⟨fun j v hj => by
  rw [hcs] at hj
  have h2 : (xs.drop (n * 40))[j]? = some v := by
   have hj' : ((xs.drop (n * 40)).take 40)[j]? = some v := by simpa using hj
   rw [List.getElem?_take] at hj'
   split at hj'
   ·exact hj'
   ·cases hj'
  rw [List.getElem?_drop] at h2
  exact hcell _ _ h2⟩
 have fn : atN (s n) p q < ns.length := hs.out.at_lt (by omega) h1.ar.wf p q
 obtain ⟨KK, hKK⟩ : ∃ KK : World -> Prop, KK = fun V => Below (w.alloc (.cells #[.int .i64 p, .int .i64 q] 43)).heap.size (w.alloc (.cells #[.int .i64 p, .int .i64 q] 43)) V := ⟨_, rfl⟩
 have RO : Hd (∀ V, KK V -> Calls Tryz.prog 22 #[.pointer (some ⟨R, 0, none⟩)] V fun e w' => e = .returned (.int .i64 (n : Int)) ∧ w' = V) := ⟨fun V hV => by rw [hKK] at hV; exact rounds_any (h1.below hV) hn⟩
 have AT : Hd (∀ V, Calls Tryz.prog 39 #[.agg cs, .agg #[.int .i64 p, .int .i64 q]] V fun e w' => e = .returned (.int .i64 (atN (s n) p q : Int)) ∧ Below V.heap.size V w') := ⟨fun V => at_any cs (s n) p q V HSV.out⟩
 have CT : Hd (∀ V, KK V -> Calls Tryz.prog 42 #[.pointer (some ⟨R, 0, none⟩), .int .i64 (atN (s n) p q : Int)] V fun e w' => e = .returned (.tuple #[.int .i64 (cntE (ev ns (atN (s n) p q)) : Int), .int .i64 0]) ∧ Below V.heap.size V w') := ⟨fun V hV => by
  rw [hKK] at hV
  refine (count_b (h1.ar.below hV) fn).mono fun e w' ⟨a1, a2⟩ => ⟨?_, a2⟩
  rw [a1, cn_all h1.ar.wf fn e00]
  rfl⟩
 have KS : Hd (∀ V V' : World, Below V.heap.size V V' -> (V.cell? ⟨R, 4, none⟩ = some (.slice (some ⟨g, 0, none⟩) (n + 1) cap) ∧ V.cell? ⟨w.heap.size, 0, none⟩ = some (.int .i64 p) ∧ V.cell? ⟨w.heap.size, 1, none⟩ = some (.int .i64 q) ∧ Hd (V.rangeAt g (n * 40) cs.toList)) -> (V'.cell? ⟨R, 4, none⟩ = some (.slice (some ⟨g, 0, none⟩) (n + 1) cap) ∧ V'.cell? ⟨w.heap.size, 0, none⟩ = some (.int .i64 p) ∧ V'.cell? ⟨w.heap.size, 1, none⟩ = some (.int .i64 q) ∧ Hd (V'.rangeAt g (n * 40) cs.toList))) := ⟨fun V V' k ⟨a1, a2, a3, a4⟩ => ⟨below_cell k a1, below_cell k a2, below_cell k a3, ⟨fun j v hj => below_cell k (a4.out j v hj)⟩⟩⟩
 have KB : Hd (∀ V V' : World, Below V.heap.size V V' -> KK V -> KK V') := ⟨fun V V' k h => by rw [hKK] at h ⊢; exact chain k h⟩
 have KD : Hd (∀ V, KK V -> Below w.heap.size w V) := ⟨fun V h => by rw [hKK] at h; exact chain h D1⟩
 have K0 : KK (w.alloc (.cells #[.int .i64 p, .int .i64 q] 43)).drew := by rw [hKK]; exact (Below.refl _ _).drew
 have S0 : (w.alloc (.cells #[.int .i64 p, .int .i64 q] 43)).drew.cell? ⟨R, 4, none⟩ = some (.slice (some ⟨g, 0, none⟩) (n + 1) cap) ∧ (w.alloc (.cells #[.int .i64 p, .int .i64 q] 43)).drew.cell? ⟨w.heap.size, 0, none⟩ = some (.int .i64 p) ∧ (w.alloc (.cells #[.int .i64 p, .int .i64 q] 43)).drew.cell? ⟨w.heap.size, 1, none⟩ = some (.int .i64 q) ∧ Hd ((w.alloc (.cells #[.int .i64 p, .int .i64 q] 43)).drew.rangeAt g (n * 40) cs.toList) := ⟨h1.c4, b0.cell 0 _ rfl, b0.cell 1 _ rfl, ⟨RG.out⟩⟩
 have c4 : (w.alloc (.cells #[.int .i64 p, .int .i64 q] 43)).cell? ⟨R, 4, none⟩ = some (.slice (some ⟨g, 0, none⟩) (n + 1) cap) := h1.c4
 have t0 : (((n + 1 : Nat) : Int) == 0) = false := by simp; omega
 have t0' : ((n : Int) + 1 == 0) = false := by simp; omega
 have i1 : (n : Int) < (n : Int) + 1 := by omega
 have i2 : (0 : Int) <= (n : Int) := by omega
 have hR : R < w.heap.size := hRc.lt
 generalize cntE (ev ns (atN (s n) p q)) = r at *
 generalize atN (s n) p q = f at *
 clear hRc h1 b0 hcell HSV RG hs fn hKK D1 hcs hlen
 go_enter Tryz.func19, Tryz.ntmps19
 go_upto_region 3 with fail
 refine wp_region_held_drew (S := fun V => V.cell? ⟨R, 4, none⟩ = some (.slice (some ⟨g, 0, none⟩) (n + 1) cap) ∧ V.cell? ⟨w.heap.size, 0, none⟩ = some (.int .i64 p) ∧ V.cell? ⟨w.heap.size, 1, none⟩ = some (.int .i64 q) ∧ Hd (V.rangeAt g (n * 40) cs.toList)) (by kernel_rfl) S0 (fun hHeld => ?_)
 refine tk 0 ?_ (hy := by (intro w hSw; obtain ⟨s0, s1, s2, _⟩ := hSw; go_simp; (try with_reducible rfl))); try simp only [ly]
 refine tk 1 ?_ (hy := by (intro w hSw; obtain ⟨s0, s1, s2, _⟩ := hSw; go_simp; (try with_reducible rfl))); try simp only [ly]
 refine tk 2 ?_ (hy := by (intro w hSw; obtain ⟨s0, s1, s2, _⟩ := hSw; go_simp; (try with_reducible rfl))); try simp only [ly]
 refine tk 3 ?_ (hy := by (intro w hSw; obtain ⟨s0, s1, s2, _⟩ := hSw; go_simp; (try with_reducible rfl))); try simp only [ly]
 refine tk 4 ?_ (hy := by (intro w hSw; obtain ⟨s0, s1, s2, _⟩ := hSw; go_simp; (try with_reducible rfl))); try simp only [ly]
 refine tk 5 ?_ (hy := by (intro w hSw; obtain ⟨s0, s1, s2, _⟩ := hSw; go_simp; (try with_reducible rfl))); try simp only [ly]
 refine tk 6 ?_ (hy := by (intro w hSw; obtain ⟨s0, s1, s2, _⟩ := hSw; go_simp; (try with_reducible rfl))); try simp only [ly]
 refine tk 7 ?_ (hy := by (intro w hSw; obtain ⟨s0, s1, s2, _⟩ := hSw; go_simp; (try with_reducible rfl))); try simp only [ly]
 refine tk 11 ?_ (hy := by (intro w hSw; obtain ⟨s0, s1, s2, _⟩ := hSw; go_simp; (try with_reducible rfl))); try simp only [ly]
 refine rd 8 (fun K hK => ?_)
 go_simp
 (with_reducible refine (RO.out _ K0).mono ?_)
 rintro e w2 ⟨rfl, rfl⟩
 dsimp only
 refine hK.out _ _ (hHeld) (fun hHeld => ?_)
 clear hK K
 try simp only [ly]
 refine tk 9 ?_ (hy := by (intro w hSw; go_simp; (try with_reducible rfl))); try simp only [ly]
 refine' wpAnyH_take (i := 10) (v := .agg cs) rfl (by kernel_rfl) (by kernel_rfl) (by kernel_rfl) (fun _ _ _ h => h) (yieldsIf_load_mid (by rfl) 100 _ rfl g (n * 40) rfl cs.toList _ (fun W hS => four_last hS) uSets rfl (by rw [Array.length_toList, h40.out]; exact iSets)) (by assumption) ?gr11
 try simp only [ly]
 refine rd 12 (fun K hK => ?_)
 go_simp
 (with_reducible refine (AT.out _).mono ?_)
 rintro e w3 ⟨rfl, hb3⟩
 have S3 := KS.out _ _ hb3 hHeld
 have K3 := KB.out _ _ hb3 K0
 dsimp only
 clear hHeld
 refine hK.out _ _ (S3) (fun hHeld => ?_)
 clear hK K
 try simp only [ly]
 refine rd 13 (fun K hK => ?_)
 go_simp
 (with_reducible refine (CT.out _ K3).mono ?_)
 rintro e w4 ⟨rfl, hb4⟩
 have S4 := KS.out _ _ hb4 hHeld
 have K4 := KB.out _ _ hb4 K3
 dsimp only
 clear hHeld
 refine hK.out _ _ (S4) (fun hHeld => ?_)
 clear hK K
 try simp only [ly]
 refine tk 14 ?_ (hy := by (intro w hSw; go_simp; (try with_reducible rfl))); try simp only [ly]
 refine tk 15 ?_ (hy := by (intro w hSw; go_simp; (try with_reducible rfl))); try simp only [ly]
 refine tk 16 ?_ (hy := by (intro w hSw; go_simp; (try with_reducible rfl))); try simp only [ly]
 refine tk 17 ?_ (hy := by (intro w hSw; go_simp; (try with_reducible rfl))); try simp only [ly]
 refine tk 18 ?_ (hy := by (intro w hSw; go_simp; (try with_reducible rfl))); try simp only [ly]
 refine wpAnyH_done (by kernel_rfl) ?_ _
 have D9 := KD.out _ K4
 go_wp2_with fail
 go_ret
 exact ⟨rfl, D9⟩
section
variable {ds : List Dv} {ls : List Lk}
theorem setF_up {k j : Nat} (h : k <= j) (a b : Nat) (x : Env) (hx : SetF ds ls k a b x = true) : SetF ds ls j a b x = true := by
 induction j with
 | zero =>
   obtain rfl : k = 0 := by omega
   exact hx
 | succ j ih =>
   by_cases e : k = j + 1
   ·rw [<- e]; exact hx
   ·exact (setF_succ j a b x).2 (Or.inl (ih (by omega)))
noncomputable def atF (ds : List Dv) (ls : List Lk) (k : Nat) (p q : Int) : Env -> Bool := if (0 <= p ∧ p < 10) ∧ (0 <= q ∧ q < 4) then SetF ds ls k p.toNat q.toNat else fun _ => false
theorem atF_up {k j : Nat} (h : k <= j) (p q : Int) (x : Env) (hx : atF ds ls k p q x = true) : atF ds ls j p q x = true := by
 unfold atF at *
 split at hx
 ·rename_i hc
  rw [if_pos hc]
  exact setF_up h _ _ x hx
 ·cases hx
theorem atF_in (k : Nat) {a b : Nat} (ha : a < 10) (hb : b < 4) : atF ds ls k (a : Int) (b : Int) = SetF ds ls k a b := by
 unfold atF
 rw [if_pos (by omega)]
 rfl
end
structure RcF (ds : List Dv) (ls : List Lk) (bR R MR most K : Nat) (sl : Value) (xs : List Value) (ns : List Nd) (s : Nat -> Nat -> Nat -> Nat) (W : World) : Prop where
 rc : Rc bR R MR most sl (K + 1) xs ns W
 hist : HistN s (K + 1) xs ns
 fn : ∀ j a b, j < K + 1 -> a < 10 -> b < 4 -> ev ns (s j a b) = SetF ds ls j a b
 up : ∀ j, j < K -> cntF ds ls j < cntF ds ls (j + 1)
 fix : ∀ a b, a < 10 -> b < 4 -> SetF ds ls (K + 1) a b = SetF ds ls K a b
section
variable {ds : List Dv} {ls : List Lk} {bR R MR most K : Nat} {sl : Value} {xs : List Value} {ns : List Nd} {s : Nat -> Nat -> Nat -> Nat} {W W' : World}
theorem RcF.below (h : RcF ds ls bR R MR most K sl xs ns s W) (hb : Below W.heap.size W W') : RcF ds ls bR R MR most K sl xs ns s W' := ⟨h.rc.below hb, h.hist, h.fn, h.up, h.fix⟩
theorem RcF.lt (h : RcF ds ls bR R MR most K sl xs ns s W) : K < 1000000 := by
 have h1 := cnt_ge h.up
 have h2 := cntF_le (ds := ds) (ls := ls) K
 omega
theorem RcF.at (h : RcF ds ls bR R MR most K sl xs ns s W) {j : Nat} (hj : j < K + 1) (p q : Int) : ev ns (atN (s j) p q) = atF ds ls j p q := by
 unfold atN atF
 split
 ·rename_i hc
  exact h.fn j _ _ hj (by omega) (by omega)
 ·exact funext fun x => ev0 _ x
theorem RNewOut.made {EE : Prop} {w : World} {e : Ending} {w' : World} (h : RNewOut ds ls most EE w e w') : Below w.heap.size w w' ∧ ((∃ (bR R MR K : Nat) (sl : Value) (xs : List Value) (ns : List Nd) (s : Nat -> Nat -> Nat -> Nat), e = .returned (.tuple #[.pointer (some ⟨R, 0, none⟩), .int .i64 0]) ∧ w.heap.size <= bR ∧ RcF ds ls bR R MR most K sl xs ns s w') ∨ (e = .returned (.tuple #[.pointer none, .int .i64 6]) ∧ EE)) := by
 refine ⟨h.1, ?_⟩
 rcases h.2 with ⟨bR, R, MR, K, sl, xs, ns, h1, h2, h3, h4, h5, ⟨s, hs⟩, h7, h8⟩ | h
 ·exact Or.inl ⟨bR, R, MR, K, sl, xs, ns, s, h1, h2, ⟨⟨h3, h4, h5⟩, fun j a b hj ha hb => ⟨(hs j a b hj ha hb).1, (hs j a b hj ha hb).2.1⟩, fun j a b hj ha hb => (hs j a b hj ha hb).2.2, h7, h8⟩⟩
 ·exact Or.inr h
theorem rounds_f (h : RcF ds ls bR R MR most K sl xs ns s W) : Calls Tryz.prog 22 #[.pointer (some ⟨R, 0, none⟩)] W fun e w' => e = .returned (.int .i64 (K : Int)) ∧ w' = W := rounds_any h.rc h.lt
theorem count_f (h : RcF ds ls bR R MR most K sl xs ns s W) (p q : Int) : Calls Tryz.prog 19 #[.pointer (some ⟨R, 0, none⟩), .agg #[.int .i64 p, .int .i64 q]] W fun e w' => e = .returned (.int .i64 (cntE (atF ds ls K p q) : Int)) ∧ Below W.heap.size W w' := by
 have := rcount_any (p := p) (q := q) h.rc ⟨h.hist⟩ h.lt
 rw [h.at (by omega)] at this
 exact this
theorem round_f (h : RcF ds ls bR R MR most K sl xs ns s W) (p q a b c d : Int) (hp : pkR a b c d = true) : Calls Tryz.prog 12 #[.pointer (some ⟨R, 0, none⟩), .agg #[.int .i64 p, .int .i64 q], pk a b c d] W fun e w' => ∃ v : Int, e = .returned (.int .i64 v) ∧ Hd (RoundV K (fun i => atF ds ls i p q (envOf 14 (codeR a b c d))) v) ∧ Below W.heap.size W w' := by
 refine (round_ok (p := p) (q := q) h.rc ⟨h.hist⟩ h.lt hp ⟨fun i j hij hj he => ?_⟩).mono fun e w' ⟨v, h1, h2, h3⟩ => ⟨v, h1, ⟨?_⟩, h3⟩
 ·rw [h.at (by omega)] at he ⊢
  exact atF_up hij _ _ _ he
 ·obtain ⟨k, ⟨f1, f2, f3⟩, hv⟩ := h2.out
  refine ⟨k, ⟨f1, fun t ht => ?_, fun t ht hn => ?_⟩, hv⟩
  ·have := f2 t ht
   dsimp only at this ⊢
   rw [<- h.at (by omega)]
   exact this
  ·have := f3 t ht hn
   dsimp only at this ⊢
   rw [<- h.at (by omega)]
   exact this
end
theorem RoundV.neg {K : Nat} {P : Nat -> Bool} {v : Int} (h : RoundV K P v) : v < 0 ↔ P K = false := by
 obtain ⟨k, ⟨f1, f2, f3⟩, rfl⟩ := h
 by_cases hk : k < K + 1
 ·rw [if_pos hk, f3 K (by omega) (by omega)]
  simp
 ·rw [if_neg hk, f2 K (by omega)]
  simp
section
variable {φ ψ φ' ψ' : Env -> Bool}
end
section
variable {ds : List Dv} {ls ls' : List Lk}
end
end Go.Proofs.YtlmmeppifkigeaaGreat
