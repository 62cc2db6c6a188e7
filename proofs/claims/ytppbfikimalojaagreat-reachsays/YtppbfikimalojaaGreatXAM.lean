/-
  XAM.
-/
import Derived.Test.YtppbfikimalojaaGreatXLy
import Derived.Test.YtppbfikimalojaaGreatXAL
import Derived.Test.YtppbfikimalojaaGreatXAF
import Derived.Test.YtppbfikimalojaaGreatXAA
import Derived.Test.YtppbfikimalojaaGreatXAE
import Derived.Test.YtppbfikimalojaaGreatXAJ
import Derived.Laws.CopyRow
import Derived.Maps.OwnSet
set_option maxHeartbeats 8000000
set_option maxRecDepth 100000
namespace Go.Proofs.YtppbfikimalojaaGreat
open Go.RowKit Go.Maps
theorem earliest_round {bR R MR most n : Nat} {sl : Value} {xs : List Value} {ns : List Nd} {p q : Int} {x0 x1 : Value} {s : Nat -> Nat -> Nat -> Nat} {w : World} (hRc : Rc bR R MR most sl (n + 1) xs ns w) (hs : Hd (HistN s (n + 1) xs ns)) (hn : n < 1000000)
  (Q : Nat -> Bool) (SO : Hd (∀ (f : Nat) W,f < ns.length -> Below w.heap.size w W -> Calls Tryz.prog 41 #[.int .i64 (f : Int),x0,x1] W fun e w'=>e = .returned (.bool (Q f)) /\ Below W.heap.size W w'))
  (MO : Hd (∀ a b,a <= b -> b < n + 1 -> Q (atN (s a) p q) = true -> Q (atN (s b) p q) = true)) :
  Calls Tryz.prog 40 #[.pointer (some ⟨R,0,none⟩),.agg #[.int .i64 p,.int .i64 q],.func (.func 41) #[] #[x0,x1]] w fun e w'=>∃ k : Nat,e = .returned (.tuple #[.int .i64 (k : Int),.bool (decide (k < n + 1))]) /\ Hd (Found1 (n + 1) (fun i=>Q (atN (s i) p q)) k) /\ Below w.heap.size w w':=by
 have D3 : Below w.heap.size w (((w.alloc (.cells #[.pointer (some ⟨R,0,none⟩)] 33)).alloc (.cells #[.int .i64 p,.int .i64 q] 27)).alloc (.cells #[.func (.func 41) #[] #[x0,x1]] 110)):=Below.alloc' (Below.alloc' (Below.alloc' (Below.refl _ w) _) _) _;have R3:=hRc.below D3;have b0 : Bz (((w.alloc (.cells #[.pointer (some ⟨R,0,none⟩)] 33)).alloc (.cells #[.int .i64 p,.int .i64 q] 27)).alloc (.cells #[.func (.func 41) #[] #[x0,x1]] 110)) w.heap.size #[.pointer (some ⟨R,0,none⟩)] 33:=((Bz.new w _ _ _ rfl).al _).al _;have b1 : Bz (((w.alloc (.cells #[.pointer (some ⟨R,0,none⟩)] 33)).alloc (.cells #[.int .i64 p,.int .i64 q] 27)).alloc (.cells #[.func (.func 41) #[] #[x0,x1]] 110)) (w.heap.size + 1) #[.int .i64 p,.int .i64 q] 27:=(Bz.new _ _ _ _ (by simp)).al _;have b2 : Bz (((w.alloc (.cells #[.pointer (some ⟨R,0,none⟩)] 33)).alloc (.cells #[.int .i64 p,.int .i64 q] 27)).alloc (.cells #[.func (.func 41) #[] #[x0,x1]] 110)) (w.heap.size + 1 + 1) #[.func (.func 41) #[] #[x0,x1]] 110:=Bz.new _ _ _ _ (by simp);have SC : Hd (Calls Tryz.prog 80 #[.int .i64 ((n + 1 : Nat) : Int),.func (.func 81) #[] #[.pointer (some ⟨w.heap.size + 1 + 1,0,none⟩),.pointer (some ⟨w.heap.size,0,none⟩),.pointer (some ⟨w.heap.size + 1,0,none⟩)]] (((w.alloc (.cells #[.pointer (some ⟨R,0,none⟩)] 33)).alloc (.cells #[.int .i64 p,.int .i64 q] 27)).alloc (.cells #[.func (.func 41) #[] #[x0,x1]] 110)) fun e w'=>∃ k : Nat,e = .returned (.int .i64 (k : Int)) /\ Hd (Found1 (n + 1) (fun i=>Q (atN (s i) p q)) k) /\ Below (((w.alloc (.cells #[.pointer (some ⟨R,0,none⟩)] 33)).alloc (.cells #[.int .i64 p,.int .i64 q] 27)).alloc (.cells #[.func (.func 41) #[] #[x0,x1]] 110)).heap.size (((w.alloc (.cells #[.pointer (some ⟨R,0,none⟩)] 33)).alloc (.cells #[.int .i64 p,.int .i64 q] 27)).alloc (.cells #[.func (.func 41) #[] #[x0,x1]] 110)) w') :=
  ⟨search_any _ _ _ (n + 1) (fun i=>Q (atN (s i) p q)) _ (by omega) (early1_round R3 hs b0 b1 b2 Q ⟨fun f W hf hW=>SO.out f W hf (chain hW D3)⟩) MO⟩
 have hsl:=hRc.sl;obtain ⟨g,cap,rfl,_⟩:=hsl;have c4 : (((w.alloc (.cells #[.pointer (some ⟨R,0,none⟩)] 33)).alloc (.cells #[.int .i64 p,.int .i64 q] 27)).alloc (.cells #[.func (.func 41) #[] #[x0,x1]] 110)).cell? ⟨R,4,none⟩ = some (.slice (some ⟨g,0,none⟩) (n + 1) cap):=R3.c4;have KE : Hd (∀ w4,Below (((w.alloc (.cells #[.pointer (some ⟨R,0,none⟩)] 33)).alloc (.cells #[.int .i64 p,.int .i64 q] 27)).alloc (.cells #[.func (.func 41) #[] #[x0,x1]] 110)).heap.size (((w.alloc (.cells #[.pointer (some ⟨R,0,none⟩)] 33)).alloc (.cells #[.int .i64 p,.int .i64 q] 27)).alloc (.cells #[.func (.func 41) #[] #[x0,x1]] 110)) w4 -> Below w.heap.size w w4 /\ w4.cell? ⟨w.heap.size,0,none⟩ = some (.pointer (some ⟨R,0,none⟩)) /\ w4.cell? ⟨R,4,none⟩ = some (.slice (some ⟨g,0,none⟩) (n + 1) cap)):=⟨fun w4 k=>⟨chain k D3,below_cell k (b0.cell 0 _ rfl),below_cell k R3.c4⟩⟩;have hR : R < w.heap.size:=hRc.lt;generalize Found1 (n + 1) (fun i=>Q (atN (s i) p q)) = FF at *;clear hRc R3 b0 b1 b2 SO MO hs D3;go_enter Tryz.func40,Tryz.ntmps40;go_wp2_with fail;refine SC.out.mono ?_;rintro e w4 ⟨k,rfl,F4,hb4⟩;obtain ⟨D4,e0,e1⟩:=KE.out w4 hb4;have e0d : w4.drew.cell? ⟨w.heap.size,0,none⟩ = some (.pointer (some ⟨R,0,none⟩)):=e0;have e1d : w4.drew.cell? ⟨R,4,none⟩ = some (.slice (some ⟨g,0,none⟩) (n + 1) cap):=e1;have D5:=D4.drew;clear SC KE hb4 c4;go_wp2_with fail;go_region;all_goals
  go_wp2_with fail;go_ret2;exact ⟨k,by first | rfl | (simp;omega),F4,by first | exact D4 | exact D5⟩
theorem earliest_first {bR R MR most n : Nat} {sl : Value} {xs : List Value} {ns : List Nd} {p q : Int} {x0 x1 : Value} {s : Nat -> Nat -> Nat -> Nat} {w : World} (hRc : Rc bR R MR most sl (n + 1) xs ns w) (hs : Hd (HistN s (n + 1) xs ns)) (hn : n < 1000000)
  (Q : Nat -> Bool) (SO : Hd (∀ (f : Nat) W,f < ns.length -> Below w.heap.size w W -> Calls Tryz.prog 44 #[.int .i64 (f : Int),x0,x1] W fun e w'=>e = .returned (.bool (Q f)) /\ Below W.heap.size W w'))
  (MO : Hd (∀ a b,a <= b -> b < n + 1 -> Q (atN (s a) p q) = true -> Q (atN (s b) p q) = true)) :
  Calls Tryz.prog 40 #[.pointer (some ⟨R,0,none⟩),.agg #[.int .i64 p,.int .i64 q],.func (.func 44) #[] #[x0,x1]] w fun e w'=>∃ k : Nat,e = .returned (.tuple #[.int .i64 (k : Int),.bool (decide (k < n + 1))]) /\ Hd (Found1 (n + 1) (fun i=>Q (atN (s i) p q)) k) /\ Below w.heap.size w w':=by
 have D3 : Below w.heap.size w (((w.alloc (.cells #[.pointer (some ⟨R,0,none⟩)] 33)).alloc (.cells #[.int .i64 p,.int .i64 q] 27)).alloc (.cells #[.func (.func 44) #[] #[x0,x1]] 110)):=Below.alloc' (Below.alloc' (Below.alloc' (Below.refl _ w) _) _) _;have R3:=hRc.below D3;have b0 : Bz (((w.alloc (.cells #[.pointer (some ⟨R,0,none⟩)] 33)).alloc (.cells #[.int .i64 p,.int .i64 q] 27)).alloc (.cells #[.func (.func 44) #[] #[x0,x1]] 110)) w.heap.size #[.pointer (some ⟨R,0,none⟩)] 33:=((Bz.new w _ _ _ rfl).al _).al _;have b1 : Bz (((w.alloc (.cells #[.pointer (some ⟨R,0,none⟩)] 33)).alloc (.cells #[.int .i64 p,.int .i64 q] 27)).alloc (.cells #[.func (.func 44) #[] #[x0,x1]] 110)) (w.heap.size + 1) #[.int .i64 p,.int .i64 q] 27:=(Bz.new _ _ _ _ (by simp)).al _;have b2 : Bz (((w.alloc (.cells #[.pointer (some ⟨R,0,none⟩)] 33)).alloc (.cells #[.int .i64 p,.int .i64 q] 27)).alloc (.cells #[.func (.func 44) #[] #[x0,x1]] 110)) (w.heap.size + 1 + 1) #[.func (.func 44) #[] #[x0,x1]] 110:=Bz.new _ _ _ _ (by simp);have SC : Hd (Calls Tryz.prog 80 #[.int .i64 ((n + 1 : Nat) : Int),.func (.func 81) #[] #[.pointer (some ⟨w.heap.size + 1 + 1,0,none⟩),.pointer (some ⟨w.heap.size,0,none⟩),.pointer (some ⟨w.heap.size + 1,0,none⟩)]] (((w.alloc (.cells #[.pointer (some ⟨R,0,none⟩)] 33)).alloc (.cells #[.int .i64 p,.int .i64 q] 27)).alloc (.cells #[.func (.func 44) #[] #[x0,x1]] 110)) fun e w'=>∃ k : Nat,e = .returned (.int .i64 (k : Int)) /\ Hd (Found1 (n + 1) (fun i=>Q (atN (s i) p q)) k) /\ Below (((w.alloc (.cells #[.pointer (some ⟨R,0,none⟩)] 33)).alloc (.cells #[.int .i64 p,.int .i64 q] 27)).alloc (.cells #[.func (.func 44) #[] #[x0,x1]] 110)).heap.size (((w.alloc (.cells #[.pointer (some ⟨R,0,none⟩)] 33)).alloc (.cells #[.int .i64 p,.int .i64 q] 27)).alloc (.cells #[.func (.func 44) #[] #[x0,x1]] 110)) w') :=
  ⟨search_any _ _ _ (n + 1) (fun i=>Q (atN (s i) p q)) _ (by omega) (early1_first R3 hs b0 b1 b2 Q ⟨fun f W hf hW=>SO.out f W hf (chain hW D3)⟩) MO⟩
 have hsl:=hRc.sl;obtain ⟨g,cap,rfl,_⟩:=hsl;have c4 : (((w.alloc (.cells #[.pointer (some ⟨R,0,none⟩)] 33)).alloc (.cells #[.int .i64 p,.int .i64 q] 27)).alloc (.cells #[.func (.func 44) #[] #[x0,x1]] 110)).cell? ⟨R,4,none⟩ = some (.slice (some ⟨g,0,none⟩) (n + 1) cap):=R3.c4;have KE : Hd (∀ w4,Below (((w.alloc (.cells #[.pointer (some ⟨R,0,none⟩)] 33)).alloc (.cells #[.int .i64 p,.int .i64 q] 27)).alloc (.cells #[.func (.func 44) #[] #[x0,x1]] 110)).heap.size (((w.alloc (.cells #[.pointer (some ⟨R,0,none⟩)] 33)).alloc (.cells #[.int .i64 p,.int .i64 q] 27)).alloc (.cells #[.func (.func 44) #[] #[x0,x1]] 110)) w4 -> Below w.heap.size w w4 /\ w4.cell? ⟨w.heap.size,0,none⟩ = some (.pointer (some ⟨R,0,none⟩)) /\ w4.cell? ⟨R,4,none⟩ = some (.slice (some ⟨g,0,none⟩) (n + 1) cap)):=⟨fun w4 k=>⟨chain k D3,below_cell k (b0.cell 0 _ rfl),below_cell k R3.c4⟩⟩;have hR : R < w.heap.size:=hRc.lt;generalize Found1 (n + 1) (fun i=>Q (atN (s i) p q)) = FF at *;clear hRc R3 b0 b1 b2 SO MO hs D3;go_enter Tryz.func40,Tryz.ntmps40;go_wp2_with fail;refine SC.out.mono ?_;rintro e w4 ⟨k,rfl,F4,hb4⟩;obtain ⟨D4,e0,e1⟩:=KE.out w4 hb4;have e0d : w4.drew.cell? ⟨w.heap.size,0,none⟩ = some (.pointer (some ⟨R,0,none⟩)):=e0;have e1d : w4.drew.cell? ⟨R,4,none⟩ = some (.slice (some ⟨g,0,none⟩) (n + 1) cap):=e1;have D5:=D4.drew;clear SC KE hb4 c4;go_wp2_with fail;go_region;all_goals
  go_wp2_with fail;go_ret2;exact ⟨k,by first | rfl | (simp;omega),F4,by first | exact D4 | exact D5⟩
theorem round1_any {bR R MR most rb cb f c : Nat} {ns : List Nd} {W : World} (hA : Ar bR R MR 14 most W ns) (b0 : Bz W rb #[.pointer (some ⟨R,0,none⟩)] 33) (b1 : Bz W cb #[.int .i64 (c : Int)] 3) (hf : f < ns.length) (hc : c < 16384) :
  Calls Tryz.prog 41 #[.int .i64 (f : Int),.pointer (some ⟨rb,0,none⟩),.pointer (some ⟨cb,0,none⟩)] W fun e w'=>e = .returned (.bool (ev ns f (envOf 14 c))) /\ Below W.heap.size W w':=by
 have EV : Hd (Calls Tryz.prog 42 #[.pointer (some ⟨R,0,none⟩),.int .i64 (f : Int),.int .i64 (c : Int)] W.drew fun e w'=>e = .returned (.tuple #[.bool (ev ns f (envOf 14 c)),.int .i64 0]) /\ Below W.drew.heap.size W.drew w'):=⟨eval_b (hA.below (Below.refl _ _).drew) hf hc⟩;have S0 : W.drew.cell? ⟨rb,0,none⟩ = some (.pointer (some ⟨R,0,none⟩)) /\ W.drew.cell? ⟨cb,0,none⟩ = some (.int .i64 (c : Int)) /\ True:=⟨b0.cell 0 _ rfl,b1.cell 0 _ rfl,trivial⟩;have KS : Hd (∀ V',Below W.drew.heap.size W.drew V' -> (V'.cell? ⟨rb,0,none⟩ = some (.pointer (some ⟨R,0,none⟩)) /\ V'.cell? ⟨cb,0,none⟩ = some (.int .i64 (c : Int)) /\ True)):=⟨fun V' k=>⟨below_cell k S0.1,below_cell k S0.2.1,trivial⟩⟩;have KC : Hd (∀ V',Below W.drew.heap.size W.drew V' -> Below W.heap.size W V'):=⟨fun V' k=>(Below.refl W.heap.size W).drew.trans k⟩;generalize ev ns f (envOf 14 c) = r at *;clear hA b0 b1;go_enter Tryz.func41,Tryz.ntmps41;go_upto_region 1 with fail;refine wp_region_held_drew (S:=fun V=>V.cell? ⟨rb,0,none⟩ = some (.pointer (some ⟨R,0,none⟩)) /\ V.cell? ⟨cb,0,none⟩ = some (.int .i64 (c : Int)) /\ True) (by kernel_rfl) S0 (fun hHeld=>?_);refine tk 0 ?_ (hy:=by (intro w hSw;obtain ⟨s0,s1,_⟩:=hSw;go_simp;(try with_reducible rfl)));try simp only [ly]
 refine tk 1 ?_ (hy:=by (intro w hSw;obtain ⟨s0,s1,_⟩:=hSw;go_simp;(try with_reducible rfl)));try simp only [ly]
 refine tk 2 ?_ (hy:=by (intro w hSw;obtain ⟨s0,s1,_⟩:=hSw;go_simp;(try with_reducible rfl)));try simp only [ly]
 refine tk 3 ?_ (hy:=by (intro w hSw;obtain ⟨s0,s1,_⟩:=hSw;go_simp;(try with_reducible rfl)));try simp only [ly]
 refine tk 4 ?_ (hy:=by (intro w hSw;obtain ⟨s0,s1,_⟩:=hSw;go_simp;(try with_reducible rfl)));try simp only [ly]
 refine rd 5 (fun K hK=>?_);go_simp
 (with_reducible refine EV.out.mono ?_)
 rintro e w2 ⟨rfl,hb2⟩;have S2:=KS.out _ hb2;have D2:=KC.out _ hb2;dsimp only;clear hHeld;refine hK.out _ _ (S2) (fun hHeld=>?_);clear hK K;try simp only [ly]
 refine tk 6 ?_ (hy:=by (intro w hSw;go_simp;(try with_reducible rfl)));try simp only [ly]
 refine tk 7 ?_ (hy:=by (intro w hSw;go_simp;(try with_reducible rfl)));try simp only [ly]
 refine tk 8 ?_ (hy:=by (intro w hSw;go_simp;(try with_reducible rfl)));try simp only [ly]
 refine tk 9 ?_ (hy:=by (intro w hSw;go_simp;(try with_reducible rfl)));try simp only [ly]
 refine tk 10 ?_ (hy:=by (intro w hSw;go_simp;(try with_reducible rfl)));try simp only [ly]
 refine wpAnyH_done (by kernel_rfl) ?_ _;go_wp2_with fail;go_ret;exact ⟨rfl,D2⟩
def RoundV (n : Nat) (P : Nat -> Bool) (v : Int) : Prop:=∃ k : Nat,Found1 (n + 1) P k /\ v = if k < n + 1 then (k : Int) else -1
theorem round_ok {bR R MR most n : Nat} {sl : Value} {xs : List Value} {ns : List Nd} {p q a b c d : Int} {s : Nat -> Nat -> Nat -> Nat} {w : World} (hRc : Rc bR R MR most sl (n + 1) xs ns w) (hs : Hd (HistN s (n + 1) xs ns)) (hn : n < 1000000) (hp : pkR a b c d = true)
  (MO : Hd (∀ i j,i <= j -> j < n + 1 -> ev ns (atN (s i) p q) (envOf 14 (codeR a b c d)) = true -> ev ns (atN (s j) p q) (envOf 14 (codeR a b c d)) = true)) :
  Calls Tryz.prog 11 #[.pointer (some ⟨R,0,none⟩),.agg #[.int .i64 p,.int .i64 q],pk a b c d] w fun e w'=>∃ v : Int,e = .returned (.int .i64 v) /\ Hd (RoundV n (fun i=>ev ns (atN (s i) p q) (envOf 14 (codeR a b c d))) v) /\ Below w.heap.size w w':=by
 have hlt:=codeR_lt hp;have D3 : Below w.heap.size w (((w.alloc (.cells #[.pointer (some ⟨R,0,none⟩)] 33)).alloc (.cells #[.int .i64 p,.int .i64 q] 27)).alloc (.cells #[.int .i64 a,.int .i64 b,.int .i64 c,.int .i64 d] 29)):=Below.alloc' (Below.alloc' (Below.alloc' (Below.refl _ w) _) _) _;have b0 : Bz (((w.alloc (.cells #[.pointer (some ⟨R,0,none⟩)] 33)).alloc (.cells #[.int .i64 p,.int .i64 q] 27)).alloc (.cells #[.int .i64 a,.int .i64 b,.int .i64 c,.int .i64 d] 29)) w.heap.size #[.pointer (some ⟨R,0,none⟩)] 33:=((Bz.new w _ _ _ rfl).al _).al _;have b1 : Bz (((w.alloc (.cells #[.pointer (some ⟨R,0,none⟩)] 33)).alloc (.cells #[.int .i64 p,.int .i64 q] 27)).alloc (.cells #[.int .i64 a,.int .i64 b,.int .i64 c,.int .i64 d] 29)) (w.heap.size + 1) #[.int .i64 p,.int .i64 q] 27:=(Bz.new _ _ _ _ (by simp)).al _;have CO : Hd (∀ W,Calls Tryz.prog 39 #[pk a b c d] W fun e w'=>e = .returned (.tuple #[.int .i64 (codeR a b c d : Int),.int .i64 0]) /\ Below W.heap.size W w'):=⟨fun W=>code_ok a b c d W hp⟩;have EA : Hd (∀ w2,Below (((w.alloc (.cells #[.pointer (some ⟨R,0,none⟩)] 33)).alloc (.cells #[.int .i64 p,.int .i64 q] 27)).alloc (.cells #[.int .i64 a,.int .i64 b,.int .i64 c,.int .i64 d] 29)).heap.size (((w.alloc (.cells #[.pointer (some ⟨R,0,none⟩)] 33)).alloc (.cells #[.int .i64 p,.int .i64 q] 27)).alloc (.cells #[.int .i64 a,.int .i64 b,.int .i64 c,.int .i64 d] 29)) w2 -> Calls Tryz.prog 40 #[.pointer (some ⟨R,0,none⟩),.agg #[.int .i64 p,.int .i64 q],.func (.func 41) #[] #[.pointer (some ⟨w.heap.size,0,none⟩),.pointer (some ⟨w2.heap.size,0,none⟩)]] (w2.alloc (.cells #[.int .i64 (codeR a b c d : Int)] 3)) fun e w'=>∃ k : Nat,e = .returned (.tuple #[.int .i64 (k : Int),.bool (decide (k < n + 1))]) /\ Hd (Found1 (n + 1) (fun i=>ev ns (atN (s i) p q) (envOf 14 (codeR a b c d))) k) /\ Below w.heap.size w w'):=⟨fun w2 hb2=>by
  have D2:=chain hb2 D3;have D5:=Below.alloc' D2 (.cells #[.int .i64 (codeR a b c d : Int)] 3);have bb0 : Bz (w2.alloc (.cells #[.int .i64 (codeR a b c d : Int)] 3)) w.heap.size #[.pointer (some ⟨R,0,none⟩)] 33:=Bz.al ((hb2.block _ b0.lt).trans b0) _;have bb1 : Bz (w2.alloc (.cells #[.int .i64 (codeR a b c d : Int)] 3)) w2.heap.size #[.int .i64 (codeR a b c d : Int)] 3:=Bz.new _ _ _ _ rfl;refine (earliest_round (hRc.below D5) hs hn (fun f=>ev ns f (envOf 14 (codeR a b c d))) ⟨fun f W hf hW=>round1_any (hRc.below (chain hW D5)).ar ((hW.block _ bb0.lt).trans bb0) ((hW.block _ bb1.lt).trans bb1) hf hlt⟩ MO).mono fun e w' ⟨k,h1,h2,h3⟩=>⟨k,h1,h2,chain h3 D5⟩⟩
 have FIN : Hd (∀ k : Nat,Found1 (n + 1) (fun i=>ev ns (atN (s i) p q) (envOf 14 (codeR a b c d))) k -> RoundV n (fun i=>ev ns (atN (s i) p q) (envOf 14 (codeR a b c d))) (if k < n + 1 then (k : Int) else -1)):=⟨fun k h=>⟨k,h,rfl⟩⟩;have KE : Hd (∀ w2,Below (((w.alloc (.cells #[.pointer (some ⟨R,0,none⟩)] 33)).alloc (.cells #[.int .i64 p,.int .i64 q] 27)).alloc (.cells #[.int .i64 a,.int .i64 b,.int .i64 c,.int .i64 d] 29)).heap.size (((w.alloc (.cells #[.pointer (some ⟨R,0,none⟩)] 33)).alloc (.cells #[.int .i64 p,.int .i64 q] 27)).alloc (.cells #[.int .i64 a,.int .i64 b,.int .i64 c,.int .i64 d] 29)) w2 -> w.heap.size < w2.heap.size /\ w.heap.size + 1 < w2.heap.size /\ w2.cell? ⟨w.heap.size,0,none⟩ = some (.pointer (some ⟨R,0,none⟩)) /\ w2.cell? ⟨w.heap.size + 1,0,none⟩ = some (.int .i64 p) /\ w2.cell? ⟨w.heap.size + 1,1,none⟩ = some (.int .i64 q)):=⟨fun w2 k=>⟨Nat.lt_of_lt_of_le b0.lt k.size,Nat.lt_of_lt_of_le b1.lt k.size,below_cell k (b0.cell 0 _ rfl),below_cell k (b1.cell 0 _ rfl),below_cell k (b1.cell 1 _ rfl)⟩⟩;generalize Found1 (n + 1) (fun i=>ev ns (atN (s i) p q) (envOf 14 (codeR a b c d))) = FF at *;generalize RoundV n (fun i=>ev ns (atN (s i) p q) (envOf 14 (codeR a b c d))) = RR at *;generalize codeR a b c d = co at *;clear hRc b0 b1 hs MO D3 hp;go_enter Tryz.func11,Tryz.ntmps11;go_wp2_with fail;refine (CO.out _).mono ?_;rintro e w2 ⟨rfl,hb2⟩;obtain ⟨l0,l1,e0,e1,e2⟩:=KE.out w2 hb2;have E2:=Hd.mk (EA.out w2 hb2);clear EA KE CO hb2;go_wp2_with fail;refine E2.out.mono ?_;rintro e w5 ⟨k,rfl,F5,D5⟩;have FF5:=Hd.mk (FIN.out k F5.out);clear E2 FIN F5 e0 e1 e2;by_cases hk : k < n + 1
 ·have t1 : decide (k < n + 1) = true:=by simp [hk]
  rw [if_pos hk] at FF5;rw [t1];clear hk t1;go_wp2_with fail;go_ret;exact ⟨_,rfl,FF5,D5⟩
 ·have t1 : decide (k < n + 1) = false:=by simp [hk]
  rw [if_neg hk] at FF5;rw [t1];clear hk t1;go_wp2_with fail;go_ret;exact ⟨_,rfl,FF5,D5⟩
theorem round_bad (R : Nat) (p q a b c d : Int) (w : World) (hp : pkR a b c d = false) :
  Calls Tryz.prog 11 #[.pointer (some ⟨R,0,none⟩),.agg #[.int .i64 p,.int .i64 q],pk a b c d] w fun e w'=>e = .returned (.int .i64 (-1)) /\ Below w.heap.size w w':=by
 have D3 : Below w.heap.size w (((w.alloc (.cells #[.pointer (some ⟨R,0,none⟩)] 33)).alloc (.cells #[.int .i64 p,.int .i64 q] 27)).alloc (.cells #[.int .i64 a,.int .i64 b,.int .i64 c,.int .i64 d] 29)):=Below.alloc' (Below.alloc' (Below.alloc' (Below.refl _ w) _) _) _;have CO : Hd (∀ W,Calls Tryz.prog 39 #[pk a b c d] W fun e w'=>e = .returned (.tuple #[.int .i64 0,.int .i64 1]) /\ Below W.heap.size W w'):=⟨fun W=>code_bad a b c d W hp⟩;clear hp;go_enter Tryz.func11,Tryz.ntmps11;go_wp2_with fail;refine (CO.out _).mono ?_;rintro e w2 ⟨rfl,hb2⟩;have D2:=Below.alloc' (chain hb2 D3) (.cells #[.int .i64 0] 3);clear CO hb2 D3;go_wp2_with fail;go_ret;exact ⟨rfl,D2⟩
end Go.Proofs.YtppbfikimalojaaGreat
namespace Go.Proofs.YtppbfikimalojaaGreat
def T : Nat -> Nat -> (Env -> Bool) -> Env -> Nat
 | 0,_,g,e=>if g e then 1 else 0
 | k + 1,i,g,e=>T k (i + 1) g (setE e i false) + T k (i + 1) g (setE e i true)
def Dep (l vars : Nat) (g : Env -> Bool) : Prop:=∀ e e' : Env,(∀ x,l <= x -> x < vars -> e x = e' x) -> g e = g e'
theorem T_congr {l vars : Nat} {g : Env -> Bool} (hd : Dep l vars g) : ∀ (k i : Nat) (e e' : Env),(∀ x,l <= x -> x < vars -> (x < i ∨ i + k <= x) -> e x = e' x) -> T k i g e = T k i g e'
 | 0,i,e,e',h=>by
   rw [T,T,hd e e' (fun x h1 h2=>h x h1 h2 (by omega))]
 | k + 1,i,e,e',h=>by
   rw [T,T];have step : ∀ b,T k (i + 1) g (setE e i b) = T k (i + 1) g (setE e' i b):=fun b=>by
    refine T_congr hd k (i + 1) _ _ (fun x h1 h2 h3=>?_);by_cases hx : x = i
    ·subst hx;rw [setE_same,setE_same]
    ·rw [setE_ne _ _ hx,setE_ne _ _ hx];exact h x h1 h2 (by omega)
   rw [step,step]
theorem T_eq {g g' : Env -> Bool} {v : Nat} {b : Bool} (hg : ∀ e : Env,e v = b -> g e = g' e) : ∀ (k i : Nat) (e : Env),v < i -> e v = b -> T k i g e = T k i g' e
 | 0,i,e,_,he=>by rw [T,T,hg e he]
 | k + 1,i,e,hi,he=>by
   rw [T,T,T_eq hg k (i + 1) _ (by omega) (by rw [setE_ne _ _ (by omega)];exact he),T_eq hg k (i + 1) _ (by omega) (by rw [setE_ne _ _ (by omega)];exact he)]
theorem T_le (g : Env -> Bool) : ∀ (k i : Nat) (e : Env),T k i g e <= 2 ^ k
 | 0,i,e=>by rw [T];split <;> simp
 | k + 1,i,e=>by
   rw [T,Nat.pow_succ];have:=T_le g k (i + 1) (setE e i false);have:=T_le g k (i + 1) (setE e i true);omega
def e00 : Env:=fun _=>false
section
variable {vars : Nat} {ns ns' : List Nd}
theorem dep_ev (wf : Wf vars ns) {f : Nat} (hf : f < ns.length) : Dep (nv ns f) vars (ev ns f):=fun e e' h=>ev_dep wf f hf e e' h
def cn (vars : Nat) (ns : List Nd) (f : Nat) : Nat:=T (vars - nv ns f) (nv ns f) (ev ns f) e00
theorem cn_skip (wf : Wf vars ns) {f : Nat} (hf : f < ns.length) : ∀ (d i : Nat) (e : Env),i + d = nv ns f -> T (vars - i) i (ev ns f) e = cn vars ns f * 2 ^ d
 | 0,i,e,h=>by
   have hi : i = nv ns f:=by omega
   have:=va_le wf hf;rw [cn,<- hi,Nat.pow_zero,Nat.mul_one];exact T_congr (dep_ev wf hf) _ _ _ _ (fun x h1 h2 h3=>by omega)
 | d + 1,i,e,h=>by
   have:=va_le wf hf;rw [show vars - i = (vars - (i + 1)) + 1 by omega,T,cn_skip wf hf d (i + 1) _ (by omega),cn_skip wf hf d (i + 1) _ (by omega),Nat.pow_succ,<- Nat.mul_assoc];omega
theorem cn_0 (wf : Wf vars ns) : cn vars ns 0 = 0:=by
 rw [cn,show nv ns 0 = vars by rw [nv,wf.n0],Nat.sub_self,T,ev0];rfl
theorem cn_1 (wf : Wf vars ns) : cn vars ns 1 = 1:=by
 rw [cn,show nv ns 1 = vars by rw [nv,wf.n1],Nat.sub_self,T,ev1];rfl
theorem cn_node (wf : Wf vars ns) {f : Nat} (f2 : 2 <= f) (hf : f < ns.length) : cn vars ns f = cn vars ns (nl ns f) * 2 ^ (nv ns (nl ns f) - nv ns f - 1) + cn vars ns (nh ns f) * 2 ^ (nv ns (nh ns f) - nv ns f - 1):=by
 have hv:=wf.va f f2 hf;have l1:=wf.lo f f2 hf;have l2:=wf.hi f f2 hf;have v1:=wf.vlo f f2 hf;have v2:=wf.vhi f f2 hf;have w1:=va_le wf (f:=nl ns f) (by omega);have w2:=va_le wf (f:=nh ns f) (by omega);rw [cn,show vars - nv ns f = (vars - (nv ns f + 1)) + 1 by omega,T];rw [T_eq (g':=ev ns (nl ns f)) (v:=nv ns f) (b:=false) (fun e he=>by rw [ev_node wf f2 hf,he];simp) _ _ _ (by omega) (setE_same _ _ _)];rw [T_eq (g':=ev ns (nh ns f)) (v:=nv ns f) (b:=true) (fun e he=>by rw [ev_node wf f2 hf,he];simp) _ _ _ (by omega) (setE_same _ _ _)];rw [cn_skip wf (by omega) (nv ns (nl ns f) - nv ns f - 1) _ _ (by omega),cn_skip wf (by omega) (nv ns (nh ns f) - nv ns f - 1) _ _ (by omega)]
theorem cn_le (f : Nat) : cn vars ns f <= 2 ^ (vars - nv ns f):=T_le _ _ _ _
theorem cn_all (wf : Wf vars ns) {f : Nat} (hf : f < ns.length) (e : Env) : cn vars ns f * 2 ^ nv ns f = T vars 0 (ev ns f) e:=by
 have:=cn_skip wf hf (nv ns f) 0 e (by omega);rw [Nat.sub_zero] at this;exact this.symm
end
def S : List Nat -> (Env -> Bool) -> Env -> Nat
 | [],g,e=>if g e then 1 else 0
 | i :: l,g,e=>S l g (setE e i false) + S l g (setE e i true)
end Go.Proofs.YtppbfikimalojaaGreat
namespace Go.Proofs.YtppbfikimalojaaGreat
open Go.RowKit Go.Maps
def MemoN (vars : Nat) (ns : List Nd) (m : Nat -> Option Nat) : Prop:=∀ f c,m f = some c -> c = cn vars ns f
theorem MemoN.upd {vars : Nat} {ns : List Nd} {m : Nat -> Option Nat} (h : MemoN vars ns m) (f : Nat) : MemoN vars ns (upd m f (cn vars ns f)):=by
 intro d c hc;unfold YtppbfikimalojaaGreat.upd at hc;by_cases e : d = f
 ·subst e;rw [if_pos rfl] at hc;cases hc;rfl
 ·rw [if_neg e] at hc;exact h d c hc
def CountPost (vars : Nat) (w : World) (ns : List Nd) (K n g r : Nat) (e : Ending) (w' : World) : Prop :=
 ∃ n' mk',e = .returned (.int .i64 (r : Int)) /\ w.grownBy w' (some K) /\ MapIs intE w' K n' mk' /\ MemoN vars ns mk' /\ n' <= n + g
section
variable {base a M vars most : Nat} {w w' : World} {ns : List Nd} {K n : Nat} {mk : Nat -> Option Nat}
theorem Ar.grownK (h : Ar base a M vars most w ns) (hm : MapIs intE w K n mk) (hKM : K ≠ M) (hg : w.grownBy w' (some K)) : Ar base a M vars most w' ns /\ rowOf w' a = rowOf w a:=by
 obtain ⟨es,clock,hb⟩:=hm.isMap;obtain ⟨g,cap,cs,t,hba,_⟩:=h.blk;obtain ⟨cur,hr,_,rl⟩:=h.row;have k1 : a ≠ K:=fun e=>by rw [<- e,hba] at hb;simp at hb
 have k2 : rowOf w a ≠ K:=fun e=>by rw [<- e,hr] at hb;simp at hb
 have b1:=hg.block a h.lta (by simpa using k1);exact ⟨h.same b1 (hg.block M h.ltM (by simpa using hKM.symm)) (hg.block _ rl (by simpa using k2)),rowOf_same b1⟩
theorem countBelow_of (h : Ar base a M vars most w ns) (hm : MapIs intE w K n mk) (hmn : MemoN vars ns mk) {f v k : Nat} (hf : f < ns.length) (hv : v < nv ns f) (hN : n + 2 ^ k <= 1099511627776)
  (hc : Hq (∀ w n mk,Ar base a M vars most w ns -> MapIs intE w K n mk -> MemoN vars ns mk -> n + 2 ^ k <= 1099511627776 -> Calls Tryz.prog 89 #[.pointer (some ⟨a,0,none⟩),.int .i64 (f : Int),.map (some K)] w (CountPost vars w ns K n (2 ^ k - 1) (cn vars ns f)))) :
  Calls Tryz.prog 139 #[.pointer (some ⟨a,0,none⟩),.int .i64 (f : Int),.int .i64 (v : Int),.map (some K)] w (CountPost vars w ns K n (2 ^ k - 1) (cn vars ns f * 2 ^ (nv ns f - v - 1))):=by
 have hA : Ar base a M vars most w.drew ns:=h.same rfl rfl rfl;have hmd : MapIs intE w.drew K n mk:=hm.same rfl;have v16:=h.vars16;have wf:=h.wf;have hva:=va_le wf hf;have hcl:=cn_le (vars:=vars) (ns:=ns) f;have hl : ns.length <= 40000:=Nat.le_trans h.le h.most4;have hwr : IntKind.i64.wrap ((cn vars ns f : Int) * 2 ^ (nv ns f - v - 1)) = ((cn vars ns f * 2 ^ (nv ns f - v - 1) : Nat) : Int):=by
  have p1 : cn vars ns f * 2 ^ (nv ns f - v - 1) <= 2 ^ (vars - nv ns f) * 2 ^ (nv ns f - v - 1):=Nat.mul_le_mul_right _ hcl;rw [<- Nat.pow_add] at p1;have p2 : 2 ^ (vars - nv ns f + (nv ns f - v - 1)) <= 2 ^ 16:=Nat.pow_le_pow_right (by omega) (by omega);have e : (cn vars ns f : Int) * 2 ^ (nv ns f - v - 1) = ((cn vars ns f * 2 ^ (nv ns f - v - 1) : Nat) : Int):=by simp
  rw [e,IntWalk.i64_in _ (by omega)]
 have wr1 : IntKind.i64.wrap ((nv ns f : Int) - (v : Int)) = (nv ns f : Int) - (v : Int):=IntWalk.i64_in _ (by omega);have wr2 : IntKind.i64.wrap ((nv ns f : Int) - (v : Int) - 1) = (nv ns f : Int) - (v : Int) - 1:=IntWalk.i64_in _ (by omega);obtain ⟨cap,a0,a1,a2,a3,af,an⟩:=h.reads;obtain ⟨n0,n1,n2⟩:=an f hf;have hkeep : ∀ n1 mk1 w1,w.drew.grownBy w1 (some K) -> MapIs intE w1 K n1 mk1 -> w1.cell? ⟨a,2,none⟩ = some (.slice (some ⟨rowOf w a,0,none⟩) ns.length cap) /\ w1.cell? ⟨rowOf w a,f * 3,none⟩ = some (.int .i64 (nv ns f : Int)):=fun n1 mk1 w1 hg hm1=>by
  obtain ⟨es,clock,hb⟩:=hm.isMap;obtain ⟨g,cap',cs,t,hba,_⟩:=h.blk;obtain ⟨cur,hr,_,rl⟩:=h.row;have k1 : a ≠ K:=fun e=>by rw [<- e,hba] at hb;simp at hb
  have k2 : rowOf w a ≠ K:=fun e=>by rw [<- e,hr] at hb;simp at hb
  exact ⟨(hg.cell_far ⟨a,2,none⟩ h.lta (by simpa using k1)).trans a2,(hg.cell_far ⟨rowOf w a,f * 3,none⟩ rl (by simpa using k2)).trans n0⟩
 have hwr':=Hq.mk hwr;clear h an hm hwr;generalize rowOf w a = g at *;go_enter Tryz.func139,Tryz.ntmps139;go_wp2_with fail;go_region_held3 (fun w'=>w'.cell? ⟨a,2,none⟩ = some (.slice (some ⟨g,0,none⟩) ns.length cap) /\ w'.cell? ⟨g,f * 3,none⟩ = some (.int .i64 (nv ns f : Int))) (go_keep)
  (first | (go_at_call 89;refine (hc.out _ n mk hA hmd hmn hN).mono ?_;rintro e w1 ⟨n',mk',rfl,hg,hM,hmm,hn⟩;obtain ⟨q1,q2⟩:=hkeep _ _ _ hg hM))
 have hfin : CountPost vars w ns K n (2 ^ k - 1) (cn vars ns f * 2 ^ (nv ns f - v - 1)) (.returned (.int .i64 (IntKind.i64.wrap ((cn vars ns f : Int) * 2 ^ (nv ns f - v - 1))))) w1:=⟨n',mk',by rw [hwr'.out],⟨hg.os,hg.tape,hg.output,hg.size,hg.block⟩,hM,hmm,hn⟩;go_wp2_with fail;go_ret;exact hfin
theorem count_small (w : World) (K : Nat) {f : Nat} (hf : f <= 1) : Calls Tryz.prog 89 #[.pointer (some ⟨a,0,none⟩),.int .i64 (f : Int),.map (some K)] w fun e w'=>e = .returned (.int .i64 (f : Int)) /\ w' = w:=by
 have t1 : decide ((f : Int) <= 1) = true:=by simp;omega
 go_enter Tryz.func89,Tryz.ntmps89;go_wp2_with fail;go_ret;exact ⟨rfl,rfl⟩
theorem count_hit (hm : MapIs intE w K n mk) {f c : Nat} (f2 : 2 <= f) (hf : f < 9223372036854775808) (hc : mk f = some c) :
  Calls Tryz.prog 89 #[.pointer (some ⟨a,0,none⟩),.int .i64 (f : Int),.map (some K)] w fun e w'=>e = .returned (.int .i64 (c : Int)) /\ w' = w:=by
 have t1 : decide ((f : Int) <= 1) = false:=by simp;omega
 have hlook:=hm.look Tryz.u47 (x:=f) hf;rw [hc] at hlook;simp only [intE,Option.getD_some,Option.isSome_some] at hlook;clear hm;go_enter Tryz.func89,Tryz.ntmps89;go_wp2_with fail;go_ret;exact ⟨rfl,rfl⟩
theorem count_miss (h : Ar base a M vars most w ns) (hm : MapIs intE w K n mk) (hKM : K ≠ M) (hmn : MemoN vars ns mk) {f k : Nat} (f2 : 2 <= f) (hf : f < ns.length) (hr : mk f = none) (hk : vars <= nv ns f + (k + 1)) (hN : n + 2 ^ (k + 1) <= 1099511627776)
  (ih : Hq (∀ w n mk f,Ar base a M vars most w ns -> MapIs intE w K n mk -> MemoN vars ns mk -> f < ns.length -> vars <= nv ns f + k -> n + 2 ^ k <= 1099511627776 -> Calls Tryz.prog 89 #[.pointer (some ⟨a,0,none⟩),.int .i64 (f : Int),.map (some K)] w (CountPost vars w ns K n (2 ^ k - 1) (cn vars ns f)))) :
  Calls Tryz.prog 89 #[.pointer (some ⟨a,0,none⟩),.int .i64 (f : Int),.map (some K)] w (CountPost vars w ns K n (2 ^ (k + 1) - 1) (cn vars ns f)):=by
 have wf:=h.wf;have v16:=h.vars16;have hv:=wf.va f f2 hf;have l1:=wf.lo f f2 hf;have l2:=wf.hi f f2 hf;have v1:=wf.vlo f f2 hf;have v2:=wf.vhi f f2 hf;have hl : ns.length <= 40000:=Nat.le_trans h.le h.most4;have hp2 : 2 ^ (k + 1) = 2 * 2 ^ k:=by rw [Nat.pow_succ];omega
 have hp1 : 1 <= 2 ^ k:=Nat.one_le_two_pow;have t1 : decide ((f : Int) <= 1) = false:=by simp;omega
 have hlook:=hm.look Tryz.u47 (x:=f) (by show f < _;omega);rw [hr] at hlook;simp only [intE,Option.getD_none,Option.isSome_none] at hlook;obtain ⟨cap,a0,a1,a2,a3,af,an⟩:=h.reads;obtain ⟨n0,n1,n2⟩:=an f hf;have lK:=hm.lt;have hcn:=cn_node wf f2 hf;have hle:=cn_le (vars:=vars) (ns:=ns) f;have hle2 : cn vars ns f <= 65536:=Nat.le_trans hle (by have : 2 ^ (vars - nv ns f) <= 2 ^ 16:=Nat.pow_le_pow_right (by omega) (by omega);omega)
 -- the two halves, and what they leave
 have hA0 : Ar base a M vars most (w.alloc (.cells #[.int .i64 (nv ns f : Int),.int .i64 (nl ns f : Int),.int .i64 (nh ns f : Int)] 143)).drew ns:=(h.alloc _).same rfl rfl rfl;have hm0 : MapIs intE (w.alloc (.cells #[.int .i64 (nv ns f : Int),.int .i64 (nl ns f : Int),.int .i64 (nh ns f : Int)] 143)).drew K n mk:=hm.same (Below.heap_alloc w _ K lK);have low : Hq (Calls Tryz.prog 139 #[.pointer (some ⟨a,0,none⟩),.int .i64 (nl ns f : Int),.int .i64 (nv ns f : Int),.map (some K)] (w.alloc (.cells #[.int .i64 (nv ns f : Int),.int .i64 (nl ns f : Int),.int .i64 (nh ns f : Int)] 143)).drew
   (CountPost vars (w.alloc (.cells #[.int .i64 (nv ns f : Int),.int .i64 (nl ns f : Int),.int .i64 (nh ns f : Int)] 143)).drew ns K n (2 ^ k - 1) (cn vars ns (nl ns f) * 2 ^ (nv ns (nl ns f) - nv ns f - 1)))) :=
  ⟨countBelow_of hA0 hm0 hmn (by omega) v1 (by omega) ⟨fun w n mk q1 q2 q3 q4=>ih.out w n mk _ q1 q2 q3 (by omega) (by omega) q4⟩⟩
 have high : Hq (∀ (n' : Nat) (mk' : Nat -> Option Nat) (w1 : World),(w.alloc (.cells #[.int .i64 (nv ns f : Int),.int .i64 (nl ns f : Int),.int .i64 (nh ns f : Int)] 143)).drew.grownBy w1 (some K) -> MapIs intE w1 K n' mk' -> MemoN vars ns mk' -> n' <= n + (2 ^ k - 1) ->
   (w1.cell? ⟨w.heap.size,0,none⟩ = some (.int .i64 (nv ns f : Int)) /\ w1.cell? ⟨w.heap.size,1,none⟩ = some (.int .i64 (nl ns f : Int)) /\ w1.cell? ⟨w.heap.size,2,none⟩ = some (.int .i64 (nh ns f : Int))) /\
   Calls Tryz.prog 139 #[.pointer (some ⟨a,0,none⟩),.int .i64 (nh ns f : Int),.int .i64 (nv ns f : Int),.map (some K)] w1 (CountPost vars w1 ns K n' (2 ^ k - 1) (cn vars ns (nh ns f) * 2 ^ (nv ns (nh ns f) - nv ns f - 1)))) :=
  ⟨fun n' mk' w1 hg hm1 hmm hn=>by
   have hne : some w.heap.size ≠ some K:=by simp;omega
   refine ⟨⟨?_,?_,?_⟩,countBelow_of (hA0.grownK hm0 hKM hg).1 hm1 hmm (by omega) v2 (by omega) ⟨fun w n mk q1 q2 q3 q4=>ih.out w n mk _ q1 q2 q3 (by omega) (by omega) q4⟩⟩
   ·rw [hg.cell_far ⟨w.heap.size,0,none⟩ (by simp) hne];simp
   ·rw [hg.cell_far ⟨w.heap.size,1,none⟩ (by simp) hne];simp
   ·rw [hg.cell_far ⟨w.heap.size,2,none⟩ (by simp) hne];simp⟩
 have keep2 : Hq (∀ w1 w2 : World,w1.grownBy w2 (some K) -> w.heap.size < w1.heap.size -> (w1.cell? ⟨w.heap.size,0,none⟩ = some (.int .i64 (nv ns f : Int)) /\ w1.cell? ⟨w.heap.size,1,none⟩ = some (.int .i64 (nl ns f : Int)) /\ w1.cell? ⟨w.heap.size,2,none⟩ = some (.int .i64 (nh ns f : Int))) ->
   (w2.cell? ⟨w.heap.size,0,none⟩ = some (.int .i64 (nv ns f : Int)) /\ w2.cell? ⟨w.heap.size,1,none⟩ = some (.int .i64 (nl ns f : Int)) /\ w2.cell? ⟨w.heap.size,2,none⟩ = some (.int .i64 (nh ns f : Int)))) :=
  ⟨fun w1 w2 hg hs ⟨c0,c1,c2⟩=>by
   have hne : some w.heap.size ≠ some K:=by simp;omega
   exact ⟨(hg.cell_far ⟨w.heap.size,0,none⟩ hs hne).trans c0,(hg.cell_far ⟨w.heap.size,1,none⟩ hs hne).trans c1,(hg.cell_far ⟨w.heap.size,2,none⟩ hs hne).trans c2⟩⟩
 generalize hcl : cn vars ns (nl ns f) * 2 ^ (nv ns (nl ns f) - nv ns f - 1) = xl at *;generalize hch : cn vars ns (nh ns f) * 2 ^ (nv ns (nh ns f) - nv ns f - 1) = xh at *;have wr : IntKind.i64.wrap ((xl : Int) + (xh : Int)) = (xl : Int) + (xh : Int):=IntWalk.i64_in _ (by omega);have hcn':=Hq.mk hcn;clear h an hm hcn;generalize rowOf w a = g at *;go_enter Tryz.func89,Tryz.ntmps89;go_wp2_with fail;go_cut [10] (fun v wx=>v = .int .i64 ((cn vars ns f : Nat) : Int) /\ ∃ n2 mk2,w.grownBy wx (some K) /\ MapIs intE wx K n2 mk2 /\ MemoN vars ns mk2 /\ n2 <= n + (2 ^ k - 1) + (2 ^ k - 1))
 case first =>
  go_region_held3 (fun w'=>w'.cell? ⟨w.heap.size,0,none⟩ = some (.int .i64 (nv ns f : Int)) /\ w'.cell? ⟨w.heap.size,1,none⟩ = some (.int .i64 (nl ns f : Int)) /\ w'.cell? ⟨w.heap.size,2,none⟩ = some (.int .i64 (nh ns f : Int))) (first | go_keep | exact ⟨by assumption,by assumption,by assumption⟩)
   (first
     | (go_at_call_of 139 (Value.int .i64 (nl ns f : Int));refine low.out.mono ?_;rintro e w1 ⟨n',mk',rfl,hg1,hM1,hmm1,hn1⟩;obtain ⟨⟨c0,c1,c2⟩,hcall⟩:=high.out _ _ _ hg1 hM1 hmm1 hn1;have hcall':=Hq.mk hcall;clear hcall)
     | (go_at_call_of 139 (Value.int .i64 (nh ns f : Int));refine hcall'.out.mono ?_;rintro e w2 ⟨n'',mk'',rfl,hg2,hM2,hmm2,hn2⟩;obtain ⟨d0,d1,d2⟩:=keep2.out _ _ hg2 (Nat.lt_of_lt_of_le (by simp) hg1.size) ⟨c0,c1,c2⟩))
  go_wp2_with fail
  go_meet
  exact ⟨by rw [show ((cn vars ns f : Nat) : Int) = (xl : Int) + (xh : Int) by have:=hcn'.out;omega],n'',mk'',(World.grownBy_alloc w _ (some K)).trans (World.grownBy.trans ⟨hg1.os,hg1.tape,hg1.output,hg1.size,hg1.block⟩ hg2),hM2,hmm2,by omega⟩
 case rest =>
  obtain ⟨rfl,n2,mk2,hg,hM,hmm,hn⟩:=hcut;obtain ⟨w8,hrun,hM8,hg8⟩:=hM.store Tryz.u47 (by unfold maxLen;omega) (x:=f) (by show f < _;omega) (v:=cn vars ns f) (by omega);simp only [intE] at hrun;have hfin : CountPost vars w ns K n (2 ^ (k + 1) - 1) (cn vars ns f) (.returned (.int .i64 ((cn vars ns f : Nat) : Int))) w8:=⟨n2 + 1,_,rfl,hg.trans hg8,hM8,hmm.upd f,by omega⟩;clear hM hM8;go_wp2_with fail;go_ret;exact hfin
theorem count_any (hKM : K ≠ M) : ∀ (k : Nat) (w : World) (n : Nat) (mk : Nat -> Option Nat) (f : Nat),Ar base a M vars most w ns -> MapIs intE w K n mk -> MemoN vars ns mk -> f < ns.length -> vars <= nv ns f + k -> n + 2 ^ k <= 1099511627776 ->
  Calls Tryz.prog 89 #[.pointer (some ⟨a,0,none⟩),.int .i64 (f : Int),.map (some K)] w (CountPost vars w ns K n (2 ^ k - 1) (cn vars ns f)):=by
 intro k;have small : ∀ (w : World) (n g : Nat) (mk : Nat -> Option Nat) (f : Nat),Ar base a M vars most w ns -> MapIs intE w K n mk -> MemoN vars ns mk -> f <= 1 -> Calls Tryz.prog 89 #[.pointer (some ⟨a,0,none⟩),.int .i64 (f : Int),.map (some K)] w (CountPost vars w ns K n g (cn vars ns f)):=by
  intro w n g mk f h hm hmn h1;refine (count_small w K h1).mono ?_;rintro e w' ⟨rfl,rfl⟩;refine ⟨n,mk,?_,⟨rfl,rfl,rfl,Nat.le_refl _,fun _ _ _=>rfl⟩,hm,hmn,by omega⟩
  match f,h1 with
  | 0,_=>rw [cn_0 h.wf]
  | 1,_=>rw [cn_1 h.wf]
  | f + 2,h1=>omega
 induction k with
 | zero =>
   intro w n mk f h hm hmn hf hk hN;refine small w n _ mk f h hm hmn ?_;by_cases f2 : 2 <= f
   ·have:=h.wf.va f f2 hf;omega
   ·omega
 | succ k ih =>
   intro w n mk f h hm hmn hf hk hN;by_cases f2 : 2 <= f
   ·cases hr : mk f with
    | none=>exact count_miss h hm hKM hmn f2 hf hr hk hN ⟨ih⟩
    | some c =>
      have hl : ns.length <= 40000:=Nat.le_trans h.le h.most4;refine (count_hit hm f2 (by omega) hr).mono ?_;rintro e w' ⟨rfl,rfl⟩;exact ⟨n,mk,by rw [hmn f c hr],⟨rfl,rfl,rfl,Nat.le_refl _,fun _ _ _=>rfl⟩,hm,hmn,by omega⟩
   ·exact small w n _ mk f h hm hmn (by omega)
end
section
variable {base a M vars most : Nat} {w : World} {ns : List Nd}
end
section
variable {base a M vars most : Nat} {w : World} {ns : List Nd}
theorem count_b (h : Ar base a M vars most w ns) {f : Nat} (hf : f < ns.length) :
  Calls Tryz.prog 49 #[.pointer (some ⟨a,0,none⟩),.int .i64 (f : Int)] w fun e w'=>e = .returned (.tuple #[.int .i64 ((cn vars ns f * 2 ^ nv ns f : Nat) : Int),.int .i64 0]) /\ Below w.heap.size w w':=by
 have hmm:=@run_makeMap Tryz.prog;have la:=h.lta;have lM:=h.ltM;have v16:=h.vars16;have wf:=h.wf;have hva:=va_le wf hf;have hcl:=cn_le (vars:=vars) (ns:=ns) f;have hl : ns.length <= 40000:=Nat.le_trans h.le h.most4;have hA : Ar base a M vars most (w.alloc (.map #[] 0)).drew ns:=(h.alloc _).same rfl rfl rfl;have hm : MapIs intE (w.alloc (.map #[] 0)).drew w.heap.size 0 (fun _=>none):=(mapIs_made intE w).same rfl;have hpw : 2 ^ vars <= 2 ^ 16:=Nat.pow_le_pow_right (by omega) v16;have hc:=Hq.mk (count_any (base:=base) (a:=a) (most:=most) (ns:=ns) (M:=M) (K:=w.heap.size) (by omega) vars _ 0 _ f hA hm (fun _ _ e=>by cases e) hf (Nat.le_add_left _ _) (by omega));have hwr : IntKind.i64.wrap ((cn vars ns f : Int) * 2 ^ nv ns f) = ((cn vars ns f * 2 ^ nv ns f : Nat) : Int):=by
  have p1 : cn vars ns f * 2 ^ nv ns f <= 2 ^ (vars - nv ns f) * 2 ^ nv ns f:=Nat.mul_le_mul_right _ hcl;rw [<- Nat.pow_add,show vars - nv ns f + nv ns f = vars by omega] at p1;have e : (cn vars ns f : Int) * 2 ^ nv ns f = ((cn vars ns f * 2 ^ nv ns f : Nat) : Int):=by simp
  rw [e,IntWalk.i64_in _ (by omega)]
 have hwr':=Hq.mk hwr;have t1 : (decide ((0 : Int) <= (f : Int)) && decide ((f : Int) < (ns.length : Int))) = true:=by simp;omega
 have hkeep : ∀ w1 : World,(w.alloc (.map #[] 0)).drew.grownBy w1 (some w.heap.size) -> Below w.heap.size w w1:=fun w1 hg=>by
  refine ⟨hg.os,hg.tape,hg.output,?_,fun i hi=>?_⟩
  ·have:=hg.size;simp only [heap_drew,World.size_alloc] at this;omega
  ·rw [hg.block i (by simp;omega) (by simp;omega),heap_drew,Below.heap_alloc _ _ _ hi]
 obtain ⟨cap,a0,a1,a2,a3,af,an⟩:=h.reads;obtain ⟨n0,n1,n2⟩:=an f hf;have hcell : ∀ w1 : World,(w.alloc (.map #[] 0)).drew.grownBy w1 (some w.heap.size) -> w1.cell? ⟨a,2,none⟩ = some (.slice (some ⟨rowOf w a,0,none⟩) ns.length cap) /\ w1.cell? ⟨rowOf w a,f * 3,none⟩ = some (.int .i64 (nv ns f : Int)):=fun w1 hg=>by
  obtain ⟨_,_,_,rl⟩:=h.row;refine ⟨?_,?_⟩
  ·rw [hg.cell_far ⟨a,2,none⟩ (by simp;omega) (by simp;omega)];simp [*,World.cell?_alloc_some]
  ·rw [hg.cell_far ⟨rowOf w a,f * 3,none⟩ (by simp;omega) (by simp;omega)];simp [*,World.cell?_alloc_some]
 have hch:=Hq.mk hkeep;have rl : rowOf w a < w.heap.size:=by obtain ⟨_,_,_,rl⟩:=h.row;exact rl
 clear an hm hwr hA hkeep;generalize rowOf w a = g at *;go_enter Tryz.func49,Tryz.ntmps49;go_wp2_with (go_at_call 82;refine (hasFunction_any h (f : Int)).mono ?_;rintro e w' ⟨rfl,rfl⟩;rw [t1]);go_region_held3 (fun w1=>w1.cell? ⟨a,2,none⟩ = some (.slice (some ⟨g,0,none⟩) ns.length cap) /\ w1.cell? ⟨g,f * 3,none⟩ = some (.int .i64 (nv ns f : Int))) (go_keep)
  (first | (go_at_call 89;refine hc.out.mono ?_;rintro e w1 ⟨n',mk',rfl,hg,hM,hmm,hn⟩;obtain ⟨q1,q2⟩:=hcell _ hg))
 have r2:=hch.out _ hg;go_wp2_with fail;go_ret2;refine ⟨?_,r2⟩;rw [<- hwr'.out];rfl
end
theorem four_last {a b c f : Prop} (h : a /\ b /\ c /\ Hd f) : f:=h.2.2.2.out
def cntE (φ : Env -> Bool) : Nat:=T 14 0 φ e00
theorem rcount_any {bR R MR most n : Nat} {sl : Value} {xs : List Value} {ns : List Nd} {p q : Int} {s : Nat -> Nat -> Nat -> Nat} {w : World} (hRc : Rc bR R MR most sl (n + 1) xs ns w) (hs : Hd (HistN s (n + 1) xs ns)) (hn : n < 1000000) :
  Calls Tryz.prog 15 #[.pointer (some ⟨R,0,none⟩),.agg #[.int .i64 p,.int .i64 q]] w fun e w'=>e = .returned (.int .i64 (cntE (ev ns (atN (s n) p q)) : Int)) /\ Below w.heap.size w w':=by
 have D1 : Below w.heap.size w (w.alloc (.cells #[.int .i64 p,.int .i64 q] 27)):=Below.alloc' (Below.refl _ w) _;have b0 : Bz (w.alloc (.cells #[.int .i64 p,.int .i64 q] 27)) w.heap.size #[.int .i64 p,.int .i64 q] 27:=Bz.new w _ _ _ rfl;have h1:=hRc.below D1;obtain ⟨g,cap,rfl,lg,hcap,hcm,hlen,hcell⟩:=h1.sl;unfold maxLen at hcm;have HSV : Hd (SetsV (((xs.drop (n * 40)).take 40).toArray) (s n)):=⟨hs.out.sets (by omega) hlen⟩;obtain ⟨cs,hcs⟩ : ∃ cs : Array Value,cs = ((xs.drop (n * 40)).take 40).toArray:=⟨_,rfl⟩;rw [<- hcs] at HSV;have h40 : Hd (cs.size = 40):=⟨HSV.out.1⟩;have RG : Hd ((w.alloc (.cells #[.int .i64 p,.int .i64 q] 27)).rangeAt g (n * 40) cs.toList):=⟨fun j v hj=>by
  rw [hcs] at hj;have h2 : (xs.drop (n * 40))[j]? = some v:=by
   have hj' : ((xs.drop (n * 40)).take 40)[j]? = some v:=by simpa using hj
   rw [List.getElem?_take] at hj'
   split at hj'
   ·exact hj'
   ·cases hj'
  rw [List.getElem?_drop] at h2;exact hcell _ _ h2⟩
 have fn : atN (s n) p q < ns.length:=hs.out.at_lt (by omega) h1.ar.wf p q;obtain ⟨KK,hKK⟩ : ∃ KK : World -> Prop,KK = fun V=>Below (w.alloc (.cells #[.int .i64 p,.int .i64 q] 27)).heap.size (w.alloc (.cells #[.int .i64 p,.int .i64 q] 27)) V:=⟨_,rfl⟩;have RO : Hd (∀ V,KK V -> Calls Tryz.prog 10 #[.pointer (some ⟨R,0,none⟩)] V fun e w'=>e = .returned (.int .i64 (n : Int)) /\ w' = V):=⟨fun V hV=>by rw [hKK] at hV;exact rounds_any (h1.below hV) hn⟩;have AT : Hd (∀ V,Calls Tryz.prog 46 #[.agg cs,.agg #[.int .i64 p,.int .i64 q]] V fun e w'=>e = .returned (.int .i64 (atN (s n) p q : Int)) /\ Below V.heap.size V w'):=⟨fun V=>at_any cs (s n) p q V HSV.out⟩;have CT : Hd (∀ V,KK V -> Calls Tryz.prog 49 #[.pointer (some ⟨R,0,none⟩),.int .i64 (atN (s n) p q : Int)] V fun e w'=>e = .returned (.tuple #[.int .i64 (cntE (ev ns (atN (s n) p q)) : Int),.int .i64 0]) /\ Below V.heap.size V w'):=⟨fun V hV=>by
  rw [hKK] at hV;refine (count_b (h1.ar.below hV) fn).mono fun e w' ⟨a1,a2⟩=>⟨?_,a2⟩;rw [a1,cn_all h1.ar.wf fn e00];rfl⟩
 have KS : Hd (∀ V V' : World,Below V.heap.size V V' -> (V.cell? ⟨R,4,none⟩ = some (.slice (some ⟨g,0,none⟩) (n + 1) cap) /\ V.cell? ⟨w.heap.size,0,none⟩ = some (.int .i64 p) /\ V.cell? ⟨w.heap.size,1,none⟩ = some (.int .i64 q) /\ Hd (V.rangeAt g (n * 40) cs.toList)) -> (V'.cell? ⟨R,4,none⟩ = some (.slice (some ⟨g,0,none⟩) (n + 1) cap) /\ V'.cell? ⟨w.heap.size,0,none⟩ = some (.int .i64 p) /\ V'.cell? ⟨w.heap.size,1,none⟩ = some (.int .i64 q) /\ Hd (V'.rangeAt g (n * 40) cs.toList))):=⟨fun V V' k ⟨a1,a2,a3,a4⟩=>⟨below_cell k a1,below_cell k a2,below_cell k a3,⟨fun j v hj=>below_cell k (a4.out j v hj)⟩⟩⟩;have KB : Hd (∀ V V' : World,Below V.heap.size V V' -> KK V -> KK V'):=⟨fun V V' k h=>by rw [hKK] at h ⊢;exact chain k h⟩;have KD : Hd (∀ V,KK V -> Below w.heap.size w V):=⟨fun V h=>by rw [hKK] at h;exact chain h D1⟩;have K0 : KK (w.alloc (.cells #[.int .i64 p,.int .i64 q] 27)).drew:=by rw [hKK];exact (Below.refl _ _).drew
 have S0 : (w.alloc (.cells #[.int .i64 p,.int .i64 q] 27)).drew.cell? ⟨R,4,none⟩ = some (.slice (some ⟨g,0,none⟩) (n + 1) cap) /\ (w.alloc (.cells #[.int .i64 p,.int .i64 q] 27)).drew.cell? ⟨w.heap.size,0,none⟩ = some (.int .i64 p) /\ (w.alloc (.cells #[.int .i64 p,.int .i64 q] 27)).drew.cell? ⟨w.heap.size,1,none⟩ = some (.int .i64 q) /\ Hd ((w.alloc (.cells #[.int .i64 p,.int .i64 q] 27)).drew.rangeAt g (n * 40) cs.toList):=⟨h1.c4,b0.cell 0 _ rfl,b0.cell 1 _ rfl,⟨RG.out⟩⟩;have c4 : (w.alloc (.cells #[.int .i64 p,.int .i64 q] 27)).cell? ⟨R,4,none⟩ = some (.slice (some ⟨g,0,none⟩) (n + 1) cap):=h1.c4;have t0 : (((n + 1 : Nat) : Int) == 0) = false:=by simp;omega
 have t0' : ((n : Int) + 1 == 0) = false:=by simp;omega
 have i1 : (n : Int) < (n : Int) + 1:=by omega
 have i2 : (0 : Int) <= (n : Int):=by omega
 have hR : R < w.heap.size:=hRc.lt;generalize cntE (ev ns (atN (s n) p q)) = r at *;generalize atN (s n) p q = f at *;clear hRc h1 b0 hcell HSV RG hs fn hKK D1 hcs hlen;go_enter Tryz.func15,Tryz.ntmps15;go_upto_region 3 with fail;refine wp_region_held_drew (S:=fun V=>V.cell? ⟨R,4,none⟩ = some (.slice (some ⟨g,0,none⟩) (n + 1) cap) /\ V.cell? ⟨w.heap.size,0,none⟩ = some (.int .i64 p) /\ V.cell? ⟨w.heap.size,1,none⟩ = some (.int .i64 q) /\ Hd (V.rangeAt g (n * 40) cs.toList)) (by kernel_rfl) S0 (fun hHeld=>?_);refine tk 0 ?_ (hy:=by (intro w hSw;obtain ⟨s0,s1,s2,_⟩:=hSw;go_simp;(try with_reducible rfl)));try simp only [ly]
 refine tk 1 ?_ (hy:=by (intro w hSw;obtain ⟨s0,s1,s2,_⟩:=hSw;go_simp;(try with_reducible rfl)));try simp only [ly]
 refine tk 2 ?_ (hy:=by (intro w hSw;obtain ⟨s0,s1,s2,_⟩:=hSw;go_simp;(try with_reducible rfl)));try simp only [ly]
 refine tk 3 ?_ (hy:=by (intro w hSw;obtain ⟨s0,s1,s2,_⟩:=hSw;go_simp;(try with_reducible rfl)));try simp only [ly]
 refine tk 4 ?_ (hy:=by (intro w hSw;obtain ⟨s0,s1,s2,_⟩:=hSw;go_simp;(try with_reducible rfl)));try simp only [ly]
 refine tk 5 ?_ (hy:=by (intro w hSw;obtain ⟨s0,s1,s2,_⟩:=hSw;go_simp;(try with_reducible rfl)));try simp only [ly]
 refine tk 6 ?_ (hy:=by (intro w hSw;obtain ⟨s0,s1,s2,_⟩:=hSw;go_simp;(try with_reducible rfl)));try simp only [ly]
 refine tk 7 ?_ (hy:=by (intro w hSw;obtain ⟨s0,s1,s2,_⟩:=hSw;go_simp;(try with_reducible rfl)));try simp only [ly]
 refine tk 11 ?_ (hy:=by (intro w hSw;obtain ⟨s0,s1,s2,_⟩:=hSw;go_simp;(try with_reducible rfl)));try simp only [ly]
 refine rd 8 (fun K hK=>?_);go_simp
 (with_reducible refine (RO.out _ K0).mono ?_)
 rintro e w2 ⟨rfl,rfl⟩;dsimp only;refine hK.out _ _ (hHeld) (fun hHeld=>?_);clear hK K;try simp only [ly]
 refine tk 9 ?_ (hy:=by (intro w hSw;go_simp;(try with_reducible rfl)));try simp only [ly]
 refine' wpAnyH_take (i:=10) (v:=.agg cs) rfl (by kernel_rfl) (by kernel_rfl) (by kernel_rfl) (fun _ _ _ h=>h) (yieldsIf_load_mid (by rfl) 89 _ rfl g (n * 40) rfl cs.toList _ (fun W hS=>four_last hS) uSets rfl (by rw [Array.length_toList,h40.out];exact iSets)) ‹_› ?gr11;try simp only [ly]
 refine rd 12 (fun K hK=>?_);go_simp
 (with_reducible refine (AT.out _).mono ?_)
 rintro e w3 ⟨rfl,hb3⟩;have S3:=KS.out _ _ hb3 hHeld;have K3:=KB.out _ _ hb3 K0;dsimp only;clear hHeld;refine hK.out _ _ (S3) (fun hHeld=>?_);clear hK K;try simp only [ly]
 refine rd 13 (fun K hK=>?_);go_simp
 (with_reducible refine (CT.out _ K3).mono ?_)
 rintro e w4 ⟨rfl,hb4⟩;have S4:=KS.out _ _ hb4 hHeld;have K4:=KB.out _ _ hb4 K3;dsimp only;clear hHeld;refine hK.out _ _ (S4) (fun hHeld=>?_);clear hK K;try simp only [ly]
 refine tk 14 ?_ (hy:=by (intro w hSw;go_simp;(try with_reducible rfl)));try simp only [ly]
 refine tk 15 ?_ (hy:=by (intro w hSw;go_simp;(try with_reducible rfl)));try simp only [ly]
 refine tk 16 ?_ (hy:=by (intro w hSw;go_simp;(try with_reducible rfl)));try simp only [ly]
 refine tk 17 ?_ (hy:=by (intro w hSw;go_simp;(try with_reducible rfl)));try simp only [ly]
 refine tk 18 ?_ (hy:=by (intro w hSw;go_simp;(try with_reducible rfl)));try simp only [ly]
 refine wpAnyH_done (by kernel_rfl) ?_ _;have D9:=KD.out _ K4;go_wp2_with fail;go_ret;exact ⟨rfl,D9⟩
section
variable {ds : List Dv} {ls : List Lk}
theorem setF_up {k j : Nat} (h : k <= j) (a b : Nat) (x : Env) (hx : SetF ds ls k a b x = true) : SetF ds ls j a b x = true:=by
 induction j with
 | zero =>
   obtain rfl : k = 0:=by omega
   exact hx
 | succ j ih =>
   by_cases e : k = j + 1
   ·rw [<- e];exact hx
   ·exact (setF_succ j a b x).2 (Or.inl (ih (by omega)))
noncomputable def atF (ds : List Dv) (ls : List Lk) (k : Nat) (p q : Int) : Env -> Bool:=if (0 <= p /\ p < 10) /\ (0 <= q /\ q < 4) then SetF ds ls k p.toNat q.toNat else fun _=>false
theorem atF_up {k j : Nat} (h : k <= j) (p q : Int) (x : Env) (hx : atF ds ls k p q x = true) : atF ds ls j p q x = true:=by
 unfold atF at *
 split at hx
 ·rename_i hc
  rw [if_pos hc];exact setF_up h _ _ x hx
 ·cases hx
end
structure RcF (ds : List Dv) (ls : List Lk) (bR R MR most K : Nat) (sl : Value) (xs : List Value) (ns : List Nd) (s : Nat -> Nat -> Nat -> Nat) (W : World) : Prop where
 rc : Rc bR R MR most sl (K + 1) xs ns W
 hist : HistN s (K + 1) xs ns
 fn : ∀ j a b,j < K + 1 -> a < 10 -> b < 4 -> ev ns (s j a b) = SetF ds ls j a b
 up : ∀ j,j < K -> cntF ds ls j < cntF ds ls (j + 1)
 fix : ∀ a b,a < 10 -> b < 4 -> SetF ds ls (K + 1) a b = SetF ds ls K a b
section
variable {ds : List Dv} {ls : List Lk} {bR R MR most K : Nat} {sl : Value} {xs : List Value} {ns : List Nd} {s : Nat -> Nat -> Nat -> Nat} {W W' : World}
theorem RcF.below (h : RcF ds ls bR R MR most K sl xs ns s W) (hb : Below W.heap.size W W') : RcF ds ls bR R MR most K sl xs ns s W':=⟨h.rc.below hb,h.hist,h.fn,h.up,h.fix⟩
theorem RcF.lt (h : RcF ds ls bR R MR most K sl xs ns s W) : K < 1000000:=by
 have h1:=cnt_ge h.up;have h2:=cntF_le (ds:=ds) (ls:=ls) K;omega
theorem RcF.at (h : RcF ds ls bR R MR most K sl xs ns s W) {j : Nat} (hj : j < K + 1) (p q : Int) : ev ns (atN (s j) p q) = atF ds ls j p q:=by
 unfold atN atF
 split
 ·rename_i hc
  exact h.fn j _ _ hj (by omega) (by omega)
 ·exact funext fun x=>ev0 _ x
theorem RNewOut.made {EE : Prop} {w : World} {e : Ending} {w' : World} (h : RNewOut ds ls most EE w e w') : Below w.heap.size w w' /\ ((∃ (bR R MR K : Nat) (sl : Value) (xs : List Value) (ns : List Nd) (s : Nat -> Nat -> Nat -> Nat),e = .returned (.tuple #[.pointer (some ⟨R,0,none⟩),.int .i64 0]) /\ w.heap.size <= bR /\ RcF ds ls bR R MR most K sl xs ns s w') ∨ (e = .returned (.tuple #[.pointer none,.int .i64 6]) /\ EE)):=by
 refine ⟨h.1,?_⟩;rcases h.2 with ⟨bR,R,MR,K,sl,xs,ns,h1,h2,h3,h4,h5,⟨s,hs⟩,h7,h8⟩ | h
 ·exact Or.inl ⟨bR,R,MR,K,sl,xs,ns,s,h1,h2,⟨⟨h3,h4,h5⟩,fun j a b hj ha hb=>⟨(hs j a b hj ha hb).1,(hs j a b hj ha hb).2.1⟩,fun j a b hj ha hb=>(hs j a b hj ha hb).2.2,h7,h8⟩⟩
 ·exact Or.inr h
theorem rounds_f (h : RcF ds ls bR R MR most K sl xs ns s W) : Calls Tryz.prog 10 #[.pointer (some ⟨R,0,none⟩)] W fun e w'=>e = .returned (.int .i64 (K : Int)) /\ w' = W:=rounds_any h.rc h.lt
theorem count_f (h : RcF ds ls bR R MR most K sl xs ns s W) (p q : Int) : Calls Tryz.prog 15 #[.pointer (some ⟨R,0,none⟩),.agg #[.int .i64 p,.int .i64 q]] W fun e w'=>e = .returned (.int .i64 (cntE (atF ds ls K p q) : Int)) /\ Below W.heap.size W w':=by
 have:=rcount_any (p:=p) (q:=q) h.rc ⟨h.hist⟩ h.lt;rw [h.at (by omega)] at this;exact this
theorem round_f (h : RcF ds ls bR R MR most K sl xs ns s W) (p q a b c d : Int) (hp : pkR a b c d = true) : Calls Tryz.prog 11 #[.pointer (some ⟨R,0,none⟩),.agg #[.int .i64 p,.int .i64 q],pk a b c d] W fun e w'=>∃ v : Int,e = .returned (.int .i64 v) /\ Hd (RoundV K (fun i=>atF ds ls i p q (envOf 14 (codeR a b c d))) v) /\ Below W.heap.size W w':=by
 refine (round_ok (p:=p) (q:=q) h.rc ⟨h.hist⟩ h.lt hp ⟨fun i j hij hj he=>?_⟩).mono fun e w' ⟨v,h1,h2,h3⟩=>⟨v,h1,⟨?_⟩,h3⟩
 ·rw [h.at (by omega)] at he ⊢;exact atF_up hij _ _ _ he
 ·obtain ⟨k,⟨f1,f2,f3⟩,hv⟩:=h2.out;refine ⟨k,⟨f1,fun t ht=>?_,fun t ht hn=>?_⟩,hv⟩
  ·have:=f2 t ht;dsimp only at this ⊢;rw [<- h.at (by omega)];exact this
  ·have:=f3 t ht hn;dsimp only at this ⊢;rw [<- h.at (by omega)];exact this
end
section
variable {φ ψ φ' ψ' : Env -> Bool}
end
section
variable {ds : List Dv} {ls ls' : List Lk}
end
def pkE (p : Pk) : Env:=fun v=>if v < 4 then p.s.toNat.testBit (3 - v) else if v < 8 then p.d.toNat.testBit (7 - v) else if v < 11 then p.sp.toNat.testBit (10 - v) else if v < 14 then p.dp.toNat.testBit (13 - v) else false
theorem val_of {k first n : Nat} {x : Env} (hn : n < 2 ^ k) (h : ∀ j,j < k -> x (first + j) = n.testBit (k - 1 - j)) : val k first x = n:=by
 refine Nat.eq_of_testBit_eq fun i=>?_;by_cases hi : i < k
 ·have e:=val_test k first x (k - 1 - i) (by omega);rw [h _ (by omega),show k - 1 - (k - 1 - i) = i by omega] at e;exact e
 ·rw [Nat.testBit_lt_two_pow (Nat.lt_of_lt_of_le (val_lt k first x) (Nat.pow_le_pow_right (by omega) (by omega))),Nat.testBit_lt_two_pow (Nat.lt_of_lt_of_le hn (Nat.pow_le_pow_right (by omega) (by omega)))]
theorem phi_pk (sa sb sc sd : Nat) {p : Pk} (h : pkOk p = true) : phi sa sb sc sd (pkE p) = (sa.testBit p.s.toNat && (sb.testBit p.d.toNat && (sc.testBit p.sp.toNat && sd.testBit p.dp.toNat))):=by
 obtain ⟨h1,h2,h3,h4⟩:=pk_bounds h;unfold phi;rw [sel_val,sel_val,sel_val,sel_val,Bool.and_true,
  val_of (k:=4) (first:=0) (n:=p.s.toNat) (by show _ < 16;omega) (fun j hj=>by unfold pkE;rw [if_pos (by omega)];congr 1;omega),
  val_of (k:=4) (first:=4) (n:=p.d.toNat) (by show _ < 16;omega) (fun j hj=>by unfold pkE;rw [if_neg (by omega),if_pos (by omega)];congr 1;omega),
  val_of (k:=3) (first:=8) (n:=p.sp.toNat) (by show _ < 8;omega) (fun j hj=>by unfold pkE;rw [if_neg (by omega),if_neg (by omega),if_pos (by omega)];congr 1;omega),
  val_of (k:=3) (first:=11) (n:=p.dp.toNat) (by show _ < 8;omega) (fun j hj=>by unfold pkE;rw [if_neg (by omega),if_neg (by omega),if_neg (by omega),if_pos (by omega)];congr 1;omega)]
theorem letsF_pk : ∀ (xs : List Rl) {p : Pk},pkOk p = true -> letsF xs (pkE p) = letsB xs p.s p.d p.sp p.dp
 | [],_,_=>rfl
 | r :: l,p,h=>by
   have e : phi r.a r.b r.c r.d (pkE p) = inR r p.s p.d p.sp p.dp:=by
    rw [phi_pk _ _ _ _ h];obtain ⟨h1,h2,h3,h4⟩:=pk_bounds h;unfold inR inB hasB;rw [decide_eq_true h1.1,decide_eq_true h2.1,decide_eq_true h3.1,decide_eq_true h4.1];simp [Bool.and_assoc]
   rw [letsF,letsB,e,letsF_pk l h]
theorem anF_of (φ : Env -> Bool) (i : Nat) : ∀ (k : Nat) (x y : Env),(∀ v,v < i ∨ i + k <= v -> y v = x v) -> φ y = true -> anF φ i k x = true
 | 0,x,y,h,hy=>by
   have : y = x:=funext fun v=>h v (by omega);rw [<- this];exact hy
 | k + 1,x,y,h,hy=>by
   have ih:=anF_of φ i k (setE x (i + k) (y (i + k))) y (fun v hv=>by
    by_cases e : v = i + k
    ·rw [e,setE_same]
    ·rw [setE_ne _ _ e];exact h v (by omega)) hy
   show (anF φ i k (setE x (i + k) false) || anF φ i k (setE x (i + k) true)) = true;rw [Bool.or_eq_true];cases hb : y (i + k)
   ·rw [hb] at ih;exact Or.inl ih
   ·rw [hb] at ih;exact Or.inr ih
theorem flF_pk (φ : Env -> Bool) (p : Pk) : flF φ (pkE p) = φ (pkE (flipP p)):=by
 show φ (swE (swE (swE (swE (swE (swE (swE (pkE p) 10 13) 9 12) 8 11) 3 7) 2 6) 1 5) 0 4) = _
 congr 1
 funext v
 match v with
 | 0=>rfl
 | 1=>rfl
 | 2=>rfl
 | 3=>rfl
 | 4=>rfl
 | 5=>rfl
 | 6=>rfl
 | 7=>rfl
 | 8=>rfl
 | 9=>rfl
 | 10=>rfl
 | 11=>rfl
 | 12=>rfl
 | 13=>rfl
 | n + 14=>simp [swE,pkE,show ¬ n + 14 < 4 by omega,show ¬ n + 14 < 8 by omega,show ¬ n + 14 < 11 by omega,show ¬ n + 14 < 14 by omega]
theorem pkE_s (s s' d sp dp : Int) (v : Nat) (h : v < 0 ∨ 0 + 4 <= v) : pkE ⟨s,d,sp,dp⟩ v = pkE ⟨s',d,sp,dp⟩ v:=by
 simp [pkE,show ¬ v < 4 by omega]
theorem pkE_d (s d d' sp dp : Int) (v : Nat) (h : v < 4 ∨ 4 + 4 <= v) : pkE ⟨s,d,sp,dp⟩ v = pkE ⟨s,d',sp,dp⟩ v:=by
 rcases h with h | h
 ·simp [pkE,h]
 ·simp [pkE,show ¬ v < 4 by omega,show ¬ v < 8 by omega]
theorem pkE_sp (s d sp sp' dp : Int) (v : Nat) (h : v < 8 ∨ 8 + 3 <= v) : pkE ⟨s,d,sp,dp⟩ v = pkE ⟨s,d,sp',dp⟩ v:=by
 rcases h with h | h
 ·simp [pkE,h]
 ·simp [pkE,show ¬ v < 4 by omega,show ¬ v < 8 by omega,show ¬ v < 11 by omega]
theorem pkE_dp (s d sp dp dp' : Int) (v : Nat) (h : v < 11 ∨ 11 + 3 <= v) : pkE ⟨s,d,sp,dp⟩ v = pkE ⟨s,d,sp,dp'⟩ v:=by
 rcases h with h | h
 ·simp [pkE,h]
 ·simp [pkE,show ¬ v < 4 by omega,show ¬ v < 8 by omega,show ¬ v < 11 by omega,show ¬ v < 14 by omega]
def L14 (φ : Env -> Bool) : Prop:=∀ x y : Env,(∀ i,i < 14 -> x i = y i) -> φ x = φ y
section
variable {φ ψ φ0 φ1 φ2 φ3 : Env -> Bool}
theorem L14.phi (a b c d : Nat) : L14 (phi a b c d):=fun x y h=>by
 unfold Go.Proofs.YtppbfikimalojaaGreat.phi;rw [sel_dep 4 a 0 x y (fun i h1 h2=>h i (by omega)),sel_dep 4 b 4 x y (fun i h1 h2=>h i (by omega)),sel_dep 3 c 8 x y (fun i h1 h2=>h i (by omega)),sel_dep 3 d 11 x y (fun i h1 h2=>h i (by omega))]
theorem L14.lets (xs : List Rl) : L14 (letsF xs):=letsF_dep xs
theorem L14.and (h : L14 φ) (g : L14 ψ) : L14 (fun x=>φ x && ψ x):=fun x y e=>by
 show (φ x && ψ x) = (φ y && ψ y);rw [h x y e,g x y e]
theorem L14.or (h : L14 φ) (g : L14 ψ) : L14 (fun x=>φ x || ψ x):=fun x y e=>by
 show (φ x || ψ x) = (φ y || ψ y);rw [h x y e,g x y e]
theorem L14.an (h : L14 φ) (i : Nat) : ∀ k,L14 (anF φ i k)
 | 0=>h
 | k + 1=>fun x y e=>by
   have g : ∀ b,∀ j,j < 14 -> setE x (i + k) b j = setE y (i + k) b j:=fun b j hj=>by
    unfold setE
    split
    ·rfl
    ·exact e j hj
   show (anF φ i k (setE x (i + k) false) || anF φ i k (setE x (i + k) true)) = (anF φ i k (setE y (i + k) false) || anF φ i k (setE y (i + k) true));rw [h.an i k _ _ (g false),h.an i k _ _ (g true)]
theorem L14.ex (h : L14 φ) (i j : Nat) : ∀ k,i + k <= 14 -> j + k <= 14 -> L14 (exF φ i j k)
 | 0,_,_=>h
 | k + 1,hi,hj=>fun x y e=>h.ex i j k (by omega) (by omega) _ _ (fun v hv=>by
   unfold swE
   split
   ·exact e _ (by omega)
   split
   ·exact e _ (by omega)
   ·exact e v hv)
theorem L14.fl (h : L14 φ) : L14 (flF φ):=(h.ex 0 4 4 (by omega) (by omega)).ex 8 11 3 (by omega) (by omega)
theorem L14.send (h0 : L14 φ0) (h1 : L14 φ1) (h2 : L14 φ2) (h3 : L14 φ3) (d : Dv) (pt : Int) : L14 (sendF d pt φ0 φ1 φ2 φ3):=by
 have hf : L14 (fun _=>false):=fun _ _ _=>rfl;unfold sendF
 split
 ·exact (((((hf.or h0).or h1).or h2).or h3).and (L14.phi _ _ _ _)).and (L14.lets _)
 split
 ·split
  ·exact h0.and (L14.lets _)
  ·exact h1.and (h0.and (L14.lets _)).fl
 split
 ·split
  ·exact ((h0.an 8 3).an 0 4).and (L14.phi _ _ _ _)
  ·exact (((h1.and (L14.phi _ _ _ _)).an 11 3).an 4 4).and ((h0.an 11 3).an 4 4).fl
 split
 ·split
  ·exact (h0.and (L14.phi _ _ _ _)).or ((((h0.and (L14.phi _ _ _ _)).an 4 4)).and (L14.phi _ _ _ _))
  ·exact h1.or (((h1.and ((L14.phi _ _ _ _).and ((h0.and (L14.phi _ _ _ _)).an 4 4).fl)).an 0 4).and (L14.phi _ _ _ _))
 ·exact hf
end
section
variable {ds : List Dv} {ls : List Lk} {K : Nat}
theorem L14.set : ∀ k a b,L14 (SetF ds ls k a b)
 | 0,a,b=>fun x y e=>Bool.eq_iff_iff.2 (by
   rw [setF_zero,setF_zero];constructor
   ·rintro ⟨i,d,h1,h2,h3,h4,h5⟩;exact ⟨i,d,h1,h2,h3,h4,by rw [<- L14.phi _ _ _ _ x y e];exact h5⟩
   ·rintro ⟨i,d,h1,h2,h3,h4,h5⟩;exact ⟨i,d,h1,h2,h3,h4,by rw [L14.phi _ _ _ _ x y e];exact h5⟩)
 | k + 1,a,b=>fun x y e=>Bool.eq_iff_iff.2 (by
   have S : ∀ d pt i,sendF d pt (SetF ds ls k i 0) (SetF ds ls k i 1) (SetF ds ls k i 2) (SetF ds ls k i 3) x = sendF d pt (SetF ds ls k i 0) (SetF ds ls k i 1) (SetF ds ls k i 2) (SetF ds ls k i 3) y:=fun d pt i=>L14.send (L14.set k i 0) (L14.set k i 1) (L14.set k i 2) (L14.set k i 3) d pt x y e;rw [setF_succ,setF_succ,L14.set k a b x y e];refine or_congr Iff.rfl ⟨?_,?_⟩
   ·rintro ⟨i,q,d,h1,h2,h3,h4,h5,h6⟩;exact ⟨i,q,d,h1,h2,h3,h4,h5,by rw [<- S];exact h6⟩
   ·rintro ⟨i,q,d,h1,h2,h3,h4,h5,h6⟩;exact ⟨i,q,d,h1,h2,h3,h4,h5,by rw [S];exact h6⟩)
theorem L14.at (p q : Int) : L14 (atF ds ls K p q):=by
 unfold atF
 split
 ·exact L14.set _ _ _
 ·exact fun _ _ _=>rfl
end
theorem env_pk {p : Pk} (h : pkOk p = true) (v : Nat) (hv : v < 14) : envOf 14 (codeR p.s p.d p.sp p.dp) v = pkE p v:=by
 obtain ⟨h1,h2,h3,h4⟩:=pk_bounds h;generalize hc : codeR p.s p.d p.sp p.dp = c;have hc' : (c : Int) = p.s * 1024 + p.d * 64 + p.sp * 8 + p.dp:=by
  rw [<- hc];unfold codeR;omega
 have e1 : val 4 0 (envOf 14 c) = p.s.toNat:=by rw [val_env 14 c 4 0 (by omega)];show c / 1024 % 16 = _;omega
 have e2 : val 4 4 (envOf 14 c) = p.d.toNat:=by rw [val_env 14 c 4 4 (by omega)];show c / 64 % 16 = _;omega
 have e3 : val 3 8 (envOf 14 c) = p.sp.toNat:=by rw [val_env 14 c 3 8 (by omega)];show c / 8 % 8 = _;omega
 have e4 : val 3 11 (envOf 14 c) = p.dp.toNat:=by rw [val_env 14 c 3 11 (by omega)];show c / 1 % 8 = _;omega
 unfold pkE;by_cases v4 : v < 4
 ·rw [if_pos v4,<- e1];have:=val_test 4 0 (envOf 14 c) v v4;rw [Nat.zero_add] at this;exact this.symm
 rw [if_neg v4];by_cases v8 : v < 8
 ·rw [if_pos v8,<- e2];have:=val_test 4 4 (envOf 14 c) (v - 4) (by omega);rw [show 4 + (v - 4) = v by omega,show 4 - 1 - (v - 4) = 7 - v by omega] at this;exact this.symm
 rw [if_neg v8];by_cases v11 : v < 11
 ·rw [if_pos v11,<- e3];have:=val_test 3 8 (envOf 14 c) (v - 8) (by omega);rw [show 8 + (v - 8) = v by omega,show 3 - 1 - (v - 8) = 10 - v by omega] at this;exact this.symm
 rw [if_neg v11,if_pos hv,<- e4];have:=val_test 3 11 (envOf 14 c) (v - 11) (by omega);rw [show 11 + (v - 11) = v by omega,show 3 - 1 - (v - 11) = 13 - v by omega] at this;exact this.symm
theorem full16 {n : Int} (h : 0 <= n /\ n < 16) : Nat.testBit 65535 n.toNat = true:=by
 have : ∀ m,m < 16 -> Nat.testBit 65535 m = true:=by decide
 exact this _ (by omega)
theorem full8 {n : Int} (h : 0 <= n /\ n < 8) : Nat.testBit 255 n.toNat = true:=by
 have : ∀ m,m < 8 -> Nat.testBit 255 m = true:=by decide
 exact this _ (by omega)
theorem setL_bit : ∀ (l : List Int) (z i : Nat),(setL l z).testBit i = true ↔ z.testBit i = true ∨ ∃ x ∈ l,x.toNat = i
 | [],z,i=>by simp [setL]
 | x :: l,z,i=>by
   rw [setL,setL_bit l,Nat.testBit_or,Nat.testBit_two_pow];simp;constructor
   ·rintro ((h | h) | h)
    ·exact Or.inl h
    ·exact Or.inr (Or.inl h)
    ·exact Or.inr (Or.inr h)
   ·rintro (h | h | h)
    ·exact Or.inl (Or.inl h)
    ·exact Or.inl (Or.inr h)
    ·exact Or.inr h
theorem setL_mem {l : List Int} {x : Int} (h : x ∈ l) : (setL l 0).testBit x.toNat = true:=(setL_bit l 0 _).2 (Or.inr ⟨x,h,rfl⟩)
theorem setL_one (x : Int) : (setL [x] 0).testBit x.toNat = true:=setL_mem (by simp)
theorem not_one {x y : Int} (hx : 0 <= x /\ x < 16) (hy : 0 <= y /\ y < 16) (h : ¬ y = x) : (notN (setL [x] 0)).testBit y.toNat = true:=by
 rw [(notN_spec _).2.2 _ (by omega)];cases hb : (setL [x] 0).testBit y.toNat
 ·rfl
 ·rw [setL_bit] at hb;simp at hb;omega
theorem send_f {d : Dv} {i : Int} {I : PSet} {F : Nat -> Env -> Bool} (hI : ∀ (q : Nat) (p : Pk),q < 4 -> I (i,(q : Int)) p -> F q (pkE p) = true) (hd : devC d = 0) {o : Int} {p : Pk} (hp : pkOk p = true) (hs : sendR d i I o p) : sendF d o (F 0) (F 1) (F 2) (F 3) (pkE p) = true:=by
 obtain ⟨_,ha,hbs,_,_⟩:=dev_right hd;obtain ⟨h1,h2,h3,h4⟩:=pk_bounds hp;unfold sendR at hs;unfold sendF;by_cases k2 : d.kind = 2
 ·rw [if_pos k2] at hs ⊢;obtain ⟨q,q0,q4,hq,hl,ho,hn⟩:=hs;have e : F q.toNat (pkE p) = true:=hI q.toNat p (by omega) (by rw [show ((q.toNat : Nat) : Int) = q by omega];exact hq);have e1 : orP (F 0) (F 1) (F 2) (F 3) 4 (pkE p) = true:=by
   show ((((false || F 0 (pkE p)) || F 1 (pkE p)) || F 2 (pkE p)) || F 3 (pkE p)) = true;have hq : q.toNat = 0 ∨ q.toNat = 1 ∨ q.toNat = 2 ∨ q.toNat = 3:=by omega
   rcases hq with h | h | h | h <;> rw [h] at e <;> simp [e]
  have e2 : (sentN (routesD d) o 16).testBit p.d.toNat = true:=by
   rw [sentN_bit,decide_eq_true (show p.d.toNat < 16 by omega)];unfold sentB;rw [show ((p.d.toNat : Nat) : Int) = p.d by omega];show (true && (outB (routesOf d) p.d && (outN (routesOf d) p.d == o))) = true;rw [ho,hn];simp
  have e3 : letsF (rulesD d) (pkE p) = true:=by rw [letsF_pk _ hp];exact hl
  show (((orP (F 0) (F 1) (F 2) (F 3) 4 (pkE p)) && (phi 65535 (sentN (routesD d) o 16) 255 255 (pkE p))) && letsF (rulesD d) (pkE p)) = true;rw [e1,e3,phi_pk _ _ _ _ hp,full16 h1,e2,full8 h3,full8 h4];rfl
 rw [if_neg k2] at hs ⊢;by_cases k3 : d.kind = 3
 ·rw [if_pos k3] at hs ⊢;by_cases o1 : o = 1
  ·rw [if_pos o1] at hs ⊢;show (F 0 (pkE p) && letsF (rulesD d) (pkE p)) = true;rw [hI 0 p (by omega) hs.1,letsF_pk _ hp];exact hs.2
  ·rw [if_neg o1] at hs ⊢;obtain ⟨_,g1,g2,g3⟩:=hs;show (F 1 (pkE p) && flF (fun x=>F 0 x && letsF (rulesD d) x) (pkE p)) = true;rw [flF_pk,hI 1 p (by omega) g1];show (true && (F 0 (pkE (flipP p)) && letsF (rulesD d) (pkE (flipP p)))) = true;rw [hI 0 _ (by omega) g2,letsF_pk _ (p:=flipP p) (pk_made h2 h1 h4 h3)];exact g3
 rw [if_neg k3] at hs ⊢;by_cases k4 : d.kind = 4
 ·rw [if_pos k4] at hs ⊢;by_cases o1 : o = 1
  ·rw [if_pos o1] at hs ⊢;obtain ⟨g1,g2,s,sp,g3⟩:=hs;have gp : d.pool.testBit p.sp.toNat = true:=by
    unfold poolB at g2;simp only [Bool.and_eq_true] at g2;exact g2.2
   show (anF (anF (F 0) 8 3) 0 4 (pkE p) && phi (setL [d.addr] 0) 65535 d.pool 255 (pkE p)) = true;rw [anF_of _ 0 4 (pkE p) (pkE ⟨s,p.d,p.sp,p.dp⟩) (pkE_s _ _ _ _ _) (anF_of _ 8 3 _ (pkE ⟨s,p.d,sp,p.dp⟩) (pkE_sp _ _ _ _ _) (hI 0 _ (by omega) g3)),phi_pk _ _ _ _ hp,g1,setL_one,full16 h2,gp,full8 h4];rfl
  ·rw [if_neg o1] at hs ⊢;obtain ⟨_,⟨k,g1,g2⟩,x,y,g3⟩:=hs;unfold poolB poB at g1;simp only [Bool.and_eq_true,decide_eq_true_eq] at g1;obtain ⟨gk,gp⟩:=g1;show (anF (anF (fun x=>F 1 x && phi 65535 (setL [d.addr] 0) 255 d.pool x) 11 3) 4 4 (pkE p) && flF (anF (anF (F 0) 11 3) 4 4) (pkE p)) = true;rw [flF_pk,anF_of _ 4 4 (pkE p) (pkE ⟨p.s,d.addr,p.sp,p.dp⟩) (pkE_d _ _ _ _ _) (anF_of _ 11 3 _ (pkE ⟨p.s,d.addr,p.sp,k⟩) (pkE_dp _ _ _ _ _) (by
    show (F 1 (pkE ⟨p.s,d.addr,p.sp,k⟩) && phi 65535 (setL [d.addr] 0) 255 d.pool (pkE ⟨p.s,d.addr,p.sp,k⟩)) = true;rw [hI 1 _ (by omega) g2,phi_pk _ _ _ _ (p:=⟨p.s,d.addr,p.sp,k⟩) (pk_made h1 ha h3 gk),full16 h1,setL_one,full8 h3,gp];rfl)),
    anF_of _ 4 4 (pkE (flipP p)) (pkE ⟨p.d,x,p.dp,p.sp⟩) (pkE_d _ _ _ _ _) (anF_of _ 11 3 _ (pkE ⟨p.d,x,p.dp,y⟩) (pkE_dp _ _ _ _ _) (hI 0 _ (by omega) g3))]
   rfl
 rw [if_neg k4] at hs ⊢;by_cases k5 : d.kind = 5
 ·rw [if_pos k5] at hs ⊢;by_cases o1 : o = 1
  ·rw [if_pos o1] at hs ⊢;show ((F 0 (pkE p) && phi 65535 (notN (setL [d.addr] 0)) 255 255 (pkE p)) || (anF (fun x=>F 0 x && phi 65535 (setL [d.addr] 0) 255 255 x) 4 4 (pkE p) && phi 65535 (setL d.backs 0) 255 255 (pkE p))) = true;rw [Bool.or_eq_true];rcases hs with ⟨g1,g2⟩ | ⟨g1,g2⟩
   ·refine Or.inl ?_;rw [hI 0 _ (by omega) g1,phi_pk _ _ _ _ hp,full16 h1,not_one ha h2 g2,full8 h3,full8 h4];rfl
   ·refine Or.inr ?_;rw [phi_pk _ _ _ _ hp,full16 h1,setL_mem g1,full8 h3,full8 h4,anF_of _ 4 4 (pkE p) (pkE ⟨p.s,d.addr,p.sp,p.dp⟩) (pkE_d _ _ _ _ _) (by
     show (F 0 (pkE ⟨p.s,d.addr,p.sp,p.dp⟩) && phi 65535 (setL [d.addr] 0) 255 255 (pkE ⟨p.s,d.addr,p.sp,p.dp⟩)) = true;rw [hI 0 _ (by omega) g2,phi_pk _ _ _ _ (p:=⟨p.s,d.addr,p.sp,p.dp⟩) (pk_made h1 ha h3 h4),full16 h1,setL_one,full8 h3,full8 h4];rfl)]
    rfl
  ·rw [if_neg o1] at hs ⊢;show (F 1 (pkE p) || (anF (fun x=>F 1 x && (phi (setL d.backs 0) 65535 255 255 x && flF (anF (fun x=>F 0 x && phi 65535 (setL [d.addr] 0) 255 255 x) 4 4) x)) 0 4 (pkE p) && phi (setL [d.addr] 0) 65535 255 255 (pkE p))) = true;rw [Bool.or_eq_true];rcases hs.2 with g1 | ⟨g1,b,g2,g3,g4⟩
   ·exact Or.inl (hI 1 _ (by omega) g1)
   ·have hb:=hbs b g2;refine Or.inr ?_;rw [phi_pk _ _ _ _ hp,g1,setL_one,full16 h2,full8 h3,full8 h4,anF_of _ 0 4 (pkE p) (pkE ⟨b,p.d,p.sp,p.dp⟩) (pkE_s _ _ _ _ _) (by
     show (F 1 (pkE ⟨b,p.d,p.sp,p.dp⟩) && (phi (setL d.backs 0) 65535 255 255 (pkE ⟨b,p.d,p.sp,p.dp⟩) && flF (anF (fun x=>F 0 x && phi 65535 (setL [d.addr] 0) 255 255 x) 4 4) (pkE ⟨b,p.d,p.sp,p.dp⟩))) = true;rw [hI 1 _ (by omega) g3,phi_pk _ _ _ _ (p:=⟨b,p.d,p.sp,p.dp⟩) (pk_made hb h2 h3 h4),setL_mem g2,full16 h2,full8 h3,full8 h4,flF_pk,anF_of _ 4 4 (pkE (flipP ⟨b,p.d,p.sp,p.dp⟩)) (pkE ⟨p.d,d.addr,p.dp,p.sp⟩) (pkE_d _ _ _ _ _) (by
      show (F 0 (pkE ⟨p.d,d.addr,p.dp,p.sp⟩) && phi 65535 (setL [d.addr] 0) 255 255 (pkE ⟨p.d,d.addr,p.dp,p.sp⟩)) = true;rw [hI 0 _ (by omega) g4,phi_pk _ _ _ _ (p:=⟨p.d,d.addr,p.dp,p.sp⟩) (pk_made h2 ha h4 h3),full16 h2,setL_one,full8 h4,full8 h3];rfl)]
     rfl)]
    rfl
 rw [if_neg k5] at hs;exact hs.elim
def SetP (ds : List Dv) (ls : List Lk) (K : Nat) : PSet:=fun t p=>atF ds ls K t.1 t.2 (pkE p) = true
theorem atF_nat {ds : List Dv} {ls : List Lk} {K a b : Nat} (ha : a < 10) (hb : b < 4) : atF ds ls K (a : Int) (b : Int) = SetF ds ls K a b:=by
 unfold atF;rw [if_pos (by omega)];rfl
theorem anF_to (φ : Env -> Bool) (i : Nat) : ∀ (k : Nat) (x : Env),anF φ i k x = true -> ∃ y : Env,(∀ v,v < i ∨ i + k <= v -> y v = x v) /\ φ y = true
 | 0,x,h=>⟨x,fun _ _=>rfl,h⟩
 | k + 1,x,h=>by
   have h' : (anF φ i k (setE x (i + k) false) || anF φ i k (setE x (i + k) true)) = true:=h;rw [Bool.or_eq_true] at h';have step : ∀ b,anF φ i k (setE x (i + k) b) = true -> ∃ y : Env,(∀ v,v < i ∨ i + (k + 1) <= v -> y v = x v) /\ φ y = true:=fun b hb=>by
    obtain ⟨y,h1,h2⟩:=anF_to φ i k _ hb;refine ⟨y,fun v hv=>?_,h2⟩;rw [h1 v (by omega),setE_ne _ _ (by omega)]
   rcases h' with h' | h'
   ·exact step false h'
   ·exact step true h'
theorem val_at {y : Env} (k first v : Nat) (h : first <= v) (h2 : v < first + k) : ((val k first y : Nat) : Int).toNat.testBit (first + k - 1 - v) = y v:=by
 have:=val_test k first y (v - first) (by omega);rw [show first + (v - first) = v by omega,show k - 1 - (v - first) = first + k - 1 - v by omega] at this;rw [Int.toNat_natCast];exact this
theorem env_s {y : Env} {p : Pk} (h : ∀ v,v < 0 ∨ 0 + 4 <= v -> y v = pkE p v) : ∃ s : Int,(0 <= s /\ s < 16) /\ y = pkE ⟨s,p.d,p.sp,p.dp⟩:=by
 have hl : val 4 0 y < 16:=val_lt 4 0 y;refine ⟨(val 4 0 y : Nat),by omega,funext fun v=>?_⟩;by_cases hv : v < 4
 ·rw [<- val_at (y:=y) 4 0 v (by omega) (by omega)];simp [pkE,hv]
 ·rw [h v (by omega)];exact pkE_s _ _ _ _ _ v (by omega)
theorem env_d {y : Env} {p : Pk} (h : ∀ v,v < 4 ∨ 4 + 4 <= v -> y v = pkE p v) : ∃ d : Int,(0 <= d /\ d < 16) /\ y = pkE ⟨p.s,d,p.sp,p.dp⟩:=by
 have hl : val 4 4 y < 16:=val_lt 4 4 y;refine ⟨(val 4 4 y : Nat),by omega,funext fun v=>?_⟩;by_cases hv : v < 4 ∨ 4 + 4 <= v
 ·rw [h v hv];exact pkE_d _ _ _ _ _ v hv
 ·rw [<- val_at (y:=y) 4 4 v (by omega) (by omega)];simp [pkE,show ¬ v < 4 by omega,show v < 8 by omega]
theorem env_sp {y : Env} {p : Pk} (h : ∀ v,v < 8 ∨ 8 + 3 <= v -> y v = pkE p v) : ∃ s : Int,(0 <= s /\ s < 8) /\ y = pkE ⟨p.s,p.d,s,p.dp⟩:=by
 have hl : val 3 8 y < 8:=val_lt 3 8 y;refine ⟨(val 3 8 y : Nat),by omega,funext fun v=>?_⟩;by_cases hv : v < 8 ∨ 8 + 3 <= v
 ·rw [h v hv];exact pkE_sp _ _ _ _ _ v hv
 ·rw [<- val_at (y:=y) 3 8 v (by omega) (by omega)];simp [pkE,show ¬ v < 4 by omega,show ¬ v < 8 by omega,show v < 11 by omega]
theorem env_dp {y : Env} {p : Pk} (h : ∀ v,v < 11 ∨ 11 + 3 <= v -> y v = pkE p v) : ∃ s : Int,(0 <= s /\ s < 8) /\ y = pkE ⟨p.s,p.d,p.sp,s⟩:=by
 have hl : val 3 11 y < 8:=val_lt 3 11 y;refine ⟨(val 3 11 y : Nat),by omega,funext fun v=>?_⟩;by_cases hv : v < 11 ∨ 11 + 3 <= v
 ·rw [h v hv];exact pkE_dp _ _ _ _ _ v hv
 ·rw [<- val_at (y:=y) 3 11 v (by omega) (by omega)];simp [pkE,show ¬ v < 4 by omega,show ¬ v < 8 by omega,show ¬ v < 11 by omega,show v < 14 by omega]
theorem setL_to {l : List Int} {x : Int} (hl : ∀ y ∈ l,0 <= y) (hx : 0 <= x) (h : (setL l 0).testBit x.toNat = true) : x ∈ l:=by
 rw [setL_bit] at h;rcases h with h | ⟨y,hy,e⟩
 ·simp at h
 ·have:=hl y hy;rw [show x = y by omega];exact hy
theorem one_to {a x : Int} (ha : 0 <= a) (hx : 0 <= x) (h : (setL [a] 0).testBit x.toNat = true) : x = a:=by
 have:=setL_to (l:=[a]) (fun y hy=>by simp at hy;omega) hx h;simpa using this
theorem send_to {d : Dv} {i : Int} {I : PSet} {F : Nat -> Env -> Bool} (hI : ∀ (q : Nat) (p : Pk),q < 4 -> pkOk p = true -> F q (pkE p) = true -> I (i,(q : Int)) p) (hd : devC d = 0) {o : Int} (ho : 0 <= o /\ o < portsV d.kind) {p : Pk} (hp : pkOk p = true) (hs : sendF d o (F 0) (F 1) (F 2) (F 3) (pkE p) = true) : sendR d i I o p:=by
 obtain ⟨_,ha,hbs,_,_⟩:=dev_right hd;obtain ⟨h1,h2,h3,h4⟩:=pk_bounds hp;unfold sendF at hs;unfold sendR;by_cases k2 : d.kind = 2
 ·rw [if_pos k2] at hs ⊢;have hs' : (((orP (F 0) (F 1) (F 2) (F 3) 4 (pkE p)) && (phi 65535 (sentN (routesD d) o 16) 255 255 (pkE p))) && letsF (rulesD d) (pkE p)) = true:=hs;rw [phi_pk _ _ _ _ hp,letsF_pk _ hp] at hs';simp only [Bool.and_eq_true] at hs';obtain ⟨⟨g1,_,g2,_,_⟩,g3⟩:=hs';have g1' : ((((false || F 0 (pkE p)) || F 1 (pkE p)) || F 2 (pkE p)) || F 3 (pkE p)) = true:=g1;rw [sentN_bit] at g2;unfold sentB at g2;rw [show ((p.d.toNat : Nat) : Int) = p.d by omega] at g2;simp only [Bool.and_eq_true,decide_eq_true_eq,beq_iff_eq] at g2;simp only [Bool.or_eq_true,Bool.false_eq_true,false_or] at g1';obtain ⟨q,hq,hF⟩ : ∃ q : Nat,q < 4 /\ F q (pkE p) = true:=by
   rcases g1' with ((g | g) | g) | g
   ·exact ⟨0,by omega,g⟩
   ·exact ⟨1,by omega,g⟩
   ·exact ⟨2,by omega,g⟩
   ·exact ⟨3,by omega,g⟩
  exact ⟨(q : Int),by omega,by omega,hI q p hq hp hF,g3,g2.2.1,g2.2.2⟩
 rw [if_neg k2] at hs ⊢;have ho2 : 3 <= d.kind -> d.kind <= 5 -> o < 2:=fun a b=>by
  have:=ho.2;unfold portsV at this;rw [if_neg (by omega),if_neg k2] at this
  split at this <;> omega
 by_cases k3 : d.kind = 3
 ·rw [if_pos k3] at hs ⊢;by_cases o1 : o = 1
  ·rw [if_pos o1] at hs ⊢;have hs' : (F 0 (pkE p) && letsF (rulesD d) (pkE p)) = true:=hs;rw [letsF_pk _ hp,Bool.and_eq_true] at hs';exact ⟨hI 0 p (by omega) hp hs'.1,hs'.2⟩
  ·rw [if_neg o1] at hs ⊢;have hs' : (F 1 (pkE p) && flF (fun x=>F 0 x && letsF (rulesD d) x) (pkE p)) = true:=hs;rw [flF_pk,Bool.and_eq_true] at hs';have hf : pkOk (flipP p) = true:=pk_made h2 h1 h4 h3;have hg : (F 0 (pkE (flipP p)) && letsF (rulesD d) (pkE (flipP p))) = true:=hs'.2;rw [letsF_pk _ hf,Bool.and_eq_true] at hg;exact ⟨by have:=ho2 (by omega) (by omega);omega,hI 1 p (by omega) hp hs'.1,hI 0 _ (by omega) hf hg.1,hg.2⟩
 rw [if_neg k3] at hs ⊢;by_cases k4 : d.kind = 4
 ·rw [if_pos k4] at hs ⊢;by_cases o1 : o = 1
  ·rw [if_pos o1] at hs ⊢;have hs' : (anF (anF (F 0) 8 3) 0 4 (pkE p) && phi (setL [d.addr] 0) 65535 d.pool 255 (pkE p)) = true:=hs;rw [phi_pk _ _ _ _ hp] at hs';simp only [Bool.and_eq_true] at hs';obtain ⟨g1,g2,_,g3,_⟩:=hs';obtain ⟨y,e1,g1⟩:=anF_to _ _ _ _ g1;obtain ⟨s,hsb,rfl⟩:=env_s e1;obtain ⟨y,e1,g1⟩:=anF_to _ _ _ _ g1;obtain ⟨sp,hspb,rfl⟩:=env_sp e1;refine ⟨one_to ha.1 h1.1 g2,?_,s,sp,hI 0 _ (by omega) (pk_made hsb h2 hspb h4) g1⟩;unfold poolB poB;rw [g3];simp;omega
  ·rw [if_neg o1] at hs ⊢;have hs' : (anF (anF (fun x=>F 1 x && phi 65535 (setL [d.addr] 0) 255 d.pool x) 11 3) 4 4 (pkE p) && flF (anF (anF (F 0) 11 3) 4 4) (pkE p)) = true:=hs;rw [flF_pk,Bool.and_eq_true] at hs';obtain ⟨g1,g2⟩:=hs';obtain ⟨y,e1,g1⟩:=anF_to _ _ _ _ g1;obtain ⟨x,hxb,rfl⟩:=env_d e1;obtain ⟨y,e1,g1⟩:=anF_to _ _ _ _ g1;obtain ⟨k,hkb,rfl⟩:=env_dp e1;have hk : pkOk ⟨p.s,x,p.sp,k⟩ = true:=pk_made h1 hxb h3 hkb;have g1' : (F 1 (pkE ⟨p.s,x,p.sp,k⟩) && phi 65535 (setL [d.addr] 0) 255 d.pool (pkE ⟨p.s,x,p.sp,k⟩)) = true:=g1;rw [phi_pk _ _ _ _ hk] at g1';simp only [Bool.and_eq_true] at g1';obtain ⟨f1,_,f2,_,f3⟩:=g1';obtain rfl : x = d.addr:=one_to ha.1 hxb.1 f2;obtain ⟨y,e1,g2⟩:=anF_to _ _ _ _ g2;obtain ⟨u,hub,rfl⟩:=env_d e1;obtain ⟨y,e1,g2⟩:=anF_to _ _ _ _ g2;obtain ⟨t,htb,rfl⟩:=env_dp e1;refine ⟨by have:=ho2 (by omega) (by omega);omega,⟨k,?_,hI 1 _ (by omega) hk f1⟩,u,t,hI 0 _ (by omega) (pk_made h2 hub h4 htb) g2⟩;unfold poolB poB;rw [f3];simp;omega
 rw [if_neg k4] at hs ⊢;by_cases k5 : d.kind = 5
 ·rw [if_pos k5] at hs ⊢;by_cases o1 : o = 1
  ·rw [if_pos o1] at hs ⊢;have hs' : ((F 0 (pkE p) && phi 65535 (notN (setL [d.addr] 0)) 255 255 (pkE p)) || (anF (fun x=>F 0 x && phi 65535 (setL [d.addr] 0) 255 255 x) 4 4 (pkE p) && phi 65535 (setL d.backs 0) 255 255 (pkE p))) = true:=hs;rw [phi_pk _ _ _ _ hp,phi_pk _ _ _ _ hp] at hs';simp only [Bool.or_eq_true,Bool.and_eq_true] at hs';rcases hs' with ⟨g1,_,g2,_,_⟩ | ⟨g1,_,g2,_,_⟩
   ·refine Or.inl ⟨hI 0 p (by omega) hp g1,fun e=>?_⟩;rw [(notN_spec _).2.2 _ (by omega),e,setL_one] at g2;cases g2
   ·obtain ⟨y,e1,g1⟩:=anF_to _ _ _ _ g1;obtain ⟨x,hxb,rfl⟩:=env_d e1;have hk : pkOk ⟨p.s,x,p.sp,p.dp⟩ = true:=pk_made h1 hxb h3 h4;have g1' : (F 0 (pkE ⟨p.s,x,p.sp,p.dp⟩) && phi 65535 (setL [d.addr] 0) 255 255 (pkE ⟨p.s,x,p.sp,p.dp⟩)) = true:=g1;rw [phi_pk _ _ _ _ hk] at g1';simp only [Bool.and_eq_true] at g1';obtain ⟨f1,_,f2,_,_⟩:=g1';obtain rfl : x = d.addr:=one_to ha.1 hxb.1 f2;exact Or.inr ⟨setL_to (fun y hy=>(hbs y hy).1) h2.1 g2,hI 0 _ (by omega) hk f1⟩
  ·rw [if_neg o1] at hs ⊢;have hs' : (F 1 (pkE p) || (anF (fun x=>F 1 x && (phi (setL d.backs 0) 65535 255 255 x && flF (anF (fun x=>F 0 x && phi 65535 (setL [d.addr] 0) 255 255 x) 4 4) x)) 0 4 (pkE p) && phi (setL [d.addr] 0) 65535 255 255 (pkE p))) = true:=hs;refine ⟨by have:=ho2 (by omega) (by omega);omega,?_⟩;rw [phi_pk _ _ _ _ hp] at hs';simp only [Bool.or_eq_true,Bool.and_eq_true] at hs';rcases hs' with g | ⟨g1,g2,_,_,_⟩
   ·exact Or.inl (hI 1 p (by omega) hp g)
   ·obtain ⟨y,e1,g1⟩:=anF_to _ _ _ _ g1;obtain ⟨b,hbb,rfl⟩:=env_s e1;have hk : pkOk ⟨b,p.d,p.sp,p.dp⟩ = true:=pk_made hbb h2 h3 h4;have g1' : (F 1 (pkE ⟨b,p.d,p.sp,p.dp⟩) && (phi (setL d.backs 0) 65535 255 255 (pkE ⟨b,p.d,p.sp,p.dp⟩) && flF (anF (fun x=>F 0 x && phi 65535 (setL [d.addr] 0) 255 255 x) 4 4) (pkE ⟨b,p.d,p.sp,p.dp⟩))) = true:=g1;rw [phi_pk _ _ _ _ hk,flF_pk] at g1';simp only [Bool.and_eq_true] at g1';obtain ⟨f1,⟨f2,_,_,_⟩,f3⟩:=g1';obtain ⟨y,e1,f3⟩:=anF_to _ _ _ _ f3;obtain ⟨x,hxb,rfl⟩:=env_d e1;have hk2 : pkOk ⟨p.d,x,p.dp,p.sp⟩ = true:=pk_made h2 hxb h4 h3;have f3' : (F 0 (pkE ⟨p.d,x,p.dp,p.sp⟩) && phi 65535 (setL [d.addr] 0) 255 255 (pkE ⟨p.d,x,p.dp,p.sp⟩)) = true:=f3;rw [phi_pk _ _ _ _ hk2] at f3';simp only [Bool.and_eq_true] at f3';obtain ⟨f4,_,f5,_,_⟩:=f3';obtain rfl : x = d.addr:=one_to ha.1 hxb.1 f5;exact Or.inr ⟨one_to ha.1 h1.1 g2,b,setL_to (fun y hy=>(hbs y hy).1) hbb.1 f2,hI 1 _ (by omega) hk f1,hI 0 _ (by omega) hk2 f4⟩
 rw [if_neg k5] at hs;cases hs
theorem devsFrom_allP {ds : List Dv} : ∀ (m k : Nat),ds.length - k <= m -> devsFrom ds k = 0 -> ∀ j d,k <= j -> ds[j]? = some d -> devWrong ds j d = 0
 | 0,k,h,_,j,d,hj,hd=>by
   have:=(List.getElem?_eq_some_iff.1 hd).1;omega
 | m + 1,k,h,h0,j,d,hj,hd=>by
   have hjl:=(List.getElem?_eq_some_iff.1 hd).1;have hk : k < ds.length:=by omega
   rw [devsFrom_at (List.getElem?_eq_getElem hk)] at h0
   split at h0
   ·rename_i hw
    by_cases e : j = k
    ·subst e;rw [List.getElem?_eq_getElem hk,Option.some.injEq] at hd;rw [<- hd];exact hw
    ·exact devsFrom_allP m (k + 1) (by omega) h0 j d (by omega) hd
   ·rename_i hw
    exact absurd h0 hw
theorem netV_devsP {ds : List Dv} {ls : List Lk} (h : netV ds ls = 0) : ∀ d ∈ ds,devC d = 0:=by
 intro d hd;obtain ⟨k,hk,e⟩:=List.mem_iff_getElem.1 hd;unfold netV at h
 split at h
 ·simp at h
 ·split at h
  ·rename_i hz
   have:=devsFrom_allP ds.length 0 (by omega) hz k d (Nat.zero_le _) (by rw [List.getElem?_eq_getElem hk,e]);unfold devWrong at this
   split at this
   ·split at this
    ·simp at this
    ·exact this
   ·simp at this
  ·rename_i hz
   exact absurd h hz
section
variable {ds : List Dv} {ls : List Lk} {k : Nat} {t : Int × Int} {p : Pk}
theorem setP_zero (hz : netV ds ls = 0) (hp : pkOk p = true) : SetP ds ls 0 t p ↔ ∃ (i : Nat) (d : Dv),ds[i]? = some d /\ d.kind = 1 /\ peerF ls i 0 = some t /\ p.s = d.addr:=by
 have h10:=(netV_links hz).1;constructor
 ·intro h;have h' : atF ds ls 0 t.1 t.2 (pkE p) = true:=h;unfold atF at h'
  split at h'
  ·rename_i hc
   rw [setF_zero] at h';obtain ⟨i,d,h1,h2,h3,h4,h5⟩:=h';refine ⟨i,d,h2,h3,?_,?_⟩
   ·rw [h4];obtain ⟨t1,t2⟩:=t;dsimp only at hc ⊢;rw [show ((t1.toNat : Nat) : Int) = t1 by omega,show ((t2.toNat : Nat) : Int) = t2 by omega]
   ·rw [phi_pk _ _ _ _ hp] at h5;simp only [Bool.and_eq_true] at h5;obtain ⟨b1,_⟩:=pk_bounds hp;have hd:=(dev_right (netV_devsP hz d (List.mem_of_getElem? h2)));exact one_to (by have:=hd.2.1;omega) b1.1 h5.1
  ·cases h'
 ·rintro ⟨i,d,hd,hk,hpe,hs⟩;obtain ⟨a,b,rfl,ha,hb⟩:=peer_pl hz hpe;have hi:=(List.getElem?_eq_some_iff.1 hd).1;obtain ⟨h1,h2,h3,h4⟩:=pk_bounds hp;show atF ds ls 0 (a : Int) (b : Int) (pkE p) = true;rw [atF_nat ha hb,setF_zero];refine ⟨i,d,hi,hd,hk,hpe,?_⟩;rw [phi_pk _ _ _ _ hp,hs,setL_one,full16 h2,full8 h3,full8 h4];rfl
theorem setP_succ (hz : netV ds ls = 0) (hp : pkOk p = true) : SetP ds ls (k + 1) t p ↔ SetP ds ls k t p ∨ ∃ (i : Nat) (d : Dv) (o : Int),ds[i]? = some d /\ peerF ls i o = some t /\ sendR d i (SetP ds ls k) o p:=by
 have h10:=(netV_links hz).1;constructor
 ·intro h;have h' : atF ds ls (k + 1) t.1 t.2 (pkE p) = true:=h;unfold atF at h'
  split at h'
  ·rename_i hc
   rw [setF_succ] at h';rcases h' with h' | ⟨i,q,d,h1,h2,h3,h4,h5,h6⟩
   ·left
    show atF ds ls k t.1 t.2 (pkE p) = true;unfold atF;rw [if_pos hc];exact h'
   ·right
    refine ⟨i,d,(q : Int),h3,?_,?_⟩
    ·rw [h5];obtain ⟨t1,t2⟩:=t;dsimp only at hc ⊢;rw [show ((t1.toNat : Nat) : Int) = t1 by omega,show ((t2.toNat : Nat) : Int) = t2 by omega]
    ·have hi : i < 10:=by
      have:=(List.getElem?_eq_some_iff.1 h3).1;omega
     exact send_to (i:=(i : Int)) (I:=SetP ds ls k) (F:=SetF ds ls k i) (fun q p hq _ h=>by
      show atF ds ls k (i : Int) (q : Int) (pkE p) = true;rw [atF_nat hi hq];exact h) (netV_devsP hz d (List.mem_of_getElem? h3)) (by omega) hp h6
  ·cases h'
 ·rintro (h | ⟨i,d,o,hd,hpe,hs⟩)
  ·exact atF_up (Nat.le_succ k) _ _ _ h
  ·obtain ⟨a,b,rfl,ha,hb⟩:=peer_pl hz hpe;have hi:=(List.getElem?_eq_some_iff.1 hd).1;obtain ⟨l,hl,he⟩:=peerF_of hpe;have hpl : isPl ds (i : Int) o = true:=by
    have hp:=(netV_links hz).2.2.2 l hl;rcases endOf_ends he with ⟨e,_⟩ | ⟨e,_⟩
    ·have:=hp.1;rw [e.1,e.2] at this;exact this
    ·have:=hp.2;rw [e.1,e.2] at this;exact this
   unfold isPl at hpl;simp only [Bool.and_eq_true,decide_eq_true_eq] at hpl;have hk : kindAt ds (i : Int) = d.kind:=by
    unfold kindAt;simp [hd]
   rw [hk] at hpl;show atF ds ls (k + 1) (a : Int) (b : Int) (pkE p) = true;rw [atF_nat ha hb,setF_succ];refine Or.inr ⟨i,o.toNat,d,Or.inl hi,fun h=>h,hd,by omega,?_,?_⟩
   ·rw [show ((o.toNat : Nat) : Int) = o by omega];exact hpe
   ·rw [show ((o.toNat : Nat) : Int) = o by omega];exact send_f (i:=(i : Int)) (I:=SetP ds ls k) (F:=SetF ds ls k i) (fun q p hq h=>by
     have h' : atF ds ls k (i : Int) (q : Int) (pkE p) = true:=h;rw [atF_nat (by omega) hq] at h';exact h') (netV_devsP hz d (List.mem_of_getElem? hd)) hp hs
end
def Bk (w : World) (k : Nat) (c : Array Value) (t : TypeId) : Prop:=w.heap[k]? = some (.cells c t (0,0))
section
variable {w w' : World} {k : Nat} {c : Array Value} {t : TypeId}
theorem Bk.lt (h : Bk w k c t) : k < w.heap.size:=(Array.getElem?_eq_some_iff.1 h).1
theorem Bk.below {B : Nat} (h : Bk w k c t) (hb : Below B w w') (hk : k < B) : Bk w' k c t:=(hb.block k hk).trans h
theorem Bk.keep (hb : Below w.heap.size w w') (h : Bk w k c t) : Bk w' k c t:=h.below hb h.lt
theorem Bk.alloc (h : Bk w k c t) (o : Obj) : Bk (w.alloc o) k c t:=h.below ((Below.refl _ _).alloc (Nat.le_refl _) o) h.lt
theorem Bk.drew (h : Bk w k c t) : Bk w.drew k c t:=h
theorem bk_new (w : World) (c : Array Value) (t : TypeId) : Bk (w.alloc (.cells c t)) w.heap.size c t:=by
 show (w.heap.push _)[w.heap.size]? = _;simp
theorem bk_new' (w : World) (c : Array Value) (t : TypeId) (k : Nat) (h : k = w.heap.size) : Bk (w.alloc (.cells c t)) k c t:=by rw [h];exact bk_new w c t
theorem Bk.at (h : Bk w k c t) (j : Nat) : w.cell? ⟨k,j,none⟩ = c[j]?:=cell_of_row w k j _ _ _ h
theorem Bk.fz (h : Bk w k c t) (j : Nat) : w.frozen? ⟨k,j,none⟩ = false:=by
 unfold Bk at h;simp [World.frozen?,h]
end
structure Put (k : Nat) (w w' : World) : Prop where
 os : w'.os = w.os
 tape : w'.tape = w.tape
 output : w'.output = w.output
 size : w'.heap.size = w.heap.size
 block : ∀ b,b ≠ k -> w'.heap[b]? = w.heap[b]?
theorem Bk.setS {w : World} {k j : Nat} {c : Array Value} {t : TypeId} (h : Bk w k c t) (u : Value) : Bk (w.setCell ⟨k,j,none⟩ u) k (c.setIfInBounds j u) t:=by
 unfold Bk at *;simp [World.setCell,Array.getElem?_modify,h]
theorem Bk.four {w : World} {k : Nat} {t : TypeId} {a b c d : Value} (h : Bk w k #[a,b,c,d] t) : w.cell? ⟨k,0,none⟩ = some a /\ w.cell? ⟨k,1,none⟩ = some b /\ w.cell? ⟨k,2,none⟩ = some c /\ w.cell? ⟨k,3,none⟩ = some d /\ w.frozen? ⟨k,0,none⟩ = false /\ w.frozen? ⟨k,1,none⟩ = false /\ w.frozen? ⟨k,2,none⟩ = false /\ w.frozen? ⟨k,3,none⟩ = false:=⟨h.at 0,h.at 1,h.at 2,h.at 3,h.fz 0,h.fz 1,h.fz 2,h.fz 3⟩
theorem Bk.one {w : World} {k : Nat} {t : TypeId} {a : Value} (h : Bk w k #[a] t) : w.cell? ⟨k,0,none⟩ = some a /\ w.frozen? ⟨k,0,none⟩ = false:=⟨h.at 0,h.fz 0⟩
theorem Bk.two {w : World} {k : Nat} {t : TypeId} {a b : Value} (h : Bk w k #[a,b] t) : w.cell? ⟨k,0,none⟩ = some a /\ w.cell? ⟨k,1,none⟩ = some b:=⟨h.at 0,h.at 1⟩
end Go.Proofs.YtppbfikimalojaaGreat
