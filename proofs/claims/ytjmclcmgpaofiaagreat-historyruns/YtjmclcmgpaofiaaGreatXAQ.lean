/-
  XAQ.
-/
import Derived.Test.YtjmclcmgpaofiaaGreatXLy
import Derived.Test.YtjmclcmgpaofiaaGreatXAP
import Derived.Test.YtjmclcmgpaofiaaGreatXAL
set_option maxHeartbeats 8000000
set_option maxRecDepth 100000
namespace Go.Proofs.YtjmclcmgpaofiaaGreat
open Tryz
open Go.RowKit Go.Maps
theorem aK{V V':World}(k:Below V V V'){a:Addr}{v:Value}(h:V.cell? a=some v):V'.cell? a=some v:=(k.cell (World.block_lt_of_cell? _ _ h)).trans h
theorem qF{a b c d e f:Prop}(h:a /\ b /\ c /\ d /\ e /\ Hd f):f:=h.2.2.2.2.2.out
def HistN(s:Nat->Nat->Nat->Nat)(n:Nat)(xs:List Value)(ns:List Nd):Prop :=
 ∀j a b,j<n->a<10->b<4->xs[j*40+(a*4+b)]?=some (.int .i64 (s j a b:Int)) /\ s j a b<ns.length
theorem HistN.sets{s:Nat->Nat->Nat->Nat}{n i:Nat}{xs:List Value}{ns:List Nd}(h:HistN s n xs ns)(hi:i<n)(hl:xs.length=n*40):SetsV (((xs.drop (i*40)).take 40).toArray) (s i):=by
 refine⟨?_,λa b ha hb=>?_⟩
 ·simp;have:(i+1)*40<=n*40:=Nat.mul_le_mul_right 40 (by omega);omega
 ·have:=(h i a b hi ha hb).1;simp only[List.getElem?_toArray];rw[List.getElem?_take,if_pos (by omega),List.getElem?_drop];exact this
theorem HistN.at_lt{s:Nat->Nat->Nat->Nat}{n i a8:Nat}{xs:List Value}{ns:List Nd}(h:HistN s n xs ns)(hi:i<n)(hw:Wf a8 ns)(p q:Int):atN (s i) p q<ns.length:=by
 unfold atN
 split
 ·rename_i hc
  exact(h i _ _ hi (by omega) (by omega)).2
 ·have:=hw.len;omega
theorem Bo{bR R MR a7 n B0:Nat}{sl:Value}{xs:List Value}{ns:List Nd}{p q:Int}{x0 x1:Value}{s:Nat->Nat->Nat->Nat}{w:World}(hRc:Rc bR R MR a7 sl (n+1) xs ns w)(hs:Hd (HistN s (n+1) xs ns))
  (b0:Bz w B0 #[.pointer R] 32) (b1:Bz w (B0+1) #[p,q] 27) (b2:Bz w (B0+1+1) #[.func (.func 55) #[] #[x0,x1]] 96)
  (Q:Nat->Bool) (SO:Hd (∀(f:Nat) W,f<ns.length->Below w w W->CB 55 #[(f:Int),x0,x1] W (.bool (Q f)))) :
  Hd (∀(i:Nat) W,i<n+1->Below w w W->CB 65 #[(i:Int),.pointer (some ⟨B0+1+1,0,none⟩),.pointer B0,.pointer (some ⟨B0+1,0,none⟩)] W (.bool (Q (atN (s i) p q)))):=⟨λi W hi hb=>by
 have hW:=hRc.below hb;obtain⟨g,cap,rfl,lg,hcap,hcm,hlen,hcell⟩:=hW.sl;unfold maxLen at hcm;have HSV:Hd (SetsV (((xs.drop (i*40)).take 40).toArray) (s i)):=⟨hs.out.sets hi hlen⟩;obtain⟨cs,hcs⟩:∃cs:Array Value,cs=((xs.drop (i*40)).take 40).toArray:=⟨_,rfl⟩;rw[<- hcs]at HSV;have h40:Hd (cs.size=40):=⟨HSV.out.1⟩;have RG:Hd (W.rangeAt g (i*40) cs.toList):=⟨λj v hj=>by
  rw[hcs]at hj;have h2:(xs.drop (i*40))[j]?=some v:=by
   have hj':((xs.drop (i*40)).take 40)[j]?=some v:=by simpa using hj
   rw[List.getElem?_take]at hj'
   split at hj'
   ·exact hj'
   ·cases hj'
  rw[List.getElem?_drop]at h2;exact hcell _ _ h2⟩
 have fn:atN (s i) p q<ns.length:=hs.out.at_lt hi hW.ar.wf p q;have SO2:Hd (∀V,Below w w V->CB 55 #[.int .i64 (atN (s i) p q:Int),x0,x1] V (.bool (Q (atN (s i) p q)))):=⟨λV hV=>SO.out _ V fn hV⟩;have AT:Hd (∀V,CB 32 #[.agg cs,.agg #[p,q]] V (.int .i64 (atN (s i) p q:Int))):=⟨λV=>jE cs (s i) p q V HSV.out⟩;have B0':Bz W B0 _ _:=(hb.block _ b0.lt).trans b0;have B1':Bz W (B0+1) _ _:=(hb.block _ b1.lt).trans b1;have B2':Bz W (B0+1+1) _ _:=(hb.block _ b2.lt).trans b2;have S0:(W.drew.cell? ⟨B0+1+1,0,none⟩=some (.func (.func 55) #[] #[x0,x1]) /\ W.drew.cell? ⟨B0,0,none⟩=some (.pointer R) /\ W.drew.cell? ⟨R,4,none⟩=some (.slice g (n+1) cap) /\ W.drew.cell? ⟨B0+1,0,none⟩=some (.int .i64 p) /\ W.drew.cell? ⟨B0+1,1,none⟩=some (.int .i64 q) /\ Hd (W.drew.rangeAt g (i*40) cs.toList)) :=
  ⟨B2'.cell 0 _ rfl,B0'.cell 0 _ rfl,hW.c4,B1'.cell 0 _ rfl,B1'.cell 1 _ rfl,⟨RG.out⟩⟩
 have KS:Hd (∀V V':World,Below V V V'->(V.cell? ⟨B0+1+1,0,none⟩=some (.func (.func 55) #[] #[x0,x1]) /\ V.cell? ⟨B0,0,none⟩=some (.pointer R) /\ V.cell? ⟨R,4,none⟩=some (.slice g (n+1) cap) /\ V.cell? ⟨B0+1,0,none⟩=some (.int .i64 p) /\ V.cell? ⟨B0+1,1,none⟩=some (.int .i64 q) /\ Hd (V.rangeAt g (i*40) cs.toList))->(V'.cell? ⟨B0+1+1,0,none⟩=some (.func (.func 55) #[] #[x0,x1]) /\ V'.cell? ⟨B0,0,none⟩=some (.pointer R) /\ V'.cell? ⟨R,4,none⟩=some (.slice g (n+1) cap) /\ V'.cell? ⟨B0+1,0,none⟩=some (.int .i64 p) /\ V'.cell? ⟨B0+1,1,none⟩=some (.int .i64 q) /\ Hd (V'.rangeAt g (i*40) cs.toList))) :=
  ⟨λV V' k ⟨a1,a2,a3,a4,a5,a6⟩=>⟨aK k a1,aK k a2,aK k a3,aK k a4,aK k a5,⟨λj v hj=>aK k (a6.out j v hj)⟩⟩⟩
 have HB:Hd (Below w w W.drew):=⟨hb.drew⟩;have KC:Hd (∀V V':World,Below V V V'->Below W.drew.heap.size W.drew V->Below W W V'):=⟨λV V' k1 k2=>(Below.refl W W).drew.trans (ag k1 k2)⟩;generalize Q (atN (s i) p q)=r at *;generalize atN (s i) p q=f at *;have i1:(i:Int)<((n+1:Nat):Int):=by omega
 have i2:(0:Int)<=(i:Int):=by omega
 have i3:i<n+1:=hi;have i4:(i:Int)<(n:Int)+1:=by omega
 clear hW hcell HSV hs SO hRc b0 b1 b2 RG hb B0' B1' B2' hlen hcs;go_enter func65,ntmps65;go_upto_region 1 with fail;refine wp_region_held_drew (S:=λV=>(V.cell? ⟨B0+1+1,0,none⟩=some (.func (.func 55) #[] #[x0,x1]) /\ V.cell? ⟨B0,0,none⟩=some (.pointer R) /\ V.cell? ⟨R,4,none⟩=some (.slice g (n+1) cap) /\ V.cell? ⟨B0+1,0,none⟩=some (.int .i64 p) /\ V.cell? ⟨B0+1,1,none⟩=some (.int .i64 q) /\ Hd (V.rangeAt g (i*40) cs.toList))) (by kernel_rfl) S0 (λhHeld=>?_);refine tk 0 ?_ (hy:=by(intro w hSw;obtain⟨s0,s1,s2,s3,s4,_⟩:=hSw;go_simp;(try with_reducible rfl)));try simp only[ly]
 refine tk 1 ?_ (hy:=by(intro w hSw;obtain⟨s0,s1,s2,s3,s4,_⟩:=hSw;go_simp;(try with_reducible rfl)));try simp only[ly]
 refine tk 2 ?_ (hy:=by(intro w hSw;obtain⟨s0,s1,s2,s3,s4,_⟩:=hSw;go_simp;(try with_reducible rfl)));try simp only[ly]
 refine tk 3 ?_ (hy:=by(intro w hSw;obtain⟨s0,s1,s2,s3,s4,_⟩:=hSw;go_simp;(try with_reducible rfl)));try simp only[ly]
 refine tk 4 ?_ (hy:=by(intro w hSw;obtain⟨s0,s1,s2,s3,s4,_⟩:=hSw;go_simp;(try with_reducible rfl)));try simp only[ly]
 refine tk 5 ?_ (hy:=by(intro w hSw;obtain⟨s0,s1,s2,s3,s4,_⟩:=hSw;go_simp;(try with_reducible rfl)));try simp only[ly]
 refine tk 6 ?_ (hy:=by(intro w hSw;obtain⟨s0,s1,s2,s3,s4,_⟩:=hSw;go_simp;(try with_reducible rfl)));try simp only[ly]
 refine' wpAnyH_take (i:=7) (v:=.agg cs) rfl (by kernel_rfl) (by kernel_rfl) (by kernel_rfl) (λ_ _ _ h=>h) (yieldsIf_load_mid (by rfl) 89 _ rfl g (i*40) rfl cs.toList _ (λW hS=>qF hS) bQ rfl (by rw[Array.length_toList,h40.out];exact db)) ‹_› ?gr8;try simp only[ly]
 refine tk 8 ?_ (hy:=by(intro w hSw;obtain⟨s0,s1,s2,s3,s4,_⟩:=hSw;go_simp;(try with_reducible rfl)));try simp only[ly]
 refine rd 9 (λK hK=>?_);go_simp
 (with_reducible refine(AT.out _).mono ?_)
 rintro e w2⟨rfl,hb2⟩;have D2:=ag hb2 HB.out;have S2:=KS.out _ _ hb2 hHeld;dsimp only;clear hHeld;refine hK.out _ _ (S2) (λhHeld=>?_);clear hK K;try simp only[ly]
 refine rd 10 (λK hK=>?_);go_simp
 (with_reducible refine(SO2.out _ D2).mono ?_)
 rintro e w3⟨rfl,hb3⟩;have D3:=KC.out _ _ hb3 hb2;have S3:=KS.out _ _ hb3 hHeld;dsimp only;clear hHeld;refine hK.out _ _ (S3) (λhHeld=>?_);clear hK K;try simp only[ly]
 refine tk 11 ?_ (hy:=by(intro w hSw;go_simp;(try with_reducible rfl)));try simp only[ly]
 refine wpAnyH_done (by kernel_rfl) ?_ _;go_wp2_with fail;go_ret;exact⟨rfl,D3⟩⟩
theorem early1_first{bR R MR a7 n B0:Nat}{sl:Value}{xs:List Value}{ns:List Nd}{p q:Int}{x0 x1:Value}{s:Nat->Nat->Nat->Nat}{w:World}(hRc:Rc bR R MR a7 sl (n+1) xs ns w)(hs:Hd (HistN s (n+1) xs ns))
  (b0:Bz w B0 #[.pointer R] 32) (b1:Bz w (B0+1) #[p,q] 27) (b2:Bz w (B0+1+1) #[.func (.func 30) #[] #[x0,x1]] 96)
  (Q:Nat->Bool) (SO:Hd (∀(f:Nat) W,f<ns.length->Below w w W->CB 30 #[(f:Int),x0,x1] W (.bool (Q f)))) :
  Hd (∀(i:Nat) W,i<n+1->Below w w W->CB 65 #[(i:Int),.pointer (some ⟨B0+1+1,0,none⟩),.pointer B0,.pointer (some ⟨B0+1,0,none⟩)] W (.bool (Q (atN (s i) p q)))):=⟨λi W hi hb=>by
 have hW:=hRc.below hb;obtain⟨g,cap,rfl,lg,hcap,hcm,hlen,hcell⟩:=hW.sl;unfold maxLen at hcm;have HSV:Hd (SetsV (((xs.drop (i*40)).take 40).toArray) (s i)):=⟨hs.out.sets hi hlen⟩;obtain⟨cs,hcs⟩:∃cs:Array Value,cs=((xs.drop (i*40)).take 40).toArray:=⟨_,rfl⟩;rw[<- hcs]at HSV;have h40:Hd (cs.size=40):=⟨HSV.out.1⟩;have RG:Hd (W.rangeAt g (i*40) cs.toList):=⟨λj v hj=>by
  rw[hcs]at hj;have h2:(xs.drop (i*40))[j]?=some v:=by
   have hj':((xs.drop (i*40)).take 40)[j]?=some v:=by simpa using hj
   rw[List.getElem?_take]at hj'
   split at hj'
   ·exact hj'
   ·cases hj'
  rw[List.getElem?_drop]at h2;exact hcell _ _ h2⟩
 have fn:atN (s i) p q<ns.length:=hs.out.at_lt hi hW.ar.wf p q;have SO2:Hd (∀V,Below w w V->CB 30 #[.int .i64 (atN (s i) p q:Int),x0,x1] V (.bool (Q (atN (s i) p q)))):=⟨λV hV=>SO.out _ V fn hV⟩;have AT:Hd (∀V,CB 32 #[.agg cs,.agg #[p,q]] V (.int .i64 (atN (s i) p q:Int))):=⟨λV=>jE cs (s i) p q V HSV.out⟩;have B0':Bz W B0 _ _:=(hb.block _ b0.lt).trans b0;have B1':Bz W (B0+1) _ _:=(hb.block _ b1.lt).trans b1;have B2':Bz W (B0+1+1) _ _:=(hb.block _ b2.lt).trans b2;have S0:(W.drew.cell? ⟨B0+1+1,0,none⟩=some (.func (.func 30) #[] #[x0,x1]) /\ W.drew.cell? ⟨B0,0,none⟩=some (.pointer R) /\ W.drew.cell? ⟨R,4,none⟩=some (.slice g (n+1) cap) /\ W.drew.cell? ⟨B0+1,0,none⟩=some (.int .i64 p) /\ W.drew.cell? ⟨B0+1,1,none⟩=some (.int .i64 q) /\ Hd (W.drew.rangeAt g (i*40) cs.toList)) :=
  ⟨B2'.cell 0 _ rfl,B0'.cell 0 _ rfl,hW.c4,B1'.cell 0 _ rfl,B1'.cell 1 _ rfl,⟨RG.out⟩⟩
 have KS:Hd (∀V V':World,Below V V V'->(V.cell? ⟨B0+1+1,0,none⟩=some (.func (.func 30) #[] #[x0,x1]) /\ V.cell? ⟨B0,0,none⟩=some (.pointer R) /\ V.cell? ⟨R,4,none⟩=some (.slice g (n+1) cap) /\ V.cell? ⟨B0+1,0,none⟩=some (.int .i64 p) /\ V.cell? ⟨B0+1,1,none⟩=some (.int .i64 q) /\ Hd (V.rangeAt g (i*40) cs.toList))->(V'.cell? ⟨B0+1+1,0,none⟩=some (.func (.func 30) #[] #[x0,x1]) /\ V'.cell? ⟨B0,0,none⟩=some (.pointer R) /\ V'.cell? ⟨R,4,none⟩=some (.slice g (n+1) cap) /\ V'.cell? ⟨B0+1,0,none⟩=some (.int .i64 p) /\ V'.cell? ⟨B0+1,1,none⟩=some (.int .i64 q) /\ Hd (V'.rangeAt g (i*40) cs.toList))) :=
  ⟨λV V' k ⟨a1,a2,a3,a4,a5,a6⟩=>⟨aK k a1,aK k a2,aK k a3,aK k a4,aK k a5,⟨λj v hj=>aK k (a6.out j v hj)⟩⟩⟩
 have HB:Hd (Below w w W.drew):=⟨hb.drew⟩;have KC:Hd (∀V V':World,Below V V V'->Below W.drew.heap.size W.drew V->Below W W V'):=⟨λV V' k1 k2=>(Below.refl W W).drew.trans (ag k1 k2)⟩;generalize Q (atN (s i) p q)=r at *;generalize atN (s i) p q=f at *;have i1:(i:Int)<((n+1:Nat):Int):=by omega
 have i2:(0:Int)<=(i:Int):=by omega
 have i3:i<n+1:=hi;have i4:(i:Int)<(n:Int)+1:=by omega
 clear hW hcell HSV hs SO hRc b0 b1 b2 RG hb B0' B1' B2' hlen hcs;go_enter func65,ntmps65;go_upto_region 1 with fail;refine wp_region_held_drew (S:=λV=>(V.cell? ⟨B0+1+1,0,none⟩=some (.func (.func 30) #[] #[x0,x1]) /\ V.cell? ⟨B0,0,none⟩=some (.pointer R) /\ V.cell? ⟨R,4,none⟩=some (.slice g (n+1) cap) /\ V.cell? ⟨B0+1,0,none⟩=some (.int .i64 p) /\ V.cell? ⟨B0+1,1,none⟩=some (.int .i64 q) /\ Hd (V.rangeAt g (i*40) cs.toList))) (by kernel_rfl) S0 (λhHeld=>?_);refine tk 0 ?_ (hy:=by(intro w hSw;obtain⟨s0,s1,s2,s3,s4,_⟩:=hSw;go_simp;(try with_reducible rfl)));try simp only[ly]
 refine tk 1 ?_ (hy:=by(intro w hSw;obtain⟨s0,s1,s2,s3,s4,_⟩:=hSw;go_simp;(try with_reducible rfl)));try simp only[ly]
 refine tk 2 ?_ (hy:=by(intro w hSw;obtain⟨s0,s1,s2,s3,s4,_⟩:=hSw;go_simp;(try with_reducible rfl)));try simp only[ly]
 refine tk 3 ?_ (hy:=by(intro w hSw;obtain⟨s0,s1,s2,s3,s4,_⟩:=hSw;go_simp;(try with_reducible rfl)));try simp only[ly]
 refine tk 4 ?_ (hy:=by(intro w hSw;obtain⟨s0,s1,s2,s3,s4,_⟩:=hSw;go_simp;(try with_reducible rfl)));try simp only[ly]
 refine tk 5 ?_ (hy:=by(intro w hSw;obtain⟨s0,s1,s2,s3,s4,_⟩:=hSw;go_simp;(try with_reducible rfl)));try simp only[ly]
 refine tk 6 ?_ (hy:=by(intro w hSw;obtain⟨s0,s1,s2,s3,s4,_⟩:=hSw;go_simp;(try with_reducible rfl)));try simp only[ly]
 refine' wpAnyH_take (i:=7) (v:=.agg cs) rfl (by kernel_rfl) (by kernel_rfl) (by kernel_rfl) (λ_ _ _ h=>h) (yieldsIf_load_mid (by rfl) 89 _ rfl g (i*40) rfl cs.toList _ (λW hS=>qF hS) bQ rfl (by rw[Array.length_toList,h40.out];exact db)) ‹_› ?gr18;try simp only[ly]
 refine tk 8 ?_ (hy:=by(intro w hSw;obtain⟨s0,s1,s2,s3,s4,_⟩:=hSw;go_simp;(try with_reducible rfl)));try simp only[ly]
 refine rd 9 (λK hK=>?_);go_simp
 (with_reducible refine(AT.out _).mono ?_)
 rintro e w2⟨rfl,hb2⟩;have D2:=ag hb2 HB.out;have S2:=KS.out _ _ hb2 hHeld;dsimp only;clear hHeld;refine hK.out _ _ (S2) (λhHeld=>?_);clear hK K;try simp only[ly]
 refine rd 10 (λK hK=>?_);go_simp
 (with_reducible refine(SO2.out _ D2).mono ?_)
 rintro e w3⟨rfl,hb3⟩;have D3:=KC.out _ _ hb3 hb2;have S3:=KS.out _ _ hb3 hHeld;dsimp only;clear hHeld;refine hK.out _ _ (S3) (λhHeld=>?_);clear hK K;try simp only[ly]
 refine tk 11 ?_ (hy:=by(intro w hSw;go_simp;(try with_reducible rfl)));try simp only[ly]
 refine wpAnyH_done (by kernel_rfl) ?_ _;go_wp2_with fail;go_ret;exact⟨rfl,D3⟩⟩
theorem earliest_round{bR R MR a7 n:Nat}{sl:Value}{xs:List Value}{ns:List Nd}{p q:Int}{x0 x1:Value}{s:Nat->Nat->Nat->Nat}{w:World}(hRc:Rc bR R MR a7 sl (n+1) xs ns w)(hs:Hd (HistN s (n+1) xs ns))(hn:n<1000000)
  (Q:Nat->Bool) (SO:Hd (∀(f:Nat) W,f<ns.length->Below w w W->CB 55 #[(f:Int),x0,x1] W (.bool (Q f))))
  (MO:Hd (∀a b,a<=b->b<n+1->Q (atN (s a) p q)=true->Q (atN (s b) p q)=true)) :
  Cl 29 #[.pointer R,.agg #[p,q],.func (.func 55) #[] #[x0,x1]] w λe w'=>∃k:Nat,e=.returned (.tuple #[(k:Int),.bool (decide (k<n+1))]) /\ Hd (Found1 (n+1) (λi=>Q (atN (s i) p q)) k) /\ Below w w w':=by
 have D3:Below w w (((w.alloc (.cells #[.pointer R] 32)).alloc (.cells #[p,q] 27)).alloc (.cells #[.func (.func 55) #[] #[x0,x1]] 96)):=Below.alloc' (Below.alloc' (Below.alloc' (Below.refl _ w) _) _) _;have R3:=hRc.below D3;have b0:Bz (((w.alloc (.cells #[.pointer R] 32)).alloc (.cells #[p,q] 27)).alloc (.cells #[.func (.func 55) #[] #[x0,x1]] 96)) w.heap.size #[.pointer R] 32:=((Bz.new w _ _ _ rfl).al _).al _;have b1:Bz (((w.alloc (.cells #[.pointer R] 32)).alloc (.cells #[p,q] 27)).alloc (.cells #[.func (.func 55) #[] #[x0,x1]] 96)) (w.heap.size+1) #[p,q] 27:=(Bz.new _ _ _ _ (by simp)).al _;have b2:Bz (((w.alloc (.cells #[.pointer R] 32)).alloc (.cells #[p,q] 27)).alloc (.cells #[.func (.func 55) #[] #[x0,x1]] 96)) (w.heap.size+1+1) #[.func (.func 55) #[] #[x0,x1]] 96:=Bz.new _ _ _ _ (by simp);have SC:Hd (Cl 64 #[.int .i64 ((n+1:Nat):Int),.func (.func 65) #[] #[.pointer (some ⟨w.heap.size+1+1,0,none⟩),.pointer (some ⟨w,0,none⟩),.pointer (some ⟨w.heap.size+1,0,none⟩)]] (((w.alloc (.cells #[.pointer R] 32)).alloc (.cells #[p,q] 27)).alloc (.cells #[.func (.func 55) #[] #[x0,x1]] 96)) λe w'=>∃k:Nat,e=.returned (k:Int) /\ Hd (Found1 (n+1) (λi=>Q (atN (s i) p q)) k) /\ Below (((w.alloc (.cells #[.pointer R] 32)).alloc (.cells #[p,q] 27)).alloc (.cells #[.func (.func 55) #[] #[x0,x1]] 96)).heap.size (((w.alloc (.cells #[.pointer R] 32)).alloc (.cells #[p,q] 27)).alloc (.cells #[.func (.func 55) #[] #[x0,x1]] 96)) w') :=
  ⟨pN _ _ _ (n+1) (λi=>Q (atN (s i) p q)) _ (by omega) (Bo R3 hs b0 b1 b2 Q ⟨λf W hf hW=>SO.out f W hf (ag hW D3)⟩) MO⟩
 have hsl:=hRc.sl;obtain⟨g,cap,rfl,_⟩:=hsl;have c4:(((w.alloc (.cells #[.pointer R] 32)).alloc (.cells #[p,q] 27)).alloc (.cells #[.func (.func 55) #[] #[x0,x1]] 96)).cell? ⟨R,4,none⟩=some (.slice g (n+1) cap):=R3.c4;have KE:Hd (∀w4,Below (((w.alloc (.cells #[.pointer R] 32)).alloc (.cells #[p,q] 27)).alloc (.cells #[.func (.func 55) #[] #[x0,x1]] 96)).heap.size (((w.alloc (.cells #[.pointer R] 32)).alloc (.cells #[p,q] 27)).alloc (.cells #[.func (.func 55) #[] #[x0,x1]] 96)) w4->Below w w w4 /\ w4.cell? ⟨w,0,none⟩=some (.pointer R) /\ w4.cell? ⟨R,4,none⟩=some (.slice g (n+1) cap)):=⟨λw4 k=>⟨ag k D3,aK k (b0.cell 0 _ rfl),aK k R3.c4⟩⟩;have hR:R<w.heap.size:=hRc.lt;generalize Found1 (n+1) (λi=>Q (atN (s i) p q))=FF at *;clear hRc R3 b0 b1 b2 SO MO hs D3;go_enter func29,ntmps29;go_wp2_with fail;refine SC.out.mono ?_;rintro e w4⟨k,rfl,F4,hb4⟩;obtain⟨D4,e0,e1⟩:=KE.out w4 hb4;have e0d:w4.drew.cell? ⟨w,0,none⟩=some (.pointer R):=e0;have e1d:w4.drew.cell? ⟨R,4,none⟩=some (.slice g (n+1) cap):=e1;have D5:=D4.drew;clear SC KE hb4 c4;go_wp2_with fail;go_region;all_goals
  go_wp2_with fail;go_ret2;exact⟨k,by first|rfl|(simp;omega),F4,by first|exact D4|exact D5⟩
theorem Bp{bR R MR a7 n:Nat}{sl:Value}{xs:List Value}{ns:List Nd}{p q:Int}{x0 x1:Value}{s:Nat->Nat->Nat->Nat}{w:World}(hRc:Rc bR R MR a7 sl (n+1) xs ns w)(hs:Hd (HistN s (n+1) xs ns))(hn:n<1000000)
  (Q:Nat->Bool) (SO:Hd (∀(f:Nat) W,f<ns.length->Below w w W->CB 30 #[(f:Int),x0,x1] W (.bool (Q f))))
  (MO:Hd (∀a b,a<=b->b<n+1->Q (atN (s a) p q)=true->Q (atN (s b) p q)=true)) :
  Cl 29 #[.pointer R,.agg #[p,q],.func (.func 30) #[] #[x0,x1]] w λe w'=>∃k:Nat,e=.returned (.tuple #[(k:Int),.bool (decide (k<n+1))]) /\ Hd (Found1 (n+1) (λi=>Q (atN (s i) p q)) k) /\ Below w w w':=by
 have D3:Below w w (((w.alloc (.cells #[.pointer R] 32)).alloc (.cells #[p,q] 27)).alloc (.cells #[.func (.func 30) #[] #[x0,x1]] 96)):=Below.alloc' (Below.alloc' (Below.alloc' (Below.refl _ w) _) _) _;have R3:=hRc.below D3;have b0:Bz (((w.alloc (.cells #[.pointer R] 32)).alloc (.cells #[p,q] 27)).alloc (.cells #[.func (.func 30) #[] #[x0,x1]] 96)) w.heap.size #[.pointer R] 32:=((Bz.new w _ _ _ rfl).al _).al _;have b1:Bz (((w.alloc (.cells #[.pointer R] 32)).alloc (.cells #[p,q] 27)).alloc (.cells #[.func (.func 30) #[] #[x0,x1]] 96)) (w.heap.size+1) #[p,q] 27:=(Bz.new _ _ _ _ (by simp)).al _;have b2:Bz (((w.alloc (.cells #[.pointer R] 32)).alloc (.cells #[p,q] 27)).alloc (.cells #[.func (.func 30) #[] #[x0,x1]] 96)) (w.heap.size+1+1) #[.func (.func 30) #[] #[x0,x1]] 96:=Bz.new _ _ _ _ (by simp);have SC:Hd (Cl 64 #[.int .i64 ((n+1:Nat):Int),.func (.func 65) #[] #[.pointer (some ⟨w.heap.size+1+1,0,none⟩),.pointer (some ⟨w,0,none⟩),.pointer (some ⟨w.heap.size+1,0,none⟩)]] (((w.alloc (.cells #[.pointer R] 32)).alloc (.cells #[p,q] 27)).alloc (.cells #[.func (.func 30) #[] #[x0,x1]] 96)) λe w'=>∃k:Nat,e=.returned (k:Int) /\ Hd (Found1 (n+1) (λi=>Q (atN (s i) p q)) k) /\ Below (((w.alloc (.cells #[.pointer R] 32)).alloc (.cells #[p,q] 27)).alloc (.cells #[.func (.func 30) #[] #[x0,x1]] 96)).heap.size (((w.alloc (.cells #[.pointer R] 32)).alloc (.cells #[p,q] 27)).alloc (.cells #[.func (.func 30) #[] #[x0,x1]] 96)) w') :=
  ⟨pN _ _ _ (n+1) (λi=>Q (atN (s i) p q)) _ (by omega) (early1_first R3 hs b0 b1 b2 Q ⟨λf W hf hW=>SO.out f W hf (ag hW D3)⟩) MO⟩
 have hsl:=hRc.sl;obtain⟨g,cap,rfl,_⟩:=hsl;have c4:(((w.alloc (.cells #[.pointer R] 32)).alloc (.cells #[p,q] 27)).alloc (.cells #[.func (.func 30) #[] #[x0,x1]] 96)).cell? ⟨R,4,none⟩=some (.slice g (n+1) cap):=R3.c4;have KE:Hd (∀w4,Below (((w.alloc (.cells #[.pointer R] 32)).alloc (.cells #[p,q] 27)).alloc (.cells #[.func (.func 30) #[] #[x0,x1]] 96)).heap.size (((w.alloc (.cells #[.pointer R] 32)).alloc (.cells #[p,q] 27)).alloc (.cells #[.func (.func 30) #[] #[x0,x1]] 96)) w4->Below w w w4 /\ w4.cell? ⟨w,0,none⟩=some (.pointer R) /\ w4.cell? ⟨R,4,none⟩=some (.slice g (n+1) cap)):=⟨λw4 k=>⟨ag k D3,aK k (b0.cell 0 _ rfl),aK k R3.c4⟩⟩;have hR:R<w.heap.size:=hRc.lt;generalize Found1 (n+1) (λi=>Q (atN (s i) p q))=FF at *;clear hRc R3 b0 b1 b2 SO MO hs D3;go_enter func29,ntmps29;go_wp2_with fail;refine SC.out.mono ?_;rintro e w4⟨k,rfl,F4,hb4⟩;obtain⟨D4,e0,e1⟩:=KE.out w4 hb4;have e0d:w4.drew.cell? ⟨w,0,none⟩=some (.pointer R):=e0;have e1d:w4.drew.cell? ⟨R,4,none⟩=some (.slice g (n+1) cap):=e1;have D5:=D4.drew;clear SC KE hb4 c4;go_wp2_with fail;go_region;all_goals
  go_wp2_with fail;go_ret2;exact⟨k,by first|rfl|(simp;omega),F4,by first|exact D4|exact D5⟩
theorem Bq{bR R MR a7 rb cb f c:Nat}{ns:List Nd}{W:World}(hA:Ar bR R MR 14 a7 W ns)(b0:Bz W rb #[.pointer R] 32)(b1:Bz W cb #[(c:Int)] 3)(hf:f<ns.length)(hc:c<16384) :
  CB 55 #[(f:Int),.pointer rb,.pointer cb] W (.bool (ev ns f (envOf 14 c))):=by
 have EV:Hd (Cl 56 #[.pointer R,(f:Int),(c:Int)] W.drew λe w'=>e=.returned (.tuple #[.bool (ev ns f (envOf 14 c)),.int .i64 0]) /\ Below W.drew.heap.size W.drew w'):=⟨zm (hA.below (Below.refl _ _).drew) hf hc⟩;have S0:W.drew.cell? ⟨rb,0,none⟩=some (.pointer R) /\ W.drew.cell? ⟨cb,0,none⟩=some (.int .i64 (c:Int)) /\ True:=⟨b0.cell 0 _ rfl,b1.cell 0 _ rfl,trivial⟩;have KS:Hd (∀V',Below W.drew.heap.size W.drew V'->(V'.cell? ⟨rb,0,none⟩=some (.pointer R) /\ V'.cell? ⟨cb,0,none⟩=some (.int .i64 (c:Int)) /\ True)):=⟨λV' k=>⟨aK k S0.1,aK k S0.2.1,trivial⟩⟩;have KC:Hd (∀V',Below W.drew.heap.size W.drew V'->Below W W V'):=⟨λV' k=>(Below.refl W W).drew.trans k⟩;generalize ev ns f (envOf 14 c)=r at *;clear hA b0 b1;go_enter func55,ntmps55;go_upto_region 1 with fail;refine wp_region_held_drew (S:=λV=>V.cell? ⟨rb,0,none⟩=some (.pointer R) /\ V.cell? ⟨cb,0,none⟩=some (.int .i64 (c:Int)) /\ True) (by kernel_rfl) S0 (λhHeld=>?_);refine tk 0 ?_ (hy:=by(intro w hSw;obtain⟨s0,s1,_⟩:=hSw;go_simp;(try with_reducible rfl)));try simp only[ly]
 refine tk 1 ?_ (hy:=by(intro w hSw;obtain⟨s0,s1,_⟩:=hSw;go_simp;(try with_reducible rfl)));try simp only[ly]
 refine tk 2 ?_ (hy:=by(intro w hSw;obtain⟨s0,s1,_⟩:=hSw;go_simp;(try with_reducible rfl)));try simp only[ly]
 refine tk 3 ?_ (hy:=by(intro w hSw;obtain⟨s0,s1,_⟩:=hSw;go_simp;(try with_reducible rfl)));try simp only[ly]
 refine tk 4 ?_ (hy:=by(intro w hSw;obtain⟨s0,s1,_⟩:=hSw;go_simp;(try with_reducible rfl)));try simp only[ly]
 refine rd 5 (λK hK=>?_);go_simp
 (with_reducible refine EV.out.mono ?_)
 rintro e w2⟨rfl,hb2⟩;have S2:=KS.out _ hb2;have D2:=KC.out _ hb2;dsimp only;clear hHeld;refine hK.out _ _ (S2) (λhHeld=>?_);clear hK K;try simp only[ly]
 refine tk 6 ?_ (hy:=by(intro w hSw;go_simp;(try with_reducible rfl)));try simp only[ly]
 refine tk 7 ?_ (hy:=by(intro w hSw;go_simp;(try with_reducible rfl)));try simp only[ly]
 refine tk 8 ?_ (hy:=by(intro w hSw;go_simp;(try with_reducible rfl)));try simp only[ly]
 refine tk 9 ?_ (hy:=by(intro w hSw;go_simp;(try with_reducible rfl)));try simp only[ly]
 refine tk 10 ?_ (hy:=by(intro w hSw;go_simp;(try with_reducible rfl)));try simp only[ly]
 refine wpAnyH_done (by kernel_rfl) ?_ _;go_wp2_with fail;go_ret;exact⟨rfl,D2⟩
def RoundV(n:Nat)(P:Nat->Bool)(v:Int):Prop:=∃k:Nat,Found1 (n+1) P k /\ v=if k<n+1 then(k:Int)else -1
theorem Br{bR R MR a7 n:Nat}{sl:Value}{xs:List Value}{ns:List Nd}{p q a b c d:Int}{s:Nat->Nat->Nat->Nat}{w:World}(hRc:Rc bR R MR a7 sl (n+1) xs ns w)(hs:Hd (HistN s (n+1) xs ns))(hn:n<1000000)(hp:pkR a b c d=true)
  (MO:Hd (∀i j,i<=j->j<n+1->ev ns (atN (s i) p q) (envOf 14 (codeR a b c d))=true->ev ns (atN (s j) p q) (envOf 14 (codeR a b c d))=true)) :
  Cl 24 #[.pointer R,.agg #[p,q],pk a b c d] w λe w'=>∃v:Int,e=.returned v /\ Hd (RoundV n (λi=>ev ns (atN (s i) p q) (envOf 14 (codeR a b c d))) v) /\ Below w w w':=by
 have hlt:=zp hp;have D3:Below w w (((w.alloc (.cells #[.pointer R] 32)).alloc (.cells #[p,q] 27)).alloc (.cells #[a,b,c,d] 37)):=Below.alloc' (Below.alloc' (Below.alloc' (Below.refl _ w) _) _) _;have b0:Bz (((w.alloc (.cells #[.pointer R] 32)).alloc (.cells #[p,q] 27)).alloc (.cells #[a,b,c,d] 37)) w.heap.size #[.pointer R] 32:=((Bz.new w _ _ _ rfl).al _).al _;have b1:Bz (((w.alloc (.cells #[.pointer R] 32)).alloc (.cells #[p,q] 27)).alloc (.cells #[a,b,c,d] 37)) (w.heap.size+1) #[p,q] 27:=(Bz.new _ _ _ _ (by simp)).al _;have CO:Hd (∀W,CB 54 #[pk a b c d] W (.tuple #[(codeR a b c d:Int),.int .i64 0])):=⟨λW=>zr a b c d W hp⟩;have EA:Hd (∀w2,Below (((w.alloc (.cells #[.pointer R] 32)).alloc (.cells #[p,q] 27)).alloc (.cells #[a,b,c,d] 37)).heap.size (((w.alloc (.cells #[.pointer R] 32)).alloc (.cells #[p,q] 27)).alloc (.cells #[a,b,c,d] 37)) w2->Cl 29 #[.pointer R,.agg #[p,q],.func (.func 55) #[] #[.pointer (some ⟨w,0,none⟩),.pointer (some ⟨w2,0,none⟩)]] (w2.alloc (.cells #[(codeR a b c d:Int)] 3)) λe w'=>∃k:Nat,e=.returned (.tuple #[(k:Int),.bool (decide (k<n+1))]) /\ Hd (Found1 (n+1) (λi=>ev ns (atN (s i) p q) (envOf 14 (codeR a b c d))) k) /\ Below w w w'):=⟨λw2 hb2=>by
  have D2:=ag hb2 D3;have D5:=Below.alloc' D2 (.cells #[(codeR a b c d:Int)] 3);have bb0:Bz (w2.alloc (.cells #[(codeR a b c d:Int)] 3)) w.heap.size #[.pointer R] 32:=Bz.al ((hb2.block _ b0.lt).trans b0) _;have bb1:Bz (w2.alloc (.cells #[(codeR a b c d:Int)] 3)) w2.heap.size #[(codeR a b c d:Int)] 3:=Bz.new _ _ _ _ rfl;refine(earliest_round (hRc.below D5) hs hn (λf=>ev ns f (envOf 14 (codeR a b c d))) ⟨λf W hf hW=>Bq (hRc.below (ag hW D5)).ar ((hW.block _ bb0.lt).trans bb0) ((hW.block _ bb1.lt).trans bb1) hf hlt⟩ MO).mono λe w' ⟨k,h1,h2,h3⟩=>⟨k,h1,h2,ag h3 D5⟩⟩
 have FIN:Hd (∀k:Nat,Found1 (n+1) (λi=>ev ns (atN (s i) p q) (envOf 14 (codeR a b c d))) k->RoundV n (λi=>ev ns (atN (s i) p q) (envOf 14 (codeR a b c d))) (if k<n+1 then(k:Int)else -1)):=⟨λk h=>⟨k,h,rfl⟩⟩;have KE:Hd (∀w2,Below (((w.alloc (.cells #[.pointer R] 32)).alloc (.cells #[p,q] 27)).alloc (.cells #[a,b,c,d] 37)).heap.size (((w.alloc (.cells #[.pointer R] 32)).alloc (.cells #[p,q] 27)).alloc (.cells #[a,b,c,d] 37)) w2->w.heap.size<w2.heap.size /\ w.heap.size+1<w2.heap.size /\ w2.cell? ⟨w,0,none⟩=some (.pointer R) /\ w2.cell? ⟨w.heap.size+1,0,none⟩=some (.int .i64 p) /\ w2.cell? ⟨w.heap.size+1,1,none⟩=some (.int .i64 q)):=⟨λw2 k=>⟨Nat.lt_of_lt_of_le b0.lt k.size,Nat.lt_of_lt_of_le b1.lt k.size,aK k (b0.cell 0 _ rfl),aK k (b1.cell 0 _ rfl),aK k (b1.cell 1 _ rfl)⟩⟩;generalize Found1 (n+1) (λi=>ev ns (atN (s i) p q) (envOf 14 (codeR a b c d)))=FF at *;generalize RoundV n (λi=>ev ns (atN (s i) p q) (envOf 14 (codeR a b c d)))=RR at *;generalize codeR a b c d=co at *;clear hRc b0 b1 hs MO D3 hp;go_enter func24,ntmps24;go_wp2_with fail;refine(CO.out _).mono ?_;rintro e w2⟨rfl,hb2⟩;obtain⟨l0,l1,e0,e1,e2⟩:=KE.out w2 hb2;have E2:=Hd.mk (EA.out w2 hb2);clear EA KE CO hb2;go_wp2_with fail;refine E2.out.mono ?_;rintro e w5⟨k,rfl,F5,D5⟩;have FF5:=Hd.mk (FIN.out k F5.out);clear E2 FIN F5 e0 e1 e2;by_cases hk:k<n+1
 ·have t1:decide (k<n+1)=true:=by simp[hk]
  rw[if_pos hk]at FF5;rw[t1];clear hk t1;go_wp2_with fail;go_ret;exact⟨_,rfl,FF5,D5⟩
 ·have t1:decide (k<n+1)=false:=by simp[hk]
  rw[if_neg hk]at FF5;rw[t1];clear hk t1;go_wp2_with fail;go_ret;exact⟨_,rfl,FF5,D5⟩
theorem Bt(R:Nat)(p q a b c d:Int)(w:World)(hp:pkR a b c d=false) :
  CB 24 #[.pointer R,.agg #[p,q],pk a b c d] w (.int .i64 (-1)):=by
 have D3:Below w w (((w.alloc (.cells #[.pointer R] 32)).alloc (.cells #[p,q] 27)).alloc (.cells #[a,b,c,d] 37)):=Below.alloc' (Below.alloc' (Below.alloc' (Below.refl _ w) _) _) _;have CO:Hd (∀W,CB 54 #[pk a b c d] W (.tuple #[.int .i64 0,.int .i64 1])):=⟨λW=>zt a b c d W hp⟩;clear hp;go_enter func24,ntmps24;go_wp2_with fail;refine(CO.out _).mono ?_;rintro e w2⟨rfl,hb2⟩;have D2:=Below.alloc' (ag hb2 D3) (.cells #[.int .i64 0] 3);clear CO hb2 D3;go_wp2_with fail;go_ret;exact⟨rfl,D2⟩
end Go.Proofs.YtjmclcmgpaofiaaGreat
namespace Go.Proofs.YtjmclcmgpaofiaaGreat
open Tryz
def T:Nat->Nat->(Env->Bool)->Env->Nat
 | 0,_,g,e=>if g e then 1 else 0
 | k+1,i,g,e=>T k (i+1) g (setE e i false)+T k (i+1) g (setE e i true)
def Dep(l a8:Nat)(g:Env->Bool):Prop:=∀e e':Env,(∀x,l<=x->x<a8->e x=e' x)->g e=g e'
theorem qG{l a8:Nat}{g:Env->Bool}(hd:Dep l a8 g):∀(k i:Nat) (e e':Env),(∀x,l<=x->x<a8->(x<i\/i+k<=x)->e x=e' x)->T k i g e=T k i g e'
 | 0,i,e,e',h=>by
   rw[T,T,hd e e' (λx h1 h2=>h x h1 h2 (by omega))]
 | k+1,i,e,e',h=>by
   rw[T,T];have step:∀b,T k (i+1) g (setE e i b)=T k (i+1) g (setE e' i b):=λb=>by
    refine qG hd k (i+1) _ _ (λx h1 h2 h3=>?_);by_cases hx:x=i
    ·subst hx;rw[gm,gm]
    ·rw[cM _ _ hx,cM _ _ hx];exact h x h1 h2 (by omega)
   rw[step,step]
theorem jT{g g':Env->Bool}{v:Nat}{b:Bool}(hg:∀e:Env,e v=b->g e=g' e):∀(k i:Nat) (e:Env),v<i->e v=b->T k i g e=T k i g' e
 | 0,i,e,_,he=>by rw[T,T,hg e he]
 | k+1,i,e,hi,he=>by
   rw[T,T,jT hg k (i+1) _ (by omega) (by rw[cM _ _ (by omega)];exact he),jT hg k (i+1) _ (by omega) (by rw[cM _ _ (by omega)];exact he)]
theorem T_le(g:Env->Bool):∀(k i:Nat) (e:Env),T k i g e<=2 ^ k
 | 0,i,e=>by rw[T];split <;> simp
 | k+1,i,e=>by
   rw[T,Nat.pow_succ];have:=T_le g k (i+1) (setE e i false);have:=T_le g k (i+1) (setE e i true);omega
def e00:Env:=λ_=>false
section
variable {a8:Nat}{ns ns':List Nd}
theorem Bv(wf:Wf a8 ns){f:Nat}(hf:f<ns.length):Dep (nv ns f) a8 (ev ns f):=λe e' h=>ip wf f hf e e' h
def cn(a8:Nat)(ns:List Nd)(f:Nat):Nat:=T (a8-nv ns f) (nv ns f) (ev ns f) e00
theorem iu(wf:Wf a8 ns){f:Nat}(hf:f<ns.length):∀(d i:Nat) (e:Env),i+d=nv ns f->T (a8-i) i (ev ns f) e=cn a8 ns f*2 ^ d
 | 0,i,e,h=>by
   have hi:i=nv ns f:=by omega
   have:=va_le wf hf;rw[cn,<- hi,Nat.pow_zero,Nat.mul_one];exact qG (Bv wf hf) _ _ _ _ (λx h1 h2 h3=>by omega)
 | d+1,i,e,h=>by
   have:=va_le wf hf;rw[show a8-i=(a8-(i+1))+1 by omega,T,iu wf hf d (i+1) _ (by omega),iu wf hf d (i+1) _ (by omega),Nat.pow_succ,<- Nat.mul_assoc];omega
theorem cn_0(wf:Wf a8 ns):cn a8 ns 0=0:=by
 rw[cn,show nv ns 0=a8 by rw[nv,wf.n0],Nat.sub_self,T,ev0];rfl
theorem cn_1(wf:Wf a8 ns):cn a8 ns 1=1:=by
 rw[cn,show nv ns 1=a8 by rw[nv,wf.n1],Nat.sub_self,T,ev1];rfl
theorem Bw(wf:Wf a8 ns){f:Nat}(f2:2<=f)(hf:f<ns.length):cn a8 ns f=cn a8 ns (nl ns f)*2 ^ (nv ns (nl ns f)-nv ns f-1)+cn a8 ns (nh ns f)*2 ^ (nv ns (nh ns f)-nv ns f-1):=by
 have hv:=wf.va f f2 hf;have l1:=wf.lo f f2 hf;have l2:=wf.hi f f2 hf;have v1:=wf.vlo f f2 hf;have v2:=wf.vhi f f2 hf;have w1:=va_le wf (f:=nl ns f) (by omega);have w2:=va_le wf (f:=nh ns f) (by omega);rw[cn,show a8-nv ns f=(a8-(nv ns f+1))+1 by omega,T];rw[jT (g':=ev ns (nl ns f)) (v:=nv ns f) (b:=false) (λe he=>by rw[cE wf f2 hf,he];simp) _ _ _ (by omega) (gm _ _ _)];rw[jT (g':=ev ns (nh ns f)) (v:=nv ns f) (b:=true) (λe he=>by rw[cE wf f2 hf,he];simp) _ _ _ (by omega) (gm _ _ _)];rw[iu wf (by omega) (nv ns (nl ns f)-nv ns f-1) _ _ (by omega),iu wf (by omega) (nv ns (nh ns f)-nv ns f-1) _ _ (by omega)]
theorem lU(f:Nat):cn a8 ns f<=2 ^ (a8-nv ns f):=T_le _ _ _ _
theorem BA(wf:Wf a8 ns){f:Nat}(hf:f<ns.length)(e:Env):cn a8 ns f*2 ^ nv ns f=T a8 0 (ev ns f) e:=by
 have:=iu wf hf (nv ns f) 0 e (by omega);rw[Nat.sub_zero]at this;exact this.symm
end
def S:List Nat->(Env->Bool)->Env->Nat
 | [],g,e=>if g e then 1 else 0
 | i::l,g,e=>S l g (setE e i false)+S l g (setE e i true)
end Go.Proofs.YtjmclcmgpaofiaaGreat
namespace Go.Proofs.YtjmclcmgpaofiaaGreat
open Tryz
open Go.RowKit Go.Maps
def MemoN(a8:Nat)(ns:List Nd)(m:Nat->Option Nat):Prop:=∀f c,m f=some c->c=cn a8 ns f
theorem MemoN.upd{a8:Nat}{ns:List Nd}{m:Nat->Option Nat}(h:MemoN a8 ns m)(f:Nat):MemoN a8 ns (upd m f (cn a8 ns f)):=by
 intro d c hc;unfold YtjmclcmgpaofiaaGreat.upd at hc;by_cases e:d=f
 ·subst e;rw[if_pos rfl]at hc;cases hc;rfl
 ·rw[if_neg e]at hc;exact h d c hc
def dW(a8:Nat)(w:World)(ns:List Nd)(K n g r:Nat)(e:Ending)(w':World):Prop :=
 ∃n' mk',e=.returned (r:Int) /\ w.grownBy w' (some K) /\ MapIs aH w' K n' mk' /\ MemoN a8 ns mk' /\ n'<=n+g
section
variable {a9 a M a8 a7:Nat}{w w':World}{ns:List Nd}{K n:Nat}{mk:Nat->Option Nat}
theorem Ar.grownK(h:Ar a9 a M a8 a7 w ns)(hm:MapIs aH w K n mk)(hKM:K≠M)(hg:w.grownBy w' (some K)):Ar a9 a M a8 a7 w' ns /\ rowOf w' a=rowOf w a:=by
 obtain⟨es,clock,hb⟩:=hm.isMap;obtain⟨g,cap,cs,t,hba,_⟩:=h.blk;obtain⟨cur,hr,_,rl⟩:=h.row;have k1:a≠K:=λe=>by rw[<- e,hba]at hb;simp at hb
 have k2:rowOf w a≠K:=λe=>by rw[<- e,hr]at hb;simp at hb
 have b1:=hg.block a h.lta (by simpa using k1);exact⟨h.same b1 (hg.block M h.ltM (by simpa using hKM.symm)) (hg.block _ rl (by simpa using k2)),aQ b1⟩
theorem qH(h:Ar a9 a M a8 a7 w ns)(hm:MapIs aH w K n mk)(hmn:MemoN a8 ns mk){f v k:Nat}(hf:f<ns.length)(hv:v<nv ns f)(hN:n+2 ^ k<=1099511627776)
  (hc:Hq (∀w n mk,Ar a9 a M a8 a7 w ns->MapIs aH w K n mk->MemoN a8 ns mk->n+2 ^ k<=1099511627776->Cl 85 #[.pointer a,(f:Int),.map (some K)] w (dW a8 w ns K n (2 ^ k-1) (cn a8 ns f)))) :
  Cl 120 #[.pointer a,(f:Int),(v:Int),.map (some K)] w (dW a8 w ns K n (2 ^ k-1) (cn a8 ns f*2 ^ (nv ns f-v-1))):=by
 have hA:Ar a9 a M a8 a7 w.drew ns:=h.same rfl rfl rfl;have hmd:MapIs aH w.drew K n mk:=hm.same rfl;have v16:=h.vars16;have wf:=h.wf;have hva:=va_le wf hf;have hcl:=lU (a8:=a8) (ns:=ns) f;have hl:ns.length<=40000:=Nat.le_trans h.le h.most4;have hwr:IntKind.i64.wrap ((cn a8 ns f:Int)*2 ^ (nv ns f-v-1))=((cn a8 ns f*2 ^ (nv ns f-v-1):Nat):Int):=by
  have p1:cn a8 ns f*2 ^ (nv ns f-v-1)<=2 ^ (a8-nv ns f)*2 ^ (nv ns f-v-1):=Nat.mul_le_mul_right _ hcl;rw[<- Nat.pow_add]at p1;have p2:2 ^ (a8-nv ns f+(nv ns f-v-1))<=2 ^ 16:=Nat.pow_le_pow_right (by omega) (by omega);have e:(cn a8 ns f:Int)*2 ^ (nv ns f-v-1)=((cn a8 ns f*2 ^ (nv ns f-v-1):Nat):Int):=by simp
  rw[e,IntWalk.i64_in _ (by omega)]
 have wr1:IntKind.i64.wrap ((nv ns f:Int)-(v:Int))=(nv ns f:Int)-(v:Int):=IntWalk.i64_in _ (by omega);have wr2:IntKind.i64.wrap ((nv ns f:Int)-(v:Int)-1)=(nv ns f:Int)-(v:Int)-1:=IntWalk.i64_in _ (by omega);obtain⟨cap,a0,a1,a2,a3,af,an⟩:=h.reads;obtain⟨n0,n1,n2⟩:=an f hf;have hkeep:∀n1 mk1 w1,w.drew.grownBy w1 (some K)->MapIs aH w1 K n1 mk1->w1.cell? ⟨a,2,none⟩=some (.slice (some ⟨rowOf w a,0,none⟩) ns.length cap) /\ w1.cell? ⟨rowOf w a,f*3,none⟩=some (.int .i64 (nv ns f:Int)):=λn1 mk1 w1 hg hm1=>by
  obtain⟨es,clock,hb⟩:=hm.isMap;obtain⟨g,e9,cs,t,hba,_⟩:=h.blk;obtain⟨cur,hr,_,rl⟩:=h.row;have k1:a≠K:=λe=>by rw[<- e,hba]at hb;simp at hb
  have k2:rowOf w a≠K:=λe=>by rw[<- e,hr]at hb;simp at hb
  exact⟨(hg.cell_far ⟨a,2,none⟩ h.lta (by simpa using k1)).trans a2,(hg.cell_far ⟨rowOf w a,f*3,none⟩ rl (by simpa using k2)).trans n0⟩
 have hwr':=Hq.mk hwr;clear h an hm hwr;generalize rowOf w a=g at *;go_enter func120,ntmps120;go_wp2_with fail;go_region_held3 (λw'=>w'.cell? ⟨a,2,none⟩=some (.slice g ns.length cap) /\ w'.cell? ⟨g,f*3,none⟩=some (.int .i64 (nv ns f:Int))) (go_keep)
  (first|(go_at_call 85;refine(hc.out _ n mk hA hmd hmn hN).mono ?_;rintro e w1⟨n',mk',rfl,hg,hM,hmm,hn⟩;obtain⟨q1,q2⟩:=hkeep _ _ _ hg hM))
 have hfin:dW a8 w ns K n (2 ^ k-1) (cn a8 ns f*2 ^ (nv ns f-v-1)) (.returned (.int .i64 (IntKind.i64.wrap ((cn a8 ns f:Int)*2 ^ (nv ns f-v-1))))) w1:=⟨n',mk',by rw[hwr'.out],⟨hg.os,hg.tape,hg.output,hg.size,hg.block⟩,hM,hmm,hn⟩;go_wp2_with fail;go_ret;exact hfin
theorem count_small(w:World)(K:Nat){f:Nat}(hf:f<=1):CS 85 #[.pointer a,(f:Int),.map (some K)] w (.int .i64 (f:Int)):=by
 have t1:decide ((f:Int)<=1)=true:=by simp;omega
 go_enter func85,ntmps85;go_wp2_with fail;go_ret;exact⟨rfl,rfl⟩
theorem BG(hm:MapIs aH w K n mk){f c:Nat}(f2:2<=f)(hf:f<9223372036854775808)(hc:mk f=some c) :
  CS 85 #[.pointer a,(f:Int),.map (some K)] w (.int .i64 (c:Int)):=by
 have t1:decide ((f:Int)<=1)=false:=by simp;omega
 have hlook:=hm.look tz4 (x:=f) hf;rw[hc]at hlook;simp only[aH,Option.getD_some,Option.isSome_some]at hlook;clear hm;go_enter func85,ntmps85;go_wp2_with fail;go_ret;exact⟨rfl,rfl⟩
theorem BH(h:Ar a9 a M a8 a7 w ns)(hm:MapIs aH w K n mk)(hKM:K≠M)(hmn:MemoN a8 ns mk){f k:Nat}(f2:2<=f)(hf:f<ns.length)(hr:mk f=none)(hk:a8<=nv ns f+(k+1))(hN:n+2 ^ (k+1)<=1099511627776)
  (ih:Hq (∀w n mk f,Ar a9 a M a8 a7 w ns->MapIs aH w K n mk->MemoN a8 ns mk->f<ns.length->a8<=nv ns f+k->n+2 ^ k<=1099511627776->Cl 85 #[.pointer a,(f:Int),.map (some K)] w (dW a8 w ns K n (2 ^ k-1) (cn a8 ns f)))) :
  Cl 85 #[.pointer a,(f:Int),.map (some K)] w (dW a8 w ns K n (2 ^ (k+1)-1) (cn a8 ns f)):=by
 have wf:=h.wf;have v16:=h.vars16;have hv:=wf.va f f2 hf;have l1:=wf.lo f f2 hf;have l2:=wf.hi f f2 hf;have v1:=wf.vlo f f2 hf;have v2:=wf.vhi f f2 hf;have hl:ns.length<=40000:=Nat.le_trans h.le h.most4;have hp2:2 ^ (k+1)=2*2 ^ k:=by rw[Nat.pow_succ];omega
 have hp1:1<=2 ^ k:=Nat.one_le_two_pow;have t1:decide ((f:Int)<=1)=false:=by simp;omega
 have hlook:=hm.look tz4 (x:=f) (by show f<_;omega);rw[hr]at hlook;simp only[aH,Option.getD_none,Option.isSome_none]at hlook;obtain⟨cap,a0,a1,a2,a3,af,an⟩:=h.reads;obtain⟨n0,n1,n2⟩:=an f hf;have lK:=hm.lt;have hcn:=Bw wf f2 hf;have hle:=lU (a8:=a8) (ns:=ns) f;have hle2:cn a8 ns f<=65536:=Nat.le_trans hle (by have:2 ^ (a8-nv ns f)<=2 ^ 16:=Nat.pow_le_pow_right (by omega) (by omega);omega)
 -- the two halves, and what they leave
 have hA0:Ar a9 a M a8 a7 (w.alloc (.cells #[(nv ns f:Int),(nl ns f:Int),(nh ns f:Int)] 144)).drew ns:=(h.alloc _).same rfl rfl rfl;have hm0:MapIs aH (w.alloc (.cells #[(nv ns f:Int),(nl ns f:Int),(nh ns f:Int)] 144)).drew K n mk:=hm.same (Below.heap_alloc w _ K lK);have low:Hq (Cl 120 #[.pointer a,(nl ns f:Int),(nv ns f:Int),.map (some K)] (w.alloc (.cells #[(nv ns f:Int),(nl ns f:Int),(nh ns f:Int)] 144)).drew
   (dW a8 (w.alloc (.cells #[(nv ns f:Int),(nl ns f:Int),(nh ns f:Int)] 144)).drew ns K n (2 ^ k-1) (cn a8 ns (nl ns f)*2 ^ (nv ns (nl ns f)-nv ns f-1)))) :=
  ⟨qH hA0 hm0 hmn (by omega) v1 (by omega) ⟨λw n mk q1 q2 q3 q4=>ih.out w n mk _ q1 q2 q3 (by omega) (by omega) q4⟩⟩
 have high:Hq (∀(n':Nat) (mk':Nat->Option Nat) (w1:World),(w.alloc (.cells #[(nv ns f:Int),(nl ns f:Int),(nh ns f:Int)] 144)).drew.grownBy w1 (some K)->MapIs aH w1 K n' mk'->MemoN a8 ns mk'->n'<=n+(2 ^ k-1) ->
   (w1.cell? ⟨w,0,none⟩=some (.int .i64 (nv ns f:Int)) /\ w1.cell? ⟨w,1,none⟩=some (.int .i64 (nl ns f:Int)) /\ w1.cell? ⟨w,2,none⟩=some (.int .i64 (nh ns f:Int))) /\
   Cl 120 #[.pointer a,(nh ns f:Int),(nv ns f:Int),.map (some K)] w1 (dW a8 w1 ns K n' (2 ^ k-1) (cn a8 ns (nh ns f)*2 ^ (nv ns (nh ns f)-nv ns f-1)))) :=
  ⟨λn' mk' w1 hg hm1 hmm hn=>by
   have hne:some w.heap.size≠some K:=by simp;omega
   refine⟨⟨?_,?_,?_⟩,qH (hA0.grownK hm0 hKM hg).1 hm1 hmm (by omega) v2 (by omega) ⟨λw n mk q1 q2 q3 q4=>ih.out w n mk _ q1 q2 q3 (by omega) (by omega) q4⟩⟩
   ·rw[hg.cell_far ⟨w,0,none⟩ (by simp) hne];simp
   ·rw[hg.cell_far ⟨w,1,none⟩ (by simp) hne];simp
   ·rw[hg.cell_far ⟨w,2,none⟩ (by simp) hne];simp⟩
 have keep2:Hq (∀w1 w2:World,w1.grownBy w2 (some K)->w.heap.size<w1.heap.size->(w1.cell? ⟨w,0,none⟩=some (.int .i64 (nv ns f:Int)) /\ w1.cell? ⟨w,1,none⟩=some (.int .i64 (nl ns f:Int)) /\ w1.cell? ⟨w,2,none⟩=some (.int .i64 (nh ns f:Int))) ->
   (w2.cell? ⟨w,0,none⟩=some (.int .i64 (nv ns f:Int)) /\ w2.cell? ⟨w,1,none⟩=some (.int .i64 (nl ns f:Int)) /\ w2.cell? ⟨w,2,none⟩=some (.int .i64 (nh ns f:Int)))) :=
  ⟨λw1 w2 hg hs ⟨c0,c1,c2⟩=>by
   have hne:some w.heap.size≠some K:=by simp;omega
   exact⟨(hg.cell_far ⟨w,0,none⟩ hs hne).trans c0,(hg.cell_far ⟨w,1,none⟩ hs hne).trans c1,(hg.cell_far ⟨w,2,none⟩ hs hne).trans c2⟩⟩
 generalize hcl:cn a8 ns (nl ns f)*2 ^ (nv ns (nl ns f)-nv ns f-1)=xl at *;generalize hch:cn a8 ns (nh ns f)*2 ^ (nv ns (nh ns f)-nv ns f-1)=xh at *;have wr:IntKind.i64.wrap ((xl:Int)+(xh:Int))=(xl:Int)+(xh:Int):=IntWalk.i64_in _ (by omega);have hcn':=Hq.mk hcn;clear h an hm hcn;generalize rowOf w a=g at *;go_enter func85,ntmps85;go_wp2_with fail;go_cut [10] (λv wx=>v=.int .i64 ((cn a8 ns f:Nat):Int) /\ ∃n2 mk2,w.grownBy wx (some K) /\ MapIs aH wx K n2 mk2 /\ MemoN a8 ns mk2 /\ n2<=n+(2 ^ k-1)+(2 ^ k-1))
 case first =>
  go_region_held3 (λw'=>w'.cell? ⟨w,0,none⟩=some (.int .i64 (nv ns f:Int)) /\ w'.cell? ⟨w,1,none⟩=some (.int .i64 (nl ns f:Int)) /\ w'.cell? ⟨w,2,none⟩=some (.int .i64 (nh ns f:Int))) (first|go_keep|exact⟨by assumption,by assumption,by assumption⟩)
   (first
     | (go_at_call_of 120 (Value.int .i64 (nl ns f:Int));refine low.out.mono ?_;rintro e w1⟨n',mk',rfl,hg1,hM1,hmm1,hn1⟩;obtain⟨⟨c0,c1,c2⟩,hcall⟩:=high.out _ _ _ hg1 hM1 hmm1 hn1;have hcall':=Hq.mk hcall;clear hcall)
     | (go_at_call_of 120 (Value.int .i64 (nh ns f:Int));refine hcall'.out.mono ?_;rintro e w2⟨n'',mk'',rfl,hg2,hM2,hmm2,hn2⟩;obtain⟨d0,d1,d2⟩:=keep2.out _ _ hg2 (Nat.lt_of_lt_of_le (by simp) hg1.size) ⟨c0,c1,c2⟩))
  go_wp2_with fail
  go_meet
  exact⟨by rw[show((cn a8 ns f:Nat):Int)=(xl:Int)+(xh:Int) by have:=hcn'.out;omega],n'',mk'',(World.grownBy_alloc w _ (some K)).trans (World.grownBy.trans ⟨hg1.os,hg1.tape,hg1.output,hg1.size,hg1.block⟩ hg2),hM2,hmm2,by omega⟩
 case rest =>
  obtain⟨rfl,n2,mk2,hg,hM,hmm,hn⟩:=hcut;obtain⟨w8,hrun,hM8,hg8⟩:=hM.store tz4 (by unfold maxLen;omega) (x:=f) (by show f<_;omega) (v:=cn a8 ns f) (by omega);simp only[aH]at hrun;have hfin:dW a8 w ns K n (2 ^ (k+1)-1) (cn a8 ns f) (.returned (.int .i64 ((cn a8 ns f:Nat):Int))) w8:=⟨n2+1,_,rfl,hg.trans hg8,hM8,hmm.upd f,by omega⟩;clear hM hM8;go_wp2_with fail;go_ret;exact hfin
theorem BJ(hKM:K≠M):∀(k:Nat) (w:World) (n:Nat) (mk:Nat->Option Nat) (f:Nat),Ar a9 a M a8 a7 w ns->MapIs aH w K n mk->MemoN a8 ns mk->f<ns.length->a8<=nv ns f+k->n+2 ^ k<=1099511627776 ->
  Cl 85 #[.pointer a,(f:Int),.map (some K)] w (dW a8 w ns K n (2 ^ k-1) (cn a8 ns f)):=by
 intro k;have small:∀(w:World) (n g:Nat) (mk:Nat->Option Nat) (f:Nat),Ar a9 a M a8 a7 w ns->MapIs aH w K n mk->MemoN a8 ns mk->f<=1->Cl 85 #[.pointer a,(f:Int),.map (some K)] w (dW a8 w ns K n g (cn a8 ns f)):=by
  intro w n g mk f h hm hmn h1;refine(count_small w K h1).mono ?_;rintro e w'⟨rfl,rfl⟩;refine⟨n,mk,?_,⟨rfl,rfl,rfl,Nat.le_refl _,λ_ _ _=>rfl⟩,hm,hmn,by omega⟩
  match f,h1 with
  | 0,_=>rw[cn_0 h.wf]
  | 1,_=>rw[cn_1 h.wf]
  | f+2,h1=>omega
 induction k with
 | zero =>
   intro w n mk f h hm hmn hf hk hN;refine small w n _ mk f h hm hmn ?_;by_cases f2:2<=f
   ·have:=h.wf.va f f2 hf;omega
   ·omega
 | succ k ih =>
   intro w n mk f h hm hmn hf hk hN;by_cases f2:2<=f
   ·cases hr:mk f with
    | none=>exact BH h hm hKM hmn f2 hf hr hk hN ⟨ih⟩
    | some c =>
      have hl:ns.length<=40000:=Nat.le_trans h.le h.most4;refine(BG hm f2 (by omega) hr).mono ?_;rintro e w'⟨rfl,rfl⟩;exact⟨n,mk,by rw[hmn f c hr],⟨rfl,rfl,rfl,Nat.le_refl _,λ_ _ _=>rfl⟩,hm,hmn,by omega⟩
   ·exact small w n _ mk f h hm hmn (by omega)
end
section
variable {a9 a M a8 a7:Nat}{w:World}{ns:List Nd}
end
section
variable {a9 a M a8 a7:Nat}{w:World}{ns:List Nd}
theorem BK(h:Ar a9 a M a8 a7 w ns){f:Nat}(hf:f<ns.length) :
  CB 53 #[.pointer a,(f:Int)] w (.tuple #[.int .i64 ((cn a8 ns f*2 ^ nv ns f:Nat):Int),.int .i64 0]):=by
 have hmm:=@run_makeMap prog;have la:=h.lta;have lM:=h.ltM;have v16:=h.vars16;have wf:=h.wf;have hva:=va_le wf hf;have hcl:=lU (a8:=a8) (ns:=ns) f;have hl:ns.length<=40000:=Nat.le_trans h.le h.most4;have hA:Ar a9 a M a8 a7 (w.alloc (.map #[] 0)).drew ns:=(h.alloc _).same rfl rfl rfl;have hm:MapIs aH (w.alloc (.map #[] 0)).drew w.heap.size 0 (λ_=>none):=(ei aH w).same rfl;have hpw:2 ^ a8<=2 ^ 16:=Nat.pow_le_pow_right (by omega) v16;have hc:=Hq.mk (BJ (a9:=a9) (a:=a) (a7:=a7) (ns:=ns) (M:=M) (K:=w.heap.size) (by omega) a8 _ 0 _ f hA hm (λ_ _ e=>by cases e) hf (Nat.le_add_left _ _) (by omega));have hwr:IntKind.i64.wrap ((cn a8 ns f:Int)*2 ^ nv ns f)=((cn a8 ns f*2 ^ nv ns f:Nat):Int):=by
  have p1:cn a8 ns f*2 ^ nv ns f<=2 ^ (a8-nv ns f)*2 ^ nv ns f:=Nat.mul_le_mul_right _ hcl;rw[<- Nat.pow_add,show a8-nv ns f+nv ns f=a8 by omega]at p1;have e:(cn a8 ns f:Int)*2 ^ nv ns f=((cn a8 ns f*2 ^ nv ns f:Nat):Int):=by simp
  rw[e,IntWalk.i64_in _ (by omega)]
 have hwr':=Hq.mk hwr;have t1:(decide ((0:Int)<=(f:Int))&&decide ((f:Int)<(ns.length:Int)))=true:=by simp;omega
 have hkeep:∀w1:World,(w.alloc (.map #[] 0)).drew.grownBy w1 (some w.heap.size)->Below w w w1:=λw1 hg=>by
  refine⟨hg.os,hg.tape,hg.output,?_,λi hi=>?_⟩
  ·have:=hg.size;simp only[heap_drew,World.size_alloc]at this;omega
  ·rw[hg.block i (by simp;omega) (by simp;omega),heap_drew,Below.heap_alloc _ _ _ hi]
 obtain⟨cap,a0,a1,a2,a3,af,an⟩:=h.reads;obtain⟨n0,n1,n2⟩:=an f hf;have hcell:∀w1:World,(w.alloc (.map #[] 0)).drew.grownBy w1 (some w.heap.size)->w1.cell? ⟨a,2,none⟩=some (.slice (some ⟨rowOf w a,0,none⟩) ns.length cap) /\ w1.cell? ⟨rowOf w a,f*3,none⟩=some (.int .i64 (nv ns f:Int)):=λw1 hg=>by
  obtain⟨_,_,_,rl⟩:=h.row;refine⟨?_,?_⟩
  ·rw[hg.cell_far ⟨a,2,none⟩ (by simp;omega) (by simp;omega)];simp[*,World.cell?_alloc_some]
  ·rw[hg.cell_far ⟨rowOf w a,f*3,none⟩ (by simp;omega) (by simp;omega)];simp[*,World.cell?_alloc_some]
 have hch:=Hq.mk hkeep;have rl:rowOf w a<w.heap.size:=by obtain⟨_,_,_,rl⟩:=h.row;exact rl
 clear an hm hwr hA hkeep;generalize rowOf w a=g at *;go_enter func53,ntmps53;go_wp2_with (go_at_call 84;refine(di h (f:Int)).mono ?_;rintro e w'⟨rfl,rfl⟩;rw[t1]);go_region_held3 (λw1=>w1.cell? ⟨a,2,none⟩=some (.slice g ns.length cap) /\ w1.cell? ⟨g,f*3,none⟩=some (.int .i64 (nv ns f:Int))) (go_keep)
  (first|(go_at_call 85;refine hc.out.mono ?_;rintro e w1⟨n',mk',rfl,hg,hM,hmm,hn⟩;obtain⟨q1,q2⟩:=hcell _ hg))
 have r2:=hch.out _ hg;go_wp2_with fail;go_ret2;refine⟨?_,r2⟩;rw[<- hwr'.out];rfl
end
theorem BL{a b c f:Prop}(h:a /\ b /\ c /\ Hd f):f:=h.2.2.2.out
def cntE(φ:Env->Bool):Nat:=T 14 0 φ e00
theorem BP{bR R MR a7 n:Nat}{sl:Value}{xs:List Value}{ns:List Nd}{p q:Int}{s:Nat->Nat->Nat->Nat}{w:World}(hRc:Rc bR R MR a7 sl (n+1) xs ns w)(hs:Hd (HistN s (n+1) xs ns))(hn:n<1000000) :
  CB 22 #[.pointer R,.agg #[p,q]] w (.int .i64 (cntE (ev ns (atN (s n) p q)):Int)):=by
 have D1:Below w w (w.alloc (.cells #[p,q] 27)):=Below.alloc' (Below.refl _ w) _;have b0:Bz (w.alloc (.cells #[p,q] 27)) w.heap.size #[p,q] 27:=Bz.new w _ _ _ rfl;have h1:=hRc.below D1;obtain⟨g,cap,rfl,lg,hcap,hcm,hlen,hcell⟩:=h1.sl;unfold maxLen at hcm;have HSV:Hd (SetsV (((xs.drop (n*40)).take 40).toArray) (s n)):=⟨hs.out.sets (by omega) hlen⟩;obtain⟨cs,hcs⟩:∃cs:Array Value,cs=((xs.drop (n*40)).take 40).toArray:=⟨_,rfl⟩;rw[<- hcs]at HSV;have h40:Hd (cs.size=40):=⟨HSV.out.1⟩;have RG:Hd ((w.alloc (.cells #[p,q] 27)).rangeAt g (n*40) cs.toList):=⟨λj v hj=>by
  rw[hcs]at hj;have h2:(xs.drop (n*40))[j]?=some v:=by
   have hj':((xs.drop (n*40)).take 40)[j]?=some v:=by simpa using hj
   rw[List.getElem?_take]at hj'
   split at hj'
   ·exact hj'
   ·cases hj'
  rw[List.getElem?_drop]at h2;exact hcell _ _ h2⟩
 have fn:atN (s n) p q<ns.length:=hs.out.at_lt (by omega) h1.ar.wf p q;obtain⟨KK,hKK⟩:∃KK:World->Prop,KK=λV=>Below (w.alloc (.cells #[p,q] 27)).heap.size (w.alloc (.cells #[p,q] 27)) V:=⟨_,rfl⟩;have RO:Hd (∀V,KK V->CS 21 #[.pointer R] V (.int .i64 (n:Int))):=⟨λV hV=>by rw[hKK]at hV;exact pJ (h1.below hV) hn⟩;have AT:Hd (∀V,CB 32 #[.agg cs,.agg #[p,q]] V (.int .i64 (atN (s n) p q:Int))):=⟨λV=>jE cs (s n) p q V HSV.out⟩;have CT:Hd (∀V,KK V->CB 53 #[.pointer R,.int .i64 (atN (s n) p q:Int)] V (.tuple #[.int .i64 (cntE (ev ns (atN (s n) p q)):Int),.int .i64 0])):=⟨λV hV=>by
  rw[hKK]at hV;refine(BK (h1.ar.below hV) fn).mono λe w' ⟨a1,a2⟩=>⟨?_,a2⟩;rw[a1,BA h1.ar.wf fn e00];rfl⟩
 have KS:Hd (∀V V':World,Below V V V'->(V.cell? ⟨R,4,none⟩=some (.slice g (n+1) cap) /\ V.cell? ⟨w,0,none⟩=some (.int .i64 p) /\ V.cell? ⟨w,1,none⟩=some (.int .i64 q) /\ Hd (V.rangeAt g (n*40) cs.toList))->(V'.cell? ⟨R,4,none⟩=some (.slice g (n+1) cap) /\ V'.cell? ⟨w,0,none⟩=some (.int .i64 p) /\ V'.cell? ⟨w,1,none⟩=some (.int .i64 q) /\ Hd (V'.rangeAt g (n*40) cs.toList))):=⟨λV V' k ⟨a1,a2,a3,a4⟩=>⟨aK k a1,aK k a2,aK k a3,⟨λj v hj=>aK k (a4.out j v hj)⟩⟩⟩;have KB:Hd (∀V V':World,Below V V V'->KK V->KK V'):=⟨λV V' k h=>by rw[hKK]at h ⊢;exact ag k h⟩;have KD:Hd (∀V,KK V->Below w w V):=⟨λV h=>by rw[hKK]at h;exact ag h D1⟩;have K0:KK (w.alloc (.cells #[p,q] 27)).drew:=by rw[hKK];exact(Below.refl _ _).drew
 have S0:(w.alloc (.cells #[p,q] 27)).drew.cell? ⟨R,4,none⟩=some (.slice g (n+1) cap) /\ (w.alloc (.cells #[p,q] 27)).drew.cell? ⟨w,0,none⟩=some (.int .i64 p) /\ (w.alloc (.cells #[p,q] 27)).drew.cell? ⟨w,1,none⟩=some (.int .i64 q) /\ Hd ((w.alloc (.cells #[p,q] 27)).drew.rangeAt g (n*40) cs.toList):=⟨h1.c4,b0.cell 0 _ rfl,b0.cell 1 _ rfl,⟨RG.out⟩⟩;have c4:(w.alloc (.cells #[p,q] 27)).cell? ⟨R,4,none⟩=some (.slice g (n+1) cap):=h1.c4;have t0:(((n+1:Nat):Int) == 0)=false:=by simp;omega
 have t0':((n:Int)+1 == 0)=false:=by simp;omega
 have i1:(n:Int)<(n:Int)+1:=by omega
 have i2:(0:Int)<=(n:Int):=by omega
 have hR:R<w.heap.size:=hRc.lt;generalize cntE (ev ns (atN (s n) p q))=r at *;generalize atN (s n) p q=f at *;clear hRc h1 b0 hcell HSV RG hs fn hKK D1 hcs hlen;go_enter func22,ntmps22;go_upto_region 3 with fail;refine wp_region_held_drew (S:=λV=>V.cell? ⟨R,4,none⟩=some (.slice g (n+1) cap) /\ V.cell? ⟨w,0,none⟩=some (.int .i64 p) /\ V.cell? ⟨w,1,none⟩=some (.int .i64 q) /\ Hd (V.rangeAt g (n*40) cs.toList)) (by kernel_rfl) S0 (λhHeld=>?_);refine tk 0 ?_ (hy:=by(intro w hSw;obtain⟨s0,s1,s2,_⟩:=hSw;go_simp;(try with_reducible rfl)));try simp only[ly]
 refine tk 1 ?_ (hy:=by(intro w hSw;obtain⟨s0,s1,s2,_⟩:=hSw;go_simp;(try with_reducible rfl)));try simp only[ly]
 refine tk 2 ?_ (hy:=by(intro w hSw;obtain⟨s0,s1,s2,_⟩:=hSw;go_simp;(try with_reducible rfl)));try simp only[ly]
 refine tk 3 ?_ (hy:=by(intro w hSw;obtain⟨s0,s1,s2,_⟩:=hSw;go_simp;(try with_reducible rfl)));try simp only[ly]
 refine tk 4 ?_ (hy:=by(intro w hSw;obtain⟨s0,s1,s2,_⟩:=hSw;go_simp;(try with_reducible rfl)));try simp only[ly]
 refine tk 5 ?_ (hy:=by(intro w hSw;obtain⟨s0,s1,s2,_⟩:=hSw;go_simp;(try with_reducible rfl)));try simp only[ly]
 refine tk 6 ?_ (hy:=by(intro w hSw;obtain⟨s0,s1,s2,_⟩:=hSw;go_simp;(try with_reducible rfl)));try simp only[ly]
 refine tk 7 ?_ (hy:=by(intro w hSw;obtain⟨s0,s1,s2,_⟩:=hSw;go_simp;(try with_reducible rfl)));try simp only[ly]
 refine tk 11 ?_ (hy:=by(intro w hSw;obtain⟨s0,s1,s2,_⟩:=hSw;go_simp;(try with_reducible rfl)));try simp only[ly]
 refine rd 8 (λK hK=>?_);go_simp
 (with_reducible refine(RO.out _ K0).mono ?_)
 rintro e w2⟨rfl,rfl⟩;dsimp only;refine hK.out _ _ (hHeld) (λhHeld=>?_);clear hK K;try simp only[ly]
 refine tk 9 ?_ (hy:=by(intro w hSw;go_simp;(try with_reducible rfl)));try simp only[ly]
 refine' wpAnyH_take (i:=10) (v:=.agg cs) rfl (by kernel_rfl) (by kernel_rfl) (by kernel_rfl) (λ_ _ _ h=>h) (yieldsIf_load_mid (by rfl) 89 _ rfl g (n*40) rfl cs.toList _ (λW hS=>BL hS) bQ rfl (by rw[Array.length_toList,h40.out];exact db)) ‹_› ?gr11;try simp only[ly]
 refine rd 12 (λK hK=>?_);go_simp
 (with_reducible refine(AT.out _).mono ?_)
 rintro e w3⟨rfl,hb3⟩;have S3:=KS.out _ _ hb3 hHeld;have K3:=KB.out _ _ hb3 K0;dsimp only;clear hHeld;refine hK.out _ _ (S3) (λhHeld=>?_);clear hK K;try simp only[ly]
 refine rd 13 (λK hK=>?_);go_simp
 (with_reducible refine(CT.out _ K3).mono ?_)
 rintro e w4⟨rfl,hb4⟩;have S4:=KS.out _ _ hb4 hHeld;have K4:=KB.out _ _ hb4 K3;dsimp only;clear hHeld;refine hK.out _ _ (S4) (λhHeld=>?_);clear hK K;try simp only[ly]
 refine tk 14 ?_ (hy:=by(intro w hSw;go_simp;(try with_reducible rfl)));try simp only[ly]
 refine tk 15 ?_ (hy:=by(intro w hSw;go_simp;(try with_reducible rfl)));try simp only[ly]
 refine tk 16 ?_ (hy:=by(intro w hSw;go_simp;(try with_reducible rfl)));try simp only[ly]
 refine tk 17 ?_ (hy:=by(intro w hSw;go_simp;(try with_reducible rfl)));try simp only[ly]
 refine tk 18 ?_ (hy:=by(intro w hSw;go_simp;(try with_reducible rfl)));try simp only[ly]
 refine wpAnyH_done (by kernel_rfl) ?_ _;have D9:=KD.out _ K4;go_wp2_with fail;go_ret;exact⟨rfl,D9⟩
section
variable {ds:List Dv}{ls:List Lk}
theorem qI{k j:Nat}(h:k<=j)(a b:Nat)(x:Env)(hx:ak ds ls k a b x=true):ak ds ls j a b x=true:=by
 induction j with
 | zero =>
   obtain rfl:k=0:=by omega
   exact hx
 | succ j ih =>
   by_cases e:k=j+1
   ·rw[<- e];exact hx
   ·exact(cD j a b x).2 (Or.inl (ih (by omega)))
noncomputable def atF (ds:List Dv)(ls:List Lk)(k:Nat)(p q:Int):Env->Bool:=if(0<=p /\ p<10) /\ (0<=q /\ q<4)then ak ds ls k p.toNat q.toNat else λ_=>false
theorem jU{k j:Nat}(h:k<=j)(p q:Int)(x:Env)(hx:atF ds ls k p q x=true):atF ds ls j p q x=true:=by
 unfold atF at *
 split at hx
 ·rename_i hc
  rw[if_pos hc];exact qI h _ _ x hx
 ·cases hx
theorem iv(k:Nat){a b:Nat}(ha:a<10)(hb:b<4):atF ds ls k (a:Int) (b:Int)=ak ds ls k a b:=by
 unfold atF;rw[if_pos (by omega)];rfl
end
structure RcF(ds:List Dv)(ls:List Lk)(bR R MR a7 K:Nat)(sl:Value)(xs:List Value)(ns:List Nd)(s:Nat->Nat->Nat->Nat)(W:World):Prop where
 rc:Rc bR R MR a7 sl (K+1) xs ns W
 hist:HistN s (K+1) xs ns
 fn:∀j a b,j<K+1->a<10->b<4->ev ns (s j a b)=ak ds ls j a b
 up:∀j,j<K->aV ds ls j<aV ds ls (j+1)
 fix:∀a b,a<10->b<4->ak ds ls (K+1) a b=ak ds ls K a b
section
variable {ds:List Dv}{ls:List Lk}{bR R MR a7 K:Nat}{sl:Value}{xs:List Value}{ns:List Nd}{s:Nat->Nat->Nat->Nat}{W W':World}
theorem RcF.below(h:RcF ds ls bR R MR a7 K sl xs ns s W)(hb:Below W W W'):RcF ds ls bR R MR a7 K sl xs ns s W':=⟨h.rc.below hb,h.hist,h.fn,h.up,h.fix⟩
theorem RcF.lt(h:RcF ds ls bR R MR a7 K sl xs ns s W):K<1000000:=by
 have h1:=pF h.up;have h2:=pu (ds:=ds) (ls:=ls) K;omega
theorem RcF.at(h:RcF ds ls bR R MR a7 K sl xs ns s W){j:Nat}(hj:j<K+1)(p q:Int):ev ns (atN (s j) p q)=atF ds ls j p q:=by
 unfold atN atF
 split
 ·rename_i hc
  exact h.fn j _ _ hj (by omega) (by omega)
 ·exact funext λx=>ev0 _ x
theorem RNewOut.made{EE:Prop}{w:World}{e:Ending}{w':World}(h:RNewOut ds ls a7 EE w e w'):Below w w w' /\ ((∃(bR R MR K:Nat) (sl:Value) (xs:List Value) (ns:List Nd) (s:Nat->Nat->Nat->Nat),e=.returned (.tuple #[.pointer R,.int .i64 0]) /\ w.heap.size<=bR /\ RcF ds ls bR R MR a7 K sl xs ns s w')\/(e=.returned (.tuple #[.pointer none,.int .i64 6]) /\ EE)):=by
 refine⟨h.1,?_⟩;rcases h.2 with⟨bR,R,MR,K,sl,xs,ns,h1,h2,h3,h4,h5,⟨s,hs⟩,h7,h8⟩|h
 ·exact Or.inl ⟨bR,R,MR,K,sl,xs,ns,s,h1,h2,⟨⟨h3,h4,h5⟩,λj a b hj ha hb=>⟨(hs j a b hj ha hb).1,(hs j a b hj ha hb).2.1⟩,λj a b hj ha hb=>(hs j a b hj ha hb).2.2,h7,h8⟩⟩
 ·exact Or.inr h
theorem BQ(h:RcF ds ls bR R MR a7 K sl xs ns s W):CS 21 #[.pointer R] W (.int .i64 (K:Int)):=pJ h.rc h.lt
theorem BS(h:RcF ds ls bR R MR a7 K sl xs ns s W)(p q:Int):CB 22 #[.pointer R,.agg #[p,q]] W (.int .i64 (cntE (atF ds ls K p q):Int)):=by
 have:=BP (p:=p) (q:=q) h.rc ⟨h.hist⟩ h.lt;rw[h.at (by omega)]at this;exact this
theorem lV(h:RcF ds ls bR R MR a7 K sl xs ns s W)(p q a b c d:Int)(hp:pkR a b c d=true):Cl 24 #[.pointer R,.agg #[p,q],pk a b c d] W λe w'=>∃v:Int,e=.returned v /\ Hd (RoundV K (λi=>atF ds ls i p q (envOf 14 (codeR a b c d))) v) /\ Below W W w':=by
 refine(Br (p:=p) (q:=q) h.rc ⟨h.hist⟩ h.lt hp ⟨λi j hij hj he=>?_⟩).mono λe w' ⟨v,h1,h2,h3⟩=>⟨v,h1,⟨?_⟩,h3⟩
 ·rw[h.at (by omega)]at he ⊢;exact jU hij _ _ _ he
 ·obtain⟨k,⟨f1,f2,f3⟩,hv⟩:=h2.out;refine⟨k,⟨f1,λt ht=>?_,λt ht hn=>?_⟩,hv⟩
  ·have:=f2 t ht;dsimp only at this ⊢;rw[<- h.at (by omega)];exact this
  ·have:=f3 t ht hn;dsimp only at this ⊢;rw[<- h.at (by omega)];exact this
end
section
variable {φ ψ φ' ψ':Env->Bool}
end
section
variable {ds:List Dv}{ls ls':List Lk}
end
theorem qJ(w:World)(c:Array Value)(t:TypeId):Bz (w.alloc (.cells c t)) w.heap.size c t:=Bz.new w c t _ rfl
theorem qK(w:World)(c:Array Value)(t:TypeId)(k:Nat)(h:k=w.heap.size):Bz (w.alloc (.cells c t)) k c t:=Bz.new w c t k h
section
variable {w w':World}{k:Nat}{c:Array Value}{t:TypeId}
theorem Bz.keepR(h:Bz w k c t)(hb:Below w w w'):Bz w' k c t:=(hb.block k h.lt).trans h
theorem Bz.atR(h:Bz w k c t)(j:Nat):w.cell? ⟨k,j,none⟩=c[j]?:=cell_of_row w k j _ _ _ h
end
theorem Bz.fiveR{w:World}{k:Nat}{t:TypeId}{a b c d e:Value}(h:Bz w k #[a,b,c,d,e] t):w.cell? ⟨k,0,none⟩=some a /\ w.cell? ⟨k,1,none⟩=some b /\ w.cell? ⟨k,2,none⟩=some c /\ w.cell? ⟨k,3,none⟩=some d /\ w.cell? ⟨k,4,none⟩=some e:=⟨h.atR 0,h.atR 1,h.atR 2,h.atR 3,h.atR 4⟩
def dj(nm:ByteArray)(a:Int)(h:nm.size<=maxLen):Dv:=⟨nm,1,a,0,[],[],[],by omega,h⟩
def ci(d:Dv):List Dv:=[dj ⟨#[105,110]⟩ 1 (by decide),{ d with name:=⟨#[100]⟩,hs:=by decide },dj ⟨#[111,117,116]⟩ 2 (by decide)]
def chainLR:List Lk:=[⟨0,0,1,0⟩,⟨1,1,2,0⟩]
theorem qL:checkV []=0:=by
 unfold checkV;rw[if_neg (by simp),jc (by simp)]
theorem qM(ad:Int):bg [] ad 0=0:=by
 unfold bg;simp
theorem jV(nm:ByteArray)(a:Int)(h:nm.size<=maxLen)(h0:0<=a)(h1:a<=15):aE (dj nm a h)=0:=by
 unfold aE dw dj;simp[hasAddr,qL,qM,h0,h1]
theorem BT(d:Dv)(hk:d.kind=3\/d.kind=4\/d.kind=5):netV (ci d) chainLR=aE d:=by
 have e0:bE (ci d) 0 (dj ⟨#[105,110]⟩ 1 (by decide))=0:=by
  unfold bE;rw[if_pos (by decide),if_neg (by simp),jV _ _ _ (by omega) (by omega)]
 have e1:bE (ci d) 1 { d with name:=⟨#[100]⟩,hs:=by decide }=aE d:=by
  unfold bE;rw[if_pos (show nameOk ⟨#[100]⟩=true by decide),if_neg]
  ·rfl
  ·simp[ci,dj]
 have e2:bE (ci d) 2 (dj ⟨#[111,117,116]⟩ 2 (by decide))=0:=by
  unfold bE;rw[if_pos (by decide),if_neg,jV _ _ _ (by omega) (by omega)];simp[ci,dj]
 have ld:(ci d).length=3:=rfl;have ll:chainLR.length=2:=rfl;have pd:portsV d.kind=2:=by
  unfold portsV;rcases hk with h|h|h <;> rw[h] <;> rfl
 unfold netV;rw[if_neg (by rw[ld,ll];omega)];rw[dL (d:=dj ⟨#[105,110]⟩ 1 (by decide)) rfl,if_pos e0,dL (d:={ d with name:=⟨#[100]⟩,hs:=by decide }) rfl,e1];by_cases hz:aE d=0
 ·rw[if_pos hz,dL (d:=dj ⟨#[111,117,116]⟩ 2 (by decide)) rfl,if_pos e2,kA (by rw[ld];omega),if_pos rfl,hz];have k0:aW (ci d) 0=1:=rfl;have k1:aW (ci d) 1=d.kind:=rfl;have k2:aW (ci d) 2=1:=rfl;have p1:portsV 1=1:=rfl;have l0:cJ (ci d) chainLR 0 ⟨0,0,1,0⟩=0:=by
   unfold cJ isPl;simp[ld,k0,k1,pd,p1,selfB]
  have l1:cJ (ci d) chainLR 1 ⟨1,1,2,0⟩=0:=by
   unfold cJ isPl;simp[ld,k1,k2,pd,p1,selfB,chainLR,meetB]
  rw[fZ (l:=⟨0,0,1,0⟩) rfl,if_pos l0,fZ (l:=⟨1,1,2,0⟩) rfl,if_pos l1,kB (by rw[ll];omega)]
 ·rw[if_neg hz,if_neg hz]
theorem BU{w:World}{b:Nat}{d:Dv}{vb vr vt:Value}(h:Bz w b #[.string ⟨#[105,110]⟩,.int .i64 1,.int .i64 1,.int .u8 0,.slice none 0 0,.slice none 0 0,.slice none 0 0,.string ⟨#[100]⟩,d.kind,d.addr,.int .u8 (d.pool:Int),vb,vr,vt,.string ⟨#[111,117,116]⟩,.int .i64 1,.int .i64 2,.int .u8 0,.slice none 0 0,.slice none 0 0,.slice none 0 0] 70)
  (hb:SlAt w w 1 IsI vb d.backs) (hr:SlAt w w 5 aY vr d.rules) (ht:SlAt w w 3 br vt d.routes):Devs w w (.slice b 3 3) (ci d):=by
 have nil:∀{α:Type} (n:Nat) (R:List Value->α->Prop),SlAt w w n R (.slice none 0 0) []:=λn R=>⟨none,0,rfl,λ_=>rfl,Nat.le_refl _,Nat.zero_le _,λh=>absurd rfl h⟩;refine⟨some ⟨b,0,none⟩,3,rfl,(λe=>by cases e),Nat.le_refl _,by decide,λ_=>⟨b,0,rfl,h.lt,λk x hx=>?_⟩⟩
 match k,hx with
 | 0,hx =>
   obtain rfl:=Option.some.inj hx;refine⟨[.string ⟨#[105,110]⟩,.int .i64 1,.int .i64 1,.int .u8 0,.slice none 0 0,.slice none 0 0,.slice none 0 0],rfl,⟨_,_,_,rfl,nil _ _,nil _ _,nil _ _⟩,λj u hj=>?_⟩;have hj7:j<7:=(List.getElem?_eq_some_iff.1 hj).1;rw[show 0+0*7+j=j by omega,h.atR]
   match j,hj7,hj with
   | 0,_,hj=>exact hj
   | 1,_,hj=>exact hj
   | 2,_,hj=>exact hj
   | 3,_,hj=>exact hj
   | 4,_,hj=>exact hj
   | 5,_,hj=>exact hj
   | 6,_,hj=>exact hj
 | 1,hx =>
   obtain rfl:=Option.some.inj hx;refine⟨[.string ⟨#[100]⟩,.int .i64 d.kind,.int .i64 d.addr,.int .u8 (d.pool:Int),vb,vr,vt],rfl,⟨_,_,_,rfl,hb,hr,ht⟩,λj u hj=>?_⟩;have hj7:j<7:=(List.getElem?_eq_some_iff.1 hj).1;rw[show 0+1*7+j=7+j by omega,h.atR]
   match j,hj7,hj with
   | 0,_,hj=>exact hj
   | 1,_,hj=>exact hj
   | 2,_,hj=>exact hj
   | 3,_,hj=>exact hj
   | 4,_,hj=>exact hj
   | 5,_,hj=>exact hj
   | 6,_,hj=>exact hj
 | 2,hx =>
   obtain rfl:=Option.some.inj hx;refine⟨[.string ⟨#[111,117,116]⟩,.int .i64 1,.int .i64 2,.int .u8 0,.slice none 0 0,.slice none 0 0,.slice none 0 0],rfl,⟨_,_,_,rfl,nil _ _,nil _ _,nil _ _⟩,λj u hj=>?_⟩;have hj7:j<7:=(List.getElem?_eq_some_iff.1 hj).1;rw[show 0+2*7+j=14+j by omega,h.atR]
   match j,hj7,hj with
   | 0,_,hj=>exact hj
   | 1,_,hj=>exact hj
   | 2,_,hj=>exact hj
   | 3,_,hj=>exact hj
   | 4,_,hj=>exact hj
   | 5,_,hj=>exact hj
   | 6,_,hj=>exact hj
theorem row8R{w:World}{b:Nat}(h:Bz w b #[.int .i64 0,.int .i64 0,.int .i64 1,.int .i64 0,.int .i64 1,.int .i64 1,.int .i64 2,.int .i64 0] 118):Links w w (.slice b 2 2) chainLR:=by
 refine⟨some ⟨b,0,none⟩,2,rfl,(λe=>by cases e),Nat.le_refl _,by decide,λ_=>⟨b,0,rfl,h.lt,λk x hx=>?_⟩⟩
 match k,hx with
 | 0,hx =>
   obtain rfl:=Option.some.inj hx;refine⟨[.int .i64 0,.int .i64 0,.int .i64 1,.int .i64 0],rfl,rfl,λj u hj=>?_⟩;have hj7:j<4:=(List.getElem?_eq_some_iff.1 hj).1;rw[show 0+0*4+j=j by omega,h.atR]
   match j,hj7,hj with
   | 0,_,hj=>exact hj
   | 1,_,hj=>exact hj
   | 2,_,hj=>exact hj
   | 3,_,hj=>exact hj
 | 1,hx =>
   obtain rfl:=Option.some.inj hx;refine⟨[.int .i64 1,.int .i64 1,.int .i64 2,.int .i64 0],rfl,rfl,λj u hj=>?_⟩;have hj7:j<4:=(List.getElem?_eq_some_iff.1 hj).1;rw[show 0+1*4+j=4+j by omega,h.atR]
   match j,hj7,hj with
   | 0,_,hj=>exact hj
   | 1,_,hj=>exact hj
   | 2,_,hj=>exact hj
   | 3,_,hj=>exact hj
theorem BV(d:Dv)(vb vr vt:Value)(w:World)(hb:SlAt w w 1 IsI vb d.backs)(hr:SlAt w w 5 aY vr d.rules)(ht:SlAt w w 3 br vt d.routes) :
  Cl 19 #[.agg #[.string d.name,d.kind,d.addr,.int .u8 (d.pool:Int),vb,vr,vt]] w λe w'=>∃b b',e=.returned (.agg #[.slice (some ⟨b,0,none⟩) 3 3,.slice (some ⟨b',0,none⟩) 2 2]) /\ Devs w' w' (.slice (some ⟨b,0,none⟩) 3 3) (ci d) /\ Links w' w' (.slice (some ⟨b',0,none⟩) 2 2) chainLR /\ Below w w w':=by
 have fin:Hid (∀(w':World) (b b':Nat),Below w w w'->Bz w' b #[.string ⟨#[105,110]⟩,.int .i64 1,.int .i64 1,.int .u8 0,.slice none 0 0,.slice none 0 0,.slice none 0 0,.string ⟨#[100]⟩,d.kind,d.addr,.int .u8 (d.pool:Int),vb,vr,vt,.string ⟨#[111,117,116]⟩,.int .i64 1,.int .i64 2,.int .u8 0,.slice none 0 0,.slice none 0 0,.slice none 0 0] 70->Bz w' b' #[.int .i64 0,.int .i64 0,.int .i64 1,.int .i64 0,.int .i64 1,.int .i64 1,.int .i64 2,.int .i64 0] 118->Devs w' w' (.slice (some ⟨b,0,none⟩) 3 3) (ci d) /\ Links w' w' (.slice (some ⟨b',0,none⟩) 2 2) chainLR /\ Below w w w'):=λw' b b' h k1 k2 =>
  ⟨BU k1 (SlAt.mono (SlAt.below hb h (λ_ _ _ h=>h)) h.size (λ_ _ _ h=>h)) (SlAt.mono (SlAt.below hr h (λ_ _ _ h=>h)) h.size (λ_ _ _ h=>h)) (SlAt.mono (SlAt.below ht h (λ_ _ _ h=>h)) h.size (λ_ _ _ h=>h)),row8R k2,h⟩
 obtain⟨Ab,cb,rfl,_,_,_,_⟩:=hb;obtain⟨Ar,cr,rfl,_,_,_,_⟩:=hr;obtain⟨At,ct,rfl,_,_,_,_⟩:=ht;generalize d.name=nm at *;generalize d.kind=kd at *;generalize d.addr=ad at *;generalize d.pool=pl at *;generalize d.backs.length=nb at *;generalize d.rules.length=nr at *;generalize d.routes.length=nt at *;go_enter func19,ntmps19;go_wp2_with fail;refine bodyPost_ret (v:=.agg #[.slice (some ⟨w.heap.size+1+1,0,none⟩) 3 3,.slice (some ⟨w.heap.size+1+1+1,0,none⟩) 2 2]) (by simp[results,results19,go_sem]) rfl ⟨_,_,rfl,?_⟩;exact fin.out _ _ _ (by go_grown) ((qK _ _ _ _ (by simp)).al _) (qK _ _ _ _ (by simp))
theorem Ca(x y:Int)(w:World):CB 23 #[x,y] w (.agg #[x,y]):=by
 go_enter func23,ntmps23;go_wp2_with fail;refine bodyPost_ret (v:=.agg #[x,y]) (by simp[results,results23,go_sem]) rfl ⟨rfl,?_⟩;exact Below.alloc' (Below.refl _ _) _
theorem Cb(w:World):CB 52 #[] w (.agg #[.int .u16 65535,.int .u16 65535,.int .u8 255,.int .u8 255]):=by
 go_enter func52,ntmps52;go_wp2_with fail;refine bodyPost_ret (v:=.agg #[.int .u16 65535,.int .u16 65535,.int .u8 255,.int .u8 255]) (by simp[results,results52,go_sem]) rfl ⟨rfl,?_⟩;exact Below.alloc' (Below.refl _ _) _
theorem Cc(ok:Bool)(w:World):CB 20 #[.bool ok] w (.agg #[.bool ok,.int .u16 65535,.int .u16 65535,.int .u8 255,.int .u8 255]):=by
 have R1:=qJ w #[.bool false,.int .u16 0,.int .u16 0,.int .u8 0,.int .u8 0] 64;have D1:=Below.alloc' (Below.refl w w) (.cells #[.bool false,.int .u16 0,.int .u16 0,.int .u8 0,.int .u8 0] 64);go_enter func20,ntmps20;go_wp2_with fail;refine(Cb _).mono ?_;rintro e w2⟨rfl,hb2⟩;have R2:=R1.keepR hb2;have D2:=ag hb2 D1;obtain⟨r0,r1,r2,r3,r4⟩:=R2.fiveR;have f0:=R2.free 0;have f1:=R2.free 1;have f2:=R2.free 2;have f3:=R2.free 3;have f4:=R2.free 4;go_wp2_with fail;refine bodyPost_ret (v:=.agg #[.bool ok,.int .u16 65535,.int .u16 65535,.int .u8 255,.int .u8 255]) (by simp[results,results20,go_sem,r0,r1,r2,r3,r4]) rfl ⟨rfl,?_⟩
 go_grown
def gz(rs:List NRule):Dv:=⟨⟨#[]⟩,3,0,0,[],rs,[],by omega,Nat.zero_le _⟩
def iw(ok:Bool):NRule:=⟨ok,65535,65535,255,255,by omega,by omega,by omega,by omega⟩
theorem qN(rs:List NRule):aE (gz rs)=if 8<rs.length then 2 else 0:=by
 unfold aE dw gz;simp[hasAddr,qL,qM]
theorem Cd(rs:List NRule):netV (ci (gz rs)) chainLR=if 8<rs.length then 2 else 0:=by
 rw[BT _ (Or.inl rfl),qN]
theorem Ce{a9 a M:Nat}{w:World}{ns:List Nd}(h:Ar a9 a M 14 40000 w ns)(A:Option Addr)(n cap:Nat)(xs:List Rl)(hR:Rules w w (.slice A n cap) xs)(hlen:xs.length<=2)(b:Bool)(hc:∀x,ao xs x=b) :
  Cl 198 #[.pointer a,.slice A n cap] w (cX a9 a M w ns 0 (ao xs)):=by
 have hn:n=xs.length:=by
  obtain⟨_,_,e,_⟩:=hR;cases e;rfl
 have CK:Hid (∀w,CS 93 #[.slice A n cap] w (.int .i64 0)):=λw=>by
  have:=check_ok A n cap w;rw[if_neg (by omega)]at this;exact this
 have NW:Hid (Cl 26 #[.int .i64 14,.int .i64 40000] w λe w'=>∃a2 M2,e=.returned (.tuple #[.pointer (some ⟨a2,0,none⟩),.int .i64 0]) /\ Ar w.heap.size a2 M2 14 40000 w' [(14,0,0),(14,1,1)] /\ Below w w w'):=iP (v:=14) (m:=40000) w (by omega) (by omega) (by omega) (by omega);clear hn;go_enter func198,ntmps198;go_wp2_with (go_at_call 93;refine(CK.out _).mono ?_;rintro e w'⟨rfl,rfl⟩);refine NW.out.mono ?_;rintro e w2⟨a2,M2,rfl,A2,hb2⟩;have JO:Hid (Cl 215 #[.pointer (some ⟨a2,0,none⟩),.slice A n cap] w2 λe w'=>∃ns',Ar _ a2 M2 14 40000 w' ns' /\ Below _ w2 w' /\
   ((∃f:Nat,e=.returned (.tuple #[(f:Int),.int .i64 0]) /\ f<ns'.length /\ ∀x,ev ns' f x=ao xs x)\/(e=.returned (.tuple #[.int .i64 0,.int .i64 6]) /\ _))):=oF A2 A n cap xs (hR.below hb2) (by omega)
 clear CK NW;go_wp2_with fail;refine JO.out.mono ?_;rintro e w3⟨ns3,A3,hb3,hres⟩;have D3:=hb2.trans hb3;have H3:=h.below D3;have K3:=h.kbelow D3;clear JO hb2 hb3 A2;obtain⟨f,rfl,lf,ef⟩:∃f:Nat,e=.returned (.tuple #[(f:Int),.int .i64 0]) /\ f<ns3.length /\ ∀x,ev ns3 f x=ao xs x:=by
  rcases hres with h|⟨_,h⟩
  ·exact h
  ·simp only[List.length_cons,List.length_nil]at h;omega
 have l3:=A3.wf.len;have hf:f=if b then 1 else 0:=by
  refine lC A3.wf lf (by split <;> omega) (λx=>?_);rw[ef x,hc x];cases b
  ·rfl
  ·simp[ev1]
 have TK:Hid (Cl 108 #[.pointer a,.pointer (some ⟨a2,0,none⟩),(f:Int)] w3 λe w'=>e=.returned (.tuple #[(f:Int),.int .i64 0]) /\ Ar a9 a M 14 40000 w' ns /\ Kp (ca a9 a M 14 40000) w3 w'):=xU H3 A3 (Nat.le_refl _) (by rw[hf];split <;> omega);have h2:=h.wf.len;have hlt:f<ns.length:=by rw[hf];split <;> omega
 have hev:∀x,ev ns f x=ao xs x:=λx=>by
  rw[hc x,hf];cases b
  ·rfl
  ·simp[ev1]
 have EV:Hid (∀x,ev ns f x=ao xs x):=hev;clear hf hev ef A3 H3 hc hres;go_wp2_with fail;refine TK.out.mono ?_;rintro e w4⟨rfl,A4,K4⟩;have fin:Hid (cX a9 a M w' ns 0 (ao xs) (.returned (.tuple #[(f:Int),.int .i64 0])) w4):=⟨ns,f,0,rfl,A4,K3.trans K4,Ext.refl _,Nat.le_refl _,Or.inl ⟨rfl,f,rfl,hlt,EV.out⟩⟩;clear A4 K4 K3 TK EV D3;go_wp2_with fail;go_ret2;exact fin.out
section
variable {a9 q a M:Nat}{w0 w:World}{ns:List Nd}{er:Int}
theorem Cf{A:Option Addr}{n cap:Nat}{xs:List Rl}(hR:Rules a9 w0 (.slice A n cap) xs)(hlen:xs.length<=2){b:Bool}(hc:∀x,ao xs x=b):fP a9 q a M w0 (.slice A n cap) 0 (ao xs) :=
 λ_ _ _ h=>qq h (OP:=Ce h.ar A n cap xs ((hR.below h.bel).mono h.size) hlen b hc)
end
def S8:Nat->Bool:=λv=>decide (v<8)
theorem jW(k first:Nat)(x:Env):sel k (2 ^ 2 ^ k-1) first x=true:=by
 rw[ed,Nat.testBit_two_pow_sub_one];have h:∀k first,val k first x<2 ^ k:=λk=>by
  induction k with
  | zero=>intro first;simp[val]
  | succ k ih =>
    intro first;have:=ih (first+1);have hp:2 ^ (k+1)=2 ^ k+2 ^ k:=by rw[Nat.pow_succ];omega
    unfold val
    split <;> omega
 simp[h k first]
theorem ix(z:Nat)(x:Env):phi z 65535 255 255 x=sel 4 z 0 x:=by
 unfold phi;rw[show sel 4 65535 4 x=true from jW 4 4 x,show sel 3 255 8 x=true from jW 3 8 x,show sel 3 255 11 x=true from jW 3 11 x];simp
theorem jX:∀(k bits first:Nat) (x y:Env),(∀i,first<=i->i<first+k->x i=y i)->sel k bits first x=sel k bits first y
 | 0,_,_,_,_,_=>rfl
 | k+1,bits,first,x,y,h=>by
   unfold sel;rw[h first (Nat.le_refl _) (by omega),jX k _ (first+1) x y (λi h1 h2=>h i (by omega) (by omega)),jX k _ (first+1) x y (λi h1 h2=>h i (by omega) (by omega))]
theorem qO(z:Nat):DepS S8 (phi z 65535 255 255):=λe e' h=>by
 rw[ix,ix];exact jX _ _ _ _ _ λi _ hi=>h i (by simp[S8];omega)
theorem Cg{φ:Env->Bool}(h:DepS S8 φ)(i j:Nat)(hij:(i<8 /\ j<8)\/(8<=i /\ 8<=j)):DepS S8 (λx=>φ (swE x i j)):=λe e' he=>h _ _ λv hv=>by
 have hv8:v<8:=by simpa[S8]using hv
 have g:∀u,u<8->e u=e' u:=λu hu=>he u (by simp[S8,hu]);unfold swE
 split
 ·exact g j (by omega)
 split
 ·exact g i (by omega)
 ·exact g v hv8
theorem gC{φ:Env->Bool}(h:DepS S8 φ)(i j n:Nat)(hij:∀k,k<n->(i+k<8 /\ j+k<8)\/(8<=i+k /\ 8<=j+k)):∀k,k<=n->DepS S8 (exF φ i j k)
 | 0,_=>h
 | k+1,hk=>Cg (gC h i j n hij k (by omega)) (i+k) (j+k) (hij k (by omega))
theorem qP{φ:Env->Bool}(h:DepS S8 φ):DepS S8 (flF φ):=gC (gC h 0 4 4 (λk _=>Or.inl (by omega)) 4 (Nat.le_refl _)) 8 11 3 (λk _=>Or.inr (by omega)) 3 (Nat.le_refl _)
theorem jY{φ ψ:Env->Bool}(h:DepS S8 φ)(h':DepS S8 ψ):DepS S8 (λx=>φ x&&ψ x):=λe e' he=>by show(φ e&&ψ e)=(φ e'&&ψ e');rw[h e e' he,h' e e' he]
theorem Ci{φ ψ:Env->Bool}(h:DepS S8 φ)(h':DepS S8 ψ):DepS S8 (λx=>φ x||ψ x):=λe e' he=>by show(φ e||ψ e)=(φ e'||ψ e');rw[h e e' he,h' e e' he]
theorem gD(b:Bool):DepS S8 (λ_=>b):=λ_ _ _=>rfl
theorem cn8:2 ^ cnS S8 14 0-1=255:=by decide
theorem flB_8{a9 q a M:Nat}{w0:World}{φ:Env->Bool}(h:DepS S8 φ):FlB a9 q a M w0 φ (4*255+3*1023):=by
 refine Bj (λ_=>S8) (λ_=>S8) 255 1023 ⟨λk hk=>⟨gC h 0 4 4 (λk _=>Or.inl (by omega)) k (by omega),?_⟩,λk hk=>⟨gC (gC h 0 4 4 (λk _=>Or.inl (by omega)) 4 (Nat.le_refl _)) 8 11 3 (λk _=>Or.inr (by omega)) k (by omega),?_⟩⟩
 ·match k,hk with
  | 0,_=>decide
  | 1,_=>decide
  | 2,_=>decide
  | 3,_=>decide
 ·match k,hk with
  | 0,_=>decide
  | 1,_=>decide
  | 2,_=>decide
theorem lW{d:Dv}(hk:d.kind=1\/(d.kind=3 /\ ∀x,ao (aS d) x=true))(pt:Int){φ0 φ1 φ2 φ3:Env->Bool}(h0:DepS S8 φ0)(h1:DepS S8 φ1):DepS S8 (aI d pt φ0 φ1 φ2 φ3):=by
 rcases hk with hk|⟨hk,hl⟩
 ·unfold aI;rw[if_neg (by omega),if_neg (by omega),if_neg (by omega),if_neg (by omega)];exact gD false
 ·have el:ao (aS d)=λ_=>true:=funext hl;unfold aI;rw[if_neg (by omega),if_pos hk,el]
  split
  ·exact jY h0 (gD true)
  ·exact jY h1 (qP (jY h0 (gD true)))
theorem Cj{d:Dv}(hk:d.kind=1\/(d.kind=3 /\ ∀x,ao (aS d) x=true))(hlen:d.rules.length<=2)(pt:Int){χ φ0 φ1 φ2 φ3:Env->Bool}(hχ:DepS S8 χ)(h0:DepS S8 φ0)(h1:DepS S8 φ1)(h2:DepS S8 φ2)(h3:DepS S8 φ3):gV 255 False d pt χ φ0 φ1 φ2 φ3:=by
 intro bR R MR a7 nsR w hR Ab A At nb cb n cap nt ct hb hr ht set f0 f1 f2 f3 hs l0 l1 l2 l3 e0 e1 e2 e3 e4;subst e0 e1 e2 e3 e4;have hd:=lW hk pt (φ2:=ev nsR f2) (φ3:=ev nsR f3) h0 h1;refine(mC hR S8 S8 hs l0 l1 l2 l3 hχ h0 h1 h2 h3 (Ci hχ hd) (gS:=5000) (gO:=255) (ψ:=aI d pt (ev nsR f0) (ev nsR f1) (ev nsR f2) (ev nsR f3)) (λa9 q a M w0 W ns er i0 i1 i2 i3 hbl hle b m0 m1 m2 m3=>?_) (λa9 q a M w0=>?_)).mono λe w' ⟨ns',v,er,k1,k2,k3,k4,k5,k6⟩=>⟨ns',v,er,k1,k2,k3,k4,?_,?_⟩
 ·have hr':=SlAt.mono (SlAt.below hr hbl (λ_ _ _ h=>h)) hle (λ_ _ _ h=>h);rcases hk with hk|⟨hk,hl⟩
  ·have es:aI d pt (ev nsR f0) (ev nsR f1) (ev nsR f2) (ev nsR f3)=λ_=>false:=by
    unfold aI;rw[if_neg (by omega),if_neg (by omega),if_neg (by omega),if_neg (by omega)]
   rw[es,hk];exact(send_host b).mono λ_ _ B=>B.more (by omega)
  ·have el:ao (aS d)=λ_=>true:=funext hl;have RB:fP a9 q a M w0 (.slice A n cap) 0 (ao (aS d)):=Cf (ni hr') (by unfold aS;rw[List.length_map];exact hlen) hl;by_cases hp:pt=1
   ·have es:aI d pt (ev nsR f0) (ev nsR f1) (ev nsR f2) (ev nsR f3)=λx=>ev nsR f0 x&&ao (aS d) x:=by
     unfold aI;rw[if_neg (by omega),if_pos hk,if_pos hp]
    rw[es,hk];have AB:bH a9 q a M w0 (ev nsR f0) (ao (aS d)) 255:=by rw[el];exact cn8 ▸ lQ S8 h0 (gD true)
    exact(send_ask b hp (g:=0+0+255) λW b'=>lT b' RB AB m0).mono λ_ _ B=>B.more (by omega)
   ·have es:aI d pt (ev nsR f0) (ev nsR f1) (ev nsR f2) (ev nsR f3)=λx=>ev nsR f1 x&&flF (λx=>ev nsR f0 x&&ao (aS d) x) x:=by
     unfold aI;rw[if_neg (by omega),if_pos hk,if_neg hp]
    rw[es,hk];have AB:bH a9 q a M w0 (ev nsR f0) (ao (aS d)) 255:=by rw[el];exact cn8 ▸ lQ S8 h0 (gD true)
    have DL:DepS S8 (λx=>ev nsR f0 x&&ao (aS d) x):=by rw[el];exact jY h0 (gD true)
    have BB:bH a9 q a M w0 (ev nsR f1) (flF (λx=>ev nsR f0 x&&ao (aS d) x)) 255:=cn8 ▸ lQ S8 h1 (qP DL);exact(send_answer b hp (g:=0+(0+0+255)+(4*255+3*1023)+255) λW b'=>answer_b b' RB AB (flB_8 DL) BB m0 m1).mono λ_ _ B=>B.more (by omega)
 ·exact cn8 ▸ Bi S8 hχ hd
 ·rw[cn8]at k5;exact k5
 ·rw[cn8]at k6;rcases k6.out with h|⟨a,b,c|c⟩
  ·exact Or.inl h
  ·omega
  ·exact Or.inr ⟨a,b,Or.inr c⟩
end Go.Proofs.YtjmclcmgpaofiaaGreat
