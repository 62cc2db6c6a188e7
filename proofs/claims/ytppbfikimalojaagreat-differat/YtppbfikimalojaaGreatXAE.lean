/-
  XAE.
-/
import Derived.Test.YtppbfikimalojaaGreatXAD
import Derived.Test.YtppbfikimalojaaGreatXAC
import Derived.Test.YtppbfikimalojaaGreatXAA
import Derived.RangeFuncNested
import Derived.RangeFuncBound
import Derived.RangeFuncCalls
import Derived.RangeFuncLeaves
import Derived.Shelf.Abstract
import Derived.Shelf.RegionOpen
import Derived.OwnWalkIn
import Derived.TacticsInMore
import Derived.LoopNIn
import Derived.LoopIn
set_option maxHeartbeats 8000000
set_option maxRecDepth 100000
namespace Go.Proofs.YtppbfikimalojaaGreat
open Tryz
open Go.RowKit Go.Maps
section
variable {C:Cfg}{w:World}{ns:List Nd}{N:Nat}{m1:Nd->Option Nat}{m2:Mx->Option Nat}{m3:Nat->Option Nat}
theorem oJ(h:Bu C w ns false N m1 m2 m3){c3:Nat}(hc3:C.c3=some c3){f i j k:Nat}(hij:i<j)(hj:j<C.b8)(hf:f<ns.length)(hi:i<=nv ns f)(hfj:nv ns f<=j)(hr:m3 f=none){S:Nat->Bool}(hk:FitW S i j C.b8 ns f (k+1))(hmb:MemoB ns j m2)(hms:MemoS ns i j m3)(hN:N+2 ^ (k+1)<=1099511627776)
  (hbl:Hq (∀w ns d9 N m2 x,Bu C w ns d9 N m1 m2 m3->InsideM ns x->FitM S j ns x k->(d9=false->MemoB ns j m2)->N+2 ^ k<=1099511627776->Calls prog 231 #[.pointer (some ⟨C.b,0,none⟩),I5 x,.int .i64 (j:Int)] w (bQ C w ns d9 N m1 m3 j x (2 ^ k-1)))) :
  Calls prog 228 #[.pointer (some ⟨C.b,0,none⟩),.int .i64 (f:Int),.int .i64 (i:Int),.int .i64 (j:Int)] w (cG C w ns false N m1 i j f (2 ^ (k+1)-1)):=by
 have hA:=(At.refl h).alloc (.cells #[.int .i64 (nv ns f:Int),.int .i64 (nl ns f:Int),.int .i64 (nh ns f:Int)] 143);have hA1:=hA.alloc (.cells #[.int .i64 (i:Int),.int .i64 0,.int .i64 0] 143);have M1:=hA.loc #[.int .i64 (i:Int),.int .i64 0,.int .i64 0] 143;rw[show(w.alloc (.cells #[.int .i64 (nv ns f:Int),.int .i64 (nl ns f:Int),.int .i64 (nh ns f:Int)] 143)).heap.size=w.heap.size+1 by simp]at M1;obtain⟨b0,b1,b2,b3,b4,bf⟩:=h.reads;obtain⟨cap,a0,a1,a2,a3,af,an⟩:=h.ar.reads;obtain⟨n0,n1,n2⟩:=an f hf;have hl:ns.length<=40000:=Nat.le_trans h.ar.le h.ar.most4;have lb:=h.ltb;have wf:=h.ar.wf;have v16:=h.ar.vars16;have hp2:2 ^ (k+1)=2*2 ^ k:=by rw[Nat.pow_succ];omega
 have hp1:1<=2 ^ k:=Nat.one_le_two_pow;have t1:decide ((j:Int)<(nv ns f:Int))=false:=by simp;omega
 have t2:decide ((nv ns f:Int)<(i:Int))=false:=by simp;omega
 have hmn:∀(ts:Array TypeId) (t:TypeId) (W:World),(Builtin.min_ ts t #[.int .i64 (nv ns f:Int),.int .i64 (i:Int)]).run prog W=.ok (.int .i64 (i:Int)) W:=λts t W=>by
  have:=run_min2 (nv ns f) i ts t W;rw[show min (nv ns f) i=i by omega]at this;exact this
 have hlook:=(hA.bu.o3 c3 hc3).look tz4 (x:=f) (by show f<_;omega);rw[hr]at hlook;simp only[G7,Option.getD_none,Option.isSome_none]at hlook;rw[hc3]at b4;have hiv:i<C.b8:=by omega
 have lp0:=O8 wf hf hiv false;have lp1:=O8 wf hf hiv true;have vp0:=J6 wf hf hiv hi false;have vp1:=J6 wf hf hiv hi true;have HF:Hq (∀z,FitM S j ns (partOf ns f i false,partOf ns f i true,z) k):=⟨λz=>hk.mix wf hij hj hf hi z⟩;clear h an hk;generalize rowOf w C.a=g at *;go_enter func228,ntmps228;go_wp2_with fail;refine(cC hA1.bu false hf (by omega)).mono ?_;rintro e w2⟨rfl,hp⟩;have hA2:=hA1.then hp;have M2:=M1.kp hp.kp;clear hp hA hA1 M1 hlook b0 b1 b2 b3 b4 bf a0 a1 a2 a3 af n0 n1 n2 hmn;go_wp2_with fail;refine(cC hA2.bu true hf (by omega)).mono ?_;rintro e w3⟨rfl,hp⟩;have hA3:=hA2.then hp;have M3:=M2.kp hp.kp;clear hp hA2 M2;generalize hq0:partOf ns f i false=x0 at *;generalize hq1:partOf ns f i true=x1 at *;have hin:∀z,InsideM ns (x0,x1,z):=λz=>⟨lp0,lp1⟩;have hmi:∀z,i<f9 ns (x0,x1,z) j:=λz=>by simp only[f9];omega
 go_wp2_with fail;refine(hbl.out _ ns false N m2 (x0,x1,false) hA3.bu (hin false) (HF.out false) (λ_=>hmb) (by omega)).mono ?_;rintro e w4⟨f0,ns1,full1,N1,m21,rfl,hp,X1,l1,k1,lt0,_,s1⟩;have hA4:=hA3.then hp;have M4:=M3.kp hp.kp;clear hp hA3 M3;have wf1:=hA4.bu.ar.wf;have X1l:=X1.len;obtain⟨⟨p0,p1,p2⟩,g0,g1,g2⟩:=M4.reads;have hA5:=hA4.set (p:=⟨w.heap.size+1,1,none⟩) M4.out (Nat.le_succ _) (.int .i64 (f0:Int));have M5:=M4.set (j:=1) (.int .i64 (f0:Int));simp only[List.setIfInBounds_toArray,List.set_cons_succ,List.set_cons_zero]at M5;go_wp2_with fail;refine(hbl.out _ ns1 full1 N1 m21 (x0,x1,true) hA5.bu ((hin true).ext X1) ((HF.out true).ext wf hA5.bu.ar.wf (hin true) X1) (λe=>(s1 e).1) (by omega)).mono ?_;rintro e w6⟨f1,ns2,full2,N2,m22,rfl,hp,X2,l2,k2,lt1,mo2,s2⟩;have hA6:=hA5.then hp;have M6:=M5.kp hp.kp;clear hp M4 hA4 p0 p1 p2 g0 g1 g2 hA5 M5;have wf2:=hA6.bu.ar.wf;have X2l:=X2.len;have X02:=X1.trans X2;have sem2:full2=false->MemoB ns2 j m22/\IsBl ns2 j (x0,x1,false) f0/\IsBl ns2 j (x0,x1,true) f1:=λe2=>by
  have e1:full1=false:=by cases full1 <;> simp_all
  exact⟨(s2 e2).1,(s1 e1).2.ext X2 wf1 wf2,(s2 e2).2⟩
 obtain⟨⟨p0,p1,p2⟩,g0,g1,g2⟩:=M6.reads;have hA7:=hA6.set (p:=⟨w.heap.size+1,2,none⟩) M6.out (Nat.le_succ _) (.int .i64 (f1:Int));have M7:=M6.set (j:=2) (.int .i64 (f1:Int));simp only[List.setIfInBounds_toArray,List.set_cons_succ,List.set_cons_zero]at M7;obtain⟨⟨p0',p1',p2'⟩,_⟩:=M7.reads;go_wp2_with fail;refine(numberOf_any hA7.bu (v:=i) (l:=f0) (u:=f1) (by omega) (by omega) lt1 (λe2=>?_)).mono ?_
 ·obtain⟨_,a1,a2⟩:=sem2 e2;have c1:=a1.va;have c2:=a2.va;rw[cF (hin _) X02]at c1 c2;have:=hmi false;have:=hmi true;omega
 rintro e w7⟨r,ns3,full3,rfl,hp,X3,l3,lt3,mo3,s3⟩;have hA8:=hA7.then hp;clear hp M6 hA6 hA7 M7 p0 p1 p2 g0 g1 g2 p0' p1' p2';have wf3:=hA8.bu.ar.wf;have len3:ns3.length<=40000:=Nat.le_trans hA8.bu.ar.le hA8.bu.ar.most4;obtain⟨w8,hrun,hM8,hg8⟩:=(hA8.bu.o3 c3 hc3).store tz4 (by unfold maxLen;omega) (x:=f) (by show f<_;omega) (v:=r) (by omega);have hA9:=hA8.memo3 hc3 hM8 hg8;obtain⟨d0,d1,d2,d3,d4,df⟩:=hA8.bu.reads;rw[hc3]at d4;simp only[G7]at hrun;have hfin:cG C w ns false N m1 i j f (2 ^ (k+1)-1) (.returned (.int .i64 (r:Int))) w8:=by
  refine⟨r,ns3,full3,N2+1,m22,_,rfl,hA9,X02.trans X3,by omega,by omega,lt3,(λe=>by cases e),λe3=>?_⟩;have e2:full2=false:=by cases full2 <;> simp_all
  obtain⟨a0,a1,a2⟩:=sem2 e2;have X03:=X02.trans X3;have X03l:=X03.len;have J:IsSw ns3 i j f r:=by
   refine pU (l:=f0) (u:=f1) wf3 hij hj (by omega) (by rw[X03.va hf];exact hi) ?_ ?_ (s3 e3)
   ·rw[W8 X03 hf,W8 X03 hf,hq0,hq1];exact a1.ext X3 wf2 wf3
   ·rw[W8 X03 hf,W8 X03 hf,hq0,hq1];exact a2.ext X3 wf2 wf3
  exact⟨a0.ext X3 wf2 wf3,(hms.ext X03 wf wf3).upd J,J⟩
 clear hA8 hM8 hg8 hA9;go_wp2_with fail;go_ret;exact hfin
theorem oK(S:Nat->Bool){c2 c3:Nat}(hc2:C.c2=some c2)(hc3:C.c3=some c3){i j:Nat}(hij:i<j)(hj:j<C.b8):∀(k:Nat) (w:World) (ns:List Nd) (d9:Bool) (N:Nat) (m2:Mx->Option Nat) (m3:Nat->Option Nat) (f:Nat),Bu C w ns d9 N m1 m2 m3->f<ns.length->FitW S i j C.b8 ns f k ->
  (d9=false->MemoB ns j m2/\MemoS ns i j m3)->N+2 ^ k<=1099511627776->Calls prog 228 #[.pointer (some ⟨C.b,0,none⟩),.int .i64 (f:Int),.int .i64 (i:Int),.int .i64 (j:Int)] w (cG C w ns d9 N m1 i j f (2 ^ k-1)):=by
 intro k
 induction k with
 | zero =>
   intro w ns d9 N m2 m3 f h hf hk;have:=hk.pos (show i<C.b8 by omega);omega
 | succ k ih =>
   intro w ns d9 N m2 m3 f h hf hk hm hN;cases d9
   ·by_cases hfj:j<nv ns f
    ·refine(pW h hf hfj).mono ?_;rintro e w'⟨rfl,hA⟩;exact⟨f,ns,false,N,m2,m3,rfl,hA,Ext.refl _,by omega,by omega,hf,id,λ_=>⟨(hm rfl).1,(hm rfl).2,pS h.ar.wf hij hf hfj⟩⟩
    ·cases hr:m3 f with
     | none =>
       by_cases hi:nv ns f<i
       ·exact pY h hc3 hij hj hf hi hr hk (hm rfl).1 (hm rfl).2 hN ⟨ih⟩
       ·exact oJ h hc3 hij hj hf (by omega) (by omega) hr hk (hm rfl).1 (hm rfl).2 hN ⟨λw ns d9 N m2 x=>pR S hc2 hj k w ns d9 N m2 x⟩
     | some r =>
       refine(pX h hc3 hf (by omega) hr).mono ?_;rintro e w'⟨rfl,hA⟩;have J:=(hm rfl).2 _ _ hr;exact⟨r,ns,false,N,m2,m3,rfl,hA,Ext.refl _,by omega,by omega,J.lt,id,λ_=>⟨(hm rfl).1,(hm rfl).2,J⟩⟩
   ·refine(pV h hf i j).mono ?_;rintro e w'⟨rfl,hA⟩;exact⟨0,ns,true,N,m2,m3,rfl,hA,Ext.refl _,by omega,by omega,(by have:=h.ar.wf.len;omega),id,λe=>by cases e⟩
end
def wth(S:Nat->Bool)(i j:Nat):Nat->Bool:=λx=>S x||x == i||x == j
theorem jl(S:Nat->Bool):∀d v,cnR S d v<=d
 | 0,_=>Nat.le_refl _
 | d+1,v=>by
   have:=jl S d (v+1);rw[cnR]
   split <;> omega
theorem bK{S:Nat->Bool}{b8:Nat}(v:Nat):cnS S b8 v<=b8:=by
 have:=jl S (b8-v) v;unfold cnS;omega
theorem oL{S:Nat->Bool}{b8 i j f:Nat}{ns:List Nd}(hd:DepS S (ev ns f)):FitW (wth S i j) (min i j) (max i j) b8 ns f (cnS (wth S i j) b8 0):=by
 have hi:wth S i j i=true:=by simp[wth]
 have hj:wth S i j j=true:=by simp[wth]
 refine⟨hd.mono λx hx=>by simp[wth,hx],?_,?_,O9 (Nat.zero_le _)⟩
 ·rcases Nat.le_total i j with h|h
  ·rw[Nat.min_eq_left h];exact hi
  ·rw[Nat.min_eq_right h];exact hj
 ·rcases Nat.le_total i j with h|h
  ·rw[Nat.max_eq_right h];exact hj
  ·rw[Nat.max_eq_left h];exact hi
section
variable {b9 a M b8 c9:Nat}{w:World}{ns:List Nd}
theorem jm(S:Nat->Bool)(h:Ar b9 a M b8 c9 w ns){f g:Nat}(hf:f<ns.length)(hg:g<ns.length)(d1:DepS S (ev ns f))(d2:DepS S (ev ns g)) :
  Calls prog 138 #[.pointer (some ⟨a,0,none⟩),.int .i64 (f:Int),.int .i64 (g:Int)] w (OpPost b9 a M b8 c9 w ns (2 ^ cnS S b8 0-1) (λq=>ev ns f q&&ev ns g q)):=by
 have l2:=h.wf.len;have hc:Hq (Calls prog 181 #[.pointer (some ⟨a,0,none⟩),.int .i64 (f:Int),.int .i64 (g:Int),.int .i64 ((0:Nat):Int)] w (OpPost b9 a M b8 c9 w ns (2 ^ cnS S b8 0-1) λq=>if ev ns f q then ev ns g q else ev ns 0 q)):=⟨gD S h (c:=(f,g,0)) ⟨hf,by show g<_;omega,by show 0<_;omega⟩ ⟨d1,d2,(λe e' _=>by rw[ev0,ev0]),O9 (Nat.zero_le _)⟩ (Nat.le_trans (bK 0) h.vars16)⟩;clear d1 d2;generalize cnS S b8 0=kk at *;go_enter func138,ntmps138;go_wp2_with fail;refine hc.out.mono ?_;rintro e w' hp;have hp2:OpPost b9 a M b8 c9 w ns (2 ^ kk-1) (λq=>ev ns f q&&ev ns g q) e w':=hp.of (λq=>by simp only[ev0];cases ev ns f q <;> simp);clear hp;have hp3:=hp2;obtain⟨ns',_,_,_,_,⟨f',rfl,_⟩|⟨rfl,_⟩⟩:=hp2
 ·go_wp2_with fail;go_ret2;exact hp3
 ·go_wp2_with fail;go_ret2;exact hp3
theorem jn(S:Nat->Bool)(h:Ar b9 a M b8 c9 w ns){f g:Nat}(hf:f<ns.length)(hg:g<ns.length)(d1:DepS S (ev ns f))(d2:DepS S (ev ns g)) :
  Calls prog 173 #[.pointer (some ⟨a,0,none⟩),.int .i64 (f:Int),.int .i64 (g:Int)] w (OpPost b9 a M b8 c9 w ns (2 ^ cnS S b8 0-1) (λq=>ev ns f q||ev ns g q)):=by
 have l2:=h.wf.len;have hc:Hq (Calls prog 181 #[.pointer (some ⟨a,0,none⟩),.int .i64 (f:Int),.int .i64 ((1:Nat):Int),.int .i64 (g:Int)] w (OpPost b9 a M b8 c9 w ns (2 ^ cnS S b8 0-1) λq=>if ev ns f q then ev ns 1 q else ev ns g q)):=⟨gD S h (c:=(f,1,g)) ⟨hf,by show 1<_;omega,by show g<_;omega⟩ ⟨d1,(λe e' _=>by rw[ev1,ev1]),d2,O9 (Nat.zero_le _)⟩ (Nat.le_trans (bK 0) h.vars16)⟩;clear d1 d2;generalize cnS S b8 0=kk at *;go_enter func173,ntmps173;go_wp2_with fail;refine hc.out.mono ?_;rintro e w' hp;have hp2:OpPost b9 a M b8 c9 w ns (2 ^ kk-1) (λq=>ev ns f q||ev ns g q) e w':=hp.of (λq=>by simp only[ev1];cases ev ns f q <;> simp);clear hp;have hp3:=hp2;obtain⟨ns',_,_,_,_,⟨f',rfl,_⟩|⟨rfl,_⟩⟩:=hp2
 ·go_wp2_with fail;go_ret2;exact hp3
 ·go_wp2_with fail;go_ret2;exact hp3
theorem oN(h:Ar b9 a M b8 c9 w ns){f i:Nat}(hf:f<ns.length)(hi:i<b8) :
  Calls prog 224 #[.pointer (some ⟨a,0,none⟩),.int .i64 (f:Int),.int .i64 (i:Int)] w (OpPost b9 a M b8 c9 w ns (2 ^ b8-1) λq=>ev ns f (setE q i false)||ev ns f (setE q i true)):=by
 have hmm:=@run_makeMap prog;have la:=h.lta;have lM:=h.ltM;have hA:=h.lowA;have v16:=h.vars16;have wf:=h.wf;have hs:((w.alloc (.map #[] 0)).alloc (.map #[] 0)).heap.size=w.heap.size+2:=by simp
 have hs1:(w.alloc (.map #[] 0)).heap.size=w.heap.size+1:=by simp
 have hpw:=Nat.pow_le_pow_right (n:=2) (by omega) v16;have hb:=bu_new (w:=(w.alloc (.map #[] 0)).alloc (.map #[] 0)) (C:=⟨b9,a,w.heap.size+2,M,some w.heap.size,none,some (w.heap.size+1),b8,c9⟩) (m1:=λ_=>none) (m2:=λ_=>none) (m3:=λ_=>none) ((h.alloc _).alloc _) (by simp) (by rw[hs];show b9<=_;omega)
  (λi e=>by cases e;exact(bG aV w).same (Below.heap_alloc _ _ _ (by simp))) (λ_ e=>by cases e) (λi e=>by cases e;have hq:=bG G7 (w.alloc (.map #[] 0));rw[hs1]at hq;exact hq)
  (λi e=>by cases e;exact⟨by show b9<=w.heap.size;omega,by show w.heap.size≠M;omega,(λe=>by simp at e),(λe=>by simp at e)⟩) (λ_ e=>by cases e) (λi e=>by cases e;exact⟨by show b9<=w.heap.size+1;omega,by show w.heap.size+1≠M;omega,(λe=>by simp at e),(λe=>by simp at e)⟩)
 have hch:=pJ (C:=⟨b9,a,w.heap.size+2,M,some w.heap.size,none,some (w.heap.size+1),b8,c9⟩) (c1:=w.heap.size) (c3:=w.heap.size+1) rfl rfl hi b8 _ ns false 0 _ _ f hb hf (Nat.le_add_left _ _) (λ_=>⟨(λ_ _ e=>by cases e),(λ_ _ e=>by cases e)⟩) (by omega);have t1:(decide ((0:Int)<=(f:Int))&&decide ((f:Int)<(ns.length:Int)))=true:=by simp;omega
 have t2:(decide ((0:Int)<=(i:Int))&&decide ((i:Int)<(b8:Int)))=true:=by simp;omega
 have hch':=Hq.mk hch;clear hch hb hpw;go_enter func224,ntmps224;go_wp2_with (first
  | (go_at_call 82;refine(hasFunction_any h (f:Int)).mono ?_;rintro e w'⟨rfl,rfl⟩;rw[t1])
  | (go_at_call 195;refine(hasVariable_any h (i:Int)).mono ?_;rintro e w'⟨rfl,rfl⟩;rw[t2]))
 refine hch'.out.mono ?_;rintro e w2⟨r,ns',full',N',m1',m3',rfl,hp,X,l1,_,lt,_,sm⟩;have wf':=hp.bu.ar.wf;have hK:Kp (ca b9 a M b8 c9) w' w2:=hp.kp.outer rfl rfl rfl rfl (by simp;omega) (λi hi=>(Below.heap_alloc _ _ _ (by simp;omega)).trans ((Below.heap_alloc _ _ _ (by simp;omega)).trans (Below.heap_alloc _ _ _ hi))) (by
  rintro i (e|e|e|e|e|e)
  ·exact Or.inl e
  ·exact Or.inr (Or.inr (by rw[e];show _<=w'.heap.size+2;omega))
  ·exact Or.inr (Or.inl e)
  ·cases e;exact Or.inr (Or.inr (Nat.le_refl _))
  ·cases e
  ·cases e;exact Or.inr (Or.inr (Nat.le_succ _))) la
 go_wp2_with fail;cases full'
 ·refine(answer_any hp.bu r).mono ?_;rintro e w3⟨rfl,rfl⟩;have hfin:OpPost b9 a M b8 c9 w' ns (2 ^ b8-1) (λq=>ev ns f (setE q i false)||ev ns f (setE q i true)) (.returned (.tuple #[.int .i64 (r:Int),.int .i64 0])) w3 :=
   ⟨ns',hp.bu.ar,hK,X,l1,Or.inl ⟨r,rfl,lt,λq=>by rw[(sm rfl).2.2.ev q,X.ev wf wf' _ hf,X.ev wf wf' _ hf]⟩⟩
  clear hp hK;go_wp2_with fail;go_ret2;exact hfin
 ·refine(answer_any hp.bu r).mono ?_;rintro e w3⟨rfl,rfl⟩;have hfin:OpPost b9 a M b8 c9 w' ns (2 ^ b8-1) (λq=>ev ns f (setE q i false)||ev ns f (setE q i true)) (.returned (.tuple #[.int .i64 0,.int .i64 6])) w3 :=
   ⟨ns',hp.bu.ar,hK,X,l1,Or.inr ⟨rfl,hp.bu.full_len rfl⟩⟩
  clear hp hK;go_wp2_with fail;go_ret2;exact hfin
theorem oO(e:Env)(i j:Nat):swE e i j=swE e j i:=by
 funext x
 unfold swE;by_cases h1:x=i <;> by_cases h2:x=j <;> simp_all
theorem oP(e:Env)(i:Nat):swE e i i=e:=by
 funext x
 unfold swE;by_cases h1:x=i <;> simp_all
theorem oQ(x y:Nat)(ts:Array TypeId)(t:TypeId)(W:World):(Builtin.max_ ts t #[.int .i64 (x:Int),.int .i64 (y:Int)]).run prog W=.ok (.int .i64 ((max x y:Nat):Int)) W:=by
 have e:((max x y:Nat):Int)=if(x:Int)<(y:Int)then(y:Int)else(x:Int):=by split <;> omega
 rw[e];simp[Builtin.max_,Builtin.max2]
theorem oR(h:Ar b9 a M b8 c9 w ns){f i:Nat}(hf:f<ns.length)(hi:i<b8) :
  Calls prog 223 #[.pointer (some ⟨a,0,none⟩),.int .i64 (f:Int),.int .i64 (i:Int),.int .i64 (i:Int)] w λe w'=>e=.returned (.tuple #[.int .i64 (f:Int),.int .i64 0])/\w'=w:=by
 have t1:(decide ((0:Int)<=(f:Int))&&decide ((f:Int)<(ns.length:Int)))=true:=by simp;omega
 have t2:(decide ((0:Int)<=(i:Int))&&decide ((i:Int)<(b8:Int)))=true:=by simp;omega
 go_enter func223,ntmps223;go_wp2_with (first
  | (go_at_call 82;refine(hasFunction_any h (f:Int)).mono ?_;rintro e w'⟨rfl,rfl⟩;rw[t1])
  | (go_at_call 195;refine(hasVariable_any h (i:Int)).mono ?_;rintro e w'⟨rfl,rfl⟩;rw[t2]))
 go_ret2;exact⟨rfl,rfl⟩
theorem swap_two(S:Nat->Bool)(h:Ar b9 a M b8 c9 w ns){f i j:Nat}(hf:f<ns.length)(hi:i<b8)(hj:j<b8)(hij:i≠j)(hd:DepS S (ev ns f)) :
  Calls prog 223 #[.pointer (some ⟨a,0,none⟩),.int .i64 (f:Int),.int .i64 (i:Int),.int .i64 (j:Int)] w (OpPost b9 a M b8 c9 w ns (2 ^ cnS (wth S i j) b8 0-1) λq=>ev ns f (swE q i j)):=by
 have hmm:=@run_makeMap prog;have la:=h.lta;have lM:=h.ltM;have hA:=h.lowA;have v16:=h.vars16;have wf:=h.wf;have hs:((w.alloc (.map #[] 0)).alloc (.map #[] 0)).heap.size=w.heap.size+2:=by simp
 have hs1:(w.alloc (.map #[] 0)).heap.size=w.heap.size+1:=by simp
 have hpw:=Nat.pow_le_pow_right (n:=2) (by omega) (Nat.le_trans (bK (S:=wth S i j) (b8:=b8) 0) v16);have hb:=bu_new (w:=(w.alloc (.map #[] 0)).alloc (.map #[] 0)) (C:=⟨b9,a,w.heap.size+2,M,none,some (w.heap.size+1),some w.heap.size,b8,c9⟩) (m1:=λ_=>none) (m2:=λ_=>none) (m3:=λ_=>none) ((h.alloc _).alloc _) (by simp) (by rw[hs];show b9<=_;omega)
  (λ_ e=>by cases e) (λi e=>by cases e;have hq:=bG aF (w.alloc (.map #[] 0));rw[hs1]at hq;exact hq) (λi e=>by cases e;exact(bG G7 w).same (Below.heap_alloc _ _ _ (by simp)))
  (λ_ e=>by cases e) (λi e=>by cases e;exact⟨by show b9<=w.heap.size+1;omega,by show w.heap.size+1≠M;omega,(λe=>by simp at e),(λe=>by simp at e)⟩) (λi e=>by cases e;exact⟨by show b9<=w.heap.size;omega,by show w.heap.size≠M;omega,(λe=>by simp at e),(λe=>by simp at e)⟩)
 have hch:=oK (wth S i j) (C:=⟨b9,a,w.heap.size+2,M,none,some (w.heap.size+1),some w.heap.size,b8,c9⟩) (m1:=λ_=>none) (c2:=w.heap.size+1) (c3:=w.heap.size) rfl rfl (i:=min i j) (j:=max i j) (by omega) (by show max i j<b8;omega) (cnS (wth S i j) b8 0) _ ns false 0 _ _ f hb hf (oL hd) (λ_=>⟨(λ_ _ e=>by cases e),(λ_ _ e=>by cases e)⟩) (by omega);have t1:(decide ((0:Int)<=(f:Int))&&decide ((f:Int)<(ns.length:Int)))=true:=by simp;omega
 have t2:(decide ((0:Int)<=(i:Int))&&decide ((i:Int)<(b8:Int)))=true:=by simp;omega
 have t3:(decide ((0:Int)<=(j:Int))&&decide ((j:Int)<(b8:Int)))=true:=by simp;omega
 have t4:((i:Int) ==(j:Int))=false:=by simp;omega
 have hsw:∀q,swE q (min i j) (max i j)=swE q i j:=λq=>by
  rcases Nat.le_total i j with hle|hle
  ·rw[Nat.min_eq_left hle,Nat.max_eq_right hle]
  ·rw[Nat.min_eq_right hle,Nat.max_eq_left hle,oO]
 have hmn:∀(ts:Array TypeId) (t:TypeId) (W:World),(Builtin.min_ ts t #[.int .i64 (i:Int),.int .i64 (j:Int)]).run prog W=.ok (.int .i64 ((min i j:Nat):Int)) W:=λts t W=>run_min2 i j ts t W;have hmx:∀(ts:Array TypeId) (t:TypeId) (W:World),(Builtin.max_ ts t #[.int .i64 (i:Int),.int .i64 (j:Int)]).run prog W=.ok (.int .i64 ((max i j:Nat):Int)) W:=λts t W=>oQ i j ts t W;generalize cnS (wth S i j) b8 0=kk at *;generalize min i j=lo at *;generalize max i j=up at *;have hch':=Hq.mk hch;have hsw':=Hq.mk hsw;clear hch hb hpw hsw hd;go_enter func223,ntmps223;go_wp2_with (first
  | (go_at_call 82;refine(hasFunction_any h (f:Int)).mono ?_;rintro e w'⟨rfl,rfl⟩;rw[t1])
  | (go_at_call_of 195 (Value.int .i64 (i:Int));refine(hasVariable_any h (i:Int)).mono ?_;rintro e w'⟨rfl,rfl⟩;rw[t2])
  | (go_at_call_of 195 (Value.int .i64 (j:Int));refine(hasVariable_any h (j:Int)).mono ?_;rintro e w'⟨rfl,rfl⟩;rw[t3]))
 refine hch'.out.mono ?_;rintro e w2⟨r,ns',full',N',m2',m3',rfl,hp,X,l1,_,lt,_,sm⟩;have wf':=hp.bu.ar.wf;have hK:Kp (ca b9 a M b8 c9) w' w2:=hp.kp.outer rfl rfl rfl rfl (by simp;omega) (λi hi=>(Below.heap_alloc _ _ _ (by simp;omega)).trans ((Below.heap_alloc _ _ _ (by simp;omega)).trans (Below.heap_alloc _ _ _ hi))) (by
  rintro i (e|e|e|e|e|e)
  ·exact Or.inl e
  ·exact Or.inr (Or.inr (by rw[e];show _<=w'.heap.size+2;omega))
  ·exact Or.inr (Or.inl e)
  ·cases e
  ·cases e;exact Or.inr (Or.inr (Nat.le_succ _))
  ·cases e;exact Or.inr (Or.inr (Nat.le_refl _))) la
 go_wp2_with fail;cases full'
 ·refine(answer_any hp.bu r).mono ?_;rintro e w3⟨rfl,rfl⟩;have hfin:OpPost b9 a M b8 c9 w' ns (2 ^ kk-1) (λq=>ev ns f (swE q i j)) (.returned (.tuple #[.int .i64 (r:Int),.int .i64 0])) w3 :=
   ⟨ns',hp.bu.ar,hK,X,l1,Or.inl ⟨r,rfl,lt,λq=>by rw[(sm rfl).2.2.ev q,X.ev wf wf' _ hf,hsw'.out]⟩⟩
  clear hp hK;go_wp2_with fail;go_ret2;exact hfin
 ·refine(answer_any hp.bu r).mono ?_;rintro e w3⟨rfl,rfl⟩;have hfin:OpPost b9 a M b8 c9 w' ns (2 ^ kk-1) (λq=>ev ns f (swE q i j)) (.returned (.tuple #[.int .i64 0,.int .i64 6])) w3 :=
   ⟨ns',hp.bu.ar,hK,X,l1,Or.inr ⟨rfl,hp.bu.full_len rfl⟩⟩
  clear hp hK;go_wp2_with fail;go_ret2;exact hfin
theorem jo(S:Nat->Bool)(h:Ar b9 a M b8 c9 w ns){f i j:Nat}(hf:f<ns.length)(hi:i<b8)(hj:j<b8)(hd:DepS S (ev ns f)) :
  Calls prog 223 #[.pointer (some ⟨a,0,none⟩),.int .i64 (f:Int),.int .i64 (i:Int),.int .i64 (j:Int)] w (OpPost b9 a M b8 c9 w ns (2 ^ cnS (wth S i j) b8 0-1) λq=>ev ns f (swE q i j)):=by
 by_cases e:i=j
 ·subst e;refine(oR h hf hi).mono ?_;rintro e w'⟨rfl,rfl⟩;exact⟨ns,h,Kp.refl _ _,Ext.refl _,Nat.le_add_right _ _,Or.inl ⟨f,rfl,hf,λq=>by show ev ns f q=ev ns f (swE q i i);rw[oP]⟩⟩
 ·exact swap_two S h hf hi hj e hd
end
structure IsTk(ns ns2:List Nd)(f g:Nat):Prop where
 ltf:f<ns2.length
 lt:g<ns.length
 ev:∀e,ev ns g e=ev ns2 f e
 va:nv ns2 f<=nv ns g
section
variable {b8 v2:Nat}{ns ns' ns2:List Nd}
theorem IsTk.ext{f g:Nat}(h:IsTk ns ns2 f g)(X:Ext ns ns')(wf:Wf b8 ns)(wf':Wf b8 ns'):IsTk ns' ns2 f g:=by
 have hl:=X.len;have lt:=h.lt;refine⟨h.ltf,by omega,λe=>?_,?_⟩
 ·rw[X.ev wf wf' _ h.lt];exact h.ev e
 ·rw[X.va h.lt];exact h.va
def MemoT(ns ns2:List Nd)(m:Nat->Option Nat):Prop:=∀f g,m f=some g->IsTk ns ns2 f g
theorem MemoT.ext{m:Nat->Option Nat}(h:MemoT ns ns2 m)(X:Ext ns ns')(wf:Wf b8 ns)(wf':Wf b8 ns'):MemoT ns' ns2 m:=λc f e=>(h c f e).ext X wf wf'
theorem MemoT.upd{m:Nat->Option Nat}(h:MemoT ns ns2 m){c f:Nat}(hf:IsTk ns ns2 c f):MemoT ns ns2 (upd m c f):=by
 intro d g hg;unfold YtppbfikimalojaaGreat.upd at hg;by_cases e:d=c
 ·subst e;rw[if_pos rfl]at hg;cases hg;exact hf
 ·rw[if_neg e]at hg;exact h d g hg
theorem jp(wf:Wf b8 ns)(wf2:Wf v2 ns2)(hv:v2<=b8){f:Nat}(hf:f<=1):IsTk ns ns2 f f:=by
 have l1:=wf.len;have l2:=wf2.len
 match f,hf with
 | 0,_=>exact⟨by omega,by omega,λe=>rfl,by simp[nv,wf.n0,wf2.n0];exact hv⟩
 | 1,_=>exact⟨by omega,by omega,λe=>by rw[ev1,ev1],by simp[nv,wf.n1,wf2.n1];exact hv⟩
theorem oS(wf2:Wf v2 ns2){f l u g:Nat}(f2:2<=f)(hf:f<ns2.length)(h0:IsTk ns ns2 (nl ns2 f) l)(h1:IsTk ns ns2 (nh ns2 f) u)(hn:IsNode ns (nv ns2 f) l u g):IsTk ns ns2 f g :=
 ⟨hf,hn.lt,λe=>by rw[hn.ev,h0.ev,h1.ev,U9 wf2 f2 hf],hn.va⟩
end
structure Fr(C:Cfg)(w:World)(base2 a2 M2 v2 most2:Nat)(ns2:List Nd):Prop where
 ar:Ar base2 a2 M2 v2 most2 w ns2
 oa:Out C w a2
 oM:Out C w M2
 or:Out C w (rowOf w a2)
section
variable {C:Cfg}{w w':World}{base2 a2 M2 v2 most2:Nat}{ns2:List Nd}
theorem Fr.kp(h:Fr C w base2 a2 M2 v2 most2 ns2)(k:Kp C w w'):Fr C w' base2 a2 M2 v2 most2 ns2:=by
 have e:w'.heap[a2]?=w.heap[a2]?:=k.blk a2 h.oa.lt h.oa.not h.oa.ne;refine⟨h.ar.same e (k.blk M2 h.oM.lt h.oM.not h.oM.ne) (k.blk _ h.or.lt h.or.not h.or.ne),h.oa.kp k,h.oM.kp k,?_⟩;rw[l9 e];exact h.or.kp k
def eO(C:Cfg)(w:World)(ns ns2:List Nd)(d9:Bool)(N:Nat)(m1:Nd->Option Nat)(m2:Mx->Option Nat)(f:Nat)(g:Nat)(e:Ending)(w':World):Prop :=
 ∃r ns' full' N' m3',e=.returned (.int .i64 ((r:Nat):Int))/\At C w w' ns' full' N' m1 m2 m3'/\Ext ns ns'/\ns'.length<=ns.length+g/\N'<=N+g/\r<ns'.length/\(d9=true->full'=true)/\(full'=false->MemoT ns' ns2 m3'/\IsTk ns' ns2 f r)
variable {ns:List Nd}{N:Nat}{m1:Nd->Option Nat}{m2:Mx->Option Nat}{m3:Nat->Option Nat}
theorem jq(h:Bu C w ns true N m1 m2 m3)(f:Nat) :
  Calls prog 143 #[.pointer (some ⟨C.b,0,none⟩),.pointer (some ⟨a2,0,none⟩),.int .i64 (f:Int)] w λe w'=>e=.returned (.int .i64 0)/\w'=w:=by
 obtain⟨b0,b1,b2,b3,b4,bf⟩:=h.reads;clear h;go_enter func143,ntmps143;go_wp2_with fail;go_ret;exact⟨rfl,rfl⟩
theorem take_small(h:Bu C w ns false N m1 m2 m3){f:Nat}(hf:f<=1) :
  Calls prog 143 #[.pointer (some ⟨C.b,0,none⟩),.pointer (some ⟨a2,0,none⟩),.int .i64 (f:Int)] w λe w'=>e=.returned (.int .i64 (f:Int))/\w'=w:=by
 obtain⟨b0,b1,b2,b3,b4,bf⟩:=h.reads;have t1:decide ((f:Int)<=1)=true:=by simp;omega
 clear h;go_enter func143,ntmps143;go_wp2_with fail;go_ret;exact⟨rfl,rfl⟩
theorem oT(h:Bu C w ns false N m1 m2 m3){c3:Nat}(hc3:C.c3=some c3){f r:Nat}(f2:2<=f)(hf:f<9223372036854775808)(hr:m3 f=some r) :
  Calls prog 143 #[.pointer (some ⟨C.b,0,none⟩),.pointer (some ⟨a2,0,none⟩),.int .i64 (f:Int)] w λe w'=>e=.returned (.int .i64 (r:Int))/\w'=w:=by
 obtain⟨b0,b1,b2,b3,b4,bf⟩:=h.reads;have t1:decide ((f:Int)<=1)=false:=by simp;omega
 have hlook:=(h.o3 c3 hc3).look tz4 (x:=f) (by show f<_;omega);rw[hr]at hlook;simp only[G7,Option.getD_some,Option.isSome_some]at hlook;rw[hc3]at b4;clear h;go_enter func143,ntmps143;go_wp2_with fail;go_ret;exact⟨rfl,rfl⟩
theorem oU(h:Bu C w ns false N m1 m2 m3)(F:Fr C w base2 a2 M2 v2 most2 ns2)(hv2:v2<=C.b8){c3:Nat}(hc3:C.c3=some c3){f k:Nat}(f2:2<=f)(hf:f<ns2.length)(hr:m3 f=none){S:Nat->Bool}(hk:Fit1 S v2 ns2 f (k+1))(hmt:MemoT ns ns2 m3)(hN:N+2 ^ (k+1)<=1099511627776)
  (ih:Hq (∀w ns d9 N m3 f,Bu C w ns d9 N m1 m2 m3->Fr C w base2 a2 M2 v2 most2 ns2->f<ns2.length->Fit1 S v2 ns2 f k->(d9=false->MemoT ns ns2 m3)->N+2 ^ k<=1099511627776->Calls prog 143 #[.pointer (some ⟨C.b,0,none⟩),.pointer (some ⟨a2,0,none⟩),.int .i64 (f:Int)] w (eO C w ns ns2 d9 N m1 m2 f (2 ^ k-1)))) :
  Calls prog 143 #[.pointer (some ⟨C.b,0,none⟩),.pointer (some ⟨a2,0,none⟩),.int .i64 (f:Int)] w (eO C w ns ns2 false N m1 m2 f (2 ^ (k+1)-1)):=by
 have hA:=(At.refl h).alloc (.cells #[.int .i64 (nv ns2 f:Int),.int .i64 (nl ns2 f:Int),.int .i64 (nh ns2 f:Int)] 143);have L:=h.loc #[.int .i64 (nv ns2 f:Int),.int .i64 (nl ns2 f:Int),.int .i64 (nh ns2 f:Int)] 143;have F1:=F.kp hA.kp;obtain⟨b0,b1,b2,b3,b4,bf⟩:=h.reads;obtain⟨cap,a0,a1,ac2,a3,af,an⟩:=F.ar.reads;obtain⟨n0,n1,n2⟩:=an f hf;have hl2:ns2.length<=40000:=Nat.le_trans F.ar.le F.ar.most4;have hl:ns.length<=40000:=Nat.le_trans h.ar.le h.ar.most4;have lb:=h.ltb;have wf:=h.ar.wf;have wf2:=F.ar.wf;have hlo:=wf2.lo f f2 hf;have hhi:=wf2.hi f f2 hf;have vlo:=wf2.vlo f f2 hf;have vhi:=wf2.vhi f f2 hf;have vva:=wf2.va f f2 hf;have HF:Hq (Fit1 S v2 ns2 (nl ns2 f) k/\Fit1 S v2 ns2 (nh ns2 f) k):=⟨hk.lo wf2 f2 hf,hk.hi wf2 f2 hf⟩;clear hk;have hp2:2 ^ (k+1)=2*2 ^ k:=by rw[Nat.pow_succ];omega
 have hp1:1<=2 ^ k:=Nat.one_le_two_pow;have t1:decide ((f:Int)<=1)=false:=by simp;omega
 have hlook:=(h.o3 c3 hc3).look tz4 (x:=f) (by show f<_;omega);rw[hr]at hlook;simp only[G7,Option.getD_none,Option.isSome_none]at hlook;rw[hc3]at b4;clear h an F;generalize rowOf w a2=g at *;go_enter func143,ntmps143;go_wp2_with fail;refine(ih.out _ ns false N m3 (nl ns2 f) hA.bu F1 (by omega) HF.out.1 (λ_=>hmt) (by omega)).mono ?_;rintro e w4⟨f0,ns1,full1,N1,m31,rfl,hp,X1,l1,k1,lt0,_,s1⟩;have hA4:=hA.then hp;have L4:=L.kp hp.kp;have F4:=F1.kp hp.kp;clear hp hA L hlook b0 b1 b2 b3 b4 bf a0 a1 ac2 a3 af n0 n1 n2 F1;have wf1:=hA4.bu.ar.wf;have X1l:=X1.len;obtain⟨⟨q0,q1,q2⟩,_⟩:=L4.reads;go_wp2_with fail;refine(ih.out _ ns1 full1 N1 m31 (nh ns2 f) hA4.bu F4 (by omega) HF.out.2 (λe=>(s1 e).1) (by omega)).mono ?_;rintro e w6⟨f1,ns3,full2,N2,m32,rfl,hp,X2,l2,k2,lt1,mo2,s2⟩;have hA6:=hA4.then hp;have L6:=L4.kp hp.kp;clear hp L4 hA4 q0 q1 q2 F4;have wf3:=hA6.bu.ar.wf;have X2l:=X2.len;have X02:=X1.trans X2;have sem2:full2=false->MemoT ns3 ns2 m32/\IsTk ns3 ns2 (nl ns2 f) f0/\IsTk ns3 ns2 (nh ns2 f) f1:=λe2=>by
  have e1:full1=false:=by cases full1 <;> simp_all
  exact⟨(s2 e2).1,(s1 e1).2.ext X2 wf1 wf3,(s2 e2).2⟩
 obtain⟨⟨q0,q1,q2⟩,_⟩:=L6.reads;go_wp2_with fail;refine(numberOf_any hA6.bu (v:=nv ns2 f) (l:=f0) (u:=f1) (by omega) (by omega) lt1 (λe2=>?_)).mono ?_
 ·obtain⟨_,a1,a2⟩:=sem2 e2;have c1:=a1.va;have c2:=a2.va;omega
 rintro e w7⟨r,ns4,full3,rfl,hp,X3,l3,lt3,mo3,s3⟩;have hA7:=hA6.then hp;clear hp L6 hA6 q0 q1 q2;have wf4:=hA7.bu.ar.wf;have len3:ns4.length<=40000:=Nat.le_trans hA7.bu.ar.le hA7.bu.ar.most4;obtain⟨w8,hrun,hM8,hg8⟩:=(hA7.bu.o3 c3 hc3).store tz4 (by unfold maxLen;omega) (x:=f) (by show f<_;omega) (v:=r) (by omega);have hA8:=hA7.memo3 hc3 hM8 hg8;obtain⟨d0,d1,d2,d3,d4,df⟩:=hA7.bu.reads;rw[hc3]at d4;simp only[G7]at hrun;have hfin:eO C w ns ns2 false N m1 m2 f (2 ^ (k+1)-1) (.returned (.int .i64 (r:Int))) w8:=by
  refine⟨r,ns4,full3,N2+1,_,rfl,hA8,X02.trans X3,by omega,by omega,lt3,(λe=>by cases e),λe3=>?_⟩;have e2:full2=false:=by cases full2 <;> simp_all
  obtain⟨a00,a1,a2⟩:=sem2 e2;have J:IsTk ns4 ns2 f r:=oS wf2 f2 hf (a1.ext X3 wf3 wf4) (a2.ext X3 wf3 wf4) (s3 e3);exact⟨(a00.ext X3 wf3 wf4).upd J,J⟩
 clear hA7 hM8 hg8 hA8;go_wp2_with fail;go_ret;exact hfin
theorem oV(S:Nat->Bool){c3:Nat}(hc3:C.c3=some c3)(hv2:v2<=C.b8):∀(k:Nat) (w:World) (ns:List Nd) (d9:Bool) (N:Nat) (m3:Nat->Option Nat) (f:Nat),Bu C w ns d9 N m1 m2 m3->Fr C w base2 a2 M2 v2 most2 ns2->f<ns2.length->Fit1 S v2 ns2 f k ->
  (d9=false->MemoT ns ns2 m3)->N+2 ^ k<=1099511627776->Calls prog 143 #[.pointer (some ⟨C.b,0,none⟩),.pointer (some ⟨a2,0,none⟩),.int .i64 (f:Int)] w (eO C w ns ns2 d9 N m1 m2 f (2 ^ k-1)):=by
 intro k
 induction k with
 | zero =>
   intro w ns d9 N m3 f h F hf hk hm hN;have small:f<=1:=by
    have:=hk.zero F.ar.wf hf;omega
   cases d9
   ·refine(take_small h small).mono ?_;rintro e w'⟨rfl,rfl⟩;exact⟨f,ns,false,N,m3,rfl,At.refl h,Ext.refl _,by omega,by omega,(by have:=h.ar.wf.len;omega),id,λ_=>⟨hm rfl,jp h.ar.wf F.ar.wf hv2 small⟩⟩
   ·refine(jq h f).mono ?_;rintro e w'⟨rfl,rfl⟩;exact⟨0,ns,true,N,m3,rfl,At.refl h,Ext.refl _,by omega,by omega,(by have:=h.ar.wf.len;omega),id,λe=>by cases e⟩
 | succ k ih =>
   intro w ns d9 N m3 f h F hf hk hm hN;cases d9
   ·rcases Nat.lt_or_ge f 2 with h2|h2
    ·refine(take_small h (by omega)).mono ?_;rintro e w'⟨rfl,rfl⟩;exact⟨f,ns,false,N,m3,rfl,At.refl h,Ext.refl _,by omega,by omega,(by have:=h.ar.wf.len;omega),id,λ_=>⟨hm rfl,jp h.ar.wf F.ar.wf hv2 (by omega)⟩⟩
    ·cases hr:m3 f with
     | none=>exact oU h F hv2 hc3 h2 hf hr hk (hm rfl) hN ⟨ih⟩
     | some r =>
       have hl2:ns2.length<=40000:=Nat.le_trans F.ar.le F.ar.most4;refine(oT h hc3 h2 (by omega) hr).mono ?_;rintro e w'⟨rfl,rfl⟩;have J:=hm rfl _ _ hr;exact⟨r,ns,false,N,m3,rfl,At.refl h,Ext.refl _,by omega,by omega,J.lt,id,λ_=>⟨hm rfl,J⟩⟩
   ·refine(jq h f).mono ?_;rintro e w'⟨rfl,rfl⟩;exact⟨0,ns,true,N,m3,rfl,At.refl h,Ext.refl _,by omega,by omega,(by have:=h.ar.wf.len;omega),id,λe=>by cases e⟩
end
theorem Ar.drewT{b9 a M b8 c9:Nat}{w:World}{ns:List Nd}(h:Ar b9 a M b8 c9 w ns):Ar b9 a M b8 c9 w.drew ns:=h.same rfl rfl rfl
theorem eP(S:Nat->Bool){b9 a M b8 c9 base2 a2 M2 v2 most2:Nat}{w:World}{ns ns2:List Nd}(h:Ar b9 a M b8 c9 w ns)(h2:Ar base2 a2 M2 v2 most2 w ns2)(hv2:v2<=b8)(ap:∀i,i=a2\/i=M2\/i=rowOf w a2->i≠a/\i≠M/\i≠rowOf w a){f k:Nat}(hf:f<ns2.length)(hfit:Fit1 S v2 ns2 f k)(hk16:k<=16) :
  Calls prog 94 #[.pointer (some ⟨a,0,none⟩),.pointer (some ⟨a2,0,none⟩),.int .i64 (f:Int)] w (OpPost b9 a M b8 c9 w ns (2 ^ k-1) λq=>ev ns2 f q):=by
 have hmm:=@run_makeMap prog;have la:=h.lta;have lM:=h.ltM;have hA:=h.lowA;have wf:=h.wf;have t1:(decide ((0:Int)<=(f:Int))&&decide ((f:Int)<(ns2.length:Int)))=true:=by simp;omega
 have HF:Hid (∀w',Ar base2 a2 M2 v2 most2 w' ns2->Calls prog 82 #[.pointer (some ⟨a2,0,none⟩),.int .i64 (f:Int)] w' λe w''=>e=.returned (.bool true)/\w''=w'):=λw' h'=>by
  have:=hasFunction_any h' (f:Int);rw[t1]at this;exact this
 have t2:decide ((b8:Int)<(v2:Int))=false:=by simp;omega
 have hs:((w.drew).alloc (.map #[] 0)).heap.size=w.heap.size+1:=by simp
 have hb:=bu_new (w:=(w.drew).alloc (.map #[] 0)) (C:=⟨b9,a,w.heap.size+1,M,none,none,some w.heap.size,b8,c9⟩) (m1:=λ_=>none) (m2:=λ_=>none) (m3:=λ_=>none) ((h.drewT).alloc _) (by simp) (by rw[hs];show b9<=_;omega)
  (λ_ e=>by cases e) (λ_ e=>by cases e) (λi e=>by cases e;exact bG G7 w.drew) (λ_ e=>by cases e) (λ_ e=>by cases e) (λi e=>by cases e;exact⟨by show b9<=_;omega,by show w.heap.size≠M;omega,(λe=>by cases e),(λe=>by cases e)⟩)
 obtain⟨_,_,_,rl2⟩:=h2.row;have la2:=h2.lta;have lM2:=h2.ltM;have hrow:rowOf (((w.drew).alloc (.map #[] 0)).alloc (.cells #[.pointer (some ⟨a,0,none⟩),.bool false,.map none,.map none,.map (some w.heap.size)] 221)) a=rowOf w a:=by
  rw[l9 (Below.heap_alloc _ _ _ (by simp;omega)),l9 (Below.heap_alloc w.drew _ _ la)];rfl
 have hrow2:rowOf (((w.drew).alloc (.map #[] 0)).alloc (.cells #[.pointer (some ⟨a,0,none⟩),.bool false,.map none,.map none,.map (some w.heap.size)] 221)) a2=rowOf w a2:=by
  rw[l9 (Below.heap_alloc _ _ _ (by simp;omega)),l9 (Below.heap_alloc w.drew _ _ la2)];rfl
 have out:∀i,(i=a2\/i=M2\/i=rowOf w a2)->i<w.heap.size->Out ⟨b9,a,w.heap.size+1,M,none,none,some w.heap.size,b8,c9⟩ (((w.drew).alloc (.map #[] 0)).alloc (.cells #[.pointer (some ⟨a,0,none⟩),.bool false,.map none,.map none,.map (some w.heap.size)] 221)) i:=by
  intro i h1 h2;obtain⟨z1,z2,z3⟩:=ap i h1;refine⟨by simp;omega,?_,?_⟩
  ·rintro(e|e|e|e|e|e)
   ·exact z1 e
   ·have e':i=w.heap.size+1:=e;omega
   ·exact z2 e
   ·cases e
   ·cases e
   ·cases e;omega
  ·show i≠rowOf _ a;rw[hrow];exact z3
 have hFr:Fr ⟨b9,a,w.heap.size+1,M,none,none,some w.heap.size,b8,c9⟩ (((w.drew).alloc (.map #[] 0)).alloc (.cells #[.pointer (some ⟨a,0,none⟩),.bool false,.map none,.map none,.map (some w.heap.size)] 221)) base2 a2 M2 v2 most2 ns2 :=
  ⟨((h2.drewT).alloc _).alloc _,out a2 (.inl rfl) la2,out M2 (.inr (.inl rfl)) lM2,by rw[hrow2];exact out _ (.inr (.inr rfl)) rl2⟩
 have hpw:=Nat.pow_le_pow_right (n:=2) (by omega) hk16;have hch:=oV S (C:=⟨b9,a,w.heap.size+1,M,none,none,some w.heap.size,b8,c9⟩) (c3:=w.heap.size) rfl hv2 k _ ns false 0 _ f hb hFr hf hfit (λ_ _ _ e=>by cases e) (by omega);have hch':=Hq.mk hch;obtain⟨cap,a0,_⟩:=h.reads;obtain⟨cap2,b0,_⟩:=h2.reads;have a0':w.drew.cell? ⟨a,0,none⟩=some (.int .i64 (b8:Int)):=a0;have b0':w.drew.cell? ⟨a2,0,none⟩=some (.int .i64 (v2:Int)):=b0;have h2d:=h2.drewT;clear hch hb hFr out hrow hrow2 hpw ap hfit;go_enter func94,ntmps94;go_wp2_with fail;go_region_held3 (λw'=>w'.cell? ⟨a,0,none⟩=some (.int .i64 (b8:Int))/\w'.cell? ⟨a2,0,none⟩=some (.int .i64 (v2:Int))) (exact⟨by assumption,by assumption⟩)
  (first|(go_at_call 82;refine(HF.out _ ‹_›).mono ?_;rintro e wn⟨rfl,rfl⟩))
 go_wp2_with fail;refine hch'.out.mono ?_;rintro e w2⟨r,ns',full',N',m3',rfl,hp,X,l1,_,lt,_,sm⟩;have wf':=hp.bu.ar.wf;have hK:Kp (ca b9 a M b8 c9) w w2:=hp.kp.outer rfl rfl rfl rfl (by simp;omega) (λi hi=>(Below.heap_alloc _ _ _ (by simp;omega)).trans (Below.heap_alloc _ _ _ hi)) (by
  rintro i (e|e|e|e|e|e)
  ·exact Or.inl e
  ·exact Or.inr (Or.inr (by rw[e];show _<=w.heap.size+1;omega))
  ·exact Or.inr (Or.inl e)
  ·cases e
  ·cases e
  ·cases e;exact Or.inr (Or.inr (Nat.le_refl _))) la
 go_wp2_with fail;cases full'
 ·refine(answer_any hp.bu r).mono ?_;rintro e w3⟨rfl,rfl⟩;have hfin:OpPost b9 a M b8 c9 w ns (2 ^ k-1) (λq=>ev ns2 f q) (.returned (.tuple #[.int .i64 (r:Int),.int .i64 0])) w3 :=
   ⟨ns',hp.bu.ar,hK,X,l1,Or.inl ⟨r,rfl,lt,λq=>(sm rfl).2.ev q⟩⟩
  clear hp hK;go_wp2_with fail;go_ret2;exact hfin
 ·refine(answer_any hp.bu r).mono ?_;rintro e w3⟨rfl,rfl⟩;have hfin:OpPost b9 a M b8 c9 w ns (2 ^ k-1) (λq=>ev ns2 f q) (.returned (.tuple #[.int .i64 0,.int .i64 6])) w3 :=
   ⟨ns',hp.bu.ar,hK,X,l1,Or.inr ⟨rfl,hp.bu.full_len rfl⟩⟩
  clear hp hK;go_wp2_with fail;go_ret2;exact hfin
theorem oW{b9 a M b8 c9 base2 a2 M2 v2 most2:Nat}{w:World}{ns ns2:List Nd}(h:Ar b9 a M b8 c9 w ns)(h2:Ar base2 a2 M2 v2 most2 w ns2)(hv2:v2<=b8)(p1:a<base2)(p2:M<base2)(p3:rowOf w a<base2){f:Nat}(hf:f<ns2.length) :
  Calls prog 94 #[.pointer (some ⟨a,0,none⟩),.pointer (some ⟨a2,0,none⟩),.int .i64 (f:Int)] w (OpPost b9 a M b8 c9 w ns (2 ^ v2-1) λq=>ev ns2 f q) :=
 eP (λ_=>true) h h2 hv2 (λi hi=>by
  have h1:base2<=i:=by
   rcases hi with rfl|rfl|rfl
   ·exact h2.lowA
   ·exact h2.lowM
   ·exact h2.row.choose_spec.2.1
  refine⟨by omega,by omega,by omega⟩) hf (jc (Nat.le_add_left _ _)) h2.vars16
end Go.Proofs.YtppbfikimalojaaGreat
namespace Go.Proofs.YtppbfikimalojaaGreat
open Tryz
open Go.RowKit Go.Shelf
attribute [local go_sem] Oper.semAt_some
abbrev IR:=Nat × Rl
def eQ(x:IR):Array Value:=#[.int .i64 (x.1:Int),rv x.2]
def came(xs:List Rl)(k:Nat):List IR:=(List.range k).map λj=>(xs.length-1-j,(xs[xs.length-1-j]?).getD (allR false))
theorem oX(xs:List Rl)(k:Nat):came xs (k+1)=came xs k++[(xs.length-1-k,(xs[xs.length-1-k]?).getD (allR false))]:=by simp[came,List.range_succ]
theorem came_length(xs:List Rl)(k:Nat):(came xs k).length=k:=by simp[came]
def KpB(b9 Bs:Nat)(v:Value)(W W':World):Prop:=Below b9 W W'/\(Boxed W Bs 53 v->Boxed W' Bs 53 v)
theorem jr{b9 Bs:Nat}{v:Value}{A B C:World}(h:KpB b9 Bs v A B)(k:KpB b9 Bs v B C):KpB b9 Bs v A C:=⟨h.1.trans k.1,λx=>k.2 (h.2 x)⟩
theorem oY{b9 Bs:Nat}{v:Value}(A:World):KpB b9 Bs v A A:=⟨Below.refl _ _,id⟩
theorem oZ(F:Fence)(n:Nat)(hF:F.fn 227)(hro:F.round=none)(hn:1<=n)(l Bs b9 b o cap:Nat)(xs:List Rl)(hlen:xs.length<=1099511627776)(hb:b<b9)(J Jx:List IR->World->Prop)
  (hY:∀pre x W,J pre W->pre.length<xs.length->YieldAt F (n-1) prog l (eQ x) W λe W' =>
    (e=.returned (.bool true)/\J (pre++[x]) W'/\KpB b9 Bs (.slice (some ⟨b,o,none⟩) xs.length cap) W W')\/(e=.returned (.bool false)/\Jx (pre++[x]) W'))
  (W:World) (hBs:Boxed W Bs 53 (.slice (some ⟨b,o,none⟩) xs.length cap)) (hr:RAt W b o xs) (h0:J [] W) :
  CallsIn F n prog 227 #[.func (.yield l) #[] #[],.pointer (some ⟨Bs,0,none⟩)] W λe W'=>(∃v,e=.returned v) /\
   ((∃ys,ys=came xs xs.length/\J ys W')\/(∃pre,(∃k,k<=xs.length/\pre=came xs k)/\Jx pre W')):=by
 have c0:=hBs.cell;refine callsIn_of_wp func227 rfl hF ?_ hro;simp only[ntmps227,List.size_toArray,List.length_cons,List.length_nil,Nat.reduceAdd,Nat.reduceSub,Array.replicate_succ,Array.replicate_zero,List.push_toArray,List.append_toArray,List.nil_append,List.cons_append]
 gi_wp2
 gi_loopw [3] (λi wr=>∃(m k:Nat) (I:Int),m+k=xs.length/\i=.int .i64 I/\I=(m:Int)-1/\J (came xs k) wr/\KpB b9 Bs (.slice (some ⟨b,o,none⟩) xs.length cap) W wr)
  (λi _=>(intOf i+1).toNat)
 case atStart=>exact⟨xs.length,0,_,by omega,rfl,rfl,h0,oY _⟩
 case round =>
  obtain⟨m,k,I,hmk,rfl,hI,hJs,hK⟩:=hrel;have c1:=(hK.2 hBs).cell;cases m with
  | zero =>
    obtain rfl:k=xs.length:=by omega
    obtain rfl:I=-1:=by omega
    clear hI
    gi_wp2
    go_end0
    exact⟨⟨_,rfl⟩,.inl ⟨_,rfl,hJs⟩⟩
  | succ j =>
    have hj:j<xs.length:=by omega
    obtain⟨r,hxj⟩:∃r,xs[j]?=some r:=⟨_,List.getElem?_eq_getElem hj⟩;obtain⟨d0,d1,d2,d3,d4⟩:=(hr.below hK.1 hb).at hxj;have hce:came xs (k+1)=came xs k++[(j,r)]:=by
     rw[oX,show xs.length-1-k=j by omega,hxj];rfl
    obtain⟨fn,tmps,assign,body,hy,hR⟩:=hY _ (j,r) wr hJs (by rw[came_length];omega);simp only[eQ]at hy;obtain rfl:I=(j:Int):=by omega
    clear hI
    gi_wp2
    refine hR.mono ?_;rintro e W3 (⟨rfl,hJ3,hk3⟩|⟨rfl,hJx3⟩)
    ·gi_wp2
     go_roundw
     case rel=>exact⟨j,k+1,_,by omega,rfl,rfl,by rw[hce];exact hJ3,jr hK hk3⟩
     case measure=>simp[intOf]
    ·gi_wp2
     refine bodyPost_ret (results_none rfl _ _ _) rfl ?_;exact⟨⟨_,rfl⟩,.inr ⟨_,⟨k+1,by omega,hce.symm⟩,hJx3⟩⟩
theorem pa(F:Fence)(n:Nat)(hF:F.fn 227)(hro:F.round=none)(l Bs:Nat)(A:Option Addr)(cap:Nat)(J:List IR->World->Prop)(W:World)(hBs:Boxed W Bs 53 (.slice A 0 cap))(h0:J [] W) :
  CallsIn F n prog 227 #[.func (.yield l) #[] #[],.pointer (some ⟨Bs,0,none⟩)] W λe W'=>(∃v,e=.returned v)/\J [] W':=by
 have c0:=hBs.cell;refine callsIn_of_wp func227 rfl hF ?_ hro;simp only[ntmps227,List.size_toArray,List.length_cons,List.length_nil,Nat.reduceAdd,Nat.reduceSub,Array.replicate_succ,Array.replicate_zero,List.push_toArray,List.append_toArray,List.nil_append,List.cons_append]
 gi_wp2
 gi_loopw [3] (λi wr=>i=.int .i64 (-1)/\J [] wr) (λ_ _=>0)
 case atStart=>exact⟨rfl,h0⟩
 case round =>
  obtain⟨rfl,hJs⟩:=hrel
  gi_wp2
  go_end0
  exact⟨⟨_,rfl⟩,hJs⟩
theorem pd(F:Fence)(n:Nat)(hF:F.fn 221)(hro:F.round=none)(A:Option Addr)(len cap:Nat)(w:World) :
  CallsIn F n prog 221 #[.slice A len cap] w λe w'=>e=.returned (.func (.func 227) #[] #[.pointer (some ⟨w.heap.size,0,none⟩)])/\w'=w.alloc (.cells #[.slice A len cap] 53):=by
 refine callsIn_of_wp func221 rfl hF ?_ hro;simp only[ntmps221,List.size_toArray,List.length_cons,List.length_nil,Nat.reduceAdd,Nat.reduceSub,Array.replicate_succ,Array.replicate_zero,List.push_toArray,List.append_toArray,List.nil_append,List.cons_append]
 gi_wp2
 go_ret;exact⟨rfl,rfl⟩
theorem pe(F:Fence)(n:Nat)(hF:F.fn 227)(hro:F.round=none)(hn:1<=n)(Bs b9:Nat)(v:Value)(xs:List Rl)(hlen:xs.length<=1099511627776)(w:World)(hbase:b9<=w.heap.size)
  (hB:Boxed w Bs 53 v) (hR:Rules b9 w v xs) :
  SeqStopsK F n prog 227 #[.pointer (some ⟨Bs,0,none⟩)] eQ (KpB b9 Bs v) (λys=>ys=came xs xs.length)
   (λpre=>∃k,k<=xs.length/\pre=came xs k) xs.length w:=λl J Jx W hW _ _ hY h0=>by
 have hB':Boxed W Bs 53 v:=(hW.block Bs hB.lt).trans hB;obtain⟨A,cap,rfl,h1,h2,h3,h4⟩:=hR.below (hW.mono hbase);by_cases hx:xs=[]
 ·subst hx;exact(pa F n hF hro l Bs A cap J W hB' h0).mono λe W' ⟨he,hj⟩=>⟨he,.inl ⟨_,rfl,hj⟩⟩
 ·obtain⟨b,o,rfl,hb,hr⟩:=h4 hx;exact oZ F n hF hro hn l Bs b9 b o cap xs hlen hb J Jx hY W hB' hr h0
end Go.Proofs.YtppbfikimalojaaGreat
namespace Go.Proofs.YtppbfikimalojaaGreat
open Tryz
open Go.RowKit Go.Maps
structure Hd(p:Prop):Prop where
 out:p
def envOf(b8 b:Nat):Env:=λi=>b.testBit (b8-1-i)
theorem dC(a b:Nat)(ha:a<9223372036854775808)(hb:b<9223372036854775808):Go.bits .and .i64 (a:Int) (b:Int)=((a &&& b:Nat):Int):=by
 have e1:BitVec.ofInt 64 (a:Int)=BitVec.ofNat 64 a:=by simp
 have e2:BitVec.ofInt 64 (b:Int)=BitVec.ofNat 64 b:=by simp
 have hle:a &&& b<=a:=Nat.and_le_left;have hm:(BitVec.ofNat 64 a &&& BitVec.ofNat 64 b).toNat=a &&& b:=by
  simp[BitVec.toNat_and,Nat.mod_eq_of_lt (show a<18446744073709551616 by omega),Nat.mod_eq_of_lt (show b<18446744073709551616 by omega)]
 show IntKind.i64.wrap ((BitVec.ofInt 64 (a:Int) &&& BitVec.ofInt 64 (b:Int)).toNat:Int)=_;rw[e1,e2,hm,IntWalk.i64_in _ (by omega)]
section
variable {b9 a M b8 c9:Nat}{w:World}{ns:List Nd}
theorem Ar.kalloc'{b9 a M b8 c9:Nat}{w:World}{ns:List Nd}(h:Ar b9 a M b8 c9 w ns)(o:Obj):Kp (ca b9 a M b8 c9) w (w.alloc o) :=
 ⟨rfl,rfl,rfl,by simp,λi hi _ _=>Below.heap_alloc w o i hi,Or.inl (l9 (Below.heap_alloc w o _ h.lta)),λ_ _=>j9 (Below.heap_alloc w o _ h.lta)⟩
end
def sel:Nat->Nat->Nat->Env->Bool
 | 0,bits,_,_=>bits.testBit 0
 | k+1,bits,first,x=>if x first then sel k (bits >>> 2 ^ k) (first+1) x else sel k (bits &&&(2 ^ 2 ^ k-1)) (first+1) x
def val:Nat->Nat->Env->Nat
 | 0,_,_=>0
 | k+1,first,x=>(if x first then 2 ^ k else 0)+val k (first+1) x
theorem aW(k first:Nat)(x:Env):val k first x<2 ^ k:=by
 induction k generalizing first with
 | zero=>simp[val]
 | succ k ih =>
   have:=ih (first+1);rw[val,Nat.pow_succ]
   split <;> omega
theorem bL(k bits first:Nat)(x:Env):sel k bits first x=bits.testBit (val k first x):=by
 induction k generalizing bits first with
 | zero=>rfl
 | succ k ih =>
   have h:=aW k (first+1) x;rw[sel,val]
   split
   ·rw[ih,Nat.testBit_shiftRight]
   ·rw[ih,Nat.testBit_and,Nat.testBit_two_pow_sub_one,Nat.zero_add];simp[h]
section
variable {b9 a M b8 c9:Nat}{w w':World}{ns:List Nd}
theorem Ar.below(h:Ar b9 a M b8 c9 w ns)(hb:Below w.heap.size w w'):Ar b9 a M b8 c9 w' ns:=by
 obtain⟨_,_,_,rl⟩:=h.row;exact h.same (hb.block _ h.lta) (hb.block _ h.ltM) (hb.block _ rl)
theorem Ar.kbelow(h:Ar b9 a M b8 c9 w ns)(hb:Below w.heap.size w w'):Kp (ca b9 a M b8 c9) w w' :=
 ⟨hb.os,hb.tape,hb.output,hb.size,λi hi _ _=>hb.block i hi,Or.inl (l9 (hb.block _ h.lta)),λ_ _=>j9 (hb.block _ h.lta)⟩
theorem Ar.loc(h:Ar b9 a M b8 c9 w ns)(cs:Array Value)(t:TypeId):Loc (ca b9 a M b8 c9) (w.alloc (.cells cs t)) w.heap.size cs t:=by
 obtain⟨_,_,_,rl⟩:=h.row;have la:=h.lta;have lM:=h.ltM;refine⟨⟨by simp,?_,?_⟩,Go.heap_alloc_new _ _⟩
 ·rintro(e|e|e|e|e|e)
  ·have:w.heap.size=a:=e;omega
  ·have:w.heap.size=a:=e;omega
  ·have:w.heap.size=M:=e;omega
  ·cases e
  ·cases e
  ·cases e
 ·have e:rowOf (w.alloc (.cells cs t)) a=rowOf w a:=l9 (Below.heap_alloc w _ _ la);show w.heap.size≠rowOf (w.alloc (.cells cs t)) a;rw[e];omega
theorem Loc.two{C:Cfg}{w:World}{i:Nat}{x y:Value}{t:TypeId}(h:Loc C w i #[x,y] t):w.cell? ⟨i,0,none⟩=some x/\w.cell? ⟨i,1,none⟩=some y :=
 ⟨by rw[cell_of_row w i 0 _ _ _ h.blk];rfl,by rw[cell_of_row w i 1 _ _ _ h.blk];rfl⟩
theorem Loc.below{w w':World}{i:Nat}{cs:Array Value}{t:TypeId}(h:Loc (ca b9 a M b8 c9) w i cs t)(hA:Ar b9 a M b8 c9 w ns)(hb:Below w.heap.size w w'):Loc (ca b9 a M b8 c9) w' i cs t:=h.kp (hA.kbelow hb)
theorem MkPost.pair{g i:Nat}{φ:Env->Bool}{e:Ending}(h:MkPost b9 a M b8 c9 w ns g i φ e w') :
  ∃(ns':List Nd) (v er:Int),e=.returned (.tuple #[.int .i64 v,.int .i64 er])/\Ar b9 a M b8 c9 w' ns'/\Kp (ca b9 a M b8 c9) w w'/\Ext ns ns'/\ns'.length<=ns.length+g /\
    Go.RowKit.Hid ((er=0/\∃f:Nat,v=(f:Int)/\f<ns'.length/\i<=nv ns' f/\∀x,ev ns' f x=φ x)\/(er=6/\v=0/\ns'.length=c9)):=by
 obtain⟨ns',r1,r2,r3,r4,⟨f,e1,e2⟩|⟨e1,e2⟩⟩:=h
 ·exact⟨ns',f,0,e1,r1,r2,r3,r4,Or.inl ⟨rfl,f,rfl,e2⟩⟩
 ·exact⟨ns',0,6,e1,r1,r2,r3,r4,Or.inr ⟨rfl,rfl,e2⟩⟩
theorem Ar.drew'(h:Ar b9 a M b8 c9 w ns):Ar b9 a M b8 c9 w.drew ns:=h.same rfl rfl rfl
theorem js(h:Ar b9 a M b8 c9 w ns){bits first rest:Nat}(hbits:bits<2)(hr:rest<ns.length)(hf:first<=nv ns rest) :
  Calls prog 127 #[st (bits:Int) 1,.pointer (some ⟨a,0,none⟩),.int .i64 (first:Int),.int .i64 (rest:Int)] w (MkPost b9 a M b8 c9 w ns 0 first λx=>sel 0 bits first x&&ev ns rest x):=by
 have l2:=h.wf.len;have e0:nv ns 0=b8:=by rw[nv,h.wf.n0]
 have hle:=va_le h.wf hr;have L0:=h.loc #[.int .i64 (bits:Int),.int .i64 1] 201;have A0:=h.alloc (.cells #[.int .i64 (bits:Int),.int .i64 1] 201);have K0:=Ar.kalloc' h (.cells #[.int .i64 (bits:Int),.int .i64 1] 201);obtain⟨c0,c1⟩:=L0.two;have H0:Go.RowKit.Hid (∀w,Calls prog 171 #[st (bits:Int) 1,.int .i64 0] w λe w'=>e=.returned (.bool (bits.testBit 0))/\Below w.heap.size w w'):=λw=>by
  have:=uw bits 0 1 w (by omega);rw[show p7 bits 0=bits.testBit 0 by simp[p7]]at this;exact this
 cases ht:bits.testBit 0
 ·rw[ht]at H0;go_enter func127,ntmps127;go_wp2_with fail;refine(H0.out _).mono ?_;rintro e w1⟨rfl,hb⟩;have fin:MkPost b9 a M b8 c9 w ns 0 first (λx=>sel 0 bits first x&&ev ns rest x) (.returned (.tuple #[.int .i64 0,.int .i64 0])) w1 :=
   ⟨ns,A0.below hb,K0.trans (A0.kbelow hb),Ext.refl _,by omega,Or.inl ⟨0,rfl,by omega,by omega,λx=>by rw[ev0];show false=(bits.testBit 0&&_);rw[ht];rfl⟩⟩
  clear A0 K0 L0 hb;go_wp2_with fail;go_ret2;exact fin
 ·rw[ht]at H0;go_enter func127,ntmps127;go_wp2_with fail;refine(H0.out _).mono ?_;rintro e w1⟨rfl,hb⟩;have fin:MkPost b9 a M b8 c9 w ns 0 first (λx=>sel 0 bits first x&&ev ns rest x) (.returned (.tuple #[.int .i64 (rest:Int),.int .i64 0])) w1 :=
   ⟨ns,A0.below hb,K0.trans (A0.kbelow hb),Ext.refl _,by omega,Or.inl ⟨rest,rfl,hr,hf,λx=>by show _=(bits.testBit 0&&_);rw[ht];rfl⟩⟩
  clear A0 K0 L0 hb;go_wp2_with fail;go_ret2;exact fin
theorem low_2(bits:Nat)(h:bits<4):Go.bits .and .i64 (bits:Int) 1=((bits &&& 1:Nat):Int):=dC bits 1 (by omega) (by decide)
theorem pg(bits:Nat):(bits:Int) / (2:Int)=((bits >>> 1:Nat):Int):=by rw[Nat.shiftRight_eq_div_pow];simp
theorem jt(h:Ar b9 a M b8 c9 w ns){bits first rest:Nat}(hbits:bits<4)(hv:first+1<=b8)(hr:rest<ns.length)(hf:first+1<=nv ns rest) :
  Calls prog 127 #[st (bits:Int) 2,.pointer (some ⟨a,0,none⟩),.int .i64 (first:Int),.int .i64 (rest:Int)] w (MkPost b9 a M b8 c9 w ns 1 first λx=>sel 1 bits first x&&ev ns rest x):=by
 have wf:=h.wf;have v16:=h.vars16;have eL:=low_2 bits hbits;have eH:=pg bits;have hlo:bits &&& 1<2:=Nat.lt_of_le_of_lt Nat.and_le_right (by decide);have hhi:bits >>> 1<2:=by rw[Nat.shiftRight_eq_div_pow];omega
 have hsel:Go.RowKit.Hid (∀x,sel 1 bits first x=if x first then sel 0 (bits >>> 1) (first+1) x else sel 0 (bits &&& 1) (first+1) x):=λx=>rfl;generalize bits &&& 1=lo at *;generalize bits >>> 1=hi at *;have L0:=h.loc #[.int .i64 (bits:Int),.int .i64 2] 201;have A0:=h.alloc (.cells #[.int .i64 (bits:Int),.int .i64 2] 201);have K0:=Ar.kalloc' h (.cells #[.int .i64 (bits:Int),.int .i64 2] 201);obtain⟨c0,c1⟩:=L0.two;have hcast:((first+1:Nat):Int)=(first:Int)+1:=by omega
 have IL:Go.RowKit.Hid (∀(w':World) (ns':List Nd),Ar b9 a M b8 c9 w' ns'->rest<ns'.length->first+1+0<=nv ns' rest->Calls prog 127 #[st (lo:Int) 1,.pointer (some ⟨a,0,none⟩),.int .i64 ((first:Int)+1),.int .i64 (rest:Int)] w' (MkPost b9 a M b8 c9 w' ns' 0 (first+1) λx=>sel 0 lo (first+1) x&&ev ns' rest x)):=λw' ns' hA hr hn=>by
  have:=js hA (first:=first+1) hlo hr (by omega);rw[hcast]at this;exact this
 have IH:Go.RowKit.Hid (∀(w':World) (ns':List Nd),Ar b9 a M b8 c9 w' ns'->rest<ns'.length->first+1+0<=nv ns' rest->Calls prog 127 #[st (hi:Int) 1,.pointer (some ⟨a,0,none⟩),.int .i64 ((first:Int)+1),.int .i64 (rest:Int)] w' (MkPost b9 a M b8 c9 w' ns' 0 (first+1) λx=>sel 0 hi (first+1) x&&ev ns' rest x)):=λw' ns' hA hr hn=>by
  have:=js hA (first:=first+1) hhi hr (by omega);rw[hcast]at this;exact this
 clear hcast;have hwm:Go.RowKit.Hid (IntKind.i64.wrap (IntKind.i64.wrap 2-1)=1):=by
  show _=_;rw[IntWalk.i64_in 2 (by omega),IntWalk.i64_in _ (by omega)];rfl
 have hwr:IntKind.i64.wrap ((first:Int)+1)=(first:Int)+1:=IntWalk.i64_in _ (by omega);have A0d:=A0.drew';have L0d:=L0.drew;have K0d:=K0.drew;go_enter func127,ntmps127;go_wp2_with fail;go_region_held3 (λw'=>w'.cell? ⟨w.heap.size,0,none⟩=some (.int .i64 (bits:Int))/\w'.cell? ⟨w.heap.size,1,none⟩=some (.int .i64 2))
  (exact Loc.two ‹_›)
  (first|(go_at_call 127;rw[hwm.out,eL];refine(IL.out _ ns ‹_› hr (by omega)).mono ?_;rintro e w2 hp2;obtain⟨ns1,v1,er1,rfl,A1,K1,X1,l1,d1⟩:=hp2.pair;have L1:=L0d.kp K1;clear hp2))
 have wf1:=A1.wf;have KK1:=K0d.trans K1;obtain⟨q0,q1⟩:=L1.two;have hr1:rest<ns1.length:=Nat.lt_of_lt_of_le hr X1.len;have hn1:first+1+0<=nv ns1 rest:=by rw[X1.va hr];omega
 clear A0 K0 L0 c0 c1 A0d K0d L0d K1;rcases d1.out with⟨rfl,f1,rfl,lt1,va1,ev1'⟩|⟨rfl,rfl,full1⟩
 ·have E1:Go.RowKit.Hid (∀x,ev ns1 f1 x=(sel 0 lo (first+1) x&&ev ns rest x)):=ev1';clear ev1' d1;go_wp2_with fail;refine(IH.out _ ns1 A1 hr1 hn1).mono ?_;rintro e w3 hp3;obtain⟨ns2,v2,er2,rfl,A2,K2,X2,l2,d2⟩:=hp3.pair;clear hp3;have wf2:=A2.wf;have KK2:=KK1.trans K2;rcases d2.out with⟨rfl,f2,rfl,lt2,va2,ev2'⟩|⟨rfl,rfl,full2⟩
  ·have E2:Go.RowKit.Hid (∀x,ev ns2 f2 x=(sel 0 hi (first+1) x&&ev ns1 rest x)):=ev2';have lt1':f1<ns2.length:=Nat.lt_of_lt_of_le lt1 X2.len;have va1':first<nv ns2 f1:=by rw[X2.va lt1];omega
   have va2':first<nv ns2 f2:=by omega
   clear ev2' d2 q0 q1 L1;go_wp2_with fail;refine(node_ok A2 (i:=first) (lo:=f1) (up:=f2) (by omega) lt1' lt2 va1' va2').mono ?_;rintro e w4 hp4;have hp5:MkPost b9 a M b8 c9 w ns 1 first (λx=>sel 1 bits first x&&ev ns rest x) e w4:=by
    obtain⟨ns3,r1,r2,r3,r4,r5⟩:=hp4;refine⟨ns3,r1,KK2.trans r2,(X1.trans X2).trans r3,by omega,?_⟩;rcases r5 with⟨f,e1,e2,e3,e4⟩|r5
    ·refine Or.inl ⟨f,e1,e2,e3,λx=>?_⟩;rw[e4 x];show(if x first=true then ev ns2 f2 x else ev ns2 f1 x)=(sel 1 bits first x&&ev ns rest x);rw[hsel.out x,E2.out x,X2.ev wf1 wf2 _ lt1,E1.out x,X1.ev wf wf1 _ hr];cases x first <;> rfl
    ·exact Or.inr r5
   clear hp4;have hp6:=hp5;obtain⟨ns3,_,_,_,_,⟨f',rfl,_⟩|⟨rfl,_⟩⟩:=hp5
   ·go_wp2_with fail;go_ret2;exact hp6
   ·go_wp2_with fail;go_ret2;exact hp6
  ·have fin:MkPost b9 a M b8 c9 w ns 1 first (λx=>sel 1 bits first x&&ev ns rest x) (.returned (.tuple #[.int .i64 0,.int .i64 6])) w3 :=
    ⟨ns2,A2,KK2,X1.trans X2,by omega,Or.inr ⟨rfl,full2⟩⟩
   clear d2 A2 K2 KK2;go_wp2_with fail;go_ret2;exact fin
 ·have fin:MkPost b9 a M b8 c9 w ns 1 first (λx=>sel 1 bits first x&&ev ns rest x) (.returned (.tuple #[.int .i64 0,.int .i64 6])) w2 :=
   ⟨ns1,A1,KK1,X1,by omega,Or.inr ⟨rfl,full1⟩⟩
  clear d1 A1 KK1;go_wp2_with fail;go_ret2;exact fin
theorem low_4(bits:Nat)(h:bits<16):Go.bits .and .i64 (bits:Int) 3=((bits &&& 3:Nat):Int):=dC bits 3 (by omega) (by decide)
theorem ph(bits:Nat):(bits:Int) / (4:Int)=((bits >>> 2:Nat):Int):=by rw[Nat.shiftRight_eq_div_pow];simp
theorem ju(h:Ar b9 a M b8 c9 w ns){bits first rest:Nat}(hbits:bits<16)(hv:first+2<=b8)(hr:rest<ns.length)(hf:first+2<=nv ns rest) :
  Calls prog 127 #[st (bits:Int) 4,.pointer (some ⟨a,0,none⟩),.int .i64 (first:Int),.int .i64 (rest:Int)] w (MkPost b9 a M b8 c9 w ns 3 first λx=>sel 2 bits first x&&ev ns rest x):=by
 have wf:=h.wf;have v16:=h.vars16;have eL:=low_4 bits hbits;have eH:=ph bits;have hlo:bits &&& 3<4:=Nat.lt_of_le_of_lt Nat.and_le_right (by decide);have hhi:bits >>> 2<4:=by rw[Nat.shiftRight_eq_div_pow];omega
 have hsel:Go.RowKit.Hid (∀x,sel 2 bits first x=if x first then sel 1 (bits >>> 2) (first+1) x else sel 1 (bits &&& 3) (first+1) x):=λx=>rfl;generalize bits &&& 3=lo at *;generalize bits >>> 2=hi at *;have L0:=h.loc #[.int .i64 (bits:Int),.int .i64 4] 201;have A0:=h.alloc (.cells #[.int .i64 (bits:Int),.int .i64 4] 201);have K0:=Ar.kalloc' h (.cells #[.int .i64 (bits:Int),.int .i64 4] 201);obtain⟨c0,c1⟩:=L0.two;have hcast:((first+1:Nat):Int)=(first:Int)+1:=by omega
 have IL:Go.RowKit.Hid (∀(w':World) (ns':List Nd),Ar b9 a M b8 c9 w' ns'->rest<ns'.length->first+1+1<=nv ns' rest->Calls prog 127 #[st (lo:Int) 2,.pointer (some ⟨a,0,none⟩),.int .i64 ((first:Int)+1),.int .i64 (rest:Int)] w' (MkPost b9 a M b8 c9 w' ns' 1 (first+1) λx=>sel 1 lo (first+1) x&&ev ns' rest x)):=λw' ns' hA hr hn=>by
  have:=jt hA (first:=first+1) hlo (by omega) hr (by omega);rw[hcast]at this;exact this
 have IH:Go.RowKit.Hid (∀(w':World) (ns':List Nd),Ar b9 a M b8 c9 w' ns'->rest<ns'.length->first+1+1<=nv ns' rest->Calls prog 127 #[st (hi:Int) 2,.pointer (some ⟨a,0,none⟩),.int .i64 ((first:Int)+1),.int .i64 (rest:Int)] w' (MkPost b9 a M b8 c9 w' ns' 1 (first+1) λx=>sel 1 hi (first+1) x&&ev ns' rest x)):=λw' ns' hA hr hn=>by
  have:=jt hA (first:=first+1) hhi (by omega) hr (by omega);rw[hcast]at this;exact this
 clear hcast;have hwm:Go.RowKit.Hid (IntKind.i64.wrap (IntKind.i64.wrap 4-1)=3):=by
  show _=_;rw[IntWalk.i64_in 4 (by omega),IntWalk.i64_in _ (by omega)];rfl
 have hwr:IntKind.i64.wrap ((first:Int)+1)=(first:Int)+1:=IntWalk.i64_in _ (by omega);have A0d:=A0.drew';have L0d:=L0.drew;have K0d:=K0.drew;go_enter func127,ntmps127;go_wp2_with fail;go_region_held3 (λw'=>w'.cell? ⟨w.heap.size,0,none⟩=some (.int .i64 (bits:Int))/\w'.cell? ⟨w.heap.size,1,none⟩=some (.int .i64 4))
  (exact Loc.two ‹_›)
  (first|(go_at_call 127;rw[hwm.out,eL];refine(IL.out _ ns ‹_› hr (by omega)).mono ?_;rintro e w2 hp2;obtain⟨ns1,v1,er1,rfl,A1,K1,X1,l1,d1⟩:=hp2.pair;have L1:=L0d.kp K1;clear hp2))
 have wf1:=A1.wf;have KK1:=K0d.trans K1;obtain⟨q0,q1⟩:=L1.two;have hr1:rest<ns1.length:=Nat.lt_of_lt_of_le hr X1.len;have hn1:first+1+1<=nv ns1 rest:=by rw[X1.va hr];omega
 clear A0 K0 L0 c0 c1 A0d K0d L0d K1;rcases d1.out with⟨rfl,f1,rfl,lt1,va1,ev1'⟩|⟨rfl,rfl,full1⟩
 ·have E1:Go.RowKit.Hid (∀x,ev ns1 f1 x=(sel 1 lo (first+1) x&&ev ns rest x)):=ev1';clear ev1' d1;go_wp2_with fail;refine(IH.out _ ns1 A1 hr1 hn1).mono ?_;rintro e w3 hp3;obtain⟨ns2,v2,er2,rfl,A2,K2,X2,l2,d2⟩:=hp3.pair;clear hp3;have wf2:=A2.wf;have KK2:=KK1.trans K2;rcases d2.out with⟨rfl,f2,rfl,lt2,va2,ev2'⟩|⟨rfl,rfl,full2⟩
  ·have E2:Go.RowKit.Hid (∀x,ev ns2 f2 x=(sel 1 hi (first+1) x&&ev ns1 rest x)):=ev2';have lt1':f1<ns2.length:=Nat.lt_of_lt_of_le lt1 X2.len;have va1':first<nv ns2 f1:=by rw[X2.va lt1];omega
   have va2':first<nv ns2 f2:=by omega
   clear ev2' d2 q0 q1 L1;go_wp2_with fail;refine(node_ok A2 (i:=first) (lo:=f1) (up:=f2) (by omega) lt1' lt2 va1' va2').mono ?_;rintro e w4 hp4;have hp5:MkPost b9 a M b8 c9 w ns 3 first (λx=>sel 2 bits first x&&ev ns rest x) e w4:=by
    obtain⟨ns3,r1,r2,r3,r4,r5⟩:=hp4;refine⟨ns3,r1,KK2.trans r2,(X1.trans X2).trans r3,by omega,?_⟩;rcases r5 with⟨f,e1,e2,e3,e4⟩|r5
    ·refine Or.inl ⟨f,e1,e2,e3,λx=>?_⟩;rw[e4 x];show(if x first=true then ev ns2 f2 x else ev ns2 f1 x)=(sel 2 bits first x&&ev ns rest x);rw[hsel.out x,E2.out x,X2.ev wf1 wf2 _ lt1,E1.out x,X1.ev wf wf1 _ hr];cases x first <;> rfl
    ·exact Or.inr r5
   clear hp4;have hp6:=hp5;obtain⟨ns3,_,_,_,_,⟨f',rfl,_⟩|⟨rfl,_⟩⟩:=hp5
   ·go_wp2_with fail;go_ret2;exact hp6
   ·go_wp2_with fail;go_ret2;exact hp6
  ·have fin:MkPost b9 a M b8 c9 w ns 3 first (λx=>sel 2 bits first x&&ev ns rest x) (.returned (.tuple #[.int .i64 0,.int .i64 6])) w3 :=
    ⟨ns2,A2,KK2,X1.trans X2,by omega,Or.inr ⟨rfl,full2⟩⟩
   clear d2 A2 K2 KK2;go_wp2_with fail;go_ret2;exact fin
 ·have fin:MkPost b9 a M b8 c9 w ns 3 first (λx=>sel 2 bits first x&&ev ns rest x) (.returned (.tuple #[.int .i64 0,.int .i64 6])) w2 :=
   ⟨ns1,A1,KK1,X1,by omega,Or.inr ⟨rfl,full1⟩⟩
  clear d1 A1 KK1;go_wp2_with fail;go_ret2;exact fin
theorem low_8(bits:Nat)(h:bits<256):Go.bits .and .i64 (bits:Int) 15=((bits &&& 15:Nat):Int):=dC bits 15 (by omega) (by decide)
theorem pi(bits:Nat):(bits:Int) / (16:Int)=((bits >>> 4:Nat):Int):=by rw[Nat.shiftRight_eq_div_pow];simp
theorem eR(h:Ar b9 a M b8 c9 w ns){bits first rest:Nat}(hbits:bits<256)(hv:first+3<=b8)(hr:rest<ns.length)(hf:first+3<=nv ns rest) :
  Calls prog 127 #[st (bits:Int) 8,.pointer (some ⟨a,0,none⟩),.int .i64 (first:Int),.int .i64 (rest:Int)] w (MkPost b9 a M b8 c9 w ns 7 first λx=>sel 3 bits first x&&ev ns rest x):=by
 have wf:=h.wf;have v16:=h.vars16;have eL:=low_8 bits hbits;have eH:=pi bits;have hlo:bits &&& 15<16:=Nat.lt_of_le_of_lt Nat.and_le_right (by decide);have hhi:bits >>> 4<16:=by rw[Nat.shiftRight_eq_div_pow];omega
 have hsel:Go.RowKit.Hid (∀x,sel 3 bits first x=if x first then sel 2 (bits >>> 4) (first+1) x else sel 2 (bits &&& 15) (first+1) x):=λx=>rfl;generalize bits &&& 15=lo at *;generalize bits >>> 4=hi at *;have L0:=h.loc #[.int .i64 (bits:Int),.int .i64 8] 201;have A0:=h.alloc (.cells #[.int .i64 (bits:Int),.int .i64 8] 201);have K0:=Ar.kalloc' h (.cells #[.int .i64 (bits:Int),.int .i64 8] 201);obtain⟨c0,c1⟩:=L0.two;have hcast:((first+1:Nat):Int)=(first:Int)+1:=by omega
 have IL:Go.RowKit.Hid (∀(w':World) (ns':List Nd),Ar b9 a M b8 c9 w' ns'->rest<ns'.length->first+1+2<=nv ns' rest->Calls prog 127 #[st (lo:Int) 4,.pointer (some ⟨a,0,none⟩),.int .i64 ((first:Int)+1),.int .i64 (rest:Int)] w' (MkPost b9 a M b8 c9 w' ns' 3 (first+1) λx=>sel 2 lo (first+1) x&&ev ns' rest x)):=λw' ns' hA hr hn=>by
  have:=ju hA (first:=first+1) hlo (by omega) hr (by omega);rw[hcast]at this;exact this
 have IH:Go.RowKit.Hid (∀(w':World) (ns':List Nd),Ar b9 a M b8 c9 w' ns'->rest<ns'.length->first+1+2<=nv ns' rest->Calls prog 127 #[st (hi:Int) 4,.pointer (some ⟨a,0,none⟩),.int .i64 ((first:Int)+1),.int .i64 (rest:Int)] w' (MkPost b9 a M b8 c9 w' ns' 3 (first+1) λx=>sel 2 hi (first+1) x&&ev ns' rest x)):=λw' ns' hA hr hn=>by
  have:=ju hA (first:=first+1) hhi (by omega) hr (by omega);rw[hcast]at this;exact this
 clear hcast;have hwm:Go.RowKit.Hid (IntKind.i64.wrap (IntKind.i64.wrap 16-1)=15):=by
  show _=_;rw[IntWalk.i64_in 16 (by omega),IntWalk.i64_in _ (by omega)];rfl
 have hwr:IntKind.i64.wrap ((first:Int)+1)=(first:Int)+1:=IntWalk.i64_in _ (by omega);have A0d:=A0.drew';have L0d:=L0.drew;have K0d:=K0.drew;go_enter func127,ntmps127;go_wp2_with fail;go_region_held3 (λw'=>w'.cell? ⟨w.heap.size,0,none⟩=some (.int .i64 (bits:Int))/\w'.cell? ⟨w.heap.size,1,none⟩=some (.int .i64 8))
  (exact Loc.two ‹_›)
  (first|(go_at_call 127;rw[hwm.out,eL];refine(IL.out _ ns ‹_› hr (by omega)).mono ?_;rintro e w2 hp2;obtain⟨ns1,v1,er1,rfl,A1,K1,X1,l1,d1⟩:=hp2.pair;have L1:=L0d.kp K1;clear hp2))
 have wf1:=A1.wf;have KK1:=K0d.trans K1;obtain⟨q0,q1⟩:=L1.two;have hr1:rest<ns1.length:=Nat.lt_of_lt_of_le hr X1.len;have hn1:first+1+2<=nv ns1 rest:=by rw[X1.va hr];omega
 clear A0 K0 L0 c0 c1 A0d K0d L0d K1;rcases d1.out with⟨rfl,f1,rfl,lt1,va1,ev1'⟩|⟨rfl,rfl,full1⟩
 ·have E1:Go.RowKit.Hid (∀x,ev ns1 f1 x=(sel 2 lo (first+1) x&&ev ns rest x)):=ev1';clear ev1' d1;go_wp2_with fail;refine(IH.out _ ns1 A1 hr1 hn1).mono ?_;rintro e w3 hp3;obtain⟨ns2,v2,er2,rfl,A2,K2,X2,l2,d2⟩:=hp3.pair;clear hp3;have wf2:=A2.wf;have KK2:=KK1.trans K2;rcases d2.out with⟨rfl,f2,rfl,lt2,va2,ev2'⟩|⟨rfl,rfl,full2⟩
  ·have E2:Go.RowKit.Hid (∀x,ev ns2 f2 x=(sel 2 hi (first+1) x&&ev ns1 rest x)):=ev2';have lt1':f1<ns2.length:=Nat.lt_of_lt_of_le lt1 X2.len;have va1':first<nv ns2 f1:=by rw[X2.va lt1];omega
   have va2':first<nv ns2 f2:=by omega
   clear ev2' d2 q0 q1 L1;go_wp2_with fail;refine(node_ok A2 (i:=first) (lo:=f1) (up:=f2) (by omega) lt1' lt2 va1' va2').mono ?_;rintro e w4 hp4;have hp5:MkPost b9 a M b8 c9 w ns 7 first (λx=>sel 3 bits first x&&ev ns rest x) e w4:=by
    obtain⟨ns3,r1,r2,r3,r4,r5⟩:=hp4;refine⟨ns3,r1,KK2.trans r2,(X1.trans X2).trans r3,by omega,?_⟩;rcases r5 with⟨f,e1,e2,e3,e4⟩|r5
    ·refine Or.inl ⟨f,e1,e2,e3,λx=>?_⟩;rw[e4 x];show(if x first=true then ev ns2 f2 x else ev ns2 f1 x)=(sel 3 bits first x&&ev ns rest x);rw[hsel.out x,E2.out x,X2.ev wf1 wf2 _ lt1,E1.out x,X1.ev wf wf1 _ hr];cases x first <;> rfl
    ·exact Or.inr r5
   clear hp4;have hp6:=hp5;obtain⟨ns3,_,_,_,_,⟨f',rfl,_⟩|⟨rfl,_⟩⟩:=hp5
   ·go_wp2_with fail;go_ret2;exact hp6
   ·go_wp2_with fail;go_ret2;exact hp6
  ·have fin:MkPost b9 a M b8 c9 w ns 7 first (λx=>sel 3 bits first x&&ev ns rest x) (.returned (.tuple #[.int .i64 0,.int .i64 6])) w3 :=
    ⟨ns2,A2,KK2,X1.trans X2,by omega,Or.inr ⟨rfl,full2⟩⟩
   clear d2 A2 K2 KK2;go_wp2_with fail;go_ret2;exact fin
 ·have fin:MkPost b9 a M b8 c9 w ns 7 first (λx=>sel 3 bits first x&&ev ns rest x) (.returned (.tuple #[.int .i64 0,.int .i64 6])) w2 :=
   ⟨ns1,A1,KK1,X1,by omega,Or.inr ⟨rfl,full1⟩⟩
  clear d1 A1 KK1;go_wp2_with fail;go_ret2;exact fin
theorem pj(bits:Nat)(h:bits<65536):Go.bits .and .i64 (bits:Int) 255=((bits &&& 255:Nat):Int):=dC bits 255 (by omega) (by decide)
theorem po(bits:Nat):(bits:Int) / (256:Int)=((bits >>> 8:Nat):Int):=by rw[Nat.shiftRight_eq_div_pow];simp
theorem jv(h:Ar b9 a M b8 c9 w ns){bits first rest:Nat}(hbits:bits<65536)(hv:first+4<=b8)(hr:rest<ns.length)(hf:first+4<=nv ns rest) :
  Calls prog 127 #[st (bits:Int) 16,.pointer (some ⟨a,0,none⟩),.int .i64 (first:Int),.int .i64 (rest:Int)] w (MkPost b9 a M b8 c9 w ns 15 first λx=>sel 4 bits first x&&ev ns rest x):=by
 have wf:=h.wf;have v16:=h.vars16;have eL:=pj bits hbits;have eH:=po bits;have hlo:bits &&& 255<256:=Nat.lt_of_le_of_lt Nat.and_le_right (by decide);have hhi:bits >>> 8<256:=by rw[Nat.shiftRight_eq_div_pow];omega
 have hsel:Go.RowKit.Hid (∀x,sel 4 bits first x=if x first then sel 3 (bits >>> 8) (first+1) x else sel 3 (bits &&& 255) (first+1) x):=λx=>rfl;generalize bits &&& 255=lo at *;generalize bits >>> 8=hi at *;have L0:=h.loc #[.int .i64 (bits:Int),.int .i64 16] 201;have A0:=h.alloc (.cells #[.int .i64 (bits:Int),.int .i64 16] 201);have K0:=Ar.kalloc' h (.cells #[.int .i64 (bits:Int),.int .i64 16] 201);obtain⟨c0,c1⟩:=L0.two;have hcast:((first+1:Nat):Int)=(first:Int)+1:=by omega
 have IL:Go.RowKit.Hid (∀(w':World) (ns':List Nd),Ar b9 a M b8 c9 w' ns'->rest<ns'.length->first+1+3<=nv ns' rest->Calls prog 127 #[st (lo:Int) 8,.pointer (some ⟨a,0,none⟩),.int .i64 ((first:Int)+1),.int .i64 (rest:Int)] w' (MkPost b9 a M b8 c9 w' ns' 7 (first+1) λx=>sel 3 lo (first+1) x&&ev ns' rest x)):=λw' ns' hA hr hn=>by
  have:=eR hA (first:=first+1) hlo (by omega) hr (by omega);rw[hcast]at this;exact this
 have IH:Go.RowKit.Hid (∀(w':World) (ns':List Nd),Ar b9 a M b8 c9 w' ns'->rest<ns'.length->first+1+3<=nv ns' rest->Calls prog 127 #[st (hi:Int) 8,.pointer (some ⟨a,0,none⟩),.int .i64 ((first:Int)+1),.int .i64 (rest:Int)] w' (MkPost b9 a M b8 c9 w' ns' 7 (first+1) λx=>sel 3 hi (first+1) x&&ev ns' rest x)):=λw' ns' hA hr hn=>by
  have:=eR hA (first:=first+1) hhi (by omega) hr (by omega);rw[hcast]at this;exact this
 clear hcast;have hwm:Go.RowKit.Hid (IntKind.i64.wrap (IntKind.i64.wrap 256-1)=255):=by
  show _=_;rw[IntWalk.i64_in 256 (by omega),IntWalk.i64_in _ (by omega)];rfl
 have hwr:IntKind.i64.wrap ((first:Int)+1)=(first:Int)+1:=IntWalk.i64_in _ (by omega);have A0d:=A0.drew';have L0d:=L0.drew;have K0d:=K0.drew;go_enter func127,ntmps127;go_wp2_with fail;go_region_held3 (λw'=>w'.cell? ⟨w.heap.size,0,none⟩=some (.int .i64 (bits:Int))/\w'.cell? ⟨w.heap.size,1,none⟩=some (.int .i64 16))
  (exact Loc.two ‹_›)
  (first|(go_at_call 127;rw[hwm.out,eL];refine(IL.out _ ns ‹_› hr (by omega)).mono ?_;rintro e w2 hp2;obtain⟨ns1,v1,er1,rfl,A1,K1,X1,l1,d1⟩:=hp2.pair;have L1:=L0d.kp K1;clear hp2))
 have wf1:=A1.wf;have KK1:=K0d.trans K1;obtain⟨q0,q1⟩:=L1.two;have hr1:rest<ns1.length:=Nat.lt_of_lt_of_le hr X1.len;have hn1:first+1+3<=nv ns1 rest:=by rw[X1.va hr];omega
 clear A0 K0 L0 c0 c1 A0d K0d L0d K1;rcases d1.out with⟨rfl,f1,rfl,lt1,va1,ev1'⟩|⟨rfl,rfl,full1⟩
 ·have E1:Go.RowKit.Hid (∀x,ev ns1 f1 x=(sel 3 lo (first+1) x&&ev ns rest x)):=ev1';clear ev1' d1;go_wp2_with fail;refine(IH.out _ ns1 A1 hr1 hn1).mono ?_;rintro e w3 hp3;obtain⟨ns2,v2,er2,rfl,A2,K2,X2,l2,d2⟩:=hp3.pair;clear hp3;have wf2:=A2.wf;have KK2:=KK1.trans K2;rcases d2.out with⟨rfl,f2,rfl,lt2,va2,ev2'⟩|⟨rfl,rfl,full2⟩
  ·have E2:Go.RowKit.Hid (∀x,ev ns2 f2 x=(sel 3 hi (first+1) x&&ev ns1 rest x)):=ev2';have lt1':f1<ns2.length:=Nat.lt_of_lt_of_le lt1 X2.len;have va1':first<nv ns2 f1:=by rw[X2.va lt1];omega
   have va2':first<nv ns2 f2:=by omega
   clear ev2' d2 q0 q1 L1;go_wp2_with fail;refine(node_ok A2 (i:=first) (lo:=f1) (up:=f2) (by omega) lt1' lt2 va1' va2').mono ?_;rintro e w4 hp4;have hp5:MkPost b9 a M b8 c9 w ns 15 first (λx=>sel 4 bits first x&&ev ns rest x) e w4:=by
    obtain⟨ns3,r1,r2,r3,r4,r5⟩:=hp4;refine⟨ns3,r1,KK2.trans r2,(X1.trans X2).trans r3,by omega,?_⟩;rcases r5 with⟨f,e1,e2,e3,e4⟩|r5
    ·refine Or.inl ⟨f,e1,e2,e3,λx=>?_⟩;rw[e4 x];show(if x first=true then ev ns2 f2 x else ev ns2 f1 x)=(sel 4 bits first x&&ev ns rest x);rw[hsel.out x,E2.out x,X2.ev wf1 wf2 _ lt1,E1.out x,X1.ev wf wf1 _ hr];cases x first <;> rfl
    ·exact Or.inr r5
   clear hp4;have hp6:=hp5;obtain⟨ns3,_,_,_,_,⟨f',rfl,_⟩|⟨rfl,_⟩⟩:=hp5
   ·go_wp2_with fail;go_ret2;exact hp6
   ·go_wp2_with fail;go_ret2;exact hp6
  ·have fin:MkPost b9 a M b8 c9 w ns 15 first (λx=>sel 4 bits first x&&ev ns rest x) (.returned (.tuple #[.int .i64 0,.int .i64 6])) w3 :=
    ⟨ns2,A2,KK2,X1.trans X2,by omega,Or.inr ⟨rfl,full2⟩⟩
   clear d2 A2 K2 KK2;go_wp2_with fail;go_ret2;exact fin
 ·have fin:MkPost b9 a M b8 c9 w ns 15 first (λx=>sel 4 bits first x&&ev ns rest x) (.returned (.tuple #[.int .i64 0,.int .i64 6])) w2 :=
   ⟨ns1,A1,KK1,X1,by omega,Or.inr ⟨rfl,full1⟩⟩
  clear d1 A1 KK1;go_wp2_with fail;go_ret2;exact fin
end
def phi(sa sb sc sd:Nat)(x:Env):Bool:=sel 4 sa 0 x&&(sel 4 sb 4 x&&(sel 3 sc 8 x&&(sel 3 sd 11 x&&true)))
theorem pq(k first:Nat)(x:Env):sel k 0 first x=false:=by rw[bL];simp
section
variable {b9 a M b8 c9:Nat}{w w':World}{ns:List Nd}
theorem Loc.four{C:Cfg}{w:World}{i:Nat}{x y z u:Value}{t:TypeId}(h:Loc C w i #[x,y,z,u] t):w.cell? ⟨i,0,none⟩=some x/\w.cell? ⟨i,1,none⟩=some y/\w.cell? ⟨i,2,none⟩=some z/\w.cell? ⟨i,3,none⟩=some u :=
 ⟨by rw[cell_of_row w i 0 _ _ _ h.blk];rfl,by rw[cell_of_row w i 1 _ _ _ h.blk];rfl,by rw[cell_of_row w i 2 _ _ _ h.blk];rfl,by rw[cell_of_row w i 3 _ _ _ h.blk];rfl⟩
theorem pr(h:Ar b9 a M b8 c9 w ns)(hv:14<=b8)(sa sb sc sd:Nat)(hz:sa=0\/sb=0\/sc=0\/sd=0) :
  Calls prog 68 #[.pointer (some ⟨a,0,none⟩),mt sa sb sc sd] w (MkPost b9 a M b8 c9 w ns 44 0 (phi sa sb sc sd)):=by
 have l2:=h.wf.len;have L0:=h.loc #[.int .u16 (sa:Int),.int .u16 (sb:Int),.int .u8 (sc:Int),.int .u8 (sd:Int)] 32;have A0:=h.alloc (.cells #[.int .u16 (sa:Int),.int .u16 (sb:Int),.int .u8 (sc:Int),.int .u8 (sd:Int)] 32);have K0:=Ar.kalloc' h (.cells #[.int .u16 (sa:Int),.int .u16 (sb:Int),.int .u8 (sc:Int),.int .u8 (sd:Int)] 32);have t1:decide ((b8:Int)<14)=false:=by simp;omega
 have fin:MkPost b9 a M b8 c9 w ns 44 0 (phi sa sb sc sd) (.returned (.tuple #[.int .i64 0,.int .i64 0])) (w.alloc (.cells #[.int .u16 (sa:Int),.int .u16 (sb:Int),.int .u8 (sc:Int),.int .u8 (sd:Int)] 32)) :=
  ⟨ns,A0,K0,Ext.refl _,by omega,Or.inl ⟨0,rfl,by omega,Nat.zero_le _,λx=>by
   rw[ev0];unfold phi;rcases hz with rfl|rfl|rfl|rfl <;> simp[pq]⟩⟩
 clear L0 K0;by_cases za:sa=0
 ·subst za;go_enter func68,ntmps68;go_wp2_with fail;refine(dD A0).mono ?_;rintro e w1⟨rfl,rfl⟩;go_wp2_with fail;go_ret2;exact fin
 by_cases zb:sb=0
 ·subst zb;go_enter func68,ntmps68;go_wp2_with fail;refine(dD A0).mono ?_;rintro e w1⟨rfl,rfl⟩;go_wp2_with fail;go_ret2;exact fin
 by_cases zc:sc=0
 ·subst zc;go_enter func68,ntmps68;go_wp2_with fail;refine(dD A0).mono ?_;rintro e w1⟨rfl,rfl⟩;go_wp2_with fail;go_ret2;exact fin
 ·obtain rfl:sd=0:=by omega
  go_enter func68,ntmps68;go_wp2_with fail;refine(dD A0).mono ?_;rintro e w1⟨rfl,rfl⟩;go_wp2_with fail;go_ret2;exact fin
theorem build_some(h:Ar b9 a M b8 c9 w ns)(hv:14<=b8)(sa sb sc sd:Nat)(ha:sa<65536)(hb:sb<65536)(hc:sc<256)(hd:sd<256)(za:sa≠0)(zb:sb≠0)(zc:sc≠0)(zd:sd≠0) :
  Calls prog 68 #[.pointer (some ⟨a,0,none⟩),mt sa sb sc sd] w (MkPost b9 a M b8 c9 w ns 44 0 (phi sa sb sc sd)):=by
 have l2:=h.wf.len;have wf:=h.wf;have n1:nv ns 1=b8:=by rw[nv,h.wf.n1]
 have L0:=h.loc #[.int .u16 (sa:Int),.int .u16 (sb:Int),.int .u8 (sc:Int),.int .u8 (sd:Int)] 32;have A0:=h.alloc (.cells #[.int .u16 (sa:Int),.int .u16 (sb:Int),.int .u8 (sc:Int),.int .u8 (sd:Int)] 32);have K0:=Ar.kalloc' h (.cells #[.int .u16 (sa:Int),.int .u16 (sb:Int),.int .u8 (sc:Int),.int .u8 (sd:Int)] 32);have t1:decide ((b8:Int)<14)=false:=by simp;omega
 have e1:((sa:Int) == 0)=false:=by simp;omega
 have e2:((sb:Int) == 0)=false:=by simp;omega
 have e3:((sc:Int) == 0)=false:=by simp;omega
 have e4:((sd:Int) == 0)=false:=by simp;omega
 have pA:Go.RowKit.Hid (∀w,Calls prog 128 #[.int .u16 (sa:Int)] w λe w'=>e=.returned (st sa 16)/\Below w.heap.size w w'):=λw=>lE sa w ha;have pB:Go.RowKit.Hid (∀w,Calls prog 128 #[.int .u16 (sb:Int)] w λe w'=>e=.returned (st sb 16)/\Below w.heap.size w w'):=λw=>lE sb w hb;have pC:Go.RowKit.Hid (∀w,Calls prog 126 #[.int .u8 (sc:Int)] w λe w'=>e=.returned (st sc 8)/\Below w.heap.size w w'):=λw=>lH sc w hc;have pD:Go.RowKit.Hid (∀w,Calls prog 126 #[.int .u8 (sd:Int)] w λe w'=>e=.returned (st sd 8)/\Below w.heap.size w w'):=λw=>lH sd w hd;have bD:Go.RowKit.Hid (∀(w':World) (ns':List Nd) (rest:Nat),Ar b9 a M b8 c9 w' ns'->rest<ns'.length->11+3<=nv ns' rest->Calls prog 127 #[st (sd:Int) 8,.pointer (some ⟨a,0,none⟩),.int .i64 11,.int .i64 (rest:Int)] w' (MkPost b9 a M b8 c9 w' ns' 7 11 λx=>sel 3 sd 11 x&&ev ns' rest x)):=λw' ns' rest hA h1 h2=>eR hA (first:=11) hd (by omega) h1 h2;have bC:Go.RowKit.Hid (∀(w':World) (ns':List Nd) (rest:Nat),Ar b9 a M b8 c9 w' ns'->rest<ns'.length->8+3<=nv ns' rest->Calls prog 127 #[st (sc:Int) 8,.pointer (some ⟨a,0,none⟩),.int .i64 8,.int .i64 (rest:Int)] w' (MkPost b9 a M b8 c9 w' ns' 7 8 λx=>sel 3 sc 8 x&&ev ns' rest x)):=λw' ns' rest hA h1 h2=>eR hA (first:=8) hc (by omega) h1 h2;have bB:Go.RowKit.Hid (∀(w':World) (ns':List Nd) (rest:Nat),Ar b9 a M b8 c9 w' ns'->rest<ns'.length->4+4<=nv ns' rest->Calls prog 127 #[st (sb:Int) 16,.pointer (some ⟨a,0,none⟩),.int .i64 4,.int .i64 (rest:Int)] w' (MkPost b9 a M b8 c9 w' ns' 15 4 λx=>sel 4 sb 4 x&&ev ns' rest x)):=λw' ns' rest hA h1 h2=>jv hA (first:=4) hb (by omega) h1 h2;have bA:Go.RowKit.Hid (∀(w':World) (ns':List Nd) (rest:Nat),Ar b9 a M b8 c9 w' ns'->rest<ns'.length->0+4<=nv ns' rest->Calls prog 127 #[st (sa:Int) 16,.pointer (some ⟨a,0,none⟩),.int .i64 0,.int .i64 (rest:Int)] w' (MkPost b9 a M b8 c9 w' ns' 15 0 λx=>sel 4 sa 0 x&&ev ns' rest x)):=λw' ns' rest hA h1 h2=>jv hA (first:=0) ha (by omega) h1 h2;obtain⟨c0,c1,c2,c3⟩:=L0.four;clear ha hb hc hd za zb zc zd;go_enter func68,ntmps68;go_wp2_with fail;refine(dD A0).mono ?_;rintro e w0⟨rfl,hw0⟩;subst hw0;go_wp2_with fail;refine(pD.out _).mono ?_;rintro e u1⟨rfl,hb1⟩;have B1:=A0.below hb1;have M1:=Loc.below L0 A0 hb1;have J1:=K0.trans (A0.kbelow hb1);clear c0 c1 c2 c3;clear hb1 A0 L0 K0;go_wp2_with fail;refine(bD.out _ ns 1 B1 (by omega) (by rw[n1];omega)).mono ?_;rintro e x1 hp1;obtain⟨ns1,v1,er1,rfl,A1,K1,X1,l1,d1⟩:=hp1.pair;have wf1:=A1.wf;have KK1:=J1.trans K1;have L1:=M1.kp K1;obtain⟨c0,c1,c2,c3⟩:=L1.four;have XX1:=X1;clear hp1 B1 M1 J1 K1;rcases d1.out with⟨rfl,f1,rfl,lt1,va1,ev1x⟩|⟨rfl,rfl,full1⟩
 ·have E1:Go.RowKit.Hid (∀x,ev ns1 f1 x=(sel 3 sd 11 x&&true)):=λx=>by rw[ev1x x,ev1]
  clear ev1x d1;go_wp2_with fail;refine(pC.out _).mono ?_;rintro e u2⟨rfl,hb2⟩;have B2:=A1.below hb2;have M2:=Loc.below L1 A1 hb2;have J2:=KK1.trans (A1.kbelow hb2);clear c0 c1 c2 c3;clear hb2 A1 L1 KK1;go_wp2_with fail;refine(bC.out _ ns1 f1 B2 lt1 (by omega)).mono ?_;rintro e x2 hp2;obtain⟨ns2,v2,er2,rfl,A2,K2,X2,l2,d2⟩:=hp2.pair;have wf2:=A2.wf;have KK2:=J2.trans K2;have L2:=M2.kp K2;obtain⟨c0,c1,c2,c3⟩:=L2.four;have XX2:=(XX1.trans X2);clear hp2 B2 M2 J2 K2;rcases d2.out with⟨rfl,f2,rfl,lt2,va2,ev2x⟩|⟨rfl,rfl,full2⟩
  ·have E2:Go.RowKit.Hid (∀x,ev ns2 f2 x=(sel 3 sc 8 x&&(sel 3 sd 11 x&&true))):=λx=>by rw[ev2x x,E1.out x]
   clear ev2x d2;go_wp2_with fail;refine(pB.out _).mono ?_;rintro e u3⟨rfl,hb3⟩;have B3:=A2.below hb3;have M3:=Loc.below L2 A2 hb3;have J3:=KK2.trans (A2.kbelow hb3);clear c0 c1 c2 c3;clear hb3 A2 L2 KK2;go_wp2_with fail;refine(bB.out _ ns2 f2 B3 lt2 (by omega)).mono ?_;rintro e x3 hp3;obtain⟨ns3,v3,er3,rfl,A3,K3,X3,l3,d3⟩:=hp3.pair;have wf3:=A3.wf;have KK3:=J3.trans K3;have L3:=M3.kp K3;obtain⟨c0,c1,c2,c3⟩:=L3.four;have XX3:=(XX2.trans X3);clear hp3 B3 M3 J3 K3;rcases d3.out with⟨rfl,f3,rfl,lt3,va3,ev3x⟩|⟨rfl,rfl,full3⟩
   ·have E3:Go.RowKit.Hid (∀x,ev ns3 f3 x=(sel 4 sb 4 x&&(sel 3 sc 8 x&&(sel 3 sd 11 x&&true)))):=λx=>by rw[ev3x x,E2.out x]
    clear ev3x d3;go_wp2_with fail;refine(pA.out _).mono ?_;rintro e u4⟨rfl,hb4⟩;have B4:=A3.below hb4;have M4:=Loc.below L3 A3 hb4;have J4:=KK3.trans (A3.kbelow hb4);clear c0 c1 c2 c3;clear hb4 A3 L3 KK3;go_wp2_with fail;refine(bA.out _ ns3 f3 B4 lt3 (by omega)).mono ?_;rintro e x4 hp4;obtain⟨ns4,v4,er4,rfl,A4,K4,X4,l4,d4⟩:=hp4.pair;have wf4:=A4.wf;have KK4:=J4.trans K4;have L4:=M4.kp K4;obtain⟨c0,c1,c2,c3⟩:=L4.four;have XX4:=(XX3.trans X4);clear hp4 B4 M4 J4 K4;rcases d4.out with⟨rfl,f4,rfl,lt4,va4,ev4x⟩|⟨rfl,rfl,full4⟩
    ·have E4:Go.RowKit.Hid (∀x,ev ns4 f4 x=(sel 4 sa 0 x&&(sel 4 sb 4 x&&(sel 3 sc 8 x&&(sel 3 sd 11 x&&true))))):=λx=>by rw[ev4x x,E3.out x]
     clear ev4x d4;have fin:MkPost b9 a M b8 c9 w ns 44 0 (phi sa sb sc sd) (.returned (.tuple #[.int .i64 (f4:Int),.int .i64 0])) x4 :=
      ⟨ns4,A4,KK4,XX4,by omega,Or.inl ⟨f4,rfl,lt4,Nat.zero_le _,E4.out⟩⟩
     clear A4 KK4 L4 c0 c1 c2 c3;go_wp2_with fail;go_ret2;exact fin
    ·have fin:MkPost b9 a M b8 c9 w ns 44 0 (phi sa sb sc sd) (.returned (.tuple #[.int .i64 0,.int .i64 6])) x4 :=
      ⟨ns4,A4,KK4,XX4,by omega,Or.inr ⟨rfl,full4⟩⟩
     clear d4 A4 KK4 L4 c0 c1 c2 c3;go_wp2_with fail;go_ret2;exact fin
   ·have fin:MkPost b9 a M b8 c9 w ns 44 0 (phi sa sb sc sd) (.returned (.tuple #[.int .i64 0,.int .i64 6])) x3 :=
     ⟨ns3,A3,KK3,XX3,by omega,Or.inr ⟨rfl,full3⟩⟩
    clear d3 A3 KK3 L3 c0 c1 c2 c3;go_wp2_with fail;go_ret2;exact fin
  ·have fin:MkPost b9 a M b8 c9 w ns 44 0 (phi sa sb sc sd) (.returned (.tuple #[.int .i64 0,.int .i64 6])) x2 :=
    ⟨ns2,A2,KK2,XX2,by omega,Or.inr ⟨rfl,full2⟩⟩
   clear d2 A2 KK2 L2 c0 c1 c2 c3;go_wp2_with fail;go_ret2;exact fin
 ·have fin:MkPost b9 a M b8 c9 w ns 44 0 (phi sa sb sc sd) (.returned (.tuple #[.int .i64 0,.int .i64 6])) x1 :=
   ⟨ns1,A1,KK1,XX1,by omega,Or.inr ⟨rfl,full1⟩⟩
  clear d1 A1 KK1 L1 c0 c1 c2 c3;go_wp2_with fail;go_ret2;exact fin
theorem eS(h:Ar b9 a M b8 c9 w ns)(hv:14<=b8)(sa sb sc sd:Nat)(ha:sa<65536)(hb:sb<65536)(hc:sc<256)(hd:sd<256) :
  Calls prog 68 #[.pointer (some ⟨a,0,none⟩),mt sa sb sc sd] w (MkPost b9 a M b8 c9 w ns 44 0 (phi sa sb sc sd)):=by
 by_cases hz:sa=0\/sb=0\/sc=0\/sd=0
 ·exact pr h hv sa sb sc sd hz
 ·exact build_some h hv sa sb sc sd ha hb hc hd (by omega) (by omega) (by omega) (by omega)
end
end Go.Proofs.YtppbfikimalojaaGreat
