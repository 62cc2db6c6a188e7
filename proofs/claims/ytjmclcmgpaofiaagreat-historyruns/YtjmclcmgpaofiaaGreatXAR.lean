/-
  XAR.
-/
import Derived.Test.YtjmclcmgpaofiaaGreatXLy
import Derived.Test.YtjmclcmgpaofiaaGreatXAQ
import Derived.Test.YtjmclcmgpaofiaaGreatXAH
import Derived.Test.YtjmclcmgpaofiaaGreatXAK
import Derived.Test.YtjmclcmgpaofiaaGreatXAC
import Derived.ProofKit
import Derived.WalkKit
import Derived.Maps.AppendAt
import Derived.Deep.Heap
import Derived.OneCell
import Derived.Laws.AppendOwnNone
import Derived.Deep.RegionHeldLaw
import Derived.Test.YtjmclcmgpaofiaaGreatXAB
set_option maxHeartbeats 8000000
set_option maxRecDepth 100000
namespace Go.Proofs.YtjmclcmgpaofiaaGreat
open Go.RowKit Go.Maps
abbrev dsC:List Dv:=ci (gz [iw true])
abbrev lsC:List Lk:=chainLR
abbrev fdC:Dv:={ gz [iw true]with name:=⟨#[100]⟩,hs:=by decide }
theorem yo:netV dsC lsC=0:=by rw[Cd];rfl
theorem fE{i:Nat}{d:Dv}(h:dsC[i]?=some d):(i=0 /\ d=dj ⟨#[105,110]⟩ 1 (by decide))\/(i=1 /\ d=fdC)\/(i=2 /\ d=dj ⟨#[111,117,116]⟩ 2 (by decide)):=by
 match i,h with
 | 0,h=>exact Or.inl ⟨rfl,(Option.some.inj h).symm⟩
 | 1,h=>exact Or.inr (Or.inl ⟨rfl,(Option.some.inj h).symm⟩)
 | 2,h=>exact Or.inr (Or.inr ⟨rfl,(Option.some.inj h).symm⟩)
theorem yp:∀d∈dsC,aE d=0:=λd hd=>by
 obtain⟨i,hi⟩:=List.mem_iff_getElem?.1 hd;rcases fE hi with⟨_,rfl⟩|⟨_,rfl⟩|⟨_,rfl⟩
 ·exact jV _ _ _ (by omega) (by omega)
 ·have:=qN [iw true];exact this
 ·exact jV _ _ _ (by omega) (by omega)
theorem kM{i q:Int}{t:Int × Int}(h:peerF lsC i q=some t):(i=0 /\ q=0 /\ t=(1,0))\/(i=1 /\ q=0 /\ t=(0,0))\/(i=1 /\ q=1 /\ t=(2,0))\/(i=2 /\ q=0 /\ t=(1,1)):=by
 obtain⟨l,hl,he⟩:=fC h;have hl':l=⟨0,0,1,0⟩\/l=⟨1,1,2,0⟩:=by simpa[chainLR]using hl
 rcases hl' with rfl|rfl
 ·rcases dJ he with⟨⟨h1,h2⟩,h3⟩|⟨⟨h1,h2⟩,h3⟩
  ·exact Or.inl ⟨h1.symm,h2.symm,h3⟩
  ·exact Or.inr (Or.inl ⟨h1.symm,h2.symm,h3⟩)
 ·rcases dJ he with⟨⟨h1,h2⟩,h3⟩|⟨⟨h1,h2⟩,h3⟩
  ·exact Or.inr (Or.inr (Or.inl ⟨h1.symm,h2.symm,h3⟩))
  ·exact Or.inr (Or.inr (Or.inr ⟨h1.symm,h2.symm,h3⟩))
theorem oN(x:Env):ao (aS fdC) x=true:=by
 show ao [⟨true,65535,65535,255,255,_,_,_,_⟩] x=true;unfold ao;rw[if_pos];rw[ix];exact jW 4 0 x
theorem jn{i:Nat}{d:Dv}(h:dsC[i]?=some d):(d.kind=1\/(d.kind=3 /\ ∀x,ao (aS d) x=true)) /\ d.rules.length<=2:=by
 rcases fE h with⟨_,rfl⟩|⟨_,rfl⟩|⟨_,rfl⟩
 ·exact⟨Or.inl rfl,by decide⟩
 ·exact⟨Or.inr ⟨rfl,oN⟩,by decide⟩
 ·exact⟨Or.inl rfl,by decide⟩
theorem dO:∀(k a b:Nat),DepS S8 (ak dsC lsC k a b)
 | 0,a,b=>λe e' he=>by
   rw[Bool.eq_iff_iff,eh,eh];unfold iV;constructor
   ·rintro⟨i,d,h1,h2,h3,h4,h5⟩;exact⟨i,d,h1,h2,h3,h4,by rw[<- qO _ e e' he];exact h5⟩
   ·rintro⟨i,d,h1,h2,h3,h4,h5⟩;exact⟨i,d,h1,h2,h3,h4,by rw[qO _ e e' he];exact h5⟩
 | k+1,a,b=>λe e' he=>by
   rw[Bool.eq_iff_iff,cD,cD,dO k a b e e' he];unfold fA;constructor
   ·rintro(h|⟨i,q,d,h1,h2,h3,h4,h5,h6⟩)
    ·exact Or.inl h
    ·exact Or.inr ⟨i,q,d,h1,h2,h3,h4,h5,by rw[<- lW (jn h3).1 q (dO k i 0) (dO k i 1) e e' he];exact h6⟩
   ·rintro(h|⟨i,q,d,h1,h2,h3,h4,h5,h6⟩)
    ·exact Or.inl h
    ·exact Or.inr ⟨i,q,d,h1,h2,h3,h4,h5,by rw[lW (jn h3).1 q (dO k i 0) (dO k i 1) e e' he];exact h6⟩
theorem yr(k i q a b:Nat)(d:Dv)(hd:dsC[i]?=some d):gV 255 False d (q:Int) (ak dsC lsC k a b) (ak dsC lsC k i 0) (ak dsC lsC k i 1) (ak dsC lsC k i 2) (ak dsC lsC k i 3) :=
 Cj (jn hd).1 (jn hd).2 q (dO k a b) (dO k i 0) (dO k i 1) (dO k i 2) (dO k i 3)
theorem oO{d:Dv}(hk:d.kind=1)(q:Int)(φ0 φ1 φ2 φ3:Env->Bool)(x:Env):aI d q φ0 φ1 φ2 φ3 x=false:=by
 unfold aI;rw[if_neg (by omega),if_neg (by omega),if_neg (by omega),if_neg (by omega)]
theorem jo(q:Int)(φ0 φ1 φ2 φ3:Env->Bool)(x:Env):aI fdC q φ0 φ1 φ2 φ3 x=if q=1 then φ0 x else(φ1 x&&flF φ0 x):=by
 have el:ao (aS fdC)=λ_=>true:=funext oN;have e0:(λx=>φ0 x&&true)=φ0:=funext λx=>by simp
 unfold aI;rw[if_neg (show ¬(fdC.kind=2) by decide),if_pos (show fdC.kind=3 by decide),el]
 split
 ·simp
 ·simp only[e0]
theorem jp(F:Nat->Nat->Env->Bool)(a b:Nat)(x:Env):fA dsC lsC (λ_=>False) F dsC.length 0 ((a:Int),(b:Int)) x ↔ (a=0 /\ b=0 /\ (F 1 1 x&&flF (F 1 0) x)=true)\/(a=2 /\ b=0 /\ F 1 0 x=true):=by
 constructor
 ·rintro⟨i,q,d,h1,_,h3,h4,h5,h6⟩;rcases kM h5 with⟨hi,hq,ht⟩|⟨hi,hq,ht⟩|⟨hi,hq,ht⟩|⟨hi,hq,ht⟩
  ·obtain rfl:i=0:=by omega
   rcases fE h3 with⟨_,rfl⟩|⟨h,_⟩|⟨h,_⟩
   ·rw[oO rfl]at h6;cases h6
   ·omega
   ·omega
  ·obtain rfl:i=1:=by omega
   rcases fE h3 with⟨h,_⟩|⟨_,rfl⟩|⟨h,_⟩
   ·omega
   ·rw[jo,if_neg (by omega)]at h6;simp only[Prod.mk.injEq]at ht;exact Or.inl ⟨by omega,by omega,h6⟩
   ·omega
  ·obtain rfl:i=1:=by omega
   rcases fE h3 with⟨h,_⟩|⟨_,rfl⟩|⟨h,_⟩
   ·omega
   ·rw[jo,if_pos hq]at h6;simp only[Prod.mk.injEq]at ht;exact Or.inr ⟨by omega,by omega,h6⟩
   ·omega
  ·obtain rfl:i=2:=by omega
   rcases fE h3 with⟨h,_⟩|⟨h,_⟩|⟨_,rfl⟩
   ·omega
   ·omega
   ·rw[oO rfl]at h6;cases h6
 ·rintro(⟨rfl,rfl,h⟩|⟨rfl,rfl,h⟩)
  ·exact⟨1,0,fdC,Or.inl (by decide),λh=>h,rfl,by decide,by decide,by rw[jo,if_neg (by omega)];exact h⟩
  ·exact⟨1,1,fdC,Or.inl (by decide),λh=>h,rfl,by decide,by decide,by rw[jo,if_pos (by omega)];exact h⟩
theorem gg(a b:Nat)(x:Env):ak dsC lsC 0 a b x=true ↔ (a=1 /\ b=0 /\ phi 2 65535 255 255 x=true)\/(a=1 /\ b=1 /\ phi 4 65535 255 255 x=true):=by
 rw[eh];constructor
 ·rintro⟨i,d,h1,h2,h3,h4,h5⟩;rcases fE h2 with⟨rfl,rfl⟩|⟨rfl,rfl⟩|⟨rfl,rfl⟩
  ·rcases kM h4 with⟨hi,hq,ht⟩|⟨hi,hq,ht⟩|⟨hi,hq,ht⟩|⟨hi,hq,ht⟩
   ·simp only[Prod.mk.injEq]at ht;exact Or.inl ⟨by omega,by omega,h5⟩
   ·simp at hi
   ·simp at hi
   ·simp at hi
  ·exact absurd h3 (by decide)
  ·rcases kM h4 with⟨hi,hq,ht⟩|⟨hi,hq,ht⟩|⟨hi,hq,ht⟩|⟨hi,hq,ht⟩
   ·simp at hi
   ·simp at hi
   ·simp at hi
   ·simp only[Prod.mk.injEq]at ht;exact Or.inr ⟨by omega,by omega,h5⟩
 ·rintro(⟨rfl,rfl,h⟩|⟨rfl,rfl,h⟩)
  ·exact⟨0,_,by decide,rfl,rfl,by decide,h⟩
  ·exact⟨2,_,by decide,rfl,rfl,by decide,h⟩
theorem il:∀(k b:Nat),ak dsC lsC k 1 b=ak dsC lsC 0 1 b
 | 0,_=>rfl
 | k+1,b=>funext λx=>by
   rw[Bool.eq_iff_iff,cD,il k b,jp];constructor
   ·rintro(h|⟨h,_⟩|⟨h,_⟩)
    ·exact h
    ·omega
    ·omega
   ·exact Or.inl
theorem yt(k a b:Nat)(x:Env):ak dsC lsC (k+2) a b x=ak dsC lsC (k+1) a b x:=by
 rw[Bool.eq_iff_iff,cD (k+1),jp,il (k+1),il (k+1),<- il k,<- il k,<- jp,cD k];constructor
 ·rintro(h|h)
  ·exact h
  ·exact Or.inr h
 ·exact Or.inl
theorem oP{k:Nat}(h:∀j,j<k->aV dsC lsC j<aV dsC lsC (j+1)):k<=1:=by
 by_cases hk:1<k
 ·have h1:=h 1 hk;have e:aV dsC lsC (1+1)=aV dsC lsC 1:=by
   unfold aV
   congr 1
   funext n
   exact yt 0 _ _ _
  omega
 ·omega
theorem yu:¬dS dsC lsC 40000 255 False:=by
 rintro⟨k,hk,h|h⟩
 ·exact h
 ·have:=oP hk;rw[show dsC.length=3 from rfl]at h;have:255*(4*3)*(k+1)<=255*(4*3)*2:=Nat.mul_le_mul_left _ (by omega);omega
theorem oQ(a b:Nat)(x:Env):ak dsC lsC 1 a b x=true ↔ ak dsC lsC 0 a b x=true\/(a=0 /\ b=0 /\ (phi 4 65535 255 255 x&&flF (phi 2 65535 255 255) x)=true)\/(a=2 /\ b=0 /\ phi 2 65535 255 255 x=true):=by
 have e1:ak dsC lsC 0 1 0=phi 2 65535 255 255:=funext λx=>by rw[Bool.eq_iff_iff,gg];simp
 have e2:ak dsC lsC 0 1 1=phi 4 65535 255 255:=funext λx=>by rw[Bool.eq_iff_iff,gg];simp
 rw[cD,jp,e1,e2]
theorem oR:ak dsC lsC 1 2 0=phi 2 65535 255 255:=funext λx=>by rw[Bool.eq_iff_iff,oQ,gg];simp
theorem oS:ak dsC lsC 1 0 0=λx=>phi 4 65535 255 255 x&&flF (phi 2 65535 255 255) x:=funext λx=>by rw[Bool.eq_iff_iff,oQ,gg];simp
theorem oT:ak dsC lsC 0 0 0=λ_=>false:=funext λx=>by
 cases h:ak dsC lsC 0 0 0 x
 ·rfl
 ·rcases(gg 0 0 x).1 h with⟨h,_⟩|⟨h,_⟩ <;> omega
theorem yv:ak dsC lsC 0 2 0=λ_=>false:=funext λx=>by
 cases h:ak dsC lsC 0 2 0 x
 ·rfl
 ·rcases(gg 2 0 x).1 h with⟨h,_⟩|⟨h,_⟩ <;> omega
theorem yw{K:Nat}(h1:∀j,j<K->aV dsC lsC j<aV dsC lsC (j+1))(h2:∀a b,a<10->b<4->ak dsC lsC (K+1) a b=ak dsC lsC K a b):K=1:=by
 have:=oP h1;by_cases h0:K=0
 ·subst h0;have h:=h2 2 0 (by omega) (by omega);rw[oR,yv]at h;have h':=congrFun h (envOf 14 1024);exact absurd h' (by decide)
 ·omega
theorem kN{g:Env->Bool}{i:Nat}(h:∀(e e':Env),(∀v,v<i->e v=e' v)->g e=g e'):∀(k j:Nat) (e:Env),i<=j->T k j g e=if g e then 2 ^ k else 0
 | 0,_,e,_=>by unfold T;rfl
 | k+1,j,e,hj=>by
   have hs:∀b,g (setE e j b)=g e:=λb=>h _ _ λv hv=>cM e b (by omega);unfold T;rw[kN h k (j+1) _ (by omega),kN h k (j+1) _ (by omega),hs,hs,Nat.pow_succ]
   split <;> omega
theorem yx:cntE (phi 2 65535 255 255)=1024:=by
 have h:∀(e e':Env),(∀v,v<4->e v=e' v)->phi 2 65535 255 255 e=phi 2 65535 255 255 e':=λe e' he=>by
  rw[ix,ix];exact jX _ _ _ _ _ λi _ hi=>he i (by omega)
 have g:=kN h 10 4;unfold cntE T T T T;simp only[g _ (Nat.le_refl _)]
 decide
theorem yy:(λx=>phi 4 65535 255 255 x&&flF (phi 2 65535 255 255) x) (envOf 14 (codeR 2 1 0 0))=true:=by decide
theorem yz:(λx=>phi 4 65535 255 255 x&&flF (phi 2 65535 255 255) x) (envOf 14 (codeR 2 3 0 0))=false:=by decide
theorem yA{P:Nat->Bool}{v:Int}(h:RoundV 1 P v)(h0:P 0=false)(h1:P 1=true):v=1:=by
 obtain⟨k,⟨f1,f2,f3⟩,rfl⟩:=h;have k1:k=1:=by
  by_cases a:k=0
  ·have:=f3 0 (by omega) (by omega);rw[h0]at this;cases this
  by_cases b:k=2
  ·have:=f2 1 (by omega);rw[h1]at this;cases this
  omega
 rw[k1];rfl
theorem yB{P:Nat->Bool}{v:Int}(h:RoundV 1 P v)(h0:P 0=false)(h1:P 1=false):v=-1:=by
 obtain⟨k,⟨f1,f2,f3⟩,rfl⟩:=h;have k1:k=2:=by
  by_cases a:k=0
  ·have:=f3 0 (by omega) (by omega);rw[h0]at this;cases this
  by_cases b:k=1
  ·have:=f3 1 (by omega) (by omega);rw[h1]at this;cases this
  omega
 rw[k1];rfl
abbrev ruleC:Array Value:=#[.bool true,.int .u16 65535,.int .u16 65535,.int .u8 255,.int .u8 255]
theorem yC(w:World):SlAt (w.alloc (.cells ruleC 64)).heap.size (w.alloc (.cells ruleC 64)) 5 aY (.slice (some ⟨w,0,none⟩) 1 1) [iw true]:=by
 have h:=qJ w ruleC 64;refine⟨some ⟨w,0,none⟩,1,rfl,(λe=>by cases e),Nat.le_refl _,by decide,λ_=>⟨w,0,rfl,h.lt,λk x hx=>?_⟩⟩
 match k,hx with
 | 0,hx =>
   obtain rfl:=Option.some.inj hx;refine⟨ruleC.toList,rfl,rfl,λj u hj=>?_⟩;rw[show 0+0*5+j=j by omega,h.atR];simpa using hj
theorem oU{α:Type}(w:World)(n:Nat)(R:List Value->α->Prop):SlAt w w n R (.slice none 0 0) []:=⟨none,0,rfl,λ_=>rfl,Nat.le_refl _,Nat.zero_le _,λh=>absurd rfl h⟩
theorem yD(w:World):CB 5 #[] w (.bool true):=by
 have AL:Hd (∀w,CB 20 #[.bool true] w (.agg #[.bool true,.int .u16 65535,.int .u16 65535,.int .u8 255,.int .u8 255])):=⟨λw=>Cc true w⟩;have CH:Hd (∀w:World,Cl 19 #[.agg #[.string ⟨#[]⟩,.int .i64 3,.int .i64 0,.int .u8 0,.slice none 0 0,.slice (some ⟨w,0,none⟩) 1 1,.slice none 0 0]] (w.alloc (.cells ruleC 64)) λe w'=>∃b b',e=.returned (.agg #[.slice (some ⟨b,0,none⟩) 3 3,.slice (some ⟨b',0,none⟩) 2 2]) /\ Hd (Devs w' w' (.slice (some ⟨b,0,none⟩) 3 3) dsC /\ Links w' w' (.slice (some ⟨b',0,none⟩) 2 2) lsC) /\ Below w w w'):=⟨λw=>by
  refine(BV (gz [iw true]) _ _ _ _ (oU _ 1 IsI) (yC w) (oU _ 3 br)).mono λe w' ⟨b,b',h1,h2,h3,h4⟩=>⟨b,b',h1,⟨h2,h3⟩,ag h4 (Below.alloc' (Below.refl _ _) _)⟩⟩
 have NW:Hd (∀(W:World) (b b':Nat),Devs W W (.slice (some ⟨b,0,none⟩) 3 3) dsC /\ Links W W (.slice (some ⟨b',0,none⟩) 2 2) lsC->Cl 7 #[.agg #[.slice (some ⟨b,0,none⟩) 3 3,.slice (some ⟨b',0,none⟩) 2 2],.int .i64 40000] W λe w'=>∃(R:Nat) (I:World->Prop),e=.returned (.tuple #[.pointer R,.int .i64 0]) /\ Below W W w' /\ I w' /\ Hd ((∀V V':World,Below V V V'->I V->I V') /\ (∀V,I V->CS 21 #[.pointer R] V (.int .i64 1)) /\ (∀V,I V->CB 22 #[.pointer R,.agg #[.int .i64 2,.int .i64 0]] V (.int .i64 1024)) /\ (∀V,I V->CB 24 #[.pointer R,.agg #[.int .i64 0,.int .i64 0],.agg #[.int .i64 2,.int .i64 1,.int .i64 0,.int .i64 0]] V (.int .i64 1)) /\ (∀V,I V->CB 24 #[.pointer R,.agg #[.int .i64 0,.int .i64 0],.agg #[.int .i64 2,.int .i64 3,.int .i64 0,.int .i64 0]] V (.int .i64 (-1))))):=⟨λW b b' ⟨hD,hL⟩=>by
  refine(pI (some ⟨b,0,none⟩) (some ⟨b',0,none⟩) 3 2 dsC lsC 40000 (by omega) (by omega) yo yp hD hL 255 False (λk _ i q a b d hd _ _ _=>yr k i q a b d hd)).mono λe w' h=>?_;obtain⟨hb,⟨bR,R,MR,K,sl,xs,ns,s,h1,h2,hF⟩|⟨_,hE⟩⟩:=h.made
  ·obtain rfl:=yw hF.up hF.fix;refine⟨R,λV=>RcF dsC lsC bR R MR 40000 1 sl xs ns s V,h1,hb,hF,⟨λV V' k h=>h.below k,λV h=>BQ h,λV h=>?_,λV h=>?_,λV h=>?_⟩⟩
   ·have hc:=BS h 2 0;rw[show atF dsC lsC 1 2 0=phi 2 65535 255 255 from(iv (a:=2) (b:=0) 1 (by omega) (by omega)).trans oR,yx]at hc;exact hc
   ·refine(lV h 0 0 2 1 0 0 (by decide)).mono λe w' ⟨v,v1,v2,v3⟩=>⟨?_,v3⟩;have a0:atF dsC lsC 0 0 0=λ_=>false:=(iv (a:=0) (b:=0) 0 (by omega) (by omega)).trans oT;have a1:atF dsC lsC 1 0 0=λx=>phi 4 65535 255 255 x&&flF (phi 2 65535 255 255) x:=(iv (a:=0) (b:=0) 1 (by omega) (by omega)).trans oS;rw[v1,yA v2.out (by show atF dsC lsC 0 0 0 _=false;rw[a0]) (by show atF dsC lsC 1 0 0 _=true;rw[a1];exact yy)]
   ·refine(lV h 0 0 2 3 0 0 (by decide)).mono λe w' ⟨v,v1,v2,v3⟩=>⟨?_,v3⟩;have a0:atF dsC lsC 0 0 0=λ_=>false:=(iv (a:=0) (b:=0) 0 (by omega) (by omega)).trans oT;have a1:atF dsC lsC 1 0 0=λx=>phi 4 65535 255 255 x&&flF (phi 2 65535 255 255) x:=(iv (a:=0) (b:=0) 1 (by omega) (by omega)).trans oS;rw[v1,yB v2.out (by show atF dsC lsC 0 0 0 _=false;rw[a0]) (by show atF dsC lsC 1 0 0 _=false;rw[a1];exact yz)]
  ·exact absurd hE yu⟩
 have PL:Hd (∀(x y:Int) w,CB 23 #[x,y] w (.agg #[x,y])):=⟨λx y w=>Ca x y w⟩;go_enter Tryz.func5,Tryz.ntmps5;go_wp2_with fail;refine(AL.out _).mono ?_;rintro e w1⟨rfl,hb1⟩;go_wp2_with fail;refine(CH.out w1).mono ?_;rintro e w2⟨b,b',rfl,HN,hb2⟩;have D2:=ag hb2 hb1;clear hb1 hb2 AL CH;go_wp2_with fail;refine(NW.out w2 b b' HN.out).mono ?_;rintro e w3⟨R,I,rfl,hb3,I3,H3⟩;have D3:=ag hb3 D2;have KI:=Hd.mk H3.out.1;have RO:=Hd.mk H3.out.2.1;have CO:=Hd.mk H3.out.2.2.1;have R1:=Hd.mk H3.out.2.2.2.1;have R2:=Hd.mk H3.out.2.2.2.2;clear NW hb3 D2 HN H3;go_wp2_with fail;refine(RO.out _ I3).mono ?_;rintro e w4⟨rfl,rfl⟩;go_wp2_with fail;refine(PL.out 2 0 _).mono ?_;rintro e w5⟨rfl,hb5⟩;have D5:=ag hb5 D3;have I5:=KI.out _ _ hb5 I3;clear hb5 D3 I3 RO;go_wp2_with fail;refine(CO.out _ I5).mono ?_;rintro e w6⟨rfl,hb6⟩;have D6:=ag hb6 D5;have I6:=KI.out _ _ hb6 I5;clear hb6 D5 I5 CO;go_wp2_with fail;refine(PL.out 0 0 _).mono ?_;rintro e w7⟨rfl,hb7⟩;have D7:=ag hb7 D6;have I7:=KI.out _ _ hb7 I6;clear hb7 D6 I6;go_wp2_with fail;refine(R1.out _ I7).mono ?_;rintro e w8⟨rfl,hb8⟩;have D8:=ag hb8 D7;have I8:=KI.out _ _ hb8 I7;clear hb8 D7 I7 R1;go_wp2_with fail;refine(PL.out 0 0 _).mono ?_;rintro e w9⟨rfl,hb9⟩;have D9:=ag hb9 D8;have I9:=KI.out _ _ hb9 I8;clear hb9 D8 I8;go_wp2_with fail;refine(R2.out _ I9).mono ?_;rintro e wa⟨rfl,hba⟩;have Da:=ag hba D9;clear hba D9 I9 R2 KI PL;go_wp2_with fail;go_ret;exact⟨rfl,Da⟩
theorem oV{ds:List Dv}:∀(m k:Nat),ds.length-k<=m->bU ds k=0->∀j d,k<=j->ds[j]?=some d->bE ds j d=0
 | 0,k,h,_,j,d,hj,hd=>by
   have:=(List.getElem?_eq_some_iff.1 hd).1;omega
 | m+1,k,h,h0,j,d,hj,hd=>by
   have hjl:=(List.getElem?_eq_some_iff.1 hd).1;have hk:k<ds.length:=by omega
   rw[dL (List.getElem?_eq_getElem hk)]at h0
   split at h0
   ·rename_i hw
    by_cases e:j=k
    ·subst e;rw[List.getElem?_eq_getElem hk,Option.some.injEq]at hd;rw[<- hd];exact hw
    ·exact oV m (k+1) (by omega) h0 j d (by omega) hd
   ·rename_i hw
    exact absurd h0 hw
theorem kO{ds:List Dv}{ls:List Lk}(h:netV ds ls=0):∀d∈ds,aE d=0:=by
 intro d hd;obtain⟨k,hk,e⟩:=List.mem_iff_getElem.1 hd;unfold netV at h
 split at h
 ·simp at h
 ·split at h
  ·rename_i hz
   have:=oV ds.length 0 (by omega) hz k d (Nat.zero_le _) (by rw[List.getElem?_eq_getElem hk,e]);unfold bE at this
   split at this
   ·split at this
    ·simp at this
    ·exact this
   ·simp at this
  ·rename_i hz
   exact absurd h hz
def yE(l:Lk):List Value:=[.int .i64 l.a,.int .i64 l.p,.int .i64 l.b,.int .i64 l.q]
def yF(ls:List Lk):List Value:=ls.flatMap yE
structure FL(w:World)(vd vl:Value)(pc:Array Value)(MB:Nat)(vm:Value)(ms:List Lk)(W:World):Prop where
 be:Below w w W
 bN:Bz W w.heap.size #[vd,vl] 25
 bP:Bz W (w.heap.size+1) pc 37
 bM:Bz W MB #[vd,vm] 25
 row:W.ownsRow w 118 4 vm ms.length (yF ms)
 lM:w.heap.size+1<MB
section
variable {w W W':World}{vd vl vm:Value}{pc:Array Value}{MB:Nat}{ms:List Lk}
end
theorem yG(A B:Option Addr)(cap e9:Nat)(ds:List Dv)(ls:List Lk)(w:World)(hD:Devs w w (.slice A ds.length cap) ds)(hL:Links w w (.slice B ls.length e9) ls) :
  Cl 7 #[.agg #[.slice A ds.length cap,.slice B ls.length e9],.int .i64 40000] w λe w'=>Below w w w' /\ ((∃(bR R MR K:Nat) (sl:Value) (xs:List Value) (ns:List Nd) (s:Nat->Nat->Nat->Nat),e=.returned (.tuple #[.pointer R,.int .i64 0]) /\ Hd (netV ds ls=0 /\ RcF ds ls bR R MR 40000 K sl xs ns s w'))\/∃er:Int,e=.returned (.tuple #[.pointer none,er]) /\ er≠0 /\ (er=6\/er=netV ds ls)):=by
 by_cases hz:netV ds ls=0
 ·refine(pI A B cap e9 ds ls 40000 (by omega) (by omega) hz (kO hz) hD hL 40000 True (λk _ i q a b d hd _ _ _=>uy (kO hz d (List.mem_of_getElem? hd)) _ _ _ _ _ _)).mono λe w' h=>?_;obtain⟨hb,⟨bR,R,MR,K,sl,xs,ns,s,h1,h2,hF⟩|⟨h1,_⟩⟩:=h.made
  ·exact⟨hb,Or.inl ⟨bR,R,MR,K,sl,xs,ns,s,h1,⟨hz,hF⟩⟩⟩
  ·exact⟨hb,Or.inr ⟨6,h1,by omega,Or.inl rfl⟩⟩
 ·exact(yW _ _ ds ls 40000 w hD hL hz).mono λe w' ⟨h1,h2⟩=>⟨h2,Or.inr ⟨_,h1,hz,Or.inr rfl⟩⟩
def pkE(p:Pk):Env:=λv=>if v<4 then p.s.toNat.testBit (3-v)else if v<8 then p.d.toNat.testBit (7-v)else if v<11 then p.sp.toNat.testBit (10-v)else if v<14 then p.dp.toNat.testBit (13-v)else false
theorem jq{k first n:Nat}{x:Env}(hn:n<2 ^ k)(h:∀j,j<k->x (first+j)=n.testBit (k-1-j)):val k first x=n:=by
 refine Nat.eq_of_testBit_eq λi=>?_;by_cases hi:i<k
 ·have e:=gc k first x (k-1-i) (by omega);rw[h _ (by omega),show k-1-(k-1-i)=i by omega]at e;exact e
 ·rw[Nat.testBit_lt_two_pow (Nat.lt_of_lt_of_le (fp k first x) (Nat.pow_le_pow_right (by omega) (by omega))),Nat.testBit_lt_two_pow (Nat.lt_of_lt_of_le hn (Nat.pow_le_pow_right (by omega) (by omega)))]
theorem bW{p:Pk}(h:ae p=true):(0<=p.s /\ p.s<16) /\ (0<=p.d /\ p.d<16) /\ (0<=p.sp /\ p.sp<8) /\ (0<=p.dp /\ p.dp<8):=by
 unfold ae adB poB at h;simp only[Bool.and_eq_true,decide_eq_true_eq]at h;obtain⟨⟨⟨h1,h2⟩,h3⟩,h4⟩:=h;exact⟨h1,h2,h3,h4⟩
theorem cB{p:Pk}(h1:0<=p.s /\ p.s<16)(h2:0<=p.d /\ p.d<16)(h3:0<=p.sp /\ p.sp<8)(h4:0<=p.dp /\ p.dp<8):ae p=true:=by
 unfold ae adB poB;simp only[Bool.and_eq_true,decide_eq_true_eq];exact⟨⟨⟨h1,h2⟩,h3⟩,h4⟩
theorem bF(sa sb sc sd:Nat){p:Pk}(h:ae p=true):phi sa sb sc sd (pkE p)=(sa.testBit p.s.toNat&&(sb.testBit p.d.toNat&&(sc.testBit p.sp.toNat&&sd.testBit p.dp.toNat))):=by
 obtain⟨h1,h2,h3,h4⟩:=bW h;unfold phi;rw[ed,ed,ed,ed,Bool.and_true,
  jq (k:=4) (first:=0) (n:=p.s.toNat) (by show _<16;omega) (λj hj=>by unfold pkE;rw[if_pos (by omega)];congr 1;omega),
  jq (k:=4) (first:=4) (n:=p.d.toNat) (by show _<16;omega) (λj hj=>by unfold pkE;rw[if_neg (by omega),if_pos (by omega)];congr 1;omega),
  jq (k:=3) (first:=8) (n:=p.sp.toNat) (by show _<8;omega) (λj hj=>by unfold pkE;rw[if_neg (by omega),if_neg (by omega),if_pos (by omega)];congr 1;omega),
  jq (k:=3) (first:=11) (n:=p.dp.toNat) (by show _<8;omega) (λj hj=>by unfold pkE;rw[if_neg (by omega),if_neg (by omega),if_neg (by omega),if_pos (by omega)];congr 1;omega)]
theorem fF:∀(xs:List Rl) {p:Pk},ae p=true->ao xs (pkE p)=letsB xs p.s p.d p.sp p.dp
 | [],_,_=>rfl
 | r::l,p,h=>by
   have e:phi r.a r.b r.c r.d (pkE p)=inR r p.s p.d p.sp p.dp:=by
    rw[bF _ _ _ _ h];obtain⟨h1,h2,h3,h4⟩:=bW h;unfold inR inB hasB;rw[decide_eq_true h1.1,decide_eq_true h2.1,decide_eq_true h3.1,decide_eq_true h4.1];simp[Bool.and_assoc]
   rw[ao,letsB,e,fF l h]
theorem dP(φ:Env->Bool)(i:Nat):∀(k:Nat) (x y:Env),(∀v,v<i\/i+k<=v->y v=x v)->φ y=true->anF φ i k x=true
 | 0,x,y,h,hy=>by
   have:y=x:=funext λv=>h v (by omega);rw[<- this];exact hy
 | k+1,x,y,h,hy=>by
   have ih:=dP φ i k (setE x (i+k) (y (i+k))) y (λv hv=>by
    by_cases e:v=i+k
    ·rw[e,gm]
    ·rw[cM _ _ e];exact h v (by omega)) hy
   show(anF φ i k (setE x (i+k) false)||anF φ i k (setE x (i+k) true))=true;rw[Bool.or_eq_true];cases hb:y (i+k)
   ·rw[hb]at ih;exact Or.inl ih
   ·rw[hb]at ih;exact Or.inr ih
theorem gh(φ:Env->Bool)(p:Pk):flF φ (pkE p)=φ (pkE (aN p)):=by
 show φ (swE (swE (swE (swE (swE (swE (swE (pkE p) 10 13) 9 12) 8 11) 3 7) 2 6) 1 5) 0 4)=_
 congr 1
 funext v
 match v with
 | 0=>rfl
 | 1=>rfl
 | 2=>rfl
 | 3=>rfl
 | 4=>rfl
 | 5=>rfl
 | 6=>rfl
 | 7=>rfl
 | 8=>rfl
 | 9=>rfl
 | 10=>rfl
 | 11=>rfl
 | 12=>rfl
 | 13=>rfl
 | n+14=>simp[swE,pkE,show ¬n+14<4 by omega,show ¬n+14<8 by omega,show ¬n+14<11 by omega,show ¬n+14<14 by omega]
theorem kP(s s' d sp dp:Int)(v:Nat)(h:v<0\/0+4<=v):pkE ⟨s,d,sp,dp⟩ v=pkE ⟨s',d,sp,dp⟩ v:=by
 simp[pkE,show ¬v<4 by omega]
theorem im(s d d' sp dp:Int)(v:Nat)(h:v<4\/4+4<=v):pkE ⟨s,d,sp,dp⟩ v=pkE ⟨s,d',sp,dp⟩ v:=by
 rcases h with h|h
 ·simp[pkE,h]
 ·simp[pkE,show ¬v<4 by omega,show ¬v<8 by omega]
theorem oW(s d sp sp' dp:Int)(v:Nat)(h:v<8\/8+3<=v):pkE ⟨s,d,sp,dp⟩ v=pkE ⟨s,d,sp',dp⟩ v:=by
 rcases h with h|h
 ·simp[pkE,h]
 ·simp[pkE,show ¬v<4 by omega,show ¬v<8 by omega,show ¬v<11 by omega]
theorem kQ(s d sp dp dp':Int)(v:Nat)(h:v<11\/11+3<=v):pkE ⟨s,d,sp,dp⟩ v=pkE ⟨s,d,sp,dp'⟩ v:=by
 rcases h with h|h
 ·simp[pkE,h]
 ·simp[pkE,show ¬v<4 by omega,show ¬v<8 by omega,show ¬v<11 by omega,show ¬v<14 by omega]
def L14(φ:Env->Bool):Prop:=∀x y:Env,(∀i,i<14->x i=y i)->φ x=φ y
section
variable {φ ψ φ0 φ1 φ2 φ3:Env->Bool}
theorem L14.phi(a b c d:Nat):L14 (phi a b c d):=λx y h=>by
 unfold Go.Proofs.YtjmclcmgpaofiaaGreat.phi;rw[eE 4 a 0 x y (λi h1 h2=>h i (by omega)),eE 4 b 4 x y (λi h1 h2=>h i (by omega)),eE 3 c 8 x y (λi h1 h2=>h i (by omega)),eE 3 d 11 x y (λi h1 h2=>h i (by omega))]
theorem L14.lets(xs:List Rl):L14 (ao xs):=oI xs
theorem L14.and(h:L14 φ)(g:L14 ψ):L14 (λx=>φ x&&ψ x):=λx y e=>by
 show(φ x&&ψ x)=(φ y&&ψ y);rw[h x y e,g x y e]
theorem L14.or(h:L14 φ)(g:L14 ψ):L14 (λx=>φ x||ψ x):=λx y e=>by
 show(φ x||ψ x)=(φ y||ψ y);rw[h x y e,g x y e]
theorem L14.an(h:L14 φ)(i:Nat):∀k,L14 (anF φ i k)
 | 0=>h
 | k+1=>λx y e=>by
   have g:∀b,∀j,j<14->setE x (i+k) b j=setE y (i+k) b j:=λb j hj=>by
    unfold setE
    split
    ·rfl
    ·exact e j hj
   show(anF φ i k (setE x (i+k) false)||anF φ i k (setE x (i+k) true))=(anF φ i k (setE y (i+k) false)||anF φ i k (setE y (i+k) true));rw[h.an i k _ _ (g false),h.an i k _ _ (g true)]
theorem L14.ex(h:L14 φ)(i j:Nat):∀k,i+k<=14->j+k<=14->L14 (exF φ i j k)
 | 0,_,_=>h
 | k+1,hi,hj=>λx y e=>h.ex i j k (by omega) (by omega) _ _ (λv hv=>by
   unfold swE
   split
   ·exact e _ (by omega)
   split
   ·exact e _ (by omega)
   ·exact e v hv)
theorem L14.fl(h:L14 φ):L14 (flF φ):=(h.ex 0 4 4 (by omega) (by omega)).ex 8 11 3 (by omega) (by omega)
theorem L14.send(h0:L14 φ0)(h1:L14 φ1)(h2:L14 φ2)(h3:L14 φ3)(d:Dv)(pt:Int):L14 (aI d pt φ0 φ1 φ2 φ3):=by
 have hf:L14 (λ_=>false):=λ_ _ _=>rfl;unfold aI
 split
 ·exact(((((hf.or h0).or h1).or h2).or h3).and (L14.phi _ _ _ _)).and (L14.lets _)
 split
 ·split
  ·exact h0.and (L14.lets _)
  ·exact h1.and (h0.and (L14.lets _)).fl
 split
 ·split
  ·exact((h0.an 8 3).an 0 4).and (L14.phi _ _ _ _)
  ·exact(((h1.and (L14.phi _ _ _ _)).an 11 3).an 4 4).and ((h0.an 11 3).an 4 4).fl
 split
 ·split
  ·exact(h0.and (L14.phi _ _ _ _)).or ((((h0.and (L14.phi _ _ _ _)).an 4 4)).and (L14.phi _ _ _ _))
  ·exact h1.or (((h1.and ((L14.phi _ _ _ _).and ((h0.and (L14.phi _ _ _ _)).an 4 4).fl)).an 0 4).and (L14.phi _ _ _ _))
 ·exact hf
end
section
variable {ds:List Dv}{ls:List Lk}{K:Nat}
theorem L14.set:∀k a b,L14 (ak ds ls k a b)
 | 0,a,b=>λx y e=>Bool.eq_iff_iff.2 (by
   rw[eh,eh];constructor
   ·rintro⟨i,d,h1,h2,h3,h4,h5⟩;exact⟨i,d,h1,h2,h3,h4,by rw[<- L14.phi _ _ _ _ x y e];exact h5⟩
   ·rintro⟨i,d,h1,h2,h3,h4,h5⟩;exact⟨i,d,h1,h2,h3,h4,by rw[L14.phi _ _ _ _ x y e];exact h5⟩)
 | k+1,a,b=>λx y e=>Bool.eq_iff_iff.2 (by
   have S:∀d pt i,aI d pt (ak ds ls k i 0) (ak ds ls k i 1) (ak ds ls k i 2) (ak ds ls k i 3) x=aI d pt (ak ds ls k i 0) (ak ds ls k i 1) (ak ds ls k i 2) (ak ds ls k i 3) y:=λd pt i=>L14.send (L14.set k i 0) (L14.set k i 1) (L14.set k i 2) (L14.set k i 3) d pt x y e;rw[cD,cD,L14.set k a b x y e];refine or_congr Iff.rfl ⟨?_,?_⟩
   ·rintro⟨i,q,d,h1,h2,h3,h4,h5,h6⟩;exact⟨i,q,d,h1,h2,h3,h4,h5,by rw[<- S];exact h6⟩
   ·rintro⟨i,q,d,h1,h2,h3,h4,h5,h6⟩;exact⟨i,q,d,h1,h2,h3,h4,h5,by rw[S];exact h6⟩)
theorem L14.at(p q:Int):L14 (atF ds ls K p q):=by
 unfold atF
 split
 ·exact L14.set _ _ _
 ·exact λ_ _ _=>rfl
end
theorem oX{p:Pk}(h:ae p=true)(v:Nat)(hv:v<14):envOf 14 (codeR p.s p.d p.sp p.dp) v=pkE p v:=by
 obtain⟨h1,h2,h3,h4⟩:=bW h;generalize hc:codeR p.s p.d p.sp p.dp=c;have hc':(c:Int)=p.s*1024+p.d*64+p.sp*8+p.dp:=by
  rw[<- hc];unfold codeR;omega
 have e1:val 4 0 (envOf 14 c)=p.s.toNat:=by rw[eD 14 c 4 0 (by omega)];show c / 1024 % 16=_;omega
 have e2:val 4 4 (envOf 14 c)=p.d.toNat:=by rw[eD 14 c 4 4 (by omega)];show c / 64 % 16=_;omega
 have e3:val 3 8 (envOf 14 c)=p.sp.toNat:=by rw[eD 14 c 3 8 (by omega)];show c / 8 % 8=_;omega
 have e4:val 3 11 (envOf 14 c)=p.dp.toNat:=by rw[eD 14 c 3 11 (by omega)];show c / 1 % 8=_;omega
 unfold pkE;by_cases v4:v<4
 ·rw[if_pos v4,<- e1];have:=gc 4 0 (envOf 14 c) v v4;rw[Nat.zero_add]at this;exact this.symm
 rw[if_neg v4];by_cases v8:v<8
 ·rw[if_pos v8,<- e2];have:=gc 4 4 (envOf 14 c) (v-4) (by omega);rw[show 4+(v-4)=v by omega,show 4-1-(v-4)=7-v by omega]at this;exact this.symm
 rw[if_neg v8];by_cases v11:v<11
 ·rw[if_pos v11,<- e3];have:=gc 3 8 (envOf 14 c) (v-8) (by omega);rw[show 8+(v-8)=v by omega,show 3-1-(v-8)=10-v by omega]at this;exact this.symm
 rw[if_neg v11,if_pos hv,<- e4];have:=gc 3 11 (envOf 14 c) (v-11) (by omega);rw[show 11+(v-11)=v by omega,show 3-1-(v-11)=13-v by omega]at this;exact this.symm
theorem cU{n:Int}(h:0<=n /\ n<16):Nat.testBit 65535 n.toNat=true:=by
 have:∀m,m<16->Nat.testBit 65535 m=true:=by decide
 exact this _ (by omega)
theorem bG{n:Int}(h:0<=n /\ n<8):Nat.testBit 255 n.toNat=true:=by
 have:∀m,m<8->Nat.testBit 255 m=true:=by decide
 exact this _ (by omega)
theorem jr:∀(l:List Int) (z i:Nat),(setL l z).testBit i=true ↔ z.testBit i=true\/∃x∈l,x.toNat=i
 | [],z,i=>by simp[setL]
 | x::l,z,i=>by
   rw[setL,jr l,Nat.testBit_or,Nat.testBit_two_pow];simp;constructor
   ·rintro((h|h)|h)
    ·exact Or.inl h
    ·exact Or.inr (Or.inl h)
    ·exact Or.inr (Or.inr h)
   ·rintro(h|h|h)
    ·exact Or.inl (Or.inl h)
    ·exact Or.inl (Or.inr h)
    ·exact Or.inr h
theorem kR{l:List Int}{x:Int}(h:x∈l):(setL l 0).testBit x.toNat=true:=(jr l 0 _).2 (Or.inr ⟨x,h,rfl⟩)
theorem eG(x:Int):(setL [x] 0).testBit x.toNat=true:=kR (by simp)
theorem yH{x y:Int}(hx:0<=x /\ x<16)(hy:0<=y /\ y<16)(h:¬y=x):(ft (setL [x] 0)).testBit y.toNat=true:=by
 rw[(iS _).2.2 _ (by omega)];cases hb:(setL [x] 0).testBit y.toNat
 ·rfl
 ·rw[jr]at hb;simp at hb;omega
theorem kS{d:Dv}{i:Int}{I:cI}{F:Nat->Env->Bool}(hI:∀(q:Nat) (p:Pk),q<4->I (i,(q:Int)) p->F q (pkE p)=true)(hd:aE d=0){o:Int}{p:Pk}(hp:ae p=true)(hs:az d i I o p):aI d o (F 0) (F 1) (F 2) (F 3) (pkE p)=true:=by
 obtain⟨_,ha,hbs,_,_⟩:=fU hd;obtain⟨h1,h2,h3,h4⟩:=bW hp;unfold az at hs;unfold aI;by_cases k2:d.kind=2
 ·rw[if_pos k2]at hs ⊢;obtain⟨q,q0,q4,hq,hl,ho,hn⟩:=hs;have e:F q.toNat (pkE p)=true:=hI q.toNat p (by omega) (by rw[show((q.toNat:Nat):Int)=q by omega];exact hq);have e1:orP (F 0) (F 1) (F 2) (F 3) 4 (pkE p)=true:=by
   show((((false||F 0 (pkE p))||F 1 (pkE p))||F 2 (pkE p))||F 3 (pkE p))=true;have hq:q.toNat=0\/q.toNat=1\/q.toNat=2\/q.toNat=3:=by omega
   rcases hq with h|h|h|h <;> rw[h]at e <;> simp[e]
  have e2:(cZ (fq d) o 16).testBit p.d.toNat=true:=by
   rw[gN,decide_eq_true (show p.d.toNat<16 by omega)];unfold bL;rw[show((p.d.toNat:Nat):Int)=p.d by omega];show(true&&(outB (routesOf d) p.d&&(outN (routesOf d) p.d == o)))=true;rw[ho,hn];simp
  have e3:ao (aS d) (pkE p)=true:=by rw[fF _ hp];exact hl
  show(((orP (F 0) (F 1) (F 2) (F 3) 4 (pkE p))&&(phi 65535 (cZ (fq d) o 16) 255 255 (pkE p)))&&ao (aS d) (pkE p))=true;rw[e1,e3,bF _ _ _ _ hp,cU h1,e2,bG h3,bG h4];rfl
 rw[if_neg k2]at hs ⊢;by_cases k3:d.kind=3
 ·rw[if_pos k3]at hs ⊢;by_cases o1:o=1
  ·rw[if_pos o1]at hs ⊢;show(F 0 (pkE p)&&ao (aS d) (pkE p))=true;rw[hI 0 p (by omega) hs.1,fF _ hp];exact hs.2
  ·rw[if_neg o1]at hs ⊢;obtain⟨_,g1,g2,g3⟩:=hs;show(F 1 (pkE p)&&flF (λx=>F 0 x&&ao (aS d) x) (pkE p))=true;rw[gh,hI 1 p (by omega) g1];show(true&&(F 0 (pkE (aN p))&&ao (aS d) (pkE (aN p))))=true;rw[hI 0 _ (by omega) g2,fF _ (p:=aN p) (cB h2 h1 h4 h3)];exact g3
 rw[if_neg k3]at hs ⊢;by_cases k4:d.kind=4
 ·rw[if_pos k4]at hs ⊢;by_cases o1:o=1
  ·rw[if_pos o1]at hs ⊢;obtain⟨g1,g2,s,sp,g3⟩:=hs;have gp:d.pool.testBit p.sp.toNat=true:=by
    unfold cj at g2;simp only[Bool.and_eq_true]at g2;exact g2.2
   show(anF (anF (F 0) 8 3) 0 4 (pkE p)&&phi (setL [d.addr] 0) 65535 d.pool 255 (pkE p))=true;rw[dP _ 0 4 (pkE p) (pkE ⟨s,p.d,p.sp,p.dp⟩) (kP _ _ _ _ _) (dP _ 8 3 _ (pkE ⟨s,p.d,sp,p.dp⟩) (oW _ _ _ _ _) (hI 0 _ (by omega) g3)),bF _ _ _ _ hp,g1,eG,cU h2,gp,bG h4];rfl
  ·rw[if_neg o1]at hs ⊢;obtain⟨_,⟨k,g1,g2⟩,x,y,g3⟩:=hs;unfold cj poB at g1;simp only[Bool.and_eq_true,decide_eq_true_eq]at g1;obtain⟨gk,gp⟩:=g1;show(anF (anF (λx=>F 1 x&&phi 65535 (setL [d.addr] 0) 255 d.pool x) 11 3) 4 4 (pkE p)&&flF (anF (anF (F 0) 11 3) 4 4) (pkE p))=true;rw[gh,dP _ 4 4 (pkE p) (pkE ⟨p.s,d.addr,p.sp,p.dp⟩) (im _ _ _ _ _) (dP _ 11 3 _ (pkE ⟨p.s,d.addr,p.sp,k⟩) (kQ _ _ _ _ _) (by
    show(F 1 (pkE ⟨p.s,d.addr,p.sp,k⟩)&&phi 65535 (setL [d.addr] 0) 255 d.pool (pkE ⟨p.s,d.addr,p.sp,k⟩))=true;rw[hI 1 _ (by omega) g2,bF _ _ _ _ (p:=⟨p.s,d.addr,p.sp,k⟩) (cB h1 ha h3 gk),cU h1,eG,bG h3,gp];rfl)),
    dP _ 4 4 (pkE (aN p)) (pkE ⟨p.d,x,p.dp,p.sp⟩) (im _ _ _ _ _) (dP _ 11 3 _ (pkE ⟨p.d,x,p.dp,y⟩) (kQ _ _ _ _ _) (hI 0 _ (by omega) g3))]
   rfl
 rw[if_neg k4]at hs ⊢;by_cases k5:d.kind=5
 ·rw[if_pos k5]at hs ⊢;by_cases o1:o=1
  ·rw[if_pos o1]at hs ⊢;show((F 0 (pkE p)&&phi 65535 (ft (setL [d.addr] 0)) 255 255 (pkE p))||(anF (λx=>F 0 x&&phi 65535 (setL [d.addr] 0) 255 255 x) 4 4 (pkE p)&&phi 65535 (setL d.backs 0) 255 255 (pkE p)))=true;rw[Bool.or_eq_true];rcases hs with⟨g1,g2⟩|⟨g1,g2⟩
   ·refine Or.inl ?_;rw[hI 0 _ (by omega) g1,bF _ _ _ _ hp,cU h1,yH ha h2 g2,bG h3,bG h4];rfl
   ·refine Or.inr ?_;rw[bF _ _ _ _ hp,cU h1,kR g1,bG h3,bG h4,dP _ 4 4 (pkE p) (pkE ⟨p.s,d.addr,p.sp,p.dp⟩) (im _ _ _ _ _) (by
     show(F 0 (pkE ⟨p.s,d.addr,p.sp,p.dp⟩)&&phi 65535 (setL [d.addr] 0) 255 255 (pkE ⟨p.s,d.addr,p.sp,p.dp⟩))=true;rw[hI 0 _ (by omega) g2,bF _ _ _ _ (p:=⟨p.s,d.addr,p.sp,p.dp⟩) (cB h1 ha h3 h4),cU h1,eG,bG h3,bG h4];rfl)]
    rfl
  ·rw[if_neg o1]at hs ⊢;show(F 1 (pkE p)||(anF (λx=>F 1 x&&(phi (setL d.backs 0) 65535 255 255 x&&flF (anF (λx=>F 0 x&&phi 65535 (setL [d.addr] 0) 255 255 x) 4 4) x)) 0 4 (pkE p)&&phi (setL [d.addr] 0) 65535 255 255 (pkE p)))=true;rw[Bool.or_eq_true];rcases hs.2 with g1|⟨g1,b,g2,g3,g4⟩
   ·exact Or.inl (hI 1 _ (by omega) g1)
   ·have hb:=hbs b g2;refine Or.inr ?_;rw[bF _ _ _ _ hp,g1,eG,cU h2,bG h3,bG h4,dP _ 0 4 (pkE p) (pkE ⟨b,p.d,p.sp,p.dp⟩) (kP _ _ _ _ _) (by
     show(F 1 (pkE ⟨b,p.d,p.sp,p.dp⟩)&&(phi (setL d.backs 0) 65535 255 255 (pkE ⟨b,p.d,p.sp,p.dp⟩)&&flF (anF (λx=>F 0 x&&phi 65535 (setL [d.addr] 0) 255 255 x) 4 4) (pkE ⟨b,p.d,p.sp,p.dp⟩)))=true;rw[hI 1 _ (by omega) g3,bF _ _ _ _ (p:=⟨b,p.d,p.sp,p.dp⟩) (cB hb h2 h3 h4),kR g2,cU h2,bG h3,bG h4,gh,dP _ 4 4 (pkE (aN ⟨b,p.d,p.sp,p.dp⟩)) (pkE ⟨p.d,d.addr,p.dp,p.sp⟩) (im _ _ _ _ _) (by
      show(F 0 (pkE ⟨p.d,d.addr,p.dp,p.sp⟩)&&phi 65535 (setL [d.addr] 0) 255 255 (pkE ⟨p.d,d.addr,p.dp,p.sp⟩))=true;rw[hI 0 _ (by omega) g4,bF _ _ _ _ (p:=⟨p.d,d.addr,p.dp,p.sp⟩) (cB h2 ha h4 h3),cU h2,eG,bG h4,bG h3];rfl)]
     rfl)]
    rfl
 rw[if_neg k5]at hs;exact hs.elim
def ay(ds:List Dv)(ls:List Lk)(K:Nat):cI:=λt p=>atF ds ls K t.1 t.2 (pkE p)=true
theorem dQ{ds:List Dv}{ls:List Lk}{K a b:Nat}(ha:a<10)(hb:b<4):atF ds ls K (a:Int) (b:Int)=ak ds ls K a b:=by
 unfold atF;rw[if_pos (by omega)];rfl
theorem yI{ds:List Dv}{ls:List Lk}{K:Nat}(hz:netV ds ls=0)(hf:∀a b,a<10->b<4->ak ds ls (K+1) a b=ak ds ls K a b):Closed ds ls (ay ds ls K):=by
 have h10:=(bi hz).1;constructor
 ·intro i d p t hd hk hp hs hpe;obtain⟨a,b,rfl,ha,hb⟩:=fW hz hpe;have hi:=(List.getElem?_eq_some_iff.1 hd).1;obtain⟨h1,h2,h3,h4⟩:=bW hp;show atF ds ls K (a:Int) (b:Int) (pkE p)=true;rw[dQ ha hb];refine qI (Nat.zero_le K) a b _ ?_;rw[eh];refine⟨i,d,hi,hd,hk,hpe,?_⟩;rw[bF _ _ _ _ hp,hs,eG,cU h2,bG h3,bG h4];rfl
 ·intro i d o p t hd hp hs hpe;obtain⟨a,b,rfl,ha,hb⟩:=fW hz hpe;have hi:=(List.getElem?_eq_some_iff.1 hd).1;obtain⟨l,hl,he⟩:=fC hpe;have hpl:isPl ds (i:Int) o=true:=by
   have hp:=(bi hz).2.2.2 l hl;rcases dJ he with⟨e,_⟩|⟨e,_⟩
   ·have:=hp.1;rw[e.1,e.2]at this;exact this
   ·have:=hp.2;rw[e.1,e.2]at this;exact this
  unfold isPl at hpl;simp only[Bool.and_eq_true,decide_eq_true_eq]at hpl;have hk:aW ds (i:Int)=d.kind:=by
   unfold aW;simp[hd]
  rw[hk]at hpl;show atF ds ls K (a:Int) (b:Int) (pkE p)=true;rw[dQ ha hb,<- hf a b ha hb,cD];refine Or.inr ⟨i,o.toNat,d,Or.inl hi,λh=>h,hd,by omega,?_,?_⟩
  ·rw[show((o.toNat:Nat):Int)=o by omega];exact hpe
  ·rw[show((o.toNat:Nat):Int)=o by omega];exact kS (i:=(i:Int)) (I:=ay ds ls K) (F:=ak ds ls K i) (λq p hq h=>by
    have h':atF ds ls K (i:Int) (q:Int) (pkE p)=true:=h;rw[dQ (by omega) hq]at h';exact h') (kO hz d (List.mem_of_getElem? hd)) hp hs
theorem dR(φ:Env->Bool)(i:Nat):∀(k:Nat) (x:Env),anF φ i k x=true->∃y:Env,(∀v,v<i\/i+k<=v->y v=x v) /\ φ y=true
 | 0,x,h=>⟨x,λ_ _=>rfl,h⟩
 | k+1,x,h=>by
   have h':(anF φ i k (setE x (i+k) false)||anF φ i k (setE x (i+k) true))=true:=h;rw[Bool.or_eq_true]at h';have step:∀b,anF φ i k (setE x (i+k) b)=true->∃y:Env,(∀v,v<i\/i+(k+1)<=v->y v=x v) /\ φ y=true:=λb hb=>by
    obtain⟨y,h1,h2⟩:=dR φ i k _ hb;refine⟨y,λv hv=>?_,h2⟩;rw[h1 v (by omega),cM _ _ (by omega)]
   rcases h' with h'|h'
   ·exact step false h'
   ·exact step true h'
theorem js{y:Env}(k first v:Nat)(h:first<=v)(h2:v<first+k):((val k first y:Nat):Int).toNat.testBit (first+k-1-v)=y v:=by
 have:=gc k first y (v-first) (by omega);rw[show first+(v-first)=v by omega,show k-1-(v-first)=first+k-1-v by omega]at this;rw[Int.toNat_natCast];exact this
theorem oY{y:Env}{p:Pk}(h:∀v,v<0\/0+4<=v->y v=pkE p v):∃s:Int,(0<=s /\ s<16) /\ y=pkE ⟨s,p.d,p.sp,p.dp⟩:=by
 have hl:val 4 0 y<16:=fp 4 0 y;refine⟨(val 4 0 y:Nat),by omega,funext λv=>?_⟩;by_cases hv:v<4
 ·rw[<- js (y:=y) 4 0 v (by omega) (by omega)];simp[pkE,hv]
 ·rw[h v (by omega)];exact kP _ _ _ _ _ v (by omega)
theorem jt{y:Env}{p:Pk}(h:∀v,v<4\/4+4<=v->y v=pkE p v):∃d:Int,(0<=d /\ d<16) /\ y=pkE ⟨p.s,d,p.sp,p.dp⟩:=by
 have hl:val 4 4 y<16:=fp 4 4 y;refine⟨(val 4 4 y:Nat),by omega,funext λv=>?_⟩;by_cases hv:v<4\/4+4<=v
 ·rw[h v hv];exact im _ _ _ _ _ v hv
 ·rw[<- js (y:=y) 4 4 v (by omega) (by omega)];simp[pkE,show ¬v<4 by omega,show v<8 by omega]
theorem yJ{y:Env}{p:Pk}(h:∀v,v<8\/8+3<=v->y v=pkE p v):∃s:Int,(0<=s /\ s<8) /\ y=pkE ⟨p.s,p.d,s,p.dp⟩:=by
 have hl:val 3 8 y<8:=fp 3 8 y;refine⟨(val 3 8 y:Nat),by omega,funext λv=>?_⟩;by_cases hv:v<8\/8+3<=v
 ·rw[h v hv];exact oW _ _ _ _ _ v hv
 ·rw[<- js (y:=y) 3 8 v (by omega) (by omega)];simp[pkE,show ¬v<4 by omega,show ¬v<8 by omega,show v<11 by omega]
theorem oZ{y:Env}{p:Pk}(h:∀v,v<11\/11+3<=v->y v=pkE p v):∃s:Int,(0<=s /\ s<8) /\ y=pkE ⟨p.s,p.d,p.sp,s⟩:=by
 have hl:val 3 11 y<8:=fp 3 11 y;refine⟨(val 3 11 y:Nat),by omega,funext λv=>?_⟩;by_cases hv:v<11\/11+3<=v
 ·rw[h v hv];exact kQ _ _ _ _ _ v hv
 ·rw[<- js (y:=y) 3 11 v (by omega) (by omega)];simp[pkE,show ¬v<4 by omega,show ¬v<8 by omega,show ¬v<11 by omega,show v<14 by omega]
theorem kT{l:List Int}{x:Int}(hl:∀y∈l,0<=y)(hx:0<=x)(h:(setL l 0).testBit x.toNat=true):x∈l:=by
 rw[jr]at h;rcases h with h|⟨y,hy,e⟩
 ·simp at h
 ·have:=hl y hy;rw[show x=y by omega];exact hy
theorem gi{a x:Int}(ha:0<=a)(hx:0<=x)(h:(setL [a] 0).testBit x.toNat=true):x=a:=by
 have:=kT (l:=[a]) (λy hy=>by simp at hy;omega) hx h;simpa using this
theorem kU{d:Dv}{i:Int}{I:cI}{F:Nat->Env->Bool}(hI:∀(q:Nat) (p:Pk),q<4->ae p=true->F q (pkE p)=true->I (i,(q:Int)) p)(hd:aE d=0){o:Int}(ho:0<=o /\ o<portsV d.kind){p:Pk}(hp:ae p=true)(hs:aI d o (F 0) (F 1) (F 2) (F 3) (pkE p)=true):az d i I o p:=by
 obtain⟨_,ha,hbs,_,_⟩:=fU hd;obtain⟨h1,h2,h3,h4⟩:=bW hp;unfold aI at hs;unfold az;by_cases k2:d.kind=2
 ·rw[if_pos k2]at hs ⊢;have hs':(((orP (F 0) (F 1) (F 2) (F 3) 4 (pkE p))&&(phi 65535 (cZ (fq d) o 16) 255 255 (pkE p)))&&ao (aS d) (pkE p))=true:=hs;rw[bF _ _ _ _ hp,fF _ hp]at hs';simp only[Bool.and_eq_true]at hs';obtain⟨⟨g1,_,g2,_,_⟩,g3⟩:=hs';have g1':((((false||F 0 (pkE p))||F 1 (pkE p))||F 2 (pkE p))||F 3 (pkE p))=true:=g1;rw[gN]at g2;unfold bL at g2;rw[show((p.d.toNat:Nat):Int)=p.d by omega]at g2;simp only[Bool.and_eq_true,decide_eq_true_eq,beq_iff_eq]at g2;simp only[Bool.or_eq_true,Bool.false_eq_true,false_or]at g1';obtain⟨q,hq,hF⟩:∃q:Nat,q<4 /\ F q (pkE p)=true:=by
   rcases g1' with((g|g)|g)|g
   ·exact⟨0,by omega,g⟩
   ·exact⟨1,by omega,g⟩
   ·exact⟨2,by omega,g⟩
   ·exact⟨3,by omega,g⟩
  exact⟨(q:Int),by omega,by omega,hI q p hq hp hF,g3,g2.2.1,g2.2.2⟩
 rw[if_neg k2]at hs ⊢;have ho2:3<=d.kind->d.kind<=5->o<2:=λa b=>by
  have:=ho.2;unfold portsV at this;rw[if_neg (by omega),if_neg k2]at this
  split at this <;> omega
 by_cases k3:d.kind=3
 ·rw[if_pos k3]at hs ⊢;by_cases o1:o=1
  ·rw[if_pos o1]at hs ⊢;have hs':(F 0 (pkE p)&&ao (aS d) (pkE p))=true:=hs;rw[fF _ hp,Bool.and_eq_true]at hs';exact⟨hI 0 p (by omega) hp hs'.1,hs'.2⟩
  ·rw[if_neg o1]at hs ⊢;have hs':(F 1 (pkE p)&&flF (λx=>F 0 x&&ao (aS d) x) (pkE p))=true:=hs;rw[gh,Bool.and_eq_true]at hs';have hf:ae (aN p)=true:=cB h2 h1 h4 h3;have hg:(F 0 (pkE (aN p))&&ao (aS d) (pkE (aN p)))=true:=hs'.2;rw[fF _ hf,Bool.and_eq_true]at hg;exact⟨by have:=ho2 (by omega) (by omega);omega,hI 1 p (by omega) hp hs'.1,hI 0 _ (by omega) hf hg.1,hg.2⟩
 rw[if_neg k3]at hs ⊢;by_cases k4:d.kind=4
 ·rw[if_pos k4]at hs ⊢;by_cases o1:o=1
  ·rw[if_pos o1]at hs ⊢;have hs':(anF (anF (F 0) 8 3) 0 4 (pkE p)&&phi (setL [d.addr] 0) 65535 d.pool 255 (pkE p))=true:=hs;rw[bF _ _ _ _ hp]at hs';simp only[Bool.and_eq_true]at hs';obtain⟨g1,g2,_,g3,_⟩:=hs';obtain⟨y,e1,g1⟩:=dR _ _ _ _ g1;obtain⟨s,hsb,rfl⟩:=oY e1;obtain⟨y,e1,g1⟩:=dR _ _ _ _ g1;obtain⟨sp,hspb,rfl⟩:=yJ e1;refine⟨gi ha.1 h1.1 g2,?_,s,sp,hI 0 _ (by omega) (cB hsb h2 hspb h4) g1⟩;unfold cj poB;rw[g3];simp;omega
  ·rw[if_neg o1]at hs ⊢;have hs':(anF (anF (λx=>F 1 x&&phi 65535 (setL [d.addr] 0) 255 d.pool x) 11 3) 4 4 (pkE p)&&flF (anF (anF (F 0) 11 3) 4 4) (pkE p))=true:=hs;rw[gh,Bool.and_eq_true]at hs';obtain⟨g1,g2⟩:=hs';obtain⟨y,e1,g1⟩:=dR _ _ _ _ g1;obtain⟨x,hxb,rfl⟩:=jt e1;obtain⟨y,e1,g1⟩:=dR _ _ _ _ g1;obtain⟨k,hkb,rfl⟩:=oZ e1;have hk:ae ⟨p.s,x,p.sp,k⟩=true:=cB h1 hxb h3 hkb;have g1':(F 1 (pkE ⟨p.s,x,p.sp,k⟩)&&phi 65535 (setL [d.addr] 0) 255 d.pool (pkE ⟨p.s,x,p.sp,k⟩))=true:=g1;rw[bF _ _ _ _ hk]at g1';simp only[Bool.and_eq_true]at g1';obtain⟨f1,_,f2,_,f3⟩:=g1';obtain rfl:x=d.addr:=gi ha.1 hxb.1 f2;obtain⟨y,e1,g2⟩:=dR _ _ _ _ g2;obtain⟨u,hub,rfl⟩:=jt e1;obtain⟨y,e1,g2⟩:=dR _ _ _ _ g2;obtain⟨t,htb,rfl⟩:=oZ e1;refine⟨by have:=ho2 (by omega) (by omega);omega,⟨k,?_,hI 1 _ (by omega) hk f1⟩,u,t,hI 0 _ (by omega) (cB h2 hub h4 htb) g2⟩;unfold cj poB;rw[f3];simp;omega
 rw[if_neg k4]at hs ⊢;by_cases k5:d.kind=5
 ·rw[if_pos k5]at hs ⊢;by_cases o1:o=1
  ·rw[if_pos o1]at hs ⊢;have hs':((F 0 (pkE p)&&phi 65535 (ft (setL [d.addr] 0)) 255 255 (pkE p))||(anF (λx=>F 0 x&&phi 65535 (setL [d.addr] 0) 255 255 x) 4 4 (pkE p)&&phi 65535 (setL d.backs 0) 255 255 (pkE p)))=true:=hs;rw[bF _ _ _ _ hp,bF _ _ _ _ hp]at hs';simp only[Bool.or_eq_true,Bool.and_eq_true]at hs';rcases hs' with⟨g1,_,g2,_,_⟩|⟨g1,_,g2,_,_⟩
   ·refine Or.inl ⟨hI 0 p (by omega) hp g1,λe=>?_⟩;rw[(iS _).2.2 _ (by omega),e,eG]at g2;cases g2
   ·obtain⟨y,e1,g1⟩:=dR _ _ _ _ g1;obtain⟨x,hxb,rfl⟩:=jt e1;have hk:ae ⟨p.s,x,p.sp,p.dp⟩=true:=cB h1 hxb h3 h4;have g1':(F 0 (pkE ⟨p.s,x,p.sp,p.dp⟩)&&phi 65535 (setL [d.addr] 0) 255 255 (pkE ⟨p.s,x,p.sp,p.dp⟩))=true:=g1;rw[bF _ _ _ _ hk]at g1';simp only[Bool.and_eq_true]at g1';obtain⟨f1,_,f2,_,_⟩:=g1';obtain rfl:x=d.addr:=gi ha.1 hxb.1 f2;exact Or.inr ⟨kT (λy hy=>(hbs y hy).1) h2.1 g2,hI 0 _ (by omega) hk f1⟩
  ·rw[if_neg o1]at hs ⊢;have hs':(F 1 (pkE p)||(anF (λx=>F 1 x&&(phi (setL d.backs 0) 65535 255 255 x&&flF (anF (λx=>F 0 x&&phi 65535 (setL [d.addr] 0) 255 255 x) 4 4) x)) 0 4 (pkE p)&&phi (setL [d.addr] 0) 65535 255 255 (pkE p)))=true:=hs;refine⟨by have:=ho2 (by omega) (by omega);omega,?_⟩;rw[bF _ _ _ _ hp]at hs';simp only[Bool.or_eq_true,Bool.and_eq_true]at hs';rcases hs' with g|⟨g1,g2,_,_,_⟩
   ·exact Or.inl (hI 1 p (by omega) hp g)
   ·obtain⟨y,e1,g1⟩:=dR _ _ _ _ g1;obtain⟨b,hbb,rfl⟩:=oY e1;have hk:ae ⟨b,p.d,p.sp,p.dp⟩=true:=cB hbb h2 h3 h4;have g1':(F 1 (pkE ⟨b,p.d,p.sp,p.dp⟩)&&(phi (setL d.backs 0) 65535 255 255 (pkE ⟨b,p.d,p.sp,p.dp⟩)&&flF (anF (λx=>F 0 x&&phi 65535 (setL [d.addr] 0) 255 255 x) 4 4) (pkE ⟨b,p.d,p.sp,p.dp⟩)))=true:=g1;rw[bF _ _ _ _ hk,gh]at g1';simp only[Bool.and_eq_true]at g1';obtain⟨f1,⟨f2,_,_,_⟩,f3⟩:=g1';obtain⟨y,e1,f3⟩:=dR _ _ _ _ f3;obtain⟨x,hxb,rfl⟩:=jt e1;have hk2:ae ⟨p.d,x,p.dp,p.sp⟩=true:=cB h2 hxb h4 h3;have f3':(F 0 (pkE ⟨p.d,x,p.dp,p.sp⟩)&&phi 65535 (setL [d.addr] 0) 255 255 (pkE ⟨p.d,x,p.dp,p.sp⟩))=true:=f3;rw[bF _ _ _ _ hk2]at f3';simp only[Bool.and_eq_true]at f3';obtain⟨f4,_,f5,_,_⟩:=f3';obtain rfl:x=d.addr:=gi ha.1 hxb.1 f5;exact Or.inr ⟨gi ha.1 h1.1 g2,b,kT (λy hy=>(hbs y hy).1) hbb.1 f2,hI 1 _ (by omega) hk f1,hI 0 _ (by omega) hk2 f4⟩
 rw[if_neg k5]at hs;cases hs
theorem pa{ds:List Dv}:∀(m k:Nat),ds.length-k<=m->bU ds k=0->∀j d,k<=j->ds[j]?=some d->bE ds j d=0
 | 0,k,h,_,j,d,hj,hd=>by
   have:=(List.getElem?_eq_some_iff.1 hd).1;omega
 | m+1,k,h,h0,j,d,hj,hd=>by
   have hjl:=(List.getElem?_eq_some_iff.1 hd).1;have hk:k<ds.length:=by omega
   rw[dL (List.getElem?_eq_getElem hk)]at h0
   split at h0
   ·rename_i hw
    by_cases e:j=k
    ·subst e;rw[List.getElem?_eq_getElem hk,Option.some.injEq]at hd;rw[<- hd];exact hw
    ·exact pa m (k+1) (by omega) h0 j d (by omega) hd
   ·rename_i hw
    exact absurd h0 hw
theorem eI{ds:List Dv}{ls:List Lk}(h:netV ds ls=0):∀d∈ds,aE d=0:=by
 intro d hd;obtain⟨k,hk,e⟩:=List.mem_iff_getElem.1 hd;unfold netV at h
 split at h
 ·simp at h
 ·split at h
  ·rename_i hz
   have:=pa ds.length 0 (by omega) hz k d (Nat.zero_le _) (by rw[List.getElem?_eq_getElem hk,e]);unfold bE at this
   split at this
   ·split at this
    ·simp at this
    ·exact this
   ·simp at this
  ·rename_i hz
   exact absurd h hz
section
variable {ds:List Dv}{ls:List Lk}{k:Nat}{t:Int × Int}{p:Pk}
theorem kV(hz:netV ds ls=0)(hp:ae p=true):ay ds ls 0 t p ↔ ∃(i:Nat) (d:Dv),ds[i]?=some d /\ d.kind=1 /\ peerF ls i 0=some t /\ p.s=d.addr:=by
 have h10:=(bi hz).1;constructor
 ·intro h;have h':atF ds ls 0 t.1 t.2 (pkE p)=true:=h;unfold atF at h'
  split at h'
  ·rename_i hc
   rw[eh]at h';obtain⟨i,d,h1,h2,h3,h4,h5⟩:=h';refine⟨i,d,h2,h3,?_,?_⟩
   ·rw[h4];obtain⟨t1,t2⟩:=t;dsimp only at hc ⊢;rw[show((t1.toNat:Nat):Int)=t1 by omega,show((t2.toNat:Nat):Int)=t2 by omega]
   ·rw[bF _ _ _ _ hp]at h5;simp only[Bool.and_eq_true]at h5;obtain⟨b1,_⟩:=bW hp;have hd:=(fU (eI hz d (List.mem_of_getElem? h2)));exact gi (by have:=hd.2.1;omega) b1.1 h5.1
  ·cases h'
 ·rintro⟨i,d,hd,hk,hpe,hs⟩;obtain⟨a,b,rfl,ha,hb⟩:=fW hz hpe;have hi:=(List.getElem?_eq_some_iff.1 hd).1;obtain⟨h1,h2,h3,h4⟩:=bW hp;show atF ds ls 0 (a:Int) (b:Int) (pkE p)=true;rw[dQ ha hb,eh];refine⟨i,d,hi,hd,hk,hpe,?_⟩;rw[bF _ _ _ _ hp,hs,eG,cU h2,bG h3,bG h4];rfl
theorem ju(hz:netV ds ls=0)(hp:ae p=true):ay ds ls (k+1) t p ↔ ay ds ls k t p\/∃(i:Nat) (d:Dv) (o:Int),ds[i]?=some d /\ peerF ls i o=some t /\ az d i (ay ds ls k) o p:=by
 have h10:=(bi hz).1;constructor
 ·intro h;have h':atF ds ls (k+1) t.1 t.2 (pkE p)=true:=h;unfold atF at h'
  split at h'
  ·rename_i hc
   rw[cD]at h';rcases h' with h'|⟨i,q,d,h1,h2,h3,h4,h5,h6⟩
   ·left
    show atF ds ls k t.1 t.2 (pkE p)=true;unfold atF;rw[if_pos hc];exact h'
   ·right
    refine⟨i,d,(q:Int),h3,?_,?_⟩
    ·rw[h5];obtain⟨t1,t2⟩:=t;dsimp only at hc ⊢;rw[show((t1.toNat:Nat):Int)=t1 by omega,show((t2.toNat:Nat):Int)=t2 by omega]
    ·have hi:i<10:=by
      have:=(List.getElem?_eq_some_iff.1 h3).1;omega
     exact kU (i:=(i:Int)) (I:=ay ds ls k) (F:=ak ds ls k i) (λq p hq _ h=>by
      show atF ds ls k (i:Int) (q:Int) (pkE p)=true;rw[dQ hi hq];exact h) (eI hz d (List.mem_of_getElem? h3)) (by omega) hp h6
  ·cases h'
 ·rintro(h|⟨i,d,o,hd,hpe,hs⟩)
  ·exact jU (Nat.le_succ k) _ _ _ h
  ·obtain⟨a,b,rfl,ha,hb⟩:=fW hz hpe;have hi:=(List.getElem?_eq_some_iff.1 hd).1;obtain⟨l,hl,he⟩:=fC hpe;have hpl:isPl ds (i:Int) o=true:=by
    have hp:=(bi hz).2.2.2 l hl;rcases dJ he with⟨e,_⟩|⟨e,_⟩
    ·have:=hp.1;rw[e.1,e.2]at this;exact this
    ·have:=hp.2;rw[e.1,e.2]at this;exact this
   unfold isPl at hpl;simp only[Bool.and_eq_true,decide_eq_true_eq]at hpl;have hk:aW ds (i:Int)=d.kind:=by
    unfold aW;simp[hd]
   rw[hk]at hpl;show atF ds ls (k+1) (a:Int) (b:Int) (pkE p)=true;rw[dQ ha hb,cD];refine Or.inr ⟨i,o.toNat,d,Or.inl hi,λh=>h,hd,by omega,?_,?_⟩
   ·rw[show((o.toNat:Nat):Int)=o by omega];exact hpe
   ·rw[show((o.toNat:Nat):Int)=o by omega];exact kS (i:=(i:Int)) (I:=ay ds ls k) (F:=ak ds ls k i) (λq p hq h=>by
     have h':atF ds ls k (i:Int) (q:Int) (pkE p)=true:=h;rw[dQ (by omega) hq]at h';exact h') (eI hz d (List.mem_of_getElem? hd)) hp hs
end
section
variable {ds:List Dv}{ls:List Lk}{k:Nat}{t:Int × Int}{p:Pk}{d:Dv}{i o:Int}{I J:cI}
theorem yK{i:Nat}{d:Dv}{q:Int}(hd:ds[i]?=some d)(h:isPl ds (i:Int) q=true):0<=q /\ q<portsV d.kind:=by
 unfold isPl at h;have:aW ds (i:Int)=d.kind:=by simp[aW,hd]
 rw[this]at h;simp only[Bool.and_eq_true,decide_eq_true_eq]at h;omega
def jv(ds:List Dv)(ls:List Lk)(k:Nat):cI:=λt p=>ae p=true /\ ay ds ls k t p
theorem pe(hz:netV ds ls=0)(hp:ae p=true):ay ds ls (k+1) t p ↔ ay ds ls k t p\/∃(i:Nat) (d:Dv) (o:Int),ds[i]?=some d /\ peerF ls i o=some t /\ az d i (jv ds ls k) o p:=by
 have h10:=(bi hz).1;constructor
 ·intro h;have h':atF ds ls (k+1) t.1 t.2 (pkE p)=true:=h;unfold atF at h'
  split at h'
  ·rename_i hc
   rw[cD]at h';rcases h' with h'|⟨i,q,d,h1,h2,h3,h4,h5,h6⟩
   ·left
    show atF ds ls k t.1 t.2 (pkE p)=true;unfold atF;rw[if_pos hc];exact h'
   ·right
    refine⟨i,d,(q:Int),h3,?_,?_⟩
    ·rw[h5];obtain⟨t1,t2⟩:=t;dsimp only at hc ⊢;rw[show((t1.toNat:Nat):Int)=t1 by omega,show((t2.toNat:Nat):Int)=t2 by omega]
    ·have hi:i<10:=by
      have:=(List.getElem?_eq_some_iff.1 h3).1;omega
     exact kU (i:=(i:Int)) (I:=jv ds ls k) (F:=ak ds ls k i) (λq p hq hpo h=>⟨hpo,by
      show atF ds ls k (i:Int) (q:Int) (pkE p)=true;rw[dQ hi hq];exact h⟩) (eI hz d (List.mem_of_getElem? h3)) (by omega) hp h6
  ·cases h'
 ·rintro(h|⟨i,d,o,hd,hpe,hs⟩)
  ·exact jU (Nat.le_succ k) _ _ _ h
  ·rw[ju hz hp];refine Or.inr ⟨i,d,o,hd,hpe,?_⟩;have hi:=(List.getElem?_eq_some_iff.1 hd).1;obtain⟨l,hl,he⟩:=fC hpe;have hpl:isPl ds (i:Int) o=true:=by
    have hp:=(bi hz).2.2.2 l hl;rcases dJ he with⟨e,_⟩|⟨e,_⟩
    ·have:=hp.1;rw[e.1,e.2]at this;exact this
    ·have:=hp.2;rw[e.1,e.2]at this;exact this
   have hpo:=yK hd hpl;have hf:=kS (i:=(i:Int)) (I:=jv ds ls k) (F:=ak ds ls k i) (λq p hq h=>by
    have h':atF ds ls k (i:Int) (q:Int) (pkE p)=true:=h.2;rw[dQ (by omega) hq]at h';exact h') (eI hz d (List.mem_of_getElem? hd)) hp hs
   exact kU (i:=(i:Int)) (I:=ay ds ls k) (F:=ak ds ls k i) (λq p hq _ h=>by
    show atF ds ls k (i:Int) (q:Int) (pkE p)=true;rw[dQ (by omega) hq];exact h) (eI hz d (List.mem_of_getElem? hd)) hpo hp hf
theorem pg(hz:netV ds ls=0){i:Nat}{o:Int}(h:peerF ls i o=some t):isPl ds t.1 t.2=true:=by
 obtain⟨l,hl,he⟩:=fC h;have hp:=(bi hz).2.2.2 l hl;rcases dJ he with⟨_,e⟩|⟨_,e⟩
 ·rw[e];exact hp.2
 ·rw[e];exact hp.1
theorem kW(hz:netV ds ls=0):∀(k:Nat) {p:Pk},ae p=true->ay ds ls k t p->isPl ds t.1 t.2=true
 | 0,p,hp,h=>by
   rw[kV hz hp]at h;obtain⟨i,d,_,_,h3,_⟩:=h;exact pg hz h3
 | k+1,p,hp,h=>by
   rw[ju hz hp]at h;rcases h with h|⟨i,d,o,_,h3,_⟩
   ·exact kW hz k hp h
   ·exact pg hz h3
end
abbrev fG(i:Int)(p:Pk):Ev:=⟨1,i,0,p,0⟩
abbrev ac(i q:Int)(p:Pk)(c:Int):Ev:=⟨2,i,q,p,c⟩
abbrev aA(i:Int)(p:Pk)(c:Int):Ev:=⟨3,i,0,p,c⟩
def aJ(d:Dv)(i:Int):List Ev:=((List.range 8).filter λk=>d.pool.testBit k).map λ(k:Nat)=>aA i zeroP (k:Int)
abbrev aO(d:Dv)(p:Pk):Pk:=⟨p.d,d.addr,p.dp,p.sp⟩
abbrev cC(d:Dv)(p:Pk):Pk:=⟨p.s,d.addr,p.sp,p.dp⟩
inductive Cause (d:Dv) (i o:Int) (p:Pk):List Ev->Prop
 | host:d.kind=1->Cause d i o p [fG i p]
 | route (q:Int):d.kind=2->0<=q->q<4->Cause d i o p [ac i q p 0]
 | fireOut:d.kind=3->o=1->Cause d i o p [ac i 0 p 0]
 | fireIn:d.kind=3->¬o=1->Cause d i o p [ac i 0 (aN p) 0,ac i 1 p 0]
 | natOut (s:Pk):d.kind=4->o=1->s.d=p.d->s.dp=p.dp->Cause d i o p (aJ d i++[ac i 0 s p.sp])
 | natIn (s r:Pk):d.kind=4->¬o=1->s.s=p.d->s.sp=p.dp->r.s=p.s->r.sp=p.sp->r.d=d.addr->cj d r.dp=true->Cause d i o p (aJ d i++[ac i 0 s r.dp,ac i 1 r 0])
 | balOut:d.kind=5->o=1->Cause d i o p [ac i 0 p 0]
 | balTo (c:Nat):d.kind=5->o=1->d.backs[c]?=some p.d->Cause d i o p [aA i (cC d p) 0,ac i 0 (cC d p) (c:Int)]
 | balIn:d.kind=5->¬o=1->Cause d i o p [aA i (aO d p) 0,ac i 1 p 0]
 | balFrom (c:Nat) (b:Int):d.kind=5->¬o=1->p.s=d.addr->d.backs[c]?=some b->Cause d i o p [aA i (aO d p) 0,ac i 0 (aO d p) (c:Int),ac i 1 ⟨b,p.d,p.sp,p.dp⟩ 0]
def ai(c:List Ev):List Arv:=(c.filter λx=>x.k == 2).map λx=>((x.i,x.q),x.p)
theorem eJ(a b:List Ev):ai (a++b)=ai a++ai b:=by simp[ai]
theorem kX(d:Dv)(i:Int):ai (aJ d i)=[]:=by
 unfold ai aJ;rw[List.filter_map,List.map_map,List.map_eq_nil_iff,List.filter_eq_nil_iff];intro k _;simp
inductive TR (ds:List Dv) (ls:List Lk):Mnd × List Arv->List Ev->Mnd × List Arv->List Ev->Prop
 | nil (s:Mnd × List Arv):TR ds ls s [] s []
 | ok {s s':Mnd × List Arv} {x:Ev} {c l:List Ev}:(doP ds ls s.1 s.2 x).1=0->TR ds ls (doP ds ls s.1 s.2 x).2 c s' l->TR ds ls s (x::c) s' (x::l)
 | skip {s s':Mnd × List Arv} {x:Ev} {c l:List Ev}:¬(doP ds ls s.1 s.2 x).1=0->x.k=3->TR ds ls (doP ds ls s.1 s.2 x).2 c s' l->TR ds ls s (x::c) s' l
def Runs(ds:List Dv)(ls:List Lk):Mnd × List Arv->List Ev->Mnd × List Arv->Prop
 | s,[],s'=>s'=s
 | s,x::l,s'=>((doP ds ls s.1 s.2 x).1=0 /\ x.ok) /\ Runs ds ls (doP ds ls s.1 s.2 x).2 l s'
section
variable {ds:List Dv}{ls:List Lk}{K:Nat}{s s' s'':Mnd × List Arv}{c c' l l':List Ev}{x:Ev}{i:Nat}{d:Dv}{o q:Int}{p:Pk}{t:Int × Int}
theorem ph(hk:x.k=3)(he:¬(doP ds ls s.1 s.2 x).1=0):(doP ds ls s.1 s.2 x).2=s:=by
 have e:doP ds ls s.1 s.2 x=((forgetP ds s.1 x.i x.p x.c).err,(forgetP ds s.1 x.i x.p x.c).M,s.2):=by
  unfold doP;rw[if_neg (by omega),if_neg (by omega),if_pos hk]
 rw[e]at he ⊢;dsimp only at he ⊢;have:(forgetP ds s.1 x.i x.p x.c).M=s.1:=by
  unfold forgetP at he ⊢
  split
  ·rename_i h0
   rw[if_pos h0]at he
   split
   ·rename_i h1
    rw[if_pos h1]at he
    split
    ·rename_i h2
     rw[if_pos h2]at he;exact absurd rfl he
    ·rfl
   ·rename_i h1
    rw[if_neg h1]at he
    split
    ·rename_i h2
     rw[if_pos h2]at he
     split
     ·rename_i h3
      rw[if_pos h3]at he;exact absurd rfl he
     ·rfl
    ·rename_i h2
     rw[if_neg h2]at he
     split
     ·rename_i h4
      rw[if_pos h4]at he
      split
      ·rename_i h3
       rw[if_pos h3]at he;exact absurd rfl he
      ·rfl
     ·rfl
  ·rfl
 rw[this]
theorem TR.runs(h:TR ds ls s c s' l)(hok:∀z∈c,z.ok):Runs ds ls s l s':=by
 induction h with
 | nil s=>rfl
 | ok he _ ih=>exact⟨⟨he,hok _ (List.mem_cons_self ..)⟩,ih λz hz=>hok z (List.mem_cons_of_mem _ hz)⟩
 | skip he hk _ ih =>
   have ih:=ih λz hz=>hok z (List.mem_cons_of_mem _ hz);rw[ph hk he]at ih;exact ih
theorem TR.app(h:TR ds ls s c s' l)(h':TR ds ls s' c' s'' l'):TR ds ls s (c++c') s'' (l++l'):=by
 induction h with
 | nil s=>exact h'
 | ok he _ ih=>exact TR.ok he (ih h')
 | skip he hk _ ih=>exact TR.skip he hk (ih h')
theorem Runs.app:∀{l:List Ev} {s:Mnd × List Arv},Runs ds ls s l s'->Runs ds ls s' l' s''->Runs ds ls s (l++l') s''
 | [],s,h,h'=>by
   obtain rfl:s'=s:=h;exact h'
 | x::l,s,h,h'=>⟨h.1,Runs.app h.2 h'⟩
theorem TR.len(h:TR ds ls s c s' l):l.length<=c.length:=by
 induction h with
 | nil s=>exact Nat.le_refl _
 | ok _ _ ih=>simpa using ih
 | skip _ _ _ ih=>simp;omega
structure SInv(ds:List Dv)(ls:List Lk)(K:Nat)(s:Mnd × List Arv):Prop where
 mok:MOk s.1
 know:KnowR ds s.1 (ay ds ls K)
 arr:∀x∈s.2,ay ds ls K x.1 x.2
 pks:∀x∈s.2,ae x.2=true
theorem pi:SInv ds ls K (noM,[]):=⟨uY,vg _ _,(λx h=>by cases h),(λx h=>by cases h)⟩
theorem SInv.act(hz:netV ds ls=0)(hI:Closed ds ls (ay ds ls K))(h:SInv ds ls K s)(x:Ev):SInv ds ls K (doP ds ls s.1 s.2 x).2:=by
 obtain⟨h1,h2⟩:=do_r hz h.mok hI h.know h.arr x;obtain⟨h3,h4,_⟩:=kw hz h.mok h.pks x;exact⟨h3,h1,h2,h4⟩
theorem SInv.tr(hz:netV ds ls=0)(hI:Closed ds ls (ay ds ls K))(h:SInv ds ls K s)(ht:TR ds ls s c s' l):SInv ds ls K s':=by
 induction ht with
 | nil s=>exact h
 | ok _ _ ih=>exact ih (h.act hz hI _)
 | skip _ _ _ ih=>exact ih (h.act hz hI _)
theorem addA_mem{ar:List Arv}{x y:Arv}:y∈addA ar x ↔ y∈ar\/y=x:=by
 unfold addA
 split
 ·rename_i h
  exact⟨Or.inl,λe=>by rcases e with e|rfl <;> assumption⟩
 ·simp
theorem jw(hz:netV ds ls=0):∀(k:Nat) {t:Int × Int} {p:Pk},ae p=true->ay ds ls k t p->∃u,peerF ls t.1 t.2=some u
 | 0,t,p,hp,h=>by
   rw[kV hz hp]at h;obtain⟨i,d,_,_,h3,_⟩:=h;exact⟨_,dK (bi hz).2.2.1 h3⟩
 | k+1,t,p,hp,h=>by
   rw[ju hz hp]at h;rcases h with h|⟨i,d,o,_,h3,_⟩
   ·exact jw hz k hp h
   ·exact⟨_,dK (bi hz).2.2.1 h3⟩
theorem pj(hd:ds[i]?=some d):aW ds (i:Int)=d.kind:=by simp[aW,hd]
theorem dg(hz:netV ds ls=0)(hs:SInv ds ls K s)(hd:ds[i]?=some d){c:Int}(ha:(((i:Int),q),p)∈s.2){r:SR}(hr:sendP d s.1 i q p c=r)(he:r.err=0)(hpe:peerF ls i r.port=some t):doP ds ls s.1 s.2 (ac i q p c)=(0,learnP s.1 r.l,addA s.2 (t,r.p)):=by
 have hpk:=hs.pks _ ha;have hpl:=kW hz K hpk (hs.arr _ ha);dsimp only at hpl hpk;have hg:ds.getD (i:Int).toNat default=d:=by rw[Int.toNat_natCast,List.getD_eq_getElem?_getD,hd];rfl
 have hh:aB ds ls s.1 i q p c=⟨0,t,r.p,learnP s.1 r.l⟩:=by
  unfold aB;rw[if_pos hpl,if_pos hpk,hg,hr,if_pos he,hpe]
 unfold doP;rw[if_neg (show ¬(2:Int)=1 by decide),if_pos (show(2:Int)=2 from rfl)];show hopP ds ls s.1 s.2 i q p c=_;unfold hopP;rw[if_pos (inF_in.2 ha),hh];rfl
theorem jx(i:Int)(p:Pk)(c:Int):∃l,TR ds ls s [aA i p c] ((forgetP ds s.1 i p c).M,s.2) l:=by
 have e:doP ds ls s.1 s.2 (aA i p c)=((forgetP ds s.1 i p c).err,(forgetP ds s.1 i p c).M,s.2):=by
  unfold doP;rw[if_neg (by show ¬(3:Int)=1;decide),if_neg (by show ¬(3:Int)=2;decide),if_pos rfl]
 by_cases h:(doP ds ls s.1 s.2 (aA i p c)).1=0
 ·refine⟨[aA i p c],TR.ok h ?_⟩;rw[e];exact TR.nil _
 ·refine⟨[],TR.skip h rfl ?_⟩;rw[e];exact TR.nil _
theorem yL(hd:ds[i]?=some d)(hk:d.kind=4)(M:Mnd)(p:Pk)(k:Int):(forgetP ds M i p k).M.ow ((i:Int),k)=none /\ ∀y,M.ow y=none->(forgetP ds M i p k).M.ow y=none:=by
 have hi:=(List.getElem?_eq_some_iff.1 hd).1;unfold forgetP;rw[if_pos (by omega),pj hd,if_neg (by omega),if_pos hk]
 split
 ·refine⟨gt _ _,λy hy=>?_⟩;show cG M.ow ((i:Int),k) y=none;by_cases e:y=((i:Int),k)
  ·rw[e,gt]
  ·rw[jP _ e];exact hy
 ·rename_i h
  exact⟨by simpa using h,λy hy=>hy⟩
theorem kY(hd:ds[i]?=some d)(hk:d.kind=5)(M:Mnd)(p:Pk)(k:Int):(forgetP ds M i p k).M.bk ((i:Int),p)=none:=by
 have hi:=(List.getElem?_eq_some_iff.1 hd).1;unfold forgetP;rw[if_pos (by omega),pj hd,if_neg (by omega),if_neg (by omega),if_pos hk]
 split
 ·exact gt _ _
 ·rename_i h
  simpa using h
theorem po(hd:ds[i]?=some d)(hk:d.kind=4):∀(L:List Nat) (s:Mnd × List Arv),∃M l,TR ds ls s (L.map λ(k:Nat)=>aA (i:Int) zeroP (k:Int)) (M,s.2) l /\ (∀k∈L,M.ow ((i:Int),(k:Int))=none) /\ ∀y,s.1.ow y=none->M.ow y=none
 | [],s=>⟨s.1,[],TR.nil _,(λk h=>by cases h),λy h=>h⟩
 | k::L,s=>by
   obtain⟨l,h1⟩:=jx (ds:=ds) (ls:=ls) (s:=s) (i:Int) zeroP (k:Int);obtain⟨f1,f2⟩:=yL hd hk s.1 zeroP (k:Int);obtain⟨M,l',h2,h3,h4⟩:=po hd hk L ((forgetP ds s.1 i zeroP k).M,s.2);refine⟨M,l++l',h1.app h2,λj hj=>?_,λy hy=>h4 y (f2 y hy)⟩;rcases List.mem_cons.1 hj with rfl|hj
   ·exact h4 _ f1
   ·exact h3 j hj
theorem pq(hz:netV ds ls=0)(hI:Closed ds ls (ay ds ls K))(hs:SInv ds ls K s)(hd:ds[i]?=some d)(hk:d.kind=4):∃M l,TR ds ls s (aJ d i) (M,s.2) l /\ ∀k:Nat,M.ow ((i:Int),(k:Int))=none:=by
 obtain⟨M,l,h1,h2,h3⟩:=po (ls:=ls) hd hk ((List.range 8).filter λk=>d.pool.testBit k) s;refine⟨M,l,h1,λk=>?_⟩;cases ho:M.ow ((i:Int),(k:Int))with
 | none=>rfl
 | some u =>
   have hi:=hs.tr hz hI h1;obtain⟨hp,_⟩:=hi.know.ow i d (k:Int) u hd hk ho;unfold cj poB at hp;simp only[Bool.and_eq_true,decide_eq_true_eq,Int.toNat_natCast]at hp;have:=h2 k (List.mem_filter.2 ⟨List.mem_range.2 (by omega),hp.2⟩);rw[ho]at this;cases this
theorem kZ{M:Mnd}{i:Int}{u:Int × Int}(h:∀k:Nat,M.ow (i,(k:Int))=none):∀(m k:Nat),8-k<=m->aL M i u k=none
 | 0,k,hm=>by
   unfold aL;rw[dif_neg (by omega)]
 | m+1,k,hm=>by
   unfold aL
   split
   ·rw[h k,if_neg (by simp)];exact kZ h m (k+1) (by omega)
   ·rfl
theorem pr{bs:List Int}{ad:Int}:∀(m k:Nat),bs.length-k<=m->bg bs ad k≠1->∀j x,k<=j->bs[j]?=some x->x≠ad
 | 0,k,hm,_,j,x,hj,hx=>by
   have:=(List.getElem?_eq_some_iff.1 hx).1;omega
 | m+1,k,hm,h,j,x,hj,hx=>by
   have hjl:=(List.getElem?_eq_some_iff.1 hx).1;rw[ia (List.getElem?_eq_getElem (by omega:k<bs.length))]at h
   split at h
   ·rename_i hc
    by_cases e:j=k
    ·subst e;rw[List.getElem?_eq_getElem hjl,Option.some.injEq]at hx;simp only[Bool.and_eq_true,Bool.not_eq_true',beq_eq_false_iff_ne]at hc;rw[<- hx];exact hc.1.2
    ·exact pr m (k+1) (by omega) h j x (by omega) hx
   ·exact absurd rfl h
theorem yM(h:aE d=0){b:Int}(hb:b∈d.backs):b≠d.addr:=by
 obtain⟨j,hj,e⟩:=List.mem_iff_getElem.1 hb;refine pr (bs:=d.backs) (ad:=d.addr) d.backs.length 0 (by omega) (λe'=>?_) j b (Nat.zero_le _) (by rw[List.getElem?_eq_getElem hj,e]);have:=h;unfold aE dw at this
 repeat' split at this
 all_goals first|(exact absurd this (by decide))|(simp_all;done)|contradiction
theorem yN(hz:netV ds ls=0)(hI:Closed ds ls (ay ds ls K)){J:cI}(hd:ds[i]?=some d)(hpe:peerF ls i o=some t)(hc:Cause d i o p c)(hx:(d.kind=1 /\ o=0 /\ p.s=d.addr)\/∃I,az d i I o p)(hp:ae p=true)(hs:SInv ds ls K s)(hn:∀y∈ai c,y∈s.2 /\ J y.1 y.2) :
  ∃c0 x s1 l0,c=c0++[x] /\ TR ds ls s c0 s1 l0 /\ (∀y∈s1.2,y∈s.2\/(y.1≠t /\ ∃o',peerF ls i o'=some y.1 /\ az d i J o' y.2)) /\ (doP ds ls s1.1 s1.2 x).1=0 /\ (doP ds ls s1.1 s1.2 x).2.2=addA s1.2 (t,p):=by
 have hdc:=eI hz d (List.mem_of_getElem? hd);have hi:=(List.getElem?_eq_some_iff.1 hd).1;have hap:=(bi hz).2.2.1;have far:∀{o':Int} {u:Int × Int},peerF ls i o'=some u->o'≠o->u≠t:=λ{o' u} h1 h2 e=>by
  subst e;have a:=dK hap h1;have b:=dK hap hpe;rw[a]at b;exact h2 (by simpa using b)
 have one:∀{x:Ev} {M:Mnd},doP ds ls s.1 s.2 x=(0,M,addA s.2 (t,p))->∃c0 y s1 l0,[x]=c0++[y] /\ TR ds ls s c0 s1 l0 /\ (∀y∈s1.2,y∈s.2\/(y.1≠t /\ ∃o',peerF ls i o'=some y.1 /\ az d i J o' y.2)) /\ (doP ds ls s1.1 s1.2 y).1=0 /\ (doP ds ls s1.1 s1.2 y).2.2=addA s1.2 (t,p):=λ{x M} e=>⟨[],x,s,[],rfl,TR.nil _,λy hy=>Or.inl hy,by rw[e],by rw[e]⟩;have sent:∀{k:Int},d.kind=k->k≠1->∃I,az d i I o p:=λ{k} h1 h2=>by
  rcases hx with h|h
  ·exact absurd (h1.symm.trans h.1) h2
  ·exact h
 cases hc with
 | host hk =>
   rcases hx with⟨_,rfl,ha⟩|⟨I,h⟩
   ·refine one (M:=s.1) ?_;unfold doP;rw[if_pos rfl];show((injP ds ls s.2 i p).1,s.1,(injP ds ls s.2 i p).2)=_;have hg:ds.getD (i:Int).toNat default=d:=by rw[Int.toNat_natCast,List.getD_eq_getElem?_getD,hd];rfl
    unfold injP;rw[if_pos (by omega),hg,if_pos hk,if_pos hp,if_pos ha,hpe];rfl
   ·unfold az at h;rw[if_neg (by omega),if_neg (by omega),if_neg (by omega),if_neg (by omega)]at h;exact h.elim
 | route q hk h0 h4 =>
   obtain⟨I,h⟩:=sent hk (by decide);unfold az at h;rw[if_pos hk]at h;obtain⟨_,_,_,_,h1,h2,h3⟩:=h;have hr:sendP d s.1 i q p 0=aR o p:=by
    unfold sendP;rw[if_pos hk];unfold fQ;rw[if_pos (by rw[Bool.and_eq_true];exact⟨h2,h1⟩),h3]
   exact one (dg hz hs hd (hn _ (by simp[ai])).1 hr rfl hpe)
 | fireOut hk ho =>
   obtain⟨I,h⟩:=sent hk (by decide);unfold az at h;rw[if_neg (by omega),if_pos hk,if_pos ho]at h;have hr:sendP d s.1 i 0 p 0=⟨0,1,p,.flow i p⟩:=by
    unfold sendP;rw[if_neg (by omega),if_pos hk,if_pos rfl];unfold eR;exact if_pos h.2
   exact one (dg hz hs hd (hn _ (by simp[ai])).1 hr rfl (by subst ho;exact hpe))
 | fireIn hk ho =>
   obtain⟨I,h⟩:=sent hk (by decide);unfold az at h;rw[if_neg (by omega),if_pos hk,if_neg ho]at h;obtain⟨rfl,_,_,h4⟩:=h;obtain⟨n1,j1⟩:=hn (((i:Int),0),aN p) (by simp[ai]);obtain⟨n2,j2⟩:=hn (((i:Int),1),p) (by simp[ai]);obtain⟨t1,ht1⟩:=jw hz K (hs.pks _ n2) (hs.arr _ n2);have hr:sendP d s.1 i 0 (aN p) 0=⟨0,1,aN p,.flow i (aN p)⟩:=by
    unfold sendP;rw[if_neg (by omega),if_pos hk,if_pos rfl];unfold eR;exact if_pos h4
   have hdo:=dg hz hs hd n1 hr rfl ht1;have htr:TR ds ls s [ac i 0 (aN p) 0] (doP ds ls s.1 s.2 (ac i 0 (aN p) 0)).2 [ac i 0 (aN p) 0]:=TR.ok (by rw[hdo]) (TR.nil _);have hs1:=hs.tr hz hI htr;rw[hdo]at htr hs1;have hr2:sendP d (learnP s.1 (.flow i (aN p))) i 1 p 0=aR 0 p:=by
    unfold sendP;rw[if_neg (by omega),if_pos hk,if_neg (by decide)];unfold fR;refine if_pos ?_;show(ch s.1.fl ((i:Int),aN p) () ((i:Int),aN p)).isSome=true;rw[ew];rfl
   have hdo2:=dg hz hs1 hd (addA_mem.2 (Or.inl n2)) hr2 rfl hpe;refine⟨[ac i 0 (aN p) 0],ac i 1 p 0,_,_,rfl,htr,λy hy=>?_,by rw[hdo2],by rw[hdo2];rfl⟩;rcases addA_mem.1 hy with hy|rfl
   ·exact Or.inl hy
   ·refine Or.inr ⟨far ht1 (show(1:Int)≠0 by decide),1,ht1,?_⟩;unfold az;rw[if_neg (by omega),if_pos hk,if_pos rfl];exact⟨j1,h4⟩
 | natOut u hk ho hud hudp =>
   obtain⟨I,h⟩:=sent hk (by decide);unfold az at h;rw[if_neg (by omega),if_neg (by omega),if_pos hk,if_pos ho]at h;obtain⟨h1,h2,_⟩:=h;obtain⟨n1,_⟩:=hn (((i:Int),0),u) (by rw[eJ];simp[ai]);obtain⟨M,l,htr,hno⟩:=pq hz hI hs hd hk;have hs1:=hs.tr hz hI htr;have hsp:(0:Int)<=p.sp:=by
    unfold cj poB at h2;simp only[Bool.and_eq_true,decide_eq_true_eq]at h2;exact h2.1.1
   have hr:sendP d M i 0 u p.sp=⟨0,1,p,.own i p.sp (u.s,u.sp)⟩:=by
    unfold sendP;rw[if_neg (by omega),if_neg (by omega),if_pos hk,if_pos rfl];unfold eS;rw[kZ hno 8 0 (by omega)];dsimp only;have hno1:=hno p.sp.toNat;rw[Int.toNat_of_nonneg hsp]at hno1;rw[if_pos h2,hno1,if_neg (by simp),hud,hudp,<- h1]
   have hdo:=dg hz hs1 hd n1 hr rfl (by subst ho;exact hpe);exact⟨aJ d i,_,_,l,rfl,htr,λy hy=>Or.inl hy,by rw[hdo],by rw[hdo]⟩
 | natIn u r hk ho hus husp hrs hrsp hrd hpool =>
   obtain⟨I,h⟩:=sent hk (by decide);unfold az at h;rw[if_neg (by omega),if_neg (by omega),if_pos hk,if_neg ho]at h;obtain⟨rfl,_⟩:=h;obtain⟨n1,j1⟩:=hn (((i:Int),0),u) (by rw[eJ];simp[ai]);obtain⟨n2,j2⟩:=hn (((i:Int),1),r) (by rw[eJ];simp[ai]);obtain⟨t1,ht1⟩:=jw hz K (hs.pks _ n2) (hs.arr _ n2);obtain⟨M,l,htr,hno⟩:=pq hz hI hs hd hk;have hs1:=hs.tr hz hI htr;have hsp:(0:Int)<=r.dp:=by
    unfold cj poB at hpool;simp only[Bool.and_eq_true,decide_eq_true_eq]at hpool;exact hpool.1.1
   have hr:sendP d M i 0 u r.dp=⟨0,1,⟨d.addr,u.d,r.dp,u.dp⟩,.own i r.dp (u.s,u.sp)⟩:=by
    unfold sendP;rw[if_neg (by omega),if_neg (by omega),if_pos hk,if_pos rfl];unfold eS;rw[kZ hno 8 0 (by omega)];dsimp only;have hno1:=hno r.dp.toNat;rw[Int.toNat_of_nonneg hsp]at hno1;rw[if_pos hpool,hno1,if_neg (by simp)]
   have hdo:=dg hz hs1 hd n1 hr rfl ht1;have htr2:TR ds ls (M,s.2) [ac i 0 u r.dp] (doP ds ls M s.2 (ac i 0 u r.dp)).2 [ac i 0 u r.dp]:=TR.ok (by show(doP ds ls M s.2 (ac i 0 u r.dp)).1=0;rw[hdo]) (TR.nil _);have hs2:=hs1.tr hz hI htr2;rw[hdo]at htr2 hs2;have hr2:sendP d (learnP M (.own i r.dp (u.s,u.sp))) i 1 r 0=aR 0 p:=by
    unfold sendP;rw[if_neg (by omega),if_neg (by omega),if_pos hk,if_neg (by decide)];unfold dk;have e:(learnP M (.own i r.dp (u.s,u.sp))).ow ((i:Int),r.dp)=some (u.s,u.sp):=ew _ _ _;rw[e];dsimp only;rw[if_pos (by simpa using hrd),hrs,hrsp,hus,husp]
   have hdo2:=dg hz hs2 hd (addA_mem.2 (Or.inl n2)) hr2 rfl hpe;refine⟨aJ d i++[ac i 0 u r.dp],ac i 1 r 0,_,_,by simp,htr.app htr2,λy hy=>?_,by rw[hdo2],by rw[hdo2];rfl⟩;rcases addA_mem.1 hy with hy|rfl
   ·exact Or.inl hy
   ·refine Or.inr ⟨far ht1 (show(1:Int)≠0 by decide),1,ht1,?_⟩;unfold az;rw[if_neg (by omega),if_neg (by omega),if_pos hk,if_pos rfl];exact⟨rfl,hpool,u.s,u.sp,j1⟩
 | balOut hk ho =>
   obtain⟨I,h⟩:=sent hk (by decide);unfold az at h;rw[if_neg (by omega),if_neg (by omega),if_neg (by omega),if_pos hk,if_pos ho]at h;have hne:¬p.d=d.addr:=by
    rcases h with⟨_,h⟩|⟨h,_⟩
    ·exact h
    ·exact yM hdc h
   have hr:sendP d s.1 i 0 p 0=aR 1 p:=by
    unfold sendP;rw[if_neg (by omega),if_neg (by omega),if_neg (by omega),if_pos hk,if_pos rfl];unfold ez;exact if_neg (by simpa using hne)
   exact one (dg hz hs hd (hn _ (by simp[ai])).1 hr rfl (by subst ho;exact hpe))
 | balTo k hk ho hb =>
   obtain⟨n1,_⟩:=hn (((i:Int),0),cC d p) (by simp[ai]);obtain⟨l,htr⟩:=jx (ds:=ds) (ls:=ls) (s:=s) (i:Int) (cC d p) 0;have hs1:=hs.tr hz hI htr;have hbk:=kY hd hk s.1 (cC d p) 0;have hkl:=(List.getElem?_eq_some_iff.1 hb).1;have hr:sendP d (forgetP ds s.1 i (cC d p) 0).M i 0 (cC d p) (k:Int)=⟨0,1,p,.back i (cC d p) p.d⟩:=by
    unfold sendP;rw[if_neg (by omega),if_neg (by omega),if_neg (by omega),if_pos hk,if_pos rfl];unfold ez;rw[if_pos (by simp),hbk];dsimp only;rw[if_pos (by simp;omega),Int.toNat_natCast,List.getD_eq_getElem?_getD,hb];rfl
   have hdo:=dg hz hs1 hd n1 hr rfl (by subst ho;exact hpe);exact⟨[_],_,_,l,rfl,htr,λy hy=>Or.inl hy,by rw[hdo],by rw[hdo]⟩
 | balIn hk ho =>
   obtain⟨I,h⟩:=sent hk (by decide);unfold az at h;rw[if_neg (by omega),if_neg (by omega),if_neg (by omega),if_pos hk,if_neg ho]at h;obtain⟨rfl,_⟩:=h;obtain⟨n1,_⟩:=hn (((i:Int),1),p) (by simp[ai]);obtain⟨l,htr⟩:=jx (ds:=ds) (ls:=ls) (s:=s) (i:Int) (aO d p) 0;have hs1:=hs.tr hz hI htr;have hbk:=kY hd hk s.1 (aO d p) 0;have hr:sendP d (forgetP ds s.1 i (aO d p) 0).M i 1 p 0=aR 0 p:=by
    unfold sendP;rw[if_neg (by omega),if_neg (by omega),if_neg (by omega),if_pos hk,if_neg (by decide)];unfold eT;rw[hbk,if_neg (by simp)]
   have hdo:=dg hz hs1 hd n1 hr rfl hpe;exact⟨[_],_,_,l,rfl,htr,λy hy=>Or.inl hy,by rw[hdo],by rw[hdo];rfl⟩
 | balFrom k b hk ho ha hb =>
   obtain⟨I,h⟩:=sent hk (by decide);unfold az at h;rw[if_neg (by omega),if_neg (by omega),if_neg (by omega),if_pos hk,if_neg ho]at h;obtain⟨rfl,_⟩:=h;obtain⟨n1,j1⟩:=hn (((i:Int),0),aO d p) (by simp[ai]);obtain⟨n2,j2⟩:=hn (((i:Int),1),⟨b,p.d,p.sp,p.dp⟩) (by simp[ai]);obtain⟨t1,ht1⟩:=jw hz K (hs.pks _ n2) (hs.arr _ n2);obtain⟨l,htr⟩:=jx (ds:=ds) (ls:=ls) (s:=s) (i:Int) (aO d p) 0;have hs1:=hs.tr hz hI htr;have hbk:=kY hd hk s.1 (aO d p) 0;have hkl:=(List.getElem?_eq_some_iff.1 hb).1;have hr:sendP d (forgetP ds s.1 i (aO d p) 0).M i 0 (aO d p) (k:Int)=⟨0,1,⟨p.d,b,p.dp,p.sp⟩,.back i (aO d p) b⟩:=by
    unfold sendP;rw[if_neg (by omega),if_neg (by omega),if_neg (by omega),if_pos hk,if_pos rfl];unfold ez;rw[if_pos (by simp),hbk];dsimp only;rw[if_pos (by simp;omega),Int.toNat_natCast,List.getD_eq_getElem?_getD,hb];rfl
   have hdo:=dg hz hs1 hd n1 hr rfl ht1;have htr2:TR ds ls ((forgetP ds s.1 i (aO d p) 0).M,s.2) [ac i 0 (aO d p) (k:Int)] (doP ds ls (forgetP ds s.1 i (aO d p) 0).M s.2 (ac i 0 (aO d p) (k:Int))).2 [ac i 0 (aO d p) (k:Int)]:=TR.ok (by show(doP ds ls (forgetP ds s.1 i (aO d p) 0).M s.2 _).1=0;rw[hdo]) (TR.nil _);have hs2:=hs1.tr hz hI htr2;rw[hdo]at htr2 hs2;have hr2:sendP d (learnP (forgetP ds s.1 i (aO d p) 0).M (.back i (aO d p) b)) i 1 ⟨b,p.d,p.sp,p.dp⟩ 0=aR 0 p:=by
    unfold sendP;rw[if_neg (by omega),if_neg (by omega),if_neg (by omega),if_pos hk,if_neg (by decide)];unfold eT;have e:(learnP (forgetP ds s.1 i (aO d p) 0).M (.back i (aO d p) b)).bk ((i:Int),aO d p)=some b:=ew _ _ _;dsimp only;rw[e,if_pos rfl,<- ha]
   have hdo2:=dg hz hs2 hd (addA_mem.2 (Or.inl n2)) hr2 rfl hpe;refine⟨[aA i (aO d p) 0,ac i 0 (aO d p) (k:Int)],ac i 1 ⟨b,p.d,p.sp,p.dp⟩ 0,_,_,rfl,htr.app htr2,λy hy=>?_,by rw[hdo2],by rw[hdo2];rfl⟩;rcases addA_mem.1 hy with hy|rfl
   ·exact Or.inl hy
   ·refine Or.inr ⟨far ht1 (show(1:Int)≠0 by decide),1,ht1,?_⟩;unfold az;rw[if_neg (by omega),if_neg (by omega),if_neg (by omega),if_pos hk,if_pos rfl];exact Or.inr ⟨List.mem_of_getElem? hb,j1⟩
end
structure KeptBS(w w':World)(row:Option Nat):Prop where
 size:w.heap.size<=w'.heap.size
 block:∀k,k<w.heap.size->some k≠row->w'.heap[k]?=w.heap[k]?
theorem KeptBS.of_below{w w':World}(h:Below w w w'):KeptBS w w' none:=⟨h.size,λk hk _=>h.block k hk⟩
section
variable {w w':World}{B e size n:Nat}{v:Value}{xs:List Value}{row:Option Nat}
theorem cg(h:w.ownsRow B e size v n xs){g:Nat}(hg:v.ownBlock=some g):g<w.heap.size /\ B<=g /\ ∃cur,w.heap[g]?=some (.cells cur e (0,0)):=by
 rcases h.2 with⟨rfl,_⟩|⟨g',cap,cur,rfl,hb,hh,_⟩
 ·cases hg
 ·obtain rfl:g'=g:=by simpa[Value.ownBlock]using hg
  exact⟨(Array.getElem?_eq_some_iff.1 hh).1,hb,cur,hh⟩
theorem jy(h:w.ownsRow B e size v n xs)(hk:KeptBS w w' row)(hr:∀g,v.ownBlock=some g->row≠some g):w'.ownsRow B e size v n xs:=by
 refine⟨h.1,?_⟩;rcases h.2 with k|⟨g,cap,cur,h1,h2,h3,h4⟩
 ·exact Or.inl k
 ·refine Or.inr ⟨g,cap,cur,h1,h2,?_,h4⟩;rw[hk.block g (Array.getElem?_eq_some_iff.1 h3).1 (λe=>hr g (by rw[h1];rfl) e.symm)];exact h3
end
theorem lh{t e:TypeId}{z:Value}{size bytes:Nat}(hu:Tryz.prog.underlying t=some (.slice e))(hinfo:(Tryz.prog.info? e).map (λi=>(i.zero,i.size,i.bytes))=some (some z,size,bytes))(hz1:z.cells.size=size)(hs0:0<size)(hby:bytes<=320)
  {a9 n:Nat} {w:World} {v:Value} {xs us:List Value} (ty:TypeId) (h:w.ownsRow a9 e size v n xs) (hus:us.length=size) (h1:∀u∈us,u.oneCell'=true) (hn:n<=700000) (hb:a9<=w.heap.size) :
  ∃v' w',(Builtin.append_ #[t,t] ty #[v,.slice (some ⟨w,0,none⟩) 1 1]).run Tryz.prog (w.alloc (.cells us.toArray e))=.ok v' w' /\ w'.ownsRow a9 e size v' (n+1) (xs++us) /\ Below a9 w w' /\ KeptBS w w' v.ownBlock /\ (v'.ownBlock=v.ownBlock\/∃g,v'.ownBlock=some g /\ w.heap.size<=g):=by
 obtain⟨i0,hi,hz0,hz1',hz2⟩:=info_parts hinfo;have hA:Below w w (w.alloc (.cells us.toArray e)):=(Below.refl _ _).alloc (Nat.le_refl _) _;have ho:(w.alloc (.cells us.toArray e)).ownsRow a9 e size v n xs:=jy h (KeptBS.of_below hA) (λg _=>by simp);obtain⟨v',w',hr,h4,h5,_,h7⟩:=run_append_own_at (P:=Tryz.prog) (w.alloc (.cells us.toArray e)) a9 t ty e i0 z size bytes hu hi hz0 hz1' hz2 hz1 hs0 v n xs ho ⟨w,0,none⟩ 1 1 us (by rw[hus,Nat.one_mul]) (λj x hj=>by
  have hg:(w.alloc (.cells us.toArray e)).heap[w.heap.size]?=some (.cells us.toArray e):=Go.Deep.blk_alloc_new w _;rw[Addr.add_lit,Nat.zero_add];simp only[World.cell?,hg];simp[hj]) h1 (by unfold maxLen;omega) (by
   have:(n+1)*bytes<=700001*320:=Nat.mul_le_mul (by omega) hby;omega) (by simp;omega)
 have hsz:(w.alloc (.cells us.toArray e)).heap.size=w.heap.size+1:=Go.Deep.nblk_alloc w _;refine⟨v',w',hr,h4,?_,⟨by have:=h5.size;omega,λk hk hne=>?_⟩,?_⟩
 ·exact((Below.refl a9 w).alloc hb (.cells us.toArray e)).grown h5 (by simp;omega) (λk e=>(ho.lt k e).1)
 ·rw[h5.block k (by omega) hne,Go.Deep.blk_alloc_lt w _ k hk]
 ·rcases h7 with h7|h7
  ·exact Or.inl h7
  ·exact Or.inr ⟨_,h7,by omega⟩
end Go.Proofs.YtjmclcmgpaofiaaGreat
namespace Go.Proofs.YtjmclcmgpaofiaaGreat
open Go.RowKit
structure FOk(ds:List Dv)(f:List Int):Prop where
 nd:f.Nodup
 lt:∀x∈f,0<=x /\ x<(ds.length:Int)
section
variable {ds:List Dv}{ls:List Lk}{f:List Int}
end
end Go.Proofs.YtjmclcmgpaofiaaGreat
namespace Go.Proofs.YtjmclcmgpaofiaaGreat
open Go.RowKit Go.Maps
section
variable {w w':World}{B e size n:Nat}{v:Value}{xs:List Value}
theorem jz(h:w.ownsRow B e size v n xs)(hb:Below w w w'):w'.ownsRow B e size v n xs:=jy h (KeptBS.of_below hb) (λg _=>by simp)
theorem yO(w:World)(u:Value)(e:TypeId)(hB:B<=w.heap.size):(w.alloc (.cells #[u] e)).ownsRow B e 1 (.slice (some ⟨w,0,none⟩) 1 1) 1 [u] :=
 ⟨rfl,Or.inr ⟨w,1,#[u],rfl,hB,Go.Deep.blk_alloc_new w _,Nat.le_refl _,by unfold maxLen;omega,rfl,rfl⟩⟩
theorem jA(h:w.ownsRow B e size v n xs)(hn:n≠0):∃g cap,v=.slice (some ⟨g,0,none⟩) n cap /\ B<=g /\ g<w.heap.size /\ n<=cap /\ cap<=maxLen /\ (∀j,w.frozen? ⟨g,j,none⟩=false) /\ ∀j u,xs[j]?=some u->w.cell? ⟨g,j,none⟩=some u:=by
 obtain⟨hl,⟨_,h0⟩|⟨g,cap,cur,rfl,hB,hg,h1,h2,h3,h4⟩⟩:=h
 ·exact absurd h0 hn
 refine⟨g,cap,rfl,hB,(Array.getElem?_eq_some_iff.1 hg).1,h1,h2,λj=>by simp[World.frozen?,hg],λj u hj=>?_⟩;rw[<- h4]at hj;have:=List.getElem?_take (l:=cur.toList) (i:=n*size) (j:=j);rw[hj]at this;simp only[World.cell?,hg]
 split at this
 ·simpa using this.symm
 ·cases this
theorem jB(B e size:Nat):w.ownsRow B e size (.slice none 0 0) 0 []:=⟨by simp,Or.inl ⟨rfl,rfl⟩⟩
theorem dh(h:w.ownsRow B e size v n xs):∃A cap,v=.slice A n cap:=by
 obtain⟨_,⟨rfl,rfl⟩|⟨g,cap,_,rfl,_⟩⟩:=h
 ·exact⟨none,0,rfl⟩
 ·exact⟨_,cap,rfl⟩
end
def intsS(f:List Int):List Value:=f.map (Value.int .i64)
structure SAr(w:World)(vd vl v:Value)(f:List Int)(W:World):Prop where
 be:Below w w W
 bN:Bk W w.heap.size #[vd,vl] 25
 row:W.ownsRow (w.heap.size+1) 3 1 v f.length (intsS f)
section
variable {w W W':World}{vd vl v:Value}{f:List Int}
end
end Go.Proofs.YtjmclcmgpaofiaaGreat
