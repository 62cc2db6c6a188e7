/-
  XAL.
-/
import Derived.Test.YtjmclcmgpaofiaaGreatXLy
import Derived.Test.YtjmclcmgpaofiaaGreatXAK
import Derived.Test.YtjmclcmgpaofiaaGreatXAJ
import Derived.Test.YtjmclcmgpaofiaaGreatXAB
set_option maxHeartbeats 8000000
set_option maxRecDepth 100000
namespace Go.Proofs.YtjmclcmgpaofiaaGreat
open Tryz
open Go.RowKit Go.Maps
section
variable {C:Cfg}{w:World}{ns:List Nd}{N:Nat}{m1:Nd->Option Nat}{m2:Mx->Option Nat}{m3:Nat->Option Nat}
theorem zV(h:Bu C w ns false N m1 m2 m3){c2:Nat}(hc2:C.c2=some c2){x y b9 k:Nat}{z:Bool}(hin:InsideM ns (x,y,z))(hf:m2 (x,y,z)=none)(hl:b9<C.a8)(hml:am ns (x,y,z) b9<b9){S:Nat->Bool}(hk:FitM S b9 ns (x,y,z) (k+1))(hm:MemoB ns b9 m2)(hN:N+2 ^ (k+1)<=1099511627776)
  (ih:Hq (∀w ns d9 N m2 x,Bu C w ns d9 N m1 m2 m3->InsideM ns x->FitM S b9 ns x k->(d9=false->MemoB ns b9 m2)->N+2 ^ k<=1099511627776->Cl 226 #[.pointer (some ⟨C.b,0,none⟩),cF x,(b9:Int)] w (fD C w ns d9 N m1 m3 b9 x (2 ^ k-1)))) :
  Cl 226 #[.pointer (some ⟨C.b,0,none⟩),cF (x,y,z),(b9:Int)] w (fD C w ns false N m1 m3 b9 (x,y,z) (2 ^ (k+1)-1)):=by
 have hl4:ns.length<=40000:=Nat.le_trans h.ar.le h.ar.most4;obtain⟨i1,i2⟩:=id hin;simp only[]at i1 i2;have ho:okx (x,y,z):=⟨by show x<_;omega,by show y<_;omega⟩;have hA:=((At.refl h).alloc (.cells #[(x:Int),(y:Int),.bool z] 296)).drew;have L:=(h.loc #[(x:Int),(y:Int),.bool z] 296).drew;obtain⟨b0,b1,b2,b3,b4,bf⟩:=h.reads;have lb:=h.ltb;have hlook:=(hA.bu.o2 c2 hc2).look tz3 (x:=(x,y,z)) ho;rw[hf]at hlook;simp only[em,Option.getD_none,Option.isSome_none]at hlook;rw[hc2]at b3;have wf:=h.ar.wf;have v16:=h.ar.vars16;have hp2:2 ^ (k+1)=2*2 ^ k:=by rw[Nat.pow_succ];omega
 have hp1:1<=2 ^ k:=Nat.one_le_two_pow;have HF:Hq (∀val,FitM S b9 ns (pm ns (x,y,z) (am ns (x,y,z) b9) val) k):=⟨λval=>hk.down wf hin hl hml val⟩;clear hk;have hpm:∀val,am ns (x,y,z) b9<am ns (pm ns (x,y,z) (am ns (x,y,z) b9) val) b9:=λval=>oL wf hin hl hml val;have hmn:∀(ts:Array TypeId) (t:TypeId) (W:World),(Builtin.min_ ts t #[(nv ns x:Int),(nv ns y:Int),(b9:Int)]).run prog W=.ok (.int .i64 (am ns (x,y,z) b9:Int)) W:=λts t W=>ko (nv ns x) (nv ns y) b9 ts t W;generalize hv:am ns (x,y,z) b9=v at *;have hvl:((v:Int) ==(b9:Int))=false:=by simp;omega
 clear h;go_enter func226,ntmps226;go_wp2_with fail;go_cut [7,8] (λv5 v6 wx=>v5=.int .i64 0 /\ v6=.bool false /\ jm C w wx ns N m1 m2 m3 x y z)
 case first =>
  go_region;all_goals
   go_wp2_with fail
   go_meet
   exact⟨rfl,rfl,hA,L⟩
 case rest =>
  obtain⟨rfl,rfl,hA1,L1⟩:=hcut;clear hA L hlook;obtain⟨⟨q0,q1,q2⟩,_⟩:=L1.reads;go_wp2_with fail;go_cut [9] (λv7 wx=>v7=.int .i64 (v:Int) /\ jm C w wx ns N m1 m2 m3 x y z)
  case first =>
   have hA2:=hA1.drew;go_region_held3 (λw'=>w'.cell? ⟨w,0,none⟩=some (.int .i64 (x:Int)) /\ w'.cell? ⟨w,1,none⟩=some (.int .i64 (y:Int))) (go_keep)
    (first|(go_at_call 201;refine(variable_any (At.bu (w0:=w) ‹_›) ‹_›).mono ?_;rintro e wn⟨rfl,rfl⟩))
   go_wp2_with fail
   go_meet
   exact⟨rfl,hA2,L1.drew⟩
  case rest =>
   obtain⟨rfl,hA2,L2⟩:=hcut;clear hA1 L1 q0 q1 q2 hmn;have hs2:=hA2.kp.size;have hA3:=hA2.alloc (.cells #[(v:Int),.int .i64 0,.int .i64 0] 144);have L3:=L2.alloc hA2.bu (.cells #[(v:Int),.int .i64 0,.int .i64 0] 144);have M3:=hA2.loc #[(v:Int),.int .i64 0,.int .i64 0] 144;have hne:w.heap.size≠wc.heap.size:=by have:=L2.out.lt;omega
   obtain⟨⟨q0,q1,q2⟩,_⟩:=L3.reads;go_wp2_with fail;refine(pS (c:=(x,y,z)) hA3.bu false i1 i2 (by omega)).mono ?_;rintro e w3⟨rfl,hp⟩;have hA4:=hA3.then hp;have L4:=L3.kp hp.kp;have M4:=M3.kp hp.kp;clear hp L3 M3 hA3 q0 q1 q2;go_wp2_with fail;refine(ih.out w3 ns false N m2 (pm ns (x,y,z) v false) hA4.bu (jl wf hin (by omega) false) (HF.out false) (λ_=>hm) (by omega)).mono ?_;rintro e w4⟨f0,ns1,full1,N1,m21,rfl,hp,X1,l1,n1,lt0,_,s1⟩;have hA5:=hA4.then hp;have L5:=L4.kp hp.kp;have M5:=M4.kp hp.kp;clear hp L4 M4 hA4;have wf1:=hA5.bu.ar.wf;have hin1:=hin.ext X1;have pe1:=kL hin X1 v true;obtain⟨j1,j2⟩:=id hin1;obtain⟨⟨p0,p1,p2⟩,g0,g1,g2⟩:=M5.reads;have hA6:=hA5.set (p:=⟨wc,1,none⟩) M5.out hs2 (.int .i64 (f0:Int));have L6:=L5.setOther (j:=1) M5.out hne (.int .i64 (f0:Int));have M6:=M5.set (j:=1) (.int .i64 (f0:Int));simp only[List.setIfInBounds_toArray,List.set_cons_succ,List.set_cons_zero]at M6;obtain⟨⟨q0,q1,q2⟩,_⟩:=L6.reads;go_wp2_with fail;refine(pS (c:=(x,y,z)) hA6.bu true j1 j2 (by omega)).mono ?_;rintro e w5⟨rfl,hp⟩;have hA7:=hA6.then hp;have L7:=L6.kp hp.kp;have M7:=M6.kp hp.kp;clear hp L5 M5 hA5 L6 M6 hA6 q0 q1 q2 p0 p1 p2 g0 g1 g2;go_wp2_with fail;refine(ih.out w5 ns1 full1 N1 m21 (pm ns1 (x,y,z) v true) hA7.bu (jl wf1 hin1 (by omega) true) (by rw[pe1];exact(HF.out true).ext wf wf1 (jl wf hin (by omega) true) X1) (λe=>(s1 e).1) (by omega)).mono ?_;rintro e w6⟨f1,ns2,full2,N2,m22,rfl,hp,X2,l2,n2,lt1,mo2,s2⟩;have hA8:=hA7.then hp;have L8:=L7.kp hp.kp;have M8:=M7.kp hp.kp;clear hp L7 M7 hA7;have wf2:=hA8.bu.ar.wf;have X2l:=X2.len;have sem2:full2=false->MemoB ns2 b9 m22 /\ IsBl ns2 b9 (pm ns (x,y,z) v false) f0 /\ IsBl ns2 b9 (pm ns (x,y,z) v true) f1:=λe2=>by
    have e1:full1=false:=by cases full1 <;> simp_all
    have a1:=(s1 e1).2.ext X2 wf1 wf2;have a2:=s2 e2;rw[pe1]at a2;exact⟨a2.1,a1,a2.2⟩
   obtain⟨⟨p0,p1,p2⟩,g0,g1,g2⟩:=M8.reads;have hA9:=hA8.set (p:=⟨wc,2,none⟩) M8.out hs2 (.int .i64 (f1:Int));have L9:=L8.setOther (j:=2) M8.out hne (.int .i64 (f1:Int));have M9:=M8.set (j:=2) (.int .i64 (f1:Int));simp only[List.setIfInBounds_toArray,List.set_cons_succ,List.set_cons_zero]at M9;obtain⟨⟨p0',p1',p2'⟩,_⟩:=M9.reads;go_wp2_with fail;refine(numberOf_any hA9.bu (v:=v) (l:=f0) (u:=f1) (by omega) (by omega) lt1 (λe2=>?_)).mono ?_
   ·obtain⟨_,a1,a2⟩:=sem2 e2;have b1:=a1.va;have b2:=a2.va;rw[ge (jl wf hin (by omega) _) (X1.trans X2)]at b1 b2;have:=hpm false;have:=hpm true;omega
   rintro e w8⟨f,ns3,full3,rfl,hp,X3,l3,lt3,mo3,s3⟩;have hA10:=(hA9.then hp).drew;have L10:=(L9.kp hp.kp).drew;clear hp L9 hA9 M9 M8 hA8 L8 p0 p1 p2 g0 g1 g2 p0' p1' p2';have wf3:=hA10.bu.ar.wf;have len3:ns3.length<=40000:=Nat.le_trans hA10.bu.ar.le hA10.bu.ar.most4;obtain⟨w9,hrun,hM9,hg9⟩:=(hA10.bu.o2 c2 hc2).store tz3 (by unfold maxLen;omega) (x:=(x,y,z)) ho (v:=f) (by omega);have hA11:=hA10.memo2 hc2 hM9 hg9;obtain⟨⟨q0,q1,q2⟩,_⟩:=L10.reads;obtain⟨d0,d1,d2,d3,d4,df⟩:=hA10.bu.reads;rw[hc2]at d3;simp only[em]at hrun;have hfin:fD C w ns false N m1 m3 b9 (x,y,z) (2 ^ (k+1)-1) (.returned (f:Int)) w9:=by
    have X03:=(X1.trans X2).trans X3;refine⟨f,ns3,full3,N2+1,_,rfl,hA11,X03,by omega,by omega,lt3,(λe=>by cases e),λe3=>?_⟩;have e2:full2=false:=by cases full2 <;> simp_all
    obtain⟨a0,a1,a2⟩:=sem2 e2;have hv3:am ns3 (x,y,z) b9=v:=by rw[ge hin X03];exact hv
    have J:IsBl ns3 b9 (x,y,z) f:=by
     refine yh (l:=f0) (u:=f1) wf3 (hin.ext X03) hl (by rw[hv3];omega) ?_ ?_ (by rw[hv3];exact s3 e3)
     ·rw[hv3,kL hin X03];exact a1.ext X3 wf2 wf3
     ·rw[hv3,kL hin X03];exact a2.ext X3 wf2 wf3
    exact⟨(a0.ext X3 wf2 wf3).upd J,J⟩
   clear hA10 hM9 hg9 L10 hA11;go_wp2_with fail;go_region;all_goals
    go_wp2_with fail;go_ret;exact hfin
theorem zW(S:Nat->Bool){c2:Nat}(hc2:C.c2=some c2){b9:Nat}(hl:b9<C.a8):∀(k:Nat) (w:World) (ns:List Nd) (d9:Bool) (N:Nat) (m2:Mx->Option Nat) (x:Mx),Bu C w ns d9 N m1 m2 m3->InsideM ns x->FitM S b9 ns x k->(d9=false->MemoB ns b9 m2) ->
  N+2 ^ k<=1099511627776->Cl 226 #[.pointer (some ⟨C.b,0,none⟩),cF x,(b9:Int)] w (fD C w ns d9 N m1 m3 b9 x (2 ^ k-1)):=by
 intro k
 induction k with
 | zero =>
   intro w ns d9 N m2 x _ _ hk;have:=hk.pos;omega
 | succ k ih =>
   intro w ns d9 N m2 c h hin hk hm hN;cases d9
   ·obtain⟨x,y,z⟩:=c;have hl4:ns.length<=40000:=Nat.le_trans h.ar.le h.ar.most4;obtain⟨i1,i2⟩:=id hin;simp only[]at i1 i2;have hp2:2 ^ (k+1)=2*2 ^ k:=by rw[Nat.pow_succ];omega
    have hp1:1<=2 ^ k:=Nat.one_le_two_pow;cases hf:m2 (x,y,z)with
    | none =>
      by_cases hml:am ns (x,y,z) b9<b9
      ·exact zV h hc2 hin hf hl hml hk (hm rfl) hN ⟨ih⟩
      ·have he:am ns (x,y,z) b9=b9:=by
        have:am ns (x,y,z) b9<=b9:=by unfold am;omega
        omega
       refine(ym h hc2 hin hf hl he (hm rfl) (by omega)).mono ?_;rintro e w'⟨r,ns',full',N',m2',q1,q2,q3,q4,q5,q6⟩;exact⟨r,ns',full',N',m2',q1,q2,q3,by omega,by omega,q6⟩
    | some f =>
      refine(yl h hc2 b9 ⟨by show x<_;omega,by show y<_;omega⟩ hf).mono ?_;rintro e w'⟨rfl,hA⟩;have J:=hm rfl _ _ hf;exact⟨f,ns,false,N,m2,rfl,hA,Ext.refl _,by omega,by omega,J.lt,id,λ_=>⟨hm rfl,J⟩⟩
   ·refine(yj h c b9).mono ?_;rintro e w'⟨rfl,hA⟩;exact⟨0,ns,true,N,m2,rfl,hA,Ext.refl _,by omega,by omega,(by have:=h.ar.wf.len;omega),id,λe=>by cases e⟩
end
def swE(e:Env)(i j:Nat):Env:=λx=>if x=i then e j else if x=j then e i else e x
structure IsSw(ns:List Nd)(i j f g:Nat):Prop where
 ltf:f<ns.length
 lt:g<ns.length
 ev:∀e,ev ns g e=ev ns f (swE e i j)
 va:min (nv ns f) i<=nv ns g
section
variable {a8:Nat}{ns ns':List Nd}
theorem IsSw.ext{i j f g:Nat}(h:IsSw ns i j f g)(X:Ext ns ns')(wf:Wf a8 ns)(wf':Wf a8 ns'):IsSw ns' i j f g:=by
 have hl:=X.len;have lt:=h.lt;have ltf:=h.ltf;refine⟨by omega,by omega,λe=>?_,?_⟩
 ·rw[X.ev wf wf' _ h.lt,X.ev wf wf' _ h.ltf];exact h.ev e
 ·rw[X.va h.ltf,X.va h.lt];exact h.va
def MemoS(ns:List Nd)(i j:Nat)(m:Nat->Option Nat):Prop:=∀f g,m f=some g->IsSw ns i j f g
theorem MemoS.ext{i j:Nat}{m:Nat->Option Nat}(h:MemoS ns i j m)(X:Ext ns ns')(wf:Wf a8 ns)(wf':Wf a8 ns'):MemoS ns' i j m:=λc f e=>(h c f e).ext X wf wf'
theorem MemoS.upd{i j:Nat}{m:Nat->Option Nat}(h:MemoS ns i j m){c f:Nat}(hf:IsSw ns i j c f):MemoS ns i j (upd m c f):=by
 intro d g hg;unfold YtjmclcmgpaofiaaGreat.upd at hg;by_cases e:d=c
 ·subst e;rw[if_pos rfl]at hg;cases hg;exact hf
 ·rw[if_neg e]at hg;exact h d g hg
theorem zX(wf:Wf a8 ns){i j f:Nat}(hij:i<j)(hf:f<ns.length)(hj:j<nv ns f):IsSw ns i j f f :=
 ⟨hf,hf,λe=>ip wf f hf _ _ (λx hx _=>by unfold swE;rw[if_neg (by omega),if_neg (by omega)]),by omega⟩
theorem zY(wf:Wf a8 ns){i j f l u g:Nat}(hij:i<j)(f2:2<=f)(hf:f<ns.length)(hi:nv ns f<i)(h0:IsSw ns i j (nl ns f) l)(h1:IsSw ns i j (nh ns f) u)(hn:IsNode ns (nv ns f) l u g):IsSw ns i j f g:=by
 refine⟨hf,hn.lt,λe=>?_,by have:=hn.va;omega⟩;have e0:swE e i j (nv ns f)=e (nv ns f):=by unfold swE;rw[if_neg (by omega),if_neg (by omega)]
 rw[hn.ev,h0.ev,h1.ev,cE wf f2 hf,e0]
theorem zZ(wf:Wf a8 ns){i j f l u g:Nat}(hij:i<j)(hj:j<a8)(hf:f<ns.length)(hi:i<=nv ns f)(h0:IsBl ns j (aw ns f i false,aw ns f i true,false) l)(h1:IsBl ns j (aw ns f i false,aw ns f i true,true) u)(hn:IsNode ns i l u g):IsSw ns i j f g:=by
 refine⟨hf,hn.lt,λe=>?_,by have:=hn.va;omega⟩;have hiv:i<a8:=by omega
 have e0:=h0.ev e;have e1:=h1.ev e;simp only[dU wf hf hiv hi]at e0 e1;rw[hn.ev,e0,e1];have sw:∀a b,e i=a->e j=b->setE (setE e j a) i b=swE e i j:=by
  intro a b ha hb
  funext x
  unfold setE swE;by_cases h1:x=i
  ·simp[h1,hb]
  ·by_cases h2:x=j
   ·simp[h2,ha,show j≠i by omega]
   ·simp[h1,h2]
 cases ha:e i <;> cases hb:e j
 ·rw[<- sw _ _ ha hb];simp
 ·rw[<- sw _ _ ha hb];simp
 ·rw[<- sw _ _ ha hb];simp
 ·rw[<- sw _ _ ha hb];simp
end
def gr(C:Cfg)(w:World)(ns:List Nd)(d9:Bool)(N:Nat)(m1:Nd->Option Nat)(i j f:Nat)(g:Nat)(e:Ending)(w':World):Prop :=
 ∃r ns' full' N' m2' m3',e=.returned (.int .i64 ((r:Nat):Int)) /\ At C w w' ns' full' N' m1 m2' m3' /\ Ext ns ns' /\ ns'.length<=ns.length+g /\ N'<=N+g /\ r<ns'.length /\ (d9=true->full'=true) /\ (full'=false->MemoB ns' j m2' /\ MemoS ns' i j m3' /\ IsSw ns' i j f r)
theorem lG(x y:Nat)(ts:Array TypeId)(t:TypeId)(W:World):(Builtin.min_ ts t #[(x:Int),(y:Int)]).run prog W=.ok (.int .i64 ((min x y:Nat):Int)) W:=by
 have e:((min x y:Nat):Int)=if(y:Int)<(x:Int)then(y:Int)else(x:Int):=by split <;> omega
 rw[e];simp[Builtin.min_,Builtin.min2]
section
variable {C:Cfg}{w:World}{ns:List Nd}{N:Nat}{m1:Nd->Option Nat}{m2:Mx->Option Nat}{m3:Nat->Option Nat}
theorem Aa(h:Bu C w ns true N m1 m2 m3){f:Nat}(hf:f<ns.length)(i j:Nat) :
  Cl 222 #[.pointer (some ⟨C.b,0,none⟩),(f:Int),(i:Int),(j:Int)] w λe w'=>e=.returned (.int .i64 0) /\ At C w w' ns true N m1 m2 m3:=by
 have hA:=(At.refl h).alloc (.cells #[(nv ns f:Int),(nl ns f:Int),(nh ns f:Int)] 144);obtain⟨b0,b1,b2,b3,b4,bf⟩:=h.reads;obtain⟨cap,a0,a1,a2,a3,af,an⟩:=h.ar.reads;obtain⟨n0,n1,n2⟩:=an f hf;have hl:ns.length<=40000:=Nat.le_trans h.ar.le h.ar.most4;have lb:=h.ltb;clear h an;generalize rowOf w C.a=g at *;go_enter func222,ntmps222;go_wp2_with fail;go_ret;exact⟨rfl,hA⟩
theorem Ac(h:Bu C w ns false N m1 m2 m3){f i j:Nat}(hf:f<ns.length)(hi:j<nv ns f) :
  Cl 222 #[.pointer (some ⟨C.b,0,none⟩),(f:Int),(i:Int),(j:Int)] w λe w'=>e=.returned (f:Int) /\ At C w w' ns false N m1 m2 m3:=by
 have hA:=(At.refl h).alloc (.cells #[(nv ns f:Int),(nl ns f:Int),(nh ns f:Int)] 144);obtain⟨b0,b1,b2,b3,b4,bf⟩:=h.reads;obtain⟨cap,a0,a1,a2,a3,af,an⟩:=h.ar.reads;obtain⟨n0,n1,n2⟩:=an f hf;have hl:ns.length<=40000:=Nat.le_trans h.ar.le h.ar.most4;have lb:=h.ltb;have t1:decide ((j:Int)<(nv ns f:Int))=true:=by simp;omega
 clear h an;generalize rowOf w C.a=g at *;go_enter func222,ntmps222;go_wp2_with fail;go_ret;exact⟨rfl,hA⟩
theorem Ad(h:Bu C w ns false N m1 m2 m3){c3:Nat}(hc3:C.c3=some c3){f i j r:Nat}(hf:f<ns.length)(hi:nv ns f<=j)(hr:m3 f=some r) :
  Cl 222 #[.pointer (some ⟨C.b,0,none⟩),(f:Int),(i:Int),(j:Int)] w λe w'=>e=.returned (r:Int) /\ At C w w' ns false N m1 m2 m3:=by
 have hA:=(At.refl h).alloc (.cells #[(nv ns f:Int),(nl ns f:Int),(nh ns f:Int)] 144);obtain⟨b0,b1,b2,b3,b4,bf⟩:=h.reads;obtain⟨cap,a0,a1,a2,a3,af,an⟩:=h.ar.reads;obtain⟨n0,n1,n2⟩:=an f hf;have hl:ns.length<=40000:=Nat.le_trans h.ar.le h.ar.most4;have lb:=h.ltb;have t1:decide ((j:Int)<(nv ns f:Int))=false:=by simp;omega
 have hlook:=(hA.bu.o3 c3 hc3).look tz4 (x:=f) (by show f<_;omega);rw[hr]at hlook;simp only[aH,Option.getD_some,Option.isSome_some]at hlook;rw[hc3]at b4;clear h an;generalize rowOf w C.a=g at *;go_enter func222,ntmps222;go_wp2_with fail;go_ret;exact⟨rfl,hA⟩
theorem Af(h:Bu C w ns false N m1 m2 m3){c3:Nat}(hc3:C.c3=some c3){f i j k:Nat}(hij:i<j)(hj:j<C.a8)(hf:f<ns.length)(hi:nv ns f<i)(hr:m3 f=none){S:Nat->Bool}(hk:FitW S i j C.a8 ns f (k+1))(hmb:MemoB ns j m2)(hms:MemoS ns i j m3)(hN:N+2 ^ (k+1)<=1099511627776)
  (ih:Hq (∀w ns d9 N m2 m3 f,Bu C w ns d9 N m1 m2 m3->f<ns.length->FitW S i j C.a8 ns f k->(d9=false->MemoB ns j m2 /\ MemoS ns i j m3)->N+2 ^ k<=1099511627776->Cl 222 #[.pointer (some ⟨C.b,0,none⟩),(f:Int),(i:Int),(j:Int)] w (gr C w ns d9 N m1 i j f (2 ^ k-1)))) :
  Cl 222 #[.pointer (some ⟨C.b,0,none⟩),(f:Int),(i:Int),(j:Int)] w (gr C w ns false N m1 i j f (2 ^ (k+1)-1)):=by
 have hA:=(At.refl h).alloc (.cells #[(nv ns f:Int),(nl ns f:Int),(nh ns f:Int)] 144);have L:=h.loc #[(nv ns f:Int),(nl ns f:Int),(nh ns f:Int)] 144;have hA1:=hA.alloc (.cells #[(nv ns f:Int),.int .i64 0,.int .i64 0] 144);have L1:=L.alloc hA.bu (.cells #[(nv ns f:Int),.int .i64 0,.int .i64 0] 144);have M1:=hA.loc #[(nv ns f:Int),.int .i64 0,.int .i64 0] 144;rw[show(w.alloc (.cells #[(nv ns f:Int),(nl ns f:Int),(nh ns f:Int)] 144)).heap.size=w.heap.size+1 by simp]at M1;obtain⟨b0,b1,b2,b3,b4,bf⟩:=h.reads;obtain⟨cap,a0,a1,a2,a3,af,an⟩:=h.ar.reads;obtain⟨n0,n1,n2⟩:=an f hf;have hl:ns.length<=40000:=Nat.le_trans h.ar.le h.ar.most4;have lb:=h.ltb;have wf:=h.ar.wf;have f2:2<=f:=va_lt wf hf (by omega);have hlo:=wf.lo f f2 hf;have hhi:=wf.hi f f2 hf;have vlo:=wf.vlo f f2 hf;have vhi:=wf.vhi f f2 hf;have hp2:2 ^ (k+1)=2*2 ^ k:=by rw[Nat.pow_succ];omega
 have hp1:1<=2 ^ k:=Nat.one_le_two_pow;have HF:Hq (FitW S i j C.a8 ns (nl ns f) k /\ FitW S i j C.a8 ns (nh ns f) k):=⟨hk.lo wf f2 hf hi,hk.hi' wf f2 hf hi⟩;clear hk;have t1:decide ((j:Int)<(nv ns f:Int))=false:=by simp;omega
 have t2:decide ((nv ns f:Int)<(i:Int))=true:=by simp;omega
 have hmn:∀(ts:Array TypeId) (t:TypeId) (W:World),(Builtin.min_ ts t #[(nv ns f:Int),(i:Int)]).run prog W=.ok (.int .i64 (nv ns f:Int)) W:=λts t W=>by
  have:=lG (nv ns f) i ts t W;rw[show min (nv ns f) i=nv ns f by omega]at this;exact this
 have hlook:=(hA.bu.o3 c3 hc3).look tz4 (x:=f) (by show f<_;omega);rw[hr]at hlook;simp only[aH,Option.getD_none,Option.isSome_none]at hlook;rw[hc3]at b4;clear h an;generalize rowOf w C.a=g at *;go_enter func222,ntmps222;go_wp2_with fail;refine(ih.out _ ns false N m2 m3 (nl ns f) hA1.bu (by omega) HF.out.1 (λ_=>⟨hmb,hms⟩) (by omega)).mono ?_;rintro e w4⟨f0,ns1,full1,N1,m21,m31,rfl,hp,X1,l1,k1,lt0,_,s1⟩;have hA4:=hA1.then hp;have L4:=L1.kp hp.kp;have M4:=M1.kp hp.kp;clear hp hA L hA1 L1 M1 hlook b0 b1 b2 b3 b4 bf a0 a1 a2 a3 af n0 n1 n2 hmn;have wf1:=hA4.bu.ar.wf;have X1l:=X1.len;obtain⟨⟨p0,p1,p2⟩,g0,g1,g2⟩:=M4.reads;have hA5:=hA4.set (p:=⟨w.heap.size+1,1,none⟩) M4.out (Nat.le_succ _) (.int .i64 (f0:Int));have L5:=L4.setOther (j:=1) M4.out (by omega) (.int .i64 (f0:Int));have M5:=M4.set (j:=1) (.int .i64 (f0:Int));simp only[List.setIfInBounds_toArray,List.set_cons_succ,List.set_cons_zero]at M5;obtain⟨⟨q0,q1,q2⟩,_⟩:=L5.reads;go_wp2_with fail;refine(ih.out _ ns1 full1 N1 m21 m31 (nh ns f) hA5.bu (by omega) (HF.out.2.ext wf hA5.bu.ar.wf (by omega) X1) (λe=>⟨(s1 e).1,(s1 e).2.1⟩) (by omega)).mono ?_;rintro e w6⟨f1,ns2,full2,N2,m22,m32,rfl,hp,X2,l2,k2,lt1,mo2,s2⟩;have hA6:=hA5.then hp;have M6:=M5.kp hp.kp;clear hp L4 M4 hA4 q0 q1 q2 p0 p1 p2 g0 g1 g2 hA5 L5 M5;have wf2:=hA6.bu.ar.wf;have X2l:=X2.len;have X02:=X1.trans X2;have sem2:full2=false->MemoB ns2 j m22 /\ MemoS ns2 i j m32 /\ IsSw ns2 i j (nl ns f) f0 /\ IsSw ns2 i j (nh ns f) f1:=λe2=>by
  have e1:full1=false:=by cases full1 <;> simp_all
  exact⟨(s2 e2).1,(s2 e2).2.1,(s1 e1).2.2.ext X2 wf1 wf2,(s2 e2).2.2⟩
 obtain⟨⟨p0,p1,p2⟩,g0,g1,g2⟩:=M6.reads;have hA7:=hA6.set (p:=⟨w.heap.size+1,2,none⟩) M6.out (Nat.le_succ _) (.int .i64 (f1:Int));have M7:=M6.set (j:=2) (.int .i64 (f1:Int));simp only[List.setIfInBounds_toArray,List.set_cons_succ,List.set_cons_zero]at M7;obtain⟨⟨p0',p1',p2'⟩,_⟩:=M7.reads;go_wp2_with fail;refine(numberOf_any hA7.bu (v:=nv ns f) (l:=f0) (u:=f1) (by omega) (by omega) lt1 (λe2=>?_)).mono ?_
 ·obtain⟨_,_,a1,a2⟩:=sem2 e2;have c1:=a1.va;have c2:=a2.va;rw[X02.va (by omega)]at c1 c2;omega
 rintro e w7⟨r,ns3,full3,rfl,hp,X3,l3,lt3,mo3,s3⟩;have hA8:=hA7.then hp;clear hp M6 hA6 hA7 M7 p0 p1 p2 g0 g1 g2 p0' p1' p2';have wf3:=hA8.bu.ar.wf;have len3:ns3.length<=40000:=Nat.le_trans hA8.bu.ar.le hA8.bu.ar.most4;obtain⟨w8,hrun,hM8,hg8⟩:=(hA8.bu.o3 c3 hc3).store tz4 (by unfold maxLen;omega) (x:=f) (by show f<_;omega) (v:=r) (by omega);have hA9:=hA8.memo3 hc3 hM8 hg8;obtain⟨d0,d1,d2,d3,d4,df⟩:=hA8.bu.reads;rw[hc3]at d4;simp only[aH]at hrun;have hfin:gr C w ns false N m1 i j f (2 ^ (k+1)-1) (.returned (r:Int)) w8:=by
  refine⟨r,ns3,full3,N2+1,m22,_,rfl,hA9,X02.trans X3,by omega,by omega,lt3,(λe=>by cases e),λe3=>?_⟩;have e2:full2=false:=by cases full2 <;> simp_all
  obtain⟨a0,a00,a1,a2⟩:=sem2 e2;have X03:=X02.trans X3;have X03l:=X03.len;have en:nd ns3 f=nd ns f:=X03.nd hf;have J:IsSw ns3 i j f r:=by
   refine zY (l:=f0) (u:=f1) wf3 hij f2 (by omega) ?_ ?_ ?_ ?_
   ·rw[nv,en];exact hi
   ·rw[nl,en];exact a1.ext X3 wf2 wf3
   ·rw[nh,en];exact a2.ext X3 wf2 wf3
   ·rw[nv,en];exact s3 e3
  exact⟨a0.ext X3 wf2 wf3,(a00.ext X3 wf2 wf3).upd J,J⟩
 clear hA8 hM8 hg8 hA9;go_wp2_with fail;go_ret;exact hfin
end
section
variable {C:Cfg}{w:World}{ns:List Nd}{N:Nat}{m1:Nd->Option Nat}{m2:Mx->Option Nat}{m3:Nat->Option Nat}
theorem Ag(h:Bu C w ns false N m1 m2 m3){c3:Nat}(hc3:C.c3=some c3){f i j k:Nat}(hij:i<j)(hj:j<C.a8)(hf:f<ns.length)(hi:i<=nv ns f)(hfj:nv ns f<=j)(hr:m3 f=none){S:Nat->Bool}(hk:FitW S i j C.a8 ns f (k+1))(hmb:MemoB ns j m2)(hms:MemoS ns i j m3)(hN:N+2 ^ (k+1)<=1099511627776)
  (hbl:Hq (∀w ns d9 N m2 x,Bu C w ns d9 N m1 m2 m3->InsideM ns x->FitM S j ns x k->(d9=false->MemoB ns j m2)->N+2 ^ k<=1099511627776->Cl 226 #[.pointer (some ⟨C.b,0,none⟩),cF x,(j:Int)] w (fD C w ns d9 N m1 m3 j x (2 ^ k-1)))) :
  Cl 222 #[.pointer (some ⟨C.b,0,none⟩),(f:Int),(i:Int),(j:Int)] w (gr C w ns false N m1 i j f (2 ^ (k+1)-1)):=by
 have hA:=(At.refl h).alloc (.cells #[(nv ns f:Int),(nl ns f:Int),(nh ns f:Int)] 144);have hA1:=hA.alloc (.cells #[(i:Int),.int .i64 0,.int .i64 0] 144);have M1:=hA.loc #[(i:Int),.int .i64 0,.int .i64 0] 144;rw[show(w.alloc (.cells #[(nv ns f:Int),(nl ns f:Int),(nh ns f:Int)] 144)).heap.size=w.heap.size+1 by simp]at M1;obtain⟨b0,b1,b2,b3,b4,bf⟩:=h.reads;obtain⟨cap,a0,a1,a2,a3,af,an⟩:=h.ar.reads;obtain⟨n0,n1,n2⟩:=an f hf;have hl:ns.length<=40000:=Nat.le_trans h.ar.le h.ar.most4;have lb:=h.ltb;have wf:=h.ar.wf;have v16:=h.ar.vars16;have hp2:2 ^ (k+1)=2*2 ^ k:=by rw[Nat.pow_succ];omega
 have hp1:1<=2 ^ k:=Nat.one_le_two_pow;have t1:decide ((j:Int)<(nv ns f:Int))=false:=by simp;omega
 have t2:decide ((nv ns f:Int)<(i:Int))=false:=by simp;omega
 have hmn:∀(ts:Array TypeId) (t:TypeId) (W:World),(Builtin.min_ ts t #[(nv ns f:Int),(i:Int)]).run prog W=.ok (.int .i64 (i:Int)) W:=λts t W=>by
  have:=lG (nv ns f) i ts t W;rw[show min (nv ns f) i=i by omega]at this;exact this
 have hlook:=(hA.bu.o3 c3 hc3).look tz4 (x:=f) (by show f<_;omega);rw[hr]at hlook;simp only[aH,Option.getD_none,Option.isSome_none]at hlook;rw[hc3]at b4;have hiv:i<C.a8:=by omega
 have lp0:=eq wf hf hiv false;have lp1:=eq wf hf hiv true;have vp0:=dA wf hf hiv hi false;have vp1:=dA wf hf hiv hi true;have HF:Hq (∀z,FitM S j ns (aw ns f i false,aw ns f i true,z) k):=⟨λz=>hk.mix wf hij hj hf hi z⟩;clear h an hk;generalize rowOf w C.a=g at *;go_enter func222,ntmps222;go_wp2_with fail;refine(gq hA1.bu false hf (by omega)).mono ?_;rintro e w2⟨rfl,hp⟩;have hA2:=hA1.then hp;have M2:=M1.kp hp.kp;clear hp hA hA1 M1 hlook b0 b1 b2 b3 b4 bf a0 a1 a2 a3 af n0 n1 n2 hmn;go_wp2_with fail;refine(gq hA2.bu true hf (by omega)).mono ?_;rintro e w3⟨rfl,hp⟩;have hA3:=hA2.then hp;have M3:=M2.kp hp.kp;clear hp hA2 M2;generalize hq0:aw ns f i false=x0 at *;generalize hq1:aw ns f i true=x1 at *;have hin:∀z,InsideM ns (x0,x1,z):=λz=>⟨lp0,lp1⟩;have hmi:∀z,i<am ns (x0,x1,z) j:=λz=>by simp only[am];omega
 go_wp2_with fail;refine(hbl.out _ ns false N m2 (x0,x1,false) hA3.bu (hin false) (HF.out false) (λ_=>hmb) (by omega)).mono ?_;rintro e w4⟨f0,ns1,full1,N1,m21,rfl,hp,X1,l1,k1,lt0,_,s1⟩;have hA4:=hA3.then hp;have M4:=M3.kp hp.kp;clear hp hA3 M3;have wf1:=hA4.bu.ar.wf;have X1l:=X1.len;obtain⟨⟨p0,p1,p2⟩,g0,g1,g2⟩:=M4.reads;have hA5:=hA4.set (p:=⟨w.heap.size+1,1,none⟩) M4.out (Nat.le_succ _) (.int .i64 (f0:Int));have M5:=M4.set (j:=1) (.int .i64 (f0:Int));simp only[List.setIfInBounds_toArray,List.set_cons_succ,List.set_cons_zero]at M5;go_wp2_with fail;refine(hbl.out _ ns1 full1 N1 m21 (x0,x1,true) hA5.bu ((hin true).ext X1) ((HF.out true).ext wf hA5.bu.ar.wf (hin true) X1) (λe=>(s1 e).1) (by omega)).mono ?_;rintro e w6⟨f1,ns2,full2,N2,m22,rfl,hp,X2,l2,k2,lt1,mo2,s2⟩;have hA6:=hA5.then hp;have M6:=M5.kp hp.kp;clear hp M4 hA4 p0 p1 p2 g0 g1 g2 hA5 M5;have wf2:=hA6.bu.ar.wf;have X2l:=X2.len;have X02:=X1.trans X2;have sem2:full2=false->MemoB ns2 j m22 /\ IsBl ns2 j (x0,x1,false) f0 /\ IsBl ns2 j (x0,x1,true) f1:=λe2=>by
  have e1:full1=false:=by cases full1 <;> simp_all
  exact⟨(s2 e2).1,(s1 e1).2.ext X2 wf1 wf2,(s2 e2).2⟩
 obtain⟨⟨p0,p1,p2⟩,g0,g1,g2⟩:=M6.reads;have hA7:=hA6.set (p:=⟨w.heap.size+1,2,none⟩) M6.out (Nat.le_succ _) (.int .i64 (f1:Int));have M7:=M6.set (j:=2) (.int .i64 (f1:Int));simp only[List.setIfInBounds_toArray,List.set_cons_succ,List.set_cons_zero]at M7;obtain⟨⟨p0',p1',p2'⟩,_⟩:=M7.reads;go_wp2_with fail;refine(numberOf_any hA7.bu (v:=i) (l:=f0) (u:=f1) (by omega) (by omega) lt1 (λe2=>?_)).mono ?_
 ·obtain⟨_,a1,a2⟩:=sem2 e2;have c1:=a1.va;have c2:=a2.va;rw[ge (hin _) X02]at c1 c2;have:=hmi false;have:=hmi true;omega
 rintro e w7⟨r,ns3,full3,rfl,hp,X3,l3,lt3,mo3,s3⟩;have hA8:=hA7.then hp;clear hp M6 hA6 hA7 M7 p0 p1 p2 g0 g1 g2 p0' p1' p2';have wf3:=hA8.bu.ar.wf;have len3:ns3.length<=40000:=Nat.le_trans hA8.bu.ar.le hA8.bu.ar.most4;obtain⟨w8,hrun,hM8,hg8⟩:=(hA8.bu.o3 c3 hc3).store tz4 (by unfold maxLen;omega) (x:=f) (by show f<_;omega) (v:=r) (by omega);have hA9:=hA8.memo3 hc3 hM8 hg8;obtain⟨d0,d1,d2,d3,d4,df⟩:=hA8.bu.reads;rw[hc3]at d4;simp only[aH]at hrun;have hfin:gr C w ns false N m1 i j f (2 ^ (k+1)-1) (.returned (r:Int)) w8:=by
  refine⟨r,ns3,full3,N2+1,m22,_,rfl,hA9,X02.trans X3,by omega,by omega,lt3,(λe=>by cases e),λe3=>?_⟩;have e2:full2=false:=by cases full2 <;> simp_all
  obtain⟨a0,a1,a2⟩:=sem2 e2;have X03:=X02.trans X3;have X03l:=X03.len;have J:IsSw ns3 i j f r:=by
   refine zZ (l:=f0) (u:=f1) wf3 hij hj (by omega) (by rw[X03.va hf];exact hi) ?_ ?_ (s3 e3)
   ·rw[dB X03 hf,dB X03 hf,hq0,hq1];exact a1.ext X3 wf2 wf3
   ·rw[dB X03 hf,dB X03 hf,hq0,hq1];exact a2.ext X3 wf2 wf3
  exact⟨a0.ext X3 wf2 wf3,(hms.ext X03 wf wf3).upd J,J⟩
 clear hA8 hM8 hg8 hA9;go_wp2_with fail;go_ret;exact hfin
theorem Ah(S:Nat->Bool){c2 c3:Nat}(hc2:C.c2=some c2)(hc3:C.c3=some c3){i j:Nat}(hij:i<j)(hj:j<C.a8):∀(k:Nat) (w:World) (ns:List Nd) (d9:Bool) (N:Nat) (m2:Mx->Option Nat) (m3:Nat->Option Nat) (f:Nat),Bu C w ns d9 N m1 m2 m3->f<ns.length->FitW S i j C.a8 ns f k ->
  (d9=false->MemoB ns j m2 /\ MemoS ns i j m3)->N+2 ^ k<=1099511627776->Cl 222 #[.pointer (some ⟨C.b,0,none⟩),(f:Int),(i:Int),(j:Int)] w (gr C w ns d9 N m1 i j f (2 ^ k-1)):=by
 intro k
 induction k with
 | zero =>
   intro w ns d9 N m2 m3 f h hf hk;have:=hk.pos (show i<C.a8 by omega);omega
 | succ k ih =>
   intro w ns d9 N m2 m3 f h hf hk hm hN;cases d9
   ·by_cases hfj:j<nv ns f
    ·refine(Ac h hf hfj).mono ?_;rintro e w'⟨rfl,hA⟩;exact⟨f,ns,false,N,m2,m3,rfl,hA,Ext.refl _,by omega,by omega,hf,id,λ_=>⟨(hm rfl).1,(hm rfl).2,zX h.ar.wf hij hf hfj⟩⟩
    ·cases hr:m3 f with
     | none =>
       by_cases hi:nv ns f<i
       ·exact Af h hc3 hij hj hf hi hr hk (hm rfl).1 (hm rfl).2 hN ⟨ih⟩
       ·exact Ag h hc3 hij hj hf (by omega) (by omega) hr hk (hm rfl).1 (hm rfl).2 hN ⟨λw ns d9 N m2 x=>zW S hc2 hj k w ns d9 N m2 x⟩
     | some r =>
       refine(Ad h hc3 hf (by omega) hr).mono ?_;rintro e w'⟨rfl,hA⟩;have J:=(hm rfl).2 _ _ hr;exact⟨r,ns,false,N,m2,m3,rfl,hA,Ext.refl _,by omega,by omega,J.lt,id,λ_=>⟨(hm rfl).1,(hm rfl).2,J⟩⟩
   ·refine(Aa h hf i j).mono ?_;rintro e w'⟨rfl,hA⟩;exact⟨0,ns,true,N,m2,m3,rfl,hA,Ext.refl _,by omega,by omega,(by have:=h.ar.wf.len;omega),id,λe=>by cases e⟩
end
def wth(S:Nat->Bool)(i j:Nat):Nat->Bool:=λx=>S x||x == i||x == j
theorem qg(S:Nat->Bool):∀d v,cnR S d v<=d
 | 0,_=>Nat.le_refl _
 | d+1,v=>by
   have:=qg S d (v+1);rw[cnR]
   split <;> omega
theorem fL{S:Nat->Bool}{a8:Nat}(v:Nat):cnS S a8 v<=a8:=by
 have:=qg S (a8-v) v;unfold cnS;omega
theorem Ai{S:Nat->Bool}{a8 i j f:Nat}{ns:List Nd}(hd:DepS S (ev ns f)):FitW (wth S i j) (min i j) (max i j) a8 ns f (cnS (wth S i j) a8 0):=by
 have hi:wth S i j i=true:=by simp[wth]
 have hj:wth S i j j=true:=by simp[wth]
 refine⟨hd.mono λx hx=>by simp[wth,hx],?_,?_,cW (Nat.zero_le _)⟩
 ·rcases Nat.le_total i j with h|h
  ·rw[Nat.min_eq_left h];exact hi
  ·rw[Nat.min_eq_right h];exact hj
 ·rcases Nat.le_total i j with h|h
  ·rw[Nat.max_eq_right h];exact hj
  ·rw[Nat.max_eq_left h];exact hi
section
variable {a9 a M a8 a7:Nat}{w:World}{ns:List Nd}
theorem qh(S:Nat->Bool)(h:Ar a9 a M a8 a7 w ns){f g:Nat}(hf:f<ns.length)(hg:g<ns.length)(d1:DepS S (ev ns f))(d2:DepS S (ev ns g)) :
  Cl 110 #[.pointer a,(f:Int),(g:Int)] w (OpPost a9 a M a8 a7 w ns (2 ^ cnS S a8 0-1) (λq=>ev ns f q&&ev ns g q)):=by
 have l2:=h.wf.len;have hc:Hq (Cl 141 #[.pointer a,(f:Int),(g:Int),.int .i64 ((0:Nat):Int)] w (OpPost a9 a M a8 a7 w ns (2 ^ cnS S a8 0-1) λq=>if ev ns f q then ev ns g q else ev ns 0 q)):=⟨kq S h (c:=(f,g,0)) ⟨hf,by show g<_;omega,by show 0<_;omega⟩ ⟨d1,d2,(λe e' _=>by rw[ev0,ev0]),cW (Nat.zero_le _)⟩ (Nat.le_trans (fL 0) h.vars16)⟩;clear d1 d2;generalize cnS S a8 0=kk at *;go_enter func110,ntmps110;go_wp2_with fail;refine hc.out.mono ?_;rintro e w' hp;have hp2:OpPost a9 a M a8 a7 w ns (2 ^ kk-1) (λq=>ev ns f q&&ev ns g q) e w':=hp.of (λq=>by simp only[ev0];cases ev ns f q <;> simp);clear hp;have hp3:=hp2;obtain⟨ns',_,_,_,_,⟨f',rfl,_⟩|⟨rfl,_⟩⟩:=hp2
 ·go_wp2_with fail;go_ret2;exact hp3
 ·go_wp2_with fail;go_ret2;exact hp3
theorem qi(S:Nat->Bool)(h:Ar a9 a M a8 a7 w ns){f g:Nat}(hf:f<ns.length)(hg:g<ns.length)(d1:DepS S (ev ns f))(d2:DepS S (ev ns g)) :
  Cl 131 #[.pointer a,(f:Int),(g:Int)] w (OpPost a9 a M a8 a7 w ns (2 ^ cnS S a8 0-1) (λq=>ev ns f q||ev ns g q)):=by
 have l2:=h.wf.len;have hc:Hq (Cl 141 #[.pointer a,(f:Int),.int .i64 ((1:Nat):Int),(g:Int)] w (OpPost a9 a M a8 a7 w ns (2 ^ cnS S a8 0-1) λq=>if ev ns f q then ev ns 1 q else ev ns g q)):=⟨kq S h (c:=(f,1,g)) ⟨hf,by show 1<_;omega,by show g<_;omega⟩ ⟨d1,(λe e' _=>by rw[ev1,ev1]),d2,cW (Nat.zero_le _)⟩ (Nat.le_trans (fL 0) h.vars16)⟩;clear d1 d2;generalize cnS S a8 0=kk at *;go_enter func131,ntmps131;go_wp2_with fail;refine hc.out.mono ?_;rintro e w' hp;have hp2:OpPost a9 a M a8 a7 w ns (2 ^ kk-1) (λq=>ev ns f q||ev ns g q) e w':=hp.of (λq=>by simp only[ev1];cases ev ns f q <;> simp);clear hp;have hp3:=hp2;obtain⟨ns',_,_,_,_,⟨f',rfl,_⟩|⟨rfl,_⟩⟩:=hp2
 ·go_wp2_with fail;go_ret2;exact hp3
 ·go_wp2_with fail;go_ret2;exact hp3
theorem Aj(h:Ar a9 a M a8 a7 w ns){f i:Nat}(hf:f<ns.length)(hi:i<a8) :
  Cl 217 #[.pointer a,(f:Int),(i:Int)] w (OpPost a9 a M a8 a7 w ns (2 ^ a8-1) λq=>ev ns f (setE q i false)||ev ns f (setE q i true)):=by
 have hmm:=@run_makeMap prog;have la:=h.lta;have lM:=h.ltM;have hA:=h.lowA;have v16:=h.vars16;have wf:=h.wf;have hs:((w.alloc (.map #[] 0)).alloc (.map #[] 0)).heap.size=w.heap.size+2:=by simp
 have hs1:(w.alloc (.map #[] 0)).heap.size=w.heap.size+1:=by simp
 have hpw:=Nat.pow_le_pow_right (n:=2) (by omega) v16;have hb:=bu_new (w:=(w.alloc (.map #[] 0)).alloc (.map #[] 0)) (C:=⟨a9,a,w.heap.size+2,M,some w.heap.size,none,some (w.heap.size+1),a8,a7⟩) (m1:=λ_=>none) (m2:=λ_=>none) (m3:=λ_=>none) ((h.alloc _).alloc _) (by simp) (by rw[hs];show a9<=_;omega)
  (λi e=>by cases e;exact(ei eM w).same (Below.heap_alloc _ _ _ (by simp))) (λ_ e=>by cases e) (λi e=>by cases e;have hq:=ei aH (w.alloc (.map #[] 0));rw[hs1]at hq;exact hq)
  (λi e=>by cases e;exact⟨by show a9<=w.heap.size;omega,by show w.heap.size≠M;omega,(λe=>by simp at e),(λe=>by simp at e)⟩) (λ_ e=>by cases e) (λi e=>by cases e;exact⟨by show a9<=w.heap.size+1;omega,by show w.heap.size+1≠M;omega,(λe=>by simp at e),(λe=>by simp at e)⟩)
 have hch:=yf (C:=⟨a9,a,w.heap.size+2,M,some w.heap.size,none,some (w.heap.size+1),a8,a7⟩) (c1:=w.heap.size) (c3:=w.heap.size+1) rfl rfl hi a8 _ ns false 0 _ _ f hb hf (Nat.le_add_left _ _) (λ_=>⟨(λ_ _ e=>by cases e),(λ_ _ e=>by cases e)⟩) (by omega);have t1:(decide ((0:Int)<=(f:Int))&&decide ((f:Int)<(ns.length:Int)))=true:=by simp;omega
 have t2:(decide ((0:Int)<=(i:Int))&&decide ((i:Int)<(a8:Int)))=true:=by simp;omega
 have hch':=Hq.mk hch;clear hch hb hpw;go_enter func217,ntmps217;go_wp2_with (first
  | (go_at_call 84;refine(di h (f:Int)).mono ?_;rintro e w'⟨rfl,rfl⟩;rw[t1])
  | (go_at_call 158;refine(hasVariable_any h (i:Int)).mono ?_;rintro e w'⟨rfl,rfl⟩;rw[t2]))
 refine hch'.out.mono ?_;rintro e w2⟨r,ns',full',N',m1',m3',rfl,hp,X,l1,_,lt,_,sm⟩;have wf':=hp.bu.ar.wf;have hK:Kp (ca a9 a M a8 a7) w' w2:=hp.kp.outer rfl rfl rfl rfl (by simp;omega) (λi hi=>(Below.heap_alloc _ _ _ (by simp;omega)).trans ((Below.heap_alloc _ _ _ (by simp;omega)).trans (Below.heap_alloc _ _ _ hi))) (by
  rintro i (e|e|e|e|e|e)
  ·exact Or.inl e
  ·exact Or.inr (Or.inr (by rw[e];show _<=w'.heap.size+2;omega))
  ·exact Or.inr (Or.inl e)
  ·cases e;exact Or.inr (Or.inr (Nat.le_refl _))
  ·cases e
  ·cases e;exact Or.inr (Or.inr (Nat.le_succ _))) la
 go_wp2_with fail;cases full'
 ·refine(answer_any hp.bu r).mono ?_;rintro e w3⟨rfl,rfl⟩;have hfin:OpPost a9 a M a8 a7 w' ns (2 ^ a8-1) (λq=>ev ns f (setE q i false)||ev ns f (setE q i true)) (.returned (.tuple #[(r:Int),.int .i64 0])) w3 :=
   ⟨ns',hp.bu.ar,hK,X,l1,Or.inl ⟨r,rfl,lt,λq=>by rw[(sm rfl).2.2.ev q,X.ev wf wf' _ hf,X.ev wf wf' _ hf]⟩⟩
  clear hp hK;go_wp2_with fail;go_ret2;exact hfin
 ·refine(answer_any hp.bu r).mono ?_;rintro e w3⟨rfl,rfl⟩;have hfin:OpPost a9 a M a8 a7 w' ns (2 ^ a8-1) (λq=>ev ns f (setE q i false)||ev ns f (setE q i true)) (.returned (.tuple #[.int .i64 0,.int .i64 6])) w3 :=
   ⟨ns',hp.bu.ar,hK,X,l1,Or.inr ⟨rfl,hp.bu.full_len rfl⟩⟩
  clear hp hK;go_wp2_with fail;go_ret2;exact hfin
theorem Ak(e:Env)(i j:Nat):swE e i j=swE e j i:=by
 funext x
 unfold swE;by_cases h1:x=i <;> by_cases h2:x=j <;> simp_all
theorem Al(e:Env)(i:Nat):swE e i i=e:=by
 funext x
 unfold swE;by_cases h1:x=i <;> simp_all
theorem Am(x y:Nat)(ts:Array TypeId)(t:TypeId)(W:World):(Builtin.max_ ts t #[(x:Int),(y:Int)]).run prog W=.ok (.int .i64 ((max x y:Nat):Int)) W:=by
 have e:((max x y:Nat):Int)=if(x:Int)<(y:Int)then(y:Int)else(x:Int):=by split <;> omega
 rw[e];simp[Builtin.max_,Builtin.max2]
theorem An(h:Ar a9 a M a8 a7 w ns){f i:Nat}(hf:f<ns.length)(hi:i<a8) :
  CS 216 #[.pointer a,(f:Int),(i:Int),(i:Int)] w (.tuple #[(f:Int),.int .i64 0]):=by
 have t1:(decide ((0:Int)<=(f:Int))&&decide ((f:Int)<(ns.length:Int)))=true:=by simp;omega
 have t2:(decide ((0:Int)<=(i:Int))&&decide ((i:Int)<(a8:Int)))=true:=by simp;omega
 go_enter func216,ntmps216;go_wp2_with (first
  | (go_at_call 84;refine(di h (f:Int)).mono ?_;rintro e w'⟨rfl,rfl⟩;rw[t1])
  | (go_at_call 158;refine(hasVariable_any h (i:Int)).mono ?_;rintro e w'⟨rfl,rfl⟩;rw[t2]))
 go_ret2;exact⟨rfl,rfl⟩
theorem swap_two(S:Nat->Bool)(h:Ar a9 a M a8 a7 w ns){f i j:Nat}(hf:f<ns.length)(hi:i<a8)(hj:j<a8)(hij:i≠j)(hd:DepS S (ev ns f)) :
  Cl 216 #[.pointer a,(f:Int),(i:Int),(j:Int)] w (OpPost a9 a M a8 a7 w ns (2 ^ cnS (wth S i j) a8 0-1) λq=>ev ns f (swE q i j)):=by
 have hmm:=@run_makeMap prog;have la:=h.lta;have lM:=h.ltM;have hA:=h.lowA;have v16:=h.vars16;have wf:=h.wf;have hs:((w.alloc (.map #[] 0)).alloc (.map #[] 0)).heap.size=w.heap.size+2:=by simp
 have hs1:(w.alloc (.map #[] 0)).heap.size=w.heap.size+1:=by simp
 have hpw:=Nat.pow_le_pow_right (n:=2) (by omega) (Nat.le_trans (fL (S:=wth S i j) (a8:=a8) 0) v16);have hb:=bu_new (w:=(w.alloc (.map #[] 0)).alloc (.map #[] 0)) (C:=⟨a9,a,w.heap.size+2,M,none,some (w.heap.size+1),some w.heap.size,a8,a7⟩) (m1:=λ_=>none) (m2:=λ_=>none) (m3:=λ_=>none) ((h.alloc _).alloc _) (by simp) (by rw[hs];show a9<=_;omega)
  (λ_ e=>by cases e) (λi e=>by cases e;have hq:=ei em (w.alloc (.map #[] 0));rw[hs1]at hq;exact hq) (λi e=>by cases e;exact(ei aH w).same (Below.heap_alloc _ _ _ (by simp)))
  (λ_ e=>by cases e) (λi e=>by cases e;exact⟨by show a9<=w.heap.size+1;omega,by show w.heap.size+1≠M;omega,(λe=>by simp at e),(λe=>by simp at e)⟩) (λi e=>by cases e;exact⟨by show a9<=w.heap.size;omega,by show w.heap.size≠M;omega,(λe=>by simp at e),(λe=>by simp at e)⟩)
 have hch:=Ah (wth S i j) (C:=⟨a9,a,w.heap.size+2,M,none,some (w.heap.size+1),some w.heap.size,a8,a7⟩) (m1:=λ_=>none) (c2:=w.heap.size+1) (c3:=w.heap.size) rfl rfl (i:=min i j) (j:=max i j) (by omega) (by show max i j<a8;omega) (cnS (wth S i j) a8 0) _ ns false 0 _ _ f hb hf (Ai hd) (λ_=>⟨(λ_ _ e=>by cases e),(λ_ _ e=>by cases e)⟩) (by omega);have t1:(decide ((0:Int)<=(f:Int))&&decide ((f:Int)<(ns.length:Int)))=true:=by simp;omega
 have t2:(decide ((0:Int)<=(i:Int))&&decide ((i:Int)<(a8:Int)))=true:=by simp;omega
 have t3:(decide ((0:Int)<=(j:Int))&&decide ((j:Int)<(a8:Int)))=true:=by simp;omega
 have t4:((i:Int) ==(j:Int))=false:=by simp;omega
 have hsw:∀q,swE q (min i j) (max i j)=swE q i j:=λq=>by
  rcases Nat.le_total i j with hle|hle
  ·rw[Nat.min_eq_left hle,Nat.max_eq_right hle]
  ·rw[Nat.min_eq_right hle,Nat.max_eq_left hle,Ak]
 have hmn:∀(ts:Array TypeId) (t:TypeId) (W:World),(Builtin.min_ ts t #[(i:Int),(j:Int)]).run prog W=.ok (.int .i64 ((min i j:Nat):Int)) W:=λts t W=>lG i j ts t W;have hmx:∀(ts:Array TypeId) (t:TypeId) (W:World),(Builtin.max_ ts t #[(i:Int),(j:Int)]).run prog W=.ok (.int .i64 ((max i j:Nat):Int)) W:=λts t W=>Am i j ts t W;generalize cnS (wth S i j) a8 0=kk at *;generalize min i j=lo at *;generalize max i j=up at *;have hch':=Hq.mk hch;have hsw':=Hq.mk hsw;clear hch hb hpw hsw hd;go_enter func216,ntmps216;go_wp2_with (first
  | (go_at_call 84;refine(di h (f:Int)).mono ?_;rintro e w'⟨rfl,rfl⟩;rw[t1])
  | (go_at_call_of 158 (Value.int .i64 (i:Int));refine(hasVariable_any h (i:Int)).mono ?_;rintro e w'⟨rfl,rfl⟩;rw[t2])
  | (go_at_call_of 158 (Value.int .i64 (j:Int));refine(hasVariable_any h (j:Int)).mono ?_;rintro e w'⟨rfl,rfl⟩;rw[t3]))
 refine hch'.out.mono ?_;rintro e w2⟨r,ns',full',N',m2',m3',rfl,hp,X,l1,_,lt,_,sm⟩;have wf':=hp.bu.ar.wf;have hK:Kp (ca a9 a M a8 a7) w' w2:=hp.kp.outer rfl rfl rfl rfl (by simp;omega) (λi hi=>(Below.heap_alloc _ _ _ (by simp;omega)).trans ((Below.heap_alloc _ _ _ (by simp;omega)).trans (Below.heap_alloc _ _ _ hi))) (by
  rintro i (e|e|e|e|e|e)
  ·exact Or.inl e
  ·exact Or.inr (Or.inr (by rw[e];show _<=w'.heap.size+2;omega))
  ·exact Or.inr (Or.inl e)
  ·cases e
  ·cases e;exact Or.inr (Or.inr (Nat.le_succ _))
  ·cases e;exact Or.inr (Or.inr (Nat.le_refl _))) la
 go_wp2_with fail;cases full'
 ·refine(answer_any hp.bu r).mono ?_;rintro e w3⟨rfl,rfl⟩;have hfin:OpPost a9 a M a8 a7 w' ns (2 ^ kk-1) (λq=>ev ns f (swE q i j)) (.returned (.tuple #[(r:Int),.int .i64 0])) w3 :=
   ⟨ns',hp.bu.ar,hK,X,l1,Or.inl ⟨r,rfl,lt,λq=>by rw[(sm rfl).2.2.ev q,X.ev wf wf' _ hf,hsw'.out]⟩⟩
  clear hp hK;go_wp2_with fail;go_ret2;exact hfin
 ·refine(answer_any hp.bu r).mono ?_;rintro e w3⟨rfl,rfl⟩;have hfin:OpPost a9 a M a8 a7 w' ns (2 ^ kk-1) (λq=>ev ns f (swE q i j)) (.returned (.tuple #[.int .i64 0,.int .i64 6])) w3 :=
   ⟨ns',hp.bu.ar,hK,X,l1,Or.inr ⟨rfl,hp.bu.full_len rfl⟩⟩
  clear hp hK;go_wp2_with fail;go_ret2;exact hfin
theorem qj(S:Nat->Bool)(h:Ar a9 a M a8 a7 w ns){f i j:Nat}(hf:f<ns.length)(hi:i<a8)(hj:j<a8)(hd:DepS S (ev ns f)) :
  Cl 216 #[.pointer a,(f:Int),(i:Int),(j:Int)] w (OpPost a9 a M a8 a7 w ns (2 ^ cnS (wth S i j) a8 0-1) λq=>ev ns f (swE q i j)):=by
 by_cases e:i=j
 ·subst e;refine(An h hf hi).mono ?_;rintro e w'⟨rfl,rfl⟩;exact⟨ns,h,Kp.refl _ _,Ext.refl _,Nat.le_add_right _ _,Or.inl ⟨f,rfl,hf,λq=>by show ev ns f q=ev ns f (swE q i i);rw[Al]⟩⟩
 ·exact swap_two S h hf hi hj e hd
end
def Bz(W:World)(k:Nat)(c:Array Value)(t:TypeId):Prop:=W.heap[k]?=some (.cells c t (0,0))
theorem Bz.lt{W:World}{k:Nat}{c:Array Value}{t:TypeId}(h:Bz W k c t):k<W.heap.size:=(Array.getElem?_eq_some_iff.1 h).1
theorem Bz.cell{W:World}{k:Nat}{c:Array Value}{t:TypeId}(h:Bz W k c t)(j:Nat)(v:Value)(hj:c[j]?=some v):W.cell? ⟨k,j,none⟩=some v:=by
 unfold Bz at h;simp[World.cell?,h,hj]
theorem Bz.free{W:World}{k:Nat}{c:Array Value}{t:TypeId}(h:Bz W k c t)(j:Nat):W.frozen? ⟨k,j,none⟩=false:=by unfold Bz at h;simp[World.frozen?,h]
theorem Bz.set{W:World}{k j:Nat}{c:Array Value}{t:TypeId}(h:Bz W k c t)(u:Value):Bz (W.setCell ⟨k,j,none⟩ u) k (c.setIfInBounds j u) t:=by
 unfold Bz at *;simp[World.setCell,Array.getElem?_modify,h]
theorem Bz.new(w:World)(c:Array Value)(t:TypeId)(k:Nat)(h:k=w.heap.size):Bz (w.alloc (.cells c t)) k c t:=by subst h;exact Go.heap_alloc_new w _
structure Bn(a9 q a M:Nat)(w0 w:World)(ns:List Nd)(er:Int):Prop where
 ar:Ar a9 a M 14 40000 w ns
 blk:Bz w q #[.pointer a,er] 160
 lo:a9<=q
 er6:er=0\/er=6
 bel:Below a9 w0 w
def Fn(ns:List Nd)(er:Int)(f:Nat)(φ:Env->Bool):Prop:=f<ns.length /\ (er=0->∀x,ev ns f x=φ x)
def cX(a9 a M:Nat)(w:World)(ns:List Nd)(g:Nat)(φ:Env->Bool)(e:Ending)(w':World):Prop :=
 ∃(ns':List Nd) (v er:Int),e=.returned (.tuple #[v,er]) /\ Ar a9 a M 14 40000 w' ns' /\ Kp (ca a9 a M 14 40000) w w' /\ Ext ns ns' /\ ns'.length<=ns.length+g /\
   Hid ((er=0 /\ ∃f:Nat,v=(f:Int) /\ f<ns'.length /\ ∀x,ev ns' f x=φ x)\/(er=6 /\ v=0 /\ 40000<=ns.length+g))
theorem OpPost.o{a9 a M:Nat}{w w':World}{ns:List Nd}{g:Nat}{φ:Env->Bool}{e:Ending}(h:OpPost a9 a M 14 40000 w ns g φ e w'):cX a9 a M w ns g φ e w':=by
 obtain⟨ns',r1,r2,r3,r4,⟨f,e1,e2⟩|⟨e1,e2⟩⟩:=h
 ·exact⟨ns',f,0,e1,r1,r2,r3,r4,Or.inl ⟨rfl,f,rfl,e2⟩⟩
 ·exact⟨ns',0,6,e1,r1,r2,r3,r4,Or.inr ⟨rfl,rfl,by omega⟩⟩
theorem MkPost.o{a9 a M:Nat}{w w':World}{ns:List Nd}{g i:Nat}{φ:Env->Bool}{e:Ending}(h:MkPost a9 a M 14 40000 w ns g i φ e w'):cX a9 a M w ns g φ e w':=by
 obtain⟨ns',r1,r2,r3,r4,⟨f,e1,e2,e3,e4⟩|⟨e1,e2⟩⟩:=h
 ·exact⟨ns',f,0,e1,r1,r2,r3,r4,Or.inl ⟨rfl,f,rfl,e2,e4⟩⟩
 ·exact⟨ns',0,6,e1,r1,r2,r3,r4,Or.inr ⟨rfl,rfl,by omega⟩⟩
theorem BPost.o{a9 a M:Nat}{w w':World}{ns:List Nd}{xs:List Rl}{e:Ending}(h:BPost True a9 a M w ns xs e w'):cX a9 a M w ns 40000 (ao xs) e w':=by
 obtain⟨ns',r1,r2,r3,⟨f,e1,e2⟩|⟨e1,e2⟩⟩:=h
 ·have:=r1.le;exact⟨ns',f,0,e1,r1,r2,r3,by omega,Or.inl ⟨rfl,f,rfl,e2⟩⟩
 ·have:=r1.le;exact⟨ns',0,6,e1,r1,r2,r3,by omega,Or.inr ⟨rfl,rfl,by omega⟩⟩
def okT(t:TypeId):Prop:=(t≠82 /\ t≠85) /\ t≠144 /\ t≠160
instance (t:TypeId):Decidable (okT t):=by unfold okT;infer_instance
def TF(w w':World):Prop:=∀i c t,Bz w i c t->okT t->Bz w' i c t
theorem TF.refl(w:World):TF w w:=λ_ _ _ h _=>h
theorem TF.trans{w w1 w2:World}(h:TF w w1)(k:TF w1 w2):TF w w2:=λi c t hb ht=>k i c t (h i c t hb ht) ht
theorem TF.below{w w':World}(h:Below w w w'):TF w w':=λi _ _ hb _=>(h.block i hb.lt).trans hb
def BOut(a9 q a M:Nat)(w0 w:World)(ns:List Nd)(er:Int)(g:Nat)(φ:Env->Bool)(e:Ending)(w':World):Prop :=
 ∃(f:Nat) (ns':List Nd) (er':Int),e=.returned (f:Int) /\ (Bn a9 q a M w0 w' ns' er' /\ TF w w') /\ Ext ns ns' /\ (er'=0->er=0) /\ Fn ns' er' f φ /\ Hid (er=0->ns'.length<=ns.length+g /\ (er'≠0->40000<=ns.length+g))
section
variable {a9 q a M:Nat}{w0 w w1:World}{ns ns':List Nd}{er er':Int}
theorem Fn.step{f:Nat}{φ:Env->Bool}(h:Fn ns er f φ)(A:Wf 14 ns)(A':Wf 14 ns')(X:Ext ns ns')(he:er'=0->er=0):Fn ns' er' f φ:=by
 have:=X.len;exact⟨by have:=h.1;omega,λe x=>by rw[X.ev A A' f h.1];exact h.2 (he e) x⟩
theorem Bn.keep(h:Bn a9 q a M w0 w ns er)(k:Kp (ca a9 a M 14 40000) w w1):Bz w1 q #[.pointer a,er] 160:=((h.ar.outBox h.blk (by decide) (by decide)).kp k).blk
theorem Ar.setQ{er2:Value}{c:Array Value}(A:Ar a9 a M 14 40000 w ns)(hq:Bz w q c 160):Ar a9 a M 14 40000 (w.setCell ⟨q,1,none⟩ er2) ns:=by
 have L:=(A.outBox hq (by decide) (by decide)).out;refine A.same (Below.heap_setCell w _ _ _ (λe=>L.not (Or.inl e.symm))) (Below.heap_setCell w _ _ _ (λe=>L.not (Or.inr (Or.inr (Or.inl e.symm))))) (Below.heap_setCell w _ _ _ (λe=>L.ne e.symm))
theorem eN(hq:Bz w q #[.pointer a,er] 160)(v e2:Int) :
  Cl 109 #[.pointer q,v,e2] w λe w'=>e=.returned v /\ w'=if er=0 then w.setCell ⟨q,1,none⟩ (.int .i64 e2)else w:=by
 have c1:=hq.cell 1 _ rfl;have f1:=hq.free 1;by_cases h:er=0
 ·subst h;rw[if_pos rfl];go_enter func109,ntmps109;go_wp2_with fail;go_ret;exact⟨rfl,rfl⟩
 ·have hb:(er == 0)=false:=by simpa using h
  rw[if_neg h];go_enter func109,ntmps109;go_wp2_with fail;go_ret;exact⟨rfl,rfl⟩
theorem Bn.fin{g:Nat}{φ:Env->Bool}{v e2:Int}{w2:World}(h:Bn a9 q a M w0 w ns er)(A1:Ar a9 a M 14 40000 w1 ns')(k:Kp (ca a9 a M 14 40000) w w1)(X:Ext ns ns')(l:ns'.length<=ns.length+g)
  (hv:Hid ((e2=0 /\ ∃f:Nat,v=(f:Int) /\ f<ns'.length /\ ∀x,ev ns' f x=φ x)\/(e2=6 /\ v=0 /\ 40000<=ns.length+g))) (hw:w2=if er=0 then w1.setCell ⟨q,1,none⟩ (.int .i64 e2)else w1):BOut a9 q a M w0 w ns er g φ (.returned v) w2:=by
 have hq:=h.keep k;have bl:=h.bel.trans (h.ar.kp_below k);have hlen:=A1.wf.len;have tf1:TF w w1:=λi c t hb ht=>((h.ar.outBox hb ht.1 ht.2.1).kp k).blk;have hvv:∃f:Nat,v=(f:Int) /\ f<ns'.length /\ (e2=0->∀x,ev ns' f x=φ x) /\ (e2=0\/e2=6) /\ (e2≠0->40000<=ns.length+g):=by
  rcases hv.out with⟨rfl,f,rfl,h1,h2⟩|⟨rfl,rfl,h3⟩
  ·exact⟨f,rfl,h1,λ_=>h2,.inl rfl,λh=>absurd rfl h⟩
  ·exact⟨0,rfl,by omega,λh=>by omega,.inr rfl,λ_=>h3⟩
 obtain⟨f,rfl,h1,h2,h3,h4⟩:=hvv;by_cases he:er=0
 ·subst he;rw[if_pos rfl]at hw;subst hw;exact⟨f,ns',e2,rfl,⟨⟨A1.setQ hq,hq.set (j:=1) _,h.lo,h3,bl.setCell (p:=⟨q,1,none⟩) h.lo _⟩,λi c t hb ht=>(Below.heap_setCell w1 _ _ _ (λe=>by
   have e':i=q:=e;have hb1:=tf1 i c t hb ht;unfold Bz at hb1 hq;rw[e',hq]at hb1;simp only[Option.some.injEq,Obj.cells.injEq]at hb1;exact ht.2.2 hb1.2.1.symm)).trans (tf1 i c t hb ht)⟩,X,λ_=>rfl,⟨h1,h2⟩,λ_=>⟨l,h4⟩⟩
 ·rw[if_neg he]at hw;subst hw;exact⟨f,ns',er,rfl,⟨⟨A1,hq,h.lo,h.er6,bl⟩,tf1⟩,X,id,⟨h1,λe=>absurd e he⟩,λe=>absurd e he⟩
theorem qk(w:World):Cl 66 #[] w λe w'=>∃q a M,e=.returned (.tuple #[.pointer (some ⟨q,0,none⟩),.int .i64 0]) /\ Bn w.heap.size q a M w w' [(14,0,0),(14,1,1)] 0:=by
 have NW:Hid (Cl 26 #[.int .i64 14,.int .i64 40000] w λe w'=>∃a M,e=.returned (.tuple #[.pointer (some ⟨a,0,none⟩),.int .i64 0]) /\ Ar w.heap.size a M 14 40000 w' [(14,0,0),(14,1,1)] /\ Below w w w'):=iP (v:=14) (m:=40000) w (by omega) (by omega) (by omega) (by omega);go_enter func66,ntmps66;go_wp2_with fail;refine NW.out.mono ?_;rintro e w1⟨a,M,rfl,A1,hb1⟩;have hfin:Bn w.heap.size w1.heap.size a M w (w1.alloc (.cells #[.pointer (some ⟨a,0,none⟩),.int .i64 0] 160)) [(14,0,0),(14,1,1)] 0:=⟨A1.alloc _,Bz.new w1 _ _ _ rfl,hb1.size,.inl rfl,hb1.alloc hb1.size _⟩;clear NW A1 hb1;go_wp2_with fail;go_ret2;exact⟨_,_,_,rfl,hfin⟩
end
section
variable {a9 q a M:Nat}{w0 w:World}{ns:List Nd}{er:Int}
theorem BOut.bad{g g':Nat}{φ φ':Env->Bool}{e:Ending}{w':World}(he:er≠0)(h:BOut a9 q a M w0 w ns er g φ e w'):BOut a9 q a M w0 w ns er g' φ' e w':=by
 obtain⟨f,ns',er',h1,h2,h3,h4,h5,_⟩:=h;exact⟨f,ns',er',h1,h2,h3,h4,⟨h5.1,λe=>absurd (h4 e) he⟩,λe=>absurd e he⟩
theorem BOut.of{g:Nat}{φ ψ:Env->Bool}{e:Ending}{w':World}(h:BOut a9 q a M w0 w ns er g φ e w')(hq:er=0->∀x,φ x=ψ x):BOut a9 q a M w0 w ns er g ψ e w':=by
 obtain⟨f,ns',er',h1,h2,h3,h4,h5,h6⟩:=h;exact⟨f,ns',er',h1,h2,h3,h4,⟨h5.1,λe x=>(h5.2 e x).trans (hq (h4 e) x)⟩,h6⟩
theorem BOut.seq{w1:World}{ns1:List Nd}{er1:Int}{g1 g2:Nat}{φ:Env->Bool}{e:Ending}{w':World}(X:Ext ns ns1)(he:er1=0->er=0)(hg:Hid (er=0->ns1.length<=ns.length+g1 /\ (er1≠0->40000<=ns.length+g1)))(tf:TF w w1)(h:BOut a9 q a M w0 w1 ns1 er1 g2 φ e w'):BOut a9 q a M w0 w ns er (g1+g2) φ e w':=by
 obtain⟨f,ns',er',h1,h2,h3,h4,h5,h6⟩:=h;refine⟨f,ns',er',h1,⟨h2.1,tf.trans h2.2⟩,X.trans h3,λe=>he (h4 e),h5,λe0=>?_⟩;have a1:=hg.out e0;have a2:=h2.1.ar.le;by_cases e1:er1=0
 ·have a3:=h6.out e1;refine⟨by omega,λe2=>?_⟩;have:=a3.2 e2;omega
 ·have:=a1.2 e1;exact⟨by omega,λ_=>by omega⟩
theorem BOut.from{w1:World}{g:Nat}{φ:Env->Bool}{e:Ending}{w':World}(tf:TF w w1)(h:BOut a9 q a M w0 w1 ns er g φ e w'):BOut a9 q a M w0 w ns er g φ e w':=by
 obtain⟨f,ns',er',h1,h2,h3⟩:=h;exact⟨f,ns',er',h1,⟨h2.1,tf.trans h2.2⟩,h3⟩
theorem BOut.more{g g':Nat}{φ:Env->Bool}{e:Ending}{w':World}(h:BOut a9 q a M w0 w ns er g φ e w')(hg:g<=g'):BOut a9 q a M w0 w ns er g' φ e w':=by
 obtain⟨f,ns',er',h1,h2,h3,h4,h5,h6⟩:=h;refine⟨f,ns',er',h1,h2,h3,h4,h5,λe0=>?_⟩;have:=h6.out e0;exact⟨by omega,λe1=>by have:=this.2 e1;omega⟩
theorem ql(h:Bn a9 q a M w0 w ns er){f g:Nat}{g0:Nat}{χ:Env->Bool}(OP:Hid (Cl 110 #[.pointer a,(f:Int),(g:Int)] w (cX a9 a M w ns g0 χ))) :
  Cl 67 #[.pointer q,(f:Int),(g:Int)] w (BOut a9 q a M w0 w ns er g0 χ):=by
 have c0:=h.blk.cell 0 _ rfl;go_enter func67,ntmps67;go_wp2_with fail;refine OP.out.mono ?_;rintro e w1⟨ns1,v,e2,rfl,A1,k1,X1,l1,hv⟩;have KP:=Hq.mk (eN (h.keep k1) v e2);have FN:Hq (∀w2,w2=(if er=0 then w1.setCell ⟨q,1,none⟩ (.int .i64 e2)else w1)->BOut a9 q a M w0 w ns er g0 χ (.returned v) w2):=⟨λw2 hw=>h.fin A1 k1 X1 l1 hv hw⟩;clear c0 OP A1 k1 X1 l1 hv h;go_wp2_with fail;refine KP.out.mono ?_;rintro e w2⟨rfl,hw⟩;have F2:=FN.out w2 hw;clear hw FN KP;go_wp2_with fail;go_ret;exact F2
theorem or_w(h:Bn a9 q a M w0 w ns er){f g:Nat}{g0:Nat}{χ:Env->Bool}(OP:Hid (Cl 131 #[.pointer a,(f:Int),(g:Int)] w (cX a9 a M w ns g0 χ))) :
  Cl 106 #[.pointer q,(f:Int),(g:Int)] w (BOut a9 q a M w0 w ns er g0 χ):=by
 have c0:=h.blk.cell 0 _ rfl;go_enter func106,ntmps106;go_wp2_with fail;refine OP.out.mono ?_;rintro e w1⟨ns1,v,e2,rfl,A1,k1,X1,l1,hv⟩;have KP:=Hq.mk (eN (h.keep k1) v e2);have FN:Hq (∀w2,w2=(if er=0 then w1.setCell ⟨q,1,none⟩ (.int .i64 e2)else w1)->BOut a9 q a M w0 w ns er g0 χ (.returned v) w2):=⟨λw2 hw=>h.fin A1 k1 X1 l1 hv hw⟩;clear c0 OP A1 k1 X1 l1 hv h;go_wp2_with fail;refine KP.out.mono ?_;rintro e w2⟨rfl,hw⟩;have F2:=FN.out w2 hw;clear hw FN KP;go_wp2_with fail;go_ret;exact F2
theorem Ao(h:Bn a9 q a M w0 w ns er){a2 f:Nat}{g0:Nat}{χ:Env->Bool}(OP:Hid (Cl 108 #[.pointer a,.pointer a2,(f:Int)] w (cX a9 a M w ns g0 χ))) :
  Cl 68 #[.pointer q,.pointer a2,(f:Int)] w (BOut a9 q a M w0 w ns er g0 χ):=by
 have c0:=h.blk.cell 0 _ rfl;go_enter func68,ntmps68;go_wp2_with fail;refine OP.out.mono ?_;rintro e w1⟨ns1,v,e2,rfl,A1,k1,X1,l1,hv⟩;have KP:=Hq.mk (eN (h.keep k1) v e2);have FN:Hq (∀w2,w2=(if er=0 then w1.setCell ⟨q,1,none⟩ (.int .i64 e2)else w1)->BOut a9 q a M w0 w ns er g0 χ (.returned v) w2):=⟨λw2 hw=>h.fin A1 k1 X1 l1 hv hw⟩;clear c0 OP A1 k1 X1 l1 hv h;go_wp2_with fail;refine KP.out.mono ?_;rintro e w2⟨rfl,hw⟩;have F2:=FN.out w2 hw;clear hw FN KP;go_wp2_with fail;go_ret;exact F2
theorem qm(S:Nat->Bool)(h:Bn a9 q a M w0 w ns er){f g:Nat}{φ ψ:Env->Bool}(hf:Fn ns er f φ)(hg:Fn ns er g ψ)(hd:er=0->DepS S φ /\ DepS S ψ) :
  Cl 67 #[.pointer q,(f:Int),(g:Int)] w (BOut a9 q a M w0 w ns er (2 ^ cnS S 14 0-1) (λx=>φ x&&ψ x)):=by
 by_cases he:er=0
 ·have e1:ev ns f=φ:=funext (hf.2 he);have e2:ev ns g=ψ:=funext (hg.2 he);refine(ql h (OP:=(qh S h.ar hf.1 hg.1 (e1 ▸ (hd he).1) (e2 ▸ (hd he).2)).mono λ_ _ hp=>hp.o)).mono λ_ _ hp=>hp.of λ_ x=>?_;show(ev ns f x&&ev ns g x)=_;rw[e1,e2]
 ·exact(ql h (OP:=(qh (λ_=>true) h.ar hf.1 hg.1 (DepS.all _) (DepS.all _)).mono λ_ _ hp=>hp.o)).mono λ_ _ hp=>hp.bad he
theorem or_b(S:Nat->Bool)(h:Bn a9 q a M w0 w ns er){f g:Nat}{φ ψ:Env->Bool}(hf:Fn ns er f φ)(hg:Fn ns er g ψ)(hd:er=0->DepS S φ /\ DepS S ψ) :
  Cl 106 #[.pointer q,(f:Int),(g:Int)] w (BOut a9 q a M w0 w ns er (2 ^ cnS S 14 0-1) (λx=>φ x||ψ x)):=by
 by_cases he:er=0
 ·have e1:ev ns f=φ:=funext (hf.2 he);have e2:ev ns g=ψ:=funext (hg.2 he);refine(or_w h (OP:=(qi S h.ar hf.1 hg.1 (e1 ▸ (hd he).1) (e2 ▸ (hd he).2)).mono λ_ _ hp=>hp.o)).mono λ_ _ hp=>hp.of λ_ x=>?_;show(ev ns f x||ev ns g x)=_;rw[e1,e2]
 ·exact(or_w h (OP:=(qi (λ_=>true) h.ar hf.1 hg.1 (DepS.all _) (DepS.all _)).mono λ_ _ hp=>hp.o)).mono λ_ _ hp=>hp.bad he
theorem Ap(S:Nat->Bool)(h:Bn a9 q a M w0 w ns er){base2 a2 M2 most2 f:Nat}{ns2:List Nd}(h2:Ar base2 a2 M2 14 most2 w ns2)(ap:∀i,i=a2\/i=M2\/i=rowOf w a2->i≠a /\ i≠M /\ i≠rowOf w a)(hf:f<ns2.length)(hd:DepS S (ev ns2 f)) :
  Cl 68 #[.pointer q,.pointer a2,(f:Int)] w (BOut a9 q a M w0 w ns er (2 ^ cnS S 14 0-1) (ev ns2 f)) :=
 Ao h (OP:=(kK S h.ar h2 (Nat.le_refl _) ap hf ⟨hd,cW (Nat.zero_le _)⟩ (Nat.le_trans (fL 0) (by omega))).mono λ_ _ hp=>hp.o)
theorem qp(S:Nat->Bool)(h:Bn a9 q a M w0 w ns er){base2 a2 M2 most2 f:Nat}{ns2:List Nd}(h2:Ar base2 a2 M2 14 most2 w ns2)(p1:a2<a9)(p2:M2<a9)(p3:rowOf w a2<a9)(hf:f<ns2.length)(hd:DepS S (ev ns2 f)) :
  Cl 68 #[.pointer q,.pointer a2,(f:Int)] w (BOut a9 q a M w0 w ns er (2 ^ cnS S 14 0-1) (ev ns2 f)) :=
 Ap S h h2 (λi hi=>by
  have l1:=h.ar.lowA;have l2:=h.ar.lowM;have l3:=h.ar.row.choose_spec.2.1;rcases hi with rfl|rfl|rfl <;> exact⟨by omega,by omega,by omega⟩) hf hd
theorem Bn.alloc(h:Bn a9 q a M w0 w ns er)(o:Obj):Bn a9 q a M w0 (w.alloc o) ns er:=by
 have hs:a9<=w.heap.size:=Nat.le_trans h.lo (Nat.le_of_lt h.blk.lt);exact⟨h.ar.alloc o,(Below.heap_alloc w o _ h.blk.lt).trans h.blk,h.lo,h.er6,h.bel.alloc hs o⟩
theorem Bn.drew(h:Bn a9 q a M w0 w ns er):Bn a9 q a M w0 w.drew ns er:=⟨h.ar.drewT,h.blk,h.lo,h.er6,h.bel.drew⟩
theorem Bn.size(h:Bn a9 q a M w0 w ns er):a9<=w.heap.size:=Nat.le_trans h.lo (Nat.le_of_lt h.blk.lt)
theorem iq{w1 w2:World}{e2:Int}(hw:w2=if er=0 then w1.setCell ⟨q,1,none⟩ (.int .i64 e2)else w1){i j:Nat}(hi:i≠q\/j=0):w2.cell? ⟨i,j,none⟩=w1.cell? ⟨i,j,none⟩:=by
 by_cases he:er=0
 ·rw[if_pos he]at hw;subst hw;rcases hi with hi|rfl
  ·exact World.cell?_setCell_far w1 ⟨q,1,none⟩ ⟨i,j,none⟩ _ (Ne.symm hi)
  ·by_cases hq:i=q
   ·subst hq;simp only[World.cell?,World.setCell,Array.getElem?_modify];simp only[if_true];cases h:w1.heap[i]? with
    | none=>rfl
    | some o=>cases o <;> simp
   ·exact World.cell?_setCell_far w1 ⟨q,1,none⟩ ⟨i,0,none⟩ _ (Ne.symm hq)
 ·rw[if_neg he]at hw;rw[hw]
theorem eO(h:Bn a9 q a M w0 w ns er)(sa sb sc sd:Nat)(ha:sa<65536)(hb:sb<65536)(hc:sc<256)(hd:sd<256) :
  Cl 69 #[.pointer q,mt sa sb sc sd] w (BOut a9 q a M w0 w ns er 44 (phi sa sb sc sd)):=by
 have h1:=(h.alloc (.cells #[.int .u16 (sa:Int),.int .u16 (sb:Int),.int .u8 (sc:Int),.int .u8 (sd:Int)] 30)).drew;have BM:Hq (Cl 60 #[.pointer a,mt sa sb sc sd] _ (cX a9 a M _ ns 44 (phi sa sb sc sd))):=⟨(iR h1.ar (Nat.le_refl _) sa sb sc sd ha hb hc hd).mono λ_ _ hp=>hp.o⟩;have Z:Bz (w.alloc (.cells #[.int .u16 (sa:Int),.int .u16 (sb:Int),.int .u8 (sc:Int),.int .u8 (sd:Int)] 30)).drew w.heap.size #[.int .u16 (sa:Int),.int .u16 (sb:Int),.int .u8 (sc:Int),.int .u8 (sd:Int)] 30:=Bz.new w _ _ _ rfl;have hzq:w.heap.size≠q:=λe=>by have:=h.blk.lt;omega
 have c0:=h1.blk.cell 0 _ rfl;have z0:=Z.cell 0 _ rfl;have z1:=Z.cell 1 _ rfl;have z2:=Z.cell 2 _ rfl;have z3:=Z.cell 3 _ rfl;have FN:Hq (∀w1 ns1 (v e2:Int),Ar a9 a M 14 40000 w1 ns1->Kp (ca a9 a M 14 40000) _ w1->Ext ns ns1->ns1.length<=ns.length+44->Hid ((e2=0 /\ ∃f:Nat,v=(f:Int) /\ f<ns1.length /\ ∀x,ev ns1 f x=phi sa sb sc sd x)\/(e2=6 /\ v=0 /\ 40000<=ns.length+44))->(Bz w1 q #[.pointer a,er] 160 /\ Bz w1 w.heap.size #[.int .u16 (sa:Int),.int .u16 (sb:Int),.int .u8 (sc:Int),.int .u8 (sd:Int)] 30) /\ ∀w2,w2=(if er=0 then w1.setCell ⟨q,1,none⟩ (.int .i64 e2)else w1)->BOut a9 q a M w0 w ns er 44 (phi sa sb sc sd) (.returned v) w2):=⟨λw1 ns1 v e2 A1 k1 X1 l1 hv=>⟨⟨h1.keep k1,((h1.ar.outBox Z (by decide) (by decide)).kp k1).blk⟩,λw2 hw=>BOut.from ((TF.below ((Below.refl _ w).alloc (Nat.le_refl _) _)).trans (TF.below (Below.refl _ _).drew)) (h1.fin A1 k1 X1 l1 hv hw)⟩⟩;unfold mt at BM ⊢;clear h h1 Z;go_enter func69,ntmps69;go_wp2_with fail;go_region_held3 (λw'=>w'.cell? ⟨q,0,none⟩=some (.pointer a) /\ w'.cell? ⟨w,0,none⟩=some (.int .u16 (sa:Int)) /\ w'.cell? ⟨w,1,none⟩=some (.int .u16 (sb:Int)) /\ w'.cell? ⟨w,2,none⟩=some (.int .u8 (sc:Int)) /\ w'.cell? ⟨w,3,none⟩=some (.int .u8 (sd:Int))) (go_keep)
  ((first
    | (go_at_call 60;refine BM.out.mono ?_;rintro e w1⟨ns1,v,e2,rfl,A1,k1,X1,l1,hv⟩;obtain⟨⟨Q1,Z1⟩,F1⟩:=FN.out w1 ns1 v e2 A1 k1 X1 l1 hv;have c0':=Q1.cell 0 _ rfl;have y0:=Z1.cell 0 _ rfl;have y1:=Z1.cell 1 _ rfl;have y2:=Z1.cell 2 _ rfl;have y3:=Z1.cell 3 _ rfl;have F1h:=Hq.mk F1;clear F1 A1 k1 X1 l1 hv Z1)
    | (go_at_call 109;refine(eN Q1 v e2).mono ?_;rintro e w2⟨rfl,hw⟩;have F2:=F1h.out w2 hw;have d0:=(iq hw (i:=q) (j:=0) (.inr rfl)).trans c0';have x0:=(iq hw (i:=w.heap.size) (j:=0) (.inl hzq)).trans y0;have x1:=(iq hw (i:=w.heap.size) (j:=1) (.inl hzq)).trans y1;have x2:=(iq hw (i:=w.heap.size) (j:=2) (.inl hzq)).trans y2;have x3:=(iq hw (i:=w.heap.size) (j:=3) (.inl hzq)).trans y3;clear hw)))
 all_goals
  go_wp2_with fail;go_ret;exact F2
theorem qq(h:Bn a9 q a M w0 w ns er){A:Option Addr}{n cap:Nat}{g0:Nat}{χ:Env->Bool}(OP:Hid (Cl 198 #[.pointer a,.slice A n cap] w (cX a9 a M w ns g0 χ))) :
  Cl 162 #[.pointer q,.slice A n cap] w (BOut a9 q a M w0 w ns er g0 χ):=by
 have c0:=h.blk.cell 0 _ rfl;go_enter func162,ntmps162;go_wp2_with fail;refine OP.out.mono ?_;rintro e w1⟨ns1,v,e2,rfl,A1,k1,X1,l1,hv⟩;have KP:=Hq.mk (eN (h.keep k1) v e2);have FN:Hq (∀w2,w2=(if er=0 then w1.setCell ⟨q,1,none⟩ (.int .i64 e2)else w1)->BOut a9 q a M w0 w ns er g0 χ (.returned v) w2):=⟨λw2 hw=>h.fin A1 k1 X1 l1 hv hw⟩;clear c0 OP A1 k1 X1 l1 hv h;go_wp2_with fail;refine KP.out.mono ?_;rintro e w2⟨rfl,hw⟩;have F2:=FN.out w2 hw;clear hw FN KP;go_wp2_with fail;go_ret;exact F2
theorem Aq(h:Bn a9 q a M w0 w ns er)(A:Option Addr)(n cap:Nat)(xs:List Rl)(hR:Rules w w (.slice A n cap) xs)(hlen:xs.length<=8) :
  Cl 162 #[.pointer q,.slice A n cap] w (BOut a9 q a M w0 w ns er 40000 (ao xs)) :=
 qq h (OP:=(xV h.ar A n cap xs hR hlen).mono λ_ _ hp=>hp.o)
end
def exF(φ:Env->Bool)(i j:Nat):Nat->Env->Bool
 | 0=>φ
 | k+1=>λx=>exF φ i j k (swE x (i+k) (j+k))
def anF(φ:Env->Bool)(i:Nat):Nat->Env->Bool
 | 0=>φ
 | k+1=>λx=>anF φ i k (setE x (i+k) false)||anF φ i k (setE x (i+k) true)
section
variable {a9 q a M:Nat}{w0 w:World}{ns:List Nd}{er:Int}
theorem sw_o(S:Nat->Bool)(h:Bn a9 q a M w0 w ns er){f i j:Nat}{φ:Env->Bool}(hf:Fn ns er f φ)(hi:i<14)(hj:j<14)(hd:er=0->DepS S φ) :
  ∃(g':Nat) (χ:Env->Bool),(er=0->g'=2 ^ cnS (wth S i j) 14 0-1 /\ ∀x,χ x=φ (swE x i j)) /\ Cl 216 #[.pointer a,(f:Int),(i:Int),(j:Int)] w (cX a9 a M w ns g' χ):=by
 by_cases he:er=0
 ·have e1:ev ns f=φ:=funext (hf.2 he);exact⟨_,_,λ_=>⟨rfl,λx=>by rw[e1]⟩,(qj S h.ar hf.1 hi hj (e1 ▸ hd he)).mono λ_ _ hp=>hp.o⟩
 ·exact⟨_,_,λe=>absurd e he,(qj (λ_=>true) h.ar hf.1 hi hj (DepS.all _)).mono λ_ _ hp=>hp.o⟩
theorem ex_o(h:Bn a9 q a M w0 w ns er){f i:Nat}{φ:Env->Bool}(hf:Fn ns er f φ)(hi:i<14) :
  ∃ χ:Env->Bool,(er=0->∀x,χ x=(φ (setE x i false)||φ (setE x i true))) /\ Cl 217 #[.pointer a,(f:Int),(i:Int)] w (cX a9 a M w ns (2 ^ 14-1) χ):=by
 refine⟨_,λhe x=>?_,(Aj h.ar hf.1 hi).mono λ_ _ hp=>hp.o⟩;show(ev ns f (setE x i false)||ev ns f (setE x i true))=_;rw[hf.2 he,hf.2 he]
theorem BOut.fit{g g':Nat}{φ φ':Env->Bool}{e:Ending}{w':World}(h:BOut a9 q a M w0 w ns er g φ e w')(hg:er=0->g<=g' /\ ∀x,φ x=φ' x):BOut a9 q a M w0 w ns er g' φ' e w':=by
 by_cases he:er=0
 ·exact(h.more (hg he).1).of λe x=>(hg e).2 x
 ·exact h.bad he
theorem qr(SS:Nat->Nat->Bool)(G:Nat)(h:Bn a9 q a M w0 w ns er){f first second bits:Nat}{φ:Env->Bool}(hf:Fn ns er f φ)(h1:first+bits<=14)(h2:second+bits<=14)
  (hd:er=0->∀k,k<bits->DepS (SS k) (exF φ first second k) /\ 2 ^ cnS (wth (SS k) (first+k) (second+k)) 14 0-1<=G) :
  Cl 199 #[.pointer q,(f:Int),(first:Int),(second:Int),(bits:Int)] w (BOut a9 q a M w0 w ns er (bits*G) (exF φ first second bits)):=by
 have HD:Hq (er=0->∀k,k<bits->DepS (SS k) (exF φ first second k) /\ 2 ^ cnS (wth (SS k) (first+k) (second+k)) 14 0-1<=G):=⟨hd⟩;have HH:=Hq.mk h;have HF:=Hq.mk hf;clear hd h hf;go_enter func199,ntmps199;go_wp2_with fail;go_loopw[1,13] (λv i wr=>∃(k f':Nat) (ns':List Nd) (er':Int),i=.int .i64 (k:Int) /\ k<=bits /\ v=.int .i64 (f':Int) /\ Hq ((Bn a9 q a M w0 wr ns' er' /\ TF w wr) /\ Ext ns ns' /\ (er'=0->er=0) /\ Fn ns' er' f' (exF φ first second k) /\ Hid (er=0->ns'.length<=ns.length+k*G /\ (er'≠0->40000<=ns.length+k*G)))) (λ_ i _=>bits-(intOf i).toNat)
 case atStart=>exact⟨0,f,ns,er,rfl,Nat.zero_le _,rfl,⟨⟨HH.out,TF.refl _⟩,Ext.refl _,id,HF.out,λe=>⟨by omega,λh=>absurd e h⟩⟩⟩
 case round =>
  obtain⟨k,f',ns',er',rfl,hk,rfl,HS⟩:=hrel;by_cases hlt:k<bits
  ·obtain⟨⟨h',tf⟩,X,he,hf',hg⟩:=HS.out;obtain⟨g',χ,hx,SW⟩:=sw_o (SS k) h' hf' (i:=first+k) (j:=second+k) (by omega) (by omega) (λe=>((HD.out (he e)) k hlt).1);have e1:((first+k:Nat):Int)=(first:Int)+(k:Int):=by omega
   have e2:((second+k:Nat):Int)=(second:Int)+(k:Int):=by omega
   rw[e1,e2]at SW;have SWh:=Hq.mk SW;clear e1 e2;have c0:=h'.blk.cell 0 _ rfl;have FN:Hq (∀w1 ns1 (v e2:Int),Ar a9 a M 14 40000 w1 ns1->Kp (ca a9 a M 14 40000) wr w1->Ext ns' ns1->ns1.length<=ns'.length+g'->Hid ((e2=0 /\ ∃f:Nat,v=(f:Int) /\ f<ns1.length /\ ∀x,ev ns1 f x=χ x)\/(e2=6 /\ v=0 /\ 40000<=ns'.length+g'))->Bz w1 q #[.pointer a,er'] 160 /\ ∀w2,w2=(if er'=0 then w1.setCell ⟨q,1,none⟩ (.int .i64 e2)else w1)->BOut a9 q a M w0 w ns er (k*G+G) (exF φ first second (k+1)) (.returned v) w2):=⟨λw1 ns1 v e2 A1 k1 X1 l1 hv=>⟨h'.keep k1,λw2 hw=>by
    have B:=(h'.fin A1 k1 X1 l1 hv hw).fit (g':=G) (φ':=exF φ first second (k+1)) (λe0=>by
     obtain⟨q1,q2⟩:=hx e0;refine⟨by rw[q1];exact((HD.out (he e0)) k hlt).2,λx=>?_⟩;rw[q2];rfl)
    exact BOut.seq X he hg tf B⟩⟩
   have k2:(k:Int)<(bits:Int):=by omega
   clear SW hx hf' hg h' X he tf;go_wp2_with fail;refine SWh.out.mono ?_;rintro e w1⟨ns1,v,e2,rfl,A1,k1,X1,l1,hv⟩;obtain⟨Q1,F1⟩:=FN.out w1 ns1 v e2 A1 k1 X1 l1 hv;have KP:=Hq.mk (eN Q1 v e2);have F1h:=Hq.mk F1;clear F1 A1 k1 X1 l1 hv Q1 FN SWh c0;go_wp2_with fail;refine KP.out.mono ?_;rintro e w2⟨rfl,hw⟩;obtain⟨f2,ns2,er2,hv2,b1,b2,b3,b4,b5⟩:=F1h.out w2 hw;have hvv:v=(f2:Int):=by simpa using hv2
   subst hvv;have b5':Hid (er=0->ns2.length<=ns.length+(k+1)*G /\ (er2≠0->40000<=ns.length+(k+1)*G)):=by
    rw[Nat.succ_mul];exact b5
   have HS2:=Hq.mk (And.intro b1 (And.intro b2 (And.intro b3 (And.intro b4 b5'))));clear hw F1h KP hv2 b1 b2 b3 b4 b5 b5' HS;go_wp2_with fail;go_roundw
   case rel=>exact⟨k+1,f2,ns2,er2,by go_num,by omega,rfl,HS2⟩
   case measure=>simp[intOf];omega
  ·obtain rfl:k=bits:=by omega
   have F:BOut a9 q a M w0 w ns er (k*G) (exF φ first second k) (.returned (f':Int)) wr:=by
    obtain⟨h',X,he,hf',hg⟩:=HS.out;exact⟨f',ns',er',rfl,h',X,he,hf',hg⟩
   clear HS HH HF HD;go_wp2_with fail;go_ret;exact F
theorem jK(h:Bn a9 q a M w0 w ns er){f first bits:Nat}{φ:Env->Bool}(hf:Fn ns er f φ)(h1:first+bits<=14) :
  Cl 200 #[.pointer q,(f:Int),(first:Int),(bits:Int)] w (BOut a9 q a M w0 w ns er (bits*16383) (anF φ first bits)):=by
 have HH:=Hq.mk h;have HF:=Hq.mk hf;clear h hf;go_enter func200,ntmps200;go_wp2_with fail;go_loopw[1,11] (λv i wr=>∃(k f':Nat) (ns':List Nd) (er':Int),i=.int .i64 (k:Int) /\ k<=bits /\ v=.int .i64 (f':Int) /\ Hq ((Bn a9 q a M w0 wr ns' er' /\ TF w wr) /\ Ext ns ns' /\ (er'=0->er=0) /\ Fn ns' er' f' (anF φ first k) /\ Hid (er=0->ns'.length<=ns.length+k*16383 /\ (er'≠0->40000<=ns.length+k*16383)))) (λ_ i _=>bits-(intOf i).toNat)
 case atStart=>exact⟨0,f,ns,er,rfl,Nat.zero_le _,rfl,⟨⟨HH.out,TF.refl _⟩,Ext.refl _,id,HF.out,λe=>⟨by omega,λh=>absurd e h⟩⟩⟩
 case round =>
  obtain⟨k,f',ns',er',rfl,hk,rfl,HS⟩:=hrel;by_cases hlt:k<bits
  ·obtain⟨⟨h',tf⟩,X,he,hf',hg⟩:=HS.out;obtain⟨χ,hx,SW⟩:=ex_o h' hf' (i:=first+k) (by omega);have e1:((first+k:Nat):Int)=(first:Int)+(k:Int):=by omega
   rw[e1]at SW;have SWh:=Hq.mk SW;clear e1;have c0:=h'.blk.cell 0 _ rfl;have FN:Hq (∀w1 ns1 (v e2:Int),Ar a9 a M 14 40000 w1 ns1->Kp (ca a9 a M 14 40000) wr w1->Ext ns' ns1->ns1.length<=ns'.length+(2 ^ 14-1)->Hid ((e2=0 /\ ∃f:Nat,v=(f:Int) /\ f<ns1.length /\ ∀x,ev ns1 f x=χ x)\/(e2=6 /\ v=0 /\ 40000<=ns'.length+(2 ^ 14-1)))->Bz w1 q #[.pointer a,er'] 160 /\ ∀w2,w2=(if er'=0 then w1.setCell ⟨q,1,none⟩ (.int .i64 e2)else w1)->BOut a9 q a M w0 w ns er (k*16383+16383) (anF φ first (k+1)) (.returned v) w2):=⟨λw1 ns1 v e2 A1 k1 X1 l1 hv=>⟨h'.keep k1,λw2 hw=>by
    have B:=(h'.fin A1 k1 X1 l1 hv hw).fit (g':=16383) (φ':=anF φ first (k+1)) (λe0=>⟨by omega,λx=>by rw[hx e0 x];rfl⟩);exact BOut.seq X he hg tf B⟩⟩
   have k2:(k:Int)<(bits:Int):=by omega
   clear SW hx hf' hg h' X he tf;go_wp2_with fail;refine SWh.out.mono ?_;rintro e w1⟨ns1,v,e2,rfl,A1,k1,X1,l1,hv⟩;obtain⟨Q1,F1⟩:=FN.out w1 ns1 v e2 A1 k1 X1 l1 hv;have KP:=Hq.mk (eN Q1 v e2);have F1h:=Hq.mk F1;clear F1 A1 k1 X1 l1 hv Q1 FN SWh c0;go_wp2_with fail;refine KP.out.mono ?_;rintro e w2⟨rfl,hw⟩;obtain⟨f2,ns2,er2,hv2,b1,b2,b3,b4,b5⟩:=F1h.out w2 hw;have hvv:v=(f2:Int):=by simpa using hv2
   subst hvv;have b5':Hid (er=0->ns2.length<=ns.length+(k+1)*16383 /\ (er2≠0->40000<=ns.length+(k+1)*16383)):=by
    rw[Nat.succ_mul];exact b5
   have HS2:=Hq.mk (And.intro b1 (And.intro b2 (And.intro b3 (And.intro b4 b5'))));clear hw F1h KP hv2 b1 b2 b3 b4 b5 b5' HS;go_wp2_with fail;go_roundw
   case rel=>exact⟨k+1,f2,ns2,er2,by go_num,by omega,rfl,HS2⟩
   case measure=>simp[intOf];omega
  ·obtain rfl:k=bits:=by omega
   have F:BOut a9 q a M w0 w ns er (k*16383) (anF φ first k) (.returned (f':Int)) wr:=by
    obtain⟨h',X,he,hf',hg⟩:=HS.out;exact⟨f',ns',er',rfl,h',X,he,hf',hg⟩
   clear HS HH HF;go_wp2_with fail;go_ret;exact F
theorem As(h:Bn a9 q a M w0 w ns er){f:Nat}{φ:Env->Bool}(hf:Fn ns er f φ) :
  Cl 164 #[.pointer q,(f:Int)] w (BOut a9 q a M w0 w ns er (4*16383) (anF φ 0 4)):=by
 have A:=Hq.mk (jK h hf (first:=0) (bits:=4) (by omega));clear h hf;go_enter func164,ntmps164;go_wp2_with fail;refine A.out.mono ?_;rintro e w1 B;have B2:=B;obtain⟨f1,ns1,er1,rfl,_⟩:=B2;clear A;go_wp2_with fail;go_ret;exact B
theorem Au(h:Bn a9 q a M w0 w ns er){f:Nat}{φ:Env->Bool}(hf:Fn ns er f φ) :
  Cl 167 #[.pointer q,(f:Int)] w (BOut a9 q a M w0 w ns er (4*16383) (anF φ 4 4)):=by
 have A:=Hq.mk (jK h hf (first:=4) (bits:=4) (by omega));clear h hf;go_enter func167,ntmps167;go_wp2_with fail;refine A.out.mono ?_;rintro e w1 B;have B2:=B;obtain⟨f1,ns1,er1,rfl,_⟩:=B2;clear A;go_wp2_with fail;go_ret;exact B
theorem Av(h:Bn a9 q a M w0 w ns er){f:Nat}{φ:Env->Bool}(hf:Fn ns er f φ) :
  Cl 165 #[.pointer q,(f:Int)] w (BOut a9 q a M w0 w ns er (3*16383) (anF φ 8 3)):=by
 have A:=Hq.mk (jK h hf (first:=8) (bits:=3) (by omega));clear h hf;go_enter func165,ntmps165;go_wp2_with fail;refine A.out.mono ?_;rintro e w1 B;have B2:=B;obtain⟨f1,ns1,er1,rfl,_⟩:=B2;clear A;go_wp2_with fail;go_ret;exact B
theorem Aw(h:Bn a9 q a M w0 w ns er){f:Nat}{φ:Env->Bool}(hf:Fn ns er f φ) :
  Cl 168 #[.pointer q,(f:Int)] w (BOut a9 q a M w0 w ns er (3*16383) (anF φ 11 3)):=by
 have A:=Hq.mk (jK h hf (first:=11) (bits:=3) (by omega));clear h hf;go_enter func168,ntmps168;go_wp2_with fail;refine A.out.mono ?_;rintro e w1 B;have B2:=B;obtain⟨f1,ns1,er1,rfl,_⟩:=B2;clear A;go_wp2_with fail;go_ret;exact B
def flF(φ:Env->Bool):Env->Bool:=exF (exF φ 0 4 4) 8 11 3
theorem qs(S1 S2:Nat->Nat->Bool)(G1 G2:Nat)(h:Bn a9 q a M w0 w ns er){f:Nat}{φ:Env->Bool}(hf:Fn ns er f φ)
  (hd:er=0->(∀k,k<4->DepS (S1 k) (exF φ 0 4 k) /\ 2 ^ cnS (wth (S1 k) (0+k) (4+k)) 14 0-1<=G1) /\ (∀k,k<3->DepS (S2 k) (exF (exF φ 0 4 4) 8 11 k) /\ 2 ^ cnS (wth (S2 k) (8+k) (11+k)) 14 0-1<=G2)) :
  Cl 163 #[.pointer q,(f:Int)] w (BOut a9 q a M w0 w ns er (4*G1+3*G2) (flF φ)):=by
 have A:=Hq.mk (qr S1 G1 h hf (first:=0) (second:=4) (bits:=4) (by omega) (by omega) (λe=>(hd e).1));have HD:=Hq.mk hd;clear h hf hd;go_enter func163,ntmps163;go_wp2_with fail;refine A.out.mono ?_;rintro e w1⟨f1,ns1,er1,rfl,⟨h1,tf1⟩,X1,he1,hf1,hg1⟩;have A2:=Hq.mk (qr S2 G2 h1 hf1 (first:=8) (second:=11) (bits:=3) (by omega) (by omega) (λe=>(HD.out (he1 e)).2));have SQ:Hq (∀e w',BOut a9 q a M w0 w1 ns1 er1 (3*G2) (exF (exF φ 0 4 4) 8 11 3) e w'->BOut a9 q a M w0 w ns er (4*G1+3*G2) (flF φ) e w'):=⟨λe w' B=>BOut.seq X1 he1 hg1 tf1 B⟩;clear A h1 tf1 X1 he1 hf1 hg1 HD;go_wp2_with fail;refine A2.out.mono ?_;rintro e w2 B;have B2:=SQ.out _ _ B;obtain⟨f2,ns2,er2,rfl,_⟩:=B;clear A2 SQ;go_wp2_with fail;go_ret;exact B2
theorem Ax(h:Bn a9 q a M w0 w ns er){f:Nat}{φ:Env->Bool}(hf:Fn ns er f φ) :
  Cl 163 #[.pointer q,(f:Int)] w (BOut a9 q a M w0 w ns er (7*16383) (flF φ)):=by
 have le:∀S i j,2 ^ cnS (wth S i j) 14 0-1<=16383:=λS i j=>by
  have:=Nat.pow_le_pow_right (n:=2) (by omega) (fL (S:=wth S i j) (a8:=14) 0);omega
 exact(qs (λ_ _=>true) (λ_ _=>true) 16383 16383 h hf (λ_=>⟨λk _=>⟨DepS.all _,le _ _ _⟩,λk _=>⟨DepS.all _,le _ _ _⟩⟩)).mono λ_ _ B=>B.more (by omega)
end
end Go.Proofs.YtjmclcmgpaofiaaGreat
namespace Go.Proofs.YtjmclcmgpaofiaaGreat
open Tryz
open Go.RowKit
theorem all_any(w:World) :
  CB 52 #[] w (mt 65535 65535 255 255):=by
 go_enter func52,ntmps52;go_wp2_with fail;exact bodyPost_ret (v:=mt 65535 65535 255 255) (by simp[results,results52,go_sem]) rfl ⟨rfl,by go_grown⟩
end Go.Proofs.YtjmclcmgpaofiaaGreat
namespace Go.Proofs.YtjmclcmgpaofiaaGreat
open Tryz
open Go.RowKit Go.Maps
def setL:List Int->Nat->Nat
 | [],z=>z
 | x::l,z=>setL l (z ||| 2 ^ x.toNat)
theorem Ay(z n:Nat)(hz:z<65536)(hn:n<16):Go.bits .or .u16 (z:Int) ((2:Int) ^ n % 65536)=((z ||| 2 ^ n:Nat):Int):=by
 have p1:2 ^ n<2 ^ 16:=Nat.pow_lt_pow_right (by omega) hn;have e1:((2:Int) ^ n % 65536)=((2 ^ n:Nat):Int):=by
  rw[show(2:Int) ^ n=((2 ^ n:Nat):Int) by simp];generalize 2 ^ n=q at *;omega
 rw[e1];generalize 2 ^ n=m at *;have hle:z ||| m<2 ^ 16:=Nat.or_lt_two_pow hz p1
 have hmm:(BitVec.ofInt 16 (z:Int) ||| BitVec.ofInt 16 (m:Int)).toNat=z ||| m:=by
  rw[show BitVec.ofInt 16 (z:Int)=BitVec.ofNat 16 z by simp,show BitVec.ofInt 16 (m:Int)=BitVec.ofNat 16 m by simp,BitVec.toNat_or,BitVec.toNat_ofNat,BitVec.toNat_ofNat,Nat.mod_eq_of_lt (by omega),Nat.mod_eq_of_lt (by omega)]
 show IntKind.u16.wrap ((BitVec.ofInt 16 (z:Int) ||| BitVec.ofInt 16 (m:Int)).toNat:Int)=_;rw[hmm];generalize z ||| m=r at *
 show((r:Int) % 65536)=_;omega
theorem qt(z q:Nat)(hz:z<65536)(hq:q<16):z ||| 2 ^ q<65536:=Nat.or_lt_two_pow (n:=16) hz (Nat.pow_lt_pow_right (by omega) hq)
theorem jL:∀(l:List Int) (z:Nat),(∀x∈l,0<=x /\ x<16)->z<65536->setL l z<65536
 | [],_,_,hz=>hz
 | x::l,z,h,hz=>jL l _ (λy hy=>h y (by simp[hy])) (qt z _ hz (by have:=h x (by simp);omega))
theorem qu{a9:Nat}(v:Value)(l:List Int)(w:World)(hv:SlAt a9 w 1 IsI v l)(hr:∀x∈l,0<=x /\ x<16) :
  CS 105 #[v] w (.int .u16 (setL l 0:Nat)):=by
 have HR:Hid (∀x∈l,0<=x /\ x<16):=hr;obtain⟨A,cap,rfl,c0,c1,c2,c3⟩:=hv;unfold maxLen at c2;clear hr;go_enter func105,ntmps105;go_wp2_with fail;go_loopw[3,8] (λz i wr=>∃(k y:Nat),z=.int .u16 (y:Int) /\ i=.int .i64 (k:Int) /\ k<=l.length /\ y<65536 /\ Hid (setL l 0=setL (l.drop k) y) /\ wr=w) (λ_ i _=>l.length-(intOf i).toNat)
 case atStart=>exact⟨0,0,rfl,rfl,Nat.zero_le _,by omega,rfl,rfl⟩
 case round =>
  obtain⟨k,y,rfl,rfl,hk,hy,HA,rfl⟩:=hrel;by_cases hlt:k<l.length
  ·obtain⟨x,hxk⟩:∃x,l[k]?=some x:=⟨l[k],List.getElem?_eq_getElem hlt⟩;obtain⟨b,o,rfl,hbl,hr⟩:=c3 (by intro e;subst e;simp at hlt);obtain⟨cs,e1,e2,e3⟩:=hr k x hxk;have hx:=HR.out x (List.mem_of_getElem? hxk);obtain⟨q,rfl⟩:∃q:Nat,x=(q:Int):=⟨x.toNat,by omega⟩;have hc:wr.cell? ⟨b,o+k,none⟩=some (.int .i64 (q:Int)):=by
    have e4:cs=[.int .i64 (q:Int)]:=e2;subst e4;simpa using e3 0 _ rfl
   have hdrop:l.drop k=(q:Int)::l.drop (k+1):=by
    rw[List.drop_eq_getElem_cons hlt]
    congr 1
    rw[List.getElem?_eq_getElem hlt]at hxk;exact Option.some.inj hxk
   have HV:Hid (setL l 0=setL (l.drop (k+1)) (y ||| 2 ^ q)):=by
    show _=_;rw[HA.out,hdrop,setL,Int.toNat_natCast]
   have k1:(0:Int)<=(q:Int):=by omega
   have k2:(q:Int)<16:=by omega
   have HM:Go.bits .or .u16 (y:Int) (IntKind.u16.wrap ((2:Int) ^ q))=((y ||| 2 ^ q:Nat):Int):=Ay y q hy (by omega);have HL:=qt y q hy (by omega);clear hr e1 e2 e3 c3 HA hdrop HR hxk;go_wp2_with fail;go_roundw
   case rel=>exact⟨k+1,y ||| 2 ^ q,rfl,by go_num,by omega,HL,HV,trivial⟩
   case measure=>simp[intOf];omega
  ·have HV:Hid (setL l 0=y):=by
    show _=_;rw[HA.out,List.drop_of_length_le (by omega),setL]
   clear HA HR c3;go_wp2_with fail;go_ret;rw[HV.out];exact⟨rfl,rfl⟩
theorem Bz.al{W:World}{k:Nat}{c:Array Value}{t:TypeId}(h:Bz W k c t)(o:Obj):Bz (W.alloc o) k c t:=(Below.heap_alloc W o k h.lt).trans h
theorem jM(v:Value)(l:List Int)(w:World)(hv:SlAt w w 1 IsI v l)(hr:∀x∈l,0<=x /\ x<16) :
  CB 61 #[v] w (mt (setL l 0) 65535 255 255):=by
 have SO:Hid (∀ww,Below w w ww->CS 105 #[v] ww (.int .u16 (setL l 0:Nat))):=λww hb=>qu v l ww (hv.below hb (λ_ _ _ h=>h)) hr;clear hv hr;generalize setL l 0=z at *;go_enter func61,ntmps61;go_wp2_with fail;refine(all_any _).mono ?_;rintro e w1⟨rfl,hb1⟩;have Z0:Bz (w.alloc (.cells #[.int .u16 0,.int .u16 0,.int .u8 0,.int .u8 0] 30)) w.heap.size _ _:=Bz.new w _ _ _ rfl;have Z1:Bz w1 w.heap.size _ _:=(hb1.block _ Z0.lt).trans Z0;have D1:Below w w w1:=((Below.refl _ w).alloc (Nat.le_refl _) _).trans (hb1.mono (Nat.le_of_lt Z0.lt));have lt1:=Z1.lt;have z0:=Z1.cell 0 (.int .u16 0) rfl;have z1:=Z1.cell 1 (.int .u16 0) rfl;have z2:=Z1.cell 2 (.int .u8 0) rfl;have z3:=Z1.cell 3 (.int .u8 0) rfl;have f0:=Z1.free 0;have f1:=Z1.free 1;have f2:=Z1.free 2;have f3:=Z1.free 3;unfold mt at *;have Z1h:=Hq.mk Z1;clear hb1 Z0 Z1;go_wp2_with fail;refine(SO.out _ (by go_grown)).mono ?_;rintro e w2⟨rfl,rfl⟩;clear SO;go_wp2_with fail;have Zf:=((((Z1h.out.set (j:=0) (.int .u16 (z:Int))).set (j:=1) (.int .u16 (65535:Int))).set (j:=2) (.int .u8 255)).set (j:=3) (.int .u8 255)).al (.cells #[(.int .u16 (z:Int)),(.int .u16 (65535:Int)),.int .u8 255,.int .u8 255] 30);have g0:=Zf.cell 0 (.int .u16 (z:Int)) rfl;have g1:=Zf.cell 1 (.int .u16 (65535:Int)) rfl;have g2:=Zf.cell 2 (.int .u8 255) rfl;have g3:=Zf.cell 3 (.int .u8 255) rfl;exact bodyPost_ret (v:=mt z 65535 255 255) (by simp[results,results61,go_sem,g0,g1,g2,g3]) rfl ⟨rfl,by go_grown⟩
theorem jN(v:Value)(l:List Int)(w:World)(hv:SlAt w w 1 IsI v l)(hr:∀x∈l,0<=x /\ x<16) :
  CB 166 #[v] w (mt 65535 (setL l 0) 255 255):=by
 have SO:Hid (∀ww,Below w w ww->CS 105 #[v] ww (.int .u16 (setL l 0:Nat))):=λww hb=>qu v l ww (hv.below hb (λ_ _ _ h=>h)) hr;clear hv hr;generalize setL l 0=z at *;go_enter func166,ntmps166;go_wp2_with fail;refine(all_any _).mono ?_;rintro e w1⟨rfl,hb1⟩;have Z0:Bz (w.alloc (.cells #[.int .u16 0,.int .u16 0,.int .u8 0,.int .u8 0] 30)) w.heap.size _ _:=Bz.new w _ _ _ rfl;have Z1:Bz w1 w.heap.size _ _:=(hb1.block _ Z0.lt).trans Z0;have D1:Below w w w1:=((Below.refl _ w).alloc (Nat.le_refl _) _).trans (hb1.mono (Nat.le_of_lt Z0.lt));have lt1:=Z1.lt;have z0:=Z1.cell 0 (.int .u16 0) rfl;have z1:=Z1.cell 1 (.int .u16 0) rfl;have z2:=Z1.cell 2 (.int .u8 0) rfl;have z3:=Z1.cell 3 (.int .u8 0) rfl;have f0:=Z1.free 0;have f1:=Z1.free 1;have f2:=Z1.free 2;have f3:=Z1.free 3;unfold mt at *;have Z1h:=Hq.mk Z1;clear hb1 Z0 Z1;go_wp2_with fail;refine(SO.out _ (by go_grown)).mono ?_;rintro e w2⟨rfl,rfl⟩;clear SO;go_wp2_with fail;have Zf:=((((Z1h.out.set (j:=0) (.int .u16 (65535:Int))).set (j:=1) (.int .u16 (z:Int))).set (j:=2) (.int .u8 255)).set (j:=3) (.int .u8 255)).al (.cells #[(.int .u16 (65535:Int)),(.int .u16 (z:Int)),.int .u8 255,.int .u8 255] 30);have g0:=Zf.cell 0 (.int .u16 (65535:Int)) rfl;have g1:=Zf.cell 1 (.int .u16 (z:Int)) rfl;have g2:=Zf.cell 2 (.int .u8 255) rfl;have g3:=Zf.cell 3 (.int .u8 255) rfl;exact bodyPost_ret (v:=mt 65535 z 255 255) (by simp[results,results166,go_sem,g0,g1,g2,g3]) rfl ⟨rfl,by go_grown⟩
end Go.Proofs.YtjmclcmgpaofiaaGreat
