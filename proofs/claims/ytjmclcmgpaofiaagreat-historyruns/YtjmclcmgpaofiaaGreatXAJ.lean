/-
  XAJ.
-/
import Derived.Test.YtjmclcmgpaofiaaGreatXLy
import Derived.Test.YtjmclcmgpaofiaaGreatXAI
import Derived.Test.YtjmclcmgpaofiaaGreatXAB
import Derived.Test.YtjmclcmgpaofiaaGreatProg
import Derived.WalkKit
import Derived.OrdersIn
import Derived.RangeFuncCalls
import Derived.Deep.RegionHeld
set_option maxHeartbeats 8000000
set_option maxRecDepth 100000
namespace Go.Proofs.YtjmclcmgpaofiaaGreat
open Tryz
open Go.RowKit Go.Maps
structure Hq(p:Prop):Prop where
 out:p
def fT(C:Cfg)(w:World)(ns:List Nd)(d9:Bool)(N:Nat)(m2:Mx->Option Nat)(m3:Nat->Option Nat)(c:Nd)(g:Nat)(e:Ending)(w':World):Prop :=
 ∃f ns' full' N' m1',e=.returned (.int .i64 ((f:Nat):Int)) /\ At C w w' ns' full' N' m1' m2 m3 /\ Ext ns ns' /\ ns'.length<=ns.length+g /\ N'<=N+g /\ f<ns'.length /\ (d9=true->full'=true) /\ (full'=false->MemoC ns' m1' /\ IsIte ns' c f)
theorem ko(x y z:Nat)(ts:Array TypeId)(t:TypeId)(W:World):(Builtin.min_ ts t #[(x:Int),(y:Int),(z:Int)]).run prog W=.ok (.int .i64 ((min (min x y) z:Nat):Int)) W:=by
 have e:((min (min x y) z:Nat):Int)=if(z:Int)<(if(y:Int)<(x:Int)then(y:Int)else(x:Int))then(z:Int)else(if(y:Int)<(x:Int)then(y:Int)else(x:Int)):=by
  split <;> split <;> omega
 rw[e];simp[Builtin.min_,Builtin.min2]
section
variable {C:Cfg}{w:World}{ns:List Nd}{N:Nat}{m1:Nd->Option Nat}{m2:Mx->Option Nat}{m3:Nat->Option Nat}
theorem At.memo1{w0 w':World}{d9:Bool}{m1':Nd->Option Nat}{c:Nat}(h:At C w0 w ns d9 N m1 m2 m3)(hc:C.c1=some c)(hM:MapIs eM w' c (N+1) m1')(hg:w.grownBy w' (some c)):At C w0 w' ns d9 (N+1) m1' m2 m3:=by
 have hb:=h.bu;have kt:∀i,i<w.heap.size->i≠c->w'.heap[i]?=w.heap[i]?:=λi hi hn=>hg.block i hi (by simpa using hn);obtain⟨es,clock,hm⟩:=(hb.o1 c hc).isMap;obtain⟨k1,k2,k3⟩:=hb.b_noMap hm;obtain⟨_,_,_,rl⟩:=hb.ar.row;have hr:rowOf w' C.a=rowOf w C.a:=aQ (kt _ hb.ar.lta k2.symm);refine⟨⟨hb.ar.same (kt _ hb.ar.lta k2.symm) (kt _ hb.ar.ltM (hb.low1 c hc).2.1.symm) (kt _ rl k3.symm),(kt _ hb.ltb k1.symm).trans hb.blk,hb.lowB,?_,?_,?_,hb.low1,hb.low2,hb.low3,hb.full_len⟩,h.kp.trans ⟨hg.os,hg.tape,hg.output,hg.size,λi hi hm' _=>kt i hi (λe=>hm' (by subst e;simp[Cfg.mine,hc])),Or.inl hr,λj _=>bJ (kt _ hb.ar.lta k2.symm)⟩⟩
 ·intro i e;rw[hc]at e;cases e;exact hM
 ·exact λi e=>((hb.o2 i e).same (kt i (hb.o2 i e).lt (λq=>(hb.low2 i e).2.2.1 (q ▸ hc)))).mono (Nat.le_succ _)
 ·exact λi e=>((hb.o3 i e).same (kt i (hb.o3 i e).lt (λq=>(hb.low3 i e).2.2.1 (q ▸ hc)))).mono (Nat.le_succ _)
theorem At.memo2{w0 w':World}{d9:Bool}{m2':Mx->Option Nat}{c:Nat}(h:At C w0 w ns d9 N m1 m2 m3)(hc:C.c2=some c)(hM:MapIs em w' c (N+1) m2')(hg:w.grownBy w' (some c)):At C w0 w' ns d9 (N+1) m1 m2' m3:=by
 have hb:=h.bu;have kt:∀i,i<w.heap.size->i≠c->w'.heap[i]?=w.heap[i]?:=λi hi hn=>hg.block i hi (by simpa using hn);obtain⟨es,clock,hm⟩:=(hb.o2 c hc).isMap;obtain⟨k1,k2,k3⟩:=hb.b_noMap hm;obtain⟨_,_,_,rl⟩:=hb.ar.row;have hr:rowOf w' C.a=rowOf w C.a:=aQ (kt _ hb.ar.lta k2.symm);refine⟨⟨hb.ar.same (kt _ hb.ar.lta k2.symm) (kt _ hb.ar.ltM (hb.low2 c hc).2.1.symm) (kt _ rl k3.symm),(kt _ hb.ltb k1.symm).trans hb.blk,hb.lowB,?_,?_,?_,hb.low1,hb.low2,hb.low3,hb.full_len⟩,h.kp.trans ⟨hg.os,hg.tape,hg.output,hg.size,λi hi hm' _=>kt i hi (λe=>hm' (by subst e;simp[Cfg.mine,hc])),Or.inl hr,λj _=>bJ (kt _ hb.ar.lta k2.symm)⟩⟩
 ·exact λi e=>((hb.o1 i e).same (kt i (hb.o1 i e).lt (λq=>(hb.low1 i e).2.2.1 (q ▸ hc)))).mono (Nat.le_succ _)
 ·intro i e;rw[hc]at e;cases e;exact hM
 ·exact λi e=>((hb.o3 i e).same (kt i (hb.o3 i e).lt (λq=>(hb.low3 i e).2.2.2 (q ▸ hc)))).mono (Nat.le_succ _)
theorem At.memo3{w0 w':World}{d9:Bool}{m3':Nat->Option Nat}{c:Nat}(h:At C w0 w ns d9 N m1 m2 m3)(hc:C.c3=some c)(hM:MapIs aH w' c (N+1) m3')(hg:w.grownBy w' (some c)):At C w0 w' ns d9 (N+1) m1 m2 m3':=by
 have hb:=h.bu;have kt:∀i,i<w.heap.size->i≠c->w'.heap[i]?=w.heap[i]?:=λi hi hn=>hg.block i hi (by simpa using hn);obtain⟨es,clock,hm⟩:=(hb.o3 c hc).isMap;obtain⟨k1,k2,k3⟩:=hb.b_noMap hm;obtain⟨_,_,_,rl⟩:=hb.ar.row;have hr:rowOf w' C.a=rowOf w C.a:=aQ (kt _ hb.ar.lta k2.symm);refine⟨⟨hb.ar.same (kt _ hb.ar.lta k2.symm) (kt _ hb.ar.ltM (hb.low3 c hc).2.1.symm) (kt _ rl k3.symm),(kt _ hb.ltb k1.symm).trans hb.blk,hb.lowB,?_,?_,?_,hb.low1,hb.low2,hb.low3,hb.full_len⟩,h.kp.trans ⟨hg.os,hg.tape,hg.output,hg.size,λi hi hm' _=>kt i hi (λe=>hm' (by subst e;simp[Cfg.mine,hc])),Or.inl hr,λj _=>bJ (kt _ hb.ar.lta k2.symm)⟩⟩
 ·exact λi e=>((hb.o1 i e).same (kt i (hb.o1 i e).lt (λq=>(hb.low1 i e).2.2.2 (q ▸ hc)))).mono (Nat.le_succ _)
 ·exact λi e=>((hb.o2 i e).same (kt i (hb.o2 i e).lt (λq=>(hb.low2 i e).2.2.2 (q ▸ hc)))).mono (Nat.le_succ _)
 ·intro i e;rw[hc]at e;cases e;exact hM
theorem choose_miss(h:Bu C w ns false N m1 m2 m3){c1:Nat}(hc1:C.c1=some c1){x y z k:Nat}(hin:Inside ns (x,y,z))(hx:2<=x)(hyz:y≠z)(hf:m1 (x,y,z)=none){S:Nat->Bool}(hk:Fit S C.a8 ns (x,y,z) (k+1))(hm:MemoC ns m1)(hN:N+2 ^ (k+1)<=1099511627776)
  (ih:Hq (∀w ns d9 N m1 c,Bu C w ns d9 N m1 m2 m3->Inside ns c->Fit S C.a8 ns c k->(d9=false->MemoC ns m1)->N+2 ^ k<=1099511627776->Cl 170 #[.pointer (some ⟨C.b,0,none⟩),aU c] w (fT C w ns d9 N m2 m3 c (2 ^ k-1)))) :
  Cl 170 #[.pointer (some ⟨C.b,0,none⟩),aU (x,y,z)] w (fT C w ns false N m2 m3 (x,y,z) (2 ^ (k+1)-1)):=by
 have hl4:ns.length<=40000:=Nat.le_trans h.ar.le h.ar.most4;obtain⟨i1,i2,i3⟩:=id hin;simp only[]at i1 i2 i3;have ho:ok3 (x,y,z):=⟨by show x<_;omega,by show y<_;omega,by show z<_;omega⟩;have hA:=((At.refl h).alloc (.cells #[(x:Int),(y:Int),(z:Int)] 249)).drew;have L:=(h.loc #[(x:Int),(y:Int),(z:Int)] 249).drew;obtain⟨b0,b1,b2,b3,b4,bf⟩:=h.reads;have lb:=h.ltb;have hlook:=(hA.bu.o1 c1 hc1).look tz2 (x:=(x,y,z)) ho;rw[hf]at hlook;simp only[eM,Option.getD_none,Option.isSome_none]at hlook;rw[hc1]at b2;have x1:((x:Int) == 1)=false:=by simp;omega
 have x0:((x:Int) == 0)=false:=by simp;omega
 have hyz':((y:Int) ==(z:Int))=false:=by simp;omega
 have wf:=h.ar.wf;have hvm:au ns (x,y,z)<C.a8:=by
  have:=wf.va x hx i1;simp only[au];omega
 have v16:=h.ar.vars16;have HF:Hq (∀val,Fit S C.a8 ns (pc ns (x,y,z) (au ns (x,y,z)) val) k):=⟨λval=>hk.down wf hin hvm val⟩;clear hk;have hmn:∀(ts:Array TypeId) (t:TypeId) (W:World),(Builtin.min_ ts t #[(nv ns x:Int),(nv ns y:Int),(nv ns z:Int)]).run prog W=.ok (.int .i64 (au ns (x,y,z):Int)) W:=λts t W=>ko _ _ _ ts t W;clear h;go_enter func170,ntmps170;go_wp2_with fail;go_cut [5,6] (λv5 v6 wx=>v5=.int .i64 0 /\ v6=.bool false /\ At C w wx ns false N m1 m2 m3 /\ Loc C wx w.heap.size #[(x:Int),(y:Int),(z:Int)] 249)
 case first =>
  go_region;all_goals
   go_wp2_with fail
   go_meet
   exact⟨rfl,rfl,hA,L⟩
 case rest =>
  obtain⟨rfl,rfl,hA1,L1⟩:=hcut;clear hA L hlook;obtain⟨⟨q0,q1,q2⟩,_⟩:=L1.reads;go_wp2_with fail;go_cut [7] (λv7 wx=>v7=.int .i64 (au ns (x,y,z):Int) /\ At C w wx ns false N m1 m2 m3 /\ Loc C wx w.heap.size #[(x:Int),(y:Int),(z:Int)] 249)
  case first =>
   have hA2:=hA1.drew;go_region_held3 (λw'=>w'.cell? ⟨w,0,none⟩=some (.int .i64 (x:Int)) /\ w'.cell? ⟨w,1,none⟩=some (.int .i64 (y:Int)) /\ w'.cell? ⟨w,2,none⟩=some (.int .i64 (z:Int))) (go_keep)
    (first|(go_at_call 201;refine(variable_any (At.bu (w0:=w) ‹_›) ‹_›).mono ?_;rintro e wn⟨rfl,rfl⟩))
   go_wp2_with fail
   go_meet
   exact⟨rfl,hA2,L1.drew⟩
  case rest =>
   obtain⟨rfl,hA2,L2⟩:=hcut;clear hA1 L1 q0 q1 q2 hmn;generalize hv:au ns (x,y,z)=v at *;obtain⟨⟨q0,q1,q2⟩,_⟩:=L2.reads;go_wp2_with fail;refine(pR (c:=(x,y,z)) hA2.bu false i1 i2 i3 (by omega)).mono ?_;rintro e w3⟨rfl,hp⟩;have hA3:=hA2.then hp;have L3:=L2.kp hp.kp;clear hp L2 hA2 q0 q1 q2;go_wp2_with fail;have hp2:2 ^ (k+1)=2*2 ^ k:=by rw[Nat.pow_succ];omega
   have hp1:1<=2 ^ k:=Nat.one_le_two_pow;have hpm:∀val,v<au ns (pc ns (x,y,z) v val):=λval=>by
    have:=pT wf hin (by rw[hv];exact hvm) val;rw[hv]at this;exact this
   refine(ih.out w3 ns false N m1 (pc ns (x,y,z) v false) hA3.bu (jH wf hin hvm false) (HF.out false) (λ_=>hm) (by omega)).mono ?_;rintro e w4⟨f0,ns1,full1,N1,m11,rfl,hp,X1,l1,n1,lt0,_,s1⟩;have hA4:=hA3.then hp;have L4:=L3.kp hp.kp;clear hp L3 hA3;have wf1:=hA4.bu.ar.wf;have hin1:=hin.ext X1;have pe1:=lE hin X1 v true;obtain⟨j1,j2,j3⟩:=id hin1;obtain⟨⟨q0,q1,q2⟩,_⟩:=L4.reads;go_wp2_with fail;refine(pR (c:=(x,y,z)) hA4.bu true j1 j2 j3 (by omega)).mono ?_;rintro e w5⟨rfl,hp⟩;have hA5:=hA4.then hp;have L5:=L4.kp hp.kp;clear hp L4 hA4 q0 q1 q2;go_wp2_with fail;refine(ih.out w5 ns1 full1 N1 m11 (pc ns1 (x,y,z) v true) hA5.bu (jH wf1 hin1 hvm true) (by rw[pe1];exact(HF.out true).ext wf wf1 (jH wf hin hvm true) X1) (λe=>(s1 e).1) (by omega)).mono ?_;rintro e w6⟨f1,ns2,full2,N2,m12,rfl,hp,X2,l2,n2,lt1,mo2,s2⟩;have hA6:=hA5.then hp;have L6:=L5.kp hp.kp;clear hp L5 hA5;have wf2:=hA6.bu.ar.wf;have X2l:=X2.len;have sem2:full2=false->MemoC ns2 m12 /\ IsIte ns2 (pc ns (x,y,z) v false) f0 /\ IsIte ns2 (pc ns (x,y,z) v true) f1:=λe2=>by
    have e1:full1=false:=by cases full1 <;> simp_all
    have a1:=(s1 e1).2.ext X2 wf1 wf2;have a2:=s2 e2;rw[pe1]at a2;exact⟨a2.1,a1,a2.2⟩
   go_wp2_with fail;refine(numberOf_any hA6.bu (v:=v) (l:=f0) (u:=f1) hvm (by omega) lt1 (λe2=>?_)).mono ?_
   ·obtain⟨_,a1,a2⟩:=sem2 e2;have b1:=a1.va;have b2:=a2.va;rw[fK (jH wf hin hvm _) (X1.trans X2)]at b1 b2;have:=hpm false;have:=hpm true;omega
   rintro e w7⟨f,ns3,full3,rfl,hp,X3,l3,lt3,mo3,s3⟩;have hA7:=(hA6.then hp).drew;have L7:=(L6.kp hp.kp).drew;clear hp L6 hA6;have wf3:=hA7.bu.ar.wf;have len3:ns3.length<=40000:=Nat.le_trans hA7.bu.ar.le hA7.bu.ar.most4;obtain⟨w8,hrun,hM8,hg8⟩:=(hA7.bu.o1 c1 hc1).store tz2 (by unfold maxLen;omega) (x:=(x,y,z)) ho (v:=f) (by omega);have hA8:=hA7.memo1 hc1 hM8 hg8;obtain⟨⟨q0,q1,q2⟩,_⟩:=L7.reads;obtain⟨d0,d1,d2,d3,d4,df⟩:=hA7.bu.reads;rw[hc1]at d2;simp only[eM]at hrun;have hfin:fT C w ns false N m2 m3 (x,y,z) (2 ^ (k+1)-1) (.returned (f:Int)) w8:=by
    refine⟨f,ns3,full3,N2+1,_,rfl,hA8,(X1.trans X2).trans X3,by omega,by omega,lt3,(λe=>by cases e),λe3=>?_⟩;have e2:full2=false:=by cases full2 <;> simp_all
    obtain⟨a0,a1,a2⟩:=sem2 e2;have X03:=(X1.trans X2).trans X3;have J:IsIte ns3 (x,y,z) f:=by
     refine zL wf3 (hin.ext X03) (by rw[fK hin X03,hv];exact hvm) ?_ ?_ (by rw[fK hin X03,hv];exact s3 e3)
     ·rw[fK hin X03,hv,lE hin X03];exact a1.ext X3 wf2 wf3
     ·rw[fK hin X03,hv,lE hin X03];exact a2.ext X3 wf2 wf3
    exact⟨(a0.ext X3 wf2 wf3).upd J,J⟩
   clear hA7 hM8 hg8 L7 hA8;go_wp2_with fail;go_region;all_goals
    go_wp2_with fail;go_ret;exact hfin
theorem mV(S:Nat->Bool){c1:Nat}(hc1:C.c1=some c1):∀(k:Nat) (w:World) (ns:List Nd) (d9:Bool) (N:Nat) (m1:Nd->Option Nat) (c:Nd),Bu C w ns d9 N m1 m2 m3->Inside ns c->Fit S C.a8 ns c k->(d9=false->MemoC ns m1) ->
  N+2 ^ k<=1099511627776->Cl 170 #[.pointer (some ⟨C.b,0,none⟩),aU c] w (fT C w ns d9 N m2 m3 c (2 ^ k-1)):=by
 intro k
 induction k with
 | zero =>
   intro w ns d9 N m1 c h hin hk0 hm hN;have hk:=hk0.zero h.ar.wf hin;cases d9
   ·obtain⟨x,y,z⟩:=c;have hx:x<2:=by
     have:=h.ar.wf.va x;have k1:au ns (x,y,z)<=nv ns x:=by simp only[au];omega
     by_cases h2:2<=x
     ·have:=this h2 hin.1;omega
     ·omega
    by_cases h1:x=1
    ·subst h1;refine(pY h y z).mono ?_;rintro e w'⟨rfl,hA⟩;exact⟨y,ns,false,N,m1,rfl,hA,Ext.refl _,by omega,by omega,hin.2.1,id,λ_=>⟨hm rfl,pV hin rfl⟩⟩
    ·obtain rfl:x=0:=by omega
     by_cases hyz:y=z
     ·subst hyz;refine(pZ h 0 y h1).mono ?_;rintro e w'⟨rfl,hA⟩;exact⟨y,ns,false,N,m1,rfl,hA,Ext.refl _,by omega,by omega,hin.2.1,id,λ_=>⟨hm rfl,pU hin rfl⟩⟩
     ·refine(qa h y z hyz).mono ?_;rintro e w'⟨rfl,hA⟩;exact⟨z,ns,false,N,m1,rfl,hA,Ext.refl _,by omega,by omega,hin.2.2,id,λ_=>⟨hm rfl,pW hin rfl⟩⟩
   ·refine(pX h c).mono ?_;rintro e w'⟨rfl,hA⟩;exact⟨0,ns,true,N,m1,rfl,hA,Ext.refl _,by omega,by omega,(by have:=h.ar.wf.len;omega),id,λe=>by cases e⟩
 | succ k ih =>
   intro w ns d9 N m1 c h hin hk hm hN;cases d9
   ·obtain⟨x,y,z⟩:=c;by_cases h1:x=1
    ·subst h1;refine(pY h y z).mono ?_;rintro e w'⟨rfl,hA⟩;exact⟨y,ns,false,N,m1,rfl,hA,Ext.refl _,by omega,by omega,hin.2.1,id,λ_=>⟨hm rfl,pV hin rfl⟩⟩
    ·by_cases hyz:y=z
     ·subst hyz;refine(pZ h x y h1).mono ?_;rintro e w'⟨rfl,hA⟩;exact⟨y,ns,false,N,m1,rfl,hA,Ext.refl _,by omega,by omega,hin.2.1,id,λ_=>⟨hm rfl,pU hin rfl⟩⟩
     ·by_cases h0:x=0
      ·subst h0;refine(qa h y z hyz).mono ?_;rintro e w'⟨rfl,hA⟩;exact⟨z,ns,false,N,m1,rfl,hA,Ext.refl _,by omega,by omega,hin.2.2,id,λ_=>⟨hm rfl,pW hin rfl⟩⟩
      ·have hl4:ns.length<=40000:=Nat.le_trans h.ar.le h.ar.most4;obtain⟨i1,i2,i3⟩:=id hin;simp only[]at i1 i2 i3;cases hf:m1 (x,y,z)with
       | none=>exact choose_miss h hc1 hin (by omega) hyz hf hk (hm rfl) hN ⟨ih⟩
       | some f =>
         refine(zO h hc1 ⟨by show x<_;omega,by show y<_;omega,by show z<_;omega⟩ (by omega) hyz hf).mono ?_;rintro e w'⟨rfl,hA⟩;have J:=hm rfl _ _ hf;exact⟨f,ns,false,N,m1,rfl,hA,Ext.refl _,by omega,by omega,J.lt,id,λ_=>⟨hm rfl,J⟩⟩
   ·refine(pX h c).mono ?_;rintro e w'⟨rfl,hA⟩;exact⟨0,ns,true,N,m1,rfl,hA,Ext.refl _,by omega,by omega,(by have:=h.ar.wf.len;omega),id,λe=>by cases e⟩
theorem ug{c1:Nat}(hc1:C.c1=some c1):∀(k:Nat) (w:World) (ns:List Nd) (d9:Bool) (N:Nat) (m1:Nd->Option Nat) (c:Nd),Bu C w ns d9 N m1 m2 m3->Inside ns c->C.a8<=au ns c+k->(d9=false->MemoC ns m1) ->
  N+2 ^ k<=1099511627776->Cl 170 #[.pointer (some ⟨C.b,0,none⟩),aU c] w (fT C w ns d9 N m2 m3 c (2 ^ k-1)):=λk w ns d9 N m1 c h hin hk hm hN=>mV (λ_=>true) hc1 k w ns d9 N m1 c h hin (qd hk) hm hN
end
def ca(a9 a M a8 a7:Nat):Cfg:=⟨a9,a,a,M,none,none,none,a8,a7⟩
def OpPost(a9 a M a8 a7:Nat)(w:World)(ns:List Nd)(g:Nat)(φ:Env->Bool)(e:Ending)(w':World):Prop :=
 ∃ns',Ar a9 a M a8 a7 w' ns' /\ Kp (ca a9 a M a8 a7) w w' /\ Ext ns ns' /\ ns'.length<=ns.length+g /\
   ((∃f:Nat,e=.returned (.tuple #[(f:Int),.int .i64 0]) /\ f<ns'.length /\ ∀x,ev ns' f x=φ x)\/(e=.returned (.tuple #[.int .i64 0,.int .i64 6]) /\ ns'.length=a7))
def MkPost(a9 a M a8 a7:Nat)(w:World)(ns:List Nd)(g i:Nat)(φ:Env->Bool)(e:Ending)(w':World):Prop :=
 ∃ns',Ar a9 a M a8 a7 w' ns' /\ Kp (ca a9 a M a8 a7) w w' /\ Ext ns ns' /\ ns'.length<=ns.length+g /\
   ((∃f:Nat,e=.returned (.tuple #[(f:Int),.int .i64 0]) /\ f<ns'.length /\ i<=nv ns' f /\ ∀x,ev ns' f x=φ x)\/(e=.returned (.tuple #[.int .i64 0,.int .i64 6]) /\ ns'.length=a7))
section
variable {a9 a M a8 a7:Nat}{w w1 w2:World}{ns:List Nd}
theorem Kp.outer{C:Cfg}(hK:Kp C w1 w2)(ha:C.a=a)(ho:w1.os=w.os)(ht:w1.tape=w.tape)(hp:w1.output=w.output)(hs:w.heap.size<=w1.heap.size)(hb:∀i,i<w.heap.size->w1.heap[i]?=w.heap[i]?)
  (hn:∀i,C.mine i->i=a\/i=M\/w.heap.size<=i) (la:a<w.heap.size):Kp (ca a9 a M a8 a7) w w2:=by
 have hr:rowOf w1 a=rowOf w a:=aQ (hb a la);have hr2:=hK.row;rw[ha]at hr2;have hs2:=hK.size;refine⟨hK.os.trans ho,hK.tape.trans ht,hK.output.trans hp,by omega,λi hi hm hne=>?_,?_,λj hj=>by have:=hK.post j hj;rw[ha]at this;exact this.trans (bJ (hb a la))⟩
 ·refine(hK.blk i (by omega) (λhc=>?_) (by rw[ha,hr];exact hne)).trans (hb i hi);rcases hn i hc with e|e|e
  ·exact hm (Or.inl e)
  ·exact hm (Or.inr (Or.inr (Or.inl e)))
  ·omega
 ·show rowOf w2 a=rowOf w a\/w.heap.size<=rowOf w2 a;rcases hr2 with e|e
  ·exact Or.inl (e.trans hr)
  ·exact Or.inr (by omega)
theorem Ar.alloc(h:Ar a9 a M a8 a7 w ns)(o:Obj):Ar a9 a M a8 a7 (w.alloc o) ns:=by
 obtain⟨_,_,_,rl⟩:=h.row;exact h.same (Below.heap_alloc w o _ h.lta) (Below.heap_alloc w o _ h.ltM) (Below.heap_alloc w o _ rl)
theorem iP{v m:Nat}(w:World)(hv1:1<=v)(hv2:v<=16)(hm1:2<=m)(hm2:m<=40000) :
  Cl 26 #[(v:Int),(m:Int)] w λe w'=>∃a M,e=.returned (.tuple #[.pointer (some ⟨a,0,none⟩),.int .i64 0]) /\ Ar w.heap.size a M v m w' [(v,0,0),(v,1,1)] /\ Below w w w':=by
 have hmm:=@run_makeMap prog;have t1:decide ((v:Int)<1)=false:=by simp;omega
 have t2:decide ((16:Int)<(v:Int))=false:=by simp;omega
 have t3:decide ((m:Int)<2)=false:=by simp;omega
 have t4:decide ((40000:Int)<(m:Int))=false:=by simp;omega
 go_enter func26,ntmps26;go_wp2_with fail;go_ret2;refine⟨w.heap.size+1+1,w.heap.size+1,rfl,?_,?_⟩
 ·refine⟨zA v,by simpa using hm1,hv1,hv2,hm2,by omega,by omega,⟨w,2,#[(v:Int),(m:Int),.slice (some ⟨w,0,none⟩) 2 2,.map (some (w.heap.size+1))],82,?_,⟨rfl,rfl,rfl,rfl,.inl rfl⟩,?_⟩,⟨λ_=>none,?_,?_⟩⟩
  ·rw[show w.heap.size+1+1=((w.alloc (.cells #[(v:Int),.int .i64 0,.int .i64 0,(v:Int),.int .i64 1,.int .i64 1] 144)).alloc (.map #[] 0)).heap.size by simp];exact Go.heap_alloc_new _ _
  ·refine⟨by simp[bV],.inr ⟨w,2,#[(v:Int),.int .i64 0,.int .i64 0,(v:Int),.int .i64 1,.int .i64 1],rfl,Nat.le_refl _,?_,by simp,by decide,by simp,by simp[bV]⟩⟩;rw[Below.heap_alloc _ _ _ (by simp;omega),Below.heap_alloc _ _ _ (by simp)];exact Go.heap_alloc_new _ _
  ·have hM:=ei fJ (w.alloc (.cells #[(v:Int),.int .i64 0,.int .i64 0,(v:Int),.int .i64 1,.int .i64 1] 144));rw[show(w.alloc (.cells #[(v:Int),.int .i64 0,.int .i64 0,(v:Int),.int .i64 1,.int .i64 1] 144)).heap.size=w.heap.size+1 by simp]at hM;exact(hM.same (Below.heap_alloc _ _ _ (by simp))).mono (by simp)
  ·intro n f;simp only[List.length_cons,List.length_nil];constructor
   ·intro h;cases h
   ·rintro⟨h1,h2,_⟩;omega
 ·exact(((Below.refl _ _).alloc (Nat.le_refl _) _).alloc (by simp) _).alloc (by simp;omega) _
theorem bu_new{C:Cfg}{m1:Nd->Option Nat}{m2:Mx->Option Nat}{m3:Nat->Option Nat}(h:Ar C.a9 C.a C.M C.a8 C.a7 w ns)(hb:C.b=w.heap.size)(hbase:C.a9<=w.heap.size)(o1:gn eM w C.c1 0 m1)(o2:gn em w C.c2 0 m2)(o3:gn aH w C.c3 0 m3)
  (low1:∀i,C.c1=some i->C.a9<=i /\ i≠C.M /\ C.c2≠some i /\ C.c3≠some i) (low2:∀i,C.c2=some i->C.a9<=i /\ i≠C.M /\ C.c1≠some i /\ C.c3≠some i) (low3:∀i,C.c3=some i->C.a9<=i /\ i≠C.M /\ C.c1≠some i /\ C.c2≠some i) :
  Bu C (w.alloc (.cells #[.pointer (some ⟨C.a,0,none⟩),.bool false,.map C.c1,.map C.c2,.map C.c3] 231)) ns false 0 m1 m2 m3 :=
 ⟨h.alloc _,by rw[hb];exact Go.heap_alloc_new _ _,by omega,λi e=>(o1 i e).same (Below.heap_alloc _ _ _ (o1 i e).lt),λi e=>(o2 i e).same (Below.heap_alloc _ _ _ (o2 i e).lt),λi e=>(o3 i e).same (Below.heap_alloc _ _ _ (o3 i e).lt),low1,low2,low3,λe=>by cases e⟩
theorem gQ(h:Ar a9 a M a8 a7 w ns):CS 101 #[.pointer a] w (.int .i64 (a8:Int)):=by
 obtain⟨cap,a0,a1,a2,a3,af,an⟩:=h.reads;clear h an;go_enter func101,ntmps101;go_wp2_with fail;go_ret;exact⟨rfl,rfl⟩
theorem mW(h:Ar a9 a M a8 a7 w ns){f i:Nat}(hf:f<ns.length)(hv:i<nv ns f) :
  CS 159 #[.pointer a,(f:Int),(i:Int)] w (.bool true):=by
 have t1:(decide ((0:Int)<=(f:Int))&&decide ((f:Int)<(ns.length:Int)))=true:=by simp;omega
 have t2:decide ((i:Int)<(nv ns f:Int))=true:=by simp;omega
 have hl:ns.length<=40000:=Nat.le_trans h.le h.most4;have hF:Hid (Ar a9 a M a8 a7 w ns):=h;obtain⟨cap,a0,a1,a2,a3,af,an⟩:=h.reads;obtain⟨n0,n1,n2⟩:=an f hf;clear h an;generalize rowOf w a=g at *;go_enter func159,ntmps159;go_wp2_with (go_at_call 84;refine(di hF.out (f:Int)).mono ?_;rintro e w'⟨rfl,rfl⟩;rw[t1]);go_ret;exact⟨by simp,rfl⟩
theorem node_ok(h:Ar a9 a M a8 a7 w ns){i lo up:Nat}(hi:i<a8)(l1:lo<ns.length)(l2:up<ns.length)(v1:i<nv ns lo)(v2:i<nv ns up) :
  Cl 130 #[.pointer a,(i:Int),(lo:Int),(up:Int)] w (MkPost a9 a M a8 a7 w ns 1 i λx=>if x i then ev ns up x else ev ns lo x):=by
 have la:=h.lta;have lM:=h.ltM;have wf:=h.wf;have hb:=bu_new (C:=⟨a9,a,w.heap.size,M,none,none,none,a8,a7⟩) (m1:=λ_=>none) (m2:=λ_=>none) (m3:=λ_=>none) h rfl (by have:=h.lowA;show a9<=w.heap.size;omega) (λ_ e=>by cases e) (λ_ e=>by cases e) (λ_ e=>by cases e) (λ_ e=>by cases e) (λ_ e=>by cases e) (λ_ e=>by cases e);have t0:(decide ((0:Int)<=(i:Int))&&decide ((i:Int)<(a8:Int)))=true:=by simp;omega
 go_enter func130,ntmps130;go_wp2_with (first
  | (go_at_call 158;refine(hasVariable_any h (i:Int)).mono ?_;rintro e w'⟨rfl,rfl⟩;rw[t0])
  | (go_at_call_of 159 (Value.int .i64 (lo:Int));refine(mW h l1 v1).mono ?_;rintro e w'⟨rfl,rfl⟩)
  | (go_at_call_of 159 (Value.int .i64 (up:Int));refine(mW h l2 v2).mono ?_;rintro e w'⟨rfl,rfl⟩))
 refine(numberOf_any (v:=i) (l:=lo) (u:=up) hb hi l1 l2 (λ_=>⟨v1,v2⟩)).mono ?_;rintro e w2⟨f,ns',full',rfl,hp,X,l3,lt,mo,sm⟩;have wf':=hp.bu.ar.wf;have hK:Kp (ca a9 a M a8 a7) w' w2:=hp.kp.outer rfl rfl rfl rfl (by simp) (λi hi=>Below.heap_alloc _ _ _ hi) (by
  rintro i (e|e|e|e|e|e)
  ·exact Or.inl e
  ·exact Or.inr (Or.inr (by rw[e];exact Nat.le_refl _))
  ·exact Or.inr (Or.inl e)
  ·cases e
  ·cases e
  ·cases e) la
 go_wp2_with fail;cases full'
 ·refine(answer_any hp.bu f).mono ?_;rintro e w3⟨rfl,rfl⟩;have hfin:MkPost a9 a M a8 a7 w' ns 1 i (λx=>if x i then ev ns up x else ev ns lo x) (.returned (.tuple #[(f:Int),.int .i64 0])) w3 :=
   ⟨ns',hp.bu.ar,hK,X,l3,Or.inl ⟨f,rfl,lt,(sm rfl).va,λx=>by rw[(sm rfl).ev x,X.ev wf wf' _ l1,X.ev wf wf' _ l2]⟩⟩
  clear hp hK;go_wp2_with fail;go_ret2;exact hfin
 ·refine(answer_any hp.bu f).mono ?_;rintro e w3⟨rfl,rfl⟩;have hfin:MkPost a9 a M a8 a7 w' ns 1 i (λx=>if x i then ev ns up x else ev ns lo x) (.returned (.tuple #[.int .i64 0,.int .i64 6])) w3 :=
   ⟨ns',hp.bu.ar,hK,X,l3,Or.inr ⟨rfl,hp.bu.full_len rfl⟩⟩
  clear hp hK;go_wp2_with fail;go_ret2;exact hfin
theorem kq(S:Nat->Bool)(h:Ar a9 a M a8 a7 w ns){c:Nd}(hc:Inside ns c){k:Nat}(hfit:Fit S a8 ns c k)(hk16:k<=16) :
  Cl 141 #[.pointer a,(c.1:Int),(c.2.1:Int),(c.2.2:Int)] w (OpPost a9 a M a8 a7 w ns (2 ^ k-1) λx=>if ev ns c.1 x then ev ns c.2.1 x else ev ns c.2.2 x):=by
 have hmm:=@run_makeMap prog;have la:=h.lta;have lM:=h.ltM;have hA:=h.lowA;have v16:=h.vars16;have wf:=h.wf;have hs:(w.alloc (.map #[] 0)).heap.size=w.heap.size+1:=by simp
 have hb:=bu_new (w:=w.alloc (.map #[] 0)) (C:=⟨a9,a,w.heap.size+1,M,some w.heap.size,none,none,a8,a7⟩) (m1:=λ_=>none) (m2:=λ_=>none) (m3:=λ_=>none) (h.alloc _) (by simp) (by rw[hs];show a9<=_;omega)
  (λi e=>by cases e;exact ei eM w) (λ_ e=>by cases e) (λ_ e=>by cases e) (λi e=>by cases e;exact⟨by show a9<=_;omega,by show w.heap.size≠M;omega,(λe=>by cases e),(λe=>by cases e)⟩) (λ_ e=>by cases e) (λ_ e=>by cases e)
 obtain⟨x,y,z⟩:=c;have hch:=mV S (C:=⟨a9,a,w.heap.size+1,M,some w.heap.size,none,none,a8,a7⟩) (c1:=w.heap.size) rfl k _ ns false 0 _ (x,y,z) hb hc hfit (λ_ _ _ e=>by cases e) (by have:=Nat.pow_le_pow_right (n:=2) (by omega) hk16;omega);obtain⟨i1,i2,i3⟩:=id hc;simp only[]at i1 i2 i3;have t1:(decide ((0:Int)<=(x:Int))&&decide ((x:Int)<(ns.length:Int)))=true:=by simp;omega
 have t2:(decide ((0:Int)<=(y:Int))&&decide ((y:Int)<(ns.length:Int)))=true:=by simp;omega
 have t3:(decide ((0:Int)<=(z:Int))&&decide ((z:Int)<(ns.length:Int)))=true:=by simp;omega
 have hch':=Hq.mk hch;clear hch hb hfit;simp only[];go_enter func141,ntmps141;go_wp2_with (first
  | (go_at_call_of 84 (Value.int .i64 (x:Int));refine(di h (x:Int)).mono ?_;rintro e w'⟨rfl,rfl⟩;rw[t1])
  | (go_at_call_of 84 (Value.int .i64 (y:Int));refine(di h (y:Int)).mono ?_;rintro e w'⟨rfl,rfl⟩;rw[t2])
  | (go_at_call_of 84 (Value.int .i64 (z:Int));refine(di h (z:Int)).mono ?_;rintro e w'⟨rfl,rfl⟩;rw[t3]))
 refine hch'.out.mono ?_;rintro e w2⟨f,ns',full',N',m1',rfl,hp,X,l1,_,lt,_,sm⟩;have wf':=hp.bu.ar.wf;have hK:Kp (ca a9 a M a8 a7) w' w2:=hp.kp.outer rfl rfl rfl rfl (by simp;omega) (λi hi=>(Below.heap_alloc _ _ _ (by simp;omega)).trans (Below.heap_alloc _ _ _ hi)) (by
  rintro i (e|e|e|e|e|e)
  ·exact Or.inl e
  ·exact Or.inr (Or.inr (by rw[e];show _<=w'.heap.size+1;omega))
  ·exact Or.inr (Or.inl e)
  ·cases e;exact Or.inr (Or.inr (Nat.le_refl _))
  ·cases e
  ·cases e) la
 go_wp2_with fail;cases full'
 ·refine(answer_any hp.bu f).mono ?_;rintro e w3⟨rfl,rfl⟩;have hfin:OpPost a9 a M a8 a7 w' ns (2 ^ k-1) (λq=>if ev ns x q then ev ns y q else ev ns z q) (.returned (.tuple #[(f:Int),.int .i64 0])) w3 :=
   ⟨ns',hp.bu.ar,hK,X,l1,Or.inl ⟨f,rfl,lt,λq=>by rw[(sm rfl).2.ev q];simp only[X.ev wf wf' _ i1,X.ev wf wf' _ i2,X.ev wf wf' _ i3]⟩⟩
  clear hp hK;go_wp2_with fail;go_ret2;exact hfin
 ·refine(answer_any hp.bu f).mono ?_;rintro e w3⟨rfl,rfl⟩;have hfin:OpPost a9 a M a8 a7 w' ns (2 ^ k-1) (λq=>if ev ns x q then ev ns y q else ev ns z q) (.returned (.tuple #[.int .i64 0,.int .i64 6])) w3 :=
   ⟨ns',hp.bu.ar,hK,X,l1,Or.inr ⟨rfl,hp.bu.full_len rfl⟩⟩
  clear hp hK;go_wp2_with fail;go_ret2;exact hfin
theorem uh(h:Ar a9 a M a8 a7 w ns){c:Nd}(hc:Inside ns c) :
  Cl 141 #[.pointer a,(c.1:Int),(c.2.1:Int),(c.2.2:Int)] w (OpPost a9 a M a8 a7 w ns (2 ^ a8-1) λx=>if ev ns c.1 x then ev ns c.2.1 x else ev ns c.2.2 x):=kq (λ_=>true) h hc (qd (Nat.le_add_left _ _)) h.vars16
theorem OpPost.of{w:World}{g:Nat}{φ ψ:Env->Bool}{e:Ending}{w':World}(h:OpPost a9 a M a8 a7 w ns g φ e w')(hq:∀q,φ q=ψ q):OpPost a9 a M a8 a7 w ns g ψ e w':=by
 obtain⟨ns',r1,r2,r3,r4,r5⟩:=h;refine⟨ns',r1,r2,r3,r4,?_⟩;rcases r5 with⟨f,e1,e2,e3⟩|r5
 ·exact Or.inl ⟨f,e1,e2,λq=>(e3 q).trans (hq q)⟩
 ·exact Or.inr r5
end
structure Hd(p:Prop):Prop where
 out:p
def envOf(a8 b:Nat):Env:=λi=>b.testBit (a8-1-i)
theorem gU(a b:Nat)(ha:a<9223372036854775808)(hb:b<9223372036854775808):Go.bits .and .i64 (a:Int) (b:Int)=((a &&& b:Nat):Int):=by
 have e1:BitVec.ofInt 64 (a:Int)=BitVec.ofNat 64 a:=by simp
 have e2:BitVec.ofInt 64 (b:Int)=BitVec.ofNat 64 b:=by simp
 have hle:a &&& b<=a:=Nat.and_le_left;have hm:(BitVec.ofNat 64 a &&& BitVec.ofNat 64 b).toNat=a &&& b:=by
  simp[BitVec.toNat_and,Nat.mod_eq_of_lt (show a<18446744073709551616 by omega),Nat.mod_eq_of_lt (show b<18446744073709551616 by omega)]
 show IntKind.i64.wrap ((BitVec.ofInt 64 (a:Int) &&& BitVec.ofInt 64 (b:Int)).toNat:Int)=_;rw[e1,e2,hm,IntWalk.i64_in _ (by omega)]
section
variable {a9 a M a8 a7:Nat}{w:World}{ns:List Nd}
theorem Ar.kalloc'{a9 a M a8 a7:Nat}{w:World}{ns:List Nd}(h:Ar a9 a M a8 a7 w ns)(o:Obj):Kp (ca a9 a M a8 a7) w (w.alloc o) :=
 ⟨rfl,rfl,rfl,by simp,λi hi _ _=>Below.heap_alloc w o i hi,Or.inl (aQ (Below.heap_alloc w o _ h.lta)),λ_ _=>bJ (Below.heap_alloc w o _ h.lta)⟩
end
def sel:Nat->Nat->Nat->Env->Bool
 | 0,bits,_,_=>bits.testBit 0
 | k+1,bits,first,x=>if x first then sel k (bits >>> 2 ^ k) (first+1) x else sel k (bits &&&(2 ^ 2 ^ k-1)) (first+1) x
def val:Nat->Nat->Env->Nat
 | 0,_,_=>0
 | k+1,first,x=>(if x first then 2 ^ k else 0)+val k (first+1) x
theorem fp(k first:Nat)(x:Env):val k first x<2 ^ k:=by
 induction k generalizing first with
 | zero=>simp[val]
 | succ k ih =>
   have:=ih (first+1);rw[val,Nat.pow_succ]
   split <;> omega
theorem ed(k bits first:Nat)(x:Env):sel k bits first x=bits.testBit (val k first x):=by
 induction k generalizing bits first with
 | zero=>rfl
 | succ k ih =>
   have h:=fp k (first+1) x;rw[sel,val]
   split
   ·rw[ih,Nat.testBit_shiftRight]
   ·rw[ih,Nat.testBit_and,Nat.testBit_two_pow_sub_one,Nat.zero_add];simp[h]
section
variable {a9 a M a8 a7:Nat}{w w':World}{ns:List Nd}
theorem Ar.below(h:Ar a9 a M a8 a7 w ns)(hb:Below w w w'):Ar a9 a M a8 a7 w' ns:=by
 obtain⟨_,_,_,rl⟩:=h.row;exact h.same (hb.block _ h.lta) (hb.block _ h.ltM) (hb.block _ rl)
theorem Ar.kbelow(h:Ar a9 a M a8 a7 w ns)(hb:Below w w w'):Kp (ca a9 a M a8 a7) w w' :=
 ⟨hb.os,hb.tape,hb.output,hb.size,λi hi _ _=>hb.block i hi,Or.inl (aQ (hb.block _ h.lta)),λ_ _=>bJ (hb.block _ h.lta)⟩
theorem Ar.loc(h:Ar a9 a M a8 a7 w ns)(cs:Array Value)(t:TypeId):Loc (ca a9 a M a8 a7) (w.alloc (.cells cs t)) w.heap.size cs t:=by
 obtain⟨_,_,_,rl⟩:=h.row;have la:=h.lta;have lM:=h.ltM;refine⟨⟨by simp,?_,?_⟩,Go.heap_alloc_new _ _⟩
 ·rintro(e|e|e|e|e|e)
  ·have:w.heap.size=a:=e;omega
  ·have:w.heap.size=a:=e;omega
  ·have:w.heap.size=M:=e;omega
  ·cases e
  ·cases e
  ·cases e
 ·have e:rowOf (w.alloc (.cells cs t)) a=rowOf w a:=aQ (Below.heap_alloc w _ _ la);show w.heap.size≠rowOf (w.alloc (.cells cs t)) a;rw[e];omega
theorem Loc.two{C:Cfg}{w:World}{i:Nat}{x y:Value}{t:TypeId}(h:Loc C w i #[x,y] t):w.cell? ⟨i,0,none⟩=some x /\ w.cell? ⟨i,1,none⟩=some y :=
 ⟨by rw[cell_of_row w i 0 _ _ _ h.blk];rfl,by rw[cell_of_row w i 1 _ _ _ h.blk];rfl⟩
theorem Loc.below{w w':World}{i:Nat}{cs:Array Value}{t:TypeId}(h:Loc (ca a9 a M a8 a7) w i cs t)(hA:Ar a9 a M a8 a7 w ns)(hb:Below w w w'):Loc (ca a9 a M a8 a7) w' i cs t:=h.kp (hA.kbelow hb)
theorem MkPost.pair{g i:Nat}{φ:Env->Bool}{e:Ending}(h:MkPost a9 a M a8 a7 w ns g i φ e w') :
  ∃(ns':List Nd) (v er:Int),e=.returned (.tuple #[v,er]) /\ Ar a9 a M a8 a7 w' ns' /\ Kp (ca a9 a M a8 a7) w w' /\ Ext ns ns' /\ ns'.length<=ns.length+g /\
    Go.RowKit.Hid ((er=0 /\ ∃f:Nat,v=(f:Int) /\ f<ns'.length /\ i<=nv ns' f /\ ∀x,ev ns' f x=φ x)\/(er=6 /\ v=0 /\ ns'.length=a7)):=by
 obtain⟨ns',r1,r2,r3,r4,⟨f,e1,e2⟩|⟨e1,e2⟩⟩:=h
 ·exact⟨ns',f,0,e1,r1,r2,r3,r4,Or.inl ⟨rfl,f,rfl,e2⟩⟩
 ·exact⟨ns',0,6,e1,r1,r2,r3,r4,Or.inr ⟨rfl,rfl,e2⟩⟩
theorem Ar.drew'(h:Ar a9 a M a8 a7 w ns):Ar a9 a M a8 a7 w.drew ns:=h.same rfl rfl rfl
theorem mX(h:Ar a9 a M a8 a7 w ns){bits first rest:Nat}(hbits:bits<2)(hr:rest<ns.length)(hf:first<=nv ns rest) :
  Cl 103 #[st (bits:Int) 1,.pointer a,(first:Int),(rest:Int)] w (MkPost a9 a M a8 a7 w ns 0 first λx=>sel 0 bits first x&&ev ns rest x):=by
 have l2:=h.wf.len;have e0:nv ns 0=a8:=by rw[nv,h.wf.n0]
 have hle:=va_le h.wf hr;have L0:=h.loc #[(bits:Int),.int .i64 1] 199;have A0:=h.alloc (.cells #[(bits:Int),.int .i64 1] 199);have K0:=Ar.kalloc' h (.cells #[(bits:Int),.int .i64 1] 199);obtain⟨c0,c1⟩:=L0.two;have H0:Go.RowKit.Hid (∀w,CB 129 #[st (bits:Int) 1,.int .i64 0] w (.bool (bits.testBit 0))):=λw=>by
  have:=ic bits 0 1 w (by omega);rw[show hasB bits 0=bits.testBit 0 by simp[hasB]]at this;exact this
 cases ht:bits.testBit 0
 ·rw[ht]at H0;go_enter func103,ntmps103;go_wp2_with fail;refine(H0.out _).mono ?_;rintro e w1⟨rfl,hb⟩;have fin:MkPost a9 a M a8 a7 w ns 0 first (λx=>sel 0 bits first x&&ev ns rest x) (.returned (.tuple #[.int .i64 0,.int .i64 0])) w1 :=
   ⟨ns,A0.below hb,K0.trans (A0.kbelow hb),Ext.refl _,by omega,Or.inl ⟨0,rfl,by omega,by omega,λx=>by rw[ev0];show false=(bits.testBit 0&&_);rw[ht];rfl⟩⟩
  clear A0 K0 L0 hb;go_wp2_with fail;go_ret2;exact fin
 ·rw[ht]at H0;go_enter func103,ntmps103;go_wp2_with fail;refine(H0.out _).mono ?_;rintro e w1⟨rfl,hb⟩;have fin:MkPost a9 a M a8 a7 w ns 0 first (λx=>sel 0 bits first x&&ev ns rest x) (.returned (.tuple #[(rest:Int),.int .i64 0])) w1 :=
   ⟨ns,A0.below hb,K0.trans (A0.kbelow hb),Ext.refl _,by omega,Or.inl ⟨rest,rfl,hr,hf,λx=>by show _=(bits.testBit 0&&_);rw[ht];rfl⟩⟩
  clear A0 K0 L0 hb;go_wp2_with fail;go_ret2;exact fin
theorem low_2(bits:Nat)(h:bits<4):Go.bits .and .i64 (bits:Int) 1=((bits &&& 1:Nat):Int):=gU bits 1 (by omega) (by decide)
theorem ui(bits:Nat):(bits:Int) / (2:Int)=((bits >>> 1:Nat):Int):=by rw[Nat.shiftRight_eq_div_pow];simp
theorem mY(h:Ar a9 a M a8 a7 w ns){bits first rest:Nat}(hbits:bits<4)(hv:first+1<=a8)(hr:rest<ns.length)(hf:first+1<=nv ns rest) :
  Cl 103 #[st (bits:Int) 2,.pointer a,(first:Int),(rest:Int)] w (MkPost a9 a M a8 a7 w ns 1 first λx=>sel 1 bits first x&&ev ns rest x):=by
 have wf:=h.wf;have v16:=h.vars16;have eL:=low_2 bits hbits;have eH:=ui bits;have hlo:bits &&& 1<2:=Nat.lt_of_le_of_lt Nat.and_le_right (by decide);have hhi:bits >>> 1<2:=by rw[Nat.shiftRight_eq_div_pow];omega
 have hsel:Go.RowKit.Hid (∀x,sel 1 bits first x=if x first then sel 0 (bits >>> 1) (first+1) x else sel 0 (bits &&& 1) (first+1) x):=λx=>rfl;generalize bits &&& 1=lo at *;generalize bits >>> 1=hi at *;have L0:=h.loc #[(bits:Int),.int .i64 2] 199;have A0:=h.alloc (.cells #[(bits:Int),.int .i64 2] 199);have K0:=Ar.kalloc' h (.cells #[(bits:Int),.int .i64 2] 199);obtain⟨c0,c1⟩:=L0.two;have hcast:((first+1:Nat):Int)=(first:Int)+1:=by omega
 have IL:Go.RowKit.Hid (∀(w':World) (ns':List Nd),Ar a9 a M a8 a7 w' ns'->rest<ns'.length->first+1+0<=nv ns' rest->Cl 103 #[st (lo:Int) 1,.pointer a,.int .i64 ((first:Int)+1),(rest:Int)] w' (MkPost a9 a M a8 a7 w' ns' 0 (first+1) λx=>sel 0 lo (first+1) x&&ev ns' rest x)):=λw' ns' hA hr hn=>by
  have:=mX hA (first:=first+1) hlo hr (by omega);rw[hcast]at this;exact this
 have IH:Go.RowKit.Hid (∀(w':World) (ns':List Nd),Ar a9 a M a8 a7 w' ns'->rest<ns'.length->first+1+0<=nv ns' rest->Cl 103 #[st (hi:Int) 1,.pointer a,.int .i64 ((first:Int)+1),(rest:Int)] w' (MkPost a9 a M a8 a7 w' ns' 0 (first+1) λx=>sel 0 hi (first+1) x&&ev ns' rest x)):=λw' ns' hA hr hn=>by
  have:=mX hA (first:=first+1) hhi hr (by omega);rw[hcast]at this;exact this
 clear hcast;have hwm:Go.RowKit.Hid (IntKind.i64.wrap (IntKind.i64.wrap 2-1)=1):=by
  show _=_;rw[IntWalk.i64_in 2 (by omega),IntWalk.i64_in _ (by omega)];rfl
 have hwr:IntKind.i64.wrap ((first:Int)+1)=(first:Int)+1:=IntWalk.i64_in _ (by omega);have A0d:=A0.drew';have L0d:=L0.drew;have K0d:=K0.drew;go_enter func103,ntmps103;go_wp2_with fail;go_region_held3 (λw'=>w'.cell? ⟨w,0,none⟩=some (.int .i64 (bits:Int)) /\ w'.cell? ⟨w,1,none⟩=some (.int .i64 2))
  (exact Loc.two ‹_›)
  (first|(go_at_call 103;rw[hwm.out,eL];refine(IL.out _ ns ‹_› hr (by omega)).mono ?_;rintro e w2 hp2;obtain⟨ns1,v1,er1,rfl,A1,K1,X1,l1,d1⟩:=hp2.pair;have L1:=L0d.kp K1;clear hp2))
 have wf1:=A1.wf;have KK1:=K0d.trans K1;obtain⟨q0,q1⟩:=L1.two;have hr1:rest<ns1.length:=Nat.lt_of_lt_of_le hr X1.len;have hn1:first+1+0<=nv ns1 rest:=by rw[X1.va hr];omega
 clear A0 K0 L0 c0 c1 A0d K0d L0d K1;rcases d1.out with⟨rfl,f1,rfl,lt1,va1,ev1'⟩|⟨rfl,rfl,full1⟩
 ·have E1:Go.RowKit.Hid (∀x,ev ns1 f1 x=(sel 0 lo (first+1) x&&ev ns rest x)):=ev1';clear ev1' d1;go_wp2_with fail;refine(IH.out _ ns1 A1 hr1 hn1).mono ?_;rintro e w3 hp3;obtain⟨ns2,v2,er2,rfl,A2,K2,X2,l2,d2⟩:=hp3.pair;clear hp3;have wf2:=A2.wf;have KK2:=KK1.trans K2;rcases d2.out with⟨rfl,f2,rfl,lt2,va2,ev2'⟩|⟨rfl,rfl,full2⟩
  ·have E2:Go.RowKit.Hid (∀x,ev ns2 f2 x=(sel 0 hi (first+1) x&&ev ns1 rest x)):=ev2';have lt1':f1<ns2.length:=Nat.lt_of_lt_of_le lt1 X2.len;have va1':first<nv ns2 f1:=by rw[X2.va lt1];omega
   have va2':first<nv ns2 f2:=by omega
   clear ev2' d2 q0 q1 L1;go_wp2_with fail;refine(node_ok A2 (i:=first) (lo:=f1) (up:=f2) (by omega) lt1' lt2 va1' va2').mono ?_;rintro e w4 hp4;have hp5:MkPost a9 a M a8 a7 w ns 1 first (λx=>sel 1 bits first x&&ev ns rest x) e w4:=by
    obtain⟨ns3,r1,r2,r3,r4,r5⟩:=hp4;refine⟨ns3,r1,KK2.trans r2,(X1.trans X2).trans r3,by omega,?_⟩;rcases r5 with⟨f,e1,e2,e3,e4⟩|r5
    ·refine Or.inl ⟨f,e1,e2,e3,λx=>?_⟩;rw[e4 x];show(if x first=true then ev ns2 f2 x else ev ns2 f1 x)=(sel 1 bits first x&&ev ns rest x);rw[hsel.out x,E2.out x,X2.ev wf1 wf2 _ lt1,E1.out x,X1.ev wf wf1 _ hr];cases x first <;> rfl
    ·exact Or.inr r5
   clear hp4;have hp6:=hp5;obtain⟨ns3,_,_,_,_,⟨f',rfl,_⟩|⟨rfl,_⟩⟩:=hp5
   ·go_wp2_with fail;go_ret2;exact hp6
   ·go_wp2_with fail;go_ret2;exact hp6
  ·have fin:MkPost a9 a M a8 a7 w ns 1 first (λx=>sel 1 bits first x&&ev ns rest x) (.returned (.tuple #[.int .i64 0,.int .i64 6])) w3 :=
    ⟨ns2,A2,KK2,X1.trans X2,by omega,Or.inr ⟨rfl,full2⟩⟩
   clear d2 A2 K2 KK2;go_wp2_with fail;go_ret2;exact fin
 ·have fin:MkPost a9 a M a8 a7 w ns 1 first (λx=>sel 1 bits first x&&ev ns rest x) (.returned (.tuple #[.int .i64 0,.int .i64 6])) w2 :=
   ⟨ns1,A1,KK1,X1,by omega,Or.inr ⟨rfl,full1⟩⟩
  clear d1 A1 KK1;go_wp2_with fail;go_ret2;exact fin
theorem low_4(bits:Nat)(h:bits<16):Go.bits .and .i64 (bits:Int) 3=((bits &&& 3:Nat):Int):=gU bits 3 (by omega) (by decide)
theorem uj(bits:Nat):(bits:Int) / (4:Int)=((bits >>> 2:Nat):Int):=by rw[Nat.shiftRight_eq_div_pow];simp
theorem mZ(h:Ar a9 a M a8 a7 w ns){bits first rest:Nat}(hbits:bits<16)(hv:first+2<=a8)(hr:rest<ns.length)(hf:first+2<=nv ns rest) :
  Cl 103 #[st (bits:Int) 4,.pointer a,(first:Int),(rest:Int)] w (MkPost a9 a M a8 a7 w ns 3 first λx=>sel 2 bits first x&&ev ns rest x):=by
 have wf:=h.wf;have v16:=h.vars16;have eL:=low_4 bits hbits;have eH:=uj bits;have hlo:bits &&& 3<4:=Nat.lt_of_le_of_lt Nat.and_le_right (by decide);have hhi:bits >>> 2<4:=by rw[Nat.shiftRight_eq_div_pow];omega
 have hsel:Go.RowKit.Hid (∀x,sel 2 bits first x=if x first then sel 1 (bits >>> 2) (first+1) x else sel 1 (bits &&& 3) (first+1) x):=λx=>rfl;generalize bits &&& 3=lo at *;generalize bits >>> 2=hi at *;have L0:=h.loc #[(bits:Int),.int .i64 4] 199;have A0:=h.alloc (.cells #[(bits:Int),.int .i64 4] 199);have K0:=Ar.kalloc' h (.cells #[(bits:Int),.int .i64 4] 199);obtain⟨c0,c1⟩:=L0.two;have hcast:((first+1:Nat):Int)=(first:Int)+1:=by omega
 have IL:Go.RowKit.Hid (∀(w':World) (ns':List Nd),Ar a9 a M a8 a7 w' ns'->rest<ns'.length->first+1+1<=nv ns' rest->Cl 103 #[st (lo:Int) 2,.pointer a,.int .i64 ((first:Int)+1),(rest:Int)] w' (MkPost a9 a M a8 a7 w' ns' 1 (first+1) λx=>sel 1 lo (first+1) x&&ev ns' rest x)):=λw' ns' hA hr hn=>by
  have:=mY hA (first:=first+1) hlo (by omega) hr (by omega);rw[hcast]at this;exact this
 have IH:Go.RowKit.Hid (∀(w':World) (ns':List Nd),Ar a9 a M a8 a7 w' ns'->rest<ns'.length->first+1+1<=nv ns' rest->Cl 103 #[st (hi:Int) 2,.pointer a,.int .i64 ((first:Int)+1),(rest:Int)] w' (MkPost a9 a M a8 a7 w' ns' 1 (first+1) λx=>sel 1 hi (first+1) x&&ev ns' rest x)):=λw' ns' hA hr hn=>by
  have:=mY hA (first:=first+1) hhi (by omega) hr (by omega);rw[hcast]at this;exact this
 clear hcast;have hwm:Go.RowKit.Hid (IntKind.i64.wrap (IntKind.i64.wrap 4-1)=3):=by
  show _=_;rw[IntWalk.i64_in 4 (by omega),IntWalk.i64_in _ (by omega)];rfl
 have hwr:IntKind.i64.wrap ((first:Int)+1)=(first:Int)+1:=IntWalk.i64_in _ (by omega);have A0d:=A0.drew';have L0d:=L0.drew;have K0d:=K0.drew;go_enter func103,ntmps103;go_wp2_with fail;go_region_held3 (λw'=>w'.cell? ⟨w,0,none⟩=some (.int .i64 (bits:Int)) /\ w'.cell? ⟨w,1,none⟩=some (.int .i64 4))
  (exact Loc.two ‹_›)
  (first|(go_at_call 103;rw[hwm.out,eL];refine(IL.out _ ns ‹_› hr (by omega)).mono ?_;rintro e w2 hp2;obtain⟨ns1,v1,er1,rfl,A1,K1,X1,l1,d1⟩:=hp2.pair;have L1:=L0d.kp K1;clear hp2))
 have wf1:=A1.wf;have KK1:=K0d.trans K1;obtain⟨q0,q1⟩:=L1.two;have hr1:rest<ns1.length:=Nat.lt_of_lt_of_le hr X1.len;have hn1:first+1+1<=nv ns1 rest:=by rw[X1.va hr];omega
 clear A0 K0 L0 c0 c1 A0d K0d L0d K1;rcases d1.out with⟨rfl,f1,rfl,lt1,va1,ev1'⟩|⟨rfl,rfl,full1⟩
 ·have E1:Go.RowKit.Hid (∀x,ev ns1 f1 x=(sel 1 lo (first+1) x&&ev ns rest x)):=ev1';clear ev1' d1;go_wp2_with fail;refine(IH.out _ ns1 A1 hr1 hn1).mono ?_;rintro e w3 hp3;obtain⟨ns2,v2,er2,rfl,A2,K2,X2,l2,d2⟩:=hp3.pair;clear hp3;have wf2:=A2.wf;have KK2:=KK1.trans K2;rcases d2.out with⟨rfl,f2,rfl,lt2,va2,ev2'⟩|⟨rfl,rfl,full2⟩
  ·have E2:Go.RowKit.Hid (∀x,ev ns2 f2 x=(sel 1 hi (first+1) x&&ev ns1 rest x)):=ev2';have lt1':f1<ns2.length:=Nat.lt_of_lt_of_le lt1 X2.len;have va1':first<nv ns2 f1:=by rw[X2.va lt1];omega
   have va2':first<nv ns2 f2:=by omega
   clear ev2' d2 q0 q1 L1;go_wp2_with fail;refine(node_ok A2 (i:=first) (lo:=f1) (up:=f2) (by omega) lt1' lt2 va1' va2').mono ?_;rintro e w4 hp4;have hp5:MkPost a9 a M a8 a7 w ns 3 first (λx=>sel 2 bits first x&&ev ns rest x) e w4:=by
    obtain⟨ns3,r1,r2,r3,r4,r5⟩:=hp4;refine⟨ns3,r1,KK2.trans r2,(X1.trans X2).trans r3,by omega,?_⟩;rcases r5 with⟨f,e1,e2,e3,e4⟩|r5
    ·refine Or.inl ⟨f,e1,e2,e3,λx=>?_⟩;rw[e4 x];show(if x first=true then ev ns2 f2 x else ev ns2 f1 x)=(sel 2 bits first x&&ev ns rest x);rw[hsel.out x,E2.out x,X2.ev wf1 wf2 _ lt1,E1.out x,X1.ev wf wf1 _ hr];cases x first <;> rfl
    ·exact Or.inr r5
   clear hp4;have hp6:=hp5;obtain⟨ns3,_,_,_,_,⟨f',rfl,_⟩|⟨rfl,_⟩⟩:=hp5
   ·go_wp2_with fail;go_ret2;exact hp6
   ·go_wp2_with fail;go_ret2;exact hp6
  ·have fin:MkPost a9 a M a8 a7 w ns 3 first (λx=>sel 2 bits first x&&ev ns rest x) (.returned (.tuple #[.int .i64 0,.int .i64 6])) w3 :=
    ⟨ns2,A2,KK2,X1.trans X2,by omega,Or.inr ⟨rfl,full2⟩⟩
   clear d2 A2 K2 KK2;go_wp2_with fail;go_ret2;exact fin
 ·have fin:MkPost a9 a M a8 a7 w ns 3 first (λx=>sel 2 bits first x&&ev ns rest x) (.returned (.tuple #[.int .i64 0,.int .i64 6])) w2 :=
   ⟨ns1,A1,KK1,X1,by omega,Or.inr ⟨rfl,full1⟩⟩
  clear d1 A1 KK1;go_wp2_with fail;go_ret2;exact fin
theorem low_8(bits:Nat)(h:bits<256):Go.bits .and .i64 (bits:Int) 15=((bits &&& 15:Nat):Int):=gU bits 15 (by omega) (by decide)
theorem ul(bits:Nat):(bits:Int) / (16:Int)=((bits >>> 4:Nat):Int):=by rw[Nat.shiftRight_eq_div_pow];simp
theorem iQ(h:Ar a9 a M a8 a7 w ns){bits first rest:Nat}(hbits:bits<256)(hv:first+3<=a8)(hr:rest<ns.length)(hf:first+3<=nv ns rest) :
  Cl 103 #[st (bits:Int) 8,.pointer a,(first:Int),(rest:Int)] w (MkPost a9 a M a8 a7 w ns 7 first λx=>sel 3 bits first x&&ev ns rest x):=by
 have wf:=h.wf;have v16:=h.vars16;have eL:=low_8 bits hbits;have eH:=ul bits;have hlo:bits &&& 15<16:=Nat.lt_of_le_of_lt Nat.and_le_right (by decide);have hhi:bits >>> 4<16:=by rw[Nat.shiftRight_eq_div_pow];omega
 have hsel:Go.RowKit.Hid (∀x,sel 3 bits first x=if x first then sel 2 (bits >>> 4) (first+1) x else sel 2 (bits &&& 15) (first+1) x):=λx=>rfl;generalize bits &&& 15=lo at *;generalize bits >>> 4=hi at *;have L0:=h.loc #[(bits:Int),.int .i64 8] 199;have A0:=h.alloc (.cells #[(bits:Int),.int .i64 8] 199);have K0:=Ar.kalloc' h (.cells #[(bits:Int),.int .i64 8] 199);obtain⟨c0,c1⟩:=L0.two;have hcast:((first+1:Nat):Int)=(first:Int)+1:=by omega
 have IL:Go.RowKit.Hid (∀(w':World) (ns':List Nd),Ar a9 a M a8 a7 w' ns'->rest<ns'.length->first+1+2<=nv ns' rest->Cl 103 #[st (lo:Int) 4,.pointer a,.int .i64 ((first:Int)+1),(rest:Int)] w' (MkPost a9 a M a8 a7 w' ns' 3 (first+1) λx=>sel 2 lo (first+1) x&&ev ns' rest x)):=λw' ns' hA hr hn=>by
  have:=mZ hA (first:=first+1) hlo (by omega) hr (by omega);rw[hcast]at this;exact this
 have IH:Go.RowKit.Hid (∀(w':World) (ns':List Nd),Ar a9 a M a8 a7 w' ns'->rest<ns'.length->first+1+2<=nv ns' rest->Cl 103 #[st (hi:Int) 4,.pointer a,.int .i64 ((first:Int)+1),(rest:Int)] w' (MkPost a9 a M a8 a7 w' ns' 3 (first+1) λx=>sel 2 hi (first+1) x&&ev ns' rest x)):=λw' ns' hA hr hn=>by
  have:=mZ hA (first:=first+1) hhi (by omega) hr (by omega);rw[hcast]at this;exact this
 clear hcast;have hwm:Go.RowKit.Hid (IntKind.i64.wrap (IntKind.i64.wrap 16-1)=15):=by
  show _=_;rw[IntWalk.i64_in 16 (by omega),IntWalk.i64_in _ (by omega)];rfl
 have hwr:IntKind.i64.wrap ((first:Int)+1)=(first:Int)+1:=IntWalk.i64_in _ (by omega);have A0d:=A0.drew';have L0d:=L0.drew;have K0d:=K0.drew;go_enter func103,ntmps103;go_wp2_with fail;go_region_held3 (λw'=>w'.cell? ⟨w,0,none⟩=some (.int .i64 (bits:Int)) /\ w'.cell? ⟨w,1,none⟩=some (.int .i64 8))
  (exact Loc.two ‹_›)
  (first|(go_at_call 103;rw[hwm.out,eL];refine(IL.out _ ns ‹_› hr (by omega)).mono ?_;rintro e w2 hp2;obtain⟨ns1,v1,er1,rfl,A1,K1,X1,l1,d1⟩:=hp2.pair;have L1:=L0d.kp K1;clear hp2))
 have wf1:=A1.wf;have KK1:=K0d.trans K1;obtain⟨q0,q1⟩:=L1.two;have hr1:rest<ns1.length:=Nat.lt_of_lt_of_le hr X1.len;have hn1:first+1+2<=nv ns1 rest:=by rw[X1.va hr];omega
 clear A0 K0 L0 c0 c1 A0d K0d L0d K1;rcases d1.out with⟨rfl,f1,rfl,lt1,va1,ev1'⟩|⟨rfl,rfl,full1⟩
 ·have E1:Go.RowKit.Hid (∀x,ev ns1 f1 x=(sel 2 lo (first+1) x&&ev ns rest x)):=ev1';clear ev1' d1;go_wp2_with fail;refine(IH.out _ ns1 A1 hr1 hn1).mono ?_;rintro e w3 hp3;obtain⟨ns2,v2,er2,rfl,A2,K2,X2,l2,d2⟩:=hp3.pair;clear hp3;have wf2:=A2.wf;have KK2:=KK1.trans K2;rcases d2.out with⟨rfl,f2,rfl,lt2,va2,ev2'⟩|⟨rfl,rfl,full2⟩
  ·have E2:Go.RowKit.Hid (∀x,ev ns2 f2 x=(sel 2 hi (first+1) x&&ev ns1 rest x)):=ev2';have lt1':f1<ns2.length:=Nat.lt_of_lt_of_le lt1 X2.len;have va1':first<nv ns2 f1:=by rw[X2.va lt1];omega
   have va2':first<nv ns2 f2:=by omega
   clear ev2' d2 q0 q1 L1;go_wp2_with fail;refine(node_ok A2 (i:=first) (lo:=f1) (up:=f2) (by omega) lt1' lt2 va1' va2').mono ?_;rintro e w4 hp4;have hp5:MkPost a9 a M a8 a7 w ns 7 first (λx=>sel 3 bits first x&&ev ns rest x) e w4:=by
    obtain⟨ns3,r1,r2,r3,r4,r5⟩:=hp4;refine⟨ns3,r1,KK2.trans r2,(X1.trans X2).trans r3,by omega,?_⟩;rcases r5 with⟨f,e1,e2,e3,e4⟩|r5
    ·refine Or.inl ⟨f,e1,e2,e3,λx=>?_⟩;rw[e4 x];show(if x first=true then ev ns2 f2 x else ev ns2 f1 x)=(sel 3 bits first x&&ev ns rest x);rw[hsel.out x,E2.out x,X2.ev wf1 wf2 _ lt1,E1.out x,X1.ev wf wf1 _ hr];cases x first <;> rfl
    ·exact Or.inr r5
   clear hp4;have hp6:=hp5;obtain⟨ns3,_,_,_,_,⟨f',rfl,_⟩|⟨rfl,_⟩⟩:=hp5
   ·go_wp2_with fail;go_ret2;exact hp6
   ·go_wp2_with fail;go_ret2;exact hp6
  ·have fin:MkPost a9 a M a8 a7 w ns 7 first (λx=>sel 3 bits first x&&ev ns rest x) (.returned (.tuple #[.int .i64 0,.int .i64 6])) w3 :=
    ⟨ns2,A2,KK2,X1.trans X2,by omega,Or.inr ⟨rfl,full2⟩⟩
   clear d2 A2 K2 KK2;go_wp2_with fail;go_ret2;exact fin
 ·have fin:MkPost a9 a M a8 a7 w ns 7 first (λx=>sel 3 bits first x&&ev ns rest x) (.returned (.tuple #[.int .i64 0,.int .i64 6])) w2 :=
   ⟨ns1,A1,KK1,X1,by omega,Or.inr ⟨rfl,full1⟩⟩
  clear d1 A1 KK1;go_wp2_with fail;go_ret2;exact fin
theorem um(bits:Nat)(h:bits<65536):Go.bits .and .i64 (bits:Int) 255=((bits &&& 255:Nat):Int):=gU bits 255 (by omega) (by decide)
theorem un(bits:Nat):(bits:Int) / (256:Int)=((bits >>> 8:Nat):Int):=by rw[Nat.shiftRight_eq_div_pow];simp
theorem nf(h:Ar a9 a M a8 a7 w ns){bits first rest:Nat}(hbits:bits<65536)(hv:first+4<=a8)(hr:rest<ns.length)(hf:first+4<=nv ns rest) :
  Cl 103 #[st (bits:Int) 16,.pointer a,(first:Int),(rest:Int)] w (MkPost a9 a M a8 a7 w ns 15 first λx=>sel 4 bits first x&&ev ns rest x):=by
 have wf:=h.wf;have v16:=h.vars16;have eL:=um bits hbits;have eH:=un bits;have hlo:bits &&& 255<256:=Nat.lt_of_le_of_lt Nat.and_le_right (by decide);have hhi:bits >>> 8<256:=by rw[Nat.shiftRight_eq_div_pow];omega
 have hsel:Go.RowKit.Hid (∀x,sel 4 bits first x=if x first then sel 3 (bits >>> 8) (first+1) x else sel 3 (bits &&& 255) (first+1) x):=λx=>rfl;generalize bits &&& 255=lo at *;generalize bits >>> 8=hi at *;have L0:=h.loc #[(bits:Int),.int .i64 16] 199;have A0:=h.alloc (.cells #[(bits:Int),.int .i64 16] 199);have K0:=Ar.kalloc' h (.cells #[(bits:Int),.int .i64 16] 199);obtain⟨c0,c1⟩:=L0.two;have hcast:((first+1:Nat):Int)=(first:Int)+1:=by omega
 have IL:Go.RowKit.Hid (∀(w':World) (ns':List Nd),Ar a9 a M a8 a7 w' ns'->rest<ns'.length->first+1+3<=nv ns' rest->Cl 103 #[st (lo:Int) 8,.pointer a,.int .i64 ((first:Int)+1),(rest:Int)] w' (MkPost a9 a M a8 a7 w' ns' 7 (first+1) λx=>sel 3 lo (first+1) x&&ev ns' rest x)):=λw' ns' hA hr hn=>by
  have:=iQ hA (first:=first+1) hlo (by omega) hr (by omega);rw[hcast]at this;exact this
 have IH:Go.RowKit.Hid (∀(w':World) (ns':List Nd),Ar a9 a M a8 a7 w' ns'->rest<ns'.length->first+1+3<=nv ns' rest->Cl 103 #[st (hi:Int) 8,.pointer a,.int .i64 ((first:Int)+1),(rest:Int)] w' (MkPost a9 a M a8 a7 w' ns' 7 (first+1) λx=>sel 3 hi (first+1) x&&ev ns' rest x)):=λw' ns' hA hr hn=>by
  have:=iQ hA (first:=first+1) hhi (by omega) hr (by omega);rw[hcast]at this;exact this
 clear hcast;have hwm:Go.RowKit.Hid (IntKind.i64.wrap (IntKind.i64.wrap 256-1)=255):=by
  show _=_;rw[IntWalk.i64_in 256 (by omega),IntWalk.i64_in _ (by omega)];rfl
 have hwr:IntKind.i64.wrap ((first:Int)+1)=(first:Int)+1:=IntWalk.i64_in _ (by omega);have A0d:=A0.drew';have L0d:=L0.drew;have K0d:=K0.drew;go_enter func103,ntmps103;go_wp2_with fail;go_region_held3 (λw'=>w'.cell? ⟨w,0,none⟩=some (.int .i64 (bits:Int)) /\ w'.cell? ⟨w,1,none⟩=some (.int .i64 16))
  (exact Loc.two ‹_›)
  (first|(go_at_call 103;rw[hwm.out,eL];refine(IL.out _ ns ‹_› hr (by omega)).mono ?_;rintro e w2 hp2;obtain⟨ns1,v1,er1,rfl,A1,K1,X1,l1,d1⟩:=hp2.pair;have L1:=L0d.kp K1;clear hp2))
 have wf1:=A1.wf;have KK1:=K0d.trans K1;obtain⟨q0,q1⟩:=L1.two;have hr1:rest<ns1.length:=Nat.lt_of_lt_of_le hr X1.len;have hn1:first+1+3<=nv ns1 rest:=by rw[X1.va hr];omega
 clear A0 K0 L0 c0 c1 A0d K0d L0d K1;rcases d1.out with⟨rfl,f1,rfl,lt1,va1,ev1'⟩|⟨rfl,rfl,full1⟩
 ·have E1:Go.RowKit.Hid (∀x,ev ns1 f1 x=(sel 3 lo (first+1) x&&ev ns rest x)):=ev1';clear ev1' d1;go_wp2_with fail;refine(IH.out _ ns1 A1 hr1 hn1).mono ?_;rintro e w3 hp3;obtain⟨ns2,v2,er2,rfl,A2,K2,X2,l2,d2⟩:=hp3.pair;clear hp3;have wf2:=A2.wf;have KK2:=KK1.trans K2;rcases d2.out with⟨rfl,f2,rfl,lt2,va2,ev2'⟩|⟨rfl,rfl,full2⟩
  ·have E2:Go.RowKit.Hid (∀x,ev ns2 f2 x=(sel 3 hi (first+1) x&&ev ns1 rest x)):=ev2';have lt1':f1<ns2.length:=Nat.lt_of_lt_of_le lt1 X2.len;have va1':first<nv ns2 f1:=by rw[X2.va lt1];omega
   have va2':first<nv ns2 f2:=by omega
   clear ev2' d2 q0 q1 L1;go_wp2_with fail;refine(node_ok A2 (i:=first) (lo:=f1) (up:=f2) (by omega) lt1' lt2 va1' va2').mono ?_;rintro e w4 hp4;have hp5:MkPost a9 a M a8 a7 w ns 15 first (λx=>sel 4 bits first x&&ev ns rest x) e w4:=by
    obtain⟨ns3,r1,r2,r3,r4,r5⟩:=hp4;refine⟨ns3,r1,KK2.trans r2,(X1.trans X2).trans r3,by omega,?_⟩;rcases r5 with⟨f,e1,e2,e3,e4⟩|r5
    ·refine Or.inl ⟨f,e1,e2,e3,λx=>?_⟩;rw[e4 x];show(if x first=true then ev ns2 f2 x else ev ns2 f1 x)=(sel 4 bits first x&&ev ns rest x);rw[hsel.out x,E2.out x,X2.ev wf1 wf2 _ lt1,E1.out x,X1.ev wf wf1 _ hr];cases x first <;> rfl
    ·exact Or.inr r5
   clear hp4;have hp6:=hp5;obtain⟨ns3,_,_,_,_,⟨f',rfl,_⟩|⟨rfl,_⟩⟩:=hp5
   ·go_wp2_with fail;go_ret2;exact hp6
   ·go_wp2_with fail;go_ret2;exact hp6
  ·have fin:MkPost a9 a M a8 a7 w ns 15 first (λx=>sel 4 bits first x&&ev ns rest x) (.returned (.tuple #[.int .i64 0,.int .i64 6])) w3 :=
    ⟨ns2,A2,KK2,X1.trans X2,by omega,Or.inr ⟨rfl,full2⟩⟩
   clear d2 A2 K2 KK2;go_wp2_with fail;go_ret2;exact fin
 ·have fin:MkPost a9 a M a8 a7 w ns 15 first (λx=>sel 4 bits first x&&ev ns rest x) (.returned (.tuple #[.int .i64 0,.int .i64 6])) w2 :=
   ⟨ns1,A1,KK1,X1,by omega,Or.inr ⟨rfl,full1⟩⟩
  clear d1 A1 KK1;go_wp2_with fail;go_ret2;exact fin
end
def phi(sa sb sc sd:Nat)(x:Env):Bool:=sel 4 sa 0 x&&(sel 4 sb 4 x&&(sel 3 sc 8 x&&(sel 3 sd 11 x&&true)))
theorem uo(k first:Nat)(x:Env):sel k 0 first x=false:=by rw[ed];simp
section
variable {a9 a M a8 a7:Nat}{w w':World}{ns:List Nd}
theorem Loc.four{C:Cfg}{w:World}{i:Nat}{x y z u:Value}{t:TypeId}(h:Loc C w i #[x,y,z,u] t):w.cell? ⟨i,0,none⟩=some x /\ w.cell? ⟨i,1,none⟩=some y /\ w.cell? ⟨i,2,none⟩=some z /\ w.cell? ⟨i,3,none⟩=some u :=
 ⟨by rw[cell_of_row w i 0 _ _ _ h.blk];rfl,by rw[cell_of_row w i 1 _ _ _ h.blk];rfl,by rw[cell_of_row w i 2 _ _ _ h.blk];rfl,by rw[cell_of_row w i 3 _ _ _ h.blk];rfl⟩
theorem uq(h:Ar a9 a M a8 a7 w ns)(hv:14<=a8)(sa sb sc sd:Nat)(hz:sa=0\/sb=0\/sc=0\/sd=0) :
  Cl 60 #[.pointer a,mt sa sb sc sd] w (MkPost a9 a M a8 a7 w ns 44 0 (phi sa sb sc sd)):=by
 have l2:=h.wf.len;have L0:=h.loc #[.int .u16 (sa:Int),.int .u16 (sb:Int),.int .u8 (sc:Int),.int .u8 (sd:Int)] 30;have A0:=h.alloc (.cells #[.int .u16 (sa:Int),.int .u16 (sb:Int),.int .u8 (sc:Int),.int .u8 (sd:Int)] 30);have K0:=Ar.kalloc' h (.cells #[.int .u16 (sa:Int),.int .u16 (sb:Int),.int .u8 (sc:Int),.int .u8 (sd:Int)] 30);have t1:decide ((a8:Int)<14)=false:=by simp;omega
 have fin:MkPost a9 a M a8 a7 w ns 44 0 (phi sa sb sc sd) (.returned (.tuple #[.int .i64 0,.int .i64 0])) (w.alloc (.cells #[.int .u16 (sa:Int),.int .u16 (sb:Int),.int .u8 (sc:Int),.int .u8 (sd:Int)] 30)) :=
  ⟨ns,A0,K0,Ext.refl _,by omega,Or.inl ⟨0,rfl,by omega,Nat.zero_le _,λx=>by
   rw[ev0];unfold phi;rcases hz with rfl|rfl|rfl|rfl <;> simp[uo]⟩⟩
 clear L0 K0;by_cases za:sa=0
 ·subst za;go_enter func60,ntmps60;go_wp2_with fail;refine(gQ A0).mono ?_;rintro e w1⟨rfl,rfl⟩;go_wp2_with fail;go_ret2;exact fin
 by_cases zb:sb=0
 ·subst zb;go_enter func60,ntmps60;go_wp2_with fail;refine(gQ A0).mono ?_;rintro e w1⟨rfl,rfl⟩;go_wp2_with fail;go_ret2;exact fin
 by_cases zc:sc=0
 ·subst zc;go_enter func60,ntmps60;go_wp2_with fail;refine(gQ A0).mono ?_;rintro e w1⟨rfl,rfl⟩;go_wp2_with fail;go_ret2;exact fin
 ·obtain rfl:sd=0:=by omega
  go_enter func60,ntmps60;go_wp2_with fail;refine(gQ A0).mono ?_;rintro e w1⟨rfl,rfl⟩;go_wp2_with fail;go_ret2;exact fin
theorem build_some(h:Ar a9 a M a8 a7 w ns)(hv:14<=a8)(sa sb sc sd:Nat)(ha:sa<65536)(hb:sb<65536)(hc:sc<256)(hd:sd<256)(za:sa≠0)(zb:sb≠0)(zc:sc≠0)(zd:sd≠0) :
  Cl 60 #[.pointer a,mt sa sb sc sd] w (MkPost a9 a M a8 a7 w ns 44 0 (phi sa sb sc sd)):=by
 have l2:=h.wf.len;have wf:=h.wf;have n1:nv ns 1=a8:=by rw[nv,h.wf.n1]
 have L0:=h.loc #[.int .u16 (sa:Int),.int .u16 (sb:Int),.int .u8 (sc:Int),.int .u8 (sd:Int)] 30;have A0:=h.alloc (.cells #[.int .u16 (sa:Int),.int .u16 (sb:Int),.int .u8 (sc:Int),.int .u8 (sd:Int)] 30);have K0:=Ar.kalloc' h (.cells #[.int .u16 (sa:Int),.int .u16 (sb:Int),.int .u8 (sc:Int),.int .u8 (sd:Int)] 30);have t1:decide ((a8:Int)<14)=false:=by simp;omega
 have e1:((sa:Int) == 0)=false:=by simp;omega
 have e2:((sb:Int) == 0)=false:=by simp;omega
 have e3:((sc:Int) == 0)=false:=by simp;omega
 have e4:((sd:Int) == 0)=false:=by simp;omega
 have pA:Go.RowKit.Hid (∀w,CB 104 #[.int .u16 (sa:Int)] w (st sa 16)):=λw=>jg sa w ha;have pB:Go.RowKit.Hid (∀w,CB 104 #[.int .u16 (sb:Int)] w (st sb 16)):=λw=>jg sb w hb;have pC:Go.RowKit.Hid (∀w,CB 102 #[.int .u8 (sc:Int)] w (st sc 8)):=λw=>jh sc w hc;have pD:Go.RowKit.Hid (∀w,CB 102 #[.int .u8 (sd:Int)] w (st sd 8)):=λw=>jh sd w hd;have bD:Go.RowKit.Hid (∀(w':World) (ns':List Nd) (rest:Nat),Ar a9 a M a8 a7 w' ns'->rest<ns'.length->11+3<=nv ns' rest->Cl 103 #[st (sd:Int) 8,.pointer a,.int .i64 11,(rest:Int)] w' (MkPost a9 a M a8 a7 w' ns' 7 11 λx=>sel 3 sd 11 x&&ev ns' rest x)):=λw' ns' rest hA h1 h2=>iQ hA (first:=11) hd (by omega) h1 h2;have bC:Go.RowKit.Hid (∀(w':World) (ns':List Nd) (rest:Nat),Ar a9 a M a8 a7 w' ns'->rest<ns'.length->8+3<=nv ns' rest->Cl 103 #[st (sc:Int) 8,.pointer a,.int .i64 8,(rest:Int)] w' (MkPost a9 a M a8 a7 w' ns' 7 8 λx=>sel 3 sc 8 x&&ev ns' rest x)):=λw' ns' rest hA h1 h2=>iQ hA (first:=8) hc (by omega) h1 h2;have bB:Go.RowKit.Hid (∀(w':World) (ns':List Nd) (rest:Nat),Ar a9 a M a8 a7 w' ns'->rest<ns'.length->4+4<=nv ns' rest->Cl 103 #[st (sb:Int) 16,.pointer a,.int .i64 4,(rest:Int)] w' (MkPost a9 a M a8 a7 w' ns' 15 4 λx=>sel 4 sb 4 x&&ev ns' rest x)):=λw' ns' rest hA h1 h2=>nf hA (first:=4) hb (by omega) h1 h2;have bA:Go.RowKit.Hid (∀(w':World) (ns':List Nd) (rest:Nat),Ar a9 a M a8 a7 w' ns'->rest<ns'.length->0+4<=nv ns' rest->Cl 103 #[st (sa:Int) 16,.pointer a,.int .i64 0,(rest:Int)] w' (MkPost a9 a M a8 a7 w' ns' 15 0 λx=>sel 4 sa 0 x&&ev ns' rest x)):=λw' ns' rest hA h1 h2=>nf hA (first:=0) ha (by omega) h1 h2;obtain⟨c0,c1,c2,c3⟩:=L0.four;clear ha hb hc hd za zb zc zd;go_enter func60,ntmps60;go_wp2_with fail;refine(gQ A0).mono ?_;rintro e w0⟨rfl,hw0⟩;subst hw0;go_wp2_with fail;refine(pD.out _).mono ?_;rintro e u1⟨rfl,hb1⟩;have B1:=A0.below hb1;have M1:=Loc.below L0 A0 hb1;have J1:=K0.trans (A0.kbelow hb1);clear c0 c1 c2 c3;clear hb1 A0 L0 K0;go_wp2_with fail;refine(bD.out _ ns 1 B1 (by omega) (by rw[n1];omega)).mono ?_;rintro e x1 hp1;obtain⟨ns1,v1,er1,rfl,A1,K1,X1,l1,d1⟩:=hp1.pair;have wf1:=A1.wf;have KK1:=J1.trans K1;have L1:=M1.kp K1;obtain⟨c0,c1,c2,c3⟩:=L1.four;have XX1:=X1;clear hp1 B1 M1 J1 K1;rcases d1.out with⟨rfl,f1,rfl,lt1,va1,ev1x⟩|⟨rfl,rfl,full1⟩
 ·have E1:Go.RowKit.Hid (∀x,ev ns1 f1 x=(sel 3 sd 11 x&&true)):=λx=>by rw[ev1x x,ev1]
  clear ev1x d1;go_wp2_with fail;refine(pC.out _).mono ?_;rintro e u2⟨rfl,hb2⟩;have B2:=A1.below hb2;have M2:=Loc.below L1 A1 hb2;have J2:=KK1.trans (A1.kbelow hb2);clear c0 c1 c2 c3;clear hb2 A1 L1 KK1;go_wp2_with fail;refine(bC.out _ ns1 f1 B2 lt1 (by omega)).mono ?_;rintro e x2 hp2;obtain⟨ns2,v2,er2,rfl,A2,K2,X2,l2,d2⟩:=hp2.pair;have wf2:=A2.wf;have KK2:=J2.trans K2;have L2:=M2.kp K2;obtain⟨c0,c1,c2,c3⟩:=L2.four;have XX2:=(XX1.trans X2);clear hp2 B2 M2 J2 K2;rcases d2.out with⟨rfl,f2,rfl,lt2,va2,ev2x⟩|⟨rfl,rfl,full2⟩
  ·have E2:Go.RowKit.Hid (∀x,ev ns2 f2 x=(sel 3 sc 8 x&&(sel 3 sd 11 x&&true))):=λx=>by rw[ev2x x,E1.out x]
   clear ev2x d2;go_wp2_with fail;refine(pB.out _).mono ?_;rintro e u3⟨rfl,hb3⟩;have B3:=A2.below hb3;have M3:=Loc.below L2 A2 hb3;have J3:=KK2.trans (A2.kbelow hb3);clear c0 c1 c2 c3;clear hb3 A2 L2 KK2;go_wp2_with fail;refine(bB.out _ ns2 f2 B3 lt2 (by omega)).mono ?_;rintro e x3 hp3;obtain⟨ns3,v3,er3,rfl,A3,K3,X3,l3,d3⟩:=hp3.pair;have wf3:=A3.wf;have KK3:=J3.trans K3;have L3:=M3.kp K3;obtain⟨c0,c1,c2,c3⟩:=L3.four;have XX3:=(XX2.trans X3);clear hp3 B3 M3 J3 K3;rcases d3.out with⟨rfl,f3,rfl,lt3,va3,ev3x⟩|⟨rfl,rfl,full3⟩
   ·have E3:Go.RowKit.Hid (∀x,ev ns3 f3 x=(sel 4 sb 4 x&&(sel 3 sc 8 x&&(sel 3 sd 11 x&&true)))):=λx=>by rw[ev3x x,E2.out x]
    clear ev3x d3;go_wp2_with fail;refine(pA.out _).mono ?_;rintro e u4⟨rfl,hb4⟩;have B4:=A3.below hb4;have M4:=Loc.below L3 A3 hb4;have J4:=KK3.trans (A3.kbelow hb4);clear c0 c1 c2 c3;clear hb4 A3 L3 KK3;go_wp2_with fail;refine(bA.out _ ns3 f3 B4 lt3 (by omega)).mono ?_;rintro e x4 hp4;obtain⟨ns4,v4,er4,rfl,A4,K4,X4,l4,d4⟩:=hp4.pair;have wf4:=A4.wf;have KK4:=J4.trans K4;have L4:=M4.kp K4;obtain⟨c0,c1,c2,c3⟩:=L4.four;have XX4:=(XX3.trans X4);clear hp4 B4 M4 J4 K4;rcases d4.out with⟨rfl,f4,rfl,lt4,va4,ev4x⟩|⟨rfl,rfl,full4⟩
    ·have E4:Go.RowKit.Hid (∀x,ev ns4 f4 x=(sel 4 sa 0 x&&(sel 4 sb 4 x&&(sel 3 sc 8 x&&(sel 3 sd 11 x&&true))))):=λx=>by rw[ev4x x,E3.out x]
     clear ev4x d4;have fin:MkPost a9 a M a8 a7 w ns 44 0 (phi sa sb sc sd) (.returned (.tuple #[(f4:Int),.int .i64 0])) x4 :=
      ⟨ns4,A4,KK4,XX4,by omega,Or.inl ⟨f4,rfl,lt4,Nat.zero_le _,E4.out⟩⟩
     clear A4 KK4 L4 c0 c1 c2 c3;go_wp2_with fail;go_ret2;exact fin
    ·have fin:MkPost a9 a M a8 a7 w ns 44 0 (phi sa sb sc sd) (.returned (.tuple #[.int .i64 0,.int .i64 6])) x4 :=
      ⟨ns4,A4,KK4,XX4,by omega,Or.inr ⟨rfl,full4⟩⟩
     clear d4 A4 KK4 L4 c0 c1 c2 c3;go_wp2_with fail;go_ret2;exact fin
   ·have fin:MkPost a9 a M a8 a7 w ns 44 0 (phi sa sb sc sd) (.returned (.tuple #[.int .i64 0,.int .i64 6])) x3 :=
     ⟨ns3,A3,KK3,XX3,by omega,Or.inr ⟨rfl,full3⟩⟩
    clear d3 A3 KK3 L3 c0 c1 c2 c3;go_wp2_with fail;go_ret2;exact fin
  ·have fin:MkPost a9 a M a8 a7 w ns 44 0 (phi sa sb sc sd) (.returned (.tuple #[.int .i64 0,.int .i64 6])) x2 :=
    ⟨ns2,A2,KK2,XX2,by omega,Or.inr ⟨rfl,full2⟩⟩
   clear d2 A2 KK2 L2 c0 c1 c2 c3;go_wp2_with fail;go_ret2;exact fin
 ·have fin:MkPost a9 a M a8 a7 w ns 44 0 (phi sa sb sc sd) (.returned (.tuple #[.int .i64 0,.int .i64 6])) x1 :=
   ⟨ns1,A1,KK1,XX1,by omega,Or.inr ⟨rfl,full1⟩⟩
  clear d1 A1 KK1 L1 c0 c1 c2 c3;go_wp2_with fail;go_ret2;exact fin
theorem iR(h:Ar a9 a M a8 a7 w ns)(hv:14<=a8)(sa sb sc sd:Nat)(ha:sa<65536)(hb:sb<65536)(hc:sc<256)(hd:sd<256) :
  Cl 60 #[.pointer a,mt sa sb sc sd] w (MkPost a9 a M a8 a7 w ns 44 0 (phi sa sb sc sd)):=by
 by_cases hz:sa=0\/sb=0\/sc=0\/sd=0
 ·exact uq h hv sa sb sc sd hz
 ·exact build_some h hv sa sb sc sd ha hb hc hd (by omega) (by omega) (by omega) (by omega)
end
end Go.Proofs.YtjmclcmgpaofiaaGreat
namespace Go.Proofs.YtjmclcmgpaofiaaGreat
open Tryz
open Go
theorem ur{P:Program}{o:Oper}{a:Act}{w:World}{K:Act->World->Prop}{Q:Exit->Act->World->Prop}(l n:Nat)(hd:∀c,o.op≠.defer c)(h:o.wp P a w K Q):o.wpIn (Fence.wide.inRound l) n P a w K Q:=by
 refine⟨λ_ _=>trivial,?_⟩;rw[Oper.semAt_eq _ _ _ hd];unfold Oper.wp at h;generalize (execOp a.eval o).run P w=r at h ⊢;cases r with
 | ok x w' =>
   cases x with
   | value v=>exact h
   | skip=>exact h
   | defer d=>exact h
   | enter f args=>exact⟨(λe=>by cases e),CallsIn.inRound l (callsIn_wide.2 h)⟩
   | row row args=>exact⟨(λe=>by cases e),λc cs _=>let ⟨v,w'',r,s⟩:=h c cs;⟨v,w'',r,stepsIn_wide.2 s⟩⟩
   | _=>exact h.elim
 | halt x w'=>cases x <;> exact h
theorem ut{P:Program}{md:Region.Mode}{ops:Array Oper}{Q:Exit->Act->World->Prop}(l n:Nat)(hd:∀(i:Nat) (o:Oper),ops[i]?=some o->∀c,o.op≠.defer c)(hQ:¬LetsOut Q):∀(fuel:Nat) (listed:Array Bool) (a:Act) (w:World),wpAny P md ops Q fuel listed a w->wpAnyIn (Fence.wide.inRound l) n P md ops Q fuel listed a w:=by
 intro fuel
 induction fuel with
 | zero=>exact λ_ _ _ h=>h
 | succ fuel ih =>
   intro listed a w h;refine⟨h.1,λi hi=>?_⟩;have hh:=h.2 i hi;unfold wpOp at hh;unfold wpOpIn;cases ho:ops[i]? with
   | none=>rw[ho]at hh;exact ih _ _ _ hh
   | some o =>
     rw[ho]at hh;simp only at hh ⊢
     split
     ·rename_i hw
      rw[if_pos hw]at hh;rcases hh with hh|⟨_,hh⟩
      ·exact Oper.wpIn_mono (λa w hk=>ih _ _ _ hk) (ur l n (hd i o ho) hh)
      ·exact absurd hh hQ
     ·rename_i hw
      rw[if_neg hw]at hh;exact⟨λ_ _=>trivial,ih _ _ _ hh⟩
def ng(ops:Array Oper):Bool:=ops.all λo=>match o.op with | .defer _=>false | _=>true
theorem uu{ops:Array Oper}(h:ng ops=true)(i:Nat)(o:Oper)(ho:ops[i]?=some o):∀c,o.op≠.defer c:=by
 intro c e;obtain⟨hi,rfl⟩:=Array.getElem?_eq_some_iff.1 ho;have:=(Array.all_eq_true.1 h) i hi;rw[e]at this;cases this
theorem uv{P:Program}{ops:Array Oper}{Q:Exit->Act->World->Prop}{S:World->Prop}{id l n:Nat}{a:Act}{w:World}(hm:P.follows .mixedOrders=true)(hd:ng ops=true)(hQ:¬LetsOut Q)(hS:S w.drew)
  (h:S w.drew->wpAnyH P .any ops Q S ops.size (Array.replicate ops.size false) a w.drew):(Code.region id ops true).wpIn (Fence.wide.inRound l) n P Q a w :=
 wpIn_region_any hm (ut l n (uu hd) hQ _ _ _ _ (wpAny_of_held _ _ _ _ (h hS)))
end Go.Proofs.YtjmclcmgpaofiaaGreat
