/-
  XAD.
-/
import Derived.Test.YtppbfikimalojaaGreatXAC
set_option maxHeartbeats 8000000
set_option maxRecDepth 100000
namespace Go.Proofs.YtppbfikimalojaaGreat
open Tryz
open Go.RowKit Go.Maps
structure Hq(p:Prop):Prop where
 out:p
def cD(C:Cfg)(w:World)(ns:List Nd)(d9:Bool)(N:Nat)(m2:Mx->Option Nat)(m3:Nat->Option Nat)(c:Nd)(g:Nat)(e:Ending)(w':World):Prop :=
 ∃f ns' full' N' m1',e=.returned (.int .i64 ((f:Nat):Int))/\At C w w' ns' full' N' m1' m2 m3/\Ext ns ns'/\ns'.length<=ns.length+g/\N'<=N+g/\f<ns'.length/\(d9=true->full'=true)/\(full'=false->MemoC ns' m1'/\IsIte ns' c f)
theorem gC(x y z:Nat)(ts:Array TypeId)(t:TypeId)(W:World):(Builtin.min_ ts t #[.int .i64 (x:Int),.int .i64 (y:Int),.int .i64 (z:Int)]).run prog W=.ok (.int .i64 ((min (min x y) z:Nat):Int)) W:=by
 have e:((min (min x y) z:Nat):Int)=if(z:Int)<(if(y:Int)<(x:Int)then(y:Int)else(x:Int))then(z:Int)else(if(y:Int)<(x:Int)then(y:Int)else(x:Int)):=by
  split <;> split <;> omega
 rw[e];simp[Builtin.min_,Builtin.min2]
section
variable {C:Cfg}{w:World}{ns:List Nd}{N:Nat}{m1:Nd->Option Nat}{m2:Mx->Option Nat}{m3:Nat->Option Nat}
theorem At.memo1{w0 w':World}{d9:Bool}{m1':Nd->Option Nat}{c:Nat}(h:At C w0 w ns d9 N m1 m2 m3)(hc:C.c1=some c)(hM:MapIs aV w' c (N+1) m1')(hg:w.grownBy w' (some c)):At C w0 w' ns d9 (N+1) m1' m2 m3:=by
 have hb:=h.bu;have kt:∀i,i<w.heap.size->i≠c->w'.heap[i]?=w.heap[i]?:=λi hi hn=>hg.block i hi (by simpa using hn);obtain⟨es,clock,hm⟩:=(hb.o1 c hc).isMap;obtain⟨k1,k2,k3⟩:=hb.b_noMap hm;obtain⟨_,_,_,rl⟩:=hb.ar.row;have hr:rowOf w' C.a=rowOf w C.a:=l9 (kt _ hb.ar.lta k2.symm);refine⟨⟨hb.ar.same (kt _ hb.ar.lta k2.symm) (kt _ hb.ar.ltM (hb.low1 c hc).2.1.symm) (kt _ rl k3.symm),(kt _ hb.ltb k1.symm).trans hb.blk,hb.lowB,?_,?_,?_,hb.low1,hb.low2,hb.low3,hb.full_len⟩,h.kp.trans ⟨hg.os,hg.tape,hg.output,hg.size,λi hi hm' _=>kt i hi (λe=>hm' (by subst e;simp[Cfg.mine,hc])),Or.inl hr,λj _=>j9 (kt _ hb.ar.lta k2.symm)⟩⟩
 ·intro i e;rw[hc]at e;cases e;exact hM
 ·exact λi e=>((hb.o2 i e).same (kt i (hb.o2 i e).lt (λq=>(hb.low2 i e).2.2.1 (q ▸ hc)))).mono (Nat.le_succ _)
 ·exact λi e=>((hb.o3 i e).same (kt i (hb.o3 i e).lt (λq=>(hb.low3 i e).2.2.1 (q ▸ hc)))).mono (Nat.le_succ _)
theorem At.memo2{w0 w':World}{d9:Bool}{m2':Mx->Option Nat}{c:Nat}(h:At C w0 w ns d9 N m1 m2 m3)(hc:C.c2=some c)(hM:MapIs aF w' c (N+1) m2')(hg:w.grownBy w' (some c)):At C w0 w' ns d9 (N+1) m1 m2' m3:=by
 have hb:=h.bu;have kt:∀i,i<w.heap.size->i≠c->w'.heap[i]?=w.heap[i]?:=λi hi hn=>hg.block i hi (by simpa using hn);obtain⟨es,clock,hm⟩:=(hb.o2 c hc).isMap;obtain⟨k1,k2,k3⟩:=hb.b_noMap hm;obtain⟨_,_,_,rl⟩:=hb.ar.row;have hr:rowOf w' C.a=rowOf w C.a:=l9 (kt _ hb.ar.lta k2.symm);refine⟨⟨hb.ar.same (kt _ hb.ar.lta k2.symm) (kt _ hb.ar.ltM (hb.low2 c hc).2.1.symm) (kt _ rl k3.symm),(kt _ hb.ltb k1.symm).trans hb.blk,hb.lowB,?_,?_,?_,hb.low1,hb.low2,hb.low3,hb.full_len⟩,h.kp.trans ⟨hg.os,hg.tape,hg.output,hg.size,λi hi hm' _=>kt i hi (λe=>hm' (by subst e;simp[Cfg.mine,hc])),Or.inl hr,λj _=>j9 (kt _ hb.ar.lta k2.symm)⟩⟩
 ·exact λi e=>((hb.o1 i e).same (kt i (hb.o1 i e).lt (λq=>(hb.low1 i e).2.2.1 (q ▸ hc)))).mono (Nat.le_succ _)
 ·intro i e;rw[hc]at e;cases e;exact hM
 ·exact λi e=>((hb.o3 i e).same (kt i (hb.o3 i e).lt (λq=>(hb.low3 i e).2.2.2 (q ▸ hc)))).mono (Nat.le_succ _)
theorem At.memo3{w0 w':World}{d9:Bool}{m3':Nat->Option Nat}{c:Nat}(h:At C w0 w ns d9 N m1 m2 m3)(hc:C.c3=some c)(hM:MapIs G7 w' c (N+1) m3')(hg:w.grownBy w' (some c)):At C w0 w' ns d9 (N+1) m1 m2 m3':=by
 have hb:=h.bu;have kt:∀i,i<w.heap.size->i≠c->w'.heap[i]?=w.heap[i]?:=λi hi hn=>hg.block i hi (by simpa using hn);obtain⟨es,clock,hm⟩:=(hb.o3 c hc).isMap;obtain⟨k1,k2,k3⟩:=hb.b_noMap hm;obtain⟨_,_,_,rl⟩:=hb.ar.row;have hr:rowOf w' C.a=rowOf w C.a:=l9 (kt _ hb.ar.lta k2.symm);refine⟨⟨hb.ar.same (kt _ hb.ar.lta k2.symm) (kt _ hb.ar.ltM (hb.low3 c hc).2.1.symm) (kt _ rl k3.symm),(kt _ hb.ltb k1.symm).trans hb.blk,hb.lowB,?_,?_,?_,hb.low1,hb.low2,hb.low3,hb.full_len⟩,h.kp.trans ⟨hg.os,hg.tape,hg.output,hg.size,λi hi hm' _=>kt i hi (λe=>hm' (by subst e;simp[Cfg.mine,hc])),Or.inl hr,λj _=>j9 (kt _ hb.ar.lta k2.symm)⟩⟩
 ·exact λi e=>((hb.o1 i e).same (kt i (hb.o1 i e).lt (λq=>(hb.low1 i e).2.2.2 (q ▸ hc)))).mono (Nat.le_succ _)
 ·exact λi e=>((hb.o2 i e).same (kt i (hb.o2 i e).lt (λq=>(hb.low2 i e).2.2.2 (q ▸ hc)))).mono (Nat.le_succ _)
 ·intro i e;rw[hc]at e;cases e;exact hM
theorem choose_miss(h:Bu C w ns false N m1 m2 m3){c1:Nat}(hc1:C.c1=some c1){x y z k:Nat}(hin:Inside ns (x,y,z))(hx:2<=x)(hyz:y≠z)(hf:m1 (x,y,z)=none){S:Nat->Bool}(hk:Fit S C.b8 ns (x,y,z) (k+1))(hm:MemoC ns m1)(hN:N+2 ^ (k+1)<=1099511627776)
  (ih:Hq (∀w ns d9 N m1 c,Bu C w ns d9 N m1 m2 m3->Inside ns c->Fit S C.b8 ns c k->(d9=false->MemoC ns m1)->N+2 ^ k<=1099511627776->Calls prog 206 #[.pointer (some ⟨C.b,0,none⟩),m6 c] w (cD C w ns d9 N m2 m3 c (2 ^ k-1)))) :
  Calls prog 206 #[.pointer (some ⟨C.b,0,none⟩),m6 (x,y,z)] w (cD C w ns false N m2 m3 (x,y,z) (2 ^ (k+1)-1)):=by
 have hl4:ns.length<=40000:=Nat.le_trans h.ar.le h.ar.most4;obtain⟨i1,i2,i3⟩:=id hin;simp only[]at i1 i2 i3;have ho:ok3 (x,y,z):=⟨by show x<_;omega,by show y<_;omega,by show z<_;omega⟩;have hA:=((At.refl h).alloc (.cells #[.int .i64 (x:Int),.int .i64 (y:Int),.int .i64 (z:Int)] 264)).drew;have L:=(h.loc #[.int .i64 (x:Int),.int .i64 (y:Int),.int .i64 (z:Int)] 264).drew;obtain⟨b0,b1,b2,b3,b4,bf⟩:=h.reads;have lb:=h.ltb;have hlook:=(hA.bu.o1 c1 hc1).look tz2 (x:=(x,y,z)) ho;rw[hf]at hlook;simp only[aV,Option.getD_none,Option.isSome_none]at hlook;rw[hc1]at b2;have x1:((x:Int) == 1)=false:=by simp;omega
 have x0:((x:Int) == 0)=false:=by simp;omega
 have hyz':((y:Int) ==(z:Int))=false:=by simp;omega
 have wf:=h.ar.wf;have hvm:i5 ns (x,y,z)<C.b8:=by
  have:=wf.va x hx i1;simp only[i5];omega
 have v16:=h.ar.vars16;have HF:Hq (∀val,Fit S C.b8 ns (pc ns (x,y,z) (i5 ns (x,y,z)) val) k):=⟨λval=>hk.down wf hin hvm val⟩;clear hk;have hmn:∀(ts:Array TypeId) (t:TypeId) (W:World),(Builtin.min_ ts t #[.int .i64 (nv ns x:Int),.int .i64 (nv ns y:Int),.int .i64 (nv ns z:Int)]).run prog W=.ok (.int .i64 (i5 ns (x,y,z):Int)) W:=λts t W=>gC _ _ _ ts t W;clear h;go_enter func206,ntmps206;go_wp2_with fail;go_cut [5,6] (λv5 v6 wx=>v5=.int .i64 0/\v6=.bool false/\At C w wx ns false N m1 m2 m3/\Loc C wx w.heap.size #[.int .i64 (x:Int),.int .i64 (y:Int),.int .i64 (z:Int)] 264)
 case first =>
  go_region;all_goals
   go_wp2_with fail
   go_meet
   exact⟨rfl,rfl,hA,L⟩
 case rest =>
  obtain⟨rfl,rfl,hA1,L1⟩:=hcut;clear hA L hlook;obtain⟨⟨q0,q1,q2⟩,_⟩:=L1.reads;go_wp2_with fail;go_cut [7] (λv7 wx=>v7=.int .i64 (i5 ns (x,y,z):Int)/\At C w wx ns false N m1 m2 m3/\Loc C wx w.heap.size #[.int .i64 (x:Int),.int .i64 (y:Int),.int .i64 (z:Int)] 264)
  case first =>
   have hA2:=hA1.drew;go_region_held3 (λw'=>w'.cell? ⟨w.heap.size,0,none⟩=some (.int .i64 (x:Int))/\w'.cell? ⟨w.heap.size,1,none⟩=some (.int .i64 (y:Int))/\w'.cell? ⟨w.heap.size,2,none⟩=some (.int .i64 (z:Int))) (go_keep)
    (first|(go_at_call 218;refine(variable_any (At.bu (w0:=w) ‹_›) ‹_›).mono ?_;rintro e wn⟨rfl,rfl⟩))
   go_wp2_with fail
   go_meet
   exact⟨rfl,hA2,L1.drew⟩
  case rest =>
   obtain⟨rfl,hA2,L2⟩:=hcut;clear hA1 L1 q0 q1 q2 hmn;generalize hv:i5 ns (x,y,z)=v at *;obtain⟨⟨q0,q1,q2⟩,_⟩:=L2.reads;go_wp2_with fail;refine(iP (c:=(x,y,z)) hA2.bu false i1 i2 i3 (by omega)).mono ?_;rintro e w3⟨rfl,hp⟩;have hA3:=hA2.then hp;have L3:=L2.kp hp.kp;clear hp L2 hA2 q0 q1 q2;go_wp2_with fail;have hp2:2 ^ (k+1)=2*2 ^ k:=by rw[Nat.pow_succ];omega
   have hp1:1<=2 ^ k:=Nat.one_le_two_pow;have hpm:∀val,v<i5 ns (pc ns (x,y,z) v val):=λval=>by
    have:=iR wf hin (by rw[hv];exact hvm) val;rw[hv]at this;exact this
   refine(ih.out w3 ns false N m1 (pc ns (x,y,z) v false) hA3.bu (eK wf hin hvm false) (HF.out false) (λ_=>hm) (by omega)).mono ?_;rintro e w4⟨f0,ns1,full1,N1,m11,rfl,hp,X1,l1,n1,lt0,_,s1⟩;have hA4:=hA3.then hp;have L4:=L3.kp hp.kp;clear hp L3 hA3;have wf1:=hA4.bu.ar.wf;have hin1:=hin.ext X1;have pe1:=gz hin X1 v true;obtain⟨j1,j2,j3⟩:=id hin1;obtain⟨⟨q0,q1,q2⟩,_⟩:=L4.reads;go_wp2_with fail;refine(iP (c:=(x,y,z)) hA4.bu true j1 j2 j3 (by omega)).mono ?_;rintro e w5⟨rfl,hp⟩;have hA5:=hA4.then hp;have L5:=L4.kp hp.kp;clear hp L4 hA4 q0 q1 q2;go_wp2_with fail;refine(ih.out w5 ns1 full1 N1 m11 (pc ns1 (x,y,z) v true) hA5.bu (eK wf1 hin1 hvm true) (by rw[pe1];exact(HF.out true).ext wf wf1 (eK wf hin hvm true) X1) (λe=>(s1 e).1) (by omega)).mono ?_;rintro e w6⟨f1,ns2,full2,N2,m12,rfl,hp,X2,l2,n2,lt1,mo2,s2⟩;have hA6:=hA5.then hp;have L6:=L5.kp hp.kp;clear hp L5 hA5;have wf2:=hA6.bu.ar.wf;have X2l:=X2.len;have sem2:full2=false->MemoC ns2 m12/\IsIte ns2 (pc ns (x,y,z) v false) f0/\IsIte ns2 (pc ns (x,y,z) v true) f1:=λe2=>by
    have e1:full1=false:=by cases full1 <;> simp_all
    have a1:=(s1 e1).2.ext X2 wf1 wf2;have a2:=s2 e2;rw[pe1]at a2;exact⟨a2.1,a1,a2.2⟩
   go_wp2_with fail;refine(numberOf_any hA6.bu (v:=v) (l:=f0) (u:=f1) hvm (by omega) lt1 (λe2=>?_)).mono ?_
   ·obtain⟨_,a1,a2⟩:=sem2 e2;have b1:=a1.va;have b2:=a2.va;rw[bI (eK wf hin hvm _) (X1.trans X2)]at b1 b2;have:=hpm false;have:=hpm true;omega
   rintro e w7⟨f,ns3,full3,rfl,hp,X3,l3,lt3,mo3,s3⟩;have hA7:=(hA6.then hp).drew;have L7:=(L6.kp hp.kp).drew;clear hp L6 hA6;have wf3:=hA7.bu.ar.wf;have len3:ns3.length<=40000:=Nat.le_trans hA7.bu.ar.le hA7.bu.ar.most4;obtain⟨w8,hrun,hM8,hg8⟩:=(hA7.bu.o1 c1 hc1).store tz2 (by unfold maxLen;omega) (x:=(x,y,z)) ho (v:=f) (by omega);have hA8:=hA7.memo1 hc1 hM8 hg8;obtain⟨⟨q0,q1,q2⟩,_⟩:=L7.reads;obtain⟨d0,d1,d2,d3,d4,df⟩:=hA7.bu.reads;rw[hc1]at d2;simp only[aV]at hrun;have hfin:cD C w ns false N m2 m3 (x,y,z) (2 ^ (k+1)-1) (.returned (.int .i64 (f:Int))) w8:=by
    refine⟨f,ns3,full3,N2+1,_,rfl,hA8,(X1.trans X2).trans X3,by omega,by omega,lt3,(λe=>by cases e),λe3=>?_⟩;have e2:full2=false:=by cases full2 <;> simp_all
    obtain⟨a0,a1,a2⟩:=sem2 e2;have X03:=(X1.trans X2).trans X3;have J:IsIte ns3 (x,y,z) f:=by
     refine nT wf3 (hin.ext X03) (by rw[bI hin X03,hv];exact hvm) ?_ ?_ (by rw[bI hin X03,hv];exact s3 e3)
     ·rw[bI hin X03,hv,gz hin X03];exact a1.ext X3 wf2 wf3
     ·rw[bI hin X03,hv,gz hin X03];exact a2.ext X3 wf2 wf3
    exact⟨(a0.ext X3 wf2 wf3).upd J,J⟩
   clear hA7 hM8 hg8 L7 hA8;go_wp2_with fail;go_region;all_goals
    go_wp2_with fail;go_ret;exact hfin
theorem jw(S:Nat->Bool){c1:Nat}(hc1:C.c1=some c1):∀(k:Nat) (w:World) (ns:List Nd) (d9:Bool) (N:Nat) (m1:Nd->Option Nat) (c:Nd),Bu C w ns d9 N m1 m2 m3->Inside ns c->Fit S C.b8 ns c k->(d9=false->MemoC ns m1) ->
  N+2 ^ k<=1099511627776->Calls prog 206 #[.pointer (some ⟨C.b,0,none⟩),m6 c] w (cD C w ns d9 N m2 m3 c (2 ^ k-1)):=by
 intro k
 induction k with
 | zero =>
   intro w ns d9 N m1 c h hin hk0 hm hN;have hk:=hk0.zero h.ar.wf hin;cases d9
   ·obtain⟨x,y,z⟩:=c;have hx:x<2:=by
     have:=h.ar.wf.va x;have k1:i5 ns (x,y,z)<=nv ns x:=by simp only[i5];omega
     by_cases h2:2<=x
     ·have:=this h2 hin.1;omega
     ·omega
    by_cases h1:x=1
    ·subst h1;refine(iW h y z).mono ?_;rintro e w'⟨rfl,hA⟩;exact⟨y,ns,false,N,m1,rfl,hA,Ext.refl _,by omega,by omega,hin.2.1,id,λ_=>⟨hm rfl,iT hin rfl⟩⟩
    ·obtain rfl:x=0:=by omega
     by_cases hyz:y=z
     ·subst hyz;refine(iX h 0 y h1).mono ?_;rintro e w'⟨rfl,hA⟩;exact⟨y,ns,false,N,m1,rfl,hA,Ext.refl _,by omega,by omega,hin.2.1,id,λ_=>⟨hm rfl,iS hin rfl⟩⟩
     ·refine(iY h y z hyz).mono ?_;rintro e w'⟨rfl,hA⟩;exact⟨z,ns,false,N,m1,rfl,hA,Ext.refl _,by omega,by omega,hin.2.2,id,λ_=>⟨hm rfl,iU hin rfl⟩⟩
   ·refine(iV h c).mono ?_;rintro e w'⟨rfl,hA⟩;exact⟨0,ns,true,N,m1,rfl,hA,Ext.refl _,by omega,by omega,(by have:=h.ar.wf.len;omega),id,λe=>by cases e⟩
 | succ k ih =>
   intro w ns d9 N m1 c h hin hk hm hN;cases d9
   ·obtain⟨x,y,z⟩:=c;by_cases h1:x=1
    ·subst h1;refine(iW h y z).mono ?_;rintro e w'⟨rfl,hA⟩;exact⟨y,ns,false,N,m1,rfl,hA,Ext.refl _,by omega,by omega,hin.2.1,id,λ_=>⟨hm rfl,iT hin rfl⟩⟩
    ·by_cases hyz:y=z
     ·subst hyz;refine(iX h x y h1).mono ?_;rintro e w'⟨rfl,hA⟩;exact⟨y,ns,false,N,m1,rfl,hA,Ext.refl _,by omega,by omega,hin.2.1,id,λ_=>⟨hm rfl,iS hin rfl⟩⟩
     ·by_cases h0:x=0
      ·subst h0;refine(iY h y z hyz).mono ?_;rintro e w'⟨rfl,hA⟩;exact⟨z,ns,false,N,m1,rfl,hA,Ext.refl _,by omega,by omega,hin.2.2,id,λ_=>⟨hm rfl,iU hin rfl⟩⟩
      ·have hl4:ns.length<=40000:=Nat.le_trans h.ar.le h.ar.most4;obtain⟨i1,i2,i3⟩:=id hin;simp only[]at i1 i2 i3;cases hf:m1 (x,y,z)with
       | none=>exact choose_miss h hc1 hin (by omega) hyz hf hk (hm rfl) hN ⟨ih⟩
       | some f =>
         refine(nU h hc1 ⟨by show x<_;omega,by show y<_;omega,by show z<_;omega⟩ (by omega) hyz hf).mono ?_;rintro e w'⟨rfl,hA⟩;have J:=hm rfl _ _ hf;exact⟨f,ns,false,N,m1,rfl,hA,Ext.refl _,by omega,by omega,J.lt,id,λ_=>⟨hm rfl,J⟩⟩
   ·refine(iV h c).mono ?_;rintro e w'⟨rfl,hA⟩;exact⟨0,ns,true,N,m1,rfl,hA,Ext.refl _,by omega,by omega,(by have:=h.ar.wf.len;omega),id,λe=>by cases e⟩
theorem pu{c1:Nat}(hc1:C.c1=some c1):∀(k:Nat) (w:World) (ns:List Nd) (d9:Bool) (N:Nat) (m1:Nd->Option Nat) (c:Nd),Bu C w ns d9 N m1 m2 m3->Inside ns c->C.b8<=i5 ns c+k->(d9=false->MemoC ns m1) ->
  N+2 ^ k<=1099511627776->Calls prog 206 #[.pointer (some ⟨C.b,0,none⟩),m6 c] w (cD C w ns d9 N m2 m3 c (2 ^ k-1)):=λk w ns d9 N m1 c h hin hk hm hN=>jw (λ_=>true) hc1 k w ns d9 N m1 c h hin (ja hk) hm hN
end
def ca(b9 a M b8 c9:Nat):Cfg:=⟨b9,a,a,M,none,none,none,b8,c9⟩
def OpPost(b9 a M b8 c9:Nat)(w:World)(ns:List Nd)(g:Nat)(φ:Env->Bool)(e:Ending)(w':World):Prop :=
 ∃ns',Ar b9 a M b8 c9 w' ns'/\Kp (ca b9 a M b8 c9) w w'/\Ext ns ns'/\ns'.length<=ns.length+g /\
   ((∃f:Nat,e=.returned (.tuple #[.int .i64 (f:Int),.int .i64 0])/\f<ns'.length/\∀x,ev ns' f x=φ x)\/(e=.returned (.tuple #[.int .i64 0,.int .i64 6])/\ns'.length=c9))
def MkPost(b9 a M b8 c9:Nat)(w:World)(ns:List Nd)(g i:Nat)(φ:Env->Bool)(e:Ending)(w':World):Prop :=
 ∃ns',Ar b9 a M b8 c9 w' ns'/\Kp (ca b9 a M b8 c9) w w'/\Ext ns ns'/\ns'.length<=ns.length+g /\
   ((∃f:Nat,e=.returned (.tuple #[.int .i64 (f:Int),.int .i64 0])/\f<ns'.length/\i<=nv ns' f/\∀x,ev ns' f x=φ x)\/(e=.returned (.tuple #[.int .i64 0,.int .i64 6])/\ns'.length=c9))
section
variable {b9 a M b8 c9:Nat}{w w1 w2:World}{ns:List Nd}
theorem Kp.outer{C:Cfg}(hK:Kp C w1 w2)(ha:C.a=a)(ho:w1.os=w.os)(ht:w1.tape=w.tape)(hp:w1.output=w.output)(hs:w.heap.size<=w1.heap.size)(hb:∀i,i<w.heap.size->w1.heap[i]?=w.heap[i]?)
  (hn:∀i,C.mine i->i=a\/i=M\/w.heap.size<=i) (la:a<w.heap.size):Kp (ca b9 a M b8 c9) w w2:=by
 have hr:rowOf w1 a=rowOf w a:=l9 (hb a la);have hr2:=hK.row;rw[ha]at hr2;have hs2:=hK.size;refine⟨hK.os.trans ho,hK.tape.trans ht,hK.output.trans hp,by omega,λi hi hm hne=>?_,?_,λj hj=>by have:=hK.post j hj;rw[ha]at this;exact this.trans (j9 (hb a la))⟩
 ·refine(hK.blk i (by omega) (λhc=>?_) (by rw[ha,hr];exact hne)).trans (hb i hi);rcases hn i hc with e|e|e
  ·exact hm (Or.inl e)
  ·exact hm (Or.inr (Or.inr (Or.inl e)))
  ·omega
 ·show rowOf w2 a=rowOf w a\/w.heap.size<=rowOf w2 a;rcases hr2 with e|e
  ·exact Or.inl (e.trans hr)
  ·exact Or.inr (by omega)
theorem Ar.alloc(h:Ar b9 a M b8 c9 w ns)(o:Obj):Ar b9 a M b8 c9 (w.alloc o) ns:=by
 obtain⟨_,_,_,rl⟩:=h.row;exact h.same (Below.heap_alloc w o _ h.lta) (Below.heap_alloc w o _ h.ltM) (Below.heap_alloc w o _ rl)
theorem eT{v m:Nat}(w:World)(hv1:1<=v)(hv2:v<=16)(hm1:2<=m)(hm2:m<=40000) :
  Calls prog 30 #[.int .i64 (v:Int),.int .i64 (m:Int)] w λe w'=>∃a M,e=.returned (.tuple #[.pointer (some ⟨a,0,none⟩),.int .i64 0])/\Ar w.heap.size a M v m w' [(v,0,0),(v,1,1)]/\Below w.heap.size w w':=by
 have hmm:=@run_makeMap prog;have t1:decide ((v:Int)<1)=false:=by simp;omega
 have t2:decide ((16:Int)<(v:Int))=false:=by simp;omega
 have t3:decide ((m:Int)<2)=false:=by simp;omega
 have t4:decide ((40000:Int)<(m:Int))=false:=by simp;omega
 go_enter func30,ntmps30;go_wp2_with fail;go_ret2;refine⟨w.heap.size+1+1,w.heap.size+1,rfl,?_,?_⟩
 ·refine⟨nE v,by simpa using hm1,hv1,hv2,hm2,by omega,by omega,⟨w.heap.size,2,#[.int .i64 (v:Int),.int .i64 (m:Int),.slice (some ⟨w.heap.size,0,none⟩) 2 2,.map (some (w.heap.size+1))],82,?_,⟨rfl,rfl,rfl,rfl,.inl rfl⟩,?_⟩,⟨λ_=>none,?_,?_⟩⟩
  ·rw[show w.heap.size+1+1=((w.alloc (.cells #[.int .i64 (v:Int),.int .i64 0,.int .i64 0,.int .i64 (v:Int),.int .i64 1,.int .i64 1] 143)).alloc (.map #[] 0)).heap.size by simp];exact Go.heap_alloc_new _ _
  ·refine⟨by simp[C9],.inr ⟨w.heap.size,2,#[.int .i64 (v:Int),.int .i64 0,.int .i64 0,.int .i64 (v:Int),.int .i64 1,.int .i64 1],rfl,Nat.le_refl _,?_,by simp,by decide,by simp,by simp[C9]⟩⟩;rw[Below.heap_alloc _ _ _ (by simp;omega),Below.heap_alloc _ _ _ (by simp)];exact Go.heap_alloc_new _ _
  ·have hM:=bG bH (w.alloc (.cells #[.int .i64 (v:Int),.int .i64 0,.int .i64 0,.int .i64 (v:Int),.int .i64 1,.int .i64 1] 143));rw[show(w.alloc (.cells #[.int .i64 (v:Int),.int .i64 0,.int .i64 0,.int .i64 (v:Int),.int .i64 1,.int .i64 1] 143)).heap.size=w.heap.size+1 by simp]at hM;exact(hM.same (Below.heap_alloc _ _ _ (by simp))).mono (by simp)
  ·intro n f;simp only[List.length_cons,List.length_nil];constructor
   ·intro h;cases h
   ·rintro⟨h1,h2,_⟩;omega
 ·exact(((Below.refl _ _).alloc (Nat.le_refl _) _).alloc (by simp) _).alloc (by simp;omega) _
theorem bu_new{C:Cfg}{m1:Nd->Option Nat}{m2:Mx->Option Nat}{m3:Nat->Option Nat}(h:Ar C.b9 C.a C.M C.b8 C.c9 w ns)(hb:C.b=w.heap.size)(hbase:C.b9<=w.heap.size)(o1:cB aV w C.c1 0 m1)(o2:cB aF w C.c2 0 m2)(o3:cB G7 w C.c3 0 m3)
  (low1:∀i,C.c1=some i->C.b9<=i/\i≠C.M/\C.c2≠some i/\C.c3≠some i) (low2:∀i,C.c2=some i->C.b9<=i/\i≠C.M/\C.c1≠some i/\C.c3≠some i) (low3:∀i,C.c3=some i->C.b9<=i/\i≠C.M/\C.c1≠some i/\C.c2≠some i) :
  Bu C (w.alloc (.cells #[.pointer (some ⟨C.a,0,none⟩),.bool false,.map C.c1,.map C.c2,.map C.c3] 221)) ns false 0 m1 m2 m3 :=
 ⟨h.alloc _,by rw[hb];exact Go.heap_alloc_new _ _,by omega,λi e=>(o1 i e).same (Below.heap_alloc _ _ _ (o1 i e).lt),λi e=>(o2 i e).same (Below.heap_alloc _ _ _ (o2 i e).lt),λi e=>(o3 i e).same (Below.heap_alloc _ _ _ (o3 i e).lt),low1,low2,low3,λe=>by cases e⟩
theorem dD(h:Ar b9 a M b8 c9 w ns):Calls prog 125 #[.pointer (some ⟨a,0,none⟩)] w λe w'=>e=.returned (.int .i64 (b8:Int))/\w'=w:=by
 obtain⟨cap,a0,a1,a2,a3,af,an⟩:=h.reads;clear h an;go_enter func125,ntmps125;go_wp2_with fail;go_ret;exact⟨rfl,rfl⟩
theorem jx(h:Ar b9 a M b8 c9 w ns){f i:Nat}(hf:f<ns.length)(hv:i<nv ns f) :
  Calls prog 196 #[.pointer (some ⟨a,0,none⟩),.int .i64 (f:Int),.int .i64 (i:Int)] w λe w'=>e=.returned (.bool true)/\w'=w:=by
 have t1:(decide ((0:Int)<=(f:Int))&&decide ((f:Int)<(ns.length:Int)))=true:=by simp;omega
 have t2:decide ((i:Int)<(nv ns f:Int))=true:=by simp;omega
 have hl:ns.length<=40000:=Nat.le_trans h.le h.most4;have hF:Hid (Ar b9 a M b8 c9 w ns):=h;obtain⟨cap,a0,a1,a2,a3,af,an⟩:=h.reads;obtain⟨n0,n1,n2⟩:=an f hf;clear h an;generalize rowOf w a=g at *;go_enter func196,ntmps196;go_wp2_with (go_at_call 82;refine(hasFunction_any hF.out (f:Int)).mono ?_;rintro e w'⟨rfl,rfl⟩;rw[t1]);go_ret;exact⟨by simp,rfl⟩
theorem node_ok(h:Ar b9 a M b8 c9 w ns){i lo up:Nat}(hi:i<b8)(l1:lo<ns.length)(l2:up<ns.length)(v1:i<nv ns lo)(v2:i<nv ns up) :
  Calls prog 172 #[.pointer (some ⟨a,0,none⟩),.int .i64 (i:Int),.int .i64 (lo:Int),.int .i64 (up:Int)] w (MkPost b9 a M b8 c9 w ns 1 i λx=>if x i then ev ns up x else ev ns lo x):=by
 have la:=h.lta;have lM:=h.ltM;have wf:=h.wf;have hb:=bu_new (C:=⟨b9,a,w.heap.size,M,none,none,none,b8,c9⟩) (m1:=λ_=>none) (m2:=λ_=>none) (m3:=λ_=>none) h rfl (by have:=h.lowA;show b9<=w.heap.size;omega) (λ_ e=>by cases e) (λ_ e=>by cases e) (λ_ e=>by cases e) (λ_ e=>by cases e) (λ_ e=>by cases e) (λ_ e=>by cases e);have t0:(decide ((0:Int)<=(i:Int))&&decide ((i:Int)<(b8:Int)))=true:=by simp;omega
 go_enter func172,ntmps172;go_wp2_with (first
  | (go_at_call 195;refine(hasVariable_any h (i:Int)).mono ?_;rintro e w'⟨rfl,rfl⟩;rw[t0])
  | (go_at_call_of 196 (Value.int .i64 (lo:Int));refine(jx h l1 v1).mono ?_;rintro e w'⟨rfl,rfl⟩)
  | (go_at_call_of 196 (Value.int .i64 (up:Int));refine(jx h l2 v2).mono ?_;rintro e w'⟨rfl,rfl⟩))
 refine(numberOf_any (v:=i) (l:=lo) (u:=up) hb hi l1 l2 (λ_=>⟨v1,v2⟩)).mono ?_;rintro e w2⟨f,ns',full',rfl,hp,X,l3,lt,mo,sm⟩;have wf':=hp.bu.ar.wf;have hK:Kp (ca b9 a M b8 c9) w' w2:=hp.kp.outer rfl rfl rfl rfl (by simp) (λi hi=>Below.heap_alloc _ _ _ hi) (by
  rintro i (e|e|e|e|e|e)
  ·exact Or.inl e
  ·exact Or.inr (Or.inr (by rw[e];exact Nat.le_refl _))
  ·exact Or.inr (Or.inl e)
  ·cases e
  ·cases e
  ·cases e) la
 go_wp2_with fail;cases full'
 ·refine(answer_any hp.bu f).mono ?_;rintro e w3⟨rfl,rfl⟩;have hfin:MkPost b9 a M b8 c9 w' ns 1 i (λx=>if x i then ev ns up x else ev ns lo x) (.returned (.tuple #[.int .i64 (f:Int),.int .i64 0])) w3 :=
   ⟨ns',hp.bu.ar,hK,X,l3,Or.inl ⟨f,rfl,lt,(sm rfl).va,λx=>by rw[(sm rfl).ev x,X.ev wf wf' _ l1,X.ev wf wf' _ l2]⟩⟩
  clear hp hK;go_wp2_with fail;go_ret2;exact hfin
 ·refine(answer_any hp.bu f).mono ?_;rintro e w3⟨rfl,rfl⟩;have hfin:MkPost b9 a M b8 c9 w' ns 1 i (λx=>if x i then ev ns up x else ev ns lo x) (.returned (.tuple #[.int .i64 0,.int .i64 6])) w3 :=
   ⟨ns',hp.bu.ar,hK,X,l3,Or.inr ⟨rfl,hp.bu.full_len rfl⟩⟩
  clear hp hK;go_wp2_with fail;go_ret2;exact hfin
theorem gD(S:Nat->Bool)(h:Ar b9 a M b8 c9 w ns){c:Nd}(hc:Inside ns c){k:Nat}(hfit:Fit S b8 ns c k)(hk16:k<=16) :
  Calls prog 181 #[.pointer (some ⟨a,0,none⟩),.int .i64 (c.1:Int),.int .i64 (c.2.1:Int),.int .i64 (c.2.2:Int)] w (OpPost b9 a M b8 c9 w ns (2 ^ k-1) λx=>if ev ns c.1 x then ev ns c.2.1 x else ev ns c.2.2 x):=by
 have hmm:=@run_makeMap prog;have la:=h.lta;have lM:=h.ltM;have hA:=h.lowA;have v16:=h.vars16;have wf:=h.wf;have hs:(w.alloc (.map #[] 0)).heap.size=w.heap.size+1:=by simp
 have hb:=bu_new (w:=w.alloc (.map #[] 0)) (C:=⟨b9,a,w.heap.size+1,M,some w.heap.size,none,none,b8,c9⟩) (m1:=λ_=>none) (m2:=λ_=>none) (m3:=λ_=>none) (h.alloc _) (by simp) (by rw[hs];show b9<=_;omega)
  (λi e=>by cases e;exact bG aV w) (λ_ e=>by cases e) (λ_ e=>by cases e) (λi e=>by cases e;exact⟨by show b9<=_;omega,by show w.heap.size≠M;omega,(λe=>by cases e),(λe=>by cases e)⟩) (λ_ e=>by cases e) (λ_ e=>by cases e)
 obtain⟨x,y,z⟩:=c;have hch:=jw S (C:=⟨b9,a,w.heap.size+1,M,some w.heap.size,none,none,b8,c9⟩) (c1:=w.heap.size) rfl k _ ns false 0 _ (x,y,z) hb hc hfit (λ_ _ _ e=>by cases e) (by have:=Nat.pow_le_pow_right (n:=2) (by omega) hk16;omega);obtain⟨i1,i2,i3⟩:=id hc;simp only[]at i1 i2 i3;have t1:(decide ((0:Int)<=(x:Int))&&decide ((x:Int)<(ns.length:Int)))=true:=by simp;omega
 have t2:(decide ((0:Int)<=(y:Int))&&decide ((y:Int)<(ns.length:Int)))=true:=by simp;omega
 have t3:(decide ((0:Int)<=(z:Int))&&decide ((z:Int)<(ns.length:Int)))=true:=by simp;omega
 have hch':=Hq.mk hch;clear hch hb hfit;simp only[];go_enter func181,ntmps181;go_wp2_with (first
  | (go_at_call_of 82 (Value.int .i64 (x:Int));refine(hasFunction_any h (x:Int)).mono ?_;rintro e w'⟨rfl,rfl⟩;rw[t1])
  | (go_at_call_of 82 (Value.int .i64 (y:Int));refine(hasFunction_any h (y:Int)).mono ?_;rintro e w'⟨rfl,rfl⟩;rw[t2])
  | (go_at_call_of 82 (Value.int .i64 (z:Int));refine(hasFunction_any h (z:Int)).mono ?_;rintro e w'⟨rfl,rfl⟩;rw[t3]))
 refine hch'.out.mono ?_;rintro e w2⟨f,ns',full',N',m1',rfl,hp,X,l1,_,lt,_,sm⟩;have wf':=hp.bu.ar.wf;have hK:Kp (ca b9 a M b8 c9) w' w2:=hp.kp.outer rfl rfl rfl rfl (by simp;omega) (λi hi=>(Below.heap_alloc _ _ _ (by simp;omega)).trans (Below.heap_alloc _ _ _ hi)) (by
  rintro i (e|e|e|e|e|e)
  ·exact Or.inl e
  ·exact Or.inr (Or.inr (by rw[e];show _<=w'.heap.size+1;omega))
  ·exact Or.inr (Or.inl e)
  ·cases e;exact Or.inr (Or.inr (Nat.le_refl _))
  ·cases e
  ·cases e) la
 go_wp2_with fail;cases full'
 ·refine(answer_any hp.bu f).mono ?_;rintro e w3⟨rfl,rfl⟩;have hfin:OpPost b9 a M b8 c9 w' ns (2 ^ k-1) (λq=>if ev ns x q then ev ns y q else ev ns z q) (.returned (.tuple #[.int .i64 (f:Int),.int .i64 0])) w3 :=
   ⟨ns',hp.bu.ar,hK,X,l1,Or.inl ⟨f,rfl,lt,λq=>by rw[(sm rfl).2.ev q];simp only[X.ev wf wf' _ i1,X.ev wf wf' _ i2,X.ev wf wf' _ i3]⟩⟩
  clear hp hK;go_wp2_with fail;go_ret2;exact hfin
 ·refine(answer_any hp.bu f).mono ?_;rintro e w3⟨rfl,rfl⟩;have hfin:OpPost b9 a M b8 c9 w' ns (2 ^ k-1) (λq=>if ev ns x q then ev ns y q else ev ns z q) (.returned (.tuple #[.int .i64 0,.int .i64 6])) w3 :=
   ⟨ns',hp.bu.ar,hK,X,l1,Or.inr ⟨rfl,hp.bu.full_len rfl⟩⟩
  clear hp hK;go_wp2_with fail;go_ret2;exact hfin
theorem pw(h:Ar b9 a M b8 c9 w ns){c:Nd}(hc:Inside ns c) :
  Calls prog 181 #[.pointer (some ⟨a,0,none⟩),.int .i64 (c.1:Int),.int .i64 (c.2.1:Int),.int .i64 (c.2.2:Int)] w (OpPost b9 a M b8 c9 w ns (2 ^ b8-1) λx=>if ev ns c.1 x then ev ns c.2.1 x else ev ns c.2.2 x):=gD (λ_=>true) h hc (ja (Nat.le_add_left _ _)) h.vars16
theorem OpPost.of{w:World}{g:Nat}{φ ψ:Env->Bool}{e:Ending}{w':World}(h:OpPost b9 a M b8 c9 w ns g φ e w')(hq:∀q,φ q=ψ q):OpPost b9 a M b8 c9 w ns g ψ e w':=by
 obtain⟨ns',r1,r2,r3,r4,r5⟩:=h;refine⟨ns',r1,r2,r3,r4,?_⟩;rcases r5 with⟨f,e1,e2,e3⟩|r5
 ·exact Or.inl ⟨f,e1,e2,λq=>(e3 q).trans (hq q)⟩
 ·exact Or.inr r5
end
structure IsEx(ns:List Nd)(i f g:Nat):Prop where
 ltf:f<ns.length
 lt:g<ns.length
 ev:∀e,ev ns g e=(ev ns f (setE e i false)||ev ns f (setE e i true))
 va:nv ns f<=nv ns g
section
variable {b8:Nat}{ns ns':List Nd}
theorem IsEx.ext{i f g:Nat}(h:IsEx ns i f g)(X:Ext ns ns')(wf:Wf b8 ns)(wf':Wf b8 ns'):IsEx ns' i f g:=by
 have hl:=X.len;have lt:=h.lt;have ltf:=h.ltf;refine⟨by omega,by omega,λe=>?_,?_⟩
 ·rw[X.ev wf wf' _ h.lt,X.ev wf wf' _ h.ltf,X.ev wf wf' _ h.ltf];exact h.ev e
 ·rw[X.va h.ltf,X.va h.lt];exact h.va
def MemoE(ns:List Nd)(i:Nat)(m:Nat->Option Nat):Prop:=∀f g,m f=some g->IsEx ns i f g
theorem MemoE.ext{i:Nat}{m:Nat->Option Nat}(h:MemoE ns i m)(X:Ext ns ns')(wf:Wf b8 ns)(wf':Wf b8 ns'):MemoE ns' i m:=λc f e=>(h c f e).ext X wf wf'
theorem MemoE.upd{i:Nat}{m:Nat->Option Nat}(h:MemoE ns i m){c f:Nat}(hf:IsEx ns i c f):MemoE ns i (upd m c f):=by
 intro d g hg;unfold YtppbfikimalojaaGreat.upd at hg;by_cases e:d=c
 ·subst e;rw[if_pos rfl]at hg;cases hg;exact hf
 ·rw[if_neg e]at hg;exact h d g hg
theorem jy(wf:Wf b8 ns){i f:Nat}(hf:f<ns.length)(hi:i<nv ns f):IsEx ns i f f:=⟨hf,hf,λe=>by rw[bF wf hf hi,bF wf hf hi];simp,Nat.le_refl _⟩
theorem pE(wf:Wf b8 ns){f g:Nat}(f2:2<=f)(hf:f<ns.length)(h:IsIte ns (nl ns f,1,nh ns f) g):IsEx ns (nv ns f) f g:=by
 refine⟨hf,h.lt,λe=>?_,?_⟩
 ·rw[O7 wf f2 hf,O7 wf f2 hf,h.ev e];simp only[ev1];cases ev ns (nl ns f) e <;> simp
 ·have a:=h.va;have v1:=wf.vlo f f2 hf;have v2:=wf.vhi f f2 hf;have v0:=wf.va f f2 hf;have e1:nv ns 1=b8:=by rw[nv,wf.n1]
  simp only[i5,e1]at a;omega
theorem pF(wf:Wf b8 ns){i f l u g:Nat}(f2:2<=f)(hf:f<ns.length)(hi:nv ns f<i)(h0:IsEx ns i (nl ns f) l)(h1:IsEx ns i (nh ns f) u)(hn:IsNode ns (nv ns f) l u g):IsEx ns i f g:=by
 refine⟨hf,hn.lt,λe=>?_,hn.va⟩;have ne:nv ns f≠i:=by omega
 rw[hn.ev,h0.ev,h1.ev,U9 wf f2 hf,U9 wf f2 hf,aE e _ ne,aE e _ ne];cases e (nv ns f) <;> simp
end
def cE(C:Cfg)(w:World)(ns:List Nd)(d9:Bool)(N:Nat)(m2:Mx->Option Nat)(i f:Nat)(g:Nat)(e:Ending)(w':World):Prop :=
 ∃r ns' full' N' m1' m3',e=.returned (.int .i64 ((r:Nat):Int))/\At C w w' ns' full' N' m1' m2 m3'/\Ext ns ns'/\ns'.length<=ns.length+g/\N'<=N+g/\r<ns'.length/\(d9=true->full'=true)/\(full'=false->MemoC ns' m1'/\MemoE ns' i m3'/\IsEx ns' i f r)
section
variable {C:Cfg}{w:World}{ns:List Nd}{N:Nat}{m1:Nd->Option Nat}{m2:Mx->Option Nat}{m3:Nat->Option Nat}
theorem jz(h:Bu C w ns true N m1 m2 m3){f:Nat}(hf:f<ns.length)(i:Nat) :
  Calls prog 229 #[.pointer (some ⟨C.b,0,none⟩),.int .i64 (f:Int),.int .i64 (i:Int)] w λe w'=>e=.returned (.int .i64 0)/\At C w w' ns true N m1 m2 m3:=by
 have hA:=(At.refl h).alloc (.cells #[.int .i64 (nv ns f:Int),.int .i64 (nl ns f:Int),.int .i64 (nh ns f:Int)] 143);obtain⟨b0,b1,b2,b3,b4,bf⟩:=h.reads;obtain⟨cap,a0,a1,a2,a3,af,an⟩:=h.ar.reads;obtain⟨n0,n1,n2⟩:=an f hf;have hl:ns.length<=40000:=Nat.le_trans h.ar.le h.ar.most4;have lb:=h.ltb;clear h an;generalize rowOf w C.a=g at *;go_enter func229,ntmps229;go_wp2_with fail;go_ret;exact⟨rfl,hA⟩
theorem exists_far(h:Bu C w ns false N m1 m2 m3){f i:Nat}(hf:f<ns.length)(hi:i<nv ns f) :
  Calls prog 229 #[.pointer (some ⟨C.b,0,none⟩),.int .i64 (f:Int),.int .i64 (i:Int)] w λe w'=>e=.returned (.int .i64 (f:Int))/\At C w w' ns false N m1 m2 m3:=by
 have hA:=(At.refl h).alloc (.cells #[.int .i64 (nv ns f:Int),.int .i64 (nl ns f:Int),.int .i64 (nh ns f:Int)] 143);obtain⟨b0,b1,b2,b3,b4,bf⟩:=h.reads;obtain⟨cap,a0,a1,a2,a3,af,an⟩:=h.ar.reads;obtain⟨n0,n1,n2⟩:=an f hf;have hl:ns.length<=40000:=Nat.le_trans h.ar.le h.ar.most4;have lb:=h.ltb;have t1:decide ((i:Int)<(nv ns f:Int))=true:=by simp;omega
 clear h an;generalize rowOf w C.a=g at *;go_enter func229,ntmps229;go_wp2_with fail;go_ret;exact⟨rfl,hA⟩
theorem pG(h:Bu C w ns false N m1 m2 m3){f i k:Nat}(f2:2<=f)(hf:f<ns.length)(hi:nv ns f=i)(hme:MemoE ns i m3)
  (hch:Hq (∀w,Bu C w ns false N m1 m2 m3->Calls prog 206 #[.pointer (some ⟨C.b,0,none⟩),m6 (nl ns f,1,nh ns f)] w (cD C w ns false N m2 m3 (nl ns f,1,nh ns f) (2 ^ k-1)))) :
  Calls prog 229 #[.pointer (some ⟨C.b,0,none⟩),.int .i64 (f:Int),.int .i64 (i:Int)] w (cE C w ns false N m2 i f (2 ^ k-1)):=by
 subst hi;have hA:=(At.refl h).alloc (.cells #[.int .i64 (nv ns f:Int),.int .i64 (nl ns f:Int),.int .i64 (nh ns f:Int)] 143);obtain⟨b0,b1,b2,b3,b4,bf⟩:=h.reads;obtain⟨cap,a0,a1,a2,a3,af,an⟩:=h.ar.reads;obtain⟨n0,n1,n2⟩:=an f hf;have hl:ns.length<=40000:=Nat.le_trans h.ar.le h.ar.most4;have lb:=h.ltb;have wf:=h.ar.wf;clear h an;generalize rowOf w C.a=g at *;go_enter func229,ntmps229;go_wp2_with fail;refine(hch.out _ hA.bu).mono ?_;rintro e w4⟨r,ns1,full1,N1,m11,rfl,hp,X1,l1,n1,lt0,mo,s1⟩;have hA4:=hA.then hp;have wf1:=hA4.bu.ar.wf;have hfin:cE C w ns false N m2 (nv ns f) f (2 ^ k-1) (.returned (.int .i64 (r:Int))) w4:=by
  refine⟨r,ns1,full1,N1,m11,m3,rfl,hA4,X1,l1,n1,lt0,mo,λe1=>⟨(s1 e1).1,hme.ext X1 wf wf1,?_⟩⟩;have j:=(s1 e1).2;have en:nd ns1 f=nd ns f:=X1.nd hf;have:=X1.len;have q:=pE wf1 f2 (by omega) (by rw[nl,nh,en];exact j);rw[nv,en]at q;exact q
 clear hp hA4;go_wp2_with fail;go_ret;exact hfin
theorem pH(h:Bu C w ns false N m1 m2 m3){c3:Nat}(hc3:C.c3=some c3){f i r:Nat}(hf:f<ns.length)(hi:nv ns f<i)(hr:m3 f=some r) :
  Calls prog 229 #[.pointer (some ⟨C.b,0,none⟩),.int .i64 (f:Int),.int .i64 (i:Int)] w λe w'=>e=.returned (.int .i64 (r:Int))/\At C w w' ns false N m1 m2 m3:=by
 have hA:=(At.refl h).alloc (.cells #[.int .i64 (nv ns f:Int),.int .i64 (nl ns f:Int),.int .i64 (nh ns f:Int)] 143);obtain⟨b0,b1,b2,b3,b4,bf⟩:=h.reads;obtain⟨cap,a0,a1,a2,a3,af,an⟩:=h.ar.reads;obtain⟨n0,n1,n2⟩:=an f hf;have hl:ns.length<=40000:=Nat.le_trans h.ar.le h.ar.most4;have lb:=h.ltb;have t1:decide ((i:Int)<(nv ns f:Int))=false:=by simp;omega
 have t2:((nv ns f:Int) ==(i:Int))=false:=by simp;omega
 have hlook:=(hA.bu.o3 c3 hc3).look tz4 (x:=f) (by show f<_;omega);rw[hr]at hlook;simp only[G7,Option.getD_some,Option.isSome_some]at hlook;rw[hc3]at b4;clear h an;generalize rowOf w C.a=g at *;go_enter func229,ntmps229;go_wp2_with fail;go_ret;exact⟨rfl,hA⟩
theorem pI(h:Bu C w ns false N m1 m2 m3){c3:Nat}(hc3:C.c3=some c3){f i k:Nat}(hf:f<ns.length)(hi:nv ns f<i)(hiv:i<C.b8)(hr:m3 f=none)(hk:C.b8<=nv ns f+(k+1))(hmc:MemoC ns m1)(hme:MemoE ns i m3)(hN:N+2 ^ (k+1)<=1099511627776)
  (ih:Hq (∀w ns d9 N m1 m3 f,Bu C w ns d9 N m1 m2 m3->f<ns.length->C.b8<=nv ns f+k->(d9=false->MemoC ns m1/\MemoE ns i m3)->N+2 ^ k<=1099511627776->Calls prog 229 #[.pointer (some ⟨C.b,0,none⟩),.int .i64 (f:Int),.int .i64 (i:Int)] w (cE C w ns d9 N m2 i f (2 ^ k-1)))) :
  Calls prog 229 #[.pointer (some ⟨C.b,0,none⟩),.int .i64 (f:Int),.int .i64 (i:Int)] w (cE C w ns false N m2 i f (2 ^ (k+1)-1)):=by
 have hA:=(At.refl h).alloc (.cells #[.int .i64 (nv ns f:Int),.int .i64 (nl ns f:Int),.int .i64 (nh ns f:Int)] 143);have L:=h.loc #[.int .i64 (nv ns f:Int),.int .i64 (nl ns f:Int),.int .i64 (nh ns f:Int)] 143;obtain⟨b0,b1,b2,b3,b4,bf⟩:=h.reads;obtain⟨cap,a0,a1,a2,a3,af,an⟩:=h.ar.reads;obtain⟨n0,n1,n2⟩:=an f hf;have hl:ns.length<=40000:=Nat.le_trans h.ar.le h.ar.most4;have lb:=h.ltb;have wf:=h.ar.wf;have f2:2<=f:=va_lt wf hf (by omega);have hlo:=wf.lo f f2 hf;have hhi:=wf.hi f f2 hf;have vlo:=wf.vlo f f2 hf;have vhi:=wf.vhi f f2 hf;have hp2:2 ^ (k+1)=2*2 ^ k:=by rw[Nat.pow_succ];omega
 have hp1:1<=2 ^ k:=Nat.one_le_two_pow;have t1:decide ((i:Int)<(nv ns f:Int))=false:=by simp;omega
 have t2:((nv ns f:Int) ==(i:Int))=false:=by simp;omega
 have hlook:=(hA.bu.o3 c3 hc3).look tz4 (x:=f) (by show f<_;omega);rw[hr]at hlook;simp only[G7,Option.getD_none,Option.isSome_none]at hlook;rw[hc3]at b4;clear h an;generalize rowOf w C.a=g at *;go_enter func229,ntmps229;go_wp2_with fail;refine(ih.out _ ns false N m1 m3 (nl ns f) hA.bu (by omega) (by omega) (λ_=>⟨hmc,hme⟩) (by omega)).mono ?_;rintro e w4⟨f0,ns1,full1,N1,m11,m31,rfl,hp,X1,l1,k1,lt0,_,s1⟩;have hA4:=hA.then hp;have L4:=L.kp hp.kp;clear hp hA L hlook b0 b1 b2 b3 b4 bf a0 a1 a2 a3 af n0 n1 n2;have wf1:=hA4.bu.ar.wf;have X1l:=X1.len;obtain⟨⟨q0,q1,q2⟩,_⟩:=L4.reads;go_wp2_with fail;refine(ih.out _ ns1 full1 N1 m11 m31 (nh ns f) hA4.bu (by omega) (by rw[X1.va (by omega)];omega) (λe=>⟨(s1 e).1,(s1 e).2.1⟩) (by omega)).mono ?_;rintro e w6⟨f1,ns2,full2,N2,m12,m32,rfl,hp,X2,l2,k2,lt1,mo2,s2⟩;have hA6:=hA4.then hp;have L6:=L4.kp hp.kp;clear hp L4 hA4 q0 q1 q2;have wf2:=hA6.bu.ar.wf;have X2l:=X2.len;have X02:=X1.trans X2;have sem2:full2=false->MemoC ns2 m12/\MemoE ns2 i m32/\IsEx ns2 i (nl ns f) f0/\IsEx ns2 i (nh ns f) f1:=λe2=>by
  have e1:full1=false:=by cases full1 <;> simp_all
  exact⟨(s2 e2).1,(s2 e2).2.1,(s1 e1).2.2.ext X2 wf1 wf2,(s2 e2).2.2⟩
 obtain⟨⟨q0,q1,q2⟩,_⟩:=L6.reads;go_wp2_with fail;refine(numberOf_any hA6.bu (v:=nv ns f) (l:=f0) (u:=f1) (by omega) (by omega) lt1 (λe2=>?_)).mono ?_
 ·obtain⟨_,_,a1,a2⟩:=sem2 e2;have c1:=a1.va;have c2:=a2.va;rw[X02.va (by omega)]at c1 c2;omega
 rintro e w7⟨r,ns3,full3,rfl,hp,X3,l3,lt3,mo3,s3⟩;have hA7:=hA6.then hp;clear hp L6 hA6 q0 q1 q2;have wf3:=hA7.bu.ar.wf;have len3:ns3.length<=40000:=Nat.le_trans hA7.bu.ar.le hA7.bu.ar.most4;obtain⟨w8,hrun,hM8,hg8⟩:=(hA7.bu.o3 c3 hc3).store tz4 (by unfold maxLen;omega) (x:=f) (by show f<_;omega) (v:=r) (by omega);have hA8:=hA7.memo3 hc3 hM8 hg8;obtain⟨d0,d1,d2,d3,d4,df⟩:=hA7.bu.reads;rw[hc3]at d4;simp only[G7]at hrun;have hfin:cE C w ns false N m2 i f (2 ^ (k+1)-1) (.returned (.int .i64 (r:Int))) w8:=by
  refine⟨r,ns3,full3,N2+1,m12,_,rfl,hA8,X02.trans X3,by omega,by omega,lt3,(λe=>by cases e),λe3=>?_⟩;have e2:full2=false:=by cases full2 <;> simp_all
  obtain⟨a0,a00,a1,a2⟩:=sem2 e2;have X03:=X02.trans X3;have X03l:=X03.len;have en:nd ns3 f=nd ns f:=X03.nd hf;have J:IsEx ns3 i f r:=by
   refine pF (l:=f0) (u:=f1) wf3 f2 (by omega) ?_ ?_ ?_ ?_
   ·rw[nv,en];exact hi
   ·rw[nl,en];exact a1.ext X3 wf2 wf3
   ·rw[nh,en];exact a2.ext X3 wf2 wf3
   ·rw[nv,en];exact s3 e3
  exact⟨a0.ext X3 wf2 wf3,(a00.ext X3 wf2 wf3).upd J,J⟩
 clear hA7 hM8 hg8 hA8;go_wp2_with fail;go_ret;exact hfin
theorem pJ{c1 c3:Nat}(hc1:C.c1=some c1)(hc3:C.c3=some c3){i:Nat}(hiv:i<C.b8):∀(k:Nat) (w:World) (ns:List Nd) (d9:Bool) (N:Nat) (m1:Nd->Option Nat) (m3:Nat->Option Nat) (f:Nat),Bu C w ns d9 N m1 m2 m3->f<ns.length->C.b8<=nv ns f+k ->
  (d9=false->MemoC ns m1/\MemoE ns i m3)->N+2 ^ k<=1099511627776->Calls prog 229 #[.pointer (some ⟨C.b,0,none⟩),.int .i64 (f:Int),.int .i64 (i:Int)] w (cE C w ns d9 N m2 i f (2 ^ k-1)):=by
 intro k
 induction k with
 | zero =>
   intro w ns d9 N m1 m3 f h hf hk hm hN;cases d9
   ·refine(exists_far h hf (by omega)).mono ?_;rintro e w'⟨rfl,hA⟩;exact⟨f,ns,false,N,m1,m3,rfl,hA,Ext.refl _,by omega,by omega,hf,id,λ_=>⟨(hm rfl).1,(hm rfl).2,jy h.ar.wf hf (by omega)⟩⟩
   ·refine(jz h hf i).mono ?_;rintro e w'⟨rfl,hA⟩;exact⟨0,ns,true,N,m1,m3,rfl,hA,Ext.refl _,by omega,by omega,(by have:=h.ar.wf.len;omega),id,λe=>by cases e⟩
 | succ k ih =>
   intro w ns d9 N m1 m3 f h hf hk hm hN;cases d9
   ·rcases Nat.lt_trichotomy i (nv ns f)with hi|hi|hi
    ·refine(exists_far h hf hi).mono ?_;rintro e w'⟨rfl,hA⟩;exact⟨f,ns,false,N,m1,m3,rfl,hA,Ext.refl _,by omega,by omega,hf,id,λ_=>⟨(hm rfl).1,(hm rfl).2,jy h.ar.wf hf hi⟩⟩
    ·have f2:=va_lt h.ar.wf hf (by omega);have l2:=h.ar.wf.len;have hlo:=h.ar.wf.lo f f2 hf;have hhi:=h.ar.wf.hi f f2 hf;refine pG h f2 hf hi.symm (hm rfl).2 ⟨λw' hb=>pu hc1 (k+1) w' ns false N m1 _ hb ⟨by show nl ns f<_;omega,by show 1<_;omega,by show nh ns f<_;omega⟩ ?_ (λ_=>(hm rfl).1) hN⟩;have v1:=h.ar.wf.vlo f f2 hf;have v2:=h.ar.wf.vhi f f2 hf;have e1:nv ns 1=C.b8:=by rw[nv,h.ar.wf.n1]
     simp only[i5,e1];omega
    ·cases hr:m3 f with
     | none=>exact pI h hc3 hf hi hiv hr hk (hm rfl).1 (hm rfl).2 hN ⟨ih⟩
     | some r =>
       refine(pH h hc3 hf hi hr).mono ?_;rintro e w'⟨rfl,hA⟩;have J:=(hm rfl).2 _ _ hr;exact⟨r,ns,false,N,m1,m3,rfl,hA,Ext.refl _,by omega,by omega,J.lt,id,λ_=>⟨(hm rfl).1,(hm rfl).2,J⟩⟩
   ·refine(jz h hf i).mono ?_;rintro e w'⟨rfl,hA⟩;exact⟨0,ns,true,N,m1,m3,rfl,hA,Ext.refl _,by omega,by omega,(by have:=h.ar.wf.len;omega),id,λe=>by cases e⟩
end
def pm(ns:List Nd)(x:Mx)(v:Nat)(val:Bool):Mx:=(partOf ns x.1 v val,partOf ns x.2.1 v val,x.2.2)
def InsideM(ns:List Nd)(x:Mx):Prop:=x.1<ns.length/\x.2.1<ns.length
def f9(ns:List Nd)(x:Mx)(c8:Nat):Nat:=min (min (nv ns x.1) (nv ns x.2.1)) c8
structure IsBl(ns:List Nd)(c8:Nat)(x:Mx)(g:Nat):Prop where
 inside:InsideM ns x
 lt:g<ns.length
 ev:∀e,ev ns g e=if e c8 then ev ns x.2.1 (setE e c8 x.2.2)else ev ns x.1 (setE e c8 x.2.2)
 va:f9 ns x c8<=nv ns g
section
variable {b8:Nat}{ns ns':List Nd}
theorem InsideM.ext{x:Mx}(h:InsideM ns x)(X:Ext ns ns'):InsideM ns' x:=by
 have:=X.len;obtain⟨h1,h2⟩:=h;exact⟨by omega,by omega⟩
theorem cF{x:Mx}(h:InsideM ns x)(X:Ext ns ns')(c8:Nat):f9 ns' x c8=f9 ns x c8:=by
 unfold f9;rw[X.va h.1,X.va h.2]
theorem gE{x:Mx}(h:InsideM ns x)(X:Ext ns ns')(v:Nat)(val:Bool):pm ns' x v val=pm ns x v val:=by
 unfold pm;rw[W8 X h.1,W8 X h.2]
theorem eU(wf:Wf b8 ns){x:Mx}(h:InsideM ns x){v:Nat}(hv:v<b8)(val:Bool):InsideM ns (pm ns x v val):=⟨O8 wf h.1 hv val,O8 wf h.2 hv val⟩
theorem jA(wf:Wf b8 ns){x:Mx}(h:InsideM ns x){c8:Nat}(hl:c8<b8)(hv:f9 ns x c8<c8)(val:Bool):f9 ns x c8<f9 ns (pm ns x (f9 ns x c8) val) c8:=by
 have a1:=J6 wf h.1 (v:=f9 ns x c8) (by omega) (by unfold f9;omega) val;have a2:=J6 wf h.2 (v:=f9 ns x c8) (by omega) (by unfold f9;omega) val;show _<min (min (nv ns (partOf ns x.1 _ val)) (nv ns (partOf ns x.2.1 _ val))) c8;omega
theorem IsBl.ext{c8 g:Nat}{x:Mx}(h:IsBl ns c8 x g)(X:Ext ns ns')(wf:Wf b8 ns)(wf':Wf b8 ns'):IsBl ns' c8 x g:=by
 have hl:=X.len;have lt:=h.lt;refine⟨h.inside.ext X,by omega,λe=>?_,?_⟩
 ·rw[X.ev wf wf' _ h.lt,X.ev wf wf' _ h.inside.1,X.ev wf wf' _ h.inside.2];exact h.ev e
 ·rw[cF h.inside X,X.va h.lt];exact h.va
def MemoB(ns:List Nd)(c8:Nat)(m:Mx->Option Nat):Prop:=∀x g,m x=some g->IsBl ns c8 x g
theorem MemoB.ext{i:Nat}{m:Mx->Option Nat}(h:MemoB ns i m)(X:Ext ns ns')(wf:Wf b8 ns)(wf':Wf b8 ns'):MemoB ns' i m:=λc f e=>(h c f e).ext X wf wf'
theorem MemoB.upd{i:Nat}{m:Mx->Option Nat}(h:MemoB ns i m){c:Mx}{f:Nat}(hf:IsBl ns i c f):MemoB ns i (upd m c f):=by
 intro d g hg;unfold YtppbfikimalojaaGreat.upd at hg;by_cases e:d=c
 ·subst e;rw[if_pos rfl]at hg;cases hg;exact hf
 ·rw[if_neg e]at hg;exact h d g hg
theorem pK(wf:Wf b8 ns){c8 g:Nat}{x:Mx}(h:InsideM ns x)(hl:c8<b8)(hm:f9 ns x c8=c8)(hn:IsNode ns c8 (partOf ns x.1 c8 x.2.2) (partOf ns x.2.1 c8 x.2.2) g):IsBl ns c8 x g:=by
 have k1:c8<=nv ns x.1:=by unfold f9 at hm;omega
 have k2:c8<=nv ns x.2.1:=by unfold f9 at hm;omega
 refine⟨h,hn.lt,λe=>?_,by rw[hm];exact hn.va⟩;rw[hn.ev,W6 wf h.1 hl k1,W6 wf h.2 hl k2]
theorem pL(wf:Wf b8 ns){c8 l u g:Nat}{x:Mx}(h:InsideM ns x)(hl:c8<b8)(hv:f9 ns x c8<c8)(h0:IsBl ns c8 (pm ns x (f9 ns x c8) false) l)(h1:IsBl ns c8 (pm ns x (f9 ns x c8) true) u)(hn:IsNode ns (f9 ns x c8) l u g):IsBl ns c8 x g:=by
 refine⟨h,hn.lt,λe=>?_,hn.va⟩;have k1:f9 ns x c8<=nv ns x.1:=by unfold f9;omega
 have k2:f9 ns x c8<=nv ns x.2.1:=by unfold f9;omega
 have hv':f9 ns x c8<b8:=by omega
 have e0:=h0.ev e;have e1:=h1.ev e;simp only[pm,W6 wf h.1 hv' k1,W6 wf h.2 hv' k2]at e0 e1;rw[hn.ev,e0,e1];have ne:f9 ns x c8≠c8:=by omega
 cases hb:e (f9 ns x c8)
 ·rw[dB (e:=setE e c8 x.2.2) (b:=false) (by rw[aE _ _ ne];exact hb)];simp
 ·rw[dB (e:=setE e c8 x.2.2) (b:=true) (by rw[aE _ _ ne];exact hb)];simp
end
def bQ(C:Cfg)(w:World)(ns:List Nd)(d9:Bool)(N:Nat)(m1:Nd->Option Nat)(m3:Nat->Option Nat)(c8:Nat)(x:Mx)(g:Nat)(e:Ending)(w':World):Prop :=
 ∃r ns' full' N' m2',e=.returned (.int .i64 ((r:Nat):Int))/\At C w w' ns' full' N' m1 m2' m3/\Ext ns ns'/\ns'.length<=ns.length+g/\N'<=N+g/\r<ns'.length/\(d9=true->full'=true)/\(full'=false->MemoB ns' c8 m2'/\IsBl ns' c8 x r)
section
variable {C:Cfg}{w:World}{ns:List Nd}{N:Nat}{m1:Nd->Option Nat}{m2:Mx->Option Nat}{m3:Nat->Option Nat}
theorem pM(h:Bu C w ns true N m1 m2 m3)(x:Mx)(c8:Nat) :
  Calls prog 231 #[.pointer (some ⟨C.b,0,none⟩),I5 x,.int .i64 (c8:Int)] w λe w'=>e=.returned (.int .i64 0)/\At C w w' ns true N m1 m2 m3:=by
 have hA:=(At.refl h).alloc (.cells #[.int .i64 (x.1:Int),.int .i64 (x.2.1:Int),.bool x.2.2] 287);obtain⟨b0,b1,b2,b3,b4,bf⟩:=h.reads;have lb:=h.ltb;clear h;go_enter func231,ntmps231;go_wp2_with fail;go_ret;exact⟨rfl,hA⟩
theorem pN(h:Bu C w ns false N m1 m2 m3){c2:Nat}(hc2:C.c2=some c2){x y f:Nat}{z:Bool}(c8:Nat)(ho:okx (x,y,z))(hf:m2 (x,y,z)=some f) :
  Calls prog 231 #[.pointer (some ⟨C.b,0,none⟩),I5 (x,y,z),.int .i64 (c8:Int)] w λe w'=>e=.returned (.int .i64 (f:Int))/\At C w w' ns false N m1 m2 m3:=by
 have hA:=((At.refl h).alloc (.cells #[.int .i64 (x:Int),.int .i64 (y:Int),.bool z] 287)).drew;obtain⟨b0,b1,b2,b3,b4,bf⟩:=h.reads;have lb:=h.ltb;have hlook:=(hA.bu.o2 c2 hc2).look tz3 (x:=(x,y,z)) ho;rw[hf]at hlook;simp only[aF,Option.getD_some,Option.isSome_some]at hlook;rw[hc2]at b3;clear h;go_enter func231,ntmps231;go_wp2_with fail;go_region;all_goals
  go_wp2_with fail;go_ret;exact⟨rfl,hA⟩
def eV(C:Cfg)(w wx:World)(ns:List Nd)(N:Nat)(m1:Nd->Option Nat)(m2:Mx->Option Nat)(m3:Nat->Option Nat)(x y:Nat)(z:Bool):Prop :=
 At C w wx ns false N m1 m2 m3/\Loc C wx w.heap.size #[.int .i64 (x:Int),.int .i64 (y:Int),.bool z] 287
theorem pO(h:Bu C w ns false N m1 m2 m3){c2:Nat}(hc2:C.c2=some c2){x y c8:Nat}{z:Bool}(hin:InsideM ns (x,y,z))(hf:m2 (x,y,z)=none)(hl:c8<C.b8)(hml:f9 ns (x,y,z) c8=c8)(hm:MemoB ns c8 m2)(hN:N+1<=1099511627776) :
  Calls prog 231 #[.pointer (some ⟨C.b,0,none⟩),I5 (x,y,z),.int .i64 (c8:Int)] w (bQ C w ns false N m1 m3 c8 (x,y,z) 1):=by
 have hl4:ns.length<=40000:=Nat.le_trans h.ar.le h.ar.most4;obtain⟨i1,i2⟩:=id hin;simp only[]at i1 i2;have ho:okx (x,y,z):=⟨by show x<_;omega,by show y<_;omega⟩;have hA:=((At.refl h).alloc (.cells #[.int .i64 (x:Int),.int .i64 (y:Int),.bool z] 287)).drew;have L:=(h.loc #[.int .i64 (x:Int),.int .i64 (y:Int),.bool z] 287).drew;obtain⟨b0,b1,b2,b3,b4,bf⟩:=h.reads;have lb:=h.ltb;have hlook:=(hA.bu.o2 c2 hc2).look tz3 (x:=(x,y,z)) ho;rw[hf]at hlook;simp only[aF,Option.getD_none,Option.isSome_none]at hlook;rw[hc2]at b3;have wf:=h.ar.wf;have v16:=h.ar.vars16;have hmn:∀(ts:Array TypeId) (t:TypeId) (W:World),(Builtin.min_ ts t #[.int .i64 (nv ns x:Int),.int .i64 (nv ns y:Int),.int .i64 (c8:Int)]).run prog W=.ok (.int .i64 (c8:Int)) W:=λts t W=>by
  have:=gC (nv ns x) (nv ns y) c8 ts t W;rw[show min (min (nv ns x) (nv ns y)) c8=c8 from hml]at this;exact this
 have hml':Hq (f9 ns (x,y,z) c8=c8):=⟨hml⟩;clear h hml;go_enter func231,ntmps231;go_wp2_with fail;go_cut [7,8] (λv5 v6 wx=>v5=.int .i64 0/\v6=.bool false/\eV C w wx ns N m1 m2 m3 x y z)
 case first =>
  go_region;all_goals
   go_wp2_with fail
   go_meet
   exact⟨rfl,rfl,hA,L⟩
 case rest =>
  obtain⟨rfl,rfl,hA1,L1⟩:=hcut;clear hA L hlook;obtain⟨⟨q0,q1,q2⟩,_⟩:=L1.reads;go_wp2_with fail;go_cut [9] (λv7 wx=>v7=.int .i64 (c8:Int)/\eV C w wx ns N m1 m2 m3 x y z)
  case first =>
   have hA2:=hA1.drew;go_region_held3 (λw'=>w'.cell? ⟨w.heap.size,0,none⟩=some (.int .i64 (x:Int))/\w'.cell? ⟨w.heap.size,1,none⟩=some (.int .i64 (y:Int))) (go_keep)
    (first|(go_at_call 218;refine(variable_any (At.bu (w0:=w) ‹_›) ‹_›).mono ?_;rintro e wn⟨rfl,rfl⟩))
   go_wp2_with fail
   go_meet
   exact⟨rfl,hA2,L1.drew⟩
  case rest =>
   obtain⟨rfl,hA2,L2⟩:=hcut;clear hA1 L1 q0 q1 q2 hmn;have hs2:=hA2.kp.size;have hA3:=hA2.alloc (.cells #[.int .i64 (c8:Int),.int .i64 0,.int .i64 0] 143);have L3:=L2.alloc hA2.bu (.cells #[.int .i64 (c8:Int),.int .i64 0,.int .i64 0] 143);have M3:=hA2.loc #[.int .i64 (c8:Int),.int .i64 0,.int .i64 0] 143;have hne:w.heap.size≠wc.heap.size:=by have:=L2.out.lt;omega
   obtain⟨⟨q0,q1,q2⟩,_⟩:=L3.reads;go_wp2_with fail;refine(cC hA3.bu z i1 (by omega)).mono ?_;rintro e w4⟨rfl,hp⟩;have hA4:=hA3.then hp;have L4:=L3.kp hp.kp;have M4:=M3.kp hp.kp;clear hp L3 M3 hA3 q0 q1 q2;obtain⟨⟨q0,q1,q2⟩,_⟩:=L4.reads;obtain⟨⟨p0,p1,p2⟩,g0,g1,g2⟩:=M4.reads;generalize hp0:partOf ns x c8 z=f0 at *;have hA5:=hA4.set (p:=⟨wc.heap.size,1,none⟩) M4.out hs2 (.int .i64 (f0:Int));have L5:=L4.setOther (j:=1) M4.out hne (.int .i64 (f0:Int));have M5:=M4.set (j:=1) (.int .i64 (f0:Int));simp only[List.setIfInBounds_toArray,List.set_cons_succ,List.set_cons_zero]at M5;obtain⟨⟨q0',q1',q2'⟩,_⟩:=L5.reads;go_wp2_with fail;refine(cC hA5.bu z i2 (by omega)).mono ?_;rintro e w6⟨rfl,hp⟩;have hA6:=hA5.then hp;have L6:=L5.kp hp.kp;have M6:=M5.kp hp.kp;clear hp L5 M5 hA5 L4 M4 hA4 q0 q1 q2 p0 p1 p2 g0 g1 g2 q0' q1' q2';obtain⟨⟨p0,p1,p2⟩,g0,g1,g2⟩:=M6.reads;generalize hp1:partOf ns y c8 z=f1 at *;have hA7:=hA6.set (p:=⟨wc.heap.size,2,none⟩) M6.out hs2 (.int .i64 (f1:Int));have L7:=L6.setOther (j:=2) M6.out hne (.int .i64 (f1:Int));have M7:=M6.set (j:=2) (.int .i64 (f1:Int));simp only[List.setIfInBounds_toArray,List.set_cons_succ,List.set_cons_zero]at M7;obtain⟨⟨p0',p1',p2'⟩,_⟩:=M7.reads;go_wp2_with fail;have lt0:f0<ns.length:=by rw[<- hp0];exact O8 wf i1 hl z
   have lt1:f1<ns.length:=by rw[<- hp1];exact O8 wf i2 hl z
   have k1:c8<=nv ns x:=by have:=hml'.out;simp only[f9]at this;omega
   have k2:c8<=nv ns y:=by have:=hml'.out;simp only[f9]at this;omega
   refine(numberOf_any hA7.bu (v:=c8) (l:=f0) (u:=f1) hl lt0 lt1 (λ_=>⟨by rw[<- hp0];exact J6 wf i1 hl k1 z,by rw[<- hp1];exact J6 wf i2 hl k2 z⟩)).mono ?_;rintro e w8⟨f,ns3,full3,rfl,hp,X3,l3,lt3,mo3,s3⟩;have hA8:=(hA7.then hp).drew;have L8:=(L7.kp hp.kp).drew;clear hp L7 hA7 M7 M6 hA6 L6 p0 p1 p2 g0 g1 g2 p0' p1' p2';have wf3:=hA8.bu.ar.wf;have len3:ns3.length<=40000:=Nat.le_trans hA8.bu.ar.le hA8.bu.ar.most4;obtain⟨w9,hrun,hM9,hg9⟩:=(hA8.bu.o2 c2 hc2).store tz3 (by unfold maxLen;omega) (x:=(x,y,z)) ho (v:=f) (by omega);have hA9:=hA8.memo2 hc2 hM9 hg9;obtain⟨⟨q0,q1,q2⟩,_⟩:=L8.reads;obtain⟨d0,d1,d2,d3,d4,df⟩:=hA8.bu.reads;rw[hc2]at d3;simp only[aF]at hrun;have hfin:bQ C w ns false N m1 m3 c8 (x,y,z) 1 (.returned (.int .i64 (f:Int))) w9:=by
    refine⟨f,ns3,full3,N+1,_,rfl,hA9,X3,by omega,by omega,lt3,(λe=>by cases e),λe3=>?_⟩;have J:IsBl ns3 c8 (x,y,z) f:=by
     refine pK wf3 (hin.ext X3) hl (by rw[cF hin X3];exact hml'.out) ?_;rw[W8 X3 hin.1,W8 X3 hin.2];show IsNode ns3 c8 (partOf ns x c8 z) (partOf ns y c8 z) f;rw[hp0,hp1];exact s3 e3
    exact⟨(hm.ext X3 wf wf3).upd J,J⟩
   clear hA8 hM9 hg9 L8 hA9;go_wp2_with fail;go_region;all_goals
    go_wp2_with fail;go_ret;exact hfin
end
end Go.Proofs.YtppbfikimalojaaGreat
namespace Go.Proofs.YtppbfikimalojaaGreat
open Tryz
section
variable {S:Nat->Bool}{b8:Nat}{ns ns':List Nd}
structure FitM(S:Nat->Bool)(c8:Nat)(ns:List Nd)(x:Mx)(k:Nat):Prop where
 d1:DepS S (ev ns x.1)
 d2:DepS S (ev ns x.2.1)
 hl:S c8=true
 le:cnS S (c8+1) (f9 ns x c8)<=k
theorem pP(ns:List Nd)(x:Mx)(c8:Nat):f9 ns x c8<=c8:=by unfold f9;omega
theorem FitM.pos{c8 k:Nat}{x:Mx}(h:FitM S c8 ns x k):1<=k:=by
 have h1:=aq (b8:=c8+1) (Nat.lt_succ_self c8) h.hl;have h2:=O9 (S:=S) (b8:=c8+1) (pP ns x c8);have:=h.le;omega
theorem FitM.down(wf:Wf b8 ns){c8 k:Nat}{x:Mx}(hx:InsideM ns x)(hl:c8<b8)(hv:f9 ns x c8<c8)(h:FitM S c8 ns x (k+1))(val:Bool):FitM S c8 ns (pm ns x (f9 ns x c8) val) k:=by
 have hvv:f9 ns x c8<b8:=by omega
 have k1:f9 ns x c8<=nv ns x.1:=by unfold f9;omega
 have k2:f9 ns x c8<=nv ns x.2.1:=by unfold f9;omega
 refine⟨h.d1.part wf hx.1 hvv k1 val,h.d2.part wf hx.2 hvv k2 val,h.hl,?_⟩;have hin:S (f9 ns x c8)=true:=by
  obtain⟨a,b,z⟩:=x;have hm:f9 ns (a,b,z) c8=nv ns a\/f9 ns (a,b,z) c8=nv ns b:=by simp only[f9]at hv ⊢;omega
  rcases hm with e|e
  ·rw[e]at hvv ⊢;exact h.d1.var wf (va_lt wf hx.1 hvv) hx.1
  ·rw[e]at hvv ⊢;exact h.d2.var wf (va_lt wf hx.2 hvv) hx.2
 have hm:=jA wf hx hl hv val;have h1:=aq (b8:=c8+1) (by omega) hin;have h2:=O9 (S:=S) (b8:=c8+1) (show f9 ns x c8+1<=f9 ns (pm ns x (f9 ns x c8) val) c8 from hm);have:=h.le;omega
theorem FitM.ext(wf:Wf b8 ns)(wf':Wf b8 ns'){c8 k:Nat}{x:Mx}(hx:InsideM ns x)(X:Ext ns ns')(h:FitM S c8 ns x k):FitM S c8 ns' x k :=
 ⟨h.d1.ext wf wf' X hx.1,h.d2.ext wf wf' X hx.2,h.hl,by rw[cF hx X];exact h.le⟩
structure FitW(S:Nat->Bool)(i j b8:Nat)(ns:List Nd)(f k:Nat):Prop where
 d:DepS S (ev ns f)
 hi:S i=true
 hj:S j=true
 le:cnS S b8 (min (nv ns f) i)<=k
theorem FitW.pos{i j f k:Nat}(hiv:i<b8)(h:FitW S i j b8 ns f k):1<=k:=by
 have h1:=aq hiv h.hi;have h2:=O9 (S:=S) (b8:=b8) (show min (nv ns f) i<=i by omega);have:=h.le;omega
theorem FitW.step(wf:Wf b8 ns){i j f k:Nat}(f2:2<=f)(hf:f<ns.length)(hi:nv ns f<i)(h:FitW S i j b8 ns f (k+1)){g:Nat}(hg:nv ns f<nv ns g)(hd:DepS S (ev ns g)):FitW S i j b8 ns g k:=by
 refine⟨hd,h.hi,h.hj,?_⟩;have h1:=aq (wf.va f f2 hf) (h.d.var wf f2 hf);have h2:=O9 (S:=S) (b8:=b8) (show nv ns f+1<=min (nv ns g) i by omega);have h3:=h.le;rw[show min (nv ns f) i=nv ns f by omega]at h3;omega
theorem FitW.lo(wf:Wf b8 ns){i j f k:Nat}(f2:2<=f)(hf:f<ns.length)(hi:nv ns f<i)(h:FitW S i j b8 ns f (k+1)):FitW S i j b8 ns (nl ns f) k :=
 h.step wf f2 hf hi (wf.vlo f f2 hf) (λe e' he=>by rw[eM wf f2 hf,eM wf f2 hf];exact h.d.set _ _ e e' he)
theorem FitW.hi'(wf:Wf b8 ns){i j f k:Nat}(f2:2<=f)(hf:f<ns.length)(hi:nv ns f<i)(h:FitW S i j b8 ns f (k+1)):FitW S i j b8 ns (nh ns f) k :=
 h.step wf f2 hf hi (wf.vhi f f2 hf) (λe e' he=>by rw[eN wf f2 hf,eN wf f2 hf];exact h.d.set _ _ e e' he)
theorem FitW.ext(wf:Wf b8 ns)(wf':Wf b8 ns'){i j f k:Nat}(hf:f<ns.length)(X:Ext ns ns')(h:FitW S i j b8 ns f k):FitW S i j b8 ns' f k :=
 ⟨h.d.ext wf wf' X hf,h.hi,h.hj,by rw[X.va hf];exact h.le⟩
theorem FitW.mix(wf:Wf b8 ns){i j f k:Nat}(hij:i<j)(hj:j<b8)(hf:f<ns.length)(hi:i<=nv ns f)(h:FitW S i j b8 ns f (k+1))(z:Bool):FitM S j ns (partOf ns f i false,partOf ns f i true,z) k:=by
 have hiv:i<b8:=by omega
 refine⟨h.d.part wf hf hiv hi false,h.d.part wf hf hiv hi true,h.hj,?_⟩;have v0:=J6 wf hf hiv hi false;have v1:=J6 wf hf hiv hi true;have hm:i+1<=f9 ns (partOf ns f i false,partOf ns f i true,z) j:=by simp only[f9];omega
 have h1:=aq hiv h.hi;have h2:=O9 (S:=S) (b8:=j+1) hm;have h3:=nY (S:=S) (v:=i+1) (show j+1<=b8 by omega);have h4:=h.le;rw[show min (nv ns f) i=i by omega]at h4;omega
end
end Go.Proofs.YtppbfikimalojaaGreat
namespace Go.Proofs.YtppbfikimalojaaGreat
open Tryz
open Go.RowKit Go.Maps
section
variable {C:Cfg}{w:World}{ns:List Nd}{N:Nat}{m1:Nd->Option Nat}{m2:Mx->Option Nat}{m3:Nat->Option Nat}
theorem pQ(h:Bu C w ns false N m1 m2 m3){c2:Nat}(hc2:C.c2=some c2){x y c8 k:Nat}{z:Bool}(hin:InsideM ns (x,y,z))(hf:m2 (x,y,z)=none)(hl:c8<C.b8)(hml:f9 ns (x,y,z) c8<c8){S:Nat->Bool}(hk:FitM S c8 ns (x,y,z) (k+1))(hm:MemoB ns c8 m2)(hN:N+2 ^ (k+1)<=1099511627776)
  (ih:Hq (∀w ns d9 N m2 x,Bu C w ns d9 N m1 m2 m3->InsideM ns x->FitM S c8 ns x k->(d9=false->MemoB ns c8 m2)->N+2 ^ k<=1099511627776->Calls prog 231 #[.pointer (some ⟨C.b,0,none⟩),I5 x,.int .i64 (c8:Int)] w (bQ C w ns d9 N m1 m3 c8 x (2 ^ k-1)))) :
  Calls prog 231 #[.pointer (some ⟨C.b,0,none⟩),I5 (x,y,z),.int .i64 (c8:Int)] w (bQ C w ns false N m1 m3 c8 (x,y,z) (2 ^ (k+1)-1)):=by
 have hl4:ns.length<=40000:=Nat.le_trans h.ar.le h.ar.most4;obtain⟨i1,i2⟩:=id hin;simp only[]at i1 i2;have ho:okx (x,y,z):=⟨by show x<_;omega,by show y<_;omega⟩;have hA:=((At.refl h).alloc (.cells #[.int .i64 (x:Int),.int .i64 (y:Int),.bool z] 287)).drew;have L:=(h.loc #[.int .i64 (x:Int),.int .i64 (y:Int),.bool z] 287).drew;obtain⟨b0,b1,b2,b3,b4,bf⟩:=h.reads;have lb:=h.ltb;have hlook:=(hA.bu.o2 c2 hc2).look tz3 (x:=(x,y,z)) ho;rw[hf]at hlook;simp only[aF,Option.getD_none,Option.isSome_none]at hlook;rw[hc2]at b3;have wf:=h.ar.wf;have v16:=h.ar.vars16;have hp2:2 ^ (k+1)=2*2 ^ k:=by rw[Nat.pow_succ];omega
 have hp1:1<=2 ^ k:=Nat.one_le_two_pow;have HF:Hq (∀val,FitM S c8 ns (pm ns (x,y,z) (f9 ns (x,y,z) c8) val) k):=⟨λval=>hk.down wf hin hl hml val⟩;clear hk;have hpm:∀val,f9 ns (x,y,z) c8<f9 ns (pm ns (x,y,z) (f9 ns (x,y,z) c8) val) c8:=λval=>jA wf hin hl hml val;have hmn:∀(ts:Array TypeId) (t:TypeId) (W:World),(Builtin.min_ ts t #[.int .i64 (nv ns x:Int),.int .i64 (nv ns y:Int),.int .i64 (c8:Int)]).run prog W=.ok (.int .i64 (f9 ns (x,y,z) c8:Int)) W:=λts t W=>gC (nv ns x) (nv ns y) c8 ts t W;generalize hv:f9 ns (x,y,z) c8=v at *;have hvl:((v:Int) ==(c8:Int))=false:=by simp;omega
 clear h;go_enter func231,ntmps231;go_wp2_with fail;go_cut [7,8] (λv5 v6 wx=>v5=.int .i64 0/\v6=.bool false/\eV C w wx ns N m1 m2 m3 x y z)
 case first =>
  go_region;all_goals
   go_wp2_with fail
   go_meet
   exact⟨rfl,rfl,hA,L⟩
 case rest =>
  obtain⟨rfl,rfl,hA1,L1⟩:=hcut;clear hA L hlook;obtain⟨⟨q0,q1,q2⟩,_⟩:=L1.reads;go_wp2_with fail;go_cut [9] (λv7 wx=>v7=.int .i64 (v:Int)/\eV C w wx ns N m1 m2 m3 x y z)
  case first =>
   have hA2:=hA1.drew;go_region_held3 (λw'=>w'.cell? ⟨w.heap.size,0,none⟩=some (.int .i64 (x:Int))/\w'.cell? ⟨w.heap.size,1,none⟩=some (.int .i64 (y:Int))) (go_keep)
    (first|(go_at_call 218;refine(variable_any (At.bu (w0:=w) ‹_›) ‹_›).mono ?_;rintro e wn⟨rfl,rfl⟩))
   go_wp2_with fail
   go_meet
   exact⟨rfl,hA2,L1.drew⟩
  case rest =>
   obtain⟨rfl,hA2,L2⟩:=hcut;clear hA1 L1 q0 q1 q2 hmn;have hs2:=hA2.kp.size;have hA3:=hA2.alloc (.cells #[.int .i64 (v:Int),.int .i64 0,.int .i64 0] 143);have L3:=L2.alloc hA2.bu (.cells #[.int .i64 (v:Int),.int .i64 0,.int .i64 0] 143);have M3:=hA2.loc #[.int .i64 (v:Int),.int .i64 0,.int .i64 0] 143;have hne:w.heap.size≠wc.heap.size:=by have:=L2.out.lt;omega
   obtain⟨⟨q0,q1,q2⟩,_⟩:=L3.reads;go_wp2_with fail;refine(iQ (c:=(x,y,z)) hA3.bu false i1 i2 (by omega)).mono ?_;rintro e w3⟨rfl,hp⟩;have hA4:=hA3.then hp;have L4:=L3.kp hp.kp;have M4:=M3.kp hp.kp;clear hp L3 M3 hA3 q0 q1 q2;go_wp2_with fail;refine(ih.out w3 ns false N m2 (pm ns (x,y,z) v false) hA4.bu (eU wf hin (by omega) false) (HF.out false) (λ_=>hm) (by omega)).mono ?_;rintro e w4⟨f0,ns1,full1,N1,m21,rfl,hp,X1,l1,n1,lt0,_,s1⟩;have hA5:=hA4.then hp;have L5:=L4.kp hp.kp;have M5:=M4.kp hp.kp;clear hp L4 M4 hA4;have wf1:=hA5.bu.ar.wf;have hin1:=hin.ext X1;have pe1:=gE hin X1 v true;obtain⟨j1,j2⟩:=id hin1;obtain⟨⟨p0,p1,p2⟩,g0,g1,g2⟩:=M5.reads;have hA6:=hA5.set (p:=⟨wc.heap.size,1,none⟩) M5.out hs2 (.int .i64 (f0:Int));have L6:=L5.setOther (j:=1) M5.out hne (.int .i64 (f0:Int));have M6:=M5.set (j:=1) (.int .i64 (f0:Int));simp only[List.setIfInBounds_toArray,List.set_cons_succ,List.set_cons_zero]at M6;obtain⟨⟨q0,q1,q2⟩,_⟩:=L6.reads;go_wp2_with fail;refine(iQ (c:=(x,y,z)) hA6.bu true j1 j2 (by omega)).mono ?_;rintro e w5⟨rfl,hp⟩;have hA7:=hA6.then hp;have L7:=L6.kp hp.kp;have M7:=M6.kp hp.kp;clear hp L5 M5 hA5 L6 M6 hA6 q0 q1 q2 p0 p1 p2 g0 g1 g2;go_wp2_with fail;refine(ih.out w5 ns1 full1 N1 m21 (pm ns1 (x,y,z) v true) hA7.bu (eU wf1 hin1 (by omega) true) (by rw[pe1];exact(HF.out true).ext wf wf1 (eU wf hin (by omega) true) X1) (λe=>(s1 e).1) (by omega)).mono ?_;rintro e w6⟨f1,ns2,full2,N2,m22,rfl,hp,X2,l2,n2,lt1,mo2,s2⟩;have hA8:=hA7.then hp;have L8:=L7.kp hp.kp;have M8:=M7.kp hp.kp;clear hp L7 M7 hA7;have wf2:=hA8.bu.ar.wf;have X2l:=X2.len;have sem2:full2=false->MemoB ns2 c8 m22/\IsBl ns2 c8 (pm ns (x,y,z) v false) f0/\IsBl ns2 c8 (pm ns (x,y,z) v true) f1:=λe2=>by
    have e1:full1=false:=by cases full1 <;> simp_all
    have a1:=(s1 e1).2.ext X2 wf1 wf2;have a2:=s2 e2;rw[pe1]at a2;exact⟨a2.1,a1,a2.2⟩
   obtain⟨⟨p0,p1,p2⟩,g0,g1,g2⟩:=M8.reads;have hA9:=hA8.set (p:=⟨wc.heap.size,2,none⟩) M8.out hs2 (.int .i64 (f1:Int));have L9:=L8.setOther (j:=2) M8.out hne (.int .i64 (f1:Int));have M9:=M8.set (j:=2) (.int .i64 (f1:Int));simp only[List.setIfInBounds_toArray,List.set_cons_succ,List.set_cons_zero]at M9;obtain⟨⟨p0',p1',p2'⟩,_⟩:=M9.reads;go_wp2_with fail;refine(numberOf_any hA9.bu (v:=v) (l:=f0) (u:=f1) (by omega) (by omega) lt1 (λe2=>?_)).mono ?_
   ·obtain⟨_,a1,a2⟩:=sem2 e2;have b1:=a1.va;have b2:=a2.va;rw[cF (eU wf hin (by omega) _) (X1.trans X2)]at b1 b2;have:=hpm false;have:=hpm true;omega
   rintro e w8⟨f,ns3,full3,rfl,hp,X3,l3,lt3,mo3,s3⟩;have hA10:=(hA9.then hp).drew;have L10:=(L9.kp hp.kp).drew;clear hp L9 hA9 M9 M8 hA8 L8 p0 p1 p2 g0 g1 g2 p0' p1' p2';have wf3:=hA10.bu.ar.wf;have len3:ns3.length<=40000:=Nat.le_trans hA10.bu.ar.le hA10.bu.ar.most4;obtain⟨w9,hrun,hM9,hg9⟩:=(hA10.bu.o2 c2 hc2).store tz3 (by unfold maxLen;omega) (x:=(x,y,z)) ho (v:=f) (by omega);have hA11:=hA10.memo2 hc2 hM9 hg9;obtain⟨⟨q0,q1,q2⟩,_⟩:=L10.reads;obtain⟨d0,d1,d2,d3,d4,df⟩:=hA10.bu.reads;rw[hc2]at d3;simp only[aF]at hrun;have hfin:bQ C w ns false N m1 m3 c8 (x,y,z) (2 ^ (k+1)-1) (.returned (.int .i64 (f:Int))) w9:=by
    have X03:=(X1.trans X2).trans X3;refine⟨f,ns3,full3,N2+1,_,rfl,hA11,X03,by omega,by omega,lt3,(λe=>by cases e),λe3=>?_⟩;have e2:full2=false:=by cases full2 <;> simp_all
    obtain⟨a0,a1,a2⟩:=sem2 e2;have hv3:f9 ns3 (x,y,z) c8=v:=by rw[cF hin X03];exact hv
    have J:IsBl ns3 c8 (x,y,z) f:=by
     refine pL (l:=f0) (u:=f1) wf3 (hin.ext X03) hl (by rw[hv3];omega) ?_ ?_ (by rw[hv3];exact s3 e3)
     ·rw[hv3,gE hin X03];exact a1.ext X3 wf2 wf3
     ·rw[hv3,gE hin X03];exact a2.ext X3 wf2 wf3
    exact⟨(a0.ext X3 wf2 wf3).upd J,J⟩
   clear hA10 hM9 hg9 L10 hA11;go_wp2_with fail;go_region;all_goals
    go_wp2_with fail;go_ret;exact hfin
theorem pR(S:Nat->Bool){c2:Nat}(hc2:C.c2=some c2){c8:Nat}(hl:c8<C.b8):∀(k:Nat) (w:World) (ns:List Nd) (d9:Bool) (N:Nat) (m2:Mx->Option Nat) (x:Mx),Bu C w ns d9 N m1 m2 m3->InsideM ns x->FitM S c8 ns x k->(d9=false->MemoB ns c8 m2) ->
  N+2 ^ k<=1099511627776->Calls prog 231 #[.pointer (some ⟨C.b,0,none⟩),I5 x,.int .i64 (c8:Int)] w (bQ C w ns d9 N m1 m3 c8 x (2 ^ k-1)):=by
 intro k
 induction k with
 | zero =>
   intro w ns d9 N m2 x _ _ hk;have:=hk.pos;omega
 | succ k ih =>
   intro w ns d9 N m2 c h hin hk hm hN;cases d9
   ·obtain⟨x,y,z⟩:=c;have hl4:ns.length<=40000:=Nat.le_trans h.ar.le h.ar.most4;obtain⟨i1,i2⟩:=id hin;simp only[]at i1 i2;have hp2:2 ^ (k+1)=2*2 ^ k:=by rw[Nat.pow_succ];omega
    have hp1:1<=2 ^ k:=Nat.one_le_two_pow;cases hf:m2 (x,y,z)with
    | none =>
      by_cases hml:f9 ns (x,y,z) c8<c8
      ·exact pQ h hc2 hin hf hl hml hk (hm rfl) hN ⟨ih⟩
      ·have he:f9 ns (x,y,z) c8=c8:=by
        have:f9 ns (x,y,z) c8<=c8:=by unfold f9;omega
        omega
       refine(pO h hc2 hin hf hl he (hm rfl) (by omega)).mono ?_;rintro e w'⟨r,ns',full',N',m2',q1,q2,q3,q4,q5,q6⟩;exact⟨r,ns',full',N',m2',q1,q2,q3,by omega,by omega,q6⟩
    | some f =>
      refine(pN h hc2 c8 ⟨by show x<_;omega,by show y<_;omega⟩ hf).mono ?_;rintro e w'⟨rfl,hA⟩;have J:=hm rfl _ _ hf;exact⟨f,ns,false,N,m2,rfl,hA,Ext.refl _,by omega,by omega,J.lt,id,λ_=>⟨hm rfl,J⟩⟩
   ·refine(pM h c c8).mono ?_;rintro e w'⟨rfl,hA⟩;exact⟨0,ns,true,N,m2,rfl,hA,Ext.refl _,by omega,by omega,(by have:=h.ar.wf.len;omega),id,λe=>by cases e⟩
end
def swE(e:Env)(i j:Nat):Env:=λx=>if x=i then e j else if x=j then e i else e x
structure IsSw(ns:List Nd)(i j f g:Nat):Prop where
 ltf:f<ns.length
 lt:g<ns.length
 ev:∀e,ev ns g e=ev ns f (swE e i j)
 va:min (nv ns f) i<=nv ns g
section
variable {b8:Nat}{ns ns':List Nd}
theorem IsSw.ext{i j f g:Nat}(h:IsSw ns i j f g)(X:Ext ns ns')(wf:Wf b8 ns)(wf':Wf b8 ns'):IsSw ns' i j f g:=by
 have hl:=X.len;have lt:=h.lt;have ltf:=h.ltf;refine⟨by omega,by omega,λe=>?_,?_⟩
 ·rw[X.ev wf wf' _ h.lt,X.ev wf wf' _ h.ltf];exact h.ev e
 ·rw[X.va h.ltf,X.va h.lt];exact h.va
def MemoS(ns:List Nd)(i j:Nat)(m:Nat->Option Nat):Prop:=∀f g,m f=some g->IsSw ns i j f g
theorem MemoS.ext{i j:Nat}{m:Nat->Option Nat}(h:MemoS ns i j m)(X:Ext ns ns')(wf:Wf b8 ns)(wf':Wf b8 ns'):MemoS ns' i j m:=λc f e=>(h c f e).ext X wf wf'
theorem MemoS.upd{i j:Nat}{m:Nat->Option Nat}(h:MemoS ns i j m){c f:Nat}(hf:IsSw ns i j c f):MemoS ns i j (upd m c f):=by
 intro d g hg;unfold YtppbfikimalojaaGreat.upd at hg;by_cases e:d=c
 ·subst e;rw[if_pos rfl]at hg;cases hg;exact hf
 ·rw[if_neg e]at hg;exact h d g hg
theorem pS(wf:Wf b8 ns){i j f:Nat}(hij:i<j)(hf:f<ns.length)(hj:j<nv ns f):IsSw ns i j f f :=
 ⟨hf,hf,λe=>eI wf f hf _ _ (λx hx _=>by unfold swE;rw[if_neg (by omega),if_neg (by omega)]),by omega⟩
theorem pT(wf:Wf b8 ns){i j f l u g:Nat}(hij:i<j)(f2:2<=f)(hf:f<ns.length)(hi:nv ns f<i)(h0:IsSw ns i j (nl ns f) l)(h1:IsSw ns i j (nh ns f) u)(hn:IsNode ns (nv ns f) l u g):IsSw ns i j f g:=by
 refine⟨hf,hn.lt,λe=>?_,by have:=hn.va;omega⟩;have e0:swE e i j (nv ns f)=e (nv ns f):=by unfold swE;rw[if_neg (by omega),if_neg (by omega)]
 rw[hn.ev,h0.ev,h1.ev,U9 wf f2 hf,e0]
theorem pU(wf:Wf b8 ns){i j f l u g:Nat}(hij:i<j)(hj:j<b8)(hf:f<ns.length)(hi:i<=nv ns f)(h0:IsBl ns j (partOf ns f i false,partOf ns f i true,false) l)(h1:IsBl ns j (partOf ns f i false,partOf ns f i true,true) u)(hn:IsNode ns i l u g):IsSw ns i j f g:=by
 refine⟨hf,hn.lt,λe=>?_,by have:=hn.va;omega⟩;have hiv:i<b8:=by omega
 have e0:=h0.ev e;have e1:=h1.ev e;simp only[W6 wf hf hiv hi]at e0 e1;rw[hn.ev,e0,e1];have sw:∀a b,e i=a->e j=b->setE (setE e j a) i b=swE e i j:=by
  intro a b ha hb
  funext x
  unfold setE swE;by_cases h1:x=i
  ·simp[h1,hb]
  ·by_cases h2:x=j
   ·simp[h2,ha,show j≠i by omega]
   ·simp[h1,h2]
 cases ha:e i <;> cases hb:e j
 ·rw[<- sw _ _ ha hb];simp
 ·rw[<- sw _ _ ha hb];simp
 ·rw[<- sw _ _ ha hb];simp
 ·rw[<- sw _ _ ha hb];simp
end
def cG(C:Cfg)(w:World)(ns:List Nd)(d9:Bool)(N:Nat)(m1:Nd->Option Nat)(i j f:Nat)(g:Nat)(e:Ending)(w':World):Prop :=
 ∃r ns' full' N' m2' m3',e=.returned (.int .i64 ((r:Nat):Int))/\At C w w' ns' full' N' m1 m2' m3'/\Ext ns ns'/\ns'.length<=ns.length+g/\N'<=N+g/\r<ns'.length/\(d9=true->full'=true)/\(full'=false->MemoB ns' j m2'/\MemoS ns' i j m3'/\IsSw ns' i j f r)
theorem run_min2(x y:Nat)(ts:Array TypeId)(t:TypeId)(W:World):(Builtin.min_ ts t #[.int .i64 (x:Int),.int .i64 (y:Int)]).run prog W=.ok (.int .i64 ((min x y:Nat):Int)) W:=by
 have e:((min x y:Nat):Int)=if(y:Int)<(x:Int)then(y:Int)else(x:Int):=by split <;> omega
 rw[e];simp[Builtin.min_,Builtin.min2]
section
variable {C:Cfg}{w:World}{ns:List Nd}{N:Nat}{m1:Nd->Option Nat}{m2:Mx->Option Nat}{m3:Nat->Option Nat}
theorem pV(h:Bu C w ns true N m1 m2 m3){f:Nat}(hf:f<ns.length)(i j:Nat) :
  Calls prog 228 #[.pointer (some ⟨C.b,0,none⟩),.int .i64 (f:Int),.int .i64 (i:Int),.int .i64 (j:Int)] w λe w'=>e=.returned (.int .i64 0)/\At C w w' ns true N m1 m2 m3:=by
 have hA:=(At.refl h).alloc (.cells #[.int .i64 (nv ns f:Int),.int .i64 (nl ns f:Int),.int .i64 (nh ns f:Int)] 143);obtain⟨b0,b1,b2,b3,b4,bf⟩:=h.reads;obtain⟨cap,a0,a1,a2,a3,af,an⟩:=h.ar.reads;obtain⟨n0,n1,n2⟩:=an f hf;have hl:ns.length<=40000:=Nat.le_trans h.ar.le h.ar.most4;have lb:=h.ltb;clear h an;generalize rowOf w C.a=g at *;go_enter func228,ntmps228;go_wp2_with fail;go_ret;exact⟨rfl,hA⟩
theorem pW(h:Bu C w ns false N m1 m2 m3){f i j:Nat}(hf:f<ns.length)(hi:j<nv ns f) :
  Calls prog 228 #[.pointer (some ⟨C.b,0,none⟩),.int .i64 (f:Int),.int .i64 (i:Int),.int .i64 (j:Int)] w λe w'=>e=.returned (.int .i64 (f:Int))/\At C w w' ns false N m1 m2 m3:=by
 have hA:=(At.refl h).alloc (.cells #[.int .i64 (nv ns f:Int),.int .i64 (nl ns f:Int),.int .i64 (nh ns f:Int)] 143);obtain⟨b0,b1,b2,b3,b4,bf⟩:=h.reads;obtain⟨cap,a0,a1,a2,a3,af,an⟩:=h.ar.reads;obtain⟨n0,n1,n2⟩:=an f hf;have hl:ns.length<=40000:=Nat.le_trans h.ar.le h.ar.most4;have lb:=h.ltb;have t1:decide ((j:Int)<(nv ns f:Int))=true:=by simp;omega
 clear h an;generalize rowOf w C.a=g at *;go_enter func228,ntmps228;go_wp2_with fail;go_ret;exact⟨rfl,hA⟩
theorem pX(h:Bu C w ns false N m1 m2 m3){c3:Nat}(hc3:C.c3=some c3){f i j r:Nat}(hf:f<ns.length)(hi:nv ns f<=j)(hr:m3 f=some r) :
  Calls prog 228 #[.pointer (some ⟨C.b,0,none⟩),.int .i64 (f:Int),.int .i64 (i:Int),.int .i64 (j:Int)] w λe w'=>e=.returned (.int .i64 (r:Int))/\At C w w' ns false N m1 m2 m3:=by
 have hA:=(At.refl h).alloc (.cells #[.int .i64 (nv ns f:Int),.int .i64 (nl ns f:Int),.int .i64 (nh ns f:Int)] 143);obtain⟨b0,b1,b2,b3,b4,bf⟩:=h.reads;obtain⟨cap,a0,a1,a2,a3,af,an⟩:=h.ar.reads;obtain⟨n0,n1,n2⟩:=an f hf;have hl:ns.length<=40000:=Nat.le_trans h.ar.le h.ar.most4;have lb:=h.ltb;have t1:decide ((j:Int)<(nv ns f:Int))=false:=by simp;omega
 have hlook:=(hA.bu.o3 c3 hc3).look tz4 (x:=f) (by show f<_;omega);rw[hr]at hlook;simp only[G7,Option.getD_some,Option.isSome_some]at hlook;rw[hc3]at b4;clear h an;generalize rowOf w C.a=g at *;go_enter func228,ntmps228;go_wp2_with fail;go_ret;exact⟨rfl,hA⟩
theorem pY(h:Bu C w ns false N m1 m2 m3){c3:Nat}(hc3:C.c3=some c3){f i j k:Nat}(hij:i<j)(hj:j<C.b8)(hf:f<ns.length)(hi:nv ns f<i)(hr:m3 f=none){S:Nat->Bool}(hk:FitW S i j C.b8 ns f (k+1))(hmb:MemoB ns j m2)(hms:MemoS ns i j m3)(hN:N+2 ^ (k+1)<=1099511627776)
  (ih:Hq (∀w ns d9 N m2 m3 f,Bu C w ns d9 N m1 m2 m3->f<ns.length->FitW S i j C.b8 ns f k->(d9=false->MemoB ns j m2/\MemoS ns i j m3)->N+2 ^ k<=1099511627776->Calls prog 228 #[.pointer (some ⟨C.b,0,none⟩),.int .i64 (f:Int),.int .i64 (i:Int),.int .i64 (j:Int)] w (cG C w ns d9 N m1 i j f (2 ^ k-1)))) :
  Calls prog 228 #[.pointer (some ⟨C.b,0,none⟩),.int .i64 (f:Int),.int .i64 (i:Int),.int .i64 (j:Int)] w (cG C w ns false N m1 i j f (2 ^ (k+1)-1)):=by
 have hA:=(At.refl h).alloc (.cells #[.int .i64 (nv ns f:Int),.int .i64 (nl ns f:Int),.int .i64 (nh ns f:Int)] 143);have L:=h.loc #[.int .i64 (nv ns f:Int),.int .i64 (nl ns f:Int),.int .i64 (nh ns f:Int)] 143;have hA1:=hA.alloc (.cells #[.int .i64 (nv ns f:Int),.int .i64 0,.int .i64 0] 143);have L1:=L.alloc hA.bu (.cells #[.int .i64 (nv ns f:Int),.int .i64 0,.int .i64 0] 143);have M1:=hA.loc #[.int .i64 (nv ns f:Int),.int .i64 0,.int .i64 0] 143;rw[show(w.alloc (.cells #[.int .i64 (nv ns f:Int),.int .i64 (nl ns f:Int),.int .i64 (nh ns f:Int)] 143)).heap.size=w.heap.size+1 by simp]at M1;obtain⟨b0,b1,b2,b3,b4,bf⟩:=h.reads;obtain⟨cap,a0,a1,a2,a3,af,an⟩:=h.ar.reads;obtain⟨n0,n1,n2⟩:=an f hf;have hl:ns.length<=40000:=Nat.le_trans h.ar.le h.ar.most4;have lb:=h.ltb;have wf:=h.ar.wf;have f2:2<=f:=va_lt wf hf (by omega);have hlo:=wf.lo f f2 hf;have hhi:=wf.hi f f2 hf;have vlo:=wf.vlo f f2 hf;have vhi:=wf.vhi f f2 hf;have hp2:2 ^ (k+1)=2*2 ^ k:=by rw[Nat.pow_succ];omega
 have hp1:1<=2 ^ k:=Nat.one_le_two_pow;have HF:Hq (FitW S i j C.b8 ns (nl ns f) k/\FitW S i j C.b8 ns (nh ns f) k):=⟨hk.lo wf f2 hf hi,hk.hi' wf f2 hf hi⟩;clear hk;have t1:decide ((j:Int)<(nv ns f:Int))=false:=by simp;omega
 have t2:decide ((nv ns f:Int)<(i:Int))=true:=by simp;omega
 have hmn:∀(ts:Array TypeId) (t:TypeId) (W:World),(Builtin.min_ ts t #[.int .i64 (nv ns f:Int),.int .i64 (i:Int)]).run prog W=.ok (.int .i64 (nv ns f:Int)) W:=λts t W=>by
  have:=run_min2 (nv ns f) i ts t W;rw[show min (nv ns f) i=nv ns f by omega]at this;exact this
 have hlook:=(hA.bu.o3 c3 hc3).look tz4 (x:=f) (by show f<_;omega);rw[hr]at hlook;simp only[G7,Option.getD_none,Option.isSome_none]at hlook;rw[hc3]at b4;clear h an;generalize rowOf w C.a=g at *;go_enter func228,ntmps228;go_wp2_with fail;refine(ih.out _ ns false N m2 m3 (nl ns f) hA1.bu (by omega) HF.out.1 (λ_=>⟨hmb,hms⟩) (by omega)).mono ?_;rintro e w4⟨f0,ns1,full1,N1,m21,m31,rfl,hp,X1,l1,k1,lt0,_,s1⟩;have hA4:=hA1.then hp;have L4:=L1.kp hp.kp;have M4:=M1.kp hp.kp;clear hp hA L hA1 L1 M1 hlook b0 b1 b2 b3 b4 bf a0 a1 a2 a3 af n0 n1 n2 hmn;have wf1:=hA4.bu.ar.wf;have X1l:=X1.len;obtain⟨⟨p0,p1,p2⟩,g0,g1,g2⟩:=M4.reads;have hA5:=hA4.set (p:=⟨w.heap.size+1,1,none⟩) M4.out (Nat.le_succ _) (.int .i64 (f0:Int));have L5:=L4.setOther (j:=1) M4.out (by omega) (.int .i64 (f0:Int));have M5:=M4.set (j:=1) (.int .i64 (f0:Int));simp only[List.setIfInBounds_toArray,List.set_cons_succ,List.set_cons_zero]at M5;obtain⟨⟨q0,q1,q2⟩,_⟩:=L5.reads;go_wp2_with fail;refine(ih.out _ ns1 full1 N1 m21 m31 (nh ns f) hA5.bu (by omega) (HF.out.2.ext wf hA5.bu.ar.wf (by omega) X1) (λe=>⟨(s1 e).1,(s1 e).2.1⟩) (by omega)).mono ?_;rintro e w6⟨f1,ns2,full2,N2,m22,m32,rfl,hp,X2,l2,k2,lt1,mo2,s2⟩;have hA6:=hA5.then hp;have M6:=M5.kp hp.kp;clear hp L4 M4 hA4 q0 q1 q2 p0 p1 p2 g0 g1 g2 hA5 L5 M5;have wf2:=hA6.bu.ar.wf;have X2l:=X2.len;have X02:=X1.trans X2;have sem2:full2=false->MemoB ns2 j m22/\MemoS ns2 i j m32/\IsSw ns2 i j (nl ns f) f0/\IsSw ns2 i j (nh ns f) f1:=λe2=>by
  have e1:full1=false:=by cases full1 <;> simp_all
  exact⟨(s2 e2).1,(s2 e2).2.1,(s1 e1).2.2.ext X2 wf1 wf2,(s2 e2).2.2⟩
 obtain⟨⟨p0,p1,p2⟩,g0,g1,g2⟩:=M6.reads;have hA7:=hA6.set (p:=⟨w.heap.size+1,2,none⟩) M6.out (Nat.le_succ _) (.int .i64 (f1:Int));have M7:=M6.set (j:=2) (.int .i64 (f1:Int));simp only[List.setIfInBounds_toArray,List.set_cons_succ,List.set_cons_zero]at M7;obtain⟨⟨p0',p1',p2'⟩,_⟩:=M7.reads;go_wp2_with fail;refine(numberOf_any hA7.bu (v:=nv ns f) (l:=f0) (u:=f1) (by omega) (by omega) lt1 (λe2=>?_)).mono ?_
 ·obtain⟨_,_,a1,a2⟩:=sem2 e2;have c1:=a1.va;have c2:=a2.va;rw[X02.va (by omega)]at c1 c2;omega
 rintro e w7⟨r,ns3,full3,rfl,hp,X3,l3,lt3,mo3,s3⟩;have hA8:=hA7.then hp;clear hp M6 hA6 hA7 M7 p0 p1 p2 g0 g1 g2 p0' p1' p2';have wf3:=hA8.bu.ar.wf;have len3:ns3.length<=40000:=Nat.le_trans hA8.bu.ar.le hA8.bu.ar.most4;obtain⟨w8,hrun,hM8,hg8⟩:=(hA8.bu.o3 c3 hc3).store tz4 (by unfold maxLen;omega) (x:=f) (by show f<_;omega) (v:=r) (by omega);have hA9:=hA8.memo3 hc3 hM8 hg8;obtain⟨d0,d1,d2,d3,d4,df⟩:=hA8.bu.reads;rw[hc3]at d4;simp only[G7]at hrun;have hfin:cG C w ns false N m1 i j f (2 ^ (k+1)-1) (.returned (.int .i64 (r:Int))) w8:=by
  refine⟨r,ns3,full3,N2+1,m22,_,rfl,hA9,X02.trans X3,by omega,by omega,lt3,(λe=>by cases e),λe3=>?_⟩;have e2:full2=false:=by cases full2 <;> simp_all
  obtain⟨a0,a00,a1,a2⟩:=sem2 e2;have X03:=X02.trans X3;have X03l:=X03.len;have en:nd ns3 f=nd ns f:=X03.nd hf;have J:IsSw ns3 i j f r:=by
   refine pT (l:=f0) (u:=f1) wf3 hij f2 (by omega) ?_ ?_ ?_ ?_
   ·rw[nv,en];exact hi
   ·rw[nl,en];exact a1.ext X3 wf2 wf3
   ·rw[nh,en];exact a2.ext X3 wf2 wf3
   ·rw[nv,en];exact s3 e3
  exact⟨a0.ext X3 wf2 wf3,(a00.ext X3 wf2 wf3).upd J,J⟩
 clear hA8 hM8 hg8 hA9;go_wp2_with fail;go_ret;exact hfin
end
end Go.Proofs.YtppbfikimalojaaGreat
