/-
  XAU.
-/
import Derived.Test.YtjmclcmgpaofiaaGreatXLy
import Derived.Test.YtjmclcmgpaofiaaGreatXAT
import Derived.Test.YtjmclcmgpaofiaaGreatXAS
import Derived.Test.YtjmclcmgpaofiaaGreatXAH
set_option maxHeartbeats 8000000
set_option maxRecDepth 100000
namespace Go.Proofs.YtjmclcmgpaofiaaGreat
open Tryz
open Go.RowKit Go.Maps
def rouL(i:Nat)(p:Pk):List (List Ev):=(List.range 4).map λ(q:Nat)=>[ac i (q:Int) p 0]
theorem sI{d:Dv}{i:Nat}{o:Int}{p:Pk}{rn:Arv->Int}(hk:d.kind=2)(hi:i<=10)(hp:ae p=true):CsOk d i o p rn (rouL i p):=by
 refine⟨by simp[rouL],λc hc=>?_,λm hm hs=>?_⟩
 ·obtain⟨q,hq,rfl⟩:=List.mem_map.1 hc;have hq4:=List.mem_range.1 hq;refine⟨Cause.route (q:Int) hk (by omega) (by omega),by simp,λx hx=>?_⟩;obtain rfl:=List.mem_singleton.1 hx;exact cY hi (by omega) (bm hp) (bI (by omega))
 ·unfold az at hs;rw[if_pos hk]at hs;obtain⟨q,q0,q4,h,_⟩:=hs;obtain⟨n,rfl⟩:∃n:Nat,q=(n:Int):=⟨q.toNat,by omega⟩;refine⟨_,List.mem_map.2 ⟨n,List.mem_range.2 (by omega),rfl⟩,λy hy=>?_⟩;obtain rfl:y=(((i:Int),(n:Int)),p):=by simpa[ai]using hy
  exact h.2
theorem sJ{d:Dv}{i:Nat}{p:Pk}{rn:Arv->Int}(hk:d.kind=3)(hi:i<=10)(hp:ae p=true):CsOk d i 1 p rn [[ac i 0 p 0]]:=by
 refine⟨by simp,λc hc=>?_,λm hm hs=>?_⟩
 ·obtain rfl:=List.mem_singleton.1 hc;refine⟨Cause.fireOut hk rfl,by simp,λx hx=>?_⟩;obtain rfl:=List.mem_singleton.1 hx;exact cY hi (by omega) (bm hp) (bI (by omega))
 ·unfold az at hs;rw[if_neg (by omega),if_pos hk,if_pos rfl]at hs;refine⟨_,List.mem_singleton.2 rfl,λy hy=>?_⟩;obtain rfl:y=(((i:Int),0),p):=by simpa[ai]using hy
  exact hs.1.2
theorem sK{d:Dv}{i:Nat}{p:Pk}{rn:Arv->Int}(hk:d.kind=3)(hi:i<=10)(hp:ae p=true):CsOk d i 0 p rn [[ac i 0 (aN p) 0,ac i 1 p 0]]:=by
 obtain⟨b1,b2,b3,b4⟩:=bW hp;refine⟨by simp,λc hc=>?_,λm hm hs=>?_⟩
 ·obtain rfl:=List.mem_singleton.1 hc;refine⟨Cause.fireIn hk (by omega),by simp,λx hx=>?_⟩;simp only[List.mem_cons,List.not_mem_nil,or_false]at hx;rcases hx with rfl|rfl
  ·exact cY hi (by omega) (bm (cB b2 b1 b4 b3)) (bI (by omega))
  ·exact cY hi (by omega) (bm hp) (bI (by omega))
 ·unfold az at hs;rw[if_neg (by omega),if_pos hk,if_neg (by omega)]at hs;obtain⟨_,h1,h2,_⟩:=hs;refine⟨_,List.mem_singleton.2 rfl,λy hy=>?_⟩;have hy:y=(((i:Int),0),aN p)\/y=(((i:Int),1),p):=by simpa[ai]using hy
  rcases hy with rfl|rfl
  ·exact h2.2
  ·exact h1.2
def CzP(d:Dv)(i:Nat)(q:Int)(p:Pk)(rn:Arv->Int)(cs:List (List Ev)):Prop:=(d.kind=1->cs=[[fG i p]]) /\ (¬d.kind=1->CsOk d i q p rn cs)
theorem CzOut.mono{w:World}{P Q:List (List Ev)->Prop}(h:∀cs,P cs->Q cs){e:Ending}{w':World}:CzOut w P e w'->CzOut w Q e w':=λ⟨A,q,cs,h1,h2,h3⟩=>⟨A,q,cs,h1,⟨h cs h2.out.1,h2.out.2⟩,h3⟩
theorem CzOut.from{w w1:World}{P:List (List Ev)->Prop}(hb:Below w w w1){e:Ending}{w':World}:CzOut w1 P e w'->CzOut w P e w':=λ⟨A,q,cs,h1,h2,h3⟩=>⟨A,q,cs,h1,⟨h2.out.1,by
 obtain⟨vs,v1,v2,v3⟩:=h2.out.2;refine⟨vs,v1,?_,λk c hk=>(v3 k c hk).elim λu h=>⟨u,h.1,own_lo h.2 hb.size⟩⟩;refine⟨v2.1,?_⟩;rcases v2.2 with k|⟨g,cap,cur,g1,g2,g3⟩
 ·exact Or.inl k
 ·exact Or.inr ⟨g,cap,cur,g1,Nat.le_trans hb.size g2,g3⟩⟩,ag h3 hb⟩
theorem sL(A L:Option Addr)(cap nl e9 R i:Nat)(ds:List Dv)(d:Dv)(q:Int)(rn:Arv->Int)(p:Pk)(w:World)(hd:ds[i]?=some d)(hv:aE d=0)(hq:q=0\/q=1\/d.kind=2)(hp:ae p=true)(hi:i<=10)(hD:Hid (Devs w w (.slice A ds.length cap) ds))(hF:Hid (FstC R rn w)) :
  Cl 142 #[fdV A ds.length cap L nl e9 R,plA (i:Int) q,pkV p] w (CzOut w (CzP d i q p rn)):=by
 have hil:=(List.getElem?_eq_some_iff.1 hd).1;obtain⟨b,o,vb,vr,vt,rfl,hbl,g1,g2,g3,c0,c1,c2,c3,c4,c5,c6⟩:=hD.out.at hd;have hcap:=hD.out.len.2;unfold maxLen at hcap;obtain⟨r1,r2,r3,r4,r5⟩:=fU hv;have D1:Below w w (((w.alloc (.cells #[.slice (some ⟨b,o,none⟩) ds.length cap,.slice L nl e9,.pointer R] 164)).alloc (.cells #[(i:Int),q] 27)).alloc (.cells #[p.s,p.d,p.sp,p.dp] 37)):=Below.alN (Below.alN (Below.alN (Below.refl _ _) _) _) _;have hbl3:=(ik hv).1;have i1:(0:Int)<=(i:Int):=by omega
 have i2:(i:Int)<(ds.length:Int):=by omega
 obtain⟨w1,hw1⟩:∃w1,w1=(((w.alloc (.cells #[.slice (some ⟨b,o,none⟩) ds.length cap,.slice L nl e9,.pointer R] 164)).alloc (.cells #[(i:Int),q] 27)).alloc (.cells #[p.s,p.d,p.sp,p.dp] 37)):=⟨_,rfl⟩;rw[<- hw1]at D1;have FO:Hid (∀W,CB 172 #[(i:Int),.int .i64 0,pkV p,.int .i64 0] W (evV (ac i 0 p 0))):=λW=>da i 0 p 0 W;have F1:Bk w1 w.heap.size #[.slice (some ⟨b,o,none⟩) ds.length cap,.slice L nl e9,.pointer R] 164:=by
  rw[hw1];exact((ah _ _ _).alloc _).alloc _
 have B1:Bk w1 (w.heap.size+1) #[(i:Int),q] 27:=by
  rw[hw1];exact(ax _ _ _ _ (by simp)).alloc _
 have P1:Bk w1 (w.heap.size+1+1) #[p.s,p.d,p.sp,p.dp] 37:=by
  rw[hw1];exact ax _ _ _ _ (by simp)
 have y1:=(D1.cell (p:=⟨b,o+i*7+1,none⟩) hbl).trans c1;have hD1:=hidOf ((hD.out.below D1).mono D1.size);have hF1:=hidOf (hF.out.below D1);have CM:∀cs,CsOk d i q p rn cs->¬d.kind=1->CzP d i q p rn cs:=λcs h hne=>⟨λe=>absurd e hne,λ_=>h⟩;have f0:=F1.at 0;have f1:=F1.at 1;have f2:=F1.at 2;have q0:=B1.at 0;have q1:=B1.at 1;have p0:=P1.at 0;have p1:=P1.at 1;have p2:=P1.at 2;have p3:=P1.at 3;have lf:=F1.lt;have lb:=B1.lt;have lp:=P1.lt;clear c0 c1 c2 c3 c4 c5 c6 g1 g2 g3 hD hF;subst hw1;go_enter func142,ntmps142;go_upto_region 1 with fail;generalize (((w.alloc (.cells #[.slice (some ⟨b,o,none⟩) ds.length cap,.slice L nl e9,.pointer R] 164)).alloc (.cells #[(i:Int),q] 27)).alloc (.cells #[p.s,p.d,p.sp,p.dp] 37))=w1 at *;go_region;have D2:Below w w w1.drew:=D1.drew;have hD2:=hidOf ((hD1.out.below (Below.refl w1 w1).drew));have hD2:Hid (Devs w1.drew.heap.size w1.drew (.slice (some ⟨b,o,none⟩) ds.length cap) ds):=hD2;have hF2:=hidOf (hF1.out.below (Below.refl w1 w1).drew);have y1:w1.drew.cell? ⟨b,o+i*7+1,none⟩=some (.int .i64 d.kind):=y1;have f0:w1.drew.cell? ⟨w,0,none⟩=_:=f0;have f1:w1.drew.cell? ⟨w,1,none⟩=_:=f1;have f2:w1.drew.cell? ⟨w,2,none⟩=_:=f2;have p0:w1.drew.cell? ⟨w.heap.size+1+1,0,none⟩=_:=p0;have p1:w1.drew.cell? ⟨w.heap.size+1+1,1,none⟩=_:=p1;have p2:w1.drew.cell? ⟨w.heap.size+1+1,2,none⟩=_:=p2;have p3:w1.drew.cell? ⟨w.heap.size+1+1,3,none⟩=_:=p3;have lf:w.heap.size<w1.drew.heap.size:=lf;have lp:w.heap.size+1+1<w1.drew.heap.size:=lp;have P2:Bk w1.drew (w.heap.size+1+1) #[p.s,p.d,p.sp,p.dp] 37:=P1;generalize w1.drew=w2 at *;clear D1 F1 B1 P1 hD1 hF1 q0 q1 lb;have hk5:d.kind=1\/d.kind=2\/d.kind=3\/d.kind=4\/d.kind=5:=by omega
 rcases hk5 with hk|hk|hk|hk|hk
 ·rw[hk]at y1;obtain⟨ps,pd,psp,pdp⟩:=p;have E6:=eC w2 [fG (i:Int) ⟨ps,pd,psp,pdp⟩] (by simp) (B:=w.heap.size) D2.size;have C6:=eZ (B:=w.heap.size) E6 (Below.alN D2 (.cells ([fG (i:Int) ⟨ps,pd,psp,pdp⟩].flatMap evC).toArray 47)).size;have D6:=Below.alN (Below.alN D2 (.cells ([fG (i:Int) ⟨ps,pd,psp,pdp⟩].flatMap evC).toArray 47)) (.cells #[.slice (some ⟨w2,0,none⟩) 1 1] 209);simp only[World.size_alloc]at C6
  replace hk:=hidOf hk
  clear hD2 hF2 FO CM E6 P2;go_wp2_with fail;go_ret;exact⟨_,_,[[fG (i:Int) ⟨ps,pd,psp,pdp⟩]],rfl,⟨⟨λ_=>rfl,λh=>absurd hk.out h⟩,C6⟩,D6⟩
 ·have hkk:=hidOf hk;rw[hk]at y1;have CC:=hidOf (uf (i:Int) p w2);have CM2:=hidOf (λcs (h:CsOk d i _ p rn cs)=>CM cs h (by omega));clear hD2 hF2 FO CM P2 hk;go_wp2_with fail;refine CC.out.mono ?_;rintro e w3⟨A2,q2,cs,rfl,hP,hb3⟩;have OUT:CzOut w (CzP d i _ p rn) (.returned (.slice A2 cs.length q2)) w3:=CzOut.from D2 ⟨A2,q2,cs,rfl,⟨CM2.out _ (by rw[hP.out.1];exact sI hkk.out hi hp),hP.out.2⟩,hb3⟩
  clear CC hb3 hP CM2 D2;go_wp2_with fail;go_ret;exact OUT
 ·rcases hq with rfl|rfl|hq
  ·have CM2:=hidOf (CM _ (sK hk hi hp) (by omega));rw[hk]at y1;obtain⟨ps,pd,psp,pdp⟩:=p;have HL:Hid (∀W,CB 173 #[pkV ⟨ps,pd,psp,pdp⟩] W (pkV ⟨pd,ps,pdp,psp⟩)):=λW=>pflip_any ⟨ps,pd,psp,pdp⟩ W;have H1:Hid (∀W,CB 172 #[(i:Int),.int .i64 0,pkV ⟨pd,ps,pdp,psp⟩,.int .i64 0] W (evV (ac i 0 ⟨pd,ps,pdp,psp⟩ 0))):=λW=>da i 0 ⟨pd,ps,pdp,psp⟩ 0 W;have H2:Hid (∀W,CB 172 #[(i:Int),.int .i64 1,pkV ⟨ps,pd,psp,pdp⟩,.int .i64 0] W (evV (ac i 1 ⟨ps,pd,psp,pdp⟩ 0))):=λW=>da i 1 ⟨ps,pd,psp,pdp⟩ 0 W;clear hD2 hF2 FO CM hk;go_upto_region 10 with fail;have HS:Hid (∀{W:World},Below w2 w2 W->W.cell? ⟨w.heap.size+1+1,0,none⟩=some (.int .i64 ps) /\ W.cell? ⟨w.heap.size+1+1,1,none⟩=some (.int .i64 pd) /\ W.cell? ⟨w.heap.size+1+1,2,none⟩=some (.int .i64 psp) /\ W.cell? ⟨w.heap.size+1+1,3,none⟩=some (.int .i64 pdp)):=λ{W} hb=>by
    have p:=Bk.keep hb P2;exact⟨p.at 0,p.at 1,p.at 2,p.at 3⟩
   have R2:=Below.refl w2 w2;refine wp_region_held_drew (S:=λW=>W.cell? ⟨w.heap.size+1+1,0,none⟩=some (.int .i64 ps) /\ W.cell? ⟨w.heap.size+1+1,1,none⟩=some (.int .i64 pd) /\ W.cell? ⟨w.heap.size+1+1,2,none⟩=some (.int .i64 psp) /\ W.cell? ⟨w.heap.size+1+1,3,none⟩=some (.int .i64 pdp)) (by rfl) (HS.out R2.drew) (λhHeld=>?_);try simp only[ly]
   refine tk 0 ?_;try simp only[ly]
   refine tk 1 ?_;try simp only[ly]
   refine tk 4 ?_;try simp only[ly]
   refine tk 5 ?_;try simp only[ly]
   refine rd 2 (λK hK=>?_);go_simp;with_reducible refine(HL.out _).mono ?_
   rintro e w3⟨rfl,hb3⟩;have R3:=ag hb3 R2.drew;dsimp only;clear hHeld;refine hK.out _ _ (HS.out R3) (λhHeld=>?_);clear hK K;try simp only[ly]
   refine rd 3 (λK hK=>?_);go_simp;with_reducible refine(H1.out _).mono ?_
   rintro e w4⟨rfl,hb4⟩;have R4:=ag hb4 R3;dsimp only;clear hHeld;refine hK.out _ _ (HS.out R4) (λhHeld=>?_);clear hK K;try simp only[ly]
   refine rd 6 (λK hK=>?_);go_simp;with_reducible refine(H2.out _).mono ?_
   rintro e w5⟨rfl,hb5⟩;have R5:=ag hb5 R4;dsimp only;clear hHeld;refine hK.out _ _ (HS.out R5) (λhHeld=>?_);clear hK K;try simp only[ly]
   refine rd 7 (λK hK=>?_);go_simp;refine hK.out _ _ (HS.out (Below.alN R5 _)) (λhHeld=>?_);clear hK K;try simp only[ly]
   refine rd 8 (λK hK=>?_);go_simp;refine hK.out _ _ (HS.out (Below.alN (Below.alN R5 _) _)) (λhHeld=>?_);clear hK K;try simp only[ly]
   refine tk 9 ?_;try simp only[ly]
   refine wpAnyH_done (by kernel_rfl) ?_ _;have D5:=D2.trans (R5.mono D2.size);have E6:=eC w5 [ac (i:Int) 0 (aN ⟨ps,pd,psp,pdp⟩) 0,ac (i:Int) 1 ⟨ps,pd,psp,pdp⟩ 0] (by simp) (B:=w.heap.size) D5.size;have C6:=eZ (B:=w.heap.size) E6 (Below.alN D5 (.cells ([ac (i:Int) 0 (aN ⟨ps,pd,psp,pdp⟩) 0,ac (i:Int) 1 ⟨ps,pd,psp,pdp⟩ 0].flatMap evC).toArray 47)).size;have D6:=Below.alN (Below.alN D5 (.cells ([ac (i:Int) 0 (aN ⟨ps,pd,psp,pdp⟩) 0,ac (i:Int) 1 ⟨ps,pd,psp,pdp⟩ 0].flatMap evC).toArray 47)) (.cells #[.slice (some ⟨w5,0,none⟩) 2 2] 209);simp only[World.size_alloc]at C6;clear HS HL H1 H2 hHeld E6 P2;go_wp2_with fail;go_ret;exact⟨_,_,[[ac (i:Int) 0 (aN ⟨ps,pd,psp,pdp⟩) 0,ac (i:Int) 1 ⟨ps,pd,psp,pdp⟩ 0]],rfl,⟨CM2.out,C6⟩,D6⟩
  ·have CM2:=hidOf (CM _ (sJ hk hi hp) (by omega));rw[hk]at y1;obtain⟨ps,pd,psp,pdp⟩:=p;clear hD2 hF2 CM hk P2;go_wp2_with fail;refine(FO.out _).mono ?_;rintro e w5⟨rfl,hb5⟩;have D5:=ag hb5 D2;have E6:=eC w5 [ac (i:Int) 0 ⟨ps,pd,psp,pdp⟩ 0] (by simp) (B:=w.heap.size) D5.size;have C6:=eZ (B:=w.heap.size) E6 (Below.alN D5 (.cells ([ac (i:Int) 0 ⟨ps,pd,psp,pdp⟩ 0].flatMap evC).toArray 47)).size;have D6:=Below.alN (Below.alN D5 (.cells ([ac (i:Int) 0 ⟨ps,pd,psp,pdp⟩ 0].flatMap evC).toArray 47)) (.cells #[.slice (some ⟨w5,0,none⟩) 1 1] 209);simp only[World.size_alloc]at C6;clear FO E6 hb5;go_wp2_with fail;go_ret;exact⟨_,_,[[ac (i:Int) 0 ⟨ps,pd,psp,pdp⟩ 0]],rfl,⟨CM2.out,C6⟩,D6⟩
  ·omega
 ·rcases hq with rfl|rfl|hq
  ·skip
   rw[hk]at y1;have CC:=hidOf (tl (some ⟨b,o,none⟩) L cap nl e9 R i ds d rn p w2 hd d.hp hp hk r2 hi hD2.out hF2.out);have CM2:=hidOf (λcs (h:CsOk d i _ p rn cs)=>CM cs h (by omega));clear hD2 hF2 FO CM P2 hk;go_wp2_with fail;refine CC.out.mono ?_;rintro e w3⟨A2,q2,cs,rfl,hP,hb3⟩;have OUT:CzOut w (CzP d i _ p rn) (.returned (.slice A2 cs.length q2)) w3:=CzOut.from D2 ⟨A2,q2,cs,rfl,⟨CM2.out _ (hP.out.1),hP.out.2⟩,hb3⟩
   clear CC hb3 hP CM2 D2;go_wp2_with fail;go_ret;exact OUT
  ·skip
   rw[hk]at y1;have CC:=hidOf (ti (some ⟨b,o,none⟩) L cap nl e9 R i ds d rn p w2 hd d.hp hp hk hi hD2.out hF2.out);have CM2:=hidOf (λcs (h:CsOk d i _ p rn cs)=>CM cs h (by omega));clear hD2 hF2 FO CM P2 hk;go_wp2_with fail;refine CC.out.mono ?_;rintro e w3⟨A2,q2,cs,rfl,hP,hb3⟩;have OUT:CzOut w (CzP d i _ p rn) (.returned (.slice A2 cs.length q2)) w3:=CzOut.from D2 ⟨A2,q2,cs,rfl,⟨CM2.out _ (hP.out.1),hP.out.2⟩,hb3⟩
   clear CC hb3 hP CM2 D2;go_wp2_with fail;go_ret;exact OUT
  ·omega
 ·rcases hq with rfl|rfl|hq
  ·skip
   rw[hk]at y1;have CC:=hidOf (tz (some ⟨b,o,none⟩) L cap nl e9 R i ds d rn p w2 hd hp hk r2 hbl3 r3 hi hD2.out);have CM2:=hidOf (λcs (h:CsOk d i _ p rn cs)=>CM cs h (by omega));clear hD2 hF2 FO CM P2 hk;go_wp2_with fail;refine CC.out.mono ?_;rintro e w3⟨A2,q2,cs,rfl,hP,hb3⟩;have OUT:CzOut w (CzP d i _ p rn) (.returned (.slice A2 cs.length q2)) w3:=CzOut.from D2 ⟨A2,q2,cs,rfl,⟨CM2.out _ (hP.out.1),hP.out.2⟩,hb3⟩
   clear CC hb3 hP CM2 D2;go_wp2_with fail;go_ret;exact OUT
  ·skip
   rw[hk]at y1;have CC:=hidOf (tu (some ⟨b,o,none⟩) L cap nl e9 R i ds d rn p w2 hd hp hk r2 hbl3 hi hD2.out);have CM2:=hidOf (λcs (h:CsOk d i _ p rn cs)=>CM cs h (by omega));clear hD2 hF2 FO CM P2 hk;go_wp2_with fail;refine CC.out.mono ?_;rintro e w3⟨A2,q2,cs,rfl,hP,hb3⟩;have OUT:CzOut w (CzP d i _ p rn) (.returned (.slice A2 cs.length q2)) w3:=CzOut.from D2 ⟨A2,q2,cs,rfl,⟨CM2.out _ (hP.out.1),hP.out.2⟩,hb3⟩
   clear CC hb3 hP CM2 D2;go_wp2_with fail;go_ret;exact OUT
  ·omega
theorem Cause.ne{d:Dv}{i o:Int}{p:Pk}{c:List Ev}(h:Cause d i o p c):c≠[]:=by
 cases h <;> simp
structure CzOk(d:Dv)(i:Nat)(o:Int)(x:Arv)(rn:Arv->Int)(c:List Ev):Prop where
 is:Cause d i o x.2 c
 len:c.length<=20
 ok:∀z∈c,z.ok
 few:∀y∈ai c,0<=rn y /\ rn y<rn x
def kc(d:Dv)(i:Nat)(o:Int)(x:Arv)(rn:Arv->Int):Prop:=0<=rn x /\ (d.kind=1\/(¬d.kind=1 /\ 1<=rn x /\ az d i (λt p=>ae p=true /\ 0<=rn (t,p) /\ rn (t,p)<=rn x-1) o x.2))
def GdC(rn:Arv->Int)(m:Int)(c:List Ev):Prop:=∃v,bO rn (ai c) (-1)=(v,true) /\ v<m
theorem sM{d:Dv}{i:Nat}{o:Int}{x:Arv}{rn:Arv->Int}{cs:List (List Ev)}(hi:i<=10)(hp:ae x.2=true)(h:CzP d i o x.2 rn cs)(hc:kc d i o x rn):cs.length<=10 /\ (∀c∈cs,GdC rn (rn x) c->CzOk d i o x rn c) /\ (∀c∈cs,c≠[] /\ c.length<=20) /\ ∃c∈cs,GdC rn (rn x) c:=by
 obtain⟨h0,hk⟩:=hc;have few:∀c,GdC rn (rn x) c->∀y∈ai c,0<=rn y /\ rn y<rn x:=λc ⟨v,h1,h2⟩ y hy=>by
  have:=(mN h1).2 y hy;omega
 rcases hk with hk|⟨hk,h1,hs⟩
 ·obtain rfl:=h.1 hk;have z:∀z∈[fG (i:Int) x.2],z.ok:=λz hz=>by
   obtain rfl:=List.mem_singleton.1 hz;exact⟨ke hi,bI (show(0:Int)<=0 /\ (0:Int)<=100 by omega),bm hp,bI (show(0:Int)<=0 /\ (0:Int)<=100 by omega)⟩
  refine⟨by simp,λc hc hg=>?_,λc hc=>?_,_,List.mem_singleton.2 rfl,-1,by simp[ai,bO],by omega⟩
  ·have e:=List.mem_singleton.1 hc;subst e;exact⟨Cause.host hk,by simp,z,few _ hg⟩
  ·have e:=List.mem_singleton.1 hc;subst e;simp
 ·have hk2:=h.2 hk;refine⟨hk2.few,λc hc hg=>?_,λc hc=>?_,?_⟩
  ·obtain⟨a,b,e⟩:=hk2.is c hc;exact⟨a,b,e,few _ hg⟩
  ·obtain⟨a,b,_⟩:=hk2.is c hc;exact⟨a.ne,b⟩
  ·obtain⟨c,hc,hn⟩:=hk2.all (rn x-1) (by omega) hs;obtain⟨v,hv,hl⟩:=mO (rd:=rn) (j:=rn x-1) (l:=ai c) (m:=-1) (by omega) hn;exact⟨c,hc,v,hv,by omega⟩
theorem sN(A L:Option Addr)(cap e9 R i:Nat)(ds:List Dv)(ls:List Lk)(d:Dv)(q:Int)(rn:Arv->Int)(x:Arv)(w:World)(hd:ds[i]?=some d)(hv:aE d=0)(hq:q=0\/q=1\/d.kind=2)(hp:ae x.2=true)(hi:i<=10)(hD:Hid (Devs w w (.slice A ds.length cap) ds))(hL:Hid (Links w w (.slice L ls.length e9) ls))(hF:Hid (FstC R rn w))(hR:Hid (RdC R rn w))(hpe:peerF ls x.1.1 x.1.2=some ((i:Int),q))(hx:kc d i q x rn) :
  Cl 111 #[fdV A ds.length cap L ls.length e9 R,arV x.1 x.2] w λe w'=>(∃u c,e=.returned (.tuple #[u,.bool true]) /\ Hid (EvRow w w' u c /\ CzOk d i q x rn c)) /\ Below w w w':=by
 have D1:Below w w ((w.alloc (.cells #[.slice A ds.length cap,.slice L ls.length e9,.pointer R] 164)).alloc (.cells #[x.1.1,x.1.2,x.2.s,x.2.d,x.2.sp,x.2.dp] 59)):=Below.alN (Below.alN (Below.refl _ _) _) _;have F1:=(ah w #[.slice A ds.length cap,.slice L ls.length e9,.pointer R] 164).alloc (.cells #[x.1.1,x.1.2,x.2.s,x.2.d,x.2.sp,x.2.dp] 59);have X1:=ax (w.alloc (.cells #[.slice A ds.length cap,.slice L ls.length e9,.pointer R] 164)) #[x.1.1,x.1.2,x.2.s,x.2.d,x.2.sp,x.2.dp] 59 (w.heap.size+1) (by simp);have PE:=hidOf (ib (.slice A ds.length cap) L ls.length e9 ls x.1.1 x.1.2 ((w.alloc (.cells #[.slice A ds.length cap,.slice L ls.length e9,.pointer R] 164)).alloc (.cells #[x.1.1,x.1.2,x.2.s,x.2.d,x.2.sp,x.2.dp] 59)) ((hL.out.below D1).mono D1.size));rw[hpe]at PE;have CA:Hid (∀W,Below w w W->Cl 142 #[fdV A ds.length cap L ls.length e9 R,plA (i:Int) q,pkV x.2] W (CzOut W (CzP d i q x.2 rn))):=λW h=>sL A L cap ls.length e9 R i ds d q rn x.2 W hd hv hq hp hi ((hD.out.below h).mono h.size) (hF.out.below h);have RX:Hid (∀W,Below w w W->CB 24 #[.pointer R,plA x.1.1 x.1.2,pkV x.2] W (.int .i64 (rn x))):=λW h=>hR.out x W h;have AL:Hid (∀cs,CzP d i q x.2 rn cs->cs.length<=10 /\ (∀c∈cs,GdC rn (rn x) c->CzOk d i q x rn c) /\ (∀c∈cs,c≠[] /\ c.length<=20) /\ ∃c∈cs,GdC rn (rn x) c):=λcs h=>sM hi hp h hx;have LT:Hid (∀(C:Option Addr) (cc:Nat) (c:List Ev) W,Below w w W->SlAt W W 8 eY (.slice C c.length cc) c->c.length<=100->CB 143 #[fdV A ds.length cap L ls.length e9 R,.slice C c.length cc] W (.tuple #[.int .i64 (bO rn (ai c) (-1)).1,.bool (bO rn (ai c) (-1)).2])):=λC cc c W h hs hn=>ub A L C ds.length cap ls.length e9 R cc rn c W hs hn (hR.out.below h);have RX0:=hidOf hx.1;obtain⟨m,hm⟩:∃m,m=rn x:=⟨_,rfl⟩;rw[<- hm]at RX AL
 replace hm:=hidOf hm
 obtain⟨⟨xi,xq⟩,⟨xs,xd,xsp,xdp⟩⟩:=x;dsimp only at D1 F1 X1 PE CA RX AL;have x0:=X1.at 0;have x1:=X1.at 1;have f0:=F1.at 0;have f1:=F1.at 1;have lf:=F1.lt;have lx:=X1.lt;clear hd hv hq hp hi hD hL hF hR hpe hx;go_enter func111,ntmps111;go_wp2_with fail;refine PE.out.mono ?_;rintro e w2⟨rfl,hb2⟩;have D2:=ag hb2 D1;have F2:=Bk.keep hb2 F1;have X2:=Bk.keep hb2 X1;clear PE D1 F1 X1 hb2 x0 x1 f0 f1 lf lx;dsimp only[bS,Option.isSome];go_upto_region 2 with fail;have D3:=Below.alN D2 (.cells #[(i:Int),q] 27);have F3:=F2.alloc (.cells #[(i:Int),q] 27);have X3:=X2.alloc (.cells #[(i:Int),q] 27);have P3:=ah w2 #[(i:Int),q] 27;generalize w2.alloc (.cells #[(i:Int),q] 27)=w3 at *;generalize w2.heap.size=pb at *;have x0:=X3.at 0;have x1:=X3.at 1;have x2:=X3.at 2;have x3:=X3.at 3;have x4:=X3.at 4;have x5:=X3.at 5;have f2:=F3.at 2;have lf:=F3.lt;have lx:=X3.lt;clear D2 F2 X2;go_wp2_with fail;refine(RX.out _ D3).mono ?_;rintro e w4⟨rfl,hb4⟩;have D4:=ag hb4 D3;have F4:=Bk.keep hb4 F3;have X4:=Bk.keep hb4 X3;have P4:=Bk.keep hb4 P3;clear RX D3 F3 X3 P3 hb4 x0 x1 x2 x3 x4 x5 f2 lf lx;have x2:=X4.at 2;have x3:=X4.at 3;have x4:=X4.at 4;have x5:=X4.at 5;have f0:=F4.at 0;have f1:=F4.at 1;have f2:=F4.at 2;have p0:=P4.at 0;have p1:=P4.at 1;have lf:=F4.lt;have lx:=X4.lt;have lp:=P4.lt;go_wp2_with fail;refine(CA.out _ D4).mono ?_;rintro e w5⟨A2,q2,cs,rfl,hP,hb5⟩;have D5:=ag hb5 D4;have F5:=Bk.keep hb5 F4;obtain⟨hP1,vs,hvl,hvo,hve⟩:=hP.out;obtain⟨g10,gis,gne,gex⟩:=AL.out cs hP1;have hn0:cs.length≠0:=λe=>by
  obtain⟨c,hc,_⟩:=gex;rw[List.length_eq_zero_iff.1 e]at hc;cases hc
 obtain⟨g,c2,he,_,hg,hc1,hc2,_,hcell⟩:=jA hvo hn0;cases he;unfold maxLen at hc2;have GX:=hidOf gex;have GI:=hidOf gis;have CB:Hid (∀{W:World},Below w5 w5 W->W.cell? ⟨w,0,none⟩=some (.slice A ds.length cap) /\ W.cell? ⟨w,1,none⟩=some (.slice L ls.length e9) /\ W.cell? ⟨w,2,none⟩=some (.pointer R) /\ w.heap.size<W.heap.size):=λ{W} h=>by
  have f:=Bk.keep h F5;exact⟨f.at 0,f.at 1,f.at 2,f.lt⟩
 have CU:Hid (∀k,k<cs.length->∃C cc c,cs[k]?=some c /\ c≠[] /\ (∀W,Below w5 w5 W->W.cell? ⟨g,k,none⟩=some (.slice C c.length cc) /\ EvRow w W (.slice C c.length cc) c /\ Cl 143 #[fdV A ds.length cap L ls.length e9 R,.slice C c.length cc] W λe w'=>e=.returned (.tuple #[.int .i64 (bO rn (ai c) (-1)).1,.bool (bO rn (ai c) (-1)).2]) /\ Below W W w')):=λk hk=>by
  have hck:=List.getElem?_eq_getElem hk;obtain⟨u,hu1,hu2⟩:=hve k _ hck;obtain⟨C,cc,rfl⟩:=dh hu2;obtain⟨n1,n2⟩:=gne _ (List.mem_of_getElem? hck);refine⟨C,cc,_,hck,n1,λW hb=>?_⟩;have hu3:=EvRow.below (own_lo hu2 D4.size) hb;exact⟨(hb.cell (p:=⟨g,k,none⟩) hg).trans (hcell k _ hu1),hu3,LT.out C cc _ W (ag hb D5) hu3.sl (by omega)⟩
 have DD:Hid (∀{W:World},Below w5 w5 W->Below w w W):=λ{W} h=>ag h D5;have R5:=Below.refl w5 w5;clear CA AL LT hP hP1 hvo hve hvl hcell gis gne gex D4 F4 X4 P4 x2 x3 x4 x5 f0 f1 f2 p0 p1 lf lx lp hb5 D5 F5;go_wp2_with fail;go_loopw[8,9,37] (λs8 s9 s37 wr=>∃(k:Nat) (lt:Int),s9=.int .i64 lt /\ s37=.int .i64 (k:Int) /\ k<=cs.length /\ Below w5 w5 wr /\ (∃C n cc,s8=.slice C n cc) /\ Hid (lt<=m /\ ((s8=.slice none 0 0 /\ lt=m /\ ∀j c,j<k->cs[j]?=some c->¬GdC rn m c)\/∃C cc c,s8=.slice C c.length cc /\ c≠[] /\ c∈cs /\ GdC rn m c /\ ∀W,Below w5 w5 W->EvRow w W (.slice C c.length cc) c))) (λ_ _ s37 _=>cs.length-(intOf s37).toNat)
 case atStart=>exact⟨0,m,rfl,rfl,by omega,R5,⟨none,0,0,rfl⟩,Int.le_refl _,Or.inl ⟨rfl,rfl,λj c hj=>by omega⟩⟩
 case round =>
  clear R5;obtain⟨k,lt,rfl,rfl,hk,R6,⟨C8,n8,cc8,rfl⟩,hI⟩:=hrel;by_cases hkl:k<cs.length
  ·obtain⟨C,cc,c,hc,hne,hW⟩:=CU.out k hkl;obtain⟨e0,_,LC⟩:=hW wr R6;have HE:=hidOf (λW hb=>(hW W hb).2.1);have HC:=hidOf hc;have HN:=hidOf hne;have LC:=hidOf LC;obtain⟨f0,f1,f2,lf⟩:=CB.out R6;obtain⟨v,ok,hvk⟩:∃v ok,bO rn (ai c) (-1)=(v,ok):=⟨_,_,rfl⟩;rw[hvk]at LC;dsimp only at LC
   replace hvk:=hidOf hvk
   have k1:(0:Int)<=(k:Int):=by omega
   have k2:(k:Int)<(cs.length:Int):=by omega
   clear hc hne hW CU CB;go_wp2_with fail;refine LC.out.mono ?_;rintro e w7⟨rfl,hb7⟩;have R7:=ag hb7 R6;clear LC hb7 e0 f0 f1 f2 lf R6;by_cases hg:ok=true /\ v<lt
   ·obtain⟨rfl,hv⟩:=hg;have tv:decide (v<lt)=true:=by simpa using hv
    have hI2:Hid (v<=m /\ ((Value.slice C c.length cc=.slice none 0 0 /\ v=m /\ ∀j c,j<k+1->cs[j]?=some c->¬GdC rn m c)\/∃C' cc' c',Value.slice C c.length cc=.slice C' c'.length cc' /\ c'≠[] /\ c'∈cs /\ GdC rn m c' /\ ∀W,Below w5 w5 W->EvRow w W (.slice C' c'.length cc') c')) :=
     ⟨by have:=hI.out.1;omega,Or.inr ⟨C,cc,c,rfl,HN.out,List.mem_of_getElem? HC.out,⟨v,hvk.out,by have:=hI.out.1;omega⟩,HE.out⟩⟩
    clear hI HE HC HN hvk;go_wp2_with fail;go_roundw
    case rel=>exact⟨k+1,v,rfl,by go_num,by omega,R7,⟨_,_,_,rfl⟩,hI2⟩
    case measure=>simp[intOf];omega
   ·have hI2:Hid (lt<=m /\ ((Value.slice C8 n8 cc8=.slice none 0 0 /\ lt=m /\ ∀j c,j<k+1->cs[j]?=some c->¬GdC rn m c)\/∃C' cc' c',Value.slice C8 n8 cc8=.slice C' c'.length cc' /\ c'≠[] /\ c'∈cs /\ GdC rn m c' /\ ∀W,Below w5 w5 W->EvRow w W (.slice C' c'.length cc') c')):=by
     refine⟨hI.out.1,?_⟩;rcases hI.out.2 with⟨h1,h2,h3⟩|h
     ·refine Or.inl ⟨h1,h2,λj c' hj hc'=>?_⟩;by_cases e:j=k
      ·subst e;rw[HC.out]at hc';obtain rfl:=Option.some.inj hc';rintro⟨v',w1,w2⟩;rw[hvk.out]at w1;obtain⟨rfl,rfl⟩:=Prod.mk.inj w1;exact hg ⟨rfl,by omega⟩
      ·exact h3 j c' (by omega) hc'
     ·exact Or.inr h
    clear hI HE HC HN hvk;cases ok with
    | false =>
      clear hg;go_wp2_with fail;go_roundw
      case rel=>exact⟨k+1,lt,rfl,by go_num,by omega,R7,⟨_,_,_,rfl⟩,hI2⟩
      case measure=>simp[intOf];omega
    | true =>
      have tv:decide (v<lt)=false:=by
       rw[decide_eq_false_iff_not];exact λh=>hg ⟨rfl,h⟩
      clear hg;go_wp2_with fail;go_roundw
      case rel=>exact⟨k+1,lt,rfl,by go_num,by omega,R7,⟨_,_,_,rfl⟩,hI2⟩
      case measure=>simp[intOf];omega
  ·obtain rfl:k=cs.length:=by omega
   have DX:=DD.out R6;rcases hI.out.2 with⟨_,_,h3⟩|⟨C',cc',c',h1,h2,h3,h4,h5⟩
   ·exfalso;obtain⟨c,hc,hgd⟩:=GX.out;obtain⟨j,hj,e⟩:=List.mem_iff_getElem.1 hc;exact h3 j c hj (by rw[List.getElem?_eq_getElem hj,e]) hgd
   ·cases h1;have E6:=h5 wr R6;obtain⟨g9,q9,he9,_⟩:=jA E6 (λe=>h2 (List.length_eq_zero_iff.1 e));cases he9;have FIN:=hidOf (And.intro E6 (GI.out c' h3 h4));clear GX GI CB CU DD hI h4 h5 E6;go_wp2_with fail;go_ret2;exact⟨⟨_,c',rfl,FIN⟩,DX⟩
theorem uEvS:prog.underlying 40=some (.slice 47):=by kernel_rfl
structure Tl(w0 W:World)(p:Wp)(T:Nat)(f0 f1 f2:Value)(a7:Int)(S:Option Addr)(cS:Nat)(ds:List Dv)(ls:List Lk)(n:Nat)(M:Mnd)(ar:List Arv)(v:Value)(evs:List Ev)(err:Int):Prop where
 wl:WlAt W p S cS ds ls n M ar
 bk:Bk W T #[f0,f1,f2,a7,.pointer (some ⟨p.B,0,none⟩),v,err] 166
 row:EvRow (T+1) W v evs
 bt:p.B<T
 low:LoW w0 p
 dn:Below w0 w0 W
structure TFr(p:Wp)(T:Nat)(S:Option Addr)(v:Value)(W W':World):Prop where
 os:W'.os=W.os
 tape:W'.tape=W.tape
 output:W'.output=W.output
 size:W.heap.size<=W'.heap.size
 block:∀b,b<W.heap.size->b≠p.B->b≠p.f->b≠p.o->b≠p.k->b≠p.G->b≠T->(∀a,S=some a->b≠a.block)->v.ownBlock≠some b->W'.heap[b]?=W.heap[b]?
def OG(v v':Value)(N:Nat):Prop:=∀g,v'.ownBlock=some g->v.ownBlock=some g\/N<=g
theorem OG.refl(v:Value)(N:Nat):OG v v N:=λ_ h=>Or.inl h
theorem TFr.of_wf{p:Wp}{T:Nat}{S:Option Addr}{v:Value}{W W':World}(h:WF p S W W'):TFr p T S v W W':=⟨h.os,h.tape,h.output,h.size,λb hb h1 h2 h3 h4 h5 _ h7 _=>h.block b hb h1 h2 h3 h4 h5 h7⟩
theorem TFr.of_below{p:Wp}{T:Nat}{S:Option Addr}{v:Value}{W W':World}(h:Below W W W'):TFr p T S v W W':=TFr.of_wf (WF.of_below h)
theorem TFr.trans{p:Wp}{T:Nat}{S S1:Option Addr}{v v1:Value}{W W1 W2:World}(h:TFr p T S v W W1)(g:TFr p T S1 v1 W1 W2)(hS:SG S S1 W.heap.size)(hv:OG v v1 W.heap.size):TFr p T S v W W2 :=
 ⟨g.os.trans h.os,g.tape.trans h.tape,g.output.trans h.output,Nat.le_trans h.size g.size,λb hb h1 h2 h3 h4 h5 h6 h7 h8 =>
  (g.block b (Nat.lt_of_lt_of_le hb h.size) h1 h2 h3 h4 h5 h6 (λa ha e=>by
    rcases hS a ha with⟨a',ha',e'⟩|k
    ·exact h7 a' ha' (e.trans e'.symm)
    ·omega) (λe=>by
    rcases hv b e with k|k
    ·exact h8 k
    ·omega)).trans (h.block b hb h1 h2 h3 h4 h5 h6 h7 h8)⟩
def TOut(w0 W:World)(p:Wp)(T:Nat)(f0 f1 f2:Value)(a7:Int)(S:Option Addr)(v:Value)(ds:List Dv)(ls:List Lk)(n:Nat)(M:Mnd)(ar:List Arv)(evs:List Ev)(err:Int)(W':World):Prop :=
 ∃S' cS' v',Tl w0 W' p T f0 f1 f2 a7 S' cS' ds ls n M ar v' evs err /\ TFr p T S v W W' /\ SG S S' W.heap.size /\ OG v v' W.heap.size
section
variable {w0 W W' W1 W2:World}{p:Wp}{T:Nat}{f0 f1 f2:Value}{a7:Int}{S S1:Option Addr}{cS cS1:Nat}{ds:List Dv}{ls:List Lk}{n n':Nat}{M M':Mnd}{ar ar':List Arv}{v v1:Value}{evs evs':List Ev}{err err':Int}
theorem SG.trans{S S1 S2:Option Addr}{N N1:Nat}(h:SG S S1 N)(g:SG S1 S2 N1)(hN:N<=N1):SG S S2 N:=λa2 h2=>by
 rcases g a2 h2 with⟨a1,h1,e1⟩|k
 ·rcases h a1 h1 with⟨a,ha,e⟩|k
  ·exact Or.inl ⟨a,ha,e.trans e1⟩
  ·exact Or.inr (by omega)
 ·exact Or.inr (by omega)
theorem OG.trans{v v1 v2:Value}{N N1:Nat}(h:OG v v1 N)(g:OG v1 v2 N1)(hN:N<=N1):OG v v2 N:=λg2 h2=>by
 rcases g g2 h2 with k|k
 ·exact h g2 k
 ·exact Or.inr (by omega)
theorem TOut.from(h:TFr p T S v W W1)(hS:SG S S1 W.heap.size)(hv:OG v v1 W.heap.size)(g:TOut w0 W1 p T f0 f1 f2 a7 S1 v1 ds ls n M ar evs err W2):TOut w0 W p T f0 f1 f2 a7 S v ds ls n M ar evs err W2:=by
 obtain⟨S2,cS2,v2,a,b,c,d⟩:=g;exact⟨S2,cS2,v2,a,h.trans b hS hv,hS.trans c h.size,hv.trans d h.size⟩
theorem TOut.fromB(h:Below W W W1)(g:TOut w0 W1 p T f0 f1 f2 a7 S v ds ls n M ar evs err W2):TOut w0 W p T f0 f1 f2 a7 S v ds ls n M ar evs err W2:=TOut.from (TFr.of_below h) (SG.refl _ _) (OG.refl _ _) g
theorem Tl.sT(h:Tl w0 W p T f0 f1 f2 a7 S cS ds ls n M ar v evs err):∀g,(Value.slice S ar.length cS).ownBlock=some g->g≠T:=λg hg e=>by
 obtain⟨_,_,cur,hc⟩:=cg h.wl.seen hg;have hb:W.heap[T]?=_:=h.bk;rw[e,hb]at hc;cases hc
theorem Tl.vT(h:Tl w0 W p T f0 f1 f2 a7 S cS ds ls n M ar v evs err):v.ownBlock≠some T:=λhg=>by
 have:=(cg h.row hg).2.1;omega
theorem ml{W:World}{A:Option Addr}{n cap B e size m:Nat}{xs:List Value}(h:W.ownsRow B e size (.slice A n cap) m xs):∀a,A=some a->(Value.slice A n cap).ownBlock=some a.block:=λa ha=>by
 obtain⟨A',e9,e',k⟩:=ku h;cases e';exact k a ha
theorem Tl.vS(h:Tl w0 W p T f0 f1 f2 a7 S cS ds ls n M ar v evs err):∀a,S=some a->v.ownBlock≠some a.block:=λa ha hg=>by
 obtain⟨_,_,cur,hc⟩:=cg h.wl.seen (ml h.wl.seen a ha);obtain⟨_,_,cur',hc'⟩:=cg h.row hg;rw[hc]at hc';cases hc'
theorem Tl.aT(h:Tl w0 W p T f0 f1 f2 a7 S cS ds ls n M ar v evs err):∀a,S=some a->a.block≠T:=λa ha=>h.sT _ (ml h.wl.seen a ha)
theorem Tl.below(h:Tl w0 W p T f0 f1 f2 a7 S cS ds ls n M ar v evs err)(hb:Below W W W'):Tl w0 W' p T f0 f1 f2 a7 S cS ds ls n M ar v evs err :=
 ⟨h.wl.below hb,Bk.keep hb h.bk,h.row.below hb,h.bt,h.low,ag hb h.dn⟩
theorem Tl.out(h:Tl w0 W p T f0 f1 f2 a7 S cS ds ls n M ar v evs err)(hb:Below W1 W1 W)(hn:n<=n'):TOut w0 W1 p T f0 f1 f2 a7 S v ds ls n' M ar evs err W :=
 ⟨S,cS,v,{ h with wl:=h.wl.mono hn },TFr.of_below hb,SG.refl _ _,OG.refl _ _⟩
theorem Tl.aout(h:Tl w0 W p T f0 f1 f2 a7 S cS ds ls n M ar v evs err)(g:AOut W p S ds ls n' M' ar' W'):∃S1 cS1,Tl w0 W' p T f0 f1 f2 a7 S1 cS1 ds ls n' M' ar' v evs err /\ WF p S W W' /\ SG S S1 W.heap.size:=by
 obtain⟨S1,cS1,h1,h2,h3⟩:=g;refine⟨S1,cS1,⟨h1,ki h.wl h.bk h.bt h.aT h2,dF h.row (λg hg=>?_),h.bt,h.low,kh h.wl h.low h.dn h2⟩,h2,h3⟩;obtain⟨hl,hB,_⟩:=cg h.row hg;obtain⟨l1,l2,l3,l4⟩:=h.wl.lo;have hbt:=h.bt;exact h2.block g hl (by omega) (by omega) (by omega) (by omega) (by omega) (λa ha e=>h.vS a ha (by rw[hg,e]))
theorem Tl.keepT(h:Tl w0 W p T f0 f1 f2 a7 S cS ds ls n M ar v evs err)(u:Value)(j:Nat):WlAt (W.setCell ⟨T,j,none⟩ u) p S cS ds ls n M ar /\ EvRow (T+1) (W.setCell ⟨T,j,none⟩ u) v evs /\ Below w0 w0 (W.setCell ⟨T,j,none⟩ u):=by
 have hF:∀b,b≠T->(W.setCell ⟨T,j,none⟩ u).heap[b]?=W.heap[b]?:=λb hb=>Below.heap_setCell W ⟨T,j,none⟩ u b hb;refine⟨h.wl.put h.bt h.sT hF,dF h.row (λg hg=>hF g (λe=>h.vT (by rw[hg,e]))),?_⟩;have hT:w0.heap.size<=T:=by
  have:=h.low.2.2.2.1;have:=h.bt;omega
 exact h.dn.setCell hT u
theorem Tl.setErr(h:Tl w0 W p T f0 f1 f2 a7 S cS ds ls n M ar v evs err)(e:Int):Tl w0 (W.setCell ⟨T,6,none⟩ (.int .i64 e)) p T f0 f1 f2 a7 S cS ds ls n M ar v evs e:=by
 obtain⟨a,b,c⟩:=h.keepT (.int .i64 e) 6;exact⟨a,h.bk.setS _,b,h.bt,h.low,c⟩
end
theorem WlAt.stayH{W W':World}{p:Wp}{S:Option Addr}{cS:Nat}{ds:List Dv}{ls:List Lk}{n:Nat}{M:Mnd}{ar:List Arv}(h:WlAt W p S cS ds ls n M ar)(h1:∀b,b<=p.B->W'.heap[b]?=W.heap[b]?)(h2:∀b,(Value.slice S ar.length cS).ownBlock=some b->W'.heap[b]?=W.heap[b]?):WlAt W' p S cS ds ls n M ar :=
 have kt:KT p.B W W':=λb hb _=>h1 b (Nat.le_of_lt hb);have lo:=h.lo
 ⟨(h1 _ (Nat.le_refl _)).trans h.blk,h.devs.kt kt,h.links.kt kt,h.mdevs.kt kt,h.mlinks.kt kt,h.fl.same (h1 _ (Nat.le_of_lt lo.1)),h.ow.same (h1 _ (Nat.le_of_lt lo.2.1)),h.bk.same (h1 _ (Nat.le_of_lt lo.2.2.1)),h.fo,h.fk,h.ok,dF h.seen h2,h.was.same (h1 _ (Nat.le_of_lt lo.2.2.2)),h.gf,h.go,h.gk,h.lo,h.all⟩
def bY(a7:Int)(r:Int)(x:Ev)(evs:List Ev):List Ev × Int :=
 if r=0 then if(evs.length:Int)=a7 then(evs,2)else(evs++[x],0)else if x.k=3 then(evs,0)else(evs,r)
section
variable {w0 W W' W1 W2:World}{p:Wp}{T:Nat}{f0 f1 f2:Value}{a7:Int}{S S1:Option Addr}{cS cS1:Nat}{ds:List Dv}{ls:List Lk}{n n':Nat}{M M':Mnd}{ar ar':List Arv}{v v1:Value}{evs evs':List Ev}{err err':Int}
theorem Tl.drew(h:Tl w0 W p T f0 f1 f2 a7 S cS ds ls n M ar v evs err):Tl w0 W.drew p T f0 f1 f2 a7 S cS ds ls n M ar v evs err:=h.below (Below.refl _ _).drew
theorem Tl.app(h:Tl w0 W p T f0 f1 f2 a7 S cS ds ls n M ar v evs err)(x:Ev)(hl:evs.length<=5000) :
  ∃A c W1,(Builtin.append_ #[40,40] 40 #[v,.slice (some ⟨W,0,none⟩) 1 1]).run prog (W.alloc (.cells #[x.k,x.i,x.q,x.p.s,x.p.d,x.p.sp,x.p.dp,x.c] 47))=.ok (.slice A (evs.length+1) c) W1 /\ Bk W1 T #[f0,f1,f2,a7,.pointer (some ⟨p.B,0,none⟩),v,err] 166 /\ Tl w0 (W1.setCell ⟨T,5,none⟩ (.slice A (evs.length+1) c)) p T f0 f1 f2 a7 S cS ds ls n M ar (.slice A (evs.length+1) c) (evs++[x]) err /\ TFr p T S v W (W1.setCell ⟨T,5,none⟩ (.slice A (evs.length+1) c)) /\ OG v (.slice A (evs.length+1) c) W.heap.size:=by
 have hTs:=h.bk.lt;obtain⟨v',W1,hr,q1,q2,q3,q4⟩:=mQ uEvS mR rfl (by omega) (by omega) (m:=1) 40 h.row (us:=[x].flatMap evC) rfl (mS _) (by omega) (by omega) (by omega);obtain⟨A,c,rfl⟩:=dh q1;have hT:w0.heap.size<=T:=by
  have:=h.low.2.2.2.1;have:=h.bt;omega
 have k1:∀b,b<W.heap.size->v.ownBlock≠some b->W1.heap[b]?=W.heap[b]?:=λb hb hv=>q3.block b hb (λe=>hv e.symm);have bk1:Bk W1 T _ _:=(k1 T hTs h.vT).trans h.bk;have q1':EvRow (T+1) W1 (.slice A (evs.length+1) c) (evs++[x]):=by
  unfold EvRow;rw[List.length_append,List.flatMap_append];exact q1
 have hT1:∀g,(Value.slice A (evs.length+1) c).ownBlock=some g->g≠T:=λg hg e=>by
  have:=(cg q1 hg).2.1;omega
 have hs:∀b,b≠T->(W1.setCell ⟨T,5,none⟩ (.slice A (evs.length+1) c)).heap[b]?=W1.heap[b]?:=λb hb=>Below.heap_setCell W1 ⟨T,5,none⟩ _ b hb;have hBW:=h.wl.blk.lt;have wl1:WlAt (W1.setCell ⟨T,5,none⟩ (.slice A (evs.length+1) c)) p S cS ds ls n M ar:=by
  refine h.wl.stayH (λb hb=>?_) (λb hb=>?_)
  ·have hbt:=h.bt;rw[hs b (by omega)];exact k1 b (by omega) (λe=>by have:=(cg h.row e).2.1;omega)
  ·obtain⟨hl',_,cur,hc⟩:=cg h.wl.seen hb;rw[hs b (h.sT b hb)];refine k1 b hl' (λe=>?_);obtain⟨_,_,cur',hc'⟩:=cg h.row e;rw[hc]at hc';cases hc'
 refine⟨A,c,W1,hr,bk1,⟨wl1,bk1.setS _,dF q1' (λg hg=>hs g (hT1 g hg)),h.bt,h.low,?_⟩,⟨q2.os,q2.tape,q2.output,Nat.le_trans q3.size (by simp),λb hb _ _ _ _ _ h6 _ h8=>(hs b h6).trans (k1 b hb h8)⟩,λg hg=>?_⟩
 ·have d1:Below w0 w0 W1:=h.dn.trans ⟨q2.os,q2.tape,q2.output,q3.size,λb hb=>q2.block b (by omega)⟩;exact d1.setCell hT _
 ·rcases q4 with e|⟨g',e,hg'⟩
  ·exact Or.inl (e ▸ hg)
  ·rw[e]at hg;cases hg;exact Or.inr hg'
end
theorem mm{a7:Int}{x:Ev}{evs:List Ev}(h:(evs.length:Int)=a7):bY a7 0 x evs=(evs,2):=by unfold bY;rw[if_pos rfl,if_pos h]
theorem mn{a7:Int}{x:Ev}{evs:List Ev}(h:¬(evs.length:Int)=a7):bY a7 0 x evs=(evs++[x],0):=by unfold bY;rw[if_pos rfl,if_neg h]
theorem mr{a7 r:Int}{x:Ev}{evs:List Ev}(h:¬r=0)(h3:x.k=3):bY a7 r x evs=(evs,0):=by unfold bY;rw[if_neg h,if_pos h3]
theorem sO{a7 r:Int}{x:Ev}{evs:List Ev}(h:¬r=0)(h3:¬x.k=3):bY a7 r x evs=(evs,r):=by unfold bY;rw[if_neg h,if_neg h3]
theorem Tl.errOut{w0 W W1:World}{p:Wp}{T:Nat}{f0 f1 f2:Value}{a7:Int}{S:Option Addr}{cS:Nat}{ds:List Dv}{ls:List Lk}{n:Nat}{M:Mnd}{ar:List Arv}{v:Value}{evs:List Ev}{err:Int}(h:Tl w0 W p T f0 f1 f2 a7 S cS ds ls n M ar v evs err)(hb:Below W1 W1 W)(e:Int):TOut w0 W1 p T f0 f1 f2 a7 S v ds ls n M ar evs e (W.setCell ⟨T,6,none⟩ (.int .i64 e)) :=
 ⟨S,cS,v,h.setErr e,⟨hb.os,hb.tape,hb.output,by simpa using hb.size,λb hb' _ _ _ _ _ h6 _ _=>(Below.heap_setCell W ⟨T,6,none⟩ _ b h6).trans (hb.block b hb')⟩,SG.refl _ _,OG.refl _ _⟩
theorem Tl.appOut{w0 W W':World}{p:Wp}{T:Nat}{f0 f1 f2:Value}{a7:Int}{S:Option Addr}{cS:Nat}{ds:List Dv}{ls:List Lk}{n:Nat}{M:Mnd}{ar:List Arv}{v v':Value}{evs:List Ev}{err:Int}(h:Tl w0 W' p T f0 f1 f2 a7 S cS ds ls n M ar v' evs err)(g:TFr p T S v W W')(o:OG v v' W.heap.size):TOut w0 W p T f0 f1 f2 a7 S v ds ls n M ar evs err W':=⟨S,cS,v',h,g,SG.refl _ _,o⟩
theorem sP{w0:World}{p:Wp}{T:Nat}{f0 f1 f2:Value}{a7:Int}{S:Option Addr}{cS:Nat}{ds:List Dv}{ls:List Lk}{n:Nat}{M:Mnd}{ar:List Arv}{v:Value}{evs:List Ev}(x:Ev)(w:World)(h:Hid (Tl w0 w p T f0 f1 f2 a7 S cS ds ls n M ar v evs 0))(hx:Hid x.ok)(hz:Hid (netV ds ls=0))(hO:Hid ((aB ds ls M x.i x.q x.p x.c).err=0->cK ((aB ds ls M x.i x.q x.p x.c).tp,(aB ds ls M x.i x.q x.p x.c).p)))(hn:n+1<maxLen)(ha:ar.length<=5000)(he:evs.length<=5000) :
  Cl 113 #[.pointer T,evV x] w λe w'=>e=.returned (.tuple #[]) /\ TOut w0 w p T f0 f1 f2 a7 S v ds ls (n+2) (doP ds ls M ar x).2.1 (doP ds ls M ar x).2.2 (bY a7 (doP ds ls M ar x).1 x evs).1 (bY a7 (doP ds ls M ar x).1 x evs).2 w':=by
 have h1:=h.out.below (Below.alN (Below.refl w w) (.cells #[x.k,x.i,x.q,x.p.s,x.p.d,x.p.sp,x.p.dp,x.c] 47));have D1:=Below.alN (Below.refl w w) (.cells #[x.k,x.i,x.q,x.p.s,x.p.d,x.p.sp,x.p.dp,x.c] 47);have X1:=ah w #[x.k,x.i,x.q,x.p.s,x.p.d,x.p.sp,x.p.dp,x.c] 47;have DO:Hid (∀W,WlAt W p S cS ds ls n M ar->Cl 12 #[.pointer (some ⟨p.B,0,none⟩),.agg #[x.k,x.i,x.q,x.p.s,x.p.d,x.p.sp,x.p.dp,x.c]] W λe w'=>e=.returned (.int .i64 (doP ds ls M ar x).1) /\ AOut W p S ds ls (n+2) (doP ds ls M ar x).2.1 (doP ds ls M ar x).2.2 w'):=λW hw=>kv x W (hidOf hw) hx hz hO hn ha;obtain⟨r,M',ar',hr⟩:∃r M' ar',doP ds ls M ar x=(r,M',ar'):=⟨_,_,_,rfl⟩;rw[hr]at DO ⊢;dsimp only at DO ⊢;have XK:Hid (∀{W:World},AOut (w.alloc (.cells #[x.k,x.i,x.q,x.p.s,x.p.d,x.p.sp,x.p.dp,x.c] 47)).drew p S ds ls (n+2) M' ar' W->∃S1 cS1,Tl w0 W p T f0 f1 f2 a7 S1 cS1 ds ls (n+2) M' ar' v evs 0 /\ TFr p T S v w W /\ SG S S1 w.heap.size /\ Bk W w.heap.size #[x.k,x.i,x.q,x.p.s,x.p.d,x.p.sp,x.p.dp,x.c] 47):=λ{W} hA=>by
  obtain⟨S1,cS1,a,b,c⟩:=h1.drew.aout hA;refine⟨S1,cS1,a,(TFr.of_below D1.drew).trans (TFr.of_wf b) (SG.refl _ _) (OG.refl _ _),(λa ha=>(c a ha).imp id (Nat.le_trans (by simp))),?_⟩;have hlo:=h.out.wl.lo;have hB:=h.out.wl.blk.lt;refine(b.block w.heap.size (by simp) (by omega) (by omega) (by omega) (by omega) (by omega) (λa ha e=>?_)).trans X1;have:=(h.out.wl.sblk a ha).2;omega
 obtain⟨N,hN⟩:∃N,N=w.heap.size:=⟨_,rfl⟩;obtain⟨w1,hw1⟩:∃w1,w1=w.alloc (.cells #[x.k,x.i,x.q,x.p.s,x.p.d,x.p.sp,x.p.dp,x.c] 47):=⟨_,rfl⟩;have t4:=h1.bk.at 4;have t6:=h1.bk.at 6;have x0:=X1.at 0;have x1:=X1.at 1;have x2:=X1.at 2;have x3:=X1.at 3;have x4:=X1.at 4;have x5:=X1.at 5;have x6:=X1.at 6;have x7:=X1.at 7;have wl:=h1.drew.wl;obtain⟨k,i,q,⟨s,d,sp,dp⟩,c⟩:=x;dsimp only at *;have B1:=h1.bk;have Y1:=X1;clear h hx hz hO hr h1 D1 X1;have HS:Hid (∀{W:World} {v:Value} {e:Int},Bk W T #[f0,f1,f2,a7,.pointer (some ⟨p.B,0,none⟩),v,e] 166->Bk W w.heap.size #[k,i,q,s,d,sp,dp,c] 47->W.cell? ⟨T,4,none⟩=some (.pointer (some ⟨p.B,0,none⟩)) /\ W.cell? ⟨w,0,none⟩=some (.int .i64 k) /\ W.cell? ⟨w,1,none⟩=some (.int .i64 i) /\ W.cell? ⟨w,2,none⟩=some (.int .i64 q) /\ W.cell? ⟨w,3,none⟩=some (.int .i64 s) /\ W.cell? ⟨w,4,none⟩=some (.int .i64 d) /\ W.cell? ⟨w,5,none⟩=some (.int .i64 sp) /\ W.cell? ⟨w,6,none⟩=some (.int .i64 dp) /\ W.cell? ⟨w,7,none⟩=some (.int .i64 c)):=λ{W v e} h g=>⟨h.at 4,g.at 0,g.at 1,g.at 2,g.at 3,g.at 4,g.at 5,g.at 6,g.at 7⟩;go_enter func113,ntmps113;go_wp2_with fail;refine wp_region_held_drew (S:=λW=>W.cell? ⟨T,4,none⟩=some (.pointer (some ⟨p.B,0,none⟩)) /\ W.cell? ⟨w,0,none⟩=some (.int .i64 k) /\ W.cell? ⟨w,1,none⟩=some (.int .i64 i) /\ W.cell? ⟨w,2,none⟩=some (.int .i64 q) /\ W.cell? ⟨w,3,none⟩=some (.int .i64 s) /\ W.cell? ⟨w,4,none⟩=some (.int .i64 d) /\ W.cell? ⟨w,5,none⟩=some (.int .i64 sp) /\ W.cell? ⟨w,6,none⟩=some (.int .i64 dp) /\ W.cell? ⟨w,7,none⟩=some (.int .i64 c)) (by rfl) (HS.out B1.drew Y1.drew) (λhHeld=>?_);try simp only[ly]
 refine tk 0 ?_;try simp only[ly]
 refine tk 1 ?_;try simp only[ly]
 refine tk 2 ?_;try simp only[ly]
 refine tk 3 ?_;try simp only[ly]
 refine tk 4 ?_;try simp only[ly]
 refine rd 5 (λK hK=>?_);go_simp;with_reducible refine(DO.out _ wl).mono ?_
 rintro e w2⟨rfl,hA⟩;obtain⟨S1,cS1,TL,TF,TS,X2⟩:=XK.out hA;dsimp only;clear hHeld;refine hK.out _ _ (HS.out TL.bk X2) (λhHeld=>?_);clear hK K;try simp only[ly]
 refine tk 6 ?_;try simp only[ly]
 refine wpAnyH_done (by kernel_rfl) ?_ _;clear HS XK DO hA hHeld wl B1 Y1 t4 t6 x0 x1 x2 x3 x4 x5 x6 x7 hw1 hN;have FI:Hid (∀{evs' err' W'},bY a7 r ⟨k,i,q,⟨s,d,sp,dp⟩,c⟩ evs=(evs',err')->TOut w0 w2 p T f0 f1 f2 a7 S1 v ds ls (n+2) M' ar' evs' err' W'->TOut w0 w p T f0 f1 f2 a7 S v ds ls (n+2) M' ar' (bY a7 r ⟨k,i,q,⟨s,d,sp,dp⟩,c⟩ evs).1 (bY a7 r ⟨k,i,q,⟨s,d,sp,dp⟩,c⟩ evs).2 W'):=λ{evs' err' W'} e g=>by
  rw[e];exact TOut.from TF TS (OG.refl _ _) g
 obtain⟨A,cv,rfl⟩:=dh TL.row;have t1:=TL.bk.at 1;have t3:=TL.bk.at 3;have t5:=TL.bk.at 5;have t6:=TL.bk.at 6;have z6:=TL.bk.fz 6;have x0:=X2.at 0;have lt:=TL.bk.lt;by_cases hr0:r=0
 ·subst hr0;by_cases hm:(evs.length:Int)=a7
  ·have hmm:((evs.length:Int) == a7)=true:=by simpa using hm
   have fin:=FI.out (mm hm) (TL.drew.errOut (Below.refl w2 w2).drew 2);have z6:=TL.drew.bk.fz 6;have lt:=TL.drew.bk.lt;clear TL FI TF X2;go_wp2_with fail;go_region;all_goals
    go_wp2_with fail
    go_end0
    exact⟨rfl,fin⟩
  ·have hmm:((evs.length:Int) == a7)=false:=by simpa using hm
   have x1:=X2.at 1;have x2:=X2.at 2;have x3:=X2.at 3;have x4:=X2.at 4;have x5:=X2.at 5;have x6:=X2.at 6;have x7:=X2.at 7;obtain⟨A7,c7,w7,r7,B7,T7,F7,O7⟩:=TL.drew.drew.app ⟨k,i,q,⟨s,d,sp,dp⟩,c⟩ he;dsimp only at r7;have fin:=FI.out (mn hm) (Tl.appOut T7 ((TFr.of_below (Below.refl w2 w2).drew.drew).trans F7 (SG.refl _ _) (OG.refl _ _)) O7);have d5:=B7.at 5;have f5:=B7.fz 5;have b5:=B7.lt;clear TL FI TF X2 T7 F7 O7 B7;go_wp2_with fail;go_region;all_goals
    go_wp2_with fail
    go_region_law (refine nC (by rfl) _ _ 40 (by rfl) _ _ _ w7 (by rfl) (by rfl) r7 ?_)
    all_goals
     go_wp2_with fail
     go_end0
     exact⟨rfl,fin⟩
 ·have hrr:(r == 0)=false:=by simpa using hr0
  by_cases hk:k=3
  ·subst hk;have fin:=FI.out (mr hr0 rfl) (TL.drew.out (Below.refl w2 w2).drew (Nat.le_refl _));clear TL FI TF X2;go_wp2_with fail;go_region;all_goals
    go_wp2_with fail
    go_end0
    exact⟨rfl,fin⟩
  ·have hkk:(k == 3)=false:=by simpa using hk
   have fin:=FI.out (sO hr0 hk) (TL.drew.errOut (Below.refl w2 w2).drew r);have z6:=TL.drew.bk.fz 6;have lt:=TL.drew.bk.lt;clear TL FI TF X2;go_wp2_with fail;go_region;all_goals
    go_wp2_with fail
    go_end0
    exact⟨rfl,fin⟩
theorem tell_no{w0:World}{p:Wp}{T:Nat}{f0 f1 f2:Value}{a7:Int}{S:Option Addr}{cS:Nat}{ds:List Dv}{ls:List Lk}{n:Nat}{M:Mnd}{ar:List Arv}{v:Value}{evs:List Ev}{err:Int}(x:Ev)(w:World)(h:Hid (Tl w0 w p T f0 f1 f2 a7 S cS ds ls n M ar v evs err))(he:¬err=0) :
  Cl 113 #[.pointer T,evV x] w λe w'=>e=.returned (.tuple #[]) /\ TOut w0 w p T f0 f1 f2 a7 S v ds ls n M ar evs err w':=by
 have D1:=Below.alN (Below.refl w w) (.cells #[x.k,x.i,x.q,x.p.s,x.p.d,x.p.sp,x.p.dp,x.c] 47);have h1:=h.out.below D1;have fin:=h1.out D1 (Nat.le_refl _);have t6:=h1.bk.at 6;have hee:(err == 0)=false:=by simpa using he
 clear h h1 D1;go_enter func113,ntmps113;go_wp2_with fail;first
  | (go_end0;exact⟨rfl,fin⟩)
  | exact bodyPost_ret (results_none rfl _ _ _) rfl ⟨rfl,fin⟩
  | (trace_state;fail)
section
variable {ds:List Dv}{ls:List Lk}{K:Nat}{s s' s'' s1 s2:Mnd × List Arv}{c c' l l':List Ev}{x y:Arv}{i:Nat}{d:Dv}{o q:Int}{p:Pk}{t:Int × Int}
structure Come(ds:List Dv)(ls:List Lk)(rn:Arv->Int)(x:Arv)(i:Nat)(d:Dv)(o:Int):Prop where
 dv:ds[i]?=some d
 peer:peerF ls i o=some x.1
 back:peerF ls x.1.1 x.1.2=some ((i:Int),o)
 pk:ae x.2=true
 came:kc d i o x rn
 sent:(d.kind=1 /\ o=0 /\ x.2.s=d.addr)\/∃I,az d i I o x.2
 port:o=0\/o=1\/d.kind=2
 few:i<=10
theorem sQ{I J:cI}(hIJ:∀t p,I t p->J t p)(h:az d (i:Int) I o p):az d (i:Int) J o p:=by
 unfold az at h ⊢
 split
 ·rename_i hk
  rw[if_pos hk]at h;obtain⟨q,a,b,c,e⟩:=h;exact⟨q,a,b,hIJ _ _ c,e⟩
 ·rename_i hk
  rw[if_neg hk]at h
  split
  ·rename_i hk
   rw[if_pos hk]at h
   split
   ·rename_i ho
    rw[if_pos ho]at h;exact⟨hIJ _ _ h.1,h.2⟩
   ·rename_i ho
    rw[if_neg ho]at h;exact⟨h.1,hIJ _ _ h.2.1,hIJ _ _ h.2.2.1,h.2.2.2⟩
  ·rename_i hk
   rw[if_neg hk]at h
   split
   ·rename_i hk
    rw[if_pos hk]at h
    split
    ·rename_i ho
     rw[if_pos ho]at h;obtain⟨a,b,s,sp,e⟩:=h;exact⟨a,b,s,sp,hIJ _ _ e⟩
    ·rename_i ho
     rw[if_neg ho]at h;obtain⟨a,⟨k,b,e⟩,u,v,e'⟩:=h;exact⟨a,⟨k,b,hIJ _ _ e⟩,u,v,hIJ _ _ e'⟩
   ·rename_i hk
    rw[if_neg hk]at h
    split
    ·rename_i hk
     rw[if_pos hk]at h
     split
     ·rename_i ho
      rw[if_pos ho]at h;rcases h with⟨a,b⟩|⟨a,b⟩
      ·exact Or.inl ⟨hIJ _ _ a,b⟩
      ·exact Or.inr ⟨a,hIJ _ _ b⟩
     ·rename_i ho
      rw[if_neg ho]at h;obtain⟨a,e|⟨b,bb,e1,e2,e3⟩⟩:=h
      ·exact⟨a,Or.inl (hIJ _ _ e)⟩
      ·exact⟨a,Or.inr ⟨b,bb,e1,hIJ _ _ e2,hIJ _ _ e3⟩⟩
    ·rename_i hk
     rw[if_neg hk]at h;exact h
theorem sR{I:cI}(h:az d (i:Int) I o p):o=0\/o=1\/d.kind=2:=by
 by_cases h2:d.kind=2
 ·exact Or.inr (Or.inr h2)
 ·by_cases h1:o=1
  ·exact Or.inr (Or.inl h1)
  ·unfold az at h;rw[if_neg h2]at h
   split at h
   ·exact Or.inl h.1
   ·split at h
    ·exact Or.inl h.1
    ·split at h
     ·exact Or.inl h.1
     ·exact absurd h id
theorem sS{I:cI}(h:az d (i:Int) I o p):¬d.kind=1:=λhk=>by
 unfold az at h;rw[if_neg (by omega),if_neg (by omega),if_neg (by omega),if_neg (by omega)]at h;exact h
theorem sU(h:az d (i:Int) (λ_ _=>False) o p):False:=by
 unfold az at h
 split at h
 ·obtain⟨q,a,b,c,e⟩:=h;exact c
 ·split at h
  ·split at h
   ·exact h.1
   ·exact h.2.1
  ·split at h
   ·split at h
    ·obtain⟨a,b,s,sp,e⟩:=h;exact e
    ·obtain⟨a,⟨k,b,e⟩,u⟩:=h;exact e
   ·split at h
    ·split at h
     ·rcases h with⟨a,b⟩|⟨a,b⟩
      ·exact a
      ·exact b
     ·obtain⟨a,e|⟨b,bb,e1,e2,e3⟩⟩:=h
      ·exact e
      ·exact e2
    ·exact h
theorem sV(hz:netV ds ls=0)(hp:ae p=true){a b:Nat}(hab:a<=b)(h:ay ds ls a t p):ay ds ls b t p:=by
 induction b with
 | zero =>
   obtain rfl:a=0:=by omega
   exact h
 | succ b ih =>
   by_cases e:a=b+1
   ·subst e;exact h
   ·exact(ju hz hp).2 (Or.inl (ih (by omega)))
theorem sW(hz:netV ds ls=0)(h:0<=rdF ds ls K x):∃i d o,Come ds ls (rdF ds ls K) x i d o:=by
 obtain⟨j,e,hj,hp,hs,hl⟩:=fS h;have hap:=(bi hz).2.2.1;have h10:=(bi hz).1;cases j with
 | zero =>
   obtain⟨i,d,hd,hk,hpe,ha⟩:=(kV hz hp).1 hs;have hi:=(List.getElem?_eq_some_iff.1 hd).1;exact⟨i,d,0,hd,hpe,dK hap hpe,hp,⟨h,Or.inl hk⟩,Or.inl ⟨hk,rfl,ha⟩,Or.inl rfl,by omega⟩
 | succ j =>
   rcases(pe hz hp).1 hs with hs|⟨i,d,o,hd,hpe,hs⟩
   ·exact absurd hs (hl j (by omega))
   ·have hi:=(List.getElem?_eq_some_iff.1 hd).1;refine⟨i,d,o,hd,hpe,dK hap hpe,hp,⟨h,Or.inr ⟨sS hs,by omega,sQ (λt p hq=>?_) hs⟩⟩,Or.inr ⟨_,hs⟩,sR hs,by omega⟩;obtain⟨a,b⟩:=km (K:=K) (x:=(t,p)) (j:=j) (by omega) hq.1 hq.2;exact⟨hq.1,a,by omega⟩
theorem do_up(hz:netV ds ls=0)(h:SInv ds ls K s)(x:Ev)(hy:y∈s.2):y∈(doP ds ls s.1 s.2 x).2.2:=by
 obtain⟨_,_,e|⟨_,z,e⟩⟩:=kw hz h.mok h.pks x
 ·rw[e];exact hy
 ·rw[e];exact List.mem_append.2 (Or.inl hy)
theorem mu(hz:netV ds ls=0)(h:SInv ds ls K s)(x:Ev):(doP ds ls s.1 s.2 x).2.2.length<=s.2.length+1:=by
 obtain⟨_,_,e|⟨_,z,e⟩⟩:=kw hz h.mok h.pks x
 ·rw[e];omega
 ·rw[e];simp
theorem Runs.all(hz:netV ds ls=0)(hI:Closed ds ls (ay ds ls K)):∀{l:List Ev} {s:Mnd × List Arv},SInv ds ls K s->Runs ds ls s l s'->SInv ds ls K s' /\ (∀y∈s.2,y∈s'.2) /\ s'.2.length<=s.2.length+l.length
 | [],s,h,hr=>by
   obtain rfl:s'=s:=hr;exact⟨h,λy hy=>hy,by simp⟩
 | x::l,s,h,hr=>by
   obtain⟨a,b,c⟩:=Runs.all hz hI (h.act hz hI x) hr.2;have:=mu hz h x;exact⟨a,λy hy=>b y (do_up hz h x hy),by simp only[List.length_cons];omega⟩
structure BrP(ds:List Dv)(ls:List Lk)(K:Nat)(x:Arv)(s s':Mnd × List Arv)(l:List Ev):Prop where
 run:Runs ds ls s l s'
 inv:SInv ds ls K s'
 has:x∈s'.2
 new:∀y∈s'.2,y∈s.2\/rdF ds ls K y<rdF ds ls K x\/(rdF ds ls K y<=rdF ds ls K x /\ y.1≠x.1)\/y=x
 last:x∈s.2\/∃l0 z s1,l=l0++[z] /\ Runs ds ls s l0 s1 /\ x ∉ s1.2
theorem BrP.less(h:BrP ds ls K y s s' l)(hl:rdF ds ls K y<rdF ds ls K x):∀z∈s'.2,z∈s.2\/rdF ds ls K z<rdF ds ls K x:=λz hz=>by
 rcases h.new z hz with e|e|e|rfl
 ·exact Or.inl e
 ·exact Or.inr (by omega)
 ·exact Or.inr (by omega)
 ·exact Or.inr hl
theorem TR.one{z:Ev}(h:(doP ds ls s.1 s.2 z).1=0):TR ds ls s [z] (doP ds ls s.1 s.2 z).2 [z]:=TR.ok h (TR.nil _)
theorem sX(hz:netV ds ls=0)(hI:Closed ds ls (ay ds ls K))(hC:Come ds ls (rdF ds ls K) x i d o)(hc:CzOk d i o x (rdF ds ls K) c)(hx:x ∉ s.2)(hr:Runs ds ls s l s1)(hs:SInv ds ls K s1)(hn:∀y∈ai c,y∈s1.2)(hl:∀y∈s1.2,y∈s.2\/rdF ds ls K y<rdF ds ls K x) :
  ∃s' l2,TR ds ls s1 c s' l2 /\ BrP ds ls K x s s' (l++l2) /\ l2≠[]:=by
 obtain⟨j,hj,hjK,hp,hsj,hlj⟩:=fS hC.came.1;obtain⟨J,hJ1,hJ2⟩:∃J:cI,(∀y∈ai c,J y.1 y.2) /\ ∀(o':Int) (y:Arv),ae y.2=true->peerF ls i o'=some y.1->az d i J o' y.2->rdF ds ls K y<=rdF ds ls K x:=by
  cases j with
  | zero =>
    refine⟨λ_ _=>False,λy hy=>?_,λo' y _ _ h=>(sU h).elim⟩;have:=hc.few y hy;omega
  | succ j =>
    refine⟨jv ds ls j,λy hy=>?_,λo' y hpy hpe h=>?_⟩
    ·obtain⟨a,b⟩:=hc.few y hy;obtain⟨k,hk,hkK,hpk,hsk,_⟩:=fS a;exact⟨hpk,sV hz hpk (by omega) hsk⟩
    ·have h1:ay ds ls (j+1) y.1 y.2:=(pe hz hpy).2 (Or.inr ⟨i,d,o',hC.dv,hpe,h⟩);have:=(km (K:=K) (x:=y) hjK hpy h1).2;omega
 obtain⟨c0,z,s2,l0,rfl,htr,hnew,hz0,hzar⟩:=yN hz hI (J:=J) hC.dv hC.peer hc.is hC.sent hp hs (λy hy=>⟨hn y hy,hJ1 y hy⟩);have hs2:SInv ds ls K s2:=SInv.tr hz hI hs htr;have hx2:x ∉ s2.2:=λh=>by
  rcases hnew x h with h|⟨h,_⟩
  ·rcases hl x h with h|h
   ·exact hx h
   ·omega
  ·exact h rfl
 have hN:∀y∈s2.2,y∈s.2\/rdF ds ls K y<rdF ds ls K x\/(rdF ds ls K y<=rdF ds ls K x /\ y.1≠x.1):=λy hy=>by
  rcases hnew y hy with h|⟨h,o',hpe,hsd⟩
  ·rcases hl y h with h|h
   ·exact Or.inl h
   ·exact Or.inr (Or.inl h)
  ·exact Or.inr (Or.inr ⟨hJ2 o' y (hs2.pks y hy) hpe hsd,h⟩)
 refine⟨(doP ds ls s2.1 s2.2 z).2,l0++[z],htr.app (TR.one hz0),⟨?_,hs2.act hz hI z,?_,λy hy=>?_,Or.inr ⟨l++l0,z,s2,by simp,hr.app (htr.runs λy hy=>hc.ok y (List.mem_append.2 (Or.inl hy))),hx2⟩⟩,by simp⟩
 ·exact hr.app ((htr.app (TR.one hz0)).runs hc.ok)
 ·rw[hzar];exact addA_mem.2 (Or.inr rfl)
 ·rw[hzar]at hy;rcases addA_mem.1 hy with hy|hy
  ·rcases hN y hy with h|h|h
   ·exact Or.inl h
   ·exact Or.inr (Or.inl h)
   ·exact Or.inr (Or.inr (Or.inl h))
  ·exact Or.inr (Or.inr (Or.inr hy))
end
theorem sY(A:Option Addr)(cap:Nat)(c:List Ev)(w:World)(hX:Hid (SlAt w w 8 eY (.slice A c.length cap) c))(hn:c.length<=100) :
  Cl 112 #[.slice A c.length cap] w λe w'=>∃A' c',e=.returned (.slice A' (ai c).length c') /\ Hid (w'.ownsRow w 59 6 (.slice A' (ai c).length c') (ai c).length ((ai c).flatMap arC)) /\ Below w w w':=by
 obtain⟨hcap1,hcap2⟩:=hX.out.cap;obtain⟨V,hV⟩:∃V:Value->List Arv->World->Prop,V=λv l W=>Below w w W /\ W.ownsRow w 59 6 v l.length (l.flatMap arC):=⟨_,rfl⟩;have V0:V (.slice none 0 0) [] w:=by
  rw[hV];exact⟨Below.refl _ _,jB _ _ _⟩
 have VE:Hid (∀{v:Value} {l:List Arv} {W:World},V v l W->∀{k:Nat} {x:Ev},c[k]?=some x->∃b o,A=some ⟨b,o,none⟩ /\ W.cell? ⟨b,o+k*8,none⟩=some (.int .i64 x.k) /\ W.cell? ⟨b,o+k*8+1,none⟩=some (.int .i64 x.i) /\ W.cell? ⟨b,o+k*8+2,none⟩=some (.int .i64 x.q) /\ W.cell? ⟨b,o+k*8+3,none⟩=some (.int .i64 x.p.s) /\ W.cell? ⟨b,o+k*8+4,none⟩=some (.int .i64 x.p.d) /\ W.cell? ⟨b,o+k*8+5,none⟩=some (.int .i64 x.p.sp) /\ W.cell? ⟨b,o+k*8+6,none⟩=some (.int .i64 x.p.dp) /\ W.cell? ⟨b,o+k*8+7,none⟩=some (.int .i64 x.c)):=λ{v l W} h {k x} hx=>by
  rw[hV]at h;obtain⟨b,o,e,_,hc⟩:=(SlAt.below hX.out h.1 (λ_ _ _ h=>h)).ev hx;exact⟨b,o,e,hc⟩
 have VL:Hid (∀{v:Value} {l:List Arv} {W:World} (o:Obj),V v l W->V v l (W.alloc o)):=λ{v l W} o h=>by
  rw[hV]at h ⊢;exact⟨Below.alN h.1 _,jz h.2 (Below.alN (Below.refl _ _) _)⟩
 have VA:Hid (∀{v:Value} {l:List Arv} {W:World} (x:Arv),V v l W->l.length<=100->∃g cq W1,(Builtin.append_ #[56,56] 56 #[v,.slice (some ⟨W,0,none⟩) 1 1]).run prog (W.alloc (.cells (arC x).toArray 59))=.ok (.slice (some ⟨g,0,none⟩) (l.length+1) cq) W1 /\ V (.slice (some ⟨g,0,none⟩) (l.length+1) cq) (l++[x]) W1):=λ{v l W} x h hl=>by
  rw[hV]at h ⊢;obtain⟨v',W1,hr,q1,q2,q3,_⟩:=lh uArS mJ rfl (by omega) (by omega) 56 h.2 (us:=arC x) rfl (by simp[Value.oneCell']) (by omega) h.1.size;obtain⟨g,cq,rfl,_⟩:=jA q1 (by omega);refine⟨g,cq,W1,hr,h.1.trans q2,?_⟩;rw[List.length_append,List.flatMap_append];simpa using q1
 have VZ:Hid (∀{v:Value} {l:List Arv} {W:World},V v l W->∃A' c',v=.slice A' l.length c' /\ Hid (W.ownsRow w 59 6 (.slice A' l.length c') l.length (l.flatMap arC)) /\ Below w w W):=λ{v l W} h=>by
  rw[hV]at h;obtain⟨A',c',rfl⟩:=dh h.2;exact⟨A',c',rfl,h.2,h.1⟩
 clear hV hX;go_enter func112,ntmps112;go_wp2_with fail;go_loopw[3,8] (λs3 s8 wr=>∃k:Nat,s8=.int .i64 (k:Int) /\ k<=c.length /\ V s3 (ai (c.take k)) wr) (λ_ s8 _=>c.length-(intOf s8).toNat)
 case atStart=>exact⟨0,rfl,by omega,V0⟩
 case round =>
  clear V0;obtain⟨k,rfl,hk,V1⟩:=hrel;by_cases hkl:k<c.length
  ·obtain⟨x,hx⟩:∃x,c[k]?=some x:=⟨_,List.getElem?_eq_getElem hkl⟩;obtain⟨b,o,rfl,e0,e1,e2,e3,e4,e5,e6,e7⟩:=VE.out V1 hx;have hN:Hid (ai (c.take (k+1))=ai (c.take k)++if x.k=2 then [((x.i,x.q),x.p)]else []):=by
    show _=_;rw[List.take_add_one,hx,eJ]
    congr 1
    unfold ai;by_cases h:x.k=2
    ·rw[if_pos h];simp[h]
    ·rw[if_neg h];simp[h]
   have hl:(ai (c.take k)).length<=100:=by
    unfold ai;rw[List.length_map];have:=List.length_filter_le (λx:Ev=>x.k == 2) (c.take k);rw[List.length_take]at this;omega
   have k1:(0:Int)<=(k:Int):=by omega
   have k2:(k:Int)<(c.length:Int):=by omega
   obtain⟨xk,xi,xq,⟨xs,xd,xsp,xdp⟩,xc⟩:=x;dsimp only at e0 e1 e2 e3 e4 e5 e6 e7 hN;have V2:=VL.out (.cells #[xk,xi,xq,xs,xd,xsp,xdp,xc] 47) V1;by_cases h2:xk=2
   ·obtain⟨g,cq,W1,hr,V3⟩:=VA.out ((xi,xq),⟨xs,xd,xsp,xdp⟩) V2 hl;have t2:(xk == 2)=true:=by simpa using h2
    rw[if_pos h2]at hN;clear VE VL VA VZ V1 V2 hx h2;dsimp only[arC]at hr;simp only[World.size_alloc]at hr;go_wp2_with (at_builtin;refine eu rfl _ _ 56 rfl rfl rfl hr ?_);clear hr;go_roundw
    case rel=>exact⟨k+1,by go_num,by omega,by rw[hN.out];exact V3⟩
    case measure=>simp[intOf];omega
   ·have t2:(xk == 2)=false:=by simpa using h2
    rw[if_neg h2,List.append_nil]at hN;clear VE VL VA VZ V1 hx h2;go_wp2_with fail;go_roundw
    case rel=>exact⟨k+1,by go_num,by omega,by rw[hN.out];exact V2⟩
    case measure=>simp[intOf];omega
  ·obtain rfl:k=c.length:=by omega
   rw[List.take_length]at V1;obtain⟨A',c',rfl,hS,hB⟩:=VZ.out V1;clear VE VL VA VZ V1;go_wp2_with fail;go_ret;exact⟨A',c',rfl,hS,hB⟩
section
variable {ds:List Dv}{ls:List Lk}{K:Nat}{s s' s0:Mnd × List Arv}{c l l1 l2 evs evs0:List Ev}{x y:Arv}{i:Nat}{d:Dv}{o:Int}{p:Pk}{a7:Int}{k:Nat}{e:Ev}{err:Int}{M:Mnd}{ar:List Arv}
theorem Cause.needs_few(h:Cause d (i:Int) o p c):(ai c).length<=2:=by
 cases h <;>(try rw[eJ,kX]) <;> simp[ai]
def eV(ds:List Dv)(ls:List Lk)(a7:Int)(s0 s':Mnd × List Arv)(c l evs0:List Ev)(k:Nat)(M:Mnd)(ar:List Arv)(evs:List Ev)(err:Int):Prop :=
 (err=2 /\ a7<(evs0.length:Int)+(l.length:Int))\/(err=0 /\ ∃l1 l2,TR ds ls (M,ar) (c.drop k) s' l2 /\ Runs ds ls s0 l1 (M,ar) /\ l=l1++l2 /\ evs=evs0++l1 /\ (evs.length:Int)<=a7)
theorem sZ(h:TR ds ls s0 c s' l)(hm:(evs0.length:Int)<=a7):eV ds ls a7 s0 s' c l evs0 0 s0.1 s0.2 evs0 0:=Or.inr ⟨rfl,[],l,h,rfl,rfl,by simp,hm⟩
theorem ta(hok:e.ok)(hd:c[k]?=some e)(h:eV ds ls a7 s0 s' c l evs0 k M ar evs 0):eV ds ls a7 s0 s' c l evs0 (k+1) (doP ds ls M ar e).2.1 (doP ds ls M ar e).2.2 (bY a7 (doP ds ls M ar e).1 e evs).1 (bY a7 (doP ds ls M ar e).1 e evs).2:=by
 rcases h with⟨h,_⟩|⟨_,l1,l2,ht,hr,hl,he,hm⟩
 ·exact absurd h (by decide)
 ·have hc:c.drop k=e::c.drop (k+1):=by
   obtain⟨hk,hv⟩:=List.getElem?_eq_some_iff.1 hd;rw[<- hv];exact List.drop_eq_getElem_cons hk
  rw[hc]at ht;generalize hc':c.drop (k+1)=c' at ht;cases ht with
  | ok h0 ht =>
    rename_i l3
    dsimp only at h0 ht;rw[h0];by_cases hq:(evs.length:Int)=a7
    ·rw[mm hq];refine Or.inl ⟨rfl,?_⟩;rw[hl,<- hq,he];simp only[List.length_append,List.length_cons];omega
    ·rw[mn hq];refine Or.inr ⟨rfl,l1++[e],l3,by rw[hc'];exact ht,hr.app ⟨⟨h0,hok⟩,rfl⟩,by simp[hl],by simp[he],?_⟩;simp only[List.length_append,List.length_singleton];omega
  | skip h0 hk ht =>
    dsimp only at h0 ht;rw[mr h0 hk];have e1:=ph (s:=(M,ar)) hk h0;dsimp only at e1;rw[e1]at ht ⊢;exact Or.inr ⟨rfl,l1,l2,by rw[hc'];exact ht,hr,hl,he,hm⟩
theorem tc(h:eV ds ls a7 s0 s' c l evs0 k M ar evs err)(he:¬err=0):eV ds ls a7 s0 s' c l evs0 (k+1) M ar evs err:=by
 rcases h with h|⟨h,_⟩
 ·exact Or.inl h
 ·exact absurd h he
theorem td(h:eV ds ls a7 s0 s' c l evs0 c.length M ar evs err):(err=2 /\ a7<(evs0.length:Int)+(l.length:Int))\/(err=0 /\ (M,ar)=s' /\ evs=evs0++l /\ (evs.length:Int)<=a7):=by
 rcases h with h|⟨h,l1,l2,ht,hr,hl,he,hm⟩
 ·exact Or.inl h
 ·rw[List.drop_length]at ht;cases ht;exact Or.inr ⟨h,rfl,by rw[he,hl,List.append_nil],hm⟩
end
def Bd(j:Int):Int:=20*(2 ^ (j.toNat+1)-1)
theorem iG(j:Int):20<=Bd j:=by
 unfold Bd;have:(2:Int)<=2 ^ (j.toNat+1):=by
  rw[Int.pow_succ];have:(1:Int)<=2 ^ j.toNat:=by exact_mod_cast (Nat.one_le_two_pow (n:=j.toNat))
  omega
 omega
theorem mw{a j:Int}(h0:0<=a)(h:a<j):2*Bd a+20<=Bd j:=by
 unfold Bd;obtain⟨x,rfl⟩:=Int.eq_ofNat_of_zero_le h0;obtain⟨y,rfl⟩:=Int.eq_ofNat_of_zero_le (show 0<=j by omega);simp only[Int.toNat_natCast];have hxy:x+1<=y:=by omega
 have h1:(2:Int) ^ (x+1)<=2 ^ y:=by
  have:=Nat.pow_le_pow_right (show 0<2 by decide) hxy
  exact_mod_cast this
 rw[Int.pow_succ 2 y];omega
section
variable (w0:World)(p:Wp)(T:Nat)(f0 f1 f2:Value)(a7:Int)(ds:List Dv)(ls:List Lk)(K:Nat)
def BrR(x:Arv)(M:Mnd)(ar:List Arv)(evs:List Ev)(n':Nat)(M':Mnd)(ar':List Arv)(evs':List Ev)(err':Int):Prop :=
 (err'=2 /\ a7<(evs.length:Int)+Bd (rdF ds ls K x))\/(err'=0 /\ ∃l,evs'=evs++l /\ BrP ds ls K x (M,ar) (M',ar') l /\ (l.length:Int)<=Bd (rdF ds ls K x) /\ ar'.length<=evs'.length /\ n'<=100+60*evs'.length /\ (evs'.length:Int)<=a7)
def BrC(x:Arv):Prop:=∀(w:World) (S:Option Addr) (cS n:Nat) (M:Mnd) (ar:List Arv) (v:Value) (evs:List Ev),Tl w0 w p T f0 f1 f2 a7 S cS ds ls n M ar v evs 0->SInv ds ls K (M,ar)->ar.length<=evs.length->n<=100+60*evs.length->(evs.length:Int)<=a7->Cl 71 #[.pointer T,arV x.1 x.2] w λe w'=>e=.returned (.tuple #[]) /\ ∃n' M' ar' evs' err',TOut w0 w p T f0 f1 f2 a7 S v ds ls n' M' ar' evs' err' w' /\ Hid (BrR a7 ds ls K x M ar evs n' M' ar' evs' err')
end
theorem bring_no{w0:World}{p:Wp}{T:Nat}{f0 f1 f2:Value}{a7:Int}{S:Option Addr}{cS:Nat}{ds:List Dv}{ls:List Lk}{n:Nat}{M:Mnd}{ar:List Arv}{v:Value}{evs:List Ev}{err:Int}(x:Arv)(w:World)(h:Hid (Tl w0 w p T f0 f1 f2 a7 S cS ds ls n M ar v evs err))(he:¬err=0) :
  Cl 71 #[.pointer T,arV x.1 x.2] w λe w'=>e=.returned (.tuple #[]) /\ TOut w0 w p T f0 f1 f2 a7 S v ds ls n M ar evs err w':=by
 have D1:=Below.alN (Below.refl w w) (.cells #[x.1.1,x.1.2,x.2.s,x.2.d,x.2.sp,x.2.dp] 59);have h1:=h.out.below D1;have fin:=h1.drew.out D1.drew (Nat.le_refl _);have t6:=h1.bk.at 6;have hee:(err == 0)=false:=by simpa using he
 obtain⟨⟨xi,xq⟩,⟨xs,xd,xsp,xdp⟩⟩:=x;dsimp only at *;clear h h1 D1;go_enter func71,ntmps71;go_wp2_with fail;refine wp_region_held_drew (S:=λW=>W.cell? ⟨T,6,none⟩=some (.int .i64 err)) (by rfl) t6 (λhHeld=>?_);try simp only[ly]
 refine tk 0 ?_;try simp only[ly]
 refine tk 1 ?_;try simp only[ly]
 refine tk 2 ?_;try simp only[ly]
 refine tk 3 ?_;try simp only[ly]
 refine tk 4 ?_;try simp only[ly]
 try simp only[hee,bne,Bool.not_false]
 refine tk 5 ?_;try simp only[ly]
 try simp only[hee,bne,Bool.not_false]
 refine tk0 6 ?_;try simp only[ly]
 refine tk0 7 ?_;try simp only[ly]
 refine tk0 8 ?_;try simp only[ly]
 refine tk0 9 ?_;try simp only[ly]
 refine tk0 10 ?_;try simp only[ly]
 refine tk0 11 ?_;try simp only[ly]
 refine tk0 12 ?_;try simp only[ly]
 refine tk0 13 ?_;try simp only[ly]
 refine rd 14 (λK hK=>?_);go_simp;refine hK.out _ _ t6 (λhHeld=>?_);clear hK K;try simp only[ly]
 refine tk 15 ?_;try simp only[ly]
 refine wpAnyH_done (by kernel_rfl) ?_ _;clear hHeld;go_wp2_with fail;first
  | (go_end0;exact⟨rfl,fin⟩)
  | exact bodyPost_ret (results_none rfl _ _ _) rfl ⟨rfl,fin⟩
  | (trace_state;fail)
theorem bd_le{a b:Int}(h0:0<=a)(h:a<=b):Bd a<=Bd b:=by
 by_cases e:a=b
 ·rw[e];exact Int.le_refl _
 ·have:=mw h0 (show a<b by omega);have:=iG a;omega
section
variable {ds:List Dv}{ls:List Lk}{K:Nat}{a7 B1:Int}{x y:Arv}{c evs evs' evs2:List Ev}{M M' M2:Mnd}{ar ar' ar2:List Arv}{k n n' n2:Nat}{err' err2:Int}{d:Dv}{i:Nat}{o:Int}
def NB(a7:Int)(ds:List Dv)(ls:List Lk)(K:Nat)(B1:Int)(x:Arv)(M:Mnd)(ar:List Arv)(evs:List Ev)(ns:List Arv)(k:Nat)(n':Nat)(M':Mnd)(ar':List Arv)(evs':List Ev)(err':Int):Prop :=
 (err'=2 /\ a7<(evs.length:Int)+(k:Int)*B1)\/(err'=0 /\ ∃l,evs'=evs++l /\ Runs ds ls (M,ar) l (M',ar') /\ SInv ds ls K (M',ar') /\ (∀j y,j<k->ns[j]?=some y->y∈ar') /\ (∀y∈ar',y∈ar\/rdF ds ls K y<rdF ds ls K x) /\ (l.length:Int)<=(k:Int)*B1 /\ ar'.length<=evs'.length /\ n'<=100+60*evs'.length /\ (evs'.length:Int)<=a7)
theorem te{ns:List Arv}(hs:SInv ds ls K (M,ar))(ha:ar.length<=evs.length)(hn:n<=100+60*evs.length)(he:(evs.length:Int)<=a7):NB a7 ds ls K B1 x M ar evs ns 0 n M ar evs 0 :=
 Or.inr ⟨rfl,[],by simp,rfl,hs,λj y h=>by omega,λy h=>Or.inl h,by simp,ha,hn,he⟩
theorem nb_step{ns:List Arv}(hz:netV ds ls=0)(hI:Closed ds ls (ay ds ls K))(hk:ns[k]?=some y)(hy:rdF ds ls K y<rdF ds ls K x)(hyB:Bd (rdF ds ls K y)<=B1)(h:NB a7 ds ls K B1 x M ar evs ns k n' M' ar' evs' 0)(hr:BrR a7 ds ls K y M' ar' evs' n2 M2 ar2 evs2 err2):NB a7 ds ls K B1 x M ar evs ns (k+1) n2 M2 ar2 evs2 err2:=by
 rcases h with⟨h,_⟩|⟨_,l,e1,hrun,hs,hn,hl,hb,ha,hnn,hm⟩
 ·exact absurd h (by decide)
 have hmul:((k+1:Nat):Int)*B1=(k:Int)*B1+B1:=by
  rw[Int.natCast_add,Int.add_mul];simp
 have hlen:(evs'.length:Int)=(evs.length:Int)+(l.length:Int):=by rw[e1];simp
 rcases hr with⟨e,hlt⟩|⟨e,l2,e2,hp,hb2,ha2,hn2,hm2⟩
 ·refine Or.inl ⟨e,?_⟩;rw[hmul];omega
 ·obtain⟨hs2,hup,_⟩:=Runs.all hz hI hs hp.run;refine Or.inr ⟨e,l++l2,by rw[e2,e1,List.append_assoc],hrun.app hp.run,hp.inv,λj z hj hz'=>?_,λz hz'=>?_,?_,ha2,hn2,hm2⟩
  ·by_cases ej:j=k
   ·subst ej;rw[hk]at hz';obtain rfl:=Option.some.inj hz';exact hp.has
   ·exact hup z (hn j z (by omega) hz')
  ·rcases hp.less hy z hz' with h|h
   ·exact hl z h
   ·exact Or.inr h
  ·rw[hmul,List.length_append];omega
theorem nb_err{ns:List Arv}(hB:0<=B1)(h:NB a7 ds ls K B1 x M ar evs ns k n' M' ar' evs' err')(he:¬err'=0):NB a7 ds ls K B1 x M ar evs ns (k+1) n' M' ar' evs' err':=by
 have hmul:((k+1:Nat):Int)*B1=(k:Int)*B1+B1:=by
  rw[Int.natCast_add,Int.add_mul];simp
 rcases h with⟨h,h2⟩|⟨h,_⟩
 ·exact Or.inl ⟨h,by rw[hmul];omega⟩
 ·exact absurd h he
theorem tg(hc:CzOk d i o x (rdF ds ls K) c):∃B1:Int,0<=B1 /\ (∀y∈ai c,Bd (rdF ds ls K y)<=B1) /\ ((ai c).length:Int)*B1+20<=Bd (rdF ds ls K x):=by
 have h2:=hc.is.needs_few;by_cases hn:ai c=[]
 ·refine⟨0,Int.le_refl _,λy hy=>?_,?_⟩
  ·rw[hn]at hy;cases hy
  ·have:=iG (rdF ds ls K x);omega
 ·obtain⟨z,hz⟩:=List.exists_mem_of_ne_nil _ hn;obtain⟨z0,z1⟩:=hc.few z hz;have hg:=iG (rdF ds ls K x-1);refine⟨Bd (rdF ds ls K x-1),by omega,λy hy=>?_,?_⟩
  ·obtain⟨y0,y1⟩:=hc.few y hy;exact bd_le y0 (by omega)
  ·have ht:=mw (show 0<=rdF ds ls K x-1 by omega) (show rdF ds ls K x-1<rdF ds ls K x by omega);have:((ai c).length:Int)*Bd (rdF ds ls K x-1)<=2*Bd (rdF ds ls K x-1):=Int.mul_le_mul_of_nonneg_right (by omega) (by omega);omega
end
section
variable {ds:List Dv}{ls:List Lk}{K:Nat}{a7 B1:Int}{x:Arv}{c evs evs':List Ev}{M M':Mnd}{ar ar':List Arv}{n':Nat}{err':Int}{d:Dv}{i:Nat}{o:Int}
structure ZP(a7:Int)(ds:List Dv)(ls:List Lk)(K:Nat)(x:Arv)(M:Mnd)(ar:List Arv)(evs:List Ev)(c:List Ev)(Z:Nat->Nat->Mnd->List Arv->List Ev->Int->Prop):Prop where
 ok:∀{k:Nat} {e:Ev} {n2:Nat} {M2:Mnd} {ar2:List Arv} {evs2:List Ev},c[k]?=some e->Z k n2 M2 ar2 evs2 0->e.ok /\ ((aB ds ls M2 e.i e.q e.p e.c).err=0->cK ((aB ds ls M2 e.i e.q e.p e.c).tp,(aB ds ls M2 e.i e.q e.p e.c).p)) /\ n2+1<maxLen /\ ar2.length<=5000 /\ evs2.length<=5000 /\ Z (k+1) (n2+2) (doP ds ls M2 ar2 e).2.1 (doP ds ls M2 ar2 e).2.2 (bY a7 (doP ds ls M2 ar2 e).1 e evs2).1 (bY a7 (doP ds ls M2 ar2 e).1 e evs2).2
 no:∀{k:Nat} {n2:Nat} {M2:Mnd} {ar2:List Arv} {evs2:List Ev} {err2:Int},Z k n2 M2 ar2 evs2 err2->¬err2=0->Z (k+1) n2 M2 ar2 evs2 err2
 fin:∀{n2:Nat} {M2:Mnd} {ar2:List Arv} {evs2:List Ev} {err2:Int},Z c.length n2 M2 ar2 evs2 err2->BrR a7 ds ls K x M ar evs n2 M2 ar2 evs2 err2
theorem z_ex(hz:netV ds ls=0)(hI:Closed ds ls (ay ds ls K))(hm:a7<=2000)(hC:Come ds ls (rdF ds ls K) x i d o)(hc:CzOk d i o x (rdF ds ls K) c)(hx:x ∉ ar)(hB:((ai c).length:Int)*B1+20<=Bd (rdF ds ls K x))(h:NB a7 ds ls K B1 x M ar evs (ai c) (ai c).length n' M' ar' evs' err') :
  ∃Z,Z 0 n' M' ar' evs' err' /\ ZP a7 ds ls K x M ar evs c Z:=by
 rcases h with⟨e,hl⟩|⟨e,l,e1,hrun,hs,hn,hl,hb,ha,hnn,hmm⟩
 ·refine⟨λ_ _ _ _ _ err2=>err2=2,e,⟨λ{k e n2 M2 ar2 evs2} _ h=>absurd h (by decide),λh _=>h,λ{n2 M2 ar2 evs2 err2} h=>Or.inl ⟨h,by omega⟩⟩⟩
 ·subst e;obtain⟨s',l2,ht,hp,hne⟩:=sX hz hI hC hc hx hrun hs (λy hy=>by
   obtain⟨j,hj,e⟩:=List.mem_iff_getElem.1 hy;exact hn j y hj (by rw[List.getElem?_eq_getElem hj,e])) hl
  have hl2:l2.length<=20:=Nat.le_trans ht.len hc.len;have hev:(evs'.length:Int)=(evs.length:Int)+(l.length:Int):=by rw[e1];simp
  have hc20:=hc.len;refine⟨λk n2 M2 ar2 evs2 err2=>n2<=n'+2*k /\ eV ds ls a7 (M',ar') s' c l2 evs' k M2 ar2 evs2 err2,⟨by omega,sZ (s0:=(M',ar')) ht hmm⟩,⟨λ{k e n2 M2 ar2 evs2} hk ⟨h1,h2⟩=>?_,λ{k n2 M2 ar2 evs2 err2} ⟨h1,h2⟩ he=>⟨by omega,tc h2 he⟩,λ{n2 M2 ar2 evs2 err2} ⟨h1,h2⟩=>?_⟩⟩
  ·have hkc:=(List.getElem?_eq_some_iff.1 hk).1;have hT:=h2;rcases hT with⟨h,_⟩|⟨_,l1,l3,_,hr,_,he,hmo⟩
   ·exact absurd h (by decide)
   obtain⟨hs2,_,hal⟩:=Runs.all hz hI hs hr;have hel:evs2.length=evs'.length+l1.length:=by rw[he,List.length_append]
   dsimp only at hal;have hok:=iW hz hs2.mok e.i e.q e.p e.c;refine⟨hc.ok e (List.mem_of_getElem? hk),λh0=>⟨(hok.2 h0).2.1,(hok.2 h0).2.2,bm (hok.2 h0).1⟩,by unfold maxLen;omega,by omega,by omega,by omega,ta (hc.ok e (List.mem_of_getElem? hk)) hk h2⟩
  ·rcases td h2 with⟨h,hlt⟩|⟨h,hs',he,hmo⟩
   ·exact Or.inl ⟨h,by omega⟩
   ·subst hs';have hel:evs2.length=evs'.length+l2.length:=by rw[he,List.length_append]
    obtain⟨_,_,hal⟩:=Runs.all hz hI hs (ht.runs hc.ok);dsimp only at hal;have hl0:0<l2.length:=List.length_pos_iff.2 hne;refine Or.inr ⟨h,l++l2,by rw[he,e1,List.append_assoc],hp,?_,by omega,by omega,hmo⟩;rw[List.length_append];omega
end
end Go.Proofs.YtjmclcmgpaofiaaGreat
