/-
  XAT.
-/
import Derived.Test.YtjmclcmgpaofiaaGreatXLy
import Derived.Test.YtjmclcmgpaofiaaGreatXAS
import Derived.Test.YtjmclcmgpaofiaaGreatXAC
set_option maxHeartbeats 8000000
set_option maxRecDepth 100000
namespace Go.Proofs.YtjmclcmgpaofiaaGreat
open Tryz
open Go.RowKit Go.Maps
structure CsOk(d:Dv)(i o:Int)(p:Pk)(rd:Arv->Int)(cs:List (List Ev)):Prop where
 few:cs.length<=10
 is:∀c∈cs,Cause d i o p c /\ c.length<=20 /\ ∀x∈c,x.ok
 all:∀j:Int,0<=j->az d i (λt q=>ae q=true /\ 0<=rd (t,q) /\ rd (t,q)<=j) o p->∃c∈cs,∀y∈ai c,0<=rd y /\ rd y<=j
theorem eW{a b:Nat}:(1 <<< a).testBit b=decide (a=b):=by
 rw[Nat.one_shiftLeft,Nat.testBit_two_pow]
theorem mx{p:Pk}(h:ae p=true):∃a b c e:Nat,p=⟨(a:Int),(b:Int),(c:Int),(e:Int)⟩ /\ a<16 /\ b<16 /\ c<8 /\ e<8:=by
 obtain⟨⟨h1,h2⟩,⟨h3,h4⟩,⟨h5,h6⟩,h7,h8⟩:=bW h;obtain⟨a,b,c,e⟩:=p;dsimp only at *;refine⟨a.toNat,b.toNat,c.toNat,e.toNat,?_,by omega,by omega,by omega,by omega⟩;rw[Int.toNat_of_nonneg h1,Int.toNat_of_nonneg h3,Int.toNat_of_nonneg h5,Int.toNat_of_nonneg h7]
theorem iH(d:Dv)(i:Int):(aJ d i).length<=8:=by
 unfold aJ;rw[List.length_map];have:=List.length_filter_le (λk=>d.pool.testBit k) (List.range 8);rw[List.length_range]at this;exact this
theorem ke{i:Nat}(hi:i<=10):aj (i:Int):=cN (by omega) (by omega)
theorem bI{c:Int}(h:0<=c /\ c<=100):aj c:=cN (by omega) (by omega)
theorem iI{i:Nat}(hi:i<=10){p:Pk}(hp:p.ok){c:Int}(hc:aj c):(aA i p c).ok:=⟨ke hi,bI (show(0:Int)<=0 /\ (0:Int)<=100 by omega),hp,hc⟩
theorem cY{i:Nat}(hi:i<=10){q:Int}(hq:0<=q /\ q<=10){p:Pk}(hp:p.ok){c:Int}(hc:aj c):(ac i q p c).ok:=⟨ke hi,bI (show 0<=q /\ q<=100 by omega),hp,hc⟩
theorem th:zeroP.ok:=bm (by decide)
theorem my{d:Dv}{i:Nat}(hi:i<=10):∀x∈aJ d i,x.ok:=λx hx=>by
 unfold aJ at hx;obtain⟨k,hk,rfl⟩:=List.mem_map.1 hx;have hk8:=List.mem_range.1 (List.mem_filter.1 hk).1;exact iI hi th (bI (by omega))
def eX(d:Dv)(i:Nat)(p:Pk):Option Pk->List (List Ev)
 | none=>[]
 | some s=>[aJ d i++[ac i 0 s p.sp]]
theorem mA{d:Dv}{i:Nat}{p:Pk}{rn:Arv->Int}{bd bp:Nat}{r:Option Pk}(hk:d.kind=4)(hi:i<=10)(hp:ae p=true)(t1:∀k,bd.testBit k=decide (p.d.toNat=k))(t2:∀k,bp.testBit k=decide (p.dp.toNat=k))(hr:fh rn ((i:Int),0) 65535 bd 255 bp r):CsOk d i 1 p rn (eX d i p r):=by
 obtain⟨b1,b2,b3,b4⟩:=bW hp;have key:∀q,ae q=true->(inM 65535 bd 255 bp q=true ↔ q.d=p.d /\ q.dp=p.dp):=λq hq=>by
  obtain⟨c1,c2,c3,c4⟩:=bW hq;unfold inM;rw[t1,t2,cU c1,bG c3];simp only[Bool.true_and,Bool.and_eq_true,decide_eq_true_eq];omega
 have has:∀j:Int,az d i (λt q=>ae q=true /\ 0<=rn (t,q) /\ rn (t,q)<=j) 1 p->∃q,ae q=true /\ inM 65535 bd 255 bp q=true /\ 0<=rn (((i:Int),0),q) /\ rn (((i:Int),0),q)<=j:=λj hs=>by
  unfold az at hs;rw[if_neg (by omega),if_neg (by omega),if_pos hk,if_pos rfl]at hs;obtain⟨_,_,s,sp,h1,h2,h3⟩:=hs;exact⟨_,h1,(key _ h1).2 ⟨rfl,rfl⟩,h2,h3⟩
 cases r with
 | none =>
   refine⟨by simp[eX],λc hc=>by simp[eX]at hc,λj hj hs=>?_⟩;obtain⟨q,q1,q2,q3,_⟩:=has j hs;have:rn (((i:Int),0),q)<0:=hr q q1 q2;omega
 | some s =>
   obtain⟨h1,h2,h3,h4⟩:=hr;obtain⟨e1,e2⟩:=(key s h1).1 h2;refine⟨by simp[eX],λc hc=>?_,λj hj hs=>?_⟩
   ·obtain rfl:c=aJ d i++[ac i 0 s p.sp]:=by simpa[eX]using hc
    refine⟨Cause.natOut s hk rfl e1 e2,?_,λx hx=>?_⟩
    ·have:=iH d i;simp;omega
    ·rcases List.mem_append.1 hx with h|h
     ·exact my hi x h
     ·obtain rfl:=List.mem_singleton.1 h;exact cY hi (by omega) (bm h1) (bI (by omega))
   ·obtain⟨q,q1,q2,q3,q4⟩:=has j hs;have:=h4 q q1 q2 q3;refine⟨_,List.mem_singleton.2 rfl,λy hy=>?_⟩;rw[eJ,kX]at hy;obtain rfl:y=(((i:Int),0),s):=by simpa[ai]using hy
    omega
section
variable {P:Program}{md:Region.Mode}{ops:Array Oper}{Q:Exit->Act->World->Prop}{S:World->Prop}{oi:Oper}{v v' x':Value}{fuel:Nat}{listed:Array Bool}{a:Act}{w w':World}
theorem rdA(i:Nat){s x:Operand}{t:TypeId}(hr:(Builtin.append_ #[t,t] oi.type #[v,x']).run P w=.ok v' w')(hS:S w')(h:S w'->wpAnyH P md ops Q S fuel (listed.setIfInBounds i true) (a.put oi.dst v') w')(hi:ops[i]?=some oi:=by exact rfl)(hgd:oi.guard=none:=by rfl)(ho:oi.op=.call { callee:=.builtin .append,args:=#[s,x],argTypes:=#[t,t] }:=by rfl)(hs:a.eval s=v:=by rfl)(hx:a.eval x=x':=by rfl)(hrd:Region.ready md ops listed=[i]:=by kernel_rfl):wpAnyH P md ops Q S (fuel+1) listed a w :=
 wpAnyH_ready hrd (by simp) (AllReadyH.cons hi (λK hK=>by
  have hw:Region.wanted oi (yielded ops a.tmps)=true:=by
   unfold Region.wanted;rw[hgd]
  rw[if_pos hw];unfold Oper.wp execOp;simp only[ho,resolve,invoke,builtin,Sem.run_bind,Sem.run_pure,Result.andThen_ok,List.map_toArray,List.map_cons,List.map_nil,hs,hx,hr];exact hK.out _ _ hS h) AllReadyH.nil)
end
theorem iJ(n:Nat)(h:n<16):IntKind.u16.wrap ((2:Int) ^ n)=((1 <<< n:Nat):Int):=by
 have:∀m:Fin 16,IntKind.u16.wrap ((2:Int) ^ m.val)=((1 <<< m.val:Nat):Int):=by decide
 exact this ⟨n,h⟩
theorem sh8(n:Nat)(h:n<8):(2:Int) ^ n % (256:Int)=((1 <<< n:Nat):Int):=by
 have:∀m:Fin 8,(2:Int) ^ m.val % (256:Int)=((1 <<< m.val:Nat):Int):=by decide
 exact this ⟨n,h⟩
theorem ti(A L:Option Addr)(cap nl e9 R i:Nat)(ds:List Dv)(d:Dv)(rn:Arv->Int)(p:Pk)(w:World)(hd:ds[i]?=some d)(hpl:d.pool<256)(hp:ae p=true)(hk:d.kind=4)(hi:i<=10)(hD:Hid (Devs w w (.slice A ds.length cap) ds))(hF:Hid (FstC R rn w)) :
  Cl 174 #[fdV A ds.length cap L nl e9 R,(i:Int),pkV p] w (CzOut w (CsOk d i 1 p rn)):=by
 obtain⟨ps,pd,psp,pdp,rfl,l1,l2,l3,l4⟩:=mx hp;have D1:Below w w ((w.alloc (.cells #[.slice A ds.length cap,.slice L nl e9,.pointer R] 164)).alloc (.cells #[(ps:Int),(pd:Int),(psp:Int),(pdp:Int)] 37)):=Below.alN (Below.alN (Below.refl _ _) _) _;have F1:=(ah w #[.slice A ds.length cap,.slice L nl e9,.pointer R] 164).alloc (.cells #[(ps:Int),(pd:Int),(psp:Int),(pdp:Int)] 37);have P1:=ax (w.alloc (.cells #[.slice A ds.length cap,.slice L nl e9,.pointer R] 164)) #[(ps:Int),(pd:Int),(psp:Int),(pdp:Int)] 37 (w.heap.size+1) (by simp);have AL:Hid (∀W,CB 52 #[] W (.agg #[.int .u16 65535,.int .u16 65535,.int .u8 255,.int .u8 255])):=λW=>all_any W;go_enter func174,ntmps174;go_wp2_with fail;refine(AL.out _).mono ?_;rintro e w2⟨rfl,hb2⟩;have D2:=ag hb2 D1;have F2:=Bk.keep hb2 F1;have P2:=Bk.keep hb2 P1;clear AL D1 F1 P1 hb2;go_upto_region 2 with fail;have D3:=Below.alN D2 (.cells #[.int .u16 65535,.int .u16 65535,.int .u8 255,.int .u8 255] 30);have F3:=F2.alloc (.cells #[.int .u16 65535,.int .u16 65535,.int .u8 255,.int .u8 255] 30);have P3:=P2.alloc (.cells #[.int .u16 65535,.int .u16 65535,.int .u8 255,.int .u8 255] 30);have M3:=ah w2 #[.int .u16 65535,.int .u16 65535,.int .u8 255,.int .u8 255] 30;generalize w2.alloc (.cells #[.int .u16 65535,.int .u16 65535,.int .u8 255,.int .u8 255] 30)=w3 at *;have hm:w.heap.size+1<w2.heap.size:=P2.lt;generalize w2.heap.size=mb at *;clear D2 F2 P2;obtain⟨p0,p1,p2,p3,_⟩:=P3.four;obtain⟨m0,m1,m2,m3,mf0,mf1,mf2,mf3⟩:=M3.four;have lp:=P3.lt;have lm:=M3.lt;have b1:(0:Int)<=(pd:Int):=by omega
 have b2:(pd:Int)<16:=by omega
 have b3:(0:Int)<=(pdp:Int):=by omega
 have b4:(pdp:Int)<8:=by omega
 go_region;have z1:=iJ pd l2;have z2:=sh8 pdp l4;have s1:1 <<< pd<65536:=by
  rw[Nat.one_shiftLeft];have:2 ^ pd<=2 ^ 15:=Nat.pow_le_pow_right (by omega) (by omega);omega
 have s2:1 <<< pdp<256:=by
  rw[Nat.one_shiftLeft];have:2 ^ pdp<=2 ^ 7:=Nat.pow_le_pow_right (by omega) (by omega);omega
 have t1:Hid (∀k,(1 <<< pd).testBit k=decide (pd=k)):=λk=>eW;have t2:Hid (∀k,(1 <<< pdp).testBit k=decide (pdp=k)):=λk=>eW;rw[z1,z2];generalize 1 <<< pd=bd at *;generalize 1 <<< pdp=bp at *;have D4:=((D3.setCell (p:=⟨mb,1,none⟩) (by show w.heap.size<=mb;omega) (.int .u16 (bd:Int))).setCell (p:=⟨mb,3,none⟩) (by show w.heap.size<=mb;omega) (.int .u8 (bp:Int))).drew;have F4:=((F3.setO (b:=mb) (j:=1) (by omega) (.int .u16 (bd:Int))).setO (b:=mb) (j:=3) (by omega) (.int .u8 (bp:Int))).drew;have P4:=((P3.setO (b:=mb) (j:=1) (by omega) (.int .u16 (bd:Int))).setO (b:=mb) (j:=3) (by omega) (.int .u8 (bp:Int))).drew;have M4:Bk ((w3.setCell ⟨mb,1,none⟩ (.int .u16 (bd:Int))).setCell ⟨mb,3,none⟩ (.int .u8 (bp:Int))).drew mb #[.int .u16 65535,.int .u16 (bd:Int),.int .u8 255,.int .u8 (bp:Int)] 30:=by
  have h:=(M3.setS (j:=1) (.int .u16 (bd:Int))).setS (j:=3) (.int .u8 (bp:Int));have h':Bk ((w3.setCell ⟨mb,1,none⟩ (.int .u16 (bd:Int))).setCell ⟨mb,3,none⟩ (.int .u8 (bp:Int))) mb #[.int .u16 65535,.int .u16 (bd:Int),.int .u8 255,.int .u8 (bp:Int)] 30:=by simpa using h
  exact h'.drew
 generalize ((w3.setCell ⟨mb,1,none⟩ (.int .u16 (bd:Int))).setCell ⟨mb,3,none⟩ (.int .u8 (bp:Int))).drew=w4 at *;clear z1 z2 D3 F3 P3 M3 p0 p1 p2 p3 m0 m1 m2 m3 mf0 mf1 mf2 mf3 lp lm b1 b2 b3 b4;have FI:Hid (Cl 203 #[fdV A ds.length cap L nl e9 R,(i:Int),.int .i64 0,mtV 65535 bd 255 bp] w4 _):=kn A L ds.length cap nl e9 R rn (i:Int) 0 65535 bd 255 bp w4 (hF.out.below D4) (by omega) s1 (by omega) s2;have f0:=F4.at 0;have f1:=F4.at 1;have f2:=F4.at 2;obtain⟨m0,m1,m2,m3,_⟩:=M4.four;have lf:=F4.lt;have lm:=M4.lt;go_wp2_with fail;refine FI.out.mono ?_;rintro e w5⟨⟨r,⟨xs,xd,xsp,xdp⟩,ok,rfl,hr⟩,hb5⟩;have D5:=ag hb5 D4;have F5:=Bk.keep hb5 F4;have P5:=Bk.keep hb5 P4;have hF5:=hidOf (hF.out.below D5);have OW:Hid (∀W,Below w5 w5 W->Cl 204 #[fdV A ds.length cap L nl e9 R,(i:Int)] W λe w'=>∃A' c',e=.returned (.slice A' (aJ d i).length c') /\ EvRow W w' (.slice A' (aJ d i).length c') (aJ d i) /\ Below W W w'):=λW hb=>mU A L cap nl e9 R i ds d W hd hpl ((hD.out.below (ag hb D5)).mono (ag hb D5).size);have HP:Hid (∀W,CB 172 #[(i:Int),.int .i64 0,pkV ⟨xs,xd,xsp,xdp⟩,(psp:Int)] W (evV (ac i 0 ⟨xs,xd,xsp,xdp⟩ (psp:Int)))):=λW=>da i 0 ⟨xs,xd,xsp,xdp⟩ (psp:Int) W;clear FI D4 F4 P4 M4 f0 f1 f2 m0 m1 m2 m3 lf lm hb5 hF hD hd;cases ok with
 | false =>
   have D6:=Below.alN D5 (.cells #[xs,xd,xsp,xdp] 37);clear OW HP F5 P5 hF5 D5;go_wp2_with fail;go_ret;obtain⟨h1,h2,h3⟩:=hr.out;cases r with
   | some s=>cases h3
   | none=>exact⟨_,_,eX d i ⟨(ps:Int),(pd:Int),(psp:Int),(pdp:Int)⟩ none,rfl,⟨mA hk hi hp (λk=>t1.out k) (λk=>t2.out k) h1,iO _ _⟩,D6⟩
 | true =>
   have B6:Below w5 w5 (w5.alloc (.cells #[xs,xd,xsp,xdp] 37)):=Below.alN (Below.refl _ _) _;have D6:=Below.alN D5 (.cells #[xs,xd,xsp,xdp] 37);have F6:=F5.alloc (.cells #[xs,xd,xsp,xdp] 37);have P6:=P5.alloc (.cells #[xs,xd,xsp,xdp] 37);have S6:=ah w5 #[xs,xd,xsp,xdp] 37;have OW2:Hid (∀W,Below (w5.alloc (.cells #[xs,xd,xsp,xdp] 37)).heap.size (w5.alloc (.cells #[xs,xd,xsp,xdp] 37)) W->Cl 204 #[fdV A ds.length cap L nl e9 R,(i:Int)] W λe w'=>∃A' c',e=.returned (.slice A' (aJ d i).length c') /\ EvRow W w' (.slice A' (aJ d i).length c') (aJ d i) /\ Below W W w'):=λW h=>OW.out W (ag h B6);clear B6 OW;go_upto_region 6 with fail;generalize w5.alloc (.cells #[xs,xd,xsp,xdp] 37)=w6 at *;generalize w5.heap.size=sb at *;have HS:Hid (∀{W:World},Below w6 w6 W->W.cell? ⟨w,0,none⟩=some (.slice A ds.length cap) /\ W.cell? ⟨w,1,none⟩=some (.slice L nl e9) /\ W.cell? ⟨w,2,none⟩=some (.pointer R) /\ W.cell? ⟨w.heap.size+1,2,none⟩=some (.int .i64 (psp:Int)) /\ W.cell? ⟨sb,0,none⟩=some (.int .i64 xs) /\ W.cell? ⟨sb,1,none⟩=some (.int .i64 xd) /\ W.cell? ⟨sb,2,none⟩=some (.int .i64 xsp) /\ W.cell? ⟨sb,3,none⟩=some (.int .i64 xdp)):=λ{W} hb=>by
    have f:=Bk.keep hb F6;have p:=Bk.keep hb P6;have s:=Bk.keep hb S6;exact⟨f.at 0,f.at 1,f.at 2,p.at 2,s.at 0,s.at 1,s.at 2,s.at 3⟩
   have R6:=Below.refl w6 w6;refine wp_region_held_drew (S:=λW=>W.cell? ⟨w,0,none⟩=some (.slice A ds.length cap) /\ W.cell? ⟨w,1,none⟩=some (.slice L nl e9) /\ W.cell? ⟨w,2,none⟩=some (.pointer R) /\ W.cell? ⟨w.heap.size+1,2,none⟩=some (.int .i64 (psp:Int)) /\ W.cell? ⟨sb,0,none⟩=some (.int .i64 xs) /\ W.cell? ⟨sb,1,none⟩=some (.int .i64 xd) /\ W.cell? ⟨sb,2,none⟩=some (.int .i64 xsp) /\ W.cell? ⟨sb,3,none⟩=some (.int .i64 xdp)) (by rfl) (HS.out R6.drew) (λhHeld=>?_);try simp only[ly]
   refine tk 0 ?_;try simp only[ly]
   refine tk 1 ?_;try simp only[ly]
   refine tk 3 ?_;try simp only[ly]
   refine tk 4 ?_;try simp only[ly]
   refine tk 5 ?_;try simp only[ly]
   refine tk 6 ?_;try simp only[ly]
   refine rd 2 (λK hK=>?_);go_simp;with_reducible refine(OW2.out _ R6.drew).mono ?_
   rintro e w7⟨A',c',rfl,E7,hb7⟩;have R7:=ag hb7 R6.drew;dsimp only;clear hHeld;refine hK.out _ _ (HS.out R7) (λhHeld=>?_);clear hK K;try simp only[ly]
   refine rd 7 (λK hK=>?_);go_simp;with_reducible refine(HP.out _).mono ?_
   rintro e w8⟨rfl,hb8⟩;have R8:=ag hb8 R7;have E8:EvRow w6 w8 (.slice A' (aJ d i).length c') (aJ d i):=E7.below hb8;dsimp only;clear hHeld;refine hK.out _ _ (HS.out R8) (λhHeld=>?_);clear hK K;try simp only[ly]
   obtain⟨A8,c8,W9,hr9,E9,hb9,-⟩:=EvRow.app E8 [ac i 0 ⟨xs,xd,xsp,xdp⟩ (psp:Int)] (by have:=iH d i;omega) (by simp) R8.size;have R9:=R8.trans hb9;simp only[List.length_cons,List.length_nil,List.flatMap_cons,List.flatMap_nil,List.append_nil]at hr9 E9;refine rd 8 (λK hK=>?_);go_simp;clear hHeld;refine hK.out _ _ (HS.out (Below.alN R8 _)) (λhHeld=>?_);clear hK K;try simp only[ly]
   refine rdA 9 hr9 (HS.out R9) (λhHeld=>?_);try simp only[ly]
   clear hr9;have C9:=eZ (B:=w.heap.size) (own_lo E9 D6.size) (D6.trans (R9.mono D6.size)).size;have D9:=Below.alN (D6.trans (R9.mono D6.size)) (.cells #[.slice A8 ((aJ d i).length+1) c8] 209);refine rd 10 (λK hK=>?_);go_simp;refine hK.out _ _ (HS.out (Below.alN R9 _)) (λhHeld=>?_);clear hK K;try simp only[ly]
   refine tk 11 ?_;try simp only[ly]
   refine wpAnyH_done (by kernel_rfl) ?_ _;clear HS OW2 HP;go_wp2_with fail;go_ret;obtain⟨h1,h2,h3⟩:=hr.out;cases r with
   | none=>cases h3
   | some s =>
     obtain rfl:(⟨xs,xd,xsp,xdp⟩:Pk)=s:=h2;exact⟨_,_,eX d i ⟨(ps:Int),(pd:Int),(psp:Int),(pdp:Int)⟩ (some ⟨xs,xd,xsp,xdp⟩),rfl,⟨mA hk hi hp (λk=>t1.out k) (λk=>t2.out k) h1,C9⟩,D9⟩
def dm(d:Dv)(i:Nat):Option Pk->Option Pk->List (List Ev)
 | some s,some r=>[aJ d i++[ac i 0 s r.dp,ac i 1 r 0]]
 | _,_=>[]
theorem tj{d:Dv}{i:Nat}{p:Pk}{rn:Arv->Int}{bs bq sa aq ad:Nat}{u r:Option Pk}(hk:d.kind=4)(hi:i<=10)(hp:ae p=true)(t1:∀k,bs.testBit k=decide (p.d.toNat=k))(t2:∀k,bq.testBit k=decide (p.dp.toNat=k))(t3:∀k,sa.testBit k=decide (p.s.toNat=k))(t4:∀k,aq.testBit k=decide (p.sp.toNat=k))(t5:∀k,ad.testBit k=decide (d.addr.toNat=k))(ha:0<=d.addr /\ d.addr<16)
  (hu:fh rn ((i:Int),0) bs 65535 bq 255 u) (hr:fh rn ((i:Int),1) sa ad aq d.pool r):CsOk d i 0 p rn (dm d i u r):=by
 obtain⟨b1,b2,b3,b4⟩:=bW hp;have key1:∀q,ae q=true->(inM bs 65535 bq 255 q=true ↔ q.s=p.d /\ q.sp=p.dp):=λq hq=>by
  obtain⟨c1,c2,c3,c4⟩:=bW hq;unfold inM;rw[t1,t2,cU c2,bG c4];simp only[Bool.true_and,Bool.and_true,Bool.and_eq_true,decide_eq_true_eq];omega
 have key2:∀q,ae q=true->(inM sa ad aq d.pool q=true ↔ q.s=p.s /\ q.d=d.addr /\ q.sp=p.sp /\ cj d q.dp=true):=λq hq=>by
  obtain⟨c1,c2,c3,c4⟩:=bW hq;unfold inM cj poB;rw[t3,t4,t5];simp only[Bool.and_eq_true,decide_eq_true_eq];constructor
  ·rintro⟨h1,h2,h3,h4⟩;exact⟨by omega,by omega,by omega,⟨c4.1,c4.2⟩,h4⟩
  ·rintro⟨h1,h2,h3,_,h4⟩;exact⟨by omega,by omega,by omega,h4⟩
 have has:∀j:Int,az d i (λt q=>ae q=true /\ 0<=rn (t,q) /\ rn (t,q)<=j) 0 p->(∃q,ae q=true /\ inM bs 65535 bq 255 q=true /\ 0<=rn (((i:Int),0),q) /\ rn (((i:Int),0),q)<=j) /\ ∃q,ae q=true /\ inM sa ad aq d.pool q=true /\ 0<=rn (((i:Int),1),q) /\ rn (((i:Int),1),q)<=j:=λj hs=>by
  unfold az at hs;rw[if_neg (by omega),if_neg (by omega),if_pos hk,if_neg (by omega)]at hs;obtain⟨_,⟨k,hk,h1,h2,h3⟩,x,y,h4,h5,h6⟩:=hs;exact⟨⟨_,h4,(key1 _ h4).2 ⟨rfl,rfl⟩,h5,h6⟩,⟨_,h1,(key2 _ h1).2 ⟨rfl,rfl,rfl,hk⟩,h2,h3⟩⟩
 cases u with
 | none =>
   refine⟨by simp[dm],λc hc=>by simp[dm]at hc,λj hj hs=>?_⟩;obtain⟨⟨q,q1,q2,q3,_⟩,_⟩:=has j hs;have:rn (((i:Int),0),q)<0:=hu q q1 q2;omega
 | some s =>
   cases r with
   | none =>
     refine⟨by simp[dm],λc hc=>by simp[dm]at hc,λj hj hs=>?_⟩;obtain⟨_,q,q1,q2,q3,_⟩:=has j hs;have:rn (((i:Int),1),q)<0:=hr q q1 q2;omega
   | some r =>
     obtain⟨h1,h2,h3,h4⟩:=hu;obtain⟨g1,g2,g3,g4⟩:=hr;obtain⟨e1,e2⟩:=(key1 s h1).1 h2;obtain⟨f1,f2,f3,f4⟩:=(key2 r g1).1 g2;obtain⟨r1,r2,r3,r4⟩:=bW g1;refine⟨by simp[dm],λc hc=>?_,λj hj hs=>?_⟩
     ·obtain rfl:c=aJ d i++[ac i 0 s r.dp,ac i 1 r 0]:=by simpa[dm]using hc
      refine⟨Cause.natIn s r hk (by omega) e1 e2 f1 f3 f2 f4,?_,λx hx=>?_⟩
      ·have:=iH d i;simp;omega
      ·rcases List.mem_append.1 hx with h|h
       ·exact my hi x h
       ·simp only[List.mem_cons,List.not_mem_nil,or_false]at h;rcases h with rfl|rfl
        ·exact cY hi (by omega) (bm h1) (bI (by omega))
        ·exact cY hi (by omega) (bm g1) (bI (by omega))
     ·obtain⟨⟨q,q1,q2,q3,q4⟩,q',p1,p2,p3,p4⟩:=has j hs;have:=h4 q q1 q2 q3;have:=g4 q' p1 p2 p3;refine⟨_,List.mem_singleton.2 rfl,λy hy=>?_⟩;rw[eJ,kX]at hy;have hy:y=(((i:Int),0),s)\/y=(((i:Int),1),r):=by simpa[ai]using hy
      rcases hy with rfl|rfl <;> omega
theorem tl(A L:Option Addr)(cap nl e9 R i:Nat)(ds:List Dv)(d:Dv)(rn:Arv->Int)(p:Pk)(w:World)(hd:ds[i]?=some d)(hpl:d.pool<256)(hp:ae p=true)(hk:d.kind=4)(ha:0<=d.addr /\ d.addr<16)(hi:i<=10)(hD:Hid (Devs w w (.slice A ds.length cap) ds))(hF:Hid (FstC R rn w)) :
  Cl 175 #[fdV A ds.length cap L nl e9 R,(i:Int),pkV p] w (CzOut w (CsOk d i 0 p rn)):=by
 obtain⟨ps,pd,psp,pdp,rfl,l1,l2,l3,l4⟩:=mx hp;obtain⟨na,hna⟩:∃na:Nat,d.addr=(na:Int):=⟨d.addr.toNat,by omega⟩;have hna16:na<16:=by omega
 have hil:=(List.getElem?_eq_some_iff.1 hd).1;obtain⟨b,o,vb,vr,vt,rfl,hbl,g1,g2,g3,c0,c1,c2,c3,c4,c5,c6⟩:=hD.out.at hd;obtain⟨Ab,cb,rfl,-⟩:=g1;obtain⟨Ar,cr,rfl,-⟩:=g2;obtain⟨At,ct,rfl,-⟩:=g3;have hcap:=hD.out.len.2
 replace hk:=hidOf hk
 unfold maxLen at hcap;have D1:Below w w ((w.alloc (.cells #[.slice (some ⟨b,o,none⟩) ds.length cap,.slice L nl e9,.pointer R] 164)).alloc (.cells #[(ps:Int),(pd:Int),(psp:Int),(pdp:Int)] 37)):=Below.alN (Below.alN (Below.refl _ _) _) _;have F1:=(ah w #[.slice (some ⟨b,o,none⟩) ds.length cap,.slice L nl e9,.pointer R] 164).alloc (.cells #[(ps:Int),(pd:Int),(psp:Int),(pdp:Int)] 37);have P1:=ax (w.alloc (.cells #[.slice (some ⟨b,o,none⟩) ds.length cap,.slice L nl e9,.pointer R] 164)) #[(ps:Int),(pd:Int),(psp:Int),(pdp:Int)] 37 (w.heap.size+1) (by simp);have AL:Hid (∀W,CB 52 #[] W (.agg #[.int .u16 65535,.int .u16 65535,.int .u8 255,.int .u8 255])):=λW=>all_any W;have i1:(0:Int)<=(i:Int):=by omega
 have i2:(i:Int)<(ds.length:Int):=by omega
 have y0:=(D1.cell (p:=⟨b,o+i*7,none⟩) hbl).trans c0;have y1:=(D1.cell (p:=⟨b,o+i*7+1,none⟩) hbl).trans c1;have y2:=(D1.cell (p:=⟨b,o+i*7+2,none⟩) hbl).trans c2;have y3:=(D1.cell (p:=⟨b,o+i*7+3,none⟩) hbl).trans c3;have y4:=(D1.cell (p:=⟨b,o+i*7+4,none⟩) hbl).trans c4;have y5:=(D1.cell (p:=⟨b,o+i*7+5,none⟩) hbl).trans c5;have y6:=(D1.cell (p:=⟨b,o+i*7+6,none⟩) hbl).trans c6;clear c0 c1 c2 c3 c4 c5 c6;rw[hna]at y2;have D2:=Below.alN D1 (.cells #[.string d.name,d.kind,(na:Int),.int .u8 (d.pool:Int),.slice Ab d.backs.length cb,.slice Ar d.rules.length cr,.slice At d.routes.length ct] 70);have F2:=F1.alloc (.cells #[.string d.name,d.kind,(na:Int),.int .u8 (d.pool:Int),.slice Ab d.backs.length cb,.slice Ar d.rules.length cr,.slice At d.routes.length ct] 70);have P2:=P1.alloc (.cells #[.string d.name,d.kind,(na:Int),.int .u8 (d.pool:Int),.slice Ab d.backs.length cb,.slice Ar d.rules.length cr,.slice At d.routes.length ct] 70);have V2:=ax ((w.alloc (.cells #[.slice (some ⟨b,o,none⟩) ds.length cap,.slice L nl e9,.pointer R] 164)).alloc (.cells #[(ps:Int),(pd:Int),(psp:Int),(pdp:Int)] 37)) #[.string d.name,d.kind,(na:Int),.int .u8 (d.pool:Int),.slice Ab d.backs.length cb,.slice Ar d.rules.length cr,.slice At d.routes.length ct] 70 (w.heap.size+1+1) (by simp);go_enter func175,ntmps175;go_upto_region 2 with fail;clear y0 y1 y2 y3 y4 y5 y6 D1 F1 P1;go_wp2_with fail;refine(AL.out _).mono ?_;rintro e w2⟨rfl,hb2⟩;have D3:=ag hb2 D2;have F3:=Bk.keep hb2 F2;have P3:=Bk.keep hb2 P2;have V3:=Bk.keep hb2 V2;clear AL D2 F2 P2 V2 hb2;go_upto_region 3 with fail;have D4:=Below.alN D3 (.cells #[.int .u16 65535,.int .u16 65535,.int .u8 255,.int .u8 255] 30);have F4:=F3.alloc (.cells #[.int .u16 65535,.int .u16 65535,.int .u8 255,.int .u8 255] 30);have P4:=P3.alloc (.cells #[.int .u16 65535,.int .u16 65535,.int .u8 255,.int .u8 255] 30);have V4:=V3.alloc (.cells #[.int .u16 65535,.int .u16 65535,.int .u8 255,.int .u8 255] 30);have M4:=ah w2 #[.int .u16 65535,.int .u16 65535,.int .u8 255,.int .u8 255] 30;generalize w2.alloc (.cells #[.int .u16 65535,.int .u16 65535,.int .u8 255,.int .u8 255] 30)=w3 at *;have hm:w.heap.size+1+1<w2.heap.size:=V3.lt;generalize w2.heap.size=mb at *;clear D3 F3 P3 V3;obtain⟨p0,p1,p2,p3,_⟩:=P4.four;obtain⟨m0,m1,m2,m3,mf0,mf1,mf2,mf3⟩:=M4.four;have lp:=P4.lt;have lm:=M4.lt;have b1:(0:Int)<=(pd:Int):=by omega
 have b2:(pd:Int)<16:=by omega
 have b3:(0:Int)<=(pdp:Int):=by omega
 have b4:(pdp:Int)<8:=by omega
 go_region;have sh:Hid (∀n:Nat,n<16->1 <<< n<65536):=λn hn=>by
  rw[Nat.one_shiftLeft];have:2 ^ n<=2 ^ 15:=Nat.pow_le_pow_right (by omega) (by omega);omega
 have shb:Hid (∀n:Nat,n<8->1 <<< n<256):=λn hn=>by
  rw[Nat.one_shiftLeft];have:2 ^ n<=2 ^ 7:=Nat.pow_le_pow_right (by omega) (by omega);omega
 have s1:=sh.out pd l2;have s2:=shb.out pdp l4;have t1:Hid (∀k,(1 <<< pd).testBit k=decide (pd=k)):=λk=>eW;have t2:Hid (∀k,(1 <<< pdp).testBit k=decide (pdp=k)):=λk=>eW;rw[iJ pd l2,sh8 pdp l4];generalize 1 <<< pd=bd at *;generalize 1 <<< pdp=bp at *;have D5:=((D4.setCell (p:=⟨mb,0,none⟩) (by show w.heap.size<=mb;omega) (.int .u16 (bd:Int))).setCell (p:=⟨mb,2,none⟩) (by show w.heap.size<=mb;omega) (.int .u8 (bp:Int))).drew;have F5:=((F4.setO (b:=mb) (j:=0) (by omega) (.int .u16 (bd:Int))).setO (b:=mb) (j:=2) (by omega) (.int .u8 (bp:Int))).drew;have P5:=((P4.setO (b:=mb) (j:=0) (by omega) (.int .u16 (bd:Int))).setO (b:=mb) (j:=2) (by omega) (.int .u8 (bp:Int))).drew;have V5:=((V4.setO (b:=mb) (j:=0) (by omega) (.int .u16 (bd:Int))).setO (b:=mb) (j:=2) (by omega) (.int .u8 (bp:Int))).drew;have M5:Bk ((w3.setCell ⟨mb,0,none⟩ (.int .u16 (bd:Int))).setCell ⟨mb,2,none⟩ (.int .u8 (bp:Int))).drew mb #[.int .u16 (bd:Int),.int .u16 65535,.int .u8 (bp:Int),.int .u8 255] 30:=by
  have h:=(M4.setS (j:=0) (.int .u16 (bd:Int))).setS (j:=2) (.int .u8 (bp:Int));have h':Bk ((w3.setCell ⟨mb,0,none⟩ (.int .u16 (bd:Int))).setCell ⟨mb,2,none⟩ (.int .u8 (bp:Int))) mb #[.int .u16 (bd:Int),.int .u16 65535,.int .u8 (bp:Int),.int .u8 255] 30:=by simpa using h
  exact h'.drew
 generalize ((w3.setCell ⟨mb,0,none⟩ (.int .u16 (bd:Int))).setCell ⟨mb,2,none⟩ (.int .u8 (bp:Int))).drew=w4 at *;clear D4 F4 P4 V4 M4 p0 p1 p2 p3 m0 m1 m2 m3 mf0 mf1 mf2 mf3 lp lm b1 b2 b3 b4;have FI:Hid (Cl 203 #[fdV (some ⟨b,o,none⟩) ds.length cap L nl e9 R,(i:Int),.int .i64 0,mtV bd 65535 bp 255] w4 _):=kn (some ⟨b,o,none⟩) L ds.length cap nl e9 R rn (i:Int) 0 bd 65535 bp 255 w4 (hF.out.below D5) s1 (by omega) s2 (by omega);have f0:=F5.at 0;have f1:=F5.at 1;have f2:=F5.at 2;obtain⟨m0,m1,m2,m3,_⟩:=M5.four;have lf:=F5.lt;have lm:=M5.lt;go_wp2_with fail;refine FI.out.mono ?_;rintro e w5⟨⟨u,⟨xs,xd,xsp,xdp⟩,ok,rfl,hu⟩,hb5⟩;have D6:=Below.alN (ag hb5 D5) (.cells #[xs,xd,xsp,xdp] 37);have F6:=(Bk.keep hb5 F5).alloc (.cells #[xs,xd,xsp,xdp] 37);have P6:=(Bk.keep hb5 P5).alloc (.cells #[xs,xd,xsp,xdp] 37);have V6:=(Bk.keep hb5 V5).alloc (.cells #[xs,xd,xsp,xdp] 37);have S6:=ah w5 #[xs,xd,xsp,xdp] 37;have hsb:w.heap.size+1+1<w5.heap.size:=(Bk.keep hb5 V5).lt;clear FI D5 F5 P5 V5 M5 f0 f1 f2 m0 m1 m2 m3 lf lm hb5;go_upto_region 5 with fail;generalize w5.alloc (.cells #[xs,xd,xsp,xdp] 37)=w6 at *;generalize w5.heap.size=sb at *;obtain⟨p0,p1,p2,p3,_⟩:=P6.four;have v2:=V6.at 2;have v3:=V6.at 3;have lp:=P6.lt;have lv:=V6.lt;have b1:(0:Int)<=(ps:Int):=by omega
 have b2:(ps:Int)<16:=by omega
 have b3:(0:Int)<=(psp:Int):=by omega
 have b4:(psp:Int)<8:=by omega
 have b5:(0:Int)<=(na:Int):=by omega
 have b6:(na:Int)<16:=by omega
 go_region;have s3:=sh.out ps l1;have s4:=shb.out psp l3;have s5:=sh.out na hna16;have t3:Hid (∀k,(1 <<< ps).testBit k=decide (ps=k)):=λk=>eW;have t4:Hid (∀k,(1 <<< psp).testBit k=decide (psp=k)):=λk=>eW;have t5:Hid (∀k,(1 <<< na).testBit k=decide (na=k)):=λk=>eW;rw[iJ ps l1,sh8 psp l3,iJ na hna16];generalize 1 <<< ps=bs at *;generalize 1 <<< psp=bq at *;generalize 1 <<< na=ba at *;have D7:=(Below.alN D6 (.cells #[.int .u16 (bs:Int),.int .u16 (ba:Int),.int .u8 (bq:Int),.int .u8 (d.pool:Int)] 30)).drew;have F7:=(F6.alloc (.cells #[.int .u16 (bs:Int),.int .u16 (ba:Int),.int .u8 (bq:Int),.int .u8 (d.pool:Int)] 30)).drew;have P7:=(P6.alloc (.cells #[.int .u16 (bs:Int),.int .u16 (ba:Int),.int .u8 (bq:Int),.int .u8 (d.pool:Int)] 30)).drew;have S7:=(S6.alloc (.cells #[.int .u16 (bs:Int),.int .u16 (ba:Int),.int .u8 (bq:Int),.int .u8 (d.pool:Int)] 30)).drew;have T7:=(ah w6 #[.int .u16 (bs:Int),.int .u16 (ba:Int),.int .u8 (bq:Int),.int .u8 (d.pool:Int)] 30).drew;generalize (w6.alloc (.cells #[.int .u16 (bs:Int),.int .u16 (ba:Int),.int .u8 (bq:Int),.int .u8 (d.pool:Int)] 30)).drew=w7 at *;generalize w6.heap.size=tb at *;clear D6 F6 P6 S6 V6 p0 p1 p2 p3 v2 v3 lp lv b1 b2 b3 b4 b5 b6 sh shb;have FI:Hid (Cl 203 #[fdV (some ⟨b,o,none⟩) ds.length cap L nl e9 R,(i:Int),.int .i64 1,mtV bs ba bq d.pool] w7 _):=kn (some ⟨b,o,none⟩) L ds.length cap nl e9 R rn (i:Int) 1 bs ba bq d.pool w7 (hF.out.below D7) s3 s5 s4 hpl;have f0:=F7.at 0;have f1:=F7.at 1;have f2:=F7.at 2;obtain⟨m0,m1,m2,m3,_⟩:=T7.four;have lf:=F7.lt;have lm:=T7.lt;go_wp2_with fail;refine FI.out.mono ?_;rintro e w8⟨⟨r,⟨ys,yd,ysp,ydp⟩,ok2,rfl,hr⟩,hb8⟩;have D9:=Below.alN (ag hb8 D7) (.cells #[ys,yd,ysp,ydp] 37);have F9:=(Bk.keep hb8 F7).alloc (.cells #[ys,yd,ysp,ydp] 37);have S9:=(Bk.keep hb8 S7).alloc (.cells #[ys,yd,ysp,ydp] 37);have C9:=ah w8 #[ys,yd,ysp,ydp] 37;have hcb:sb<w8.heap.size:=(Bk.keep hb8 S7).lt;have OK:Hid (CsOk d i 0 ⟨(ps:Int),(pd:Int),(psp:Int),(pdp:Int)⟩ rn (dm d i u r)):=tj hk.out hi hp (λk=>t1.out k) (λk=>t2.out k) (λk=>t3.out k) (λk=>t4.out k) (λk=>by rw[hna];exact t5.out k) ha hu.out.1 hr.out.1;have OW:Hid (∀W,Below (w8.alloc (.cells #[ys,yd,ysp,ydp] 37)).heap.size (w8.alloc (.cells #[ys,yd,ysp,ydp] 37)) W->Cl 204 #[fdV (some ⟨b,o,none⟩) ds.length cap L nl e9 R,(i:Int)] W λe w'=>∃A' c',e=.returned (.slice A' (aJ d i).length c') /\ EvRow W w' (.slice A' (aJ d i).length c') (aJ d i) /\ Below W W w'):=λW hb=>mU (some ⟨b,o,none⟩) L cap nl e9 R i ds d W hd hpl ((hD.out.below (ag hb D9)).mono (ag hb D9).size);have H1:Hid (∀W,CB 172 #[(i:Int),.int .i64 0,pkV ⟨xs,xd,xsp,xdp⟩,ydp] W (evV (ac i 0 ⟨xs,xd,xsp,xdp⟩ ydp))):=λW=>da i 0 ⟨xs,xd,xsp,xdp⟩ ydp W;have H2:Hid (∀W,CB 172 #[(i:Int),.int .i64 1,pkV ⟨ys,yd,ysp,ydp⟩,.int .i64 0] W (evV (ac i 1 ⟨ys,yd,ysp,ydp⟩ 0))):=λW=>da i 1 ⟨ys,yd,ysp,ydp⟩ 0 W;clear FI D7 F7 P7 S7 T7 f0 f1 f2 m0 m1 m2 m3 lf lm hb8 hF hD hd t1 t2 t3 t4 t5 s1 s2 s3 s4 s5;go_upto_region 7 with fail;generalize w8.alloc (.cells #[ys,yd,ysp,ydp] 37)=w9 at *;generalize w8.heap.size=cb9 at *;by_cases hok:ok=true /\ ok2=true
 rotate_left
 ·have hL:Hid (dm d i u r=[]):=by
   obtain⟨_,_,h3⟩:=hu.out;obtain⟨_,_,g3⟩:=hr.out;show _=_;cases u with
   | none=>rfl
   | some u =>
     cases r with
     | none=>rfl
     | some r=>exact absurd ⟨h3,g3⟩ hok
  clear OW H1 H2 F9 S9 C9;cases ok with
  | false =>
    clear hok;go_wp2_with fail;go_ret;exact⟨_,_,_,by rw[hL.out];rfl,⟨OK,by rw[hL.out];exact iO _ _⟩,D9⟩
  | true =>
    cases ok2 with
    | true=>exact absurd ⟨rfl,rfl⟩ hok
    | false =>
      clear hok;go_wp2_with fail;go_ret;exact⟨_,_,_,by rw[hL.out];rfl,⟨OK,by rw[hL.out];exact iO _ _⟩,D9⟩
 obtain⟨rfl,rfl⟩:=hok;have hL:Hid (dm d i u r=[aJ d i++[ac i 0 ⟨xs,xd,xsp,xdp⟩ ydp,ac i 1 ⟨ys,yd,ysp,ydp⟩ 0]]):=by
  obtain⟨_,h2,h3⟩:=hu.out;obtain⟨_,g2,g3⟩:=hr.out;show _=_;cases u with
  | none=>cases h3
  | some u =>
    cases r with
    | none=>cases g3
    | some r =>
      obtain rfl:(⟨xs,xd,xsp,xdp⟩:Pk)=u:=h2;obtain rfl:(⟨ys,yd,ysp,ydp⟩:Pk)=r:=g2;rfl
 go_upto_region 9 with fail;have HS:Hid (∀{W:World},Below w9 w9 W->W.cell? ⟨w,0,none⟩=some (.slice (some ⟨b,o,none⟩) ds.length cap) /\ W.cell? ⟨w,1,none⟩=some (.slice L nl e9) /\ W.cell? ⟨w,2,none⟩=some (.pointer R) /\ W.cell? ⟨sb,0,none⟩=some (.int .i64 xs) /\ W.cell? ⟨sb,1,none⟩=some (.int .i64 xd) /\ W.cell? ⟨sb,2,none⟩=some (.int .i64 xsp) /\ W.cell? ⟨sb,3,none⟩=some (.int .i64 xdp) /\ W.cell? ⟨cb9,0,none⟩=some (.int .i64 ys) /\ W.cell? ⟨cb9,1,none⟩=some (.int .i64 yd) /\ W.cell? ⟨cb9,2,none⟩=some (.int .i64 ysp) /\ W.cell? ⟨cb9,3,none⟩=some (.int .i64 ydp)):=λ{W} hb=>by
  have f:=Bk.keep hb F9;have p:=Bk.keep hb S9;have s:=Bk.keep hb C9;exact⟨f.at 0,f.at 1,f.at 2,p.at 0,p.at 1,p.at 2,p.at 3,s.at 0,s.at 1,s.at 2,s.at 3⟩
 have R9:=Below.refl w9 w9;clear F9 S9 C9;refine wp_region_held_drew (S:=λW=>W.cell? ⟨w,0,none⟩=some (.slice (some ⟨b,o,none⟩) ds.length cap) /\ W.cell? ⟨w,1,none⟩=some (.slice L nl e9) /\ W.cell? ⟨w,2,none⟩=some (.pointer R) /\ W.cell? ⟨sb,0,none⟩=some (.int .i64 xs) /\ W.cell? ⟨sb,1,none⟩=some (.int .i64 xd) /\ W.cell? ⟨sb,2,none⟩=some (.int .i64 xsp) /\ W.cell? ⟨sb,3,none⟩=some (.int .i64 xdp) /\ W.cell? ⟨cb9,0,none⟩=some (.int .i64 ys) /\ W.cell? ⟨cb9,1,none⟩=some (.int .i64 yd) /\ W.cell? ⟨cb9,2,none⟩=some (.int .i64 ysp) /\ W.cell? ⟨cb9,3,none⟩=some (.int .i64 ydp)) (by rfl) (HS.out R9.drew) (λhHeld=>?_);try simp only[ly]
 refine tk 0 ?_;try simp only[ly]
 refine tk 1 ?_;try simp only[ly]
 refine tk 3 ?_;try simp only[ly]
 refine tk 4 ?_;try simp only[ly]
 refine tk 5 ?_;try simp only[ly]
 refine tk 6 ?_;try simp only[ly]
 refine tk 8 ?_;try simp only[ly]
 refine tk 9 ?_;try simp only[ly]
 refine rd 2 (λK hK=>?_);go_simp;with_reducible refine(OW.out _ R9.drew).mono ?_
 rintro e w10⟨A',c',rfl,E7,hb7⟩;have R7:=ag hb7 R9.drew;dsimp only;clear hHeld;refine hK.out _ _ (HS.out R7) (λhHeld=>?_);clear hK K;try simp only[ly]
 refine rd 7 (λK hK=>?_);go_simp;with_reducible refine(H1.out _).mono ?_
 rintro e w11⟨rfl,hb8⟩;have R8:=ag hb8 R7;dsimp only;clear hHeld;refine hK.out _ _ (HS.out R8) (λhHeld=>?_);clear hK K;try simp only[ly]
 refine rd 10 (λK hK=>?_);go_simp;with_reducible refine(H2.out _).mono ?_
 rintro e w12⟨rfl,hb10⟩;have R10:=ag hb10 R8;have E8:EvRow w9 w12 (.slice A' (aJ d i).length c') (aJ d i):=(E7.below hb8).below hb10;dsimp only;clear hHeld;refine hK.out _ _ (HS.out R10) (λhHeld=>?_);clear hK K;try simp only[ly]
 obtain⟨A8,c8,W9,hr9,E9,hb9,-⟩:=EvRow.app E8 [ac i 0 ⟨xs,xd,xsp,xdp⟩ ydp,ac i 1 ⟨ys,yd,ysp,ydp⟩ 0] (by have:=iH d i;omega) (by simp) R10.size;have R11:=R10.trans hb9;simp only[List.length_cons,List.length_nil,List.flatMap_cons,List.flatMap_nil,List.append_nil,List.cons_append,List.nil_append]at hr9 E9;refine rd 11 (λK hK=>?_);go_simp;clear hHeld;refine hK.out _ _ (HS.out (Below.alN R10 _)) (λhHeld=>?_);clear hK K;try simp only[ly]
 refine rdA 12 hr9 (HS.out R11) (λhHeld=>?_);try simp only[ly]
 clear hr9;have C10:=eZ (B:=w.heap.size) (own_lo E9 D9.size) (D9.trans (R11.mono D9.size)).size;have D10:=Below.alN (D9.trans (R11.mono D9.size)) (.cells #[.slice A8 ((aJ d i).length+2) c8] 209);refine rd 13 (λK hK=>?_);go_simp;refine hK.out _ _ (HS.out (Below.alN R11 _)) (λhHeld=>?_);clear hK K;try simp only[ly]
 refine tk 14 ?_;try simp only[ly]
 refine wpAnyH_done (by kernel_rfl) ?_ _;clear HS OW H1 H2;go_wp2_with fail;go_ret;exact⟨_,_,dm d i u r,by rw[hL.out];rfl,⟨OK,by rw[hL.out];exact C10⟩,D10⟩
end Go.Proofs.YtjmclcmgpaofiaaGreat
namespace Go.Proofs.YtjmclcmgpaofiaaGreat
open Tryz
open Go.RowKit
def iK(bs:List Int)(x:Int)(j:Int):Prop:=(∃n:Nat,j=(n:Int) /\ bs[n]?=some x /\ ∀i y,i<n->bs[i]?=some y->y≠x)\/(j=-1 /\ x ∉ bs)
theorem tm(A:Option Addr)(n cap:Nat)(bs:List Int)(x:Int)(a9:Nat)(w:World)(hB:Hid (SlAt a9 w 1 IsI (.slice A n cap) bs)) :
  Cl 82 #[.slice A n cap,x] w λe w'=>∃j:Int,e=.returned j /\ Hid (iK bs x j) /\ w'=w:=by
 obtain⟨A',e9,e,_,h1,h2,_⟩:=id hB.out;cases e;unfold maxLen at h2;go_enter func82,ntmps82;go_wp2_with fail
 go_loop [8] (λi=>∃k:Nat,i=.int .i64 (k:Int) /\ k<=bs.length /\ Hid (∀i y,i<k->bs[i]?=some y->y≠x)) (λi=>bs.length-(intOf i).toNat)
 case atStart=>exact⟨0,rfl,by omega,λi y h=>by omega⟩
 case round =>
  obtain⟨k,rfl,hk,hno⟩:=hrel;by_cases hlt:k<bs.length
  ·obtain⟨y,hxk⟩:∃y,bs[k]?=some y:=⟨_,List.getElem?_eq_getElem hlt⟩;obtain⟨b,o,rfl,_,hcell⟩:=Ints.at hB.out hxk;have c0:=hcell k y hxk;have HX:Hid (bs[k]?=some y):=hxk;have k1:(0:Int)<=(k:Int):=by omega
   have k2:(k:Int)<(bs.length:Int):=by omega
   clear hxk hcell hB;cases hv:(y == x)
   ·have hv2:(x == y)=false:=by rw[BEq.comm];exact hv
    have HV:Hid (∀i z,i<k+1->bs[i]?=some z->z≠x):=λi z hi hz=>by
     by_cases e:i=k
     ·subst e;rw[HX.out]at hz;obtain rfl:=Option.some.inj hz;simpa using hv
     ·exact hno.out i z (by omega) hz
    clear HX hno hv;go_wp2_with fail
    go_round
    case rel=>exact⟨k+1,by go_num,by omega,HV⟩
    case measure=>simp[intOf];omega
   ·have hv2:(x == y)=true:=by rw[BEq.comm];exact hv
    have HV:Hid (iK bs x (k:Int)):=Or.inl ⟨k,rfl,by rw[HX.out,(by simpa using hv:y=x)],hno.out⟩;clear HX hno hv;go_wp2_with fail;go_ret;exact⟨_,rfl,HV,rfl⟩
  ·have HV:Hid (iK bs x (-1)):=Or.inr ⟨rfl,λhm=>by
    obtain⟨i,hi,e⟩:=List.mem_iff_getElem.1 hm;exact hno.out i x (by omega) (by rw[List.getElem?_eq_getElem hi,e]) rfl⟩
   go_wp2_with fail;go_ret;exact⟨_,rfl,HV,rfl⟩
end Go.Proofs.YtjmclcmgpaofiaaGreat
namespace Go.Proofs.YtjmclcmgpaofiaaGreat
open Tryz
open Go.RowKit Go.Maps
def dq(d:Dv)(i:Nat)(p:Pk)(j:Int):List (List Ev):=[ac i 0 p 0]::if 0<=j then [[aA i (cC d p) 0,ac i 0 (cC d p) j]]else []
theorem tq{d:Dv}{i:Nat}{p:Pk}{rn:Arv->Int}{j:Int}(hk:d.kind=5)(hi:i<=10)(hp:ae p=true)(ha:0<=d.addr /\ d.addr<16)(hn:d.backs.length<=3)(hj:(j=-1 /\ p.d ∉ d.backs)\/∃k:Nat,j=(k:Int) /\ d.backs[k]?=some p.d):CsOk d i 1 p rn (dq d i p j):=by
 obtain⟨b1,b2,b3,b4⟩:=bW hp;have hq:ae (cC d p)=true:=cB b1 ha b3 b4;have c1:Cause d i 1 p [ac i 0 p 0] /\ [ac (i:Int) 0 p 0].length<=20 /\ ∀x∈[ac (i:Int) 0 p 0],x.ok:=⟨Cause.balOut hk rfl,by simp,λx hx=>by
  obtain rfl:=List.mem_singleton.1 hx;exact cY hi (by omega) (bm hp) (bI (by omega))⟩
 have has:∀m:Int,az d i (λt q=>ae q=true /\ 0<=rn (t,q) /\ rn (t,q)<=m) 1 p->(0<=rn (((i:Int),0),p) /\ rn (((i:Int),0),p)<=m)\/(p.d∈d.backs /\ 0<=rn (((i:Int),0),cC d p) /\ rn (((i:Int),0),cC d p)<=m):=λm hs=>by
  unfold az at hs;rw[if_neg (by omega),if_neg (by omega),if_neg (by omega),if_pos hk,if_pos rfl]at hs;rcases hs with⟨h,_⟩|⟨h,h'⟩
  ·exact Or.inl h.2
  ·exact Or.inr ⟨h,h'.2⟩
 rcases hj with⟨rfl,hno⟩|⟨k,rfl,hk2⟩
 ·have e:dq d i p (-1)=[[ac i 0 p 0]]:=rfl;rw[e];refine⟨by simp,λc hc=>?_,λm hm hs=>?_⟩
  ·obtain rfl:=List.mem_singleton.1 hc;exact c1
  ·rcases has m hs with h|h
   ·refine⟨_,List.mem_singleton.2 rfl,λy hy=>?_⟩;obtain rfl:y=(((i:Int),0),p):=by simpa[ai]using hy
    exact h
   ·exact absurd h.1 hno
 ·have hkl:=(List.getElem?_eq_some_iff.1 hk2).1;have e:dq d i p (k:Int)=[[ac i 0 p 0],[aA i (cC d p) 0,ac i 0 (cC d p) (k:Int)]]:=by
   unfold dq;rw[if_pos (by omega)]
  rw[e];refine⟨by simp,λc hc=>?_,λm hm hs=>?_⟩
  ·simp only[List.mem_cons,List.not_mem_nil,or_false]at hc;rcases hc with rfl|rfl
   ·exact c1
   ·refine⟨Cause.balTo k hk rfl hk2,by simp,λx hx=>?_⟩;simp only[List.mem_cons,List.not_mem_nil,or_false]at hx;rcases hx with rfl|rfl
    ·exact iI hi (bm hq) (bI (by omega))
    ·exact cY hi (by omega) (bm hq) (bI (by omega))
  ·rcases has m hs with h|h
   ·refine⟨_,List.mem_cons_self,λy hy=>?_⟩;obtain rfl:y=(((i:Int),0),p):=by simpa[ai]using hy
    exact h
   ·refine⟨_,List.mem_cons_of_mem _ (List.mem_singleton.2 rfl),λy hy=>?_⟩;obtain rfl:y=(((i:Int),0),cC d p):=by simpa[ai]using hy
    exact h.2
theorem tu(A L:Option Addr)(cap nl e9 R i:Nat)(ds:List Dv)(d:Dv)(rn:Arv->Int)(p:Pk)(w:World)(hd:ds[i]?=some d)(hp:ae p=true)(hk:d.kind=5)(ha:0<=d.addr /\ d.addr<16)(hn:d.backs.length<=3)(hi:i<=10)(hD:Hid (Devs w w (.slice A ds.length cap) ds)) :
  Cl 176 #[fdV A ds.length cap L nl e9 R,(i:Int),pkV p] w (CzOut w (CsOk d i 1 p rn)):=by
 have hil:=(List.getElem?_eq_some_iff.1 hd).1;obtain⟨b,o,vb,vr,vt,rfl,hbl,g1,g2,g3,c0,c1,c2,c3,c4,c5,c6⟩:=hD.out.at hd;have hB:=hidOf g1;obtain⟨Ab,cb,rfl,-⟩:=g1;obtain⟨Ar,cr,rfl,-⟩:=g2;obtain⟨At,ct,rfl,-⟩:=g3;have hcap:=hD.out.len.2;unfold maxLen at hcap;have HJ:Hid (∀j,iK d.backs p.d j->CsOk d i 1 p rn (dq d i p j)):=λj h=>tq hk hi hp ha hn (by
  rcases h with⟨k,e,h1,_⟩|⟨e,h1⟩
  ·exact Or.inr ⟨k,e,h1⟩
  ·exact Or.inl ⟨e,h1⟩)
 obtain⟨ps,pd,psp,pdp⟩:=p;dsimp only at HJ;have D1:Below w w ((w.alloc (.cells #[.slice (some ⟨b,o,none⟩) ds.length cap,.slice L nl e9,.pointer R] 164)).alloc (.cells #[ps,pd,psp,pdp] 37)):=Below.alN (Below.alN (Below.refl _ _) _) _;have P1:=ax (w.alloc (.cells #[.slice (some ⟨b,o,none⟩) ds.length cap,.slice L nl e9,.pointer R] 164)) #[ps,pd,psp,pdp] 37 (w.heap.size+1) (by simp);have i1:(0:Int)<=(i:Int):=by omega
 have i2:(i:Int)<(ds.length:Int):=by omega
 have y0:=(D1.cell (p:=⟨b,o+i*7,none⟩) hbl).trans c0;have y1:=(D1.cell (p:=⟨b,o+i*7+1,none⟩) hbl).trans c1;have y2:=(D1.cell (p:=⟨b,o+i*7+2,none⟩) hbl).trans c2;have y3:=(D1.cell (p:=⟨b,o+i*7+3,none⟩) hbl).trans c3;have y4:=(D1.cell (p:=⟨b,o+i*7+4,none⟩) hbl).trans c4;have y5:=(D1.cell (p:=⟨b,o+i*7+5,none⟩) hbl).trans c5;have y6:=(D1.cell (p:=⟨b,o+i*7+6,none⟩) hbl).trans c6;clear c0 c1 c2 c3 c4 c5 c6 hp hd hk;have D2:=Below.alN D1 (.cells #[.string d.name,d.kind,d.addr,.int .u8 (d.pool:Int),.slice Ab d.backs.length cb,.slice Ar d.rules.length cr,.slice At d.routes.length ct] 70);have P2:=P1.alloc (.cells #[.string d.name,d.kind,d.addr,.int .u8 (d.pool:Int),.slice Ab d.backs.length cb,.slice Ar d.rules.length cr,.slice At d.routes.length ct] 70);have V2:=ax ((w.alloc (.cells #[.slice (some ⟨b,o,none⟩) ds.length cap,.slice L nl e9,.pointer R] 164)).alloc (.cells #[ps,pd,psp,pdp] 37)) #[.string d.name,d.kind,d.addr,.int .u8 (d.pool:Int),.slice Ab d.backs.length cb,.slice Ar d.rules.length cr,.slice At d.routes.length ct] 70 (w.heap.size+1+1) (by simp);have H0:Hid (∀W,CB 172 #[(i:Int),.int .i64 0,pkV ⟨ps,pd,psp,pdp⟩,.int .i64 0] W (evV (ac i 0 ⟨ps,pd,psp,pdp⟩ 0))):=λW=>da i 0 ⟨ps,pd,psp,pdp⟩ 0 W;have H1:Hid (∀W,CB 205 #[(i:Int),pkV ⟨ps,d.addr,psp,pdp⟩] W (evV (aA i ⟨ps,d.addr,psp,pdp⟩ 0))):=λW=>mP i ⟨ps,d.addr,psp,pdp⟩ W;have H2:Hid (∀(j:Int) W,CB 172 #[(i:Int),.int .i64 0,pkV ⟨ps,d.addr,psp,pdp⟩,j] W (evV (ac i 0 ⟨ps,d.addr,psp,pdp⟩ j))):=λj W=>da i 0 ⟨ps,d.addr,psp,pdp⟩ j W;go_enter func176,ntmps176;go_upto_region 1 with fail;go_upto_region 2 with fail;clear y0 y1 y2 y3 y4 y5 y6 D1 P1;generalize (((w.alloc (.cells #[.slice (some ⟨b,o,none⟩) ds.length cap,.slice L nl e9,.pointer R] 164)).alloc (.cells #[ps,pd,psp,pdp] 37)).alloc (.cells #[.string d.name,d.kind,d.addr,.int .u8 (d.pool:Int),.slice Ab d.backs.length cb,.slice Ar d.rules.length cr,.slice At d.routes.length ct] 70))=w1 at *;obtain⟨p0,p1,p2,p3,_⟩:=P2.four;have lp:=P2.lt;go_wp2_with fail;refine(H0.out _).mono ?_;rintro e w2⟨rfl,hb2⟩;have D3:=ag hb2 D2;have P3:=Bk.keep hb2 P2;have V3:=Bk.keep hb2 V2;have E3:=eC w2 [ac (i:Int) 0 ⟨ps,pd,psp,pdp⟩ 0] (by simp) (B:=w.heap.size) D3.size;have C3:=eZ (B:=w.heap.size) E3 (Below.alN D3 (.cells ([ac (i:Int) 0 ⟨ps,pd,psp,pdp⟩ 0].flatMap evC).toArray 47)).size;simp only[List.length_cons,List.length_nil,List.flatMap_cons,List.flatMap_nil,List.append_nil,World.size_alloc,Nat.zero_add]at C3;clear H0 D2 P2 V2 hb2 p0 p1 p2 p3 lp E3;have D4:=Below.alN (Below.alN D3 (.cells #[.int .i64 2,(i:Int),.int .i64 0,ps,pd,psp,pdp,.int .i64 0] 47)) (.cells #[.slice (some ⟨w2,0,none⟩) 1 1] 209);have P4:=(P3.alloc (.cells #[.int .i64 2,(i:Int),.int .i64 0,ps,pd,psp,pdp,.int .i64 0] 47)).alloc (.cells #[.slice (some ⟨w2,0,none⟩) 1 1] 209);have V4:=(V3.alloc (.cells #[.int .i64 2,(i:Int),.int .i64 0,ps,pd,psp,pdp,.int .i64 0] 47)).alloc (.cells #[.slice (some ⟨w2,0,none⟩) 1 1] 209);have C4:CsRow w ((w2.alloc (.cells #[.int .i64 2,(i:Int),.int .i64 0,ps,pd,psp,pdp,.int .i64 0] 47)).alloc (.cells #[.slice (some ⟨w2,0,none⟩) 1 1] 209)) (.slice (some ⟨w2.heap.size+1,0,none⟩) 1 1) [[ac (i:Int) 0 ⟨ps,pd,psp,pdp⟩ 0]]:=C3;go_upto_region 3 with fail;generalize (w2.alloc (.cells #[.int .i64 2,(i:Int),.int .i64 0,ps,pd,psp,pdp,.int .i64 0] 47)).alloc (.cells #[.slice (some ⟨w2,0,none⟩) 1 1] 209)=w4 at *;generalize w2.heap.size+1=gl at *;clear D3 P3 V3 C3;have IX:=hidOf (tm Ab d.backs.length cb d.backs pd w.heap.size w4 (SlAt.below hB.out D4 (λ_ _ _ h=>h)));obtain⟨p0,p1,p2,p3,_⟩:=P4.four;have v2:=V4.at 2;have v4:=V4.at 4;have lp:=P4.lt;have lv:=V4.lt;go_wp2_with fail;refine IX.out.mono ?_;rintro e w5⟨j,rfl,hj,rfl⟩;have CK:=hidOf (HJ.out j hj.out);clear IX HJ hB hD;by_cases h0:0<=j
 rotate_left
 ·have hL:Hid (dq d i ⟨ps,pd,psp,pdp⟩ j=[[ac i 0 ⟨ps,pd,psp,pdp⟩ 0]]):=by
   show _=_;unfold dq;rw[if_neg h0]
  clear H1 H2 P4 V4;go_wp2_with fail;go_ret;exact⟨_,_,dq d i ⟨ps,pd,psp,pdp⟩ j,by rw[hL.out];rfl,⟨CK.out,by rw[hL.out];exact C4⟩,D4⟩
 have hL:Hid (dq d i ⟨ps,pd,psp,pdp⟩ j=[[ac i 0 ⟨ps,pd,psp,pdp⟩ 0],[aA i ⟨ps,d.addr,psp,pdp⟩ 0,ac i 0 ⟨ps,d.addr,psp,pdp⟩ j]]):=by
  show _=_;unfold dq;rw[if_pos h0]
 have H2:=hidOf (H2.out j);have D6:=Below.alN D4 (.cells #[ps,d.addr,psp,pdp] 37);have C6:=C4.below (Below.alN (Below.refl w5 w5) (.cells #[ps,d.addr,psp,pdp] 37));have A6:=ah w5 #[ps,d.addr,psp,pdp] 37;go_upto_region 7 with fail;generalize w5.alloc (.cells #[ps,d.addr,psp,pdp] 37)=w6 at *;generalize w5.heap.size=ab at *;have HS:Hid (∀{W:World},Below w6 w6 W->W.cell? ⟨ab,0,none⟩=some (.int .i64 ps) /\ W.cell? ⟨ab,1,none⟩=some (.int .i64 d.addr) /\ W.cell? ⟨ab,2,none⟩=some (.int .i64 psp) /\ W.cell? ⟨ab,3,none⟩=some (.int .i64 pdp)):=λ{W} hb=>by
  have s:=Bk.keep hb A6;exact⟨s.at 0,s.at 1,s.at 2,s.at 3⟩
 have R6:=Below.refl w6 w6;clear C4 D4 P4 V4 p0 p1 p2 p3 v2 v4 lp lv;refine wp_region_held_drew (S:=λW=>W.cell? ⟨ab,0,none⟩=some (.int .i64 ps) /\ W.cell? ⟨ab,1,none⟩=some (.int .i64 d.addr) /\ W.cell? ⟨ab,2,none⟩=some (.int .i64 psp) /\ W.cell? ⟨ab,3,none⟩=some (.int .i64 pdp)) (by rfl) (HS.out R6.drew) (λhHeld=>?_);try simp only[ly]
 refine tk 0 ?_;try simp only[ly]
 refine tk 1 ?_;try simp only[ly]
 refine tk 2 ?_;try simp only[ly]
 refine tk 4 ?_;try simp only[ly]
 refine tk 5 ?_;try simp only[ly]
 refine tk 6 ?_;try simp only[ly]
 refine rd 3 (λK hK=>?_);go_simp;with_reducible refine(H1.out _).mono ?_
 rintro e w7⟨rfl,hb7⟩;have R7:=ag hb7 R6.drew;dsimp only;clear hHeld;refine hK.out _ _ (HS.out R7) (λhHeld=>?_);clear hK K;try simp only[ly]
 refine rd 7 (λK hK=>?_);go_simp;with_reducible refine(H2.out _).mono ?_
 rintro e w8⟨rfl,hb8⟩;have R8:=ag hb8 R7;have E8:=eC w8 [aA (i:Int) ⟨ps,d.addr,psp,pdp⟩ 0,ac (i:Int) 0 ⟨ps,d.addr,psp,pdp⟩ j] (by simp) (B:=w.heap.size) (D6.trans (R8.mono D6.size)).size;have C8:=(C6.below R8).below (Below.alN (Below.refl w8 w8) (.cells ([aA (i:Int) ⟨ps,d.addr,psp,pdp⟩ 0,ac (i:Int) 0 ⟨ps,d.addr,psp,pdp⟩ j].flatMap evC).toArray 47));have hw8:=(Below.alN R8 (.cells ([aA (i:Int) ⟨ps,d.addr,psp,pdp⟩ 0,ac (i:Int) 0 ⟨ps,d.addr,psp,pdp⟩ j].flatMap evC).toArray 47));obtain⟨A9,q9,W9,hr9,C9,hb9,hk9⟩:=C8.add E8 (by simp) (Below.alN (D6.trans (R8.mono D6.size)) _).size;have D9:=(Below.alN (D6.trans (R8.mono D6.size)) (.cells ([aA (i:Int) ⟨ps,d.addr,psp,pdp⟩ 0,ac (i:Int) 0 ⟨ps,d.addr,psp,pdp⟩ j].flatMap evC).toArray 47)).trans hb9;have HS9:Hid (W9.cell? ⟨ab,0,none⟩=some (.int .i64 ps) /\ W9.cell? ⟨ab,1,none⟩=some (.int .i64 d.addr) /\ W9.cell? ⟨ab,2,none⟩=some (.int .i64 psp) /\ W9.cell? ⟨ab,3,none⟩=some (.int .i64 pdp)):=by
  have s8:=Bk.keep hw8 A6;have s9:Bk W9 ab #[ps,d.addr,psp,pdp] 37:=(hk9.block _ s8.lt (λe=>by
   obtain⟨_,_,ho,_⟩:=C8;obtain⟨_,_,_,hc⟩:=cg ho e.symm;have hb:_=_:=s8;rw[hb]at hc;cases hc)).trans s8
  exact⟨s9.at 0,s9.at 1,s9.at 2,s9.at 3⟩
 clear hk9 A6;dsimp only;clear hHeld;refine hK.out _ _ (HS.out R8) (λhHeld=>?_);clear hK K;try simp only[ly]
 simp only[List.length_cons,List.length_nil,List.flatMap_cons,List.flatMap_nil,List.append_nil,List.cons_append,List.nil_append,World.size_alloc,Nat.zero_add]at hr9 C9;refine rd 8 (λK hK=>?_);go_simp;refine hK.out _ _ (HS.out (Below.alN R8 _)) (λhHeld=>?_);clear hK K;try simp only[ly]
 refine rd 9 (λK hK=>?_);go_simp;refine hK.out _ _ (HS.out (Below.alN (Below.alN R8 _) _)) (λhHeld=>?_);clear hK K;try simp only[ly]
 refine rdA 10 hr9 (HS9.out) (λhHeld=>?_);try simp only[ly]
 clear hr9;refine tk 11 ?_;try simp only[ly]
 refine wpAnyH_done (by kernel_rfl) ?_ _;clear HS H1 H2;go_wp2_with fail;go_ret;exact⟨_,_,dq d i ⟨ps,pd,psp,pdp⟩ j,by rw[hL.out];rfl,⟨CK.out,by rw[hL.out];exact C9⟩,D9⟩
def dt(d:Dv)(i:Nat)(p:Pk)(n:Nat):List (List Ev):=(List.range n).map λ(k:Nat)=>[aA i (aO d p) 0,ac i 0 (aO d p) (k:Int),ac i 1 ⟨d.backs.getD k 0,p.d,p.sp,p.dp⟩ 0]
def dY(d:Dv)(i:Nat)(p:Pk):List (List Ev):=[aA i (aO d p) 0,ac i 1 p 0]::if p.s=d.addr then dt d i p d.backs.length else []
theorem tw{d:Dv}{i:Nat}{p:Pk}{rn:Arv->Int}(hk:d.kind=5)(hi:i<=10)(hp:ae p=true)(ha:0<=d.addr /\ d.addr<16)(hn:d.backs.length<=3)(hb:∀b∈d.backs,0<=b /\ b<16):CsOk d i 0 p rn (dY d i p):=by
 obtain⟨b1,b2,b3,b4⟩:=bW hp;have hq:ae (aO d p)=true:=cB b2 ha b4 b3;refine⟨?_,λc hc=>?_,λm hm hs=>?_⟩
 ·unfold dY dt
  split
  ·simp;omega
  ·simp
 ·rcases List.mem_cons.1 hc with rfl|hc
  ·refine⟨Cause.balIn hk (by omega),by simp,λx hx=>?_⟩;simp only[List.mem_cons,List.not_mem_nil,or_false]at hx;rcases hx with rfl|rfl
   ·exact iI hi (bm hq) (bI (by omega))
   ·exact cY hi (by omega) (bm hp) (bI (by omega))
  ·split at hc
   ·rename_i hs
    obtain⟨k,hkr,rfl⟩:=List.mem_map.1 hc;have hkl:=List.mem_range.1 hkr;have hg:d.backs[k]?=some (d.backs.getD k 0):=by
     rw[List.getD_eq_getElem?_getD,List.getElem?_eq_getElem hkl];rfl
    have hbk:=hb _ (List.mem_of_getElem? hg);refine⟨Cause.balFrom k _ hk (by omega) hs hg,by simp,λx hx=>?_⟩;simp only[List.mem_cons,List.not_mem_nil,or_false]at hx;rcases hx with rfl|rfl|rfl
    ·exact iI hi (bm hq) (bI (by omega))
    ·exact cY hi (by omega) (bm hq) (bI (by omega))
    ·exact cY (q:=1) (p:=⟨d.backs.getD k 0,p.d,p.sp,p.dp⟩) (c:=0) hi (by omega) (bm (cB hbk b2 b3 b4)) (bI (by omega))
   ·cases hc
 ·unfold az at hs;rw[if_neg (by omega),if_neg (by omega),if_neg (by omega),if_pos hk,if_neg (by omega)]at hs;rcases hs.2 with h|⟨h1,b,h2,h3,h4⟩
  ·refine⟨_,List.mem_cons_self,λy hy=>?_⟩;obtain rfl:y=(((i:Int),1),p):=by simpa[ai]using hy
   exact h.2
  ·obtain⟨k,hkl,e⟩:=List.mem_iff_getElem.1 h2;have hg:d.backs.getD k 0=b:=by
    rw[List.getD_eq_getElem?_getD,List.getElem?_eq_getElem hkl];exact e
   refine⟨[aA i (aO d p) 0,ac i 0 (aO d p) (k:Int),ac i 1 ⟨d.backs.getD k 0,p.d,p.sp,p.dp⟩ 0],List.mem_cons_of_mem _ ?_,λy hy=>?_⟩
   ·rw[if_pos h1];exact List.mem_map.2 ⟨k,List.mem_range.2 hkl,rfl⟩
   ·have hy:y=(((i:Int),0),aO d p)\/y=(((i:Int),1),⟨d.backs.getD k 0,p.d,p.sp,p.dp⟩):=by simpa[ai]using hy
    rcases hy with rfl|rfl
    ·exact h4.2
    ·rw[hg];exact h3.2
theorem tz(A L:Option Addr)(cap nl e9 R i:Nat)(ds:List Dv)(d:Dv)(rn:Arv->Int)(p:Pk)(w:World)(hd:ds[i]?=some d)(hp:ae p=true)(hk:d.kind=5)(ha:0<=d.addr /\ d.addr<16)(hn:d.backs.length<=3)(hb:∀b∈d.backs,0<=b /\ b<16)(hi:i<=10)(hD:Hid (Devs w w (.slice A ds.length cap) ds)) :
  Cl 177 #[fdV A ds.length cap L nl e9 R,(i:Int),pkV p] w (CzOut w (CsOk d i 0 p rn)):=by
 have hil:=(List.getElem?_eq_some_iff.1 hd).1;obtain⟨b,o,vb,vr,vt,rfl,hbl,g1,g2,g3,c0,c1,c2,c3,c4,c5,c6⟩:=hD.out.at hd;have hB:=hidOf g1;obtain⟨Ab,cb,rfl,-,hcb1,hcb2,-⟩:=g1;obtain⟨Ar,cr,rfl,-⟩:=g2;obtain⟨At,ct,rfl,-⟩:=g3;have hcap:=hD.out.len.2;unfold maxLen at hcap hcb2;have CK:Hid (CsOk d i 0 p rn (dY d i p)):=tw hk hi hp ha hn hb;obtain⟨ps,pd,psp,pdp⟩:=p;have D1:Below w w ((w.alloc (.cells #[.slice (some ⟨b,o,none⟩) ds.length cap,.slice L nl e9,.pointer R] 164)).alloc (.cells #[ps,pd,psp,pdp] 37)):=Below.alN (Below.alN (Below.refl _ _) _) _;have P1:=ax (w.alloc (.cells #[.slice (some ⟨b,o,none⟩) ds.length cap,.slice L nl e9,.pointer R] 164)) #[ps,pd,psp,pdp] 37 (w.heap.size+1) (by simp);have i1:(0:Int)<=(i:Int):=by omega
 have i2:(i:Int)<(ds.length:Int):=by omega
 have y0:=(D1.cell (p:=⟨b,o+i*7,none⟩) hbl).trans c0;have y1:=(D1.cell (p:=⟨b,o+i*7+1,none⟩) hbl).trans c1;have y2:=(D1.cell (p:=⟨b,o+i*7+2,none⟩) hbl).trans c2;have y3:=(D1.cell (p:=⟨b,o+i*7+3,none⟩) hbl).trans c3;have y4:=(D1.cell (p:=⟨b,o+i*7+4,none⟩) hbl).trans c4;have y5:=(D1.cell (p:=⟨b,o+i*7+5,none⟩) hbl).trans c5;have y6:=(D1.cell (p:=⟨b,o+i*7+6,none⟩) hbl).trans c6;clear c0 c1 c2 c3 c4 c5 c6 hp hd hk hb ha;have D2:=Below.alN D1 (.cells #[.string d.name,d.kind,d.addr,.int .u8 (d.pool:Int),.slice Ab d.backs.length cb,.slice Ar d.rules.length cr,.slice At d.routes.length ct] 70);have P2:=P1.alloc (.cells #[.string d.name,d.kind,d.addr,.int .u8 (d.pool:Int),.slice Ab d.backs.length cb,.slice Ar d.rules.length cr,.slice At d.routes.length ct] 70);have V2:=ax ((w.alloc (.cells #[.slice (some ⟨b,o,none⟩) ds.length cap,.slice L nl e9,.pointer R] 164)).alloc (.cells #[ps,pd,psp,pdp] 37)) #[.string d.name,d.kind,d.addr,.int .u8 (d.pool:Int),.slice Ab d.backs.length cb,.slice Ar d.rules.length cr,.slice At d.routes.length ct] 70 (w.heap.size+1+1) (by simp);have H0:Hid (∀W,CB 172 #[(i:Int),.int .i64 1,pkV ⟨ps,pd,psp,pdp⟩,.int .i64 0] W (evV (ac i 1 ⟨ps,pd,psp,pdp⟩ 0))):=λW=>da i 1 ⟨ps,pd,psp,pdp⟩ 0 W;have H1:Hid (∀W,CB 205 #[(i:Int),pkV ⟨pd,d.addr,pdp,psp⟩] W (evV (aA i ⟨pd,d.addr,pdp,psp⟩ 0))):=λW=>mP i ⟨pd,d.addr,pdp,psp⟩ W;have H2:Hid (∀(j:Int) W,CB 172 #[(i:Int),.int .i64 0,pkV ⟨pd,d.addr,pdp,psp⟩,j] W (evV (ac i 0 ⟨pd,d.addr,pdp,psp⟩ j))):=λj W=>da i 0 ⟨pd,d.addr,pdp,psp⟩ j W;have H3:Hid (∀(x:Int) W,CB 172 #[(i:Int),.int .i64 1,pkV ⟨x,pd,psp,pdp⟩,.int .i64 0] W (evV (ac i 1 ⟨x,pd,psp,pdp⟩ 0))):=λx W=>da i 1 ⟨x,pd,psp,pdp⟩ 0 W;go_enter func177,ntmps177;go_upto_region 1 with fail;go_upto_region 2 with fail;clear y0 y1 y2 y3 y4 y5 y6 D1 P1;generalize (((w.alloc (.cells #[.slice (some ⟨b,o,none⟩) ds.length cap,.slice L nl e9,.pointer R] 164)).alloc (.cells #[ps,pd,psp,pdp] 37)).alloc (.cells #[.string d.name,d.kind,d.addr,.int .u8 (d.pool:Int),.slice Ab d.backs.length cb,.slice Ar d.rules.length cr,.slice At d.routes.length ct] 70))=w1 at *;obtain⟨p0,p1,p2,p3,_⟩:=P2.four;have lp:=P2.lt;have v2:=V2.at 2;have lv:=V2.lt;have D3:=Below.alN D2 (.cells #[pd,d.addr,pdp,psp] 37);have P3:=P2.alloc (.cells #[pd,d.addr,pdp,psp] 37);have V3:=V2.alloc (.cells #[pd,d.addr,pdp,psp] 37);have A3:=ah w1 #[pd,d.addr,pdp,psp] 37;go_upto_region 3 with fail;generalize w1.alloc (.cells #[pd,d.addr,pdp,psp] 37)=w3 at *;generalize w1.heap.size=ab at *;clear D2 P2 V2 p0 p1 p2 p3 lp v2 lv;obtain⟨a0,a1,a2,a3,_⟩:=A3.four;have la:=A3.lt;go_wp2_with fail;refine(H1.out _).mono ?_;rintro e w4⟨rfl,hb4⟩;have D5:=Below.alN (ag hb4 D3) (.cells #[.int .i64 3,(i:Int),.int .i64 0,pd,d.addr,pdp,psp,.int .i64 0] 47);have P5:=(Bk.keep hb4 P3).alloc (.cells #[.int .i64 3,(i:Int),.int .i64 0,pd,d.addr,pdp,psp,.int .i64 0] 47);have V5:=(Bk.keep hb4 V3).alloc (.cells #[.int .i64 3,(i:Int),.int .i64 0,pd,d.addr,pdp,psp,.int .i64 0] 47);have A5:=(Bk.keep hb4 A3).alloc (.cells #[.int .i64 3,(i:Int),.int .i64 0,pd,d.addr,pdp,psp,.int .i64 0] 47);have G5:=ah w4 #[.int .i64 3,(i:Int),.int .i64 0,pd,d.addr,pdp,psp,.int .i64 0] 47;clear D3 P3 V3 A3 a0 a1 a2 a3 la hb4 H1;go_upto_region 4 with fail;generalize w4.alloc (.cells #[.int .i64 3,(i:Int),.int .i64 0,pd,d.addr,pdp,psp,.int .i64 0] 47)=w5 at *;generalize w4.heap.size=gb at *;have HS:Hid (∀{W:World},Below w5 w5 W->W.cell? ⟨gb,0,none⟩=some (.int .i64 3) /\ W.cell? ⟨gb,1,none⟩=some (.int .i64 (i:Int)) /\ W.cell? ⟨gb,2,none⟩=some (.int .i64 0) /\ W.cell? ⟨gb,3,none⟩=some (.int .i64 pd) /\ W.cell? ⟨gb,4,none⟩=some (.int .i64 d.addr) /\ W.cell? ⟨gb,5,none⟩=some (.int .i64 pdp) /\ W.cell? ⟨gb,6,none⟩=some (.int .i64 psp) /\ W.cell? ⟨gb,7,none⟩=some (.int .i64 0) /\ W.cell? ⟨w.heap.size+1,0,none⟩=some (.int .i64 ps) /\ W.cell? ⟨w.heap.size+1,1,none⟩=some (.int .i64 pd) /\ W.cell? ⟨w.heap.size+1,2,none⟩=some (.int .i64 psp) /\ W.cell? ⟨w.heap.size+1,3,none⟩=some (.int .i64 pdp)):=λ{W} hb=>by
  have g:=Bk.keep hb G5;have p:=Bk.keep hb P5;exact⟨g.at 0,g.at 1,g.at 2,g.at 3,g.at 4,g.at 5,g.at 6,g.at 7,p.at 0,p.at 1,p.at 2,p.at 3⟩
 have R5:=Below.refl w5 w5;refine wp_region_held_drew (S:=λW=>W.cell? ⟨gb,0,none⟩=some (.int .i64 3) /\ W.cell? ⟨gb,1,none⟩=some (.int .i64 (i:Int)) /\ W.cell? ⟨gb,2,none⟩=some (.int .i64 0) /\ W.cell? ⟨gb,3,none⟩=some (.int .i64 pd) /\ W.cell? ⟨gb,4,none⟩=some (.int .i64 d.addr) /\ W.cell? ⟨gb,5,none⟩=some (.int .i64 pdp) /\ W.cell? ⟨gb,6,none⟩=some (.int .i64 psp) /\ W.cell? ⟨gb,7,none⟩=some (.int .i64 0) /\ W.cell? ⟨w.heap.size+1,0,none⟩=some (.int .i64 ps) /\ W.cell? ⟨w.heap.size+1,1,none⟩=some (.int .i64 pd) /\ W.cell? ⟨w.heap.size+1,2,none⟩=some (.int .i64 psp) /\ W.cell? ⟨w.heap.size+1,3,none⟩=some (.int .i64 pdp)) (by rfl) (HS.out R5.drew) (λhHeld=>?_);try simp only[ly]
 refine tk 0 ?_;try simp only[ly]
 refine tk 1 ?_;try simp only[ly]
 refine tk 2 ?_;try simp only[ly]
 refine rd 3 (λK hK=>?_);go_simp;with_reducible refine(H0.out _).mono ?_
 rintro e w6⟨rfl,hb6⟩;have R6:=ag hb6 R5.drew;dsimp only;clear hHeld;refine hK.out _ _ (HS.out R6) (λhHeld=>?_);clear hK K;try simp only[ly]
 refine rd 4 (λK hK=>?_);go_simp;refine hK.out _ _ (HS.out (Below.alN R6 _)) (λhHeld=>?_);clear hK K;try simp only[ly]
 refine rd 5 (λK hK=>?_);go_simp;refine hK.out _ _ (HS.out (Below.alN (Below.alN R6 _) _)) (λhHeld=>?_);clear hK K;try simp only[ly]
 refine tk 6 ?_;try simp only[ly]
 refine wpAnyH_done (by kernel_rfl) ?_ _;clear HS H0 hHeld;have R7:=Below.alN (Below.alN R6 (.cells #[.int .i64 3,(i:Int),.int .i64 0,pd,d.addr,pdp,psp,.int .i64 0,.int .i64 2,(i:Int),.int .i64 1,ps,pd,psp,pdp,.int .i64 0] 47)) (.cells #[.slice (some ⟨w6,0,none⟩) 2 2] 209);have E6:=eC (B:=w.heap.size) w6 [aA (i:Int) ⟨pd,d.addr,pdp,psp⟩ 0,ac (i:Int) 1 ⟨ps,pd,psp,pdp⟩ 0] (by simp) (D5.trans (R6.mono D5.size)).size;have C6:=eZ (B:=w.heap.size) E6 (Below.alN (D5.trans (R6.mono D5.size)) (.cells ([aA (i:Int) ⟨pd,d.addr,pdp,psp⟩ 0,ac (i:Int) 1 ⟨ps,pd,psp,pdp⟩ 0].flatMap evC).toArray 47)).size;have C7:CsRow w ((w6.alloc (.cells #[.int .i64 3,(i:Int),.int .i64 0,pd,d.addr,pdp,psp,.int .i64 0,.int .i64 2,(i:Int),.int .i64 1,ps,pd,psp,pdp,.int .i64 0] 47)).alloc (.cells #[.slice (some ⟨w6,0,none⟩) 2 2] 209)) (.slice (some ⟨w6.heap.size+1,0,none⟩) 1 1) [[aA (i:Int) ⟨pd,d.addr,pdp,psp⟩ 0,ac (i:Int) 1 ⟨ps,pd,psp,pdp⟩ 0]]:=by
  have:=C6;simp only[World.size_alloc]at this;exact this
 have D7:=D5.trans (R7.mono D5.size);have P7:=Bk.keep R7 P5;have V7:=Bk.keep R7 V5;have A7:=Bk.keep R7 A5;have G7:=Bk.keep R7 G5;clear E6 C6 R6 R5 D5 P5 V5 A5 G5 hb6 R7;generalize (w6.alloc (.cells #[.int .i64 3,(i:Int),.int .i64 0,pd,d.addr,pdp,psp,.int .i64 0,.int .i64 2,(i:Int),.int .i64 1,ps,pd,psp,pdp,.int .i64 0] 47)).alloc (.cells #[.slice (some ⟨w6,0,none⟩) 2 2] 209)=w7 at *;generalize w6.heap.size+1=gl at *;have p0:=P7.at 0;have v2:=V7.at 2;have v4:=V7.at 4;have lp:=P7.lt;have lv:=V7.lt;by_cases hs:ps=d.addr
 rotate_left
 ·have hL:Hid (dY d i ⟨ps,pd,psp,pdp⟩=[[aA (i:Int) ⟨pd,d.addr,pdp,psp⟩ 0,ac (i:Int) 1 ⟨ps,pd,psp,pdp⟩ 0]]):=by
   show _=_;unfold dY;rw[if_neg hs]
  have ts:(ps == d.addr)=false:=by simpa using hs
  have tn:(ps != d.addr)=true:=by simpa using hs
  clear H2 H3 hB hD A7 G7 V7 P7 hs;go_wp2_with fail;go_ret;exact⟨_,_,dY d i ⟨ps,pd,psp,pdp⟩,by rw[hL.out];rfl,⟨CK.out,by rw[hL.out];exact C7⟩,D7⟩
 have hL:Hid (dY d i ⟨ps,pd,psp,pdp⟩=[aA (i:Int) ⟨pd,d.addr,pdp,psp⟩ 0,ac (i:Int) 1 ⟨ps,pd,psp,pdp⟩ 0]::dt d i ⟨ps,pd,psp,pdp⟩ d.backs.length):=by
  show _=_;unfold dY;rw[if_pos hs]
 have ts:(ps == d.addr)=true:=by simpa using hs
 have tn:(ps != d.addr)=false:=by simpa using hs
 replace hs:=hidOf hs
 obtain⟨V,hV⟩:∃V:Value->List (List Ev)->World->Prop,V=λv cs W=>Below w w W /\ CsRow w W v cs /\ Bk W gb #[.int .i64 3,(i:Int),.int .i64 0,pd,d.addr,pdp,psp,.int .i64 0] 47 /\ Bk W ab #[pd,d.addr,pdp,psp] 37 /\ Bk W (w.heap.size+1) #[ps,pd,psp,pdp] 37:=⟨_,rfl⟩;have V0:V (.slice gl 1 1) ([aA (i:Int) ⟨pd,d.addr,pdp,psp⟩ 0,ac (i:Int) 1 ⟨ps,pd,psp,pdp⟩ 0]::dt d i ⟨ps,pd,psp,pdp⟩ 0) w7:=by
  rw[hV];exact⟨D7,C7,G7,A7,P7⟩
 have VI:Hid (∀{v:Value} {cs:List (List Ev)} {W:World},V v cs W->∀{k:Nat} {x:Int},d.backs[k]?=some x->∃b' o',Ab=some ⟨b',o',none⟩ /\ W.cell? ⟨b',o'+k,none⟩=some (.int .i64 x)):=λ{v cs W} h {k x} hx=>by
  rw[hV]at h;obtain⟨b',o',e,_,hcell⟩:=Ints.at (SlAt.below hB.out h.1 (λ_ _ _ h=>h)) hx;exact⟨b',o',e,hcell k x hx⟩
 have VS:Hid (∀{v:Value} {cs:List (List Ev)} {W:World} (x:Int),V v cs W->V v cs (W.alloc (.cells #[.int .i64 x,pd,psp,pdp] 37)) /\ ∀W',Below (W.alloc (.cells #[.int .i64 x,pd,psp,pdp] 37)).heap.size (W.alloc (.cells #[.int .i64 x,pd,psp,pdp] 37)) W'->Bk W' gb #[.int .i64 3,(i:Int),.int .i64 0,pd,d.addr,pdp,psp,.int .i64 0] 47 /\ Bk W' ab #[pd,d.addr,pdp,psp] 37 /\ Bk W' W.heap.size #[.int .i64 x,pd,psp,pdp] 37):=λ{v cs W} x h=>by
  rw[hV]at h ⊢;obtain⟨h1,h2,h3,h4,h5⟩:=h;refine⟨⟨Below.alN h1 _,h2.below (Below.alN (Below.refl _ _) _),h3.alloc _,h4.alloc _,h5.alloc _⟩,λW' hb=>?_⟩;have g:=Bk.keep hb (h3.alloc (.cells #[.int .i64 x,pd,psp,pdp] 37));have a:=Bk.keep hb (h4.alloc (.cells #[.int .i64 x,pd,psp,pdp] 37));have n:=Bk.keep hb (ah W #[.int .i64 x,pd,psp,pdp] 37);exact⟨g,a,n⟩
 have VN:Hid (∀{v:Value} {cs:List (List Ev)} {W:World},V v cs W->W.cell? ⟨w.heap.size+1,0,none⟩=some (.int .i64 ps) /\ W.cell? ⟨w.heap.size+1,1,none⟩=some (.int .i64 pd) /\ W.cell? ⟨w.heap.size+1,2,none⟩=some (.int .i64 psp) /\ W.cell? ⟨w.heap.size+1,3,none⟩=some (.int .i64 pdp)):=λ{v cs W} h=>by
  rw[hV]at h;have p:=h.2.2.2.2;exact⟨p.at 0,p.at 1,p.at 2,p.at 3⟩
 have VB:Hid (∀{v:Value} {cs:List (List Ev)} {W W':World},V v cs W->Below W W W'->V v cs W'):=λ{v cs W W'} h hb=>by
  rw[hV]at h ⊢;exact⟨ag hb h.1,h.2.1.below hb,Bk.keep hb h.2.2.1,Bk.keep hb h.2.2.2.1,Bk.keep hb h.2.2.2.2⟩
 have VA:Hid (∀{v:Value} {cs:List (List Ev)} {W:World} (k:Nat) (x:Int),V v cs W->cs.length<=100->∃A9 q9 W9,(Builtin.append_ #[232,232] 232 #[v,.slice (some ⟨W.heap.size+1,0,none⟩) 1 1]).run prog ((W.alloc (.cells #[.int .i64 3,(i:Int),.int .i64 0,pd,d.addr,pdp,psp,.int .i64 0,.int .i64 2,(i:Int),.int .i64 0,pd,d.addr,pdp,psp,(k:Int),.int .i64 2,(i:Int),.int .i64 1,.int .i64 x,pd,psp,pdp,.int .i64 0] 47)).alloc (.cells #[.slice (some ⟨W,0,none⟩) 3 3] 209))=.ok (.slice A9 (cs.length+1) q9) W9 /\ V (.slice A9 (cs.length+1) q9) (cs++[[aA (i:Int) ⟨pd,d.addr,pdp,psp⟩ 0,ac (i:Int) 0 ⟨pd,d.addr,pdp,psp⟩ (k:Int),ac (i:Int) 1 ⟨x,pd,psp,pdp⟩ 0]]) W9 /\ ∀k c t,Bk W k c t->t≠209->Bk W9 k c t):=λ{v cs W} k x h hl=>by
  rw[hV]at h ⊢;have E8:=eC (B:=w.heap.size) W [aA (i:Int) ⟨pd,d.addr,pdp,psp⟩ 0,ac (i:Int) 0 ⟨pd,d.addr,pdp,psp⟩ (k:Int),ac (i:Int) 1 ⟨x,pd,psp,pdp⟩ 0] (by simp) h.1.size;have C8:=h.2.1.below (Below.alN (Below.refl W W) (.cells ([aA (i:Int) ⟨pd,d.addr,pdp,psp⟩ 0,ac (i:Int) 0 ⟨pd,d.addr,pdp,psp⟩ (k:Int),ac (i:Int) 1 ⟨x,pd,psp,pdp⟩ 0].flatMap evC).toArray 47));have d8:=Below.alN h.1 (.cells ([aA (i:Int) ⟨pd,d.addr,pdp,psp⟩ 0,ac (i:Int) 0 ⟨pd,d.addr,pdp,psp⟩ (k:Int),ac (i:Int) 1 ⟨x,pd,psp,pdp⟩ 0].flatMap evC).toArray 47);obtain⟨A9,q9,W9,hr9,C9,hb9,hk9⟩:=C8.add E8 (by omega) d8.size;simp only[World.size_alloc]at hr9;have kp:∀m c t,Bk W m c t->t≠209->Bk W9 m c t:=λm c t hb ht=>by
   have hb':=hb.alloc (.cells ([aA (i:Int) ⟨pd,d.addr,pdp,psp⟩ 0,ac (i:Int) 0 ⟨pd,d.addr,pdp,psp⟩ (k:Int),ac (i:Int) 1 ⟨x,pd,psp,pdp⟩ 0].flatMap evC).toArray 47);refine(hk9.block _ hb'.lt (λe=>by
    obtain⟨_,_,ho,_⟩:=C8;obtain⟨_,_,_,hc⟩:=cg ho e.symm;have hb2:_=_:=hb';rw[hb2]at hc;cases hc;exact ht rfl)).trans hb'
  exact⟨A9,q9,W9,hr9,⟨d8.trans hb9,C9,kp _ _ _ h.2.2.1 (by decide),kp _ _ _ h.2.2.2.1 (by decide),kp _ _ _ h.2.2.2.2 (by decide)⟩,kp⟩
 have OW:Hid (∀k x,d.backs[k]?=some x->dt d i ⟨ps,pd,psp,pdp⟩ (k+1)=dt d i ⟨ps,pd,psp,pdp⟩ k++[[aA (i:Int) ⟨pd,d.addr,pdp,psp⟩ 0,ac (i:Int) 0 ⟨pd,d.addr,pdp,psp⟩ (k:Int),ac (i:Int) 1 ⟨x,pd,psp,pdp⟩ 0]]):=λk x hx=>by
  have hg:d.backs.getD k 0=x:=by
   rw[List.getD_eq_getElem?_getD,hx];rfl
  unfold dt;rw[List.range_succ,List.map_append]
  congr 1
  show [[_,_,ac (i:Int) 1 ⟨d.backs.getD k 0,_,_,_⟩ 0]]=_;rw[hg]
 have GL:Hid (∀k,(dt d i ⟨ps,pd,psp,pdp⟩ k).length=k):=λk=>by simp[dt]
 have VZ:Hid (∀{v:Value} {cs:List (List Ev)} {W:World},V v cs W->∃A' c',v=.slice A' cs.length c' /\ CsRow w W (.slice A' cs.length c') cs /\ Below w w W):=λ{v cs W} h=>by
  rw[hV]at h;obtain⟨A',c',e⟩:=h.2.1.slice;exact⟨A',c',e,by rw[<- e];exact h.2.1,h.1⟩
 clear hV D7 C7 P7 V7 A7 G7 hB hD;go_wp2_with fail;clear p0 lp v2 v4 lv;go_loopw[10,47] (λs10 s47 wr=>∃k:Nat,s47=.int .i64 (k:Int) /\ k<=d.backs.length /\ V s10 ([aA (i:Int) ⟨pd,d.addr,pdp,psp⟩ 0,ac (i:Int) 1 ⟨ps,pd,psp,pdp⟩ 0]::dt d i ⟨ps,pd,psp,pdp⟩ k) wr) (λ_ s47 _=>d.backs.length-(intOf s47).toNat)
 case atStart=>exact⟨0,rfl,by omega,V0⟩
 case round =>
  clear V0;obtain⟨k,rfl,hk,V1⟩:=hrel;by_cases hkl:k<d.backs.length
  ·obtain⟨x,hx⟩:∃x,d.backs[k]?=some x:=⟨_,List.getElem?_eq_getElem hkl⟩;obtain⟨b',o',rfl,xc⟩:=VI.out V1 hx;have hO:=hidOf (OW.out k x hx);have hl:=GL.out k;have H2k:=hidOf (H2.out (k:Int));have H3x:=hidOf (H3.out x);obtain⟨V2,HT⟩:=VS.out x V1;have HT:=hidOf HT;obtain⟨n0,n1,n2,n3⟩:=VN.out V1;have k1:(0:Int)<=(k:Int):=by omega
   have k2:(k:Int)<(d.backs.length:Int):=by omega
   clear hx VI VN VS H2 H3 OW GL V1;go_upto_region 12 with fail;generalize wr.alloc (.cells #[.int .i64 x,pd,psp,pdp] 37)=w8 at *;generalize wr.heap.size=nb at *;have R8:=Below.refl w8 w8;have HC:Hid (∀{W},Bk W gb #[.int .i64 3,(i:Int),.int .i64 0,pd,d.addr,pdp,psp,.int .i64 0] 47 /\ Bk W ab #[pd,d.addr,pdp,psp] 37 /\ Bk W nb #[.int .i64 x,pd,psp,pdp] 37->W.cell? ⟨gb,0,none⟩=some (.int .i64 3) /\ W.cell? ⟨gb,1,none⟩=some (.int .i64 (i:Int)) /\ W.cell? ⟨gb,2,none⟩=some (.int .i64 0) /\ W.cell? ⟨gb,3,none⟩=some (.int .i64 pd) /\ W.cell? ⟨gb,4,none⟩=some (.int .i64 d.addr) /\ W.cell? ⟨gb,5,none⟩=some (.int .i64 pdp) /\ W.cell? ⟨gb,6,none⟩=some (.int .i64 psp) /\ W.cell? ⟨gb,7,none⟩=some (.int .i64 0) /\ W.cell? ⟨ab,0,none⟩=some (.int .i64 pd) /\ W.cell? ⟨ab,1,none⟩=some (.int .i64 d.addr) /\ W.cell? ⟨ab,2,none⟩=some (.int .i64 pdp) /\ W.cell? ⟨ab,3,none⟩=some (.int .i64 psp) /\ W.cell? ⟨nb,0,none⟩=some (.int .i64 x) /\ W.cell? ⟨nb,1,none⟩=some (.int .i64 pd) /\ W.cell? ⟨nb,2,none⟩=some (.int .i64 psp) /\ W.cell? ⟨nb,3,none⟩=some (.int .i64 pdp)):=λ{W} h=>by
    obtain⟨g,a,n⟩:=h;exact⟨g.at 0,g.at 1,g.at 2,g.at 3,g.at 4,g.at 5,g.at 6,g.at 7,a.at 0,a.at 1,a.at 2,a.at 3,n.at 0,n.at 1,n.at 2,n.at 3⟩
   have HS:Hid (∀W,Below w8 w8 W->W.cell? ⟨gb,0,none⟩=some (.int .i64 3) /\ W.cell? ⟨gb,1,none⟩=some (.int .i64 (i:Int)) /\ W.cell? ⟨gb,2,none⟩=some (.int .i64 0) /\ W.cell? ⟨gb,3,none⟩=some (.int .i64 pd) /\ W.cell? ⟨gb,4,none⟩=some (.int .i64 d.addr) /\ W.cell? ⟨gb,5,none⟩=some (.int .i64 pdp) /\ W.cell? ⟨gb,6,none⟩=some (.int .i64 psp) /\ W.cell? ⟨gb,7,none⟩=some (.int .i64 0) /\ W.cell? ⟨ab,0,none⟩=some (.int .i64 pd) /\ W.cell? ⟨ab,1,none⟩=some (.int .i64 d.addr) /\ W.cell? ⟨ab,2,none⟩=some (.int .i64 pdp) /\ W.cell? ⟨ab,3,none⟩=some (.int .i64 psp) /\ W.cell? ⟨nb,0,none⟩=some (.int .i64 x) /\ W.cell? ⟨nb,1,none⟩=some (.int .i64 pd) /\ W.cell? ⟨nb,2,none⟩=some (.int .i64 psp) /\ W.cell? ⟨nb,3,none⟩=some (.int .i64 pdp)):=λW h=>HC.out (HT.out W h);refine wp_region_held_drew (S:=λW=>W.cell? ⟨gb,0,none⟩=some (.int .i64 3) /\ W.cell? ⟨gb,1,none⟩=some (.int .i64 (i:Int)) /\ W.cell? ⟨gb,2,none⟩=some (.int .i64 0) /\ W.cell? ⟨gb,3,none⟩=some (.int .i64 pd) /\ W.cell? ⟨gb,4,none⟩=some (.int .i64 d.addr) /\ W.cell? ⟨gb,5,none⟩=some (.int .i64 pdp) /\ W.cell? ⟨gb,6,none⟩=some (.int .i64 psp) /\ W.cell? ⟨gb,7,none⟩=some (.int .i64 0) /\ W.cell? ⟨ab,0,none⟩=some (.int .i64 pd) /\ W.cell? ⟨ab,1,none⟩=some (.int .i64 d.addr) /\ W.cell? ⟨ab,2,none⟩=some (.int .i64 pdp) /\ W.cell? ⟨ab,3,none⟩=some (.int .i64 psp) /\ W.cell? ⟨nb,0,none⟩=some (.int .i64 x) /\ W.cell? ⟨nb,1,none⟩=some (.int .i64 pd) /\ W.cell? ⟨nb,2,none⟩=some (.int .i64 psp) /\ W.cell? ⟨nb,3,none⟩=some (.int .i64 pdp)) (by rfl) (HS.out _ R8.drew) (λhHeld=>?_);try simp only[ly]
   refine tk 0 ?_;try simp only[ly]
   refine tk 1 ?_;try simp only[ly]
   refine tk 2 ?_;try simp only[ly]
   refine tk 3 ?_;try simp only[ly]
   refine tk 4 ?_;try simp only[ly]
   refine tk 6 ?_;try simp only[ly]
   refine tk 7 ?_;try simp only[ly]
   refine rd 5 (λK hK=>?_);go_simp;with_reducible refine(H2k.out _).mono ?_
   rintro e w9⟨rfl,hb9⟩;have R9:=ag hb9 R8.drew;dsimp only;clear hHeld;refine hK.out _ _ (HS.out _ R9) (λhHeld=>?_);clear hK K;try simp only[ly]
   refine rd 8 (λK hK=>?_);go_simp;with_reducible refine(H3x.out _).mono ?_
   rintro e w10⟨rfl,hb10⟩;have R10:=ag hb10 R9;obtain⟨A9,q9,W9,hr9,V9,kp⟩:=VA.out k x (VB.out V2 R10) (by simp[hl];omega);have S9:Hid ((λW=>W.cell? ⟨gb,0,none⟩=some (.int .i64 3) /\ W.cell? ⟨gb,1,none⟩=some (.int .i64 (i:Int)) /\ W.cell? ⟨gb,2,none⟩=some (.int .i64 0) /\ W.cell? ⟨gb,3,none⟩=some (.int .i64 pd) /\ W.cell? ⟨gb,4,none⟩=some (.int .i64 d.addr) /\ W.cell? ⟨gb,5,none⟩=some (.int .i64 pdp) /\ W.cell? ⟨gb,6,none⟩=some (.int .i64 psp) /\ W.cell? ⟨gb,7,none⟩=some (.int .i64 0) /\ W.cell? ⟨ab,0,none⟩=some (.int .i64 pd) /\ W.cell? ⟨ab,1,none⟩=some (.int .i64 d.addr) /\ W.cell? ⟨ab,2,none⟩=some (.int .i64 pdp) /\ W.cell? ⟨ab,3,none⟩=some (.int .i64 psp) /\ W.cell? ⟨nb,0,none⟩=some (.int .i64 x) /\ W.cell? ⟨nb,1,none⟩=some (.int .i64 pd) /\ W.cell? ⟨nb,2,none⟩=some (.int .i64 psp) /\ W.cell? ⟨nb,3,none⟩=some (.int .i64 pdp)) W9):=by
    obtain⟨g,a,n⟩:=HT.out _ R10;exact HC.out ⟨kp _ _ _ g (by decide),kp _ _ _ a (by decide),kp _ _ _ n (by decide)⟩
   clear kp HC HT;dsimp only;clear hHeld;refine hK.out _ _ (HS.out _ R10) (λhHeld=>?_);clear hK K;try simp only[ly]
   rw[show([aA (i:Int) ⟨pd,d.addr,pdp,psp⟩ 0,ac (i:Int) 1 ⟨ps,pd,psp,pdp⟩ 0]::dt d i ⟨ps,pd,psp,pdp⟩ k).length=k+1 by rw[List.length_cons,hl]]at hr9 V9;refine rd 9 (λK hK=>?_);go_simp;refine hK.out _ _ (HS.out _ (Below.alN R10 _)) (λhHeld=>?_);clear hK K;try simp only[ly]
   refine rd 10 (λK hK=>?_);go_simp;refine hK.out _ _ (HS.out _ (Below.alN (Below.alN R10 _) _)) (λhHeld=>?_);clear hK K;try simp only[ly]
   refine rdA 11 hr9 S9.out (λhHeld=>?_);try simp only[ly]
   clear hr9 HS S9;refine tk 12 ?_;try simp only[ly]
   refine wpAnyH_done (by kernel_rfl) ?_ _;clear hHeld VA VB H2k H3x;go_wp2_with fail;go_roundw
   case rel=>exact⟨k+1,by go_num,by omega,by rw[hO.out];exact V9⟩
   case measure=>simp[intOf];omega
  ·obtain rfl:k=d.backs.length:=by omega
   rw[<- hL.out]at V1;obtain⟨A',c',rfl,h1,h2⟩:=VZ.out V1;clear VI VN VS VA VB VZ H2 H3 OW GL V1;go_wp2_with fail;go_ret;exact⟨A',c',dY d i ⟨ps,pd,psp,pdp⟩,rfl,⟨CK.out,h1⟩,h2⟩
end Go.Proofs.YtjmclcmgpaofiaaGreat
