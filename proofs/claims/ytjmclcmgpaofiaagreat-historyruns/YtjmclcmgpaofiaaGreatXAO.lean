/-
  XAO.
-/
import Derived.Test.YtjmclcmgpaofiaaGreatXLy
import Derived.Test.YtjmclcmgpaofiaaGreatXAN
import Derived.Test.YtjmclcmgpaofiaaGreatXAM
import Derived.Test.YtjmclcmgpaofiaaGreatXAB
import Derived.Deep.WholeRow
import Derived.Deep.MidRow
import Derived.Deep.DeepCutAuto
import Derived.BigQuiet
import Derived.ChangeKeysEq
set_option maxHeartbeats 8000000
set_option maxRecDepth 100000
namespace Go.Proofs.YtjmclcmgpaofiaaGreat
open Tryz
open Go.RowKit Go.Maps
theorem ni{a9:Nat}{w:World}{v:Value}{xs:List NRule}(h:SlAt a9 w 5 aY v xs):Rules a9 w v (xs.map λr=>⟨r.ok,r.a,r.b,r.c,r.d,r.ha,r.hb,r.hc,r.hd⟩):=by
 obtain⟨A,cap,rfl,h0,h1,h2,h3⟩:=h;refine⟨A,cap,by rw[List.length_map],h0,by rw[List.length_map];exact h1,h2,λhn=>?_⟩;obtain⟨b,o,ea,hl,hr⟩:=h3 (λe=>hn (by rw[e];rfl));refine⟨b,o,ea,hl,λj u hj=>?_⟩;have hjl:=(List.getElem?_eq_some_iff.1 hj).1;rw[kF,List.length_map]at hjl;have hk:j / 5<xs.length:=by omega
 have hx:xs[j / 5]?=some xs[j / 5]:=List.getElem?_eq_getElem hk;obtain⟨cs,_,rfl,hc⟩:=hr _ _ hx;obtain⟨c0,c1,c2,c3,c4⟩:=ji (xs.map λr:NRule=>(⟨r.ok,r.a,r.b,r.c,r.d,r.ha,r.hb,r.hc,r.hd⟩:Rl)) (j / 5) _ (by rw[List.getElem?_map,hx];rfl);have hm:j % 5=0\/j % 5=1\/j % 5=2\/j % 5=3\/j % 5=4:=by omega
 have eo:o+j=o+j / 5*5+j % 5:=by omega
 rw[eo];rcases hm with hm|hm|hm|hm|hm
 ·rw[show j=j / 5*5 by omega,c0]at hj;rw[hm,<- Option.some.inj hj];exact hc 0 _ rfl
 ·rw[show j=j / 5*5+1 by omega,c1]at hj;rw[hm,<- Option.some.inj hj];exact hc 1 _ rfl
 ·rw[show j=j / 5*5+2 by omega,c2]at hj;rw[hm,<- Option.some.inj hj];exact hc 2 _ rfl
 ·rw[show j=j / 5*5+3 by omega,c3]at hj;rw[hm,<- Option.some.inj hj];exact hc 3 _ rfl
 ·rw[show j=j / 5*5+4 by omega,c4]at hj;rw[hm,<- Option.some.inj hj];exact hc 4 _ rfl
def aS(d:Dv):List Rl:=d.rules.map λr=>⟨r.ok,r.a,r.b,r.c,r.d,r.ha,r.hb,r.hc,r.hd⟩
def fq(d:Dv):List Rt:=d.routes.map rtOf
theorem nj{bs:List Int}{ad:Int}:∀(m k:Nat),bs.length-k<=m->bg bs ad k≠1->∀j x,k<=j->bs[j]?=some x->0<=x /\ x<16
 | 0,k,h,_,j,x,hj,hx=>by
   have:=(List.getElem?_eq_some_iff.1 hx).1;omega
 | m+1,k,h,h0,j,x,hj,hx=>by
   have hjl:=(List.getElem?_eq_some_iff.1 hx).1;have hk:k<bs.length:=by omega
   rw[ia (List.getElem?_eq_getElem hk)]at h0
   split at h0
   ·rename_i hc
    by_cases e:j=k
    ·subst e;rw[List.getElem?_eq_getElem hk]at hx;obtain rfl:=Option.some.inj hx;simp only[Bool.and_eq_true,decide_eq_true_eq]at hc;omega
    ·exact nj m (k+1) (by omega) h0 j x (by omega) hx
   ·exact absurd rfl h0
theorem fU{d:Dv}(h:aE d=0):(1<=d.kind /\ d.kind<=5) /\ (0<=d.addr /\ d.addr<16) /\ (∀x∈d.backs,0<=x /\ x<16) /\ d.rules.length<=8 /\ checkV (fq d)=0:=by
 unfold aE dw at h
 split at h
 ·simp at h
 rename_i h1
 split at h
 ·simp at h
 rename_i h2
 split at h
 ·simp at h
 split at h
 ·simp at h
 split at h
 ·simp at h
 rename_i h5
 split at h
 ·simp at h
 split at h
 ·simp at h
 rename_i h8
 refine⟨?_,?_,λx hx=>?_,by omega,h⟩
 ·simp at h1;omega
 ·cases hk:hasAddr d.kind
  ·rw[hk]at h2;simp at h2;omega
  ·rw[hk]at h2;simp at h2;omega
 ·obtain⟨j,hj,e⟩:=List.mem_iff_getElem.1 hx;exact nj d.backs.length 0 (by omega) h5 j x (Nat.zero_le _) (by rw[List.getElem?_eq_getElem hj,e])
theorem nk(z:Nat):∃zc:Nat,zc<65536 /\ Go.bits .andNot .u16 65535 (z:Int)=(zc:Int) /\ ∀i,i<16->zc.testBit i=!z.testBit i:=by
 have e1:BitVec.ofInt 16 (z:Int)=BitVec.ofNat 16 z:=by simp
 refine⟨(BitVec.ofNat 16 65535 &&& ~~~ BitVec.ofNat 16 z).toNat,BitVec.isLt _,?_,λi hi=>?_⟩
 ·show IntKind.u16.wrap (((BitVec.ofInt 16 65535 &&& ~~~ BitVec.ofInt 16 (z:Int)).toNat:Nat):Int)=_;have hlt:=(BitVec.ofInt 16 65535 &&& ~~~ BitVec.ofInt 16 (z:Int)).isLt;rw[IntWalk.u16_in _ ⟨by omega,by omega⟩,e1];rfl
 ·rw[BitVec.testBit_toNat,BitVec.getLsbD_and,BitVec.getLsbD_not,show BitVec.ofNat 16 65535=BitVec.allOnes 16 by decide,BitVec.getLsbD_allOnes,BitVec.getLsbD_ofNat];simp[hi]
noncomputable def ft (z:Nat):Nat:=(nk z).choose
theorem iS(z:Nat):ft z<65536 /\ Go.bits .andNot .u16 65535 (z:Int)=(ft z:Int) /\ ∀i,i<16->(ft z).testBit i=!z.testBit i:=(nk z).choose_spec
noncomputable def aI (d:Dv)(pt:Int)(φ0 φ1 φ2 φ3:Env->Bool):Env->Bool :=
 if d.kind=2 then(λx=>(λx=>orP φ0 φ1 φ2 φ3 4 x&&phi 65535 (cZ (fq d) pt 16) 255 255 x) x&&ao (aS d) x)
 else if d.kind=3 then(if pt=1 then(λx=>φ0 x&&ao (aS d) x)else(λx=>φ1 x&&flF (λx=>φ0 x&&ao (aS d) x) x))
 else if d.kind=4 then(if pt=1 then(λx=>anF (anF φ0 8 3) 0 4 x&&(phi (setL [d.addr] 0) 65535 d.pool 255) x)else(λx=>anF (anF (λx=>φ1 x&&(phi 65535 (setL [d.addr] 0) 255 d.pool) x) 11 3) 4 4 x&&flF (anF (anF φ0 11 3) 4 4) x))
 else if d.kind=5 then(if pt=1 then(λx=>(λx=>φ0 x&&phi 65535 (ft (setL [d.addr] 0)) 255 255 x) x||(λx=>anF (λx=>φ0 x&&(phi 65535 (setL [d.addr] 0) 255 255) x) 4 4 x&&(phi 65535 (setL d.backs 0) 255 255) x) x)
  else(λx=>φ1 x||(λx=>anF (λx=>φ1 x&&(λx=>(phi (setL d.backs 0) 65535 255 255) x&&flF (anF (λx=>φ0 x&&(phi 65535 (setL [d.addr] 0) 255 255) x) 4 4) x) x) 0 4 x&&(phi (setL [d.addr] 0) 65535 255 255) x) x))
 else(λ_=>false)
section
variable {a9 q a M:Nat}{w0 w:World}{ns:List Nd}{er:Int}
theorem kr:2 ^ cnS (λ_=>true) 14 0-1<=16383:=by
 have:=fL (S:=λ_=>true) (a8:=14) 0;have:=Nat.pow_le_pow_right (n:=2) (by omega) this;omega
theorem cm{φ ψ:Env->Bool}:bH a9 q a M w0 φ ψ 16383:=λ_ _ _ _ _ h hf hg=>(qm (λ_=>true) h hf hg (λ_=>⟨DepS.all _,DepS.all _⟩)).mono λ_ _ B=>B.more kr
theorem iT{φ ψ:Env->Bool}:OrB a9 q a M w0 φ ψ 16383:=λ_ _ _ _ _ h hf hg=>(or_b (λ_=>true) h hf hg (λ_=>⟨DepS.all _,DepS.all _⟩)).mono λ_ _ B=>B.more kr
theorem nq{φ:Env->Bool}:AnB 164 a9 q a M w0 φ (anF φ 0 4) (4*16383):=λ_ _ _ _ h hf=>As h hf
theorem iU{φ:Env->Bool}:AnB 167 a9 q a M w0 φ (anF φ 4 4) (4*16383):=λ_ _ _ _ h hf=>Au h hf
theorem uw{φ:Env->Bool}:AnB 165 a9 q a M w0 φ (anF φ 8 3) (3*16383):=λ_ _ _ _ h hf=>Av h hf
theorem nu{φ:Env->Bool}:AnB 168 a9 q a M w0 φ (anF φ 11 3) (3*16383):=λ_ _ _ _ h hf=>Aw h hf
theorem ux(h:Bn a9 q a M w0 w ns er)(d:Dv)(hd:aE d=0){Ab A At:Option Addr}{nb cb n cap nt ct:Nat}(hb:SlAt a9 w0 1 IsI (.slice Ab nb cb) d.backs)(hr:SlAt a9 w0 5 aY (.slice A n cap) d.rules)(ht:SlAt a9 w0 3 br (.slice At nt ct) d.routes)(pt:Int){f0 f1 f2 f3:Nat}{φ0 φ1 φ2 φ3:Env->Bool}(hf0:Fn ns er f0 φ0)(hf1:Fn ns er f1 φ1)(hf2:Fn ns er f2 φ2)(hf3:Fn ns er f3 φ3) :
  Cl 107 #[.pointer q,.agg #[.string d.name,d.kind,d.addr,.int .u8 (d.pool:Int),.slice Ab nb cb,.slice A n cap,.slice At nt ct],pt,.agg #[(f0:Int),(f1:Int),(f2:Int),(f3:Int)]] w (BOut a9 q a M w0 w ns er 1000000 (aI d pt φ0 φ1 φ2 φ3)):=by
 obtain⟨⟨k1,k5⟩,⟨a0,a16⟩,hbs,r8,hck⟩:=fU hd;have RB:fP a9 q a M w0 (.slice A n cap) 40000 (ao (aS d)):=Bh (ni hr) (by unfold aS;rw[List.length_map];exact r8);have TB:RtB a9 q a M w0 (.slice At nt ct) pt 44 (phi 65535 (cZ (fq d) pt 16) 255 255):=λw ns er b=>tJ b At nt ct (fq d) pt (((kD ht).below b.bel).mono b.size) hck;have hkd:d.kind=1\/d.kind=2\/d.kind=3\/d.kind=4\/d.kind=5:=by omega
 unfold aI;rcases hkd with hk|hk|hk|hk|hk
 ·rw[hk,if_neg (by omega),if_neg (by omega),if_neg (by omega),if_neg (by omega)];exact(send_host h).mono λ_ _ B=>B.more (by omega)
 ·rw[hk,if_pos rfl];refine(Bm h (g:=4*16383+44+16383+40000+16383) λW b=>?_).mono λ_ _ B=>B.more (by omega);exact Bl b (λk φ _=>iT) TB cm RB cm hf0 hf1 hf2 hf3
 ·rw[hk,if_neg (by omega),if_pos rfl];by_cases hp:pt=1
  ·rw[if_pos hp];exact(send_ask h hp λW b=>lT b RB cm hf0).mono λ_ _ B=>B.more (by omega)
  ·rw[if_neg hp];exact(send_answer h hp λW b=>answer_b b RB cm lS cm hf0 hf1).mono λ_ _ B=>B.more (by omega)
 ·rw[hk,if_neg (by omega),if_neg (by omega),if_pos rfl];by_cases hp:pt=1
  ·rw[if_pos hp];exact(send_hide h hp λW b=>hide_b b a0 a16 rfl d.hp uw nq cm hf0).mono λ_ _ B=>B.more (by omega)
  ·rw[if_neg hp];exact(send_unhide h hp λW b=>tA b a0 a16 rfl d.hp cm nu iU lS nu iU cm hf0 hf1).mono λ_ _ B=>B.more (by omega)
 ·rw[hk,if_neg (by omega),if_neg (by omega),if_neg (by omega),if_pos rfl];by_cases hp:pt=1
  ·rw[if_pos hp];exact(send_spread h hp λW b=>tB b a0 a16 ⟨(iS _).1,(iS _).2.1⟩ hb hbs cm iU cm cm iT hf0).mono λ_ _ B=>B.more (by omega)
  ·rw[if_neg hp];exact(send_gather h hp λW b=>tC b a0 a16 hb hbs cm iU lS cm cm nq cm iT hf0 hf1).mono λ_ _ B=>B.more (by omega)
end
theorem bQ:prog.underlying 89=some (.array 10 87):=by kernel_rfl
theorem db:(prog.info? 89).map (·.size)=some 40:=by kernel_rfl
theorem fw{c:Array Value}(h:c.size=40):(prog.info? 89).map (·.size)=some c.size:=by rw[h];exact db
abbrev zeros40:Array Value:=#[.int .i64 0,.int .i64 0,.int .i64 0,.int .i64 0,.int .i64 0,.int .i64 0,.int .i64 0,.int .i64 0,.int .i64 0,.int .i64 0,.int .i64 0,.int .i64 0,.int .i64 0,.int .i64 0,.int .i64 0,.int .i64 0,.int .i64 0,.int .i64 0,.int .i64 0,.int .i64 0,.int .i64 0,.int .i64 0,.int .i64 0,.int .i64 0,.int .i64 0,.int .i64 0,.int .i64 0,.int .i64 0,.int .i64 0,.int .i64 0,.int .i64 0,.int .i64 0,.int .i64 0,.int .i64 0,.int .i64 0,.int .i64 0,.int .i64 0,.int .i64 0,.int .i64 0,.int .i64 0]
section
variable {bR R MR a7:Nat}{nsR:List Nd}{w:World}
theorem widen_any(hR:Ar bR R MR 14 a7 w nsR)(d:Dv)(hd:aE d=0){Ab A At:Option Addr}{nb cb n cap nt ct:Nat}(hb:SlAt w w 1 IsI (.slice Ab nb cb) d.backs)(hr:SlAt w w 5 aY (.slice A n cap) d.rules)(ht:SlAt w w 3 br (.slice At nt ct) d.routes)(pt:Int){set f0 f1 f2 f3:Nat}(hs:set<nsR.length)(l0:f0<nsR.length)(l1:f1<nsR.length)(l2:f2<nsR.length)(l3:f3<nsR.length) :
  Cl 63 #[.pointer R,(set:Int),.agg #[.string d.name,d.kind,d.addr,.int .u8 (d.pool:Int),.slice Ab nb cb,.slice A n cap,.slice At nt ct],pt,.agg #[(f0:Int),(f1:Int),(f2:Int),(f3:Int)]] w λe w'=>∃(ns':List Nd) (v er:Int),e=.returned (.tuple #[v,er]) /\ Ar bR R MR 14 a7 w' ns' /\ Kp (ca bR R MR 14 a7) w w' /\ Ext nsR ns' /\ Hid ((er=0 /\ ∃f:Nat,v=(f:Int) /\ f<ns'.length /\ ∀x,ev ns' f x=(ev nsR set x||aI d pt (ev nsR f0) (ev nsR f1) (ev nsR f2) (ev nsR f3) x))\/(er=6 /\ v=0)):=by
 refine(mC hR (λ_=>true) (λ_=>true) hs l0 l1 l2 l3 (DepS.all _) (DepS.all _) (DepS.all _) (DepS.all _) (DepS.all _) (DepS.all _) (gS:=1000000) (gO:=16383) (ψ:=aI d pt (ev nsR f0) (ev nsR f1) (ev nsR f2) (ev nsR f3)) (λa9 q a M w0 W ns er i0 i1 i2 i3 hbl hle b m0 m1 m2 m3=>?_) (λ_ _ _ _ _=>iT)).mono λe w' ⟨ns',v,er,h1,h2,h3,h4,_,h6⟩=>⟨ns',v,er,h1,h2,h3,h4,?_⟩
 ·exact ux b d hd (SlAt.mono (SlAt.below hb hbl (λ_ _ _ h=>h)) hle (λ_ _ _ h=>h)) (SlAt.mono (SlAt.below hr hbl (λ_ _ _ h=>h)) hle (λ_ _ _ h=>h)) (SlAt.mono (SlAt.below ht hbl (λ_ _ _ h=>h)) hle (λ_ _ _ h=>h)) pt m0 m1 m2 m3
 ·rcases h6.out with h|⟨a,b,_⟩
  ·exact Or.inl h
  ·exact Or.inr ⟨a,b⟩
end
def gV(gW:Nat)(E:Prop)(d:Dv)(pt:Int)(χ φ0 φ1 φ2 φ3:Env->Bool):Prop :=
 ∀(bR R MR a7:Nat) (nsR:List Nd) (w:World),Ar bR R MR 14 a7 w nsR->∀(Ab A At:Option Addr) (nb cb n cap nt ct:Nat),SlAt w w 1 IsI (.slice Ab nb cb) d.backs->SlAt w w 5 aY (.slice A n cap) d.rules->SlAt w w 3 br (.slice At nt ct) d.routes->∀(set f0 f1 f2 f3:Nat),set<nsR.length->f0<nsR.length->f1<nsR.length->f2<nsR.length->f3<nsR.length ->
   ev nsR set=χ->ev nsR f0=φ0->ev nsR f1=φ1->ev nsR f2=φ2->ev nsR f3=φ3 ->
   Cl 63 #[.pointer R,(set:Int),.agg #[.string d.name,d.kind,d.addr,.int .u8 (d.pool:Int),.slice Ab nb cb,.slice A n cap,.slice At nt ct],pt,.agg #[(f0:Int),(f1:Int),(f2:Int),(f3:Int)]] w λe w'=>∃(ns':List Nd) (v er:Int),e=.returned (.tuple #[v,er]) /\ Ar bR R MR 14 a7 w' ns' /\ Kp (ca bR R MR 14 a7) w w' /\ Ext nsR ns' /\ ns'.length<=nsR.length+gW /\ Hid ((er=0 /\ ∃f:Nat,v=(f:Int) /\ f<ns'.length /\ ∀x,ev ns' f x=(χ x||aI d pt φ0 φ1 φ2 φ3 x))\/(er=6 /\ v=0 /\ (E\/a7<=nsR.length+gW)))
theorem uy{d:Dv}(hd:aE d=0)(pt:Int)(χ φ0 φ1 φ2 φ3:Env->Bool):gV 40000 True d pt χ φ0 φ1 φ2 φ3:=by
 intro bR R MR a7 nsR w hR Ab A At nb cb n cap nt ct hb hr ht set f0 f1 f2 f3 hs l0 l1 l2 l3 e0 e1 e2 e3 e4;subst e0 e1 e2 e3 e4;refine(widen_any hR d hd hb hr ht pt hs l0 l1 l2 l3).mono λe w' ⟨ns',v,er,h1,h2,h3,h4,h5⟩=>⟨ns',v,er,h1,h2,h3,h4,?_,?_⟩
 ·have:=h2.le;have:=h2.most4;omega
 ·rcases h5.out with h|⟨h,h'⟩
  ·exact Or.inl h
  ·exact Or.inr ⟨h,h',Or.inl trivial⟩
theorem gX{a a' b g n:Nat}(h:a<=b+g*n)(h':a'<=a+g):a'<=b+g*(n+1):=by rw[Nat.mul_succ];omega
theorem fV{a b g n m:Nat}(h:a<=b+g*n)(hn:n<=m):a<=b+g*m:=by
 have:=Nat.mul_le_mul_left g hn;omega
structure Gs(bR R MR a7:Nat)(nsR:List Nd)(w:World)(u0 u1:Value)(cw cn nx:Array Value)(ns:List Nd)(W:World):Prop where
 ar:Ar bR R MR 14 a7 W ns
 ext:Ext nsR ns
 kp:Kp (ca bR R MR 14 a7) w W
 bN:Bz W w.heap.size #[u0,u1] 25
 bw:Bz W (w.heap.size+1) cw 89
 bo:Bz W (w.heap.size+1+1) cn 89
 bz:Bz W (w.heap.size+1+1+1) zeros40 89
 bx:Bz W (w.heap.size+1+1+1+1) nx 89
section
variable {bR R MR a7:Nat}{nsR ns ns':List Nd}{w W W':World}{u0 u1:Value}{cw cn nx:Array Value}
theorem Gs.below(h:Gs bR R MR a7 nsR w u0 u1 cw cn nx ns W)(hb:Below W W W'):Gs bR R MR a7 nsR w u0 u1 cw cn nx ns W' :=
 ⟨h.ar.below hb,h.ext,h.kp.trans (h.ar.kbelow hb),(hb.block _ h.bN.lt).trans h.bN,(hb.block _ h.bw.lt).trans h.bw,(hb.block _ h.bo.lt).trans h.bo,(hb.block _ h.bz.lt).trans h.bz,(hb.block _ h.bx.lt).trans h.bx⟩
theorem Gs.tf(h:Gs bR R MR a7 nsR w u0 u1 cw cn nx ns W)(k:Kp (ca bR R MR 14 a7) W W'){i:Nat}{c:Array Value}{t:TypeId}(hb:Bz W i c t)(ht:okT t):Bz W' i c t:=((h.ar.outBox hb ht.1 ht.2.1).kp k).blk
theorem Gs.step(h:Gs bR R MR a7 nsR w u0 u1 cw cn nx ns W)(A':Ar bR R MR 14 a7 W' ns')(k:Kp (ca bR R MR 14 a7) W W')(X:Ext ns ns'):Gs bR R MR a7 nsR w u0 u1 cw cn nx ns' W' :=
 ⟨A',h.ext.trans X,h.kp.trans k,h.tf k h.bN (by decide),h.tf k h.bw (by decide),h.tf k h.bo (by decide),h.tf k h.bz (by decide),h.tf k h.bx (by decide)⟩
theorem Gs.setx(h:Gs bR R MR a7 nsR w u0 u1 cw cn nx ns W)(j:Nat)(u:Value):Gs bR R MR a7 nsR w u0 u1 cw cn (nx.setIfInBounds j u) ns (W.setCell ⟨w.heap.size+1+1+1+1,j,none⟩ u):=by
 have hF:∀i,i≠w.heap.size+1+1+1+1->(W.setCell ⟨w.heap.size+1+1+1+1,j,none⟩ u).heap[i]?=W.heap[i]?:=λi hi=>Below.heap_setCell W ⟨w.heap.size+1+1+1+1,j,none⟩ u i hi;have L:=(h.ar.outBox h.bx (by decide) (by decide)).out;have n1:R≠w.heap.size+1+1+1+1:=λe=>L.not (Or.inl e.symm);have n2:MR≠w.heap.size+1+1+1+1:=λe=>L.not (Or.inr (Or.inr (Or.inl e.symm)));have n3:rowOf W R≠w.heap.size+1+1+1+1:=λe=>L.ne e.symm;have er:rowOf (W.setCell ⟨w.heap.size+1+1+1+1,j,none⟩ u) R=rowOf W R:=aQ (hF R n1);refine⟨h.ar.same (hF _ n1) (hF _ n2) (hF _ n3),h.ext,⟨h.kp.os,h.kp.tape,h.kp.output,by simp[World.setCell];exact h.kp.size,λi hi hm hr=>(hF i (by omega)).trans (h.kp.blk i hi hm hr),?_,λk hk=>?_⟩,(hF _ (by omega)).trans h.bN,(hF _ (by omega)).trans h.bw,(hF _ (by omega)).trans h.bo,(hF _ (by omega)).trans h.bz,h.bx.set (j:=j) u⟩
 ·rw[show rowOf (W.setCell ⟨w.heap.size+1+1+1+1,j,none⟩ u) (ca bR R MR 14 a7).a=rowOf W (ca bR R MR 14 a7).a from er];exact h.kp.row
 ·rw[<- h.kp.post k hk];exact bJ (hF R n1)
end
def fA(ds:List Dv)(ls:List Lk)(skip:Nat->Prop)(F:Nat->Nat->Env->Bool)(i q:Nat)(t:Int × Int)(x:Env):Prop :=
 ∃(i' q':Nat) (d:Dv),(i'<i\/(i'=i /\ q'<q)) /\ ¬skip i' /\ ds[i']?=some d /\ (q':Int)<portsV d.kind /\ peerF ls i' q'=some t /\ aI d q' (F i' 0) (F i' 1) (F i' 2) (F i' 3) x=true
structure GInv(ds:List Dv)(ls:List Lk)(skip:Nat->Prop)(F:Nat->Nat->Env->Bool)(i q:Nat)(ns:List Nd)(sx:Nat->Nat->Nat):Prop where
 lt:∀a b,a<10->b<4->sx a b<ns.length
 fn:∀a b,a<10->b<4->∀x,(ev ns (sx a b) x=true ↔ F a b x=true\/fA ds ls skip F i q ((a:Int),(b:Int)) x)
section
variable {ds:List Dv}{ls:List Lk}{skip:Nat->Prop}{F:Nat->Nat->Env->Bool}{i q:Nat}{ns ns':List Nd}{sx:Nat->Nat->Nat}
theorem ks{i' q':Nat}(h:GInv ds ls skip F i q ns sx)(hs:∀t x,fA ds ls skip F i q t x ↔ fA ds ls skip F i' q' t x):GInv ds ls skip F i' q' ns sx:=⟨h.lt,λa b ha hb x=>(h.fn a b ha hb x).trans (or_congr Iff.rfl (hs _ x))⟩
theorem uz(hl:∀a b,a<10->b<4->sx a b<ns.length)(hF:∀a b,a<10->b<4->ev ns (sx a b)=F a b):GInv ds ls skip F 0 0 ns sx:=⟨hl,λa b ha hb x=>by
 rw[hF a b ha hb];refine⟨Or.inl,λh=>h.resolve_right λ⟨i',q',d,h1,_⟩=>by omega⟩⟩
theorem uA(h:GInv ds ls skip F i 0 ns sx)(hs:skip i):GInv ds ls skip F (i+1) 0 ns sx:=ks h λt x=>by
 constructor
 ·rintro⟨i',q',d,h1,h2⟩;exact⟨i',q',d,by omega,h2⟩
 ·rintro⟨i',q',d,h1,h2,h3⟩;have hne:i'≠i:=λe=>h2 (e ▸ hs);exact⟨i',q',d,by omega,h2,h3⟩
theorem uB(h:GInv ds ls skip F i q ns sx){d:Dv}(hd:ds[i]?=some d)(hq:portsV d.kind<=(q:Int)):GInv ds ls skip F (i+1) 0 ns sx:=ks h λt x=>by
 constructor
 ·rintro⟨i',q',d,h1,h2⟩;exact⟨i',q',d,by omega,h2⟩
 ·rintro⟨i',q',d',h1,h2,h3,h4,h5⟩;refine⟨i',q',d',?_,h2,h3,h4,h5⟩;by_cases e:i'=i
  ·subst e;rw[hd]at h3;obtain rfl:=Option.some.inj h3;omega
  ·omega
theorem uC(h:GInv ds ls skip F i q ns sx)(hp:peerF ls i q=none):GInv ds ls skip F i (q+1) ns sx:=ks h λt x=>by
 constructor
 ·rintro⟨i',q',d,h1,h2⟩;exact⟨i',q',d,by omega,h2⟩
 ·rintro⟨i',q',d',h1,h2,h3,h4,h5,h6⟩;refine⟨i',q',d',?_,h2,h3,h4,h5,h6⟩;by_cases e:i'=i /\ q'=q
  ·obtain⟨rfl,rfl⟩:=e;rw[hp]at h5;cases h5
  ·omega
def dE(sx:Nat->Nat->Nat)(a b f:Nat):Nat->Nat->Nat:=λx y=>if x=a /\ y=b then f else sx x y
theorem uD(h:GInv ds ls skip F i q ns sx)(hA:Apart ls)(hW:Wf 14 ns)(hW':Wf 14 ns')(X:Ext ns ns'){d:Dv}(hd:ds[i]?=some d)(hq:(q:Int)<portsV d.kind)(hs:¬skip i){a b f:Nat}(hp:peerF ls i q=some ((a:Int),(b:Int)))(hf:f<ns'.length)(hv:∀x,ev ns' f x=(F a b x||aI d q (F i 0) (F i 1) (F i 2) (F i 3) x)):GInv ds ls skip F i (q+1) ns' (dE sx a b f):=by
 have hlen:=X.len;refine⟨λx y hx hy=>?_,λx y hx hy e=>?_⟩
 ·unfold dE
  split
  ·exact hf
  ·have:=h.lt x y hx hy;omega
 ·unfold dE
  split
  ·rename_i hxy
   obtain⟨rfl,rfl⟩:=hxy;rw[hv e,Bool.or_eq_true];refine or_congr Iff.rfl ⟨λhse=>⟨i,q,d,by omega,hs,hd,hq,hp,hse⟩,?_⟩;rintro⟨i',q',d',_,_,h3,_,h5,h6⟩;have e1:=dK hA hp;have e2:=dK hA h5;rw[e1]at e2;simp only[Option.some.injEq,Prod.mk.injEq]at e2;obtain⟨e3,e4⟩:=e2;obtain rfl:i=i':=by omega
   obtain rfl:q=q':=by omega
   rw[hd]at h3;obtain rfl:=Option.some.inj h3;exact h6
  ·rename_i hxy
   rw[X.ev hW hW' _ (h.lt x y hx hy),h.fn x y hx hy e];refine or_congr Iff.rfl ⟨?_,?_⟩
   ·rintro⟨i',q',d,h1,h2⟩;exact⟨i',q',d,by omega,h2⟩
   ·rintro⟨i',q',d',h1,h2,h3,h4,h5,h6⟩;refine⟨i',q',d',?_,h2,h3,h4,h5,h6⟩;by_cases e:i'=i /\ q'=q
    ·obtain⟨rfl,rfl⟩:=e;rw[hp]at h5;simp only[Option.some.injEq,Prod.mk.injEq]at h5;exact absurd ⟨by omega,by omega⟩ hxy
    ·omega
theorem SetsV.upd{c:Array Value}(h:SetsV c sx){a b f:Nat}(ha:a<10)(hb:b<4):SetsV (c.setIfInBounds (a*4+b) (.int .i64 (f:Int))) (dE sx a b f):=by
 refine⟨by rw[Array.size_setIfInBounds];exact h.1,λx y hx hy=>?_⟩;rw[Array.getElem?_setIfInBounds];unfold dE;by_cases e:x=a /\ y=b
 ·obtain⟨rfl,rfl⟩:=e;rw[if_pos rfl,if_pos (by have:=h.1;omega),if_pos ⟨rfl,rfl⟩]
 ·rw[if_neg (by omega),if_neg e];exact h.2 x y hx hy
end
section
variable {bR R MR a7:Nat}{nsR:List Nd}{w:World}
def GOut(gW:Nat)(E:Prop)(w:World)(bR R MR a7:Nat)(nsR:List Nd)(ds:List Dv)(ls:List Lk)(skip:Nat->Prop)(F:Nat->Nat->Env->Bool)(e:Ending)(w':World):Prop :=
 ∃(cx:Array Value) (er:Int) (ns:List Nd),e=.returned (.tuple #[.agg cx,er]) /\ cx.size=40 /\ Ar bR R MR 14 a7 w' ns /\ Kp (ca bR R MR 14 a7) w w' /\ Ext nsR ns /\ (∀i c t,Bz w i c t->okT t->Bz w' i c t) /\ ns.length<=nsR.length+gW*(4*ds.length) /\
   Hid ((er=0 /\ ∃sx,SetsV cx sx /\ GInv ds ls skip F ds.length 0 ns sx)\/(er=6 /\ cx=zeros40 /\ (E\/a7<=nsR.length+gW*(4*ds.length))))
theorem fW{ds:List Dv}{ls:List Lk}(hz:netV ds ls=0){i q:Int}{t:Int × Int}(h:peerF ls i q=some t):∃a b:Nat,t=((a:Int),(b:Int)) /\ a<10 /\ b<4:=by
 obtain⟨l,hl,he⟩:=fC h;obtain⟨h10,_,_,hp⟩:=bi hz;have hpl:isPl ds t.1 t.2=true:=by
  rcases dJ he with⟨_,rfl⟩|⟨_,rfl⟩
  ·exact(hp l hl).2
  ·exact(hp l hl).1
 unfold isPl at hpl;simp only[Bool.and_eq_true,decide_eq_true_eq]at hpl;have hb:portsV (aW ds t.1)<=4:=by
  unfold portsV
  split
  ·omega
  split
  ·omega
  split <;> omega
 exact⟨t.1.toNat,t.2.toNat,Prod.ext (by simp;omega) (by simp;omega),by omega,by omega⟩
theorem nw{c:Array Value}{p:Value->Bool}(h:c.all p=true)(j:Nat){u:Value}(hu:p u=true):(c.setIfInBounds j u).all p=true:=by
 rw[Array.all_eq_true_iff_forall_mem]at h ⊢;intro x hx;rcases Array.mem_or_eq_of_mem_setIfInBounds hx with h'|h'
 ·exact h x h'
 ·rw[h'];exact hu
theorem zeros_one:zeros40.all (·.oneCell')=true:=by
 first
  | decide
  | kernel_rfl
  | simp[zeros40,Value.oneCell']
theorem setRow_heap'(W:World)(g:Nat)(c c':Array Value)(t:TypeId)(h:Bz W g c t)(i:Nat):(W.setRow g c').heap[i]?=if g=i then some (.cells c' t (0,0))else W.heap[i]?:=by
 simp only[World.setRow];rw[Array.getElem?_modify];by_cases e:g=i
 ·subst e;unfold Bz at h;rw[if_pos rfl,if_pos rfl,h];rfl
 ·rw[if_neg e,if_neg e]
theorem ny{W:World}{g:Nat}{c:Array Value}{t:TypeId}(h:Bz W g c t):W.setRow g c=W:=by
 have e:(W.setRow g c).heap=W.heap:=by
  apply Array.ext_getElem?;intro i;rw[setRow_heap' W g c c t h i]
  split
  ·rename_i e
   subst e;exact h.symm
  ·rfl
 simp only[World.setRow]at e ⊢;rw[e]
theorem ports_eq(a0 a1 a2 a3 b0 b1 b2 b3:Int)(w:World):(binOp .eql 87 (.agg #[a0,a1,a2,a3]) (.agg #[b0,b1,b2,b3])).run prog w=.ok (.bool ((a0 == b0)&&((a1 == b1)&&((a2 == b2)&&(a3 == b3))))) w:=by
 obtain⟨i,hi⟩:∃i,prog.info? 3=some i:=by
  have h:(prog.info? 3).isSome=true:=by kernel_rfl
  exact Option.isSome_iff_exists.1 h
 have nI:prog.cellsOf 3=1:=by kernel_rfl
 rw[run_eql_struct,show(10000:Nat)=9998+1+1 from rfl,run_equalIn_array w (9998+1) _ _ underlying87 hi,nI,show List.range 4=[0,1,2,3]from rfl];have p0:∀(x0 x1 x2 x3:Int) (w:World),(part 3 #[x0,x1,x2,x3] (0*1)).run prog w=.ok (.int .i64 x0) w:=λ_ _ _ _ _=>by kernel_rfl
 have p1:∀(x0 x1 x2 x3:Int) (w:World),(part 3 #[x0,x1,x2,x3] 1).run prog w=.ok (.int .i64 x1) w:=λ_ _ _ _ _=>by kernel_rfl
 have p2:∀(x0 x1 x2 x3:Int) (w:World),(part 3 #[x0,x1,x2,x3] 2).run prog w=.ok (.int .i64 x2) w:=λ_ _ _ _ _=>by kernel_rfl
 have p3:∀(x0 x1 x2 x3:Int) (w:World),(part 3 #[x0,x1,x2,x3] 3).run prog w=.ok (.int .i64 x3) w:=λ_ _ _ _ _=>by kernel_rfl
 have q:∀(x y:Int) (w:World),(Op.equalIn 9999 3 (.int .i64 x) (.int .i64 y)).run prog w=.ok (x == y) w:=λx y w=>run_equalIn_int w 9998 3 .i64 .i64 x y underlying3;simp only[Op.eqItems,Sem.run_bind,p0,Result.andThen_ok,q];cases h1:(a0 == b0) <;> cases h2:(a1 == b1) <;> cases h3:(a2 == b2) <;> cases h4:(a3 == b3) <;> simp[p1,p2,p3,q,h2,h3,h4]
end
section
variable {bR R MR a7:Nat}{nsR:List Nd}{w:World}
theorem uE(k:Int):0<=portsV k /\ portsV k<=4:=by
 unfold portsV
 split
 ·omega
 split
 ·omega
 split <;> omega
theorem uF(hR:Ar bR R MR 14 a7 w nsR)(A B:Option Addr)(cap e9:Nat)(ds:List Dv)(ls:List Lk)(cw cn:Array Value)(sw sn:Nat->Nat->Nat)(hz:Hid (netV ds ls=0))(hdv:Hid (∀d∈ds,aE d=0))(hD:Hid (Devs bR w (.slice A ds.length cap) ds))(hL:Hid (Links bR w (.slice B ls.length e9) ls))(hw:Hid (SetsV cw sw))(hn:Hid (SetsV cn sn))(hl:Hid (∀a b,a<10->b<4->sn a b<nsR.length))(h1:Hid (cn.all (·.oneCell')=true))(gW:Nat)(E:Prop)(HWB:Hid (∀(i q a b:Nat) (d:Dv),ds[i]?=some d->a<10->b<4->peerF ls i q=some ((a:Int),(b:Int))->gV gW E d (q:Int) (ev nsR (sn a b)) (ev nsR (sn i 0)) (ev nsR (sn i 1)) (ev nsR (sn i 2)) (ev nsR (sn i 3)))) :
  Cl 28 #[.pointer R,.agg #[.slice A ds.length cap,.slice B ls.length e9],.agg cw,.agg cn] w (GOut gW E w bR R MR a7 nsR ds ls (λi=>sn i 0=sw i 0 /\ sn i 1=sw i 1 /\ sn i 2=sw i 2 /\ sn i 3=sw i 3) (λa b=>ev nsR (sn a b))):=by
 have HI:Hid ((prog.info? 89).map (·.size)=some cn.size):=fw hn.out.1;have Z2:Hid (Bz ((((w.alloc (.cells #[.slice A ds.length cap,.slice B ls.length e9] 25)).alloc (.cells cw 89)).alloc (.cells cn 89)).alloc (.cells zeros40 89)) (w.heap.size+1+1) cn 89):=(Bz.new _ _ _ _ (by simp)).al _;have ZA:Hid (∀W:World,(W.alloc (.cells zeros40 89)).heap[W.heap.size]?=some (.cells zeros40 89 (0,0))):=λW=>Go.heap_alloc_new W _;have HS:Hid (zeros40.size=cn.size):=by show _=_;rw[hn.out.1];rfl
 have D4:Below w w ((((w.alloc (.cells #[.slice A ds.length cap,.slice B ls.length e9] 25)).alloc (.cells cw 89)).alloc (.cells cn 89)).alloc (.cells zeros40 89)):=(((Below.refl _ w).alloc (Nat.le_refl _) _).alloc (by simp) _ |>.alloc (by simp;omega) _).alloc (by simp;omega) _;have G4:Gs bR R MR a7 nsR w (.slice A ds.length cap) (.slice B ls.length e9) cw cn cn nsR (((((w.alloc (.cells #[.slice A ds.length cap,.slice B ls.length e9] 25)).alloc (.cells cw 89)).alloc (.cells cn 89)).alloc (.cells zeros40 89)).alloc (.cells cn 89)):=by
  have D5:Below w w (((((w.alloc (.cells #[.slice A ds.length cap,.slice B ls.length e9] 25)).alloc (.cells cw 89)).alloc (.cells cn 89)).alloc (.cells zeros40 89)).alloc (.cells cn 89)):=D4.alloc D4.size _;exact⟨hR.below D5,Ext.refl _,hR.kbelow D5,((((Bz.new w _ _ _ rfl).al _).al _).al _).al _,(((Bz.new (w.alloc _) _ _ _ (by simp)).al _).al _).al _,((Bz.new ((w.alloc _).alloc _) _ _ _ (by simp)).al _).al _,(Bz.new (((w.alloc _).alloc _).alloc _) _ _ _ (by simp)).al _,Bz.new ((((w.alloc _).alloc _).alloc _).alloc _) _ _ _ (by simp)⟩
 have I0:Hid (GInv ds ls (λi=>sn i 0=sw i 0 /\ sn i 1=sw i 1 /\ sn i 2=sw i 2 /\ sn i 3=sw i 3) (λa b=>ev nsR (sn a b)) 0 0 nsR sn):=uz hl.out (λ_ _ _ _=>rfl);obtain⟨V,hV⟩:∃V:Array Value->List Nd->World->Prop,V=λnx ns W=>Gs bR R MR a7 nsR w (.slice A ds.length cap) (.slice B ls.length e9) cw cn nx ns W:=⟨_,rfl⟩;have V4:V cn nsR (((((w.alloc (.cells #[.slice A ds.length cap,.slice B ls.length e9] 25)).alloc (.cells cw 89)).alloc (.cells cn 89)).alloc (.cells zeros40 89)).alloc (.cells cn 89)):=by rw[hV];exact G4
 have KP:∀{nx:Array Value} {ns:List Nd} {W W':World},Below W W W'->V nx ns W->V nx ns W':=λ{nx ns W W'} hb h=>by rw[hV]at h ⊢;exact h.below hb
 have CN:Hid (∀{nx:Array Value} {ns:List Nd} {W:World},V nx ns W->W.cell? ⟨w,0,none⟩=some (.slice A ds.length cap) /\ W.cell? ⟨w,1,none⟩=some (.slice B ls.length e9)):=λ{nx ns W} h=>by rw[hV]at h;exact⟨h.bN.cell 0 _ rfl,h.bN.cell 1 _ rfl⟩
 have CS:Hid (∀{nx:Array Value} {ns:List Nd} {W:World} (i j:Nat),i<10->j<4->V nx ns W->W.cell? ⟨w.heap.size+1+1,i*4+j,none⟩=some (.int .i64 (sn i j:Int)) /\ W.cell? ⟨w.heap.size+1,i*4+j,none⟩=some (.int .i64 (sw i j:Int))):=λ{nx ns W} i j hi hj h=>by rw[hV]at h;exact⟨h.bo.cell _ _ (hn.out.2 i j hi hj),h.bw.cell _ _ (hw.out.2 i j hi hj)⟩
 have DEV:Hid (∀{nx:Array Value} {ns:List Nd} {W:World} (k:Nat) (d:Dv),ds[k]?=some d->V nx ns W->∃b o Ab nb cb Ae nr cr At nt ct,A=some ⟨b,o,none⟩ /\ Hid (SlAt bR w 1 IsI (.slice Ab nb cb) d.backs /\ SlAt bR w 5 aY (.slice Ae nr cr) d.rules /\ SlAt bR w 3 br (.slice At nt ct) d.routes) /\ W.cell? ⟨b,o+k*7,none⟩=some (.string d.name) /\ W.cell? ⟨b,o+k*7+1,none⟩=some (.int .i64 d.kind) /\ W.cell? ⟨b,o+k*7+2,none⟩=some (.int .i64 d.addr) /\ W.cell? ⟨b,o+k*7+3,none⟩=some (.int .u8 (d.pool:Int)) /\ W.cell? ⟨b,o+k*7+4,none⟩=some (.slice Ab nb cb) /\ W.cell? ⟨b,o+k*7+5,none⟩=some (.slice Ae nr cr) /\ W.cell? ⟨b,o+k*7+6,none⟩=some (.slice At nt ct)):=λ{nx ns W} k d hk h=>by
  rw[hV]at h;obtain⟨b,o,vb,vr,vt,ea,hbb,s1,s2,s3,c0,c1,c2,c3,c4,c5,c6⟩:=hD.out.at hk;have hbl:=hR.kp_below h.kp;have up:∀{j:Nat} {v:Value},w.cell? ⟨b,j,none⟩=some v->W.cell? ⟨b,j,none⟩=some v:=λ{j v} hc=>(hbl.cell (p:=⟨b,j,none⟩) hbb).trans hc;obtain⟨Ab,cb,rfl,q1⟩:=id s1;obtain⟨Ae,cr,rfl,q2⟩:=id s2;obtain⟨At,ct,rfl,q3⟩:=id s3;exact⟨b,o,Ab,_,cb,Ae,_,cr,At,_,ct,ea,⟨s1,s2,s3⟩,up c0,up c1,up c2,up c3,up c4,up c5,up c6⟩
 have hd10:ds.length<=10:=(bi hz.out).1;obtain⟨_,hcap,hcm⟩:=hD.out.len;unfold maxLen at hcm;clear G4 D4;go_enter func28,ntmps28;go_upto_region 1 with fail;go_step;refine wpList_load_row rfl 89 _ rfl _ rfl _ cn (0,0) _ Z2.out bQ rfl HI.out ?_;simp only[Act.put,List.setIfInBounds_toArray,List.set_cons_zero,List.set_cons_succ];go_step;generalize hW3:((((w.alloc (.cells #[.slice A ds.length cap,.slice B ls.length e9] 25)).alloc (.cells cw 89)).alloc (.cells cn 89)).alloc (.cells zeros40 89))=W3 at *;go_step;go_step;go_step;refine wp_store_row 89 _ _ rfl _ cn rfl rfl _ _ (ZA.out W3) HI.out HS.out h1.out ?_;rw[World.setRow_alloc_new];have e3:W3.heap.size=w.heap.size+1+1+1+1:=by rw[<- hW3];simp
 rw[e3];clear hW3 e3 Z2;generalize W3.alloc (.cells cn 89)=W5 at *;obtain⟨n0,n1⟩:=CN.out V4;simp only[Act.put];clear ZA HS;go_wp2_with fail;go_loopw[22] (λi wr=>∃(k:Nat) (nx:Array Value) (ns:List Nd),i=.int .i64 (k:Int) /\ k<=ds.length /\ V nx ns wr /\ Hid (∃sx,SetsV nx sx /\ GInv ds ls (λi=>sn i 0=sw i 0 /\ sn i 1=sw i 1 /\ sn i 2=sw i 2 /\ sn i 3=sw i 3) (λa b=>ev nsR (sn a b)) k 0 ns sx /\ nx.all (·.oneCell')=true /\ ns.length<=nsR.length+gW*(k*4))) (λi _=>ds.length-(intOf i).toNat)
 case atStart=>exact⟨0,cn,nsR,rfl,by omega,V4,⟨sn,hn.out,I0.out,h1.out,Nat.le_add_right _ _⟩⟩
 case round =>
  clear V4 n0 n1 I0;obtain⟨k,nx,ns,rfl,hk,V1,J1⟩:=hrel;by_cases hlt:k<ds.length
  rotate_left
  ·have hke:k=ds.length:=by omega
   have GG:=V1;rw[hV]at GG;have BX:Hid (Bz wr (w.heap.size+1+1+1+1) nx 89):=GG.bx;have BZ:Hid (Bz wr (w.heap.size+1+1+1) zeros40 89):=GG.bz;have NX:Hid (nx.size=40 /\ nx.all (·.oneCell')=true):=by
    obtain⟨sx,q1,_,q3,_⟩:=J1.out;exact⟨q1.1,q3⟩
   have hF:∀i,i≠w.heap.size+1+1+1->(wr.setRow (w.heap.size+1+1+1) nx).heap[i]?=wr.heap[i]?:=λi hi=>by rw[setRow_heap' wr _ zeros40 nx _ GG.bz i,if_neg (λe=>hi e.symm)]
   have L:=(GG.ar.outBox GG.bz (by decide) (by decide)).out;have n1:R≠w.heap.size+1+1+1:=λe=>L.not (Or.inl e.symm);have n2:MR≠w.heap.size+1+1+1:=λe=>L.not (Or.inr (Or.inr (Or.inl e.symm)));have n3:rowOf wr R≠w.heap.size+1+1+1:=λe=>L.ne e.symm;have er:rowOf (wr.setRow (w.heap.size+1+1+1) nx) R=rowOf wr R:=aQ (hF R n1);have BR:Hid (Bz (wr.setRow (w.heap.size+1+1+1) nx) (w.heap.size+1+1+1) nx 89):=by
    show _=_;rw[setRow_heap' wr _ zeros40 nx _ GG.bz,if_pos rfl]
   have FF:Hid (GOut gW E w bR R MR a7 nsR ds ls (λi=>sn i 0=sw i 0 /\ sn i 1=sw i 1 /\ sn i 2=sw i 2 /\ sn i 3=sw i 3) (λa b=>ev nsR (sn a b)) (.returned (.tuple #[.agg nx,.int .i64 0])) (wr.setRow (w.heap.size+1+1+1) nx)):=by
    have kp2:Kp (ca bR R MR 14 a7) w (wr.setRow (w.heap.size+1+1+1) nx):=by
     refine⟨GG.kp.os,GG.kp.tape,GG.kp.output,by simp[World.setRow];exact GG.kp.size,λi hi hm hr=>(hF i (by omega)).trans (GG.kp.blk i hi hm hr),?_,λj hj=>?_⟩
     ·rw[show rowOf (wr.setRow (w.heap.size+1+1+1) nx) (ca bR R MR 14 a7).a=rowOf wr (ca bR R MR 14 a7).a from er];exact GG.kp.row
     ·rw[<- GG.kp.post j hj];exact bJ (hF R n1)
    refine⟨nx,0,ns,rfl,NX.out.1,GG.ar.same (hF _ n1) (hF _ n2) (hF _ n3),kp2,GG.ext,λi c t hb ht=>((hR.outBox hb ht.1 ht.2.1).kp kp2).blk,?_,Or.inl ⟨rfl,?_⟩⟩
    ·obtain⟨sx,_,_,_,q4⟩:=J1.out;exact fV q4 (by omega)
    ·obtain⟨sx,q1,q2,_⟩:=J1.out;rw[hke]at q2;exact⟨sx,q1,q2⟩
   have HN:Hid ((prog.info? 89).map (·.size)=some nx.size):=fw NX.out.1;have HZ:Hid (zeros40.size=nx.size):=by show _=_;rw[NX.out.1];rfl
   clear GG hF L n1 n2 n3 er hV KP CN CS DEV J1 hR hD hL hw hn hl hdv;go_upto_region 17 with fail;go_step;refine wpList_load_row rfl 89 _ rfl _ rfl _ nx (0,0) _ BX.out bQ rfl HN.out ?_;simp only[Act.put,List.setIfInBounds_toArray,List.set_cons_zero,List.set_cons_succ];go_step;refine wp_store_row 89 _ _ rfl _ nx rfl rfl _ _ BZ.out HN.out HZ.out NX.out.2 ?_;simp only[Act.put];go_wp2_with fail;refine bodyPost_ret (v:=.tuple #[.agg nx,.int .i64 0]) (by simp[results,results28,asAddr,run_loadVar_row (wr.setRow (w.heap.size+1+1+1) nx) (w.heap.size+1+1+1) 89 89 nx (0,0) _ BR.out bQ rfl HN.out]) rfl FF.out
  obtain⟨d,hxk⟩:∃d,ds[k]?=some d:=⟨_,List.getElem?_eq_getElem hlt⟩;obtain⟨b,o,Ab,nb,cb,Ae,nr,cr,At,nt,ct,rfl,HSL,c0,c1,c2,c3,c4,c5,c6⟩:=DEV.out k d hxk V1;have HX:Hid (ds[k]?=some d):=hxk;have HDC:Hid (aE d=0):=hdv.out d (List.mem_of_getElem? hxk);have k1:(0:Int)<=(k:Int):=by omega
  have k2:(k:Int)<(ds.length:Int):=by omega
  have k3:(k:Int)<10:=by omega
  have V2:=KP ((Below.refl _ _).alloc (Nat.le_refl _) (.cells #[.string d.name,.int .i64 d.kind,.int .i64 d.addr,.int .u8 (d.pool:Int),.slice Ab nb cb,.slice Ae nr cr,.slice At nt ct] 70)) V1;have DB:Bz (wr.alloc (.cells #[.string d.name,.int .i64 d.kind,.int .i64 d.addr,.int .u8 (d.pool:Int),.slice Ab nb cb,.slice Ae nr cr,.slice At nt ct] 70)) wr.heap.size #[.string d.name,.int .i64 d.kind,.int .i64 d.addr,.int .u8 (d.pool:Int),.slice Ab nb cb,.slice Ae nr cr,.slice At nt ct] 70:=Bz.new wr _ _ _ rfl;obtain⟨a0,b0⟩:=CS.out k 0 (by omega) (by omega) V2;obtain⟨a1,b1⟩:=CS.out k 1 (by omega) (by omega) V2;obtain⟨a2,b2⟩:=CS.out k 2 (by omega) (by omega) V2;obtain⟨a3,b3⟩:=CS.out k 3 (by omega) (by omega) V2;have d1:=DB.cell 1 (.int .i64 d.kind) rfl;have PE:=λW=>ports_eq (sn k 0) (sn k 1) (sn k 2) (sn k 3) (sw k 0) (sw k 1) (sw k 2) (sw k 3) W;simp only[Nat.add_zero]at a0 b0;have hsk:Hid ((((sn k 0:Int) ==(sw k 0:Int))&&(((sn k 1:Int) ==(sw k 1:Int))&&(((sn k 2:Int) ==(sw k 2:Int))&&((sn k 3:Int) ==(sw k 3:Int)))))=decide (sn k 0=sw k 0 /\ sn k 1=sw k 1 /\ sn k 2=sw k 2 /\ sn k 3=sw k 3)):=by
   show _=_;rw[Bool.eq_iff_iff];simp;omega
  rw[hsk.out]at PE;clear hxk hsk;generalize hq0:sn k 0=x0 at *;generalize hq1:sn k 1=x1 at *;generalize hq2:sn k 2=x2 at *;generalize hq3:sn k 3=x3 at *;generalize hr0:sw k 0=y0 at *;generalize hr1:sw k 1=y1 at *;generalize hr2:sw k 2=y2 at *;generalize hr3:sw k 3=y3 at *;have HQ:Hid (sn k 0=x0 /\ sn k 1=x1 /\ sn k 2=x2 /\ sn k 3=x3 /\ sw k 0=y0 /\ sw k 1=y1 /\ sw k 2=y2 /\ sw k 3=y3):=⟨hq0,hq1,hq2,hq3,hr0,hr1,hr2,hr3⟩;clear hq0 hq1 hq2 hq3 hr0 hr1 hr2 hr3;by_cases hsk:x0=y0 /\ x1=y1 /\ x2=y2 /\ x3=y3
  ·have hd:decide (x0=y0 /\ x1=y1 /\ x2=y2 /\ x3=y3)=true:=decide_eq_true hsk;rw[hd]at PE;have J2:Hid (∃sx,SetsV nx sx /\ GInv ds ls (λi=>sn i 0=sw i 0 /\ sn i 1=sw i 1 /\ sn i 2=sw i 2 /\ sn i 3=sw i 3) (λa b=>ev nsR (sn a b)) (k+1) 0 ns sx /\ nx.all (·.oneCell')=true /\ ns.length<=nsR.length+gW*((k+1)*4)):=by
    obtain⟨sx,q1,q2,q3,q4⟩:=J1.out;obtain⟨r0,r1,r2,r3,r4,r5,r6,r7⟩:=HQ.out;exact⟨sx,q1,uA q2 ⟨by rw[r0,r4];exact hsk.1,by rw[r1,r5];exact hsk.2.1,by rw[r2,r6];exact hsk.2.2.1,by rw[r3,r7];exact hsk.2.2.2⟩,q3,fV q4 (by omega)⟩
   have V3:=KP (Below.refl _ _).drew V2;clear hd hsk J1 CS DEV CN HDC;go_wp2_with fail;go_region;all_goals
    go_wp2_with fail;go_roundw
    case rel=>exact⟨k+1,nx,ns,by go_num,by omega,by first|exact V3|exact V2,J2⟩
    case measure=>simp[intOf];omega
  ·have hd:decide (x0=y0 /\ x1=y1 /\ x2=y2 /\ x3=y3)=false:=decide_eq_false hsk;rw[hd]at PE;have NSK:Hid (¬(sn k 0=sw k 0 /\ sn k 1=sw k 1 /\ sn k 2=sw k 2 /\ sn k 3=sw k 3)):=by
    obtain⟨r0,r1,r2,r3,r4,r5,r6,r7⟩:=HQ.out;rw[r0,r1,r2,r3,r4,r5,r6,r7];exact hsk
   have PT:Hid (∀W,Cl 62 #[.int .i64 d.kind] W λe w'=>e=.returned (.int .i64 (portsV d.kind)) /\ w'=W):=λW=>jd d.kind W;have PR:Hid (∀{nx:Array Value} {ns:List Nd} {W:World} (q:Nat),V nx ns W->CB 59 #[.agg #[.slice (some ⟨b,o,none⟩) ds.length cap,.slice B ls.length e9],.agg #[(k:Int),(q:Int)]] W (.tuple #[bS (peerF ls k q),.bool (peerF ls k q).isSome])):=λ{nx ns W} q h=>by
    rw[hV]at h;have hbl:=hR.kp_below h.kp;exact ib _ B _ e9 ls (k:Int) (q:Int) W ((hL.out.below hbl).mono (Nat.le_trans (Nat.le_trans hR.lowA (Nat.le_of_lt hR.lta)) h.kp.size))
   have AT:Hid (∀(a b:Nat) W,a<10->b<4->CB 32 #[.agg cn,.agg #[(a:Int),(b:Int)]] W (.int .i64 (sn a b:Int))):=λa b W ha hb=>mD cn sn a b W hn.out ha hb;have WD:Hid (∀{nx:Array Value} {ns:List Nd} {W:World} (q a b':Nat),a<10->b'<4->peerF ls k q=some ((a:Int),(b':Int))->V nx ns W->Cl 63 #[.pointer R,(sn a b':Int),.agg #[.string d.name,.int .i64 d.kind,.int .i64 d.addr,.int .u8 (d.pool:Int),.slice Ab nb cb,.slice Ae nr cr,.slice At nt ct],(q:Int),.agg #[(x0:Int),(x1:Int),(x2:Int),(x3:Int)]] W λe w'=>∃(ns':List Nd) (v er:Int),e=.returned (.tuple #[.int .i64 v,er]) /\ V nx ns' w' /\ Hid (Wf 14 ns /\ Wf 14 ns' /\ Ext ns ns' /\ ns'.length<=ns.length+gW) /\ (∀{i:Nat} {c:Array Value} {t:TypeId},Bz W i c t->okT t->Bz w' i c t) /\ Hid ((er=0 /\ ∃f:Nat,v=(f:Int) /\ f<ns'.length /\ ∀x,ev ns' f x=(ev nsR (sn a b') x||aI d q (ev nsR (sn k 0)) (ev nsR (sn k 1)) (ev nsR (sn k 2)) (ev nsR (sn k 3)) x))\/(er=6 /\ v=0 /\ (E\/a7<=ns.length+gW)))):=λ{nx ns W} q a b' ha hb hpp h=>by
    rw[hV]at h ⊢;have hbl:=hR.kp_below h.kp;have hle:bR<=W.heap.size:=Nat.le_trans (Nat.le_trans hR.lowA (Nat.le_of_lt hR.lta)) h.kp.size;have hlen:=h.ext.len;have lt:∀i j,i<10->j<4->sn i j<ns.length:=λi j hi hj=>Nat.lt_of_lt_of_le (hl.out i j hi hj) hlen;have ee:∀i j,i<10->j<4->ev ns (sn i j)=ev nsR (sn i j):=λi j hi hj=>funext (h.ext.ev hR.wf h.ar.wf _ (hl.out i j hi hj));obtain⟨r0,r1,r2,r3,_⟩:=HQ.out;have hk10:k<10:=by omega
    rw[<- r0,<- r1,<- r2,<- r3];obtain⟨s1,s2,s3⟩:=HSL.out;refine(HWB.out k q a b' d HX.out ha hb hpp bR R MR a7 ns W h.ar Ab Ae At nb cb nr cr nt ct (SlAt.mono (SlAt.below s1 hbl (λ_ _ _ h=>h)) hle (λ_ _ _ h=>h)) (SlAt.mono (SlAt.below s2 hbl (λ_ _ _ h=>h)) hle (λ_ _ _ h=>h)) (SlAt.mono (SlAt.below s3 hbl (λ_ _ _ h=>h)) hle (λ_ _ _ h=>h)) _ _ _ _ _ (lt a b' ha hb) (lt k 0 hk10 (by omega)) (lt k 1 hk10 (by omega)) (lt k 2 hk10 (by omega)) (lt k 3 hk10 (by omega)) (ee a b' ha hb) (ee k 0 hk10 (by omega)) (ee k 1 hk10 (by omega)) (ee k 2 hk10 (by omega)) (ee k 3 hk10 (by omega))).mono λe w' ⟨ns',v,er,e1,A1,K1,X1,L1,hv⟩=>⟨ns',v,er,e1,h.step A1 K1 X1,⟨h.ar.wf,A1.wf,X1,L1⟩,λhb ht=>h.tf K1 hb ht,?_⟩;exact hv
   have SX:Hid (∀{nx:Array Value} {ns:List Nd} {W:World} (j:Nat) (u:Value),V nx ns W->V (nx.setIfInBounds j u) ns (W.setCell ⟨w.heap.size+1+1+1+1,j,none⟩ u) /\ ∀{i:Nat} {c:Array Value} {t:TypeId},Bz W i c t->t=70->Bz (W.setCell ⟨w.heap.size+1+1+1+1,j,none⟩ u) i c t):=λ{nx ns W} j u h=>by
    rw[hV]at h ⊢;refine⟨h.setx j u,λ{i c t} hb ht=>(Below.heap_setCell W ⟨w.heap.size+1+1+1+1,j,none⟩ u i (λe=>?_)).trans hb⟩;have hx:=h.bx;unfold Bz at hb hx;have e':i=w.heap.size+1+1+1+1:=e;rw[e',hx]at hb;simp only[Option.some.injEq,Obj.cells.injEq]at hb;rw[<- hb.2.1]at ht;exact absurd ht (by decide)
   have XC:Hid (∀{nx:Array Value} {ns:List Nd} {W:World} (j:Nat),j<nx.size->V nx ns W->(∃v,W.cell? ⟨w.heap.size+1+1+1+1,j,none⟩=some v) /\ W.frozen? ⟨w.heap.size+1+1+1+1,j,none⟩=false /\ Bz W (w.heap.size+1+1) cn 89):=λ{nx ns W} j hj h=>by
    rw[hV]at h;exact⟨⟨_,h.bx.cell j _ (Array.getElem?_eq_getElem hj)⟩,h.bx.free j,h.bo⟩
   have EOUT:Hid (∀{nx:Array Value} {ns:List Nd} {W:World},V nx ns W->ns.length<=nsR.length+gW*(4*ds.length)->(E\/a7<=nsR.length+gW*(4*ds.length))->Hid (Bz W (w.heap.size+1+1+1) zeros40 89) /\ Hid (GOut gW E w bR R MR a7 nsR ds ls (λi=>sn i 0=sw i 0 /\ sn i 1=sw i 1 /\ sn i 2=sw i 2 /\ sn i 3=sw i 3) (λa b=>ev nsR (sn a b)) (.returned (.tuple #[.agg zeros40,.int .i64 6])) W)):=λ{nx ns W} h hl4 he4=>by
    rw[hV]at h;exact⟨h.bz,zeros40,6,ns,rfl,rfl,h.ar,h.kp,h.ext,λi c t hb ht=>((hR.outBox hb ht.1 ht.2.1).kp h.kp).blk,hl4,Or.inr ⟨rfl,rfl,he4⟩⟩
   have BO:Hid (∀{nx:Array Value} {ns:List Nd} {W:World},V nx ns W->Bz W (w.heap.size+1+1) cn 89):=λ{nx ns W} h=>by rw[hV]at h;exact h.bo
   have HCN:Hid (cn[k*4]?=some (.int .i64 (x0:Int)) /\ cn[k*4+1]?=some (.int .i64 (x1:Int)) /\ cn[k*4+2]?=some (.int .i64 (x2:Int)) /\ cn[k*4+3]?=some (.int .i64 (x3:Int))):=by
    obtain⟨r0,r1,r2,r3,_⟩:=HQ.out;have hk10:k<10:=by omega
    rw[<- r0,<- r1,<- r2,<- r3];exact⟨hn.out.2 k 0 hk10 (by omega),hn.out.2 k 1 hk10 (by omega),hn.out.2 k 2 hk10 (by omega),hn.out.2 k 3 hk10 (by omega)⟩
   have HC40:Hid (cn.size=40):=hn.out.1;have V3:=KP (Below.refl _ _).drew V2;have J1':Hid (∃sx,SetsV nx sx /\ GInv ds ls (λi=>sn i 0=sw i 0 /\ sn i 1=sw i 1 /\ sn i 2=sw i 2 /\ sn i 3=sw i 3) (λa b=>ev nsR (sn a b)) k 0 ns sx /\ nx.all (·.oneCell')=true /\ ns.length<=nsR.length+gW*(k*4)):=J1;clear hd hsk CS DEV hV hR hD hL hw hn hl hdv HI;generalize hDD:wr.heap.size=D at *;have DB3:Bz (wr.alloc (.cells #[.string d.name,.int .i64 d.kind,.int .i64 d.addr,.int .u8 (d.pool:Int),.slice Ab nb cb,.slice Ae nr cr,.slice At nt ct] 70)).drew D #[.string d.name,.int .i64 d.kind,.int .i64 d.addr,.int .u8 (d.pool:Int),.slice Ab nb cb,.slice Ae nr cr,.slice At nt ct] 70:=DB;have pb:=uE d.kind;have PNE:Hid (∀q:Nat,portsV d.kind<=(q:Int)->portsV d.kind<=(q:Int)):=λ_ h=>h;go_wp2_with fail;go_region;go_wp2_with fail;with_reducible refine(PT.out _).mono ?_
   rintro e w4⟨rfl,hw4⟩;obtain rfl:=hw4.symm;clear PT DB V2 a0 a1 a2 a3 b0 b1 b2 b3 PE d1 c0 c1 c2 c3 c4 c5 c6 V1 J1;obtain⟨np,hnp⟩:∃np,np=portsV d.kind:=⟨_,rfl⟩;have HNP:Hid (np=portsV d.kind):=hnp;rw[<- hnp]at pb ⊢;clear hnp PNE;go_wp2_with fail;go_loopw[37] (λi wr=>∃(q:Nat) (nx:Array Value) (ns:List Nd),i=.int .i64 (q:Int) /\ (q:Int)<=np /\ V nx ns wr /\ Bz wr D #[.string d.name,.int .i64 d.kind,.int .i64 d.addr,.int .u8 (d.pool:Int),.slice Ab nb cb,.slice Ae nr cr,.slice At nt ct] 70 /\ Hid (∃sx,SetsV nx sx /\ GInv ds ls (λi=>sn i 0=sw i 0 /\ sn i 1=sw i 1 /\ sn i 2=sw i 2 /\ sn i 3=sw i 3) (λa b=>ev nsR (sn a b)) k q ns sx /\ nx.all (·.oneCell')=true /\ ns.length<=nsR.length+gW*(k*4+q))) (λi _=>np.toNat-(intOf i).toNat)
   case atStart=>exact⟨0,nx,ns,rfl,by omega,V3,DB3,J1'⟩
   case round =>
    clear V3 DB3 J1';obtain⟨q,nx,ns,rfl,hq,V1,DB,J1⟩:=hrel;by_cases hlq:(q:Int)<np
    rotate_left
    ·have J2:Hid (∃sx,SetsV nx sx /\ GInv ds ls (λi=>sn i 0=sw i 0 /\ sn i 1=sw i 1 /\ sn i 2=sw i 2 /\ sn i 3=sw i 3) (λa b=>ev nsR (sn a b)) (k+1) 0 ns sx /\ nx.all (·.oneCell')=true /\ ns.length<=nsR.length+gW*((k+1)*4)):=by
      obtain⟨sx,q1,q2,q3,q4⟩:=J1.out;exact⟨sx,q1,uB q2 HX.out (by rw[<- HNP.out];omega),q3,fV q4 (by omega)⟩
     clear PR AT WD SX XC EOUT CN DB J1;go_wp2_with fail;go_roundw
     case rel=>exact⟨k+1,nx,ns,by go_num,by omega,V1,J2⟩
     case measure=>simp[intOf];omega
    obtain⟨n0,n1⟩:=CN.out V1;have P1:=PR.out q V1;have P1':Hid (CB 59 #[.agg #[.slice (some ⟨b,o,none⟩) ds.length cap,.slice B ls.length e9],.agg #[(k:Int),(q:Int)]] wr (.tuple #[bS (peerF ls k q),.bool (peerF ls k q).isSome])):=P1;clear P1 PR;have q4:(q:Int)<4:=by omega
    cases hp:peerF ls k q with
    | none =>
      rw[hp]at P1';have J2:Hid (∃sx,SetsV nx sx /\ GInv ds ls (λi=>sn i 0=sw i 0 /\ sn i 1=sw i 1 /\ sn i 2=sw i 2 /\ sn i 3=sw i 3) (λa b=>ev nsR (sn a b)) k (q+1) ns sx /\ nx.all (·.oneCell')=true /\ ns.length<=nsR.length+gW*(k*4+(q+1))):=by
       obtain⟨sx,q1,q2,q3,q4⟩:=J1.out;exact⟨sx,q1,uC q2 hp,q3,fV q4 (by omega)⟩
      clear AT WD SX XC EOUT CN J1 hp;unfold bS Option.isSome at P1';go_wp2_with fail;with_reducible refine P1'.out.mono ?_
      rintro e w5⟨rfl,hb5⟩;have V5:=KP ((Below.refl _ _).alloc (Nat.le_refl _) (.cells #[.int .i64 0,.int .i64 0] 27)) (KP hb5 V1);have DB5:Bz (w5.alloc (.cells #[.int .i64 0,.int .i64 0] 27)) D #[.string d.name,.int .i64 d.kind,.int .i64 d.addr,.int .u8 (d.pool:Int),.slice Ab nb cb,.slice Ae nr cr,.slice At nt ct] 70:=Bz.al ((hb5.block _ DB.lt).trans DB) _;go_wp2_with fail;go_roundw
      case rel=>exact⟨q+1,nx,ns,by go_num,by omega,V5,DB5,J2⟩
      case measure=>simp[intOf];omega
    | some t =>
      obtain⟨a,b',rfl,ha,hb'⟩:=fW hz.out hp;rw[hp]at P1';have HP:Hid (peerF ls k q=some ((a:Int),(b':Int))):=hp;have a10:(a:Int)<10:=by omega
      have b4:(b':Int)<4:=by omega
      have HA:Hid (a<10 /\ b'<4):=⟨ha,hb'⟩;clear hp ha hb';unfold bS Option.isSome at P1';dsimp only at P1';go_wp2_with fail;with_reducible refine P1'.out.mono ?_
      rintro e w5⟨rfl,hb5⟩;have V5:=KP ((Below.refl _ _).alloc (Nat.le_refl _) (.cells #[(a:Int),(b':Int)] 27)) (KP hb5 V1);have DB5:Bz (w5.alloc (.cells #[(a:Int),(b':Int)] 27)) D #[.string d.name,.int .i64 d.kind,.int .i64 d.addr,.int .u8 (d.pool:Int),.slice Ab nb cb,.slice Ae nr cr,.slice At nt ct] 70:=Bz.al ((hb5.block _ DB.lt).trans DB) _;have PB5:Bz (w5.alloc (.cells #[(a:Int),(b':Int)] 27)) w5.heap.size #[(a:Int),(b':Int)] 27:=Bz.new w5 _ _ _ rfl;obtain⟨K,hK⟩:∃K:World->Prop,K=λW=>V nx ns W /\ Bz W D #[.string d.name,.int .i64 d.kind,.int .i64 d.addr,.int .u8 (d.pool:Int),.slice Ab nb cb,.slice Ae nr cr,.slice At nt ct] 70 /\ Bz W w5.heap.size #[(a:Int),(b':Int)] 27:=⟨_,rfl⟩;have K5:K (w5.alloc (.cells #[(a:Int),(b':Int)] 27)).drew:=by rw[hK];exact⟨KP (Below.refl _ _).drew V5,DB5,PB5⟩
      have KB:∀{W W':World},Below W W W'->K W->K W':=λ{W W'} hb h=>by rw[hK]at h ⊢;exact⟨KP hb h.1,(hb.block _ h.2.1.lt).trans h.2.1,(hb.block _ h.2.2.lt).trans h.2.2⟩
      have SC:Hid (∀{nx:Array Value} {ns:List Nd} {W:World},V nx ns W->Bz W D #[.string d.name,.int .i64 d.kind,.int .i64 d.addr,.int .u8 (d.pool:Int),.slice Ab nb cb,.slice Ae nr cr,.slice At nt ct] 70->Bz W w5.heap.size #[(a:Int),(b':Int)] 27->Bz W (w.heap.size+1+1) cn 89 /\ W.cell? ⟨w5,0,none⟩=some (.int .i64 (a:Int)) /\ W.cell? ⟨w5,1,none⟩=some (.int .i64 (b':Int)) /\ W.cell? ⟨D,0,none⟩=some (.string d.name) /\ W.cell? ⟨D,1,none⟩=some (.int .i64 d.kind) /\ W.cell? ⟨D,2,none⟩=some (.int .i64 d.addr) /\ W.cell? ⟨D,3,none⟩=some (.int .u8 (d.pool:Int)) /\ W.cell? ⟨D,4,none⟩=some (.slice Ab nb cb) /\ W.cell? ⟨D,5,none⟩=some (.slice Ae nr cr) /\ W.cell? ⟨D,6,none⟩=some (.slice At nt ct) /\ W.cell? ⟨w.heap.size+1+1,k*4,none⟩=some (.int .i64 (x0:Int)) /\ W.cell? ⟨w.heap.size+1+1,k*4+1,none⟩=some (.int .i64 (x1:Int)) /\ W.cell? ⟨w.heap.size+1+1,k*4+2,none⟩=some (.int .i64 (x2:Int)) /\ W.cell? ⟨w.heap.size+1+1,k*4+3,none⟩=some (.int .i64 (x3:Int))):=λ{nx ns W} h1 h2 h3=>by
       have hbo:=BO.out h1;obtain⟨m0,m1,m2,m3⟩:=HCN.out;exact⟨hbo,h3.cell 0 _ rfl,h3.cell 1 _ rfl,h2.cell 0 _ rfl,h2.cell 1 _ rfl,h2.cell 2 _ rfl,h2.cell 3 _ rfl,h2.cell 4 _ rfl,h2.cell 5 _ rfl,h2.cell 6 _ rfl,hbo.cell _ _ m0,hbo.cell _ _ m1,hbo.cell _ _ m2,hbo.cell _ _ m3⟩
      have KC:Hid (∀W,K W->Bz W (w.heap.size+1+1) cn 89 /\ W.cell? ⟨w5,0,none⟩=some (.int .i64 (a:Int)) /\ W.cell? ⟨w5,1,none⟩=some (.int .i64 (b':Int)) /\ W.cell? ⟨D,0,none⟩=some (.string d.name) /\ W.cell? ⟨D,1,none⟩=some (.int .i64 d.kind) /\ W.cell? ⟨D,2,none⟩=some (.int .i64 d.addr) /\ W.cell? ⟨D,3,none⟩=some (.int .u8 (d.pool:Int)) /\ W.cell? ⟨D,4,none⟩=some (.slice Ab nb cb) /\ W.cell? ⟨D,5,none⟩=some (.slice Ae nr cr) /\ W.cell? ⟨D,6,none⟩=some (.slice At nt ct) /\ W.cell? ⟨w.heap.size+1+1,k*4,none⟩=some (.int .i64 (x0:Int)) /\ W.cell? ⟨w.heap.size+1+1,k*4+1,none⟩=some (.int .i64 (x1:Int)) /\ W.cell? ⟨w.heap.size+1+1,k*4+2,none⟩=some (.int .i64 (x2:Int)) /\ W.cell? ⟨w.heap.size+1+1,k*4+3,none⟩=some (.int .i64 (x3:Int))):=λW h=>by rw[hK]at h;exact SC.out h.1 h.2.1 h.2.2
      have KW:Hid (∀W,K W->Cl 63 #[.pointer R,(sn a b':Int),.agg #[.string d.name,.int .i64 d.kind,.int .i64 d.addr,.int .u8 (d.pool:Int),.slice Ab nb cb,.slice Ae nr cr,.slice At nt ct],(q:Int),.agg #[(x0:Int),(x1:Int),(x2:Int),(x3:Int)]] W λe w'=>∃(ns':List Nd) (v er:Int),e=.returned (.tuple #[.int .i64 v,er]) /\ (V nx ns' w' /\ Bz w' D #[.string d.name,.int .i64 d.kind,.int .i64 d.addr,.int .u8 (d.pool:Int),.slice Ab nb cb,.slice Ae nr cr,.slice At nt ct] 70 /\ Bz w' w5.heap.size #[(a:Int),(b':Int)] 27) /\ Hid (Wf 14 ns /\ Wf 14 ns' /\ Ext ns ns' /\ ns'.length<=ns.length+gW) /\ Hid ((er=0 /\ ∃f:Nat,v=(f:Int) /\ f<ns'.length /\ ∀x,ev ns' f x=(ev nsR (sn a b') x||aI d q (ev nsR (sn k 0)) (ev nsR (sn k 1)) (ev nsR (sn k 2)) (ev nsR (sn k 3)) x))\/(er=6 /\ v=0 /\ (E\/a7<=ns.length+gW)))):=λW h=>by
       rw[hK]at h;exact(WD.out q a b' HA.out.1 HA.out.2 HP.out h.1).mono λe w' ⟨ns',v,er,e1,e2,e3,e4,e5⟩=>⟨ns',v,er,e1,⟨e2,e4 h.2.1 (by decide),e4 h.2.2 (by decide)⟩,e3,e5⟩
      have AT':Hid (∀W,CB 32 #[.agg cn,.agg #[(a:Int),(b':Int)]] W (.int .i64 (sn a b':Int))):=λW=>AT.out a b' W HA.out.1 HA.out.2;clear hK AT WD P1' V5 DB5 PB5 hb5 V1 DB n0 n1 CN;generalize hset:sn a b'=sset at *;have HSET:Hid (sn a b'=sset):=hset;clear hset;go_wp2_with fail;refine wp_region_held_drew (S:=(λW=>Bz W (w.heap.size+1+1) cn 89 /\ W.cell? ⟨w5,0,none⟩=some (.int .i64 (a:Int)) /\ W.cell? ⟨w5,1,none⟩=some (.int .i64 (b':Int)) /\ W.cell? ⟨D,0,none⟩=some (.string d.name) /\ W.cell? ⟨D,1,none⟩=some (.int .i64 d.kind) /\ W.cell? ⟨D,2,none⟩=some (.int .i64 d.addr) /\ W.cell? ⟨D,3,none⟩=some (.int .u8 (d.pool:Int)) /\ W.cell? ⟨D,4,none⟩=some (.slice Ab nb cb) /\ W.cell? ⟨D,5,none⟩=some (.slice Ae nr cr) /\ W.cell? ⟨D,6,none⟩=some (.slice At nt ct) /\ W.cell? ⟨w.heap.size+1+1,k*4,none⟩=some (.int .i64 (x0:Int)) /\ W.cell? ⟨w.heap.size+1+1,k*4+1,none⟩=some (.int .i64 (x1:Int)) /\ W.cell? ⟨w.heap.size+1+1,k*4+2,none⟩=some (.int .i64 (x2:Int)) /\ W.cell? ⟨w.heap.size+1+1,k*4+3,none⟩=some (.int .i64 (x3:Int)))) (by kernel_rfl) (KC.out _ K5) (λhHeld=>?_);refine tk 0 ?_;try simp only[ly]
      refine' wpAnyH_take (i:=1) (v:=.agg cn) rfl (by kernel_rfl) (by kernel_rfl) (by kernel_rfl) (λ_ _ _ h=>h) (yieldsIf_load_mid (by rfl) 89 _ rfl (w.heap.size+1+1) 0 rfl cn.toList _ (λW hS j v hj=>by rw[Nat.zero_add];exact hS.1.cell j v (by simpa using hj)) bQ rfl (by rw[Array.length_toList,HC40.out];exact db)) ‹_› ?gr2;try simp only[ly]
      refine tk 2 ?_;try simp only[ly]
      refine tk 4 ?_;try simp only[ly]
      refine tk 5 ?_;try simp only[ly]
      refine tk 6 ?_;try simp only[ly]
      refine tk 7 ?_;try simp only[ly]
      refine tk 8 ?_;try simp only[ly]
      refine rd 3 (λK hK=>?_);go_simp
      ((with_reducible refine(AT'.out _).mono ?_);rintro e wz⟨rfl,hbz⟩;have Kz:=KB hbz ‹_›;clear hbz)
      try go_wp2_with fail
      clear hHeld;refine hK.out _ _ (by first|exact S8|exact KC.out _ ‹_›) (λhHeld=>?_);clear hK K;try simp only[ly]
      refine rd 9 (λK hK=>?_);go_simp
      ((with_reducible refine(KW.out _ ‹_›).mono ?_);rintro e w8⟨ns',v,er,rfl,⟨V8,DB8,PB8⟩,X8,hv8⟩;have S8:=SC.out V8 DB8 PB8)
      try go_wp2_with fail
      clear hHeld;refine hK.out _ _ (by first|exact S8|exact KC.out _ ‹_›) (λhHeld=>?_);clear hK K;try simp only[ly]
      refine tk 10 ?_;try simp only[ly]
      refine tk 11 ?_;try simp only[ly]
      refine tk 12 ?_;try simp only[ly]
      refine tk 13 ?_;try simp only[ly]
      refine tk 14 ?_;try simp only[ly]
      refine wpAnyH_done (by kernel_rfl) ?_ _;clear KC KW AT' K5 KB S8 SC BO;by_cases he:er=0
      ·subst he;have HV:Hid (∃f:Nat,v=(f:Int) /\ f<ns'.length /\ ∀x,ev ns' f x=(ev nsR sset x||aI d q (ev nsR (sn k 0)) (ev nsR (sn k 1)) (ev nsR (sn k 2)) (ev nsR (sn k 3)) x)):=by
        rcases hv8.out with⟨_,h⟩|⟨h,_⟩
        ·exact h
        ·cases h
       obtain⟨f,rfl,hf,hfx⟩:=HV.out;have HF:Hid (f<ns'.length /\ ∀x,ev ns' f x=(ev nsR sset x||aI d q (ev nsR (sn k 0)) (ev nsR (sn k 1)) (ev nsR (sn k 2)) (ev nsR (sn k 3)) x)):=⟨hf,hfx⟩;clear hf hfx HV hv8;have J2:Hid (∃sx,SetsV (nx.setIfInBounds (a*4+b') (.int .i64 (f:Int))) sx /\ GInv ds ls (λi=>sn i 0=sw i 0 /\ sn i 1=sw i 1 /\ sn i 2=sw i 2 /\ sn i 3=sw i 3) (λa b=>ev nsR (sn a b)) k (q+1) ns' sx /\ (nx.setIfInBounds (a*4+b') (.int .i64 (f:Int))).all (·.oneCell')=true /\ ns'.length<=nsR.length+gW*(k*4+(q+1))):=by
        obtain⟨sx,q1,q2,q3,q4⟩:=J1.out;obtain⟨y1,y2,y3,y4⟩:=X8.out;refine⟨dE sx a b' f,q1.upd HA.out.1 HA.out.2,uD q2 (bi hz.out).2.2.1 y1 y2 y3 HX.out (by rw[<- HNP.out];exact hlq) NSK.out HP.out HF.out.1 (λx=>?_),nw q3 _ rfl,gX q4 y4⟩;rw[HF.out.2 x,<- HSET.out]
       have hsz:a*4+b'<nx.size:=by
        obtain⟨sx,q1,_⟩:=J1.out;have:=q1.1;have:=HA.out.1;have:=HA.out.2;omega
       have V8d:=KP (Below.refl _ _).drew V8;obtain⟨⟨vv,cx⟩,fx,_⟩:=XC.out (a*4+b') hsz V8d;obtain⟨V9,T9⟩:=SX.out (a*4+b') (.int .i64 (f:Int)) V8d;have DB9:=T9 (i:=D) (c:=#[.string d.name,.int .i64 d.kind,.int .i64 d.addr,.int .u8 (d.pool:Int),.slice Ab nb cb,.slice Ae nr cr,.slice At nt ct]) (t:=70) DB8 rfl;have g0:w8.drew.cell? ⟨w5,0,none⟩=some (.int .i64 (a:Int)):=PB8.cell 0 _ rfl;have g1:w8.drew.cell? ⟨w5,1,none⟩=some (.int .i64 (b':Int)):=PB8.cell 1 _ rfl;have a0:(0:Int)<=(a:Int):=by omega
       have b0:(0:Int)<=(b':Int):=by omega
       clear XC SX T9 V8 V8d DB8 PB8 X8 J1 EOUT;go_wp2_with fail;go_region;all_goals
        go_wp2_with fail;go_roundw
        case rel=>exact⟨q+1,_,ns',by go_num,by omega,V9,DB9,J2⟩
        case measure=>simp[intOf];omega
      ·have HE:Hid (er=6):=by
        rcases hv8.out with⟨h,_⟩|⟨h,_⟩
        ·exact absurd h he
        ·exact h
       obtain rfl:=HE.out;have LB:Hid (ns'.length<=nsR.length+gW*(4*ds.length) /\ (E\/a7<=nsR.length+gW*(4*ds.length))):=by
        obtain⟨_,_,_,_,q4⟩:=J1.out;obtain⟨_,_,_,y4⟩:=X8.out;have q5:=fV (gX q4 y4) (show k*4+q+1<=4*ds.length by omega);refine⟨q5,?_⟩;rcases hv8.out with⟨h,_⟩|⟨_,_,h|h⟩
        ·exact absurd h (by decide)
        ·exact Or.inl h
        ·exact Or.inr (fV (gX q4 h) (show k*4+q+1<=4*ds.length by omega))
       obtain⟨ZB,FF⟩:=EOUT.out V8 LB.out.1 LB.out.2;clear LB;clear XC SX HE he hv8;go_upto_region 13 with fail;go_step
       iterate 7 go_step
       refine wp_store_row 89 _ _ rfl _ zeros40 rfl rfl _ _ ZB.out db (by rfl) zeros_one ?_;rw[ny ZB.out];simp only[Act.put];go_wp2_with fail;refine bodyPost_ret (v:=.tuple #[.agg zeros40,.int .i64 6]) (by simp[results,results28,asAddr,run_loadVar_row w8 (w.heap.size+1+1+1) 89 89 zeros40 (0,0) _ ZB.out bQ rfl db]) rfl FF.out
end
structure Hs(bR R MR a7:Nat)(nsR:List Nd)(w:World)(u0 u1:Value)(nx:Array Value)(ns:List Nd)(W:World):Prop where
 ar:Ar bR R MR 14 a7 W ns
 ext:Ext nsR ns
 kp:Kp (ca bR R MR 14 a7) w W
 bN:Bz W w.heap.size #[u0,u1] 25
 bz:Bz W (w.heap.size+1) zeros40 89
 bx:Bz W (w.heap.size+1+1) nx 89
section
variable {bR R MR a7:Nat}{nsR ns ns':List Nd}{w W W':World}{u0 u1:Value}{nx:Array Value}
theorem Hs.below(h:Hs bR R MR a7 nsR w u0 u1 nx ns W)(hb:Below W W W'):Hs bR R MR a7 nsR w u0 u1 nx ns W' :=
 ⟨h.ar.below hb,h.ext,h.kp.trans (h.ar.kbelow hb),(hb.block _ h.bN.lt).trans h.bN,(hb.block _ h.bz.lt).trans h.bz,(hb.block _ h.bx.lt).trans h.bx⟩
theorem Hs.tf(h:Hs bR R MR a7 nsR w u0 u1 nx ns W)(k:Kp (ca bR R MR 14 a7) W W'){i:Nat}{c:Array Value}{t:TypeId}(hb:Bz W i c t)(ht:okT t):Bz W' i c t:=((h.ar.outBox hb ht.1 ht.2.1).kp k).blk
theorem Hs.step(h:Hs bR R MR a7 nsR w u0 u1 nx ns W)(A':Ar bR R MR 14 a7 W' ns')(k:Kp (ca bR R MR 14 a7) W W')(X:Ext ns ns'):Hs bR R MR a7 nsR w u0 u1 nx ns' W' :=
 ⟨A',h.ext.trans X,h.kp.trans k,h.tf k h.bN (by decide),h.tf k h.bz (by decide),h.tf k h.bx (by decide)⟩
theorem Hs.setx(h:Hs bR R MR a7 nsR w u0 u1 nx ns W)(j:Nat)(u:Value):Hs bR R MR a7 nsR w u0 u1 (nx.setIfInBounds j u) ns (W.setCell ⟨w.heap.size+1+1,j,none⟩ u):=by
 have hF:∀i,i≠w.heap.size+1+1->(W.setCell ⟨w.heap.size+1+1,j,none⟩ u).heap[i]?=W.heap[i]?:=λi hi=>Below.heap_setCell W ⟨w.heap.size+1+1,j,none⟩ u i hi;have L:=(h.ar.outBox h.bx (by decide) (by decide)).out;have n1:R≠w.heap.size+1+1:=λe=>L.not (Or.inl e.symm);have n2:MR≠w.heap.size+1+1:=λe=>L.not (Or.inr (Or.inr (Or.inl e.symm)));have n3:rowOf W R≠w.heap.size+1+1:=λe=>L.ne e.symm;have er:rowOf (W.setCell ⟨w.heap.size+1+1,j,none⟩ u) R=rowOf W R:=aQ (hF R n1);refine⟨h.ar.same (hF _ n1) (hF _ n2) (hF _ n3),h.ext,⟨h.kp.os,h.kp.tape,h.kp.output,by simp[World.setCell];exact h.kp.size,λi hi hm hr=>(hF i (by omega)).trans (h.kp.blk i hi hm hr),?_,λk hk=>?_⟩,(hF _ (by omega)).trans h.bN,(hF _ (by omega)).trans h.bz,h.bx.set (j:=j) u⟩
 ·rw[show rowOf (W.setCell ⟨w.heap.size+1+1,j,none⟩ u) (ca bR R MR 14 a7).a=rowOf W (ca bR R MR 14 a7).a from er];exact h.kp.row
 ·rw[<- h.kp.post k hk];exact bJ (hF R n1)
end
def iV(ds:List Dv)(ls:List Lk)(i:Nat)(t:Int × Int)(x:Env):Prop :=
 ∃(i':Nat) (d:Dv),i'<i /\ ds[i']?=some d /\ d.kind=1 /\ peerF ls i' 0=some t /\ phi (setL [d.addr] 0) 65535 255 255 x=true
structure HInv(ds:List Dv)(ls:List Lk)(i:Nat)(ns:List Nd)(sx:Nat->Nat->Nat):Prop where
 lt:∀a b,a<10->b<4->sx a b<ns.length
 fn:∀a b,a<10->b<4->∀x,(ev ns (sx a b) x=true ↔ iV ds ls i ((a:Int),(b:Int)) x)
section
variable {ds:List Dv}{ls:List Lk}{i:Nat}{ns ns':List Nd}{sx:Nat->Nat->Nat}
theorem uG(hW:Wf 14 ns):HInv ds ls 0 ns (λ_ _=>0):=⟨λ_ _ _ _=>Nat.lt_of_lt_of_le (by omega) hW.len,λa b _ _ x=>by
 rw[ev0];exact⟨λh=>(by cases h),λ⟨i',d,h,_⟩=>(by omega)⟩⟩
theorem nz(h:HInv ds ls i ns sx){d:Dv}(hd:ds[i]?=some d)(hs:d.kind≠1\/peerF ls i 0=none):HInv ds ls (i+1) ns sx:=⟨h.lt,λa b ha hb x=>(h.fn a b ha hb x).trans ⟨λ⟨i',d',h1,h2⟩=>⟨i',d',by omega,h2⟩,λ⟨i',d',h1,h2,h3,h4,h5⟩=>by
 refine⟨i',d',?_,h2,h3,h4,h5⟩;by_cases e:i'=i
 ·subst e;rw[hd]at h2;obtain rfl:=Option.some.inj h2;rcases hs with hs|hs
  ·exact absurd h3 hs
  ·rw[hs]at h4;cases h4
 ·omega⟩⟩
theorem uH(h:HInv ds ls i ns sx)(hA:Apart ls)(hW:Wf 14 ns)(hW':Wf 14 ns')(X:Ext ns ns'){d:Dv}(hd:ds[i]?=some d)(hk:d.kind=1){a b f:Nat}(hp:peerF ls i 0=some ((a:Int),(b:Int)))(hf:f<ns'.length)(hv:∀x,ev ns' f x=phi (setL [d.addr] 0) 65535 255 255 x):HInv ds ls (i+1) ns' (dE sx a b f):=by
 have hlen:=X.len;refine⟨λx y hx hy=>?_,λx y hx hy e=>?_⟩
 ·unfold dE
  split
  ·exact hf
  ·have:=h.lt x y hx hy;omega
 ·unfold dE
  split
  ·rename_i hxy
   obtain⟨rfl,rfl⟩:=hxy;rw[hv e];refine⟨λhse=>⟨i,d,by omega,hd,hk,hp,hse⟩,?_⟩;rintro⟨i',d',_,h3,_,h5,h6⟩;have e1:=dK hA hp;have e2:=dK hA h5;rw[e1]at e2;simp only[Option.some.injEq,Prod.mk.injEq]at e2;obtain⟨e3,_⟩:=e2;obtain rfl:i=i':=by omega
   rw[hd]at h3;obtain rfl:=Option.some.inj h3;exact h6
  ·rename_i hxy
   rw[X.ev hW hW' _ (h.lt x y hx hy),h.fn x y hx hy e];refine⟨?_,?_⟩
   ·rintro⟨i',d',h1,h2⟩;exact⟨i',d',by omega,h2⟩
   ·rintro⟨i',d',h1,h2,h3,h4,h5⟩;refine⟨i',d',?_,h2,h3,h4,h5⟩;by_cases e:i'=i
    ·subst e;rw[hp]at h4;simp only[Option.some.injEq,Prod.mk.injEq]at h4;exact absurd ⟨by omega,by omega⟩ hxy
    ·omega
end
def HOut(w:World)(bR R MR a7:Nat)(nsR:List Nd)(ds:List Dv)(ls:List Lk)(e:Ending)(w':World):Prop :=
 ∃(cx:Array Value) (er:Int) (ns:List Nd),e=.returned (.tuple #[.agg cx,er]) /\ (cx.size=40 /\ cx.all (·.oneCell')=true) /\ Ar bR R MR 14 a7 w' ns /\ Kp (ca bR R MR 14 a7) w w' /\ Ext nsR ns /\ (∀i c t,Bz w i c t->okT t->Bz w' i c t) /\ ns.length<=nsR.length+44*ds.length /\
   Hid ((er=0 /\ ∃sx,SetsV cx sx /\ HInv ds ls ds.length ns sx)\/(er=6 /\ cx=zeros40 /\ a7<=nsR.length+44*ds.length))
theorem nA:SetsV zeros40 (λ_ _=>0):=by
 refine⟨rfl,λi j hi hj=>?_⟩;have h0:∀n,n<40->zeros40[n]?=some (.int .i64 0):=λn hn=>by
  have e:zeros40=Array.replicate 40 (.int .i64 0):=rfl;rw[e];simp[hn]
 exact h0 _ (by omega)
section
variable {bR R MR a7:Nat}{nsR:List Nd}{w:World}
theorem uI(hR:Ar bR R MR 14 a7 w nsR)(A B:Option Addr)(cap e9:Nat)(ds:List Dv)(ls:List Lk)(hz:Hid (netV ds ls=0))(hdv:Hid (∀d∈ds,aE d=0))(hD:Hid (Devs bR w (.slice A ds.length cap) ds))(hL:Hid (Links bR w (.slice B ls.length e9) ls)) :
  Cl 27 #[.pointer R,.agg #[.slice A ds.length cap,.slice B ls.length e9]] w (HOut w bR R MR a7 nsR ds ls):=by
 have D4:Below w w (((w.alloc (.cells #[.slice A ds.length cap,.slice B ls.length e9] 25)).alloc (.cells zeros40 89)).alloc (.cells zeros40 89)):=((Below.refl _ w).alloc (Nat.le_refl _) _).alloc (by simp) _ |>.alloc (by simp;omega) _
 have G4:Hs bR R MR a7 nsR w (.slice A ds.length cap) (.slice B ls.length e9) zeros40 nsR (((w.alloc (.cells #[.slice A ds.length cap,.slice B ls.length e9] 25)).alloc (.cells zeros40 89)).alloc (.cells zeros40 89)):=⟨hR.below D4,Ext.refl _,hR.kbelow D4,((Bz.new w _ _ _ rfl).al _).al _,(Bz.new (w.alloc _) _ _ _ (by simp)).al _,Bz.new ((w.alloc _).alloc _) _ _ _ (by simp)⟩;have I0:Hid (HInv ds ls 0 nsR (λ_ _=>0)):=uG hR.wf;obtain⟨V,hV⟩:∃V:Array Value->List Nd->World->Prop,V=λnx ns W=>Hs bR R MR a7 nsR w (.slice A ds.length cap) (.slice B ls.length e9) nx ns W:=⟨_,rfl⟩;have V4:V zeros40 nsR (((w.alloc (.cells #[.slice A ds.length cap,.slice B ls.length e9] 25)).alloc (.cells zeros40 89)).alloc (.cells zeros40 89)):=by rw[hV];exact G4
 have KP:∀{nx:Array Value} {ns:List Nd} {W W':World},Below W W W'->V nx ns W->V nx ns W':=λ{nx ns W W'} hb h=>by rw[hV]at h ⊢;exact h.below hb
 have CN:Hid (∀{nx:Array Value} {ns:List Nd} {W:World},V nx ns W->W.cell? ⟨w,0,none⟩=some (.slice A ds.length cap) /\ W.cell? ⟨w,1,none⟩=some (.slice B ls.length e9)):=λ{nx ns W} h=>by rw[hV]at h;exact⟨h.bN.cell 0 _ rfl,h.bN.cell 1 _ rfl⟩
 have DEV:Hid (∀{nx:Array Value} {ns:List Nd} {W:World} (k:Nat) (d:Dv),ds[k]?=some d->V nx ns W->∃b o Ab nb cb Ae nr cr At nt ct,A=some ⟨b,o,none⟩ /\ W.cell? ⟨b,o+k*7,none⟩=some (.string d.name) /\ W.cell? ⟨b,o+k*7+1,none⟩=some (.int .i64 d.kind) /\ W.cell? ⟨b,o+k*7+2,none⟩=some (.int .i64 d.addr) /\ W.cell? ⟨b,o+k*7+3,none⟩=some (.int .u8 (d.pool:Int)) /\ W.cell? ⟨b,o+k*7+4,none⟩=some (.slice Ab nb cb) /\ W.cell? ⟨b,o+k*7+5,none⟩=some (.slice Ae nr cr) /\ W.cell? ⟨b,o+k*7+6,none⟩=some (.slice At nt ct)):=λ{nx ns W} k d hk h=>by
  rw[hV]at h;obtain⟨b,o,vb,vr,vt,ea,hbb,s1,s2,s3,c0,c1,c2,c3,c4,c5,c6⟩:=hD.out.at hk;have hbl:=hR.kp_below h.kp;have up:∀{j:Nat} {v:Value},w.cell? ⟨b,j,none⟩=some v->W.cell? ⟨b,j,none⟩=some v:=λ{j v} hc=>(hbl.cell (p:=⟨b,j,none⟩) hbb).trans hc;obtain⟨Ab,cb,rfl,q1⟩:=id s1;obtain⟨Ae,cr,rfl,q2⟩:=id s2;obtain⟨At,ct,rfl,q3⟩:=id s3;exact⟨b,o,Ab,_,cb,Ae,_,cr,At,_,ct,ea,up c0,up c1,up c2,up c3,up c4,up c5,up c6⟩
 have hd10:ds.length<=10:=(bi hz.out).1;obtain⟨_,hcap,hcm⟩:=hD.out.len;unfold maxLen at hcm;clear G4 D4;obtain⟨n0,n1⟩:=CN.out V4;go_enter func27,ntmps27;go_wp2_with fail;go_loopw[16] (λi wr=>∃(k:Nat) (nx:Array Value) (ns:List Nd),i=.int .i64 (k:Int) /\ k<=ds.length /\ V nx ns wr /\ Hid (∃sx,SetsV nx sx /\ HInv ds ls k ns sx /\ nx.all (·.oneCell')=true /\ ns.length<=nsR.length+44*k)) (λi _=>ds.length-(intOf i).toNat)
 case atStart=>exact⟨0,zeros40,nsR,rfl,by omega,V4,⟨_,nA,I0.out,zeros_one,by omega⟩⟩
 case round =>
  clear V4 n0 n1 I0;obtain⟨k,nx,ns,rfl,hk,V1,J1⟩:=hrel;by_cases hlt:k<ds.length
  rotate_left
  ·have hke:k=ds.length:=by omega
   have GG:=V1;rw[hV]at GG;have BX:Hid (Bz wr (w.heap.size+1+1) nx 89):=GG.bx;have BZ:Hid (Bz wr (w.heap.size+1) zeros40 89):=GG.bz;have NX:Hid (nx.size=40 /\ nx.all (·.oneCell')=true):=by
    obtain⟨sx,q1,_,q3,_⟩:=J1.out;exact⟨q1.1,q3⟩
   have hF:∀i,i≠w.heap.size+1->(wr.setRow (w.heap.size+1) nx).heap[i]?=wr.heap[i]?:=λi hi=>by rw[setRow_heap' wr _ zeros40 nx _ GG.bz i,if_neg (λe=>hi e.symm)]
   have L:=(GG.ar.outBox GG.bz (by decide) (by decide)).out;have n1:R≠w.heap.size+1:=λe=>L.not (Or.inl e.symm);have n2:MR≠w.heap.size+1:=λe=>L.not (Or.inr (Or.inr (Or.inl e.symm)));have n3:rowOf wr R≠w.heap.size+1:=λe=>L.ne e.symm;have er:rowOf (wr.setRow (w.heap.size+1) nx) R=rowOf wr R:=aQ (hF R n1);have BR:Hid (Bz (wr.setRow (w.heap.size+1) nx) (w.heap.size+1) nx 89):=by
    show _=_;rw[setRow_heap' wr _ zeros40 nx _ GG.bz,if_pos rfl]
   have FF:Hid (HOut w bR R MR a7 nsR ds ls (.returned (.tuple #[.agg nx,.int .i64 0])) (wr.setRow (w.heap.size+1) nx)):=by
    have kp2:Kp (ca bR R MR 14 a7) w (wr.setRow (w.heap.size+1) nx):=by
     refine⟨GG.kp.os,GG.kp.tape,GG.kp.output,by simp[World.setRow];exact GG.kp.size,λi hi hm hr=>(hF i (by omega)).trans (GG.kp.blk i hi hm hr),?_,λj hj=>?_⟩
     ·rw[show rowOf (wr.setRow (w.heap.size+1) nx) (ca bR R MR 14 a7).a=rowOf wr (ca bR R MR 14 a7).a from er];exact GG.kp.row
     ·rw[<- GG.kp.post j hj];exact bJ (hF R n1)
    refine⟨nx,0,ns,rfl,NX.out,GG.ar.same (hF _ n1) (hF _ n2) (hF _ n3),kp2,GG.ext,λi c t hb ht=>((hR.outBox hb ht.1 ht.2.1).kp kp2).blk,?_,Or.inl ⟨rfl,?_⟩⟩
    ·obtain⟨sx,_,_,_,q4⟩:=J1.out;rw[hke]at q4;exact q4
    ·obtain⟨sx,q1,q2,_⟩:=J1.out;rw[hke]at q2;exact⟨sx,q1,q2⟩
   have HN:Hid ((prog.info? 89).map (·.size)=some nx.size):=fw NX.out.1;have HZ:Hid (zeros40.size=nx.size):=by show _=_;rw[NX.out.1];rfl
   clear GG hF L n1 n2 n3 er hV KP CN DEV J1 hR hD hL hdv;go_upto_region 12 with fail;go_step;refine wpList_load_row rfl 89 _ rfl _ rfl _ nx (0,0) _ BX.out bQ rfl HN.out ?_;simp only[Act.put,List.setIfInBounds_toArray,List.set_cons_zero,List.set_cons_succ];go_step;refine wp_store_row 89 _ _ rfl _ nx rfl rfl _ _ BZ.out HN.out HZ.out NX.out.2 ?_;simp only[Act.put];go_wp2_with fail;refine bodyPost_ret (v:=.tuple #[.agg nx,.int .i64 0]) (by simp[results,results27,asAddr,run_loadVar_row (wr.setRow (w.heap.size+1) nx) (w.heap.size+1) 89 89 nx (0,0) _ BR.out bQ rfl HN.out]) rfl FF.out
  obtain⟨d,hxk⟩:∃d,ds[k]?=some d:=⟨_,List.getElem?_eq_getElem hlt⟩;obtain⟨b,o,Ab,nb,cb,Ae,nr,cr,At,nt,ct,rfl,c0,c1,c2,c3,c4,c5,c6⟩:=DEV.out k d hxk V1;have HX:Hid (ds[k]?=some d):=hxk;have HDC:Hid (aE d=0):=hdv.out d (List.mem_of_getElem? hxk);have k1:(0:Int)<=(k:Int):=by omega
  have k2:(k:Int)<(ds.length:Int):=by omega
  have k3:(k:Int)<10:=by omega
  have V2:=KP ((Below.refl _ _).alloc (Nat.le_refl _) (.cells #[.string d.name,.int .i64 d.kind,.int .i64 d.addr,.int .u8 (d.pool:Int),.slice Ab nb cb,.slice Ae nr cr,.slice At nt ct] 70)) V1;have DB:Bz (wr.alloc (.cells #[.string d.name,.int .i64 d.kind,.int .i64 d.addr,.int .u8 (d.pool:Int),.slice Ab nb cb,.slice Ae nr cr,.slice At nt ct] 70)) wr.heap.size #[.string d.name,.int .i64 d.kind,.int .i64 d.addr,.int .u8 (d.pool:Int),.slice Ab nb cb,.slice Ae nr cr,.slice At nt ct] 70:=Bz.new wr _ _ _ rfl;obtain⟨n0,n1⟩:=CN.out V2;have P1:Hid (Cl 59 #[.agg #[.slice (some ⟨b,o,none⟩) ds.length cap,.slice B ls.length e9],.agg #[(k:Int),.int .i64 0]] (wr.alloc (.cells #[.string d.name,.int .i64 d.kind,.int .i64 d.addr,.int .u8 (d.pool:Int),.slice Ab nb cb,.slice Ae nr cr,.slice At nt ct] 70)) λe w'=>e=.returned (.tuple #[bS (peerF ls k 0),.bool (peerF ls k 0).isSome]) /\ Below (wr.alloc (.cells #[.string d.name,.int .i64 d.kind,.int .i64 d.addr,.int .u8 (d.pool:Int),.slice Ab nb cb,.slice Ae nr cr,.slice At nt ct] 70)).heap.size (wr.alloc (.cells #[.string d.name,.int .i64 d.kind,.int .i64 d.addr,.int .u8 (d.pool:Int),.slice Ab nb cb,.slice Ae nr cr,.slice At nt ct] 70)) w'):=by
   have h:=V2;rw[hV]at h;have hbl:=hR.kp_below h.kp;exact ib _ B _ e9 ls (k:Int) 0 _ ((hL.out.below hbl).mono (Nat.le_trans (Nat.le_trans hR.lowA (Nat.le_of_lt hR.lta)) h.kp.size))
  have DBh:Hid (Bz (wr.alloc (.cells #[.string d.name,.int .i64 d.kind,.int .i64 d.addr,.int .u8 (d.pool:Int),.slice Ab nb cb,.slice Ae nr cr,.slice At nt ct] 70)) wr.heap.size #[.string d.name,.int .i64 d.kind,.int .i64 d.addr,.int .u8 (d.pool:Int),.slice Ab nb cb,.slice Ae nr cr,.slice At nt ct] 70):=DB;clear hxk DB;cases hp:peerF ls k 0 with
  | none =>
    rw[hp]at P1;have J2:Hid (∃sx,SetsV nx sx /\ HInv ds ls (k+1) ns sx /\ nx.all (·.oneCell')=true /\ ns.length<=nsR.length+44*(k+1)):=by
     obtain⟨sx,q1,q2,q3,q4⟩:=J1.out;exact⟨sx,q1,nz q2 HX.out (Or.inr hp),q3,by omega⟩
    clear CN J1 hp DEV;unfold bS Option.isSome at P1;go_wp2_with fail;with_reducible refine P1.out.mono ?_
    rintro e w5⟨rfl,hb5⟩;have V5:=KP ((Below.refl _ _).alloc (Nat.le_refl _) (.cells #[.int .i64 0,.int .i64 0] 27)) (KP hb5 V2);have DB5:Bz (w5.alloc (.cells #[.int .i64 0,.int .i64 0] 27)) wr.heap.size #[.string d.name,.int .i64 d.kind,.int .i64 d.addr,.int .u8 (d.pool:Int),.slice Ab nb cb,.slice Ae nr cr,.slice At nt ct] 70:=Bz.al ((hb5.block _ DBh.out.lt).trans DBh.out) _;have d1:=DB5.cell 1 (.int .i64 d.kind) rfl;clear DB5 hb5 P1 V1 V2 c0 c1 c2 c3 c4 c5 c6 n0 n1;by_cases hkd:d.kind=1
    ·go_wp2_with fail;go_roundw
     case rel=>exact⟨k+1,nx,ns,by go_num,by omega,V5,J2⟩
     case measure=>simp[intOf];omega
    ·go_wp2_with fail;go_roundw
     case rel=>exact⟨k+1,nx,ns,by go_num,by omega,V5,J2⟩
     case measure=>simp[intOf];omega
  | some t =>
    obtain⟨a,b',rfl,ha,hb'⟩:=fW hz.out hp;rw[hp]at P1;have HP:Hid (peerF ls k 0=some ((a:Int),(b':Int))):=hp;have a10:(a:Int)<10:=by omega
    have b4:(b':Int)<4:=by omega
    have HA:Hid (a<10 /\ b'<4):=⟨ha,hb'⟩;clear hp ha hb' DEV CN;unfold bS Option.isSome at P1;dsimp only at P1;by_cases hkd:d.kind=1
    rotate_left
    ·have J2:Hid (∃sx,SetsV nx sx /\ HInv ds ls (k+1) ns sx /\ nx.all (·.oneCell')=true /\ ns.length<=nsR.length+44*(k+1)):=by
      obtain⟨sx,q1,q2,q3,q4⟩:=J1.out;exact⟨sx,q1,nz q2 HX.out (Or.inl hkd),q3,by omega⟩
     clear J1;go_wp2_with fail;with_reducible refine P1.out.mono ?_
     rintro e w5⟨rfl,hb5⟩;have V5:=KP ((Below.refl _ _).alloc (Nat.le_refl _) (.cells #[(a:Int),(b':Int)] 27)) (KP hb5 V2);have DB5:Bz (w5.alloc (.cells #[(a:Int),(b':Int)] 27)) wr.heap.size #[.string d.name,.int .i64 d.kind,.int .i64 d.addr,.int .u8 (d.pool:Int),.slice Ab nb cb,.slice Ae nr cr,.slice At nt ct] 70:=Bz.al ((hb5.block _ DBh.out.lt).trans DBh.out) _;have d1:=DB5.cell 1 (.int .i64 d.kind) rfl;clear DB5 hb5 P1 V1 V2 c0 c1 c2 c3 c4 c5 c6 n0 n1;go_wp2_with fail;go_roundw
     case rel=>exact⟨k+1,nx,ns,by go_num,by omega,V5,J2⟩
     case measure=>simp[intOf];omega
    have HKD:Hid (d.kind=1):=hkd;clear hkd;go_wp2_with fail;with_reducible refine P1.out.mono ?_
    rintro e w5⟨rfl,hb5⟩;have V5:=KP ((Below.refl _ _).alloc (Nat.le_refl _) (.cells #[(a:Int),(b':Int)] 27)) (KP hb5 V2);obtain⟨D,hDD⟩:∃D,D=wr.heap.size:=⟨_,rfl⟩;have DB5:Bz (w5.alloc (.cells #[(a:Int),(b':Int)] 27)) wr.heap.size #[.string d.name,.int .i64 d.kind,.int .i64 d.addr,.int .u8 (d.pool:Int),.slice Ab nb cb,.slice Ae nr cr,.slice At nt ct] 70:=Bz.al ((hb5.block _ DBh.out.lt).trans DBh.out) _;have PB5:Bz (w5.alloc (.cells #[(a:Int),(b':Int)] 27)) w5.heap.size #[(a:Int),(b':Int)] 27:=Bz.new w5 _ _ _ rfl;have dl:D<w5.heap.size+1:=by
     have:=DB5.lt;simp at this;omega
    rw[<- hDD]at DB5 ⊢;clear hb5 P1 V1 V2 c0 c1 c2 c3 c4 c5 c6 n0 n1 DBh hDD;obtain⟨⟨_,_⟩,⟨ad0,ad16⟩,_⟩:=fU HDC.out;have hzz:=gw ad0 ad16;obtain⟨zz,hzq⟩:∃zz,zz=setL [d.addr] 0:=⟨_,rfl⟩;have HZ:Hid (zz=setL [d.addr] 0):=hzq;rw[<- hzq]at hzz;have SI:Hid (∀(k:Nat) W,Bz W k #[.int .i64 d.addr] 3->CB 61 #[.slice k 1 1] W (.agg #[.int .u16 (zz:Int),.int .u16 65535,.int .u8 255,.int .u8 255])):=λk W hk=>by
     rw[hzq];exact jM _ [d.addr] W (gv hk) (λy hy=>by simp at hy;omega)
    obtain⟨K,hK⟩:∃K:World->Prop,K=λW=>(V nx ns W /\ Bz W D #[.string d.name,.int .i64 d.kind,.int .i64 d.addr,.int .u8 (d.pool:Int),.slice Ab nb cb,.slice Ae nr cr,.slice At nt ct] 70 /\ Bz W w5.heap.size #[(a:Int),(b':Int)] 27):=⟨_,rfl⟩;have SI3:Hid (Cl 61 #[.slice (some ⟨w5.heap.size+1,0,none⟩) 1 1] ((w5.alloc (.cells #[(a:Int),(b':Int)] 27)).alloc (.cells #[.int .i64 d.addr] 3)).drew λe w'=>e=.returned (.agg #[.int .u16 (zz:Int),.int .u16 65535,.int .u8 255,.int .u8 255]) /\ K w' /\ w'.cell? ⟨D,2,none⟩=some (.int .i64 d.addr)):=by
     have Z3:Bz ((w5.alloc (.cells #[(a:Int),(b':Int)] 27)).alloc (.cells #[.int .i64 d.addr] 3)).drew (w5.heap.size+1) #[.int .i64 d.addr] 3:=Bz.new (w5.alloc _) _ _ _ (by simp);refine(SI.out _ _ Z3).mono λe w' ⟨h1,h2⟩=>⟨h1,?_⟩;have h3:Below (w5.alloc (.cells #[(a:Int),(b':Int)] 27)).heap.size (w5.alloc (.cells #[(a:Int),(b':Int)] 27)) ((w5.alloc (.cells #[(a:Int),(b':Int)] 27)).alloc (.cells #[.int .i64 d.addr] 3)).drew:=((Below.refl _ _).alloc (Nat.le_refl _) _).drew;have h4:=h3.trans (h2.mono h3.size);have q2:=(h4.block _ DB5.lt).trans DB5;rw[hK];exact⟨⟨KP h4 V5,q2,(h4.block _ PB5.lt).trans PB5⟩,Bz.cell q2 2 _ rfl⟩
    have MB:Hid (∀W,K W->Cl 60 #[.pointer R,.agg #[.int .u16 (zz:Int),.int .u16 65535,.int .u8 255,.int .u8 255]] W λe w'=>∃(ns':List Nd) (v er:Int),e=.returned (.tuple #[.int .i64 v,er]) /\ (V nx ns' w' /\ Bz w' D #[.string d.name,.int .i64 d.kind,.int .i64 d.addr,.int .u8 (d.pool:Int),.slice Ab nb cb,.slice Ae nr cr,.slice At nt ct] 70 /\ Bz w' w5.heap.size #[(a:Int),(b':Int)] 27) /\ Hid (Wf 14 ns /\ Wf 14 ns' /\ Ext ns ns' /\ ns'.length<=ns.length+44) /\ w'.cell? ⟨D,2,none⟩=some (.int .i64 d.addr) /\ Hid ((er=0 /\ ∃f:Nat,v=(f:Int) /\ f<ns'.length /\ ∀x,ev ns' f x=phi zz 65535 255 255 x)\/(er=6 /\ v=0 /\ a7<=ns.length+44))):=λW h=>by
     rw[hK]at h;obtain⟨h1,h2,h3⟩:=h;rw[hV]at h1 ⊢;refine(iR h1.ar (Nat.le_refl _) zz 65535 255 255 hzz (by omega) (by omega) (by omega)).mono λe w' ⟨ns',A1,K1,X1,L1,hv⟩=>?_;have q2:=h1.tf K1 h2 (by decide);have q3:=h1.tf K1 h3 (by decide);have q4:=q2.cell 2 (.int .i64 d.addr) rfl;rcases hv with⟨f,he,hf,_,hx⟩|⟨he,hm6⟩
     ·exact⟨ns',f,0,he,⟨h1.step A1 K1 X1,q2,q3⟩,⟨h1.ar.wf,A1.wf,X1,L1⟩,q4,Or.inl ⟨rfl,f,rfl,hf,hx⟩⟩
     ·exact⟨ns',0,6,he,⟨h1.step A1 K1 X1,q2,q3⟩,⟨h1.ar.wf,A1.wf,X1,L1⟩,q4,Or.inr ⟨rfl,rfl,by omega⟩⟩
    have SX:Hid (∀{nx:Array Value} {ns:List Nd} {W:World} (j:Nat) (u:Value),V nx ns W->V (nx.setIfInBounds j u) ns (W.setCell ⟨w.heap.size+1+1,j,none⟩ u)):=λ{nx ns W} j u h=>by
     rw[hV]at h ⊢;exact h.setx j u
    have XC:Hid (∀{nx:Array Value} {ns:List Nd} {W:World} (j:Nat),j<nx.size->V nx ns W->(∃v,W.cell? ⟨w.heap.size+1+1,j,none⟩=some v) /\ W.frozen? ⟨w.heap.size+1+1,j,none⟩=false):=λ{nx ns W} j hj h=>by
     rw[hV]at h;exact⟨⟨_,h.bx.cell j _ (Array.getElem?_eq_getElem hj)⟩,h.bx.free j⟩
    have EOUT:Hid (∀{nx:Array Value} {ns:List Nd} {W:World},V nx ns W->ns.length<=nsR.length+44*ds.length->a7<=nsR.length+44*ds.length->Hid (Bz W (w.heap.size+1) zeros40 89) /\ Hid (HOut w bR R MR a7 nsR ds ls (.returned (.tuple #[.agg zeros40,.int .i64 6])) W)):=λ{nx ns W} h hl4 he4=>by
     rw[hV]at h;exact⟨h.bz,zeros40,6,ns,rfl,⟨rfl,zeros_one⟩,h.ar,h.kp,h.ext,λi c t hb ht=>((hR.outBox hb ht.1 ht.2.1).kp h.kp).blk,hl4,Or.inr ⟨rfl,rfl,he4⟩⟩
    have d1:=DB5.cell 1 (.int .i64 d.kind) rfl;have d2:=DB5.cell 2 (.int .i64 d.addr) rfl;rw[HKD.out]at d1;clear SI hV hK V5 DB5 PB5 hzq hzz hR hD hL hdv HDC;go_wp2_with fail;go_region_held3 (λW=>W.cell? ⟨D,2,none⟩=some (.int .i64 d.addr)) (go_keep)
     ((first
       | (go_at_call 61;(with_reducible refine SI3.out.mono ?_);rintro e w6⟨rfl,K6,y2⟩;skip)
       | (go_at_call 60;(with_reducible refine(MB.out _ K6).mono ?_);rintro e w8⟨ns',v,er,rfl,⟨V8,DB8,PB8⟩,X8,z2,hv8⟩;skip)))
    all_goals
     clear SI3 MB K6 y2 z2 d1 d2 DB8;by_cases he:er=0
     ·subst he;have HV:Hid (∃f:Nat,v=(f:Int) /\ f<ns'.length /\ ∀x,ev ns' f x=phi zz 65535 255 255 x):=by
       rcases hv8.out with⟨_,h⟩|⟨h,_⟩
       ·exact h
       ·cases h
      obtain⟨f,rfl,hf,hfx⟩:=HV.out;have J2:Hid (∃sx,SetsV (nx.setIfInBounds (a*4+b') (.int .i64 (f:Int))) sx /\ HInv ds ls (k+1) ns' sx /\ (nx.setIfInBounds (a*4+b') (.int .i64 (f:Int))).all (·.oneCell')=true /\ ns'.length<=nsR.length+44*(k+1)):=by
       obtain⟨sx,q1,q2,q3,q4⟩:=J1.out;obtain⟨y1,y2,y3,y4⟩:=X8.out;refine⟨dE sx a b' f,q1.upd HA.out.1 HA.out.2,uH q2 (bi hz.out).2.2.1 y1 y2 y3 HX.out HKD.out HP.out hf (λx=>?_),nw q3 _ rfl,by omega⟩;rw[hfx x,HZ.out]
      clear hf hfx HV hv8;have hsz:a*4+b'<nx.size:=by
       obtain⟨sx,q1,_⟩:=J1.out;have:=q1.1;have:=HA.out.1;have:=HA.out.2;omega
      have V8d:=KP (Below.refl _ _).drew V8;obtain⟨⟨vv,cx⟩,fx⟩:=XC.out (a*4+b') hsz V8d;have V9:=SX.out (a*4+b') (.int .i64 (f:Int)) V8d;have g0:w8.drew.cell? ⟨w5,0,none⟩=some (.int .i64 (a:Int)):=PB8.cell 0 _ rfl;have g1:w8.drew.cell? ⟨w5,1,none⟩=some (.int .i64 (b':Int)):=PB8.cell 1 _ rfl;have a0:(0:Int)<=(a:Int):=by omega
      have b0:(0:Int)<=(b':Int):=by omega
      clear XC SX V8 V8d PB8 X8 J1 EOUT;go_wp2_with fail;go_region;all_goals
       go_wp2_with fail;go_roundw
       case rel=>exact⟨k+1,_,ns',by go_num,by omega,V9,J2⟩
       case measure=>simp[intOf];omega
     ·have HE:Hid (er=6):=by
       rcases hv8.out with⟨h,_⟩|⟨h,_⟩
       ·exact absurd h he
       ·exact h
      obtain rfl:=HE.out;have LB:Hid (ns'.length<=nsR.length+44*ds.length /\ a7<=nsR.length+44*ds.length):=by
       obtain⟨_,_,_,_,q4⟩:=J1.out;obtain⟨_,_,_,y4⟩:=X8.out;refine⟨by omega,?_⟩;rcases hv8.out with⟨h,_⟩|⟨_,_,h⟩
       ·exact absurd h (by decide)
       ·omega
      obtain⟨ZB,FF⟩:=EOUT.out V8 LB.out.1 LB.out.2;clear LB;clear XC SX HE he hv8;go_upto_region 9 with fail;go_step
      iterate 7 go_step
      refine wp_store_row 89 _ _ rfl _ zeros40 rfl rfl _ _ ZB.out db (by rfl) zeros_one ?_;rw[ny ZB.out];simp only[Act.put];go_wp2_with fail;refine bodyPost_ret (v:=.tuple #[.agg zeros40,.int .i64 6]) (by simp[results,results27,asAddr,run_loadVar_row w8 (w.heap.size+1) 89 89 zeros40 (0,0) _ ZB.out bQ rfl db]) rfl FF.out
end
end Go.Proofs.YtjmclcmgpaofiaaGreat
