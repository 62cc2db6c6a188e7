/-
  XAP.
-/
import Derived.Test.YtppbfikimalojaaGreatXAO
import Derived.Test.YtppbfikimalojaaGreatXLy
import Derived.Laws.MakeOwn
import Derived.Test.YtppbfikimalojaaGreatXAI
set_option maxHeartbeats 8000000
set_option maxRecDepth 100000
namespace Go.Proofs.YtppbfikimalojaaGreat
open Tryz
open Go.RowKit Go.Maps
section
variable {B0:Nat}{W0 W W':World}{nb sb S M kb mb:Nat}{vd vl:Value}{ds:List Dv}{ls:List Lk}{bl:(Int × Int)->Option Nat}{T:Tab}{k:Int}{P:d7}{t:Int × Int}{b c:Nat}
theorem rh(i q k':Int)(c b S M:Nat)(r:Int)(W:World)(hc:c<16384)(hS:W.cell? ⟨S,1,none⟩=some (.map (some M)))(hl:(Instr.lookup 42 (.map (some M)) (.agg #[.int .i64 i,.int .i64 q]) false).run prog W=.ok (.slice (some ⟨b,0,none⟩) 16384 16384) W)(hr:W.cell? ⟨b,c,none⟩=some (.int .i64 r)) :
  Calls prog 73 #[.pointer (some ⟨S,0,none⟩),.int .i64 i,.int .i64 q,.int .i64 (c:Int),.int .i64 k'] W λe w'=>e=.returned (.bool (decide (0<=r)&&decide (r<=k')))/\w'=W:=by
 have t1:decide ((c:Int)<0)=false:=by simp
 have t2:decide ((16384:Int)<=(c:Int))=false:=by simp;omega
 cases hb:decide (0<=r)
 ·go_enter func73,ntmps73;go_wp2_with fail;go_ret;exact⟨by simp,rfl⟩
 ·go_enter func73,ntmps73;go_wp2_with fail;go_ret;exact⟨by simp,rfl⟩
theorem ri(h:Sx B0 W0 nb sb S M kb mb vd vl ds ls bl T k P W){i q:Int}(hb:bl (i,q)=some b)(hc:c<16384) :
  Calls prog 73 #[.pointer (some ⟨S,0,none⟩),.int .i64 i,.int .i64 q,.int .i64 (c:Int),.int .i64 k] W λe w'=>e=.returned (.bool (wasB T k (i,q) c))/\w'=W:=by
 refine(rh i q k c b S M (tabP T k P (i,q) c) W hc (h.S.two.2) (h.look hb) ((h.row _ b hb).1.cell hc)).mono λe w' ⟨h1,h2⟩=>⟨?_,h2⟩;rw[h1];have:(decide (0<=tabP T k P (i,q) c)&&decide (tabP T k P (i,q) c<=k))=wasB T k (i,q) c:=by
  unfold wasB tabP;rw[Bool.eq_iff_iff];simp only[Bool.and_eq_true,decide_eq_true_eq]
  split <;> omega
 rw[this]
theorem dI(p:Pk)(w:World)(h:i8 p=true):Calls prog 37 #[pkV p] w λe w'=>e=.returned (.int .i64 (codeN p:Int))/\Below w.heap.size w w':=by
 obtain⟨h1,h2,h3,h4⟩:=p9 h;obtain⟨s,d,sp,dp⟩:=p;dsimp only at *;obtain⟨a,rfl⟩:∃a:Nat,s=(a:Int):=⟨s.toNat,by omega⟩;obtain⟨b,rfl⟩:∃a:Nat,d=(a:Int):=⟨d.toNat,by omega⟩;obtain⟨c,rfl⟩:∃a:Nat,sp=(a:Int):=⟨sp.toNat,by omega⟩;obtain⟨e,rfl⟩:∃a:Nat,dp=(a:Int):=⟨dp.toNat,by omega⟩;have hc:((a:Int)*1024+(b:Int)*64+(c:Int)*8+(e:Int))=(codeN ⟨(a:Int),(b:Int),(c:Int),(e:Int)⟩:Int):=by unfold codeN;dsimp only;omega
 have w1:IntKind.i64.wrap ((a:Int)*1024)=(a:Int)*1024:=IntWalk.i64_in _ (by omega);have w2:IntKind.i64.wrap ((b:Int)*64)=(b:Int)*64:=IntWalk.i64_in _ (by omega);have w3:IntKind.i64.wrap ((a:Int)*1024+(b:Int)*64)=(a:Int)*1024+(b:Int)*64:=IntWalk.i64_in _ (by omega);have w4:IntKind.i64.wrap ((c:Int)*8)=(c:Int)*8:=IntWalk.i64_in _ (by omega);have w5:IntKind.i64.wrap ((a:Int)*1024+(b:Int)*64+(c:Int)*8)=(a:Int)*1024+(b:Int)*64+(c:Int)*8:=IntWalk.i64_in _ (by omega);have w6:IntKind.i64.wrap ((a:Int)*1024+(b:Int)*64+(c:Int)*8+(e:Int))=(a:Int)*1024+(b:Int)*64+(c:Int)*8+(e:Int):=IntWalk.i64_in _ (by omega);rw[<- hc];clear hc h;go_enter func37,ntmps37;go_wp2_with fail;go_ret;exact⟨by first|rfl|simp[w1,w2,w3,w4,w5,w6],by go_grown⟩
theorem jR(hz:netV ds ls=0){i q:Int}(h:peerF ls i q=some t):isPl ds t.1 t.2=true:=by
 obtain⟨l,hl,he⟩:=aN h;obtain⟨h10,_,_,hp⟩:=l7 hz;rcases ac he with⟨_,rfl⟩|⟨_,rfl⟩
 ·exact(hp l hl).2
 ·exact(hp l hl).1
theorem rj(vd:Value)(A:Option Addr)(cap:Nat)(ls:List Lk)(i o:Int)(p:Pk)(nb sb kb mb:Nat)(W:World)(hn:Bk W nb #[vd,.slice A ls.length cap] 25)(hL:Hid (Links W.heap.size W (.slice A ls.length cap) ls))(hp:peerF ls i o=none) :
  Calls prog 36 #[.int .i64 i,.int .i64 o,pkV p,.pointer (some ⟨nb,0,none⟩),.pointer (some ⟨sb,0,none⟩),.pointer (some ⟨kb,0,none⟩),.pointer (some ⟨mb,0,none⟩)] W λe w'=>e=.returned (.tuple #[])/\Below W.heap.size W w':=by
 have D1:=Below.alN (Below.refl W.heap.size W) (.cells #[.int .i64 p.s,.int .i64 p.d,.int .i64 p.sp,.int .i64 p.dp] 29);obtain⟨n0,n1⟩:=(hn.alloc (.cells #[.int .i64 p.s,.int .i64 p.d,.int .i64 p.sp,.int .i64 p.dp] 29)).two;have PE:Hid (∀W',Below W.heap.size W W'->Calls prog 35 #[.agg #[vd,.slice A ls.length cap],.agg #[.int .i64 i,.int .i64 o]] W' λe w'=>e=.returned (.tuple #[.agg #[.int .i64 0,.int .i64 0],.bool false])/\Below W'.heap.size W' w'):=λW' h=>by
  have:=rpeer_any vd A ls.length cap ls i o W' ((hL.out.below h).mono h.size);rw[hp]at this;exact this
 clear hn hL hp;obtain⟨s,d,sp,dp⟩:=p;dsimp only at *;go_enter func36,ntmps36;go_wp2_with fail;refine(PE.out _ D1).mono ?_;rintro e w2⟨rfl,hb2⟩;have D2:=g8 hb2 D1;have D3:=(Below.alN D2 (.cells #[.int .i64 0,.int .i64 0] 27)).drew;clear PE D1 hb2 n0 n1;go_wp2_with fail;go_region;go_wp2_with fail
 go_returns
 exact⟨rfl,D3⟩
def FrX(bl:(Int × Int)->Option Nat)(mb:Nat)(W W':World):Prop:=W.heap.size<=W'.heap.size/\∀j,j<W.heap.size->(∀t,bl t≠some j)->j≠mb->W'.heap[j]?=W.heap[j]?
theorem FrX.of_below(h:Below W.heap.size W W'):FrX bl mb W W':=⟨h.size,λj hj _ _=>h.block j hj⟩
theorem FrX.set{u v:Value}(h:Below W.heap.size W W')(hb:bl t=some b):FrX bl mb W ((W'.setCell ⟨b,c,none⟩ u).setCell ⟨mb,0,none⟩ v) :=
 ⟨by simpa[World.setCell]using h.size,λj hj h1 h2=>((Below.heap_setCell _ ⟨mb,0,none⟩ _ j h2).trans (Below.heap_setCell W' ⟨b,c,none⟩ _ j (λe=>h1 t (by rw[hb,e])))).trans (h.block j hj)⟩
theorem rk(A:Option Addr)(cap:Nat)(i o:Int)(p:Pk)(h:Sx B0 W0 nb sb S M kb mb vd (.slice A ls.length cap) ds ls bl T k P W)(hz:netV ds ls=0)(hp:i8 p=true)(hk:0<=k/\k<1000000)(hpe:peerF ls i o=some t) :
  Calls prog 36 #[.int .i64 i,.int .i64 o,pkV p,.pointer (some ⟨nb,0,none⟩),.pointer (some ⟨sb,0,none⟩),.pointer (some ⟨kb,0,none⟩),.pointer (some ⟨mb,0,none⟩)] W λe w'=>e=.returned (.tuple #[])/\Sx B0 W0 nb sb S M kb mb vd (.slice A ls.length cap) ds ls bl T k (i4 P (some t) (codeN p)) w'/\FrX bl mb W w':=by
 obtain⟨b,hb⟩:=h.dom t (jR hz hpe);have hcl:=J5 hp;have D1:=Below.alN (Below.refl W.heap.size W) (.cells #[.int .i64 p.s,.int .i64 p.d,.int .i64 p.sp,.int .i64 p.dp] 29);have Z1:=i7 W #[.int .i64 p.s,.int .i64 p.d,.int .i64 p.sp,.int .i64 p.dp] 29;obtain⟨n0,n1⟩:=(h.n.alloc (.cells #[.int .i64 p.s,.int .i64 p.d,.int .i64 p.sp,.int .i64 p.dp] 29)).two;have PE:Hid (∀W',Below W.heap.size W W'->Calls prog 35 #[.agg #[vd,.slice A ls.length cap],.agg #[.int .i64 i,.int .i64 o]] W' λe w'=>e=.returned (.tuple #[.agg #[.int .i64 t.1,.int .i64 t.2],.bool true])/\Below W'.heap.size W' w'):=λW' hb'=>by
  have:=rpeer_any vd A ls.length cap ls i o W' ((h.grow hb').l.mono (h.grow hb').size);rw[hpe]at this;exact this
 have RC:Hid (∀W',Calls prog 37 #[pkV p] W' λe w'=>e=.returned (.int .i64 (codeN p:Int))/\Below W'.heap.size W' w'):=λW'=>dI p W' hp;generalize codeN p=c at *;obtain⟨s,d,sp,dp⟩:=p;obtain⟨t1,t2⟩:=t;dsimp only at *;have kw:IntKind.i64.wrap (k+1)=k+1:=IntWalk.i64_in _ (by omega);have u1:decide ((c:Int)<0)=false:=by simp
 have u3:(0:Int)<=(c:Int):=by omega
 have u4:(c:Int)<16384:=by omega
 have u5:(c:Int)<=((16384:Nat):Int):=by omega
 have u2:decide ((16384:Int)<=(c:Int))=false:=by simp;omega
 go_enter func36,ntmps36;go_wp2_with fail;refine(PE.out _ D1).mono ?_;rintro e w2⟨rfl,hb2⟩;have hx:Below w2.heap.size w2 (w2.alloc (.cells #[.int .i64 t1,.int .i64 t2] 27)):=Below.alN (Below.refl _ _) _;have X3:=h.grow (g8 hx (g8 hb2 D1));have Z3:=Bk.keep hx (Bk.keep hb2 Z1);have Y3:=i7 w2 #[.int .i64 t1,.int .i64 t2] 27;have BW:Hid (Below W.heap.size W (w2.alloc (.cells #[.int .i64 t1,.int .i64 t2] 27))):=g8 hx (g8 hb2 D1);clear hx PE D1 Z1 hb2 n0 n1 h hpe hp;go_upto_region 2 with fail;generalize w2.alloc (.cells #[.int .i64 t1,.int .i64 t2] 27)=w3 at *;generalize w2.heap.size=z at *;obtain⟨V,hV⟩:∃V:World->Prop,V=λW'=>Below w3.heap.size w3 W':=⟨_,rfl⟩;have FXB:Hid (∀{W':World},V W'->FrX bl mb W W'):=λ{W'} hv=>by
  rw[hV]at hv;exact FrX.of_below (g8 hv BW.out)
 have FXS:Hid (∀{W':World},V W'->FrX bl mb W ((W'.setCell ⟨b,c,none⟩ (.int .i64 (k+1))).setCell ⟨mb,0,none⟩ (.bool true))):=λ{W'} hv=>by
  rw[hV]at hv;exact FrX.set (g8 hv BW.out) hb
 clear BW;generalize W.heap.size=y at *;have V3:V w3.drew:=by rw[hV];exact(Below.refl _ _).drew
 have XV:Hid (∀{W':World},V W'->Sx B0 W0 nb sb S M kb mb vd (.slice A ls.length cap) ds ls bl T k P W'):=λ{W'} hv=>by
  rw[hV]at hv;exact X3.grow hv
 have RV:Hid (∀{W':World},V W'->Calls prog 37 #[.agg #[.int .i64 s,.int .i64 d,.int .i64 sp,.int .i64 dp]] W' λe w'=>e=.returned (.int .i64 (c:Int))/\V w'):=λ{W'} hv=>by
  rw[hV]at hv ⊢;exact(RC.out W').mono λe w' ⟨h1,h2⟩=>⟨h1,g8 h2 hv⟩
 have HC:Hid (∀{W':World},V W'->W'.cell? ⟨sb,0,none⟩=some (.pointer (some ⟨S,0,none⟩))/\W'.cell? ⟨S,1,none⟩=some (.map (some M))/\W'.cell? ⟨z,0,none⟩=some (.int .i64 t1)/\W'.cell? ⟨z,1,none⟩=some (.int .i64 t2)/\(Instr.lookup 42 (.map (some M)) (.agg #[.int .i64 t1,.int .i64 t2]) false).run prog W'=.ok (.slice (some ⟨b,0,none⟩) 16384 16384) W'/\W'.cell? ⟨y,0,none⟩=some (.int .i64 s)/\W'.cell? ⟨y,1,none⟩=some (.int .i64 d)/\W'.cell? ⟨y,2,none⟩=some (.int .i64 sp)/\W'.cell? ⟨y,3,none⟩=some (.int .i64 dp)/\W'.cell? ⟨b,c,none⟩=some (.int .i64 (tabP T k P (t1,t2) c))):=λ{W'} hv=>by
  have X:=XV.out hv;rw[hV]at hv;obtain⟨p0,p1,p2,p3,_⟩:=(Bk.keep hv Z3).four;obtain⟨q0,q1⟩:=(Bk.keep hv Y3).two;exact⟨X.s.one.1,X.S.two.2,q0,q1,X.look hb,p0,p1,p2,p3,(X.row _ b hb).1.cell hcl⟩
 have HD:Hid (∀{W':World},V W'->W'.cell? ⟨sb,0,none⟩=some (.pointer (some ⟨S,0,none⟩))/\W'.cell? ⟨S,1,none⟩=some (.map (some M))/\W'.cell? ⟨z,0,none⟩=some (.int .i64 t1)/\W'.cell? ⟨z,1,none⟩=some (.int .i64 t2)/\(Instr.lookup 42 (.map (some M)) (.agg #[.int .i64 t1,.int .i64 t2]) false).run prog W'=.ok (.slice (some ⟨b,0,none⟩) 16384 16384) W'/\W'.cell? ⟨y,0,none⟩=some (.int .i64 s)/\W'.cell? ⟨y,1,none⟩=some (.int .i64 d)/\W'.cell? ⟨y,2,none⟩=some (.int .i64 sp)/\W'.cell? ⟨y,3,none⟩=some (.int .i64 dp)/\W'.cell? ⟨kb,0,none⟩=some (.int .i64 k)):=λ{W'} hv=>by
  have X:=XV.out hv;obtain⟨a0,a1,a2,a3,a4,a5,a6,a7,a8,a9⟩:=HC.out hv;exact⟨a0,a1,a2,a3,a4,a5,a6,a7,a8,X.k.one.1⟩
 have ND:Hid (∀{W':World},V W'->tabP T k P (t1,t2) c<0->Sx B0 W0 nb sb S M kb mb vd (.slice A ls.length cap) ds ls bl T k (i4 P (some (t1,t2)) c) ((W'.setCell ⟨b,c,none⟩ (.int .i64 (k+1))).setCell ⟨mb,0,none⟩ (.bool true))/\FrX bl mb W ((W'.setCell ⟨b,c,none⟩ (.int .i64 (k+1))).setCell ⟨mb,0,none⟩ (.bool true))/\((W'.setCell ⟨b,c,none⟩ (.int .i64 (k+1))).cell? ⟨mb,0,none⟩=some (.bool (G0 bl T P))/\(W'.setCell ⟨b,c,none⟩ (.int .i64 (k+1))).frozen? ⟨mb,0,none⟩=false)):=λ{W'} hv hlt=>by
  have X:=XV.out hv;have hm:Bk (W'.setCell ⟨b,c,none⟩ (.int .i64 (k+1))) mb #[.bool (G0 bl T P)] 4:=(Below.heap_setCell W' ⟨b,c,none⟩ _ mb (Ne.symm (X.ne hb).2.2.2.2.2)).trans X.m;exact⟨X.put hb hcl hlt hk.1,FXS.out hv,hm.one⟩
 have RW:Hid (∀{W':World},V W'->W'.cell? ⟨b,c,none⟩=some (.int .i64 (tabP T k P (t1,t2) c))/\W'.frozen? ⟨b,c,none⟩=false):=λ{W'} hv=>⟨((XV.out hv).row _ b hb).1.cell hcl,((XV.out hv).row _ b hb).1.fz c⟩;have VD:Hid (∀{W':World},V W'->V W'.drew):=λ{W'} hv=>by
  rw[hV]at hv ⊢;exact hv.drew
 have HE:Hid (∀{W':World},V W'->(λW'=>W'.cell? ⟨sb,0,none⟩=some (.pointer (some ⟨S,0,none⟩))/\W'.cell? ⟨S,1,none⟩=some (.map (some M))/\W'.cell? ⟨z,0,none⟩=some (.int .i64 t1)/\W'.cell? ⟨z,1,none⟩=some (.int .i64 t2)/\(Instr.lookup 42 (.map (some M)) (.agg #[.int .i64 t1,.int .i64 t2]) false).run prog W'=.ok (.slice (some ⟨b,0,none⟩) 16384 16384) W'/\W'.cell? ⟨y,0,none⟩=some (.int .i64 s)/\W'.cell? ⟨y,1,none⟩=some (.int .i64 d)/\W'.cell? ⟨y,2,none⟩=some (.int .i64 sp)/\W'.cell? ⟨y,3,none⟩=some (.int .i64 dp)/\W'.cell? ⟨kb,0,none⟩=some (.int .i64 k)) (W'.setCell ⟨b,c,none⟩ (.int .i64 (k+1)))):=λ{W'} hv=>by
  have X:=XV.out hv;obtain⟨n1,n2,n3,n4,n5,n6⟩:=X.ne hb;rw[hV]at hv;have Zv:=Bk.keep hv Z3;have Yv:=Bk.keep hv Y3;have R:=(X.row _ b hb).1;have h1:∀j,j≠b->(W'.setCell ⟨b,c,none⟩ (.int .i64 (k+1))).heap[j]?=W'.heap[j]?:=λj e=>Below.heap_setCell W' ⟨b,c,none⟩ _ j e;have Xs:Bk (W'.setCell ⟨b,c,none⟩ (.int .i64 (k+1))) sb #[.pointer (some ⟨S,0,none⟩)] 39:=(h1 _ (Ne.symm n2)).trans X.s;have XS:Bk (W'.setCell ⟨b,c,none⟩ (.int .i64 (k+1))) S #[.int .i64 0,.map (some M)] 44:=(h1 _ (Ne.symm n3)).trans X.S;have Xk:Bk (W'.setCell ⟨b,c,none⟩ (.int .i64 (k+1))) kb #[.int .i64 k] 3:=(h1 _ (Ne.symm n5)).trans X.k;have Xz:Bk (W'.setCell ⟨b,c,none⟩ (.int .i64 (k+1))) z #[.int .i64 t1,.int .i64 t2] 27:=(h1 _ (λe=>R.ne2 Yv e.symm)).trans Yv;have Xy:Bk (W'.setCell ⟨b,c,none⟩ (.int .i64 (k+1))) y #[.int .i64 s,.int .i64 d,.int .i64 sp,.int .i64 dp] 29:=(h1 _ (λe=>R.ne4 Zv e.symm)).trans Zv;obtain⟨p0,p1,p2,p3,_⟩:=Xy.four;have L:(Instr.lookup 42 (.map (some M)) (.agg #[.int .i64 t1,.int .i64 t2]) false).run prog (W'.setCell ⟨b,c,none⟩ (.int .i64 (k+1)))=.ok (.slice (some ⟨b,0,none⟩) 16384 16384) (W'.setCell ⟨b,c,none⟩ (.int .i64 (k+1))):=by
   have:=(X.map.same (h1 M (Ne.symm n4))).look1 dA (x:=(t1,t2)) (X.row _ b hb).2.2;rw[hb]at this;exact this
  have Rn:=R.set hcl (k+1);exact⟨Xs.one.1,XS.two.2,Xz.two.1,Xz.two.2,L,p0,p1,p2,p3,Xk.one.1⟩
 have NN:Hid (∀{W':World},V W'->¬tabP T k P (t1,t2) c<0->Sx B0 W0 nb sb S M kb mb vd (.slice A ls.length cap) ds ls bl T k (i4 P (some (t1,t2)) c) W'/\FrX bl mb W W'):=λ{W'} hv hlt=>⟨(XV.out hv).nop hlt,FXB.out hv⟩;clear hV X3 Z3 Y3 RC XV hb FXB FXS;generalize tabP T k P (t1,t2) c=r at *;by_cases hlt:r<0
 ·have f1:decide (r<0)=true:=by simpa using hlt
  go_region_held3 (λW'=>W'.cell? ⟨sb,0,none⟩=some (.pointer (some ⟨S,0,none⟩))/\W'.cell? ⟨S,1,none⟩=some (.map (some M))/\W'.cell? ⟨z,0,none⟩=some (.int .i64 t1)/\W'.cell? ⟨z,1,none⟩=some (.int .i64 t2)/\(Instr.lookup 42 (.map (some M)) (.agg #[.int .i64 t1,.int .i64 t2]) false).run prog W'=.ok (.slice (some ⟨b,0,none⟩) 16384 16384) W'/\W'.cell? ⟨y,0,none⟩=some (.int .i64 s)/\W'.cell? ⟨y,1,none⟩=some (.int .i64 d)/\W'.cell? ⟨y,2,none⟩=some (.int .i64 sp)/\W'.cell? ⟨y,3,none⟩=some (.int .i64 dp)/\W'.cell? ⟨b,c,none⟩=some (.int .i64 r)) (exact HC.out ‹_›)
   ((go_at_call 37;refine(RV.out ‹_›).mono ?_;rintro e w4⟨rfl,V4⟩))
  all_goals
   clear HC;have V4d:V w4.drew:=VD.out V4;go_wp2_with fail;refine wp_region_held_drew (S:=λW'=>W'.cell? ⟨sb,0,none⟩=some (.pointer (some ⟨S,0,none⟩))/\W'.cell? ⟨S,1,none⟩=some (.map (some M))/\W'.cell? ⟨z,0,none⟩=some (.int .i64 t1)/\W'.cell? ⟨z,1,none⟩=some (.int .i64 t2)/\(Instr.lookup 42 (.map (some M)) (.agg #[.int .i64 t1,.int .i64 t2]) false).run prog W'=.ok (.slice (some ⟨b,0,none⟩) 16384 16384) W'/\W'.cell? ⟨y,0,none⟩=some (.int .i64 s)/\W'.cell? ⟨y,1,none⟩=some (.int .i64 d)/\W'.cell? ⟨y,2,none⟩=some (.int .i64 sp)/\W'.cell? ⟨y,3,none⟩=some (.int .i64 dp)/\W'.cell? ⟨kb,0,none⟩=some (.int .i64 k)) (by kernel_rfl) (HD.out V4d) (λhHeld=>?_);refine tk 0 ?_;try simp only[ly]
   refine tk 1 ?_;try simp only[ly]
   refine tk 2 ?_;try simp only[ly]
   refine tk 3 ?_;try simp only[ly]
   refine tk 4 ?_;try simp only[ly]
   refine tk 5 ?_;try simp only[ly]
   refine tk 6 ?_;try simp only[ly]
   refine tk 8 ?_;try simp only[ly]
   refine tk 9 ?_;try simp only[ly]
   refine rd 7 (λK hK=>?_);go_simp;with_reducible refine(RV.out V4d).mono ?_
   rintro e w5⟨rfl,V5⟩;have S5:=HD.out V5;dsimp only;clear hHeld;refine hK.out _ _ S5 (λhHeld=>?_);clear hK K;try simp only[ly]
   refine tk 10 ?_;try simp only[ly]
   refine rd 11 (λK hK=>?_);obtain⟨g0,g1⟩:=RW.out V5;go_simp;clear hHeld;refine hK.out _ _ (HE.out V5) (λhHeld=>?_);clear hK K;refine wpAnyH_done (by kernel_rfl) ?_ _;all_goals
    obtain⟨N1,NF,N2,N3⟩:=ND.out ‹_› hlt;go_wp2_with fail
    go_returns
    exact⟨rfl,N1,NF⟩
 ·have f1:decide (r<0)=false:=by simpa using hlt
  go_region_held3 (λW'=>W'.cell? ⟨sb,0,none⟩=some (.pointer (some ⟨S,0,none⟩))/\W'.cell? ⟨S,1,none⟩=some (.map (some M))/\W'.cell? ⟨z,0,none⟩=some (.int .i64 t1)/\W'.cell? ⟨z,1,none⟩=some (.int .i64 t2)/\(Instr.lookup 42 (.map (some M)) (.agg #[.int .i64 t1,.int .i64 t2]) false).run prog W'=.ok (.slice (some ⟨b,0,none⟩) 16384 16384) W'/\W'.cell? ⟨y,0,none⟩=some (.int .i64 s)/\W'.cell? ⟨y,1,none⟩=some (.int .i64 d)/\W'.cell? ⟨y,2,none⟩=some (.int .i64 sp)/\W'.cell? ⟨y,3,none⟩=some (.int .i64 dp)/\W'.cell? ⟨b,c,none⟩=some (.int .i64 r)) (exact HC.out ‹_›)
   ((go_at_call 37;refine(RV.out ‹_›).mono ?_;rintro e w4⟨rfl,V4⟩))
  all_goals
   obtain⟨N4,NF⟩:=NN.out V4 hlt;go_wp2_with fail
   go_returns
   exact⟨rfl,N4,NF⟩
end
theorem rm:∃i,prog.info? 3=some i/\i.zero=some (.int .i64 0)/\i.size=1/\i.bytes=8:=by
 have h:(prog.info? 3).map (λi=>(i.zero,i.size,i.bytes))=some (some (.int .i64 0),1,8):=by kernel_rfl
 cases hi:prog.info? 3 with
 | none=>simp[hi]at h
 | some i =>
   simp[hi]at h;exact⟨i,rfl,h.1,h.2.1,h.2.2⟩
theorem rn:prog.underlying 50=some (.slice 3):=by kernel_rfl
def zeroRow:Array Value:=madeCells #[.int .i64 0] 16384
theorem ro(w:World):(Instr.makeSlice 50 (.int .i64 16384) (.int .i64 16384)).run prog w=.ok (.slice (some ⟨w.heap.size,0,none⟩) 16384 16384) (w.alloc (.cells zeroRow 3)):=by
 obtain⟨i,h1,h2,h3,h4⟩:=rm;have:=run_makeSlice (P:=prog) w 50 3 i (.int .i64 0) rn h1 h2 .i64 .i64 16384 16384 (by omega) (by omega) (by rw[h3];decide) (by rw[h4];omega) (by omega);rw[h3]at this;exact this
theorem rq(w:World):RowI (w.alloc (.cells zeroRow 3)) w.heap.size (λ_=>0):=by
 refine⟨zeroRow,i7 w _ _,size_madeCells _ _,λc hc=>?_⟩;unfold zeroRow madeCells;rw[Array.getElem?_map,Array.getElem?_range,if_pos hc];simp[Nat.mod_one]
structure Sy(B0:Nat)(W0:World)(nb sb S M:Nat)(vd vl:Value)(ds:List Dv)(ls:List Lk)(bl:(Int × Int)->Option Nat)(nn:Nat)(D:(Int × Int)->Prop)(T:Tab)(W:World):Prop where
 bel:Below B0 W0 W
 d:Devs B0 W vd ds
 l:Links B0 W vl ls
 n:Bk W nb #[vd,vl] 25
 s:Bk W sb #[.pointer (some ⟨S,0,none⟩)] 39
 S:Bk W S #[.int .i64 0,.map (some M)] 44
 map:MapAt du dw W M nn (λt=>(bl t).map some)
 row:∀t b,bl t=some b->RowI W b (T t)/\B0<=b/\N9 t
 inj:∀t t' b,bl t=some b->bl t'=some b->t=t'
 dom:∀t,D t->∃b,bl t=some b
 lo:B0<=M
section
variable {B0:Nat}{W0 W W':World}{nb sb S M kb mb n:Nat}{vd vl:Value}{ds:List Dv}{ls:List Lk}{bl:(Int × Int)->Option Nat}{D:(Int × Int)->Prop}{T:Tab}{k:Int}{P:d7}{t:Int × Int}{b c:Nat}
theorem Sy.size(h:Sy B0 W0 nb sb S M vd vl ds ls bl n D T W):B0<=W.heap.size:=Nat.le_trans h.lo (Nat.le_of_lt h.map.lt)
theorem Sy.grow(h:Sy B0 W0 nb sb S M vd vl ds ls bl n D T W)(hb:Below W.heap.size W W'):Sy B0 W0 nb sb S M vd vl ds ls bl n D T W' :=
 ⟨h.bel.trans (hb.mono h.size),h.d.below (hb.mono h.size),h.l.below (hb.mono h.size),Bk.keep hb h.n,Bk.keep hb h.s,Bk.keep hb h.S,h.map.same (hb.block _ h.map.lt),λt b e=>⟨(h.row t b e).1.below hb,(h.row t b e).2⟩,h.inj,h.dom,h.lo⟩
theorem Sy.weak{n':Nat}{D':(Int × Int)->Prop}(h:Sy B0 W0 nb sb S M vd vl ds ls bl n D T W)(hn:n<=n')(hD:∀t,D' t->D t):Sy B0 W0 nb sb S M vd vl ds ls bl n' D' T W :=
 ⟨h.bel,h.d,h.l,h.n,h.s,h.S,h.map.mono hn,h.row,h.inj,λt ht=>h.dom t (hD t ht),h.lo⟩
theorem Sy.look(h:Sy B0 W0 nb sb S M vd vl ds ls bl n D T W)(hb:bl t=some b):(Instr.lookup 42 (.map (some M)) (.agg #[.int .i64 t.1,.int .i64 t.2]) false).run prog W=.ok (.slice (some ⟨b,0,none⟩) 16384 16384) W:=by
 have:=h.map.look1 dA (x:=t) (h.row t b hb).2.2;rw[hb]at this;exact this
theorem Sy.ne(h:Sy B0 W0 nb sb S M vd vl ds ls bl n D T W)(hb:bl t=some b):b≠nb/\b≠sb/\b≠S/\b≠M :=
 have r:=(h.row t b hb).1
 ⟨r.ne2 h.n,r.ne h.s,r.ne2 h.S,r.map h.map⟩
theorem Sy.put(h:Sy B0 W0 nb sb S M vd vl ds ls bl n D T W)(hb:bl t=some b)(hc:c<16384)(x:Int){T':Tab}(hT:∀t' c',T' t' c'=if t'=t/\c'=c then x else T t' c'):Sy B0 W0 nb sb S M vd vl ds ls bl n D T' (W.setCell ⟨b,c,none⟩ (.int .i64 x)):=by
 obtain⟨n1,n2,n3,n4⟩:=h.ne hb;have hB:=(h.row t b hb).2.1;have h1:∀j,j≠b->(W.setCell ⟨b,c,none⟩ (.int .i64 x)).heap[j]?=W.heap[j]?:=λj e=>Below.heap_setCell W ⟨b,c,none⟩ _ j e;have hbel:Below B0 W (W.setCell ⟨b,c,none⟩ (.int .i64 x)):=(Below.refl B0 W).setCell (p:=⟨b,c,none⟩) hB _;refine⟨h.bel.trans hbel,h.d.below hbel,h.l.below hbel,(h1 _ (Ne.symm n1)).trans h.n,(h1 _ (Ne.symm n2)).trans h.s,(h1 _ (Ne.symm n3)).trans h.S,h.map.same (h1 _ (Ne.symm n4)),λt' b' e=>?_,h.inj,h.dom,h.lo⟩;obtain⟨r1,r2,r3⟩:=h.row t' b' e;refine⟨?_,r2,r3⟩;by_cases htt:t'=t
 ·subst htt;rw[hb]at e;cases e;have:=r1.set hc x;have hf:(λc'=>if c'=c then x else T t' c')=T' t':=funext λc'=>by
   rw[hT];by_cases e:c'=c
   ·rw[if_pos e,if_pos ⟨rfl,e⟩]
   ·rw[if_neg e,if_neg (λh=>e h.2)]
  rw[hf]at this;exact this
 ·have hbb:b'≠b:=λe'=>htt (h.inj t' t b' e (by rw[e'];exact hb));have:=r1.same (h1 b' hbb);have hf:T t'=T' t':=funext λc'=>by
   rw[hT,if_neg (λh=>htt h.1)]
  rw[hf]at this;exact this
theorem Sy.add(h:Sy B0 W0 nb sb S M vd vl ds ls bl n D T W)(hn:n<=100)(hr:RowI W b (T t))(hb:B0<=b)(ht:N9 t)(hnew:∀t',bl t'≠some b) :
  ∃W',(Instr.mapUpdate 42 (.map (some M)) (.agg #[.int .i64 t.1,.int .i64 t.2]) (.slice (some ⟨b,0,none⟩) 16384 16384)).run prog W=.ok () W'/\Sy B0 W0 nb sb S M vd vl ds ls (λt'=>if t'=t then some b else bl t') (n+1) (λt'=>t'=t\/D t') T W':=by
 obtain⟨W',hrun,hm,ht'⟩:=h.map.store dA (by unfold maxLen;omega) (x:=t) ht (some b);have h1:∀j,j<W.heap.size->j≠M->W'.heap[j]?=W.heap[j]?:=λj hj hne=>ht'.grown.block j hj (λe=>hne (by cases e;rfl));have hsz:W.heap.size<=W'.heap.size:=ht'.grown.size;have hbel:Below B0 W W':=⟨ht'.grown.os,ht'.grown.tape,ht'.grown.output,hsz,λj hj=>h1 j (Nat.lt_of_lt_of_le hj h.size) (by have:=h.lo;omega)⟩;have nm:∀{k':Nat} {cs:Array Value} {ty:TypeId},Bk W k' cs ty->Bk W' k' cs ty:=λ{k' cs ty} hk=>(h1 _ hk.lt (λe=>by
  subst e;obtain⟨es,cl,h2⟩:=h.map.isMap;rw[hk]at h2;cases h2)).trans hk
 have nr:∀{b':Nat} {g:Nat->Int},RowI W b' g->RowI W' b' g:=λ{b' g} r=>r.same (h1 _ r.lt (r.map h.map));refine⟨W',hrun,h.bel.trans hbel,h.d.below hbel,h.l.below hbel,nm h.n,nm h.s,nm h.S,?_,λt' b' e=>?_,λt1 t2 b' e1 e2=>?_,λt' hd=>?_,h.lo⟩
 ·have:(λt'=>(if t'=t then some b else bl t').map some)=cV (λt=>(bl t).map some) t (some b):=by
   funext t'
   by_cases e:t'=t
   ·subst e;rw[if_pos rfl,kO];rfl
   ·rw[if_neg e,kP _ _ e]
  rw[this];exact hm
 ·by_cases e':t'=t
  ·subst e';rw[if_pos rfl]at e;cases e;exact⟨nr hr,hb,ht⟩
  ·rw[if_neg e']at e;obtain⟨r1,r2⟩:=h.row t' b' e;exact⟨nr r1,r2⟩
 ·by_cases e3:t1=t <;> by_cases e4:t2=t
  ·rw[e3,e4]
  ·rw[if_pos e3]at e1;rw[if_neg e4]at e2;cases e1;exact absurd e2 (hnew t2)
  ·rw[if_neg e3]at e1;rw[if_pos e4]at e2;cases e2;exact absurd e1 (hnew t1)
  ·rw[if_neg e3]at e1;rw[if_neg e4]at e2;exact h.inj t1 t2 b' e1 e2
 ·by_cases e:t'=t
  ·exact⟨b,if_pos e⟩
  ·obtain⟨b',hb'⟩:=h.dom t' (hd.resolve_left e);exact⟨b',by rw[if_neg e];exact hb'⟩
theorem Sx.toY(h:Sx B0 W0 nb sb S M kb mb vd vl ds ls bl T k P W)(hM:B0<=M):Sy B0 W0 nb sb S M vd vl ds ls bl 40 (λt=>isPl ds t.1 t.2=true) (tabP T k P) W :=
 ⟨h.bel,h.d,h.l,h.n,h.s,h.S,h.map,h.row,h.inj,h.dom,hM⟩
def noP:d7:=λ_ _=>False
theorem rr:tabP T k noP=T:=by
 funext t c
 unfold tabP noP;rw[if_neg (λh=>h.2)]
theorem ru:G0 bl T noP=false:=by
 unfold G0;refine @decide_eq_false _ (Classical.propDecidable _) ?_;rintro⟨t,c,_,_,_,h⟩;exact h
theorem Sy.toX(h:Sy B0 W0 nb sb S M vd vl ds ls bl 40 (λt=>isPl ds t.1 t.2=true) T W)(hk:Bk W kb #[.int .i64 k] 3)(hm:Bk W mb #[.bool false] 4)(hl:B0<=mb):Sx B0 W0 nb sb S M kb mb vd vl ds ls bl T k noP W :=
 ⟨h.bel,h.d,h.l,h.n,h.s,h.S,h.map,λt b e=>by rw[rr];exact h.row t b e,h.inj,hk,by rw[ru];exact hm,hl,h.dom⟩
end
end Go.Proofs.YtppbfikimalojaaGreat
namespace Go.Proofs.YtppbfikimalojaaGreat
open Tryz
open Go.RowKit
theorem aJ(n lo hi:Int)(w:World):Calls prog 8 #[.int .i64 n,.int .i64 lo,.int .i64 hi] w λe w'=>e=.returned (.bool (decide (lo<=n)&&decide (n<=hi)))/\w'=w:=by
 by_cases h:lo<=n
 ·go_enter func8,ntmps8;go_wp2_with fail;go_ret;exact⟨by simp[h],rfl⟩
 ·have h':decide (lo<=n)=false:=by simp;omega
  go_enter func8,ntmps8;go_wp2_with fail;go_ret;exact⟨by simp,rfl⟩
def topV(n:Int)(b:Int):Int:=n / 2 ^ bh b*2 ^ bh b
theorem top_0(n:Int)(w:World)(h0:0<=n)(h1:n<16):Calls prog 134 #[.int .i64 n,.int .i64 4] w λe w'=>e=.returned (.int .i64 (topV n 4))/\w'=w:=by
 have hw2:IntKind.i64.wrap n=n:=IntWalk.i64_in _ (by omega);have hw:wrap64 n=n:=by rw[<- IntWalk.i64_left];exact hw2
 have E:Hid (topV n 4=n):=by show n / 1*1=n;omega
 clear h0 h1;go_enter func134,ntmps134;go_wp2_with fail;go_ret;refine⟨?_,rfl⟩;rw[E.out];first|rfl|(simp;done)|(simp;rw[hw])|(simp;rw[hw2])
theorem top_1(n:Int)(w:World)(h0:0<=n)(h1:n<16):Calls prog 134 #[.int .i64 n,.int .i64 3] w λe w'=>e=.returned (.int .i64 (topV n 3))/\w'=w:=by
 have hw:wrap64 (n / 2*2)=n / 2*2:=by rw[<- IntWalk.i64_left];exact IntWalk.i64_in _ (by omega)
 have hw2:IntKind.i64.wrap (n / 2*2)=n / 2*2:=IntWalk.i64_in _ (by omega);have E:Hid (topV n 3=n / 2*2):=rfl;have F:Hid (0<=n/\n<16):=⟨h0,h1⟩;clear h0 h1;go_enter func134,ntmps134;go_wp2_with fail;go_ret;refine⟨?_,rfl⟩;rw[E.out];first|rfl|(simp;done)|(simp;rw[hw])|(simp;have:=F.out;rw[<- IntWalk.i64_left];exact(IntWalk.i64_in _ (by omega)).symm)
theorem top_2(n:Int)(w:World)(h0:0<=n)(h1:n<16):Calls prog 134 #[.int .i64 n,.int .i64 2] w λe w'=>e=.returned (.int .i64 (topV n 2))/\w'=w:=by
 have hw:wrap64 (n / 4*4)=n / 4*4:=by rw[<- IntWalk.i64_left];exact IntWalk.i64_in _ (by omega)
 have hw2:IntKind.i64.wrap (n / 4*4)=n / 4*4:=IntWalk.i64_in _ (by omega);have E:Hid (topV n 2=n / 4*4):=rfl;have F:Hid (0<=n/\n<16):=⟨h0,h1⟩;clear h0 h1;go_enter func134,ntmps134;go_wp2_with fail;go_ret;refine⟨?_,rfl⟩;rw[E.out];first|rfl|(simp;done)|(simp;rw[hw])|(simp;have:=F.out;rw[<- IntWalk.i64_left];exact(IntWalk.i64_in _ (by omega)).symm)
theorem top_3(n:Int)(w:World)(h0:0<=n)(h1:n<16):Calls prog 134 #[.int .i64 n,.int .i64 1] w λe w'=>e=.returned (.int .i64 (topV n 1))/\w'=w:=by
 have hw:wrap64 (n / 8*8)=n / 8*8:=by rw[<- IntWalk.i64_left];exact IntWalk.i64_in _ (by omega)
 have hw2:IntKind.i64.wrap (n / 8*8)=n / 8*8:=IntWalk.i64_in _ (by omega);have E:Hid (topV n 1=n / 8*8):=rfl;have F:Hid (0<=n/\n<16):=⟨h0,h1⟩;clear h0 h1;go_enter func134,ntmps134;go_wp2_with fail;go_ret;refine⟨?_,rfl⟩;rw[E.out];first|rfl|(simp;done)|(simp;rw[hw])|(simp;have:=F.out;rw[<- IntWalk.i64_left];exact(IntWalk.i64_in _ (by omega)).symm)
theorem top_4(n:Int)(w:World)(h0:0<=n)(h1:n<16):Calls prog 134 #[.int .i64 n,.int .i64 0] w λe w'=>e=.returned (.int .i64 (topV n 0))/\w'=w:=by
 have hw:wrap64 (n / 16*16)=n / 16*16:=by rw[<- IntWalk.i64_left];exact IntWalk.i64_in _ (by omega)
 have hw2:IntKind.i64.wrap (n / 16*16)=n / 16*16:=IntWalk.i64_in _ (by omega);have E:Hid (topV n 0=n / 16*16):=rfl;have F:Hid (0<=n/\n<16):=⟨h0,h1⟩;clear h0 h1;go_enter func134,ntmps134;go_wp2_with fail;go_ret;refine⟨?_,rfl⟩;rw[E.out];first|rfl|(simp;done)|(simp;rw[hw])|(simp;have:=F.out;rw[<- IntWalk.i64_left];exact(IntWalk.i64_in _ (by omega)).symm)
theorem jS(n b:Int)(w:World)(h0:0<=n)(h1:n<16)(h2:0<=b)(h3:b<=4):Calls prog 134 #[.int .i64 n,.int .i64 b] w λe w'=>e=.returned (.int .i64 (topV n b))/\w'=w:=by
 have hb:b=0\/b=1\/b=2\/b=3\/b=4:=by omega
 rcases hb with rfl|rfl|rfl|rfl|rfl
 ·exact top_4 n w h0 h1
 ·exact top_3 n w h0 h1
 ·exact top_2 n w h0 h1
 ·exact top_1 n w h0 h1
 ·exact top_0 n w h0 h1
theorem rx(v b:Int):(topV v b == v)=decide (v % 2 ^ bh b=0):=by
 have h:=Int.mul_ediv_add_emod v (2 ^ bh b);unfold topV;rw[Bool.eq_iff_iff,Int.mul_comm];generalize (2:Int) ^ bh b=m at *;simp;omega
theorem ry{r:Rt}{d:Int}(hr:isR r=true):(topV d r.b == r.v)=takesB r d:=by
 have h:=Int.mul_ediv_add_emod r.v (2 ^ bh r.b);have h2:=(tW hr).2.2;have hp:(0:Int)<2 ^ bh r.b:=Int.pow_pos (by omega);unfold topV takesB;rw[Bool.eq_iff_iff,Int.mul_comm];generalize (2:Int) ^ bh r.b=m at *;simp;rw[h2,Int.add_zero]at h;constructor
 ·intro e;rw[<- h]at e;exact Int.eq_of_mul_eq_mul_left (by omega) e
 ·intro e;rw[e,h]
theorem right_case(v b p t:Int)(w:World)(x0 x1 x3:Bool)
  (h0:Hid (∀w,Calls prog 8 #[.int .i64 b,.int .i64 0,.int .i64 4] w λe w'=>e=.returned (.bool x0)/\w'=w))
  (h1:Hid (∀w,Calls prog 8 #[.int .i64 v,.int .i64 0,.int .i64 15] w λe w'=>e=.returned (.bool x1)/\w'=w))
  (h2:Hid ((x0&&x1)=true->∀w,Calls prog 134 #[.int .i64 v,.int .i64 b] w λe w'=>e=.returned (.int .i64 t)/\w'=w))
  (h3:Hid (∀w,Calls prog 8 #[.int .i64 p,.int .i64 0,.int .i64 3] w λe w'=>e=.returned (.bool x3)/\w'=w)) :
  Calls prog 133 #[rtw v b p] w λe w'=>e=.returned (.bool (x0&&x1&&(t == v)&&x3))/\Below w.heap.size w w':=by
 have D0:=Below.al (Below.refl w.heap.size w) (.cells #[.int .i64 v,.int .i64 b,.int .i64 p] 210);cases x0
 ·go_enter func133,ntmps133;go_wp2_with fail
  go_quiet ((go_at_call_of 8 (Value.int .i64 b);exact Calls.quiet_of_same (h0.out _)))
  go_wp2_with fail;go_ret;exact⟨by simp,aO D0 _⟩
 cases x1
 ·go_enter func133,ntmps133;go_wp2_with fail
  go_quiet ((first|(go_at_call_of 8 (Value.int .i64 b);exact Calls.quiet_of_same (h0.out _))|(go_at_call_of 8 (Value.int .i64 v);exact Calls.quiet_of_same (h1.out _))))
  go_wp2_with fail;go_ret;exact⟨by simp,aO D0 _⟩
 have H2:Hid (∀w,Calls prog 134 #[.int .i64 v,.int .i64 b] w λe w'=>e=.returned (.int .i64 t)/\w'=w):=h2.out rfl;clear h2;cases ht:(t == v)
 ·go_enter func133,ntmps133;go_wp2_with fail
  go_quiet ((first|(go_at_call_of 8 (Value.int .i64 b);exact Calls.quiet_of_same (h0.out _))|(go_at_call_of 8 (Value.int .i64 v);exact Calls.quiet_of_same (h1.out _))|(go_at_call 134;exact Calls.quiet_of_same (H2.out _))))
  go_wp2_with fail;go_ret;exact⟨by simp,aO D0 _⟩
 ·go_enter func133,ntmps133;go_wp2_with fail
  go_quiet ((first|(go_at_call_of 8 (Value.int .i64 b);exact Calls.quiet_of_same (h0.out _))|(go_at_call_of 8 (Value.int .i64 v);exact Calls.quiet_of_same (h1.out _))|(go_at_call_of 8 (Value.int .i64 p);exact Calls.quiet_of_same (h3.out _))|(go_at_call 134;exact Calls.quiet_of_same (H2.out _))))
  go_wp2_with fail;go_ret;exact⟨by simp,aO D0 _⟩
theorem jT(r:Rt)(w:World):Calls prog 133 #[rtw r.v r.b r.p] w λe w'=>e=.returned (.bool (isR r))/\Below w.heap.size w w':=by
 obtain⟨v,b,p⟩:=r;have e:isR ⟨v,b,p⟩=((decide (0<=b)&&decide (b<=4))&&(decide (0<=v)&&decide (v<=15))&&(topV v b == v)&&(decide (0<=p)&&decide (p<=3))):=by
  rw[rx,show decide (v<=15)=decide (v<16) by rw[decide_eq_decide];omega,show decide (p<=3)=decide (p<4) by rw[decide_eq_decide];omega];simp only[isR,Bool.and_assoc]
 rw[e];refine right_case v b p (topV v b) w _ _ _ (λw=>aJ b 0 4 w) (λw=>aJ v 0 15 w) (λh w=>?_) (λw=>aJ p 0 3 w);simp only[Bool.and_eq_true,decide_eq_true_eq]at h;exact jS v b w h.2.1 (by omega) h.1.1 h.1.2
def pB(d:Int)(n:Nat)(r:Rt):Bool:=isR r&&(r.b ==(n:Int))&&takesB r d
def Jq7(l:List Rt)(d:Int):Nat->Option Rt
 | 0=>none
 | n+1=>(l.find? (pB d n)).or (Jq7 l d n)
def rp:Option Rt->Int
 | some r=>r.p
 | none=>0
theorem jU{xs:List Rt}{k:Nat}{r:Rt}{q:Rt->Bool}(h:xs[k]?=some r):(xs.take (k+1)).find? q=((xs.take k).find? q).or (if q r then some r else none):=by
 obtain⟨hk,e⟩:=List.getElem?_eq_some_iff.1 h;rw[List.take_succ_eq_append_getElem hk,e,List.find?_append]
 congr 1
 simp only[List.find?_cons,List.find?_nil];cases q r <;> simp
theorem rz{xs:List Rt}{k:Nat}{r:Rt}{q:Rt->Bool}(h:xs[k]?=some r)(h0:(xs.take k).find? q=none)(hq:q r=true):xs.find? q=some r:=by
 have e:=jU (q:=q) h;rw[h0,hq]at e;simp only[if_true,Option.none_or]at e;rw[<- List.take_append_drop (k+1) xs,List.find?_append,e];rfl
theorem rA(d:Int)(l:List Rt):((j7 l d).1=-1/\∀r∈l,(isR r&&takesB r d)=false)\/(∃n:Nat,n<=4/\(j7 l d).1=(n:Int)/\(∃r,l.find? (pB d n)=some r/\r.p=(j7 l d).2)/\∀r∈l,(isR r&&takesB r d)=true->r.b<=(n:Int)):=by
 suffices H:∀m:List Rt,((j7 m.reverse d).1=-1/\∀r∈m.reverse,(isR r&&takesB r d)=false)\/(∃n:Nat,n<=4/\(j7 m.reverse d).1=(n:Int)/\(∃r,m.reverse.find? (pB d n)=some r/\r.p=(j7 m.reverse d).2)/\∀r∈m.reverse,(isR r&&takesB r d)=true->r.b<=(n:Int)) by
  have:=H l.reverse;rw[List.reverse_reverse]at this;exact this
 intro m
 induction m with
 | nil=>exact Or.inl ⟨rfl,λr h=>by cases h⟩
 | cons x m ih =>
   rw[List.reverse_cons,kT];generalize m.reverse=l at *;by_cases hq:(isR x&&takesB x d)=true
   ·have hb:=ii (by simp only[Bool.and_eq_true]at hq;exact hq.1);obtain⟨n',hn'⟩:∃n':Nat,x.b=(n':Int):=⟨x.b.toNat,by omega⟩;by_cases hm:(j7 l d).1<x.b
    ·have e:O0 d (j7 l d) x=(x.b,x.p):=by
      unfold O0;rw[hq,Bool.true_and,if_pos (decide_eq_true hm)]
     rw[e];refine Or.inr ⟨n',by omega,hn',⟨x,?_,rfl⟩,?_⟩
     ·have h0:l.find? (pB d n')=none:=by
       rw[List.find?_eq_none];intro r hr hp;simp only[pB,Bool.and_eq_true,beq_iff_eq]at hp;rcases ih with⟨_,h⟩|⟨n,_,e1,_,h⟩
       ·have:=h r hr;rw[hp.1.1,hp.2]at this;cases this
       ·have:=h r hr (by rw[hp.1.1,hp.2];rfl);omega
      rw[List.find?_append,h0,Option.none_or];simp only[List.find?_cons];have:pB d n' x=true:=by
       simp only[Bool.and_eq_true]at hq;simp only[pB,hq.1,hq.2,hn',beq_self_eq_true,Bool.and_self]
      rw[this]
     ·intro r hr hqr;rcases List.mem_append.1 hr with hr|hr
      ·rcases ih with⟨_,h⟩|⟨n,_,e1,_,h⟩
       ·have:=h r hr;rw[hqr]at this;cases this
       ·have:=h r hr hqr;omega
      ·simp only[List.mem_cons,List.not_mem_nil,or_false]at hr;subst hr;omega
    ·have e:O0 d (j7 l d) x=j7 l d:=by
      unfold O0;rw[hq,Bool.true_and,if_neg (by simp only[decide_eq_true_eq];exact hm)]
     rw[e];rcases ih with⟨e1,_⟩|⟨n,hn,e1,⟨r0,hf,hp⟩,h⟩
     ·omega
     ·refine Or.inr ⟨n,hn,e1,⟨r0,by rw[List.find?_append,hf];rfl,hp⟩,?_⟩;intro r hr hqr;rcases List.mem_append.1 hr with hr|hr
      ·exact h r hr hqr
      ·simp only[List.mem_cons,List.not_mem_nil,or_false]at hr;subst hr;omega
   ·have e:O0 d (j7 l d) x=j7 l d:=by
     unfold O0;rw[if_neg (by simp only[Bool.and_eq_true]at hq ⊢;exact λh=>hq h.1)]
    rw[e];have hq':(isR x&&takesB x d)=false:=by simpa using hq
    rcases ih with⟨e1,h⟩|⟨n,hn,e1,⟨r0,hf,hp⟩,h⟩
    ·refine Or.inl ⟨e1,λr hr=>?_⟩;rcases List.mem_append.1 hr with hr|hr
     ·exact h r hr
     ·simp only[List.mem_cons,List.not_mem_nil,or_false]at hr;subst hr;exact hq'
    ·refine Or.inr ⟨n,hn,e1,⟨r0,by rw[List.find?_append,hf];rfl,hp⟩,?_⟩;intro r hr hqr;rcases List.mem_append.1 hr with hr|hr
     ·exact h r hr hqr
     ·simp only[List.mem_cons,List.not_mem_nil,or_false]at hr;subst hr;rw[hq']at hqr;cases hqr
theorem rout_none{l:List Rt}{d:Int}(h:∀r∈l,(isR r&&takesB r d)=false):∀n,Jq7 l d n=none
 | 0=>rfl
 | n+1=>by
   have:l.find? (pB d n)=none:=by
    rw[List.find?_eq_none];intro r hr hp;simp only[pB,Bool.and_eq_true]at hp;have:=h r hr;rw[hp.1.1,hp.2]at this;cases this
   rw[Jq7,this,Option.none_or];exact rout_none h n
theorem jV{l:List Rt}{d:Int}{n:Nat}{r:Rt}(hf:l.find? (pB d n)=some r)(h:∀r∈l,(isR r&&takesB r d)=true->r.b<=(n:Int)):∀N,n<N->Jq7 l d N=some r
 | 0,hN=>by omega
 | N+1,hN=>by
   by_cases he:n=N
   ·subst he;rw[Jq7,hf];rfl
   ·have:l.find? (pB d N)=none:=by
     rw[List.find?_eq_none];intro r hr hp;simp only[pB,Bool.and_eq_true,beq_iff_eq]at hp;have:=h r hr (by rw[hp.1.1,hp.2];rfl);omega
    rw[Jq7,this,Option.none_or];exact jV hf h N (by omega)
theorem rB(l:List Rt){d:Int}(hd:0<=d/\d<16):rp (Jq7 l d 5)=outN l d/\(Jq7 l d 5).isSome=outB l d:=by
 unfold outN outB;rw[if_pos hd,decide_eq_true hd.1,decide_eq_true hd.2];rcases rA d l with⟨e,h⟩|⟨n,hn,e,⟨r,hf,hp⟩,h⟩
 ·rw[rout_none h 5,(tZ l d).2 e,e];exact⟨rfl,rfl⟩
 ·rw[jV hf h 5 (by omega),e,<- hp];refine⟨rfl,?_⟩;have:((n:Int) == -1)=false:=by simp
  rw[this];rfl
theorem rC(b o cap:Nat)(xs:List Rt)(d:Int)(w:World)(hb:b<w.heap.size)(hn:xs.length<=cap)(hcap:cap<=maxLen)(hr:Hid (TAt w b o xs))(h0:0<=d)(h1:d<16) :
  Calls prog 74 #[.slice (some ⟨b,o,none⟩) xs.length cap,.int .i64 d] w λe w'=>e=.returned (.tuple #[.int .i64 (rp (Jq7 xs d 5)),.bool (Jq7 xs d 5).isSome])/\Below w.heap.size w w':=by
 unfold maxLen at hcap;have IN:Hid (∀w,Calls prog 8 #[.int .i64 d,.int .i64 0,.int .i64 15] w λe w'=>e=.returned (.bool true)/\w'=w):=λw=>by
  have:=aJ d 0 15 w;rw[show(decide (0<=d)&&decide (d<=15))=true by simp;omega]at this;exact this
 have H0:Hid (0<=d/\d<16):=⟨h0,h1⟩;clear h0 h1;go_enter func74,ntmps74;go_wp2_with fail;go_loopw[6] (λi wr=>∃j:Int,i=.int .i64 j/\-1<=j/\j<=4/\Below w.heap.size w wr/\Hid (Jq7 xs d 5=Jq7 xs d (j+1).toNat)) (λi _=>(intOf i+1).toNat)
 case atStart=>exact⟨4,rfl,by omega,by omega,Below.refl _ _,rfl⟩
 case round =>
  obtain⟨j,rfl,hj1,hj2,D1,hl⟩:=hrel;by_cases hj:j=-1
  ·subst hj;have e:Hid (Jq7 xs d 5=none):=hl.out;go_wp2_with fail;go_ret2;exact⟨by rw[e.out];rfl,D1⟩
  ·obtain⟨m,rfl⟩:∃m:Nat,j=m:=⟨j.toNat,by omega⟩;have hm4:m<=4:=by omega
   have HL:Hid (Jq7 xs d 5=(xs.find? (pB d m)).or (Jq7 xs d m)):=hl.out;have tm:decide ((0:Int)<=(m:Int))=true:=by simp
   clear hl hj hj1 hj2;go_wp2_with fail;refine(IN.out _).mono ?_;rintro e w1⟨rfl,rfl⟩;go_wp2_with fail;go_loopw[7] (λi wr=>∃k:Nat,i=.int .i64 (k:Int)/\k<=xs.length/\Below w.heap.size w wr/\Hid ((xs.take k).find? (pB d m)=none)) (λi _=>xs.length-(intOf i).toNat)
   case atStart=>exact⟨0,rfl,by omega,D1,rfl⟩
   case round =>
    clear D1;obtain⟨k,rfl,hk,D1,hno⟩:=hrel;by_cases hlt:k<xs.length
    ·obtain⟨r,hxk⟩:∃r,xs[k]?=some r:=⟨_,List.getElem?_eq_getElem hlt⟩;have RA:=hr.out.below D1 hb;obtain⟨c0,c1,c2⟩:=RA.at hxk;have IS:Hid (∀w',Below wr.heap.size wr w'->Calls prog 133 #[rtw r.v r.b r.p] w' λe w''=>e=.returned (.bool (isR r))/\Hid (Below w.heap.size w w'')/\w''.cell? ⟨b,o+k*3,none⟩=some (.int .i64 r.v)/\w''.cell? ⟨b,o+k*3+1,none⟩=some (.int .i64 r.b)/\w''.cell? ⟨b,o+k*3+2,none⟩=some (.int .i64 r.p)):=λw' hw' =>
      (jT r w').mono λe w'' ⟨h1,h2⟩=>by
        have hB:=hw'.trans (h2.mono hw'.size);have hb':b<wr.heap.size:=Nat.lt_of_lt_of_le hb D1.size;obtain⟨y0,y1,y2⟩:=(RA.below hB hb').at hxk;exact⟨h1,chn hB D1,y0,y1,y2⟩
     have TP:Hid ((isR r&&(r.b ==(m:Int)))=true->∀w',Calls prog 134 #[.int .i64 d,.int .i64 (m:Int)] w' λe w''=>e=.returned (.int .i64 (topV d r.b))/\w''=w'):=λh w'=>by
      simp only[Bool.and_eq_true,beq_iff_eq]at h;rw[h.2];exact jS d m w' H0.out.1 H0.out.2 (by omega) (by omega)
     have HP:pB d m r=(isR r&&(r.b ==(m:Int))&&(topV d r.b == r.v)):=by
      unfold pB;cases hx:isR r
      ·rfl
      ·rw[ry hx]
     have NX:Hid ((isR r&&(r.b ==(m:Int))&&(topV d r.b == r.v))=false->Hid ((xs.take (k+1)).find? (pB d m)=none)):=λh=>by
      show _=_;rw[jU hxk,hno.out,HP,h];rfl
     have HT:Hid ((isR r&&(r.b ==(m:Int))&&(topV d r.b == r.v))=true->rp (Jq7 xs d 5)=r.p/\(Jq7 xs d 5).isSome=true):=λh=>by
      rw[HL.out,rz hxk hno.out (by rw[HP,h])];exact⟨rfl,rfl⟩
     have R0:Below wr.heap.size wr wr.drew:=(Below.refl _ _).drew;have lw:=D1.size;have k1:(0:Int)<=(k:Int):=by omega
     have k2:(k:Int)<(xs.length:Int):=by omega
     clear hxk RA HP hno;generalize topV d r.b=tv at *;generalize isR r=x at *;generalize hy:(r.b ==(m:Int))=y at *;generalize r.v=rv0 at *;generalize r.b=rb0 at *;generalize r.p=rp0 at *;cases x
     ·clear TP HT;go_wp2_with fail;refine wp_region_held_drew (S:=(λw'=>w'.cell? ⟨b,o+k*3,none⟩=some (.int .i64 rv0)/\w'.cell? ⟨b,o+k*3+1,none⟩=some (.int .i64 rb0)/\w'.cell? ⟨b,o+k*3+2,none⟩=some (.int .i64 rp0))) (by kernel_rfl) (⟨by assumption,by assumption,by assumption⟩) (λhHeld=>?_);refine tk 0 ?_;try simp only[ly]
      refine tk 1 ?_;try simp only[ly]
      refine tk 2 ?_;try simp only[ly]
      refine tk 3 ?_;try simp only[ly]
      refine rd 4 (λK hK=>?_);go_simp;refine(IS.out _ ‹_›).mono ?_;rintro e wz⟨rfl,D3,z0,z1,z2⟩;try go_wp2_with fail
      clear hHeld;refine hK.out _ _ (⟨by assumption,by assumption,by assumption⟩) (λhHeld=>?_);clear hK K;try simp only[ly]
      refine tk 5 ?_;try simp only[ly]
      refine tk0 6 ?_;try simp only[ly]
      refine tk0 7 ?_;try simp only[ly]
      refine tk0 8 ?_;try simp only[ly]
      refine tk0 9 ?_;try simp only[ly]
      refine tk0 10 ?_;try simp only[ly]
      refine tk0 11 ?_;try simp only[ly]
      refine tk0 12 ?_;try simp only[ly]
      refine tk 13 ?_;try simp only[ly]
      refine tk 14 ?_;try simp only[ly]
      refine tk0 15 ?_;try simp only[ly]
      refine tk0 16 ?_;try simp only[ly]
      refine tk0 17 ?_;try simp only[ly]
      refine tk0 18 ?_;try simp only[ly]
      refine tk0 19 ?_;try simp only[ly]
      refine tk0 20 ?_;try simp only[ly]
      refine tk0 21 ?_;try simp only[ly]
      refine tk0 22 ?_;try simp only[ly]
      refine tk0 23 ?_;try simp only[ly]
      refine tk 24 ?_;try simp only[ly]
      refine wpAnyH_done (by kernel_rfl) ?_ _;go_wp2_with fail;go_roundw
      case rel=>exact⟨k+1,by go_num,by omega,D3.out,NX.out rfl⟩
      case measure=>simp[intOf];omega
     cases y
     ·clear TP HT;go_wp2_with fail;refine wp_region_held_drew (S:=(λw'=>w'.cell? ⟨b,o+k*3,none⟩=some (.int .i64 rv0)/\w'.cell? ⟨b,o+k*3+1,none⟩=some (.int .i64 rb0)/\w'.cell? ⟨b,o+k*3+2,none⟩=some (.int .i64 rp0))) (by kernel_rfl) (⟨by assumption,by assumption,by assumption⟩) (λhHeld=>?_);refine tk 0 ?_;try simp only[ly]
      refine tk 1 ?_;try simp only[ly]
      refine tk 2 ?_;try simp only[ly]
      refine tk 3 ?_;try simp only[ly]
      refine rd 4 (λK hK=>?_);go_simp;refine(IS.out _ ‹_›).mono ?_;rintro e wz⟨rfl,D3,z0,z1,z2⟩;try go_wp2_with fail
      clear hHeld;refine hK.out _ _ (⟨by assumption,by assumption,by assumption⟩) (λhHeld=>?_);clear hK K;try simp only[ly]
      refine tk 5 ?_;try simp only[ly]
      refine tk 6 ?_;try simp only[ly]
      refine tk 7 ?_;try simp only[ly]
      refine tk 8 ?_;try simp only[ly]
      refine tk 9 ?_;try simp only[ly]
      refine tk 10 ?_;try simp only[ly]
      refine tk 11 ?_;try simp only[ly]
      refine tk 12 ?_;try simp only[ly]
      refine tk 13 ?_;try simp only[ly]
      refine tk 14 ?_;try simp only[ly]
      refine tk0 15 ?_;try simp only[ly]
      refine tk0 16 ?_;try simp only[ly]
      refine tk0 17 ?_;try simp only[ly]
      refine tk0 18 ?_;try simp only[ly]
      refine tk0 19 ?_;try simp only[ly]
      refine tk0 20 ?_;try simp only[ly]
      refine tk0 21 ?_;try simp only[ly]
      refine tk0 22 ?_;try simp only[ly]
      refine tk0 23 ?_;try simp only[ly]
      refine tk 24 ?_;try simp only[ly]
      refine wpAnyH_done (by kernel_rfl) ?_ _;go_wp2_with fail;go_roundw
      case rel=>exact⟨k+1,by go_num,by omega,D3.out,NX.out rfl⟩
      case measure=>simp[intOf];omega
     ·go_wp2_with fail;refine wp_region_held_drew (S:=(λw'=>w'.cell? ⟨b,o+k*3,none⟩=some (.int .i64 rv0)/\w'.cell? ⟨b,o+k*3+1,none⟩=some (.int .i64 rb0)/\w'.cell? ⟨b,o+k*3+2,none⟩=some (.int .i64 rp0))) (by kernel_rfl) (⟨by assumption,by assumption,by assumption⟩) (λhHeld=>?_);refine tk 0 ?_;try simp only[ly]
      refine tk 1 ?_;try simp only[ly]
      refine tk 2 ?_;try simp only[ly]
      refine tk 3 ?_;try simp only[ly]
      refine rd 4 (λK hK=>?_);go_simp;refine(IS.out _ ‹_›).mono ?_;rintro e wz⟨rfl,D3,z0,z1,z2⟩;try go_wp2_with fail
      clear hHeld;refine hK.out _ _ (⟨by assumption,by assumption,by assumption⟩) (λhHeld=>?_);clear hK K;try simp only[ly]
      refine tk 5 ?_;try simp only[ly]
      refine tk 6 ?_;try simp only[ly]
      refine tk 7 ?_;try simp only[ly]
      refine tk 8 ?_;try simp only[ly]
      refine tk 9 ?_;try simp only[ly]
      refine tk 10 ?_;try simp only[ly]
      refine tk 11 ?_;try simp only[ly]
      refine tk 12 ?_;try simp only[ly]
      refine tk 13 ?_;try simp only[ly]
      refine tk 14 ?_;try simp only[ly]
      refine tk 15 ?_;try simp only[ly]
      refine tk 16 ?_;try simp only[ly]
      refine tk 18 ?_;try simp only[ly]
      refine tk 19 ?_;try simp only[ly]
      refine tk 20 ?_;try simp only[ly]
      refine tk 21 ?_;try simp only[ly]
      refine tk 22 ?_;try simp only[ly]
      refine rd 17 (λK hK=>?_);go_simp;refine(TP.out rfl _).mono ?_;rintro e wy⟨rfl,rfl⟩;try go_wp2_with fail
      clear hHeld;refine hK.out _ _ (⟨by assumption,by assumption,by assumption⟩) (λhHeld=>?_);clear hK K;try simp only[ly]
      refine tk 23 ?_;try simp only[ly]
      refine tk 24 ?_;try simp only[ly]
      refine wpAnyH_done (by kernel_rfl) ?_ _;cases hq:(tv == rv0)
      ·have HNO:Hid ((true&&true&&(tv == rv0))=false):=by show _=_;rw[hq];rfl
       go_wp2_with fail;go_roundw
       case rel=>exact⟨k+1,by go_num,by omega,D3.out,NX.out HNO.out⟩
       case measure=>simp[intOf];omega
      ·have HYES:Hid (rp (Jq7 xs d 5)=rp0/\(Jq7 xs d 5).isSome=true):=HT.out (by rw[hq];rfl);go_wp2_with fail;go_ret2;exact⟨by rw[HYES.out.1,HYES.out.2];rfl,D3.out⟩
    ·obtain rfl:k=xs.length:=by omega
     have HN:Hid (Jq7 xs d 5=Jq7 xs d m):=by
      show _=_;have:=hno.out;rw[List.take_length]at this;rw[HL.out,this,Option.none_or]
     go_wp2_with fail;go_roundw
     case rel=>exact⟨(m:Int)-1,by go_num,by omega,by omega,D1,by show _=_;rw[HN.out];congr 1;omega⟩
     case measure=>simp[intOf]
theorem rD(A:Option Addr)(cap:Nat)(d:Int)(w:World)(h0:0<=d)(h1:d<16) :
  Calls prog 74 #[.slice A 0 cap,.int .i64 d] w λe w'=>e=.returned (.tuple #[.int .i64 0,.bool false])/\Below w.heap.size w w':=by
 have IN:Hid (∀w,Calls prog 8 #[.int .i64 d,.int .i64 0,.int .i64 15] w λe w'=>e=.returned (.bool true)/\w'=w):=λw=>by
  have:=aJ d 0 15 w;rw[show(decide (0<=d)&&decide (d<=15))=true by simp;omega]at this;exact this
 clear h0 h1;go_enter func74,ntmps74;go_wp2_with fail;go_loopw[6] (λi wr=>∃j:Int,i=.int .i64 j/\-1<=j/\j<=4/\Below w.heap.size w wr) (λi _=>(intOf i+1).toNat)
 case atStart=>exact⟨4,rfl,by omega,by omega,Below.refl _ _⟩
 case round =>
  obtain⟨j,rfl,hj1,hj2,D1⟩:=hrel;by_cases hj:j=-1
  ·subst hj;go_wp2_with fail;go_ret2;exact⟨rfl,D1⟩
  ·obtain⟨m,rfl⟩:∃m:Nat,j=m:=⟨j.toNat,by omega⟩;have tm:decide ((0:Int)<=(m:Int))=true:=by simp
   clear hj hj1;go_wp2_with fail;refine(IN.out _).mono ?_;rintro e w1⟨rfl,rfl⟩;go_wp2_with fail;go_loopw[7] (λi wr=>i=.int .i64 0/\Below w.heap.size w wr) (λi _=>0)
   case atStart=>exact⟨rfl,D1⟩
   case round =>
    clear D1;obtain⟨rfl,D1⟩:=hrel;go_wp2_with fail;go_roundw
    case rel=>exact⟨(m:Int)-1,by go_num,by omega,by omega,D1⟩
    case measure=>simp[intOf]
theorem rE(v:Value)(d:Int)(w:World)(h:d<0\/16<=d) :
  Calls prog 74 #[v,.int .i64 d] w λe w'=>e=.returned (.tuple #[.int .i64 0,.bool false])/\Below w.heap.size w w':=by
 have IN:Hid (∀w,Calls prog 8 #[.int .i64 d,.int .i64 0,.int .i64 15] w λe w'=>e=.returned (.bool false)/\w'=w):=λw=>by
  have:=aJ d 0 15 w;rw[show(decide (0<=d)&&decide (d<=15))=false by
   rcases h with h|h
   ·simp;omega
   ·simp;omega]at this
  exact this
 clear h;go_enter func74,ntmps74;go_wp2_with fail;go_loopw[6] (λi wr=>i=.int .i64 4/\wr=w) (λi _=>0)
 case atStart=>exact⟨rfl,rfl⟩
 case round =>
  obtain⟨rfl,rfl⟩:=hrel;go_wp2_with fail;refine(IN.out _).mono ?_;rintro e w1⟨rfl,rfl⟩;go_wp2_with fail;go_ret2;exact⟨rfl,Below.refl _ _⟩
theorem rout_any{v:Value}{xs:List Rt}(d:Int)(w:World)(h:Routes w.heap.size w v xs) :
  Calls prog 74 #[v,.int .i64 d] w λe w'=>e=.returned (.tuple #[.int .i64 (outN xs d),.bool (outB xs d)])/\Below w.heap.size w w':=by
 by_cases hd:0<=d/\d<16
 ·obtain⟨e1,e2⟩:=rB xs hd;rw[<- e1,<- e2];obtain⟨A,cap,rfl,_,h1,h2,h3⟩:=h;by_cases hx:xs=[]
  ·subst hx;exact rD A cap d w hd.1 hd.2
  ·obtain⟨b,o,rfl,hb,hr⟩:=h3 hx;exact rC b o cap xs d w hb h1 h2 hr hd.1 hd.2
 ·have e1:outN xs d=0:=by unfold outN;rw[if_neg hd]
  have e2:outB xs d=false:=by
   unfold outB;by_cases h0:0<=d
   ·have:¬d<16:=λh1=>hd ⟨h0,h1⟩;simp[this]
   ·simp[h0]
  rw[e1,e2];exact rE v d w (by omega)
theorem rF(b o cap:Nat)(xs:List Rt)(w:World)(hb:b<w.heap.size)(hr:Hid (TAt w b o xs))(h8:xs.length<=8) :
  Calls prog 71 #[.slice (some ⟨b,o,none⟩) xs.length cap] w λe w'=>e=.returned (.int .i64 (o8 xs 0))/\Below w.heap.size w w':=by
 have t8:decide ((8:Int)<(xs.length:Int))=false:=by simp;omega
 go_enter func71,ntmps71;go_wp2_with fail;go_loopw[3] (λi wr=>∃k:Nat,i=.int .i64 (k:Int)/\k<=xs.length/\Below w.heap.size w wr/\Hid (o8 xs 0=o8 xs k)) (λi _=>xs.length-(intOf i).toNat)
 case atStart=>exact⟨0,rfl,by omega,Below.refl _ _,rfl⟩
 case round =>
  obtain⟨k,rfl,hk,D1,hl⟩:=hrel;by_cases hlt:k<xs.length
  ·obtain⟨r,hxk⟩:∃r,xs[k]?=some r:=⟨_,List.getElem?_eq_getElem hlt⟩;obtain⟨c0,c1,c2⟩:=(hr.out.below D1 hb).at hxk;have Hd:Hid (o8 xs k=if(if isR r then(if(xs.take k).any (λa=>sameA a r)then 5 else 0)else 1:Int)=0 then o8 xs (k+1)else(if isR r then(if(xs.take k).any (λa=>sameA a r)then 5 else 0)else 1:Int)):=kV hxk;have IS:Hid (∀w,Calls prog 133 #[rtw r.v r.b r.p] w λe w'=>e=.returned (.bool (isR r))/\Below w.heap.size w w'):=λw=>jT r w;have HX:Hid (xs[k]?=some r):=hxk;have k1:(0:Int)<=(k:Int):=by omega
   have k2:(k:Int)<(xs.length:Int):=by omega
   clear hxk;cases hx:isR r
   ·rw[hx]at IS Hd;have fin:Hid (o8 xs 0=1):=by show _=_;rw[hl.out,Hd.out];simp
    clear hl Hd HX hx;generalize r.v=rv0 at *;generalize r.b=rb0 at *;generalize r.p=rp0 at *;go_wp2_with fail;refine(IS.out _).mono ?_;rintro e w3⟨rfl,hb3⟩;have D3:=chn hb3 D1;clear hb3 D1 c0 c1 c2 IS;go_wp2_with fail;go_ret;exact⟨by rw[fin.out];rfl,D3⟩
   ·rw[hx]at IS Hd;clear hx;go_wp2_with fail;refine(IS.out _).mono ?_;rintro e w3⟨rfl,hb3⟩;have D3:=chn hb3 D1;clear hb3 D1 c0 c1 c2 IS;go_wp2_with fail;go_loopw[4] (λi wr=>∃j:Nat,i=.int .i64 (j:Int)/\j<=k/\Below w.heap.size w wr/\Hid ((xs.take j).any (λa=>sameA a r)=false)) (λi _=>k-(intOf i).toNat)
    case atStart=>exact⟨0,rfl,by omega,D3,rfl⟩
    case round =>
     clear D3;obtain⟨j,rfl,hj,D1,hno⟩:=hrel;by_cases hjk:j<k
     ·obtain⟨a,hxj⟩:∃a,xs[j]?=some a:=⟨_,List.getElem?_eq_getElem (by omega)⟩;obtain⟨c0,c1,c2⟩:=(hr.out.below D1 hb).at HX.out;obtain⟨g0,g1,g2⟩:=(hr.out.below D1 hb).at hxj;have j1:(0:Int)<=(j:Int):=by omega
      have j2:(j:Int)<(xs.length:Int):=by omega
      have NX:Hid (((a.v == r.v)&&(a.b == r.b))=false->Hid ((xs.take (j+1)).any (λa=>sameA a r)=false)):=λh=>by
       show _=_;rw[me hxj,hno.out];exact h
      have HT:Hid (((a.v == r.v)&&(a.b == r.b))=true->o8 xs 0=5):=λh=>by
       have:(xs.take k).any (λa=>sameA a r)=true:=mf (k:=j) (by rw[List.getElem?_take];simp[hjk];rw[<- hxj]) h;rw[hl.out,Hd.out,this];simp
      clear hxj hno;generalize a.v=av0 at *;generalize a.b=ab0 at *;generalize a.p=ap0 at *;generalize r.v=rv0 at *;generalize r.b=rb0 at *;generalize r.p=rp0 at *;cases hv:(av0 == rv0)
      ·have NX':Hid (Hid ((xs.take (j+1)).any (λa=>sameA a r)=false)):=NX.out (by rw[hv];rfl);clear NX HT;go_wp2_with fail
       go_quiet (fail)
       go_wp2_with fail;go_roundw
       case rel=>exact⟨j+1,by go_num,by omega,aO D1 _,NX'.out⟩
       case measure=>simp[intOf];omega
      ·cases hv2:(ab0 == rb0)
       ·have NX':Hid (Hid ((xs.take (j+1)).any (λa=>sameA a r)=false)):=NX.out (by rw[hv,hv2];rfl);clear NX HT;go_wp2_with fail
        go_quiet (fail)
        go_wp2_with fail;go_roundw
        case rel=>exact⟨j+1,by go_num,by omega,aO D1 _,NX'.out⟩
        case measure=>simp[intOf];omega
       ·have fin:Hid (o8 xs 0=5):=HT.out (by rw[hv,hv2];rfl);clear NX HT;go_wp2_with fail
        go_quiet (fail)
        go_wp2_with fail;go_ret;exact⟨by rw[fin.out];rfl,aO D1 _⟩
     ·obtain rfl:j=k:=by omega
      have HN:Hid (o8 xs 0=o8 xs (j+1)):=by
       show _=_;rw[hl.out,Hd.out,hno.out];simp
      go_wp2_with fail;go_roundw
      case rel=>exact⟨j+1,by go_num,by omega,D1,HN⟩
      case measure=>simp[intOf];omega
  ·have fin:Hid (o8 xs 0=0):=by show _=_;rw[hl.out,fF (by omega)]
   go_wp2_with fail;go_ret;exact⟨by rw[fin.out];rfl,D1⟩
theorem rG(A:Option Addr)(cap:Nat)(w:World) :
  Calls prog 71 #[.slice A 0 cap] w λe w'=>e=.returned (.int .i64 0)/\Below w.heap.size w w':=by
 go_enter func71,ntmps71;go_wp2_with fail;go_loopw[3] (λi wr=>i=.int .i64 0/\Below w.heap.size w wr) (λi _=>0)
 case atStart=>exact⟨rfl,Below.refl _ _⟩
 case round =>
  obtain⟨rfl,D1⟩:=hrel;go_wp2_with fail;go_ret;exact⟨rfl,D1⟩
theorem rH(A:Option Addr)(n cap:Nat)(w:World)(h:8<n) :
  Calls prog 71 #[.slice A n cap] w λe w'=>e=.returned (.int .i64 2)/\Below w.heap.size w w':=by
 have t8:decide ((8:Int)<(n:Int))=true:=by simp;omega
 go_enter func71,ntmps71;go_wp2_with fail;go_ret;exact⟨rfl,Below.refl _ _⟩
theorem rI{v:Value}{xs:List Rt}(w:World)(h:Routes w.heap.size w v xs) :
  Calls prog 71 #[v] w λe w'=>e=.returned (.int .i64 (checkV xs))/\Below w.heap.size w w':=by
 obtain⟨A,cap,rfl,_,_,_,h3⟩:=h;unfold checkV;by_cases h8:8<xs.length
 ·rw[if_pos h8];exact rH A xs.length cap w h8
 ·rw[if_neg h8];by_cases hx:xs=[]
  ·subst hx;rw[fF (by simp)];exact rG A cap w
  ·obtain⟨b,o,rfl,hb,hr⟩:=h3 hx;exact rF b o cap xs w hb hr (by omega)
end Go.Proofs.YtppbfikimalojaaGreat
namespace Go.Proofs.YtppbfikimalojaaGreat
open Tryz
open Go.RowKit Go.Maps
abbrev f8:=List (Nat × Array Value × TypeId)
structure Dx(B0:Nat)(W0:World)(nb sb S M kb mb:Nat)(vd vl:Value)(ds:List Dv)(ls:List Lk)(bl:(Int × Int)->Option Nat)(T:Tab)(k:Int)(n0:Nat)(bx:f8)(P:d7)(W:World):Prop where
 x:Sx B0 W0 nb sb S M kb mb vd vl ds ls bl T k P W
 up:n0<=W.heap.size
 lo:mb<n0/\∀t b,bl t=some b->b<n0
 bx:∀y∈bx,n0<=y.1/\Bk W y.1 y.2.1 y.2.2
section
variable {B0:Nat}{W0 W W':World}{nb sb S M kb mb n0:Nat}{vd vl:Value}{ds:List Dv}{ls:List Lk}{bl:(Int × Int)->Option Nat}{T:Tab}{k:Int}{P:d7}{t:Int × Int}{b c:Nat}{bx:f8}
theorem Dx.below(h:Dx B0 W0 nb sb S M kb mb vd vl ds ls bl T k n0 bx P W)(hb:Below W.heap.size W W'):Dx B0 W0 nb sb S M kb mb vd vl ds ls bl T k n0 bx P W' :=
 ⟨h.x.grow hb,Nat.le_trans h.up hb.size,h.lo,λy hy=>⟨(h.bx y hy).1,Bk.keep hb (h.bx y hy).2⟩⟩
theorem Dx.new(h:Dx B0 W0 nb sb S M kb mb vd vl ds ls bl T k n0 bx P W)(cs:Array Value)(ty:TypeId):Dx B0 W0 nb sb S M kb mb vd vl ds ls bl T k n0 ((W.heap.size,cs,ty)::bx) P (W.alloc (.cells cs ty)):=by
 have h':=h.below (Below.alN (Below.refl _ _) (.cells cs ty));refine⟨h'.x,h'.up,h'.lo,λy hy=>?_⟩;rcases List.mem_cons.1 hy with rfl|hy
 ·exact⟨h.up,i7 W cs ty⟩
 ·exact h'.bx y hy
theorem Dx.get(h:Dx B0 W0 nb sb S M kb mb vd vl ds ls bl T k n0 bx P W){y:Nat × Array Value × TypeId}(hy:y∈bx):Bk W y.1 y.2.1 y.2.2:=(h.bx y hy).2
theorem Dx.less(h:Dx B0 W0 nb sb S M kb mb vd vl ds ls bl T k n0 bx P W){bx':f8}(hs:∀y∈bx',y∈bx):Dx B0 W0 nb sb S M kb mb vd vl ds ls bl T k n0 bx' P W:=⟨h.x,h.up,h.lo,λy hy=>h.bx y (hs y hy)⟩
end
structure DV(V:f8->d7->World->Prop)(d:Dv)(i:Int)(ls:List Lk)(T:Tab)(k:Int)(S nb sb kb mb:Nat)(vn vr vt:Value):Prop where
 below:∀{bx:f8} {Q:d7} {W W':World},V bx Q W->Below W.heap.size W W'->V bx Q W'
 new:∀{bx:f8} {Q:d7} {W:World},V bx Q W->∀(c:Array Value) (t:TypeId),V ((W.heap.size,c,t)::bx) Q (W.alloc (.cells c t))
 get:∀{bx:f8} {Q:d7} {W:World},V bx Q W->∀y∈bx,Bk W y.1 y.2.1 y.2.2
 less:∀{bx bx':f8} {Q:d7} {W:World},V bx Q W->(∀y∈bx',y∈bx)->V bx' Q W
 set:∀{bx:f8} {Q:d7} {W:World} {b:Nat} {c:Array Value} {t:TypeId},V ((b,c,t)::bx) Q W->(∀y∈bx,y.1≠b)->∀(j:Nat) (u:Value),V ((b,c.setIfInBounds j u,t)::bx) Q (W.setCell ⟨b,j,none⟩ u)
 was:∀{bx:f8} {Q:d7} {W:World},V bx Q W->∀(q:Int) (c:Nat),0<=q->q<portsV d.kind->c<16384->Calls prog 73 #[.pointer (some ⟨S,0,none⟩),.int .i64 i,.int .i64 q,.int .i64 (c:Int),.int .i64 k] W λe w'=>e=.returned (.bool (wasB T k (i,q) c))/\w'=W
 put:∀{bx:f8} {Q:d7} {W:World},V bx Q W->∀(o:Int) (p:Pk),i8 p=true->Calls prog 36 #[.int .i64 i,.int .i64 o,pkV p,.pointer (some ⟨nb,0,none⟩),.pointer (some ⟨sb,0,none⟩),.pointer (some ⟨kb,0,none⟩),.pointer (some ⟨mb,0,none⟩)] W λe w'=>e=.returned (.tuple #[])/\V bx (i4 Q (peerF ls i o) (codeN p)) w'
 peer:∀{bx:f8} {Q:d7} {W:World},V bx Q W->∀o:Int,Calls prog 35 #[vn,.agg #[.int .i64 i,.int .i64 o]] W λe w'=>e=.returned (.tuple #[E9 (peerF ls i o),.bool (peerF ls i o).isSome])/\V bx Q w'
 out:∀{bx:f8} {Q:d7} {W:World},V bx Q W->∀x:Int,Calls prog 74 #[vt,.int .i64 x] W λe w'=>e=.returned (.tuple #[.int .i64 (outN (routesOf d) x),.bool (outB (routesOf d) x)])/\V bx Q w'
 lets:∀{bx:f8} {Q:d7} {W:World},V bx Q W->∀p:Pk,Calls prog 75 #[vr,pkV p] W λe w'=>e=.returned (.bool (letsD d p))/\V bx Q w'
def un(P R:d7):d7:=λt c=>P t c\/R t c
def partQ(one:Int->Nat->d7)(q c:Nat):d7:=λt c'=>∃(q0 c0:Nat),(q0<q\/(q0=q/\c0<c))/\c0<16384/\one (q0:Int) c0 t c'
section
variable {one:Int->Nat->d7}{Q0 Q R:d7}{q c:Nat}
theorem cL:un Q0 (partQ one 0 0)=Q0:=by
 funext t c'
 refine propext ⟨λh=>h.resolve_right ?_,Or.inl⟩;rintro⟨q0,c0,h,_⟩;omega
theorem cM(hc:c<16384):un (un Q0 (partQ one q c)) (one (q:Int) c)=un Q0 (partQ one q (c+1)):=by
 funext t c'
 refine propext ⟨?_,?_⟩
 ·rintro((h|⟨q0,c0,h1,h2,h3⟩)|h)
  ·exact Or.inl h
  ·exact Or.inr ⟨q0,c0,by omega,h2,h3⟩
  ·exact Or.inr ⟨q,c,by omega,hc,h⟩
 ·rintro(h|⟨q0,c0,h1,h2,h3⟩)
  ·exact Or.inl (Or.inl h)
  ·by_cases e:q0=q/\c0=c
   ·obtain⟨rfl,rfl⟩:=e;exact Or.inr h3
   ·exact Or.inl (Or.inr ⟨q0,c0,by omega,h2,h3⟩)
theorem cN:partQ one q 16384=partQ one (q+1) 0:=by
 funext t c'
 refine propext ⟨λ⟨q0,c0,h1,h2,h3⟩=>⟨q0,c0,by omega,h2,h3⟩,λ⟨q0,c0,h1,h2,h3⟩=>⟨q0,c0,by omega,h2,h3⟩⟩
theorem cO:partQ one q 0=K9 (q:Int) one:=by
 funext t c'
 refine propext ⟨λ⟨q0,c0,h1,h2,h3⟩=>⟨(q0:Int),c0,by omega,by omega,h2,h3⟩,λ⟨q0,c0,h1,h2,h3,h4⟩=>⟨q0.toNat,c0,by omega,h3,?_⟩⟩;rw[show((q0.toNat:Nat):Int)=q0 by omega];exact h4
theorem N7(h:∀t c,¬R t c):un Q R=Q:=by
 funext t c'
 exact propext ⟨λh'=>h'.resolve_right (h t c'),Or.inl⟩
theorem dJ{t?:Option (Int × Int)}(h:∀t c',R t c' ↔ t?=some t/\c'=c):un Q R=i4 Q t? c:=by
 funext t c'
 exact propext (or_congr Iff.rfl (h t c'))
end
section
variable {d:Dv}{i:Int}{ls:List Lk}{T:Tab}{k:Int}{Q:d7}{q:Int}{c:Nat}
theorem jW(h:¬(wasB T k (i,q) c=true/\outB (routesOf d) (pkN c).d=true/\letsD d (pkN c)=true)):un Q (one2 d i ls T k q c)=Q:=N7 λ_ _ ⟨h1,_,h3,h4,_⟩=>h ⟨h1,h3,h4⟩
theorem rJ(h1:wasB T k (i,q) c=true)(h2:outB (routesOf d) (pkN c).d=true)(h3:letsD d (pkN c)=true):un Q (one2 d i ls T k q c)=i4 Q (peerF ls i (outN (routesOf d) (pkN c).d)) (codeN (pkN c)):=by
 rw[U8];exact dJ λt c'=>⟨λ⟨_,a,_,_,b⟩=>⟨b,a⟩,λ⟨a,b⟩=>⟨h1,b,h2,h3,a⟩⟩
theorem rK(h:wasB T k (i,q) c=false):un Q (one3 d i ls T k q c)=Q:=N7 λ_ _ ⟨h1,_⟩=>by rw[h]at h1;cases h1
theorem rL(h:letsD d (pkN c)=false):un Q (one3 d i ls T k 0 c)=Q:=N7 λ_ _ ⟨_,_,h2⟩=>by
 rcases h2 with⟨_,h2,_⟩|⟨h2,_⟩
 ·rw[h]at h2;cases h2
 ·omega
theorem rN(h1:wasB T k (i,0) c=true)(h2:letsD d (pkN c)=true):un Q (one3 d i ls T k 0 c)=i4 Q (peerF ls i 1) (codeN (pkN c)):=by
 rw[U8];refine dJ λt c'=>⟨λ⟨_,a,b⟩=>?_,λ⟨a,b⟩=>⟨h1,b,Or.inl ⟨rfl,h2,a⟩⟩⟩;rcases b with⟨_,_,b⟩|⟨b,_⟩
 ·exact⟨b,a⟩
 ·omega
theorem rO(h:¬((peerF ls i 1).isSome=true/\wasB T k (i,0) (codeN (flipP (pkN c)))=true/\letsD d (flipP (pkN c))=true)):un Q (one3 d i ls T k 1 c)=Q:=N7 λ_ _ ⟨_,_,h2⟩=>by
 rcases h2 with⟨h2,_⟩|⟨_,h2,h3,h4,_⟩
 ·omega
 ·exact h ⟨h2,h3,h4⟩
theorem rP(h1:wasB T k (i,1) c=true)(h2:(peerF ls i 1).isSome=true)(h3:wasB T k (i,0) (codeN (flipP (pkN c)))=true)(h4:letsD d (flipP (pkN c))=true):un Q (one3 d i ls T k 1 c)=i4 Q (peerF ls i 0) (codeN (pkN c)):=by
 rw[U8];refine dJ λt c'=>⟨λ⟨_,a,b⟩=>?_,λ⟨a,b⟩=>⟨h1,b,Or.inr ⟨rfl,h2,h3,h4,a⟩⟩⟩;rcases b with⟨b,_⟩|⟨_,_,_,_,b⟩
 ·omega
 ·exact⟨b,a⟩
end
theorem rQ{d:Dv}{i:Int}{ls:List Lk}{T:Tab}{k:Int}{Q:d7}{q:Int}{c:Nat}(h:wasB T k (i,q) c=false):un Q (one2 d i ls T k q c)=Q:=jW λh'=>by rw[h]at h';cases h'.1
theorem rR(p:Pk)(w:World):Calls prog 76 #[pkV p] w λe w'=>e=.returned (pkV (flipP p))/\Below w.heap.size w w':=by
 have D2:=Below.alN (Below.alN (Below.refl w.heap.size w) (.cells #[.int .i64 p.s,.int .i64 p.d,.int .i64 p.sp,.int .i64 p.dp] 29)) (.cells #[.int .i64 0,.int .i64 0,.int .i64 0,.int .i64 0] 29);have P2:=(i7 w #[.int .i64 p.s,.int .i64 p.d,.int .i64 p.sp,.int .i64 p.dp] 29).alloc (.cells #[.int .i64 0,.int .i64 0,.int .i64 0,.int .i64 0] 29);have R2:=E0 (w.alloc (.cells #[.int .i64 p.s,.int .i64 p.d,.int .i64 p.sp,.int .i64 p.dp] 29)) #[.int .i64 0,.int .i64 0,.int .i64 0,.int .i64 0] 29 (w.heap.size+1) (by simp);obtain⟨p0,p1,p2,p3,_⟩:=P2.four;obtain⟨r0,r1,r2,r3,f0,f1,f2,f3⟩:=R2.four;obtain⟨s,d,sp,dp⟩:=p;dsimp only at *;go_enter func76,ntmps76;go_wp2_with fail;refine bodyPost_ret (v:=.agg #[.int .i64 d,.int .i64 s,.int .i64 dp,.int .i64 sp]) (by simp[results,results76,go_sem]) rfl ⟨rfl,?_⟩
 go_grown
section
variable {B0:Nat}{W0 W W':World}{nb sb S M kb mb n:Nat}{vd vl:Value}{ds:List Dv}{ls:List Lk}{bl:(Int × Int)->Option Nat}{D:(Int × Int)->Prop}{T:Tab}{k:Int}{P:d7}{t:Int × Int}{b c:Nat}{g g':Nat->Int}
theorem RowI.congr(h:RowI W b g)(e:∀c,c<16384->g c=g' c):RowI W b g':=by
 obtain⟨cs,h1,h2,h3⟩:=h;exact⟨cs,h1,h2,λc hc=>by rw[<- e c hc];exact h3 c hc⟩
theorem Sy.far(h:Sy B0 W0 nb sb S M vd vl ds ls bl n D T W){j:Nat}(hb:B0<=b)(hn:nb≠b/\sb≠b/\S≠b/\M≠b)(hr:∀t,bl t≠some b)(u:Value):Sy B0 W0 nb sb S M vd vl ds ls bl n D T (W.setCell ⟨b,j,none⟩ u):=by
 have h1:∀i,i≠b->(W.setCell ⟨b,j,none⟩ u).heap[i]?=W.heap[i]?:=λi e=>Below.heap_setCell W ⟨b,j,none⟩ _ i e;have hbel:Below B0 W (W.setCell ⟨b,j,none⟩ u):=(Below.refl B0 W).setCell (p:=⟨b,j,none⟩) hb _;exact⟨h.bel.trans hbel,h.d.below hbel,h.l.below hbel,(h1 _ hn.1).trans h.n,(h1 _ hn.2.1).trans h.s,(h1 _ hn.2.2.1).trans h.S,h.map.same (h1 _ hn.2.2.2),λt b' e=>⟨(h.row t b' e).1.same (h1 _ (λe'=>hr t (by rw[e,e']))),(h.row t b' e).2⟩,h.inj,h.dom,h.lo⟩
def aX(ds:List Dv)(i q:Nat):(Int × Int)->Prop:=λt=>isPl ds t.1 t.2=true/\(t.1<(i:Int)\/(t.1=(i:Int)/\t.2<(q:Int)))
def fp(ds:List Dv)(bl:(Int × Int)->Option Nat):Prop:=∀t b,bl t=some b->isPl ds t.1 t.2=true
theorem gG{i q:Nat}{d:Dv}(hd:ds[i]?=some d)(hq:(q:Int)<portsV d.kind):isPl ds (i:Int) (q:Int)=true:=by
 have hi:=(List.getElem?_eq_some_iff.1 hd).1;unfold isPl;have:k9 ds (i:Int)=d.kind:=by simp[k9,hd]
 rw[this];simp only[Bool.and_eq_true,decide_eq_true_eq];omega
theorem jX{i:Nat}{d:Dv}{q:Int}(hd:ds[i]?=some d)(h:isPl ds (i:Int) q=true):0<=q/\q<portsV d.kind:=by
 unfold isPl at h;have:k9 ds (i:Int)=d.kind:=by simp[k9,hd]
 rw[this]at h;simp only[Bool.and_eq_true,decide_eq_true_eq]at h;omega
theorem rS(hl:ds.length<=10)(h:isPl ds t.1 t.2=true):N9 t:=by
 have hp:portsV (k9 ds t.1)<=4:=by
  unfold portsV
  split <;>(try split) <;>(try split) <;>(try split) <;> omega
 unfold isPl at h;simp only[Bool.and_eq_true,decide_eq_true_eq]at h;exact⟨fC (by omega) (by omega),fC (by omega) (by omega)⟩
def X0(ds:List Dv)(ls:List Lk)(i c:Nat):d7:=λt c'=>∃(i':Nat) (d:Dv),ds[i']?=some d/\d.kind=1/\peerF ls i' 0=some t/\∃x:Nat,x<1024/\(i'<i\/(i'=i/\x<c))/\(c':Int)=d.addr*1024+(x:Int)
open Classical in
noncomputable def o5 (ds:List Dv)(ls:List Lk)(i c:Nat):Tab:=λt c'=>if X0 ds ls i c t c' then 0 else -1
theorem rT:o5 ds ls 0 0=λ_ _=>-1:=by
 funext t c'
 unfold o5;rw[if_neg];rintro⟨i',d,_,_,_,x,_,h,_⟩;omega
theorem rU{i:Nat}(h:∀d,ds[i]?=some d->¬(d.kind=1/\(peerF ls (i:Int) 0).isSome=true)):o5 ds ls i 0=o5 ds ls (i+1) 0:=by
 funext t c'
 have e:X0 ds ls i 0 t c' ↔ X0 ds ls (i+1) 0 t c':=by
  constructor
  ·rintro⟨i',d,a1,a2,a3,x,a4,a5,a6⟩;exact⟨i',d,a1,a2,a3,x,a4,by omega,a6⟩
  ·rintro⟨i',d,a1,a2,a3,x,a4,a5,a6⟩;refine⟨i',d,a1,a2,a3,x,a4,Or.inl ?_,a6⟩;by_cases e:i'=i
   ·subst e;exact absurd ⟨a2,by rw[a3];rfl⟩ (h d a1)
   ·omega
 unfold o5;by_cases hp:X0 ds ls i 0 t c'
 ·rw[if_pos hp,if_pos (e.1 hp)]
 ·rw[if_neg hp,if_neg (λh=>hp (e.2 h))]
theorem rV{i:Nat}:o5 ds ls i 1024=o5 ds ls (i+1) 0:=by
 funext t c'
 have e:X0 ds ls i 1024 t c' ↔ X0 ds ls (i+1) 0 t c':=by
  constructor
  ·rintro⟨i',d,a1,a2,a3,x,a4,a5,a6⟩;exact⟨i',d,a1,a2,a3,x,a4,by omega,a6⟩
  ·rintro⟨i',d,a1,a2,a3,x,a4,a5,a6⟩;exact⟨i',d,a1,a2,a3,x,a4,by omega,a6⟩
 unfold o5;by_cases hp:X0 ds ls i 1024 t c'
 ·rw[if_pos hp,if_pos (e.1 hp)]
 ·rw[if_neg hp,if_neg (λh=>hp (e.2 h))]
theorem jY{i c cc:Nat}{d:Dv}{tq:Int × Int}(hd:ds[i]?=some d)(hk:d.kind=1)(hp:peerF ls (i:Int) 0=some tq)(hc:c<1024)(hcc:(cc:Int)=d.addr*1024+(c:Int))(t':Int × Int)(c':Nat):o5 ds ls i (c+1) t' c'=if t'=tq/\c'=cc then 0 else o5 ds ls i c t' c':=by
 unfold o5;by_cases e:t'=tq/\c'=cc
 ·rw[if_pos e];obtain⟨rfl,rfl⟩:=e;rw[if_pos ⟨i,d,hd,hk,hp,c,hc,Or.inr ⟨rfl,by omega⟩,hcc⟩]
 ·rw[if_neg e];have e2:X0 ds ls i (c+1) t' c' ↔ X0 ds ls i c t' c':=by
   constructor
   ·rintro⟨i',d',a1,a2,a3,x,a4,a5,a6⟩;refine⟨i',d',a1,a2,a3,x,a4,?_,a6⟩;by_cases h2:i'=i/\x=c
    ·obtain⟨rfl,rfl⟩:=h2;rw[hd]at a1;cases a1;rw[hp]at a3;cases a3;exact absurd ⟨rfl,by omega⟩ e
    ·omega
   ·rintro⟨i',d',a1,a2,a3,x,a4,a5,a6⟩;exact⟨i',d',a1,a2,a3,x,a4,by omega,a6⟩
  by_cases hq:X0 ds ls i c t' c'
  ·rw[if_pos hq,if_pos (e2.2 hq)]
  ·rw[if_neg hq,if_neg (λh=>hq (e2.1 h))]
def Jq9(ds:List Dv)(ls:List Lk)(T:Tab)(k:Int)(i:Nat):d7:=λt c=>∃(i':Nat) (d:Dv),i'<i/\ds[i']?=some d/\S6 d (i':Int) ls T k t c
theorem rW:Jq9 ds ls T k 0=noP:=by
 funext t c
 refine propext ⟨?_,λh=>h.elim⟩;rintro⟨i',d,h,_⟩;omega
theorem rX{i:Nat}{d:Dv}(hd:ds[i]?=some d):un (Jq9 ds ls T k i) (S6 d (i:Int) ls T k)=Jq9 ds ls T k (i+1):=by
 funext t c
 refine propext ⟨?_,?_⟩
 ·rintro(⟨i',d',h1,h2,h3⟩|h)
  ·exact⟨i',d',by omega,h2,h3⟩
  ·exact⟨i,d,by omega,hd,h⟩
 ·rintro⟨i',d',h1,h2,h3⟩;by_cases e:i'=i
  ·subst e;rw[hd]at h2;cases h2;exact Or.inr h3
  ·exact Or.inl ⟨i',d',by omega,h2,h3⟩
end
section
variable {ds:List Dv}{ls:List Lk}{k:Nat}{t:Int × Int}{p:Pk}{d:Dv}{i o:Int}{I J:bm}{T:Tab}
theorem rY(h:∀(q:Int) (p:Pk),0<=q->q<portsV d.kind->(I (i,q) p ↔ J (i,q) p)):o4 d i I o p ↔ o4 d i J o p:=by
 unfold o4;by_cases k2:d.kind=2
 ·rw[if_pos k2,if_pos k2];have hp:portsV d.kind=4:=by rw[k2];rfl
  constructor
  ·rintro⟨q,h0,h1,h2,h3⟩;exact⟨q,h0,h1,(h q p h0 (by omega)).1 h2,h3⟩
  ·rintro⟨q,h0,h1,h2,h3⟩;exact⟨q,h0,h1,(h q p h0 (by omega)).2 h2,h3⟩
 rw[if_neg k2,if_neg k2];by_cases k3:d.kind=3
 ·rw[if_pos k3,if_pos k3];have hp:portsV d.kind=2:=by rw[k3];rfl
  simp only[h 0 _ (by omega) (by omega),h 1 _ (by omega) (by omega)]
 rw[if_neg k3,if_neg k3];by_cases k4:d.kind=4
 ·rw[if_pos k4,if_pos k4];have hp:portsV d.kind=2:=by rw[k4];rfl
  simp only[h 0 _ (by omega) (by omega),h 1 _ (by omega) (by omega)]
 rw[if_neg k4,if_neg k4];by_cases k5:d.kind=5
 ·rw[if_pos k5,if_pos k5];have hp:portsV d.kind=2:=by rw[k5];rfl
  simp only[h 0 _ (by omega) (by omega),h 1 _ (by omega) (by omega)]
 rw[if_neg k5,if_neg k5]
def cP(ds:List Dv)(ls:List Lk)(k:Nat):bm:=λt p=>i8 p=true/\l8 ds ls k t p
theorem setQ_succ(hz:netV ds ls=0)(hp:i8 p=true):l8 ds ls (k+1) t p ↔ l8 ds ls k t p\/∃(i:Nat) (d:Dv) (o:Int),ds[i]?=some d/\peerF ls i o=some t/\o4 d i (cP ds ls k) o p:=by
 have h10:=(l7 hz).1;constructor
 ·intro h;have h':atF ds ls (k+1) t.1 t.2 (pkE p)=true:=h;unfold atF at h'
  split at h'
  ·rename_i hc
   rw[aQ]at h';rcases h' with h'|⟨i,q,d,h1,h2,h3,h4,h5,h6⟩
   ·left
    show atF ds ls k t.1 t.2 (pkE p)=true;unfold atF;rw[if_pos hc];exact h'
   ·right
    refine⟨i,d,(q:Int),h3,?_,?_⟩
    ·rw[h5];obtain⟨t1,t2⟩:=t;dsimp only at hc ⊢;rw[show((t1.toNat:Nat):Int)=t1 by omega,show((t2.toNat:Nat):Int)=t2 by omega]
    ·have hi:i<10:=by
      have:=(List.getElem?_eq_some_iff.1 h3).1;omega
     exact gu (i:=(i:Int)) (I:=cP ds ls k) (F:=g9 ds ls k i) (λq p hq hpo h=>⟨hpo,by
      show atF ds ls k (i:Int) (q:Int) (pkE p)=true;rw[aS hi hq];exact h⟩) (aD hz d (List.mem_of_getElem? h3)) (by omega) hp h6
  ·cases h'
 ·rintro(h|⟨i,d,o,hd,hpe,hs⟩)
  ·exact kr (Nat.le_succ k) _ _ _ h
  ·rw[gw hz hp];refine Or.inr ⟨i,d,o,hd,hpe,?_⟩;have hi:=(List.getElem?_eq_some_iff.1 hd).1;obtain⟨l,hl,he⟩:=aN hpe;have hpl:isPl ds (i:Int) o=true:=by
    have hp:=(l7 hz).2.2.2 l hl;rcases ac he with⟨e,_⟩|⟨e,_⟩
    ·have:=hp.1;rw[e.1,e.2]at this;exact this
    ·have:=hp.2;rw[e.1,e.2]at this;exact this
   have hpo:=jX hd hpl;have hf:=iD (i:=(i:Int)) (I:=cP ds ls k) (F:=g9 ds ls k i) (λq p hq h=>by
    have h':atF ds ls k (i:Int) (q:Int) (pkE p)=true:=h.2;rw[aS (by omega) hq]at h';exact h') (aD hz d (List.mem_of_getElem? hd)) hp hs
   exact gu (i:=(i:Int)) (I:=l8 ds ls k) (F:=g9 ds ls k i) (λq p hq _ h=>by
    show atF ds ls k (i:Int) (q:Int) (pkE p)=true;rw[aS (by omega) hq];exact h) (aD hz d (List.mem_of_getElem? hd)) hpo hp hf
noncomputable def cQ (T:Tab):Nat:=(List.range 655360).countP (λn=>decide (T (((n / 65536:Nat):Int),((n / 16384 % 4:Nat):Int)) (n % 16384)<0))
theorem rZ:cQ T<=655360:=by
 unfold cQ;exact Nat.le_trans List.countP_le_length (by simp)
structure KInv(ds:List Dv)(ls:List Lk)(T:Tab)(k:Nat):Prop where
 val:∀t c,isPl ds t.1 t.2=true->c<16384->(T t c=-1\/(0<=T t c/\T t c<=(k:Int)))
 set:∀t c (j:Nat),isPl ds t.1 t.2=true->c<16384->j<=k->((0<=T t c/\T t c<=(j:Int)) ↔ l8 ds ls j t (pkN c))
 new:∀j,j<k->∃t c,isPl ds t.1 t.2=true/\c<16384/\l8 ds ls (j+1) t (pkN c)/\¬l8 ds ls j t (pkN c)
 few:k+cQ T<=655360
theorem se(hz:netV ds ls=0):KInv ds ls (o5 ds ls ds.length 0) 0:=by
 have key:∀t c,c<16384->(X0 ds ls ds.length 0 t c ↔ l8 ds ls 0 t (pkN c)):=λt c hc=>by
  rw[gv hz (pkN_ok hc)];constructor
  ·rintro⟨i,d,h1,h2,h3,x,h4,_,h5⟩;refine⟨i,d,h1,h2,h3,?_⟩;show((c / 1024:Nat):Int)=d.addr;omega
  ·rintro⟨i,d,h1,h2,h3,h4⟩;have h4':((c / 1024:Nat):Int)=d.addr:=h4;exact⟨i,d,h1,h2,h3,c % 1024,by omega,Or.inl (List.getElem?_eq_some_iff.1 h1).1,by omega⟩
 refine⟨λt c _ _=>?_,λt c j _ hc hj=>?_,λj hj=>by omega,by have:=rZ (T:=o5 ds ls ds.length 0);omega⟩
 ·unfold o5
  split
  ·exact Or.inr ⟨by omega,by omega⟩
  ·exact Or.inl rfl
 ·obtain rfl:j=0:=by omega
  rw[<- key t c hc];unfold o5
  split
  ·rename_i h
   exact⟨λ_=>h,λ_=>⟨by omega,by omega⟩⟩
  ·rename_i h
   exact⟨λh'=>by omega,λh'=>absurd h' h⟩
theorem jZ(h:KInv ds ls T k){c:Nat}(hc:c<16384)(t:Int × Int):Jq9 ds ls T (k:Int) ds.length t c ↔ ∃(i:Nat) (d:Dv) (o:Int),ds[i]?=some d/\peerF ls i o=some t/\o4 d i (cP ds ls k) o (pkN c):=by
 have cg:∀(i:Nat) (d:Dv) (o:Int),ds[i]?=some d->(o4 d i (bt T (k:Int)) o (pkN c) ↔ o4 d i (cP ds ls k) o (pkN c)):=λi d o hd=>rY λq p h0 h1=>by
  have hpl:=gG (q:=q.toNat) hd (by omega);rw[show((q.toNat:Nat):Int)=q by omega]at hpl;unfold bt cP wasB;simp only[Bool.and_eq_true,decide_eq_true_eq];refine and_congr_right λhp=>?_;rw[h.set ((i:Int),q) (codeN p) k hpl (J5 hp) (Nat.le_refl _),J8 hp]
 constructor
 ·rintro⟨i,d,_,hd,_,o,h1,h2⟩;exact⟨i,d,o,hd,h1,(cg i d o hd).1 h2⟩
 ·rintro⟨i,d,o,hd,h1,h2⟩;exact⟨i,d,(List.getElem?_eq_some_iff.1 hd).1,hd,hc,o,h1,(cg i d o hd).2 h2⟩
theorem gH(h:KInv ds ls T k){c:Nat}(hpl:isPl ds t.1 t.2=true)(hc:c<16384):0<=T t c ↔ l8 ds ls k t (pkN c):=by
 rw[<- h.set t c k hpl hc (Nat.le_refl _)];rcases h.val t c hpl hc with e|e
 ·rw[e];omega
 ·exact⟨λ_=>e,λh=>h.1⟩
theorem ka(h10:ds.length<=10)(hpl:isPl ds t.1 t.2=true):0<=t.1/\t.1<10/\0<=t.2/\t.2<4:=by
 have hp:portsV (k9 ds t.1)<=4:=by
  unfold portsV
  split <;>(try split) <;>(try split) <;>(try split) <;> omega
 unfold isPl at hpl;simp only[Bool.and_eq_true,decide_eq_true_eq]at hpl;omega
theorem sg(hz:netV ds ls=0)(h:KInv ds ls T k){bl:(Int × Int)->Option Nat}(ho:fp ds bl)(hm:G0 bl T (Jq9 ds ls T (k:Int) ds.length)=true):KInv ds ls (tabP T (k:Int) (Jq9 ds ls T (k:Int) ds.length)) (k+1):=by
 have h10:=(l7 hz).1;have sx:∀t c,isPl ds t.1 t.2=true->c<16384->(l8 ds ls (k+1) t (pkN c) ↔ 0<=T t c\/Jq9 ds ls T (k:Int) ds.length t c):=λt c hpl hc=>by
  rw[setQ_succ hz (pkN_ok hc),jZ h hc,gH h hpl hc]
 obtain⟨t0,c0,m1,m2,m3,m4⟩:=@of_decide_eq_true _ (Classical.propDecidable _) hm;obtain⟨b0,hb0⟩:=Option.isSome_iff_exists.1 m1;have hp0:=ho t0 b0 hb0;refine⟨λt c hpl hc=>?_,λt c j hpl hc hj=>?_,λj hj=>?_,?_⟩
 ·unfold tabP
  split
  ·exact Or.inr ⟨by omega,by omega⟩
  ·rcases h.val t c hpl hc with e|e
   ·exact Or.inl e
   ·exact Or.inr ⟨e.1,by omega⟩
 ·by_cases hjk:j<=k
  ·rw[<- h.set t c j hpl hc hjk];unfold tabP
   split
   ·rename_i hh
    omega
   ·exact Iff.rfl
  ·obtain rfl:j=k+1:=by omega
   rw[sx t c hpl hc];unfold tabP
   split
   ·rename_i hh
    exact⟨λ_=>Or.inr hh.2,λ_=>⟨by omega,by omega⟩⟩
   ·rename_i hh
    constructor
    ·exact λh'=>Or.inl h'.1
    ·intro h';rcases h.val t c hpl hc with e|e
     ·rcases h' with h'|h'
      ·omega
      ·exact absurd ⟨by omega,h'⟩ hh
     ·exact⟨e.1,by omega⟩
 ·by_cases hjk:j<k
  ·exact h.new j hjk
  ·obtain rfl:j=k:=by omega
   refine⟨t0,c0,hp0,m2,(sx t0 c0 hp0 m2).2 (Or.inr m4),λh'=>?_⟩;have:=(gH h hp0 m2).2 h';omega
 ·obtain⟨a1,a2,a3,a4⟩:=ka h10 hp0;have e1:((t0.1.toNat:Nat):Int)=t0.1:=by omega
  have e2:((t0.2.toNat:Nat):Int)=t0.2:=by omega
  have hlt:cQ (tabP T (k:Int) (Jq9 ds ls T (k:Int) ds.length))<cQ T:=by
   unfold cQ;refine iy (λn _ hn=>?_) (t0.1.toNat * 65536+t0.2.toNat * 16384+c0) (List.mem_range.2 (by omega)) ?_ ?_
   ·simp only[decide_eq_true_eq]at hn ⊢;unfold tabP at hn
    split at hn
    ·omega
    ·exact hn
   ·rw[show(t0.1.toNat * 65536+t0.2.toNat * 16384+c0) / 65536=t0.1.toNat by omega,show(t0.1.toNat * 65536+t0.2.toNat * 16384+c0) / 16384 % 4=t0.2.toNat by omega,show(t0.1.toNat * 65536+t0.2.toNat * 16384+c0) % 16384=c0 by omega,e1,e2];exact decide_eq_true m3
   ·rw[show(t0.1.toNat * 65536+t0.2.toNat * 16384+c0) / 65536=t0.1.toNat by omega,show(t0.1.toNat * 65536+t0.2.toNat * 16384+c0) / 16384 % 4=t0.2.toNat by omega,show(t0.1.toNat * 65536+t0.2.toNat * 16384+c0) % 16384=c0 by omega,e1,e2];refine decide_eq_false ?_;unfold tabP;rw[if_pos ⟨m3,m4⟩];omega
  have:=h.few;omega
theorem si(hz:netV ds ls=0)(h:KInv ds ls T k){bl:(Int × Int)->Option Nat}(hd:∀t,isPl ds t.1 t.2=true->∃b,bl t=some b)(hm:G0 bl T (Jq9 ds ls T (k:Int) ds.length)=false):∀t c,isPl ds t.1 t.2=true->c<16384->(l8 ds ls (k+1) t (pkN c) ↔ l8 ds ls k t (pkN c)):=by
 intro t c hpl hc;rw[setQ_succ hz (pkN_ok hc)];refine⟨λh'=>h'.elim id λh'=>?_,Or.inl⟩;have hs:=(jZ h hc t).2 h';rw[<- gH h hpl hc];obtain⟨b,hb⟩:=hd t hpl;have hn:=@of_decide_eq_false _ (Classical.propDecidable _) hm;exact Classical.byContradiction λhlt=>hn ⟨t,c,by rw[hb];rfl,hc,by omega,hs⟩
theorem sj(hz:netV ds ls=0)(h:KInv ds ls T k){i:Nat}{q:Int}{c:Nat}(hpl:isPl ds (i:Int) q=true)(hc:c<16384)(hw:wasB T (k:Int) ((i:Int),q) c=true):(peerF ls (i:Int) q).isSome=true:=by
 unfold wasB at hw;simp only[Bool.and_eq_true,decide_eq_true_eq]at hw;have hs:=(h.set ((i:Int),q) c k hpl hc (Nat.le_refl _)).1 hw;have key:∀(j:Nat),l8 ds ls j ((i:Int),q) (pkN c)->∃(i':Nat) (o:Int),peerF ls (i':Int) o=some ((i:Int),q):=by
  intro j
  induction j with
  | zero =>
    rw[gv hz (pkN_ok hc)];rintro⟨i',d,_,_,h3,_⟩;exact⟨i',0,h3⟩
  | succ j ih =>
    rw[gw hz (pkN_ok hc)];rintro(h|⟨i',d,o,_,h3,_⟩)
    ·exact ih h
    ·exact⟨i',o,h3⟩
 obtain⟨i',o,hp⟩:=key k hs;obtain⟨l,hl,he⟩:=aN hp;have hend:(k8 l (i:Int) q).isSome=true:=by
  rcases ac he with⟨_,e⟩|⟨_,e⟩
  ·have e1:=congrArg Prod.fst e;have e2:=congrArg Prod.snd e;dsimp only at e1 e2;unfold k8
   split
   ·rfl
   ·rename_i h1
    rw[if_pos (by simp[e1,e2])];rfl
  ·have e1:=congrArg Prod.fst e;have e2:=congrArg Prod.snd e;dsimp only at e1 e2;unfold k8;rw[if_pos (by simp[e1,e2])];rfl
 have:∀m:List Lk,l∈m->(peerF m (i:Int) q).isSome=true:=by
  intro m
  induction m with
  | nil=>intro h;cases h
  | cons x m ih =>
    intro hm;rw[peerF];rcases List.mem_cons.1 hm with rfl|hm
    ·cases hx:k8 l (i:Int) q with
     | none=>rw[hx]at hend;cases hend
     | some y=>rfl
    ·cases k8 x (i:Int) q with
     | none=>exact ih hm
     | some y=>rfl
 exact this ls hl
end
end Go.Proofs.YtppbfikimalojaaGreat
